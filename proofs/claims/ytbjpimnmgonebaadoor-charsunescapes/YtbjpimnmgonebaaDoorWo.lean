import Derived.Test.YtbjpimnmgonebaaDoorWn
namespace Go.Proofs.YtbjpimnmgonebaaDoor
open Go.RowKit

set_option maxHeartbeats 1000000 in
theorem lawUnescapes (s : ByteArray) (w : World) (hs : s.size ≤ 140737488351232) (hT : Tab w) : Calls Tryd.prog 5 #[.string s] w fun e w' => e = .returned (.bool true) ∧ Below w.heap.size w w' := by
  have hB0 := tab_size hT
  go_enter Tryd.func5, Tryd.ntmps5
  go_wp2_with (first | (go_at_call 13; refine (unescape_any _ _ hs hT).mono ?_; rintro e w1 ⟨rfl, b1⟩) | (go_at_call 14; refine (unescapeR_any _ _ hs).mono ?_; rintro e w2 ⟨rfl, b2⟩) | (go_at_call 15; refine (num_any _ _).mono ?_; rintro e w' ⟨rfl, rfl⟩) | (go_at_call 10; refine (alive_any _ (tab_below hT hB0 (below_on b1 b2))).mono ?_; rintro e w3 ⟨rfl, b3⟩))
  go_ret
  exact ⟨rfl, below_on (below_on b1 b2) b3⟩
end Go.Proofs.YtbjpimnmgonebaaDoor
