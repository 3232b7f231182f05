import Derived.Test.YtbjpimnmgonebaaDoorWi
import Derived.Test.YtbjpimnmgonebaaDoorWd
namespace Go.Proofs.YtbjpimnmgonebaaDoor
open Go.RowKit

theorem alive1 : Ch.unesc ⟨#[97, 38, 108, 116, 59, 38, 35, 120, 52, 50, 59]⟩ = ([97, 60, 66], 0, 0) := by decide +kernel
theorem alive2 : Ch.name ⟨#[97, 98, 32, 99]⟩ = 2 := by decide +kernel
theorem alive3 : Ch.esc ⟨#[60]⟩ false = [38, 108, 116, 59] := by decide +kernel

theorem below_on {w a b : World} (h : Below w.heap.size w a) (k : Below a.heap.size a b) : Below w.heap.size w b := h.trans (k.mono h.size)

theorem aliveU (w : World) (hT : Tab w) : Calls Tryd.prog 13 #[.string ⟨#[97, 38, 108, 116, 59, 38, 35, 120, 52, 50, 59]⟩] w fun e w' => e = .returned (.tuple #[.string ⟨#[97, 60, 66]⟩, .int .i64 0, .int .i64 0]) ∧ Below w.heap.size w w' := by
  have h := unescape_any ⟨#[97, 38, 108, 116, 59, 38, 35, 120, 52, 50, 59]⟩ w (by decide) hT
  rw [alive1] at h
  exact h
theorem aliveN (w : World) : Calls Tryd.prog 11 #[.string ⟨#[97, 98, 32, 99]⟩] w fun e w' => e = .returned (.int .i64 2) ∧ Below w.heap.size w w' := by
  have h := nameC_any ⟨#[97, 98, 32, 99]⟩ w (by decide)
  rw [alive2] at h
  exact h
theorem aliveE (w : World) : Calls Tryd.prog 16 #[.string ⟨#[60]⟩, .bool false] w fun e w' => e = .returned (.string ⟨#[38, 108, 116, 59]⟩) ∧ Below w.heap.size w w' := by
  have h := escape_any ⟨#[60]⟩ false w (by decide)
  rw [alive3] at h
  exact h

set_option maxHeartbeats 1000000 in
theorem alive_any (w : World) (hT : Tab w) : Calls Tryd.prog 10 #[] w fun e w' => e = .returned (.bool true) ∧ Below w.heap.size w w' := by
  go_enter Tryd.func10, Tryd.ntmps10
  go_wp2_with (first | (go_at_call 13; refine (aliveU _ hT).mono ?_; rintro e w1 ⟨rfl, b1⟩) | (go_at_call 15; refine (num_any _ _).mono ?_; rintro e w' ⟨rfl, rfl⟩) | (go_at_call 11; refine (aliveN _).mono ?_; rintro e w2 ⟨rfl, b2⟩) | (go_at_call 16; refine (aliveE _).mono ?_; rintro e w3 ⟨rfl, b3⟩))
  go_ret
  exact ⟨rfl, below_on (below_on b1 b2) b3⟩

set_option maxHeartbeats 1000000 in
theorem lawBads (s : ByteArray) (w : World) (hs : s.size ≤ 1125899906842624) (hT : Tab w) : Calls Tryd.prog 3 #[.string s] w fun e w' => e = .returned (.bool true) ∧ Below w.heap.size w w' := by
  have hB0 := tab_size hT
  go_enter Tryd.func3, Tryd.ntmps3
  go_wp2_with (first | (go_at_call 8; refine (badC_any _ _ hs).mono ?_; rintro e w1 ⟨rfl, b1⟩) | (go_at_call 9; refine (badR_any _ _ hs).mono ?_; rintro e w' ⟨rfl, rfl⟩) | (go_at_call 10; refine (alive_any _ (tab_below hT hB0 b1)).mono ?_; rintro e w2 ⟨rfl, b2⟩))
  go_ret
  exact ⟨rfl, below_on b1 b2⟩

set_option maxHeartbeats 1000000 in
theorem lawNames (s : ByteArray) (w : World) (hs : s.size ≤ 1125899906842624) (hT : Tab w) : Calls Tryd.prog 4 #[.string s] w fun e w' => e = .returned (.bool true) ∧ Below w.heap.size w w' := by
  have hB0 := tab_size hT
  go_enter Tryd.func4, Tryd.ntmps4
  go_wp2_with (first | (go_at_call 11; refine (nameC_any _ _ hs).mono ?_; rintro e w1 ⟨rfl, b1⟩) | (go_at_call 12; refine (nameR_any _ _ hs).mono ?_; rintro e w' ⟨rfl, rfl⟩) | (go_at_call 10; refine (alive_any _ (tab_below hT hB0 b1)).mono ?_; rintro e w2 ⟨rfl, b2⟩))
  go_ret
  exact ⟨rfl, below_on b1 b2⟩
end Go.Proofs.YtbjpimnmgonebaaDoor
