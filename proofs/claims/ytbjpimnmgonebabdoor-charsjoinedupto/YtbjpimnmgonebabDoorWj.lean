import Derived.Test.YtbjpimnmgonebabDoorWi
import Derived.Test.YtbjpimnmgonebabDoorWd
namespace Go.Proofs.YtbjpimnmgonebabDoor
open Go.RowKit

theorem alive1 : Ch.unesc ⟨#[97, 38, 108, 116, 59, 38, 35, 120, 52, 50, 59]⟩ = ([97, 60, 66], 0, 0) := by decide +kernel
theorem alive2 : Ch.name ⟨#[97, 98, 32, 99]⟩ = 2 := by decide +kernel
theorem alive3 : Ch.esc ⟨#[60]⟩ false = [38, 108, 116, 59] := by decide +kernel

theorem below_on {w a b : World} (h : Below w.heap.size w a) (k : Below a.heap.size a b) : Below w.heap.size w b := h.trans (k.mono h.size)

theorem aliveU (w : World) (hT : Tab w) : Calls Tryd.prog 12 #[.string ⟨#[97, 38, 108, 116, 59, 38, 35, 120, 52, 50, 59]⟩] w fun e w' => e = .returned (.tuple #[.string ⟨#[97, 60, 66]⟩, .int .i64 0, .int .i64 0]) ∧ Below w.heap.size w w' := by
  have h := unescape_any ⟨#[97, 38, 108, 116, 59, 38, 35, 120, 52, 50, 59]⟩ w (by decide) hT
  rw [alive1] at h
  exact h
theorem aliveN (w : World) : Calls Tryd.prog 7 #[.string ⟨#[97, 98, 32, 99]⟩] w fun e w' => e = .returned (.int .i64 2) ∧ Below w.heap.size w w' := by
  have h := nameC_any ⟨#[97, 98, 32, 99]⟩ w (by decide)
  rw [alive2] at h
  exact h
theorem aliveE (w : World) : Calls Tryd.prog 4 #[.string ⟨#[60]⟩, .bool false] w fun e w' => e = .returned (.string ⟨#[38, 108, 116, 59]⟩) ∧ Below w.heap.size w w' := by
  have h := escape_any ⟨#[60]⟩ false w (by decide)
  rw [alive3] at h
  exact h

set_option maxHeartbeats 1000000 in
theorem alive_any (w : World) (hT : Tab w) : Calls Tryd.prog 5 #[] w fun e w' => e = .returned (.bool true) ∧ Below w.heap.size w w' := by
  go_enter Tryd.func5, Tryd.ntmps5
  go_wp2_with (first | (go_at_call 12; refine (aliveU _ hT).mono ?_; rintro e w1 ⟨rfl, b1⟩) | (go_at_call 13; refine (num_any _ _).mono ?_; rintro e w' ⟨rfl, rfl⟩) | (go_at_call 7; refine (aliveN _).mono ?_; rintro e w2 ⟨rfl, b2⟩) | (go_at_call 4; refine (aliveE _).mono ?_; rintro e w3 ⟨rfl, b3⟩))
  go_ret
  exact ⟨rfl, below_on (below_on b1 b2) b3⟩

end Go.Proofs.YtbjpimnmgonebabDoor
