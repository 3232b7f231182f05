import Derived.Test.YtbjpimnmgonebaaWa
import Derived.Lib.SmallJoins
namespace Go.Proofs.Ytbjpimnmgonebaa
open Go.RowKit

theorem bytes_of {T : ByteArray} {l : List UInt8} (h : T.data.toList = l) : T = ⟨l.toArray⟩ := by
  subst h; rfl

theorem get_at (s : ByteArray) (pos : Nat) (h : pos < s.size) : s.get! pos = s[pos] := by
  simp [ByteArray.get!, h]; rfl

theorem esc_step {s : ByteArray} {q : Bool} {pos : Nat} {T X : ByteArray} (h : pos < s.size) (hT : T.data.toList = Ch.escL q (s.data.toList.take pos)) (hX : X.data.toList = Ch.escB q s[pos]) :
    (T ++ X).data.toList = Ch.escL q (s.data.toList.take (pos + 1)) := by
  rw [Joins.data_append, hT, hX, Ch.take_get s pos h, Ch.escL_append, get_at s pos h]
  simp [Ch.escL]

theorem escB_le (q : Bool) (c : UInt8) : (Ch.escB q c).length ≤ 6 := by
  unfold Ch.escB
  split
  · simp
  · exact Ch.refFor_le _ _

theorem esc_round {s : ByteArray} {q : Bool} {pos : Nat} {T X : ByteArray} (h : pos < s.size) (hT : Hid (T.data.toList = Ch.escL q (s.data.toList.take pos))) (hTs : T.size ≤ 6 * pos) (hX : X.data.toList = Ch.escB q s[pos]) :
    (∃ (pos_1 : Nat) (T_1 : ByteArray), Value.string (T ++ X) = Value.string T_1 ∧ Value.int .i64 ((pos : Int) + 1) = Value.int .i64 (pos_1 : Int) ∧ Hid (T_1.data.toList = Ch.escL q (s.data.toList.take pos_1)) ∧ pos_1 ≤ s.size ∧ T_1.size ≤ 6 * pos_1) ∧
    s.size - (intOf (Value.int .i64 ((pos : Int) + 1))).toNat < s.size - (intOf (Value.int .i64 (pos : Int))).toNat := by
  have hxs : X.size ≤ 6 := by
    have := escB_le q s[pos]
    rw [← hX] at this
    simpa using this
  refine ⟨⟨pos + 1, T ++ X, rfl, rfl, esc_step h hT.out hX, by omega, ?_⟩, by simp [intOf]; omega⟩
  rw [ByteArray.size_append]; omega

theorem one_byte {s : ByteArray} {pos : Nat} (h : pos < s.size) : (s.extract pos (pos + 1)).data.toList = [s[pos]] := by
  rw [extract_bytes, show pos + 1 - pos = 1 by omega, Ch.bytes_one h, get_at s pos h]

set_option maxHeartbeats 4000000 in
set_option maxRecDepth 1000000 in
theorem escapeR_any (s : ByteArray) (q : Bool) (w : World) (hs : s.size ≤ 1099511627776) :
    Calls Try.prog 5 #[.string s, .bool q] w fun e w' => e = .returned (.string ⟨(Ch.esc s q).toArray⟩) ∧ w' = w := by
  go_enter Try.func5, Try.ntmps5
  go_wp2
  go_loop [5, 6, 7] (fun t i _ => ∃ (pos : Nat) (T : ByteArray), t = .string T ∧ i = .int .i64 pos ∧ Hid (T.data.toList = Ch.escL q (s.data.toList.take pos)) ∧ pos ≤ s.size ∧ T.size ≤ 6 * pos) (fun _ i _ => s.size - (intOf i).toNat)
  case atStart => exact ⟨0, ⟨#[]⟩, rfl, rfl, rfl, by omega, by decide⟩
  case round =>
    obtain ⟨pos, T, rfl, rfl, HT, hl, hTs⟩ := hrel
    by_cases hp : pos < s.size
    · go_wp2
      all_goals refine esc_round hp HT hTs ?_
      all_goals try rw [one_byte hp]
      all_goals simp only [beq_iff_eq, beq_eq_false_iff_ne, ne_eq] at *
      all_goals simp [Ch.escB, Ch.refFor, *]
    · go_wp2
      go_ret
      refine ⟨?_, rfl⟩
      have := HT.out
      rw [List.take_of_length_le (by simp; omega)] at this
      rw [bytes_of this]; rfl

set_option maxHeartbeats 1000000 in
theorem lawEscapes (s : ByteArray) (q : Bool) (w : World) (hs : s.size ≤ 1099511627776) : Calls Try.prog 3 #[.string s, .bool q] w fun e w' => e = .returned (.bool true) ∧ Below w.heap.size w w' := by
  go_enter Try.func3, Try.ntmps3
  go_wp2_with (first | (go_at_call 4; refine (escape_any _ _ _ hs).mono ?_; rintro e w1 ⟨rfl, b1⟩) | (go_at_call 5; refine (escapeR_any _ _ _ hs).mono ?_; rintro e w' ⟨rfl, rfl⟩))
  go_ret
  exact ⟨rfl, b1⟩
end Go.Proofs.Ytbjpimnmgonebaa
