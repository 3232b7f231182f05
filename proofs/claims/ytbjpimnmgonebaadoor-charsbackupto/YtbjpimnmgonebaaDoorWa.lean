import Derived.Test.YtbjpimnmgonebaaDoorProg
import Derived.Test.YtbjpimnmgonebaaDoorPl
import Derived.WalkKit
import Derived.WalkSpells
import Derived.Outline
namespace Go.Proofs.YtbjpimnmgonebaaDoor
open Go.RowKit

theorem ret_bool {a b : Bool} (h : a = b) : Ending.returned (.bool a) = .returned (.bool b) := by rw [h]
theorem ret_int {k : IntKind} {a b : Int} (h : a = b) : Ending.returned (.int k a) = .returned (.int k b) := by rw [h]
set_option maxHeartbeats 400000 in
theorem character_any (r : Int) (w : World) :
    Calls Tryd.prog 32 #[.int .i32 r] w fun e w' => e = .returned (.bool (Ch.may r)) ∧ w' = w := by
  go_enter Tryd.func32, Tryd.ntmps32
  go_wp2
  all_goals go_ret
  all_goals refine ⟨ret_bool ?_, rfl⟩
  all_goals try simp only [beq_iff_eq, beq_eq_false_iff_ne, ne_eq] at *
  all_goals rw [Bool.eq_iff_iff, Ch.may_iff]
  all_goals first | omega | (simp; done) | (simp; omega)

set_option maxHeartbeats 400000 in
theorem May_any (r : Int) (w : World) :
    Calls Tryd.prog 18 #[.int .i64 r] w fun e w' => e = .returned (.bool (Ch.may r)) ∧ w' = w := by
  go_enter Tryd.func18, Tryd.ntmps18
  go_wp2
  all_goals go_ret
  all_goals refine ⟨ret_bool ?_, rfl⟩
  all_goals try simp only [beq_iff_eq, beq_eq_false_iff_ne, ne_eq] at *
  all_goals rw [Bool.eq_iff_iff, Ch.may_iff]
  all_goals first | omega | (simp; done) | (simp; omega)

set_option maxHeartbeats 400000 in
theorem byteAt_any (s : ByteArray) (i : Nat) (w : World) (_hs : s.size ≤ maxLen) :
    Calls Tryd.prog 33 #[.string s, .int .i64 i] w fun e w' => e = .returned (.int .i64 (Ch.bz s i)) ∧ w' = w := by
  unfold maxLen at _hs
  by_cases h : i < s.size
  · go_enter Tryd.func33, Tryd.ntmps33
    go_wp2
    go_ret
    refine ⟨ret_int ?_, rfl⟩
    have e : (s.get! i) = s[i] := by
      simp [ByteArray.get!, h]; rfl
    have hl := (s[i]).toNat_lt
    rw [IntWalk.wrap64_in _ (by omega), Ch.bz, if_pos h, e]
  · go_enter Tryd.func33, Tryd.ntmps33
    go_wp2
    go_ret
    refine ⟨ret_int ?_, rfl⟩
    rw [Ch.bz, if_neg h]

set_option maxHeartbeats 400000 in
theorem beginsName_any (r : Int) (w : World) :
    Calls Tryd.prog 22 #[.int .i32 r] w fun e w' => e = .returned (.bool (Ch.begins r)) ∧ w' = w := by
  go_enter Tryd.func22, Tryd.ntmps22
  go_wp2
  all_goals go_ret
  all_goals refine ⟨ret_bool ?_, rfl⟩
  all_goals try simp only [beq_iff_eq, beq_eq_false_iff_ne, ne_eq] at *
  all_goals rw [Bool.eq_iff_iff, Ch.begins_iff]
  all_goals first | omega | (simp; done) | (simp; omega)

set_option maxHeartbeats 400000 in
theorem begins_any (r : Int) (w : World) :
    Calls Tryd.prog 24 #[.int .i64 r] w fun e w' => e = .returned (.bool (Ch.begins r)) ∧ w' = w := by
  go_enter Tryd.func24, Tryd.ntmps24
  go_wp2
  all_goals go_ret
  all_goals refine ⟨ret_bool ?_, rfl⟩
  all_goals try simp only [beq_iff_eq, beq_eq_false_iff_ne, ne_eq] at *
  all_goals rw [Bool.eq_iff_iff, Ch.begins_iff]
  all_goals first | omega | (simp; done) | (simp; omega)

set_option maxHeartbeats 400000 in
theorem goesOnInName_any (r : Int) (w : World) :
    Calls Tryd.prog 23 #[.int .i32 r] w fun e w' => e = .returned (.bool (Ch.goesOn r)) ∧ w' = w := by
  go_enter Tryd.func23, Tryd.ntmps23
  go_wp2
  all_goals go_ret
  all_goals refine ⟨ret_bool ?_, rfl⟩
  all_goals try simp only [beq_iff_eq, beq_eq_false_iff_ne, ne_eq] at *
  all_goals rw [Bool.eq_iff_iff, Ch.goesOn_iff]
  all_goals first | omega | (simp; done) | (simp; omega)

set_option maxHeartbeats 400000 in
theorem digitC_any (r : Int) (w : World) (h0 : -2147483648 ≤ r) (h1 : r ≤ 2147483647) :
    Calls Tryd.prog 42 #[.int .i32 r] w fun e w' => e = .returned (.int .i32 (Ch.dig 16 r)) ∧ w' = w := by
  go_enter Tryd.func42, Tryd.ntmps42
  go_wp2
  all_goals go_ret
  all_goals refine ⟨ret_int ?_, rfl⟩
  all_goals unfold Ch.dig
  all_goals repeat' split
  all_goals omega

set_option maxHeartbeats 400000 in
theorem digitR_any (r : Int) (w : World) (h0 : -2147483648 ≤ r) (h1 : r ≤ 2147483647) :
    Calls Tryd.prog 45 #[.int .i64 r] w fun e w' => e = .returned (.int .i64 (Ch.dig (-1) r)) ∧ w' = w := by
  go_enter Tryd.func45, Tryd.ntmps45
  go_wp2
  all_goals go_ret
  all_goals refine ⟨ret_int ?_, rfl⟩
  all_goals unfold Ch.dig
  all_goals repeat' split
  all_goals omega

theorem num_any (r : Int) (w : World) : Calls Tryd.prog 15 #[.int .i64 r] w fun e w' => e = .returned (.int .i64 r) ∧ w' = w := by
  go_enter Tryd.func15, Tryd.ntmps15
  go_wp2
  go_ret
  exact ⟨rfl, rfl⟩

theorem referenceFor_any (r : Int) (q : Bool) (w : World) : Calls Tryd.prog 29 #[.int .i32 r, .bool q] w fun e w' => e = .returned (.string ⟨(Ch.refFor r q).toArray⟩) ∧ w' = w := by
  go_enter Tryd.func29, Tryd.ntmps29
  go_wp2
  all_goals go_ret
  all_goals refine ⟨?_, rfl⟩
  all_goals simp only [beq_iff_eq, beq_eq_false_iff_ne, ne_eq, Bool.not_eq_true', Bool.not_eq_false'] at *
  all_goals simp [Ch.refFor, *]

theorem byteAt_int (s : ByteArray) (j : Int) (w : World) (hs : s.size ≤ maxLen) (h : 0 ≤ j) :
    Calls Tryd.prog 33 #[.string s, .int .i64 j] w fun e w' => e = .returned (.int .i64 (Ch.bz s j.toNat)) ∧ w' = w := by
  obtain ⟨n, rfl⟩ := Int.eq_ofNat_of_zero_le h
  rw [Int.toNat_natCast]
  exact byteAt_any s n w hs
end Go.Proofs.YtbjpimnmgonebaaDoor
