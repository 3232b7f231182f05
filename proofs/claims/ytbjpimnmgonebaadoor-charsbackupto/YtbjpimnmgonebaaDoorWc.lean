import Derived.Test.YtbjpimnmgonebaaDoorWb
import Derived.Test.YtbjpimnmgonebaaDoorPm
import Derived.Test.YtbjpimnmgonebaaDoorShelf
import Derived.BigCall
namespace Go.Proofs.YtbjpimnmgonebaaDoor
open Go.RowKit

set_option maxHeartbeats 1000000 in
theorem characterAt_any (s : ByteArray) (i : Nat) (r : Int) (w : World) (_hs : s.size ≤ 1125899906842624) (hi : i ≤ s.size) :
    Calls Tryd.prog 20 #[.string s, .int .i64 i, .int .i32 r] w fun e w' => e = .returned (.bool (Ch.chAt s i r)) ∧ w' = w := by
  by_cases hr : r = 65533
  · have hb : (r == 65533) = true := by simp [hr]
    have hp := Ch.hasPrefix_walk s i [239, 191, 189]
    have hq : Ch.has s i [239, 191, 189] = Ch.chAt s i r := by
      simp [Ch.has, Ch.chAt, hr, Bool.and_assoc, Nat.add_assoc]
    rw [hq] at hp
    have HP := hide hp
    clear hp hq hr
    go_enter Tryd.func20, Tryd.ntmps20
    go_wp2_with (go_at_call 31; refine (Tryd.strings_HasPrefix _ _ _).mono ?_; rintro e w' ⟨rfl, rfl⟩)
    go_ret
    refine ⟨ret_bool ?_, rfl⟩
    exact HP.out
  · have hb : (r == 65533) = false := by simp [hr]
    have hc : Ch.chAt s i r = Ch.may r := by simp [Ch.chAt, hr]
    have HC := hide hc
    clear hc hr
    go_enter Tryd.func20, Tryd.ntmps20
    go_wp2_with (go_at_call 32; refine (character_any _ _).mono ?_; rintro e w' ⟨rfl, rfl⟩)
    go_ret
    exact ⟨ret_bool HC.out.symm, rfl⟩

theorem below_iter (w : World) (s : ByteArray) (pos : Nat) : Below w.heap.size w (w.iter s pos) :=
  (Below.refl _ w).alloc (Nat.le_refl _) _

set_option maxHeartbeats 2000000 in
set_option maxRecDepth 1000000 in
theorem badC_any (s : ByteArray) (w : World) (hs : s.size ≤ 1125899906842624) :
    Calls Tryd.prog 8 #[.string s] w fun e w' => e = .returned (.int .i64 (Ch.bad s)) ∧ Below w.heap.size w w' := by
  go_enter Tryd.func8, Tryd.ntmps8
  go_wp2
  go_loopw [] (fun w' => ∃ (pos fuel : Nat), w' = w.iter s pos ∧ Ch.badFrom s fuel pos = Ch.bad s ∧ s.size < pos + fuel ∧ pos ≤ s.size) (fun w' => s.size - w'.iterPos w.heap.size)
  case atStart => exact ⟨0, s.size + 1, rfl, rfl, by omega, by omega⟩
  case round =>
    obtain ⟨pos, fuel, rfl, hc, hb, hl⟩ := hrel
    obtain ⟨f, rfl⟩ : ∃ f, fuel = f + 1 := ⟨fuel - 1, by omega⟩
    have HC := hide hc
    clear hc
    by_cases hp : pos < s.size
    · have hnx : ∀ ty, (Instr.next (.pointer (some ⟨w.heap.size, 0, none⟩)) true ty).run Tryd.prog (w.iter s pos) = _ := fun ty => run_next_any w s pos ty hp
      have hwd := Ch.decode_width s pos hp
      have hch := Ch.chAt_decode s pos hp
      cases hok : Ch.okAt s pos
      · rw [hok] at hch
        go_wp2_with (go_at_call 20; refine (characterAt_any _ _ _ _ hs hl).mono ?_; rintro e w' ⟨rfl, rfl⟩)
        go_ret
        refine ⟨ret_int ?_, ?_⟩
        · have := HC.out; simp only [Ch.badFrom, hp, hok] at this; simp at this; omega
        · exact below_iter w s _
      · rw [hok] at hch
        go_wp2_with (go_at_call 20; refine (characterAt_any _ _ _ _ hs hl).mono ?_; rintro e w' ⟨rfl, rfl⟩)
        go_roundw
        case rel =>
          refine ⟨pos + (Utf8.decode s pos).2, f, rfl, ?_, by omega, by omega⟩
          have := HC.out; simp only [Ch.badFrom, hp, hok] at this; simpa using this
        case measure =>
          simp
          omega
    · have hnx : ∀ ty, (Instr.next (.pointer (some ⟨w.heap.size, 0, none⟩)) true ty).run Tryd.prog (w.iter s pos) = _ := fun ty => run_next_end w s pos ty hp
      go_wp2
      go_ret
      refine ⟨ret_int ?_, ?_⟩
      · have := HC.out; simp only [Ch.badFrom, hp] at this; simp at this; omega
      · exact below_iter w s _

set_option maxHeartbeats 2000000 in
set_option maxRecDepth 1000000 in
theorem badR_any (s : ByteArray) (w : World) (hs : s.size ≤ 1125899906842624) :
    Calls Tryd.prog 9 #[.string s] w fun e w' => e = .returned (.int .i64 (Ch.bad s)) ∧ w' = w := by
  go_enter Tryd.func9, Tryd.ntmps9
  go_wp2
  go_loop [3, 4, 5] (fun i _ _ => ∃ (pos fuel : Nat), i = .int .i64 pos ∧ Ch.badFrom s fuel pos = Ch.bad s ∧ s.size < pos + fuel ∧ pos ≤ s.size) (fun i _ _ => s.size - (intOf i).toNat)
  case atStart => exact ⟨0, s.size + 1, rfl, rfl, by omega, by omega⟩
  case round =>
    obtain ⟨pos, fuel, rfl, hc, hb, hl⟩ := hrel
    obtain ⟨f, rfl⟩ : ∃ f, fuel = f + 1 := ⟨fuel - 1, by omega⟩
    have HC := hide hc
    clear hc
    by_cases hp : pos < s.size
    · have hwd := Ch.decode_width s pos hp
      have hat := Ch.at2_pos s pos hp
      cases hok : Ch.okAt s pos
      · rw [hok] at hat
        simp only [Bool.false_eq_true, if_false] at hat
        have HA := hide hat
        clear hat
        go_wp2_with (go_at_call 21; refine (At_any _ _ _ hs hl).mono ?_; rintro e w' ⟨rfl, rfl⟩; rw [HA.out])
        go_ret
        refine ⟨ret_int ?_, rfl⟩
        have := HC.out; simp only [Ch.badFrom, hp, hok] at this; simp at this; omega
      · rw [hok] at hat
        simp only [if_true] at hat
        have HA := hide hat
        clear hat
        have hz : (((Utf8.decode s pos).2 : Int) == 0) = false := by simp; omega
        go_wp2_with (go_at_call 21; refine (At_any _ _ _ hs hl).mono ?_; rintro e w' ⟨rfl, rfl⟩; rw [HA.out])
        go_round
        case rel =>
          refine ⟨pos + (Utf8.decode s pos).2, f, by go_num, ?_, by omega, by omega⟩
          have := HC.out; simp only [Ch.badFrom, hp, hok] at this; simpa using this
        case measure =>
          simp [intOf]
          omega
    · go_wp2
      go_ret
      refine ⟨ret_int ?_, rfl⟩
      have := HC.out; simp only [Ch.badFrom, hp] at this; simp at this; omega
end Go.Proofs.YtbjpimnmgonebaaDoor
