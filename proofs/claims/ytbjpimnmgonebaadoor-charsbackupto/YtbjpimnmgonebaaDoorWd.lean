import Derived.Test.YtbjpimnmgonebaaDoorWc
namespace Go.Proofs.YtbjpimnmgonebaaDoor
open Go.RowKit

theorem name_stop {s : ByteArray} {f pos : Nat} (hp : pos < s.size) (hi : Ch.inName s pos = false) (h : Ch.nameFrom s (f + 1) pos = Ch.name s) : (pos : Int) = (Ch.name s : Int) := by
  simp only [Ch.nameFrom, hp, hi] at h; simp at h; omega
theorem name_on {s : ByteArray} {f pos : Nat} (hp : pos < s.size) (hi : Ch.inName s pos = true) (h : Ch.nameFrom s (f + 1) pos = Ch.name s) : Ch.nameFrom s f (pos + (Utf8.decode s pos).2) = Ch.name s := by
  simp only [Ch.nameFrom, hp, hi] at h; simpa using h
theorem name_end {s : ByteArray} {f pos : Nat} (hp : ¬ pos < s.size) (h : Ch.nameFrom s (f + 1) pos = Ch.name s) : (s.size : Int) = (Ch.name s : Int) := by
  simp only [Ch.nameFrom, hp] at h; simp at h; omega

set_option maxHeartbeats 4000000 in
set_option maxRecDepth 1000000 in
theorem nameC_any (s : ByteArray) (w : World) (hs : s.size ≤ 1125899906842624) :
    Calls Tryd.prog 11 #[.string s] w fun e w' => e = .returned (.int .i64 (Ch.name s)) ∧ Below w.heap.size w w' := by
  go_enter Tryd.func11, Tryd.ntmps11
  go_wp2
  go_loopw [] (fun w' => ∃ (pos fuel : Nat), w' = w.iter s pos ∧ Ch.nameFrom s fuel pos = Ch.name s ∧ s.size < pos + fuel ∧ pos ≤ s.size) (fun w' => s.size - w'.iterPos w.heap.size)
  case atStart => exact ⟨0, s.size + 1, rfl, rfl, by omega, by omega⟩
  case round =>
    obtain ⟨pos, fuel, rfl, hc, hb, hl⟩ := hrel
    obtain ⟨f, rfl⟩ : ∃ f, fuel = f + 1 := ⟨fuel - 1, by omega⟩
    have HC := hide hc
    clear hc
    by_cases hp : pos < s.size
    · have hnx : ∀ ty, (Instr.next (.pointer (some ⟨w.heap.size, 0, none⟩)) true ty).run Tryd.prog (w.iter s pos) = _ := fun ty => run_next_any w s pos ty hp
      have hwd := Ch.decode_width s pos hp
      have hch := Ch.chAt_decode s pos hp
      cases hok : Ch.okAt s pos <;> cases hbe : Ch.begins (Utf8.decode s pos).1 <;> cases hgo : Ch.goesOn (Utf8.decode s pos).1 <;> by_cases h0 : 0 < pos
      all_goals rw [hok] at hch
      all_goals
        go_wp2_with (first | (go_at_call 22; refine (beginsName_any _ _).mono ?_; rintro e w' ⟨rfl, rfl⟩) | (go_at_call 23; refine (goesOnInName_any _ _).mono ?_; rintro e w' ⟨rfl, rfl⟩) | (go_at_call 20; refine (characterAt_any _ _ _ _ hs hl).mono ?_; rintro e w' ⟨rfl, rfl⟩))
        first
          | (go_ret
             exact ⟨ret_int (name_stop hp (by simp [Ch.inName, hok, hbe, hgo, h0]) HC.out), below_iter w s _⟩)
          | (go_roundw
             case rel => exact ⟨pos + (Utf8.decode s pos).2, f, rfl, name_on hp (by simp [Ch.inName, hok, hbe, hgo, h0]) HC.out, by omega, by omega⟩
             case measure => simp; omega)
    · have hnx : ∀ ty, (Instr.next (.pointer (some ⟨w.heap.size, 0, none⟩)) true ty).run Tryd.prog (w.iter s pos) = _ := fun ty => run_next_end w s pos ty hp
      go_wp2
      go_ret
      exact ⟨ret_int (name_end hp HC.out), below_iter w s _⟩

theorem goes_cases {r : Int} {b : Bool} (h : Ch.goesOn r = b) : (b = true ∧ 48 ≤ r ∧ r ≤ 57) ∨ (b = true ∧ ¬ 48 ≤ r ∧ (r == 45) = true) ∨ (b = true ∧ ¬ 48 ≤ r ∧ (r == 45) = false ∧ (r == 46) = true) ∨ (b = false ∧ ¬ 48 ≤ r ∧ (r == 45) = false ∧ (r == 46) = false) ∨ (b = false ∧ 57 < r ∧ (r == 45) = false ∧ (r == 46) = false) := by
  subst h
  cases e : Ch.goesOn r
  · have : ¬ ((48 ≤ r ∧ r ≤ 57) ∨ r = 45 ∨ r = 46) := fun q => by rw [(Ch.goesOn_iff r).2 q] at e; cases e
    simp only [Bool.false_eq_true, false_and, false_or, true_and, beq_eq_false_iff_ne, ne_eq]; omega
  · have := (Ch.goesOn_iff r).1 e
    simp only [true_and, beq_eq_false_iff_ne, beq_iff_eq, ne_eq]; omega

set_option maxHeartbeats 4000000 in
set_option maxRecDepth 1000000 in
theorem nameR_any (s : ByteArray) (w : World) (hs : s.size ≤ 1125899906842624) :
    Calls Tryd.prog 12 #[.string s] w fun e w' => e = .returned (.int .i64 (Ch.name s)) ∧ w' = w := by
  go_enter Tryd.func12, Tryd.ntmps12
  go_wp2
  go_loop [3, 4, 5, 6] (fun i _ _ _ => ∃ (pos fuel : Nat), i = .int .i64 pos ∧ Ch.nameFrom s fuel pos = Ch.name s ∧ s.size < pos + fuel ∧ pos ≤ s.size) (fun i _ _ _ => s.size - (intOf i).toNat)
  case atStart => exact ⟨0, s.size + 1, rfl, rfl, by omega, by omega⟩
  case round =>
    obtain ⟨pos, fuel, rfl, hc, hb, hl⟩ := hrel
    obtain ⟨f, rfl⟩ : ∃ f, fuel = f + 1 := ⟨fuel - 1, by omega⟩
    have HC := hide hc
    clear hc
    by_cases hp : pos < s.size
    · have hwd := Ch.decode_width s pos hp
      have hat := Ch.at2_pos s pos hp
      cases hok : Ch.okAt s pos
      · rw [hok] at hat
        simp only [Bool.false_eq_true, if_false] at hat
        have HA := hide hat
        clear hat
        by_cases h0 : 0 < pos
        all_goals
          go_wp2_with (first | (go_at_call 21; refine (At_any _ _ _ hs hl).mono ?_; rintro e w' ⟨rfl, rfl⟩; rw [HA.out]) | (go_at_call 24; refine (begins_any _ _).mono ?_; rintro e w' ⟨rfl, rfl⟩))
          go_ret
          exact ⟨ret_int (name_stop hp (by simp [Ch.inName, hok]) HC.out), rfl⟩
      · rw [hok] at hat
        simp only [if_true] at hat
        have HA := hide hat
        clear hat
        cases hbe : Ch.begins (Utf8.decode s pos).1 <;> cases hgo : Ch.goesOn (Utf8.decode s pos).1 <;> by_cases h0 : 0 < pos
        all_goals
          have HG := hide hgo
          clear hgo
          rcases goes_cases HG.out with ⟨e1, e2, e3⟩ | ⟨e1, e2, e3⟩ | ⟨e1, e2, e3, e4⟩ | ⟨e1, e2, e3, e4⟩ | ⟨e1, e2, e3, e4⟩
          all_goals first
            | (cases e1; done)
            | (clear e1
               go_wp2_with (first | (go_at_call 21; refine (At_any _ _ _ hs hl).mono ?_; rintro e w' ⟨rfl, rfl⟩; rw [HA.out]) | (go_at_call 24; refine (begins_any _ _).mono ?_; rintro e w' ⟨rfl, rfl⟩))
               first
                 | (go_ret
                    exact ⟨ret_int (name_stop hp (by simp [Ch.inName, hok, hbe, HG.out, h0]) HC.out), rfl⟩)
                 | (go_round
                    case rel => exact ⟨pos + (Utf8.decode s pos).2, f, by go_num, name_on hp (by simp [Ch.inName, hok, hbe, HG.out, h0]) HC.out, by omega, by omega⟩
                    case measure => simp [intOf]; omega))
    · go_wp2
      go_ret
      exact ⟨ret_int (by have := name_end hp HC.out; omega), rfl⟩
end Go.Proofs.YtbjpimnmgonebaaDoor
