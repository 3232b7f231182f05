import Derived.Test.YtbjpimnmgonebabDoorWa
namespace Go.Proofs.YtbjpimnmgonebabDoor
open Go.RowKit

theorem hide {p : Prop} (h : p) : Hid p := h

theorem ret_two {a b c d : Int} (h : a = c) (h2 : b = d) : Ending.returned (.tuple #[.int .i64 a, .int .i64 b]) = .returned (.tuple #[.int .i64 c, .int .i64 d]) := by rw [h, h2]

theorem lead_cases (a : Int) (h : -1 ≤ a ∧ a ≤ 255) : (0 ≤ a ∧ a < 128 ∧ Ch.lead a = (1, a)) ∨ (192 ≤ a ∧ a < 224 ∧ Ch.lead a = (2, a - 192)) ∨ (224 ≤ a ∧ a < 240 ∧ Ch.lead a = (3, a - 224)) ∨ (240 ≤ a ∧ a < 248 ∧ Ch.lead a = (4, a - 240)) ∨ (a < 0 ∧ Ch.lead a = (0, 0)) ∨ (128 ≤ a ∧ a < 192 ∧ Ch.lead a = (0, 0)) ∨ (248 ≤ a ∧ Ch.lead a = (0, 0)) := by
  unfold Ch.lead
  repeat' split
  all_goals simp
  all_goals omega

theorem acc_step (s : ByteArray) (i m : Nat) (r0 : Int) (h : 1 ≤ m) : Ch.acc s i r0 (m + 1 - 1) = 64 * Ch.acc s i r0 (m - 1) + Ch.bz s (i + m) - 128 := by
  obtain ⟨k, rfl⟩ : ∃ k, m = k + 1 := ⟨m - 1, by omega⟩
  simp [Ch.acc]

theorem lead_bd (a : Int) (h : -1 ≤ a ∧ a ≤ 255) : (Ch.lead a).1 ≤ 4 ∧ 0 ≤ (Ch.lead a).2 ∧ (Ch.lead a).2 ≤ 255 := by
  unfold Ch.lead
  repeat' split
  all_goals simp
  all_goals omega

set_option maxHeartbeats 4000000 in
theorem At_any (s : ByteArray) (i : Nat) (w : World) (hs : s.size ≤ 1125899906842624) (hi : i ≤ s.size) :
    Calls Tryd.prog 17 #[.string s, .int .i64 i] w fun e w' => e = .returned (.tuple #[.int .i64 (Ch.at2 s i).1, .int .i64 (Ch.at2 s i).2]) ∧ w' = w := by
  have hm : s.size ≤ maxLen := by unfold maxLen; omega
  have hbd := Ch.bz_bd s i
  have hlb := lead_bd (Ch.bz s i) hbd
  have hlc := lead_cases (Ch.bz s i) hbd
  rcases hlc with ⟨h0, h1, hl⟩ | ⟨h0, h1, hl⟩ | ⟨h0, h1, hl⟩ | ⟨h0, h1, hl⟩ | ⟨h0, hl⟩ | ⟨h0, h1, hl⟩ | ⟨h0, hl⟩
  all_goals
    have HL := hide hl
    clear hl
    go_enter Tryd.func17, Tryd.ntmps17
    go_wp2_with (go_at_call 23; refine (byteAt_int _ _ _ hm (by omega)).mono ?_; rintro e w' ⟨rfl, rfl⟩; rw [Int.toNat_natCast])
    go_loop [8, 9] (fun r k => ∃ m : Nat, 1 ≤ m ∧ (m ≤ (Ch.lead (Ch.bz s i)).1 ∨ m = 1) ∧ k = .int .i64 m ∧ r = .int .i64 (Ch.acc s i (Ch.lead (Ch.bz s i)).2 (m - 1)) ∧ ∀ j, 1 ≤ j → j < m → Ch.cont s (i + j)) (fun _ k => 5 - (intOf k).toNat)
    case atStart =>
      refine ⟨1, Nat.le_refl _, Or.inr rfl, rfl, ?_, fun j a b => by omega⟩
      rw [HL.out]; rfl
    case round =>
      obtain ⟨m, hm1, hm2, rfl, rfl, hc⟩ := hrel
      have HC := hide hc
      clear hc
      by_cases hlt : m < (Ch.lead (Ch.bz s i)).1
      · have hlt' := hlt
        rw [HL.out] at hlt'
        simp only at hlt'
        first
          | (exfalso; omega)
          | (have hb := Ch.acc_bd (s := s) (i := i) (r0 := (Ch.lead (Ch.bz s i)).2) (m - 1) (by omega) (by omega) (by omega) (fun j a b => HC.out j a (by omega))
             have hb2 := Ch.bz_bd s (i + m)
             have hj : ((i : Int) + (m : Int)).toNat = i + m := by omega
             by_cases c : Ch.cont s (i + m)
             · have c' := c
               unfold Ch.cont at c'
               have hst := hide (acc_step s i m (Ch.lead (Ch.bz s i)).2 hm1)
               have HC2 : Hid (∀ j, 1 ≤ j → j < m + 1 → Ch.cont s (i + j)) := fun j a b => by
                 by_cases e : j = m
                 · rw [e]; exact c
                 · exact HC.out j a (by omega)
               have HJ := hide hj
               clear hj c
               generalize Ch.acc s i (Ch.lead (Ch.bz s i)).2 (m - 1) = z at *
               go_wp2_with (go_at_call 23; refine (byteAt_int _ _ _ hm (by omega)).mono ?_; rintro e w' ⟨rfl, rfl⟩; rw [HJ.out])
               go_round
               case rel => exact ⟨m + 1, by omega, Or.inl (by omega), by go_num, by rw [hst.out], HC2.out⟩
               case measure => simp [intOf]; omega
             · have hsh := hide (Ch.at2_short hm1 hlt c)
               have c' : Ch.bz s (i + m) < 128 ∨ 192 ≤ Ch.bz s (i + m) := by unfold Ch.cont at c; omega
               have HJ := hide hj
               clear hj c
               rcases c' with c' | c'
               all_goals
                 go_wp2_with (go_at_call 23; refine (byteAt_int _ _ _ hm (by omega)).mono ?_; rintro e w' ⟨rfl, rfl⟩; rw [HJ.out])
                 go_ret2
                 refine ⟨?_, rfl⟩
                 rw [hsh.out]
                 rfl)
      · have hfull := Ch.at2_full (s := s) (i := i) (fun j a b => HC.out j a (by omega))
        have hmm : (Ch.lead (Ch.bz s i)).1 - 1 = m - 1 := by rcases hm2 with h | h <;> omega
        have hb := Ch.acc_bd (s := s) (i := i) (r0 := (Ch.lead (Ch.bz s i)).2) (m - 1) (by omega) (by omega) (by rcases hm2 with h | h <;> omega) (fun j a b => HC.out j a (by omega))
        rw [hmm] at hfull
        clear hmm
        have hlt' := hlt
        rw [HL.out] at hlt'
        simp only at hlt'
        generalize Ch.acc s i (Ch.lead (Ch.bz s i)).2 (m - 1) = z at *
        rw [HL.out] at hfull
        simp only at hfull
        have HF := hide hfull
        clear hfull
        cases hmay : Ch.may z
        all_goals
          go_wp2_with (go_at_call 24; refine (May_any _ _).mono ?_; rintro e w' ⟨rfl, rfl⟩)
          all_goals go_ret2
          all_goals refine ⟨?_, rfl⟩
          all_goals rw [HF.out]
          all_goals split
          all_goals first
            | rfl
            | (rename_i hcond; exfalso; simp [Ch.few, hmay] at hcond; done)
            | (rename_i hcond; exfalso; simp [Ch.few, hmay] at hcond; omega)
end Go.Proofs.YtbjpimnmgonebabDoor
