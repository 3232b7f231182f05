import Derived.Test.YtbjpimnmgonebaaDoorWk
namespace Go.Proofs.YtbjpimnmgonebaaDoor
open Go.RowKit

/-- The two counts of a number: one, or both above all characters. -/
def both (c r : Int) : Prop := (c = r ∧ r ≤ 1114111) ∨ (1114111 < c ∧ 1114111 < r)

theorem both_may {c r : Int} (h : both c r) : Ch.may c = Ch.may r := by
  rcases h with ⟨h, _⟩ | ⟨h1, h2⟩
  · rw [h]
  · rw [Ch.may_false (by omega), Ch.may_false (by omega)]
theorem both_of_may {c r : Int} (h : both c r) (hm : Ch.may r = true) : c = r := by
  rcases h with ⟨h, _⟩ | ⟨h1, h2⟩
  · exact h
  · rw [Ch.may_false (by omega)] at hm; cases hm

/-- What the reference's numbered answers. -/
def numR (s : ByteArray) (p : Nat) (b : Int) : Int × Int := if (Ch.numFrom s b (s.size - p + 1) p 0).2 = 0 then (0, -1) else Ch.numFrom s b (s.size - p + 1) p 0

theorem numR_none {s : ByteArray} {p : Nat} {b : Int} (h : Ch.numFrom s b (s.size - p + 1) p 0 = (0, 0)) : numR s p b = (0, -1) := by simp [numR, h]
theorem numR_some {s : ByteArray} {p : Nat} {b n : Int} {q : Nat} (h : Ch.numFrom s b (s.size - p + 1) p 0 = (n, (q : Int) + 1)) : numR s p b = (n, (q : Int) + 1) := by
  have : ¬ ((q : Int) + 1 = 0) := by omega
  simp [numR, h, this]

theorem dig_two (c : Int) : (Ch.dig (-1) c = -1 ∧ Ch.dig 16 c = 16) ∨ (Ch.dig (-1) c = Ch.dig 16 c ∧ 0 ≤ Ch.dig 16 c ∧ Ch.dig 16 c ≤ 15) := by
  unfold Ch.dig
  repeat' split
  all_goals omega

theorem dig_semi : Ch.dig 16 59 = 16 := by decide

theorem both_step10 {c r d : Int} (h : both c r) (_h0 : 0 ≤ r) (d0 : 0 ≤ d) (d1 : d < 10) : both (if c ≤ 1114111 then c * 10 + d else c) (min (r * 10 + d) 2097152) := by
  unfold both at *
  split <;> omega
theorem both_step16 {c r d : Int} (h : both c r) (_h0 : 0 ≤ r) (d0 : 0 ≤ d) (d1 : d < 16) : both (if c ≤ 1114111 then c * 16 + d else c) (min (r * 16 + d) 2097152) := by
  unfold both at *
  split <;> omega

theorem num_zero {s : ByteArray} {b c : Int} {f p : Nat} {X : Int × Int} (h0 : c = 0) (hd : ¬ Ch.dig 16 (Ch.bz s p) < b) (h : Ch.numFrom s b (f + 1) p c = X) : X = (0, 0) := by
  subst h0
  by_cases e : Ch.bz s p = 59
  · have := Ch.num_semi e h
    rw [if_neg (by decide)] at this
    exact this
  · exact Ch.num_no e (by omega) h

set_option maxHeartbeats 4000000 in
set_option maxRecDepth 1000000 in
theorem numberedR10 (s : ByteArray) (p : Nat) (w : World) (hs : s.size ≤ 1125899906842624) (hp : p ≤ s.size) :
    Calls Tryd.prog 39 #[.string s, .int .i64 p, .int .i64 10] w fun e w' => e = .returned (.tuple #[.int .i64 (numR s p 10).1, .int .i64 (numR s p 10).2]) ∧ w' = w := by
  have hm : s.size ≤ maxLen := by unfold maxLen; omega
  go_enter Tryd.func39, Tryd.ntmps39
  go_wp2
  go_loop [1, 9, 10] (fun i n _ => ∃ (pos fuel : Nat) (c r : Int), i = .int .i64 pos ∧ n = .int .i64 r ∧ Hid (both c r) ∧ 0 ≤ r ∧ r ≤ 2097152 ∧ Hid (Ch.numFrom s 10 fuel pos c = Ch.numFrom s 10 (s.size - p + 1) p 0) ∧ s.size < pos + fuel ∧ p ≤ pos ∧ pos ≤ s.size ∧ Hid (pos = p → c = 0)) (fun i _ _ => s.size - (intOf i).toNat)
  case atStart => exact ⟨p, s.size - p + 1, 0, 0, rfl, rfl, Or.inl ⟨rfl, by omega⟩, by omega, by omega, rfl, by omega, by omega, by omega, fun _ => rfl⟩
  case round =>
    obtain ⟨pos, fuel, c, r, rfl, rfl, HBo, hr0, hr1, HC, hf, hpp, hps, HZ⟩ := hrel
    obtain ⟨f, rfl⟩ : ∃ f, fuel = f + 1 := ⟨fuel - 1, by omega⟩
    have hbz := Ch.bz_bd s pos
    have hdt := dig_two (Ch.bz s pos)
    by_cases hd : Ch.dig 16 (Ch.bz s pos) < 10
    · have hd0 : 0 ≤ Ch.dig (-1) (Ch.bz s pos) ∧ Ch.dig (-1) (Ch.bz s pos) < 10 := by omega
      have hde : Ch.dig 16 (Ch.bz s pos) = Ch.dig (-1) (Ch.bz s pos) := by omega
      have hsemi : ¬ Ch.bz s pos = 59 := fun e => by rw [e, dig_semi] at hd; omega
      have hlt : pos < s.size := by
        have := Ch.dig_ascii (b := 10) (by omega) (by omega : ¬ 10 ≤ Ch.dig 16 (Ch.bz s pos))
        exact (Ch.bz_get this.1).1
      have HN := hide (Ch.num_on hsemi (by omega) HC.out)
      rw [hde] at HN
      have HS := hide (both_step10 HBo.out hr0 hd0.1 hd0.2)
      clear hdt hd hde hsemi
      go_wp2_with (first | (go_at_call 33; refine (byteAt_int _ _ _ hm (by omega)).mono ?_; rintro e w' ⟨rfl, rfl⟩; rw [Int.toNat_natCast]) | (go_at_call 45; refine (digitR_any _ _ (by omega) (by omega)).mono ?_; rintro e w' ⟨rfl, rfl⟩) | (go_at_call 18; refine (May_any _ _).mono ?_; rintro e w' ⟨rfl, rfl⟩))
      exact ⟨⟨pos + 1, f, _, _, by go_num, rfl, HS, by omega, by omega, HN, by omega, by omega, by omega, fun e => by omega⟩, by simp [intOf]; omega⟩
    · have hdd : Ch.dig (-1) (Ch.bz s pos) < 0 ∨ 10 ≤ Ch.dig (-1) (Ch.bz s pos) := by omega
      by_cases hpz : pos = p
      · have HN := hide (numR_none (num_zero (HZ.out hpz) hd HC.out))
        have hq : ((pos : Int) == (p : Int)) = true := by rw [beq_iff_eq]; omega
        clear hpz hd hdt
        rcases hdd with hdd | hdd
        all_goals
          go_wp2_with (first | (go_at_call 33; refine (byteAt_int _ _ _ hm (by omega)).mono ?_; rintro e w' ⟨rfl, rfl⟩; rw [Int.toNat_natCast]) | (go_at_call 45; refine (digitR_any _ _ (by omega) (by omega)).mono ?_; rintro e w' ⟨rfl, rfl⟩) | (go_at_call 18; refine (May_any _ _).mono ?_; rintro e w' ⟨rfl, rfl⟩))
          go_ret2
          refine ⟨?_, rfl⟩
          rw [HN.out]; rfl
      · have hq : ((pos : Int) == (p : Int)) = false := by rw [beq_eq_false_iff_ne]; omega
        by_cases h59 : Ch.bz s pos = 59
        · have HX := Ch.num_semi h59 HC.out
          rw [both_may HBo.out] at HX
          have hq2 : (Ch.bz s pos != 59) = false := by rw [h59]; rfl
          clear h59 hpz hd hdt
          cases hmay : Ch.may r
          · rw [hmay] at HX
            have HN := hide (numR_none HX)
            clear HX
            rcases hdd with hdd | hdd
            all_goals
              go_wp2_with (first | (go_at_call 33; refine (byteAt_int _ _ _ hm (by omega)).mono ?_; rintro e w' ⟨rfl, rfl⟩; rw [Int.toNat_natCast]) | (go_at_call 45; refine (digitR_any _ _ (by omega) (by omega)).mono ?_; rintro e w' ⟨rfl, rfl⟩) | (go_at_call 18; refine (May_any _ _).mono ?_; rintro e w' ⟨rfl, rfl⟩))
              go_ret2
              refine ⟨?_, rfl⟩
              rw [HN.out]; rfl
          · rw [hmay, both_of_may HBo.out hmay] at HX
            have HN := hide (numR_some HX)
            clear HX
            rcases hdd with hdd | hdd
            all_goals
              go_wp2_with (first | (go_at_call 33; refine (byteAt_int _ _ _ hm (by omega)).mono ?_; rintro e w' ⟨rfl, rfl⟩; rw [Int.toNat_natCast]) | (go_at_call 45; refine (digitR_any _ _ (by omega) (by omega)).mono ?_; rintro e w' ⟨rfl, rfl⟩) | (go_at_call 18; refine (May_any _ _).mono ?_; rintro e w' ⟨rfl, rfl⟩))
              go_ret2
              refine ⟨?_, rfl⟩
              rw [HN.out]; rfl
        · have HN := hide (numR_none (Ch.num_no h59 (by omega) HC.out))
          have hq2 : (Ch.bz s pos != 59) = true := by rw [bne_iff_ne]; exact h59
          clear h59 hpz hd hdt
          rcases hdd with hdd | hdd
          all_goals
            go_wp2_with (first | (go_at_call 33; refine (byteAt_int _ _ _ hm (by omega)).mono ?_; rintro e w' ⟨rfl, rfl⟩; rw [Int.toNat_natCast]) | (go_at_call 45; refine (digitR_any _ _ (by omega) (by omega)).mono ?_; rintro e w' ⟨rfl, rfl⟩) | (go_at_call 18; refine (May_any _ _).mono ?_; rintro e w' ⟨rfl, rfl⟩))
            go_ret2
            refine ⟨?_, rfl⟩
            rw [HN.out]; rfl

set_option maxHeartbeats 4000000 in
set_option maxRecDepth 1000000 in
theorem numberedR16 (s : ByteArray) (p : Nat) (w : World) (hs : s.size ≤ 1125899906842624) (hp : p ≤ s.size) :
    Calls Tryd.prog 39 #[.string s, .int .i64 p, .int .i64 16] w fun e w' => e = .returned (.tuple #[.int .i64 (numR s p 16).1, .int .i64 (numR s p 16).2]) ∧ w' = w := by
  have hm : s.size ≤ maxLen := by unfold maxLen; omega
  go_enter Tryd.func39, Tryd.ntmps39
  go_wp2
  go_loop [1, 9, 10] (fun i n _ => ∃ (pos fuel : Nat) (c r : Int), i = .int .i64 pos ∧ n = .int .i64 r ∧ Hid (both c r) ∧ 0 ≤ r ∧ r ≤ 2097152 ∧ Hid (Ch.numFrom s 16 fuel pos c = Ch.numFrom s 16 (s.size - p + 1) p 0) ∧ s.size < pos + fuel ∧ p ≤ pos ∧ pos ≤ s.size ∧ Hid (pos = p → c = 0)) (fun i _ _ => s.size - (intOf i).toNat)
  case atStart => exact ⟨p, s.size - p + 1, 0, 0, rfl, rfl, Or.inl ⟨rfl, by omega⟩, by omega, by omega, rfl, by omega, by omega, by omega, fun _ => rfl⟩
  case round =>
    obtain ⟨pos, fuel, c, r, rfl, rfl, HBo, hr0, hr1, HC, hf, hpp, hps, HZ⟩ := hrel
    obtain ⟨f, rfl⟩ : ∃ f, fuel = f + 1 := ⟨fuel - 1, by omega⟩
    have hbz := Ch.bz_bd s pos
    have hdt := dig_two (Ch.bz s pos)
    by_cases hd : Ch.dig 16 (Ch.bz s pos) < 16
    · have hd0 : 0 ≤ Ch.dig (-1) (Ch.bz s pos) ∧ Ch.dig (-1) (Ch.bz s pos) < 16 := by omega
      have hde : Ch.dig 16 (Ch.bz s pos) = Ch.dig (-1) (Ch.bz s pos) := by omega
      have hsemi : ¬ Ch.bz s pos = 59 := fun e => by rw [e, dig_semi] at hd; omega
      have hlt : pos < s.size := by
        have := Ch.dig_ascii (b := 16) (by omega) (by omega : ¬ 16 ≤ Ch.dig 16 (Ch.bz s pos))
        exact (Ch.bz_get this.1).1
      have HN := hide (Ch.num_on hsemi (by omega) HC.out)
      rw [hde] at HN
      have HS := hide (both_step16 HBo.out hr0 hd0.1 hd0.2)
      clear hdt hd hde hsemi
      go_wp2_with (first | (go_at_call 33; refine (byteAt_int _ _ _ hm (by omega)).mono ?_; rintro e w' ⟨rfl, rfl⟩; rw [Int.toNat_natCast]) | (go_at_call 45; refine (digitR_any _ _ (by omega) (by omega)).mono ?_; rintro e w' ⟨rfl, rfl⟩) | (go_at_call 18; refine (May_any _ _).mono ?_; rintro e w' ⟨rfl, rfl⟩))
      exact ⟨⟨pos + 1, f, _, _, by go_num, rfl, HS, by omega, by omega, HN, by omega, by omega, by omega, fun e => by omega⟩, by simp [intOf]; omega⟩
    · have hdd : Ch.dig (-1) (Ch.bz s pos) < 0 ∨ 16 ≤ Ch.dig (-1) (Ch.bz s pos) := by omega
      by_cases hpz : pos = p
      · have HN := hide (numR_none (num_zero (HZ.out hpz) hd HC.out))
        have hq : ((pos : Int) == (p : Int)) = true := by rw [beq_iff_eq]; omega
        clear hpz hd hdt
        rcases hdd with hdd | hdd
        all_goals
          go_wp2_with (first | (go_at_call 33; refine (byteAt_int _ _ _ hm (by omega)).mono ?_; rintro e w' ⟨rfl, rfl⟩; rw [Int.toNat_natCast]) | (go_at_call 45; refine (digitR_any _ _ (by omega) (by omega)).mono ?_; rintro e w' ⟨rfl, rfl⟩) | (go_at_call 18; refine (May_any _ _).mono ?_; rintro e w' ⟨rfl, rfl⟩))
          go_ret2
          refine ⟨?_, rfl⟩
          rw [HN.out]; rfl
      · have hq : ((pos : Int) == (p : Int)) = false := by rw [beq_eq_false_iff_ne]; omega
        by_cases h59 : Ch.bz s pos = 59
        · have HX := Ch.num_semi h59 HC.out
          rw [both_may HBo.out] at HX
          have hq2 : (Ch.bz s pos != 59) = false := by rw [h59]; rfl
          clear h59 hpz hd hdt
          cases hmay : Ch.may r
          · rw [hmay] at HX
            have HN := hide (numR_none HX)
            clear HX
            rcases hdd with hdd | hdd
            all_goals
              go_wp2_with (first | (go_at_call 33; refine (byteAt_int _ _ _ hm (by omega)).mono ?_; rintro e w' ⟨rfl, rfl⟩; rw [Int.toNat_natCast]) | (go_at_call 45; refine (digitR_any _ _ (by omega) (by omega)).mono ?_; rintro e w' ⟨rfl, rfl⟩) | (go_at_call 18; refine (May_any _ _).mono ?_; rintro e w' ⟨rfl, rfl⟩))
              go_ret2
              refine ⟨?_, rfl⟩
              rw [HN.out]; rfl
          · rw [hmay, both_of_may HBo.out hmay] at HX
            have HN := hide (numR_some HX)
            clear HX
            rcases hdd with hdd | hdd
            all_goals
              go_wp2_with (first | (go_at_call 33; refine (byteAt_int _ _ _ hm (by omega)).mono ?_; rintro e w' ⟨rfl, rfl⟩; rw [Int.toNat_natCast]) | (go_at_call 45; refine (digitR_any _ _ (by omega) (by omega)).mono ?_; rintro e w' ⟨rfl, rfl⟩) | (go_at_call 18; refine (May_any _ _).mono ?_; rintro e w' ⟨rfl, rfl⟩))
              go_ret2
              refine ⟨?_, rfl⟩
              rw [HN.out]; rfl
        · have HN := hide (numR_none (Ch.num_no h59 (by omega) HC.out))
          have hq2 : (Ch.bz s pos != 59) = true := by rw [bne_iff_ne]; exact h59
          clear h59 hpz hd hdt
          rcases hdd with hdd | hdd
          all_goals
            go_wp2_with (first | (go_at_call 33; refine (byteAt_int _ _ _ hm (by omega)).mono ?_; rintro e w' ⟨rfl, rfl⟩; rw [Int.toNat_natCast]) | (go_at_call 45; refine (digitR_any _ _ (by omega) (by omega)).mono ?_; rintro e w' ⟨rfl, rfl⟩) | (go_at_call 18; refine (May_any _ _).mono ?_; rintro e w' ⟨rfl, rfl⟩))
            go_ret2
            refine ⟨?_, rfl⟩
            rw [HN.out]; rfl

end Go.Proofs.YtbjpimnmgonebaaDoor
