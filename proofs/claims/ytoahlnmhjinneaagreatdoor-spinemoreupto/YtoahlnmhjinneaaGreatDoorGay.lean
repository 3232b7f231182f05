import Derived.Test.YtoahlnmhjinneaaGreatDoorGax
set_option linter.unusedVariables false
set_option linter.unusedSimpArgs false
set_option linter.unusedSimpArgs false
set_option linter.unusedVariables false
namespace Go.Proofs.YtoahlnmhjinneaaGreatDoor
open Go.RowKit Go.Maps Go.Lib
variable {w w' w0 w1 w2 w3 W wr : World} {X : Nat} {u1 u2 v : Value} {F : Nat → Prop} {b : Brs} {xs : List (Br × Nat)} {i j : Nat} {m : Mk} {x : Br × Nat} {acc : List Np}
set_option maxHeartbeats 16000000 in
set_option maxRecDepth 100000 in
theorem grow_take {v : Value} {ms : List Mk} (wh : Bool) (pre : TkPre (GI X u1 u2) F acc W v ms) : Calls Tryz.prog 16 #[.pointer (some ⟨X, 0, none⟩), v, .bool wh] W (TkPost (GI X u1 u2) F (acc ++ [(ms, wh)]) W) := by
  have hlen := pre.len
  have HN := hide (nowhere_ok ms v W pre.row pre.ne)
  have hacc := pre.acc
  have hinv := pre.inv
  obtain ⟨b, hb⟩ : ∃ b, b = growAll newB acc := ⟨_, rfl⟩
  have hw := hinv.wf
  have hl := hinv.len
  rw [← hb] at hw hl
  have hbl : b.length ≤ 2200000000000 := by unfold Nmax at hacc; omega
  cases hnw : nowhere ms with
  | true =>
    rw [hnw] at HN
    have HE : Hid (∀ w1, Below W.heap.size W w1 → TkPost (GI X u1 u2) F (acc ++ [(ms, wh)]) W (.returned (.tuple #[])) w1) := fun w1 hb1 => by
      have e : growAll newB (acc ++ [(ms, wh)]) = growAll newB acc := by
        rw [growAll_append]
        unfold growAll growB
        rw [List.foldl_cons, List.foldl_nil, if_pos hnw]
      refine ⟨rfl, F, ⟨by rw [e]; exact hinv.br.below hb1, by rw [e, List.length_append]; have := hinv.len; omega, by rw [e]; exact hinv.wf⟩, Fr.below hb1, fun k hk => Or.inl hk⟩
    obtain ⟨ai, cap, rfl, -⟩ := pre.row
    clear pre hinv hw hl hbl hb hlen hacc hnw
    generalize ms.length = n at *
    go_enter Tryz.func16, Tryz.ntmps16
    go_wp2_with (go_at_call 28; refine HN.out.mono ?_; rintro e w5 ⟨rfl, h5⟩; have H5 := hide (HE.out _ h5); clear HN HE h5)
    go_end0
    exact H5.out
  | false =>
    rw [hnw] at HN
    have hrow := pre.row
    have hap := pre.apart
    have M0 : Hid (∀ w1, Below W.heap.size W w1 → MidG X u1 u2 F W b ms 0 w1) := fun w1 hb1 => ⟨F, by rw [List.take_zero]; show BrI X u1 u2 F b w1; rw [hb]; exact hinv.br.below hb1, Fr.below hb1, fun k hk => Or.inl hk⟩
    obtain ⟨ai, cap, rfl, hn, -⟩ := pre.row
    have HR := hide (fun i wr (hi : i < ms.length) M => grow_round (X := X) (u1 := u1) (u2 := u2) (i := i) (wr := wr) hw (by omega) hrow hap hlen hi M)
    have HFIN := hide (fun wr M => grow_end (X := X) (u1 := u1) (u2 := u2) (wr := wr) (F := F) (W := W) (wh := wh) hw hnw hb hl hlen M)
    obtain ⟨RN, hRN⟩ : ∃ RN : Nat → World → Prop, ∀ i wr, RN i wr = MidG X u1 u2 F W b ms i wr := ⟨_, fun _ _ => rfl⟩
    simp only [← hRN] at M0 HFIN HR
    have hat0 : atG b ms 0 = 0 := by unfold atG; rw [List.take_zero]; rfl
    have hn1 := hn.1
    clear pre hinv hw hl hbl hb hlen hacc hnw hrow hap hRN hn
    generalize atG b ms = at_ at *
    generalize (acc ++ [(ms, wh)]) = ACC at *
    generalize ms.length = n at *
    go_enter Tryz.func16, Tryz.ntmps16
    go_wp2_with (go_at_call 28; refine HN.out.mono ?_; rintro e w5 ⟨rfl, h5⟩; have H5 := hide (M0.out _ h5); clear HN M0 h5)
    go_loopw [6, 8, 14, 15, 16, 17, 18, 19, 20, 21, 22, 23, 24, 25, 26] (fun u6 _ u14 _ _ _ _ _ _ _ _ _ _ _ _ wr => ∃ i : Nat, u14 = .int .i64 i ∧ i ≤ n ∧ u6 = .int .i64 (at_ i : Nat) ∧ Hid (RN i wr)) (fun _ _ u14 _ _ _ _ _ _ _ _ _ _ _ _ _ => n - (RowKit.intOf u14).toNat)
    case atStart => exact ⟨0, rfl, Nat.zero_le _, by rw [hat0]; rfl, H5⟩
    case round =>
      rename World => WP
      obtain ⟨i, rfl, hi, rfl, HM⟩ := hrel
      by_cases hlt : i < n
      · obtain ⟨g, d, T, pi, pn, pc, rfl, ⟨a0, a1, a2⟩, ⟨c0, c1⟩, HC⟩ := HR.out i _ hlt HM.out
        have hdec : decide ((i : Int) < n) = true := by simp; omega
        have hii : (i : Int) < n := by omega
        clear HR HFIN HM H5
        go_wp2_with (go_at_call 29; refine HC.out.mono ?_; rintro e w7 ⟨rfl, h7⟩; clear HC)
        exact ⟨⟨i + 1, by simp, by omega, by simp, h7⟩, by simp only [RowKit.intOf]; omega⟩
      · have hdec : decide ((i : Int) < n) = false := by simp; omega
        obtain rfl : i = n := by omega
        obtain ⟨g, n', cap', c, x0, hlt', f3, ⟨c0, y3⟩, y4, f4, HE⟩ := HFIN.out _ HM.out
        clear HR HFIN HM H5
        generalize at_ i = k at *
        cases c with
        | true =>
          go_wp2
          go_end0
          exact HE.out
        | false =>
          go_wp2
          go_end0
          exact HE.out
end Go.Proofs.YtoahlnmhjinneaaGreatDoor
