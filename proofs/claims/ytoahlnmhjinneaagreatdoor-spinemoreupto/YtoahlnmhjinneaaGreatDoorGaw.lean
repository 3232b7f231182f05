import Derived.Test.YtoahlnmhjinneaaGreatDoorGav
set_option linter.unusedVariables false
set_option linter.unusedSimpArgs false
set_option linter.unusedSimpArgs false
set_option linter.unusedVariables false
namespace Go.Proofs.YtoahlnmhjinneaaGreatDoor
open Go.RowKit Go.Maps Go.Lib
variable {w w' w1 w2 WO wr W W0 : World} {I : Inv} {F : Nat → Prop} {TOT rest t acc : List Np} {fv : Value}
set_option maxHeartbeats 32000000 in
set_option maxRecDepth 100000 in
theorem along_ok (hI : InvOK I) (hfv : Tkr fv I) (s : Stps) (hc : ∀ i x, s.get i = some x → ∀ j y, x.preds.get j = some y → CdOK I fv y) : AlOK I fv s := by
  intro F acc W ahead va vi vn vc wh h0 hm hap hs hne hlen hN
  have hvn : vn = s.len ∧ s.len ≤ 1000 ∧ s.len ≤ vc := by
    rcases hs with ⟨h, e⟩ | ⟨g, c, cur, e, _, _, hn, h0, _⟩
    · cases e; exact ⟨h.symm, by omega, by omega⟩
    · cases e; exact ⟨rfl, hn, h0.2⟩
  obtain ⟨hvn, hv1, hv2⟩ := hvn
  have M0 : Hid (MidN I F (acc ++ (stepsN ahead s ++ [endN (ahead ++ marksS s) wh])) W W (restN ahead s 0 ++ [endN (ahead ++ marksS s) wh])) := hide (by rw [restN_zero]; exact MidN.start h0)
  generalize hTO : acc ++ (stepsN ahead s ++ [endN (ahead ++ marksS s) wh]) = TOT at *
  have HFIN : Hid (∀ wr, MidN I F TOT W wr (restN ahead s s.len ++ [endN (ahead ++ marksS s) wh]) → Calls Tryz.prog 48 #[.slice (some ⟨wr.heap.size, 0, none⟩) 2 2] (wr.alloc (.cells #[va, .slice vi vn vc] 52)) fun e w' => ∃ g n cap X b, e = .returned (.slice (some ⟨g, 0, none⟩) (n + 1) cap) ∧ (n ≤ 1000 ∧ (n : Int) < (n : Int) + 1 ∧ IntKind.i64.wrap ((n : Int) + 1 - 1) = (n : Int)) ∧ w'.cell? ⟨g, n * 3 + 1, none⟩ = some (.string X) ∧ (X.toList == [35]) = b ∧ Hid (TkCall I F TOT W fv (.slice (some ⟨g, 0, none⟩) (n + 1) cap) (wh && !b) w')) := fun wr M => by
    rw [restN_end, List.nil_append] at M
    exact along_end hI hfv hN hm hap hs hne hlen M
  have HR : Hid (∀ wr i, i < s.len → MidN I F TOT W wr (restN ahead s i ++ [endN (ahead ++ marksS s) wh]) → ∃ g d X pi pn pc, ∃ RR : Nat → World → Prop, vi = some ⟨g, 0, none⟩ ∧ (wr.cell? ⟨g, i * 3, none⟩ = some (.bool d) ∧ wr.cell? ⟨g, i * 3 + 1, none⟩ = some (.string X) ∧ wr.cell? ⟨g, i * 3 + 2, none⟩ = some (.slice pi pn pc)) ∧ (wr.alloc (.cells (aS d X (.slice pi pn pc)) 79)).cell? ⟨wr.heap.size, 2, none⟩ = some (.slice pi pn pc) ∧ pn ≤ 1000 ∧
      Hid (RR 0 (wr.alloc (.cells (aS d X (.slice pi pn pc)) 79))) ∧ Hid (∀ wr, RR pn wr → MidN I F TOT W wr (restN ahead s (i + 1) ++ [endN (ahead ++ marksS s) wh])) ∧
      Hid (∀ wr j, j < pn → RR j wr → ∃ g O ki nk kc si ns sc A X, pi = some ⟨g, 0, none⟩ ∧ (wr.cell? ⟨g, j * 5, none⟩ = some (.string O) ∧ wr.cell? ⟨g, j * 5 + 1, none⟩ = some (.slice ki nk kc) ∧ wr.cell? ⟨g, j * 5 + 2, none⟩ = some (.slice si ns sc) ∧ wr.cell? ⟨g, j * 5 + 3, none⟩ = some (.string A) ∧ wr.cell? ⟨g, j * 5 + 4, none⟩ = some (.string X)) ∧
      C5 (wr.alloc (.cells (aP O ki nk kc si ns sc A X) 112)) wr.heap.size O ki nk kc si ns sc A X ∧
      Hid (∀ W m, Below (wr.alloc (.cells (aP O ki nk kc si ns sc A X) 112)).heap.size (wr.alloc (.cells (aP O ki nk kc si ns sc A X) 112)) W → C5 W wr.heap.size O ki nk kc si ns sc A X ∧
        Calls Tryz.prog 48 #[.slice (some ⟨W.heap.size, 0, none⟩) 2 2] ((W.alloc (.cells #[va, .slice vi (i + 1) vc] 52)).drewN m) fun e w' => ∃ ai n cap, e = .returned (.slice ai n cap) ∧ C5 w' wr.heap.size O ki nk kc si ns sc A X ∧ Hid (∀ m, Calls Tryz.prog 47 #[fv, .slice ai n cap, .agg (aP O ki nk kc si ns sc A X)] (w'.drewN m) fun e w' => e = .returned (.tuple #[]) ∧ C5 w' wr.heap.size O ki nk kc si ns sc A X ∧ Hid (RR (j + 1) w'))))) := fun wr i hi M => by
    obtain ⟨x, hx⟩ := s.get_lt i hi
    have hfr := M.fr
    obtain ⟨g, e1, hgF, ⟨cur, hgb⟩, a0, a1, u, a2, hp⟩ := hs.at hx
    obtain ⟨pi, pc, rfl, hpn⟩ := hp.len
    have up : ∀ j u, W.cell? ⟨g, j, none⟩ = some u → wr.cell? ⟨g, j, none⟩ = some u := fun j u hj => (World.cell?_of_block (hfr.block g (blk_lt hgb) hgF)).trans hj
    have hB := Below_new wr (.cells (aS x.deep (bs x.test) (.slice pi x.preds.len pc)) 79)
    have hb0 := (Below.refl wr.heap.size wr).alloc (Nat.le_refl _) (.cells (aS x.deep (bs x.test) (.slice pi x.preds.len pc)) 79)
    have hlx := lS_get s i x hx
    have hba := bareT_app ahead ((marksS s).take (i + 1))
    refine ⟨g, _, _, pi, _, pc, fun j wr' => MidN I F TOT W wr' (predsN (ahead ++ (marksS s).take (i + 1)) (x.preds.dp j) ++ (restN ahead s (i + 1) ++ [endN (ahead ++ marksS s) wh])), e1, ⟨up _ _ a0, up _ _ a1, up _ _ a2⟩, (cells3 hB).2.2, hpn, hide ?_, hide ?_, hide ?_⟩
    · show MidN I F TOT W _ _
      rw [Prds.dp_zero, ← List.append_assoc, ← restN_get hx]
      exact M.below hI hb0
    · intro wr' h1
      rw [predsN_end, List.nil_append] at h1
      exact h1
    · intro wr' j hj h1
      obtain ⟨y, hy⟩ := x.preds.get_lt j hj
      rw [predsN_get hy, List.append_assoc] at h1
      have h2 := h1.fr.slP hp
      obtain ⟨g', O, ki, nk, kc, si, ns, sc, A, X, q1, q2, q3, q4⟩ := along_cond hI (hc i x hx j y hy) hN hm hap hs hi h2 hy rfl (by omega) h1
      refine ⟨g', O, ki, nk, kc, si, ns, sc, A, X, q1, q2, q3, hide fun W' m' hW' => ?_⟩
      obtain ⟨q5, q6⟩ := q4.out W' m' hW'
      refine ⟨q5, q6.mono ?_⟩
      rintro e w2 ⟨ai, n, cap, r1, r2, r3⟩
      exact ⟨ai, n, cap, r1, r2, r3⟩
  obtain ⟨ai, cap, rfl, hn, -⟩ := hm
  obtain ⟨RN, hRN⟩ : ∃ RN : Nat → World → Prop, ∀ i wr, RN i wr = MidN I F TOT W wr (restN ahead s i ++ [endN (ahead ++ marksS s) wh]) := ⟨_, fun _ _ => rfl⟩
  simp only [← hRN] at M0 HFIN HR
  rw [← hvn] at HFIN HR hv1 hv2
  have HV := hide hfv.val
  clear hRN h0 hap hs hne hlen hN hTO hvn hc hI hfv hn
  go_enter Tryz.func31, Tryz.ntmps31
  go_wp2_with fail
  go_loopw [8, 9, 11, 15, 16, 17, 18, 19, 20, 21, 22, 23, 24, 25, 26, 27, 28, 29, 30, 31, 32, 33, 34, 35, 36, 37, 38] (fun _ _ _ u15 _ _ _ _ _ _ _ _ _ _ _ _ _ _ _ _ _ _ _ _ _ _ _ wr => ∃ i : Nat, u15 = .int .i64 i ∧ i ≤ vn ∧ Hid (RN i wr)) (fun _ _ _ u15 _ _ _ _ _ _ _ _ _ _ _ _ _ _ _ _ _ _ _ _ _ _ _ _ => vn - (RowKit.intOf u15).toNat)
  case atStart => exact ⟨0, rfl, Nat.zero_le _, M0⟩
  case round =>
    rename World => WO
    obtain ⟨i, rfl, hi, HM⟩ := hrel
    by_cases hlt : i < vn
    · obtain ⟨g, d, X, pi, pn, pc, RR, rfl, ⟨a0, a1, a2⟩, c2, hpn, HR0, HRE, HRR⟩ := HR.out _ i hlt HM.out
      have hdec : decide ((i : Int) < vn) = true := by simp; omega
      have hii : (i : Int) < vn := by omega
      clear HR HFIN HM M0
      go_wp2_with fail
      clear a0 a1 a2 c2
      generalize (WO.alloc (.cells (aS d X (.slice pi pn pc)) 79)) = W1 at *
      go_loopw [11, 23, 24, 25, 26, 27, 28, 29, 30, 31, 32, 33, 34, 35, 36, 37] (fun _ u23 _ _ _ _ _ _ _ _ _ _ _ _ _ _ wr => ∃ j : Nat, u23 = .int .i64 j ∧ j ≤ pn ∧ Hid (RR j wr)) (fun _ u23 _ _ _ _ _ _ _ _ _ _ _ _ _ _ _ => pn - (RowKit.intOf u23).toNat)
      case atStart => exact ⟨0, rfl, Nat.zero_le _, HR0⟩
      case round =>
        rename World => WP
        obtain ⟨j, rfl, hj, HJ⟩ := hrel
        by_cases hlj : j < pn
        · obtain ⟨g', O, ki, nk, kc, si, ns, sc, A, X2, rfl, ⟨a0, a1, a2, a3, a4⟩, ⟨c0, c1, c2, c3, c4⟩, HD⟩ := HRR.out _ j hlj HJ.out
          have hdj : decide ((j : Int) < pn) = true := by simp; omega
          have hjj : (j : Int) < pn := by omega
          have hwr : IntKind.i64.wrap ((i : Int) + 1) = (i : Int) + 1 := by rw [IntKind.wrap_i64]; omega
          have hi1 : (i : Int) + 1 ≤ (vc : Int) := by omega
          have hi0 : (0 : Int) ≤ (i : Int) + 1 := by omega
          clear HRR HJ HR0 HRE
          go_wp2_with fail
          generalize (WP.alloc (.cells (aP O ki nk kc si ns sc A X2) 112)) = W2 at *
          generalize WP.heap.size = kx at *
          have K0 : ∀ o, C5 (W2.alloc o).drew kx O ki nk kc si ns sc A X2 := fun o => (HD.out _ 0 (Below.drew ((Below.refl _ _).alloc (Nat.le_refl _) _))).1
          have K1 : ∀ o m, C5 ((W2.alloc o).drewN m) kx O ki nk kc si ns sc A X2 := fun o m => (HD.out _ 0 (belowN ((Below.refl _ _).alloc (Nat.le_refl _) _) m)).1
          have K2 : ∀ m, C5 (W2.drewN m) kx O ki nk kc si ns sc A X2 := fun m => (HD.out _ 0 (belowN (Below.refl _ _) m)).1
          have K3 : C5 W2.drew kx O ki nk kc si ns sc A X2 := (HD.out _ 0 (Below.drew (Below.refl _ _))).1
          have K4 : ∀ o, C5 (W2.alloc o) kx O ki nk kc si ns sc A X2 := fun o => (HD.out _ 0 ((Below.refl _ _).alloc (Nat.le_refl _) _)).1
          have HC := hide (fun m => (HD.out W2 m (Below.refl _ _)).2)
          clear HD
          go_region_held3 (fun W => C5 W kx O ki nk kc si ns sc A X2)
            (first | exact d4 | exact d3 | exact ⟨c0, c1, c2, c3, c4⟩ | exact K0 _ | exact K1 _ _ | exact K2 _ | exact K3 | exact K4 _)
            ((first | (go_at_call 48; (first | refine (HC.out 1).mono ?_ | refine (HC.out _).mono ?_ | refine (HC.out 0).mono ?_); rintro e w6 ⟨a6, n6, cap6, rfl, d3, h6⟩) | (go_at_call 47; (first | refine (h6.out 0).mono ?_ | refine (h6.out 1).mono ?_ | refine (h6.out _).mono ?_); rintro e w7 ⟨rfl, d4, h7⟩)))
          all_goals
            clear c0 c1 c2 c3 c4 d3 d4 K0 K1 K2 K3 K4 HC h6
            go_wp2
            exact ⟨⟨j + 1, by simp, by omega, h7⟩, by simp only [RowKit.intOf]; omega⟩
        · have hdj : decide ((j : Int) < pn) = false := by simp; omega
          obtain rfl : j = pn := by omega
          have HE := hide (HRE.out _ HJ.out)
          clear HRR HJ HR0 HRE
          go_wp2
          exact ⟨⟨i + 1, by simp, by omega, HE⟩, by simp only [RowKit.intOf]; omega⟩
    · have hdec : decide ((i : Int) < vn) = false := by simp; omega
      obtain rfl : i = vn := by omega
      have HE := hide (HFIN.out _ HM.out)
      clear HR HFIN HM M0
      rcases HV.out with ⟨p, rfl⟩ | ⟨p, q, rfl⟩
      · cases wh with
        | false =>
          go_wp2_with (first | (go_at_call 48; refine HE.out.mono ?_; rintro e w6 ⟨g6, n6, cap6, X6, b6, rfl, ⟨hn6, hn7, hn8⟩, d3, hb6, h6⟩; clear HE) | (go_at_call 16; refine h6.out.a.mono ?_; rintro e w7 ⟨rfl, h7⟩))
          go_end0
          exact h7
        | true =>
          go_wp2_with (first | (go_at_call 48; refine HE.out.mono ?_; rintro e w6 ⟨g6, n6, cap6, X6, b6, rfl, ⟨hn6, hn7, hn8⟩, d3, hb6, h6⟩; clear HE hn7) | (go_at_call 16; refine h6.out.a.mono ?_; rintro e w7 ⟨rfl, h7⟩))
          go_end0
          exact h7
      · cases wh with
        | false =>
          go_wp2_with (first | (go_at_call 48; refine HE.out.mono ?_; rintro e w6 ⟨g6, n6, cap6, X6, b6, rfl, ⟨hn6, hn7, hn8⟩, d3, hb6, h6⟩; clear HE) | (go_at_call 18; refine h6.out.b.mono ?_; rintro e w7 ⟨rfl, h7⟩))
          go_end0
          exact h7
        | true =>
          go_wp2_with (first | (go_at_call 48; refine HE.out.mono ?_; rintro e w6 ⟨g6, n6, cap6, X6, b6, rfl, ⟨hn6, hn7, hn8⟩, d3, hb6, h6⟩; clear HE hn7) | (go_at_call 18; refine h6.out.b.mono ?_; rintro e w7 ⟨rfl, h7⟩))
          go_end0
          exact h7
end Go.Proofs.YtoahlnmhjinneaaGreatDoor

set_option linter.unusedSimpArgs false
set_option linter.unusedVariables false
namespace Go.Proofs.YtoahlnmhjinneaaGreatDoor
open Go.RowKit Go.Maps Go.Lib
variable {w w' w1 w2 WO wr W W0 : World} {I : Inv} {F : Nat → Prop} {TOT rest t acc : List Np} {fv : Value}
theorem MkR.blk {v : Value} {ms : List Mk} (h : MkR w v ms) (h0 : ms ≠ []) : ∀ k, v.ownBlock = some k → k < w.heap.size := by
  obtain ⟨ai, cap, rfl, hn, hr⟩ := h
  obtain ⟨g, _, _, _, rfl, hg, _⟩ := hr 0 ms[0]! (by rw [List.getElem?_eq_getElem (List.length_pos_iff.2 h0)]; congr 1; rw [getElem!_pos ms 0 (List.length_pos_iff.2 h0)])
  intro k e
  cases e
  exact hg
theorem cond_kid {va : Value} {at_ : List Mk} {ki : Option Addr} {nk kc j : Nat} {p : Prds} {y : Prd} (hI : InvOK I) (hy : CdOK I fv y) (hT : TOT.length ≤ Nmax) (hm : MkR W0 va at_) (h0 : at_ ≠ []) (hap : ∀ k, va.ownBlock = some k → ¬ F k)
    (hp : slP W0 (fun k => ¬ F k) 79 112 (.slice ki nk kc) p) (hj : p.get j = some y) (hlen : (bareT at_).length + lP p ≤ 1000) (M : MidN I F TOT W0 wr (oneN at_ y ++ rest)) :
    ∃ g O ki' nk' kc' si ns sc A X, ki = some ⟨g, 0, none⟩ ∧ (wr.cell? ⟨g, j * 5, none⟩ = some (.string O) ∧ wr.cell? ⟨g, j * 5 + 1, none⟩ = some (.slice ki' nk' kc') ∧ wr.cell? ⟨g, j * 5 + 2, none⟩ = some (.slice si ns sc) ∧ wr.cell? ⟨g, j * 5 + 3, none⟩ = some (.string A) ∧ wr.cell? ⟨g, j * 5 + 4, none⟩ = some (.string X)) ∧
      C5 (wr.alloc (.cells (aP O ki' nk' kc' si ns sc A X) 112)) wr.heap.size O ki' nk' kc' si ns sc A X ∧
      Hid (Calls Tryz.prog 47 #[fv, va, .agg (aP O ki' nk' kc' si ns sc A X)] (wr.alloc (.cells (aP O ki' nk' kc' si ns sc A X) 112)) fun e w' => e = .returned (.tuple #[]) ∧ Hid (MidN I F TOT W0 w' rest)) := by
  have hfr := M.fr
  obtain ⟨g, e1, hg, -, a0, ⟨k1, a1, r1⟩, ⟨p1, a2, q1⟩, a3, a4⟩ := (hfr.slP hp).at hj
  obtain ⟨ki', kc', rfl, _⟩ := r1.len
  obtain ⟨si, sc, rfl, _⟩ := q1.len
  have hB := Below_new wr (.cells (aP (bs y.op) ki' y.kids.len kc' si y.steps.len sc (bs y.attr) (bs y.text)) 112)
  have hb0 := (Below.refl wr.heap.size wr).alloc (Nat.le_refl _) (.cells (aP (bs y.op) ki' y.kids.len kc' si y.steps.len sc (bs y.attr) (bs y.text)) 112)
  have hlx := lP_get p j y hj
  refine ⟨g, _, ki', _, kc', si, _, sc, _, _, e1, ⟨a0, a1, a2, a3, a4⟩, cellsP5 hB, hide ?_⟩
  have main := M.part hI hb0 (f := 47) (args := #[fv, va, .agg (aP (bs y.op) ki' y.kids.len kc' si y.steps.len sc (bs y.attr) (bs y.text))]) fun F' acc' k1 k3 k2 k4 => ?_
  · exact main.mono fun e w2 ⟨r1, r2, r3⟩ => ⟨r1, r2⟩
  have hA : ∀ k, (k < W0.heap.size ∧ ¬ F k) → ¬ F' k := fun k hk hF => by
    rcases k2 k hF with h | h
    · exact hk.2 h
    · omega
  exact hy F' acc' _ at_ va ki' _ kc' si _ sc k1 (hm.fr (hfr.on hb0) hap) (fun k e => hA k ⟨hm.blk h0 k e, hap k e⟩) (r1.on hb0 hA) (q1.on hb0 hA) h0 (by omega) (MidN.len M hT k4)
theorem join_cases {o : L} (h : joinB o) : ((o == [111, 114]) = true) ∨ ((o == [111, 114]) = false ∧ (o == [97, 110, 100]) = true) ∨ ((o == [111, 114]) = false ∧ (o == [97, 110, 100]) = false ∧ (o == [110, 111, 116]) = true) := by
  rcases h with rfl | rfl | rfl
  · exact Or.inl rfl
  · exact Or.inr (Or.inl ⟨rfl, rfl⟩)
  · exact Or.inr (Or.inr ⟨rfl, rfl, rfl⟩)
theorem join_not {o : L} (h : ¬ joinB o) : (o == [111, 114]) = false ∧ (o == [97, 110, 100]) = false ∧ (o == [110, 111, 116]) = false := by
  unfold joinB at h
  refine ⟨?_, ?_, ?_⟩ <;> simp <;> intro e <;> exact h (by simp [e])
set_option maxHeartbeats 32000000 in
set_option maxRecDepth 100000 in
theorem condN_ok (hI : InvOK I) (x : Prd) (hk : ∀ j y, x.kids.get j = some y → CdOK I fv y) (hs : AlOK I fv x.steps) : CdOK I fv x := by
  intro F acc W at_ va ki nk kc si ns sc h0 hm hap hp hst hne hlen hN
  have hB := Below_new W (.cells (aP (bs x.op) ki nk kc si ns sc (bs x.attr) (bs x.text)) 112)
  have hb0 := (Below.refl W.heap.size W).alloc (Nat.le_refl _) (.cells (aP (bs x.op) ki nk kc si ns sc (bs x.attr) (bs x.text)) 112)
  have hnk : nk = x.kids.len ∧ nk ≤ 1000 := by obtain ⟨_, _, e, h⟩ := hp.len; cases e; exact ⟨rfl, h⟩
  obtain ⟨c0, c1, c2, c3, c4⟩ := cellsP5 hB
  by_cases hj : joinB x.op
  · have e1 : oneN at_ x = predsN at_ x.kids := by unfold oneN; rw [if_pos hj]
    rw [e1] at hN ⊢
    have M0 : Hid (MidN I F (acc ++ predsN at_ x.kids) W (W.alloc (.cells (aP (bs x.op) ki nk kc si ns sc (bs x.attr) (bs x.text)) 112)) (predsN at_ (x.kids.dp 0))) := hide (by rw [Prds.dp_zero]; exact (MidN.start h0).below hI hb0)
    generalize acc ++ predsN at_ x.kids = TOT at *
    have HFIN : Hid (∀ wr, MidN I F TOT W wr (predsN at_ (x.kids.dp nk)) → TkPost I F TOT W (.returned (.tuple #[])) wr) := fun wr M => by
      rw [hnk.1, predsN_end] at M
      exact M.fin
    have HR : Hid (∀ wr j, j < nk → MidN I F TOT W wr (predsN at_ (x.kids.dp j)) → ∃ g O ki' nk' kc' si ns sc A X, ki = some ⟨g, 0, none⟩ ∧ (wr.cell? ⟨g, j * 5, none⟩ = some (.string O) ∧ wr.cell? ⟨g, j * 5 + 1, none⟩ = some (.slice ki' nk' kc') ∧ wr.cell? ⟨g, j * 5 + 2, none⟩ = some (.slice si ns sc) ∧ wr.cell? ⟨g, j * 5 + 3, none⟩ = some (.string A) ∧ wr.cell? ⟨g, j * 5 + 4, none⟩ = some (.string X)) ∧
      C5 (wr.alloc (.cells (aP O ki' nk' kc' si ns sc A X) 112)) wr.heap.size O ki' nk' kc' si ns sc A X ∧
      Hid (Calls Tryz.prog 47 #[fv, va, .agg (aP O ki' nk' kc' si ns sc A X)] (wr.alloc (.cells (aP O ki' nk' kc' si ns sc A X) 112)) fun e w' => e = .returned (.tuple #[]) ∧ Hid (MidN I F TOT W w' (predsN at_ (x.kids.dp (j + 1)))))) := fun wr j hlt M => by
      obtain ⟨y, hy⟩ := x.kids.get_lt j (by omega)
      rw [predsN_get hy] at M
      exact cond_kid hI (hk j y hy) hN hm hne hap hp hy (by omega) M
    obtain ⟨RN, hRN⟩ : ∃ RN : Nat → World → Prop, ∀ i wr, RN i wr = MidN I F TOT W wr (predsN at_ (x.kids.dp i)) := ⟨_, fun _ _ => rfl⟩
    simp only [← hRN] at M0 HFIN HR
    have hnk2 := hnk.2
    have hjc := join_cases hj
    rw [← bs_toL x.op] at hjc
    obtain ⟨ai, cap, rfl, hn, -⟩ := hm
    clear hRN h0 hap hp hst hne hlen hN hk hs hnk hI hn e1 hj hB hb0
    generalize bs x.op = O at *
    generalize bs x.attr = A at *
    generalize bs x.text = X at *
    rcases hjc with h1 | ⟨h1, h2⟩ | ⟨h1, h2, h3⟩
    all_goals
      go_enter Tryz.func47, Tryz.ntmps47
      go_wp2_with fail
      clear c0 c1 c2 c3 c4
      generalize (W.alloc (.cells (aP O ki nk kc si ns sc A X) 112)) = W1 at *
      go_loopw [7, 30, 31, 32, 33, 34, 35, 36, 37, 38] (fun _ u30 _ _ _ _ _ _ _ _ wr => ∃ j : Nat, u30 = .int .i64 j ∧ j ≤ nk ∧ Hid (RN j wr)) (fun _ u30 _ _ _ _ _ _ _ _ _ => nk - (RowKit.intOf u30).toNat)
      case atStart => exact ⟨0, rfl, Nat.zero_le _, M0⟩
      case round =>
        rename World => WP
        obtain ⟨j, rfl, hj, HJ⟩ := hrel
        by_cases hlj : j < nk
        · obtain ⟨g', O', ki', nk', kc', si', ns', sc', A', X', rfl, ⟨a0, a1, a2, a3, a4⟩, ⟨c0, c1, c2, c3, c4⟩, HD⟩ := HR.out _ j hlj HJ.out
          have hdj : decide ((j : Int) < nk) = true := by simp; omega
          have hjj : (j : Int) < nk := by omega
          clear HR HJ M0 HFIN
          go_wp2_with (go_at_call 47; refine HD.out.mono ?_; rintro e w7 ⟨rfl, h7⟩; clear HD c0 c1 c2 c3 c4)
          exact ⟨⟨j + 1, by simp, by omega, h7⟩, by simp only [RowKit.intOf]; omega⟩
        · have hdj : decide ((j : Int) < nk) = false := by simp; omega
          obtain rfl : j = nk := by omega
          go_wp2
          go_end0
          exact HFIN.out _ HJ.out
  · have e1 : oneN at_ x = stepsN at_ x.steps ++ [endN (at_ ++ marksS x.steps) (x.op != [104, 97, 115] && x.attr == [])] := by unfold oneN; rw [if_neg hj]
    rw [e1] at hN ⊢
    have hnj := join_not hj
    rw [← bs_toL x.op] at hnj
    obtain ⟨h1, h2, h3⟩ := hnj
    obtain ⟨b1, hb1⟩ : ∃ b1, (x.op == [104, 97, 115]) = b1 := ⟨_, rfl⟩
    obtain ⟨b2, hb2⟩ : ∃ b2, (x.attr == []) = b2 := ⟨_, rfl⟩
    have hbn : (x.op != [104, 97, 115]) = !b1 := by rw [← hb1]; rfl
    rw [hbn, hb2] at hN ⊢
    rw [← bs_toL x.op] at hb1
    rw [← bs_toL x.attr] at hb2
    have HA : Hid (Calls Tryz.prog 31 #[fv, va, .slice si ns sc, .bool (!b1 && b2)] (W.alloc (.cells (aP (bs x.op) ki nk kc si ns sc (bs x.attr) (bs x.text)) 112)) fun e w' => e = .returned (.tuple #[]) ∧ TkPost I F (acc ++ (stepsN at_ x.steps ++ [endN (at_ ++ marksS x.steps) (!b1 && b2)])) W e w') := hide (by
      refine (hs F acc _ at_ va si ns sc _ (hI.below _ _ _ _ h0 hb0) (hm.below (B := 0) hb0) hap (hst.on hb0 fun _ h => h) (Or.inl hne) (by omega) hN).mono ?_
      rintro e w' ⟨p1, F2, p2, p3, p4⟩
      refine ⟨p1, p1, F2, p2, (Fr.below hb0).trans p3 fun _ _ h => h, fun k hk => ?_⟩
      rcases p4 k hk with h | h
      · exact Or.inl h
      · have := hb0.size
        exact Or.inr (by omega))
    generalize acc ++ (stepsN at_ x.steps ++ [endN (at_ ++ marksS x.steps) (!b1 && b2)]) = TOT at *
    obtain ⟨ai, cap, rfl, hn, -⟩ := hm
    clear h0 hap hp hst hne hlen hN hk hs hnk hI hn e1 hj hB hb0 hbn
    generalize bs x.op = O at *
    generalize bs x.attr = A at *
    generalize bs x.text = X at *
    cases b1 <;> cases b2 <;>
    · go_enter Tryz.func47, Tryz.ntmps47
      go_wp2_with (go_at_call 31; refine HA.out.mono ?_; rintro e w7 ⟨rfl, h7⟩; clear HA)
      go_end0
      exact h7
end Go.Proofs.YtoahlnmhjinneaaGreatDoor
