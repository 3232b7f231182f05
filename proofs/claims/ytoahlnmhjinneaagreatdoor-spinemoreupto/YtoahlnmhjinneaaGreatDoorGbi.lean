import Derived.Test.YtoahlnmhjinneaaGreatDoorGbh
import Derived.Test.YtoahlnmhjinneaaGreatDoorGbf
import Derived.Test.YtoahlnmhjinneaaGreatDoorGbg
set_option linter.unusedVariables false
set_option linter.unusedSimpArgs false
set_option linter.unusedSimpArgs false
set_option linter.unusedVariables false
namespace Go.Proofs.YtoahlnmhjinneaaGreatDoor
open Go.RowKit Go.Maps Go.Lib
variable {w w' w1 W wr : World} {v u : Value} {ms : List Mk} {i B : Nat} {xs ys : List (Value × Bool)} {A : Nat → Prop}
theorem ofR_round {x : Prd} {at_ : List Mk} {va : Value} {ki : Option Addr} {nk kc tot : Nat} (hc : ∀ j y, x.kids.get j = some y → CdR y) (hp : slP W A 94 97 (.slice ki nk kc) x.kids) (hl : (bareT at_).length + lP x.kids ≤ 1000) (ht : tot ≤ 1000000) (hi : i < x.kids.len) (M : MB W tot (cntE x.kids i) va at_ v wr) :
    ∃ g' O ki' nk' kc' si ns sc A X, ki = some ⟨g', 0, none⟩ ∧ (wr.cell? ⟨g', i * 5, none⟩ = some (.string O) ∧ wr.cell? ⟨g', i * 5 + 1, none⟩ = some (.slice ki' nk' kc') ∧ wr.cell? ⟨g', i * 5 + 2, none⟩ = some (.slice si ns sc) ∧ wr.cell? ⟨g', i * 5 + 3, none⟩ = some (.string A) ∧ wr.cell? ⟨g', i * 5 + 4, none⟩ = some (.string X)) ∧
        Hid (Calls Tryz.prog 37 #[va, .agg (aP O ki' nk' kc' si ns sc A X)] wr fun e w1 => ∃ a n c, e = .returned (.slice a n c) ∧ Hid (∃ a2 n2 c2 w2, (Builtin.append_ #[30, 30] 30 #[v, .slice a n c]).run Tryz.prog w1 = .ok (.slice a2 n2 c2) w2 ∧ Hid (MB W tot (cntE x.kids (i + 1)) va at_ (.slice a2 n2 c2) w2))) := by
  obtain ⟨y, hy⟩ := x.kids.get_lt i hi
  have hcE := cntE_get x.kids i y hy
  have hlp := lP_get x.kids i y hy
  obtain ⟨g', e2, _, ⟨cur', hgb'⟩, b0, ⟨vk, b1, sk⟩, ⟨vs, b2, ss⟩, b3, b4⟩ := hp.at hy
  obtain ⟨ki', kc', rfl, _⟩ := sk.len
  obtain ⟨si, sc, rfl, _⟩ := ss.len
  have up : ∀ j u, W.cell? ⟨g', j, none⟩ = some u → wr.cell? ⟨g', j, none⟩ = some u := fun j u hj => by
    obtain ⟨⟨-, _, _, _, m3⟩, -, -⟩ := M
    exact (World.cell?_of_block (m3.block g' (blk_lt hgb'))).trans hj
  exact ⟨g', _, ki', _, kc', si, _, sc, _, _, e2, ⟨up _ _ b0, up _ _ b1, up _ _ b2, up _ _ b3, up _ _ b4⟩, hide (MB.step (hc i y hy) ht hcE M sk ss (by omega))⟩
set_option maxHeartbeats 16000000 in
set_option maxRecDepth 100000 in
theorem ofR_join {x : Prd} (hj : joinB x.op) (hc : ∀ j y, x.kids.get j = some y → CdR y) : CdR x := by
  intro W A at_ va ki nk kc si ns sc hm hva hp hst hl hcnt
  have hB := Below_new W (.cells (aP (bs x.op) ki nk kc si ns sc (bs x.attr) (bs x.text)) 97)
  have hb0 := (Below.refl W.heap.size W).alloc (Nat.le_refl _) (.cells (aP (bs x.op) ki nk kc si ns sc (bs x.attr) (bs x.text)) 97)
  have hnk : nk = x.kids.len ∧ nk ≤ 1000 := by obtain ⟨_, _, e, h⟩ := hp.len; cases e; exact ⟨rfl, h⟩
  obtain ⟨c0, c1, c2, c3, c4⟩ := cellsP5 hB
  have e1 : cnt1 x = cntP x.kids := by unfold cnt1; rw [if_pos hj]
  rw [e1] at hcnt ⊢
  have mv : Move A A W (W.alloc (.cells (aP (bs x.op) ki nk kc si ns sc (bs x.attr) (bs x.text)) 97)) := fun b hb hl => ⟨hb, hb0.block b hl⟩
  obtain ⟨W1, hW1⟩ : ∃ W1, W.alloc (.cells (aP (bs x.op) ki nk kc si ns sc (bs x.attr) (bs x.text)) 97) = W1 := ⟨_, rfl⟩
  rw [hW1] at hB hb0 c0 c1 c2 c3 c4 mv
  obtain ⟨RR, hRR⟩ : ∃ RR : Nat → Value → World → Prop, ∀ i v wr, RR i v wr = MB W1 (cntP x.kids) (cntE x.kids i) va at_ v wr := ⟨_, fun _ _ _ => rfl⟩
  have M0 : Hid (RR 0 (.slice none 0 0) W1) := hide (by
    rw [hRR]
    refine ⟨⟨⟨_, _, _, rfl⟩, [], PoR.nil W1, by rw [cntE_zero]; simp, Below.refl _ _⟩, hm.below (B := 0) hb0, fun k e => ⟨Nat.lt_of_lt_of_le (hva k e) hb0.size, fun e => by cases e⟩⟩)
  have HC : Hid (∀ i v wr, RR i v wr → (∃ a n c, v = .slice a n c) ∧ wr.cell? ⟨W.heap.size, 1, none⟩ = some (.slice ki nk kc)) := hide (fun i v wr M => by
    rw [hRR] at M
    obtain ⟨⟨m0, xs, m1, m2, m3⟩, -, -⟩ := M
    exact ⟨m0, (World.cell?_of_block (m3.block _ (blk_lt hB))).trans c1⟩)
  have HR := hide (fun i v wr (hi : i < x.kids.len) M => ofR_round (v := v) (wr := wr) (i := i) (va := va) (at_ := at_) hc (hp.move mv) (by omega) hcnt hi M)
  have HE : Hid (∀ a n c wr, RR x.kids.len (.slice a n c) wr → PtP W (cntP x.kids) (.returned (.slice a n c)) wr) := hide (fun a n c wr M => by
    rw [hRR] at M
    obtain ⟨⟨-, xs, m1, m2, m3⟩, -, -⟩ := M
    exact ⟨a, n, c, xs, rfl, ⟨m1.row, m1.ok, fun k e => Nat.le_trans hb0.size (m1.new k e)⟩, by omega, bon hb0 m3⟩)
  simp only [← hRR] at HR
  obtain ⟨hnk, hn1⟩ := hnk
  rw [← hnk] at HR HE
  obtain ⟨ai, cap, rfl, -⟩ := hm
  generalize PtP W (cntP x.kids) = PP at *
  have hop : ((bs x.op).toList == [111, 114]) = true ∨ (((bs x.op).toList == [111, 114]) = false ∧ ((bs x.op).toList == [97, 110, 100]) = true) ∨ (((bs x.op).toList == [111, 114]) = false ∧ ((bs x.op).toList == [97, 110, 100]) = false ∧ ((bs x.op).toList == [110, 111, 116]) = true) := by
    have e : (bs x.op).toList = x.op := bs_toL _
    rw [e]
    rcases hj with h | h | h <;> rw [h] <;> decide
  clear hRR hc hp hst hl hcnt hva hb0 hB mv hj e1 hnk
  generalize bs x.op = OP at *
  generalize bs x.attr = AT at *
  generalize bs x.text = TX at *
  generalize at_.length = na at *
  rcases hop with h1 | ⟨h1, h2⟩ | ⟨h1, h2, h3⟩
  all_goals
    go_enter Tryz.func37, Tryz.ntmps37
    go_wp2_with fail
    clear c0 c1 c2 c3 c4 hW1
    go_loopw [5, 6] (fun ov iv wr => ∃ i : Nat, iv = .int .i64 i ∧ i ≤ nk ∧ RR i ov wr) (fun _ iv _ => nk - (RowKit.intOf iv).toNat)
    case atStart => exact ⟨0, rfl, Nat.zero_le _, M0.out⟩
    case round =>
      rename World => WP
      obtain ⟨i, rfl, hi, hM⟩ := hrel
      obtain ⟨⟨o4, o5, o6, rfl⟩, cc⟩ := HC.out _ _ _ hM
      clear M0
      by_cases hlk : i < nk
      · obtain ⟨g', O, ki', nk', kc', si', ns', sc', A2, X2, rfl, ⟨b0, b1, b2, b3, b4⟩, HD⟩ := HR.out _ _ _ hlk hM
        have hdk : decide ((i : Int) < nk) = true := by simp; omega
        have hkk : (i : Int) < nk := by omega
        clear HR HE HC hM
        go_wp2_with (first
          | (go_at_call 37; refine HD.out.mono ?_; rintro e w6 ⟨a6, n6, c6, rfl, h6⟩; obtain ⟨a7, n7, c7, w7, hr, H7⟩ := h6.out; clear HD h6)
          | (at_builtin; refine Lib.wpList_append_run _ rfl _ _ _ _ rfl _ _ rfl rfl _ _ hr ?_))
        exact ⟨⟨i + 1, by simp, by omega, H7.out⟩, by simp only [RowKit.intOf]; omega⟩
      · have hdk : decide ((i : Int) < nk) = false := by simp; omega
        have hk2 : i = nk := by omega
        rw [hk2] at hM
        have H9 := hide (HE.out _ _ _ _ hM)
        clear HR HE HC hM
        go_wp2
        first | exact H9.out | (go_ret; exact H9.out)
end Go.Proofs.YtoahlnmhjinneaaGreatDoor

set_option linter.unusedSimpArgs false
set_option linter.unusedVariables false
namespace Go.Proofs.YtoahlnmhjinneaaGreatDoor
open Go.RowKit Go.Maps Go.Lib
variable {w w' w1 W wr : World} {v u : Value} {ms : List Mk} {i B : Nat} {xs ys : List (Value × Bool)} {A : Nat → Prop}
theorem marks_all (s : Stps) : (marksS s).take s.len = marksS s := by rw [← marks_len s, List.take_length]
theorem ofR_end {x : Prd} {at_ : List Mk} {va : Value} {si : Option Addr} {ns sc : Nat} {W1 : World} (ha : AlR x.steps) (hb0 : Below W.heap.size W W1) (hm : MkR W1 va at_) (hst : slS W1 A 94 97 (.slice si ns sc) x.steps) (hl : (bareT at_).length + lS x.steps ≤ 1000) (hcnt : cntS x.steps + 1 ≤ 1000000) :
    Calls Tryz.prog 21 #[va, .slice si ns sc] W1 fun e w2 => ∃ ao no co, e = .returned (.slice ao no co) ∧ Below W1.heap.size W1 w2 ∧ Hid (Calls Tryz.prog 36 #[va, .slice si ns sc] w2 fun e w3 => ∃ a3 n3 c3, e = .returned (.slice a3 n3 c3) ∧ Below W1.heap.size W1 w3 ∧ Hid (Calls Tryz.prog 22 #[.slice a3 n3 c3] w3 fun e w4 => IsB e ∧ w4 = w3) ∧ Hid (∀ m, Calls Tryz.prog 23 #[.slice a3 n3 c3] (w3.drewN m) fun e w5 => ∃ a5 n5 c5, e = .returned (.slice a5 n5 c5) ∧ Below W1.heap.size W1 w5 ∧ no ≤ 1000000 ∧ Hid (∃ XS, ∀ bb : Bool, ((w5.alloc (.cells #[.slice a5 n5 c5, .bool bb] 63)).ownsRow 0 63 2 (.slice ao no co) no XS ∧ ∀ j u, [Value.slice a5 n5 c5, .bool bb][j]? = some u → (w5.alloc (.cells #[.slice a5 n5 c5, .bool bb] 63)).cell? ((⟨w5.heap.size, 0, none⟩ : Addr).add j) = some u) ∧ ∀ v' w', w'.ownsRow 0 63 2 v' (no + 1) (XS ++ [.slice a5 n5 c5, .bool bb]) → (w5.alloc (.cells #[.slice a5 n5 c5, .bool bb] 63)).grownBy w' (Value.slice ao no co).ownBlock → (v'.ownBlock = (Value.slice ao no co).ownBlock ∨ v'.ownBlock = some (w5.alloc (.cells #[.slice a5 n5 c5, .bool bb] 63)).heap.size) → PtP W (cntS x.steps + 1) (.returned v') w'))) := by
  have hns : ns = x.steps.len ∧ x.steps.len ≤ 1000 ∧ x.steps.len ≤ sc := by
    rcases hst with ⟨h, e⟩ | ⟨g, c, cur, e, _, _, hn, h0, _⟩
    · cases e; exact ⟨h.symm, by omega, by omega⟩
    · cases e; exact ⟨rfl, hn, h0.2⟩
  refine (ha W1 A at_ va si ns sc hm hst hl (by omega)).mono ?_
  rintro e w2 ⟨ao, no, co, xs, rfl, q1, q2, q3⟩
  have hno := q1.len
  have mv : Move A A W1 w2 := fun b hb hl => ⟨hb, q3.block b hl⟩
  have hmk := (hst.move mv).mkrR (i := x.steps.len) (Nat.le_refl _)
  rw [marks_all, ← hns.1] at hmk
  have hbl : (marksS x.steps).length ≤ 1000 := by rw [marks_len]; exact hns.2.1
  have hal : at_.length ≤ 1000 := Nat.le_trans (bareT_len _) (by omega)
  refine ⟨ao, no, co, rfl, q3, hide ((joinedR_ok (hm.below (B := 0) q3) hmk (by omega)).mono ?_)⟩
  rintro e w3 ⟨a3, n3, c3, rfl, r1, r2, r3⟩
  have hb3 := bon q3 r2
  refine ⟨a3, n3, c3, rfl, hb3, hide (isTextR_ok r1), hide fun m => ?_⟩
  have hbm := belowN (Below.refl w3.heap.size w3) m
  refine (bareR_ok (r1.below (B := 0) hbm)).mono ?_
  rintro e w5 ⟨a5, n5, c5, rfl, t1, t2, t3⟩
  have hb5 : Below w3.heap.size w3 w5 := bon hbm t2
  have hb25 : Below w2.heap.size w2 w5 := bon r2 hb5
  have hb15 := bon q3 hb25
  have hok : OkP w5 (.slice a5 n5 c5) := by
    refine ⟨_, t1, by rw [List.length_append]; omega, fun y hy => ?_⟩
    have h1 := test_len hy
    have h2 := bareT_app at_ (marksS x.steps)
    have h3 := bareT_marks x.steps
    omega
  refine ⟨a5, n5, c5, rfl, hb15, by omega, hide ⟨ptC xs, fun bb => ⟨⟨?_, ?_⟩, ?_⟩⟩⟩
  · have := ((q1.below hb25).row).alloc (.cells #[.slice a5 n5 c5, .bool bb] 63)
    rw [← hno] at this
    exact this
  · exact (PoR.one (b := bb) (B := 0) hok (Nat.zero_le _)).row.cells (g := w5.heap.size) rfl
  · intro v' w' z1 z2 z3
    have hb6 := (Below.refl w5.heap.size w5).alloc (Nat.le_refl _) (.cells #[.slice a5 n5 c5, .bool bb] 63)
    have hs1 : W1.heap.size ≤ (w5.alloc (.cells #[.slice a5 n5 c5, .bool bb] 63)).heap.size := Nat.le_trans hb15.size hb6.size
    have hP := ((q1.below hb25).below hb6).grow (ys := [(.slice a5 n5 c5, bb)]) (fun y hy => by rw [List.mem_singleton] at hy; subst hy; exact hok.below hb6) hs1 (by rw [List.length_append, List.length_singleton, ← hno]; exact z1) z2 z3
    obtain ⟨b1, b2, b3, rfl⟩ := own_shape z1
    refine ⟨b1, b2, b3, _, rfl, ⟨hP.row, hP.ok, fun k e => Nat.le_trans hb0.size (hP.new k e)⟩, by rw [List.length_append, List.length_singleton]; omega, ?_⟩
    exact bon hb0 ((bon hb15 hb6).grown z2 hs1 fun k e => q1.new k e)
set_option maxHeartbeats 32000000 in
set_option maxRecDepth 100000 in
theorem ofR_one {x : Prd} (hj : ¬ joinB x.op) (ha : AlR x.steps) : CdR x := by
  intro W A at_ va ki nk kc si ns sc hm hva hp hst hl hcnt
  obtain ⟨i0, hi0, hz0, hz1, hz2⟩ := info_parts info63
  have hB := Below_new W (.cells (aP (bs x.op) ki nk kc si ns sc (bs x.attr) (bs x.text)) 97)
  have hb0 := (Below.refl W.heap.size W).alloc (Nat.le_refl _) (.cells (aP (bs x.op) ki nk kc si ns sc (bs x.attr) (bs x.text)) 97)
  obtain ⟨c0, c1, c2, c3, c4⟩ := cellsP5 hB
  have e1 : cnt1 x = cntS x.steps + 1 := by unfold cnt1; rw [if_neg hj]
  rw [e1] at hcnt ⊢
  have mv : Move A A W (W.alloc (.cells (aP (bs x.op) ki nk kc si ns sc (bs x.attr) (bs x.text)) 97)) := fun b hb hl => ⟨hb, hb0.block b hl⟩
  obtain ⟨W1, hW1⟩ : ∃ W1, W.alloc (.cells (aP (bs x.op) ki nk kc si ns sc (bs x.attr) (bs x.text)) 97) = W1 := ⟨_, rfl⟩
  rw [hW1] at hB hb0 c0 c1 c2 c3 c4 mv
  have HA := hide (ofR_end ha hb0 (hm.below (B := 0) hb0) (hst.move mv) (by omega) hcnt)
  have HK : Hid (∀ w', Below W1.heap.size W1 w' → C5 w' W.heap.size (bs x.op) ki nk kc si ns sc (bs x.attr) (bs x.text)) := hide fun w' hb => by
    have hk := hb.block _ (blk_lt hB)
    exact ⟨(World.cell?_of_block hk).trans c0, (World.cell?_of_block hk).trans c1, (World.cell?_of_block hk).trans c2, (World.cell?_of_block hk).trans c3, (World.cell?_of_block hk).trans c4⟩
  obtain ⟨ai, cap, rfl, -⟩ := hm
  generalize PtP W (cntS x.steps + 1) = PP at *
  have hop : ((bs x.op).toList == [111, 114]) = false ∧ ((bs x.op).toList == [97, 110, 100]) = false ∧ ((bs x.op).toList == [110, 111, 116]) = false := by
    rw [bs_toL]
    unfold joinB at hj
    simp only [not_or] at hj
    exact ⟨by simpa using hj.1, by simpa using hj.2.1, by simpa using hj.2.2⟩
  clear ha hp hst hl hcnt hva hb0 hB mv hj e1
  generalize bs x.op = OP at *
  generalize bs x.attr = AT at *
  generalize bs x.text = TX at *
  generalize at_.length = na at *
  obtain ⟨h1, h2, h3⟩ := hop
  obtain ⟨b1, hb1⟩ : ∃ b, (OP.toList != [104, 97, 115]) = b := ⟨_, rfl⟩
  obtain ⟨b2, hb2⟩ : ∃ b, (AT.toList == []) = b := ⟨_, rfl⟩
  go_enter Tryz.func37, Tryz.ntmps37
  go_wp2_with (first
    | (go_at_call 21; refine HA.out.mono ?_; rintro e w2 ⟨ao, no, co, rfl, hB2, H2⟩; obtain ⟨d0, d1, d2, d3, d4⟩ := HK.out _ hB2; clear HA c0 c1 c2 c3 c4 hW1)
    | (go_at_call 36; refine H2.out.mono ?_; rintro e w3 ⟨a3, n3, c3, rfl, hB3, H3, H4⟩; clear d0 d1 d2 d3 d4; obtain ⟨d0, d1, d2, d3, d4⟩ := HK.out _ hB3; clear H2)
    | (go_at_call 22; refine H3.out.mono ?_; rintro e w4 ⟨⟨tx, rfl⟩, hw⟩; have hw' := hw.symm; clear hw; subst hw'; clear H3))
  have HX : Hid (Calls Tryz.prog 23 #[.slice a3 n3 c3] w3.drew fun e w5 => ∃ a5 n5 c5 XS, e = .returned (.slice a5 n5 c5) ∧ C5 w5 W.heap.size OP ki nk kc si ns sc AT TX ∧ no ≤ 1000000 ∧ Hid (∀ bb : Bool, ((w5.alloc (.cells #[.slice a5 n5 c5, .bool bb] 63)).ownsRow 0 63 2 (.slice ao no co) no XS ∧ ∀ j u, [Value.slice a5 n5 c5, .bool bb][j]? = some u → (w5.alloc (.cells #[.slice a5 n5 c5, .bool bb] 63)).cell? ((⟨w5.heap.size, 0, none⟩ : Addr).add j) = some u) ∧ ∀ v' w', w'.ownsRow 0 63 2 v' (no + 1) (XS ++ [.slice a5 n5 c5, .bool bb]) → (w5.alloc (.cells #[.slice a5 n5 c5, .bool bb] 63)).grownBy w' (Value.slice ao no co).ownBlock → (v'.ownBlock = (Value.slice ao no co).ownBlock ∨ v'.ownBlock = some (w5.alloc (.cells #[.slice a5 n5 c5, .bool bb] 63)).heap.size) → PP (.returned v') w')) := hide ((H4.out 1).mono fun e w5 ⟨a5, n5, c5, q1, q2, q3, q4⟩ => by
    obtain ⟨XS, q5⟩ := q4.out
    exact ⟨a5, n5, c5, XS, q1, HK.out _ q2, q3, hide q5⟩)
  clear H4 HK hB2 hB3
  have hb3 : (OP.toList == [104, 97, 115]) = !b1 := by rw [← hb1]; simp [bne]
  cases b1 <;> cases b2 <;> cases tx <;> (simp only [Bool.not_true, Bool.not_false] at hb3)
  all_goals
    first
      | go_region_law
            (first
              | (refine step_own_at rfl (.tmp 51) (.tmp 67) 30 rfl 63 i0 _ 2 32 Tryz.underlying30 hi0 hz0 hz1 hz2 rfl (by decide) (.slice ao no co) no XS (by simp [Act.eval, Act.put]) (H5.out true).1.1 ⟨w5.heap.size, 0, none⟩ 1 1 [.slice a5 n5 c5, .bool true] (by simp [Act.eval, Act.put]) rfl (H5.out true).1.2 (by simp [Value.oneCell']) (by unfold maxLen; omega) (by omega) ?_; intro v7 w7 ho hg hat; have H7 := hide ((H5.out true).2 _ _ ho ⟨hg.os, hg.tape, hg.output, hg.size, hg.block⟩ hat); obtain ⟨a7, n7, c7, rfl⟩ := own_shape ho; clear ho hg hat)
              | (refine step_own_at rfl (.tmp 51) (.tmp 67) 30 rfl 63 i0 _ 2 32 Tryz.underlying30 hi0 hz0 hz1 hz2 rfl (by decide) (.slice ao no co) no XS (by simp [Act.eval, Act.put]) (H5.out false).1.1 ⟨w5.heap.size, 0, none⟩ 1 1 [.slice a5 n5 c5, .bool false] (by simp [Act.eval, Act.put]) rfl (H5.out false).1.2 (by simp [Value.oneCell']) (by unfold maxLen; omega) (by omega) ?_; intro v7 w7 ho hg hat; have H7 := hide ((H5.out false).2 _ _ ho ⟨hg.os, hg.tape, hg.output, hg.size, hg.block⟩ hat); obtain ⟨a7, n7, c7, rfl⟩ := own_shape ho; clear ho hg hat)
              | (go_simp; go_at_call 23; refine HX.out.mono ?_; rintro e w5 ⟨a5, n5, c5, XS, rfl, ⟨e0, e1, e2, e3, e4⟩, hno, H5⟩; dsimp only))
      | fail "the region"
    all_goals
      go_wp2
      first | exact H7.out | (go_ret; exact H7.out)
end Go.Proofs.YtoahlnmhjinneaaGreatDoor

set_option linter.unusedSimpArgs false
set_option linter.unusedVariables false
namespace Go.Proofs.YtoahlnmhjinneaaGreatDoor
open Go.RowKit Go.Maps Go.Lib
theorem ofR_any {x : Prd} (hk : ∀ j y, x.kids.get j = some y → CdR y) (hs : AlR x.steps) : CdR x := by
  by_cases hj : joinB x.op
  · exact ofR_join hj hk
  · exact ofR_one hj hs
theorem alongR_all : (∀ s : Stps, ∀ i x, s.get i = some x → ∀ j y, x.preds.get j = some y → CdR y) ∧ ∀ p : Prds, ∀ j y, p.get j = some y → CdR y := by
  refine ⟨fun s => Stps.rec (motive_1 := fun s => ∀ i x, s.get i = some x → ∀ j y, x.preds.get j = some y → CdR y) (motive_2 := fun p => ∀ j y, p.get j = some y → CdR y) ?_ ?_ ?_ ?_ s, fun s => Prds.rec (motive_1 := fun s => ∀ i x, s.get i = some x → ∀ j y, x.preds.get j = some y → CdR y) (motive_2 := fun p => ∀ j y, p.get j = some y → CdR y) ?_ ?_ ?_ ?_ s⟩
  all_goals first
    | (intro i x h; cases h; done)
    | (intro d t p m ih1 ih2 i x h
       cases i with
       | zero => cases h; exact ih1
       | succ i => exact ih2 i x h)
    | (intro o k s a t m ih1 ih2 ih3 i x h
       cases i with
       | zero => cases h; exact ofR_any ih1 (alongR_ok _ ih2)
       | succ i => exact ih3 i x h)
theorem alongR_any (s : Stps) : AlR s := alongR_ok s (alongR_all.1 s)
end Go.Proofs.YtoahlnmhjinneaaGreatDoor

set_option linter.unusedSimpArgs false
set_option linter.unusedVariables false
namespace Go.Proofs.YtoahlnmhjinneaaGreatDoor
open Go.RowKit Go.Maps Go.Lib
variable {w w' w1 W wr : World} {v u : Value} {i B : Nat} {xs ys : List (Value × Bool)} {A : Nat → Prop} {qs : List L} {q : L}
def NR (W : World) (qs : List L) (e : Ending) (w' : World) : Prop := Below W.heap.size W w' ∧ match needed 0 qs with
  | .error y => ∃ a b : Nat, e = .returned (.tuple #[.slice none 0 0, .int .i64 y.1, .int .i64 (a : Nat), .int .i64 (b : Nat)])
  | .ok _ => ∃ s n c, e = .returned (.tuple #[.slice s n c, .int .i64 0, .int .i64 0, .int .i64 0])
def MidF (qs : List L) (i : Nat) : Prop := (∃ pre, needed 0 qs = (match needed i (qs.drop i) with | .error e => .error e | .ok r => .ok (pre ++ r))) ∧ ∀ k q, k < i → qs[k]? = some q → ∃ ls, parse q = .ok ls
theorem MidF.start (qs : List L) : MidF qs 0 := by
  refine ⟨⟨[], ?_⟩, fun k q h => by omega⟩
  rw [List.drop_zero]
  cases needed 0 qs <;> rfl
theorem MidF.bad {y : Nat × Nat} (hq : qs[i]? = some q) (hp : parse q = .error y) (M : MidF qs i) : needed 0 qs = .error (y.1, y.2, i + 1) ∧ Calls Tryz.prog 20 #[.string (bs q)] wr fun e w' => ∃ at_ : Nat, e = .returned (.tuple #[.slice none 0 0, .int .i64 y.1, .int .i64 (at_ : Nat)]) ∧ Below wr.heap.size wr w' := by
  obtain ⟨⟨pre, m5⟩, -⟩ := M
  obtain ⟨hl, e⟩ := List.getElem?_eq_some_iff.1 hq
  rw [List.drop_eq_getElem_cons hl, e, needed, hp] at m5
  refine ⟨m5, (parseR_ok q wr).mono ?_⟩
  have hs := parse_sim q
  rw [hp] at hs
  obtain ⟨-, at_, hR⟩ := hs
  rw [hR]
  rintro e w' ⟨h1, h2⟩
  exact ⟨at_, h2, h1⟩
theorem parseR_good {ls : List (List Stp)} (hp : parse q = .ok ls) : Calls Tryz.prog 20 #[.string (bs q)] wr fun e w' => ∃ a n c, e = .returned (.tuple #[.slice a n c, .int .i64 0, .int .i64 0]) ∧ Below wr.heap.size wr w' ∧ QS w' (fun b => wr.heap.size ≤ b) 59 94 97 (.slice a n c) ls := by
  have hs := parse_sim q
  rw [hp] at hs
  refine (parseR_ok q wr).mono ?_
  rw [hs]
  rintro e w' ⟨h1, v, h2, h3⟩
  obtain ⟨ai, cap, rfl⟩ := sl.shape h3
  exact ⟨ai, _, cap, h2, h1, h3⟩
theorem MidF.good {ls : List (List Stp)} (hq : qs[i]? = some q) (hp : parse q = .ok ls) (M : MidF qs i) : MidF qs (i + 1) := by
  obtain ⟨⟨pre, m5⟩, m6⟩ := M
  obtain ⟨hl, e⟩ := List.getElem?_eq_some_iff.1 hq
  rw [List.drop_eq_getElem_cons hl, e, needed, hp] at m5
  refine ⟨⟨pre ++ needQ ls, ?_⟩, fun k q' hk hq' => ?_⟩
  · rw [m5]
    cases needed (i + 1) (qs.drop (i + 1)) with
    | error e => rfl
    | ok r => simp only [List.append_assoc]
  · by_cases h : k < i
    · exact m6 k q' h hq'
    · obtain rfl : k = i := by omega
      rw [hq] at hq'
      cases hq'
      exact ⟨ls, hp⟩
theorem MidF.fin (M : MidF qs qs.length) : ∃ r, needed 0 qs = .ok r := by
  obtain ⟨⟨pre, m5⟩, -⟩ := M
  rw [List.drop_length, needed] at m5
  exact ⟨_, m5⟩
end Go.Proofs.YtoahlnmhjinneaaGreatDoor

set_option linter.unusedSimpArgs false
set_option linter.unusedVariables false
namespace Go.Proofs.YtoahlnmhjinneaaGreatDoor
open Go.RowKit Go.Maps Go.Lib
variable {w w' w1 W wr : World} {v u : Value} {i B : Nat} {xs ys : List (Value × Bool)} {A : Nat → Prop} {qs : List L} {q : L}
set_option maxHeartbeats 8000000 in
set_option maxRecDepth 100000 in
theorem needR_bad {y : Nat × Nat × Nat} (hy : needed 0 qs = .error y) (hq : StR W v qs) : Calls Tryz.prog 7 #[v] W (NR W qs) := by
  obtain ⟨ai, cap, rfl, ⟨hn, -⟩, hr⟩ := id hq
  have HE : Hid (∀ wr (a b : Nat), Below W.heap.size W wr → NR W qs (.returned (.tuple #[.slice none 0 0, .int .i64 y.1, .int .i64 (a : Nat), .int .i64 (b : Nat)])) wr) := hide fun wr a b hb => by
    refine ⟨hb, ?_⟩
    rw [hy]
    exact ⟨a, b, rfl⟩
  have HR : Hid (∀ i wr, i < qs.length → MidF qs i → Below W.heap.size W wr → ∃ g off T, ai = some ⟨g, off, none⟩ ∧ wr.cell? ⟨g, off + i, none⟩ = some (.string T) ∧ (Hid (Calls Tryz.prog 20 #[.string T] wr fun e w' => ∃ at_ : Nat, e = .returned (.tuple #[.slice none 0 0, .int .i64 y.1, .int .i64 (at_ : Nat)]) ∧ Below W.heap.size W w') ∨ Hid (MidF qs (i + 1) ∧ Calls Tryz.prog 20 #[.string T] wr fun e w' => ∃ a n c, e = .returned (.tuple #[.slice a n c, .int .i64 0, .int .i64 0]) ∧ Below W.heap.size W w'))) := hide fun i wr hi M hb => by
    have hx : qs[i]? = some qs[i] := List.getElem?_eq_getElem hi
    obtain ⟨ai', cap', e, _, hr'⟩ := hq.below hb
    cases e
    obtain ⟨g, off, e1, hg, h0⟩ := hr' i _ hx
    refine ⟨g, off, _, e1, h0, ?_⟩
    cases hp : parse qs[i] with
    | error z =>
      obtain ⟨m1, m2⟩ := M.bad (wr := wr) hx hp
      rw [hy] at m1
      cases m1
      refine Or.inl (hide (m2.mono ?_))
      rintro e w' ⟨at_, h1, h2⟩
      exact ⟨at_, h1, bon hb h2⟩
    | ok ls =>
      refine Or.inr (hide ⟨M.good hx hp, (parseR_good hp).mono ?_⟩)
      rintro e w' ⟨a, n, c, h1, h2, -⟩
      exact ⟨a, n, c, h1, bon hb h2⟩
  have HF : Hid (MidF qs qs.length → False) := hide fun M => by
    obtain ⟨r, hr⟩ := M.fin
    rw [hy] at hr
    cases hr
  have hy1 : (((y.1 : Nat) : Int) != 0) = true := by simpa using needed_ne qs 0 hy
  have hy2 : (((y.1 : Nat) : Int) == 0) = false := by simpa using needed_ne qs 0 hy
  have M0 := hide (MidF.start qs)
  clear hr hq hy
  generalize MidF qs = MM at *
  generalize NR W qs = PP at *
  generalize qs.length = len at *
  generalize y.1 = y1 at *
  go_enter Tryz.func7, Tryz.ntmps7
  go_wp2_with fail
  go_loopw [7] (fun iv wr => ∃ i : Nat, iv = .int .i64 i ∧ i ≤ len ∧ MM i ∧ Below W.heap.size W wr) (fun iv _ => len - (RowKit.intOf iv).toNat)
  case atStart => exact ⟨0, rfl, Nat.zero_le _, M0.out, Below.refl _ _⟩
  case round =>
    rename World => WO
    obtain ⟨i, rfl, hi, hM, hB⟩ := hrel
    clear M0
    by_cases hlt : i < len
    · obtain ⟨g, off, T, rfl, c0, HC⟩ := HR.out i _ hlt hM hB
      have hdec : decide ((i : Int) < len) = true := by simp; omega
      have hii : (i : Int) < len := by omega
      have hwr : IntKind.i64.wrap ((i : Int) + 1) = ((i + 1 : Nat) : Int) := by rw [IntKind.wrap_i64]; omega
      clear HR hM
      rcases HC with HC | HC
      · go_wp2_with (go_at_call 20; refine HC.out.mono ?_; rintro e w5 ⟨at_, rfl, h5⟩; have H9 := hide (HE.out w5 at_ (i + 1) h5); clear HC HE)
        exact bodyPost_ret (v := .tuple #[.slice none 0 0, .int .i64 y1, .int .i64 (at_ : Nat), .int .i64 ((i + 1 : Nat) : Int)]) (by simp [results, Tryz.results7, go_sem]) rfl H9.out
      · obtain ⟨hM1, hC⟩ := HC.out
        have HD := hide hC
        clear HC hC
        go_wp2_with (go_at_call 20; refine HD.out.mono ?_; rintro e w5 ⟨a5, n5, c5, rfl, h5⟩; clear HD)
        exact ⟨⟨i + 1, by simp, by omega, hM1, h5⟩, by simp only [RowKit.intOf]; omega⟩
    · exfalso
      have : i = len := by omega
      exact HF.out (this ▸ hM)
end Go.Proofs.YtoahlnmhjinneaaGreatDoor

set_option linter.unusedSimpArgs false
set_option linter.unusedVariables false
namespace Go.Proofs.YtoahlnmhjinneaaGreatDoor
open Go.RowKit Go.Maps Go.Lib
variable {w w' w1 W wr : World} {v u : Value} {i B : Nat} {xs ys : List (Value × Bool)} {A : Nat → Prop} {qs : List L} {q : L}
theorem MkR.none (w : World) : MkR w (.slice none 0 0) [] := ⟨_, 0, rfl, ⟨by simp, by simp⟩, fun i m hm => by simp at hm⟩
theorem path_part {s : Stps} {si : Option Addr} {sn sc : Nat} (hs : slS wr A 94 97 (.slice si sn sc) s) (hl : lS s ≤ 1000) (hcnt : cntS s ≤ 1000000) :
    Calls Tryz.prog 21 #[.slice none 0 0, .slice si sn sc] wr fun e w1 => ∃ a n c, e = .returned (.slice a n c) ∧ Below wr.heap.size wr w1 ∧ Hid (Calls Tryz.prog 22 #[.slice si sn sc] w1 fun e w2 => IsB e ∧ w2 = w1) ∧
      Hid (Calls Tryz.prog 23 #[.slice si sn sc] w1 fun e w3 => ∃ a3 n3 c3, e = .returned (.slice a3 n3 c3) ∧ Below wr.heap.size wr w3 ∧ Hid (∀ bb : Bool, ∃ va vn vc w4, (Builtin.append_ #[30, 30] 30 #[.slice a n c, .slice (some ⟨w3.heap.size, 0, none⟩) 1 1]).run Tryz.prog (w3.alloc (.cells #[.slice a3 n3 c3, .bool bb] 63)) = .ok (.slice va vn vc) w4 ∧ Hid (∃ ys, PoR wr.heap.size w4 (.slice va vn vc) ys ∧ ys.length ≤ cntS s + 1 ∧ Below wr.heap.size wr w4))) := by
  have hns : sn = s.len ∧ s.len ≤ 1000 ∧ s.len ≤ sc := by
    rcases hs with ⟨h, e⟩ | ⟨g, c, cur, e, _, _, hn, h0, _⟩
    · cases e; exact ⟨h.symm, by omega, by omega⟩
    · cases e; exact ⟨rfl, hn, h0.2⟩
  have hb00 : (bareT ([] : List Mk)).length = 0 := rfl
  refine (alongR_any s wr A [] _ si sn sc (MkR.none wr) hs (by omega) hcnt).mono ?_
  rintro e w1 ⟨a, n, c, xs, rfl, q1, q2, q3⟩
  have mv : Move A A wr w1 := fun b hb hl => ⟨hb, q3.block b hl⟩
  have hmk := (hs.move mv).mkrR (i := s.len) (Nat.le_refl _)
  rw [marks_all, ← hns.1] at hmk
  refine ⟨a, n, c, rfl, q3, hide (isTextR_ok hmk), hide ((bareR_ok hmk).mono ?_)⟩
  rintro e w3 ⟨a3, n3, c3, rfl, t1, t2, t3⟩
  have hb3 := bon q3 t2
  have hok : OkP w3 (.slice a3 n3 c3) := by
    refine ⟨_, t1, by rw [marks_len]; omega, fun y hy => ?_⟩
    have h1 := test_len hy
    have h3 := bareT_marks s
    omega
  refine ⟨a3, n3, c3, rfl, hb3, hide fun bb => ?_⟩
  have hb4 := (Below.refl w3.heap.size w3).alloc (Nat.le_refl _) (.cells #[.slice a3 n3 c3, .bool bb] 63)
  have hsz := hb3.size
  obtain ⟨va, vn, vc, w4, r, r1, r2, -⟩ := run_appP ((q1.below t2).below hb4) (PoR.one (b := bb) hok hsz) (by simp; omega) (Nat.le_trans hsz hb4.size)
  exact ⟨va, vn, vc, w4, r, hide ⟨_, r1, by rw [List.length_append, List.length_singleton]; omega, (bon hb3 hb4).grown r2 (Nat.le_trans hsz hb4.size) fun k e => q1.new k e⟩⟩
def MO (W W1 : World) (F : Nat → Prop) (N : Nat) (m : Value) (ms : List (Value × Bool)) (v : Value) (wr : World) : Prop := (∃ a n c, v = .slice a n c) ∧ ∃ xs, PoR W.heap.size wr v xs ∧ xs.length ≤ N ∧ Below W.heap.size W wr ∧ PoR W.heap.size wr m ms ∧ (∀ k, m.ownBlock = some k → v.ownBlock ≠ some k) ∧ Fr F W1 wr ∧ ∀ k, v.ownBlock = some k → F k ∨ W1.heap.size ≤ k
theorem MO.step {W1 : World} {F : Nat → Prop} {N : Nat} {m : Value} {ms : List (Value × Bool)} {a : Option Addr} {n c : Nat} {b : Bool} (M : MO W W1 F N m ms v wr) (hN : N + 1 ≤ 1000000000000) (hu : OkP wr (.slice a n c)) : Calls Tryz.prog 24 #[v, .agg #[.slice a n c, .bool b]] wr fun e w' => ∃ a' n' c', e = .returned (.slice a' n' c') ∧ Hid (MO W W1 F (N + 1) m ms (.slice a' n' c') w') := by
  obtain ⟨-, xs, m1, m2, m3, m4, m5, m6, m7⟩ := M
  refine (addR_ok b m1 hu m3.size (by omega)).mono ?_
  rintro e w' ⟨a', n', c', ys, rfl, q1, q2, q3, q4⟩
  have hB : Below W.heap.size W w' := m3.trans (q3.up (K := W.heap.size) (fun k e => m1.new k e) m3.size)
  refine ⟨a', n', c', rfl, hide ⟨⟨_, _, _, rfl⟩, ys, q1, by omega, hB, ⟨owns_of m4.row fun k e => q3.block k (own_lt m4.row e) (m5 k e), fun y hy => ?_, m4.new⟩, fun k e e' => ?_, m6.trans q3 fun k hk e => ?_, fun k e => ?_⟩⟩
  · refine (m4.ok y hy).of fun k e ⟨cur, fz, hk⟩ => q3.block k (blk_lt hk) fun e' => ?_
    obtain ⟨cur', fz', hk'⟩ := own_cells m1.row e'
    rw [hk] at hk'
    cases hk'
  · rcases q4 k e' with h | h
    · exact m5 k e h
    · have := own_lt m4.row e
      omega
  · rcases m7 k e with h | h
    · exact h
    · omega
  · rcases q4 k e with h | h
    · exact m7 k h
    · exact Or.inr (Nat.le_trans m6.size h)
end Go.Proofs.YtoahlnmhjinneaaGreatDoor

set_option linter.unusedSimpArgs false
set_option linter.unusedVariables false
namespace Go.Proofs.YtoahlnmhjinneaaGreatDoor
open Go.RowKit Go.Maps Go.Lib
variable {w w' w1 W wr : World} {v u : Value} {i B : Nat} {xs ys : List (Value × Bool)} {A : Nat → Prop} {qs : List L} {q : L}
theorem QS.atR {A : Nat → Prop} {ls : List (List Stp)} {pi : Option Addr} {pn pc j : Nat} {p : List Stp} (h : QS w A 59 94 97 (.slice pi pn pc) ls) (hj : ls[j]? = some p) : ∃ g si sn sc, pi = some ⟨g, 0, none⟩ ∧ A g ∧ g < w.heap.size ∧ w.cell? ⟨g, j, none⟩ = some (.slice si sn sc) ∧ slS w A 94 97 (.slice si sn sc) (Stps.of p) := by
  rcases h with ⟨h, _⟩ | ⟨g, cap', cur, e, ha, hb, hn, h0, hr⟩
  · have := List.eq_nil_of_length_eq_zero h
    subst this
    simp at hj
  · cases e
    obtain ⟨u, h1, h2⟩ := hr j p hj
    obtain ⟨si, sc, rfl, _⟩ := h2.len
    exact ⟨g, si, _, sc, rfl, ha, blk_lt hb, h1, h2⟩
def MQ (W : World) (i : Nat) (v : Value) (wr : World) : Prop := (∃ a n c, v = .slice a n c) ∧ ∃ xs, PoR W.heap.size wr v xs ∧ xs.length ≤ 1001 * i ∧ Below W.heap.size W wr
def MP (W W1 : World) (F : Nat → Prop) (N : Nat) (v : Value) (wr : World) : Prop := (∃ a n c, v = .slice a n c) ∧ ∃ xs, PoR W.heap.size wr v xs ∧ xs.length ≤ N ∧ Below W.heap.size W wr ∧ Fr F W1 wr ∧ ∀ k, v.ownBlock = some k → F k ∨ W1.heap.size ≤ k
theorem MP.row {W1 w4 : World} {F : Nat → Prop} {N : Nat} {va : Option Addr} {vn vc : Nat} (M : MP W W1 F N v wr) (hm : PoR wr.heap.size w4 (.slice va vn vc) ys) (hb : Below wr.heap.size wr w4) (hN : N + ys.length ≤ 1000000000000) :
    ∃ RJ : Nat → Value → World → Prop, RJ 0 v w4 ∧ (∀ j v wr, RJ j v wr → ∃ a n c, v = .slice a n c) ∧ (∀ v wr, RJ vn v wr → MP W W1 F (N + ys.length) v wr) ∧
      ∀ j v wr, j < vn → RJ j v wr → ∃ g a n c b, va = some ⟨g, 0, none⟩ ∧ wr.cell? ⟨g, j * 2, none⟩ = some (.slice a n c) ∧ wr.cell? ⟨g, j * 2 + 1, none⟩ = some (.bool b) ∧ Hid (Calls Tryz.prog 24 #[v, .agg #[.slice a n c, .bool b]] wr fun e w' => ∃ a' n' c', e = .returned (.slice a' n' c') ∧ Hid (RJ (j + 1) (.slice a' n' c') w')) := by
  obtain ⟨m0, xs, m1, m2, m3, m4, m5⟩ := M
  have hl := hm.len
  refine ⟨fun j v wr => MO W W1 F (N + j) (.slice va vn vc) ys v wr, ?_, fun j v wr h => h.1, ?_, ?_⟩
  · refine ⟨m0, xs, m1.below hb, by omega, bon m3 hb, ⟨hm.row, hm.ok, fun k e => Nat.le_trans m3.size (hm.new k e)⟩, fun k e e' => ?_, m4.on hb, m5⟩
    have h1 := hm.new k e
    have h2 := own_lt m1.row e'
    omega
  · rintro v wr ⟨h0, xs, h1, h2, h3, -, -, h4, h5⟩
    exact ⟨h0, xs, h1, by omega, h3, h4, h5⟩
  · intro j v' wr' hj M'
    obtain ⟨-, _, _, _, _, n4, _⟩ := id M'
    obtain ⟨g, a, n, c, b, e1, c0, c1, hok⟩ := n4.at (i := j) (by omega)
    exact ⟨g, a, n, c, b, e1, c0, c1, hide (M'.step (by omega) hok)⟩
def NQP (R : Nat → Value → World → Prop) (i : Nat) (v : Value) (e : Ending) (w1 : World) : Prop := ∃ pi pn pc, ∃ RP : Nat → Value → World → Prop, e = .returned (.tuple #[.slice pi pn pc, .int .i64 0, .int .i64 0]) ∧ pn ≤ 1000 ∧ Hid (RP 0 v w1) ∧ Hid (∀ k v wr, RP k v wr → ∃ a n c, v = .slice a n c) ∧ Hid (∀ v wr, RP pn v wr → R (i + 1) v wr) ∧
      Hid (∀ k v wr, k < pn → RP k v wr → ∃ g si sn sc, pi = some ⟨g, 0, none⟩ ∧ wr.cell? ⟨g, k, none⟩ = some (.slice si sn sc) ∧
        Hid (Calls Tryz.prog 21 #[.slice none 0 0, .slice si sn sc] wr fun e w1 => ∃ a n c, e = .returned (.slice a n c) ∧ w1.cell? ⟨g, k, none⟩ = some (.slice si sn sc) ∧ Hid (Calls Tryz.prog 22 #[.slice si sn sc] w1 fun e w2 => IsB e ∧ w2 = w1) ∧
          Hid (Calls Tryz.prog 23 #[.slice si sn sc] w1 fun e w3 => ∃ a3 n3 c3, e = .returned (.slice a3 n3 c3) ∧ Hid (∀ bb : Bool, ∃ va vn vc w4, (Builtin.append_ #[30, 30] 30 #[.slice a n c, .slice (some ⟨w3.heap.size, 0, none⟩) 1 1]).run Tryz.prog (w3.alloc (.cells #[.slice a3 n3 c3, .bool bb] 63)) = .ok (.slice va vn vc) w4 ∧ vn ≤ 1001 ∧
            Hid (∃ RJ : Nat → Value → World → Prop, RJ 0 v w4 ∧ (∀ j v wr, RJ j v wr → ∃ a n c, v = .slice a n c) ∧ (∀ v wr, RJ vn v wr → RP (k + 1) v wr) ∧
              ∀ j v wr, j < vn → RJ j v wr → ∃ g a n c b, va = some ⟨g, 0, none⟩ ∧ wr.cell? ⟨g, j * 2, none⟩ = some (.slice a n c) ∧ wr.cell? ⟨g, j * 2 + 1, none⟩ = some (.bool b) ∧ Hid (Calls Tryz.prog 24 #[v, .agg #[.slice a n c, .bool b]] wr fun e w' => ∃ a' n' c', e = .returned (.slice a' n' c') ∧ Hid (RJ (j + 1) (.slice a' n' c') w')))))))
theorem need_query {ls : List (List Stp)} (hp : parse q = .ok ls) (hi : 1001 * (i + 1) ≤ 1000000000000) (M : MQ W i v wr) :
    Calls Tryz.prog 20 #[.string (bs q)] wr (NQP (MQ W) i v) := by
  obtain ⟨m0, xs, m1, m2, m3⟩ := M
  obtain ⟨hn1, hn2⟩ := parse_needs hp
  refine (parseR_good hp).mono ?_
  rintro e w1 ⟨pi, pn, pc, rfl, hb1, hQ⟩
  have hlen : pn = ls.length ∧ ls.length ≤ 1000 := by
    rcases hQ with ⟨h, e⟩ | ⟨g, cap, cur, e, _, _, hn, _⟩
    · cases e; exact ⟨h.symm, by omega⟩
    · cases e; exact ⟨rfl, hn⟩
  obtain ⟨rfl, hlen⟩ := hlen
  have hF0 : ∀ b, wr.heap.size ≤ b → ¬ v.ownBlock = some b := fun b hb e => by
    have := own_lt m1.row e
    omega
  refine ⟨pi, _, pc, fun k v' wr' => ∃ N, N + (needQ (ls.drop k)).length ≤ 1001 * (i + 1) ∧ MP W w1 (fun b => v.ownBlock = some b) N v' wr', rfl, hlen, hide ?_, hide ?_, hide ?_, hide ?_⟩
  · exact ⟨1001 * i, by rw [List.drop_zero]; omega, m0, xs, m1.below hb1, m2, bon m3 hb1, Fr.refl _ _, fun k e => Or.inl e⟩
  · rintro k v' wr' ⟨N, _, h⟩
    exact h.1
  · rintro v' wr' ⟨N, h0, h1, xs', h2, h3, h4, _, _⟩
    exact ⟨h1, xs', h2, by omega, h4⟩
  · rintro k v' wr' hk ⟨N, h0, M⟩
    have hpj : ls[k]? = some ls[k] := List.getElem?_eq_getElem hk
    obtain ⟨g, si, sn, sc, e1, hg, hgl, a0, hs⟩ := hQ.atR hpj
    obtain ⟨hp1, hp2⟩ := hn2 _ (List.getElem_mem hk)
    have hfr : Fr (fun b => v.ownBlock = some b) w1 wr' := by
      obtain ⟨_, _, _, _, _, h, _⟩ := M
      exact h
    have mv : Move (fun b => wr.heap.size ≤ b) (fun b => wr.heap.size ≤ b) w1 wr' := fun b hb hl => ⟨hb, hfr.block b hl (hF0 b hb)⟩
    have hcell := (World.cell?_of_block (hfr.block g hgl (hF0 g hg))).trans a0
    have hdr : (needQ (ls.drop k)).length ≤ (needQ ls).length := by
      have e : needQ ls = needQ (ls.take k) ++ needQ (ls.drop k) := by
        conv => lhs; rw [← List.take_append_drop k ls]
        unfold needQ
        rw [List.flatMap_append]
      rw [e, List.length_append]
      omega
    rw [needQ_get hpj, List.length_append] at h0 hdr
    have hpl : (pathN ls[k]).length = cntS (Stps.of ls[k]) + 1 := by rw [pathN, List.length_append, cnt_len.1, List.length_singleton]
    refine ⟨g, si, sn, sc, e1, hcell, hide ((path_part (hs.move mv) hp2 (by omega)).mono ?_)⟩
    rintro e w2 ⟨a, n, c, rfl, hb2, h22, h23⟩
    have hgl2 : g < wr'.heap.size := Nat.lt_of_lt_of_le hgl hfr.size
    refine ⟨a, n, c, rfl, (World.cell?_of_block (hb2.block g hgl2)).trans hcell, h22, hide (h23.out.mono ?_)⟩
    rintro e w3 ⟨a3, n3, c3, rfl, hb3, h4⟩
    refine ⟨a3, n3, c3, rfl, hide fun bb => ?_⟩
    obtain ⟨va, vn, vc, w4, r, h5⟩ := h4.out bb
    obtain ⟨ys, y1, y2, y3⟩ := h5.out
    have hvn := y1.len
    obtain ⟨RJ, r1, r2, r3, r4⟩ := M.row y1 y3 (by omega)
    refine ⟨va, vn, vc, w4, r, by omega, hide ⟨RJ, r1, r2, fun v wr h => ⟨N + ys.length, by omega, r3 v wr h⟩, r4⟩⟩
end Go.Proofs.YtoahlnmhjinneaaGreatDoor

set_option linter.unusedSimpArgs false
set_option linter.unusedVariables false
namespace Go.Proofs.YtoahlnmhjinneaaGreatDoor
open Go.RowKit Go.Maps Go.Lib
variable {w w' w1 W wr : World} {v u : Value} {i B : Nat} {xs ys : List (Value × Bool)} {A : Nat → Prop} {qs : List L} {q : L}
theorem needed_all : ∀ (qs : List L) (i : Nat) (r : List Np), needed i qs = .ok r → ∀ q ∈ qs, ∃ ls, parse q = .ok ls
  | [], _, _, _, q, h => by simp at h
  | x :: qs, i, r, h, q, hq => by
    rw [needed] at h
    cases hp : parse x with
    | error e => rw [hp] at h; cases h
    | ok ls =>
      rw [hp] at h
      simp only at h
      rcases List.mem_cons.1 hq with rfl | hq
      · exact ⟨ls, hp⟩
      · cases hn : needed (i + 1) qs with
        | error e => rw [hn] at h; cases h
        | ok r' => exact needed_all qs (i + 1) r' hn q hq
set_option maxHeartbeats 16000000 in
set_option maxRecDepth 100000 in
theorem needR_good {r : List Np} (hy : needed 0 qs = .ok r) (hN : 1001 * qs.length ≤ 1000000000000) (hq : StR W v qs) : Calls Tryz.prog 7 #[v] W (NR W qs) := by
  obtain ⟨ai, cap, rfl, ⟨hn, -⟩, hr⟩ := id hq
  have HE : Hid (∀ a n c wr, MQ W qs.length (.slice a n c) wr → NR W qs (.returned (.tuple #[.slice a n c, .int .i64 0, .int .i64 0, .int .i64 0])) wr) := hide fun a n c wr M => by
    obtain ⟨-, xs, m1, m2, m3⟩ := M
    refine ⟨m3, ?_⟩
    rw [hy]
    exact ⟨_, _, _, rfl⟩
  have HSH : Hid (∀ i v wr, MQ W i v wr → ∃ a n c, v = .slice a n c) := hide fun i v wr M => M.1
  have M0 : Hid (∀ wr, Below W.heap.size W wr → MQ W 0 (.slice none 0 0) wr) := hide fun wr hb =>
    ⟨⟨_, _, _, rfl⟩, [], PoR.nil wr, by simp, hb⟩
  have HR : Hid (∀ i wr, i < qs.length → Below W.heap.size W wr → ∃ g off T, ai = some ⟨g, off, none⟩ ∧ wr.cell? ⟨g, off + i, none⟩ = some (.string T) ∧ Hid (Calls Tryz.prog 20 #[.string T] wr fun e w' => ∃ a n c, e = .returned (.tuple #[.slice a n c, .int .i64 0, .int .i64 0]) ∧ Below W.heap.size W w')) := hide fun i wr hi hb => by
    have hx : qs[i]? = some qs[i] := List.getElem?_eq_getElem hi
    obtain ⟨ai', cap', e, _, hr'⟩ := hq.below hb
    cases e
    obtain ⟨g, off, e1, hg, h0⟩ := hr' i _ hx
    obtain ⟨ls, hp⟩ := needed_all qs 0 r hy _ (List.getElem_mem hi)
    refine ⟨g, off, _, e1, h0, hide ((parseR_good hp).mono ?_)⟩
    rintro e w' ⟨a, n, c, h1, h2, -⟩
    exact ⟨a, n, c, h1, bon hb h2⟩
  have HQ : Hid (∀ i v wr, i < qs.length → MQ W i v wr → ∃ g off T, ai = some ⟨g, off, none⟩ ∧ wr.cell? ⟨g, off + i, none⟩ = some (.string T) ∧ Hid (Calls Tryz.prog 20 #[.string T] wr (NQP (MQ W) i v))) := hide fun i v wr hi M => by
    have hx : qs[i]? = some qs[i] := List.getElem?_eq_getElem hi
    have hb : Below W.heap.size W wr := by
      obtain ⟨_, _, _, _, h⟩ := M
      exact h
    obtain ⟨ai', cap', e, _, hr'⟩ := hq.below hb
    cases e
    obtain ⟨g, off, e1, hg, h0⟩ := hr' i _ hx
    obtain ⟨ls, hp⟩ := needed_all qs 0 r hy _ (List.getElem_mem hi)
    exact ⟨g, off, _, e1, h0, hide (need_query hp (by omega) M)⟩
  clear hr hq hy
  generalize MQ W = RN at *
  generalize NR W qs = PP at *
  generalize qs.length = len at *
  go_enter Tryz.func7, Tryz.ntmps7
  go_wp2_with fail
  go_loopw [7] (fun iv wr => ∃ i : Nat, iv = .int .i64 i ∧ i ≤ len ∧ Below W.heap.size W wr) (fun iv _ => len - (RowKit.intOf iv).toNat)
  case atStart => exact ⟨0, rfl, Nat.zero_le _, Below.refl _ _⟩
  case round =>
    rename World => WO
    obtain ⟨i, rfl, hi, hB⟩ := hrel
    by_cases hlt : i < len
    · obtain ⟨g, off, T, rfl, c0, HC⟩ := HR.out i _ hlt hB
      have hdec : decide ((i : Int) < len) = true := by simp; omega
      have hii : (i : Int) < len := by omega
      clear HR HE HSH M0 HQ
      go_wp2_with (go_at_call 20; refine HC.out.mono ?_; rintro e w5 ⟨a5, n5, c5, rfl, h5⟩; clear HC)
      exact ⟨⟨i + 1, by simp, by omega, h5⟩, by simp only [RowKit.intOf]; omega⟩
    · have hdec : decide ((i : Int) < len) = false := by simp; omega
      have H0 := hide (M0.out _ hB)
      clear HR M0 hB
      go_wp2
      go_loopw [6, 11] (fun ov iv wr => ∃ i : Nat, iv = .int .i64 i ∧ i ≤ len ∧ RN i ov wr) (fun _ iv _ => len - (RowKit.intOf iv).toNat)
      case atStart => exact ⟨0, rfl, Nat.zero_le _, H0.out⟩
      case round =>
        rename World => WA
        obtain ⟨i, rfl, hi, hM⟩ := hrel
        obtain ⟨o1, o2, o3, rfl⟩ := HSH.out _ _ _ hM
        clear H0
        by_cases hlt : i < len
        · obtain ⟨g, off, T, rfl, c0, HC⟩ := HQ.out i _ _ hlt hM
          have hdec : decide ((i : Int) < len) = true := by simp; omega
          have hii : (i : Int) < len := by omega
          clear HQ HE HSH hM
          go_wp2_with (go_at_call 20; refine HC.out.mono ?_; rintro e w7 ⟨pi, pn, pc, RP, rfl, hpn, HP0, HPS, HPX, HP⟩; clear HC)
          clear c0
          go_loopw [6, 15] (fun ov kv wr => ∃ k : Nat, kv = .int .i64 k ∧ k ≤ pn ∧ RP k ov wr) (fun _ kv _ => pn - (RowKit.intOf kv).toNat)
          case atStart => exact ⟨0, rfl, Nat.zero_le _, HP0.out⟩
          case round =>
            rename World => WB
            obtain ⟨k, rfl, hk, hM⟩ := hrel
            obtain ⟨o4, o5, o6, rfl⟩ := HPS.out _ _ _ hM
            clear HP0
            by_cases hlk : k < pn
            · obtain ⟨g2, si, sn, sc, rfl, ck, HA⟩ := HP.out _ _ _ hlk hM
              have hdk : decide ((k : Int) < pn) = true := by simp; omega
              have hkk : (k : Int) < pn := by omega
              clear HP HPS HPX hM
              go_wp2_with (first
                | (go_at_call 21; refine HA.out.mono ?_; rintro e w8 ⟨a8, n8, c8, rfl, ck8, H22, H23⟩; clear HA ck)
                | (go_at_call 22; refine H22.out.mono ?_; rintro e w9 ⟨⟨tb, rfl⟩, rfl⟩; clear H22)
                | (go_at_call 23; refine H23.out.mono ?_; rintro e w3 ⟨a3, n3, c3, rfl, H4⟩; obtain ⟨va, vn, vc, w4, hr, hvn, H5⟩ := H4.out (!tb); clear H23 H4)
                | (at_builtin; refine Lib.wpList_append_run _ rfl _ _ _ _ rfl _ _ rfl rfl _ _ hr ?_))
              obtain ⟨RJ, J0, JS, JX, JJ⟩ := H5.out
              have HJ0 := hide J0
              have HJS := hide JS
              have HJX := hide JX
              have HJJ := hide JJ
              clear H5 J0 JS JX JJ
              go_loopw [6, 18] (fun ov jv wr => ∃ j : Nat, jv = .int .i64 j ∧ j ≤ vn ∧ RJ j ov wr) (fun _ jv _ => vn - (RowKit.intOf jv).toNat)
              case atStart => exact ⟨0, rfl, Nat.zero_le _, HJ0.out⟩
              case round =>
                rename World => WC
                obtain ⟨j, rfl, hj, hM⟩ := hrel
                obtain ⟨p4, p5, p6, rfl⟩ := HJS.out _ _ _ hM
                clear HJ0
                by_cases hlj : j < vn
                · obtain ⟨g3, a, n, c, b, rfl, k0, k1, HC⟩ := HJJ.out _ _ _ hlj hM
                  have hdj : decide ((j : Int) < vn) = true := by simp; omega
                  have hjj : (j : Int) < vn := by omega
                  clear HJJ HJS HJX hM
                  go_wp2_with (go_at_call 24; refine HC.out.mono ?_; rintro e w6 ⟨a6, n6, c6, rfl, H6⟩; clear HC)
                  exact ⟨⟨j + 1, by simp, by omega, H6.out⟩, by simp only [RowKit.intOf]; omega⟩
                · have hdj : decide ((j : Int) < vn) = false := by simp; omega
                  have hj2 : j = vn := by omega
                  rw [hj2] at hM
                  have H9 := hide (HJX.out _ _ hM)
                  clear HJJ HJS HJX hM
                  go_wp2
                  exact ⟨⟨k + 1, by simp, by omega, H9.out⟩, by simp only [RowKit.intOf]; omega⟩
            · have hdk : decide ((k : Int) < pn) = false := by simp; omega
              have hk2 : k = pn := by omega
              rw [hk2] at hM
              have H9 := hide (HPX.out _ _ hM)
              clear HP HPS HPX hM
              go_wp2
              exact ⟨⟨i + 1, by simp, by omega, H9.out⟩, by simp only [RowKit.intOf]; omega⟩
        · have hdec : decide ((i : Int) < len) = false := by simp; omega
          have hi2 : i = len := by omega
          rw [hi2] at hM
          have H9 := hide (HE.out _ _ _ _ hM)
          clear HE HQ HSH hM
          go_wp2
          exact bodyPost_ret (v := .tuple #[.slice o1 o2 o3, .int .i64 0, .int .i64 0, .int .i64 0]) (by simp [results, Tryz.results7, go_sem]) rfl H9.out
theorem needR_ok (hN : 1001 * qs.length ≤ 1000000000000) (hq : StR W v qs) : Calls Tryz.prog 7 #[v] W (NR W qs) := by
  cases h : needed 0 qs with
  | error y => exact needR_bad h hq
  | ok r => exact needR_good h hN hq
end Go.Proofs.YtoahlnmhjinneaaGreatDoor

set_option linter.unusedSimpArgs false
set_option linter.unusedVariables false
namespace Go.Proofs.YtoahlnmhjinneaaGreatDoor
open Go.RowKit Go.Maps Go.Lib
variable {w w' w1 W wr : World} {v u vq va vt vr vm : Value} {qs more r : List L} {b1 b2 : Brs} {X1 X2 n : Nat}
theorem own_zero {B : Nat} {e : TypeId} {s n : Nat} {xs : List Value} (h : w.ownsRow B e s v n xs) : w.ownsRow 0 e s v n xs := ⟨h.1, h.2.imp id fun ⟨g, cap, cur, h1, _, h3⟩ => ⟨g, cap, cur, h1, Nat.zero_le _, h3⟩⟩
theorem own_ge {B : Nat} {e : TypeId} {s n : Nat} {xs : List Value} (h : w.ownsRow B e s v n xs) {k : Nat} (hk : v.ownBlock = some k) : B ≤ k := by
  rcases h.2 with ⟨rfl, _⟩ | ⟨g, cap, cur, rfl, hb, _⟩
  · cases hk
  · cases hk; exact hb
theorem StR.take {ai : Option Addr} {cap : Nat} {l : List L} (h : StR w (.slice ai l.length cap) l) (hn : n ≤ l.length) : StR w (.slice ai n cap) (l.take n) := by
  obtain ⟨ai', cap', e, ⟨h1, h2⟩, hr⟩ := h
  cases e
  have hl : (l.take n).length = n := by rw [List.length_take]; omega
  refine ⟨ai, cap, by rw [hl], ⟨by omega, by omega⟩, fun i x hx => hr i x ?_⟩
  have hi := (List.getElem?_eq_some_iff.1 hx).1
  rw [List.getElem?_take] at hx
  split at hx
  · exact hx
  · cases hx
structure LM (W : World) (qs more r : List L) (vq va vt vr : Value) (w : World) : Prop where
  bl : Below W.heap.size W w
  q : StR w vq qs
  a : StR w va (qs ++ more)
  t : StR w vt ((qs ++ more) ++ qs)
  qk : ∀ k, vq.ownBlock = some k → k < w.heap.size
  ak : ∀ k, va.ownBlock = some k → k < w.heap.size
  tk : ∀ k, vt.ownBlock = some k → k < w.heap.size
theorem LM.on (M : LM W qs more r vq va vt vr w) (hb : Below w.heap.size w w') : LM W qs more r vq va vt vr w' :=
  ⟨bon M.bl hb, M.q.below hb, M.a.below hb, M.t.below hb, fun k e => Nat.lt_of_lt_of_le (M.qk k e) hb.size, fun k e => Nat.lt_of_lt_of_le (M.ak k e) hb.size, fun k e => Nat.lt_of_lt_of_le (M.tk k e) hb.size⟩
theorem law_head (hq : StR W vq qs) (hm : StR W vm more) (hl : qs.length + more.length ≤ 1048576) (hqk : ∀ k, vq.ownBlock = some k → k < W.heap.size) :
    Calls Tryz.prog 4 #[vq] W fun e w1 => ∃ a n c a2 n2 c2 w2, e = .returned (.slice a n c) ∧ (Builtin.append_ #[22, 22] 22 #[.slice a n c, vm]).run Tryz.prog w1 = .ok (.slice a2 n2 c2) w2 ∧
      Hid (Calls Tryz.prog 4 #[.slice a2 n2 c2] w2 fun e w3 => ∃ a3 n3 c3 a4 n4 c4 w4, e = .returned (.slice a3 n3 c3) ∧ (Builtin.append_ #[22, 22] 22 #[.slice a3 n3 c3, vq]).run Tryz.prog w3 = .ok (.slice a4 n4 c4) w4 ∧ Hid (LM W qs more r vq (.slice a2 n2 c2) (.slice a4 n4 c4) vr w4)) := by
  refine (copied_ok hq).mono ?_
  rintro e w1 ⟨a, n, c, rfl, o1, hb1⟩
  obtain ⟨mi, mc, rfl, -, -⟩ := id hm
  obtain ⟨qi, qc, rfl, -, -⟩ := id hq
  obtain ⟨a2, n2, c2, w2, r2, o2, g2⟩ := run_appS o1 (hm.below hb1) (by omega) hb1.size
  have hb2 : Below W.heap.size W w2 := hb1.grown g2 hb1.size fun k e => own_ge o1 e
  have hla : (qs ++ more).length ≤ 1048576 := by rw [List.length_append]; exact hl
  have sa := strC_row (own_zero o2) (by omega)
  refine ⟨a, n, c, a2, n2, c2, w2, rfl, r2, hide ((copied_ok sa).mono ?_)⟩
  rintro e w3 ⟨a3, n3, c3, rfl, o3, hb3⟩
  obtain ⟨a4, n4, c4, w4, r4, o4, g4⟩ := run_appS o3 ((hq.below hb2).below hb3) (by omega) hb3.size
  have hb4 : Below w2.heap.size w2 w4 := hb3.grown g4 hb3.size fun k e => own_ge o3 e
  have st := strC_row (own_zero o4) (by rw [List.length_append]; omega)
  refine ⟨a3, n3, c3, a4, n4, c4, w4, rfl, r4, hide ⟨bon hb2 hb4, (hq.below hb2).below hb4, sa.below hb4, st, fun k e => ?_, fun k e => ?_, fun k e => own_lt (own_zero o4) e⟩⟩
  · exact Nat.lt_of_lt_of_le (hqk k e) (bon hb2 hb4).size
  · exact Nat.lt_of_lt_of_le (own_lt (own_zero o2) e) hb4.size
theorem NPost.any {e : Ending} (h : NPost W qs e w') : (∃ s, ∃ e1 e2 e3 : Nat, e = .returned (.tuple #[.pointer s, .int .i64 (e1 : Nat), .int .i64 (e2 : Nat), .int .i64 (e3 : Nat)])) ∧ Below W.heap.size W w' := by
  obtain ⟨hb, h⟩ := h
  refine ⟨?_, hb⟩
  cases hn : needed 0 qs with
  | error y => rw [hn] at h; exact ⟨_, _, _, _, h⟩
  | ok r => rw [hn] at h; obtain ⟨X, mn, F, h, -⟩ := h; exact ⟨_, 0, 0, 0, h⟩
theorem same_nil (w : World) : Calls Tryz.prog 9 #[.slice none 0 0, .slice none 0 0] w fun e w' => e = .returned (.bool true) ∧ ∃ m, w' = w.drewN m :=
  same_yes [] _ _ w ⟨none, 0, rfl, ⟨by simp, by simp⟩, fun i m hm => by simp at hm⟩ ⟨none, 0, rfl, ⟨by simp, by simp⟩, fun i m hm => by simp at hm⟩
theorem LM.bad {y : Nat × Nat × Nat} (M : LM W qs more r vq va vt vr w) (hT : TabB W.heap.size W) (hl : qs.length + more.length ≤ 1048576) (hy : needed 0 (qs ++ more) = .error y) :
    Calls Tryz.prog 5 #[vq] w fun e w5 => (∃ s, ∃ e1 e2 e3 : Nat, e = .returned (.tuple #[.pointer s, .int .i64 (e1 : Nat), .int .i64 (e2 : Nat), .int .i64 (e3 : Nat)])) ∧ Hid (Calls Tryz.prog 5 #[va] w5 fun e w6 => (∃ e2 e3 : Nat, e = .returned (.tuple #[.pointer none, .int .i64 (y.1 : Nat), .int .i64 (e2 : Nat), .int .i64 (e3 : Nat)])) ∧
      Hid (Calls Tryz.prog 6 #[va] w6 fun e w7 => (∃ e2 e3 : Nat, e = .returned (.tuple #[.slice none 0 0, .int .i64 (y.1 : Nat), .int .i64 (e2 : Nat), .int .i64 (e3 : Nat)])) ∧ Hid (Calls Tryz.prog 6 #[vt] w7 fun e w8 => (∃ e2 e3 : Nat, e = .returned (.tuple #[.slice none 0 0, .int .i64 (y.1 : Nat), .int .i64 (e2 : Nat), .int .i64 (e3 : Nat)])) ∧
        Hid (Calls Tryz.prog 7 #[va] w8 fun e w9 => (∃ e2 e3 : Nat, e = .returned (.tuple #[.slice none 0 0, .int .i64 (y.1 : Nat), .int .i64 (e2 : Nat), .int .i64 (e3 : Nat)])) ∧ Hid (Calls Tryz.prog 9 #[.slice none 0 0, .slice none 0 0] w9 fun e w10 => e = .returned (.bool true) ∧ Hid (Calls Tryz.prog 10 #[] w10 fun e w11 => e = .returned (.bool true) ∧ Below W.heap.size W w11)))))) := by
  have hla : (qs ++ more).length ≤ 1048576 := by rw [List.length_append]; exact hl
  have hlt : ((qs ++ more) ++ qs).length ≤ 2197802 := by rw [List.length_append]; omega
  refine (new_ok qs _ _ M.q (by omega) M.qk).mono ?_
  intro e w5 h5
  obtain ⟨h5, hb5⟩ := h5.any
  have M := M.on hb5
  refine ⟨h5, hide ((new_ok _ _ _ M.a (by omega) M.ak).mono ?_)⟩
  rintro e w6 ⟨hb6, h6⟩
  have M := M.on hb6
  rw [hy] at h6
  refine ⟨⟨_, _, h6⟩, hide ((paths_ok _ _ _ M.a (by omega) M.ak).mono ?_)⟩
  rintro e w7 ⟨hb7, h7⟩
  have M := M.on hb7
  rw [hy] at h7
  refine ⟨⟨_, _, h7⟩, hide ((paths_ok _ _ _ M.t hlt M.tk).mono ?_)⟩
  rintro e w8 ⟨hb8, h8⟩
  have M := M.on hb8
  rw [more_bad hy] at h8
  refine ⟨⟨_, _, h8⟩, hide ((needR_ok (by omega) M.a).mono ?_)⟩
  rintro e w9 ⟨hb9, h9⟩
  have M := M.on hb9
  rw [hy] at h9
  refine ⟨h9, hide ((same_nil w9).mono ?_)⟩
  rintro e w10 ⟨rfl, m, rfl⟩
  have hbl := belowN M.bl m
  refine ⟨rfl, hide ((alive_ok (hT.on hbl)).mono ?_)⟩
  rintro e w11 ⟨h, hb⟩
  exact ⟨h, bon hbl hb⟩
def LL (W : World) (b1 b2 : Brs) (X1 X2 n : Nat) (wr : World) : Prop := ∃ S1 S2 F1 F2, SpI X1 W.heap.size F1 b1 S1 wr ∧ SpI X2 W.heap.size F2 b2 S2 wr ∧ (∀ k, F1 k → ¬ F2 k) ∧ (2 * S1.length ≤ n * (n + 1) ∧ 2 * S2.length ≤ n * (n + 1)) ∧ Below W.heap.size W wr
theorem LM.good {r0 : List Np} (M : LM W qs more r vq va vt vr w) (hl : qs.length + more.length ≤ 1048576) (hy : needed 0 (qs ++ more) = .ok r0) :
    ∃ b1 b2, (∀ row, LeS (walkS b1 row) (walkS b2 row)) ∧ Calls Tryz.prog 5 #[vq] w fun e w5 => ∃ X1, e = .returned (.tuple #[.pointer (some ⟨X1, 0, none⟩), .int .i64 0, .int .i64 0, .int .i64 0]) ∧ Hid (Calls Tryz.prog 5 #[va] w5 fun e w6 => ∃ X2, e = .returned (.tuple #[.pointer (some ⟨X2, 0, none⟩), .int .i64 0, .int .i64 0, .int .i64 0]) ∧
      Hid (Calls Tryz.prog 6 #[va] w6 fun e w7 => ∃ a7 n7 c7, e = .returned (.tuple #[.slice a7 n7 c7, .int .i64 0, .int .i64 0, .int .i64 0]) ∧ Hid (Calls Tryz.prog 6 #[vt] w7 fun e w8 => ∃ a8 n8 c8, e = .returned (.tuple #[.slice a8 n8 c8, .int .i64 0, .int .i64 0, .int .i64 0]) ∧
        Hid (Calls Tryz.prog 7 #[va] w8 fun e w9 => (∃ a9 n9 c9, e = .returned (.tuple #[.slice a9 n9 c9, .int .i64 0, .int .i64 0, .int .i64 0])) ∧ Hid (Calls Tryz.prog 9 #[.slice a7 n7 c7, .slice a8 n8 c8] w9 fun e w10 => e = .returned (.bool true) ∧ Hid (LL W b1 b2 X1 X2 0 w10)))))) := by
  have hla : (qs ++ more).length ≤ 1048576 := by rw [List.length_append]; exact hl
  have hlt : ((qs ++ more) ++ qs).length ≤ 2197802 := by rw [List.length_append]; omega
  obtain ⟨r1, k1, k2, k3, k4⟩ := more_ok hy
  refine ⟨_, _, k4, (new_ok qs _ _ M.q (by omega) M.qk).mono ?_⟩
  intro e w5 h5
  obtain ⟨X1, F1, rfl, i1, hb5⟩ := h5.ok k1 (by omega)
  have hw0 := M.bl.size
  have i1 := i1.lower hw0
  have M := M.on hb5
  refine ⟨X1, rfl, hide ((new_ok _ _ _ M.a (by omega) M.ak).mono ?_)⟩
  intro e w6 h6
  obtain ⟨X2, F2, rfl, i2, hb6⟩ := h6.ok hy (by omega)
  have hap : ∀ k, F1 k → ¬ F2 k := fun k h1 h2 => by
    have := i1.lt h1
    have := i2.low k h2
    omega
  have i2 := i2.lower M.bl.size
  have i1 := i1.below hb6
  have M := M.on hb6
  refine ⟨X2, rfl, hide ((paths_ok _ _ _ M.a (by omega) M.ak).mono ?_)⟩
  rintro e w7 ⟨hb7, h7⟩
  have M := M.on hb7
  rw [hy] at h7
  obtain ⟨u7, rfl, s7⟩ := h7
  obtain ⟨a7, c7, rfl, -⟩ := id s7
  refine ⟨a7, _, c7, rfl, hide ((paths_ok _ _ _ M.t hlt M.tk).mono ?_)⟩
  rintro e w8 ⟨hb8, h8⟩
  have M := M.on hb8
  rw [k2] at h8
  obtain ⟨u8, rfl, s8⟩ := h8
  have k5 : TxA (r0 ++ r1) = TxA r0 := k3
  rw [k5] at s8
  obtain ⟨a8, c8, rfl, -⟩ := id s8
  refine ⟨a8, _, c8, rfl, hide ((needR_ok (by omega) M.a).mono ?_)⟩
  rintro e w9 ⟨hb9, h9⟩
  have M := M.on hb9
  rw [hy] at h9
  refine ⟨h9, hide ((same_yes _ _ _ w9 ((s7.below hb8).below hb9) (s8.below hb9)).mono ?_)⟩
  rintro e w10 ⟨rfl, m, rfl⟩
  exact ⟨rfl, hide ⟨[], [], F1, F2, (((i1.below hb7).below hb8).below hb9).drewN m, (((i2.below hb7).below hb8).below hb9).drewN m, hap, ⟨by simp, by simp⟩, belowN M.bl m⟩⟩
end Go.Proofs.YtoahlnmhjinneaaGreatDoor
