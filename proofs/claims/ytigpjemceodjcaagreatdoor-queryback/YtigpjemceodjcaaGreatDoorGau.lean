import Derived.Test.YtigpjemceodjcaaGreatDoorGat
import Derived.Test.YtigpjemceodjcaaGreatDoorGaq
import Derived.Test.YtigpjemceodjcaaGreatDoorGao
set_option linter.unusedVariables false
set_option linter.unusedSimpArgs false
set_option linter.unusedSimpArgs false
set_option linter.unusedVariables false
namespace Go.Proofs.YtigpjemceodjcaaGreatDoor
open Go.RowKit Go.Maps Go.Lib
variable {w w' w1 W : World} {b : Nat} {o : L}
set_option maxHeartbeats 32000000 in
set_option maxRecDepth 100000 in
theorem condW_ok (p : Prd) (hk : ∀ i x, p.kids.get i = some x → CallP 38 b x (wc x)) (hs : ∀ i x, p.steps.get i = some x → CallS 24 b x (wt x)) (hnot : p.op = wNot → p.kids.len ≠ 0) : CallP 38 b p (wc p) := by
  intro w o ki nk kc si ns sc hw hv hl
  have hO : (o ++ wc p).length ≤ 1000000 := by rw [List.length_append]; exact hl
  have hB := Below_new w (.cells (aP (bs p.op) ki nk kc si ns sc (bs p.attr) (bs p.text)) 86)
  have hne : w.heap.size ≠ b := by have := hw.lt; omega
  obtain ⟨wa, wb⟩ := wr_alloc hw (.cells (aP (bs p.op) ki nk kc si ns sc (bs p.attr) (bs p.text)) 86)
  have pb := wa.pb hv
  have m0 := Mid.start (T := wc p) wb
  have HFIN : Hid (∀ wr, Mid b (o ++ wc p) (w.alloc (.cells (aP (bs p.op) ki nk kc si ns sc (bs p.attr) (bs p.text)) 86)) wr [] → WG b o (wc p) w (.returned (.tuple #[])) wr) := fun wr m => by
    obtain ⟨h1, h2, h3⟩ := m.fin
    exact ⟨h1, h2, wa.trans h3⟩
  obtain ⟨OO, hOO⟩ : ∃ OO, o ++ wc p = OO := ⟨_, rfl⟩
  rw [hOO] at hO m0 HFIN
  clear hOO
  obtain ⟨TT, hTT⟩ : ∃ TT, wc p = TT := ⟨_, rfl⟩
  rw [hTT] at HFIN hl m0 ⊢
  unfold wc at hTT
  rw [wCond] at hTT
  obtain ⟨⟨c0, c1, c2, c3, c4⟩, -⟩ := cells5 hB
  by_cases hj : isJoin p.op = true
  · rw [if_pos hj] at hTT
    have HC : Hid (Calls Tryz.prog 51 #[.pointer (some ⟨b, 0, none⟩), .agg (aP (bs p.op) ki nk kc si ns sc (bs p.attr) (bs p.text))] (w.alloc (.cells (aP (bs p.op) ki nk kc si ns sc (bs p.attr) (bs p.text)) 86)) fun e w' => e = .returned (.tuple #[]) ∧ Hid (WG b o TT w (.returned (.tuple #[])) w')) := by
      rw [← hTT] at m0
      refine hide ((Mid.part (rest := []) (by rw [List.append_nil]; exact m0) hO (fun o' hw' hl' => kidsW_ok p hk _ o' ki nk kc si ns sc hw' pb hl')).mono ?_)
      rintro e w' ⟨h, k⟩
      exact ⟨h, hide (HFIN.out _ k.out.1)⟩
    have hb : ((bs p.op).toList == [111, 114]) = true ∨ (((bs p.op).toList == [111, 114]) = false ∧ ((bs p.op).toList == [97, 110, 100]) = true) := by
      rw [bs_toL]
      unfold isJoin at hj
      cases h1 : (p.op == wOr) with
      | true => exact Or.inl rfl
      | false => rw [h1, Bool.false_or] at hj; exact Or.inr ⟨rfl, hj⟩
    clear hTT hk hs hnot hw hv hl hO hB hne wa wb pb m0 hj HFIN
    generalize bs p.op = O at *
    generalize bs p.attr = A at *
    generalize bs p.text = X at *
    rcases hb with hb | ⟨hb, hb2⟩
    · go_enter Tryz.func38, Tryz.ntmps38
      go_wp2_with (go_at_call 51; refine HC.out.mono ?_; rintro e w7 ⟨rfl, h7⟩; clear HC c0 c1 c2 c3 c4)
      go_end0
      exact h7.out
    · go_enter Tryz.func38, Tryz.ntmps38
      go_wp2_with (go_at_call 51; refine HC.out.mono ?_; rintro e w7 ⟨rfl, h7⟩; clear HC c0 c1 c2 c3 c4)
      go_end0
      exact h7.out
  · rw [if_neg hj] at hTT
    have hb : ((bs p.op).toList == [111, 114]) = false ∧ ((bs p.op).toList == [97, 110, 100]) = false := by
      rw [bs_toL]
      unfold isJoin at hj
      rw [Bool.not_eq_true, Bool.or_eq_false_iff] at hj
      exact hj
    obtain ⟨hb1, hb2⟩ := hb
    by_cases hn : p.op = wNot
    · rw [if_pos hn] at hTT
      have hb3 : ((bs p.op).toList == [110, 111, 116]) = true := by rw [bs_toL, hn]; rfl
      obtain ⟨x, hx⟩ := p.kids.get_lt 0 (by have := hnot hn; omega)
      have hhead : wHead p.kids = wc x := by
        have e := p.kids.dp_get 0 x hx
        rw [p.kids.dp_zero] at e
        rw [e, wHead]
      rw [hhead] at hTT
      obtain ⟨g, e1, hgb, ⟨cur, hgc⟩, a0, ⟨k1, a1, r1⟩, ⟨p1, a2, q1⟩, a3, a4⟩ := pb.1.at hx
      obtain ⟨ki2, kc2, rfl, _⟩ := r1.len
      obtain ⟨si2, sc2, rfl, _⟩ := q1.len
      have HC : Hid (Calls Tryz.prog 22 #[.pointer (some ⟨b, 0, none⟩), .string (bs wNot)] (w.alloc (.cells (aP (bs p.op) ki nk kc si ns sc (bs p.attr) (bs p.text)) 86)) fun e w1 => e = .returned (.tuple #[.int .i64 3, .nilIface]) ∧ w1.cell? ⟨w.heap.size, 1, none⟩ = some (.slice ki nk kc) ∧ (w1.cell? ⟨g, 0 * 5, none⟩ = some (.string (bs x.op)) ∧ w1.cell? ⟨g, 0 * 5 + 1, none⟩ = some (.slice ki2 x.kids.len kc2) ∧ w1.cell? ⟨g, 0 * 5 + 2, none⟩ = some (.slice si2 x.steps.len sc2) ∧ w1.cell? ⟨g, 0 * 5 + 3, none⟩ = some (.string (bs x.attr)) ∧ w1.cell? ⟨g, 0 * 5 + 4, none⟩ = some (.string (bs x.text))) ∧ Hid (Calls Tryz.prog 52 #[.pointer (some ⟨b, 0, none⟩), .agg (aP (bs x.op) ki2 x.kids.len kc2 si2 x.steps.len sc2 (bs x.attr) (bs x.text))] w1 fun e w' => e = .returned (.tuple #[]) ∧ Hid (WG b o TT w (.returned (.tuple #[])) w'))) := by
        rw [← hTT] at m0
        refine hide ((m0.put hO).mono ?_)
        rintro e w1 ⟨h, k⟩
        have r := k.out.2
        have hg1 := r.below.block g hgb
        have up : ∀ j u, ((w.alloc (.cells (aP (bs p.op) ki nk kc si ns sc (bs p.attr) (bs p.text)) 86))).cell? ⟨g, j, none⟩ = some u → w1.cell? ⟨g, j, none⟩ = some u := fun j u hj => (World.cell?_of_block hg1).trans hj
        refine ⟨h, (cells5 (r.box hB hne (by decide))).1.2.1, ⟨up _ _ a0, up _ _ a1, up _ _ a2, up _ _ a3, up _ _ a4⟩, hide ?_⟩
        have pbx : PB w1 b (.slice ki2 x.kids.len kc2) (.slice si2 x.steps.len sc2) x := ⟨r.slP r1, r.slS q1⟩
        refine (Mid.part (rest := []) (by rw [List.append_nil]; exact k.out.1) hO (fun o' hw' hl' => brk_ok x _ (hk 0 x hx) _ o' ki2 x.kids.len kc2 si2 x.steps.len sc2 hw' pbx hl')).mono ?_
        rintro e w' ⟨h, k⟩
        exact ⟨h, hide (HFIN.out _ k.out.1)⟩
      have hnk : 0 < nk := by
        obtain ⟨ai, cap, e, _⟩ := hv.1.len
        cases e
        have := hnot hn
        omega
      have hnk2 : (0 : Int) < nk := by omega
      cases e1
      clear hTT hk hs hnot hw hv hl hO hB hne wa wb pb m0 hj HFIN a0 a1 a2 a3 a4 r1 q1 hgb hgc hhead hx hn
      generalize bs p.op = O at *
      generalize bs p.attr = A at *
      generalize bs p.text = X at *
      generalize bs x.op = O2 at *
      generalize bs x.attr = A2 at *
      generalize bs x.text = X2 at *
      simp only [Nat.zero_mul, Nat.zero_add] at HC
      go_enter Tryz.func38, Tryz.ntmps38
      go_wp2_with (first | (go_at_call 22; refine HC.out.mono ?_; rintro e w7 ⟨rfl, d1, ⟨a0, a1, a2, a3, a4⟩, h7⟩; clear HC c0 c1 c2 c3 c4) | (go_at_call 52; refine h7.out.mono ?_; rintro e w8 ⟨rfl, h8⟩; clear h7 d1 a0 a1 a2 a3 a4))
      go_end0
      exact h8.out
    · rw [if_neg hn] at hTT
      have hb3 : ((bs p.op).toList == [110, 111, 116]) = false := by
        rw [bs_toL]
        have : ¬ p.op = [110, 111, 116] := hn
        simpa using this
      have HC : Hid (Calls Tryz.prog 53 #[.pointer (some ⟨b, 0, none⟩), .agg (aP (bs p.op) ki nk kc si ns sc (bs p.attr) (bs p.text))] (w.alloc (.cells (aP (bs p.op) ki nk kc si ns sc (bs p.attr) (bs p.text)) 86)) fun e w1 => e = .returned (.tuple #[]) ∧ w1.heap[w.heap.size]? = some (.cells (aP (bs p.op) ki nk kc si ns sc (bs p.attr) (bs p.text)) 86 (0, 0)) ∧ Hid (Calls Tryz.prog 54 #[.pointer (some ⟨b, 0, none⟩), .agg (aP (bs p.op) ki nk kc si ns sc (bs p.attr) (bs p.text))] w1 fun e w' => e = .returned (.tuple #[]) ∧ Hid (WG b o TT w (.returned (.tuple #[])) w'))) := by
        rw [← hTT, ← List.append_assoc] at m0
        refine hide ((m0.part hO (fun o' hw' hl' => valueW_ok p hs _ o' ki nk kc si ns sc hw' pb hl')).mono ?_)
        rintro e w1 ⟨h, k⟩
        have r := k.out.2
        refine ⟨h, r.box hB hne (by decide), hide ?_⟩
        refine (Mid.part (rest := []) (by rw [List.append_nil]; exact k.out.1) hO (fun o' hw' hl' => cmp_ok p _ o' ki nk kc si ns sc hw' (r.pb pb) hl')).mono ?_
        rintro e w' ⟨h, k⟩
        exact ⟨h, hide (HFIN.out _ k.out.1)⟩
      clear hTT hk hs hnot hw hv hl hO hB hne wa wb pb m0 hj HFIN hn
      generalize bs p.op = O at *
      generalize bs p.attr = A at *
      generalize bs p.text = X at *
      go_enter Tryz.func38, Tryz.ntmps38
      go_wp2_with (first | (go_at_call 53; refine HC.out.mono ?_; rintro e w7 ⟨rfl, hb7, h7⟩; clear HC c0 c1 c2 c3 c4; obtain ⟨⟨c0, c1, c2, c3, c4⟩, -⟩ := cells5 hb7; clear hb7) | (go_at_call 54; refine h7.out.mono ?_; rintro e w8 ⟨rfl, h8⟩; clear h7 c0 c1 c2 c3 c4))
      go_end0
      exact h8.out
end Go.Proofs.YtigpjemceodjcaaGreatDoor

set_option linter.unusedSimpArgs false
set_option linter.unusedVariables false
namespace Go.Proofs.YtigpjemceodjcaaGreatDoor
open Go.RowKit Go.Maps Go.Lib
variable {w w' w1 W : World} {b : Nat} {o : L}
mutual
def NS : Stps → Prop
  | .nil => True
  | .cons _ _ p m => NP p ∧ NS m
def NP : Prds → Prop
  | .nil => True
  | .cons o k s _ _ m => (o = wNot → k.len ≠ 0) ∧ NP k ∧ NS s ∧ NP m
end
theorem ok_not_c {d : Nat} {o : L} {k : Prds} {s : Stps} {a t : L} (hk : (∀ d op, okKids d op k → NP k) ∧ (∀ d, okHead d k → k.len = 1 → NP k)) (hs : ∀ d, okS d s → NS s) (h : okC d o k s a t) : (o = wNot → k.len ≠ 0) ∧ NP k ∧ NS s := by
  rw [okC.eq_def] at h
  split at h
  · next hj =>
    obtain ⟨⟨h1, h2, -, -⟩, h3⟩ := h
    refine ⟨fun e => ?_, hk.1 _ _ h3, ?_⟩
    · rw [e] at hj; exact absurd hj (by decide)
    · rw [h2]; simp [NS]
  · split at h
    · obtain ⟨⟨h1, h2, -, -⟩, h3⟩ := h
      refine ⟨fun _ => by omega, ?_, by rw [h2]; simp [NS]⟩
      cases d with
      | zero => exact h3.elim
      | succ d => exact hk.2 _ h3 h1
    · next hn =>
      obtain ⟨-, h2, h3, -⟩ := h
      exact ⟨fun e => absurd e hn, by rw [h2]; simp [NP], hs _ h3⟩
theorem ok_not : (∀ s : Stps, ∀ d, okS d s → NS s) ∧ ∀ p : Prds, (∀ d, okPs d p → NP p) ∧ (∀ d op, okKids d op p → NP p) ∧ (∀ d, okHead d p → p.len = 1 → NP p) := by
  refine ⟨fun s => Stps.rec (motive_1 := fun s => ∀ d, okS d s → NS s) (motive_2 := fun p => (∀ d, okPs d p → NP p) ∧ (∀ d op, okKids d op p → NP p) ∧ (∀ d, okHead d p → p.len = 1 → NP p)) ?_ ?_ ?_ ?_ s, fun s => Prds.rec (motive_1 := fun s => ∀ d, okS d s → NS s) (motive_2 := fun p => (∀ d, okPs d p → NP p) ∧ (∀ d op, okKids d op p → NP p) ∧ (∀ d, okHead d p → p.len = 1 → NP p)) ?_ ?_ ?_ ?_ s⟩
  all_goals first
    | (intro d _; simp [NS]; done)
    | (refine ⟨fun d _ => ?_, fun d op _ => ?_, fun d _ _ => ?_⟩ <;> simp [NP]; done)
    | (intro de t p m ih1 ih2 d h
       rw [okS] at h
       rw [NS]
       exact ⟨ih1.1 _ h.2.2.1, ih2 _ h.2.2.2⟩)
    | (intro o k s a t m ih1 ih2 ih3
       refine ⟨fun d h => ?_, fun d op h => ?_, fun d h hl => ?_⟩
       · rw [okPs.eq_def] at h
         rw [NP]
         cases d with
         | zero => exact h.1.elim
         | succ d =>
           obtain ⟨x1, x2, x3⟩ := ok_not_c ih1.2 ih2 h.1
           exact ⟨x1, x2, x3, ih3.1 _ h.2⟩
       · rw [okKids] at h
         rw [NP]
         have hc : ∃ d', okC d' o k s a t := by
           have h1 := h.1
           rw [okKid.eq_def] at h1
           split at h1
           · cases d with
             | zero => exact h1.elim
             | succ d => exact ⟨_, h1⟩
           · exact ⟨_, h1⟩
         obtain ⟨d', hc⟩ := hc
         obtain ⟨x1, x2, x3⟩ := ok_not_c ih1.2 ih2 hc
         exact ⟨x1, x2, x3, ih3.2.1 _ _ h.2⟩
       · rw [okHead] at h
         rw [NP]
         obtain ⟨x1, x2, x3⟩ := ok_not_c ih1.2 ih2 h
         refine ⟨x1, x2, x3, ?_⟩
         have : m = .nil := by
           cases m with
           | nil => rfl
           | cons _ _ _ _ _ _ => simp [Prds.len] at hl
         rw [this]; simp [NP])
theorem write_all (b : Nat) : (∀ s : Stps, NS s → ∀ i x, s.get i = some x → CallS 24 b x (wt x)) ∧ ∀ p : Prds, NP p → ∀ i x, p.get i = some x → CallP 38 b x (wc x) := by
  refine ⟨fun s => Stps.rec (motive_1 := fun s => NS s → ∀ i x, s.get i = some x → CallS 24 b x (wt x)) (motive_2 := fun s => NP s → ∀ i x, s.get i = some x → CallP 38 b x (wc x)) ?_ ?_ ?_ ?_ s, fun s => Prds.rec (motive_1 := fun s => NS s → ∀ i x, s.get i = some x → CallS 24 b x (wt x)) (motive_2 := fun s => NP s → ∀ i x, s.get i = some x → CallP 38 b x (wc x)) ?_ ?_ ?_ ?_ s⟩
  all_goals first
    | (intro _ i x h; cases h; done)
    | (intro d t p m ih1 ih2 hn i x h
       rw [NS] at hn
       cases i with
       | zero => cases h; exact stepW_ok _ (ih1 hn.1)
       | succ i => exact ih2 hn.2 i x h)
    | (intro o k s a t m ih1 ih2 ih3 hn i x h
       rw [NP] at hn
       cases i with
       | zero => cases h; exact condW_ok _ (ih1 hn.2.1) (ih2 hn.2.2.1) hn.1
       | succ i => exact ih3 hn.2.2.2 i x h)
theorem steps_all (b : Nat) {d : Nat} {s : Stps} (h : okS d s) : ∀ i x, s.get i = some x → CallS 24 b x (wt x) := (write_all b).1 s (ok_not.1 s d h)
end Go.Proofs.YtigpjemceodjcaaGreatDoor

set_option linter.unusedSimpArgs false
set_option linter.unusedVariables false
namespace Go.Proofs.YtigpjemceodjcaaGreatDoor
open Go.RowKit Go.Maps Go.Lib
variable {w w' w1 w2 WO wr W : World} {A A' : Nat → Prop} {tQ tS tP tS' tP' : TypeId} {v v' va vb : Value}
theorem num_ok (n : Nat) (w : World) : Calls Tryz.prog 7 #[.int .i64 n] w fun e w' => e = .returned (.int .i64 n) ∧ w' = w := by
  go_enter Tryz.func7, Tryz.ntmps7
  go_wp2
  go_ret
  exact ⟨rfl, rfl⟩
abbrev aliveQ : L := [47, 97, 47, 47, 98, 91, 64, 107, 61, 39, 49, 39, 93]
theorem alive_parse : parse aliveQ = .ok [[⟨false, [97], .nil⟩, ⟨true, [98], .cons [61] .nil .nil [107] [49] .nil⟩]] := by kernel_rfl
theorem QS.len {l : List (List Stp)} (h : QS w A tQ tS tP v l) : ∃ ai cap, v = .slice ai l.length cap ∧ l.length ≤ 1000 := by
  rcases h with ⟨h, rfl⟩ | ⟨g, cap, cur, rfl, _, _, hn, _⟩
  · exact ⟨_, _, by rw [h], by omega⟩
  · exact ⟨_, _, rfl, hn⟩
theorem QS.at {l : List (List Stp)} {ai : Option Addr} {n cap i : Nat} {p : List Stp} (h : QS w A tQ tS tP (.slice ai n cap) l) (hx : l[i]? = some p) : ∃ g, ai = some ⟨g, 0, none⟩ ∧ A g ∧ ∃ u, w.cell? ⟨g, i, none⟩ = some u ∧ slS w A tS tP u (Stps.of p) := by
  rcases h with ⟨h, _⟩ | ⟨g, cap', cur, e, ha, hb, hn, h0, hr⟩
  · exfalso
    have := List.length_eq_zero_iff.1 h
    subst this
    simp at hx
  · cases e
    exact ⟨g, rfl, ha, hr i p hx⟩
theorem QS.drew {l : List (List Stp)} (h : QS w A tQ tS tP v l) (n : Nat) : QS (w.drewN n) A tQ tS tP v l := by
  have hm : Move A A w (w.drewN n) := fun b hb hl => ⟨hb, rfl⟩
  exact h.move hm
set_option maxHeartbeats 8000000 in
set_option maxRecDepth 100000 in
theorem alive_ok (w : World) : Calls Tryz.prog 8 #[] w fun e w' => e = .returned (.bool true) ∧ Below w.heap.size w w' := by
  have HP := hide (parse_ok aliveQ w)
  rw [alive_parse] at HP
  have HN := hide (fun w => num_ok 0 w)
  have HV : Hid (∀ W v, QV (fun b => w.heap.size ≤ b) W v [[⟨false, [97], .nil⟩, ⟨true, [98], .cons [61] .nil .nil [107] [49] .nil⟩]] → ∃ g c h c2 pi c3, v = .slice (some ⟨g, 0, none⟩) 1 c ∧ W.cell? ⟨g, 0, none⟩ = some (.slice (some ⟨h, 0, none⟩) 2 c2) ∧ W.cell? ⟨h, 3, none⟩ = some (.bool true) ∧ W.cell? ⟨h, 5, none⟩ = some (.slice pi 1 c3)) := fun W v q => by
    obtain ⟨ai, cap, rfl, -⟩ := QS.len q
    obtain ⟨g, rfl, -, u, c0, sl⟩ := QS.at (i := 0) q rfl
    obtain ⟨bi, c2, rfl, -⟩ := slS.len sl
    obtain ⟨h, rfl, -, -, -, -, -⟩ := slS.at (i := 0) sl rfl
    obtain ⟨h', e, -, -, d0, -, vp, d2, pr⟩ := slS.at (i := 1) sl rfl
    cases e
    obtain ⟨pi, c3, rfl, -⟩ := slP.len pr
    exact ⟨g, cap, h, c2, pi, c3, rfl, c0, d0, d2⟩
  go_enter Tryz.func8, Tryz.ntmps8
  go_wp2_with (first | (go_at_call 7; refine (HN.out _).mono ?_; rintro e w3 ⟨rfl, rfl⟩) | (go_at_call 10; refine HP.out.mono ?_; rintro e w2 ⟨hb, v2, rfl, qv⟩; obtain ⟨g, c, h, c2, pi, c3, rfl, c0, d0, d2⟩ := HV.out _ _ qv; have HB := hide hb; clear hb qv))
  go_ret
  exact ⟨rfl, HB.out⟩
end Go.Proofs.YtigpjemceodjcaaGreatDoor

set_option linter.unusedSimpArgs false
set_option linter.unusedVariables false
namespace Go.Proofs.YtigpjemceodjcaaGreatDoor
open Go.RowKit Go.Maps Go.Lib
variable {w w' w1 W : World} {b : Nat} {o : L}
def moreQ : List (List Stp) → L
  | [] => []
  | p :: l => 124 :: (wSteps (Stps.of p) ++ moreQ l)
theorem plainQ_cons : ∀ (p : List Stp) (l : List (List Stp)), plainQ (p :: l) = wSteps (Stps.of p) ++ moreQ l
  | p, [] => by simp [plainQ, moreQ]
  | p, q :: l => by rw [plainQ, plainQ_cons q l, moreQ]
def wQ (ls : List (List Stp)) (i : Nat) : L := if i = 0 then plainQ ls else moreQ (ls.drop i)
theorem wQ_one (ls : List (List Stp)) (i : Nat) : wQ ls (i + 1) = moreQ (ls.drop (i + 1)) := by unfold wQ; rw [if_neg (by omega)]
theorem wQ_zero {ls : List (List Stp)} {p : List Stp} (h : ls[0]? = some p) : wQ ls 0 = wSteps ((Stps.of p).dp 0) ++ wQ ls 1 := by
  cases ls with
  | nil => simp at h
  | cons q l =>
    simp only [List.getElem?_cons_zero, Option.some.injEq] at h
    subst h
    rw [wQ_one, wQ, if_pos rfl, plainQ_cons, Stps.dp_zero]
    rfl
theorem wQ_get {ls : List (List Stp)} {i : Nat} {p : List Stp} (h : ls[i]? = some p) (hi : i ≠ 0) : wQ ls i = [124] ++ (wSteps ((Stps.of p).dp 0) ++ wQ ls (i + 1)) := by
  rw [wQ_one, wQ, if_neg hi]
  obtain ⟨hl, e⟩ := List.getElem?_eq_some_iff.1 h
  rw [List.drop_eq_getElem_cons hl, moreQ, e, Stps.dp_zero]
  rfl
theorem wQ_end {ls : List (List Stp)} (h : ls ≠ []) : wQ ls ls.length = [] := by
  unfold wQ
  rw [if_neg (by cases ls <;> simp_all), List.drop_length]
  rfl
theorem Wr.qs {v : Value} {ls : List (List Stp)} (h : Wr b w w') (s : QS w (fun k => k < b) 36 51 86 v ls) : QS w' (fun k => k < b) 36 51 86 v ls := s.move fun k hk _ => ⟨hk, h.below.block k hk⟩
set_option maxHeartbeats 32000000 in
set_option maxRecDepth 100000 in
theorem queryW_ok (ls : List (List Stp)) (hok : okQ ls) (w : World) (o : L) (qi : Option Addr) (qn qc : Nat) (hw : WB b o w) (hv : QS w (fun k => k < b) 36 51 86 (.slice qi qn qc) ls) (hl : o.length + (plainQ ls).length ≤ 1000000) :
    Calls Tryz.prog 12 #[.pointer (some ⟨b, 0, none⟩), .slice qi qn qc] w (WG b o (plainQ ls) w) := by
  have hO : (o ++ plainQ ls).length ≤ 1000000 := by rw [List.length_append]; exact hl
  have M0 : Hid (Mid b (o ++ plainQ ls) w w (wQ ls 0)) := hide (Mid.start (T := plainQ ls) hw)
  have hqn : qn = ls.length ∧ ls.length ≤ 1000 := by obtain ⟨ai, cap, e, h⟩ := hv.len; cases e; exact ⟨rfl, h⟩
  obtain ⟨hqn, hq1⟩ := hqn
  have HFIN : Hid (∀ wr, Mid b (o ++ plainQ ls) w wr (wQ ls qn) → WG b o (plainQ ls) w (.returned (.tuple #[])) wr) := fun wr m => by
    rw [hqn, wQ_end hok.1] at m
    exact m.fin
  obtain ⟨OO, hOO⟩ : ∃ OO, o ++ plainQ ls = OO := ⟨_, rfl⟩
  rw [hOO] at hO M0 HFIN
  clear hOO
  generalize plainQ ls = TT at HFIN hl ⊢
  have HR : Hid (∀ wr i, i < qn → Mid b OO w wr (wQ ls i) → ∃ g si sn sc s, qi = some ⟨g, 0, none⟩ ∧ wr.cell? ⟨g, i, none⟩ = some (.slice si sn sc) ∧ sn ≤ 1000 ∧
      Hid (i = 0 → Mid b OO w wr (wSteps (Stps.dp s 0) ++ wQ ls (i + 1))) ∧
      Hid (i ≠ 0 → Calls Tryz.prog 22 #[.pointer (some ⟨b, 0, none⟩), .string (bs [124])] wr fun e w' => e = .returned (.tuple #[.int .i64 1, .nilIface]) ∧ Hid (Mid b OO w w' (wSteps (Stps.dp s 0) ++ wQ ls (i + 1)))) ∧
      Hid (∀ wr', Mid b OO w wr' (wSteps (Stps.dp s sn) ++ wQ ls (i + 1)) → Mid b OO w wr' (wQ ls (i + 1))) ∧
      Hid (∀ wr' j, j < sn → Mid b OO w wr' (wSteps (Stps.dp s j) ++ wQ ls (i + 1)) → ∃ g2 d X pi pn pc, si = some ⟨g2, 0, none⟩ ∧ (wr'.cell? ⟨g2, j * 3, none⟩ = some (.bool d) ∧ wr'.cell? ⟨g2, j * 3 + 1, none⟩ = some (.string X) ∧ wr'.cell? ⟨g2, j * 3 + 2, none⟩ = some (.slice pi pn pc)) ∧ ((wr'.alloc (.cells (aS d X (.slice pi pn pc)) 51)).cell? ⟨wr'.heap.size, 0, none⟩ = some (.bool d) ∧ (wr'.alloc (.cells (aS d X (.slice pi pn pc)) 51)).cell? ⟨wr'.heap.size, 1, none⟩ = some (.string X) ∧ (wr'.alloc (.cells (aS d X (.slice pi pn pc)) 51)).cell? ⟨wr'.heap.size, 2, none⟩ = some (.slice pi pn pc)) ∧
        Hid (DW b OO w (wSteps (Stps.dp s (j + 1)) ++ wQ ls (i + 1)) wr'.heap.size d X (.slice pi pn pc) (bs (slashOf d)) ((slashOf d).length : Nat) (wr'.alloc (.cells (aS d X (.slice pi pn pc)) 51))))) := fun wr i hi m => by
    rw [hqn] at hi
    have hp : ls[i]? = some ls[i] := List.getElem?_eq_getElem hi
    obtain ⟨g, e1, hA, u, hu, hs⟩ := hv.at hp
    obtain ⟨si, sc, rfl, hsn⟩ := hs.len
    refine ⟨g, si, _, sc, Stps.of ls[i], e1, (World.cell?_of_block (m.wr.below.block g hA)).trans hu, hsn, hide ?_, hide ?_, hide ?_, hide ?_⟩
    · intro h0
      subst h0
      rw [wQ_zero hp] at m
      exact m
    · intro h0
      rw [wQ_get hp h0] at m
      refine (m.put hO).mono ?_
      rintro e w' ⟨h, k⟩
      exact ⟨h, hide k.out.1⟩
    · intro wr' m'
      rw [Stps.dp_len, wSteps] at m'
      exact m'
    · intro wr' j hj m'
      obtain ⟨x, hx⟩ := (Stps.of ls[i]).get_lt j hj
      obtain ⟨g2, e2, -, -, a0, a1, p1, a2, q1⟩ := (m'.wr.slS hs).at hx
      obtain ⟨pi, pc, rfl, _⟩ := q1.len
      have hB1 := Below_new wr' (.cells (aS x.deep (bs x.test) (.slice pi x.preds.len pc)) 51)
      have hlt := m'.lt
      have ma := m'.alloc (.cells (aS x.deep (bs x.test) (.slice pi x.preds.len pc)) 51)
      have hq := (wr_alloc (Classical.choose_spec m').1 (.cells (aS x.deep (bs x.test) (.slice pi x.preds.len pc)) 51)).1.slP q1
      refine ⟨g2, _, _, pi, _, pc, e2, ⟨a0, a1, a2⟩, cells3 hB1, hide ?_⟩
      rw [wSteps_get hx, List.append_assoc, List.append_assoc] at ma
      exact dw_ok ma hO (steps_all b (hok.2 _ (List.getElem_mem hi)).2 j x hx) (by omega) hB1 hq
  have HT := hide (fun (d : Bool) (X : ByteArray) (pi : Option Addr) (pn pc : Nat) (W : World) => slashW2 d X.data.toList (.slice pi pn pc) W)
  have hbb : ∀ X : ByteArray, bs X.data.toList = X := fun X => by cases X; unfold bs; simp
  simp only [hbb] at HT
  have hq2 : qn ≤ 1000 := by omega
  clear hw hv hl hO hok hbb hqn hq1
  go_enter Tryz.func12, Tryz.ntmps12
  go_wp2_with fail
  go_loopw [4, 5, 7, 10, 11, 12, 13, 14, 15, 16, 17, 18, 19, 20, 21, 22, 23, 24, 25, 26, 27, 28, 29, 30, 31, 32, 33, 34, 35, 36, 37] (fun _ _ _ u10 _ _ _ _ _ _ _ _ _ _ _ _ _ _ _ _ _ _ _ _ _ _ _ _ _ _ _ wr => ∃ i : Nat, u10 = .int .i64 i ∧ i ≤ qn ∧ Hid (Mid b OO w wr (wQ ls i))) (fun _ _ _ u10 _ _ _ _ _ _ _ _ _ _ _ _ _ _ _ _ _ _ _ _ _ _ _ _ _ _ _ _ => qn - (RowKit.intOf u10).toNat)
  case atStart => exact ⟨0, rfl, Nat.zero_le _, M0⟩
  case round =>
    rename World => WO
    obtain ⟨i, rfl, hi, HM⟩ := hrel
    by_cases hlt : i < qn
    · obtain ⟨g, si, sn, sc, s, rfl, a0, hsn, HA, HB, HE, HS⟩ := HR.out _ i hlt HM.out
      have hdec : decide ((i : Int) < qn) = true := by simp; omega
      have hii : (i : Int) < qn := by omega
      clear HR HFIN HM M0
      by_cases h0 : i = 0
      · have HZ := hide h0
        have M1 := hide (HA.out h0)
        have hd0 : decide (0 < i) = false := by simp; omega
        clear HA HB h0
        go_wp2_with fail
        all_goals try (exfalso; have := HZ.out; omega)
        go_loopw [7, 23, 24, 25, 26, 27, 28, 29, 30, 31, 32, 33, 34, 35, 36] (fun _ u23 _ _ _ _ _ _ _ _ _ _ _ _ _ wr => ∃ j : Nat, u23 = .int .i64 j ∧ j ≤ sn ∧ Hid (Mid b OO w wr (wSteps (Stps.dp s j) ++ wQ ls (i + 1)))) (fun _ u23 _ _ _ _ _ _ _ _ _ _ _ _ _ _ => sn - (RowKit.intOf u23).toNat)
        case atStart => exact ⟨0, rfl, Nat.zero_le _, M1⟩
        case round =>
          rename World => WI
          obtain ⟨j, rfl, hj, HM⟩ := hrel
          by_cases hjl : j < sn
          · obtain ⟨g2, d, X, pi, pn, pc, rfl, ⟨a0, a1, a2⟩, ⟨c0, c1, c2⟩, HD⟩ := HS.out _ j hjl HM.out
            have hdec2 : decide ((j : Int) < sn) = true := by simp; omega
            have hjj : (j : Int) < sn := by omega
            have HT1 := hide (fun W => HT.out d X pi pn pc W)
            clear HM M1 HS HE
            go_wp2_with fail
            go_region_held3 (fun W => W.cell? ⟨WI.heap.size, 0, none⟩ = some (.bool d) ∧ W.cell? ⟨WI.heap.size, 1, none⟩ = some (.string X) ∧ W.cell? ⟨WI.heap.size, 2, none⟩ = some (.slice pi pn pc))
              (first | exact d3 | exact ⟨c0, c1, c2⟩ | exact (HD.out _ (belowN b2 _)).1 | exact (HD.out _ b2).1)
              ((first | (go_at_call 23; refine (HT1.out _).mono ?_; rintro e w5 ⟨rfl, b2'⟩; have b2 := (belowN (Below.refl _ _) _).trans b2'; clear b2') | (go_at_call 22; (first | refine (HD.out _ b2).2.mono ?_ | refine (HD.out _ (belowN b2 _)).2.mono ?_); rintro e w6 ⟨rfl, d3, h6⟩)))
            all_goals
              obtain ⟨e0, e1, e2⟩ := d3
              clear b2 c0 c1 c2 HT1 HD
              go_wp2_with (go_at_call 24; refine h6.out.mono ?_; rintro e w7 ⟨rfl, h7⟩; clear h6 e0 e1 e2)
              exact ⟨⟨j + 1, by simp, by omega, h7⟩, by simp only [RowKit.intOf]; omega⟩
          · have hdec2 : decide ((j : Int) < sn) = false := by simp; omega
            obtain rfl : j = sn := by omega
            have ME := hide (HE.out _ HM.out)
            clear HM M1 HS HE
            go_wp2
            exact ⟨⟨i + 1, by have := HZ.out; subst this; rfl, by omega, ME⟩, by simp only [RowKit.intOf]; omega⟩
      · have H1 := hide (HB.out h0)
        have hd0 : decide (0 < i) = true := by simp; omega
        clear HA HB
        go_wp2_with (go_at_call 22; refine H1.out.mono ?_; rintro e w4 ⟨rfl, M1⟩; clear H1)
        go_loopw [7, 23, 24, 25, 26, 27, 28, 29, 30, 31, 32, 33, 34, 35, 36] (fun _ u23 _ _ _ _ _ _ _ _ _ _ _ _ _ wr => ∃ j : Nat, u23 = .int .i64 j ∧ j ≤ sn ∧ Hid (Mid b OO w wr (wSteps (Stps.dp s j) ++ wQ ls (i + 1)))) (fun _ u23 _ _ _ _ _ _ _ _ _ _ _ _ _ _ => sn - (RowKit.intOf u23).toNat)
        case atStart => exact ⟨0, rfl, Nat.zero_le _, M1⟩
        case round =>
          rename World => WI
          obtain ⟨j, rfl, hj, HM⟩ := hrel
          by_cases hjl : j < sn
          · obtain ⟨g2, d, X, pi, pn, pc, rfl, ⟨a0, a1, a2⟩, ⟨c0, c1, c2⟩, HD⟩ := HS.out _ j hjl HM.out
            have hdec2 : decide ((j : Int) < sn) = true := by simp; omega
            have hjj : (j : Int) < sn := by omega
            have HT1 := hide (fun W => HT.out d X pi pn pc W)
            clear HM M1 HS HE
            go_wp2_with fail
            go_region_held3 (fun W => W.cell? ⟨WI.heap.size, 0, none⟩ = some (.bool d) ∧ W.cell? ⟨WI.heap.size, 1, none⟩ = some (.string X) ∧ W.cell? ⟨WI.heap.size, 2, none⟩ = some (.slice pi pn pc))
              (first | exact d3 | exact ⟨c0, c1, c2⟩ | exact (HD.out _ (belowN b2 _)).1 | exact (HD.out _ b2).1)
              ((first | (go_at_call 23; refine (HT1.out _).mono ?_; rintro e w5 ⟨rfl, b2'⟩; have b2 := (belowN (Below.refl _ _) _).trans b2'; clear b2') | (go_at_call 22; (first | refine (HD.out _ b2).2.mono ?_ | refine (HD.out _ (belowN b2 _)).2.mono ?_); rintro e w6 ⟨rfl, d3, h6⟩)))
            all_goals
              obtain ⟨e0, e1, e2⟩ := d3
              clear b2 c0 c1 c2 HT1 HD
              go_wp2_with (go_at_call 24; refine h6.out.mono ?_; rintro e w7 ⟨rfl, h7⟩; clear h6 e0 e1 e2)
              exact ⟨⟨j + 1, by simp, by omega, h7⟩, by simp only [RowKit.intOf]; omega⟩
          · have hdec2 : decide ((j : Int) < sn) = false := by simp; omega
            obtain rfl : j = sn := by omega
            have ME := hide (HE.out _ HM.out)
            clear HM M1 HS HE
            go_wp2
            exact ⟨⟨i + 1, by simp, by omega, ME⟩, by simp only [RowKit.intOf]; omega⟩
    · have hdec : decide ((i : Int) < qn) = false := by simp; omega
      obtain rfl : i = qn := by omega
      go_wp2
      go_end0
      exact HFIN.out _ HM.out
end Go.Proofs.YtigpjemceodjcaaGreatDoor
