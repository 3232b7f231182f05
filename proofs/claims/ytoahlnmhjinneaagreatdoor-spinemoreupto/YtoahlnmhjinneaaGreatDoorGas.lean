import Derived.Test.YtoahlnmhjinneaaGreatDoorGar
set_option linter.unusedVariables false
set_option linter.unusedSimpArgs false
set_option linter.unusedSimpArgs false
set_option linter.unusedVariables false
namespace Go.Proofs.YtoahlnmhjinneaaGreatDoor
open Go
variable {q l l' r T p w m o sh : L} {c d : UInt8} {s s' : RS} {cut : Bool} {α : Type} {e n : Nat} {inn : Option (L → Rs Prd)} {inner : RS → Prd × RS}
structure Inn (q T : L) (cut : Bool) (n : Nat) (inn : Option (L → Rs Prd)) (inner : RS → Prd × RS) : Prop where
  le : n ≤ 8
  non : inn = none → n = 8
  som : ∀ f, inn = some f → n < 8 ∧ ∀ l s, At q T l s → s.nest = (n + 1 : Nat) → Sm q T (f l) (inner s)
  keeps : ∀ s, Keeps s (inner s).2
  dead : ∀ s, s.err ≠ 0 → (inner s).2 = s
  suf : SufI inn
theorem Keeps.nst (h : Keeps s s') (he : s'.err = 0) (hn : s.nest = (n : Int)) (h8 : n ≤ 8) : s'.nest = (n : Int) := by rw [h.nest he (by omega), hn]
theorem opn_at (hx : Cx T cut) (h : At q T l s) (hn : s.nest = (n : Int)) (hd : Sg1 d) (hb : part l = [d]) : (n = 8 → (s.opn q [d]).err = 8) ∧ (n < 8 → At q T (pass 1 l) (s.opn q [d]) ∧ (s.opn q [d]).nest = (n + 1 : Nat)) := by
  have hs : s.is [d] = true := by rw [h.is hx (Sg.of1 hd), hb]; simp
  have e0 : s.bl.err = 0 := by rw [bl_err]; exact h.err
  have hl := part_app hb
  have hle : 1 ≤ l.length := by rw [hl]; simp
  have hg : Gd (l.drop 1) := by
    have hg := h.gd
    rw [hl] at hg
    exact gd_cons hg hd.lt
  constructor
  · intro h8
    unfold RS.opn
    rw [if_pos hs]
    simp only
    rw [if_pos (by rw [hn, h8]; rfl)]
    unfold RS.fail
    rw [if_pos e0]
  · intro h8
    unfold RS.opn
    rw [if_pos hs]
    simp only
    rw [if_neg (by rw [hn]; omega)]
    refine ⟨(h.drop hx hle hg).nestS _, ?_⟩
    rw [bl_nest, hn, wrap_up n (by omega)]; simp
theorem within_sim (hx : Cx T cut) (hi : Inn q T cut n inn inner) (h : At q T l s) (hn : s.nest = (n : Int)) (hd : Sg1 d) (hc : Sg1 c) (hc4 : c ≠ 40) (hb : part l = [d]) : Sm q T (within cut inn [d] [c] l) ((inner (s.opn q [d])).1, (inner (s.opn q [d])).2.shut q [c]) := by
  obtain ⟨o1, o2⟩ := opn_at hx h hn hd hb
  unfold within
  cases hinn : inn with
  | none =>
    have he := o1 (hi.non hinn)
    have hd := hi.dead (s.opn q [d]) (by rw [he]; decide)
    refine Or.inl ⟨by show (8 : Nat) ≠ 0; decide, ?_⟩
    simp only
    rw [hd]
    exact (Bd.dead (q := q) (by decide) he).must hc4
  | some f =>
    obtain ⟨h8, hf⟩ := hi.som f hinn
    obtain ⟨ha, hna⟩ := o2 h8
    have hw : want cut [d] l = .ok (pass 1 l) := by unfold want; rw [if_pos hb]; rfl
    simp only
    rw [hw]
    simp only [wnt]
    have hs := hf _ _ ha hna
    cases hfl : f (pass 1 l) with
    | error y =>
      rw [hfl] at hs
      exact Bd.shut (s := (inner (s.opn q [d])).2) hs hc4
    | ok y =>
      obtain ⟨p, l2⟩ := y
      rw [hfl] at hs
      obtain ⟨e1, a2⟩ := hs
      have h3 := a2.shutS hx (Sg.of1 hc)
      simp only [thn]
      cases hw2 : want cut [c] l2 with
      | error y => rw [hw2] at h3; exact Or.inl ⟨h3.2, h3.1⟩
      | ok l3 => rw [hw2] at h3; exact ⟨e1, h3⟩
theorem sg1_91 : Sg1 91 := ⟨by decide, by decide, by decide, by decide, by decide⟩
theorem sg1_93 : Sg1 93 := ⟨by decide, by decide, by decide, by decide, by decide⟩
theorem sg1_40 : Sg1 40 := ⟨by decide, by decide, by decide, by decide, by decide⟩
theorem sg1_41 : Sg1 41 := ⟨by decide, by decide, by decide, by decide, by decide⟩
theorem preds_sim (hx : Cx T cut) (hi : Inn q T cut n inn inner) : ∀ (f : Nat) (l : L) (s : RS) (f' : Nat), At q T l s → s.nest = (n : Int) → l.length < f → s.l.length < f' → Sm q T (preds cut inn f l) (predsR q inner f' s)
  | 0, l, s, f', h, hn, hf, hf' => by omega
  | f + 1, l, s, 0, h, hn, hf, hf' => by omega
  | f + 1, l, s, f' + 1, h, hn, hf, hf' => by
    rw [preds, predsR, h.is hx sg91]
    by_cases hb : part l = [91]
    · have hb' : (part l == [91]) = true := by simpa using hb
      rw [if_pos hb, if_pos hb']
      have hbs : s.is [91] = true := by rw [h.is hx sg91]; exact hb'
      have hw := within_sim hx hi h.bl (by rw [bl_nest]; exact hn) sg1_91 sg1_93 (by decide) hb
      have hk := keeps_within (q := q) (p := [91]) (p' := [93]) hbs (by decide) (hi.keeps _)
      simp only
      generalize inner (s.bl.opn q [91]) = x at *
      cases hwi : within cut inn [91] [93] l with
      | error y => rw [hwi] at hw; exact Bd.preds hw f'
      | ok y =>
        obtain ⟨p, l1⟩ := y
        rw [hwi] at hw
        obtain ⟨e1, a1⟩ := hw
        simp only [thn]
        have hlt := within_lt hi.suf (by decide) hwi
        have ih := preds_sim hx hi f l1 (x.2.shut q [93]) f' a1 (hk.1.nst a1.err hn hi.le) (by omega) (by omega)
        cases hp : preds cut inn f l1 with
        | error y => rw [hp] at ih; exact ih
        | ok y =>
          obtain ⟨ps, l2⟩ := y
          rw [hp] at ih
          exact ⟨by rw [ih.1]; rw [show x.1 = p from e1], ih.2⟩
    · have hb' : ¬ (part l == [91]) = true := by simpa using hb
      rw [if_neg hb, if_neg hb']
      exact ⟨rfl, h.bl⟩
theorem step_sim (hx : Cx T cut) (hi : Inn q T cut n inn inner) (dp : Bool) (h : At q T l s) (hn : s.nest = (n : Int)) : Sm q T (step cut inn dp l) (stepR q inner dp s) := by
  have ht := h.testS hx
  have hk := keeps_test (q := q) s
  unfold step stepR
  simp only
  generalize testR q s = x at *
  cases htt : test cut l with
  | error y => rw [htt] at ht; exact Bd.preds ht _
  | ok y =>
    obtain ⟨t, l1⟩ := y
    rw [htt] at ht
    obtain ⟨e1, a1⟩ := ht
    simp only [thn]
    have ih := preds_sim hx hi (l1.length + 1) l1 x.2 (x.2.l.length + 1) a1 (hk.nst a1.err hn hi.le) (by omega) (by omega)
    cases hp : preds cut inn (l1.length + 1) l1 with
    | error y => rw [hp] at ih; exact ih
    | ok y =>
      obtain ⟨ps, l2⟩ := y
      rw [hp] at ih
      exact ⟨by simp only; rw [ih.1, show x.1 = t from e1], ih.2⟩
theorem slash_two (hb : part l = [47, 47]) : slash cut l = .ok (true, pass 2 l) := by unfold slash; rw [if_pos hb]
theorem slash_one (hb : part l = [47]) : slash cut l = .ok (false, pass 1 l) := by
  unfold slash want
  rw [if_neg (by rw [hb]; decide), if_pos hb]; rfl
theorem two_at (hx : Cx T cut) (h : At q T l s) (hn : s.nest = (n : Int)) (hb : part l = [47, 47]) : At q T (pass 2 l) (s.has [47, 47]) ∧ (s.has [47, 47]).nest = (n : Int) ∧ (s.has [47, 47]).l.length + 2 ≤ s.l.length ∧ s.is [47, 47] = true := by
  have hs : s.is [47, 47] = true := by rw [h.is hx sg4747, hb]; rfl
  exact ⟨h.has hx sg4747 hb, by rw [has_nest]; exact hn, has_lt hs, hs⟩
theorem one_at (hx : Cx T cut) (h : At q T l s) (hn : s.nest = (n : Int)) (hb : part l = [47]) : At q T (pass 1 l) (s.bl.has [47]) ∧ (s.bl.has [47]).nest = (n : Int) ∧ (s.bl.has [47]).l.length + 1 ≤ s.l.length ∧ s.is [47, 47] = false ∧ s.bl.is [47] = true := by
  have hs : s.bl.is [47] = true := by rw [h.bl.is hx sg47, hb]; rfl
  have := has_lt hs
  have := (bl_suf s).length_le
  exact ⟨h.bl.has hx sg47 hb, by rw [has_nest, bl_nest]; exact hn, by simp at *; omega, by rw [h.is hx sg4747, hb]; rfl, hs⟩
theorem goes_no {st : Stp} (hg : goesOn st l = false) (ht : (st.test == [35]) = false) : part l ≠ [47] ∧ part l ≠ [47, 47] := by
  unfold goesOn at hg
  have : (st.test != [35]) = true := by simp [bne, ht]
  rw [this] at hg
  simp at hg
  exact hg
theorem goes_yes {st : Stp} (hg : goesOn st l = true) : (st.test == [35]) = false ∧ (part l = [47] ∨ part l = [47, 47]) := by
  unfold goesOn at hg
  simp at hg
  exact ⟨by simpa using hg.1, hg.2⟩
theorem more_stop (hx : Cx T cut) (h : At q T l s) (may : Bool) {st : Stp} {ls : List Stp} (hg : goesOn st l = false) (hl : lastText ls = (st.test == [35])) (f : Nat) : moreR q inner may (f + 1) ls s = (ls, if lastText ls = true then s else s.bl) := by
  rw [moreR, if_neg (by simpa using h.err)]
  cases ht : st.test == [35] with
  | true => rw [ht] at hl; rw [if_pos hl, if_pos hl]
  | false =>
    rw [ht] at hl
    obtain ⟨h1, h2⟩ := goes_no hg ht
    have hl' : ¬ lastText ls = true := by rw [hl]; simp
    rw [if_neg hl', if_neg hl', if_neg (by rw [h.is hx sg4747]; simpa using h2), if_neg (by rw [h.bl.is hx sg47]; simpa using h1)]
theorem more_two (hx : Cx T cut) (h : At q T l s) (may : Bool) {ls : List Stp} (hl : lastText ls = false) (hs : s.is [47, 47] = true) (f : Nat) : moreR q inner may (f + 1) ls s = moreR q inner may f (ls ++ [(stepR q inner true (s.has [47, 47])).1]) (stepR q inner true (s.has [47, 47])).2 := by
  rw [moreR, if_neg (by simpa using h.err), if_neg (by rw [hl]; simp), if_pos hs]
theorem pathMore_sim (hx : Cx T cut) (hi : Inn q T cut n inn inner) : ∀ (f : Nat) (st : Stp) (l : L) (ls : List Stp) (s : RS) (f' : Nat), At q T l s → s.nest = (n : Int) → l.length < f → s.l.length < f' → lastText ls = (st.test == [35]) → Sm q T (thn (pathMore cut inn f st l) fun ss l => .ok (ls ++ ss, l)) (moreR q inner false f' ls s)
  | 0, st, l, ls, s, f', h, hn, hf, hf', hl => by omega
  | f + 1, st, l, ls, s, 0, h, hn, hf, hf', hl => by omega
  | f + 1, st, l, ls, s, f' + 1, h, hn, hf, hf', hl => by
    rw [pathMore]
    cases hg : goesOn st l with
    | false =>
      rw [more_stop hx h false hg hl]
      simp only [Bool.false_eq_true, if_false, thn, List.append_nil]
      refine ⟨rfl, ?_⟩
      simp only
      split
      · exact h
      · exact h.bl
    | true =>
      obtain ⟨ht, hb⟩ := goes_yes hg
      rw [ht] at hl
      rw [if_pos rfl]
      have key : ∀ (dp : Bool) (l1 : L) (s1 : RS), At q T l1 s1 → s1.nest = (n : Int) → l1.length < l.length → s1.l.length < s.l.length → slash cut l = .ok (dp, l1) → moreR q inner false (f' + 1) ls s = moreR q inner false f' (ls ++ [(stepR q inner dp s1).1]) (stepR q inner dp s1).2 → Sm q T (thn (thn (slash cut l) fun d l => thn (step cut inn d l) fun s l => thn (pathMore cut inn f s l) fun ss l => .ok (s :: ss, l)) fun ss l => .ok (ls ++ ss, l)) (moreR q inner false (f' + 1) ls s) := by
        intro dp l1 s1 a1 n1 h1 h2 hsl hm
        rw [hm, hsl]
        have hst := step_sim hx hi dp a1 n1
        have hk := keeps_step (q := q) hi.keeps dp s1
        generalize stepR q inner dp s1 = x at *
        simp only [thn]
        cases hss : step cut inn dp l1 with
        | error y => rw [hss] at hst; exact Bd.more hst _ _ _
        | ok y =>
          obtain ⟨st2, l2⟩ := y
          rw [hss] at hst
          obtain ⟨e1, a2⟩ := hst
          have hl2 := (step_suf hi.suf dp l1 _ _ hss).length_le
          have hl3 := hk.suf.length_le
          rw [show x.1 = st2 from e1]
          have ih := pathMore_sim hx hi f st2 l2 (ls ++ [st2]) x.2 f' a2 (hk.nst a2.err n1 hi.le) (by omega) (by omega) (lastText_app _ _)
          simp only
          cases hp : pathMore cut inn f st2 l2 with
          | error y => rw [hp] at ih; exact ih
          | ok y =>
            obtain ⟨ss, l4⟩ := y
            rw [hp] at ih
            simp only [thn] at ih ⊢
            rw [List.append_assoc] at ih
            exact ih
      rcases hb with hb | hb
      · obtain ⟨a1, n1, h1, h2, h3⟩ := one_at hx h hn hb
        refine key false (pass 1 l) (s.bl.has [47]) a1 n1 (pass_lt (by decide) (part_ne hb (by decide))) (by omega) (slash_one hb) ?_
        rw [moreR, if_neg (by simpa using h.err), if_neg (by rw [hl]; simp), if_neg (by rw [h2]; simp), if_pos h3]
        simp
      · obtain ⟨a1, n1, h1, h2⟩ := two_at hx h hn hb
        exact key true (pass 2 l) (s.has [47, 47]) a1 n1 (pass_lt (by decide) (part_ne hb (by decide))) (by omega) (slash_two hb) (more_two hx h false hl h2 _)
theorem path_sim (hx : Cx T cut) (hi : Inn q T cut n inn inner) (h : At q T l s) (hn : s.nest = (n : Int)) : Sm q T (path cut inn l) (pathR q inner s) := by
  unfold path pathR
  have key : ∀ (dp : Bool) (l1 : L) (s1 : RS), At q T l1 s1 → s1.nest = (n : Int) → s1.l.length < s.l.length → slash cut l = .ok (dp, l1) → moreR q inner false (s.l.length + 1) [] s.bl = moreR q inner false s.l.length [(stepR q inner dp s1).1] (stepR q inner dp s1).2 → Sm q T (thn (slash cut l) fun d l => thn (step cut inn d l) fun s l => thn (pathMore cut inn (l.length + 1) s l) fun ss l => .ok (s :: ss, l)) (moreR q inner false (s.l.length + 1) [] s.bl) := by
    intro dp l1 s1 a1 n1 h2 hsl hm
    rw [hm, hsl]
    have hst := step_sim hx hi dp a1 n1
    have hk := keeps_step (q := q) hi.keeps dp s1
    generalize stepR q inner dp s1 = x at *
    simp only [thn]
    cases hss : step cut inn dp l1 with
    | error y => rw [hss] at hst; exact Bd.more hst _ _ _
    | ok y =>
      obtain ⟨st2, l2⟩ := y
      rw [hss] at hst
      obtain ⟨e1, a2⟩ := hst
      have hl3 := hk.suf.length_le
      rw [show x.1 = st2 from e1]
      have ih := pathMore_sim hx hi (l2.length + 1) st2 l2 [st2] x.2 s.l.length a2 (hk.nst a2.err n1 hi.le) (by omega) (by omega) (lastText_app [] st2)
      exact ih
  by_cases hb2 : part l = [47, 47]
  · obtain ⟨a1, n1, h1, h2⟩ := two_at hx h.bl (by rw [bl_nest]; exact hn) hb2
    have := (bl_suf s).length_le
    rw [if_pos (Or.inl (by rw [← is_bl]; exact h2))]
    exact key true (pass 2 l) (s.bl.has [47, 47]) a1 n1 (by omega) (slash_two hb2) (more_two hx h.bl false rfl h2 _)
  · by_cases hb : part l = [47]
    · obtain ⟨a1, n1, h1, h2, h3⟩ := one_at hx h.bl (by rw [bl_nest]; exact hn) hb
      have := (bl_suf s).length_le
      rw [if_pos (Or.inr (by rw [← is_bl]; exact h3))]
      refine key false (pass 1 l) (s.bl.bl.has [47]) a1 n1 (by omega) (slash_one hb) ?_
      rw [moreR, if_neg (by simpa using h.bl.err), if_neg (by simp [lastText]), if_neg (by rw [h2]; simp), if_pos h3]
      simp
    · rw [if_neg (by rintro (x | x); rw [h.is hx sg4747] at x; exact hb2 (by simpa using x); rw [h.bl.is hx sg47] at x; exact hb (by simpa using x))]
      have : slash cut l = .error (bad cut l) := by unfold slash want; rw [if_neg hb2, if_neg hb]; rfl
      rw [this]
      exact Or.inl ⟨(h.wrong hx).2, (h.bl.wrong hx).1⟩
end Go.Proofs.YtoahlnmhjinneaaGreatDoor

set_option linter.unusedSimpArgs false
set_option linter.unusedVariables false
namespace Go.Proofs.YtoahlnmhjinneaaGreatDoor
open Go
variable {q l l' r T p w m o sh : L} {c d : UInt8} {s s' : RS} {cut : Bool} {α : Type} {e n : Nat} {inn : Option (L → Rs Prd)} {inner : RS → Prd × RS}
theorem At.back (h : At q T l s) (hs : s'.err = 0) (hl : s'.l = s.l) : At q T l s' := by
  refine ⟨hs, ?_, h.gd, by rw [hl]; exact h.suf⟩
  have := h.eq
  unfold RS.bl at this ⊢
  simp only [h.err, hs, if_true] at this ⊢
  rw [hl]; exact this
theorem attr_sim (hx : Cx T cut) (h : At q T l s) : Sm q T (attr cut l) ((s.must q [64]).peek, (s.must q [64]).name q) := by
  have hm := h.mustS hx sg64
  unfold attr
  cases hw : want cut [64] l with
  | error y =>
    rw [hw] at hm
    have : (s.must q [64]).err ≠ 0 := by rw [hm.1]; exact hm.2
    refine Or.inl ⟨hm.2, ?_⟩
    simp only
    rw [dead_name this]; exact hm.1
  | ok l1 => rw [hw] at hm; exact hm.nameS hx
theorem valMore_sim (hx : Cx T cut) (hi : Inn q T cut n inn inner) : ∀ (f : Nat) (st : Stp) (l : L) (ls : List Stp) (s : RS) (f' : Nat), At q T l s → s.nest = (n : Int) → l.length < f → s.l.length < f' → lastText ls = (st.test == [35]) → Sm q T (thn (valMore cut inn f st l) fun x l => .ok (⟨[], .nil, Stps.of (ls ++ x.1), x.2, []⟩, l)) (attrR q (moreR q inner true f' ls s).2 (moreR q inner true f' ls s).1)
  | 0, st, l, ls, s, f', h, hn, hf, hf', hl => by omega
  | f + 1, st, l, ls, s, 0, h, hn, hf, hf', hl => by omega
  | f + 1, st, l, ls, s, f' + 1, h, hn, hf, hf', hl => by
    rw [valMore]
    cases hg : goesOn st l with
    | false =>
      rw [more_stop hx h true hg hl]
      simp only [Bool.false_eq_true, if_false, thn, List.append_nil]
      cases ht : st.test == [35] with
      | true =>
        rw [ht] at hl
        unfold attrR
        rw [hl]
        simp
        exact ⟨rfl, h⟩
      | false =>
        rw [ht] at hl
        obtain ⟨h1, h2⟩ := goes_no hg ht
        unfold attrR
        rw [hl]
        have h3 : s.bl.is [47] = false := by rw [h.bl.is hx sg47]; simpa using h1
        simp only [Bool.false_eq_true, if_false]
        rw [if_neg (by rw [h3]; simp), if_pos ⟨h.bl.err, trivial⟩]
        exact ⟨rfl, h.bl.bl⟩
    | true =>
      obtain ⟨ht, hb⟩ := goes_yes hg
      rw [ht] at hl
      rw [if_pos rfl]
      have key : ∀ (dp : Bool) (l1 : L) (s1 : RS), At q T l1 s1 → s1.nest = (n : Int) → l1.length < l.length → s1.l.length < s.l.length → moreR q inner true (f' + 1) ls s = moreR q inner true f' (ls ++ [(stepR q inner dp s1).1]) (stepR q inner dp s1).2 → Sm q T (thn (thn (step cut inn dp l1) fun s l => thn (valMore cut inn f s l) fun x l => .ok ((s :: x.1, x.2), l)) fun x l => .ok (⟨[], .nil, Stps.of (ls ++ x.1), x.2, []⟩, l)) (attrR q (moreR q inner true (f' + 1) ls s).2 (moreR q inner true (f' + 1) ls s).1) := by
        intro dp l1 s1 a1 n1 h1 h2 hm
        rw [hm]
        have hst := step_sim hx hi dp a1 n1
        have hk := keeps_step (q := q) hi.keeps dp s1
        generalize stepR q inner dp s1 = x at *
        simp only [thn]
        cases hss : step cut inn dp l1 with
        | error y => rw [hss] at hst; exact Bd.attr (Bd.more hst _ _ _) _
        | ok y =>
          obtain ⟨st2, l2⟩ := y
          rw [hss] at hst
          obtain ⟨e1, a2⟩ := hst
          have hl2 := (step_suf hi.suf dp l1 _ _ hss).length_le
          have hl3 := hk.suf.length_le
          rw [show x.1 = st2 from e1]
          have ih := valMore_sim hx hi f st2 l2 (ls ++ [st2]) x.2 f' a2 (hk.nst a2.err n1 hi.le) (by omega) (by omega) (lastText_app _ _)
          simp only
          cases hp : valMore cut inn f st2 l2 with
          | error y => rw [hp] at ih; exact ih
          | ok y =>
            obtain ⟨ss, l4⟩ := y
            rw [hp] at ih
            simp only [thn] at ih ⊢
            rw [List.append_assoc] at ih
            exact ih
      rcases hb with hb | hb
      · obtain ⟨a1, n1, h1, h2, h3⟩ := one_at hx h hn hb
        rw [slash_one hb]
        have hpl := pass_lt (n := 1) (l := l) (by decide) (part_ne hb (by decide))
        by_cases h64 : part (pass 1 l) = [64]
        · have hs64 : (s.bl.has [47]).is [64] = true := by rw [a1.is hx sg64, h64]; rfl
          have hm : moreR q inner true (f' + 1) ls s = (ls, { (s.bl.has [47]).bl with l := s.l }) := by
            rw [moreR, if_neg (by simpa using h.err), if_neg (by rw [hl]; simp), if_neg (by rw [h2]; simp), if_pos h3, if_pos ⟨rfl, hs64⟩]
          rw [hm]
          simp only [thn]
          rw [if_pos ⟨trivial, h64⟩]
          have ab : At q T l { (s.bl.has [47]).bl with l := s.l } := h.back a1.bl.err rfl
          generalize ({ (s.bl.has [47]).bl with l := s.l } : RS) = sb at *
          have hsb : sb.is [47] = true := by rw [ab.is hx sg47, hb]; rfl
          unfold attrR
          rw [if_pos ⟨ab.err, hl, hsb⟩]
          have ha := attr_sim hx (ab.has hx sg47 hb)
          simp only [List.length_singleton] at ha
          cases hat : attr cut (pass 1 l) with
          | error y => rw [hat] at ha; exact ha
          | ok y =>
            obtain ⟨a, l3⟩ := y
            rw [hat] at ha
            refine ⟨?_, ha.2⟩
            simp only [List.append_nil]
            rw [show ((sb.has [47]).must q [64]).peek = a from ha.1]
        · have hs64 : (s.bl.has [47]).is [64] = false := by rw [a1.is hx sg64]; simpa using h64
          simp only [thn]
          rw [if_neg (fun x => h64 x.2)]
          refine key false (pass 1 l) (s.bl.has [47]).bl a1.bl (by rw [bl_nest]; exact n1) hpl (by have := (bl_suf (s.bl.has [47])).length_le; omega) ?_
          rw [moreR, if_neg (by simpa using h.err), if_neg (by rw [hl]; simp), if_neg (by rw [h2]; simp), if_pos h3, if_neg (by rw [hs64]; simp)]
          simp
      · obtain ⟨a1, n1, h1, h2⟩ := two_at hx h hn hb
        rw [slash_two hb]
        simp only [thn]
        rw [if_neg (fun x => by cases x.1)]
        exact key true (pass 2 l) (s.has [47, 47]) a1 n1 (pass_lt (by decide) (part_ne hb (by decide))) (by omega) (more_two hx h true hl h2 _)
theorem vsteps_sim (hx : Cx T cut) (hi : Inn q T cut n inn inner) (dp : Bool) (h : At q T l s) (hn : s.nest = (n : Int)) (f' : Nat) (hf : (stepR q inner dp s).2.l.length < f') : Sm q T (vsteps cut inn dp l) (attrR q (moreR q inner true f' [(stepR q inner dp s).1] (stepR q inner dp s).2).2 (moreR q inner true f' [(stepR q inner dp s).1] (stepR q inner dp s).2).1) := by
  have hst := step_sim hx hi dp h hn
  have hk := keeps_step (q := q) hi.keeps dp s
  unfold vsteps
  generalize stepR q inner dp s = x at *
  cases hss : step cut inn dp l with
  | error y => rw [hss] at hst; exact Bd.attr (Bd.more hst _ _ _) _
  | ok y =>
    obtain ⟨st2, l2⟩ := y
    rw [hss] at hst
    obtain ⟨e1, a2⟩ := hst
    rw [show x.1 = st2 from e1]
    exact valMore_sim hx hi (l2.length + 1) st2 l2 [st2] x.2 f' a2 (hk.nst a2.err hn hi.le) (by omega) hf (lastText_app [] st2)
theorem value_sim (hx : Cx T cut) (hi : Inn q T cut n inn inner) (h : At q T l s) (hn : s.nest = (n : Int)) : Sm q T (value cut inn l) (valueR q inner s) := by
  unfold value valueR
  rw [h.is hx sg64, h.bl.is hx sg46]
  by_cases hb : part l = [46]
  · have h1 : ¬ (part l == [64]) = true := by rw [hb]; decide
    have h2 : (part l == [46]) = true := by rw [hb]; decide
    rw [if_pos hb, if_neg h1, if_pos h2]
    have a1 := h.bl.has hx sg46 hb
    have n1 : (s.bl.has [46]).nest = (n : Int) := by rw [has_nest, bl_nest]; exact hn
    have hw : want cut [46] l = .ok (pass 1 l) := by unfold want; rw [if_pos hb]; rfl
    unfold dot
    rw [hw]
    simp only [wnt]
    rw [a1.is hx sg4747]
    simp only [List.length_singleton] at a1 ⊢
    by_cases hb2 : part (pass 1 l) = [47, 47]
    · rw [if_pos hb2, if_pos (by simpa using hb2)]
      obtain ⟨a2, n2, h3, h4⟩ := two_at hx a1.bl (by rw [bl_nest]; exact n1) hb2
      rw [more_two hx a1.bl true rfl h4, List.nil_append]
      have hk := (keeps_step (q := q) hi.keeps true ((s.bl.has [46]).bl.has [47, 47])).suf.length_le
      have := (bl_suf (s.bl.has [46])).length_le
      exact vsteps_sim hx hi true a2 n2 _ (by omega)
    · have hb2' : ¬ (part (pass 1 l) == [47, 47]) = true := by simpa using hb2
      rw [if_neg hb2, if_neg hb2']
      exact ⟨rfl, a1.bl⟩
  · rw [if_neg hb]
    by_cases hb2 : part l = [64]
    · rw [if_pos hb2, if_pos (by simpa using hb2)]
      have ha := attr_sim hx h
      have hs : s.is [64] = true := by rw [h.is hx sg64, hb2]; rfl
      have hmu : s.must q [64] = s.has [64] := by unfold RS.must; rw [if_pos hs]
      rw [hmu] at ha
      cases hat : attr cut l with
      | error y => rw [hat] at ha; exact ha
      | ok y =>
        obtain ⟨a, l3⟩ := y
        rw [hat] at ha
        exact ⟨by simp only; rw [show (s.has [64]).peek = a from ha.1], ha.2⟩
    · have h1 : ¬ (part l == [64]) = true := by simpa using hb2
      have h2 : ¬ (part l == [46]) = true := by simpa using hb
      rw [if_neg hb2, if_neg h1, if_neg h2]
      exact vsteps_sim hx hi false h.bl.bl (by rw [bl_nest, bl_nest]; exact hn) _ (by omega)
theorem compared_sim (hx : Cx T cut) (h : At q T l s) (p : Prd) : Sm q T (compared cut p l) (if s.is [33, 61] = true then (⟨[33, 61], p.kids, p.steps, p.attr, (quotedR q (s.has [33, 61])).1⟩, (quotedR q (s.has [33, 61])).2) else if s.bl.is [61] = true then (⟨[61], p.kids, p.steps, p.attr, (quotedR q (s.bl.has [61])).1⟩, (quotedR q (s.bl.has [61])).2) else (⟨wHas, p.kids, p.steps, p.attr, p.text⟩, s.bl.bl)) := by
  unfold compared
  rw [h.is hx sg3361, h.bl.is hx sg61]
  by_cases hb : part l = [61]
  · have h1 : ¬ (part l == [33, 61]) = true := by rw [hb]; decide
    have h2 : (part l == [61]) = true := by rw [hb]; decide
    rw [if_pos hb, if_neg h1, if_pos h2]
    have hq := (h.bl.has hx sg61 hb).quotedS hx
    simp only [List.length_singleton] at hq
    cases hqq : quoted cut (pass 1 l) with
    | error y => rw [hqq] at hq; exact hq
    | ok y =>
      obtain ⟨t, l2⟩ := y
      rw [hqq] at hq
      exact ⟨by simp only; rw [hq.1], hq.2⟩
  · rw [if_neg hb]
    by_cases hb2 : part l = [33, 61]
    · rw [if_pos hb2, if_pos (by simpa using hb2)]
      have hq := (h.has hx sg3361 hb2).quotedS hx
      cases hqq : quoted cut (pass 2 l) with
      | error y => rw [show ([33, 61] : L).length = 2 from rfl, hqq] at hq; exact hq
      | ok y =>
        obtain ⟨t, l2⟩ := y
        rw [show ([33, 61] : L).length = 2 from rfl, hqq] at hq
        exact ⟨by simp only; rw [hq.1], hq.2⟩
    · have h1 : ¬ (part l == [33, 61]) = true := by simpa using hb2
      have h2 : ¬ (part l == [61]) = true := by simpa using hb
      rw [if_neg hb2, if_neg h1, if_neg h2]
      exact ⟨rfl, h.bl.bl⟩
theorem one_sim (hx : Cx T cut) (hi : Inn q T cut n inn inner) (h : At q T l s) (hn : s.nest = (n : Int)) : Sm q T (one cut inn l) (oneR q inner s) := by
  unfold one oneR
  rw [h.called hx wdNot]
  by_cases hc : calls wNot l = true
  · rw [if_pos hc, if_pos hc]
    have hc2 := hc
    unfold calls at hc2
    simp only [Bool.and_eq_true, beq_iff_eq] at hc2
    have hw : want cut wNot l = .ok (pass 3 l) := by unfold want; rw [if_pos hc2.1]; rfl
    rw [hw]
    simp only [wnt]
    have a1 := h.bl.wname hx wdNot hc2.1
    have n1 : (s.bl.name q).nest = (n : Int) := by
      have hk := (keeps_bl s).trans (keeps_name (q := q) s.bl)
      exact hk.nst a1.err hn hi.le
    have hp : part (pass 3 l) = [40] := by
      have := hc2.2
      rw [pre40] at this
      simpa [pass] using this
    have hwi := within_sim hx hi a1 n1 sg1_40 sg1_41 (by decide) hp
    cases hw2 : within cut inn [40] [41] (pass 3 l) with
    | error y => rw [show wNot.length = 3 from rfl, hw2] at hwi; exact hwi
    | ok y =>
      obtain ⟨p, l2⟩ := y
      rw [show wNot.length = 3 from rfl, hw2] at hwi
      exact ⟨by simp only; rw [hwi.1], hwi.2⟩
  · rw [if_neg hc, if_neg hc, h.bl.is hx sg40]
    by_cases hb : part l = [40]
    · rw [if_pos hb, if_pos (by simpa using hb)]
      exact within_sim hx hi h.bl.bl (by rw [bl_nest, bl_nest]; exact hn) sg1_40 sg1_41 (by decide) hb
    · have hb' : ¬ (part l == [40]) = true := by simpa using hb
      rw [if_neg hb, if_neg hb']
      have hv := value_sim hx hi h.bl.bl (by rw [bl_nest, bl_nest]; exact hn)
      simp only
      generalize valueR q inner s.bl.bl = x at *
      cases hvv : value cut inn l with
      | error y =>
        rw [hvv] at hv
        have hv : Bd q y.1 x.2 := hv
        rw [if_neg (by rw [hv.is (by decide)]; simp), if_neg (by rw [hv.bl.is (by decide)]; simp)]
        exact hv.bl.bl
      | ok y =>
        obtain ⟨p, l2⟩ := y
        rw [hvv] at hv
        obtain ⟨e1, a2⟩ := hv
        rw [show x.1 = p from e1]
        exact compared_sim hx a2 p
structure RdS (q T : L) (n : Nat) (read : L → Rs Prd) (readR : RS → Prd × RS) : Prop where
  sim : ∀ l s, At q T l s → s.nest = (n : Int) → Sm q T (read l) (readR s)
  keeps : ∀ s, Keeps s (readR s).2
  suf : ∀ l, Suf l (read l)
variable {read : L → Rs Prd} {readR : RS → Prd × RS} {word : L}
theorem joinMore_sim (hx : Cx T cut) (h8 : n ≤ 8) (hw : Wd word) (hr : RdS q T n read readR) : ∀ (f : Nat) (l : L) (s : RS) (f' : Nat), At q T l s → s.nest = (n : Int) → l.length < f → s.l.length < f' → Sm q T (joinMore word read f l) (loopR q word readR f' s)
  | 0, l, s, f', h, hn, hf, hf' => by omega
  | f + 1, l, s, 0, h, hn, hf, hf' => by omega
  | f + 1, l, s, f' + 1, h, hn, hf, hf' => by
    have he' : ¬ (s.err ≠ 0) := by simpa using h.err
    rw [joinMore, loopR, if_neg he']
    have hne : word ≠ [] := by intro x; have := hw.two; rw [x] at this; simp at this
    by_cases hb : part l = word
    · have hpk := (h.word hx hw).2 hb
      rw [if_pos hb, if_pos hpk]
      have a1 := h.bl.wname hx hw hb
      have n1 : (s.bl.name q).nest = (n : Int) := ((keeps_bl s).trans (keeps_name (q := q) s.bl)).nst a1.err hn h8
      have hs := hr.sim _ _ a1 n1
      have hk := hr.keeps (s.bl.name q)
      have hlt := name_lt (q := q) (s := s) (by rw [hpk]; exact hne)
      have hpl := pass_lt (n := word.length) (l := l) (by have := hw.two; omega) (part_ne hb hne)
      simp only
      generalize readR (s.bl.name q) = x at *
      cases hre : read (pass word.length l) with
      | error y => rw [hre] at hs; exact Bd.loop hs hne _
      | ok y =>
        obtain ⟨p, l1⟩ := y
        rw [hre] at hs
        obtain ⟨e1, a2⟩ := hs
        have hl1 := (hr.suf _ _ _ hre).length_le
        have hl2 := hk.suf.length_le
        simp only [thn]
        have ih := joinMore_sim hx h8 hw hr f l1 x.2 f' a2 (hk.nst a2.err n1 h8) (by omega) (by omega)
        cases hj : joinMore word read f l1 with
        | error y => rw [hj] at ih; exact ih
        | ok y =>
          obtain ⟨ps, l2⟩ := y
          rw [hj] at ih
          exact ⟨by simp only; rw [ih.1, show x.1 = p from e1], ih.2⟩
    · rw [if_neg hb, if_neg (fun x => hb ((h.word hx hw).1 x))]
      exact ⟨rfl, h.bl⟩
theorem joinMore_ne {f : Nat} {ps : List Prd} (hb : part l = word) (h : joinMore word read (f + 1) l = .ok (ps, l')) : ps ≠ [] := by
  rw [joinMore, if_pos hb] at h
  cases hre : read (pass word.length l) with
  | error y => rw [hre] at h; cases h
  | ok y =>
    obtain ⟨p, l1⟩ := y
    rw [hre] at h
    simp only [thn] at h
    cases hj : joinMore word read f l1 with
    | error y => rw [hj] at h; cases h
    | ok y => rw [hj] at h; cases h; simp
theorem joined_sim (hx : Cx T cut) (h8 : n ≤ 8) (hw : Wd word) (hr : RdS q T n read readR) (h : At q T l s) (hn : s.nest = (n : Int)) : Sm q T (joined word read l) (joinR q word readR s) := by
  have hne : word ≠ [] := by intro x; have := hw.two; rw [x] at this; simp at this
  unfold joined joinR
  have hs := hr.sim _ _ h hn
  have hk := hr.keeps s
  simp only
  generalize readR s = x at *
  cases hre : read l with
  | error y => rw [hre] at hs; exact Bd.loop hs hne _
  | ok y =>
    obtain ⟨p, l1⟩ := y
    rw [hre] at hs
    obtain ⟨e1, a2⟩ := hs
    simp only [thn]
    rw [show x.1 = p from e1]
    have ih := joinMore_sim hx h8 hw hr (l1.length + 1) l1 x.2 (x.2.l.length + 1) a2 (hk.nst a2.err hn h8) (by omega) (by omega)
    by_cases hb : part l1 = word
    · rw [if_pos hb]
      cases hj : joinMore word read (l1.length + 1) l1 with
      | error y => rw [hj] at ih; exact ih
      | ok y =>
        obtain ⟨ps, l2⟩ := y
        rw [hj] at ih
        have hps := joinMore_ne hb hj
        refine ⟨?_, ih.2⟩
        simp only
        rw [ih.1]
        cases ps with
        | nil => exact absurd rfl hps
        | cons a b => rfl
    · rw [if_neg hb]
      have hj : joinMore word read (l1.length + 1) l1 = .ok ([], l1) := by rw [joinMore, if_neg hb]
      rw [hj] at ih
      refine ⟨?_, ih.2⟩
      simp only
      rw [ih.1]; rfl
theorem cond_sim (hx : Cx T cut) (hi : Inn q T cut n inn inner) (h : At q T l s) (hn : s.nest = (n : Int)) : Sm q T (cond cut inn l) (condR q inner s) := by
  have h1 : RdS q T n (one cut inn) (oneR q inner) := ⟨fun l s a b => one_sim hx hi a b, fun s => keeps_one hi.keeps s, one_suf hi.suf⟩
  have h2 : RdS q T n (both cut inn) (bothR q inner) := ⟨fun l s a b => joined_sim hx hi.le wdAnd h1 a b, fun s => keeps_join h1.keeps s, fun l => joined_suf h1.suf l⟩
  exact joined_sim hx hi.le wdOr h2 h hn
theorem inn_at (hx : Cx T cut) : ∀ (d n : Nat), n + d = 8 → Inn q T cut n (inAt cut d) (inRAt q d)
  | 0, n, h => ⟨by omega, fun _ => by omega, fun f e => (by cases e), fun s => Keeps.refl, fun s _ => rfl, inAt_suf 0⟩
  | d + 1, n, h => by
    have ih := inn_at hx d (n + 1) (by omega)
    refine ⟨by omega, fun e => (by cases e), fun f e => ?_, fun s => keeps_inAt _ s, fun s he => by rw [dead_in he], inAt_suf _⟩
    cases e
    refine ⟨by omega, fun l s a b => ?_⟩
    rw [condAt_eq]
    show Sm q T _ (condRAt q d s)
    rw [condRAt_eq]
    exact cond_sim hx ih a b
theorem paths_sim (hx : Cx T cut) : ∀ (f : Nat) (l : L) (s : RS) (f' : Nat), At q T l s → s.nest = 0 → l.length < f → s.l.length < f' → Sm q T (pathsMore cut f l) (pathsR q f' s)
  | 0, l, s, f', h, hn, hf, hf' => by omega
  | f + 1, l, s, 0, h, hn, hf, hf' => by omega
  | f + 1, l, s, f' + 1, h, hn, hf, hf' => by
    have hi := inn_at (q := q) hx 8 0 rfl
    rw [pathsMore, pathsR, h.is hx sg124]
    by_cases hb : part l = [124]
    · rw [if_pos hb, if_pos (by simpa using hb)]
      have hs : s.is [124] = true := by rw [h.is hx sg124, hb]; rfl
      have a1 := h.has hx sg124 hb
      have n1 : (s.has [124]).nest = ((0 : Nat) : Int) := by rw [has_nest]; exact hn
      have hp := path_sim hx hi a1 n1
      have hk := keeps_path (q := q) hi.keeps (s.has [124])
      have hlt := has_lt hs
      have hpl := pass_lt (n := 1) (l := l) (by decide) (part_ne hb (by decide))
      simp only [List.length_singleton] at hp hlt ⊢
      generalize pathR q (inRAt q 8) (s.has [124]) = x at *
      cases hpp : path cut (inAt cut 8) (pass 1 l) with
      | error y => rw [hpp] at hp; exact Bd.paths hp _
      | ok y =>
        obtain ⟨p, l1⟩ := y
        rw [hpp] at hp
        obtain ⟨e1, a2⟩ := hp
        have hl1 := (path_suf hi.suf _ _ _ hpp).length_le
        have hl2 := hk.suf.length_le
        simp only [thn]
        have ih := paths_sim hx f l1 x.2 f' a2 (hk.nst a2.err n1 hi.le) (by omega) (by omega)
        cases hj : pathsMore cut f l1 with
        | error y => rw [hj] at ih; exact ih
        | ok y =>
          obtain ⟨ps, l2⟩ := y
          rw [hj] at ih
          exact ⟨by simp only; rw [ih.1, show x.1 = p from e1], ih.2⟩
    · have hb' : ¬ (part l == [124]) = true := by simpa using hb
      rw [if_neg hb, if_neg hb']
      exact ⟨rfl, h.bl⟩
def endR (q : L) (s : RS) : RS := if s.bl.err = 0 ∧ s.bl.l ≠ [] then s.bl.wrong q else s.bl
theorem Bd.endR (h : Bd q e s) : (Go.Proofs.YtoahlnmhjinneaaGreatDoor.endR q s).err = e := by
  unfold Go.Proofs.YtoahlnmhjinneaaGreatDoor.endR
  split
  · exact h.bl.wrong
  · next hno =>
    rcases h with ⟨h1, h2⟩ | ⟨h1, h2, r, h3, h4⟩
    · rw [bl_err]; exact h2
    · exact absurd ⟨by rw [bl_err]; exact h2, by rw [h3]; simp⟩ hno
theorem fin_err (ps : List (List Stp)) (hb : (endR q s).err = e) (hne : e ≠ 0) : ∃ at_, (if (endR q s).err = 0 then Except.ok ps else Except.error ((endR q s).err, (endR q s).at_) : Except (Nat × Nat) (List (List Stp))) = .error (e, at_) := ⟨_, by rw [if_neg (by rw [hb]; exact hne), hb]⟩
theorem parse_sim (q : L) : match parse q with
    | .ok ps => parseR q = .ok ps
    | .error e => e.1 ≠ 0 ∧ ∃ at_, parseR q = .error (e.1, at_) := by
  unfold parse parseR
  by_cases h5 : 500 < q.length
  · rw [if_pos h5, if_pos h5]; exact ⟨by decide, _, rfl⟩
  · rw [if_neg h5, if_neg h5]
    have hx : Cx (cutT q) (isCut q) := ⟨cut_stop q, by
      unfold isCut
      rw [decide_eq_true_iff, cut_len]
      unfold cutT
      constructor
      · intro h e; have := congrArg List.length e; rw [List.length_drop] at this; simp at this; omega
      · intro h
        have := badq_le q
        by_cases he : Ch.bad (bs q) = q.length
        · exfalso; apply h; rw [he]; simp
        · omega⟩
    have hi := inn_at (q := q) hx 8 0 rfl
    have a0 : At q (cutT q) (pass 0 (cutAt q)) (RS.start q) := by
      refine ⟨rfl, ?_, gd_skip (cut_good q), List.suffix_refl _⟩
      show skip q = _
      conv => lhs; rw [← cut_app q]
      exact skip_app hx.skip _
    have hp := path_sim hx hi a0 rfl
    have hk := keeps_path (q := q) hi.keeps (RS.start q)
    unfold query queryR
    simp only
    generalize pathR q (inRAt q 8) (RS.start q) = x at *
    cases hpp : path (isCut q) (inAt (isCut q) 8) (pass 0 (cutAt q)) with
    | error y =>
      rw [hpp] at hp
      have hb := (Bd.paths hp (x.2.l.length + 1)).endR
      have hne := Bd.ne hp
      simp only [thn]
      exact ⟨hne, fin_err _ hb hne⟩
    | ok y =>
      obtain ⟨p, l1⟩ := y
      rw [hpp] at hp
      obtain ⟨e1, a1⟩ := hp
      simp only [thn]
      have ih := paths_sim hx (l1.length + 1) l1 x.2 (x.2.l.length + 1) a1 (hk.nst a1.err (n := 0) rfl (by decide)) (by omega) (by omega)
      generalize pathsR q (x.2.l.length + 1) x.2 = z at *
      cases hj : pathsMore (isCut q) (l1.length + 1) l1 with
      | error y =>
        rw [hj] at ih
        have hb := Bd.endR ih
        have hne := Bd.ne ih
        simp only
        exact ⟨hne, fin_err _ hb hne⟩
      | ok y =>
        obtain ⟨ps, l2⟩ := y
        rw [hj] at ih
        obtain ⟨e2, a2⟩ := ih
        simp only
        by_cases hl : l2 = [] ∧ isCut q = false
        · rw [if_pos hl]
          simp only
          have hT : cutT q = [] := by
            by_cases hT : cutT q = []
            · exact hT
            · have := hx.ct.2 hT; rw [hl.2] at this; cases this
          have he : endR q z.2 = z.2.bl := by unfold endR; rw [if_neg]; rintro ⟨-, h⟩; rw [a2.eq, hl.1, hT] at h; exact h rfl
          change (if (endR q z.2).err = 0 then _ else _) = _
          rw [he, if_pos a2.bl.err, show x.1 = p from e1, show z.1 = ps from e2]
        · rw [if_neg hl]
          simp only
          have hne : z.2.bl.l ≠ [] := by
            rw [a2.eq]
            intro h
            have h1 : l2 = [] := (List.append_eq_nil_iff.1 h).1
            have h2 : cutT q = [] := (List.append_eq_nil_iff.1 h).2
            refine hl ⟨h1, ?_⟩
            cases hc : isCut q with
            | false => rfl
            | true => exact absurd h2 (hx.ct.1 hc)
          have he : endR q z.2 = z.2.bl.wrong q := by unfold endR; rw [if_pos ⟨a2.bl.err, hne⟩]
          have hw := a2.bl.wrong hx
          exact ⟨hw.2, fin_err _ (by rw [he]; exact hw.1) hw.2⟩
end Go.Proofs.YtoahlnmhjinneaaGreatDoor

set_option linter.unusedSimpArgs false
set_option linter.unusedVariables false
namespace Go.Proofs.YtoahlnmhjinneaaGreatDoor
open Go

def slashOf (d : Bool) : L := if d = true then [47, 47] else [47]
def testOf (t : L) : L := if t = [35] then [116, 101, 120, 116, 40, 41] else t
def quoteFor (t : L) : UInt8 := if t.contains 34 = true then 39 else 34
def cmpOf (o t : L) : L := if o = wHas then [] else o ++ quoteFor t :: (t ++ [quoteFor t])
def attrOf (s : Stps) (a : L) : L := match s with
  | .nil => if a = [] then [46] else 64 :: a
  | .cons _ _ _ _ => if a = [] then [] else 47 :: 64 :: a
def isJoin (o : L) : Bool := o == wOr || o == wAnd
mutual
def wSteps (s : Stps) : L := match s with
  | .nil => []
  | .cons d t p m => slashOf d ++ (testOf t ++ (wPreds p ++ wSteps m))
termination_by 3 * SizeOf.sizeOf s
def wInner (s : Stps) : L := match s with
  | .nil => []
  | .cons d t p m => (if d = true then [46, 47, 47] else []) ++ (testOf t ++ (wPreds p ++ wSteps m))
termination_by 3 * SizeOf.sizeOf s
def wPreds (p : Prds) : L := match p with
  | .nil => []
  | .cons o k s a t m => 91 :: (wCond o k s a t ++ 93 :: wPreds m)
termination_by 3 * SizeOf.sizeOf p
def wCond (o : L) (k : Prds) (s : Stps) (a t : L) : L :=
  if isJoin o = true then wKids o k
  else if o = wNot then wNot ++ 40 :: (wHead k ++ [41])
  else wInner s ++ (attrOf s a ++ cmpOf o t)
termination_by 3 * (SizeOf.sizeOf k + SizeOf.sizeOf s) + 1
def wKid (op : L) (o : L) (k : Prds) (s : Stps) (a t : L) : L := if o = wOr ∨ (o = wAnd ∧ op = wAnd) then 40 :: (wCond o k s a t ++ [41]) else wCond o k s a t
termination_by 3 * (SizeOf.sizeOf k + SizeOf.sizeOf s) + 2
def wHead (p : Prds) : L := match p with
  | .nil => []
  | .cons o k s a t _ => wCond o k s a t
termination_by 3 * SizeOf.sizeOf p
def wKids (op : L) (p : Prds) : L := match p with
  | .nil => []
  | .cons o k s a t m => wKid op o k s a t ++ wMore op m
termination_by 3 * SizeOf.sizeOf p
def wMore (op : L) (p : Prds) : L := match p with
  | .nil => []
  | .cons o k s a t m => 32 :: (op ++ 32 :: (wKid op o k s a t ++ wMore op m))
termination_by 3 * SizeOf.sizeOf p
end
def plainQ : List (List Stp) → L
  | [] => []
  | [p] => wSteps (Stps.of p)
  | p :: q :: l => wSteps (Stps.of p) ++ 124 :: plainQ (q :: l)
end Go.Proofs.YtoahlnmhjinneaaGreatDoor

set_option linter.unusedSimpArgs false
set_option linter.unusedVariables false
namespace Go.Proofs.YtoahlnmhjinneaaGreatDoor
open Go
variable {l l' r t p R X : L} {c d : UInt8} {cut : Bool}

structure NameOk (t : L) : Prop where
  gd : Gd t
  all : nm t = t.length
  ne : t ≠ []
theorem stop_asc (hc : c.toNat < 128) (hb : Ch.begins (c.toNat : Int) = false) (hg : Ch.goesOn (c.toNat : Int) = false) (r : L) : Stop (c :: r) := by
  refine Or.inr (Or.inr ?_)
  rw [dec_ascii hc]
  exact ⟨hb, hg⟩
structure Fn (X : L) : Prop where
  st : Stop X
  no : Lib.hasPrefix (skip X) [40] = false
theorem nm_at (h : NameOk t) (hX : Stop X) : nm (t ++ X) = t.length := by rw [nm_app h.gd hX, h.all]
theorem part_at (h : NameOk t) (hX : Stop X) : part (t ++ X) = t := by
  have h0 : 0 < t.length := List.length_pos_iff.2 h.ne
  unfold part
  rw [nm_at h hX, if_pos h0]
  simp
theorem skip_sign (hc : [9, 10, 13, 32].contains c = false) (r : L) : skip (c :: r) = c :: r := by rw [skip_cons, hc]; simp
def TestOk (t : L) : Prop := t = [42] ∨ t = [35] ∨ NameOk t
inductive Fa : L → Prop
  | nil : Fa []
  | sq (r : L) : Fa (93 :: r)
  | rd (r : L) : Fa (41 :: r)
  | bar (r : L) : Fa (124 :: r)
  | or (r : L) : Fa (32 :: (wOr ++ 32 :: r))
  | and (r : L) : Fa (32 :: (wAnd ++ 32 :: r))
theorem sg1_124 : Sg1 124 := ⟨by decide, by decide, by decide, by decide, by decide⟩
theorem nm_or : NameOk wOr := ⟨by unfold Gd; decide, by decide, by decide⟩
theorem nm_and : NameOk wAnd := ⟨by unfold Gd; decide, by decide, by decide⟩
theorem stop32 (r : L) : Stop (32 :: r) := stop_asc (by decide) (by decide) (by decide) r
theorem skip32 (h : NameOk p) (hp : ∃ c r, p = c :: r ∧ [9, 10, 13, 32].contains c = false) (r : L) : skip (32 :: (p ++ r)) = p ++ r := by
  obtain ⟨c, q, rfl, hc⟩ := hp
  rw [skip_cons, if_pos (by decide), List.cons_append, skip_sign hc]
theorem Fa.part (h : Fa R) : part (skip R) = [] ∨ part (skip R) = [93] ∨ part (skip R) = [41] ∨ part (skip R) = [124] ∨ part (skip R) = wOr ∨ part (skip R) = wAnd := by
  cases h with
  | nil => exact Or.inl (by rw [skip_nil]; exact part_nil)
  | sq r => exact Or.inr (Or.inl (by rw [skip_sign (by decide)]; exact part_one sg1_93 r))
  | rd r => exact Or.inr (Or.inr (Or.inl (by rw [skip_sign (by decide)]; exact part_one sg1_41 r)))
  | bar r => exact Or.inr (Or.inr (Or.inr (Or.inl (by rw [skip_sign (by decide)]; exact part_one sg1_124 r))))
  | or r => exact Or.inr (Or.inr (Or.inr (Or.inr (Or.inl (by rw [skip32 nm_or ⟨_, _, rfl, by decide⟩]; exact part_at nm_or (stop32 r))))))
  | and r => exact Or.inr (Or.inr (Or.inr (Or.inr (Or.inr (by rw [skip32 nm_and ⟨_, _, rfl, by decide⟩]; exact part_at nm_and (stop32 r))))))
theorem Fa.ne (h : Fa R) {p : L} (hp : p ≠ [] ∧ p ≠ [93] ∧ p ≠ [41] ∧ p ≠ [124] ∧ p ≠ wOr ∧ p ≠ wAnd) : Go.Proofs.YtoahlnmhjinneaaGreatDoor.part (skip R) ≠ p := by
  intro e
  rcases h.part with x | x | x | x | x | x <;> rw [x] at e <;> subst e
  · exact hp.1 rfl
  · exact hp.2.1 rfl
  · exact hp.2.2.1 rfl
  · exact hp.2.2.2.1 rfl
  · exact hp.2.2.2.2.1 rfl
  · exact hp.2.2.2.2.2 rfl
theorem Fa.fn (h : Fa R) : Fn R := by
  refine ⟨?_, ?_⟩
  · cases h with
    | nil => exact Or.inl rfl
    | sq r => exact stop_asc (by decide) (by decide) (by decide) r
    | rd r => exact stop_asc (by decide) (by decide) (by decide) r
    | bar r => exact stop_asc (by decide) (by decide) (by decide) r
    | or r => exact stop32 _
    | and r => exact stop32 _
  · rw [pre40]
    have := h.ne (p := [40]) (by decide)
    simpa using this
structure TextOk (t : L) : Prop where
  one : ¬ (34 ∈ t ∧ 39 ∈ t)
  gd : Gd t
end Go.Proofs.YtoahlnmhjinneaaGreatDoor

set_option linter.unusedSimpArgs false
set_option linter.unusedVariables false
namespace Go.Proofs.YtoahlnmhjinneaaGreatDoor
open Go
variable {l l' r R X Y : L} {c : UInt8} {cut : Bool}
def noT : Stps → Prop
  | .nil => True
  | .cons _ t _ m => t ≠ [35] ∧ noT m
mutual
def okS (d : Nat) (s : Stps) : Prop := match s with
  | .nil => True
  | .cons _ t p m => TestOk t ∧ (t = [35] → m = .nil) ∧ okPs d p ∧ okS d m
termination_by 3 * SizeOf.sizeOf s
def okPs (d : Nat) (p : Prds) : Prop := match p with
  | .nil => True
  | .cons o k s a t m => (match d with | 0 => False | d' + 1 => okC d' o k s a t) ∧ okPs d m
termination_by 3 * SizeOf.sizeOf p
def okC (d : Nat) (o : L) (k : Prds) (s : Stps) (a t : L) : Prop :=
  if isJoin o = true then (2 ≤ k.len ∧ s = .nil ∧ a = [] ∧ t = []) ∧ okKids d o k
  else if o = wNot then (k.len = 1 ∧ s = .nil ∧ a = [] ∧ t = []) ∧ (match d with | 0 => False | d' + 1 => okHead d' k)
  else ((o = wHas ∧ t = []) ∨ ((o = [61] ∨ o = [33, 61]) ∧ TextOk t)) ∧ k = .nil ∧ okS d s ∧ (a = [] ∨ (NameOk a ∧ noT s))
termination_by 3 * (SizeOf.sizeOf k + SizeOf.sizeOf s) + 1
def okKid (d : Nat) (op : L) (o : L) (k : Prds) (s : Stps) (a t : L) : Prop := if o = wOr ∨ (o = wAnd ∧ op = wAnd) then (match d with | 0 => False | d' + 1 => okC d' o k s a t) else okC d o k s a t
termination_by 3 * (SizeOf.sizeOf k + SizeOf.sizeOf s) + 2
def okHead (d : Nat) (p : Prds) : Prop := match p with
  | .nil => False
  | .cons o k s a t _ => okC d o k s a t
termination_by 3 * SizeOf.sizeOf p
def okKids (d : Nat) (op : L) (p : Prds) : Prop := match p with
  | .nil => True
  | .cons o k s a t m => okKid d op o k s a t ∧ okKids d op m
termination_by 3 * SizeOf.sizeOf p
end
def Hd (T : L) : Prop := ∃ c r, T = c :: r ∧ [9, 10, 13, 32].contains c = false
theorem Hd.skip {T : L} (h : Hd T) (X : L) : skip (T ++ X) = T ++ X := by
  obtain ⟨c, r, rfl, hc⟩ := h
  rw [List.cons_append, skip_sign hc]
theorem Hd.app {T : L} (h : Hd T) (X : L) : Hd (T ++ X) := by obtain ⟨c, r, rfl, hc⟩ := h; exact ⟨c, r ++ X, rfl, hc⟩
structure Fv (X : L) : Prop where
  fn : Fn X
  n1 : part (skip X) ≠ [47]
  n2 : part (skip X) ≠ [47, 47]
  n3 : part (skip X) ≠ [91]
theorem Fa.fv (h : Fa R) : Fv R := ⟨h.fn, h.ne (by decide), h.ne (by decide), h.ne (by decide)⟩
end Go.Proofs.YtoahlnmhjinneaaGreatDoor

set_option linter.unusedSimpArgs false
set_option linter.unusedVariables false
namespace Go.Proofs.YtoahlnmhjinneaaGreatDoor
open Go
variable {l l' r R X Y : L} {c : UInt8} {cut : Bool} {inn : Option (L → Rs Prd)} {d : Nat}
theorem skip_le (l : L) : (skip l).length ≤ l.length := (skip_suf l).length_le
end Go.Proofs.YtoahlnmhjinneaaGreatDoor

set_option linter.unusedSimpArgs false
set_option linter.unusedVariables false
namespace Go.Proofs.YtoahlnmhjinneaaGreatDoor
open Go
variable {l l' r R X Y W a b : L} {c : UInt8} {cut : Bool} {d : Nat}
theorem gd_app (ha : Gd a) (hb : Gd b) : Gd (a ++ b) := by
  have h := (Ch.bad_first (jn a b) ((bs a).size + 1) 0 ((bs (a ++ b)).size + 1) (Nat.zero_le _) (by omega) (by omega)).2 (by rw [bsz]; have := ha; unfold Gd Ch.bad at this; rw [bsz] at this; exact this)
  unfold Gd
  unfold Gd at hb
  rw [bsz, hb] at h
  rw [List.length_append]
  exact h
def okQ (ls : List (List Stp)) : Prop := ls ≠ [] ∧ ∀ p ∈ ls, p ≠ [] ∧ okS 8 (Stps.of p)
def plainT : List (List Stp) → L
  | [] => []
  | p :: l => 124 :: (wSteps (Stps.of p) ++ plainT l)
theorem plainQ_eq : ∀ (p : List Stp) (l : List (List Stp)), plainQ (p :: l) = wSteps (Stps.of p) ++ plainT l
  | p, [] => by simp [plainQ, plainT]
  | p, q :: l => by rw [plainQ, plainT, plainQ_eq q l]
end Go.Proofs.YtoahlnmhjinneaaGreatDoor
