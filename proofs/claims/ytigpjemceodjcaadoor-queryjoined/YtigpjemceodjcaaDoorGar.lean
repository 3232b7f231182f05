import Derived.Test.YtigpjemceodjcaaDoorGaq
import Derived.Test.YtigpjemceodjcaaDoorGao
set_option linter.unusedVariables false
set_option linter.unusedSimpArgs false
set_option linter.unusedSimpArgs false
set_option linter.unusedVariables false
namespace Go.Proofs.YtigpjemceodjcaaDoor
open Go
variable {q l l' r T p w m o sh : L} {c d : UInt8} {s s' : RS} {cut : Bool} {α : Type} {e n : Nat} {inn : Option (L → Rs Prd)} {inner : RS → Prd × RS}
theorem At.back (h : At q T l s) (hs : s'.err = 0) (hl : s'.l = s.l) : At q T l s' := by
  refine ⟨hs, ?_, h.gd, by rw [hl]; exact h.suf⟩
  have := h.eq
  unfold RS.bl at this ⊢
  simp only [h.err, hs, if_true] at this ⊢
  rw [hl]; exact this
theorem attr_sim (hx : Cx T cut) (h : At q T l s) : Sm q T (attr cut l) ((s.must q [64]).peek, (s.must q [64]).name q) := by
  have hm := h.mustS hx sg64
  unfold attr
  cases hw : want cut [64] l with
  | error y =>
    rw [hw] at hm
    have : (s.must q [64]).err ≠ 0 := by rw [hm.1]; exact hm.2
    refine Or.inl ⟨hm.2, ?_⟩
    simp only
    rw [dead_name this]; exact hm.1
  | ok l1 => rw [hw] at hm; exact hm.nameS hx
theorem valMore_sim (hx : Cx T cut) (hi : Inn q T cut n inn inner) : ∀ (f : Nat) (st : Stp) (l : L) (ls : List Stp) (s : RS) (f' : Nat), At q T l s → s.nest = (n : Int) → l.length < f → s.l.length < f' → lastText ls = (st.test == [35]) → Sm q T (thn (valMore cut inn f st l) fun x l => .ok (⟨[], .nil, Stps.of (ls ++ x.1), x.2, []⟩, l)) (attrR q (moreR q inner true f' ls s).2 (moreR q inner true f' ls s).1)
  | 0, st, l, ls, s, f', h, hn, hf, hf', hl => by omega
  | f + 1, st, l, ls, s, 0, h, hn, hf, hf', hl => by omega
  | f + 1, st, l, ls, s, f' + 1, h, hn, hf, hf', hl => by
    rw [valMore]
    cases hg : goesOn st l with
    | false =>
      rw [more_stop hx h true hg hl]
      simp only [Bool.false_eq_true, if_false, thn, List.append_nil]
      cases ht : st.test == [35] with
      | true =>
        rw [ht] at hl
        unfold attrR
        rw [hl]
        simp
        exact ⟨rfl, h⟩
      | false =>
        rw [ht] at hl
        obtain ⟨h1, h2⟩ := goes_no hg ht
        unfold attrR
        rw [hl]
        have h3 : s.bl.is [47] = false := by rw [h.bl.is hx sg47]; simpa using h1
        simp only [Bool.false_eq_true, if_false]
        rw [if_neg (by rw [h3]; simp), if_pos ⟨h.bl.err, trivial⟩]
        exact ⟨rfl, h.bl.bl⟩
    | true =>
      obtain ⟨ht, hb⟩ := goes_yes hg
      rw [ht] at hl
      rw [if_pos rfl]
      have key : ∀ (dp : Bool) (l1 : L) (s1 : RS), At q T l1 s1 → s1.nest = (n : Int) → l1.length < l.length → s1.l.length < s.l.length → moreR q inner true (f' + 1) ls s = moreR q inner true f' (ls ++ [(stepR q inner dp s1).1]) (stepR q inner dp s1).2 → Sm q T (thn (thn (step cut inn dp l1) fun s l => thn (valMore cut inn f s l) fun x l => .ok ((s :: x.1, x.2), l)) fun x l => .ok (⟨[], .nil, Stps.of (ls ++ x.1), x.2, []⟩, l)) (attrR q (moreR q inner true (f' + 1) ls s).2 (moreR q inner true (f' + 1) ls s).1) := by
        intro dp l1 s1 a1 n1 h1 h2 hm
        rw [hm]
        have hst := step_sim hx hi dp a1 n1
        have hk := keeps_step (q := q) hi.keeps dp s1
        generalize stepR q inner dp s1 = x at *
        simp only [thn]
        cases hss : step cut inn dp l1 with
        | error y => rw [hss] at hst; exact Bd.attr (Bd.more hst _ _ _) _
        | ok y =>
          obtain ⟨st2, l2⟩ := y
          rw [hss] at hst
          obtain ⟨e1, a2⟩ := hst
          have hl2 := (step_suf hi.suf dp l1 _ _ hss).length_le
          have hl3 := hk.suf.length_le
          rw [show x.1 = st2 from e1]
          have ih := valMore_sim hx hi f st2 l2 (ls ++ [st2]) x.2 f' a2 (hk.nst a2.err n1 hi.le) (by omega) (by omega) (lastText_app _ _)
          simp only
          cases hp : valMore cut inn f st2 l2 with
          | error y => rw [hp] at ih; exact ih
          | ok y =>
            obtain ⟨ss, l4⟩ := y
            rw [hp] at ih
            simp only [thn] at ih ⊢
            rw [List.append_assoc] at ih
            exact ih
      rcases hb with hb | hb
      · obtain ⟨a1, n1, h1, h2, h3⟩ := one_at hx h hn hb
        rw [slash_one hb]
        have hpl := pass_lt (n := 1) (l := l) (by decide) (part_ne hb (by decide))
        by_cases h64 : part (pass 1 l) = [64]
        · have hs64 : (s.bl.has [47]).is [64] = true := by rw [a1.is hx sg64, h64]; rfl
          have hm : moreR q inner true (f' + 1) ls s = (ls, { (s.bl.has [47]).bl with l := s.l }) := by
            rw [moreR, if_neg (by simpa using h.err), if_neg (by rw [hl]; simp), if_neg (by rw [h2]; simp), if_pos h3, if_pos ⟨rfl, hs64⟩]
          rw [hm]
          simp only [thn]
          rw [if_pos ⟨trivial, h64⟩]
          have ab : At q T l { (s.bl.has [47]).bl with l := s.l } := h.back a1.bl.err rfl
          generalize ({ (s.bl.has [47]).bl with l := s.l } : RS) = sb at *
          have hsb : sb.is [47] = true := by rw [ab.is hx sg47, hb]; rfl
          unfold attrR
          rw [if_pos ⟨ab.err, hl, hsb⟩]
          have ha := attr_sim hx (ab.has hx sg47 hb)
          simp only [List.length_singleton] at ha
          cases hat : attr cut (pass 1 l) with
          | error y => rw [hat] at ha; exact ha
          | ok y =>
            obtain ⟨a, l3⟩ := y
            rw [hat] at ha
            refine ⟨?_, ha.2⟩
            simp only [List.append_nil]
            rw [show ((sb.has [47]).must q [64]).peek = a from ha.1]
        · have hs64 : (s.bl.has [47]).is [64] = false := by rw [a1.is hx sg64]; simpa using h64
          simp only [thn]
          rw [if_neg (fun x => h64 x.2)]
          refine key false (pass 1 l) (s.bl.has [47]).bl a1.bl (by rw [bl_nest]; exact n1) hpl (by have := (bl_suf (s.bl.has [47])).length_le; omega) ?_
          rw [moreR, if_neg (by simpa using h.err), if_neg (by rw [hl]; simp), if_neg (by rw [h2]; simp), if_pos h3, if_neg (by rw [hs64]; simp)]
          simp
      · obtain ⟨a1, n1, h1, h2⟩ := two_at hx h hn hb
        rw [slash_two hb]
        simp only [thn]
        rw [if_neg (fun x => by cases x.1)]
        exact key true (pass 2 l) (s.has [47, 47]) a1 n1 (pass_lt (by decide) (part_ne hb (by decide))) (by omega) (more_two hx h true hl h2 _)
theorem vsteps_sim (hx : Cx T cut) (hi : Inn q T cut n inn inner) (dp : Bool) (h : At q T l s) (hn : s.nest = (n : Int)) (f' : Nat) (hf : (stepR q inner dp s).2.l.length < f') : Sm q T (vsteps cut inn dp l) (attrR q (moreR q inner true f' [(stepR q inner dp s).1] (stepR q inner dp s).2).2 (moreR q inner true f' [(stepR q inner dp s).1] (stepR q inner dp s).2).1) := by
  have hst := step_sim hx hi dp h hn
  have hk := keeps_step (q := q) hi.keeps dp s
  unfold vsteps
  generalize stepR q inner dp s = x at *
  cases hss : step cut inn dp l with
  | error y => rw [hss] at hst; exact Bd.attr (Bd.more hst _ _ _) _
  | ok y =>
    obtain ⟨st2, l2⟩ := y
    rw [hss] at hst
    obtain ⟨e1, a2⟩ := hst
    rw [show x.1 = st2 from e1]
    exact valMore_sim hx hi (l2.length + 1) st2 l2 [st2] x.2 f' a2 (hk.nst a2.err hn hi.le) (by omega) hf (lastText_app [] st2)
theorem value_sim (hx : Cx T cut) (hi : Inn q T cut n inn inner) (h : At q T l s) (hn : s.nest = (n : Int)) : Sm q T (value cut inn l) (valueR q inner s) := by
  unfold value valueR
  rw [h.is hx sg64, h.bl.is hx sg46]
  by_cases hb : part l = [46]
  · have h1 : ¬ (part l == [64]) = true := by rw [hb]; decide
    have h2 : (part l == [46]) = true := by rw [hb]; decide
    rw [if_pos hb, if_neg h1, if_pos h2]
    have a1 := h.bl.has hx sg46 hb
    have n1 : (s.bl.has [46]).nest = (n : Int) := by rw [has_nest, bl_nest]; exact hn
    have hw : want cut [46] l = .ok (pass 1 l) := by unfold want; rw [if_pos hb]; rfl
    unfold dot
    rw [hw]
    simp only [wnt]
    rw [a1.is hx sg4747]
    simp only [List.length_singleton] at a1 ⊢
    by_cases hb2 : part (pass 1 l) = [47, 47]
    · rw [if_pos hb2, if_pos (by simpa using hb2)]
      obtain ⟨a2, n2, h3, h4⟩ := two_at hx a1.bl (by rw [bl_nest]; exact n1) hb2
      rw [more_two hx a1.bl true rfl h4, List.nil_append]
      have hk := (keeps_step (q := q) hi.keeps true ((s.bl.has [46]).bl.has [47, 47])).suf.length_le
      have := (bl_suf (s.bl.has [46])).length_le
      exact vsteps_sim hx hi true a2 n2 _ (by omega)
    · have hb2' : ¬ (part (pass 1 l) == [47, 47]) = true := by simpa using hb2
      rw [if_neg hb2, if_neg hb2']
      exact ⟨rfl, a1.bl⟩
  · rw [if_neg hb]
    by_cases hb2 : part l = [64]
    · rw [if_pos hb2, if_pos (by simpa using hb2)]
      have ha := attr_sim hx h
      have hs : s.is [64] = true := by rw [h.is hx sg64, hb2]; rfl
      have hmu : s.must q [64] = s.has [64] := by unfold RS.must; rw [if_pos hs]
      rw [hmu] at ha
      cases hat : attr cut l with
      | error y => rw [hat] at ha; exact ha
      | ok y =>
        obtain ⟨a, l3⟩ := y
        rw [hat] at ha
        exact ⟨by simp only; rw [show (s.has [64]).peek = a from ha.1], ha.2⟩
    · have h1 : ¬ (part l == [64]) = true := by simpa using hb2
      have h2 : ¬ (part l == [46]) = true := by simpa using hb
      rw [if_neg hb2, if_neg h1, if_neg h2]
      exact vsteps_sim hx hi false h.bl.bl (by rw [bl_nest, bl_nest]; exact hn) _ (by omega)
theorem compared_sim (hx : Cx T cut) (h : At q T l s) (p : Prd) : Sm q T (compared cut p l) (if s.is [33, 61] = true then (⟨[33, 61], p.kids, p.steps, p.attr, (quotedR q (s.has [33, 61])).1⟩, (quotedR q (s.has [33, 61])).2) else if s.bl.is [61] = true then (⟨[61], p.kids, p.steps, p.attr, (quotedR q (s.bl.has [61])).1⟩, (quotedR q (s.bl.has [61])).2) else (⟨wHas, p.kids, p.steps, p.attr, p.text⟩, s.bl.bl)) := by
  unfold compared
  rw [h.is hx sg3361, h.bl.is hx sg61]
  by_cases hb : part l = [61]
  · have h1 : ¬ (part l == [33, 61]) = true := by rw [hb]; decide
    have h2 : (part l == [61]) = true := by rw [hb]; decide
    rw [if_pos hb, if_neg h1, if_pos h2]
    have hq := (h.bl.has hx sg61 hb).quotedS hx
    simp only [List.length_singleton] at hq
    cases hqq : quoted cut (pass 1 l) with
    | error y => rw [hqq] at hq; exact hq
    | ok y =>
      obtain ⟨t, l2⟩ := y
      rw [hqq] at hq
      exact ⟨by simp only; rw [hq.1], hq.2⟩
  · rw [if_neg hb]
    by_cases hb2 : part l = [33, 61]
    · rw [if_pos hb2, if_pos (by simpa using hb2)]
      have hq := (h.has hx sg3361 hb2).quotedS hx
      cases hqq : quoted cut (pass 2 l) with
      | error y => rw [show ([33, 61] : L).length = 2 from rfl, hqq] at hq; exact hq
      | ok y =>
        obtain ⟨t, l2⟩ := y
        rw [show ([33, 61] : L).length = 2 from rfl, hqq] at hq
        exact ⟨by simp only; rw [hq.1], hq.2⟩
    · have h1 : ¬ (part l == [33, 61]) = true := by simpa using hb2
      have h2 : ¬ (part l == [61]) = true := by simpa using hb
      rw [if_neg hb2, if_neg h1, if_neg h2]
      exact ⟨rfl, h.bl.bl⟩
theorem one_sim (hx : Cx T cut) (hi : Inn q T cut n inn inner) (h : At q T l s) (hn : s.nest = (n : Int)) : Sm q T (one cut inn l) (oneR q inner s) := by
  unfold one oneR
  rw [h.called hx wdNot]
  by_cases hc : calls wNot l = true
  · rw [if_pos hc, if_pos hc]
    have hc2 := hc
    unfold calls at hc2
    simp only [Bool.and_eq_true, beq_iff_eq] at hc2
    have hw : want cut wNot l = .ok (pass 3 l) := by unfold want; rw [if_pos hc2.1]; rfl
    rw [hw]
    simp only [wnt]
    have a1 := h.bl.wname hx wdNot hc2.1
    have n1 : (s.bl.name q).nest = (n : Int) := by
      have hk := (keeps_bl s).trans (keeps_name (q := q) s.bl)
      exact hk.nst a1.err hn hi.le
    have hp : part (pass 3 l) = [40] := by
      have := hc2.2
      rw [pre40] at this
      simpa [pass] using this
    have hwi := within_sim hx hi a1 n1 sg1_40 sg1_41 (by decide) hp
    cases hw2 : within cut inn [40] [41] (pass 3 l) with
    | error y => rw [show wNot.length = 3 from rfl, hw2] at hwi; exact hwi
    | ok y =>
      obtain ⟨p, l2⟩ := y
      rw [show wNot.length = 3 from rfl, hw2] at hwi
      exact ⟨by simp only; rw [hwi.1], hwi.2⟩
  · rw [if_neg hc, if_neg hc, h.bl.is hx sg40]
    by_cases hb : part l = [40]
    · rw [if_pos hb, if_pos (by simpa using hb)]
      exact within_sim hx hi h.bl.bl (by rw [bl_nest, bl_nest]; exact hn) sg1_40 sg1_41 (by decide) hb
    · have hb' : ¬ (part l == [40]) = true := by simpa using hb
      rw [if_neg hb, if_neg hb']
      have hv := value_sim hx hi h.bl.bl (by rw [bl_nest, bl_nest]; exact hn)
      simp only
      generalize valueR q inner s.bl.bl = x at *
      cases hvv : value cut inn l with
      | error y =>
        rw [hvv] at hv
        have hv : Bd q y.1 x.2 := hv
        rw [if_neg (by rw [hv.is (by decide)]; simp), if_neg (by rw [hv.bl.is (by decide)]; simp)]
        exact hv.bl.bl
      | ok y =>
        obtain ⟨p, l2⟩ := y
        rw [hvv] at hv
        obtain ⟨e1, a2⟩ := hv
        rw [show x.1 = p from e1]
        exact compared_sim hx a2 p
structure RdS (q T : L) (n : Nat) (read : L → Rs Prd) (readR : RS → Prd × RS) : Prop where
  sim : ∀ l s, At q T l s → s.nest = (n : Int) → Sm q T (read l) (readR s)
  keeps : ∀ s, Keeps s (readR s).2
  suf : ∀ l, Suf l (read l)
variable {read : L → Rs Prd} {readR : RS → Prd × RS} {word : L}
theorem joinMore_sim (hx : Cx T cut) (h8 : n ≤ 8) (hw : Wd word) (hr : RdS q T n read readR) : ∀ (f : Nat) (l : L) (s : RS) (f' : Nat), At q T l s → s.nest = (n : Int) → l.length < f → s.l.length < f' → Sm q T (joinMore word read f l) (loopR q word readR f' s)
  | 0, l, s, f', h, hn, hf, hf' => by omega
  | f + 1, l, s, 0, h, hn, hf, hf' => by omega
  | f + 1, l, s, f' + 1, h, hn, hf, hf' => by
    have he' : ¬ (s.err ≠ 0) := by simpa using h.err
    rw [joinMore, loopR, if_neg he']
    have hne : word ≠ [] := by intro x; have := hw.two; rw [x] at this; simp at this
    by_cases hb : part l = word
    · have hpk := (h.word hx hw).2 hb
      rw [if_pos hb, if_pos hpk]
      have a1 := h.bl.wname hx hw hb
      have n1 : (s.bl.name q).nest = (n : Int) := ((keeps_bl s).trans (keeps_name (q := q) s.bl)).nst a1.err hn h8
      have hs := hr.sim _ _ a1 n1
      have hk := hr.keeps (s.bl.name q)
      have hlt := name_lt (q := q) (s := s) (by rw [hpk]; exact hne)
      have hpl := pass_lt (n := word.length) (l := l) (by have := hw.two; omega) (part_ne hb hne)
      simp only
      generalize readR (s.bl.name q) = x at *
      cases hre : read (pass word.length l) with
      | error y => rw [hre] at hs; exact Bd.loop hs hne _
      | ok y =>
        obtain ⟨p, l1⟩ := y
        rw [hre] at hs
        obtain ⟨e1, a2⟩ := hs
        have hl1 := (hr.suf _ _ _ hre).length_le
        have hl2 := hk.suf.length_le
        simp only [thn]
        have ih := joinMore_sim hx h8 hw hr f l1 x.2 f' a2 (hk.nst a2.err n1 h8) (by omega) (by omega)
        cases hj : joinMore word read f l1 with
        | error y => rw [hj] at ih; exact ih
        | ok y =>
          obtain ⟨ps, l2⟩ := y
          rw [hj] at ih
          exact ⟨by simp only; rw [ih.1, show x.1 = p from e1], ih.2⟩
    · rw [if_neg hb, if_neg (fun x => hb ((h.word hx hw).1 x))]
      exact ⟨rfl, h.bl⟩
theorem joinMore_ne {f : Nat} {ps : List Prd} (hb : part l = word) (h : joinMore word read (f + 1) l = .ok (ps, l')) : ps ≠ [] := by
  rw [joinMore, if_pos hb] at h
  cases hre : read (pass word.length l) with
  | error y => rw [hre] at h; cases h
  | ok y =>
    obtain ⟨p, l1⟩ := y
    rw [hre] at h
    simp only [thn] at h
    cases hj : joinMore word read f l1 with
    | error y => rw [hj] at h; cases h
    | ok y => rw [hj] at h; cases h; simp
theorem joined_sim (hx : Cx T cut) (h8 : n ≤ 8) (hw : Wd word) (hr : RdS q T n read readR) (h : At q T l s) (hn : s.nest = (n : Int)) : Sm q T (joined word read l) (joinR q word readR s) := by
  have hne : word ≠ [] := by intro x; have := hw.two; rw [x] at this; simp at this
  unfold joined joinR
  have hs := hr.sim _ _ h hn
  have hk := hr.keeps s
  simp only
  generalize readR s = x at *
  cases hre : read l with
  | error y => rw [hre] at hs; exact Bd.loop hs hne _
  | ok y =>
    obtain ⟨p, l1⟩ := y
    rw [hre] at hs
    obtain ⟨e1, a2⟩ := hs
    simp only [thn]
    rw [show x.1 = p from e1]
    have ih := joinMore_sim hx h8 hw hr (l1.length + 1) l1 x.2 (x.2.l.length + 1) a2 (hk.nst a2.err hn h8) (by omega) (by omega)
    by_cases hb : part l1 = word
    · rw [if_pos hb]
      cases hj : joinMore word read (l1.length + 1) l1 with
      | error y => rw [hj] at ih; exact ih
      | ok y =>
        obtain ⟨ps, l2⟩ := y
        rw [hj] at ih
        have hps := joinMore_ne hb hj
        refine ⟨?_, ih.2⟩
        simp only
        rw [ih.1]
        cases ps with
        | nil => exact absurd rfl hps
        | cons a b => rfl
    · rw [if_neg hb]
      have hj : joinMore word read (l1.length + 1) l1 = .ok ([], l1) := by rw [joinMore, if_neg hb]
      rw [hj] at ih
      refine ⟨?_, ih.2⟩
      simp only
      rw [ih.1]; rfl
theorem cond_sim (hx : Cx T cut) (hi : Inn q T cut n inn inner) (h : At q T l s) (hn : s.nest = (n : Int)) : Sm q T (cond cut inn l) (condR q inner s) := by
  have h1 : RdS q T n (one cut inn) (oneR q inner) := ⟨fun l s a b => one_sim hx hi a b, fun s => keeps_one hi.keeps s, one_suf hi.suf⟩
  have h2 : RdS q T n (both cut inn) (bothR q inner) := ⟨fun l s a b => joined_sim hx hi.le wdAnd h1 a b, fun s => keeps_join h1.keeps s, fun l => joined_suf h1.suf l⟩
  exact joined_sim hx hi.le wdOr h2 h hn
theorem inn_at (hx : Cx T cut) : ∀ (d n : Nat), n + d = 8 → Inn q T cut n (inAt cut d) (inRAt q d)
  | 0, n, h => ⟨by omega, fun _ => by omega, fun f e => (by cases e), fun s => Keeps.refl, fun s _ => rfl, inAt_suf 0⟩
  | d + 1, n, h => by
    have ih := inn_at hx d (n + 1) (by omega)
    refine ⟨by omega, fun e => (by cases e), fun f e => ?_, fun s => keeps_inAt _ s, fun s he => by rw [dead_in he], inAt_suf _⟩
    cases e
    refine ⟨by omega, fun l s a b => ?_⟩
    rw [condAt_eq]
    show Sm q T _ (condRAt q d s)
    rw [condRAt_eq]
    exact cond_sim hx ih a b
theorem paths_sim (hx : Cx T cut) : ∀ (f : Nat) (l : L) (s : RS) (f' : Nat), At q T l s → s.nest = 0 → l.length < f → s.l.length < f' → Sm q T (pathsMore cut f l) (pathsR q f' s)
  | 0, l, s, f', h, hn, hf, hf' => by omega
  | f + 1, l, s, 0, h, hn, hf, hf' => by omega
  | f + 1, l, s, f' + 1, h, hn, hf, hf' => by
    have hi := inn_at (q := q) hx 8 0 rfl
    rw [pathsMore, pathsR, h.is hx sg124]
    by_cases hb : part l = [124]
    · rw [if_pos hb, if_pos (by simpa using hb)]
      have hs : s.is [124] = true := by rw [h.is hx sg124, hb]; rfl
      have a1 := h.has hx sg124 hb
      have n1 : (s.has [124]).nest = ((0 : Nat) : Int) := by rw [has_nest]; exact hn
      have hp := path_sim hx hi a1 n1
      have hk := keeps_path (q := q) hi.keeps (s.has [124])
      have hlt := has_lt hs
      have hpl := pass_lt (n := 1) (l := l) (by decide) (part_ne hb (by decide))
      simp only [List.length_singleton] at hp hlt ⊢
      generalize pathR q (inRAt q 8) (s.has [124]) = x at *
      cases hpp : path cut (inAt cut 8) (pass 1 l) with
      | error y => rw [hpp] at hp; exact Bd.paths hp _
      | ok y =>
        obtain ⟨p, l1⟩ := y
        rw [hpp] at hp
        obtain ⟨e1, a2⟩ := hp
        have hl1 := (path_suf hi.suf _ _ _ hpp).length_le
        have hl2 := hk.suf.length_le
        simp only [thn]
        have ih := paths_sim hx f l1 x.2 f' a2 (hk.nst a2.err n1 hi.le) (by omega) (by omega)
        cases hj : pathsMore cut f l1 with
        | error y => rw [hj] at ih; exact ih
        | ok y =>
          obtain ⟨ps, l2⟩ := y
          rw [hj] at ih
          exact ⟨by simp only; rw [ih.1, show x.1 = p from e1], ih.2⟩
    · have hb' : ¬ (part l == [124]) = true := by simpa using hb
      rw [if_neg hb, if_neg hb']
      exact ⟨rfl, h.bl⟩
def endR (q : L) (s : RS) : RS := if s.bl.err = 0 ∧ s.bl.l ≠ [] then s.bl.wrong q else s.bl
theorem Bd.endR (h : Bd q e s) : (Go.Proofs.YtigpjemceodjcaaDoor.endR q s).err = e := by
  unfold Go.Proofs.YtigpjemceodjcaaDoor.endR
  split
  · exact h.bl.wrong
  · next hno =>
    rcases h with ⟨h1, h2⟩ | ⟨h1, h2, r, h3, h4⟩
    · rw [bl_err]; exact h2
    · exact absurd ⟨by rw [bl_err]; exact h2, by rw [h3]; simp⟩ hno
theorem fin_err (ps : List (List Stp)) (hb : (endR q s).err = e) (hne : e ≠ 0) : ∃ at_, (if (endR q s).err = 0 then Except.ok ps else Except.error ((endR q s).err, (endR q s).at_) : Except (Nat × Nat) (List (List Stp))) = .error (e, at_) := ⟨_, by rw [if_neg (by rw [hb]; exact hne), hb]⟩
theorem parse_sim (q : L) : match parse q with
    | .ok ps => parseR q = .ok ps
    | .error e => e.1 ≠ 0 ∧ ∃ at_, parseR q = .error (e.1, at_) := by
  unfold parse parseR
  by_cases h5 : 500 < q.length
  · rw [if_pos h5, if_pos h5]; exact ⟨by decide, _, rfl⟩
  · rw [if_neg h5, if_neg h5]
    have hx : Cx (cutT q) (isCut q) := ⟨cut_stop q, by
      unfold isCut
      rw [decide_eq_true_iff, cut_len]
      unfold cutT
      constructor
      · intro h e; have := congrArg List.length e; rw [List.length_drop] at this; simp at this; omega
      · intro h
        have := badq_le q
        by_cases he : Ch.bad (bs q) = q.length
        · exfalso; apply h; rw [he]; simp
        · omega⟩
    have hi := inn_at (q := q) hx 8 0 rfl
    have a0 : At q (cutT q) (pass 0 (cutAt q)) (RS.start q) := by
      refine ⟨rfl, ?_, gd_skip (cut_good q), List.suffix_refl _⟩
      show skip q = _
      conv => lhs; rw [← cut_app q]
      exact skip_app hx.skip _
    have hp := path_sim hx hi a0 rfl
    have hk := keeps_path (q := q) hi.keeps (RS.start q)
    unfold query queryR
    simp only
    generalize pathR q (inRAt q 8) (RS.start q) = x at *
    cases hpp : path (isCut q) (inAt (isCut q) 8) (pass 0 (cutAt q)) with
    | error y =>
      rw [hpp] at hp
      have hb := (Bd.paths hp (x.2.l.length + 1)).endR
      have hne := Bd.ne hp
      simp only [thn]
      exact ⟨hne, fin_err _ hb hne⟩
    | ok y =>
      obtain ⟨p, l1⟩ := y
      rw [hpp] at hp
      obtain ⟨e1, a1⟩ := hp
      simp only [thn]
      have ih := paths_sim hx (l1.length + 1) l1 x.2 (x.2.l.length + 1) a1 (hk.nst a1.err (n := 0) rfl (by decide)) (by omega) (by omega)
      generalize pathsR q (x.2.l.length + 1) x.2 = z at *
      cases hj : pathsMore (isCut q) (l1.length + 1) l1 with
      | error y =>
        rw [hj] at ih
        have hb := Bd.endR ih
        have hne := Bd.ne ih
        simp only
        exact ⟨hne, fin_err _ hb hne⟩
      | ok y =>
        obtain ⟨ps, l2⟩ := y
        rw [hj] at ih
        obtain ⟨e2, a2⟩ := ih
        simp only
        by_cases hl : l2 = [] ∧ isCut q = false
        · rw [if_pos hl]
          simp only
          have hT : cutT q = [] := by
            by_cases hT : cutT q = []
            · exact hT
            · have := hx.ct.2 hT; rw [hl.2] at this; cases this
          have he : endR q z.2 = z.2.bl := by unfold endR; rw [if_neg]; rintro ⟨-, h⟩; rw [a2.eq, hl.1, hT] at h; exact h rfl
          change (if (endR q z.2).err = 0 then _ else _) = _
          rw [he, if_pos a2.bl.err, show x.1 = p from e1, show z.1 = ps from e2]
        · rw [if_neg hl]
          simp only
          have hne : z.2.bl.l ≠ [] := by
            rw [a2.eq]
            intro h
            have h1 : l2 = [] := (List.append_eq_nil_iff.1 h).1
            have h2 : cutT q = [] := (List.append_eq_nil_iff.1 h).2
            refine hl ⟨h1, ?_⟩
            cases hc : isCut q with
            | false => rfl
            | true => exact absurd h2 (hx.ct.1 hc)
          have he : endR q z.2 = z.2.bl.wrong q := by unfold endR; rw [if_pos ⟨a2.bl.err, hne⟩]
          have hw := a2.bl.wrong hx
          exact ⟨hw.2, fin_err _ (by rw [he]; exact hw.1) hw.2⟩
end Go.Proofs.YtigpjemceodjcaaDoor

set_option linter.unusedSimpArgs false
set_option linter.unusedVariables false
namespace Go.Proofs.YtigpjemceodjcaaDoor
open Go.RowKit Go.Maps Go.Lib
variable {w w' w1 w2 WO wr W : World} {A A' : Nat → Prop} {tQ tS tP tS' tP' : TypeId} {v v' va vb : Value}
theorem num_ok (n : Nat) (w : World) : Calls Tryd.prog 9 #[.int .i64 n] w fun e w' => e = .returned (.int .i64 n) ∧ w' = w := by
  go_enter Tryd.func9, Tryd.ntmps9
  go_wp2
  go_ret
  exact ⟨rfl, rfl⟩
abbrev aliveQ : L := [47, 97, 47, 47, 98, 91, 64, 107, 61, 39, 49, 39, 93]
theorem alive_parse : parse aliveQ = .ok [[⟨false, [97], .nil⟩, ⟨true, [98], .cons [61] .nil .nil [107] [49] .nil⟩]] := by kernel_rfl
theorem QS.len {l : List (List Stp)} (h : QS w A tQ tS tP v l) : ∃ ai cap, v = .slice ai l.length cap ∧ l.length ≤ 1000 := by
  rcases h with ⟨h, rfl⟩ | ⟨g, cap, cur, rfl, _, _, hn, _⟩
  · exact ⟨_, _, by rw [h], by omega⟩
  · exact ⟨_, _, rfl, hn⟩
theorem QS.at {l : List (List Stp)} {ai : Option Addr} {n cap i : Nat} {p : List Stp} (h : QS w A tQ tS tP (.slice ai n cap) l) (hx : l[i]? = some p) : ∃ g, ai = some ⟨g, 0, none⟩ ∧ A g ∧ ∃ u, w.cell? ⟨g, i, none⟩ = some u ∧ slS w A tS tP u (Stps.of p) := by
  rcases h with ⟨h, _⟩ | ⟨g, cap', cur, e, ha, hb, hn, h0, hr⟩
  · exfalso
    have := List.length_eq_zero_iff.1 h
    subst this
    simp at hx
  · cases e
    exact ⟨g, rfl, ha, hr i p hx⟩
theorem QS.drew {l : List (List Stp)} (h : QS w A tQ tS tP v l) (n : Nat) : QS (w.drewN n) A tQ tS tP v l := by
  have hm : Move A A w (w.drewN n) := fun b hb hl => ⟨hb, rfl⟩
  exact h.move hm
set_option maxHeartbeats 8000000 in
set_option maxRecDepth 100000 in
theorem alive_ok (w : World) : Calls Tryd.prog 10 #[] w fun e w' => e = .returned (.bool true) ∧ Below w.heap.size w w' := by
  have HP := hide (parse_ok aliveQ w)
  rw [alive_parse] at HP
  have HN := hide (fun w => num_ok 0 w)
  have HV : Hid (∀ W v, QV (fun b => w.heap.size ≤ b) W v [[⟨false, [97], .nil⟩, ⟨true, [98], .cons [61] .nil .nil [107] [49] .nil⟩]] → ∃ g c h c2 pi c3, v = .slice (some ⟨g, 0, none⟩) 1 c ∧ W.cell? ⟨g, 0, none⟩ = some (.slice (some ⟨h, 0, none⟩) 2 c2) ∧ W.cell? ⟨h, 3, none⟩ = some (.bool true) ∧ W.cell? ⟨h, 5, none⟩ = some (.slice pi 1 c3)) := fun W v q => by
    obtain ⟨ai, cap, rfl, -⟩ := QS.len q
    obtain ⟨g, rfl, -, u, c0, sl⟩ := QS.at (i := 0) q rfl
    obtain ⟨bi, c2, rfl, -⟩ := slS.len sl
    obtain ⟨h, rfl, -, -, -, -, -⟩ := slS.at (i := 0) sl rfl
    obtain ⟨h', e, -, -, d0, -, vp, d2, pr⟩ := slS.at (i := 1) sl rfl
    cases e
    obtain ⟨pi, c3, rfl, -⟩ := slP.len pr
    exact ⟨g, cap, h, c2, pi, c3, rfl, c0, d0, d2⟩
  go_enter Tryd.func10, Tryd.ntmps10
  go_wp2_with (first | (go_at_call 9; refine (HN.out _).mono ?_; rintro e w3 ⟨rfl, rfl⟩) | (go_at_call 6; refine HP.out.mono ?_; rintro e w2 ⟨hb, v2, rfl, qv⟩; obtain ⟨g, c, h, c2, pi, c3, rfl, c0, d0, d2⟩ := HV.out _ _ qv; have HB := hide hb; clear hb qv))
  go_ret
  exact ⟨rfl, HB.out⟩
end Go.Proofs.YtigpjemceodjcaaDoor

set_option linter.unusedSimpArgs false
set_option linter.unusedVariables false
namespace Go.Proofs.YtigpjemceodjcaaDoor
open Go.RowKit Go.Maps Go.Lib
variable {w w' w1 w2 WO wr W : World} {A A' : Nat → Prop} {tQ tS tP tS' tP' : TypeId} {v v' va vb : Value}
abbrev An := Except (Nat × Nat) (List (List Stp))
def nmb (x : An) : Nat := match x with | .ok _ => 0 | .error e => e.1
def plc (x : An) : Nat := match x with | .ok _ => 0 | .error e => e.2
def lst (x : An) : List (List Stp) := match x with | .ok l => l | .error _ => []
structure AS (tQ tS tP : TypeId) (lo : Nat) (W : World) (x : An) (ai : Option Addr) (n cap : Nat) : Prop where
  len : n = (lst x).length
  qs : QS W (fun b => lo ≤ b) tQ tS tP (.slice ai n cap) (lst x)
  nil : nmb x ≠ 0 → ai = none ∧ n = 0 ∧ cap = 0
theorem PE.form {x : An} {e : Ending} (h : PE w x e w') : Below w.heap.size w w' ∧ ∃ ai n cap, e = .returned (.tuple #[.slice ai n cap, .int .i64 (nmb x), .int .i64 (plc x)]) ∧ AS 34 53 71 w.heap.size w' x ai n cap := by
  obtain ⟨hb, h⟩ := h
  refine ⟨hb, ?_⟩
  cases x with
  | ok ls =>
    obtain ⟨v, rfl, q⟩ := h
    obtain ⟨ai, cap, rfl, -⟩ := QS.len q
    exact ⟨ai, _, cap, rfl, rfl, q, fun e => absurd rfl e⟩
  | error y =>
    simp only at h
    exact ⟨none, 0, 0, h, rfl, Or.inl ⟨rfl, rfl⟩, fun _ => ⟨rfl, rfl, rfl⟩⟩
theorem PR.form {x : An} {e : Ending} (h : PR w x e w') : Below w.heap.size w w' ∧ ∃ ai n cap, e = .returned (.tuple #[.slice ai n cap, .int .i64 (nmb x), .int .i64 (plc x)]) ∧ AS 50 69 80 w.heap.size w' x ai n cap := by
  obtain ⟨hb, h⟩ := h
  refine ⟨hb, ?_⟩
  cases x with
  | ok ls =>
    obtain ⟨v, rfl, q⟩ := h
    obtain ⟨ai, cap, rfl, -⟩ := QS.len q
    exact ⟨ai, _, cap, rfl, rfl, q, fun e => absurd rfl e⟩
  | error y =>
    simp only at h
    exact ⟨none, 0, 0, h, rfl, Or.inl ⟨rfl, rfl⟩, fun _ => ⟨rfl, rfl, rfl⟩⟩
theorem AS.on {lo : Nat} {x : An} {ai : Option Addr} {n cap : Nat} (h : AS tQ tS tP lo W x ai n cap) (hb : Below W.heap.size W w') : AS tQ tS tP lo w' x ai n cap :=
  ⟨h.len, h.qs.move fun b hb' hl => ⟨hb', hb.block b hl⟩, h.nil⟩
theorem nmb_sim (q : L) : nmb (parse q) = nmb (parseR q) ∧ (nmb (parse q) = 0 → ∃ l, parse q = .ok l ∧ parseR q = .ok l) := by
  have h := parse_sim q
  cases hp : parse q with
  | ok l => rw [hp] at h; rw [h]; exact ⟨rfl, fun _ => ⟨l, rfl, rfl⟩⟩
  | error e =>
    rw [hp] at h
    obtain ⟨h1, at_, h2⟩ := h
    rw [h2]
    exact ⟨rfl, fun x => absurd x h1⟩
theorem plc_le (q : L) : plc (parse q) ≤ 500 ∧ nmb (parse q) ≤ nmb (parse q) := by
  refine ⟨?_, Nat.le_refl _⟩
  unfold parse
  split
  · simp [plc]
  · next h5 =>
    cases query (isCut q) (cutAt q) with
    | ok y => simp [plc]
    | error e =>
      show (cutAt q).length - e.2 ≤ 500
      have := badq_le q
      rw [cut_len]; omega
theorem add_rows2 (x y z : L) (e : x ++ y = z) (h : x.length + y.length ≤ 9223372036854775807) (w : World) : (Op.stringOp .add (bs x) (bs y)).run Tryd.prog w = .ok (.string (bs z)) w := by
  unfold bs
  rw [run_string_add_sum w _ _ (by simpa [ByteArray.size] using h), ByteArray.mk_append_mk, e]
abbrev A6 (S : ByteArray) (x : An) (N P : Nat) : Prop := ∀ W : World, Calls Tryd.prog 6 #[.string S] W fun e w' => Below W.heap.size W w' ∧ ∃ ai n cap, e = .returned (.tuple #[.slice ai n cap, .int .i64 N, .int .i64 P]) ∧ AS 34 53 71 W.heap.size w' x ai n cap
abbrev A7 (S : ByteArray) (x : An) (N P : Nat) : Prop := ∀ W : World, Calls Tryd.prog 7 #[.string S] W fun e w' => Below W.heap.size W w' ∧ ∃ ai n cap, e = .returned (.tuple #[.slice ai n cap, .int .i64 N, .int .i64 P]) ∧ AS 50 69 80 W.heap.size w' x ai n cap
theorem a6 (q : L) : A6 (bs q) (parse q) (nmb (parse q)) (plc (parse q)) := fun W => (parse_ok q W).mono fun e w' h => h.form
theorem a7 (q : L) : A7 (bs q) (parseR q) (nmb (parse q)) (plc (parseR q)) := fun W => by
  rw [(nmb_sim q).1]
  exact (parseR_ok q W).mono fun e w' h => h.form
theorem belowD {B : Nat} {a w : World} (h : Below B a w) (n : Nat) : Below B a (w.drewN n) := ⟨h.os, h.tape, h.output, h.size, h.block⟩
structure JS (S1 S2 S4 : ByteArray) (x1 x2 x3 y1 y2 : An) (N1 N2 N3 P1 P2 P3 Q1 Q2 : Nat) : Prop where
  H1 : A6 S1 x1 N1 P1
  H2 : A6 S2 x2 N2 P2
  H4 : A6 S4 x3 N3 P3
  R1 : A7 S1 y1 N1 Q1
  R2 : A7 S2 y2 N2 Q2
  num : ∀ (n : Nat) (w : World), Calls Tryd.prog 9 #[.int .i64 n] w fun e w' => e = .returned (.int .i64 n) ∧ w' = w
  alive : ∀ w, Calls Tryd.prog 10 #[] w fun e w' => e = .returned (.bool true) ∧ Below w.heap.size w w'
variable {S1 S2 S3 S4 : ByteArray} {x1 x2 x3 y1 y2 : An} {N1 N2 N3 P1 P2 P3 Q1 Q2 K1 K2 : Nat}
set_option maxHeartbeats 16000000 in
set_option maxRecDepth 100000 in
theorem joinedA (w : World) (H : Hid (JS S1 S2 S4 x1 x2 x3 y1 y2 N1 N2 N3 P1 P2 P3 Q1 Q2)) (p1 : ∀ W, (Op.stringOp .add S1 ⟨#[124]⟩).run Tryd.prog W = .ok (.string S3) W) (p2 : ∀ W, (Op.stringOp .add S3 S2).run Tryd.prog W = .ok (.string S4) W) (h0 : N1 ≠ 0) : Calls Tryd.prog 4 #[.string S1, .string S2] w fun e w' => e = .returned (.bool true) ∧ Below w.heap.size w w' := by
  have n1 : ((N1 : Int) != (N1 : Int)) = false := by simp
  have n2 : ((N2 : Int) != (N2 : Int)) = false := by simp
  have n3 : ((N1 : Int) != 0) = true := by simp; omega
  have n4 : (N1 != 0) = true := by simp; omega
  clear h0
  go_enter Tryd.func4, Tryd.ntmps4
  go_wp2_with (first | (go_at_call_of 7 (Value.string S2); refine (H.out.R2 _).mono ?_; rintro e w6 ⟨hb6, ai6, m6, c6, rfl, as6⟩) | (go_at_call_of 7 (Value.string S1); refine (H.out.R1 _).mono ?_; rintro e w5 ⟨hb5, ai5, m5, c5, rfl, as5⟩) | (go_at_call_of 6 (Value.string S4); refine (H.out.H4 _).mono ?_; rintro e w4 ⟨hb4, ai4, m4, c4, rfl, as4⟩) | (go_at_call_of 6 (Value.string S2); refine (H.out.H2 _).mono ?_; rintro e w3 ⟨hb3, ai3, m3, c3, rfl, as3⟩) | (go_at_call_of 6 (Value.string S1); refine (H.out.H1 _).mono ?_; rintro e w2 ⟨hb2, ai2, m2, c2, rfl, as2⟩) | (go_at_call 10; refine (H.out.alive _).mono ?_; rintro e w7 ⟨rfl, hb7⟩) | (go_at_call 9; refine (H.out.num _ _).mono ?_; rintro e w8 ⟨rfl, rfl⟩))
  go_ret
  exact ⟨rfl, bon (bon (bon (bon (bon hb2 hb3) hb4) hb5) hb6) hb7⟩
set_option maxHeartbeats 16000000 in
set_option maxRecDepth 100000 in
theorem joinedB (w : World) (H : Hid (JS S1 S2 S4 x1 x2 x3 y1 y2 0 N2 N3 P1 P2 P3 Q1 Q2)) (p1 : ∀ W, (Op.stringOp .add S1 ⟨#[124]⟩).run Tryd.prog W = .ok (.string S3) W) (p2 : ∀ W, (Op.stringOp .add S3 S2).run Tryd.prog W = .ok (.string S4) W) (hz1 : S1.size = K1) (hz2 : S2.size = K2) (h5 : 500 < K1 + K2 + 1) (hs : K1 + K2 + 1 ≤ 9223372036854775807) : Calls Tryd.prog 4 #[.string S1, .string S2] w fun e w' => e = .returned (.bool true) ∧ Below w.heap.size w w' := by
  have n2 : ((N2 : Int) != (N2 : Int)) = false := by simp
  have hw1 : IntKind.i64.wrap ((K1 : Int) + (K2 : Int)) = (K1 : Int) + (K2 : Int) := by rw [IntKind.wrap_i64]; omega
  have hw2 : IntKind.i64.wrap ((K1 : Int) + (K2 : Int) + 1) = (K1 : Int) + (K2 : Int) + 1 := by rw [IntKind.wrap_i64]; omega
  have hd : decide ((500 : Int) < (K1 : Int) + (K2 : Int) + 1) = true := by simp; omega
  clear h5 hs
  go_enter Tryd.func4, Tryd.ntmps4
  go_wp2_with (first | (go_at_call_of 7 (Value.string S2); refine (H.out.R2 _).mono ?_; rintro e w6 ⟨hb6, ai6, m6, c6, rfl, as6⟩) | (go_at_call_of 7 (Value.string S1); refine (H.out.R1 _).mono ?_; rintro e w5 ⟨hb5, ai5, m5, c5, rfl, as5⟩) | (go_at_call_of 6 (Value.string S4); refine (H.out.H4 _).mono ?_; rintro e w4 ⟨hb4, ai4, m4, c4, rfl, as4⟩) | (go_at_call_of 6 (Value.string S2); refine (H.out.H2 _).mono ?_; rintro e w3 ⟨hb3, ai3, m3, c3, rfl, as3⟩) | (go_at_call_of 6 (Value.string S1); refine (H.out.H1 _).mono ?_; rintro e w2 ⟨hb2, ai2, m2, c2, rfl, as2⟩) | (go_at_call 10; refine (H.out.alive _).mono ?_; rintro e w7 ⟨rfl, hb7⟩) | (go_at_call 9; refine (H.out.num _ _).mono ?_; rintro e w8 ⟨rfl, rfl⟩))
  go_ret
  exact ⟨rfl, bon (bon (bon (bon (bon hb2 hb3) hb4) hb5) hb6) hb7⟩
theorem eql_nil22 (W : World) : (binOp .eql 22 (.slice none 0 0) (.slice none 0 0)).run Tryd.prog W = .ok (.bool true) W := by kernel_rfl
set_option maxHeartbeats 16000000 in
set_option maxRecDepth 100000 in
theorem joinedC (w : World) (H : Hid (JS S1 S2 S4 x1 x2 x3 y1 y2 0 N2 N2 P1 P2 P3 Q1 Q2)) (p1 : ∀ W, (Op.stringOp .add S1 ⟨#[124]⟩).run Tryd.prog W = .ok (.string S3) W) (p2 : ∀ W, (Op.stringOp .add S3 S2).run Tryd.prog W = .ok (.string S4) W) (hz1 : S1.size = K1) (hz2 : S2.size = K2) (h5 : K1 + K2 + 1 ≤ 500) (hn : N2 ≠ 0) (hx : nmb x3 ≠ 0) (hP : P3 = K1 + 1 + P2) (hP2 : P2 ≤ 500) : Calls Tryd.prog 4 #[.string S1, .string S2] w fun e w' => e = .returned (.bool true) ∧ Below w.heap.size w w' := by
  have n2 : ((N2 : Int) != (N2 : Int)) = false := by simp
  have n3 : ((N2 : Int) != 0) = true := by simp; omega
  have n4 : (N2 != 0) = true := by simp; omega
  have n5 : ((N2 : Int) == (N2 : Int)) = true := by simp
  have hw1 : IntKind.i64.wrap ((K1 : Int) + (K2 : Int)) = (K1 : Int) + (K2 : Int) := by rw [IntKind.wrap_i64]; omega
  have hw2 : IntKind.i64.wrap ((K1 : Int) + (K2 : Int) + 1) = (K1 : Int) + (K2 : Int) + 1 := by rw [IntKind.wrap_i64]; omega
  have hd : decide ((500 : Int) < (K1 : Int) + (K2 : Int) + 1) = false := by simp; omega
  have hw3 : IntKind.i64.wrap ((P2 : Int) + (K1 : Int)) = (P2 : Int) + (K1 : Int) := by rw [IntKind.wrap_i64]; omega
  have hw4 : IntKind.i64.wrap ((P2 : Int) + (K1 : Int) + 1) = (P2 : Int) + (K1 : Int) + 1 := by rw [IntKind.wrap_i64]; omega
  have hp : ((P3 : Int) == (P2 : Int) + (K1 : Int) + 1) = true := by simp; omega
  have HX3 := hide hx
  have hnil := eql_nil22
  clear h5 hn hx hP hP2
  go_enter Tryd.func4, Tryd.ntmps4
  go_wp2_with (first | (go_at_call_of 7 (Value.string S2); refine (H.out.R2 _).mono ?_; rintro e w6 ⟨hb6, ai6, m6, c6, rfl, as6⟩) | (go_at_call_of 7 (Value.string S1); refine (H.out.R1 _).mono ?_; rintro e w5 ⟨hb5, ai5, m5, c5, rfl, as5⟩) | (go_at_call_of 6 (Value.string S4); refine (H.out.H4 _).mono ?_; rintro e w4 ⟨hb4, ai4, m4, c4, rfl, as4⟩; obtain ⟨rfl, rfl, rfl⟩ := as4.nil HX3.out) | (go_at_call_of 6 (Value.string S2); refine (H.out.H2 _).mono ?_; rintro e w3 ⟨hb3, ai3, m3, c3, rfl, as3⟩) | (go_at_call_of 6 (Value.string S1); refine (H.out.H1 _).mono ?_; rintro e w2 ⟨hb2, ai2, m2, c2, rfl, as2⟩) | (go_at_call 10; refine (H.out.alive _).mono ?_; rintro e w7 ⟨rfl, hb7⟩) | (go_at_call 9; refine (H.out.num _ _).mono ?_; rintro e w8 ⟨rfl, rfl⟩))
  go_ret
  exact ⟨rfl, bon (bon (bon (bon (bon hb2 hb3) hb4) hb5) hb6) hb7⟩
end Go.Proofs.YtigpjemceodjcaaDoor

set_option linter.unusedSimpArgs false
set_option linter.unusedVariables false
namespace Go.Proofs.YtigpjemceodjcaaDoor
open Go.RowKit Go.Maps Go.Lib
variable {w w' w1 w2 WO wr W : World} {A A' : Nat → Prop} {tQ tS tP tS' tP' : TypeId} {v v' va vb : Value}
variable {S1 S2 S3 S4 : ByteArray} {x1 x2 x3 y1 y2 : An} {N1 N2 N3 P1 P2 P3 Q1 Q2 K1 K2 : Nat}
theorem get_left {ps qs : List (List Stp)} {i : Nat} (h : i < ps.length) : ∃ p, ps[i]? = some p ∧ (ps ++ qs)[i]? = some p := ⟨ps[i], List.getElem?_eq_getElem h, by rw [List.getElem?_append_left h]; exact List.getElem?_eq_getElem h⟩
theorem get_right {ps qs : List (List Stp)} {i : Nat} (h : ps.length ≤ i) (h2 : i < ps.length + qs.length) : ∃ p, qs[i - ps.length]? = some p ∧ (ps ++ qs)[i]? = some p := ⟨qs[i - ps.length], List.getElem?_eq_getElem (by omega), by rw [List.getElem?_append_right h]; exact List.getElem?_eq_getElem (by omega)⟩
theorem pair_at {lo lo' : Nat} {l l' : List (List Stp)} {p : List Stp} {ai bi : Option Addr} {n c n' c' i j : Nat} (h1 : QS W (fun b => lo ≤ b) 34 53 71 (.slice ai n c) l) (h2 : QS W (fun b => lo' ≤ b) 34 53 71 (.slice bi n' c') l') (e1 : l[i]? = some p) (e2 : l'[j]? = some p) : ∃ g1 g2 u1 u2, ai = some ⟨g1, 0, none⟩ ∧ bi = some ⟨g2, 0, none⟩ ∧ W.cell? ⟨g1, i, none⟩ = some u1 ∧ W.cell? ⟨g2, j, none⟩ = some u2 ∧ ∀ k, Calls Tryd.prog 11 #[u1, u2] (W.drewN k) fun e w' => e = .returned (.bool true) ∧ ∃ m, w' = (W.drewN k).drewN m := by
  obtain ⟨g1, rfl, -, u1, c1, s1⟩ := h1.at e1
  obtain ⟨g2, rfl, -, u2, c2, s2⟩ := h2.at e2
  exact ⟨g1, g2, u1, u2, rfl, rfl, c1, c2, fun k => eqS_ok _ _ _ _ _ _ (s1.drew k) (s2.drew k)⟩
set_option maxHeartbeats 16000000 in
set_option maxRecDepth 100000 in
theorem joinedD {ps qs : List (List Stp)} (w : World) (H : Hid (JS S1 S2 S4 (.ok ps) (.ok qs) (.ok (ps ++ qs)) y1 y2 0 0 0 P1 P2 P3 Q1 Q2)) (p1 : ∀ W, (Op.stringOp .add S1 ⟨#[124]⟩).run Tryd.prog W = .ok (.string S3) W) (p2 : ∀ W, (Op.stringOp .add S3 S2).run Tryd.prog W = .ok (.string S4) W) (hz1 : S1.size = K1) (hz2 : S2.size = K2) (h5 : K1 + K2 + 1 ≤ 500) : Calls Tryd.prog 4 #[.string S1, .string S2] w fun e w' => e = .returned (.bool true) ∧ Below w.heap.size w w' := by
  have hw1 : IntKind.i64.wrap ((K1 : Int) + (K2 : Int)) = (K1 : Int) + (K2 : Int) := by rw [IntKind.wrap_i64]; omega
  have hw2 : IntKind.i64.wrap ((K1 : Int) + (K2 : Int) + 1) = (K1 : Int) + (K2 : Int) + 1 := by rw [IntKind.wrap_i64]; omega
  have hd : decide ((500 : Int) < (K1 : Int) + (K2 : Int) + 1) = false := by simp; omega
  have HQ : Hid (∀ W ai2 m2 c2 ai3 m3 c3 ai4 m4 c4 lo2 lo3 lo4, AS 34 53 71 lo2 W (.ok ps) ai2 m2 c2 → AS 34 53 71 lo3 W (.ok qs) ai3 m3 c3 → AS 34 53 71 lo4 W (.ok (ps ++ qs)) ai4 m4 c4 → ps.length = m2 ∧ qs.length = m3 ∧ m4 = ps.length + qs.length ∧ ps.length ≤ 1000 ∧ qs.length ≤ 1000 ∧ ∀ m i, (i < ps.length → ∃ g1 g2 u1 u2, ai4 = some ⟨g1, 0, none⟩ ∧ ai2 = some ⟨g2, 0, none⟩ ∧ (W.drewN m).cell? ⟨g1, i, none⟩ = some u1 ∧ (W.drewN m).cell? ⟨g2, i, none⟩ = some u2 ∧ ∀ k, Calls Tryd.prog 11 #[u1, u2] ((W.drewN m).drewN k) fun e w' => e = .returned (.bool true) ∧ ∃ j, w' = ((W.drewN m).drewN k).drewN j) ∧ (ps.length ≤ i → i < ps.length + qs.length → ∃ g1 g2 u1 u2, ai4 = some ⟨g1, 0, none⟩ ∧ ai3 = some ⟨g2, 0, none⟩ ∧ (W.drewN m).cell? ⟨g1, i, none⟩ = some u1 ∧ (W.drewN m).cell? ⟨g2, i - ps.length, none⟩ = some u2 ∧ ∀ k, Calls Tryd.prog 11 #[u1, u2] ((W.drewN m).drewN k) fun e w' => e = .returned (.bool true) ∧ ∃ j, w' = ((W.drewN m).drewN k).drewN j)) := fun W ai2 m2 c2 ai3 m3 c3 ai4 m4 c4 lo2 lo3 lo4 a2 a3 a4 => by
    refine ⟨a2.len.symm, a3.len.symm, by rw [a4.len]; simp [lst], by obtain ⟨_, _, e, h⟩ := QS.len a2.qs; exact h, by obtain ⟨_, _, e, h⟩ := QS.len a3.qs; exact h, fun m i => ⟨fun hi => ?_, fun h1 h2 => ?_⟩⟩
    · obtain ⟨p, e1, e2⟩ := get_left (qs := qs) hi
      exact pair_at (a4.qs.drew m) (a2.qs.drew m) e2 e1
    · obtain ⟨p, e1, e2⟩ := get_right h1 h2
      exact pair_at (a4.qs.drew m) (a3.qs.drew m) e2 e1
  clear h5
  generalize ps.length = n1 at *
  generalize qs.length = n2 at *
  go_enter Tryd.func4, Tryd.ntmps4
  go_wp2_with (first | (go_at_call_of 7 (Value.string S2); refine (H.out.R2 _).mono ?_; rintro e w6 ⟨hb6, ai6, m6, c6, rfl, as6⟩; have AS6 := hide as6; clear as6) | (go_at_call_of 7 (Value.string S1); refine (H.out.R1 _).mono ?_; rintro e w5 ⟨hb5, ai5, m5, c5, rfl, as5⟩; have AS5 := hide as5; clear as5) | (go_at_call_of 6 (Value.string S4); refine (H.out.H4 _).mono ?_; rintro e w4 ⟨hb4, ai4, m4, c4, rfl, as4⟩; have AS4 := hide as4; clear as4) | (go_at_call_of 6 (Value.string S2); refine (H.out.H2 _).mono ?_; rintro e w3 ⟨hb3, ai3, m3, c3, rfl, as3⟩; have AS3 := hide as3; clear as3) | (go_at_call_of 6 (Value.string S1); refine (H.out.H1 _).mono ?_; rintro e w2 ⟨hb2, ai2, m2, c2, rfl, as2⟩; have AS2 := hide as2; clear as2) | (go_at_call 10; refine (H.out.alive _).mono ?_; rintro e w7 ⟨rfl, hb7⟩; obtain ⟨rfl, rfl, rfl, hl1, hl2, hq⟩ := HQ.out w7 _ _ _ _ _ _ _ _ _ _ _ _ (AS2.out.on (bon (bon (bon (bon hb3 hb4) hb5) hb6) hb7)) (AS3.out.on (bon (bon (bon hb4 hb5) hb6) hb7)) (AS4.out.on (bon (bon hb5 hb6) hb7)); have HQ2 := hide hq; clear hq; have hw3 : IntKind.i64.wrap ((n1 : Int) + (n2 : Int)) = (n1 : Int) + (n2 : Int) := (by rw [IntKind.wrap_i64]; omega); have hnn : (((n1 + n2 : Nat) : Int) != (n1 : Int) + (n2 : Int)) = false := (by simp)) | (go_at_call 9; refine (H.out.num _ _).mono ?_; rintro e w8 ⟨rfl, hw8⟩; obtain rfl := hw8.symm))
  clear HQ H p1 p2 AS2 AS3 AS4 AS5 AS6
  have HB : Hid (Below w.heap.size w w7) := bon (bon (bon (bon (bon hb2 hb3) hb4) hb5) hb6) hb7
  clear hb2 hb3 hb4 hb5 hb6 hb7
  go_loopw [20, 21] (fun iv _ wr => ∃ i : Nat, iv = .int .i64 i ∧ i ≤ n1 + n2 ∧ ∃ m, wr = w7.drewN m) (fun iv _ _ => n1 + n2 - (RowKit.intOf iv).toNat)
  case atStart => exact ⟨0, rfl, Nat.zero_le _, 0, rfl⟩
  case round =>
    obtain ⟨i, rfl, hi, m, rfl⟩ := hrel
    by_cases hlt : i < n1 + n2
    · have hdec : decide ((i : Int) < ((n1 + n2 : Nat) : Int)) = true := by simp; omega
      have hdec2 : decide ((i : Int) < (n1 : Int) + (n2 : Int)) = true := by simp; omega
      have hii : (i : Int) < ((n1 + n2 : Nat) : Int) := by omega
      have hii2 : (i : Int) < (n1 : Int) + (n2 : Int) := by omega
      have HW : Hid (∀ k, ∃ m', (w7.drewN m).drewN k = w7.drewN m') := fun k => ⟨m + k, by rw [World.drewN_drewN]⟩
      by_cases h1 : i < n1
      · obtain ⟨g1, g2, u1, u2, rfl, rfl, cc1, cc2, hcl⟩ := (HQ2.out m i).1 h1
        have HCL := hide hcl
        clear hcl HQ2
        have hd1 : decide ((i : Int) < (n1 : Int)) = true := by simp; omega
        have hj1 : (i : Int) < (n1 : Int) := by omega
        generalize w7.drewN m = WO at *
        go_wp2_with fail
        go_quiet (first | (go_at_call 11; refine Calls.quiet_of (HCL.out _)))
        go_wp2
        exact ⟨⟨i + 1, by simp, by omega, HW.out _⟩, by simp only [RowKit.intOf]; omega⟩
      · obtain ⟨g1, g2, u1, u2, rfl, rfl, cc1, cc2, hcl⟩ := (HQ2.out m i).2 (by omega) hlt
        have HCL := hide hcl
        clear hcl HQ2
        have hd1 : decide ((i : Int) < (n1 : Int)) = false := by simp; omega
        have hws : IntKind.i64.wrap ((i : Int) - (n1 : Int)) = ((i - n1 : Nat) : Int) := by rw [IntKind.wrap_i64]; omega
        obtain ⟨j, hj⟩ : ∃ j, i - n1 = j := ⟨_, rfl⟩
        rw [hj] at hws cc2
        have hj1 : (j : Int) < (n2 : Int) := by omega
        generalize w7.drewN m = WO at *
        go_wp2_with fail
        go_quiet (first | (go_at_call 11; refine Calls.quiet_of (HCL.out _)))
        go_wp2
        exact ⟨⟨i + 1, by simp, by omega, HW.out _⟩, by simp only [RowKit.intOf]; omega⟩
    · have hdec : decide ((i : Int) < ((n1 + n2 : Nat) : Int)) = false := by simp; omega
      have hdec2 : decide ((i : Int) < (n1 : Int) + (n2 : Int)) = false := by simp; omega
      go_wp2
      go_ret
      exact ⟨rfl, belowD HB.out m⟩
theorem queryJoined_ok (one two : L) (w : World) (hs : one.length + two.length + 1 ≤ 9223372036854775807) : Calls Tryd.prog 4 #[.string (bs one), .string (bs two)] w fun e w' => e = .returned (.bool true) ∧ Below w.heap.size w w' := by
  have e3 : one ++ [124] ++ two = ex two one := by simp
  have p1 := add_rows2 one [124] _ rfl (by simp; omega)
  have p2 := add_rows2 (one ++ [124]) two _ e3 (by simp; omega)
  have H : JS (bs one) (bs two) (bs (ex two one)) (parse one) (parse two) (parse (ex two one)) (parseR one) (parseR two) (nmb (parse one)) (nmb (parse two)) (nmb (parse (ex two one))) (plc (parse one)) (plc (parse two)) (plc (parse (ex two one))) (plc (parseR one)) (plc (parseR two)) := ⟨a6 one, a6 two, a6 _, a7 one, a7 two, num_ok, alive_ok⟩
  by_cases h1 : nmb (parse one) = 0
  · obtain ⟨ps, hps, -⟩ := (nmb_sim one).2 h1
    rw [h1] at H
    by_cases h5 : 500 < one.length + two.length + 1
    · exact joinedB w H p1 p2 (bs_size one) (bs_size two) h5 hs
    · have hex := parse_ex hps (two := two) (by omega)
      by_cases h2 : nmb (parse two) = 0
      · obtain ⟨qs, hqs, -⟩ := (nmb_sim two).2 h2
        rw [hqs] at hex
        rw [hex, hps, hqs] at H
        exact joinedD w H p1 p2 (bs_size one) (bs_size two) (by omega)
      · have hP2 := (plc_le two).1
        have hx : nmb (parse (ex two one)) = nmb (parse two) ∧ plc (parse (ex two one)) = one.length + 1 + plc (parse two) := by
          rw [hex]
          cases hp2 : parse two with
          | ok qs => rw [hp2] at h2; exact absurd rfl h2
          | error e => exact ⟨rfl, rfl⟩
        have hx3 : nmb (parse (ex two one)) ≠ 0 := by rw [hx.1]; exact h2
        rw [hx.1] at H
        exact joinedC w H p1 p2 (bs_size one) (bs_size two) (by omega) h2 hx3 hx.2 hP2
  · exact joinedA w H p1 p2 h1
end Go.Proofs.YtigpjemceodjcaaDoor

namespace Go.Proofs.YtigpjemceodjcaaDoor
open Go.RowKit Go.Maps Go.Lib
theorem bs_self (x : ByteArray) : bs x.data.toList = x := by unfold bs; simp
theorem toL_len (x : ByteArray) : x.data.toList.length = x.size := by simp
theorem queryJoined_any (one two : ByteArray) (w : World) (hs : one.size + two.size + 1 ≤ 9223372036854775807) : Calls Tryd.prog 4 #[.string one, .string two] w fun e w' => e = .returned (.bool true) ∧ Below w.heap.size w w' := by
  have := queryJoined_ok one.data.toList two.data.toList w (by rw [toL_len, toL_len]; exact hs)
  rwa [bs_self, bs_self] at this
end Go.Proofs.YtigpjemceodjcaaDoor
