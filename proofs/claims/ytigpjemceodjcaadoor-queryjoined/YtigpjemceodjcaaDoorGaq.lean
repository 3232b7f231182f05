import Derived.Test.YtigpjemceodjcaaDoorGap
set_option linter.unusedVariables false
set_option linter.unusedSimpArgs false
set_option linter.unusedSimpArgs false
set_option linter.unusedVariables false
namespace Go.Proofs.YtigpjemceodjcaaDoor
open Go

variable {l l' r t p w m : L} {c d : UInt8} {cut cut' : Bool} {α β : Type} {inn inn' : Option (L → Rs Prd)}
abbrev ex (t l : L) : L := l ++ 124 :: t
theorem stop124 (t : L) : Stop (124 :: t) := by
  refine Or.inr (Or.inr ?_)
  rw [dec_ascii (by decide)]
  exact ⟨by decide, by decide⟩
theorem skip124 (t : L) : skip (124 :: t) = 124 :: t := by rw [skip_cons, if_neg (by decide)]
theorem nm_ex (h : Gd l) (t : L) : nm (ex t l) = nm l := nm_app h (stop124 t)
theorem pre_ex {b : L} (hb : ∀ x ∈ b, x ≠ 124) (a t : L) : Lib.hasPrefix (ex t a) b = Lib.hasPrefix a b := by
  induction b generalizing a with
  | nil => rw [pre_nil, pre_nil]
  | cons x b ih =>
    cases a with
    | nil =>
      have : (x == 124) = false := by simpa using hb x (List.mem_cons_self)
      show Lib.hasPrefix (124 :: t) (x :: b) = _
      rw [pre_cons, this]; rfl
    | cons y a =>
      show Lib.hasPrefix (y :: ex t a) (x :: b) = _
      rw [pre_cons, pre_cons, ih (fun z hz => hb z (List.mem_cons_of_mem _ hz))]
theorem part_ex (h : Gd l) (hl : l ≠ []) (t : L) : part (ex t l) = part l := by
  have h0 : 0 < l.length := List.length_pos_iff.2 hl
  unfold part
  rw [nm_ex h, pre_ex (by decide), pre_ex (by decide)]
  split
  · exact List.take_append_of_le_length (nmq_le l)
  · split
    · next hp =>
      refine List.take_append_of_le_length ?_
      have : ∃ b : L, b.length = 2 ∧ Lib.hasPrefix l b = true := hp.elim (fun x => ⟨_, rfl, x⟩) (fun x => ⟨_, rfl, x⟩)
      obtain ⟨b, hb1, hb2⟩ := this
      rw [pre_take] at hb2
      have := congrArg List.length (by simpa using hb2 : l.take b.length = b)
      rw [List.length_take, hb1] at this; omega
    · exact List.take_append_of_le_length h0
theorem part_124 (t : L) : part (124 :: t) = [124] := part_one ⟨by decide, by decide, by decide, by decide, by decide⟩ t
structure Pt (p : L) : Prop where
  ne : p ≠ []
  n124 : p ≠ [124]
theorem part_iff (h : Gd l) (hp : Pt p) (t : L) : part (ex t l) = p ↔ part l = p := by
  by_cases hl : l = []
  · subst hl
    show part (124 :: t) = p ↔ _
    rw [part_124, part_nil]
    exact ⟨fun x => absurd x.symm hp.n124, fun x => absurd x.symm hp.ne⟩
  · rw [part_ex h hl]
theorem pass_ex {k : Nat} (hk : k ≤ l.length) (t : L) : pass k (ex t l) = ex t (pass k l) := by
  unfold pass
  show skip ((l ++ 124 :: t).drop k) = _
  rw [List.drop_append_of_le_length hk]
  exact skip_app (skip124 t) _
structure Ps (p : L) : Prop extends Pt p where
  gd : ∀ l, Gd l → part l = p → Gd (l.drop p.length)
theorem Sg.ps (h : Sg p) (hn : p ≠ [124]) : Ps p := ⟨⟨h.ne, hn⟩, fun l hg hb => by
  have hl := part_app hb
  rw [hl] at hg
  exact gd_asc h.asc hg⟩
theorem Wd.ps (h : Wd w) : Ps w := ⟨⟨by intro x; have := h.two; rw [x] at this; simp at this, by intro x; have := h.two; rw [x] at this; simp at this⟩, fun l hg hb => by rw [← (word_nm h hb).1]; exact gd_name hg⟩
theorem part_le (hb : part l = p) : p.length ≤ l.length := by have := part_app hb; rw [this]; simp
theorem calls_ex (h : Gd l) (hw : Wd w) (t : L) : calls w (ex t l) = calls w l := by
  unfold calls
  by_cases hb : part l = w
  · have hb' := (part_iff h hw.ps.toPt t).2 hb
    have := pass_ex (part_le hb) t
    unfold pass at this
    rw [this, hb, hb', pre_ex (by decide)]
  · have hb' : ¬ part (ex t l) = w := fun x => hb ((part_iff h hw.ps.toPt t).1 x)
    have e1 : (part (ex t l) == w) = false := by simpa using hb'
    have e2 : (part l == w) = false := by simpa using hb
    rw [e1, e2]; rfl
def Ex (t : L) (x x' : Rs α) : Prop := ∀ a l, x = .ok (a, l) → Gd l ∧ x' = .ok (a, ex t l)
def ExW (t : L) (x x' : Except (Nat × Nat) L) : Prop := ∀ l, x = .ok l → Gd l ∧ x' = .ok (ex t l)
theorem Ex.ok {a : α} (h : Gd l) : Ex t (.ok (a, l)) (.ok (a, ex t l)) := fun b l' e => by cases e; exact ⟨h, rfl⟩
theorem Ex.err {e : Nat × Nat} {x' : Rs α} : Ex t (.error e) x' := fun b l' e => by cases e
theorem Ex.thn {x x' : Rs α} {f f' : α → L → Rs β} (h : Ex t x x') (hf : ∀ a l, Gd l → x = .ok (a, l) → Ex t (f a l) (f' a (ex t l))) : Ex t (thn x f) (thn x' f') := fun b l2 e => by
  cases hx : x with
  | error y => rw [hx] at e; cases e
  | ok y =>
    obtain ⟨a, l1⟩ := y
    obtain ⟨g, e1⟩ := h a l1 hx
    rw [hx] at e
    rw [e1]
    exact hf a l1 g hx b l2 e
theorem Ex.wnt {x x' : Except (Nat × Nat) L} {f f' : L → Rs β} (h : ExW t x x') (hf : ∀ l, Gd l → x = .ok l → Ex t (f l) (f' (ex t l))) : Ex t (wnt x f) (wnt x' f') := fun b l2 e => by
  cases hx : x with
  | error y => rw [hx] at e; cases e
  | ok l1 =>
    obtain ⟨g, e1⟩ := h l1 hx
    rw [hx] at e
    rw [e1]
    exact hf l1 g hx b l2 e
theorem want_ex (h : Gd l) (hp : Ps p) (t : L) : ExW t (want cut p l) (want cut' p (ex t l)) := fun l' e => by
  unfold want at e ⊢
  split at e
  · next hb =>
    cases e
    rw [if_pos ((part_iff h hp.toPt t).2 hb), pass_ex (part_le hb)]
    exact ⟨gd_skip (hp.gd l h hb), rfl⟩
  · cases e
theorem name_ex (h : Gd l) (t : L) : Ex t (name cut l) (name cut' (ex t l)) := by
  unfold name
  rw [nm_ex h, calls_ex h wdNot, calls_ex h wdText]
  split
  · exact Ex.err
  · rw [pass_ex (nmq_le l), show (ex t l).take (nm l) = l.take (nm l) from List.take_append_of_le_length (nmq_le l)]
    exact Ex.ok (gd_skip (gd_name h))
theorem while_ex {m : L} (hc : c ∈ m) (b : L) : (m ++ b).takeWhile (· != c) = m.takeWhile (· != c) ∧ (m.takeWhile (· != c)).length + 1 ≤ m.length := by
  induction m with
  | nil => simp at hc
  | cons x m ih =>
    rw [List.cons_append, List.takeWhile_cons, List.takeWhile_cons]
    by_cases hx : x = c
    · subst hx; simp
    · have hm : c ∈ m := by
        rcases List.mem_cons.1 hc with h | h
        · exact absurd h.symm hx
        · exact h
      obtain ⟨h1, h2⟩ := ih hm
      have : (x != c) = true := by simpa using hx
      rw [this]
      simp only [if_true]
      exact ⟨by rw [h1], by simp; omega⟩
theorem quotedBy_ex (h : Gd l) (hc : Sg1 c) (hb : part l = [c]) (t : L) : Ex t (quotedBy cut c l) (quotedBy cut' c (ex t l)) := by
  obtain ⟨m, hm⟩ : ∃ m, l = c :: m := ⟨_, part_app hb⟩
  have hg : Gd m := gd_cons (by rw [← hm]; exact h) hc.lt
  unfold quotedBy quoteOf
  have e1 : (ex t l).drop 1 = m ++ 124 :: t := by rw [hm]; rfl
  have e2 : l.drop 1 = m := by rw [hm]; rfl
  rw [e1, e2]
  cases hcc : m.contains c with
  | false => exact Ex.err
  | true =>
    have hmem : c ∈ m := by simpa using hcc
    obtain ⟨h1, h2⟩ := while_ex hmem (124 :: t)
    have h3 : (m ++ 124 :: t).contains c = true := by simp [hmem]
    rw [h3, if_pos rfl, if_pos rfl, h1, pass_ex (by rw [hm]; simp; omega)]
    refine Ex.ok (gd_skip ?_)
    rw [hm, show (m.takeWhile (· != c)).length + 2 = 1 + ((m.takeWhile (· != c)).length + 1) by omega, ← List.drop_drop, List.drop_one, List.tail_cons, ← List.drop_drop, drop_while]
    have hgw := gd_while hc.lt _ m (Nat.le_refl _) hg
    cases hd : m.dropWhile (· != c) with
    | nil => exact gd_nil
    | cons b r =>
      have hbc := List.head_dropWhile_not (p := (· != c)) (l := m) (by rw [hd]; simp)
      simp only [hd, List.head_cons] at hbc
      simp at hbc
      rw [hd, hbc] at hgw
      exact gd_cons hgw hc.lt
theorem quoted_ex (h : Gd l) (t : L) : Ex t (quoted cut l) (quoted cut' (ex t l)) := by
  unfold quoted
  have i1 := part_iff h (p := [34]) ⟨by decide, by decide⟩ t
  have i2 := part_iff h (p := [39]) ⟨by decide, by decide⟩ t
  by_cases hb : part l = [34]
  · rw [if_pos hb, if_pos (i1.2 hb)]; exact quotedBy_ex h sg1_34 hb t
  · rw [if_neg hb, if_neg (fun x => hb (i1.1 x))]
    by_cases hc : part l = [39]
    · rw [if_pos hc, if_pos (i2.2 hc)]; exact quotedBy_ex h sg1_39 hc t
    · rw [if_neg hc]; exact Ex.err
structure ExI (t : L) (inn inn' : Option (L → Rs Prd)) : Prop where
  som : ∀ f, inn = some f → ∃ f', inn' = some f' ∧ ∀ l, Gd l → Ex t (f l) (f' (ex t l))
  suf : SufI inn
theorem within_ex (hi : ExI t inn inn') (h : Gd l) {o s : L} (ho : Ps o) (hs : Ps s) : Ex t (within cut inn o s l) (within cut' inn' o s (ex t l)) := by
  unfold within
  cases hinn : inn with
  | none => exact Ex.err
  | some f =>
    obtain ⟨f', e, hf⟩ := hi.som f hinn
    rw [e]
    exact Ex.wnt (want_ex h ho t) fun l1 g1 _ => Ex.thn (hf l1 g1) fun p l2 g2 _ => Ex.wnt (want_ex g2 hs t) fun l3 g3 _ => Ex.ok g3
theorem ps91 : Ps [91] := sg91.ps (by decide)
theorem ps93 : Ps [93] := sg93.ps (by decide)
theorem ps40 : Ps [40] := sg40.ps (by decide)
theorem ps41 : Ps [41] := sg41.ps (by decide)
theorem ps64 : Ps [64] := sg64.ps (by decide)
theorem ps46 : Ps [46] := sg46.ps (by decide)
theorem ps47 : Ps [47] := sg47.ps (by decide)
theorem ps4747 : Ps [47, 47] := sg4747.ps (by decide)
theorem ps42 : Ps [42] := sg42.ps (by decide)
theorem ps61 : Ps [61] := sg61.ps (by decide)
theorem ps3361 : Ps [33, 61] := sg3361.ps (by decide)
theorem ex_len (t l : L) : (ex t l).length = l.length + 1 + t.length := by simp; omega
theorem preds_ex (hi : ExI t inn inn') : ∀ (f : Nat) (l : L) (f' : Nat), Gd l → l.length < f → (ex t l).length < f' → Ex t (preds cut inn f l) (preds cut' inn' f' (ex t l))
  | 0, l, f', h, hf, hf' => by omega
  | f + 1, l, 0, h, hf, hf' => by omega
  | f + 1, l, f' + 1, h, hf, hf' => by
    have i := part_iff h ps91.toPt t
    rw [ex_len] at hf'
    rw [preds, preds]
    by_cases hb : part l = [91]
    · rw [if_pos hb, if_pos (i.2 hb)]
      refine Ex.thn (within_ex hi h ps91 ps93) fun p l1 g1 e1 => ?_
      have := within_lt hi.suf (by decide) e1
      exact Ex.thn (preds_ex hi f l1 f' g1 (by omega) (by rw [ex_len]; omega)) fun ps l2 g2 _ => Ex.ok g2
    · rw [if_neg hb, if_neg (fun x => hb (i.1 x))]; exact Ex.ok h
theorem test_ex (h : Gd l) (t : L) : Ex t (test cut l) (test cut' (ex t l)) := by
  unfold test
  have i := part_iff h ps42.toPt t
  rw [calls_ex h wdText]
  by_cases hb : part l = [42]
  · rw [if_pos hb, if_pos (i.2 hb), pass_ex (k := 1) (part_le hb (p := [42]))]; exact Ex.ok (gd_skip (ps42.gd l h hb))
  · rw [if_neg hb, if_neg (fun x => hb (i.1 x))]
    split
    · exact Ex.wnt (want_ex h wdText.ps t) fun l1 g1 _ => Ex.wnt (want_ex g1 ps40 t) fun l2 g2 _ => Ex.wnt (want_ex g2 ps41 t) fun l3 g3 _ => Ex.ok g3
    · exact name_ex h t
theorem step_ex (hi : ExI t inn inn') (dp : Bool) (h : Gd l) : Ex t (step cut inn dp l) (step cut' inn' dp (ex t l)) := by
  unfold step
  exact Ex.thn (test_ex h t) fun a l1 g1 _ => Ex.thn (preds_ex hi _ l1 _ g1 (by omega) (by omega)) fun ps l2 g2 _ => Ex.ok g2
theorem slash_ex (h : Gd l) (t : L) : Ex t (slash cut l) (slash cut' (ex t l)) := by
  unfold slash
  have i := part_iff h ps4747.toPt t
  by_cases hb : part l = [47, 47]
  · rw [if_pos hb, if_pos (i.2 hb), pass_ex (k := 2) (part_le hb (p := [47, 47]))]; exact Ex.ok (gd_skip (ps4747.gd l h hb))
  · rw [if_neg hb, if_neg (fun x => hb (i.1 x))]
    exact Ex.wnt (want_ex h ps47 t) fun l1 g1 _ => Ex.ok g1
theorem goes_ex (h : Gd l) (st : Stp) (t : L) : goesOn st (ex t l) = goesOn st l := by
  unfold goesOn
  have i1 := part_iff h ps47.toPt t
  have i2 := part_iff h ps4747.toPt t
  have e1 : (part (ex t l) == [47]) = (part l == [47]) := by rw [Bool.eq_iff_iff]; simpa using i1
  have e2 : (part (ex t l) == [47, 47]) = (part l == [47, 47]) := by rw [Bool.eq_iff_iff]; simpa using i2
  rw [e1, e2]
theorem pathMore_ex (hi : ExI t inn inn') : ∀ (f : Nat) (st : Stp) (l : L) (f' : Nat), Gd l → l.length < f → (ex t l).length < f' → Ex t (pathMore cut inn f st l) (pathMore cut' inn' f' st (ex t l))
  | 0, st, l, f', h, hf, hf' => by omega
  | f + 1, st, l, 0, h, hf, hf' => by omega
  | f + 1, st, l, f' + 1, h, hf, hf' => by
    rw [ex_len] at hf'
    rw [pathMore, pathMore, goes_ex h]
    split
    · refine Ex.thn (slash_ex h t) fun dp l1 g1 e1 => Ex.thn (step_ex hi dp g1) fun s l2 g2 e2 => ?_
      have := slash_lt e1
      have := (step_suf hi.suf dp l1 _ _ e2).length_le
      exact Ex.thn (pathMore_ex hi f s l2 f' g2 (by omega) (by rw [ex_len]; omega)) fun ss l3 g3 _ => Ex.ok g3
    · exact Ex.ok h
theorem path_ex (hi : ExI t inn inn') (h : Gd l) : Ex t (path cut inn l) (path cut' inn' (ex t l)) := by
  unfold path
  exact Ex.thn (slash_ex h t) fun dp l1 g1 e1 => Ex.thn (step_ex hi dp g1) fun s l2 g2 e2 => Ex.thn (pathMore_ex hi _ s l2 _ g2 (by omega) (by omega)) fun ss l3 g3 _ => Ex.ok g3
theorem attr_ex (h : Gd l) (t : L) : Ex t (attr cut l) (attr cut' (ex t l)) := Ex.wnt (want_ex h ps64 t) fun l1 g1 _ => name_ex g1 t
theorem valMore_ex (hi : ExI t inn inn') : ∀ (f : Nat) (st : Stp) (l : L) (f' : Nat), Gd l → l.length < f → (ex t l).length < f' → Ex t (valMore cut inn f st l) (valMore cut' inn' f' st (ex t l))
  | 0, st, l, f', h, hf, hf' => by omega
  | f + 1, st, l, 0, h, hf, hf' => by omega
  | f + 1, st, l, f' + 1, h, hf, hf' => by
    rw [ex_len] at hf'
    rw [valMore, valMore, goes_ex h]
    split
    · refine Ex.thn (slash_ex h t) fun dp l1 g1 e1 => ?_
      have i := part_iff g1 ps64.toPt t
      have := slash_lt e1
      by_cases hb : dp = false ∧ part l1 = [64]
      · rw [if_pos hb, if_pos ⟨hb.1, i.2 hb.2⟩]
        exact Ex.thn (attr_ex g1 t) fun a l2 g2 _ => Ex.ok g2
      · rw [if_neg hb, if_neg (fun x => hb ⟨x.1, i.1 x.2⟩)]
        refine Ex.thn (step_ex hi dp g1) fun s l2 g2 e2 => ?_
        have := (step_suf hi.suf dp l1 _ _ e2).length_le
        exact Ex.thn (valMore_ex hi f s l2 f' g2 (by omega) (by rw [ex_len]; omega)) fun ss l3 g3 _ => Ex.ok g3
    · exact Ex.ok h
theorem vsteps_ex (hi : ExI t inn inn') (dp : Bool) (h : Gd l) : Ex t (vsteps cut inn dp l) (vsteps cut' inn' dp (ex t l)) := by
  unfold vsteps
  exact Ex.thn (step_ex hi dp h) fun s l1 g1 _ => Ex.thn (valMore_ex hi _ s l1 _ g1 (by omega) (by omega)) fun x l2 g2 _ => Ex.ok g2
theorem value_ex (hi : ExI t inn inn') (h : Gd l) : Ex t (value cut inn l) (value cut' inn' (ex t l)) := by
  unfold value dot
  have i1 := part_iff h ps46.toPt t
  have i2 := part_iff h ps64.toPt t
  by_cases hb : part l = [46]
  · rw [if_pos hb, if_pos (i1.2 hb)]
    refine Ex.wnt (want_ex h ps46 t) fun l1 g1 _ => ?_
    have i3 := part_iff g1 ps4747.toPt t
    by_cases hc : part l1 = [47, 47]
    · rw [if_pos hc, if_pos (i3.2 hc), pass_ex (k := 2) (part_le hc (p := [47, 47]))]
      exact vsteps_ex hi true (gd_skip (ps4747.gd l1 g1 hc))
    · rw [if_neg hc, if_neg (fun x => hc (i3.1 x))]; exact Ex.ok g1
  · rw [if_neg hb, if_neg (fun x => hb (i1.1 x))]
    by_cases hc : part l = [64]
    · rw [if_pos hc, if_pos (i2.2 hc)]
      exact Ex.thn (attr_ex h t) fun a l1 g1 _ => Ex.ok g1
    · rw [if_neg hc, if_neg (fun x => hc (i2.1 x))]; exact vsteps_ex hi false h
theorem compared_ex (h : Gd l) (p : Prd) (t : L) : Ex t (compared cut p l) (compared cut' p (ex t l)) := by
  unfold compared
  have i1 := part_iff h ps61.toPt t
  have i2 := part_iff h ps3361.toPt t
  by_cases hb : part l = [61]
  · rw [if_pos hb, if_pos (i1.2 hb), pass_ex (k := 1) (part_le hb (p := [61]))]
    exact Ex.thn (quoted_ex (gd_skip (ps61.gd l h hb)) t) fun a l1 g1 _ => Ex.ok g1
  · rw [if_neg hb, if_neg (fun x => hb (i1.1 x))]
    by_cases hc : part l = [33, 61]
    · rw [if_pos hc, if_pos (i2.2 hc), pass_ex (k := 2) (part_le hc (p := [33, 61]))]
      exact Ex.thn (quoted_ex (gd_skip (ps3361.gd l h hc)) t) fun a l1 g1 _ => Ex.ok g1
    · rw [if_neg hc, if_neg (fun x => hc (i2.1 x))]; exact Ex.ok h
theorem one_ex (hi : ExI t inn inn') (h : Gd l) : Ex t (one cut inn l) (one cut' inn' (ex t l)) := by
  unfold one
  have i1 := part_iff h ps40.toPt t
  rw [calls_ex h wdNot]
  split
  · exact Ex.wnt (want_ex h wdNot.ps t) fun l1 g1 _ => Ex.thn (within_ex hi g1 ps40 ps41) fun p l2 g2 _ => Ex.ok g2
  · by_cases hb : part l = [40]
    · rw [if_pos hb, if_pos (i1.2 hb)]; exact within_ex hi h ps40 ps41
    · rw [if_neg hb, if_neg (fun x => hb (i1.1 x))]
      exact Ex.thn (value_ex hi h) fun p l1 g1 _ => compared_ex g1 p t
variable {read read' : L → Rs Prd} {word : L}
theorem joinMore_ex (hw : Wd word) (hs : ∀ l, Suf l (read l)) (hr : ∀ l, Gd l → Ex t (read l) (read' (ex t l))) : ∀ (f : Nat) (l : L) (f' : Nat), Gd l → l.length < f → (ex t l).length < f' → Ex t (joinMore word read f l) (joinMore word read' f' (ex t l))
  | 0, l, f', h, hf, hf' => by omega
  | f + 1, l, 0, h, hf, hf' => by omega
  | f + 1, l, f' + 1, h, hf, hf' => by
    rw [ex_len] at hf'
    have i := part_iff h hw.ps.toPt t
    rw [joinMore, joinMore]
    by_cases hb : part l = word
    · rw [if_pos hb, if_pos (i.2 hb), pass_ex (part_le hb)]
      refine Ex.thn (hr _ (gd_skip (hw.ps.gd l h hb))) fun p l1 g1 e1 => ?_
      have := (hs _ _ _ e1).length_le
      have := pass_lt (n := word.length) (l := l) (by have := hw.two; omega) (part_ne hb hw.ps.ne)
      exact Ex.thn (joinMore_ex hw hs hr f l1 f' g1 (by omega) (by rw [ex_len]; omega)) fun ps l2 g2 _ => Ex.ok g2
    · rw [if_neg hb, if_neg (fun x => hb (i.1 x))]; exact Ex.ok h
theorem joined_ex (hw : Wd word) (hs : ∀ l, Suf l (read l)) (hr : ∀ l, Gd l → Ex t (read l) (read' (ex t l))) (h : Gd l) : Ex t (joined word read l) (joined word read' (ex t l)) := by
  unfold joined
  refine Ex.thn (hr l h) fun p l1 g1 _ => ?_
  have i := part_iff g1 hw.ps.toPt t
  by_cases hb : part l1 = word
  · rw [if_pos hb, if_pos (i.2 hb)]
    exact Ex.thn (joinMore_ex hw hs hr _ l1 _ g1 (by omega) (by omega)) fun ps l2 g2 _ => Ex.ok g2
  · rw [if_neg hb, if_neg (fun x => hb (i.1 x))]; exact Ex.ok g1
theorem cond_ex (hi : ExI t inn inn') (h : Gd l) : Ex t (cond cut inn l) (cond cut' inn' (ex t l)) :=
  joined_ex wdOr (fun l => joined_suf (one_suf hi.suf) l) (fun l g => joined_ex wdAnd (one_suf hi.suf) (fun l g => one_ex hi g) g) h
theorem inAt_ex (t : L) (cut cut' : Bool) : ∀ d, ExI t (inAt cut d) (inAt cut' d)
  | 0 => ⟨fun f e => (by cases e), inAt_suf 0⟩
  | d + 1 => by
    refine ⟨fun f e => ?_, inAt_suf _⟩
    cases e
    refine ⟨_, rfl, fun l g => ?_⟩
    rw [condAt_eq, condAt_eq]
    exact cond_ex (inAt_ex t cut cut' d) g
theorem pathsMore_fuel (cut : Bool) : ∀ (f : Nat) (l : L) (f' : Nat), l.length < f → l.length < f' → pathsMore cut f l = pathsMore cut f' l
  | 0, l, f', hf, hf' => by omega
  | f + 1, l, 0, hf, hf' => by omega
  | f + 1, l, f' + 1, hf, hf' => by
    rw [pathsMore, pathsMore]
    split
    · next hb =>
      have := pass_lt (n := 1) (l := l) (by decide) (part_ne hb (by decide))
      cases hp : path cut (inAt cut 8) (pass 1 l) with
      | error y => rfl
      | ok y =>
        obtain ⟨p, l1⟩ := y
        have := (path_suf (inAt_suf 8) _ _ _ hp).length_le
        simp only [thn]
        rw [pathsMore_fuel cut f l1 f' (by omega) (by omega)]
    · rfl
theorem paths_ex (cut' : Bool) : ∀ (f : Nat) (l : L) (f' : Nat) (ps : List (List Stp)), Gd l → l.length < f → (ex t l).length < f' → pathsMore cut f l = .ok (ps, []) → pathsMore cut' f' (ex t l) = thn (path cut' (inAt cut' 8) (pass 0 t)) fun p l => thn (pathsMore cut' (l.length + 1) l) fun qs l => .ok (ps ++ p :: qs, l)
  | 0, l, f', ps, h, hf, hf', e => by omega
  | f + 1, l, 0, ps, h, hf, hf', e => by omega
  | f + 1, l, f' + 1, ps, h, hf, hf', e => by
    rw [ex_len] at hf'
    rw [pathsMore] at e
    by_cases hb : part l = [124]
    · rw [if_pos hb] at e
      have hl : l ≠ [] := part_ne hb (by decide)
      have hpl := pass_lt (n := 1) (l := l) (by decide) hl
      rw [pathsMore, if_pos (by rw [part_ex h hl]; exact hb), pass_ex (by have := part_le hb; simpa using this)]
      have hg : Gd (pass 1 l) := by
        have hl := part_app hb
        have hg := h
        rw [hl] at hg
        exact gd_skip (gd_cons hg (by decide))
      cases hp : path cut (inAt cut 8) (pass 1 l) with
      | error y => rw [hp] at e; cases e
      | ok y =>
        obtain ⟨p, l1⟩ := y
        obtain ⟨g1, e1⟩ := path_ex (cut' := cut') (inAt_ex t cut cut' 8) hg p l1 hp
        have hl1 := (path_suf (inAt_suf 8) _ _ _ hp).length_le
        rw [hp] at e
        rw [e1]
        simp only [thn] at e ⊢
        cases hm : pathsMore cut f l1 with
        | error y => rw [hm] at e; cases e
        | ok y =>
          obtain ⟨ps1, l2⟩ := y
          rw [hm] at e
          cases e
          rw [paths_ex cut' f l1 f' ps1 g1 (by omega) (by rw [ex_len]; omega) hm]
          cases path cut' (inAt cut' 8) (pass 0 t) with
          | error y => rfl
          | ok y =>
            obtain ⟨p2, l3⟩ := y
            simp only [thn]
            cases pathsMore cut' (l3.length + 1) l3 with
            | error y => rfl
            | ok y => rfl
    · rw [if_neg hb] at e
      cases e
      show pathsMore cut' (f' + 1) (124 :: t) = _
      rw [pathsMore, if_pos (part_124 t)]
      show thn (path cut' (inAt cut' 8) (pass 0 t)) _ = _
      cases hp : path cut' (inAt cut' 8) (pass 0 t) with
      | error y => rfl
      | ok y =>
        obtain ⟨p2, l3⟩ := y
        have h1 := (path_suf (inAt_suf 8) _ _ _ hp).length_le
        have h2 := (pass_suf 0 t).length_le
        simp only [thn]
        rw [pathsMore_fuel cut' f' l3 (l3.length + 1) (by simp at hf'; omega) (by omega)]
        rfl
theorem query_ex (h : Gd l) {ps : List (List Stp)} {l0 : L} (e : query cut l = .ok (ps, l0)) (cut' : Bool) (t : L) : query cut' (ex t l) = thn (query cut' t) fun qs l => .ok (ps ++ qs, l) := by
  unfold query at e ⊢
  have hg : Gd (pass 0 l) := gd_skip h
  rw [pass_ex (Nat.zero_le _)]
  cases hp : path cut (inAt cut 8) (pass 0 l) with
  | error y => rw [hp] at e; cases e
  | ok y =>
    obtain ⟨p, l1⟩ := y
    obtain ⟨g1, e1⟩ := path_ex (cut' := cut') (inAt_ex t cut cut' 8) hg p l1 hp
    rw [hp] at e
    rw [e1]
    simp only [thn] at e ⊢
    cases hm : pathsMore cut (l1.length + 1) l1 with
    | error y => rw [hm] at e; cases e
    | ok y =>
      obtain ⟨ps1, l2⟩ := y
      rw [hm] at e
      simp only at e
      split at e
      · next hc =>
        have hl2 := hc.1
        subst hl2
        cases e
        rw [paths_ex cut' (l1.length + 1) l1 ((ex t l1).length + 1) ps1 g1 (by omega) (by omega) hm]
        cases path cut' (inAt cut' 8) (pass 0 t) with
        | error y => rfl
        | ok y =>
          obtain ⟨p2, l3⟩ := y
          simp only [thn]
          cases pathsMore cut' (l3.length + 1) l3 with
          | error y => rfl
          | ok y =>
            obtain ⟨qs, l4⟩ := y
            simp only
            split
            · rfl
            · rfl
      · cases e
theorem parse_ex {one two : L} {ps : List (List Stp)} (h : parse one = .ok ps) (h5 : one.length + two.length + 1 ≤ 500) : parse (ex two one) = match parse two with
    | .ok qs => .ok (ps ++ qs)
    | .error e => .error (e.1, one.length + 1 + e.2) := by
  have l1 : ¬ 500 < one.length := by omega
  have l2 : ¬ 500 < two.length := by omega
  have l3 : ¬ 500 < (ex two one).length := by rw [ex_len]; omega
  unfold parse at h ⊢
  rw [if_neg l1] at h
  rw [if_neg l2, if_neg l3]
  cases hq : query (isCut one) (cutAt one) with
  | error y => rw [hq] at h; cases h
  | ok y =>
    obtain ⟨ps', l0⟩ := y
    rw [hq] at h
    cases h
    have hno : isCut one = false := by
      unfold query at hq
      cases hp : path (isCut one) (inAt (isCut one) 8) (pass 0 (cutAt one)) with
      | error y => rw [hp] at hq; cases hq
      | ok y =>
        obtain ⟨p, l1⟩ := y
        rw [hp] at hq
        simp only [thn] at hq
        cases hm : pathsMore (isCut one) (l1.length + 1) l1 with
        | error y => rw [hm] at hq; cases hq
        | ok y =>
          rw [hm] at hq
          simp only at hq
          split at hq
          · next hc => exact hc.2
          · cases hq
    have hb1 : Ch.bad (bs one) = one.length := by
      unfold isCut at hno
      have := badq_le one
      rw [decide_eq_false_iff_not, cut_len] at hno
      omega
    have hc1 : cutAt one = one := by unfold cutAt; rw [hb1]; simp
    rw [hc1] at hq
    have hg1 : Gd one := hb1
    have hbt : Ch.bad (bs (124 :: two)) = 1 + Ch.bad (bs two) := by
      have h := (Ch.bad_first (jn [124] two) ((bs [124]).size + 1) 0 ((bs ([124] ++ two)).size + 1) (Nat.zero_le _) (by omega) (by omega)).2 (by decide)
      rw [bsz] at h
      exact h
    have hbj : Ch.bad (bs (ex two one)) = one.length + (1 + Ch.bad (bs two)) := by
      have h := (Ch.bad_first (jn one (124 :: two)) ((bs one).size + 1) 0 ((bs (one ++ 124 :: two)).size + 1) (Nat.zero_le _) (by omega) (by omega)).2 (by rw [bsz]; have := hb1; unfold Ch.bad at this; rw [bsz] at this; exact this)
      rw [bsz, hbt] at h
      exact h
    have hcj : cutAt (ex two one) = ex (cutAt two) one := by
      unfold cutAt
      rw [hbj]
      show (one ++ 124 :: two).take _ = one ++ 124 :: two.take _
      rw [List.take_append, show one.length + (1 + Ch.bad (bs two)) - one.length = Ch.bad (bs two) + 1 by omega, List.take_succ_cons, List.take_of_length_le (by omega)]
    have hij : isCut (ex two one) = isCut two := by
      unfold isCut
      rw [cut_len, cut_len, hbj, ex_len]
      rw [decide_eq_decide]
      omega
    rw [hcj, hij, query_ex hg1 hq (isCut two) (cutAt two)]
    have her := (query_er (isCut two) (cutAt two)).1
    cases hq2 : query (isCut two) (cutAt two) with
    | error y =>
      have := her y hq2
      simp only [thn]
      rw [ex_len]
      congr 2
      omega
    | ok y => rfl
end Go.Proofs.YtigpjemceodjcaaDoor

set_option linter.unusedSimpArgs false
set_option linter.unusedVariables false
namespace Go.Proofs.YtigpjemceodjcaaDoor
open Go
variable {q l l' r T p w m o sh : L} {c d : UInt8} {s s' : RS} {cut : Bool} {α : Type} {e n : Nat} {inn : Option (L → Rs Prd)} {inner : RS → Prd × RS}
structure Inn (q T : L) (cut : Bool) (n : Nat) (inn : Option (L → Rs Prd)) (inner : RS → Prd × RS) : Prop where
  le : n ≤ 8
  non : inn = none → n = 8
  som : ∀ f, inn = some f → n < 8 ∧ ∀ l s, At q T l s → s.nest = (n + 1 : Nat) → Sm q T (f l) (inner s)
  keeps : ∀ s, Keeps s (inner s).2
  dead : ∀ s, s.err ≠ 0 → (inner s).2 = s
  suf : SufI inn
theorem Keeps.nst (h : Keeps s s') (he : s'.err = 0) (hn : s.nest = (n : Int)) (h8 : n ≤ 8) : s'.nest = (n : Int) := by rw [h.nest he (by omega), hn]
theorem opn_at (hx : Cx T cut) (h : At q T l s) (hn : s.nest = (n : Int)) (hd : Sg1 d) (hb : part l = [d]) : (n = 8 → (s.opn q [d]).err = 8) ∧ (n < 8 → At q T (pass 1 l) (s.opn q [d]) ∧ (s.opn q [d]).nest = (n + 1 : Nat)) := by
  have hs : s.is [d] = true := by rw [h.is hx (Sg.of1 hd), hb]; simp
  have e0 : s.bl.err = 0 := by rw [bl_err]; exact h.err
  have hl := part_app hb
  have hle : 1 ≤ l.length := by rw [hl]; simp
  have hg : Gd (l.drop 1) := by
    have hg := h.gd
    rw [hl] at hg
    exact gd_cons hg hd.lt
  constructor
  · intro h8
    unfold RS.opn
    rw [if_pos hs]
    simp only
    rw [if_pos (by rw [hn, h8]; rfl)]
    unfold RS.fail
    rw [if_pos e0]
  · intro h8
    unfold RS.opn
    rw [if_pos hs]
    simp only
    rw [if_neg (by rw [hn]; omega)]
    refine ⟨(h.drop hx hle hg).nestS _, ?_⟩
    rw [bl_nest, hn, wrap_up n (by omega)]; simp
theorem within_sim (hx : Cx T cut) (hi : Inn q T cut n inn inner) (h : At q T l s) (hn : s.nest = (n : Int)) (hd : Sg1 d) (hc : Sg1 c) (hc4 : c ≠ 40) (hb : part l = [d]) : Sm q T (within cut inn [d] [c] l) ((inner (s.opn q [d])).1, (inner (s.opn q [d])).2.shut q [c]) := by
  obtain ⟨o1, o2⟩ := opn_at hx h hn hd hb
  unfold within
  cases hinn : inn with
  | none =>
    have he := o1 (hi.non hinn)
    have hd := hi.dead (s.opn q [d]) (by rw [he]; decide)
    refine Or.inl ⟨by show (8 : Nat) ≠ 0; decide, ?_⟩
    simp only
    rw [hd]
    exact (Bd.dead (q := q) (by decide) he).must hc4
  | some f =>
    obtain ⟨h8, hf⟩ := hi.som f hinn
    obtain ⟨ha, hna⟩ := o2 h8
    have hw : want cut [d] l = .ok (pass 1 l) := by unfold want; rw [if_pos hb]; rfl
    simp only
    rw [hw]
    simp only [wnt]
    have hs := hf _ _ ha hna
    cases hfl : f (pass 1 l) with
    | error y =>
      rw [hfl] at hs
      exact Bd.shut (s := (inner (s.opn q [d])).2) hs hc4
    | ok y =>
      obtain ⟨p, l2⟩ := y
      rw [hfl] at hs
      obtain ⟨e1, a2⟩ := hs
      have h3 := a2.shutS hx (Sg.of1 hc)
      simp only [thn]
      cases hw2 : want cut [c] l2 with
      | error y => rw [hw2] at h3; exact Or.inl ⟨h3.2, h3.1⟩
      | ok l3 => rw [hw2] at h3; exact ⟨e1, h3⟩
theorem sg1_91 : Sg1 91 := ⟨by decide, by decide, by decide, by decide, by decide⟩
theorem sg1_93 : Sg1 93 := ⟨by decide, by decide, by decide, by decide, by decide⟩
theorem sg1_40 : Sg1 40 := ⟨by decide, by decide, by decide, by decide, by decide⟩
theorem sg1_41 : Sg1 41 := ⟨by decide, by decide, by decide, by decide, by decide⟩
theorem preds_sim (hx : Cx T cut) (hi : Inn q T cut n inn inner) : ∀ (f : Nat) (l : L) (s : RS) (f' : Nat), At q T l s → s.nest = (n : Int) → l.length < f → s.l.length < f' → Sm q T (preds cut inn f l) (predsR q inner f' s)
  | 0, l, s, f', h, hn, hf, hf' => by omega
  | f + 1, l, s, 0, h, hn, hf, hf' => by omega
  | f + 1, l, s, f' + 1, h, hn, hf, hf' => by
    rw [preds, predsR, h.is hx sg91]
    by_cases hb : part l = [91]
    · have hb' : (part l == [91]) = true := by simpa using hb
      rw [if_pos hb, if_pos hb']
      have hbs : s.is [91] = true := by rw [h.is hx sg91]; exact hb'
      have hw := within_sim hx hi h.bl (by rw [bl_nest]; exact hn) sg1_91 sg1_93 (by decide) hb
      have hk := keeps_within (q := q) (p := [91]) (p' := [93]) hbs (by decide) (hi.keeps _)
      simp only
      generalize inner (s.bl.opn q [91]) = x at *
      cases hwi : within cut inn [91] [93] l with
      | error y => rw [hwi] at hw; exact Bd.preds hw f'
      | ok y =>
        obtain ⟨p, l1⟩ := y
        rw [hwi] at hw
        obtain ⟨e1, a1⟩ := hw
        simp only [thn]
        have hlt := within_lt hi.suf (by decide) hwi
        have ih := preds_sim hx hi f l1 (x.2.shut q [93]) f' a1 (hk.1.nst a1.err hn hi.le) (by omega) (by omega)
        cases hp : preds cut inn f l1 with
        | error y => rw [hp] at ih; exact ih
        | ok y =>
          obtain ⟨ps, l2⟩ := y
          rw [hp] at ih
          exact ⟨by rw [ih.1]; rw [show x.1 = p from e1], ih.2⟩
    · have hb' : ¬ (part l == [91]) = true := by simpa using hb
      rw [if_neg hb, if_neg hb']
      exact ⟨rfl, h.bl⟩
theorem step_sim (hx : Cx T cut) (hi : Inn q T cut n inn inner) (dp : Bool) (h : At q T l s) (hn : s.nest = (n : Int)) : Sm q T (step cut inn dp l) (stepR q inner dp s) := by
  have ht := h.testS hx
  have hk := keeps_test (q := q) s
  unfold step stepR
  simp only
  generalize testR q s = x at *
  cases htt : test cut l with
  | error y => rw [htt] at ht; exact Bd.preds ht _
  | ok y =>
    obtain ⟨t, l1⟩ := y
    rw [htt] at ht
    obtain ⟨e1, a1⟩ := ht
    simp only [thn]
    have ih := preds_sim hx hi (l1.length + 1) l1 x.2 (x.2.l.length + 1) a1 (hk.nst a1.err hn hi.le) (by omega) (by omega)
    cases hp : preds cut inn (l1.length + 1) l1 with
    | error y => rw [hp] at ih; exact ih
    | ok y =>
      obtain ⟨ps, l2⟩ := y
      rw [hp] at ih
      exact ⟨by simp only; rw [ih.1, show x.1 = t from e1], ih.2⟩
theorem slash_two (hb : part l = [47, 47]) : slash cut l = .ok (true, pass 2 l) := by unfold slash; rw [if_pos hb]
theorem slash_one (hb : part l = [47]) : slash cut l = .ok (false, pass 1 l) := by
  unfold slash want
  rw [if_neg (by rw [hb]; decide), if_pos hb]; rfl
theorem two_at (hx : Cx T cut) (h : At q T l s) (hn : s.nest = (n : Int)) (hb : part l = [47, 47]) : At q T (pass 2 l) (s.has [47, 47]) ∧ (s.has [47, 47]).nest = (n : Int) ∧ (s.has [47, 47]).l.length + 2 ≤ s.l.length ∧ s.is [47, 47] = true := by
  have hs : s.is [47, 47] = true := by rw [h.is hx sg4747, hb]; rfl
  exact ⟨h.has hx sg4747 hb, by rw [has_nest]; exact hn, has_lt hs, hs⟩
theorem one_at (hx : Cx T cut) (h : At q T l s) (hn : s.nest = (n : Int)) (hb : part l = [47]) : At q T (pass 1 l) (s.bl.has [47]) ∧ (s.bl.has [47]).nest = (n : Int) ∧ (s.bl.has [47]).l.length + 1 ≤ s.l.length ∧ s.is [47, 47] = false ∧ s.bl.is [47] = true := by
  have hs : s.bl.is [47] = true := by rw [h.bl.is hx sg47, hb]; rfl
  have := has_lt hs
  have := (bl_suf s).length_le
  exact ⟨h.bl.has hx sg47 hb, by rw [has_nest, bl_nest]; exact hn, by simp at *; omega, by rw [h.is hx sg4747, hb]; rfl, hs⟩
theorem goes_no {st : Stp} (hg : goesOn st l = false) (ht : (st.test == [35]) = false) : part l ≠ [47] ∧ part l ≠ [47, 47] := by
  unfold goesOn at hg
  have : (st.test != [35]) = true := by simp [bne, ht]
  rw [this] at hg
  simp at hg
  exact hg
theorem goes_yes {st : Stp} (hg : goesOn st l = true) : (st.test == [35]) = false ∧ (part l = [47] ∨ part l = [47, 47]) := by
  unfold goesOn at hg
  simp at hg
  exact ⟨by simpa using hg.1, hg.2⟩
theorem more_stop (hx : Cx T cut) (h : At q T l s) (may : Bool) {st : Stp} {ls : List Stp} (hg : goesOn st l = false) (hl : lastText ls = (st.test == [35])) (f : Nat) : moreR q inner may (f + 1) ls s = (ls, if lastText ls = true then s else s.bl) := by
  rw [moreR, if_neg (by simpa using h.err)]
  cases ht : st.test == [35] with
  | true => rw [ht] at hl; rw [if_pos hl, if_pos hl]
  | false =>
    rw [ht] at hl
    obtain ⟨h1, h2⟩ := goes_no hg ht
    have hl' : ¬ lastText ls = true := by rw [hl]; simp
    rw [if_neg hl', if_neg hl', if_neg (by rw [h.is hx sg4747]; simpa using h2), if_neg (by rw [h.bl.is hx sg47]; simpa using h1)]
theorem more_two (hx : Cx T cut) (h : At q T l s) (may : Bool) {ls : List Stp} (hl : lastText ls = false) (hs : s.is [47, 47] = true) (f : Nat) : moreR q inner may (f + 1) ls s = moreR q inner may f (ls ++ [(stepR q inner true (s.has [47, 47])).1]) (stepR q inner true (s.has [47, 47])).2 := by
  rw [moreR, if_neg (by simpa using h.err), if_neg (by rw [hl]; simp), if_pos hs]
theorem pathMore_sim (hx : Cx T cut) (hi : Inn q T cut n inn inner) : ∀ (f : Nat) (st : Stp) (l : L) (ls : List Stp) (s : RS) (f' : Nat), At q T l s → s.nest = (n : Int) → l.length < f → s.l.length < f' → lastText ls = (st.test == [35]) → Sm q T (thn (pathMore cut inn f st l) fun ss l => .ok (ls ++ ss, l)) (moreR q inner false f' ls s)
  | 0, st, l, ls, s, f', h, hn, hf, hf', hl => by omega
  | f + 1, st, l, ls, s, 0, h, hn, hf, hf', hl => by omega
  | f + 1, st, l, ls, s, f' + 1, h, hn, hf, hf', hl => by
    rw [pathMore]
    cases hg : goesOn st l with
    | false =>
      rw [more_stop hx h false hg hl]
      simp only [Bool.false_eq_true, if_false, thn, List.append_nil]
      refine ⟨rfl, ?_⟩
      simp only
      split
      · exact h
      · exact h.bl
    | true =>
      obtain ⟨ht, hb⟩ := goes_yes hg
      rw [ht] at hl
      rw [if_pos rfl]
      have key : ∀ (dp : Bool) (l1 : L) (s1 : RS), At q T l1 s1 → s1.nest = (n : Int) → l1.length < l.length → s1.l.length < s.l.length → slash cut l = .ok (dp, l1) → moreR q inner false (f' + 1) ls s = moreR q inner false f' (ls ++ [(stepR q inner dp s1).1]) (stepR q inner dp s1).2 → Sm q T (thn (thn (slash cut l) fun d l => thn (step cut inn d l) fun s l => thn (pathMore cut inn f s l) fun ss l => .ok (s :: ss, l)) fun ss l => .ok (ls ++ ss, l)) (moreR q inner false (f' + 1) ls s) := by
        intro dp l1 s1 a1 n1 h1 h2 hsl hm
        rw [hm, hsl]
        have hst := step_sim hx hi dp a1 n1
        have hk := keeps_step (q := q) hi.keeps dp s1
        generalize stepR q inner dp s1 = x at *
        simp only [thn]
        cases hss : step cut inn dp l1 with
        | error y => rw [hss] at hst; exact Bd.more hst _ _ _
        | ok y =>
          obtain ⟨st2, l2⟩ := y
          rw [hss] at hst
          obtain ⟨e1, a2⟩ := hst
          have hl2 := (step_suf hi.suf dp l1 _ _ hss).length_le
          have hl3 := hk.suf.length_le
          rw [show x.1 = st2 from e1]
          have ih := pathMore_sim hx hi f st2 l2 (ls ++ [st2]) x.2 f' a2 (hk.nst a2.err n1 hi.le) (by omega) (by omega) (lastText_app _ _)
          simp only
          cases hp : pathMore cut inn f st2 l2 with
          | error y => rw [hp] at ih; exact ih
          | ok y =>
            obtain ⟨ss, l4⟩ := y
            rw [hp] at ih
            simp only [thn] at ih ⊢
            rw [List.append_assoc] at ih
            exact ih
      rcases hb with hb | hb
      · obtain ⟨a1, n1, h1, h2, h3⟩ := one_at hx h hn hb
        refine key false (pass 1 l) (s.bl.has [47]) a1 n1 (pass_lt (by decide) (part_ne hb (by decide))) (by omega) (slash_one hb) ?_
        rw [moreR, if_neg (by simpa using h.err), if_neg (by rw [hl]; simp), if_neg (by rw [h2]; simp), if_pos h3]
        simp
      · obtain ⟨a1, n1, h1, h2⟩ := two_at hx h hn hb
        exact key true (pass 2 l) (s.has [47, 47]) a1 n1 (pass_lt (by decide) (part_ne hb (by decide))) (by omega) (slash_two hb) (more_two hx h false hl h2 _)
theorem path_sim (hx : Cx T cut) (hi : Inn q T cut n inn inner) (h : At q T l s) (hn : s.nest = (n : Int)) : Sm q T (path cut inn l) (pathR q inner s) := by
  unfold path pathR
  have key : ∀ (dp : Bool) (l1 : L) (s1 : RS), At q T l1 s1 → s1.nest = (n : Int) → s1.l.length < s.l.length → slash cut l = .ok (dp, l1) → moreR q inner false (s.l.length + 1) [] s.bl = moreR q inner false s.l.length [(stepR q inner dp s1).1] (stepR q inner dp s1).2 → Sm q T (thn (slash cut l) fun d l => thn (step cut inn d l) fun s l => thn (pathMore cut inn (l.length + 1) s l) fun ss l => .ok (s :: ss, l)) (moreR q inner false (s.l.length + 1) [] s.bl) := by
    intro dp l1 s1 a1 n1 h2 hsl hm
    rw [hm, hsl]
    have hst := step_sim hx hi dp a1 n1
    have hk := keeps_step (q := q) hi.keeps dp s1
    generalize stepR q inner dp s1 = x at *
    simp only [thn]
    cases hss : step cut inn dp l1 with
    | error y => rw [hss] at hst; exact Bd.more hst _ _ _
    | ok y =>
      obtain ⟨st2, l2⟩ := y
      rw [hss] at hst
      obtain ⟨e1, a2⟩ := hst
      have hl3 := hk.suf.length_le
      rw [show x.1 = st2 from e1]
      have ih := pathMore_sim hx hi (l2.length + 1) st2 l2 [st2] x.2 s.l.length a2 (hk.nst a2.err n1 hi.le) (by omega) (by omega) (lastText_app [] st2)
      exact ih
  by_cases hb2 : part l = [47, 47]
  · obtain ⟨a1, n1, h1, h2⟩ := two_at hx h.bl (by rw [bl_nest]; exact hn) hb2
    have := (bl_suf s).length_le
    rw [if_pos (Or.inl (by rw [← is_bl]; exact h2))]
    exact key true (pass 2 l) (s.bl.has [47, 47]) a1 n1 (by omega) (slash_two hb2) (more_two hx h.bl false rfl h2 _)
  · by_cases hb : part l = [47]
    · obtain ⟨a1, n1, h1, h2, h3⟩ := one_at hx h.bl (by rw [bl_nest]; exact hn) hb
      have := (bl_suf s).length_le
      rw [if_pos (Or.inr (by rw [← is_bl]; exact h3))]
      refine key false (pass 1 l) (s.bl.bl.has [47]) a1 n1 (by omega) (slash_one hb) ?_
      rw [moreR, if_neg (by simpa using h.bl.err), if_neg (by simp [lastText]), if_neg (by rw [h2]; simp), if_pos h3]
      simp
    · rw [if_neg (by rintro (x | x); rw [h.is hx sg4747] at x; exact hb2 (by simpa using x); rw [h.bl.is hx sg47] at x; exact hb (by simpa using x))]
      have : slash cut l = .error (bad cut l) := by unfold slash want; rw [if_neg hb2, if_neg hb]; rfl
      rw [this]
      exact Or.inl ⟨(h.wrong hx).2, (h.bl.wrong hx).1⟩
end Go.Proofs.YtigpjemceodjcaaDoor
