import Derived.Test.YtigpjemceodjcaaGreatDoorGao
set_option linter.unusedVariables false
set_option linter.unusedSimpArgs false
set_option linter.unusedSimpArgs false
set_option linter.unusedVariables false
namespace Go.Proofs.YtigpjemceodjcaaGreatDoor
open Go
variable {l l' r t p R X : L} {c d : UInt8} {cut : Bool}

structure NameOk (t : L) : Prop where
  gd : Gd t
  all : nm t = t.length
  ne : t ≠ []
theorem stop_asc (hc : c.toNat < 128) (hb : Ch.begins (c.toNat : Int) = false) (hg : Ch.goesOn (c.toNat : Int) = false) (r : L) : Stop (c :: r) := by
  refine Or.inr (Or.inr ?_)
  rw [dec_ascii hc]
  exact ⟨hb, hg⟩
structure Fn (X : L) : Prop where
  st : Stop X
  no : Lib.hasPrefix (skip X) [40] = false
theorem nm_at (h : NameOk t) (hX : Stop X) : nm (t ++ X) = t.length := by rw [nm_app h.gd hX, h.all]
theorem part_at (h : NameOk t) (hX : Stop X) : part (t ++ X) = t := by
  have h0 : 0 < t.length := List.length_pos_iff.2 h.ne
  unfold part
  rw [nm_at h hX, if_pos h0]
  simp
theorem calls_at (h : NameOk t) (hX : Fn X) (hw : Wd p) : calls p (t ++ X) = false := by
  unfold calls
  rw [part_at h hX.st]
  by_cases e : t = p
  · subst e
    rw [List.drop_left' rfl, hX.no]; simp
  · have : (t == p) = false := by simpa using e
    rw [this]; rfl
theorem name_at (h : NameOk t) (hX : Fn X) : name cut (t ++ X) = .ok (t, skip X) := by
  have h0 : 0 < t.length := List.length_pos_iff.2 h.ne
  unfold name
  rw [nm_at h hX.st, calls_at h hX wdNot, calls_at h hX wdText, if_neg (by simp; exact h.ne)]
  unfold pass
  simp
theorem skip_sign (hc : [9, 10, 13, 32].contains c = false) (r : L) : skip (c :: r) = c :: r := by rw [skip_cons, hc]; simp
theorem want1 (hd : Sg1 d) (r : L) : want cut [d] (d :: r) = .ok (skip r) := by
  unfold want
  rw [part_one hd, if_pos rfl]; rfl
theorem nm_text : NameOk wText := ⟨by unfold Gd; decide, by decide, by decide⟩
theorem nm_notw : NameOk wNot := ⟨by unfold Gd; decide, by decide, by decide⟩
theorem stop40 (r : L) : Stop (40 :: r) := stop_asc (by decide) (by decide) (by decide) r
theorem word_calls (h : NameOk p) (hw : Wd p) (r : L) : calls p (p ++ 40 :: r) = true := by
  unfold calls
  rw [part_at h (stop40 r), List.drop_left' rfl, skip_sign (by decide)]
  simp [Lib.hasPrefix]
theorem want_word (h : NameOk p) (hX : Stop X) : want cut p (p ++ X) = .ok (skip X) := by
  unfold want
  rw [part_at h hX, if_pos rfl]
  unfold pass
  simp
def TestOk (t : L) : Prop := t = [42] ∨ t = [35] ∨ NameOk t
theorem sg1_42 : Sg1 42 := ⟨by decide, by decide, by decide, by decide, by decide⟩
theorem name_not {c : UInt8} (h : NameOk t) (hc : c.toNat < 128) (hb : Ch.begins (c.toNat : Int) = false) : t ≠ [c] := by
  rintro rfl
  have := h.all
  rw [nm_sign hc hb] at this
  simp at this
theorem test_at (h : TestOk t) (hX : Fn X) : test cut (testOf t ++ X) = .ok (t, skip X) := by
  unfold test testOf
  rcases h with rfl | rfl | h
  · rw [if_neg (show ¬ ([42] : L) = [35] by decide)]
    show (if part (42 :: X) = [42] then _ else _) = _
    rw [part_one sg1_42, if_pos rfl]; rfl
  · rw [if_pos rfl]
    have e : ([116, 101, 120, 116, 40, 41] : L) ++ X = wText ++ 40 :: (41 :: X) := rfl
    rw [e, part_at nm_text (stop40 _), if_neg (by decide), word_calls nm_text wdText, if_pos rfl, want_word nm_text (stop40 _)]
    simp only [wnt]
    rw [skip_sign (by decide), want1 sg1_40]
    simp only [wnt]
    rw [skip_sign (by decide), want1 sg1_41]
  · have h35 := name_not (c := 35) h (by decide) (by decide)
    have h42 := name_not (c := 42) h (by decide) (by decide)
    rw [if_neg h35, part_at h hX.st, if_neg h42, calls_at h hX wdText]
    simp only [Bool.false_eq_true, if_false]
    exact name_at h hX
inductive Fa : L → Prop
  | nil : Fa []
  | sq (r : L) : Fa (93 :: r)
  | rd (r : L) : Fa (41 :: r)
  | bar (r : L) : Fa (124 :: r)
  | or (r : L) : Fa (32 :: (wOr ++ 32 :: r))
  | and (r : L) : Fa (32 :: (wAnd ++ 32 :: r))
theorem sg1_124 : Sg1 124 := ⟨by decide, by decide, by decide, by decide, by decide⟩
theorem nm_or : NameOk wOr := ⟨by unfold Gd; decide, by decide, by decide⟩
theorem nm_and : NameOk wAnd := ⟨by unfold Gd; decide, by decide, by decide⟩
theorem stop32 (r : L) : Stop (32 :: r) := stop_asc (by decide) (by decide) (by decide) r
theorem skip32 (h : NameOk p) (hp : ∃ c r, p = c :: r ∧ [9, 10, 13, 32].contains c = false) (r : L) : skip (32 :: (p ++ r)) = p ++ r := by
  obtain ⟨c, q, rfl, hc⟩ := hp
  rw [skip_cons, if_pos (by decide), List.cons_append, skip_sign hc]
theorem Fa.part (h : Fa R) : part (skip R) = [] ∨ part (skip R) = [93] ∨ part (skip R) = [41] ∨ part (skip R) = [124] ∨ part (skip R) = wOr ∨ part (skip R) = wAnd := by
  cases h with
  | nil => exact Or.inl (by rw [skip_nil]; exact part_nil)
  | sq r => exact Or.inr (Or.inl (by rw [skip_sign (by decide)]; exact part_one sg1_93 r))
  | rd r => exact Or.inr (Or.inr (Or.inl (by rw [skip_sign (by decide)]; exact part_one sg1_41 r)))
  | bar r => exact Or.inr (Or.inr (Or.inr (Or.inl (by rw [skip_sign (by decide)]; exact part_one sg1_124 r))))
  | or r => exact Or.inr (Or.inr (Or.inr (Or.inr (Or.inl (by rw [skip32 nm_or ⟨_, _, rfl, by decide⟩]; exact part_at nm_or (stop32 r))))))
  | and r => exact Or.inr (Or.inr (Or.inr (Or.inr (Or.inr (by rw [skip32 nm_and ⟨_, _, rfl, by decide⟩]; exact part_at nm_and (stop32 r))))))
theorem Fa.ne (h : Fa R) {p : L} (hp : p ≠ [] ∧ p ≠ [93] ∧ p ≠ [41] ∧ p ≠ [124] ∧ p ≠ wOr ∧ p ≠ wAnd) : Go.Proofs.YtigpjemceodjcaaGreatDoor.part (skip R) ≠ p := by
  intro e
  rcases h.part with x | x | x | x | x | x <;> rw [x] at e <;> subst e
  · exact hp.1 rfl
  · exact hp.2.1 rfl
  · exact hp.2.2.1 rfl
  · exact hp.2.2.2.1 rfl
  · exact hp.2.2.2.2.1 rfl
  · exact hp.2.2.2.2.2 rfl
theorem Fa.fn (h : Fa R) : Fn R := by
  refine ⟨?_, ?_⟩
  · cases h with
    | nil => exact Or.inl rfl
    | sq r => exact stop_asc (by decide) (by decide) (by decide) r
    | rd r => exact stop_asc (by decide) (by decide) (by decide) r
    | bar r => exact stop_asc (by decide) (by decide) (by decide) r
    | or r => exact stop32 _
    | and r => exact stop32 _
  · rw [pre40]
    have := h.ne (p := [40]) (by decide)
    simpa using this
theorem fn_sign (hc : c.toNat < 128) (hb : Ch.begins (c.toNat : Int) = false) (hg : Ch.goesOn (c.toNat : Int) = false) (hs : [9, 10, 13, 32].contains c = false) (h4 : c ≠ 40) (r : L) : Fn (c :: r) := by
  refine ⟨stop_asc hc hb hg r, ?_⟩
  rw [skip_sign hs, pre_cons]
  have : ((40 : UInt8) == c) = false := by simpa using fun e : (40 : UInt8) = c => h4 e.symm
  rw [this]; rfl
theorem fn91 (r : L) : Fn (91 :: r) := fn_sign (by decide) (by decide) (by decide) (by decide) (by decide) r
theorem fn47 (r : L) : Fn (47 :: r) := fn_sign (by decide) (by decide) (by decide) (by decide) (by decide) r
theorem fn61 (r : L) : Fn (61 :: r) := fn_sign (by decide) (by decide) (by decide) (by decide) (by decide) r
theorem fn33 (r : L) : Fn (33 :: r) := fn_sign (by decide) (by decide) (by decide) (by decide) (by decide) r
structure TextOk (t : L) : Prop where
  one : ¬ (34 ∈ t ∧ 39 ∈ t)
  gd : Gd t
theorem while_end (hc : c ∉ t) (r : L) : (t ++ c :: r).takeWhile (· != c) = t := by
  induction t with
  | nil => simp
  | cons x t ih =>
    have hx : x ≠ c := fun e => hc (by rw [e]; exact List.mem_cons_self)
    have := ih (fun h => hc (List.mem_cons_of_mem _ h))
    rw [List.cons_append, List.takeWhile_cons, if_pos (by simpa using hx), this]
theorem quotedBy_at (hc : c ∉ t) : quotedBy cut c (c :: (t ++ c :: R)) = .ok (t, skip R) := by
  unfold quotedBy quoteOf
  rw [List.drop_one, List.tail_cons, while_end hc, if_pos (by simp)]
  unfold pass
  rw [show t.length + 2 = 1 + (t.length + 1) by omega, ← List.drop_drop, List.drop_one, List.tail_cons, ← List.drop_drop, List.drop_left' rfl]
  rfl
theorem quoted_at (h : TextOk t) : quoted cut (quoteFor t :: (t ++ quoteFor t :: R)) = .ok (t, skip R) := by
  unfold quoted quoteFor
  by_cases h34 : t.contains 34 = true
  · rw [if_pos h34]
    have h39 : (39 : UInt8) ∉ t := fun x => h.one ⟨by simpa using h34, x⟩
    rw [part_one sg1_39, if_neg (by decide), if_pos rfl]
    exact quotedBy_at h39
  · rw [if_neg h34, part_one sg1_34, if_pos rfl]
    exact quotedBy_at (by simpa using h34)
end Go.Proofs.YtigpjemceodjcaaGreatDoor

set_option linter.unusedSimpArgs false
set_option linter.unusedVariables false
namespace Go.Proofs.YtigpjemceodjcaaGreatDoor
open Go
variable {l l' r R X Y : L} {c : UInt8} {cut : Bool}
def Prds.list : Prds → List Prd
  | .nil => []
  | .cons o k s a t m => ⟨o, k, s, a, t⟩ :: m.list
def Stps.list : Stps → List Stp
  | .nil => []
  | .cons d t p m => ⟨d, t, p⟩ :: m.list
theorem Prds.of_list : ∀ p : Prds, Prds.of p.list = p
  | .nil => rfl
  | .cons o k s a t m => by rw [Prds.list, Prds.of, Prds.of_list m]
theorem Stps.of_list : ∀ p : Stps, Stps.of p.list = p
  | .nil => rfl
  | .cons d t p m => by rw [Stps.list, Stps.of, Stps.of_list m]
theorem Stps.list_of : ∀ l : List Stp, (Stps.of l).list = l
  | [] => rfl
  | s :: l => by rw [Stps.of, Stps.list, Stps.list_of l]
theorem Prds.list_of : ∀ l : List Prd, (Prds.of l).list = l
  | [] => rfl
  | s :: l => by rw [Prds.of, Prds.list, Prds.list_of l]
def noT : Stps → Prop
  | .nil => True
  | .cons _ t _ m => t ≠ [35] ∧ noT m
mutual
def okS (d : Nat) (s : Stps) : Prop := match s with
  | .nil => True
  | .cons _ t p m => TestOk t ∧ (t = [35] → m = .nil) ∧ okPs d p ∧ okS d m
termination_by 3 * SizeOf.sizeOf s
def okPs (d : Nat) (p : Prds) : Prop := match p with
  | .nil => True
  | .cons o k s a t m => (match d with | 0 => False | d' + 1 => okC d' o k s a t) ∧ okPs d m
termination_by 3 * SizeOf.sizeOf p
def okC (d : Nat) (o : L) (k : Prds) (s : Stps) (a t : L) : Prop :=
  if isJoin o = true then (2 ≤ k.len ∧ s = .nil ∧ a = [] ∧ t = []) ∧ okKids d o k
  else if o = wNot then (k.len = 1 ∧ s = .nil ∧ a = [] ∧ t = []) ∧ (match d with | 0 => False | d' + 1 => okHead d' k)
  else ((o = wHas ∧ t = []) ∨ ((o = [61] ∨ o = [33, 61]) ∧ TextOk t)) ∧ k = .nil ∧ okS d s ∧ (a = [] ∨ (NameOk a ∧ noT s))
termination_by 3 * (SizeOf.sizeOf k + SizeOf.sizeOf s) + 1
def okKid (d : Nat) (op : L) (o : L) (k : Prds) (s : Stps) (a t : L) : Prop := if o = wOr ∨ (o = wAnd ∧ op = wAnd) then (match d with | 0 => False | d' + 1 => okC d' o k s a t) else okC d o k s a t
termination_by 3 * (SizeOf.sizeOf k + SizeOf.sizeOf s) + 2
def okHead (d : Nat) (p : Prds) : Prop := match p with
  | .nil => False
  | .cons o k s a t _ => okC d o k s a t
termination_by 3 * SizeOf.sizeOf p
def okKids (d : Nat) (op : L) (p : Prds) : Prop := match p with
  | .nil => True
  | .cons o k s a t m => okKid d op o k s a t ∧ okKids d op m
termination_by 3 * SizeOf.sizeOf p
end
def Hd (T : L) : Prop := ∃ c r, T = c :: r ∧ [9, 10, 13, 32].contains c = false
theorem Hd.skip {T : L} (h : Hd T) (X : L) : skip (T ++ X) = T ++ X := by
  obtain ⟨c, r, rfl, hc⟩ := h
  rw [List.cons_append, skip_sign hc]
theorem hd_name {t : L} (h : NameOk t) : Hd t := by
  cases t with
  | nil => exact absurd rfl h.ne
  | cons c r =>
    refine ⟨c, r, rfl, ?_⟩
    cases hb : [9, 10, 13, 32].contains c with
    | false => rfl
    | true =>
      exfalso
      have h0 : nm (c :: r) = 0 := by
        simp at hb
        rcases hb with rfl | rfl | rfl | rfl <;> exact nm_sign (by decide) (by decide) r
      have := h.all
      rw [h0] at this
      simp at this
theorem hd_test {t : L} (h : TestOk t) : Hd (testOf t) := by
  unfold testOf
  rcases h with rfl | rfl | h
  · exact ⟨42, [], rfl, by decide⟩
  · exact ⟨116, _, rfl, by decide⟩
  · rw [if_neg (name_not (c := 35) h (by decide) (by decide))]; exact hd_name h
theorem Hd.app {T : L} (h : Hd T) (X : L) : Hd (T ++ X) := by obtain ⟨c, r, rfl, hc⟩ := h; exact ⟨c, r ++ X, rfl, hc⟩
theorem part_name {t : L} (h : NameOk t) (hX : Stop X) {d : UInt8} (hd : Ch.begins (d.toNat : Int) = false) (hl : d.toNat < 128) (r : L) : part (t ++ X) ≠ d :: r := by
  rw [part_at h hX]
  rintro rfl
  have := h.all
  rw [nm_sign hl hd] at this
  simp at this
theorem part_test {t : L} (h : TestOk t) (hX : Fn X) : part (testOf t ++ X) ≠ [46] ∧ part (testOf t ++ X) ≠ [64] ∧ part (testOf t ++ X) ≠ [40] ∧ Lib.hasPrefix (testOf t ++ X) [47] = false := by
  unfold testOf
  rcases h with rfl | rfl | h
  · rw [if_neg (show ¬ ([42] : L) = [35] by decide)]
    show part (42 :: X) ≠ _ ∧ part (42 :: X) ≠ _ ∧ part (42 :: X) ≠ _ ∧ _
    rw [part_one sg1_42]
    exact ⟨by decide, by decide, by decide, rfl⟩
  · rw [if_pos rfl]
    have e : ([116, 101, 120, 116, 40, 41] : L) ++ X = wText ++ 40 :: (41 :: X) := rfl
    rw [e, part_at nm_text (stop40 _)]
    exact ⟨by decide, by decide, by decide, rfl⟩
  · rw [if_neg (name_not (c := 35) h (by decide) (by decide))]
    refine ⟨part_name h hX.st (by decide) (by decide) _, part_name h hX.st (by decide) (by decide) _, part_name h hX.st (by decide) (by decide) _, ?_⟩
    cases t with
    | nil => exact absurd rfl h.ne
    | cons c r =>
      rw [List.cons_append, pre_cons, pre_nil, Bool.and_true]
      by_cases e : 47 = c
      · subst e
        exfalso
        have := h.all
        rw [nm_sign (by decide) (by decide)] at this
        simp at this
      · simpa using e
structure Fv (X : L) : Prop where
  fn : Fn X
  n1 : part (skip X) ≠ [47]
  n2 : part (skip X) ≠ [47, 47]
  n3 : part (skip X) ≠ [91]
theorem Fa.fv (h : Fa R) : Fv R := ⟨h.fn, h.ne (by decide), h.ne (by decide), h.ne (by decide)⟩
theorem skip61 (r : L) : skip (61 :: r) = 61 :: r := skip_sign (by decide) r
theorem skip33 (r : L) : skip (33 :: r) = 33 :: r := skip_sign (by decide) r
theorem skip47 (r : L) : skip (47 :: r) = 47 :: r := skip_sign (by decide) r
theorem skip91 (r : L) : skip (91 :: r) = 91 :: r := skip_sign (by decide) r
theorem sg1_61 : Sg1 61 := ⟨by decide, by decide, by decide, by decide, by decide⟩
theorem sg1_46 : Sg1 46 := ⟨by decide, by decide, by decide, by decide, by decide⟩
theorem sg1_64 : Sg1 64 := ⟨by decide, by decide, by decide, by decide, by decide⟩
theorem part3361 (r : L) : part (33 :: 61 :: r) = [33, 61] := by rw [part33]; rfl
theorem part4747 (r : L) : part (47 :: 47 :: r) = [47, 47] := by rw [part47]; rfl
theorem fv_cmp {o t : L} (ho : (o = wHas ∧ t = []) ∨ ((o = [61] ∨ o = [33, 61]) ∧ TextOk t)) (hR : Fa R) : Fv (cmpOf o t ++ R) := by
  unfold cmpOf
  rcases ho with ⟨rfl, rfl⟩ | ⟨rfl | rfl, ht⟩
  · rw [if_pos rfl]; exact hR.fv
  · rw [if_neg (by decide)]
    refine ⟨fn61 _, ?_, ?_, ?_⟩ <;> (show part (skip (61 :: _)) ≠ _; rw [skip61, part_one sg1_61]; decide)
  · rw [if_neg (by decide)]
    refine ⟨fn33 _, ?_, ?_, ?_⟩ <;> (show part (skip (33 :: 61 :: _)) ≠ _; rw [skip33, part3361]; decide)
theorem cmp_at {o t : L} (ho : (o = wHas ∧ t = []) ∨ ((o = [61] ∨ o = [33, 61]) ∧ TextOk t)) (hR : Fa R) (p : Prd) (hp : p.text = []) : compared cut p (skip (cmpOf o t ++ R)) = .ok (⟨o, p.kids, p.steps, p.attr, t⟩, skip R) := by
  unfold compared cmpOf
  rcases ho with ⟨rfl, rfl⟩ | ⟨rfl | rfl, ht⟩
  · rw [if_pos rfl, List.nil_append, if_neg (hR.ne (by decide)), if_neg (hR.ne (by decide)), hp]
  · rw [if_neg (show ¬ ([61] : L) = wHas by decide)]
    have e : ([61] ++ quoteFor t :: (t ++ [quoteFor t]) ++ R : L) = 61 :: (quoteFor t :: (t ++ quoteFor t :: R)) := by simp
    have hq : [9, 10, 13, 32].contains (quoteFor t) = false := by unfold quoteFor; split <;> decide
    rw [e, skip61, part_one sg1_61, if_pos rfl]
    show thn (quoted cut (skip _)) _ = _
    rw [List.drop_one, List.tail_cons, skip_sign hq, quoted_at ht]; rfl
  · rw [if_neg (show ¬ ([33, 61] : L) = wHas by decide)]
    have e : ([33, 61] ++ quoteFor t :: (t ++ [quoteFor t]) ++ R : L) = 33 :: 61 :: (quoteFor t :: (t ++ quoteFor t :: R)) := by simp
    have hq : [9, 10, 13, 32].contains (quoteFor t) = false := by unfold quoteFor; split <;> decide
    rw [e, skip33, part3361, if_neg (by decide), if_pos rfl]
    show thn (quoted cut (skip _)) _ = _
    rw [show (33 :: 61 :: (quoteFor t :: (t ++ quoteFor t :: R)) : L).drop 2 = quoteFor t :: (t ++ quoteFor t :: R) from rfl, skip_sign hq, quoted_at ht]; rfl
end Go.Proofs.YtigpjemceodjcaaGreatDoor

set_option linter.unusedSimpArgs false
set_option linter.unusedVariables false
namespace Go.Proofs.YtigpjemceodjcaaGreatDoor
open Go
variable {l l' r R X Y : L} {c : UInt8} {cut : Bool} {inn : Option (L → Rs Prd)} {d : Nat}
def PsRd (cut : Bool) (inn : Option (L → Rs Prd)) (p : Prds) : Prop := ∀ (R : L) (f : Nat), part (skip R) ≠ [91] → (skip (wPreds p ++ R)).length < f → preds cut inn f (skip (wPreds p ++ R)) = .ok (p.list, skip R)
theorem fn_preds (p : Prds) (hY : Fn Y) : Fn (wPreds p ++ Y) := by
  cases p with
  | nil => rw [wPreds]; exact hY
  | cons o k s a t m => rw [wPreds]; exact fn91 _
theorem step_at {t : L} {p : Prds} (ht : TestOk t) (hp : PsRd cut inn p) (dp : Bool) (hY : Fn Y) (h91 : part (skip Y) ≠ [91]) : step cut inn dp (testOf t ++ (wPreds p ++ Y)) = .ok (⟨dp, t, p⟩, skip Y) := by
  unfold step
  rw [test_at ht (fn_preds p hY)]
  simp only [thn]
  rw [hp Y _ h91 (Nat.lt_succ_self _)]
  simp only [Prds.of_list]
def tl (m : Stps) (a X : L) : L := wSteps m ++ ((if a = [] then [] else 47 :: 64 :: a) ++ X)
theorem tl_nil (X : L) : tl .nil [] X = X := by unfold tl; rw [wSteps]; rfl
theorem tl_attr {a : L} (ha : a ≠ []) (X : L) : tl .nil a X = 47 :: 64 :: (a ++ X) := by unfold tl; rw [wSteps, if_neg ha]; rfl
theorem tl_cons (dp : Bool) (t : L) (p : Prds) (m : Stps) (a X : L) : tl (.cons dp t p m) a X = slashOf dp ++ (testOf t ++ (wPreds p ++ tl m a X)) := by unfold tl; rw [wSteps]; simp
theorem slash_hd (dp : Bool) (r : L) : ∃ q, slashOf dp ++ r = 47 :: q := by cases dp; exact ⟨_, rfl⟩; exact ⟨_, rfl⟩
theorem fn_tl {m : Stps} {a : L} (hX : Fv X) : Fn (tl m a X) ∧ part (skip (tl m a X)) ≠ [91] := by
  cases m with
  | nil =>
    by_cases ha : a = []
    · subst ha; rw [tl_nil]; exact ⟨hX.fn, hX.n3⟩
    · rw [tl_attr ha, skip47, part47]
      exact ⟨fn47 _, by rw [if_neg (by simp [Lib.hasPrefix])]; decide⟩
  | cons dp t p m =>
    rw [tl_cons]
    obtain ⟨q, hq⟩ := slash_hd dp (testOf t ++ (wPreds p ++ tl m a X))
    rw [hq, skip47, part47]
    refine ⟨fn47 _, ?_⟩
    split <;> simp
def StsRd (cut : Bool) (inn : Option (L → Rs Prd)) : Stps → Prop
  | .nil => True
  | .cons _ t p m => TestOk t ∧ (t = [35] → m = .nil) ∧ PsRd cut inn p ∧ StsRd cut inn m
theorem slash_at (dp : Bool) {t : L} (ht : TestOk t) (hX : Fn X) : slash cut (slashOf dp ++ (testOf t ++ X)) = .ok (dp, testOf t ++ X) ∧ (∀ st : Stp, st.test ≠ [35] → goesOn st (slashOf dp ++ (testOf t ++ X)) = true) := by
  have hs := (hd_test ht).skip X
  cases dp with
  | true =>
    have e : slashOf true ++ (testOf t ++ X) = 47 :: 47 :: (testOf t ++ X) := rfl
    rw [e]
    refine ⟨?_, fun st h => ?_⟩
    · rw [slash_two (part4747 _)]
      show Except.ok (true, skip (testOf t ++ X)) = _
      rw [hs]
    · unfold goesOn; rw [part4747]; simp [h]
  | false =>
    have e : slashOf false ++ (testOf t ++ X) = 47 :: (testOf t ++ X) := rfl
    have hp : part (47 :: (testOf t ++ X)) = [47] := by rw [part47, if_neg (by rw [(part_test ht hX).2.2.2]; simp)]
    rw [e]
    refine ⟨?_, fun st h => ?_⟩
    · rw [slash_one hp]
      show Except.ok (false, skip (testOf t ++ X)) = _
      rw [hs]
    · unfold goesOn; rw [hp]; simp [h]
theorem skip_slash (dp : Bool) (r : L) : skip (slashOf dp ++ r) = slashOf dp ++ r := by obtain ⟨q, hq⟩ := slash_hd dp r; rw [hq, skip47]
theorem slash_len (dp : Bool) : 1 ≤ (slashOf dp).length := by cases dp <;> decide
theorem skip_le (l : L) : (skip l).length ≤ l.length := (skip_suf l).length_le
theorem pathMore_at : ∀ (m : Stps) (st : Stp) (f : Nat) (X : L), StsRd cut inn m → (st.test = [35] → m = .nil) → Fv X → (skip (tl m [] X)).length < f → pathMore cut inn f st (skip (tl m [] X)) = .ok (m.list, skip X)
  | m, st, 0, X, h, ht, hX, hf => by omega
  | .nil, st, f + 1, X, h, ht, hX, hf => by
    rw [tl_nil, pathMore]
    have : goesOn st (skip X) = false := by unfold goesOn; simp [hX.n1, hX.n2]
    rw [this]; rfl
  | .cons dp t p m, st, f + 1, X, h, ht, hX, hf => by
    obtain ⟨h1, h2, h3, h4⟩ := h
    have hst : st.test ≠ [35] := fun e => by cases ht e
    obtain ⟨f1, f2⟩ := fn_tl (m := m) (a := []) hX
    obtain ⟨s1, s2⟩ := slash_at (cut := cut) dp h1 (fn_preds p f1)
    rw [tl_cons, skip_slash] at hf ⊢
    rw [pathMore, s2 st hst, if_pos rfl, s1]
    simp only [thn]
    rw [step_at h1 h3 dp f1 f2]
    simp only
    have hl := slash_len dp
    have := skip_le (tl m [] X)
    simp only [List.length_append] at hf
    rw [pathMore_at m ⟨dp, t, p⟩ f X h4 h2 hX (by omega)]
    rfl
theorem attr_at {a : L} (ha : NameOk a) (hX : Fn X) : attr cut (64 :: (a ++ X)) = .ok (a, skip X) := by
  unfold attr
  rw [want1 sg1_64]
  simp only [wnt]
  rw [(hd_name ha).skip, name_at ha hX]
theorem valMore_at {a : L} : ∀ (m : Stps) (st : Stp) (f : Nat) (X : L), StsRd cut inn m → (st.test = [35] → m = .nil) → (a = [] ∨ (NameOk a ∧ st.test ≠ [35] ∧ noT m)) → Fv X → (skip (tl m a X)).length < f → valMore cut inn f st (skip (tl m a X)) = .ok ((m.list, a), skip X)
  | m, st, 0, X, h, ht, ha, hX, hf => by omega
  | .nil, st, f + 1, X, h, ht, ha, hX, hf => by
    rcases ha with rfl | ⟨hn, h35, -⟩
    · rw [tl_nil, valMore]
      have : goesOn st (skip X) = false := by unfold goesOn; simp [hX.n1, hX.n2]
      rw [this]; rfl
    · have hp : part (47 :: 64 :: (a ++ X)) = [47] := by rw [part47, if_neg (by simp [Lib.hasPrefix])]
      rw [tl_attr hn.ne, skip47, valMore]
      have hg : goesOn st (47 :: 64 :: (a ++ X)) = true := by unfold goesOn; rw [hp]; simp [h35]
      rw [hg, if_pos rfl, slash_one hp]
      simp only [thn]
      have e : pass 1 (47 :: 64 :: (a ++ X)) = 64 :: (a ++ X) := by unfold pass; rw [List.drop_one, List.tail_cons, skip_sign (by decide)]
      rw [e, if_pos ⟨trivial, part_one sg1_64 _⟩, attr_at hn hX.fn]
      rfl
  | .cons dp t p m, st, f + 1, X, h, ht, ha, hX, hf => by
    obtain ⟨h1, h2, h3, h4⟩ := h
    have hst : st.test ≠ [35] := fun e => by cases ht e
    obtain ⟨f1, f2⟩ := fn_tl (m := m) (a := a) hX
    obtain ⟨s1, s2⟩ := slash_at (cut := cut) dp h1 (fn_preds p f1)
    rw [tl_cons, skip_slash] at hf ⊢
    rw [valMore, s2 st hst, if_pos rfl, s1]
    simp only [thn]
    rw [if_neg (fun x => (part_test h1 (fn_preds p f1)).2.1 x.2), step_at h1 h3 dp f1 f2]
    simp only
    have hl := slash_len dp
    have := skip_le (tl m a X)
    simp only [List.length_append] at hf
    have ha' : a = [] ∨ (NameOk a ∧ (⟨dp, t, p⟩ : Stp).test ≠ [35] ∧ noT m) := ha.imp id fun x => ⟨x.1, x.2.2⟩
    rw [valMore_at m ⟨dp, t, p⟩ f X h4 h2 ha' hX (by omega)]
    rfl
theorem inner_eq (dp : Bool) (t : L) (p : Prds) (m : Stps) (a X : L) : wInner (.cons dp t p m) ++ (attrOf (.cons dp t p m) a ++ X) = (if dp = true then [46, 47, 47] else []) ++ (testOf t ++ (wPreds p ++ tl m a X)) := by
  unfold tl attrOf
  rw [wInner]
  simp
theorem calls_no {l w q : L} (h : part l = q) (hq : q ≠ w) : calls w l = false := by
  unfold calls
  rw [h]
  have : (q == w) = false := by simpa using hq
  rw [this]; rfl
theorem value_at {s : Stps} {a : L} (h : StsRd cut inn s) (ha : a = [] ∨ (NameOk a ∧ noT s)) (hX : Fv X) : value cut inn (wInner s ++ (attrOf s a ++ X)) = .ok (⟨[], .nil, s, a, []⟩, skip X) ∧ calls wNot (wInner s ++ (attrOf s a ++ X)) = false ∧ part (wInner s ++ (attrOf s a ++ X)) ≠ [40] ∧ Hd (wInner s ++ (attrOf s a ++ X)) := by
  unfold value
  cases s with
  | nil =>
    rw [wInner, List.nil_append]
    unfold attrOf
    rcases ha with rfl | ⟨hn, -⟩
    · simp only [if_true]
      rw [show ([46] ++ X : L) = 46 :: X from rfl]
      have hp := part_one sg1_46 X
      refine ⟨?_, calls_no hp (by decide), by rw [hp]; decide, ⟨46, X, rfl, by decide⟩⟩
      rw [hp, if_pos rfl]
      unfold dot
      rw [want1 sg1_46]
      simp only [wnt]
      rw [if_neg hX.n2]
    · simp only [if_neg hn.ne]
      rw [show (64 :: a ++ X : L) = 64 :: (a ++ X) from rfl]
      have hp := part_one sg1_64 (a ++ X)
      refine ⟨?_, calls_no hp (by decide), by rw [hp]; decide, ⟨64, _, rfl, by decide⟩⟩
      rw [hp, if_neg (by decide), if_pos rfl, attr_at hn hX.fn]
      rfl
  | cons dp t p m =>
    obtain ⟨h1, h2, h3, h4⟩ := h
    obtain ⟨f1, f2⟩ := fn_tl (m := m) (a := a) hX
    have ha' : a = [] ∨ (NameOk a ∧ (⟨dp, t, p⟩ : Stp).test ≠ [35] ∧ noT m) := ha.imp id fun x => ⟨x.1, x.2⟩
    have hv : ∀ dp, vsteps cut inn dp (testOf t ++ (wPreds p ++ tl m a X)) = .ok (⟨[], .nil, .cons dp t p m, a, []⟩, skip X) := fun dp => by
      have ha2 : a = [] ∨ (NameOk a ∧ (⟨dp, t, p⟩ : Stp).test ≠ [35] ∧ noT m) := ha'
      unfold vsteps
      rw [step_at h1 h3 dp f1 f2]
      simp only [thn]
      rw [valMore_at m ⟨dp, t, p⟩ _ X h4 h2 ha2 hX (Nat.lt_succ_self _)]
      simp only [Stps.of, Stps.of_list]
    rw [inner_eq]
    obtain ⟨q1, q2, q3, q4⟩ := part_test h1 (fn_preds p f1)
    cases dp with
    | true =>
      simp only [if_true]
      rw [show ([46, 47, 47] ++ (testOf t ++ (wPreds p ++ tl m a X)) : L) = 46 :: 47 :: 47 :: (testOf t ++ (wPreds p ++ tl m a X)) from rfl]
      have hp := part_one sg1_46 (47 :: 47 :: (testOf t ++ (wPreds p ++ tl m a X)))
      refine ⟨?_, calls_no hp (by decide), by rw [hp]; decide, ⟨46, _, rfl, by decide⟩⟩
      rw [hp, if_pos rfl]
      unfold dot
      rw [want1 sg1_46]
      simp only [wnt]
      rw [skip47, part4747, if_pos rfl]
      show vsteps cut inn true (skip (testOf t ++ _)) = _
      rw [(hd_test h1).skip, hv]
    | false =>
      simp only [Bool.false_eq_true, if_false, List.nil_append]
      rw [if_neg q1, if_neg q2, hv]
      refine ⟨rfl, ?_, q3, (hd_test h1).app _⟩
      rcases h1 with rfl | rfl | hn
      · exact calls_no (l := testOf [42] ++ (wPreds p ++ tl m a X)) (part_one sg1_42 _) (by decide)
      · have e : testOf [35] ++ (wPreds p ++ tl m a X) = wText ++ 40 :: (41 :: (wPreds p ++ tl m a X)) := rfl
        rw [e]
        exact calls_no (part_at nm_text (stop40 _)) (by decide)
      · have : testOf t = t := by unfold testOf; rw [if_neg (name_not (c := 35) hn (by decide) (by decide))]
        rw [this]
        exact calls_at hn (fn_preds p f1) wdNot
end Go.Proofs.YtigpjemceodjcaaGreatDoor

set_option linter.unusedSimpArgs false
set_option linter.unusedVariables false
namespace Go.Proofs.YtigpjemceodjcaaGreatDoor
open Go
variable {l l' r R X Y W : L} {c : UInt8} {cut : Bool} {inn : Option (L → Rs Prd)} {d : Nat} {P : Prd}
structure FaB (R : L) : Prop where
  fa : Fa R
  na : part (skip R) ≠ wAnd
structure FaC (R : L) : Prop extends FaB R where
  no : part (skip R) ≠ wOr
theorem fac93 (r : L) : FaC (93 :: r) := ⟨⟨.sq r, by rw [skip_sign (by decide), part_one sg1_93]; decide⟩, by rw [skip_sign (by decide), part_one sg1_93]; decide⟩
theorem fac41 (r : L) : FaC (41 :: r) := ⟨⟨.rd r, by rw [skip_sign (by decide), part_one sg1_41]; decide⟩, by rw [skip_sign (by decide), part_one sg1_41]; decide⟩
structure CRd (cut : Bool) (d : Nat) (W : L) (P : Prd) : Prop where
  one : isJoin P.op = false → ∀ R, Fa R → one cut (inAt cut d) (W ++ R) = .ok (P, skip R)
  both : P.op ≠ wOr → ∀ R, FaB R → both cut (inAt cut d) (W ++ R) = .ok (P, skip R)
  cond : ∀ R, FaC R → cond cut (inAt cut d) (W ++ R) = .ok (P, skip R)
  hd : Hd W
theorem joined_one {word : L} {read : L → Rs Prd} (h : read l = .ok (P, l')) (hn : part l' ≠ word) : joined word read l = .ok (P, l') := by
  unfold joined
  rw [h]
  simp only [thn]
  rw [if_neg hn]
theorem CRd.of_one (h1 : isJoin P.op = false) (h : ∀ R, Fa R → Go.Proofs.YtigpjemceodjcaaGreatDoor.one cut (inAt cut d) (W ++ R) = .ok (P, skip R)) (hd : Hd W) : CRd cut d W P :=
  ⟨fun _ => h, fun _ R hR => joined_one (h R hR.fa) hR.na, fun R hR => joined_one (joined_one (h R hR.fa) hR.na) hR.no, hd⟩
theorem bracket_at (h : CRd cut d W P) (R : L) : within cut (inAt cut (d + 1)) [40] [41] (40 :: (W ++ 41 :: R)) = .ok (P, skip R) := by
  unfold within
  show wnt (want cut [40] _) _ = _
  rw [want1 sg1_40]
  simp only [wnt]
  rw [h.hd.skip, condAt_eq, h.cond _ (fac41 R)]
  simp only [thn]
  rw [skip_sign (by decide), want1 sg1_41]
theorem one_bracket (h : CRd cut d W P) (R : L) : one cut (inAt cut (d + 1)) (40 :: (W ++ 41 :: R)) = .ok (P, skip R) := by
  have hp := part_one sg1_40 (W ++ 41 :: R)
  unfold one
  rw [calls_no hp (by decide), hp]
  simp only [Bool.false_eq_true, if_false, if_true]
  exact bracket_at h R
theorem one_not (h : CRd cut d W P) (R : L) : one cut (inAt cut (d + 1)) (wNot ++ 40 :: (W ++ 41 :: R)) = .ok (⟨wNot, Prds.of [P], .nil, [], []⟩, skip R) := by
  unfold one
  rw [word_calls nm_notw wdNot, if_pos rfl, want_word nm_notw (stop40 _)]
  simp only [wnt]
  rw [skip_sign (by decide), bracket_at h R]
  rfl
theorem one_value {o : L} {s : Stps} {a t : L} (hj : isJoin o = false) (hn : o ≠ wNot) (ho : (o = wHas ∧ t = []) ∨ ((o = [61] ∨ o = [33, 61]) ∧ TextOk t)) (hs : StsRd cut (inAt cut d) s) (ha : a = [] ∨ (NameOk a ∧ noT s)) : CRd cut d (wCond o .nil s a t) ⟨o, .nil, s, a, t⟩ := by
  have e : wCond o .nil s a t = wInner s ++ (attrOf s a ++ cmpOf o t) := by rw [wCond, if_neg (by rw [hj]; simp), if_neg hn]
  rw [e]
  have key : ∀ R, Fa R → _ := fun R hR => value_at (cut := cut) hs ha (fv_cmp ho hR)
  refine CRd.of_one hj (fun R hR => ?_) ?_
  · obtain ⟨h1, h2, h3, h4⟩ := key R hR
    rw [List.append_assoc, List.append_assoc]
    unfold one
    rw [h2, if_neg (by simp), if_neg h3, h1]
    simp only [thn]
    exact cmp_at ho hR _ rfl
  · obtain ⟨c, r, e, hc⟩ := (key [] .nil).2.2.2
    rw [List.append_nil] at e
    exact ⟨c, r, e, hc⟩
theorem more_and (m : Prds) (hR : Fa R) : Fa (wMore wAnd m ++ R) := by
  cases m with
  | nil => rw [wMore]; exact hR
  | cons o k s a t m => rw [wMore]; simp only [List.cons_append, List.append_assoc]; exact Fa.and _
theorem more_or (m : Prds) (hR : FaC R) : FaB (wMore wOr m ++ R) := by
  cases m with
  | nil => rw [wMore]; exact hR.toFaB
  | cons o k s a t m =>
    have e0 : wMore wOr (.cons o k s a t m) ++ R = 32 :: (wOr ++ 32 :: (wKid wOr o k s a t ++ (wMore wOr m ++ R))) := by rw [wMore]; simp
    rw [e0]
    refine ⟨Fa.or _, ?_⟩
    rw [skip32 nm_or ⟨_, _, rfl, by decide⟩, part_at nm_or (stop32 _)]; decide
structure KRd (cut : Bool) (d : Nat) (op W : L) (P : Prd) : Prop where
  and : op = wAnd → ∀ R, Fa R → one cut (inAt cut d) (W ++ R) = .ok (P, skip R)
  or : op = wOr → ∀ R, FaB R → both cut (inAt cut d) (W ++ R) = .ok (P, skip R)
  hd : Hd W
def MRd (cut : Bool) (d : Nat) (op : L) : Prds → Prop
  | .nil => True
  | .cons o k s a t m => KRd cut d op (wKid op o k s a t) ⟨o, k, s, a, t⟩ ∧ MRd cut d op m
theorem more_skip {op : L} (ho : NameOk op) (hop : ∃ c r, op = c :: r ∧ [9, 10, 13, 32].contains c = false) {T : L} (hT : Hd T) (X : L) : skip (32 :: (op ++ 32 :: (T ++ X))) = op ++ 32 :: (T ++ X) ∧ part (op ++ 32 :: (T ++ X)) = op ∧ pass op.length (op ++ 32 :: (T ++ X)) = T ++ X := by
  refine ⟨skip32 ho hop _, part_at ho (stop32 _), ?_⟩
  unfold pass
  rw [List.drop_left' rfl, skip_cons, if_pos (by decide), hT.skip]
theorem moreA_at : ∀ (m : Prds) (f : Nat) (R : L), MRd cut d wAnd m → FaB R → (skip (wMore wAnd m ++ R)).length < f → joinMore wAnd (one cut (inAt cut d)) f (skip (wMore wAnd m ++ R)) = .ok (m.list, skip R)
  | m, 0, R, h, hR, hf => by omega
  | .nil, f + 1, R, h, hR, hf => by
    rw [wMore, List.nil_append, joinMore, if_neg hR.na]; rfl
  | .cons o k s a t m, f + 1, R, h, hR, hf => by
    obtain ⟨h1, h2⟩ := h
    obtain ⟨e1, e2, e3⟩ := more_skip nm_and ⟨_, _, rfl, by decide⟩ h1.hd (wMore wAnd m ++ R)
    have e0 : wMore wAnd (.cons o k s a t m) ++ R = 32 :: (wAnd ++ 32 :: (wKid wAnd o k s a t ++ (wMore wAnd m ++ R))) := by rw [wMore]; simp
    rw [e0, e1] at hf ⊢
    rw [joinMore, e2, if_pos rfl, e3, h1.and rfl _ (more_and m hR.fa)]
    simp only [thn]
    have := skip_le (wMore wAnd m ++ R)
    simp only [List.length_append, List.length_cons] at hf this
    rw [moreA_at m f R h2 hR (by omega)]
    rfl
theorem moreO_at : ∀ (m : Prds) (f : Nat) (R : L), MRd cut d wOr m → FaC R → (skip (wMore wOr m ++ R)).length < f → joinMore wOr (both cut (inAt cut d)) f (skip (wMore wOr m ++ R)) = .ok (m.list, skip R)
  | m, 0, R, h, hR, hf => by omega
  | .nil, f + 1, R, h, hR, hf => by
    rw [wMore, List.nil_append, joinMore, if_neg hR.no]; rfl
  | .cons o k s a t m, f + 1, R, h, hR, hf => by
    obtain ⟨h1, h2⟩ := h
    obtain ⟨e1, e2, e3⟩ := more_skip nm_or ⟨_, _, rfl, by decide⟩ h1.hd (wMore wOr m ++ R)
    have e0 : wMore wOr (.cons o k s a t m) ++ R = 32 :: (wOr ++ 32 :: (wKid wOr o k s a t ++ (wMore wOr m ++ R))) := by rw [wMore]; simp
    rw [e0, e1] at hf ⊢
    rw [joinMore, e2, if_pos rfl, e3, h1.or rfl _ (more_or m hR)]
    simp only [thn]
    have := skip_le (wMore wOr m ++ R)
    simp only [List.length_append, List.length_cons] at hf this
    rw [moreO_at m f R h2 hR (by omega)]
    rfl
theorem more_part {op : L} (ho : NameOk op) (hop : ∃ c r, op = c :: r ∧ [9, 10, 13, 32].contains c = false) {m : Prds} (hm : m ≠ .nil) (R : L) : part (skip (wMore op m ++ R)) = op := by
  cases m with
  | nil => exact absurd rfl hm
  | cons o k s a t m =>
    rw [wMore]
    simp only [List.cons_append, List.append_assoc]
    rw [skip32 ho hop]
    exact part_at ho (stop32 _)
theorem join_and {o : L} {k : Prds} {s : Stps} {a t : L} {m : Prds} (h : MRd cut d wAnd (.cons o k s a t m)) (hm : m ≠ .nil) : CRd cut d (wCond wAnd (.cons o k s a t m) .nil [] []) ⟨wAnd, .cons o k s a t m, .nil, [], []⟩ := by
  obtain ⟨h1, h2⟩ := h
  have e : wCond wAnd (.cons o k s a t m) .nil [] [] = wKid wAnd o k s a t ++ wMore wAnd m := by rw [wCond, if_pos (by decide), wKids]
  rw [e]
  have key : ∀ R, FaB R → both cut (inAt cut d) (wKid wAnd o k s a t ++ wMore wAnd m ++ R) = .ok (⟨wAnd, .cons o k s a t m, .nil, [], []⟩, skip R) := fun R hR => by
    rw [List.append_assoc]
    unfold both joined
    rw [h1.and rfl _ (more_and m hR.fa)]
    simp only [thn]
    rw [if_pos (more_part nm_and ⟨_, _, rfl, by decide⟩ hm R), moreA_at m _ R h2 hR (Nat.lt_succ_self _)]
    simp only [Prds.of, Prds.of_list]
  exact ⟨fun x => by simp [isJoin] at x, fun _ => key, fun R hR => joined_one (key R hR.toFaB) hR.no, h1.hd.app _⟩
theorem join_or {o : L} {k : Prds} {s : Stps} {a t : L} {m : Prds} (h : MRd cut d wOr (.cons o k s a t m)) (hm : m ≠ .nil) : CRd cut d (wCond wOr (.cons o k s a t m) .nil [] []) ⟨wOr, .cons o k s a t m, .nil, [], []⟩ := by
  obtain ⟨h1, h2⟩ := h
  have e : wCond wOr (.cons o k s a t m) .nil [] [] = wKid wOr o k s a t ++ wMore wOr m := by rw [wCond, if_pos (by decide), wKids]
  rw [e]
  refine ⟨fun x => by simp [isJoin] at x, fun x => absurd rfl x, fun R hR => ?_, h1.hd.app _⟩
  rw [List.append_assoc]
  unfold cond joined
  rw [h1.or rfl _ (more_or m hR)]
  simp only [thn]
  rw [if_pos (more_part nm_or ⟨_, _, rfl, by decide⟩ hm R), moreO_at m _ R h2 hR (Nat.lt_succ_self _)]
  simp only [Prds.of, Prds.of_list]
theorem kid_br {op o : L} {k : Prds} {s : Stps} {a t : L} (hb : o = wOr ∨ (o = wAnd ∧ op = wAnd)) (h : CRd cut d (wCond o k s a t) ⟨o, k, s, a, t⟩) : KRd cut (d + 1) op (wKid op o k s a t) ⟨o, k, s, a, t⟩ := by
  have e : ∀ R, wKid op o k s a t ++ R = 40 :: (wCond o k s a t ++ 41 :: R) := fun R => by rw [wKid, if_pos hb]; simp
  refine ⟨fun _ R hR => by rw [e]; exact one_bracket h R, fun _ R hR => by rw [e]; exact joined_one (one_bracket h R) hR.na, ?_⟩
  have := e []
  rw [List.append_nil] at this
  exact ⟨40, _, this, by decide⟩
theorem kid_no {op o : L} {k : Prds} {s : Stps} {a t : L} (hop : op = wAnd ∨ op = wOr) (hb : ¬ (o = wOr ∨ (o = wAnd ∧ op = wAnd))) (h : CRd cut d (wCond o k s a t) ⟨o, k, s, a, t⟩) : KRd cut d op (wKid op o k s a t) ⟨o, k, s, a, t⟩ := by
  rw [wKid, if_neg hb]
  refine ⟨fun e R hR => h.one ?_ R hR, fun e R hR => h.both (fun x => hb (Or.inl x)) R hR, h.hd⟩
  subst e
  have h1 : o ≠ wOr := fun x => hb (Or.inl x)
  have h2 : o ≠ wAnd := fun x => hb (Or.inr ⟨x, rfl⟩)
  simp [isJoin, h1, h2]
theorem preds_nil_at : PsRd cut inn .nil := fun R f h91 hf => by
  rw [wPreds, List.nil_append] at hf ⊢
  cases f with
  | zero => omega
  | succ f => rw [preds, if_neg h91]; rfl
theorem preds_cons_at {o : L} {k : Prds} {s : Stps} {a t : L} {m : Prds} (h : CRd cut d (wCond o k s a t) ⟨o, k, s, a, t⟩) (hm : PsRd cut (inAt cut (d + 1)) m) : PsRd cut (inAt cut (d + 1)) (.cons o k s a t m) := fun R f h91 hf => by
  have e : wPreds (.cons o k s a t m) ++ R = 91 :: (wCond o k s a t ++ 93 :: (wPreds m ++ R)) := by rw [wPreds]; simp
  rw [e, skip91] at hf ⊢
  cases f with
  | zero => omega
  | succ f =>
    have hw : within cut (inAt cut (d + 1)) [91] [93] (91 :: (wCond o k s a t ++ 93 :: (wPreds m ++ R))) = .ok (⟨o, k, s, a, t⟩, skip (wPreds m ++ R)) := by
      unfold within
      show wnt (want cut [91] _) _ = _
      rw [want1 sg1_91]
      simp only [wnt]
      rw [h.hd.skip, condAt_eq, h.cond _ (fac93 _)]
      simp only [thn]
      rw [skip_sign (by decide), want1 sg1_93]
    rw [preds, part_one sg1_91, if_pos rfl, hw]
    simp only [thn]
    have := skip_le (wPreds m ++ R)
    simp only [List.length_append, List.length_cons] at hf this
    rw [hm R f h91 (by omega)]
    rfl
def HRd (cut : Bool) (d : Nat) : Prds → Prop
  | .nil => False
  | .cons o k s a t _ => CRd cut d (wCond o k s a t) ⟨o, k, s, a, t⟩
mutual
theorem rdS (d : Nat) (s : Stps) (h : okS d s) : StsRd cut (inAt cut d) s := by
  match s, h with
  | .nil, h => trivial
  | .cons dp t p m, h =>
    rw [okS] at h
    obtain ⟨h1, h2, h3, h4⟩ := h
    exact ⟨h1, h2, rdPs d p h3, rdS d m h4⟩
termination_by 3 * SizeOf.sizeOf s
theorem rdPs (d : Nat) (p : Prds) (h : okPs d p) : PsRd cut (inAt cut d) p := by
  match p, h with
  | .nil, h => exact preds_nil_at
  | .cons o k s a t m, h =>
    rw [okPs.eq_def] at h
    simp only at h
    obtain ⟨h1, h2⟩ := h
    cases d with
    | zero => exact h1.elim
    | succ d => exact preds_cons_at (rdC d o k s a t h1) (rdPs (d + 1) m h2)
termination_by 3 * SizeOf.sizeOf p
theorem rdC (d : Nat) (o : L) (k : Prds) (s : Stps) (a t : L) (h : okC d o k s a t) : CRd cut d (wCond o k s a t) ⟨o, k, s, a, t⟩ := by
  rw [okC.eq_def] at h
  split at h
  · next hj =>
    obtain ⟨⟨h1, rfl, rfl, rfl⟩, h2⟩ := h
    have hm := rdKids d o k h2
    match k, h1, hm with
    | .cons o' k' s' a' t' m, h1, hm =>
      have hne : m ≠ .nil := by rintro rfl; simp [Prds.len] at h1
      simp only [isJoin, Bool.or_eq_true, beq_iff_eq] at hj
      rcases hj with rfl | rfl
      · exact join_or (hm (Or.inr rfl)) hne
      · exact join_and (hm (Or.inl rfl)) hne
  · next hj =>
    have hj' : isJoin o = false := by simpa using hj
    split at h
    · next hn =>
      subst hn
      obtain ⟨⟨h1, rfl, rfl, rfl⟩, h2⟩ := h
      cases d with
      | zero => exact h2.elim
      | succ d =>
        have hc := rdHead d k h2
        match k, h1, hc with
        | .cons o' k' s' a' t' .nil, h1, hc =>
          have e : ∀ R, wCond wNot (.cons o' k' s' a' t' .nil) .nil [] [] ++ R = wNot ++ 40 :: (wCond o' k' s' a' t' ++ 41 :: R) := fun R => by
            rw [wCond, if_neg (by decide), if_pos rfl, wHead]; simp
          refine CRd.of_one rfl (fun R hR => by rw [e]; exact one_not hc R) ?_
          have := e []
          rw [List.append_nil] at this
          exact ⟨110, _, this, by decide⟩
        | .cons o' k' s' a' t' (.cons _ _ _ _ _ _), h1, hc => simp [Prds.len] at h1
    · next hn =>
      obtain ⟨h1, rfl, h3, h4⟩ := h
      exact one_value hj' hn h1 (rdS d s h3) h4
termination_by 3 * (SizeOf.sizeOf k + SizeOf.sizeOf s) + 1
theorem rdHead (d : Nat) (p : Prds) (h : okHead d p) : HRd cut d p := by
  match p, h with
  | .nil, h => rw [okHead.eq_def] at h; exact h
  | .cons o k s a t m, h =>
    rw [okHead.eq_def] at h
    exact rdC d o k s a t h
termination_by 3 * SizeOf.sizeOf p
theorem rdKids (d : Nat) (op : L) (p : Prds) (h : okKids d op p) (hop : op = wAnd ∨ op = wOr) : MRd cut d op p := by
  match p, h with
  | .nil, h => trivial
  | .cons o k s a t m, h =>
    rw [okKids] at h
    refine ⟨?_, rdKids d op m h.2 hop⟩
    have h1 := h.1
    rw [okKid.eq_def] at h1
    split at h1
    · next hb =>
      cases d with
      | zero => exact h1.elim
      | succ d => exact kid_br hb (rdC d o k s a t h1)
    · next hb => exact kid_no hop hb (rdC d o k s a t h1)
termination_by 3 * SizeOf.sizeOf p
end
end Go.Proofs.YtigpjemceodjcaaGreatDoor

set_option linter.unusedSimpArgs false
set_option linter.unusedVariables false
namespace Go.Proofs.YtigpjemceodjcaaGreatDoor
open Go
variable {l l' r R X Y W a b : L} {c : UInt8} {cut : Bool} {d : Nat}
theorem gd_app (ha : Gd a) (hb : Gd b) : Gd (a ++ b) := by
  have h := (Ch.bad_first (jn a b) ((bs a).size + 1) 0 ((bs (a ++ b)).size + 1) (Nat.zero_le _) (by omega) (by omega)).2 (by rw [bsz]; have := ha; unfold Gd Ch.bad at this; rw [bsz] at this; exact this)
  unfold Gd
  unfold Gd at hb
  rw [bsz, hb] at h
  rw [List.length_append]
  exact h
theorem gd_con (c : UInt8) (hc : Gd [c]) (hb : Gd b) : Gd (c :: b) := gd_app (a := [c]) hc hb
theorem gd_test {t : L} (h : TestOk t) : Gd (testOf t) := by
  unfold testOf
  rcases h with rfl | rfl | h
  · rw [if_neg (by decide)]; unfold Gd; decide
  · rw [if_pos rfl]; unfold Gd; decide
  · split
    · unfold Gd; decide
    · exact h.gd
theorem gd_slash (dp : Bool) : Gd (slashOf dp) := by cases dp <;> (unfold Gd; decide)
theorem gd_cmp {o t : L} (ho : (o = wHas ∧ t = []) ∨ ((o = [61] ∨ o = [33, 61]) ∧ TextOk t)) : Gd (cmpOf o t) := by
  unfold cmpOf
  have hq : Gd [quoteFor t] := by unfold quoteFor; split <;> (unfold Gd; decide)
  rcases ho with ⟨rfl, rfl⟩ | ⟨rfl | rfl, ht⟩
  · rw [if_pos rfl]; exact gd_nil
  · rw [if_neg (by decide)]; exact gd_app (by unfold Gd; decide) (gd_con _ hq (gd_app ht.gd hq))
  · rw [if_neg (by decide)]; exact gd_app (by unfold Gd; decide) (gd_con _ hq (gd_app ht.gd hq))
theorem gd_attr {s : Stps} {a : L} (ha : a = [] ∨ (NameOk a ∧ noT s)) : Gd (attrOf s a) := by
  unfold attrOf
  rcases ha with rfl | ⟨hn, -⟩
  · split
    · simp only [if_true]; unfold Gd; decide
    · simp only [if_true]; exact gd_nil
  · split
    · rw [if_neg hn.ne]; exact gd_con _ (by unfold Gd; decide) hn.gd
    · rw [if_neg hn.ne]; exact gd_con _ (by unfold Gd; decide) (gd_con _ (by unfold Gd; decide) hn.gd)
theorem gd1 (c : UInt8) (h : Gd [c] := by unfold Gd; decide) : Gd [c] := h
mutual
theorem gdS (d : Nat) (s : Stps) (h : okS d s) : Gd (wSteps s) := by
  match s, h with
  | .nil, h => rw [wSteps]; exact gd_nil
  | .cons dp t p m, h =>
    rw [okS] at h
    rw [wSteps]
    exact gd_app (gd_slash dp) (gd_app (gd_test h.1) (gd_app (gdPs d p h.2.2.1) (gdS d m h.2.2.2)))
termination_by 3 * SizeOf.sizeOf s
theorem gdI (d : Nat) (s : Stps) (h : okS d s) : Gd (wInner s) := by
  match s, h with
  | .nil, h => rw [wInner]; exact gd_nil
  | .cons dp t p m, h =>
    rw [okS] at h
    rw [wInner]
    refine gd_app ?_ (gd_app (gd_test h.1) (gd_app (gdPs d p h.2.2.1) (gdS d m h.2.2.2)))
    cases dp <;> (unfold Gd; decide)
termination_by 3 * SizeOf.sizeOf s
theorem gdPs (d : Nat) (p : Prds) (h : okPs d p) : Gd (wPreds p) := by
  match p, h with
  | .nil, h => rw [wPreds]; exact gd_nil
  | .cons o k s a t m, h =>
    rw [okPs.eq_def] at h
    simp only at h
    rw [wPreds]
    cases d with
    | zero => exact h.1.elim
    | succ d => exact gd_con _ (gd1 91) (gd_app (gdC d o k s a t h.1) (gd_con _ (gd1 93) (gdPs (d + 1) m h.2)))
termination_by 3 * SizeOf.sizeOf p
theorem gdC (d : Nat) (o : L) (k : Prds) (s : Stps) (a t : L) (h : okC d o k s a t) : Gd (wCond o k s a t) := by
  rw [okC.eq_def] at h
  rw [wCond.eq_def]
  split at h
  · next hj =>
    rw [if_pos hj]
    simp only [isJoin, Bool.or_eq_true, beq_iff_eq] at hj
    have hg := gdKids d o k h.2 hj
    exact hg.1
  · next hj =>
    rw [if_neg hj]
    split at h
    · next hn =>
      rw [if_pos hn]
      cases d with
      | zero => exact h.2.elim
      | succ d => exact gd_app (by unfold Gd; decide) (gd_con _ (gd1 40) (gd_app (gdHead d k h.2) (gd1 41)))
    · next hn =>
      rw [if_neg hn]
      obtain ⟨h1, h2, h3, h4⟩ := h
      exact gd_app (gdI d s h3) (gd_app (gd_attr h4) (gd_cmp h1))
termination_by 3 * (SizeOf.sizeOf k + SizeOf.sizeOf s) + 1
theorem gdHead (d : Nat) (p : Prds) (h : okHead d p) : Gd (wHead p) := by
  match p, h with
  | .nil, h => rw [wHead]; exact gd_nil
  | .cons o k s a t m, h =>
    rw [okHead.eq_def] at h
    rw [wHead]
    exact gdC d o k s a t h
termination_by 3 * SizeOf.sizeOf p
theorem gdKids (d : Nat) (op : L) (p : Prds) (h : okKids d op p) (ho : op = wOr ∨ op = wAnd) : Gd (wKids op p) ∧ Gd (wMore op p) := by
  match p, h with
  | .nil, h => rw [wKids, wMore]; exact ⟨gd_nil, gd_nil⟩
  | .cons o k s a t m, h =>
    rw [okKids] at h
    have hm := gdKids d op m h.2 ho
    have hk : Gd (wKid op o k s a t) := by
      have h1 := h.1
      rw [okKid.eq_def] at h1
      rw [wKid.eq_def]
      split at h1
      · next hb =>
        rw [if_pos hb]
        cases d with
        | zero => exact h1.elim
        | succ d => exact gd_con _ (gd1 40) (gd_app (gdC d o k s a t h1) (gd1 41))
      · next hb => rw [if_neg hb]; exact gdC d o k s a t h1
    have hop : Gd op := by rcases ho with rfl | rfl <;> (unfold Gd; decide)
    rw [wKids, wMore]
    exact ⟨gd_app hk hm.2, gd_con _ (gd1 32) (gd_app hop (gd_con _ (gd1 32) (gd_app hk hm.2)))⟩
termination_by 3 * SizeOf.sizeOf p
end
def okQ (ls : List (List Stp)) : Prop := ls ≠ [] ∧ ∀ p ∈ ls, p ≠ [] ∧ okS 8 (Stps.of p)
theorem path_at {p : List Stp} (hp : p ≠ []) (h : okS 8 (Stps.of p)) (hR : Fa R) : path cut (inAt cut 8) (wSteps (Stps.of p) ++ R) = .ok (p, skip R) ∧ Hd (wSteps (Stps.of p) ++ R) := by
  cases p with
  | nil => exact absurd rfl hp
  | cons x l =>
    have hs := rdS (cut := cut) 8 _ h
    rw [Stps.of] at hs ⊢
    obtain ⟨h1, h2, h3, h4⟩ := hs
    have e : wSteps (.cons x.deep x.test x.preds (Stps.of l)) ++ R = slashOf x.deep ++ (testOf x.test ++ (wPreds x.preds ++ tl (Stps.of l) [] R)) := by
      rw [← tl_cons]; unfold tl; simp
    obtain ⟨f1, f2⟩ := fn_tl (m := Stps.of l) (a := []) hR.fv
    obtain ⟨s1, s2⟩ := slash_at (cut := cut) x.deep h1 (fn_preds x.preds f1)
    rw [e]
    refine ⟨?_, ?_⟩
    · unfold path
      rw [s1]
      simp only [thn]
      rw [step_at h1 h3 x.deep f1 f2]
      simp only
      rw [pathMore_at (Stps.of l) ⟨x.deep, x.test, x.preds⟩ _ R h4 h2 hR.fv (Nat.lt_succ_self _)]
      simp only [Stps.list_of]
    · obtain ⟨q, hq⟩ := slash_hd x.deep (testOf x.test ++ (wPreds x.preds ++ tl (Stps.of l) [] R))
      rw [hq]; exact ⟨47, q, rfl, by decide⟩
def plainT : List (List Stp) → L
  | [] => []
  | p :: l => 124 :: (wSteps (Stps.of p) ++ plainT l)
theorem plainQ_eq : ∀ (p : List Stp) (l : List (List Stp)), plainQ (p :: l) = wSteps (Stps.of p) ++ plainT l
  | p, [] => by simp [plainQ, plainT]
  | p, q :: l => by rw [plainQ, plainT, plainQ_eq q l]
theorem fa_T (l : List (List Stp)) : Fa (plainT l) := by cases l; exact .nil; exact .bar _
theorem pathsMore_at : ∀ (l : List (List Stp)) (f : Nat), (∀ p ∈ l, p ≠ [] ∧ okS 8 (Stps.of p)) → (plainT l).length < f → pathsMore cut f (plainT l) = .ok (l, [])
  | l, 0, h, hf => by omega
  | [], f + 1, h, hf => by rw [plainT, pathsMore, if_neg (by rw [part_nil]; decide)]
  | p :: l, f + 1, h, hf => by
    have hp := h p List.mem_cons_self
    obtain ⟨h1, h2⟩ := path_at (cut := cut) hp.1 hp.2 (fa_T l)
    rw [plainT, pathsMore, part_one sg1_124, if_pos rfl]
    have e : pass 1 (124 :: (wSteps (Stps.of p) ++ plainT l)) = wSteps (Stps.of p) ++ plainT l := by
      unfold pass
      rw [List.drop_one, List.tail_cons]
      have := h2.skip []
      simpa using this
    have hsk : skip (plainT l) = plainT l := by cases l; rfl; rw [plainT]; exact skip_sign (by decide) _
    rw [e, h1, hsk]
    simp only [thn]
    rw [plainT] at hf
    simp only [List.length_cons, List.length_append] at hf
    rw [pathsMore_at l f (fun q hq => h q (List.mem_cons_of_mem _ hq)) (by omega)]
theorem query_at {ls : List (List Stp)} (h : okQ ls) : query false (plainQ ls) = .ok (ls, []) := by
  obtain ⟨h0, h⟩ := h
  cases ls with
  | nil => exact absurd rfl h0
  | cons p l =>
    have hp := h p List.mem_cons_self
    obtain ⟨h1, h2⟩ := path_at (cut := false) hp.1 hp.2 (fa_T l)
    have hsk : skip (plainT l) = plainT l := by cases l; rfl; rw [plainT]; exact skip_sign (by decide) _
    rw [plainQ_eq]
    unfold query
    have e : pass 0 (wSteps (Stps.of p) ++ plainT l) = wSteps (Stps.of p) ++ plainT l := by
      unfold pass
      have := h2.skip []
      simpa using this
    rw [e, h1, hsk]
    simp only [thn]
    rw [pathsMore_at l _ (fun q hq => h q (List.mem_cons_of_mem _ hq)) (Nat.lt_succ_self _)]
    simp
theorem gd_T : ∀ (l : List (List Stp)), (∀ p ∈ l, p ≠ [] ∧ okS 8 (Stps.of p)) → Gd (plainT l)
  | [], h => gd_nil
  | p :: l, h => by
    rw [plainT]
    exact gd_con _ (gd1 124) (gd_app (gdS 8 _ (h p List.mem_cons_self).2) (gd_T l (fun q hq => h q (List.mem_cons_of_mem _ hq))))
theorem gd_Q {ls : List (List Stp)} (h : okQ ls) : Gd (plainQ ls) := by
  obtain ⟨h0, h⟩ := h
  cases ls with
  | nil => exact absurd rfl h0
  | cons p l =>
    rw [plainQ_eq]
    exact gd_app (gdS 8 _ (h p List.mem_cons_self).2) (gd_T l (fun q hq => h q (List.mem_cons_of_mem _ hq)))
theorem parse_plain {ls : List (List Stp)} (h : okQ ls) (h5 : (plainQ ls).length ≤ 500) : parse (plainQ ls) = .ok ls := by
  have hg := gd_Q h
  have hc : cutAt (plainQ ls) = plainQ ls := by unfold cutAt; rw [hg]; simp
  have hi : isCut (plainQ ls) = false := by unfold isCut; rw [hc]; simp
  unfold parse
  rw [if_neg (by omega), hi, hc, query_at h]
end Go.Proofs.YtigpjemceodjcaaGreatDoor
