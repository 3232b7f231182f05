import Derived.Test.YtoahlnmhjinneaaGreatDoorGas
set_option linter.unusedVariables false
set_option linter.unusedSimpArgs false
set_option linter.unusedSimpArgs false
set_option linter.unusedVariables false
namespace Go.Proofs.YtoahlnmhjinneaaGreatDoor
open Go
variable {l l' r R X Y W a b m : L} {c : UInt8} {cut : Bool} {d : Nat} {α β : Type} {inn : Option (L → Rs Prd)}

theorem name_cut : ∀ f p F, p ≤ l.length → l.length < p + f → Ch.nameFrom (bs l) f p = nm l → nm l < p + F → Ch.badFrom (bs (l.take (nm l))) F p = nm l ∧ Ch.nameFrom (bs (l.take (nm l))) F p = nm l := by
  have hle := nmq_le l
  have hlen : (l.take (nm l)).length = nm l := by rw [List.length_take]; omega
  have hj := jn (l.take (nm l)) (l.drop (nm l))
  rw [List.take_append_drop] at hj
  intro f
  induction f with
  | zero => intro p F h1 h2; omega
  | succ f ih =>
    intro p F h1 h2 hb hF
    have hge := Ch.nameFrom_ge (bs l) (f + 1) p (by rw [bsz]; exact h1)
    rw [hb] at hge
    have hend : ∀ F, nm l < p + F → p = nm l → Ch.badFrom (bs (l.take (nm l))) F p = nm l ∧ Ch.nameFrom (bs (l.take (nm l))) F p = nm l := fun F hF e => by
      obtain ⟨F, rfl⟩ : ∃ k, F = k + 1 := ⟨F - 1, by omega⟩
      rw [Ch.badFrom.eq_2, Ch.nameFrom.eq_2, if_neg (by rw [bsz, hlen]; omega), if_neg (by rw [bsz, hlen]; omega), bsz, hlen]
      exact ⟨rfl, rfl⟩
    by_cases hp : p < l.length
    · have hp' : p < (bs l).size := by rw [bsz]; exact hp
      have hw := Ch.decode_width (bs l) p hp'
      rw [Ch.nameFrom.eq_2, if_pos hp'] at hb
      split at hb
      · next hin =>
        have hok : Ch.okAt (bs l) p = true := by
          unfold Ch.inName at hin
          simp only [Bool.and_eq_true] at hin
          exact hin.1
        have hge2 := Ch.nameFrom_ge (bs l) f (p + (Utf8.decode (bs l) p).2) hw.1
        rw [hb] at hge2
        obtain ⟨F, rfl⟩ : ∃ k, F = k + 1 := ⟨F - 1, by omega⟩
        have hd : Utf8.decode (bs (l.take (nm l))) p = Utf8.decode (bs l) p := Ch.decode_prefix hp' hok (fun k hk => hj.2.1 (p + k) (by rw [bsz, hlen]; omega))
        have hlt : p < (bs (l.take (nm l))).size := by rw [bsz, hlen]; omega
        have hok2 : Ch.okAt (bs (l.take (nm l))) p = true := by rw [Ch.okSame hd]; exact hok
        have hin2 : Ch.inName (bs (l.take (nm l))) p = true := by rw [Ch.inName_same hd]; exact hin
        rw [Ch.badFrom.eq_2, Ch.nameFrom.eq_2, if_pos hlt, if_pos hok2, if_pos hlt, if_pos hin2, hd]
        exact ih _ _ (by rw [bsz] at hw; omega) (by omega) hb (by omega)
      · exact hend F hF hb
    · exact hend F hF (by omega)
theorem name_good (h : nm l ≠ 0) : NameOk (l.take (nm l)) := by
  have hle := nmq_le l
  have hlen : (l.take (nm l)).length = nm l := by rw [List.length_take]; omega
  obtain ⟨h1, h2⟩ := name_cut (l := l) ((bs l).size + 1) 0 ((bs (l.take (nm l))).size + 1) (Nat.zero_le _) (by rw [bsz]; omega) rfl (by rw [bsz, hlen]; omega)
  refine ⟨?_, ?_, fun e => ?_⟩
  · unfold Gd; rw [hlen]; exact h1
  · rw [hlen]; exact h2
  · rw [e] at hlen; exact h hlen.symm
theorem gd_one (h : Gd m) (hm : m ≠ []) : Gd (m.take (wd m)) := by
  obtain ⟨g1, g2, g3, g4⟩ := gd_step h hm
  have hlen : (m.take (wd m)).length = wd m := by rw [List.length_take]; omega
  have h0 : 0 < (bs m).size := by rw [bsz]; exact List.length_pos_iff.2 hm
  have hj := jn (m.take (wd m)) (m.drop (wd m))
  rw [List.take_append_drop] at hj
  have hd : Utf8.decode (bs (m.take (wd m))) 0 = Utf8.decode (bs m) 0 := Ch.decode_prefix h0 g1 (fun k hk => hj.2.1 (0 + k) (by rw [bsz, hlen]; unfold wd; omega))
  unfold Gd Ch.bad
  rw [hlen, Ch.badFrom.eq_2, if_pos (by rw [bsz, hlen]; omega), Ch.okSame hd, if_pos g1, hd, Nat.zero_add, bsz, hlen]
  show Ch.badFrom _ (wd m) (wd m) = _
  obtain ⟨k, hk⟩ : ∃ k, wd m = k + 1 := ⟨wd m - 1, by omega⟩
  conv => lhs; arg 2; rw [hk]
  rw [Ch.badFrom.eq_2, if_neg (by rw [bsz, hlen]; omega), bsz, hlen]
theorem while_far2 {a b : L} (h : ∀ d ∈ a, d ≠ c) : (a ++ b).takeWhile (· != c) = a ++ b.takeWhile (· != c) := by
  induction a with
  | nil => rfl
  | cons x a ih =>
    rw [List.cons_append, List.takeWhile_cons, if_pos (by simpa using h x (List.mem_cons_self)), ih (fun d hd => h d (List.mem_cons_of_mem _ hd))]; rfl
theorem gd_take (hc : c.toNat < 128) : ∀ (k : Nat) (m : L), m.length ≤ k → Gd m → Gd (m.takeWhile (· != c))
  | 0, m, hk, hg => by
    have : m = [] := List.length_eq_zero_iff.1 (by omega)
    subst this; exact gd_nil
  | k + 1, m, hk, hg => by
    cases m with
    | nil => exact gd_nil
    | cons b r =>
      by_cases hb : b = c
      · rw [List.takeWhile_cons, if_neg (by simpa using hb)]; exact gd_nil
      · obtain ⟨g1, g2, g3, g4⟩ := gd_step hg (by simp)
        have hfar := char_far (c := c) hg (by simp) hc (by simpa using hb)
        have hwf := while_far2 (c := c) (a := (b :: r).take (wd (b :: r))) (b := (b :: r).drop (wd (b :: r))) hfar
        rw [List.take_append_drop] at hwf
        rw [hwf]
        exact gd_app (gd_one hg (by simp)) (gd_take hc k _ (by rw [List.length_drop]; simp at hk; simp at g3; simp; omega) g4)
def Pst (x : Rs α) (φ : α → Prop) : Prop := ∀ a l, x = .ok (a, l) → Gd l ∧ φ a
def PstW (x : Except (Nat × Nat) L) : Prop := ∀ l, x = .ok l → Gd l
theorem Pst.ok {a : α} {φ : α → Prop} (h : Gd l) (hp : φ a) : Pst (.ok (a, l)) φ := fun b l' e => by cases e; exact ⟨h, hp⟩
theorem Pst.err {e : Nat × Nat} {φ : α → Prop} : Pst (.error e) φ := fun b l' e => by cases e
theorem Pst.thn {x : Rs α} {f : α → L → Rs β} {φ : α → Prop} {ψ : β → Prop} (h : Pst x φ) (hf : ∀ a l, Gd l → φ a → Pst (f a l) ψ) : Pst (thn x f) ψ := fun b l2 e => by
  cases hx : x with
  | error y => rw [hx] at e; cases e
  | ok y =>
    obtain ⟨a, l1⟩ := y
    obtain ⟨g, p⟩ := h a l1 hx
    rw [hx] at e
    exact hf a l1 g p b l2 e
theorem Pst.wnt {x : Except (Nat × Nat) L} {f : L → Rs β} {ψ : β → Prop} (h : PstW x) (hf : ∀ l, Gd l → Pst (f l) ψ) : Pst (wnt x f) ψ := fun b l2 e => by
  cases hx : x with
  | error y => rw [hx] at e; cases e
  | ok l1 => rw [hx] at e; exact hf l1 (h l1 hx) b l2 e
theorem Pst.mono {x : Rs α} {φ ψ : α → Prop} (h : Pst x φ) (hp : ∀ a, φ a → ψ a) : Pst x ψ := fun a l e => ⟨(h a l e).1, hp a (h a l e).2⟩
theorem gd_pass {p : L} (h : Gd l) (hp : Ps p) (hb : part l = p) : Gd (pass p.length l) := gd_skip (hp.gd l h hb)
theorem want_ps {p : L} (h : Gd l) (hp : Ps p) : PstW (want cut p l) := fun l' e => by
  unfold want at e
  split at e
  · next hb => cases e; exact gd_pass h hp hb
  · cases e
theorem name_ps (h : Gd l) : Pst (name cut l) NameOk := by
  unfold name
  split
  · exact Pst.err
  · next hn => exact Pst.ok (gd_skip (gd_name h)) (name_good fun e => hn (Or.inl e))
theorem test_ps (h : Gd l) : Pst (test cut l) TestOk := by
  unfold test
  split
  · next hb => exact Pst.ok (gd_pass (p := [42]) h ps42 hb) (Or.inl rfl)
  · split
    · exact Pst.wnt (want_ps h wdText.ps) fun l1 g1 => Pst.wnt (want_ps g1 ps40) fun l2 g2 => Pst.wnt (want_ps g2 ps41) fun l3 g3 => Pst.ok g3 (Or.inr (Or.inl rfl))
    · exact (name_ps h).mono fun t ht => Or.inr (Or.inr ht)
theorem quotedBy_ps (h : Gd l) (hc : Sg1 c) (hb : part l = [c]) (hq : c = 34 ∨ c = 39) : Pst (quotedBy cut c l) TextOk := by
  intro t l' e
  have hex := quotedBy_ex (cut := cut) (cut' := cut) h hc hb [] t l' e
  obtain ⟨m, hm⟩ : ∃ m, l = c :: m := ⟨_, part_app hb⟩
  have hg : Gd m := gd_cons (by rw [← hm]; exact h) hc.lt
  unfold quotedBy at e
  split at e
  · cases e
    refine ⟨hex.1, ?_, ?_⟩
    · unfold quoteOf
      rw [hm, List.drop_one, List.tail_cons]
      rintro ⟨h1, h2⟩
      rcases hq with rfl | rfl
      · exact mem_while 34 m h1 rfl
      · exact mem_while 39 m h2 rfl
    · unfold quoteOf
      rw [hm, List.drop_one, List.tail_cons]
      exact gd_take hc.lt _ m (Nat.le_refl _) hg
  · cases e
theorem quoted_ps (h : Gd l) : Pst (quoted cut l) TextOk := by
  unfold quoted
  split
  · next hb => exact quotedBy_ps h sg1_34 hb (Or.inl rfl)
  · split
    · next hb => exact quotedBy_ps h sg1_39 hb (Or.inr rfl)
    · exact Pst.err
abbrev okCP (d : Nat) (p : Prd) : Prop := okC d p.op p.kids p.steps p.attr p.text
abbrev okKP (d : Nat) (op : L) (p : Prd) : Prop := okKid d op p.op p.kids p.steps p.attr p.text
def OkI (cut : Bool) (d : Nat) (inn : Option (L → Rs Prd)) : Prop := ∀ f, inn = some f → ∃ d', d = d' + 1 ∧ ∀ l, Gd l → Pst (f l) (okCP d')
theorem within_ps (hi : OkI cut d inn) (h : Gd l) {o s : L} (ho : Ps o) (hs : Ps s) : Pst (within cut inn o s l) (fun p => ∃ d', d = d' + 1 ∧ okCP d' p) := by
  unfold within
  cases hinn : inn with
  | none => exact Pst.err
  | some f =>
    obtain ⟨d', e, hf⟩ := hi f hinn
    exact Pst.wnt (want_ps h ho) fun l1 g1 => Pst.thn (hf l1 g1) fun p l2 g2 hp => Pst.wnt (want_ps g2 hs) fun l3 g3 => Pst.ok g3 ⟨d', e, hp⟩
theorem preds_ps (hi : OkI cut d inn) : ∀ (f : Nat) (l : L), Gd l → Pst (preds cut inn f l) (fun ps => okPs d (Prds.of ps))
  | 0, l, h => Pst.ok h (by rw [Prds.of, okPs.eq_def]; trivial)
  | f + 1, l, h => by
    rw [preds]
    split
    · refine Pst.thn (within_ps hi h ps91 ps93) fun p l1 g1 hp => Pst.thn (preds_ps hi f l1 g1) fun ps l2 g2 hps => Pst.ok g2 ?_
      obtain ⟨d', rfl, hp⟩ := hp
      rw [Prds.of, okPs.eq_def]
      exact ⟨hp, hps⟩
    · exact Pst.ok h (by rw [Prds.of, okPs.eq_def]; trivial)
theorem step_ps (hi : OkI cut d inn) (dp : Bool) (h : Gd l) : Pst (step cut inn dp l) (fun s => TestOk s.test ∧ okPs d s.preds) := by
  unfold step
  exact Pst.thn (test_ps h) fun t l1 g1 ht => Pst.thn (preds_ps hi _ l1 g1) fun ps l2 g2 hps => Pst.ok g2 ⟨ht, hps⟩
theorem slash_ps (h : Gd l) : Pst (slash cut l) (fun _ => True) := by
  unfold slash
  split
  · next hb => exact Pst.ok (gd_pass (p := [47, 47]) h ps4747 hb) trivial
  · exact Pst.wnt (want_ps h ps47) fun l1 g1 => Pst.ok g1 trivial
theorem goes_text {st : Stp} (h : goesOn st l = true) : st.test ≠ [35] := by have := (goes_yes h).1; simpa using this
theorem okS_nil (d : Nat) : okS d .nil := by rw [okS.eq_def]; trivial
theorem okS_cons {d : Nat} {s : Stp} {l : List Stp} (h1 : TestOk s.test ∧ okPs d s.preds) (h2 : okS d (Stps.of l)) (h3 : s.test = [35] → l = []) : okS d (Stps.of (s :: l)) := by
  rw [Stps.of, okS.eq_def]
  exact ⟨h1.1, fun e => by rw [h3 e]; rfl, h1.2, h2⟩
theorem pathMore_ps (hi : OkI cut d inn) : ∀ (f : Nat) (st : Stp) (l : L), Gd l → Pst (pathMore cut inn f st l) (fun ss => okS d (Stps.of ss) ∧ (st.test = [35] → ss = []))
  | 0, st, l, h => Pst.ok h ⟨okS_nil d, fun _ => rfl⟩
  | f + 1, st, l, h => by
    rw [pathMore]
    split
    · next hg => exact Pst.thn (slash_ps h) fun dp l1 g1 _ => Pst.thn (step_ps hi dp g1) fun s l2 g2 hs => Pst.thn (pathMore_ps hi f s l2 g2) fun ss l3 g3 hss => Pst.ok g3 ⟨okS_cons hs hss.1 hss.2, fun e => absurd e (goes_text hg)⟩
    · exact Pst.ok h ⟨okS_nil d, fun _ => rfl⟩
theorem path_ps (hi : OkI cut d inn) (h : Gd l) : Pst (path cut inn l) (fun p => p ≠ [] ∧ okS d (Stps.of p)) := by
  unfold path
  exact Pst.thn (slash_ps h) fun dp l1 g1 _ => Pst.thn (step_ps hi dp g1) fun s l2 g2 hs => Pst.thn (pathMore_ps hi _ s l2 g2) fun ss l3 g3 hss => Pst.ok g3 ⟨by simp, okS_cons hs hss.1 hss.2⟩
theorem attr_ps (h : Gd l) : Pst (attr cut l) NameOk := Pst.wnt (want_ps h ps64) fun l1 g1 => name_ps g1
theorem valMore_ps (hi : OkI cut d inn) : ∀ (f : Nat) (st : Stp) (l : L), Gd l → Pst (valMore cut inn f st l) (fun x => okS d (Stps.of x.1) ∧ (st.test = [35] → x.1 = []) ∧ (x.2 = [] ∨ (NameOk x.2 ∧ st.test ≠ [35] ∧ noT (Stps.of x.1))))
  | 0, st, l, h => Pst.ok h ⟨okS_nil d, fun _ => rfl, Or.inl rfl⟩
  | f + 1, st, l, h => by
    rw [valMore]
    split
    · next hg =>
      refine Pst.thn (slash_ps h) fun dp l1 g1 _ => ?_
      split
      · exact Pst.thn (attr_ps g1) fun a l2 g2 ha => Pst.ok g2 ⟨okS_nil d, fun _ => rfl, Or.inr ⟨ha, goes_text hg, trivial⟩⟩
      · exact Pst.thn (step_ps hi dp g1) fun s l2 g2 hs => Pst.thn (valMore_ps hi f s l2 g2) fun x l3 g3 hx => Pst.ok g3 ⟨okS_cons hs hx.1 hx.2.1, fun e => absurd e (goes_text hg), hx.2.2.imp id fun y => ⟨y.1, goes_text hg, y.2.1, y.2.2⟩⟩
    · exact Pst.ok h ⟨okS_nil d, fun _ => rfl, Or.inl rfl⟩
structure ValOk (d : Nat) (p : Prd) : Prop where
  k : p.kids = .nil
  t : p.text = []
  s : okS d p.steps
  a : p.attr = [] ∨ (NameOk p.attr ∧ noT p.steps)
theorem vsteps_ps (hi : OkI cut d inn) (dp : Bool) (h : Gd l) : Pst (vsteps cut inn dp l) (ValOk d) := by
  unfold vsteps
  exact Pst.thn (step_ps hi dp h) fun s l1 g1 hs => Pst.thn (valMore_ps hi _ s l1 g1) fun x l2 g2 hx => Pst.ok g2 ⟨rfl, rfl, okS_cons hs hx.1 hx.2.1, hx.2.2.imp id fun y => ⟨y.1, y.2⟩⟩
theorem value_ps (hi : OkI cut d inn) (h : Gd l) : Pst (value cut inn l) (ValOk d) := by
  unfold value dot
  split
  · refine Pst.wnt (want_ps h ps46) fun l1 g1 => ?_
    split
    · next hb => exact vsteps_ps hi true (gd_pass (p := [47, 47]) g1 ps4747 hb)
    · exact Pst.ok g1 ⟨rfl, rfl, okS_nil d, Or.inl rfl⟩
  · split
    · exact Pst.thn (attr_ps h) fun a l1 g1 ha => Pst.ok g1 ⟨rfl, rfl, okS_nil d, Or.inr ⟨ha, trivial⟩⟩
    · exact vsteps_ps hi false h
theorem val_ok {d : Nat} {p : Prd} (h : ValOk d p) {o t : L} (ho : (o = wHas ∧ t = []) ∨ ((o = [61] ∨ o = [33, 61]) ∧ TextOk t)) : isJoin o = false ∧ okC d o p.kids p.steps p.attr t := by
  have hj : isJoin o = false := by rcases ho with ⟨rfl, -⟩ | ⟨rfl | rfl, -⟩ <;> decide
  have hn : o ≠ wNot := by rcases ho with ⟨rfl, -⟩ | ⟨rfl | rfl, -⟩ <;> decide
  refine ⟨hj, ?_⟩
  rw [okC.eq_def, if_neg (by rw [hj]; simp), if_neg hn]
  exact ⟨ho, h.k, h.s, h.a⟩
theorem compared_ps {p : Prd} (hp : ValOk d p) (h : Gd l) : Pst (compared cut p l) (fun p' => isJoin p'.op = false ∧ okCP d p') := by
  unfold compared
  split
  · next hb => exact Pst.thn (quoted_ps (gd_pass (p := [61]) h ps61 hb)) fun t l1 g1 ht => Pst.ok g1 (val_ok hp (Or.inr ⟨Or.inl rfl, ht⟩))
  · split
    · next hb => exact Pst.thn (quoted_ps (gd_pass (p := [33, 61]) h ps3361 hb)) fun t l1 g1 ht => Pst.ok g1 (val_ok hp (Or.inr ⟨Or.inr rfl, ht⟩))
    · exact Pst.ok h (val_ok hp (Or.inl ⟨rfl, hp.t⟩))
mutual
theorem upS (d : Nat) (s : Stps) (h : okS d s) : okS (d + 1) s := by
  match s, h with
  | .nil, h => exact okS_nil _
  | .cons dp t p m, h =>
    rw [okS.eq_def] at h ⊢
    simp only at h ⊢
    exact ⟨h.1, h.2.1, upPs d p h.2.2.1, upS d m h.2.2.2⟩
termination_by 3 * SizeOf.sizeOf s
theorem upPs (d : Nat) (p : Prds) (h : okPs d p) : okPs (d + 1) p := by
  match p, h with
  | .nil, h => rw [okPs.eq_def]; trivial
  | .cons o k s a t m, h =>
    rw [okPs.eq_def] at h ⊢
    simp only at h ⊢
    refine ⟨?_, upPs d m h.2⟩
    cases d with
    | zero => exact h.1.elim
    | succ d => exact upC d o k s a t h.1
termination_by 3 * SizeOf.sizeOf p
theorem upC (d : Nat) (o : L) (k : Prds) (s : Stps) (a t : L) (h : okC d o k s a t) : okC (d + 1) o k s a t := by
  rw [okC.eq_def] at h ⊢
  split at h
  · next hj => rw [if_pos hj]; exact ⟨h.1, upKids d o k h.2⟩
  · next hj =>
    rw [if_neg hj]
    split at h
    · next hn =>
      rw [if_pos hn]
      refine ⟨h.1, ?_⟩
      cases d with
      | zero => exact h.2.elim
      | succ d => exact upHead d k h.2
    · next hn => rw [if_neg hn]; exact ⟨h.1, h.2.1, upS d s h.2.2.1, h.2.2.2⟩
termination_by 3 * (SizeOf.sizeOf k + SizeOf.sizeOf s) + 1
theorem upHead (d : Nat) (p : Prds) (h : okHead d p) : okHead (d + 1) p := by
  match p, h with
  | .nil, h => rw [okHead.eq_def] at h; exact h.elim
  | .cons o k s a t m, h =>
    rw [okHead.eq_def] at h ⊢
    exact upC d o k s a t h
termination_by 3 * SizeOf.sizeOf p
theorem upKids (d : Nat) (op : L) (p : Prds) (h : okKids d op p) : okKids (d + 1) op p := by
  match p, h with
  | .nil, h => rw [okKids.eq_def]; trivial
  | .cons o k s a t m, h =>
    rw [okKids.eq_def] at h ⊢
    simp only at h ⊢
    refine ⟨?_, upKids d op m h.2⟩
    have h1 := h.1
    rw [okKid.eq_def] at h1 ⊢
    split at h1
    · next hb =>
      rw [if_pos hb]
      cases d with
      | zero => exact h1.elim
      | succ d => exact upC d o k s a t h1
    · next hb => rw [if_neg hb]; exact upC d o k s a t h1
termination_by 3 * SizeOf.sizeOf p
end
theorem kid_of {op : L} {p : Prd} (hb : ∃ d', d = d' + 1 ∧ okCP d' p) : okKP d op p := by
  obtain ⟨d', rfl, h⟩ := hb
  unfold okKP
  rw [okKid.eq_def]
  split
  · exact h
  · exact upC _ _ _ _ _ _ h
theorem kid_of2 {op : L} {p : Prd} (hn : isJoin p.op = false) (h : okCP d p) : okKP d op p := by
  unfold okKP
  rw [okKid.eq_def, if_neg]
  · exact h
  · simp [isJoin] at hn
    rintro (x | x)
    · exact hn.1 x
    · exact hn.2 x.1
theorem kid_or {p : Prd} (h : okKP d wAnd p) : okKP d wOr p := by
  unfold okKP at *
  rw [okKid.eq_def] at h
  split at h
  · cases d with
    | zero => exact h.elim
    | succ d => exact kid_of ⟨d, rfl, h⟩
  · next hb =>
    rw [okKid.eq_def, if_neg]
    · exact h
    · rintro (x | x)
      · exact hb (Or.inl x)
      · exact absurd x.2 (by decide)
theorem kid_cond {op : L} {p : Prd} (h : okKP d op p) : okCP d p := by
  unfold okKP at h
  rw [okKid.eq_def] at h
  split at h
  · cases d with
    | zero => exact h.elim
    | succ d => exact upC _ _ _ _ _ _ h
  · exact h
theorem one_ps (hi : OkI cut d inn) (h : Gd l) : Pst (one cut inn l) (okKP d wAnd) := by
  unfold one
  split
  · refine Pst.wnt (want_ps h wdNot.ps) fun l1 g1 => Pst.thn (within_ps hi g1 ps40 ps41) fun p l2 g2 hp => Pst.ok g2 ?_
    obtain ⟨d', rfl, hp⟩ := hp
    refine kid_of2 rfl ?_
    show okC (d' + 1) wNot (Prds.of [p]) .nil [] []
    rw [okC.eq_def, if_neg (by decide), if_pos rfl]
    refine ⟨⟨rfl, rfl, rfl, rfl⟩, ?_⟩
    show okHead d' (Prds.of [p])
    rw [Prds.of, okHead.eq_def]
    exact hp
  · split
    · exact (within_ps hi h ps40 ps41).mono fun p hp => kid_of hp
    · exact Pst.thn (value_ps hi h) fun p l1 g1 hp => (compared_ps hp g1).mono fun p' h' => kid_of2 h'.1 h'.2
theorem joinMore_ps {word : L} {read : L → Rs Prd} {φ : Prd → Prop} (hw : Wd word) (hr : ∀ l, Gd l → Pst (read l) φ) : ∀ (f : Nat) (l : L), Gd l → Pst (joinMore word read f l) (fun ps => ∀ p ∈ ps, φ p)
  | 0, l, h => Pst.ok h (fun p hp => by simp at hp)
  | f + 1, l, h => by
    rw [joinMore]
    split
    · next hb =>
      refine Pst.thn (hr _ (gd_pass h hw.ps hb)) fun p l1 g1 hp => Pst.thn (joinMore_ps hw hr f l1 g1) fun ps l2 g2 hps => Pst.ok g2 fun q hq => ?_
      rcases List.mem_cons.1 hq with rfl | hq
      · exact hp
      · exact hps q hq
    · exact Pst.ok h (fun p hp => by simp at hp)
theorem kids_of {op : L} : ∀ (l : List Prd), (∀ p ∈ l, okKP d op p) → okKids d op (Prds.of l)
  | [], h => by rw [Prds.of, okKids.eq_def]; trivial
  | p :: l, h => by
    rw [Prds.of, okKids.eq_def]
    exact ⟨h p List.mem_cons_self, kids_of l (fun q hq => h q (List.mem_cons_of_mem _ hq))⟩
theorem len_of : ∀ (l : List Prd), (Prds.of l).len = l.length
  | [] => rfl
  | p :: l => by rw [Prds.of, Prds.len, len_of l]; rfl
theorem joined_ps {word : L} {read : L → Rs Prd} (hw : Wd word) (hj : isJoin word = true) (hr : ∀ l, Gd l → Pst (read l) (okKP d word)) (h : Gd l) : Pst (joined word read l) (fun p => okKP d word p ∨ (p.op = word ∧ okCP d p)) := by
  unfold joined
  refine Pst.thn (hr l h) fun p l1 g1 hp => ?_
  split
  · next hb =>
    intro q l2 e
    cases hm : joinMore word read (l1.length + 1) l1 with
    | error y => rw [hm] at e; cases e
    | ok y =>
      obtain ⟨ps, l3⟩ := y
      obtain ⟨g3, hps⟩ := joinMore_ps hw hr _ l1 g1 ps l3 hm
      have hne := joinMore_ne hb hm
      rw [hm] at e
      cases e
      refine ⟨g3, Or.inr ⟨rfl, ?_⟩⟩
      unfold okCP
      rw [okC.eq_def, if_pos hj]
      refine ⟨⟨?_, rfl, rfl, rfl⟩, ?_⟩
      · show 2 ≤ (Prds.of (p :: ps)).len
        rw [len_of]
        cases ps with
        | nil => exact absurd rfl hne
        | cons a b => simp
      · exact kids_of (p :: ps) fun q hq => by
          rcases List.mem_cons.1 hq with rfl | hq
          · exact hp
          · exact hps q hq
  · exact Pst.ok g1 (Or.inl hp)
theorem both_ps (hi : OkI cut d inn) (h : Gd l) : Pst (both cut inn l) (okKP d wOr) :=
  (joined_ps wdAnd (by decide) (fun l g => one_ps hi g) h).mono fun p hp => by
    rcases hp with hp | ⟨e, hp⟩
    · exact kid_or hp
    · unfold okKP
      rw [okKid.eq_def, if_neg (by rw [e]; decide)]
      exact hp
theorem cond_ps (hi : OkI cut d inn) (h : Gd l) : Pst (cond cut inn l) (okCP d) :=
  (joined_ps wdOr (by decide) (fun l g => both_ps hi g) h).mono fun p hp => by
    rcases hp with hp | ⟨e, hp⟩
    · exact kid_cond hp
    · exact hp
theorem inAt_ps (cut : Bool) : ∀ d, OkI cut d (inAt cut d)
  | 0 => fun f e => (by cases e)
  | d + 1 => fun f e => by
    cases e
    refine ⟨d, rfl, fun l g => ?_⟩
    rw [condAt_eq]
    exact cond_ps (inAt_ps cut d) g
theorem pathsMore_ps : ∀ (f : Nat) (l : L), Gd l → Pst (pathsMore cut f l) (fun ls => ∀ p ∈ ls, p ≠ [] ∧ okS 8 (Stps.of p))
  | 0, l, h => Pst.ok h (fun p hp => by simp at hp)
  | f + 1, l, h => by
    rw [pathsMore]
    split
    · next hb =>
      have hg : Gd (pass 1 l) := by
        have hl := part_app hb
        have hg := h
        rw [hl] at hg
        exact gd_skip (gd_cons hg (by decide))
      refine Pst.thn (path_ps (inAt_ps cut 8) hg) fun p l1 g1 hp => Pst.thn (pathsMore_ps f l1 g1) fun ps l2 g2 hps => Pst.ok g2 fun q hq => ?_
      rcases List.mem_cons.1 hq with rfl | hq
      · exact hp
      · exact hps q hq
    · exact Pst.ok h (fun p hp => by simp at hp)
theorem parse_okQ {q : L} {ls : List (List Stp)} (h : parse q = .ok ls) : okQ ls := by
  unfold parse at h
  split at h
  · cases h
  · cases hq : query (isCut q) (cutAt q) with
    | error y => rw [hq] at h; cases h
    | ok y =>
      obtain ⟨l1, r1⟩ := y
      rw [hq] at h
      cases h
      have : Pst (query (isCut q) (cutAt q)) okQ := by
        unfold query
        refine Pst.thn (path_ps (inAt_ps _ 8) (gd_skip (cut_good q))) fun p l1 g1 hp => Pst.thn (pathsMore_ps _ l1 g1) fun ps l2 g2 hps => ?_
        split
        · refine Pst.ok g2 ⟨by simp, fun x hx => ?_⟩
          rcases List.mem_cons.1 hx with rfl | hx
          · exact hp
          · exact hps x hx
        · exact Pst.err
      exact (this _ _ hq).2
end Go.Proofs.YtoahlnmhjinneaaGreatDoor

set_option linter.unusedSimpArgs false
set_option linter.unusedVariables false
namespace Go.Proofs.YtoahlnmhjinneaaGreatDoor
open Go

variable {l l' r : L} {c : UInt8} {cut : Bool} {α β : Type} {inn : Option (L → Rs Prd)}
def Ln (l : L) (x : Rs α) (m : α → Nat) : Prop := ∀ a l', x = .ok (a, l') → m a + 2 * l'.length ≤ 2 * l.length
def LnW (l : L) (k : Nat) (x : Except (Nat × Nat) L) : Prop := ∀ l', x = .ok l' → k + 2 * l'.length ≤ 2 * l.length
theorem Ln.ok {a : α} {m : α → Nat} (h : m a + 2 * l'.length ≤ 2 * l.length) : Ln l (.ok (a, l')) m := fun b l2 e => by cases e; exact h
theorem Ln.err {e : Nat × Nat} {m : α → Nat} : Ln l (.error e) m := fun b l2 e => by cases e
theorem Ln.thn {x : Rs α} {f : α → L → Rs β} {m : α → Nat} {n : β → Nat} (h : Ln l x m) (hf : ∀ a l1, m a + 2 * l1.length ≤ 2 * l.length → Ln l (f a l1) n) : Ln l (thn x f) n := fun b l2 e => by
  cases hx : x with
  | error y => rw [hx] at e; cases e
  | ok y =>
    obtain ⟨a, l1⟩ := y
    rw [hx] at e
    exact hf a l1 (h a l1 hx) b l2 e
theorem Ln.wnt {x : Except (Nat × Nat) L} {f : L → Rs β} {k : Nat} {n : β → Nat} (h : LnW l k x) (hf : ∀ l1, k + 2 * l1.length ≤ 2 * l.length → Ln l (f l1) n) : Ln l (wnt x f) n := fun b l2 e => by
  cases hx : x with
  | error y => rw [hx] at e; cases e
  | ok l1 => rw [hx] at e; exact hf l1 (h l1 hx) b l2 e
theorem Ln.at {x : Rs α} {m : α → Nat} {n : α → Nat} {l1 : L} {k : Nat} (h : Ln l1 x m) (hk : k + 2 * l1.length ≤ 2 * l.length) (hn : ∀ a, n a ≤ k + m a) : Ln l x n := fun a l' e => by
  have := h a l' e
  have := hn a
  omega
theorem LnW.at {x : Except (Nat × Nat) L} {l1 : L} {k j : Nat} (h : LnW l1 j x) (hk : k + 2 * l1.length ≤ 2 * l.length) : LnW l (k + j) x := fun l' e => by have := h l' e; omega
theorem pass_len {n : Nat} (h : n ≤ l.length) : n + (pass n l).length ≤ l.length := by
  have := skip_le (l.drop n)
  unfold pass
  rw [List.length_drop] at this
  omega
theorem want_ln (p : L) : LnW l (2 * p.length) (want cut p l) := fun l' e => by
  unfold want at e
  split at e
  · next hb => cases e; have := pass_len (part_le hb); omega
  · cases e
theorem name_ln : Ln l (name cut l) (fun t => 2 * t.length) := by
  unfold name
  split
  · exact Ln.err
  · have h := nmq_le l
    have := pass_len h
    refine Ln.ok ?_
    rw [List.length_take]
    omega
theorem name_ne {t : L} (h : name cut l = .ok (t, l')) : t ≠ [35] := by
  unfold name at h
  split at h
  · cases h
  · next hn =>
    cases h
    intro e
    cases l with
    | nil => simp at e
    | cons b r =>
      have hk : nm (b :: r) ≠ 0 := fun e => hn (Or.inl e)
      obtain ⟨k, hk2⟩ : ∃ k, nm (b :: r) = k + 1 := ⟨nm (b :: r) - 1, by omega⟩
      rw [hk2, List.take_succ_cons] at e
      have hb : b = 35 := by simpa using (List.cons.inj e).1
      subst hb
      exact hk (nm_sign (by decide) (by decide) r)
theorem test_ln : Ln l (test cut l) (fun t => (testOf t).length) := by
  unfold test
  split
  · next hb =>
    have := pass_len (part_le hb)
    refine Ln.ok ?_
    have e : (testOf [42]).length = 1 := rfl
    simp only [List.length_singleton] at this
    omega
  · split
    · refine Ln.wnt (want_ln wText) fun l1 h1 => Ln.wnt ((want_ln [40]).at h1) fun l2 h2 => Ln.wnt ((want_ln [41]).at h2) fun l3 h3 => Ln.ok ?_
      have e : (testOf [35]).length = 6 := rfl
      simp at h3
      omega
    · intro t l' e
      have h1 := name_ln t l' e
      have h2 : testOf t = t := by unfold testOf; rw [if_neg (name_ne e)]
      show (testOf t).length + _ ≤ _
      rw [h2]
      simp only at h1
      omega
theorem quotedBy_ln (hc : part l = [c]) : Ln l (quotedBy cut c l) (fun t => t.length + 2) := by
  obtain ⟨m, hm⟩ : ∃ m, l = c :: m := ⟨_, part_app hc⟩
  unfold quotedBy
  split
  · next h =>
    have e2 : l.drop 1 = m := by rw [hm]; rfl
    rw [e2] at h
    have hmem : c ∈ m := by simpa using h
    obtain ⟨-, h2⟩ := while_ex hmem []
    have e3 : quoteOf c l = m.takeWhile (· != c) := by unfold quoteOf; rw [e2]
    refine Ln.ok ?_
    rw [e3]
    have := pass_len (n := (m.takeWhile (· != c)).length + 2) (l := l) (by rw [hm]; simp; omega)
    omega
  · exact Ln.err
theorem quoted_ln : Ln l (quoted cut l) (fun t => t.length + 2) := by
  unfold quoted
  split
  · next h => exact quotedBy_ln h
  · split
    · next h => exact quotedBy_ln h
    · exact Ln.err
def lenC (p : Prd) : Nat := (wCond p.op p.kids p.steps p.attr p.text).length
def lenK (p : Prd) : Nat := lenC p + (if isJoin p.op = true then 2 else 0)
theorem wKid_len (op : L) (p : Prd) : (wKid op p.op p.kids p.steps p.attr p.text).length ≤ lenK p := by
  unfold lenK lenC
  rw [wKid.eq_def]
  split
  · next hb =>
    have : isJoin p.op = true := by rcases hb with e | e; rw [e]; decide; rw [e.1]; decide
    rw [if_pos this]; simp
  · omega
def LnI (inn : Option (L → Rs Prd)) : Prop := ∀ f, inn = some f → ∀ l, Ln l (f l) lenC
theorem within_ln (hi : LnI inn) (o s : L) : Ln l (within cut inn o s l) (fun p => lenC p + 2 * o.length + 2 * s.length) := by
  unfold within
  cases hinn : inn with
  | none => exact Ln.err
  | some f =>
    refine Ln.wnt (want_ln o) fun l1 h1 => ?_
    refine Ln.thn (m := fun p => 2 * o.length + lenC p) (Ln.at (hi f hinn l1) h1 (fun _ => Nat.le_refl _)) fun p l2 h2 => ?_
    refine Ln.wnt ((want_ln s).at h2) fun l3 h3 => Ln.ok ?_
    omega
theorem preds_ln (hi : LnI inn) : ∀ (f : Nat) (l : L), Ln l (preds cut inn f l) (fun ps => (wPreds (Prds.of ps)).length)
  | 0, l => Ln.ok (by simp [Prds.of, wPreds])
  | f + 1, l => by
    rw [preds]
    split
    · refine Ln.thn (within_ln hi [91] [93]) fun p l1 h1 => ?_
      refine Ln.thn (m := fun ps => lenC p + 4 + (wPreds (Prds.of ps)).length) (Ln.at (preds_ln hi f l1) (k := lenC p + 4) (by simp at h1; omega) (fun _ => Nat.le_refl _)) fun ps l2 h2 => Ln.ok ?_
      rw [Prds.of, wPreds]
      simp only [List.length_cons, List.length_append] at h2 ⊢
      unfold lenC at h2
      omega
    · exact Ln.ok (by simp [Prds.of, wPreds])
def lenS (s : Stp) : Nat := (testOf s.test).length + (wPreds s.preds).length
theorem step_ln (hi : LnI inn) (dp : Bool) : Ln l (step cut inn dp l) lenS := by
  unfold step
  refine Ln.thn test_ln fun t l1 h1 => ?_
  refine Ln.thn (m := fun ps => (testOf t).length + (wPreds (Prds.of ps)).length) (Ln.at (preds_ln hi _ l1) h1 (fun _ => Nat.le_refl _)) fun ps l2 h2 => Ln.ok ?_
  unfold lenS
  exact h2
theorem slash_ln : Ln l (slash cut l) (fun d => (slashOf d).length) := by
  unfold slash
  split
  · next hb =>
    have : 2 + (pass 2 l).length ≤ l.length := pass_len (part_le hb)
    refine Ln.ok ?_
    have e : (slashOf true).length = 2 := rfl
    omega
  · refine Ln.wnt (want_ln [47]) fun l1 h1 => Ln.ok ?_
    have e : (slashOf false).length = 1 := rfl
    simp at h1
    omega
theorem wSteps_len (s : Stp) (l : List Stp) : (wSteps (Stps.of (s :: l))).length = (slashOf s.deep).length + lenS s + (wSteps (Stps.of l)).length := by
  rw [Stps.of, wSteps]
  unfold lenS
  simp only [List.length_append]
  omega
theorem step_deep {dp : Bool} {s : Stp} (h : step cut inn dp l = .ok (s, l')) : s.deep = dp := by
  unfold step at h
  cases ht : test cut l with
  | error y => rw [ht] at h; cases h
  | ok y =>
    obtain ⟨t, l1⟩ := y
    rw [ht] at h
    simp only [thn] at h
    cases hp : preds cut inn (l1.length + 1) l1 with
    | error y => rw [hp] at h; cases h
    | ok y => rw [hp] at h; cases h; rfl
theorem stepD_ln (hi : LnI inn) (dp : Bool) {k : Nat} {l0 : L} (hk : k + (slashOf dp).length + 2 * l.length ≤ 2 * l0.length) : Ln l0 (step cut inn dp l) (fun s => k + (slashOf s.deep).length + lenS s) := fun s l' e => by
  have h1 := step_ln hi dp s l' e
  show k + (slashOf s.deep).length + lenS s + _ ≤ _
  rw [step_deep e]
  omega
theorem pathMore_ln (hi : LnI inn) : ∀ (f : Nat) (st : Stp) (l : L), Ln l (pathMore cut inn f st l) (fun ss => (wSteps (Stps.of ss)).length)
  | 0, st, l => Ln.ok (by simp [Stps.of, wSteps])
  | f + 1, st, l => by
    rw [pathMore]
    split
    · refine Ln.thn slash_ln fun dp l1 h1 => Ln.thn (stepD_ln hi dp (k := 0) (by omega)) fun s l2 h2 => ?_
      refine Ln.thn (m := fun ss => (slashOf s.deep).length + lenS s + (wSteps (Stps.of ss)).length) (Ln.at (pathMore_ln hi f s l2) (k := (slashOf s.deep).length + lenS s) (by omega) (fun _ => Nat.le_refl _)) fun ss l3 h3 => Ln.ok ?_
      rw [wSteps_len]; exact h3
    · exact Ln.ok (by simp [Stps.of, wSteps])
theorem path_ln (hi : LnI inn) : Ln l (path cut inn l) (fun p => (wSteps (Stps.of p)).length) := by
  unfold path
  refine Ln.thn slash_ln fun dp l1 h1 => Ln.thn (stepD_ln hi dp (k := 0) (by omega)) fun s l2 h2 => ?_
  refine Ln.thn (m := fun ss => (slashOf s.deep).length + lenS s + (wSteps (Stps.of ss)).length) (Ln.at (pathMore_ln hi _ s l2) (k := (slashOf s.deep).length + lenS s) (by omega) (fun _ => Nat.le_refl _)) fun ss l3 h3 => Ln.ok ?_
  rw [wSteps_len]; exact h3
theorem attr_ln : Ln l (attr cut l) (fun a => a.length + 2) := by
  unfold attr
  refine Ln.wnt (want_ln [64]) fun l1 h1 => ?_
  exact Ln.at name_ln h1 (fun a => by simp; omega)
def lenA (a : L) : Nat := if a = [] then 0 else a.length + 2
theorem lenA_le (a : L) : lenA a ≤ a.length + 2 := by unfold lenA; split <;> omega
theorem valMore_ln (hi : LnI inn) : ∀ (f : Nat) (st : Stp) (l : L), Ln l (valMore cut inn f st l) (fun x => (wSteps (Stps.of x.1)).length + lenA x.2)
  | 0, st, l => Ln.ok (by simp [Stps.of, wSteps, lenA])
  | f + 1, st, l => by
    rw [valMore]
    split
    · refine Ln.thn slash_ln fun dp l1 h1 => ?_
      split
      · refine Ln.thn (m := fun a => a.length + 2) (Ln.at attr_ln h1 (fun _ => by omega)) fun a l2 h2 => Ln.ok ?_
        have := lenA_le a
        simp [Stps.of, wSteps]
        omega
      · refine Ln.thn (stepD_ln hi dp (k := 0) (by omega)) fun s l2 h2 => ?_
        refine Ln.thn (m := fun x => (slashOf s.deep).length + lenS s + ((wSteps (Stps.of x.1)).length + lenA x.2)) (Ln.at (valMore_ln hi f s l2) (k := (slashOf s.deep).length + lenS s) (by omega) (fun _ => Nat.le_refl _)) fun x l3 h3 => Ln.ok ?_
        simp only
        rw [wSteps_len]; omega
    · exact Ln.ok (by simp [Stps.of, wSteps, lenA])
def lenV (p : Prd) : Nat := (wInner p.steps ++ attrOf p.steps p.attr).length
theorem inner_len (s : Stp) (l : List Stp) (a : L) : (wInner (Stps.of (s :: l)) ++ attrOf (Stps.of (s :: l)) a).length ≤ 3 * (if s.deep = true then 1 else 0) + lenS s + (wSteps (Stps.of l)).length + lenA a := by
  rw [Stps.of, wInner]
  unfold attrOf lenS lenA
  simp only [List.length_append]
  split <;> split <;> simp_all <;> omega
theorem vsteps_ln (hi : LnI inn) (dp : Bool) {l0 : L} {k : Nat} (hk : k + 2 * l.length ≤ 2 * l0.length) (hd : dp = true → 3 ≤ k) : Ln l0 (vsteps cut inn dp l) lenV := by
  unfold vsteps
  intro p l' e
  cases hs : step cut inn dp l with
  | error y => rw [hs] at e; cases e
  | ok y =>
    obtain ⟨s, l1⟩ := y
    have h1 := step_ln hi dp s l1 hs
    have hdp := step_deep hs
    rw [hs] at e
    simp only [thn] at e
    cases hv : valMore cut inn (l1.length + 1) s l1 with
    | error y => rw [hv] at e; cases e
    | ok y =>
      obtain ⟨x, l2⟩ := y
      have h2 := valMore_ln hi _ s l1 x l2 hv
      rw [hv] at e
      cases e
      have h3 := inner_len s x.1 x.2
      unfold lenV
      simp only at h2 ⊢
      rw [hdp] at h3
      cases dp with
      | true => have := hd rfl; simp at h3; simp; omega
      | false => simp at h3; simp; omega
theorem value_ln (hi : LnI inn) : Ln l (value cut inn l) lenV := by
  unfold value dot
  split
  · refine Ln.wnt (want_ln [46]) fun l1 h1 => ?_
    split
    · next hb =>
      have := pass_len (part_le hb)
      simp at this h1
      exact vsteps_ln hi true (k := 6) (by omega) (fun _ => by omega)
    · refine Ln.ok ?_
      simp [lenV, wInner, attrOf] at *
      omega
  · split
    · refine Ln.thn attr_ln fun a l1 h1 => Ln.ok ?_
      have : lenV ⟨[], .nil, .nil, a, []⟩ ≤ a.length + 2 := by
        unfold lenV attrOf
        rw [wInner]
        simp only [List.nil_append]
        split <;> simp <;> omega
      omega
    · exact vsteps_ln hi false (k := 0) (by omega) (fun h => by cases h)
theorem cond_len {o : L} {s : Stps} {a t : L} {k : Prds} (hj : isJoin o = false) (hn : o ≠ wNot) : (wCond o k s a t).length = (wInner s ++ attrOf s a).length + (cmpOf o t).length := by
  rw [wCond.eq_def, if_neg (by rw [hj]; simp), if_neg hn]
  simp only [List.length_append]
  omega
theorem compared_ln (p : Prd) {l0 : L} (hk : lenV p + 2 * l.length ≤ 2 * l0.length) : Ln l0 (compared cut p l) lenK := by
  unfold compared
  split
  · next hb =>
    have := pass_len (part_le hb)
    simp at this
    refine Ln.thn (m := fun t => lenV p + (t.length + 4)) (Ln.at quoted_ln (k := lenV p + 2) (by omega) (fun t => by omega)) fun t l1 h1 => Ln.ok ?_
    unfold lenK lenC
    simp only
    rw [cond_len (by decide) (by decide), if_neg (by decide)]
    have : (cmpOf [61] t).length ≤ t.length + 3 := by unfold cmpOf; rw [if_neg (by decide)]; simp
    unfold lenV at h1
    omega
  · split
    · next hb =>
      have := pass_len (part_le hb)
      simp at this
      refine Ln.thn (m := fun t => lenV p + (t.length + 6)) (Ln.at quoted_ln (k := lenV p + 4) (by omega) (fun t => by omega)) fun t l1 h1 => Ln.ok ?_
      unfold lenK lenC
      simp only
      rw [cond_len (by decide) (by decide), if_neg (by decide)]
      have : (cmpOf [33, 61] t).length ≤ t.length + 4 := by unfold cmpOf; rw [if_neg (by decide)]; simp
      unfold lenV at h1
      omega
    · refine Ln.ok ?_
      unfold lenK lenC
      simp only
      rw [cond_len (by decide) (by decide), if_neg (by decide)]
      have : (cmpOf wHas p.text).length = 0 := by unfold cmpOf; rw [if_pos rfl]; rfl
      unfold lenV at hk
      omega
theorem one_ln (hi : LnI inn) : Ln l (one cut inn l) lenK := by
  unfold one
  split
  · refine Ln.wnt (want_ln wNot) fun l1 h1 => ?_
    refine Ln.thn (m := fun p => 10 + lenC p) (Ln.at (within_ln hi [40] [41]) h1 (fun p => by simp; omega)) fun p l2 h2 => Ln.ok ?_
    have : lenK ⟨wNot, Prds.of [p], .nil, [], []⟩ = lenC p + 5 := by
      unfold lenK lenC
      simp only
      rw [if_neg (by decide), wCond.eq_def, if_neg (by decide), if_pos rfl, Prds.of, wHead]
      simp
    omega
  · split
    · exact Ln.at (within_ln hi [40] [41]) (k := 0) (by omega) (fun p => by unfold lenK; simp only [List.length_singleton]; split <;> omega)
    · exact Ln.thn (value_ln hi) fun p l1 h1 => compared_ln p h1
end Go.Proofs.YtoahlnmhjinneaaGreatDoor

set_option linter.unusedSimpArgs false
set_option linter.unusedVariables false
namespace Go.Proofs.YtoahlnmhjinneaaGreatDoor
open Go
variable {l l' r : L} {c : UInt8} {cut : Bool} {α β : Type} {inn : Option (L → Rs Prd)}
def lenKid (op : L) (p : Prd) : Nat := (wKid op p.op p.kids p.steps p.attr p.text).length
theorem Ln.le {x : Rs α} {m n : α → Nat} (h : Ln l x m) (hn : ∀ a, n a ≤ m a) : Ln l x n := fun a l' e => by have := h a l' e; have := hn a; omega
theorem lenC_kid (op : L) (p : Prd) : lenC p ≤ lenKid op p := by unfold lenC lenKid; rw [wKid.eq_def]; split <;> simp <;> omega
theorem kid_le (p : Prd) : lenKid wOr p ≤ lenKid wAnd p := by
  unfold lenKid
  rw [wKid.eq_def, wKid.eq_def]
  by_cases h1 : p.op = wOr
  · rw [if_pos (Or.inl h1), if_pos (Or.inl h1)]; exact Nat.le_refl _
  · rw [if_neg (by rintro (x | x); exact h1 x; exact absurd x.2 (by decide))]
    split <;> simp <;> omega
def lenM (word : L) : List Prd → Nat
  | [] => 0
  | p :: l => word.length + 2 + lenKid word p + lenM word l
theorem wMore_len (word : L) : ∀ ps : List Prd, (wMore word (Prds.of ps)).length = lenM word ps
  | [] => by rw [Prds.of, wMore]; rfl
  | p :: l => by
    rw [Prds.of, wMore, lenM, ← wMore_len word l]
    unfold lenKid
    simp only [List.length_cons, List.length_append]
    omega
theorem joinMore_ln {word : L} {read : L → Rs Prd} (hw : Wd word) (hr : ∀ l, Ln l (read l) (lenKid word)) : ∀ (f : Nat) (l : L), Ln l (joinMore word read f l) (lenM word)
  | 0, l => Ln.ok (by simp [lenM])
  | f + 1, l => by
    rw [joinMore]
    split
    · next hb =>
      have := pass_len (part_le hb)
      have h2 := hw.two
      refine Ln.thn (m := fun p => word.length + 2 + lenKid word p) (Ln.at (hr _) (k := word.length + 2) (by omega) (fun _ => Nat.le_refl _)) fun p l1 h1 => ?_
      refine Ln.thn (m := fun ps => word.length + 2 + lenKid word p + lenM word ps) (Ln.at (joinMore_ln hw hr f l1) h1 (fun _ => Nat.le_refl _)) fun ps l2 h2 => Ln.ok h2
    · exact Ln.ok (by simp [lenM])
theorem joined_ln {word : L} {read : L → Rs Prd} (hw : Wd word) (hj : isJoin word = true) (hr : ∀ l, Ln l (read l) (lenKid word)) : Ln l (joined word read l) (fun p => if p.op = word then lenC p else lenKid word p) := by
  unfold joined
  refine Ln.thn (hr l) fun p l1 h1 => ?_
  split
  · refine Ln.thn (m := fun ps => lenKid word p + lenM word ps) (Ln.at (joinMore_ln hw hr _ l1) h1 (fun _ => Nat.le_refl _)) fun ps l2 h2 => Ln.ok ?_
    have : lenC ⟨word, Prds.of (p :: ps), .nil, [], []⟩ = lenKid word p + lenM word ps := by
      unfold lenC
      simp only
      rw [wCond.eq_def, if_pos hj, Prds.of, wKids, List.length_append, wMore_len]
      rfl
    simp only [if_true]
    omega
  · refine Ln.ok ?_
    have := lenC_kid word p
    split <;> omega
theorem both_ln (hi : LnI inn) : Ln l (both cut inn l) (lenKid wOr) := by
  refine (joined_ln (l := l) wdAnd (by decide) (fun l => (one_ln (cut := cut) hi).le fun p => wKid_len wAnd p)).le fun p => ?_
  split
  · next ho =>
    have : lenKid wOr p = lenC p := by
      unfold lenKid lenC
      rw [wKid.eq_def, if_neg (by rw [ho]; decide)]
    omega
  · exact kid_le p
theorem cond_ln (hi : LnI inn) : Ln l (cond cut inn l) lenC := by
  refine (joined_ln (l := l) wdOr (by decide) (fun l => both_ln (cut := cut) hi)).le fun p => ?_
  split
  · exact Nat.le_refl _
  · exact lenC_kid wOr p
theorem inAt_ln (cut : Bool) : ∀ d, LnI (inAt cut d)
  | 0 => fun f e => (by cases e)
  | d + 1 => fun f e => by
    cases e
    intro l
    rw [condAt_eq]
    exact cond_ln (inAt_ln cut d)
theorem pathsMore_ln : ∀ (f : Nat) (l : L), Ln l (pathsMore cut f l) (fun ls => (plainT ls).length)
  | 0, l => Ln.ok (by simp [plainT])
  | f + 1, l => by
    rw [pathsMore]
    split
    · next hb =>
      have : 1 + (pass 1 l).length ≤ l.length := pass_len (part_le hb)
      refine Ln.thn (m := fun p => 1 + (wSteps (Stps.of p)).length) (Ln.at (path_ln (inAt_ln cut 8)) (k := 1) (by omega) (fun _ => Nat.le_refl _)) fun p l1 h1 => ?_
      refine Ln.thn (m := fun ps => 1 + (wSteps (Stps.of p)).length + (plainT ps).length) (Ln.at (pathsMore_ln f l1) h1 (fun _ => Nat.le_refl _)) fun ps l2 h2 => Ln.ok ?_
      rw [plainT]
      simp only [List.length_cons, List.length_append]
      omega
    · exact Ln.ok (by simp [plainT])
theorem plain_len {q : L} {ls : List (List Stp)} (h : parse q = .ok ls) : (plainQ ls).length ≤ 1000 := by
  unfold parse at h
  split at h
  · cases h
  · next h5 =>
    cases hq : query (isCut q) (cutAt q) with
    | error y => rw [hq] at h; cases h
    | ok y =>
      obtain ⟨l1, r1⟩ := y
      rw [hq] at h
      cases h
      have : Ln (cutAt q) (query (isCut q) (cutAt q)) (fun ls => (plainQ ls).length) := by
        unfold query
        have hp := skip_le (cutAt q)
        refine Ln.thn (m := fun p => (wSteps (Stps.of p)).length) (Ln.at (path_ln (inAt_ln (isCut q) 8) (l := pass 0 (cutAt q))) (k := 0) (by unfold pass; simp only [List.drop_zero]; omega) (fun _ => by omega)) fun p l1 h1 => ?_
        refine Ln.thn (m := fun ps => (wSteps (Stps.of p)).length + (plainT ps).length) (Ln.at (pathsMore_ln _ l1) h1 (fun _ => Nat.le_refl _)) fun ps l2 h2 => ?_
        split
        · refine Ln.ok ?_
          rw [plainQ_eq, List.length_append]; omega
        · exact Ln.err
      have h2 := this _ _ hq
      have h3 := badq_le q
      show (plainQ l1).length ≤ 1000
      simp only at h2
      rw [cut_len] at h2
      omega
end Go.Proofs.YtoahlnmhjinneaaGreatDoor
