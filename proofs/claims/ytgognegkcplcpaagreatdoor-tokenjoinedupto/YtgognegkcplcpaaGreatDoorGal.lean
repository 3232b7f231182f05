import Derived.Test.YtgognegkcplcpaaGreatDoorGak
set_option linter.unusedVariables false
set_option linter.unusedSimpArgs false
set_option linter.unusedSimpArgs false
set_option linter.unusedVariables false
namespace Go.Proofs.YtgognegkcplcpaaGreatDoor
open Go.RowKit Go.Lib
variable {g : St → List Tok} {s : ByteArray} {i : Nat} {pt pt' : Part} {st st' : St} {no q c : Int} {x y : Sc}
abbrev Ats := List (List UInt8 × List UInt8)
def Sc.twice (x : Sc) (s : ByteArray) (l : Ats) : Sc := if l.any (fun a => a.1 == (x.name s).2.data.toList) = true then (x.name s).1.fail 5 x.i else (x.name s).1
def Sc.equal (x : Sc) (s : ByteArray) (l : Ats) : Sc := (Sc.mustL s [61] ((x.twice s l).blanks s)).blanks s
def Sc.attr (x : Sc) (s : ByteArray) (l : Ats) : Sc × (List UInt8 × List UInt8) :=
  if (x.equal s l).err = 0 then (((x.equal s l).value s).1, ((x.name s).2.data.toList, ((x.equal s l).value s).2)) else (x.equal s l, ((x.name s).2.data.toList, []))
def attrsF (s : ByteArray) : Nat → Sc → Ats → Sc × Ats
  | 0, x, l => (x, l)
  | f + 1, x, l => if x.skip s = 0 ∨ (x.blanks s).err ≠ 0 ∨ (x.blanks s).is s 47 = true ∨ (x.blanks s).is s 62 = true then (x.blanks s, l) else attrsF s f ((x.blanks s).attr s l).1 (l ++ [((x.blanks s).attr s l).2])
def Sc.attrs (x : Sc) (s : ByteArray) : Sc × Ats := attrsF s (s.size + 2) x []
theorem attrsF_err (he : x.err ≠ 0) (f : Nat) (l : Ats) : attrsF s f x l = (x, l) := by
  cases f with
  | zero => rfl
  | succ f => simp only [attrsF]; rw [blanks_err he, if_pos (Or.inr (Or.inl he))]
structure InA (x : Sc) (st : St) (l : Ats) (nm : List UInt8) (tg : Int) : Prop where
  tag : InTag x st
  attrs : st.attrs = l
  names : st.names = l.map Prod.fst
  value : st.run .value = []
  name : st.run .name = nm
  at_ : st.tagAt = tg
theorem names_any (l : Ats) (n : List UInt8) : (l.map Prod.fst).contains n = l.any (fun a => a.1 == n) := by
  induction l with
  | nil => rfl
  | cons a l ih =>
    simp only [List.map_cons, List.contains_cons, List.any_cons, ih]
    congr 1
    rw [Bool.eq_iff_iff, beq_iff_eq, beq_iff_eq]; exact eq_comm
theorem gap_attrP (st : St) (i : Int) (c : Int) (h : Tk.blank c = true) : stepPart (.plain .attrP) i st c = ⟨st, .go (.plain .attrP)⟩ := by
  simp only [stepPart, step, stAttr]; rw [if_pos h]
theorem gap_equals (st : St) (i : Int) (c : Int) (h : Tk.blank c = true) : stepPart (.plain .equals) i st c = ⟨st, .go (.plain .equals)⟩ := by
  simp only [stepPart, step]; rw [if_pos h]
theorem blank_begins {c : Int} (h : Tk.blank c = true) : ¬ Ch.begins c = true := by
  have := tk_blank h
  rw [Ch.begins_iff]; omega
theorem gap_blanks (st : St) (i : Int) (c : Int) (h : Tk.blank c = true) : stepPart (.plain .blanks) i st c = ⟨st, .go (.plain .blanks)⟩ := by
  simp only [stepPart, step, stPart]; rw [if_neg (blank_begins h), if_pos h]
theorem gap_closing (st : St) (i : Int) (c : Int) (h : Tk.blank c = true) : stepPart (.plain .closing) i st c = ⟨st, .go (.plain .closing)⟩ := by
  simp only [stepPart, step]; rw [if_pos h]
theorem name_yes (he : x.err = 0) (hb : Ch.begins (cur s x.i) = true) : (x.name s).1 = { x with i := nend s x.i } ∧ (x.name s).2.data.toList = Ch.bytes s x.i (nend s x.i - x.i) := by
  obtain ⟨h1, h2⟩ := nlen_yes (s := s) hb
  unfold Sc.name
  rw [if_pos he, if_neg (by omega), h1]
  refine ⟨by simp only [Sc.mk.injEq, and_true]; omega, ?_⟩
  simp only
  rw [bytes_extract]; congr 1; omega
theorem name_no (he : x.err = 0) (hb : ¬ Ch.begins (cur s x.i) = true) : x.name s = (x.wrong s, ⟨#[]⟩) := by
  unfold Sc.name; rw [if_pos he, if_pos (nlen_no hb)]
theorem runs_first (j : Rn) (k : Pl) (p : Nat) (st : St) (hb : Ch.begins (cur s p) = true) : runs g s (p + wid s p) (.name j k) ((st.clear j).put j (cur s p) p) = runs g s (nend s p) (.plain k) (st.setRun j (Ch.bytes s p (nend s p - p)) p) := by
  have h0 : 0 ≤ cur s p := by have := (Ch.begins_iff _).1 hb; omega
  have hc := cur_pos h0
  have hn : inN (cur s p) = true := by unfold inN; rw [hb]; rfl
  have hg := nend_ge s (p + wid s p)
  have e : (st.clear j).put j (cur s p) p = st.setRun j (Ch.bytes s p (wid s p)) p := by
    unfold St.put St.clear
    rw [setRun_twice]
    simp only [St.setRun, if_true]
    rw [enc_cur h0]; simp
  rw [e, runs_name _ _ _ _ (by simp only [St.setRun, if_true]; exact bytes_ne s (by omega) hc.2.2.2.1), setRun_twice, nend_yes hn]
  simp only [St.setRun, if_true]
  rw [bytes_add, show wid s p + (nend s (p + wid s p) - (p + wid s p)) = nend s (p + wid s p) - p by omega]
theorem must_one (he : x.err = 0) {c : UInt8} (hc : 32 ≤ c.toNat ∧ c.toNat < 128) : Sc.mustL s [c] x = if cur s x.i = (c.toNat : Int) then { x with i := x.i + 1 } else x.wrong s := by
  simp only [Sc.mustL]
  rw [if_pos he]
  by_cases h : cur s x.i = (c.toNat : Int)
  · rw [if_pos ((is_cur he (by omega)).2 h), if_pos h]
  · have : ¬ x.is s c.toNat = true := fun e => h ((is_cur he (by omega)).1 e)
    rw [if_neg this, if_neg h]
theorem value_cases (he : x.err = 0) : x.value s = if cur s x.i = 34 ∨ cur s x.i = 39 then
    ({ (valF s (cur s x.i).toNat (s.size + 2) { x with i := x.i + 1 } []).1 with i := (valF s (cur s x.i).toNat (s.size + 2) { x with i := x.i + 1 } []).1.i + 1 }, (valF s (cur s x.i).toNat (s.size + 2) { x with i := x.i + 1 } []).2) else (x.wrong s, []) := by
  have i34 : x.is s 34 = true ↔ cur s x.i = 34 := is_cur he (by omega)
  have i39 : x.is s 39 = true ↔ cur s x.i = 39 := is_cur he (by omega)
  unfold Sc.value
  by_cases h : cur s x.i = 34 ∨ cur s x.i = 39
  · have hb : (s.get! x.i).toNat = (cur s x.i).toNat := by
      rcases h with h | h
      · have := ((cur_byte (s := s) (i := x.i) (c := 34) (by omega)).1 h).2; rw [h, this]; rfl
      · have := ((cur_byte (s := s) (i := x.i) (c := 39) (by omega)).1 h).2; rw [h, this]; rfl
    rw [if_pos h, if_pos (h.imp i34.2 i39.2), hb]
  · rw [if_neg h, if_neg (fun e => h (e.imp i34.1 i39.1))]
theorem runs_attr {l : Ats} {nm : List UInt8} {tg : Int} (he : x.err = 0) (hi : x.i ≤ s.size) (hA : InA x st l nm tg) (hbl : ¬ Tk.blank (cur s x.i) = true) (h47 : ¬ cur s x.i = 47) (h62 : ¬ cur s x.i = 62) :
    ((x.attr s l).1.err = 0 ∧ x.i < (x.attr s l).1.i ∧ (x.attr s l).1.i ≤ s.size ∧ (x.attr s l).1 = { x with i := (x.attr s l).1.i } ∧ ∃ st', InA (x.attr s l).1 st' (l ++ [(x.attr s l).2]) nm tg ∧ runs g s x.i (.plain .blanks) st = runs g s (x.attr s l).1.i (.plain .part) st') ∨
    ((x.attr s l).1.err ≠ 0 ∧ (x.attr s l).1.l = x.l ∧ runs g s x.i (.plain .blanks) st = (x.l, (x.attr s l).1.err, (x.attr s l).1.at_)) := by
  by_cases hb : Ch.begins (cur s x.i) = true
  · obtain ⟨hn1, hn2⟩ := name_yes he hb
    have h0 : 0 ≤ cur s x.i := by have := (Ch.begins_iff _).1 hb; omega
    have hlt := (nlen_yes (s := s) hb).2
    have hle := nend_le hi
    generalize hE : nend s x.i = E at *
    generalize hN : Ch.bytes s x.i (E - x.i) = N at *
    have e1 : stepPart (.plain .blanks) x.i st (cur s x.i) = ⟨(st.clear .attr).put .attr (cur s x.i) x.i, .go (.name .attr .newAttr)⟩ := by
      simp only [stepPart, step, stName1]; rw [if_pos hb, if_pos hb]
    rw [runs_go e1 h0, runs_first .attr .newAttr x.i st hb, hE, hN]
    have hc : st.names.contains N = l.any (fun a => a.1 == N) := by rw [hA.names, names_any]
    by_cases ht : l.any (fun a => a.1 == N) = true
    · have htw : x.twice s l = { x with i := E, err := 5, at_ := x.i } := by
        unfold Sc.twice; rw [hn2, if_pos ht, hn1]; unfold Sc.fail; rw [if_pos he]
      have h5 : (x.twice s l).err ≠ 0 := by rw [htw]; simp
      have heq : x.equal s l = x.twice s l := by unfold Sc.equal; rw [blanks_err h5, mustL_err s _ h5, blanks_err h5]
      have hat : x.attr s l = (x.twice s l, (N, [])) := by unfold Sc.attr; rw [heq, if_neg h5, hn2]
      rw [hat]
      refine Or.inr ⟨h5, by rw [htw], ?_⟩
      have e2 : stepPart (.plain .newAttr) E (st.setRun .attr N x.i) (cur s E) = ⟨st.setRun .attr N x.i, .fail 5 x.i⟩ := by
        simp only [stepPart, step]
        rw [if_pos (by simpa [St.setRun] using hc.trans ht)]
        simp [St.setRun]
      rw [runs_fail e2, htw, ← hA.tag.told]; rfl
    · have htw : x.twice s l = { x with i := E } := by
        unfold Sc.twice; rw [hn2, if_neg ht, hn1]
      have he1 : (x.twice s l).err = 0 := by rw [htw]; exact he
      generalize hst2 : ({ st.setRun .attr N x.i with names := st.names ++ [N] } : St) = st2
      have e2 : runs g s E (.plain .newAttr) (st.setRun .attr N x.i) = runs g s E (.plain .attrP) st2 := by
        refine runs_same ?_ (by rw [← hst2]) (fun ⟨o, h⟩ => by cases plain_stop h)
        simp only [stepPart, step]
        rw [if_neg (by simpa [St.setRun] using fun h => ht (hc.symm.trans h)), ← hst2]
        simp [St.setRun]
      rw [e2, runs_gap (gap_attrP st2)]
      have hg1 := gap_le hle
      have hg1e := gap_end s E
      generalize hE1 : E + gap s E = E1 at *
      have hbk : (x.twice s l).blanks s = { x with i := E1 } := by rw [blanks_gap he1, htw]; simp only; rw [hE1]
      have hmu := must_one (s := s) (x := { x with i := E1 }) he (c := 61) (by decide)
      by_cases h61 : cur s E1 = 61
      · have hw1 := wid_byte (s := s) (i := E1) (by omega) (by omega)
        have hp1 := cur_pos (s := s) (i := E1) (by omega)
        have e3 : stepPart (.plain .attrP) E1 st2 (cur s E1) = ⟨st2, .go (.plain .equals)⟩ := by
          simp only [stepPart, step, stAttr]; rw [if_neg hg1e, if_pos h61]
        rw [runs_go e3 (by omega), hw1, runs_gap (gap_equals st2)]
        have hg2 := gap_le (s := s) (i := E1 + 1) (by omega)
        have hg2e := gap_end s (E1 + 1)
        generalize hE2 : E1 + 1 + gap s (E1 + 1) = E2 at *
        have hmu' : Sc.mustL s [61] { x with i := E1 } = { x with i := E1 + 1 } := by rw [hmu]; exact if_pos h61
        have heq : x.equal s l = { x with i := E2 } := by
          unfold Sc.equal; rw [hbk, hmu', blanks_gap (x := { x with i := E1 + 1 }) he]; simp only; rw [hE2]
        have hvc := value_cases (s := s) (x := { x with i := E2 }) he
        simp only at hvc
        have hat : x.attr s l = ((Sc.value { x with i := E2 } s).1, (N, (Sc.value { x with i := E2 } s).2)) := by
          unfold Sc.attr; rw [heq, if_pos he, hn2]
        by_cases hq : cur s E2 = 34 ∨ cur s E2 = 39
        · have hw2 := wid_byte (s := s) (i := E2) (by omega) (by omega)
          have hp2 := cur_pos (s := s) (i := E2) (by omega)
          have e4 : stepPart (.plain .equals) E2 st2 (cur s E2) = ⟨{ st2 with quote := cur s E2 }, .go (.plain .valueP)⟩ := by
            simp only [stepPart, step]; rw [if_neg hg2e, if_pos hq]
          rw [if_pos hq] at hvc
          rw [runs_go e4 (by omega), hw2]
          have hst3 : ({ st2 with quote := cur s E2 } : St).run .value = [] := by rw [← hst2]; simpa [St.setRun] using hA.value
          have htold : ({ st2 with quote := cur s E2 } : St).told = x.l := by rw [← hst2]; exact hA.tag.told
          have hval := runs_value (g := g) (s := s) (cur s E2).toNat (by omega) (by omega) (s.size + 2) { x with i := E2 + 1 } [] { st2 with quote := cur s E2 } he (by show E2 + 1 ≤ _; omega) (by show _ < E2 + 1 + _; omega) htold (by simp only; omega) hst3
          simp only at hval
          rw [hat, hvc]
          generalize hvf : valF s (cur s E2).toNat (s.size + 2) { x with i := E2 + 1 } [] = V at *
          rcases hval with ⟨v1, v2, v3, v4, r, a, b, v5⟩ | ⟨v1, v2, v3⟩
          · refine Or.inl ⟨v1, by show x.i < V.1.i + 1; omega, v3, by simp only; rw [v4], _, ?_, v5⟩
            constructor
            · refine hA.tag.same ?_ ?_ ?_ ?_ ?_ ?_
              · rw [← hst2]; rfl
              · rw [← hst2]; simp [St.addAttr, St.clear, St.setRun]
              · rw [← hst2]; simp [St.addAttr, St.clear, St.setRun]
              · simp only; rw [v4]
              · simp only; rw [v4]
              · simp only; rw [v4]
            · rw [← hst2]; simp [St.addAttr, St.clear, St.setRun, hA.attrs]
            · rw [← hst2]; simp [St.addAttr, St.clear, St.setRun, hA.names]
            · simp [St.addAttr, St.clear, St.setRun]
            · rw [← hst2]; simpa [St.addAttr, St.clear, St.setRun] using hA.name
            · rw [← hst2]; exact hA.at_
          · exact Or.inr ⟨v1, v2, v3⟩
        · rw [if_neg hq] at hvc
          rw [hat, hvc, wrong_cur (x := { x with i := E2 }) he]
          refine Or.inr ⟨?_, rfl, ?_⟩
          · show Tk.why _ ≠ 0
            unfold Tk.why; split <;> omega
          · have e4 : stepPart (.plain .equals) E2 st2 (cur s E2) = ⟨st2, .fail (Tk.why (cur s E2)) E2⟩ := by
              simp only [stepPart, step]; rw [if_neg hg2e, if_neg hq]
            rw [runs_fail e4, ← hst2]
            simp only
            rw [show (st.setRun .attr N x.i).told = x.l from hA.tag.told]
      · have hmu' : Sc.mustL s [61] { x with i := E1 } = Sc.wrong { x with i := E1 } s := by rw [hmu]; exact if_neg h61
        have hwe := wrong_err { x with i := E1 } s he
        have heq : x.equal s l = Sc.wrong { x with i := E1 } s := by
          unfold Sc.equal; rw [hbk, hmu', blanks_err hwe]
        have hat : x.attr s l = (Sc.wrong { x with i := E1 } s, (N, [])) := by unfold Sc.attr; rw [heq, if_neg hwe, hn2]
        rw [hat, wrong_cur (x := { x with i := E1 }) he]
        refine Or.inr ⟨?_, rfl, ?_⟩
        · show Tk.why _ ≠ 0
          unfold Tk.why; split <;> omega
        · have e3 : stepPart (.plain .attrP) E1 st2 (cur s E1) = ⟨st2, .fail (Tk.why (cur s E1)) E1⟩ := by
            simp only [stepPart, step, stAttr]; rw [if_neg hg1e, if_neg h61]
          rw [runs_fail e3, ← hst2]
          simp only
          rw [show (st.setRun .attr N x.i).told = x.l from hA.tag.told]
  · have hn := name_no (s := s) he hb
    have hwe := wrong_err x s he
    have htw : x.twice s l = x.wrong s := by
      unfold Sc.twice
      rw [hn]
      simp only
      split
      · unfold Sc.fail; rw [if_neg hwe]
      · rfl
    have heq : x.equal s l = x.wrong s := by unfold Sc.equal; rw [htw, blanks_err hwe, mustL_err s _ hwe, blanks_err hwe]
    have hat : (x.attr s l).1 = x.wrong s := by unfold Sc.attr; rw [heq, if_neg hwe]
    rw [hat]
    refine Or.inr ⟨hwe, by rw [wrong_cur he], ?_⟩
    have e : stepPart (.plain .blanks) x.i st (cur s x.i) = ⟨st, .fail (Tk.why (cur s x.i)) x.i⟩ := by
      simp only [stepPart, step, stPart]; rw [if_neg hb, if_neg hbl, if_neg h47, if_neg h62]
    rw [runs_fail e, wrong_cur he, hA.tag.told]
end Go.Proofs.YtgognegkcplcpaaGreatDoor

set_option linter.unusedSimpArgs false
set_option linter.unusedVariables false
namespace Go.Proofs.YtgognegkcplcpaaGreatDoor
open Go.RowKit Go.Lib
variable {g : St → List Tok} {s : ByteArray} {i : Nat} {pt pt' : Part} {st st' : St} {no q c : Int} {x y : Sc}
theorem runs_attrs {nm : List UInt8} {tg : Int} : ∀ (f : Nat) (x : Sc) (l : Ats) (st : St), x.err = 0 → x.i ≤ s.size → s.size + 1 < x.i + f → InA x st l nm tg →
    ((attrsF s f x l).1.err = 0 ∧ x.i ≤ (attrsF s f x l).1.i ∧ (attrsF s f x l).1.i ≤ s.size ∧ (attrsF s f x l).1 = { x with i := (attrsF s f x l).1.i } ∧ ¬ Tk.blank (cur s (attrsF s f x l).1.i) = true ∧ ∃ st', InA (attrsF s f x l).1 st' (attrsF s f x l).2 nm tg ∧ runs g s x.i (.plain .part) st = runs g s (attrsF s f x l).1.i (.plain .part) st') ∨
    ((attrsF s f x l).1.err ≠ 0 ∧ (attrsF s f x l).1.l = x.l ∧ runs g s x.i (.plain .part) st = (x.l, (attrsF s f x l).1.err, (attrsF s f x l).1.at_)) := by
  intro f
  induction f with
  | zero => intro x l st he hi hf; omega
  | succ f ih =>
    intro x l st he hi hf hA
    simp only [attrsF]
    rw [blanks_gap he, skip_gap he]
    have hg := gap_le hi
    have hge := gap_end s x.i
    by_cases h0 : gap s x.i = 0
    · rw [if_pos (Or.inl h0)]
      rw [h0] at hge
      simp only [h0, Nat.add_zero] at hge ⊢
      exact Or.inl ⟨he, Nat.le_refl _, hi, trivial, hge, st, hA, rfl⟩
    · have hb : Tk.blank (cur s x.i) = true := by
        by_cases hb : Tk.blank (cur s x.i) = true
        · exact hb
        · exact absurd (gap_no hb) h0
      have hv := tk_blank hb
      have hw := wid_byte (s := s) (i := x.i) (by omega) (by omega)
      have e1 : stepPart (.plain .part) x.i st (cur s x.i) = ⟨st, .go (.plain .blanks)⟩ := by
        simp only [stepPart, step, stPart]; rw [if_pos hb]
      have hrun : runs g s x.i (.plain .part) st = runs g s (x.i + gap s x.i) (.plain .blanks) st := by
        rw [runs_go e1 (by omega), hw, runs_gap (gap_blanks st), gap_yes hb]
        congr 1; omega
      have i47 := is_cur' (s := s) (x := { x with i := x.i + gap s x.i }) he (c := 47) (by omega)
      have i62 := is_cur' (s := s) (x := { x with i := x.i + gap s x.i }) he (c := 62) (by omega)
      simp only at i47 i62
      rw [i47, i62, hrun]
      generalize hp : x.i + gap s x.i = p at *
      by_cases hs : cur s p = 47 ∨ cur s p = 62
      · rw [if_pos (Or.inr (Or.inr (by simpa using hs)))]
        refine Or.inl ⟨he, by show x.i ≤ p; omega, hg, rfl, hge, st, ?_, ?_⟩
        · exact ⟨⟨hA.tag.told, hA.tag.text, hA.tag.from_⟩, hA.attrs, hA.names, hA.value, hA.name, hA.at_⟩
        · refine runs_same ?_ rfl (fun _ => rfl)
          have hnb : ¬ Ch.begins (cur s p) = true := by rw [Ch.begins_iff]; omega
          simp only [stepPart, step]
          rw [if_neg hnb]
      · rw [if_neg (by simp only [decide_eq_true_eq]; rintro (h | h | h | h); exact h0 h; exact h he; exact hs (Or.inl h); exact hs (Or.inr h))]
        have hA' : InA { x with i := p } st l nm tg := ⟨⟨hA.tag.told, hA.tag.text, hA.tag.from_⟩, hA.attrs, hA.names, hA.value, hA.name, hA.at_⟩
        have hone := runs_attr (g := g) (s := s) (x := { x with i := p }) (l := l) he hg hA' hge (fun h => hs (Or.inl h)) (fun h => hs (Or.inr h))
        simp only at hone
        generalize Sc.attr { x with i := p } s l = A at *
        rcases hone with ⟨a1, a2, a3, a4, st', a5, a6⟩ | ⟨a1, a2, a3⟩
        · rw [a6]
          have hih := ih A.1 (l ++ [A.2]) st' a1 a3 (by omega) a5
          generalize attrsF s f A.1 (l ++ [A.2]) = B at *
          have hl : A.1.l = x.l := by rw [a4]
          rcases hih with ⟨b1, b2, b3, b4, b5, st'', b6, b7⟩ | ⟨b1, b2, b3⟩
          · refine Or.inl ⟨b1, by omega, b3, ?_, b5, st'', b6, b7⟩
            rw [b4, a4]
          · exact Or.inr ⟨b1, by rw [b2, hl], by rw [b3, hl]⟩
        · rw [attrsF_err a1]
          exact Or.inr ⟨a1, a2, a3⟩

structure Rel (x : Sc) (st : St) : Prop where
  tag : InTag x st
  attrs : st.attrs = []
  names : st.names = []
  value : st.run .value = []
theorem tellText_run (st : St) (j : Rn) (h : j ≠ .text) : st.tellText.run j = st.run j := by
  unfold St.tellText; split
  · rfl
  · simp [St.clear, St.setRun, h]
theorem tellText_text (st : St) : st.tellText.run .text = [] := by
  unfold St.tellText; split
  · rename_i h; simpa using h
  · simp [St.clear, St.setRun]
theorem tellText_fields (st : St) : st.tellText.attrs = st.attrs ∧ st.tellText.names = st.names ∧ st.tellText.quote = st.quote ∧ st.tellText.tagAt = st.tagAt := by
  unfold St.tellText; split <;> exact ⟨rfl, rfl, rfl, rfl⟩
theorem tellText_tok (h : InTag x st) : st.tellText.told = if x.more = [] then x.l else x.l ++ [txtTok x] := by
  unfold St.tellText
  rw [h.text]
  by_cases hm : x.more = []
  · rw [if_pos (by simp [hm]), if_pos hm]; exact h.told
  · rw [if_neg (by simpa using hm), if_neg hm]
    show st.told ++ [_] = _
    rw [h.told]
    have := h.from_ hm
    simp only [txtTok, this]
theorem told_l (he : x.err = 0) (t : Tok) : x.told t = { x with l := (if x.more = [] then x.l else x.l ++ [txtTok x]) ++ [t], more := [] } := by
  unfold Sc.told
  rw [if_neg (by simpa using he)]
  congr 1
  split <;> simp
theorem tell_open {l : Ats} {nm : List UInt8} {tg : Int} (he : x.err = 0) (h : InA x st l nm tg) : InA (x.told ⟨1, nm, l, [], tg⟩) st.tellOpening [] nm tg := by
  have hf := tellText_fields st
  rw [told_l he]
  refine ⟨⟨?_, ?_, fun e => absurd rfl e⟩, rfl, rfl, ?_, ?_, ?_⟩
  · show st.tellText.told ++ [_] = _
    rw [tellText_tok h.tag, h.name, h.attrs, h.at_]
  · exact tellText_text st
  · show st.tellText.run .value = []
    rw [tellText_run _ _ (by decide)]; exact h.value
  · show st.tellText.run .name = nm
    rw [tellText_run _ _ (by decide)]; exact h.name
  · show st.tellText.tagAt = tg
    rw [hf.2.2.2]; exact h.at_
theorem tell_close {nm : List UInt8} {tg : Int} (he : x.err = 0) (h : InA x st [] nm tg) : Rel (x.told ⟨2, nm, [], [], tg⟩) st.tellClosing := by
  have hf := tellText_fields st
  rw [told_l he]
  refine ⟨⟨?_, ?_, fun e => absurd rfl e⟩, ?_, ?_, ?_⟩
  · show st.tellText.told ++ [_] = _
    rw [tellText_tok h.tag, h.name, h.at_]
  · exact tellText_text st
  · show st.tellText.attrs = []
    rw [hf.1]; exact h.attrs
  · show st.tellText.names = []
    rw [hf.2.1, h.names]; rfl
  · show st.tellText.run .value = []
    rw [tellText_run _ _ (by decide)]; exact h.value
theorem InA.rel {nm : List UInt8} {tg : Int} (h : InA x st [] nm tg) : Rel x st := ⟨h.tag, h.attrs, by rw [h.names]; rfl, h.value⟩
theorem Rel.at (h : Rel x st) (j : Nat) : Rel { x with i := j } st := ⟨⟨h.tag.told, h.tag.text, h.tag.from_⟩, h.attrs, h.names, h.value⟩

def Sc.openTail (x : Sc) (s : ByteArray) (nm : List UInt8) (l : Ats) (tg : Int) : Sc :=
  if x.is s 47 = true then ((Sc.mustL s [62] { x with i := x.i + 1 }).told ⟨1, nm, l, [], tg⟩).told ⟨2, nm, [], [], tg⟩ else (Sc.mustL s [62] x).told ⟨1, nm, l, [], tg⟩
def Sc.openTag (x : Sc) (s : ByteArray) (tg : Int) : Sc := ((x.name s).1.attrs s).1.openTail s (x.name s).2.data.toList ((x.name s).1.attrs s).2 tg
def Sc.closeTag (x : Sc) (s : ByteArray) (tg : Int) : Sc := (Sc.mustL s [62] ((x.name s).1.blanks s)).told ⟨2, (x.name s).2.data.toList, [], [], tg⟩
def Sc.order (x : Sc) (s : ByteArray) : Sc := ((x.name s).1.until s ⟨#[63, 62]⟩).1
def Sc.remark (x : Sc) (s : ByteArray) : Sc := Sc.mustL s [62] ((Sc.mustL s [45, 45] x).until s ⟨#[45, 45]⟩).1
def Sc.cdata (x : Sc) (s : ByteArray) : Sc :=
  if ((Sc.mustL s [91, 67, 68, 65, 84, 65, 91] x).until s ⟨#[93, 93, 62]⟩).1.err = 0 ∧ ((Sc.mustL s [91, 67, 68, 65, 84, 65, 91] x).until s ⟨#[93, 93, 62]⟩).2.data.toList ≠ []
  then ((Sc.mustL s [91, 67, 68, 65, 84, 65, 91] x).until s ⟨#[93, 93, 62]⟩).1.texted ((Sc.mustL s [91, 67, 68, 65, 84, 65, 91] x).until s ⟨#[93, 93, 62]⟩).2 (Sc.mustL s [91, 67, 68, 65, 84, 65, 91] x).i
  else ((Sc.mustL s [91, 67, 68, 65, 84, 65, 91] x).until s ⟨#[93, 93, 62]⟩).1
def Sc.bang (x : Sc) (s : ByteArray) : Sc := if x.is s 91 = true then x.cdata s else x.remark s
def Sc.behind (x : Sc) (s : ByteArray) (tg : Int) : Sc :=
  if x.is s 33 = true then Sc.bang { x with i := x.i + 1 } s
  else if x.is s 63 = true then Sc.order { x with i := x.i + 1 } s
  else if x.is s 47 = true then Sc.closeTag { x with i := x.i + 1 } s tg
  else x.openTag s tg
def Sc.markup (x : Sc) (s : ByteArray) : Sc := Sc.behind { x with i := x.i + 1 } s x.i
def Grown (x y : Sc) : Prop := y.at_ = x.at_ ∧ y.more.length + x.i ≤ x.more.length + y.i ∧ y.l.length ≤ x.l.length + 3
def Done (g : St → List Tok) (s : ByteArray) (x y : Sc) (A : List Tok × Int × Int) : Prop :=
  (y.err = 0 ∧ x.i < y.i ∧ y.i ≤ s.size ∧ Grown x y ∧ ∃ st', Rel y st' ∧ A = runs g s y.i (.plain .between) st') ∨ (y.err ≠ 0 ∧ y.l = x.l ∧ A = (x.l, y.err, y.at_))
theorem told_err' (he : x.err ≠ 0) (t : Tok) : x.told t = x := by unfold Sc.told; rw [if_pos he]
theorem told_i (x : Sc) (t : Tok) : (x.told t).i = x.i := by unfold Sc.told; split <;> rfl
theorem told_more (x : Sc) (t : Tok) : (x.told t).more.length ≤ x.more.length := by unfold Sc.told; split <;> simp
theorem told_none (x : Sc) (he : x.err = 0) (t : Tok) : (x.told t).more = [] := by unfold Sc.told; rw [if_neg (by simpa using he)]
theorem told_len (x : Sc) (t : Tok) : (x.told t).l.length ≤ x.l.length + 2 := by
  unfold Sc.told; split
  · omega
  · simp only [List.length_append]; split <;> simp
theorem told_len1 (x : Sc) (t : Tok) (h : x.more = []) : (x.told t).l.length ≤ x.l.length + 1 := by
  unfold Sc.told; split
  · omega
  · simp [List.length_append, h]
theorem told_a (x : Sc) (t : Tok) : (x.told t).at_ = x.at_ := by unfold Sc.told; split <;> rfl
theorem told_e (x : Sc) (t : Tok) : (x.told t).err = x.err := by unfold Sc.told; split <;> rfl
theorem done_close {nm : List UInt8} {tg : Int} (he : x.err = 0) (hi : x.i ≤ s.size) (hA : InA x st [] nm tg) : Done g s x ((Sc.mustL s [62] (x.blanks s)).told ⟨2, nm, [], [], tg⟩) (runs g s x.i (.plain .closing) st) := by
  rw [runs_gap (gap_closing st), blanks_gap he]
  have hg := gap_le hi
  have hge := gap_end s x.i
  generalize hp : x.i + gap s x.i = p at *
  have hm := must_one (s := s) (x := { x with i := p }) he (c := 62) (by decide)
  by_cases h62 : cur s p = 62
  · have hm' : Sc.mustL s [62] { x with i := p } = { x with i := p + 1 } := by rw [hm]; exact if_pos h62
    rw [hm']
    have hw := wid_byte (s := s) (i := p) (by omega) (by omega)
    have hc := cur_pos (s := s) (i := p) (by omega)
    have e : stepPart (.plain .closing) p st (cur s p) = ⟨st.tellClosing, .go (.plain .between)⟩ := by
      simp only [stepPart, step]; rw [if_neg hge, if_pos h62]
    have hA' : InA { x with i := p + 1 } st [] nm tg := ⟨⟨hA.tag.told, hA.tag.text, hA.tag.from_⟩, hA.attrs, hA.names, hA.value, hA.name, hA.at_⟩
    refine Or.inl ⟨by rw [told_e]; exact he, by rw [told_i]; show x.i < p + 1; omega, by rw [told_i]; show p + 1 ≤ _; omega, ?_, _, tell_close (x := { x with i := p + 1 }) he hA', ?_⟩
    · have t1 := told_more { x with i := p + 1 } ⟨2, nm, [], [], tg⟩
      have t2 := told_len { x with i := p + 1 } ⟨2, nm, [], [], tg⟩
      simp only at t1 t2
      refine ⟨by rw [told_a], ?_, by omega⟩
      rw [told_i]; simp only; omega
    rw [runs_go e (by omega), hw, told_i]
  · have hm' : Sc.mustL s [62] { x with i := p } = Sc.wrong { x with i := p } s := by rw [hm]; exact if_neg h62
    have hwe := wrong_err { x with i := p } s he
    rw [hm', told_err' hwe]
    have e : stepPart (.plain .closing) p st (cur s p) = ⟨st, .fail (Tk.why (cur s p)) p⟩ := by
      simp only [stepPart, step]; rw [if_neg hge, if_neg h62]
    refine Or.inr ⟨hwe, by rw [wrong_cur (x := { x with i := p }) he], ?_⟩
    rw [runs_fail e, wrong_cur (x := { x with i := p }) he, hA.tag.told]
theorem done_tail {nm : List UInt8} {l : Ats} {tg : Int} (he : x.err = 0) (hi : x.i ≤ s.size) (hA : InA x st l nm tg) (hbl : ¬ Tk.blank (cur s x.i) = true) : Done g s x (x.openTail s nm l tg) (runs g s x.i (.plain .part) st) := by
  unfold Sc.openTail
  have i47 : x.is s 47 = true ↔ cur s x.i = 47 := is_cur he (by omega)
  by_cases h47 : cur s x.i = 47
  · rw [if_pos (i47.2 h47)]
    have hw := wid_byte (s := s) (i := x.i) (by omega) (by omega)
    have hc := cur_pos (s := s) (i := x.i) (by omega)
    have e : stepPart (.plain .part) x.i st (cur s x.i) = ⟨st, .go (.plain .slash)⟩ := by
      simp only [stepPart, step, stPart]; rw [if_neg hbl, if_pos h47]
    rw [runs_go e (by omega), hw]
    have hm := must_one (s := s) (x := { x with i := x.i + 1 }) he (c := 62) (by decide)
    by_cases h62 : cur s (x.i + 1) = 62
    · have hm' : Sc.mustL s [62] { x with i := x.i + 1 } = { x with i := x.i + 1 + 1 } := by rw [hm]; exact if_pos h62
      have hw2 := wid_byte (s := s) (i := x.i + 1) (by omega) (by omega)
      have hc2 := cur_pos (s := s) (i := x.i + 1) (by omega)
      have e2 : stepPart (.plain .slash) ((x.i + 1 : Nat) : Int) st (cur s (x.i + 1)) = ⟨st.tellOpening.tellClosing, .go (.plain .between)⟩ := by
        simp only [stepPart, step]; rw [if_pos h62]
      rw [hm', runs_go e2 (by omega), hw2]
      have hA' : InA { x with i := x.i + 1 + 1 } st l nm tg := ⟨⟨hA.tag.told, hA.tag.text, hA.tag.from_⟩, hA.attrs, hA.names, hA.value, hA.name, hA.at_⟩
      have h1 := tell_open (x := { x with i := x.i + 1 + 1 }) he hA'
      refine Or.inl ⟨by rw [told_e, told_e]; exact he, by rw [told_i, told_i]; show x.i < x.i + 1 + 1; omega, by rw [told_i, told_i]; show x.i + 1 + 1 ≤ _; omega, ?_, _, tell_close (by rw [told_e]; exact he) h1, ?_⟩
      · have t1 := told_none { x with i := x.i + 1 + 1 } he ⟨1, nm, l, [], tg⟩
        have t2 := told_len { x with i := x.i + 1 + 1 } ⟨1, nm, l, [], tg⟩
        have t3 := told_len1 _ ⟨2, nm, [], [], tg⟩ t1
        have t4 := told_more (Sc.told { x with i := x.i + 1 + 1 } ⟨1, nm, l, [], tg⟩) ⟨2, nm, [], [], tg⟩
        rw [t1] at t4
        simp only at t2 t3 t4
        refine ⟨by rw [told_a, told_a], ?_, by omega⟩
        rw [told_i, told_i]; simp only [List.length_nil] at t4 ⊢; omega
      rw [told_i, told_i]
    · have hm' : Sc.mustL s [62] { x with i := x.i + 1 } = Sc.wrong { x with i := x.i + 1 } s := by rw [hm]; exact if_neg h62
      have hwe := wrong_err { x with i := x.i + 1 } s he
      rw [hm', told_err' hwe, told_err' hwe]
      have e2 : stepPart (.plain .slash) ((x.i + 1 : Nat) : Int) st (cur s (x.i + 1)) = ⟨st, .fail (Tk.why (cur s (x.i + 1))) ((x.i + 1 : Nat) : Int)⟩ := by
        simp only [stepPart, step]; rw [if_neg h62]
      refine Or.inr ⟨hwe, by rw [wrong_cur (x := { x with i := x.i + 1 }) he], ?_⟩
      rw [runs_fail e2, wrong_cur (x := { x with i := x.i + 1 }) he, hA.tag.told]
  · rw [if_neg (fun h => h47 (i47.1 h))]
    have hm := must_one (s := s) (x := x) he (c := 62) (by decide)
    by_cases h62 : cur s x.i = 62
    · have hm' : Sc.mustL s [62] x = { x with i := x.i + 1 } := by rw [hm]; exact if_pos h62
      have hw := wid_byte (s := s) (i := x.i) (by omega) (by omega)
      have hc := cur_pos (s := s) (i := x.i) (by omega)
      have e : stepPart (.plain .part) x.i st (cur s x.i) = ⟨st.tellOpening, .go (.plain .between)⟩ := by
        simp only [stepPart, step, stPart]; rw [if_neg hbl, if_neg h47, if_pos h62]
      rw [hm', runs_go e (by omega), hw]
      have hA' : InA { x with i := x.i + 1 } st l nm tg := ⟨⟨hA.tag.told, hA.tag.text, hA.tag.from_⟩, hA.attrs, hA.names, hA.value, hA.name, hA.at_⟩
      refine Or.inl ⟨by rw [told_e]; exact he, by rw [told_i]; show x.i < x.i + 1; omega, by rw [told_i]; show x.i + 1 ≤ _; omega, ?_, _, (tell_open (x := { x with i := x.i + 1 }) he hA').rel, ?_⟩
      · have t1 := told_more { x with i := x.i + 1 } ⟨1, nm, l, [], tg⟩
        have t2 := told_len { x with i := x.i + 1 } ⟨1, nm, l, [], tg⟩
        simp only at t1 t2
        refine ⟨by rw [told_a], ?_, by omega⟩
        rw [told_i]; simp only; omega
      rw [told_i]
    · have hm' : Sc.mustL s [62] x = Sc.wrong x s := by rw [hm]; exact if_neg h62
      have hwe := wrong_err x s he
      rw [hm', told_err' hwe]
      have e : stepPart (.plain .part) x.i st (cur s x.i) = ⟨st, .fail (Tk.why (cur s x.i)) x.i⟩ := by
        simp only [stepPart, step, stPart]; rw [if_neg hbl, if_neg h47, if_neg h62]
      refine Or.inr ⟨hwe, by rw [wrong_cur he], ?_⟩
      rw [runs_fail e, wrong_cur he, hA.tag.told]
end Go.Proofs.YtgognegkcplcpaaGreatDoor

set_option linter.unusedSimpArgs false
set_option linter.unusedVariables false
namespace Go.Proofs.YtgognegkcplcpaaGreatDoor
open Go.RowKit Go.Lib
variable {g : St → List Tok} {s : ByteArray} {i : Nat} {pt pt' : Part} {st st' : St} {no q c : Int} {x y : Sc}
theorem Done.on {A : List Tok × Int × Int} {j : Nat} (h : Done g s { x with i := j } y A) (hj : x.i ≤ j) : Done g s x y A := by
  rcases h with ⟨h1, h2, h3, h4⟩ | ⟨h1, h2, h3⟩
  · have h2' : j < y.i := h2
    exact Or.inl ⟨h1, by omega, h3, ⟨h4.1.1, by have := h4.1.2.1; simp only at this; omega, h4.1.2.2⟩, h4.2⟩
  · exact Or.inr ⟨h1, h2, h3⟩
theorem grown_same (h1 : y.at_ = x.at_) (h2 : y.more = x.more) (h3 : y.l = x.l) (h4 : x.i ≤ y.i) : Grown x y := ⟨h1, by rw [h2]; omega, by rw [h3]; omega⟩
theorem Done.wrong (he : x.err = 0) {A : List Tok × Int × Int} (h : A = (x.l, Tk.why (cur s x.i), (x.i : Int))) : Done g s x (x.wrong s) A := by
  rw [wrong_cur he]
  refine Or.inr ⟨?_, rfl, h⟩
  show Tk.why _ ≠ 0
  unfold Tk.why; split <;> omega
theorem done_open (he : x.err = 0) (hi : x.i ≤ s.size) (h : Rel x st) (h47 : ¬ cur s x.i = 47) (h63 : ¬ cur s x.i = 63) (h33 : ¬ cur s x.i = 33) : Done g s x (x.openTag s st.tagAt) (runs g s x.i (.plain .less) st) := by
  by_cases hb : Ch.begins (cur s x.i) = true
  · have h0 : 0 ≤ cur s x.i := by have := (Ch.begins_iff _).1 hb; omega
    obtain ⟨n1, n2⟩ := name_yes he hb
    have hlt := (nlen_yes (s := s) hb).2
    have hle := nend_le hi
    have e : stepPart (.plain .less) x.i st (cur s x.i) = ⟨(st.clear .name).put .name (cur s x.i) x.i, .go (.name .name .part)⟩ := by
      simp only [stepPart, step, stName1]; rw [if_neg h47, if_neg h63, if_neg h33, if_pos hb]
    rw [runs_go e h0, runs_first .name .part x.i st hb]
    unfold Sc.openTag
    rw [n1, n2]
    generalize hE : nend s x.i = E at *
    generalize hN : Ch.bytes s x.i (E - x.i) = N at *
    have hA : InA { x with i := E } (st.setRun .name N x.i) [] N st.tagAt :=
      ⟨⟨h.tag.told, by simpa [St.setRun] using h.tag.text, by simpa [St.setRun] using h.tag.from_⟩, h.attrs, by rw [show (st.setRun .name N x.i).names = st.names from rfl, h.names]; rfl, by simpa [St.setRun] using h.value, by simp [St.setRun], rfl⟩
    have hat := runs_attrs (g := g) (s := s) (s.size + 2) { x with i := E } [] _ he hle (by show _ < E + _; omega) hA
    unfold Sc.attrs
    generalize attrsF s (s.size + 2) { x with i := E } [] = B at *
    rcases hat with ⟨b1, b2, b3, b4, b5, st', b6, b7⟩ | ⟨b1, b2, b3⟩
    · simp only at b7 b2
      rw [b7]
      have hd := done_tail (g := g) b1 b3 b6 b5
      rcases hd with ⟨d1, d2, d3, d4⟩ | ⟨d1, d2, d3⟩
      · have h6 : B.1.more = x.more := by rw [b4]
        have h7 : B.1.l = x.l := by rw [b4]
        have h8 : B.1.at_ = x.at_ := by rw [b4]
        obtain ⟨⟨g1, g2, g3⟩, g4⟩ := d4
        rw [h6] at g2
        rw [h7] at g3
        exact Or.inl ⟨d1, by omega, d3, ⟨by rw [g1, h8], by omega, g3⟩, g4⟩
      · have hl : B.1.l = x.l := by rw [b4]
        exact Or.inr ⟨d1, by rw [d2, hl], by rw [d3, hl]⟩
    · have hot : B.1.openTail s N B.2 st.tagAt = B.1 := by
        unfold Sc.openTail
        rw [if_neg (by rw [is_err b1]; simp), mustL_err s _ b1, told_err' b1]
      rw [hot]
      exact Or.inr ⟨b1, b2, b3⟩
  · have hn := name_no (s := s) he hb
    have hwe := wrong_err x s he
    have e : stepPart (.plain .less) x.i st (cur s x.i) = ⟨st.clear .name, .fail (Tk.why (cur s x.i)) x.i⟩ := by
      simp only [stepPart, step, stName1]; rw [if_neg h47, if_neg h63, if_neg h33, if_neg hb]
    have hot : x.openTag s st.tagAt = x.wrong s := by
      unfold Sc.openTag Sc.attrs
      rw [hn]
      simp only
      rw [attrsF_err hwe]
      unfold Sc.openTail
      rw [if_neg (by rw [is_err hwe]; simp), mustL_err s _ hwe, told_err' hwe]
    rw [hot]
    refine Done.wrong he ?_
    rw [runs_fail e, ← h.tag.told]; rfl
theorem done_closeTag (he : x.err = 0) (hi : x.i ≤ s.size) (h : Rel x st) (hn0 : st.run .name = []) : Done g s x (x.closeTag s st.tagAt) (runs g s x.i (.name .name .closing) st) := by
  by_cases hb : Ch.begins (cur s x.i) = true
  · have h0 : 0 ≤ cur s x.i := by have := (Ch.begins_iff _).1 hb; omega
    obtain ⟨n1, n2⟩ := name_yes he hb
    have hlt := (nlen_yes (s := s) hb).2
    have hle := nend_le hi
    have hcl : st.clear .name = st.setRun .name (st.run .name) 0 := by unfold St.clear; rw [hn0]
    have e : stepPart (.name .name .closing) x.i st (cur s x.i) = ⟨(st.clear .name).put .name (cur s x.i) x.i, .go (.name .name .closing)⟩ := by
      simp only [stepPart, stName, stName1]
      rw [if_pos (by rw [hn0]; rfl), if_pos hb]
      congr 1
      unfold St.put
      rw [hcl, setRun_twice]
      simp only [St.setRun, if_true]
      rw [hn0]
      simp
    rw [runs_go e h0, runs_first .name .closing x.i st hb]
    unfold Sc.closeTag
    rw [n1, n2]
    generalize hE : nend s x.i = E at *
    generalize hN : Ch.bytes s x.i (E - x.i) = N at *
    have hA : InA { x with i := E } (st.setRun .name N x.i) [] N st.tagAt :=
      ⟨⟨h.tag.told, by simpa [St.setRun] using h.tag.text, by simpa [St.setRun] using h.tag.from_⟩, h.attrs, by rw [show (st.setRun .name N x.i).names = st.names from rfl, h.names]; rfl, by simpa [St.setRun] using h.value, by simp [St.setRun], rfl⟩
    exact (done_close (x := { x with i := E }) he hle hA).on (by omega)
  · have hn := name_no (s := s) he hb
    have hwe := wrong_err x s he
    have e : stepPart (.name .name .closing) x.i st (cur s x.i) = ⟨st, .fail (Tk.why (cur s x.i)) x.i⟩ := by
      simp only [stepPart, stName, stName1]; rw [if_pos (by rw [hn0]; rfl), if_neg hb]
    have hot : x.closeTag s st.tagAt = x.wrong s := by
      unfold Sc.closeTag
      rw [hn]
      simp only
      rw [blanks_err hwe, mustL_err s _ hwe, told_err' hwe]
    rw [hot]
    refine Done.wrong he ?_
    rw [runs_fail e, ← h.tag.told]
theorem Alike.done {A : List Tok × Int × Int} (h : Alike s x y A (fun j => runs g s j (.plain .between) st)) (hr : Rel x st) (hlt : y.err = 0 → x.i < y.i) : Done g s x y A := by
  rcases h with ⟨h1, h2, h3, h4, h5⟩ | ⟨h1, h2, h3⟩
  · refine Or.inl ⟨h1, hlt h1, h3, ⟨by rw [h4], by rw [h4]; simp only; omega, by rw [h4]; simp only; omega⟩, st, ?_, h5⟩
    rw [h4]; exact hr.at _
  · exact Or.inr ⟨h1, h2, h3⟩
theorem runs_order_name (st : St) (i : Nat) : runs g s i (.plain .order) st = runs g s (nend s i) (.plain .order) st := by
  by_cases h : inN (cur s i) = true
  · have h0 := inN_pos h
    have hc := cur_pos h0
    have hne : ¬ cur s i = 63 := by
      intro e
      rw [e] at h; exact absurd h (by decide)
    have e : stepPart (.plain .order) i st (cur s i) = ⟨st, .go (.plain .order)⟩ := by
      simp only [stepPart, step, stOrder]; rw [if_neg hne, if_neg (by omega)]
    rw [runs_go e h0, runs_order_name st (i + wid s i), nend_yes h]
  · rw [nend_no h]
termination_by s.size - i
theorem done_order (he : x.err = 0) (hi : x.i ≤ s.size) (h : Rel x st) : Done g s x (x.order s) (runs g s x.i (.plain .orderName) st) := by
  by_cases hb : Ch.begins (cur s x.i) = true
  · have h0 : 0 ≤ cur s x.i := by have := (Ch.begins_iff _).1 hb; omega
    have hin : inN (cur s x.i) = true := by unfold inN; rw [hb]; rfl
    obtain ⟨n1, n2⟩ := name_yes he hb
    have hlt := (nlen_yes (s := s) hb).2
    have hle := nend_le hi
    have e : stepPart (.plain .orderName) x.i st (cur s x.i) = ⟨st, .go (.plain .order)⟩ := by
      simp only [stepPart, step]; rw [if_pos hb]
    rw [runs_go e h0, runs_order_name st, ← nend_yes hin]
    unfold Sc.order Sc.until
    rw [n1]
    refine Done.on (j := nend s x.i) ?_ (by omega)
    refine (runs_order (s := s) (nend s x.i) (s.size + 2) { x with i := nend s x.i } he hle (by show _ < nend s x.i + _; omega) h.tag.told).done (h.at _) ?_
    intro h1
    have := (until_text s ⟨#[63, 62]⟩ (by decide) (nend s x.i) (s.size + 2) { x with i := nend s x.i } he h1 (by show _ < nend s x.i + _; omega) hle).2
    have h2 : nend s x.i + 2 ≤ _ := this
    show nend s x.i < _
    omega
  · have hn := name_no (s := s) he hb
    have hwe := wrong_err x s he
    have e : stepPart (.plain .orderName) x.i st (cur s x.i) = ⟨st, .fail (Tk.why (cur s x.i)) x.i⟩ := by
      simp only [stepPart, step]; rw [if_neg hb]
    have hot : x.order s = x.wrong s := by
      unfold Sc.order Sc.until
      rw [hn]
      simp only
      rw [until_err _ _ _ _ _ hwe]
    rw [hot]
    refine Done.wrong he ?_
    rw [runs_fail e, ← h.tag.told]
theorem done_remark (he : x.err = 0) (hi : x.i ≤ s.size) (h : Rel x st) (h91 : ¬ cur s x.i = 91) : Done g s x (x.remark s) (runs g s x.i (.plain .bang) st) := by
  by_cases h45 : cur s x.i = 45
  · have hw := wid_byte (s := s) (i := x.i) (by omega) (by omega)
    have hc := cur_pos (s := s) (i := x.i) (by omega)
    have e : stepPart (.plain .bang) x.i st (cur s x.i) = ⟨st, .go (.word [45] .remark)⟩ := by
      simp only [stepPart, step]; rw [if_pos h45]
    rw [runs_go e (by omega), hw]
    have hm : Sc.mustL s [45, 45] x = Sc.mustL s [45] { x with i := x.i + 1 } := by
      have : x.is s (45 : UInt8).toNat = true := (is_cur he (by decide)).2 h45
      conv => lhs; rw [Sc.mustL]
      rw [if_pos he, if_pos this]
    unfold Sc.remark
    rw [hm]
    have hwd := runs_word (g := g) (s := s) (st := st) .remark [45] { x with i := x.i + 1 } (by decide) (by decide) he (by show x.i + 1 ≤ _; omega) h.tag.told
    generalize Sc.mustL s [45] { x with i := x.i + 1 } = y at *
    rcases hwd with ⟨y1, y2, y3, y4, y5⟩ | ⟨y1, y2, y3⟩
    · have y2' : x.i + 1 ≤ y.i := y2
      simp only at y5
      rw [y5]
      have hl : y.l = x.l := by rw [y4]
      have hry : Rel y st := by rw [y4]; exact h.at _
      have hu := runs_remark (g := g) (s := s) (st := st) y.i (s.size + 2) y y1 y3 (by omega) (by rw [hl]; exact h.tag.told)
      unfold Sc.until
      generalize (untilF s ⟨#[45, 45]⟩ y.i (s.size + 2) y).1 = u at *
      rcases hu with ⟨u1, u2, u3, u4, u5⟩ | ⟨u1, u2, u3⟩
      · have hl' : u.l = x.l := by rw [u4, ← hl]
        have hru : Rel u st := by rw [u4]; exact hry.at _
        simp only at u5
        rw [u5]
        have hw2 := runs_word (g := g) (s := s) (st := st) .between [62] u (by decide) (by decide) u1 u3 (by rw [hl']; exact h.tag.told)
        generalize Sc.mustL s [62] u = v at *
        rcases hw2 with ⟨v1, v2, v3, v4, v5⟩ | ⟨v1, v2, v3⟩
        · exact Or.inl ⟨v1, by omega, v3, grown_same (by rw [v4, u4, y4]) (by rw [v4, u4, y4]) (by rw [v4, u4, y4]) (by omega), st, by rw [v4]; exact hru.at _, v5⟩
        · exact Or.inr ⟨v1, by rw [v2, hl'], by rw [v3, hl']⟩
      · rw [mustL_err s _ u1]
        exact Or.inr ⟨u1, by rw [u2, hl], by rw [u3, hl]⟩
    · unfold Sc.until
      rw [until_err _ _ _ _ _ y1, mustL_err s _ y1]
      exact Or.inr ⟨y1, y2, y3⟩
  · have hwe := wrong_err x s he
    have hot : x.remark s = x.wrong s := by
      have hi45 : ¬ x.is s (45 : UInt8).toNat = true := fun e => h45 ((is_cur he (by decide)).1 e)
      unfold Sc.remark Sc.until
      have : Sc.mustL s [45, 45] x = x.wrong s := by
        conv => lhs; rw [Sc.mustL]
        rw [if_pos he, if_neg hi45, mustL_err s _ hwe]
      rw [this, until_err _ _ _ _ _ hwe, mustL_err s _ hwe]
    rw [hot]
    refine Done.wrong he ?_
    have e : stepPart (.plain .bang) x.i st (cur s x.i) = ⟨st, .fail (Tk.why (cur s x.i)) x.i⟩ := by
      simp only [stepPart, step]; rw [if_neg h45, if_neg h91]
    rw [runs_fail e, ← h.tag.told]
theorem done_cdata (he : x.err = 0) (hi : x.i ≤ s.size) (h : Rel x st) (h91 : cur s x.i = 91) : Done g s x (x.cdata s) (runs g s x.i (.plain .bang) st) := by
  have hw := wid_byte (s := s) (i := x.i) (by omega) (by omega)
  have hc := cur_pos (s := s) (i := x.i) (by omega)
  have e : stepPart (.plain .bang) x.i st (cur s x.i) = ⟨st, .go (.word [67, 68, 65, 84, 65, 91] .section_)⟩ := by
    simp only [stepPart, step]; rw [if_neg (by omega), if_pos h91]
  rw [runs_go e (by omega), hw]
  have hm : Sc.mustL s [91, 67, 68, 65, 84, 65, 91] x = Sc.mustL s [67, 68, 65, 84, 65, 91] { x with i := x.i + 1 } := by
    have : x.is s (91 : UInt8).toNat = true := (is_cur he (by decide)).2 h91
    conv => lhs; rw [Sc.mustL]
    rw [if_pos he, if_pos this]
  unfold Sc.cdata
  rw [hm]
  have hwd := runs_word (g := g) (s := s) (st := st) .section_ [67, 68, 65, 84, 65, 91] { x with i := x.i + 1 } (by decide) (by decide) he (by show x.i + 1 ≤ _; omega) h.tag.told
  generalize Sc.mustL s [67, 68, 65, 84, 65, 91] { x with i := x.i + 1 } = y at *
  rcases hwd with ⟨y1, y2, y3, y4, y5⟩ | ⟨y1, y2, y3⟩
  · have y2' : x.i + 1 ≤ y.i := y2
    simp only at y5
    rw [y5]
    have hl : y.l = x.l := by rw [y4]
    have hry : Rel y st := by rw [y4]; exact h.at _
    have hu := runs_section (g := g) (s := s) (st := st) y.i (s.size + 2) y y1 y3 (Nat.le_refl _) (by omega) (by rw [hl]; exact h.tag.told)
    rw [upto_self] at hu
    have hut := fun h1 => until_text s ⟨#[93, 93, 62]⟩ (by decide) y.i (s.size + 2) y y1 h1 (by omega) y3
    unfold Sc.until
    generalize untilF s ⟨#[93, 93, 62]⟩ y.i (s.size + 2) y = u at *
    rcases hu with ⟨u1, u2, u3, u4, u5⟩ | ⟨u1, u2, u3⟩
    · obtain ⟨t1, t2⟩ := hut u1
      have t2' : y.i + 3 ≤ u.1.i := t2
      have hsz : (⟨#[93, 93, 62]⟩ : ByteArray).size = 3 := rfl
      have hb : u.2.data.toList = Ch.bytes s y.i (u.1.i - 3 - y.i) := by rw [t1, bytes_extract, hsz]
      have hru : Rel u.1 st := by rw [u4]; exact hry.at _
      rw [u5]
      by_cases hne : u.2.data.toList ≠ []
      · rw [if_pos ⟨u1, hne⟩]
        have hlt : y.i < u.1.i - 3 := by
          by_cases hlt : y.i < u.1.i - 3
          · exact hlt
          · exfalso; apply hne; rw [hb, show u.1.i - 3 - y.i = 0 by omega]; unfold Ch.bytes; simp
        refine Or.inl ⟨u1, by show x.i < u.1.i; omega, u3, ⟨by show u.1.at_ = x.at_; rw [u4, y4], ?_, by show u.1.l.length ≤ _; rw [u4, y4]; simp only; omega⟩, _, ?_, rfl⟩
        · have h6 : u.1.more = x.more := by rw [u4, y4]
          show (u.1.more ++ u.2.data.toList).length + x.i ≤ x.more.length + u.1.i
          rw [h6, List.length_append, hb]
          have h7 : (Ch.bytes s y.i (u.1.i - 3 - y.i)).length ≤ u.1.i - 3 - y.i := by unfold Ch.bytes; rw [List.length_take]; omega
          omega
        refine ⟨⟨hru.tag.told, ?_, ?_⟩, hru.attrs, hru.names, ?_⟩
        · simp only [St.upto, St.setRun, if_true, Sc.texted]
          rw [hb, hru.tag.text]
        · intro _
          simp only [St.upto, St.setRun, if_true, Sc.texted]
          rw [hru.tag.text]
          by_cases hm0 : u.1.more = []
          · rw [if_pos ⟨hm0, hlt⟩, if_pos hm0]
          · rw [if_neg (fun e => hm0 e.1), if_neg hm0]; exact hru.tag.from_ hm0
        · simpa [St.upto, St.setRun] using hru.value
      · rw [if_neg (fun e => hne e.2)]
        have hz : u.1.i - 3 = y.i := by
          by_cases hlt : y.i < u.1.i - 3
          · exact absurd (by rw [hb]; exact bytes_ne s (by omega) (by omega)) hne
          · omega
        refine Or.inl ⟨u1, by omega, u3, grown_same (by rw [u4, y4]) (by rw [u4, y4]) (by rw [u4, y4]) (by omega), st, hru, ?_⟩
        show runs g s u.1.i _ (st.upto s .text y.i (u.1.i - 3)) = _
        rw [hz, upto_self]
    · rw [if_neg (fun e => u1 e.1)]
      exact Or.inr ⟨u1, by rw [u2, hl], by rw [u3, hl]⟩
  · unfold Sc.until
    rw [until_err _ _ _ _ _ y1]
    rw [if_neg (fun e => y1 e.1)]
    exact Or.inr ⟨y1, y2, y3⟩
theorem done_markup (he : x.err = 0) (h : Rel x st) (h60 : cur s x.i = 60) : Done g s x (x.markup s) (runs g s x.i (.plain .between) st) := by
  have hw := wid_byte (s := s) (i := x.i) (by omega) (by omega)
  have hc := cur_pos (s := s) (i := x.i) (by omega)
  have e : stepPart (.plain .between) x.i st (cur s x.i) = ⟨{ st with tagAt := x.i }, .go (.plain .less)⟩ := by
    simp only [stepPart, step]; rw [if_pos h60]
  rw [runs_go e (by omega), hw]
  have hr : Rel { x with i := x.i + 1 } { st with tagAt := (x.i : Int) } := ⟨⟨h.tag.told, h.tag.text, h.tag.from_⟩, h.attrs, h.names, h.value⟩
  unfold Sc.markup
  refine Done.on (j := x.i + 1) ?_ (by omega)
  have hle : x.i + 1 ≤ s.size := by omega
  have hx : ({ x with i := x.i + 1 } : Sc).err = 0 := he
  have htg : ({ st with tagAt := (x.i : Int) } : St).tagAt = x.i := rfl
  have hi' : ({ x with i := x.i + 1 } : Sc).i = x.i + 1 := rfl
  rw [← hi'] at hle ⊢
  rw [← htg]
  generalize ({ x with i := x.i + 1 } : Sc) = X at *
  generalize ({ st with tagAt := (x.i : Int) } : St) = S at *
  clear htg hi' e h60 hw hc h he
  unfold Sc.behind
  have i33 : X.is s 33 = true ↔ cur s X.i = 33 := is_cur hx (by omega)
  have i63 : X.is s 63 = true ↔ cur s X.i = 63 := is_cur hx (by omega)
  have i47 : X.is s 47 = true ↔ cur s X.i = 47 := is_cur hx (by omega)
  by_cases c33 : cur s X.i = 33
  · rw [if_pos (i33.2 c33)]
    have hw := wid_byte (s := s) (i := X.i) (by omega) (by omega)
    have hc := cur_pos (s := s) (i := X.i) (by omega)
    have e : stepPart (.plain .less) X.i S (cur s X.i) = ⟨S, .go (.plain .bang)⟩ := by
      simp only [stepPart, step]; rw [if_neg (by omega), if_neg (by omega), if_pos c33]
    rw [runs_go e (by omega), hw]
    refine Done.on (j := X.i + 1) ?_ (by omega)
    unfold Sc.bang
    have i91 := is_cur (s := s) (x := { X with i := X.i + 1 }) hx (c := 91) (by omega)
    by_cases c91 : cur s (X.i + 1) = 91
    · rw [if_pos (i91.2 c91)]
      exact done_cdata (x := { X with i := X.i + 1 }) hx (by show X.i + 1 ≤ _; omega) (hr.at _) c91
    · rw [if_neg (fun h => c91 (i91.1 h))]
      exact done_remark (x := { X with i := X.i + 1 }) hx (by show X.i + 1 ≤ _; omega) (hr.at _) c91
  · rw [if_neg (fun h => c33 (i33.1 h))]
    by_cases c63 : cur s X.i = 63
    · rw [if_pos (i63.2 c63)]
      have hw := wid_byte (s := s) (i := X.i) (by omega) (by omega)
      have hc := cur_pos (s := s) (i := X.i) (by omega)
      have e : stepPart (.plain .less) X.i S (cur s X.i) = ⟨S, .go (.plain .orderName)⟩ := by
        simp only [stepPart, step]; rw [if_neg (by omega), if_pos c63]
      rw [runs_go e (by omega), hw]
      exact (done_order (x := { X with i := X.i + 1 }) hx (by show X.i + 1 ≤ _; omega) (hr.at _)).on (by omega)
    · rw [if_neg (fun h => c63 (i63.1 h))]
      by_cases c47 : cur s X.i = 47
      · rw [if_pos (i47.2 c47)]
        have hw := wid_byte (s := s) (i := X.i) (by omega) (by omega)
        have hc := cur_pos (s := s) (i := X.i) (by omega)
        have e : stepPart (.plain .less) X.i S (cur s X.i) = ⟨S.clear .name, .go (.name .name .closing)⟩ := by
          simp only [stepPart, step]; rw [if_pos c47]
        rw [runs_go e (by omega), hw]
        have hr' : Rel { X with i := X.i + 1 } (S.clear .name) := ⟨⟨hr.tag.told, by simpa [St.clear, St.setRun] using hr.tag.text, by simpa [St.clear, St.setRun] using hr.tag.from_⟩, hr.attrs, hr.names, by simpa [St.clear, St.setRun] using hr.value⟩
        exact (done_closeTag (x := { X with i := X.i + 1 }) hx (by show X.i + 1 ≤ _; omega) hr' (by simp [St.clear, St.setRun])).on (by omega)
      · rw [if_neg (fun h => c47 (i47.1 h))]
        exact done_open hx hle hr c47 c63 c33
end Go.Proofs.YtgognegkcplcpaaGreatDoor

set_option linter.unusedSimpArgs false
set_option linter.unusedVariables false
namespace Go.Proofs.YtgognegkcplcpaaGreatDoor
open Go.RowKit Go.Lib
variable {g : St → List Tok} {s : ByteArray} {i : Nat} {pt pt' : Part} {st st' : St} {no q c : Int} {x y : Sc}

def Sc.piece (x : Sc) (s : ByteArray) : Sc :=
  if (s.get! x.i).toNat = 60 then x.markup s else if (x.char s 60).1.err = 0 then (x.char s 60).1.texted (x.char s 60).2 x.i else (x.char s 60).1
def readF (s : ByteArray) : Nat → Sc → Sc
  | 0, x => x
  | f + 1, x => if x.i < s.size ∧ x.err = 0 then readF s f (x.piece s) else x
def Sc.zero : Sc := ⟨0, [], [], 0, 0, 0⟩
def readS (s : ByteArray) : Sc := readF s (s.size + 1) Sc.zero
def Sc.last (x : Sc) : List Tok := if x.err ≠ 0 ∨ x.more = [] then [] else [txtTok x]
def Sc.fin (x : Sc) (G : Sc → List Tok) : List Tok × Int × Int := if x.err = 0 then (G x, 0, 0) else (x.l, x.err, x.at_)
theorem done_text (he : x.err = 0) (hi : x.i < s.size) (h : Rel x st) (h60 : ¬ cur s x.i = 60) :
    Done g s x (if (x.char s 60).1.err = 0 then (x.char s 60).1.texted (x.char s 60).2 x.i else (x.char s 60).1) (runs g s x.i (.plain .between) st) := by
  have hch := char_cur (s := s) he 60 (by omega)
  have hc60 : ¬ cur s x.i = ((60 : Nat) : Int) := h60
  by_cases h0 : 0 ≤ cur s x.i
  · have hc := cur_pos h0
    have hneg : ¬ (cur s x.i < 0 ∨ cur s x.i = 60 ∨ cur s x.i = ((60 : Nat) : Int)) := by rintro (h | h | h); omega; exact h60 h; exact hc60 h
    rw [if_neg hneg] at hch
    by_cases h38 : cur s x.i = 38
    · rw [if_pos h38] at hch
      have e : stepPart (.plain .between) x.i st (cur s x.i) = ⟨(st.clear .ref).put .ref 38 x.i, .go (.ref .text .between)⟩ := by
        simp only [stepPart, step]; rw [if_neg h60, if_pos h38]
      rw [runs_go e h0, runs_ref .text .between x.i st h38]
      unfold refTo
      by_cases hz : (Ch.refAt s x.i).2 = 0
      · rw [if_pos hz] at hch ⊢
        have hf := fail_err x 4 x.i he (by decide)
        rw [hch]
        simp only
        rw [if_neg hf]
        refine Or.inr ⟨hf, ?_, ?_⟩
        · unfold Sc.fail; rw [if_pos he]
        · unfold Sc.fail; rw [if_pos he, h.tag.told]
      · rw [if_neg hz] at hch ⊢
        have hsp := Ch.refAt_spec hz
        rw [hch]
        simp only
        rw [if_pos he]
        refine Or.inl ⟨he, by show x.i < x.i + _; omega, by show x.i + (Ch.refAt s x.i).2.toNat ≤ _; omega, ⟨rfl, ?_, by show x.l.length ≤ _; omega⟩, _, ?_, rfl⟩
        · show (x.more ++ Lib.encodeRune (Ch.refAt s x.i).1).length + x.i ≤ x.more.length + (x.i + (Ch.refAt s x.i).2.toNat)
          have := Ch.encode_le (Ch.refAt s x.i).1
          rw [List.length_append]; omega
        refine ⟨⟨h.tag.told, ?_, ?_⟩, h.attrs, h.names, ?_⟩
        · simp [St.put, St.setRun, Sc.texted, h.tag.text]
        · intro _
          simp only [St.put, St.setRun, Sc.texted, if_true]
          by_cases hm : x.more = []
          · rw [if_pos hm]; simp [h.tag.text, hm]
          · rw [if_neg hm]; simp [h.tag.text, hm]; exact h.tag.from_ hm
        · simpa [St.put, St.setRun] using h.value
    · rw [if_neg h38] at hch
      have e : stepPart (.plain .between) x.i st (cur s x.i) = ⟨st.put .text (cur s x.i) x.i, .go (.plain .between)⟩ := by
        simp only [stepPart, step]; rw [if_neg h60, if_neg h38, if_neg (by omega), if_neg (by omega)]
      have hb := bytes_extract s x.i (x.i + wid s x.i)
      rw [show x.i + wid s x.i - x.i = wid s x.i by omega, ← enc_cur h0] at hb
      rw [runs_go e h0, hch]
      simp only
      rw [if_pos he]
      refine Or.inl ⟨he, by show x.i < x.i + wid s x.i; omega, by show x.i + wid s x.i ≤ _; omega, ⟨rfl, ?_, by show x.l.length ≤ _; omega⟩, _, ?_, rfl⟩
      · show (x.more ++ (s.extract x.i (x.i + wid s x.i)).data.toList).length + x.i ≤ x.more.length + (x.i + wid s x.i)
        have h7 : (Ch.bytes s x.i (wid s x.i)).length ≤ wid s x.i := by unfold Ch.bytes; rw [List.length_take]; omega
        rw [List.length_append, hb, enc_cur h0]; omega
      refine ⟨⟨h.tag.told, ?_, ?_⟩, h.attrs, h.names, ?_⟩
      · simp only [St.put, St.setRun, Sc.texted, if_true]; rw [hb, h.tag.text]
      · intro _
        simp only [St.put, St.setRun, Sc.texted, if_true]
        by_cases hm : x.more = []
        · rw [if_pos hm]; simp [h.tag.text, hm]
        · rw [if_neg hm]; simp [h.tag.text, hm]; exact h.tag.from_ hm
      · simpa [St.put, St.setRun] using h.value
  · rw [if_pos (Or.inl (by omega))] at hch
    have hwe := wrong_err x s he
    rw [hch]
    simp only
    rw [if_neg hwe]
    refine Done.wrong he ?_
    rcases cur_neg h0 with ⟨_, h2⟩ | ⟨h2, _⟩
    · have e : stepPart (.plain .between) x.i st (cur s x.i) = ⟨st, .fail 2 x.i⟩ := by
        simp only [stepPart, step, h2]; rfl
      rw [runs_fail e, h2, h.tag.told]; rfl
    · exact absurd hi h2
theorem done_piece (he : x.err = 0) (hi : x.i < s.size) (h : Rel x st) : Done g s x (x.piece s) (runs g s x.i (.plain .between) st) := by
  unfold Sc.piece
  have b60 := cur_byte (s := s) (i := x.i) (c := 60) (by omega)
  by_cases h60 : cur s x.i = 60
  · rw [if_pos (b60.1 h60).2]; exact done_markup he h h60
  · rw [if_neg (fun e => h60 (b60.2 ⟨hi, e⟩))]; exact done_text he hi h h60
theorem readF_err (he : x.err ≠ 0) (f : Nat) : readF s f x = x := by
  cases f with
  | zero => rfl
  | succ f => simp only [readF]; rw [if_neg (fun e => he e.2)]
theorem runs_read (G : Sc → List Tok) (hG : ∀ (x : Sc) (st : St), x.err = 0 → Rel x st → g st = G x) : ∀ (f : Nat) (x : Sc) (st : St), x.err = 0 → x.i ≤ s.size → s.size < x.i + f → Rel x st → runs g s x.i (.plain .between) st = (readF s f x).fin G := by
  intro f
  induction f with
  | zero => intro x st he hi hf; omega
  | succ f ih =>
    intro x st he hi hf h
    simp only [readF]
    by_cases hlt : x.i < s.size
    · rw [if_pos ⟨hlt, he⟩]
      rcases done_piece he hlt h with ⟨h1, h2, h3, ha, st', h4, h5⟩ | ⟨h1, h2, h3⟩
      · rw [h5]; exact ih _ _ h1 h3 (by omega) h4
      · rw [readF_err h1, h3]
        unfold Sc.fin; rw [if_neg h1, h2]
    · rw [if_neg (fun e => hlt e.1)]
      have hc : cur s x.i = -1 := by unfold cur; rw [if_neg hlt]
      have e : stepPart (.plain .between) x.i st (cur s x.i) = ⟨st.tellText, .stop⟩ := by
        simp only [stepPart, step, hc]; rfl
      rw [runs_stop e, hG x st he h]
      unfold Sc.fin
      rw [if_pos he]
theorem readF_over (g : St → List Tok) : ∀ (f : Nat) (x : Sc) (st : St), x.err = 0 → x.i ≤ s.size → s.size < x.i + f → Rel x st → (readF s f x).err = 0 → (readF s f x).i = s.size ∧ (readF s f x).at_ = x.at_ := by
  intro f
  induction f with
  | zero => intro x st he hi hf; omega
  | succ f ih =>
    intro x st he hi hf h
    simp only [readF]
    by_cases hlt : x.i < s.size
    · rw [if_pos ⟨hlt, he⟩]
      rcases done_piece (g := g) he hlt h with ⟨h1, h2, h3, ha, st', h4, h5⟩ | ⟨h1, h2, h3⟩
      · intro e; have := ih _ _ h1 h3 (by omega) h4 e; exact ⟨this.1, this.2.trans ha.1⟩
      · rw [readF_err h1]; intro e; exact absurd e h1
    · rw [if_neg (fun e => hlt e.1)]; intro _; exact ⟨by omega, rfl⟩
theorem tell_last (x : Sc) (st : St) (he : x.err = 0) (h : Rel x st) : st.tellText.told = x.l ++ x.last := by
  rw [tellText_tok h.tag]
  unfold Sc.last
  by_cases hm : x.more = []
  · rw [if_pos hm, if_pos (Or.inr hm), List.append_nil]
  · rw [if_neg hm, if_neg (by rintro (h | h); exact h he; exact hm h)]
end Go.Proofs.YtgognegkcplcpaaGreatDoor

set_option linter.unusedSimpArgs false
set_option linter.unusedVariables false
namespace Go.Proofs.YtgognegkcplcpaaGreatDoor
open Go.RowKit Go.Maps Go.Lib
variable {X : Nat} {w w' w'' wr : World} {s t : ByteArray} {lv : Value} {x x' : Sc}
structure AI (X : Nat) (w : World) (s : ByteArray) (lv : Value) (y : Sc × Ats) (wr : World) (x : Sc) (l : Ats) (v : Value) (f : Nat) : Prop where
  se : SE X w s lv x wr
  row : wr.ownsRow 0 76 2 v l.length (attrCells l)
  own : ∀ k, v.ownBlock = some k → w.heap.size ≤ k
  le : x.err = 0 → x.i ≤ s.size
  eq : attrsF s f x l = y
  fuel : x.err = 0 → s.size + 1 < x.i + f
  len : l.length ≤ s.size + 1 ∧ (x.err = 0 → l.length ≤ x.i)
theorem row_stays {l : Ats} {v : Value} {w1 w2 : World} (h : w1.ownsRow 0 76 2 v l.length (attrCells l)) (hX : v.ownBlock ≠ some X) (b : But X w1 w2) : w2.ownsRow 0 76 2 v l.length (attrCells l) :=
  owns_of h fun k e => b.block k (own_lt h e) (fun e2 => hX (by rw [e, e2]))
theorem rattr_cells {l : Ats} {g cap : Nat} (h : w.ownsRow 0 76 2 (.slice (some ⟨g, 0, none⟩) l.length cap) l.length (attrCells l)) (i : Nat) (hi : i < l.length) :
    w.cell? ⟨g, i * 2, none⟩ = some (strV (l[i]).1) ∧ w.cell? ⟨g, i * 2 + 1, none⟩ = some (strV (l[i]).2) := by
  have hc := h.cells (g := g) rfl
  have key : ∀ (l : Ats) (i : Nat) (hi : i < l.length), (attrCells l)[i * 2]? = some (strV (l[i]).1) ∧ (attrCells l)[i * 2 + 1]? = some (strV (l[i]).2) := by
    intro l
    induction l with
    | nil => intro i hi; cases hi
    | cons x l ih =>
      intro i hi
      cases i with
      | zero => exact ⟨rfl, rfl⟩
      | succ i =>
        have := ih i (by simpa using hi)
        have e1 : (i + 1) * 2 = i * 2 + 2 := by omega
        rw [e1]
        simpa [attrCells] using this
  obtain ⟨k1, k2⟩ := key l i hi
  have h1 := hc _ _ k1
  have h2 := hc _ _ k2
  rw [Addr.add_mid, Nat.zero_add] at h1 h2
  exact ⟨h1, h2⟩
theorem rattr_at {l : Ats} {ai : Option Addr} {ac : Nat} (h : w.ownsRow 0 76 2 (.slice ai l.length ac) l.length (attrCells l)) (i : Nat) (hi : i < l.length) :
    ∃ g, ai = some ⟨g, 0, none⟩ ∧ w.cell? ⟨g, i * 2, none⟩ = some (.string ⟨(l[i]).1.toArray⟩) := by
  have h' := h
  rcases h'.2 with ⟨e, e0⟩ | ⟨ga, ca', cur, e, _⟩
  · omega
  cases e
  exact ⟨ga, rfl, (rattr_cells h i hi).1⟩
set_option maxHeartbeats 2000000 in
theorem must_err (h : SAt X w s lv x) (he : x.err ≠ 0) (t : ByteArray) (ht : 0 < t.size) : Calls Tryz.prog 41 #[.pointer (some ⟨X, 0, none⟩), .string t] w fun en w' => en = .returned (.tuple #[]) ∧ SE X w s lv x w' := by
  have c5 : w.cell? ⟨X, 5, none⟩ = some (.int .i64 x.err) := h.cell 5 rfl
  have e0 : (x.err == 0) = false := by simpa using he
  have hd : decide ((0 : Int) < t.size) = true := by simp; omega
  have H := hide (SE.refl h)
  clear h he
  go_enter Tryz.func41, Tryz.ntmps41
  go_wp2_with fail
  refine wp_loop_rounds 1 ?_
  rw [rounds_succ]
  go_wp2_with fail
  go_end0
  exact ⟨rfl, H.out⟩
theorem must_any (h : SAt X w s lv x) (hs : s.size ≤ 1125899906842624) (hi : x.err = 0 → x.i ≤ s.size) (t : ByteArray) (h0 : 0 < t.size) (ht : t.size ≤ 1024) : Calls Tryz.prog 41 #[.pointer (some ⟨X, 0, none⟩), .string t] w fun en w' => en = .returned (.tuple #[]) ∧ SE X w s lv (Sc.mustL s (drp t 0) x) w' := by
  by_cases he : x.err = 0
  · exact must_sc h hs (hi he) t (by omega)
  · rw [mustL_err s _ he]; exact must_err h he t h0
theorem wpList_app54 {ops : Array Oper} {rest : List Oper} {o : Oper} {a : Act} {w : World} {Q : Exit → Act → World → Prop} (hgd : o.guard = none) (s x : Operand) (ho : o.op = Op.call { callee := Callee.builtin Builtin.append, args := #[s, x], argTypes := #[55, 55] }) (hty : o.type = 55)
    (v1 v2 : Value) (hs : a.eval s = v1) (hx : a.eval x = v2) {v' : Value} {w' : World} (hr : (Builtin.append_ #[55, 55] 55 #[v1, v2]).run Tryz.prog w = .ok v' w') (h : wpList Tryz.prog ops Q rest (a.put o.dst v') w') : wpList Tryz.prog ops Q (o :: rest) a w := by
  refine wpList_plain hgd fun K hK => ?_
  unfold Oper.wp execOp
  simp only [ho, hty, resolve, invoke, builtin, Sem.run_bind, Sem.run_pure, Result.andThen_ok, List.map_toArray, List.map_cons, List.map_nil, hs, hx, hr]
  exact hK _ _ h
theorem blanks_e (x : Sc) (s : ByteArray) : (x.blanks s).err = x.err := rfl
theorem twice_le (h : x.err = 0 → x.i ≤ s.size) (l : Ats) : (x.twice s l).err = 0 → (x.twice s l).i ≤ s.size := by
  intro he
  have h0 : x.err = 0 := by
    by_cases e : x.err = 0
    · exact e
    · exfalso
      have hn : x.name s = (x, ⟨#[]⟩) := by unfold Sc.name; rw [if_neg e]
      have : x.twice s l = x := by
        unfold Sc.twice; rw [hn]; simp only; split
        · unfold Sc.fail; rw [if_neg e]
        · rfl
      rw [this] at he; exact e he
  by_cases hb : Ch.begins (cur s x.i) = true
  · obtain ⟨n1, n2⟩ := name_yes h0 hb
    unfold Sc.twice
    rw [n1]
    have hle := nend_le (s := s) (h h0)
    split
    · rw [fail_i]; exact hle
    · exact hle
  · exfalso
    have hn := name_no (s := s) h0 hb
    have hwe := wrong_err x s h0
    have : x.twice s l = x.wrong s := by
      unfold Sc.twice; rw [hn]; simp only; split
      · unfold Sc.fail; rw [if_neg hwe]
      · rfl
    rw [this] at he; exact hwe he
theorem blanks_le (h : x.err = 0 → x.i ≤ s.size) : (x.blanks s).err = 0 → (x.blanks s).i ≤ s.size := by
  intro he
  rw [blanks_e] at he
  rw [blanks_gap he]
  exact gap_le (h he)
theorem must_le (h : x.err = 0 → x.i ≤ s.size) {c : UInt8} (hc : 32 ≤ c.toNat ∧ c.toNat < 128) : (Sc.mustL s [c] x).err = 0 → (Sc.mustL s [c] x).i ≤ s.size := by
  by_cases he : x.err = 0
  · rw [must_one he hc]
    split
    · rename_i hq
      have := cur_pos (s := s) (i := x.i) (by omega)
      intro _; show x.i + 1 ≤ _; omega
    · intro e; exact absurd e (wrong_err x s he)
  · rw [mustL_err s _ he]; exact h
theorem equal_le (h : x.err = 0 → x.i ≤ s.size) (l : Ats) : (x.equal s l).err = 0 → (x.equal s l).i ≤ s.size :=
  blanks_le (must_le (blanks_le (twice_le h l)) (by decide))
def Sc.tw (x : Sc) (s : ByteArray) (l : Ats) (k : Nat) : Sc := x.twice s (l.take k)
theorem tw_zero (x : Sc) (s : ByteArray) (l : Ats) : x.tw s l 0 = (x.name s).1 := by unfold Sc.tw Sc.twice; simp
theorem tw_all (x : Sc) (s : ByteArray) (l : Ats) : x.tw s l l.length = x.twice s l := by unfold Sc.tw; rw [List.take_length]
theorem fail_fail (x : Sc) (e a : Int) (he : e ≠ 0) : (x.fail e a).fail e a = x.fail e a := by
  unfold Sc.fail
  by_cases h : x.err = 0
  · rw [if_pos h, if_neg (by simpa using he)]
  · rw [if_neg h, if_neg h]
theorem any_succ (l : Ats) (k : Nat) (hk : k < l.length) (p : List UInt8 × List UInt8 → Bool) : (l.take (k + 1)).any p = ((l.take k).any p || p l[k]) := by
  rw [List.take_succ_eq_append_getElem hk, List.any_append]; simp
theorem tw_same (x : Sc) (s : ByteArray) (l : Ats) (k : Nat) (hk : k < l.length) (h : ((l[k]).1 == (x.name s).2.data.toList) = false) : x.tw s l (k + 1) = x.tw s l k := by
  unfold Sc.tw Sc.twice
  rw [any_succ l k hk, h, Bool.or_false]
theorem tw_fail (x : Sc) (s : ByteArray) (l : Ats) (k : Nat) (hk : k < l.length) (h : ((l[k]).1 == (x.name s).2.data.toList) = true) : x.tw s l (k + 1) = (x.tw s l k).fail 5 x.i := by
  unfold Sc.tw Sc.twice
  rw [any_succ l k hk, h, Bool.or_true, if_pos rfl]
  split
  · rw [fail_fail _ _ _ (by decide)]
  · rfl
end Go.Proofs.YtgognegkcplcpaaGreatDoor

set_option linter.unusedSimpArgs false
set_option linter.unusedVariables false
namespace Go.Proofs.YtgognegkcplcpaaGreatDoor
open Go.RowKit Go.Maps Go.Lib
variable {X : Nat} {w w' w'' wr : World} {s t : ByteArray} {lv : Value} {x x' : Sc}
theorem rattr_news (w : World) (a b : List UInt8) : ∀ j u, [strV a, strV b][j]? = some u → (w.alloc (.cells #[strV a, strV b] 76)).cell? ((⟨w.heap.size, 0, none⟩ : Addr).add j) = some u := by
  intro j u hj
  have hb : (w.alloc (.cells #[strV a, strV b] 76)).heap[w.heap.size]? = some (.cells #[strV a, strV b] 76) := Below_new _ _
  match j, hj with
  | 0, hj => cases hj; exact cell_of hb rfl
  | 1, hj => cases hj; exact cell_of hb rfl
theorem attr_more (W : World) {ai : Option Addr} {ac : Nat} {l : Ats} (row : W.ownsRow 0 76 2 (.slice ai l.length ac) l.length (attrCells l)) (a b : List UInt8) (hl : l.length ≤ 1099511627778) :
    ∃ v' W', (Builtin.append_ #[55, 55] 55 #[.slice ai l.length ac, .slice (some ⟨W.heap.size, 0, none⟩) 1 1]).run Tryz.prog (W.alloc (.cells #[strV a, strV b] 76)) = .ok v' W' ∧ W'.ownsRow 0 76 2 v' (l ++ [(a, b)]).length (attrCells (l ++ [(a, b)])) ∧ (W.alloc (.cells #[strV a, strV b] 76)).grownBy W' (Value.slice ai l.length ac).ownBlock ∧ (v'.ownBlock = (Value.slice ai l.length ac).ownBlock ∨ v'.ownBlock = some (W.heap.size + 1)) := by
  obtain ⟨i0, hi, hz0, hz1, hz2⟩ := info_parts info75
  obtain ⟨v', W', hrun, r1, r2, _, r4⟩ := run_append_own_at (P := Tryz.prog) (W.alloc (.cells #[strV a, strV b] 76)) 0 55 55 76 i0 _ 2 32 Tryz.underlying55 hi hz0 hz1 hz2 rfl (by decide) (.slice ai l.length ac) l.length (attrCells l) (row.alloc _) ⟨W.heap.size, 0, none⟩ 1 1 [strV a, strV b] rfl (rattr_news W a b) (attr_one a b) (by unfold maxLen; omega) (by omega) (Nat.zero_le _)
  refine ⟨v', W', hrun, ?_, r2, by simpa using r4⟩
  have e1 : (l ++ [(a, b)]).length = l.length + 1 := by simp
  have e2 : attrCells (l ++ [(a, b)]) = attrCells l ++ [strV a, strV b] := by simp [attrCells]
  rw [e1, e2]; exact r1
theorem attr_le {l : Ats} (he : x.err = 0) (hi : x.i ≤ s.size) (hbl : ¬ Tk.blank (cur s x.i) = true) (q47 : x.is s 47 = false) (q62 : x.is s 62 = false) : (x.attr s l).1.err = 0 → x.i < (x.attr s l).1.i ∧ (x.attr s l).1.i ≤ s.size := by
  have h47 : ¬ cur s x.i = 47 := fun e => by rw [(is_cur he (c := 47) (by omega)).2 e] at q47; cases q47
  have h62 : ¬ cur s x.i = 62 := fun e => by rw [(is_cur he (c := 62) (by omega)).2 e] at q62; cases q62
  have hA : InA x ⟨fun j => if j = .text then x.more else [], fun _ => x.frm, 0, l, l.map Prod.fst, 0, x.l⟩ l [] 0 := ⟨⟨rfl, rfl, fun _ => rfl⟩, rfl, rfl, rfl, rfl, rfl⟩
  rcases runs_attr (g := fun _ => []) he hi hA hbl h47 h62 with ⟨_, h2, h3, _⟩ | ⟨h1, _⟩
  · exact fun _ => ⟨h2, h3⟩
  · exact fun e => absurd e h1
theorem se_more {w9 W' : World} {o : Obj} {ro : Option Nat} (h : SE X w s lv x w9) (g : (w9.alloc o).grownBy W' ro) (hlt : X < w.heap.size) (hr : ∀ k, ro = some k → w.heap.size ≤ k) : SE X w s lv x W' := by
  have hz := h.2.size
  have hb : ∀ k, k < w.heap.size → W'.heap[k]? = w9.heap[k]? := fun k hk => by
    rw [g.block k (by simp; omega) (fun e => by have := hr k e.symm; omega)]
    exact Below.heap_alloc _ _ k (by omega)
  refine ⟨(hb X hlt).trans h.1, ⟨g.os.trans h.2.os, g.tape.trans h.2.tape, g.output.trans h.2.output, ?_, fun k hk hX => (hb k hk).trans (h.2.block k hk hX)⟩⟩
  have := g.size
  simp at this; omega
theorem AI.next {y : Sc × Ats} {l : Ats} {ai : Option Addr} {ac f : Nat} {B : Sc} {w9 W' : World} {o : Obj} {v' : Value} (hlt : X < w.heap.size) (U : AI X w s lv y wr x l (.slice ai l.length ac) (f + 1)) (he : x.err = 0) (hB : x.blanks s = B) (hBi : x.i < B.i)
    (q47 : B.is s 47 = false) (q62 : B.is s 62 = false) (heq : attrsF s f (B.attr s l).1 (l ++ [(B.attr s l).2]) = y) (R9 : SE X w s lv (B.attr s l).1 w9) (row : W'.ownsRow 0 76 2 v' (l ++ [(B.attr s l).2]).length (attrCells (l ++ [(B.attr s l).2])))
    (g : (w9.alloc o).grownBy W' (Value.slice ai l.length ac).ownBlock) (hat : v'.ownBlock = (Value.slice ai l.length ac).ownBlock ∨ v'.ownBlock = some (w9.heap.size + 1)) :
    AI X w s lv y W' (B.attr s l).1 (l ++ [(B.attr s l).2]) v' f ∧ left X s.size W' < left X s.size wr := by
  have hle := U.le he
  have hfu := U.fuel he
  have hln := U.len.2 he
  have hBe : B.err = 0 := by rw [← hB]; exact he
  have hBl : B.i ≤ s.size := by rw [← hB] at hBe ⊢; exact blanks_le U.le hBe
  have hbl : ¬ Tk.blank (cur s B.i) = true := by rw [← hB, blanks_gap he]; exact gap_end s x.i
  have ha := attr_le (l := l) hBe hBl hbl q47 q62
  have se := se_more R9 g hlt U.own
  have hz := R9.2.size
  have hlen : (l ++ [(B.attr s l).2]).length = l.length + 1 := by simp
  refine ⟨⟨se, row, ?_, fun e => (ha e).2, heq, fun e => by have := ha e; omega, ⟨by omega, fun e => by have := ha e; omega⟩⟩, ?_⟩
  · intro k e
    rcases hat with h | h
    · exact U.own k (h.symm.trans e)
    · rw [h] at e; cases e; omega
  · rw [left_eq se.1 s.size, left_eq U.se.1 s.size, if_pos he]
    split
    · rename_i e; have := ha e; omega
    · omega
set_option maxHeartbeats 4000000 in
set_option maxRecDepth 10000 in
theorem attrs_sc (h : SAt X w s lv x) (hs : s.size ≤ 1125899906842624) (hsz : s.size ≤ 1099511627776) (hi : x.err = 0 → x.i ≤ s.size) :
    Calls Tryz.prog 46 #[.pointer (some ⟨X, 0, none⟩)] w fun en w' => ∃ v, en = .returned v ∧ SE X w s lv (x.attrs s).1 w' ∧ w'.ownsRow 0 76 2 v (x.attrs s).2.length (attrCells (x.attrs s).2) ∧ (∀ k, v.ownBlock = some k → w.heap.size ≤ k) := by
  have hlt := h.lt
  have h0 : AI X w s lv (x.attrs s) w x [] (.slice none 0 0) (s.size + 2) := ⟨SE.refl h, World.ownsRow_nil _ _ _ _, by intro k e; simp [Value.ownBlock] at e, hi, rfl, fun _ => by omega, ⟨by simp, fun _ => by simp⟩⟩
  generalize x.attrs s = y at *
  have H0 := hide h0
  have hbl := fun W x' (b : SAt X W s lv x') (hi : x'.err = 0 → x'.i ≤ s.size) => blanks_sc b hs hi
  have his := fun W x' (b : SAt X W s lv x') c (hc : c < 256) => is_sc b c hc
  have hnm := fun W x' (b : SAt X W s lv x') (hi : x'.err = 0 → x'.i ≤ s.size) => name_sc b hs hi
  have hfl := fun W x' (b : SAt X W s lv x') (e a : Int) => fail_sc b e a
  have hmu := fun W x' (b : SAt X W s lv x') (hi : x'.err = 0 → x'.i ≤ s.size) => must_any b hs hi ⟨#[61]⟩ (by decide) (by decide)
  have hvl := fun W x' (b : SAt X W s lv x') (hi : x'.i ≤ s.size) => value_sc b hs hi
  have HBL := hide hbl
  have HIS := hide his
  have HNM := hide hnm
  have HFL := hide hfl
  have HMU := hide hmu
  have HVL := hide hvl
  clear h h0 hi hbl his hnm hfl hmu hvl
  go_enter Tryz.func46, Tryz.ntmps46
  go_wp2_with fail
  go_loopw [3, 4, 5, 6, 7, 8] (fun v _ _ _ _ _ wr => ∃ x' l' f, AI X w s lv y wr x' l' v f) (fun _ _ _ _ _ _ wr => left X s.size wr)
  case atStart => exact ⟨_, _, _, H0.out⟩
  case round =>
    obtain ⟨x', l', f, u⟩ := hrel
    obtain ⟨ai, ac, rfl⟩ := slice_len u.row
    have hleft := left_eq u.se.1 s.size
    have hbl := HBL.out wr x' u.se.1 u.le
    by_cases hsk : x'.skip s = 0
    · rw [hsk] at hbl
      have hy : y = (x'.blanks s, l') := by
        have := u.eq
        cases f with
        | zero =>
          by_cases he : x'.err = 0
          · have := u.fuel he; have := u.le he; omega
          · rw [attrsF_err he] at this; rw [blanks_err he]; exact this.symm
        | succ f => simp only [attrsF] at this; rw [if_pos (Or.inl hsk)] at this; exact this.symm
      subst hy
      have U := hide u
      clear u hleft hsk
      go_wp2_with fail
      refine hbl.mono ?_
      rintro e w1 ⟨rfl, r1⟩
      have R1 := hide r1
      clear r1
      go_wp2
      go_ret
      refine ⟨_, rfl, U.out.se.on R1.out, row_stays U.out.row ?_ R1.out.2, U.out.own⟩
      intro e
      have := U.out.own X e
      omega
    · have he : x'.err = 0 := by
        by_cases he : x'.err = 0
        · exact he
        · exact absurd (by unfold Sc.skip; rw [if_neg he]) hsk
      have hk0 : ((x'.skip s : Int) == 0) = false := by simpa using hsk
      have hB := blanks_le u.le
      have hBe : (x'.blanks s).err = 0 := he
      have hBi : x'.i < (x'.blanks s).i := by show x'.i < x'.i + x'.skip s; omega
      have hBl := hB hBe
      have hb0 : ((x'.blanks s).err != 0) = false := by rw [hBe]; rfl
      have hfu := u.fuel he
      have hxl := u.le he
      rw [if_pos he] at hleft
      obtain ⟨f, rfl⟩ : ∃ g, f = g + 1 := ⟨f - 1, by omega⟩
      have heq := u.eq
      simp only [attrsF] at heq
      have hlen := u.len.2 he
      have hX : (Value.slice ai (List.length l') ac).ownBlock ≠ some X := by
        intro e
        have := u.own X e
        omega
      have U := hide u
      clear u
      generalize hbb : x'.blanks s = B at *
      have i47 := fun W (b : SAt X W s lv B) => HIS.out W B b 47 (by decide)
      have i62 := fun W (b : SAt X W s lv B) => HIS.out W B b 62 (by decide)
      cases q47 : B.is s 47
      · cases q62 : B.is s 62
        · rw [if_neg (by rw [q47, q62]; simp [hsk, hBe])] at heq
          rw [q47] at i47
          rw [q62] at i62
          have HEQ := hide heq
          have HE := hide he
          have HBE := hide hBe
          have HBN := hide hbb
          have I1 := hide i47
          have I2 := hide i62
          have HLEFT := hide hleft
          have Q1 := hide q47
          have Q2 := hide q62
          clear heq he hBe hbb i47 i62 hsk q47 q62 hleft
          go_wp2_with fail
          refine hbl.mono ?_
          rintro e w1 ⟨rfl, r1⟩
          have R1 := hide (U.out.se.on r1)
          have ROW1 := hide (row_stays U.out.row hX r1.2)
          have c15 : w1.cell? ⟨X, 5, none⟩ = some (.int .i64 B.err) := r1.1.cell 5 rfl
          clear r1 hbl
          go_wp2_with fail
          refine (I1.out _ R1.out.1).mono ?_
          rintro e w2 ⟨rfl, b2⟩
          have R2 := hide (R1.out.below hlt b2)
          have ROW2 := hide (owns_of ROW1.out fun k e => b2.block k (own_lt ROW1.out e))
          clear b2
          go_wp2_with fail
          refine (I2.out _ R2.out.1).mono ?_
          rintro e w3 ⟨rfl, b3⟩
          have R3 := hide (R2.out.below hlt b3)
          have ROW3 := hide (owns_of ROW2.out fun k e => b3.block k (own_lt ROW2.out e))
          have c31 : w3.cell? ⟨X, 1, none⟩ = some (.int .i64 B.i) := R3.out.1.cell 1 rfl
          clear b3 I1 I2
          go_wp2_with fail
          refine (HNM.out _ B R3.out.1 (fun _ => hBl)).mono ?_
          rintro e w4 ⟨rfl, r4⟩
          have R4 := hide (R3.out.on r4)
          have ROW4 := hide (row_stays ROW3.out hX r4.2)
          clear r4
          go_wp2_with fail
          go_loopw [7] (fun iv wr2 => ∃ k : Nat, iv = .int .i64 k ∧ k ≤ l'.length ∧ SE X w s lv (B.tw s l' k) wr2 ∧ wr2.ownsRow 0 76 2 (.slice ai l'.length ac) l'.length (attrCells l')) (fun iv _ => l'.length - (RowKit.intOf iv).toNat)
          case atStart => exact ⟨0, rfl, Nat.zero_le _, by rw [tw_zero]; exact R4.out, ROW4.out⟩
          case round =>
            obtain ⟨k, rfl, hk, se5, row5⟩ := hrel
            by_cases hlt5 : k < l'.length
            · have hdec : decide ((k : Int) < (l'.length : Int)) = true := by simp; omega
              have hwk : IntKind.i64.wrap ((k : Int) + 1) = (k : Int) + 1 := by rw [IntKind.wrap_i64]; omega
              obtain ⟨g, hai, cg⟩ := rattr_at row5 k hlt5
              have hnl : (B.name s).2.toList = (B.name s).2.data.toList := Lib.toList_data _
              have hkl : (⟨(l'[k]).1.toArray⟩ : ByteArray).toList = (l'[k]).1 := by rw [Lib.toList_data]
              cases hq : ((l'[k]).1 == (B.name s).2.data.toList)
              · have htw := tw_same B s l' k hlt5 hq
                have SE5 := hide se5
                have ROW5 := hide row5
                have hq2 : ((⟨(l'[k]).1.toArray⟩ : ByteArray).toList == (B.name s).2.toList) = false := by rw [hnl, hkl]; exact hq
                clear se5 row5 hq hnl hkl
                generalize (⟨(l'[k]).1.toArray⟩ : ByteArray) = nk at *
                generalize (B.name s).2 = NB at *
                subst hai
                go_wp2_with fail
                refine ⟨⟨k + 1, by simp, by omega, by rw [htw]; exact SE5.out, ROW5.out⟩, by simp only [RowKit.intOf]; omega⟩
              · have htw := tw_fail B s l' k hlt5 hq
                have hfl := HFL.out _ _ se5.1 5 B.i
                have SE5 := hide se5
                have ROW5 := hide row5
                have hq2 : ((⟨(l'[k]).1.toArray⟩ : ByteArray).toList == (B.name s).2.toList) = true := by rw [hnl, hkl]; exact hq
                clear se5 row5 hq hnl hkl
                generalize (⟨(l'[k]).1.toArray⟩ : ByteArray) = nk at *
                generalize (B.name s).2 = NB at *
                subst hai
                go_wp2_with fail
                refine hfl.mono ?_
                rintro e w6 ⟨rfl, r6⟩
                have R6 := hide r6
                clear r6 hfl
                go_wp2
                refine ⟨⟨k + 1, by simp, by omega, by rw [htw]; exact SE5.out.on R6.out, row_stays ROW5.out hX R6.out.2⟩, by simp only [RowKit.intOf]; omega⟩
            · have hke : k = l'.length := by omega
              subst hke
              rw [tw_all] at se5
              have htl := twice_le hB l'
              have hbl5 := HBL.out _ _ se5.1 htl
              have SE5 := hide se5
              have ROW5 := hide row5
              have hdec : decide ((l'.length : Int) < (l'.length : Int)) = false := by simp
              clear se5 row5
              have hel := equal_le hB l'
              have hbl6 := blanks_le htl
              have hmu6 := must_le hbl6 (c := 61) (by decide)
              go_wp2_with fail
              refine hbl5.mono ?_
              rintro e w6 ⟨rfl, r6⟩
              have R6 := hide (SE5.out.on r6)
              have ROW6 := hide (row_stays ROW5.out hX r6.2)
              clear r6 hbl5
              go_wp2_with fail
              refine (HMU.out _ _ R6.out.1 hbl6).mono ?_
              rintro e w7 ⟨rfl, r7⟩
              have R7 := hide (R6.out.on r7)
              have ROW7 := hide (row_stays ROW6.out hX r7.2)
              clear r7
              go_wp2_with fail
              refine (HBL.out _ _ R7.out.1 hmu6).mono ?_
              rintro e w8 ⟨rfl, r8⟩
              have R8 : Hid (SE X w s lv (B.equal s l') w8) := hide (R7.out.on r8)
              have ROW8 := hide (row_stays ROW7.out hX r8.2)
              have c85 : w8.cell? ⟨X, 5, none⟩ = some (.int .i64 (B.equal s l').err) := R8.out.1.cell 5 rfl
              clear r8 hbl6 hmu6 htl
              have hadd := fun (W : World) (row : W.ownsRow 0 76 2 (.slice ai l'.length ac) l'.length (attrCells l')) (a b : List UInt8) => attr_more W row a b (by omega)
              have HADD := hide hadd
              clear hadd
              by_cases hee : (B.equal s l').err = 0
              · have e80 : ((B.equal s l').err == 0) = true := by rw [hee]; rfl
                have hat : B.attr s l' = (((B.equal s l').value s).1, ((B.name s).2.data.toList, ((B.equal s l').value s).2)) := by unfold Sc.attr; rw [if_pos hee]
                have hvl := HVL.out _ _ R8.out.1 (hel hee)
                have HEL := hide (hel hee)
                have HEE := hide hee
                have HAT := hide hat
                clear hee hat hel
                go_wp2_with fail
                refine hvl.mono ?_
                rintro e w9 ⟨rfl, r9⟩
                have R9 := hide (R8.out.on r9)
                have ROW9 := hide (row_stays ROW8.out hX r9.2)
                clear r9 hvl
                obtain ⟨v', W', hrun, row10, gr, hat4⟩ := HADD.out w9 ROW9.out (B.name s).2.data.toList ((B.equal s l').value s).2
                have hN : strV (B.name s).2.data.toList = .string (B.name s).2 := by unfold strV; simp
                rw [hN] at hrun gr
                unfold strV at hrun gr
                have ROW10 := hide row10
                have GR := hide gr
                have HAT4 := hide hat4
                clear row10 gr hat4
                go_wp2_with (at_builtin; refine wpList_app54 rfl (.tmp 64) (.tmp 68) rfl rfl _ _ rfl rfl hrun ?_)
                have hfin := AI.next (o := .cells #[.string (B.name s).2, .string ⟨((B.equal s l').value s).2.toArray⟩] 76) (w9 := w9) (W' := W') (v' := v') hlt U.out HE.out HBN.out hBi Q1.out Q2.out HEQ.out (by rw [HAT.out]; exact R9.out) (by rw [HAT.out]; exact ROW10.out) GR.out HAT4.out
                exact ⟨⟨_, _, _, hfin.1⟩, hfin.2⟩
              · have e80 : ((B.equal s l').err == 0) = false := by simpa using hee
                have hat : B.attr s l' = (B.equal s l', ((B.name s).2.data.toList, [])) := by unfold Sc.attr; rw [if_neg hee]
                have HAT := hide hat
                clear hee hat hel
                obtain ⟨v', W', hrun, row10, gr, hat4⟩ := HADD.out w8 ROW8.out (B.name s).2.data.toList []
                have hN : strV (B.name s).2.data.toList = .string (B.name s).2 := by unfold strV; simp
                rw [hN] at hrun gr
                unfold strV at hrun gr
                have ROW10 := hide row10
                have GR := hide gr
                have HAT4 := hide hat4
                clear row10 gr hat4
                go_wp2_with (at_builtin; refine wpList_app54 rfl (.tmp 64) (.tmp 68) rfl rfl _ _ rfl rfl hrun ?_)
                have hfin := AI.next (o := .cells #[.string (B.name s).2, .string ⟨([] : List UInt8).toArray⟩] 76) (w9 := w8) (W' := W') (v' := v') hlt U.out HE.out HBN.out hBi Q1.out Q2.out HEQ.out (by rw [HAT.out]; exact R8.out) (by rw [HAT.out]; exact ROW10.out) GR.out HAT4.out
                exact ⟨⟨_, _, _, hfin.1⟩, hfin.2⟩
        · rw [if_pos (Or.inr (Or.inr (Or.inr q62)))] at heq
          rw [q47] at i47
          rw [q62] at i62
          have I1 := hide i47
          have I2 := hide i62
          subst heq
          clear he hBe hbb i47 i62 hsk q47 q62 hleft
          go_wp2_with fail
          refine hbl.mono ?_
          rintro e w1 ⟨rfl, r1⟩
          have R1 := hide (U.out.se.on r1)
          have ROW1 := hide (row_stays U.out.row hX r1.2)
          have c15 : w1.cell? ⟨X, 5, none⟩ = some (.int .i64 B.err) := r1.1.cell 5 rfl
          clear r1 hbl
          go_wp2_with fail
          refine (I1.out _ R1.out.1).mono ?_
          rintro e w2 ⟨rfl, b2⟩
          have R2 := hide (R1.out.below hlt b2)
          have ROW2 := hide (owns_of ROW1.out fun k e => b2.block k (own_lt ROW1.out e))
          clear b2
          go_wp2_with fail
          refine (I2.out _ R2.out.1).mono ?_
          rintro e w3 ⟨rfl, b3⟩
          have R3 := hide (R2.out.below hlt b3)
          have ROW3 := hide (owns_of ROW2.out fun k e => b3.block k (own_lt ROW2.out e))
          clear b3 I1 I2
          go_wp2
          go_ret
          exact ⟨_, rfl, R3.out, ROW3.out, U.out.own⟩
      · rw [if_pos (Or.inr (Or.inr (Or.inl q47)))] at heq
        rw [q47] at i47
        have I1 := hide i47
        subst heq
        clear he hBe hbb i47 i62 hsk q47 hleft
        go_wp2_with fail
        refine hbl.mono ?_
        rintro e w1 ⟨rfl, r1⟩
        have R1 := hide (U.out.se.on r1)
        have ROW1 := hide (row_stays U.out.row hX r1.2)
        have c15 : w1.cell? ⟨X, 5, none⟩ = some (.int .i64 B.err) := r1.1.cell 5 rfl
        clear r1 hbl
        go_wp2_with fail
        refine (I1.out _ R1.out.1).mono ?_
        rintro e w2 ⟨rfl, b2⟩
        have R2 := hide (R1.out.below hlt b2)
        have ROW2 := hide (owns_of ROW1.out fun k e => b2.block k (own_lt ROW1.out e))
        clear b2
        go_wp2
        go_ret
        exact ⟨_, rfl, R2.out, ROW2.out, U.out.own⟩
end Go.Proofs.YtgognegkcplcpaaGreatDoor
