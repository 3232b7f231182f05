import Derived.Test.YtfolnkmbdmfigaaGreatDoorGan
import Derived.Test.YtfolnkmbdmfigaaGreatDoorGal
set_option linter.unusedVariables false
set_option linter.unusedSimpArgs false
set_option linter.unusedSimpArgs false
set_option linter.unusedVariables false
namespace Go.Proofs.YtfolnkmbdmfigaaGreatDoor
open Go.RowKit Go.Lib
variable {g : St → List Tok} {s : ByteArray} {i : Nat} {pt pt' : Part} {st st' : St} {no q c : Int} {x y : Sc}
abbrev Ats := List (List UInt8 × List UInt8)
def Sc.twice (x : Sc) (s : ByteArray) (l : Ats) : Sc := if l.any (fun a => a.1 == (x.name s).2.data.toList) = true then (x.name s).1.fail 5 x.i else (x.name s).1
def Sc.equal (x : Sc) (s : ByteArray) (l : Ats) : Sc := (Sc.mustL s [61] ((x.twice s l).blanks s)).blanks s
def Sc.attr (x : Sc) (s : ByteArray) (l : Ats) : Sc × (List UInt8 × List UInt8) :=
  if (x.equal s l).err = 0 then (((x.equal s l).value s).1, ((x.name s).2.data.toList, ((x.equal s l).value s).2)) else (x.equal s l, ((x.name s).2.data.toList, []))
def attrsF (s : ByteArray) : Nat → Sc → Ats → Sc × Ats
  | 0, x, l => (x, l)
  | f + 1, x, l => if x.skip s = 0 ∨ (x.blanks s).err ≠ 0 ∨ (x.blanks s).is s 47 = true ∨ (x.blanks s).is s 62 = true then (x.blanks s, l) else attrsF s f ((x.blanks s).attr s l).1 (l ++ [((x.blanks s).attr s l).2])
def Sc.attrs (x : Sc) (s : ByteArray) : Sc × Ats := attrsF s (s.size + 2) x []
theorem attrsF_err (he : x.err ≠ 0) (f : Nat) (l : Ats) : attrsF s f x l = (x, l) := by
  cases f with
  | zero => rfl
  | succ f => simp only [attrsF]; rw [blanks_err he, if_pos (Or.inr (Or.inl he))]
structure InA (x : Sc) (st : St) (l : Ats) (nm : List UInt8) (tg : Int) : Prop where
  tag : InTag x st
  attrs : st.attrs = l
  names : st.names = l.map Prod.fst
  value : st.run .value = []
  name : st.run .name = nm
  at_ : st.tagAt = tg
theorem names_any (l : Ats) (n : List UInt8) : (l.map Prod.fst).contains n = l.any (fun a => a.1 == n) := by
  induction l with
  | nil => rfl
  | cons a l ih =>
    simp only [List.map_cons, List.contains_cons, List.any_cons, ih]
    congr 1
    rw [Bool.eq_iff_iff, beq_iff_eq, beq_iff_eq]; exact eq_comm
theorem gap_attrP (st : St) (i : Int) (c : Int) (h : Tk.blank c = true) : stepPart (.plain .attrP) i st c = ⟨st, .go (.plain .attrP)⟩ := by
  simp only [stepPart, step, stAttr]; rw [if_pos h]
theorem gap_equals (st : St) (i : Int) (c : Int) (h : Tk.blank c = true) : stepPart (.plain .equals) i st c = ⟨st, .go (.plain .equals)⟩ := by
  simp only [stepPart, step]; rw [if_pos h]
theorem blank_begins {c : Int} (h : Tk.blank c = true) : ¬ Ch.begins c = true := by
  have := tk_blank h
  rw [Ch.begins_iff]; omega
theorem gap_blanks (st : St) (i : Int) (c : Int) (h : Tk.blank c = true) : stepPart (.plain .blanks) i st c = ⟨st, .go (.plain .blanks)⟩ := by
  simp only [stepPart, step, stPart]; rw [if_neg (blank_begins h), if_pos h]
theorem gap_closing (st : St) (i : Int) (c : Int) (h : Tk.blank c = true) : stepPart (.plain .closing) i st c = ⟨st, .go (.plain .closing)⟩ := by
  simp only [stepPart, step]; rw [if_pos h]
theorem name_yes (he : x.err = 0) (hb : Ch.begins (cur s x.i) = true) : (x.name s).1 = { x with i := nend s x.i } ∧ (x.name s).2.data.toList = Ch.bytes s x.i (nend s x.i - x.i) := by
  obtain ⟨h1, h2⟩ := nlen_yes (s := s) hb
  unfold Sc.name
  rw [if_pos he, if_neg (by omega), h1]
  refine ⟨by simp only [Sc.mk.injEq, and_true]; omega, ?_⟩
  simp only
  rw [bytes_extract]; congr 1; omega
theorem name_no (he : x.err = 0) (hb : ¬ Ch.begins (cur s x.i) = true) : x.name s = (x.wrong s, ⟨#[]⟩) := by
  unfold Sc.name; rw [if_pos he, if_pos (nlen_no hb)]
theorem runs_first (j : Rn) (k : Pl) (p : Nat) (st : St) (hb : Ch.begins (cur s p) = true) : runs g s (p + wid s p) (.name j k) ((st.clear j).put j (cur s p) p) = runs g s (nend s p) (.plain k) (st.setRun j (Ch.bytes s p (nend s p - p)) p) := by
  have h0 : 0 ≤ cur s p := by have := (Ch.begins_iff _).1 hb; omega
  have hc := cur_pos h0
  have hn : inN (cur s p) = true := by unfold inN; rw [hb]; rfl
  have hg := nend_ge s (p + wid s p)
  have e : (st.clear j).put j (cur s p) p = st.setRun j (Ch.bytes s p (wid s p)) p := by
    unfold St.put St.clear
    rw [setRun_twice]
    simp only [St.setRun, if_true]
    rw [enc_cur h0]; simp
  rw [e, runs_name _ _ _ _ (by simp only [St.setRun, if_true]; exact bytes_ne s (by omega) hc.2.2.2.1), setRun_twice, nend_yes hn]
  simp only [St.setRun, if_true]
  rw [bytes_add, show wid s p + (nend s (p + wid s p) - (p + wid s p)) = nend s (p + wid s p) - p by omega]
theorem must_one (he : x.err = 0) {c : UInt8} (hc : 32 ≤ c.toNat ∧ c.toNat < 128) : Sc.mustL s [c] x = if cur s x.i = (c.toNat : Int) then { x with i := x.i + 1 } else x.wrong s := by
  simp only [Sc.mustL]
  rw [if_pos he]
  by_cases h : cur s x.i = (c.toNat : Int)
  · rw [if_pos ((is_cur he (by omega)).2 h), if_pos h]
  · have : ¬ x.is s c.toNat = true := fun e => h ((is_cur he (by omega)).1 e)
    rw [if_neg this, if_neg h]
theorem value_cases (he : x.err = 0) : x.value s = if cur s x.i = 34 ∨ cur s x.i = 39 then
    ({ (valF s (cur s x.i).toNat (s.size + 2) { x with i := x.i + 1 } []).1 with i := (valF s (cur s x.i).toNat (s.size + 2) { x with i := x.i + 1 } []).1.i + 1 }, (valF s (cur s x.i).toNat (s.size + 2) { x with i := x.i + 1 } []).2) else (x.wrong s, []) := by
  have i34 : x.is s 34 = true ↔ cur s x.i = 34 := is_cur he (by omega)
  have i39 : x.is s 39 = true ↔ cur s x.i = 39 := is_cur he (by omega)
  unfold Sc.value
  by_cases h : cur s x.i = 34 ∨ cur s x.i = 39
  · have hb : (s.get! x.i).toNat = (cur s x.i).toNat := by
      rcases h with h | h
      · have := ((cur_byte (s := s) (i := x.i) (c := 34) (by omega)).1 h).2; rw [h, this]; rfl
      · have := ((cur_byte (s := s) (i := x.i) (c := 39) (by omega)).1 h).2; rw [h, this]; rfl
    rw [if_pos h, if_pos (h.imp i34.2 i39.2), hb]
  · rw [if_neg h, if_neg (fun e => h (e.imp i34.1 i39.1))]
theorem runs_attr {l : Ats} {nm : List UInt8} {tg : Int} (he : x.err = 0) (hi : x.i ≤ s.size) (hA : InA x st l nm tg) (hbl : ¬ Tk.blank (cur s x.i) = true) (h47 : ¬ cur s x.i = 47) (h62 : ¬ cur s x.i = 62) :
    ((x.attr s l).1.err = 0 ∧ x.i < (x.attr s l).1.i ∧ (x.attr s l).1.i ≤ s.size ∧ (x.attr s l).1 = { x with i := (x.attr s l).1.i } ∧ ∃ st', InA (x.attr s l).1 st' (l ++ [(x.attr s l).2]) nm tg ∧ runs g s x.i (.plain .blanks) st = runs g s (x.attr s l).1.i (.plain .part) st') ∨
    ((x.attr s l).1.err ≠ 0 ∧ (x.attr s l).1.l = x.l ∧ runs g s x.i (.plain .blanks) st = (x.l, (x.attr s l).1.err, (x.attr s l).1.at_)) := by
  by_cases hb : Ch.begins (cur s x.i) = true
  · obtain ⟨hn1, hn2⟩ := name_yes he hb
    have h0 : 0 ≤ cur s x.i := by have := (Ch.begins_iff _).1 hb; omega
    have hlt := (nlen_yes (s := s) hb).2
    have hle := nend_le hi
    generalize hE : nend s x.i = E at *
    generalize hN : Ch.bytes s x.i (E - x.i) = N at *
    have e1 : stepPart (.plain .blanks) x.i st (cur s x.i) = ⟨(st.clear .attr).put .attr (cur s x.i) x.i, .go (.name .attr .newAttr)⟩ := by
      simp only [stepPart, step, stName1]; rw [if_pos hb, if_pos hb]
    rw [runs_go e1 h0, runs_first .attr .newAttr x.i st hb, hE, hN]
    have hc : st.names.contains N = l.any (fun a => a.1 == N) := by rw [hA.names, names_any]
    by_cases ht : l.any (fun a => a.1 == N) = true
    · have htw : x.twice s l = { x with i := E, err := 5, at_ := x.i } := by
        unfold Sc.twice; rw [hn2, if_pos ht, hn1]; unfold Sc.fail; rw [if_pos he]
      have h5 : (x.twice s l).err ≠ 0 := by rw [htw]; simp
      have heq : x.equal s l = x.twice s l := by unfold Sc.equal; rw [blanks_err h5, mustL_err s _ h5, blanks_err h5]
      have hat : x.attr s l = (x.twice s l, (N, [])) := by unfold Sc.attr; rw [heq, if_neg h5, hn2]
      rw [hat]
      refine Or.inr ⟨h5, by rw [htw], ?_⟩
      have e2 : stepPart (.plain .newAttr) E (st.setRun .attr N x.i) (cur s E) = ⟨st.setRun .attr N x.i, .fail 5 x.i⟩ := by
        simp only [stepPart, step]
        rw [if_pos (by simpa [St.setRun] using hc.trans ht)]
        simp [St.setRun]
      rw [runs_fail e2, htw, ← hA.tag.told]; rfl
    · have htw : x.twice s l = { x with i := E } := by
        unfold Sc.twice; rw [hn2, if_neg ht, hn1]
      have he1 : (x.twice s l).err = 0 := by rw [htw]; exact he
      generalize hst2 : ({ st.setRun .attr N x.i with names := st.names ++ [N] } : St) = st2
      have e2 : runs g s E (.plain .newAttr) (st.setRun .attr N x.i) = runs g s E (.plain .attrP) st2 := by
        refine runs_same ?_ (by rw [← hst2]) (fun ⟨o, h⟩ => by cases plain_stop h)
        simp only [stepPart, step]
        rw [if_neg (by simpa [St.setRun] using fun h => ht (hc.symm.trans h)), ← hst2]
        simp [St.setRun]
      rw [e2, runs_gap (gap_attrP st2)]
      have hg1 := gap_le hle
      have hg1e := gap_end s E
      generalize hE1 : E + gap s E = E1 at *
      have hbk : (x.twice s l).blanks s = { x with i := E1 } := by rw [blanks_gap he1, htw]; simp only; rw [hE1]
      have hmu := must_one (s := s) (x := { x with i := E1 }) he (c := 61) (by decide)
      by_cases h61 : cur s E1 = 61
      · have hw1 := wid_byte (s := s) (i := E1) (by omega) (by omega)
        have hp1 := cur_pos (s := s) (i := E1) (by omega)
        have e3 : stepPart (.plain .attrP) E1 st2 (cur s E1) = ⟨st2, .go (.plain .equals)⟩ := by
          simp only [stepPart, step, stAttr]; rw [if_neg hg1e, if_pos h61]
        rw [runs_go e3 (by omega), hw1, runs_gap (gap_equals st2)]
        have hg2 := gap_le (s := s) (i := E1 + 1) (by omega)
        have hg2e := gap_end s (E1 + 1)
        generalize hE2 : E1 + 1 + gap s (E1 + 1) = E2 at *
        have hmu' : Sc.mustL s [61] { x with i := E1 } = { x with i := E1 + 1 } := by rw [hmu]; exact if_pos h61
        have heq : x.equal s l = { x with i := E2 } := by
          unfold Sc.equal; rw [hbk, hmu', blanks_gap (x := { x with i := E1 + 1 }) he]; simp only; rw [hE2]
        have hvc := value_cases (s := s) (x := { x with i := E2 }) he
        simp only at hvc
        have hat : x.attr s l = ((Sc.value { x with i := E2 } s).1, (N, (Sc.value { x with i := E2 } s).2)) := by
          unfold Sc.attr; rw [heq, if_pos he, hn2]
        by_cases hq : cur s E2 = 34 ∨ cur s E2 = 39
        · have hw2 := wid_byte (s := s) (i := E2) (by omega) (by omega)
          have hp2 := cur_pos (s := s) (i := E2) (by omega)
          have e4 : stepPart (.plain .equals) E2 st2 (cur s E2) = ⟨{ st2 with quote := cur s E2 }, .go (.plain .valueP)⟩ := by
            simp only [stepPart, step]; rw [if_neg hg2e, if_pos hq]
          rw [if_pos hq] at hvc
          rw [runs_go e4 (by omega), hw2]
          have hst3 : ({ st2 with quote := cur s E2 } : St).run .value = [] := by rw [← hst2]; simpa [St.setRun] using hA.value
          have htold : ({ st2 with quote := cur s E2 } : St).told = x.l := by rw [← hst2]; exact hA.tag.told
          have hval := runs_value (g := g) (s := s) (cur s E2).toNat (by omega) (by omega) (s.size + 2) { x with i := E2 + 1 } [] { st2 with quote := cur s E2 } he (by show E2 + 1 ≤ _; omega) (by show _ < E2 + 1 + _; omega) htold (by simp only; omega) hst3
          simp only at hval
          rw [hat, hvc]
          generalize hvf : valF s (cur s E2).toNat (s.size + 2) { x with i := E2 + 1 } [] = V at *
          rcases hval with ⟨v1, v2, v3, v4, r, a, b, v5⟩ | ⟨v1, v2, v3⟩
          · refine Or.inl ⟨v1, by show x.i < V.1.i + 1; omega, v3, by simp only; rw [v4], _, ?_, v5⟩
            constructor
            · refine hA.tag.same ?_ ?_ ?_ ?_ ?_ ?_
              · rw [← hst2]; rfl
              · rw [← hst2]; simp [St.addAttr, St.clear, St.setRun]
              · rw [← hst2]; simp [St.addAttr, St.clear, St.setRun]
              · simp only; rw [v4]
              · simp only; rw [v4]
              · simp only; rw [v4]
            · rw [← hst2]; simp [St.addAttr, St.clear, St.setRun, hA.attrs]
            · rw [← hst2]; simp [St.addAttr, St.clear, St.setRun, hA.names]
            · simp [St.addAttr, St.clear, St.setRun]
            · rw [← hst2]; simpa [St.addAttr, St.clear, St.setRun] using hA.name
            · rw [← hst2]; exact hA.at_
          · exact Or.inr ⟨v1, v2, v3⟩
        · rw [if_neg hq] at hvc
          rw [hat, hvc, wrong_cur (x := { x with i := E2 }) he]
          refine Or.inr ⟨?_, rfl, ?_⟩
          · show Tk.why _ ≠ 0
            unfold Tk.why; split <;> omega
          · have e4 : stepPart (.plain .equals) E2 st2 (cur s E2) = ⟨st2, .fail (Tk.why (cur s E2)) E2⟩ := by
              simp only [stepPart, step]; rw [if_neg hg2e, if_neg hq]
            rw [runs_fail e4, ← hst2]
            simp only
            rw [show (st.setRun .attr N x.i).told = x.l from hA.tag.told]
      · have hmu' : Sc.mustL s [61] { x with i := E1 } = Sc.wrong { x with i := E1 } s := by rw [hmu]; exact if_neg h61
        have hwe := wrong_err { x with i := E1 } s he
        have heq : x.equal s l = Sc.wrong { x with i := E1 } s := by
          unfold Sc.equal; rw [hbk, hmu', blanks_err hwe]
        have hat : x.attr s l = (Sc.wrong { x with i := E1 } s, (N, [])) := by unfold Sc.attr; rw [heq, if_neg hwe, hn2]
        rw [hat, wrong_cur (x := { x with i := E1 }) he]
        refine Or.inr ⟨?_, rfl, ?_⟩
        · show Tk.why _ ≠ 0
          unfold Tk.why; split <;> omega
        · have e3 : stepPart (.plain .attrP) E1 st2 (cur s E1) = ⟨st2, .fail (Tk.why (cur s E1)) E1⟩ := by
            simp only [stepPart, step, stAttr]; rw [if_neg hg1e, if_neg h61]
          rw [runs_fail e3, ← hst2]
          simp only
          rw [show (st.setRun .attr N x.i).told = x.l from hA.tag.told]
  · have hn := name_no (s := s) he hb
    have hwe := wrong_err x s he
    have htw : x.twice s l = x.wrong s := by
      unfold Sc.twice
      rw [hn]
      simp only
      split
      · unfold Sc.fail; rw [if_neg hwe]
      · rfl
    have heq : x.equal s l = x.wrong s := by unfold Sc.equal; rw [htw, blanks_err hwe, mustL_err s _ hwe, blanks_err hwe]
    have hat : (x.attr s l).1 = x.wrong s := by unfold Sc.attr; rw [heq, if_neg hwe]
    rw [hat]
    refine Or.inr ⟨hwe, by rw [wrong_cur he], ?_⟩
    have e : stepPart (.plain .blanks) x.i st (cur s x.i) = ⟨st, .fail (Tk.why (cur s x.i)) x.i⟩ := by
      simp only [stepPart, step, stPart]; rw [if_neg hb, if_neg hbl, if_neg h47, if_neg h62]
    rw [runs_fail e, wrong_cur he, hA.tag.told]
end Go.Proofs.YtfolnkmbdmfigaaGreatDoor

set_option linter.unusedSimpArgs false
set_option linter.unusedVariables false
namespace Go.Proofs.YtfolnkmbdmfigaaGreatDoor
open Go.RowKit Go.Lib
variable {g : St → List Tok} {s : ByteArray} {i : Nat} {pt pt' : Part} {st st' : St} {no q c : Int} {x y : Sc}
theorem runs_attrs {nm : List UInt8} {tg : Int} : ∀ (f : Nat) (x : Sc) (l : Ats) (st : St), x.err = 0 → x.i ≤ s.size → s.size + 1 < x.i + f → InA x st l nm tg →
    ((attrsF s f x l).1.err = 0 ∧ x.i ≤ (attrsF s f x l).1.i ∧ (attrsF s f x l).1.i ≤ s.size ∧ (attrsF s f x l).1 = { x with i := (attrsF s f x l).1.i } ∧ ¬ Tk.blank (cur s (attrsF s f x l).1.i) = true ∧ ∃ st', InA (attrsF s f x l).1 st' (attrsF s f x l).2 nm tg ∧ runs g s x.i (.plain .part) st = runs g s (attrsF s f x l).1.i (.plain .part) st') ∨
    ((attrsF s f x l).1.err ≠ 0 ∧ (attrsF s f x l).1.l = x.l ∧ runs g s x.i (.plain .part) st = (x.l, (attrsF s f x l).1.err, (attrsF s f x l).1.at_)) := by
  intro f
  induction f with
  | zero => intro x l st he hi hf; omega
  | succ f ih =>
    intro x l st he hi hf hA
    simp only [attrsF]
    rw [blanks_gap he, skip_gap he]
    have hg := gap_le hi
    have hge := gap_end s x.i
    by_cases h0 : gap s x.i = 0
    · rw [if_pos (Or.inl h0)]
      rw [h0] at hge
      simp only [h0, Nat.add_zero] at hge ⊢
      exact Or.inl ⟨he, Nat.le_refl _, hi, trivial, hge, st, hA, rfl⟩
    · have hb : Tk.blank (cur s x.i) = true := by
        by_cases hb : Tk.blank (cur s x.i) = true
        · exact hb
        · exact absurd (gap_no hb) h0
      have hv := tk_blank hb
      have hw := wid_byte (s := s) (i := x.i) (by omega) (by omega)
      have e1 : stepPart (.plain .part) x.i st (cur s x.i) = ⟨st, .go (.plain .blanks)⟩ := by
        simp only [stepPart, step, stPart]; rw [if_pos hb]
      have hrun : runs g s x.i (.plain .part) st = runs g s (x.i + gap s x.i) (.plain .blanks) st := by
        rw [runs_go e1 (by omega), hw, runs_gap (gap_blanks st), gap_yes hb]
        congr 1; omega
      have i47 := is_cur' (s := s) (x := { x with i := x.i + gap s x.i }) he (c := 47) (by omega)
      have i62 := is_cur' (s := s) (x := { x with i := x.i + gap s x.i }) he (c := 62) (by omega)
      simp only at i47 i62
      rw [i47, i62, hrun]
      generalize hp : x.i + gap s x.i = p at *
      by_cases hs : cur s p = 47 ∨ cur s p = 62
      · rw [if_pos (Or.inr (Or.inr (by simpa using hs)))]
        refine Or.inl ⟨he, by show x.i ≤ p; omega, hg, rfl, hge, st, ?_, ?_⟩
        · exact ⟨⟨hA.tag.told, hA.tag.text, hA.tag.from_⟩, hA.attrs, hA.names, hA.value, hA.name, hA.at_⟩
        · refine runs_same ?_ rfl (fun _ => rfl)
          have hnb : ¬ Ch.begins (cur s p) = true := by rw [Ch.begins_iff]; omega
          simp only [stepPart, step]
          rw [if_neg hnb]
      · rw [if_neg (by simp only [decide_eq_true_eq]; rintro (h | h | h | h); exact h0 h; exact h he; exact hs (Or.inl h); exact hs (Or.inr h))]
        have hA' : InA { x with i := p } st l nm tg := ⟨⟨hA.tag.told, hA.tag.text, hA.tag.from_⟩, hA.attrs, hA.names, hA.value, hA.name, hA.at_⟩
        have hone := runs_attr (g := g) (s := s) (x := { x with i := p }) (l := l) he hg hA' hge (fun h => hs (Or.inl h)) (fun h => hs (Or.inr h))
        simp only at hone
        generalize Sc.attr { x with i := p } s l = A at *
        rcases hone with ⟨a1, a2, a3, a4, st', a5, a6⟩ | ⟨a1, a2, a3⟩
        · rw [a6]
          have hih := ih A.1 (l ++ [A.2]) st' a1 a3 (by omega) a5
          generalize attrsF s f A.1 (l ++ [A.2]) = B at *
          have hl : A.1.l = x.l := by rw [a4]
          rcases hih with ⟨b1, b2, b3, b4, b5, st'', b6, b7⟩ | ⟨b1, b2, b3⟩
          · refine Or.inl ⟨b1, by omega, b3, ?_, b5, st'', b6, b7⟩
            rw [b4, a4]
          · exact Or.inr ⟨b1, by rw [b2, hl], by rw [b3, hl]⟩
        · rw [attrsF_err a1]
          exact Or.inr ⟨a1, a2, a3⟩

structure Rel (x : Sc) (st : St) : Prop where
  tag : InTag x st
  attrs : st.attrs = []
  names : st.names = []
  value : st.run .value = []
theorem tellText_run (st : St) (j : Rn) (h : j ≠ .text) : st.tellText.run j = st.run j := by
  unfold St.tellText; split
  · rfl
  · simp [St.clear, St.setRun, h]
theorem tellText_text (st : St) : st.tellText.run .text = [] := by
  unfold St.tellText; split
  · rename_i h; simpa using h
  · simp [St.clear, St.setRun]
theorem tellText_fields (st : St) : st.tellText.attrs = st.attrs ∧ st.tellText.names = st.names ∧ st.tellText.quote = st.quote ∧ st.tellText.tagAt = st.tagAt := by
  unfold St.tellText; split <;> exact ⟨rfl, rfl, rfl, rfl⟩
theorem tellText_tok (h : InTag x st) : st.tellText.told = if x.more = [] then x.l else x.l ++ [txtTok x] := by
  unfold St.tellText
  rw [h.text]
  by_cases hm : x.more = []
  · rw [if_pos (by simp [hm]), if_pos hm]; exact h.told
  · rw [if_neg (by simpa using hm), if_neg hm]
    show st.told ++ [_] = _
    rw [h.told]
    have := h.from_ hm
    simp only [txtTok, this]
theorem told_l (he : x.err = 0) (t : Tok) : x.told t = { x with l := (if x.more = [] then x.l else x.l ++ [txtTok x]) ++ [t], more := [] } := by
  unfold Sc.told
  rw [if_neg (by simpa using he)]
  congr 1
  split <;> simp
theorem tell_open {l : Ats} {nm : List UInt8} {tg : Int} (he : x.err = 0) (h : InA x st l nm tg) : InA (x.told ⟨1, nm, l, [], tg⟩) st.tellOpening [] nm tg := by
  have hf := tellText_fields st
  rw [told_l he]
  refine ⟨⟨?_, ?_, fun e => absurd rfl e⟩, rfl, rfl, ?_, ?_, ?_⟩
  · show st.tellText.told ++ [_] = _
    rw [tellText_tok h.tag, h.name, h.attrs, h.at_]
  · exact tellText_text st
  · show st.tellText.run .value = []
    rw [tellText_run _ _ (by decide)]; exact h.value
  · show st.tellText.run .name = nm
    rw [tellText_run _ _ (by decide)]; exact h.name
  · show st.tellText.tagAt = tg
    rw [hf.2.2.2]; exact h.at_
theorem tell_close {nm : List UInt8} {tg : Int} (he : x.err = 0) (h : InA x st [] nm tg) : Rel (x.told ⟨2, nm, [], [], tg⟩) st.tellClosing := by
  have hf := tellText_fields st
  rw [told_l he]
  refine ⟨⟨?_, ?_, fun e => absurd rfl e⟩, ?_, ?_, ?_⟩
  · show st.tellText.told ++ [_] = _
    rw [tellText_tok h.tag, h.name, h.at_]
  · exact tellText_text st
  · show st.tellText.attrs = []
    rw [hf.1]; exact h.attrs
  · show st.tellText.names = []
    rw [hf.2.1, h.names]; rfl
  · show st.tellText.run .value = []
    rw [tellText_run _ _ (by decide)]; exact h.value
theorem InA.rel {nm : List UInt8} {tg : Int} (h : InA x st [] nm tg) : Rel x st := ⟨h.tag, h.attrs, by rw [h.names]; rfl, h.value⟩
theorem Rel.at (h : Rel x st) (j : Nat) : Rel { x with i := j } st := ⟨⟨h.tag.told, h.tag.text, h.tag.from_⟩, h.attrs, h.names, h.value⟩

def Sc.openTail (x : Sc) (s : ByteArray) (nm : List UInt8) (l : Ats) (tg : Int) : Sc :=
  if x.is s 47 = true then ((Sc.mustL s [62] { x with i := x.i + 1 }).told ⟨1, nm, l, [], tg⟩).told ⟨2, nm, [], [], tg⟩ else (Sc.mustL s [62] x).told ⟨1, nm, l, [], tg⟩
def Sc.openTag (x : Sc) (s : ByteArray) (tg : Int) : Sc := ((x.name s).1.attrs s).1.openTail s (x.name s).2.data.toList ((x.name s).1.attrs s).2 tg
def Sc.closeTag (x : Sc) (s : ByteArray) (tg : Int) : Sc := (Sc.mustL s [62] ((x.name s).1.blanks s)).told ⟨2, (x.name s).2.data.toList, [], [], tg⟩
def Sc.order (x : Sc) (s : ByteArray) : Sc := ((x.name s).1.until s ⟨#[63, 62]⟩).1
def Sc.remark (x : Sc) (s : ByteArray) : Sc := Sc.mustL s [62] ((Sc.mustL s [45, 45] x).until s ⟨#[45, 45]⟩).1
def Sc.cdata (x : Sc) (s : ByteArray) : Sc :=
  if ((Sc.mustL s [91, 67, 68, 65, 84, 65, 91] x).until s ⟨#[93, 93, 62]⟩).1.err = 0 ∧ ((Sc.mustL s [91, 67, 68, 65, 84, 65, 91] x).until s ⟨#[93, 93, 62]⟩).2.data.toList ≠ []
  then ((Sc.mustL s [91, 67, 68, 65, 84, 65, 91] x).until s ⟨#[93, 93, 62]⟩).1.texted ((Sc.mustL s [91, 67, 68, 65, 84, 65, 91] x).until s ⟨#[93, 93, 62]⟩).2 (Sc.mustL s [91, 67, 68, 65, 84, 65, 91] x).i
  else ((Sc.mustL s [91, 67, 68, 65, 84, 65, 91] x).until s ⟨#[93, 93, 62]⟩).1
def Sc.bang (x : Sc) (s : ByteArray) : Sc := if x.is s 91 = true then x.cdata s else x.remark s
def Sc.behind (x : Sc) (s : ByteArray) (tg : Int) : Sc :=
  if x.is s 33 = true then Sc.bang { x with i := x.i + 1 } s
  else if x.is s 63 = true then Sc.order { x with i := x.i + 1 } s
  else if x.is s 47 = true then Sc.closeTag { x with i := x.i + 1 } s tg
  else x.openTag s tg
def Sc.markup (x : Sc) (s : ByteArray) : Sc := Sc.behind { x with i := x.i + 1 } s x.i
def Grown (x y : Sc) : Prop := y.at_ = x.at_ ∧ y.more.length + x.i ≤ x.more.length + y.i ∧ y.l.length ≤ x.l.length + 3
def Done (g : St → List Tok) (s : ByteArray) (x y : Sc) (A : List Tok × Int × Int) : Prop :=
  (y.err = 0 ∧ x.i < y.i ∧ y.i ≤ s.size ∧ Grown x y ∧ ∃ st', Rel y st' ∧ A = runs g s y.i (.plain .between) st') ∨ (y.err ≠ 0 ∧ y.l = x.l ∧ A = (x.l, y.err, y.at_))
theorem told_err' (he : x.err ≠ 0) (t : Tok) : x.told t = x := by unfold Sc.told; rw [if_pos he]
theorem told_i (x : Sc) (t : Tok) : (x.told t).i = x.i := by unfold Sc.told; split <;> rfl
theorem told_more (x : Sc) (t : Tok) : (x.told t).more.length ≤ x.more.length := by unfold Sc.told; split <;> simp
theorem told_none (x : Sc) (he : x.err = 0) (t : Tok) : (x.told t).more = [] := by unfold Sc.told; rw [if_neg (by simpa using he)]
theorem told_len (x : Sc) (t : Tok) : (x.told t).l.length ≤ x.l.length + 2 := by
  unfold Sc.told; split
  · omega
  · simp only [List.length_append]; split <;> simp
theorem told_len1 (x : Sc) (t : Tok) (h : x.more = []) : (x.told t).l.length ≤ x.l.length + 1 := by
  unfold Sc.told; split
  · omega
  · simp [List.length_append, h]
theorem told_a (x : Sc) (t : Tok) : (x.told t).at_ = x.at_ := by unfold Sc.told; split <;> rfl
theorem told_e (x : Sc) (t : Tok) : (x.told t).err = x.err := by unfold Sc.told; split <;> rfl
theorem done_close {nm : List UInt8} {tg : Int} (he : x.err = 0) (hi : x.i ≤ s.size) (hA : InA x st [] nm tg) : Done g s x ((Sc.mustL s [62] (x.blanks s)).told ⟨2, nm, [], [], tg⟩) (runs g s x.i (.plain .closing) st) := by
  rw [runs_gap (gap_closing st), blanks_gap he]
  have hg := gap_le hi
  have hge := gap_end s x.i
  generalize hp : x.i + gap s x.i = p at *
  have hm := must_one (s := s) (x := { x with i := p }) he (c := 62) (by decide)
  by_cases h62 : cur s p = 62
  · have hm' : Sc.mustL s [62] { x with i := p } = { x with i := p + 1 } := by rw [hm]; exact if_pos h62
    rw [hm']
    have hw := wid_byte (s := s) (i := p) (by omega) (by omega)
    have hc := cur_pos (s := s) (i := p) (by omega)
    have e : stepPart (.plain .closing) p st (cur s p) = ⟨st.tellClosing, .go (.plain .between)⟩ := by
      simp only [stepPart, step]; rw [if_neg hge, if_pos h62]
    have hA' : InA { x with i := p + 1 } st [] nm tg := ⟨⟨hA.tag.told, hA.tag.text, hA.tag.from_⟩, hA.attrs, hA.names, hA.value, hA.name, hA.at_⟩
    refine Or.inl ⟨by rw [told_e]; exact he, by rw [told_i]; show x.i < p + 1; omega, by rw [told_i]; show p + 1 ≤ _; omega, ?_, _, tell_close (x := { x with i := p + 1 }) he hA', ?_⟩
    · have t1 := told_more { x with i := p + 1 } ⟨2, nm, [], [], tg⟩
      have t2 := told_len { x with i := p + 1 } ⟨2, nm, [], [], tg⟩
      simp only at t1 t2
      refine ⟨by rw [told_a], ?_, by omega⟩
      rw [told_i]; simp only; omega
    rw [runs_go e (by omega), hw, told_i]
  · have hm' : Sc.mustL s [62] { x with i := p } = Sc.wrong { x with i := p } s := by rw [hm]; exact if_neg h62
    have hwe := wrong_err { x with i := p } s he
    rw [hm', told_err' hwe]
    have e : stepPart (.plain .closing) p st (cur s p) = ⟨st, .fail (Tk.why (cur s p)) p⟩ := by
      simp only [stepPart, step]; rw [if_neg hge, if_neg h62]
    refine Or.inr ⟨hwe, by rw [wrong_cur (x := { x with i := p }) he], ?_⟩
    rw [runs_fail e, wrong_cur (x := { x with i := p }) he, hA.tag.told]
theorem done_tail {nm : List UInt8} {l : Ats} {tg : Int} (he : x.err = 0) (hi : x.i ≤ s.size) (hA : InA x st l nm tg) (hbl : ¬ Tk.blank (cur s x.i) = true) : Done g s x (x.openTail s nm l tg) (runs g s x.i (.plain .part) st) := by
  unfold Sc.openTail
  have i47 : x.is s 47 = true ↔ cur s x.i = 47 := is_cur he (by omega)
  by_cases h47 : cur s x.i = 47
  · rw [if_pos (i47.2 h47)]
    have hw := wid_byte (s := s) (i := x.i) (by omega) (by omega)
    have hc := cur_pos (s := s) (i := x.i) (by omega)
    have e : stepPart (.plain .part) x.i st (cur s x.i) = ⟨st, .go (.plain .slash)⟩ := by
      simp only [stepPart, step, stPart]; rw [if_neg hbl, if_pos h47]
    rw [runs_go e (by omega), hw]
    have hm := must_one (s := s) (x := { x with i := x.i + 1 }) he (c := 62) (by decide)
    by_cases h62 : cur s (x.i + 1) = 62
    · have hm' : Sc.mustL s [62] { x with i := x.i + 1 } = { x with i := x.i + 1 + 1 } := by rw [hm]; exact if_pos h62
      have hw2 := wid_byte (s := s) (i := x.i + 1) (by omega) (by omega)
      have hc2 := cur_pos (s := s) (i := x.i + 1) (by omega)
      have e2 : stepPart (.plain .slash) ((x.i + 1 : Nat) : Int) st (cur s (x.i + 1)) = ⟨st.tellOpening.tellClosing, .go (.plain .between)⟩ := by
        simp only [stepPart, step]; rw [if_pos h62]
      rw [hm', runs_go e2 (by omega), hw2]
      have hA' : InA { x with i := x.i + 1 + 1 } st l nm tg := ⟨⟨hA.tag.told, hA.tag.text, hA.tag.from_⟩, hA.attrs, hA.names, hA.value, hA.name, hA.at_⟩
      have h1 := tell_open (x := { x with i := x.i + 1 + 1 }) he hA'
      refine Or.inl ⟨by rw [told_e, told_e]; exact he, by rw [told_i, told_i]; show x.i < x.i + 1 + 1; omega, by rw [told_i, told_i]; show x.i + 1 + 1 ≤ _; omega, ?_, _, tell_close (by rw [told_e]; exact he) h1, ?_⟩
      · have t1 := told_none { x with i := x.i + 1 + 1 } he ⟨1, nm, l, [], tg⟩
        have t2 := told_len { x with i := x.i + 1 + 1 } ⟨1, nm, l, [], tg⟩
        have t3 := told_len1 _ ⟨2, nm, [], [], tg⟩ t1
        have t4 := told_more (Sc.told { x with i := x.i + 1 + 1 } ⟨1, nm, l, [], tg⟩) ⟨2, nm, [], [], tg⟩
        rw [t1] at t4
        simp only at t2 t3 t4
        refine ⟨by rw [told_a, told_a], ?_, by omega⟩
        rw [told_i, told_i]; simp only [List.length_nil] at t4 ⊢; omega
      rw [told_i, told_i]
    · have hm' : Sc.mustL s [62] { x with i := x.i + 1 } = Sc.wrong { x with i := x.i + 1 } s := by rw [hm]; exact if_neg h62
      have hwe := wrong_err { x with i := x.i + 1 } s he
      rw [hm', told_err' hwe, told_err' hwe]
      have e2 : stepPart (.plain .slash) ((x.i + 1 : Nat) : Int) st (cur s (x.i + 1)) = ⟨st, .fail (Tk.why (cur s (x.i + 1))) ((x.i + 1 : Nat) : Int)⟩ := by
        simp only [stepPart, step]; rw [if_neg h62]
      refine Or.inr ⟨hwe, by rw [wrong_cur (x := { x with i := x.i + 1 }) he], ?_⟩
      rw [runs_fail e2, wrong_cur (x := { x with i := x.i + 1 }) he, hA.tag.told]
  · rw [if_neg (fun h => h47 (i47.1 h))]
    have hm := must_one (s := s) (x := x) he (c := 62) (by decide)
    by_cases h62 : cur s x.i = 62
    · have hm' : Sc.mustL s [62] x = { x with i := x.i + 1 } := by rw [hm]; exact if_pos h62
      have hw := wid_byte (s := s) (i := x.i) (by omega) (by omega)
      have hc := cur_pos (s := s) (i := x.i) (by omega)
      have e : stepPart (.plain .part) x.i st (cur s x.i) = ⟨st.tellOpening, .go (.plain .between)⟩ := by
        simp only [stepPart, step, stPart]; rw [if_neg hbl, if_neg h47, if_pos h62]
      rw [hm', runs_go e (by omega), hw]
      have hA' : InA { x with i := x.i + 1 } st l nm tg := ⟨⟨hA.tag.told, hA.tag.text, hA.tag.from_⟩, hA.attrs, hA.names, hA.value, hA.name, hA.at_⟩
      refine Or.inl ⟨by rw [told_e]; exact he, by rw [told_i]; show x.i < x.i + 1; omega, by rw [told_i]; show x.i + 1 ≤ _; omega, ?_, _, (tell_open (x := { x with i := x.i + 1 }) he hA').rel, ?_⟩
      · have t1 := told_more { x with i := x.i + 1 } ⟨1, nm, l, [], tg⟩
        have t2 := told_len { x with i := x.i + 1 } ⟨1, nm, l, [], tg⟩
        simp only at t1 t2
        refine ⟨by rw [told_a], ?_, by omega⟩
        rw [told_i]; simp only; omega
      rw [told_i]
    · have hm' : Sc.mustL s [62] x = Sc.wrong x s := by rw [hm]; exact if_neg h62
      have hwe := wrong_err x s he
      rw [hm', told_err' hwe]
      have e : stepPart (.plain .part) x.i st (cur s x.i) = ⟨st, .fail (Tk.why (cur s x.i)) x.i⟩ := by
        simp only [stepPart, step, stPart]; rw [if_neg hbl, if_neg h47, if_neg h62]
      refine Or.inr ⟨hwe, by rw [wrong_cur he], ?_⟩
      rw [runs_fail e, wrong_cur he, hA.tag.told]
end Go.Proofs.YtfolnkmbdmfigaaGreatDoor

set_option linter.unusedSimpArgs false
set_option linter.unusedVariables false
namespace Go.Proofs.YtfolnkmbdmfigaaGreatDoor
open Go.RowKit Go.Lib
variable {g : St → List Tok} {s : ByteArray} {i : Nat} {pt pt' : Part} {st st' : St} {no q c : Int} {x y : Sc}
theorem Done.on {A : List Tok × Int × Int} {j : Nat} (h : Done g s { x with i := j } y A) (hj : x.i ≤ j) : Done g s x y A := by
  rcases h with ⟨h1, h2, h3, h4⟩ | ⟨h1, h2, h3⟩
  · have h2' : j < y.i := h2
    exact Or.inl ⟨h1, by omega, h3, ⟨h4.1.1, by have := h4.1.2.1; simp only at this; omega, h4.1.2.2⟩, h4.2⟩
  · exact Or.inr ⟨h1, h2, h3⟩
theorem grown_same (h1 : y.at_ = x.at_) (h2 : y.more = x.more) (h3 : y.l = x.l) (h4 : x.i ≤ y.i) : Grown x y := ⟨h1, by rw [h2]; omega, by rw [h3]; omega⟩
theorem Done.wrong (he : x.err = 0) {A : List Tok × Int × Int} (h : A = (x.l, Tk.why (cur s x.i), (x.i : Int))) : Done g s x (x.wrong s) A := by
  rw [wrong_cur he]
  refine Or.inr ⟨?_, rfl, h⟩
  show Tk.why _ ≠ 0
  unfold Tk.why; split <;> omega
theorem done_open (he : x.err = 0) (hi : x.i ≤ s.size) (h : Rel x st) (h47 : ¬ cur s x.i = 47) (h63 : ¬ cur s x.i = 63) (h33 : ¬ cur s x.i = 33) : Done g s x (x.openTag s st.tagAt) (runs g s x.i (.plain .less) st) := by
  by_cases hb : Ch.begins (cur s x.i) = true
  · have h0 : 0 ≤ cur s x.i := by have := (Ch.begins_iff _).1 hb; omega
    obtain ⟨n1, n2⟩ := name_yes he hb
    have hlt := (nlen_yes (s := s) hb).2
    have hle := nend_le hi
    have e : stepPart (.plain .less) x.i st (cur s x.i) = ⟨(st.clear .name).put .name (cur s x.i) x.i, .go (.name .name .part)⟩ := by
      simp only [stepPart, step, stName1]; rw [if_neg h47, if_neg h63, if_neg h33, if_pos hb]
    rw [runs_go e h0, runs_first .name .part x.i st hb]
    unfold Sc.openTag
    rw [n1, n2]
    generalize hE : nend s x.i = E at *
    generalize hN : Ch.bytes s x.i (E - x.i) = N at *
    have hA : InA { x with i := E } (st.setRun .name N x.i) [] N st.tagAt :=
      ⟨⟨h.tag.told, by simpa [St.setRun] using h.tag.text, by simpa [St.setRun] using h.tag.from_⟩, h.attrs, by rw [show (st.setRun .name N x.i).names = st.names from rfl, h.names]; rfl, by simpa [St.setRun] using h.value, by simp [St.setRun], rfl⟩
    have hat := runs_attrs (g := g) (s := s) (s.size + 2) { x with i := E } [] _ he hle (by show _ < E + _; omega) hA
    unfold Sc.attrs
    generalize attrsF s (s.size + 2) { x with i := E } [] = B at *
    rcases hat with ⟨b1, b2, b3, b4, b5, st', b6, b7⟩ | ⟨b1, b2, b3⟩
    · simp only at b7 b2
      rw [b7]
      have hd := done_tail (g := g) b1 b3 b6 b5
      rcases hd with ⟨d1, d2, d3, d4⟩ | ⟨d1, d2, d3⟩
      · have h6 : B.1.more = x.more := by rw [b4]
        have h7 : B.1.l = x.l := by rw [b4]
        have h8 : B.1.at_ = x.at_ := by rw [b4]
        obtain ⟨⟨g1, g2, g3⟩, g4⟩ := d4
        rw [h6] at g2
        rw [h7] at g3
        exact Or.inl ⟨d1, by omega, d3, ⟨by rw [g1, h8], by omega, g3⟩, g4⟩
      · have hl : B.1.l = x.l := by rw [b4]
        exact Or.inr ⟨d1, by rw [d2, hl], by rw [d3, hl]⟩
    · have hot : B.1.openTail s N B.2 st.tagAt = B.1 := by
        unfold Sc.openTail
        rw [if_neg (by rw [is_err b1]; simp), mustL_err s _ b1, told_err' b1]
      rw [hot]
      exact Or.inr ⟨b1, b2, b3⟩
  · have hn := name_no (s := s) he hb
    have hwe := wrong_err x s he
    have e : stepPart (.plain .less) x.i st (cur s x.i) = ⟨st.clear .name, .fail (Tk.why (cur s x.i)) x.i⟩ := by
      simp only [stepPart, step, stName1]; rw [if_neg h47, if_neg h63, if_neg h33, if_neg hb]
    have hot : x.openTag s st.tagAt = x.wrong s := by
      unfold Sc.openTag Sc.attrs
      rw [hn]
      simp only
      rw [attrsF_err hwe]
      unfold Sc.openTail
      rw [if_neg (by rw [is_err hwe]; simp), mustL_err s _ hwe, told_err' hwe]
    rw [hot]
    refine Done.wrong he ?_
    rw [runs_fail e, ← h.tag.told]; rfl
theorem done_closeTag (he : x.err = 0) (hi : x.i ≤ s.size) (h : Rel x st) (hn0 : st.run .name = []) : Done g s x (x.closeTag s st.tagAt) (runs g s x.i (.name .name .closing) st) := by
  by_cases hb : Ch.begins (cur s x.i) = true
  · have h0 : 0 ≤ cur s x.i := by have := (Ch.begins_iff _).1 hb; omega
    obtain ⟨n1, n2⟩ := name_yes he hb
    have hlt := (nlen_yes (s := s) hb).2
    have hle := nend_le hi
    have hcl : st.clear .name = st.setRun .name (st.run .name) 0 := by unfold St.clear; rw [hn0]
    have e : stepPart (.name .name .closing) x.i st (cur s x.i) = ⟨(st.clear .name).put .name (cur s x.i) x.i, .go (.name .name .closing)⟩ := by
      simp only [stepPart, stName, stName1]
      rw [if_pos (by rw [hn0]; rfl), if_pos hb]
      congr 1
      unfold St.put
      rw [hcl, setRun_twice]
      simp only [St.setRun, if_true]
      rw [hn0]
      simp
    rw [runs_go e h0, runs_first .name .closing x.i st hb]
    unfold Sc.closeTag
    rw [n1, n2]
    generalize hE : nend s x.i = E at *
    generalize hN : Ch.bytes s x.i (E - x.i) = N at *
    have hA : InA { x with i := E } (st.setRun .name N x.i) [] N st.tagAt :=
      ⟨⟨h.tag.told, by simpa [St.setRun] using h.tag.text, by simpa [St.setRun] using h.tag.from_⟩, h.attrs, by rw [show (st.setRun .name N x.i).names = st.names from rfl, h.names]; rfl, by simpa [St.setRun] using h.value, by simp [St.setRun], rfl⟩
    exact (done_close (x := { x with i := E }) he hle hA).on (by omega)
  · have hn := name_no (s := s) he hb
    have hwe := wrong_err x s he
    have e : stepPart (.name .name .closing) x.i st (cur s x.i) = ⟨st, .fail (Tk.why (cur s x.i)) x.i⟩ := by
      simp only [stepPart, stName, stName1]; rw [if_pos (by rw [hn0]; rfl), if_neg hb]
    have hot : x.closeTag s st.tagAt = x.wrong s := by
      unfold Sc.closeTag
      rw [hn]
      simp only
      rw [blanks_err hwe, mustL_err s _ hwe, told_err' hwe]
    rw [hot]
    refine Done.wrong he ?_
    rw [runs_fail e, ← h.tag.told]
theorem Alike.done {A : List Tok × Int × Int} (h : Alike s x y A (fun j => runs g s j (.plain .between) st)) (hr : Rel x st) (hlt : y.err = 0 → x.i < y.i) : Done g s x y A := by
  rcases h with ⟨h1, h2, h3, h4, h5⟩ | ⟨h1, h2, h3⟩
  · refine Or.inl ⟨h1, hlt h1, h3, ⟨by rw [h4], by rw [h4]; simp only; omega, by rw [h4]; simp only; omega⟩, st, ?_, h5⟩
    rw [h4]; exact hr.at _
  · exact Or.inr ⟨h1, h2, h3⟩
theorem runs_order_name (st : St) (i : Nat) : runs g s i (.plain .order) st = runs g s (nend s i) (.plain .order) st := by
  by_cases h : inN (cur s i) = true
  · have h0 := inN_pos h
    have hc := cur_pos h0
    have hne : ¬ cur s i = 63 := by
      intro e
      rw [e] at h; exact absurd h (by decide)
    have e : stepPart (.plain .order) i st (cur s i) = ⟨st, .go (.plain .order)⟩ := by
      simp only [stepPart, step, stOrder]; rw [if_neg hne, if_neg (by omega)]
    rw [runs_go e h0, runs_order_name st (i + wid s i), nend_yes h]
  · rw [nend_no h]
termination_by s.size - i
theorem done_order (he : x.err = 0) (hi : x.i ≤ s.size) (h : Rel x st) : Done g s x (x.order s) (runs g s x.i (.plain .orderName) st) := by
  by_cases hb : Ch.begins (cur s x.i) = true
  · have h0 : 0 ≤ cur s x.i := by have := (Ch.begins_iff _).1 hb; omega
    have hin : inN (cur s x.i) = true := by unfold inN; rw [hb]; rfl
    obtain ⟨n1, n2⟩ := name_yes he hb
    have hlt := (nlen_yes (s := s) hb).2
    have hle := nend_le hi
    have e : stepPart (.plain .orderName) x.i st (cur s x.i) = ⟨st, .go (.plain .order)⟩ := by
      simp only [stepPart, step]; rw [if_pos hb]
    rw [runs_go e h0, runs_order_name st, ← nend_yes hin]
    unfold Sc.order Sc.until
    rw [n1]
    refine Done.on (j := nend s x.i) ?_ (by omega)
    refine (runs_order (s := s) (nend s x.i) (s.size + 2) { x with i := nend s x.i } he hle (by show _ < nend s x.i + _; omega) h.tag.told).done (h.at _) ?_
    intro h1
    have := (until_text s ⟨#[63, 62]⟩ (by decide) (nend s x.i) (s.size + 2) { x with i := nend s x.i } he h1 (by show _ < nend s x.i + _; omega) hle).2
    have h2 : nend s x.i + 2 ≤ _ := this
    show nend s x.i < _
    omega
  · have hn := name_no (s := s) he hb
    have hwe := wrong_err x s he
    have e : stepPart (.plain .orderName) x.i st (cur s x.i) = ⟨st, .fail (Tk.why (cur s x.i)) x.i⟩ := by
      simp only [stepPart, step]; rw [if_neg hb]
    have hot : x.order s = x.wrong s := by
      unfold Sc.order Sc.until
      rw [hn]
      simp only
      rw [until_err _ _ _ _ _ hwe]
    rw [hot]
    refine Done.wrong he ?_
    rw [runs_fail e, ← h.tag.told]
theorem done_remark (he : x.err = 0) (hi : x.i ≤ s.size) (h : Rel x st) (h91 : ¬ cur s x.i = 91) : Done g s x (x.remark s) (runs g s x.i (.plain .bang) st) := by
  by_cases h45 : cur s x.i = 45
  · have hw := wid_byte (s := s) (i := x.i) (by omega) (by omega)
    have hc := cur_pos (s := s) (i := x.i) (by omega)
    have e : stepPart (.plain .bang) x.i st (cur s x.i) = ⟨st, .go (.word [45] .remark)⟩ := by
      simp only [stepPart, step]; rw [if_pos h45]
    rw [runs_go e (by omega), hw]
    have hm : Sc.mustL s [45, 45] x = Sc.mustL s [45] { x with i := x.i + 1 } := by
      have : x.is s (45 : UInt8).toNat = true := (is_cur he (by decide)).2 h45
      conv => lhs; rw [Sc.mustL]
      rw [if_pos he, if_pos this]
    unfold Sc.remark
    rw [hm]
    have hwd := runs_word (g := g) (s := s) (st := st) .remark [45] { x with i := x.i + 1 } (by decide) (by decide) he (by show x.i + 1 ≤ _; omega) h.tag.told
    generalize Sc.mustL s [45] { x with i := x.i + 1 } = y at *
    rcases hwd with ⟨y1, y2, y3, y4, y5⟩ | ⟨y1, y2, y3⟩
    · have y2' : x.i + 1 ≤ y.i := y2
      simp only at y5
      rw [y5]
      have hl : y.l = x.l := by rw [y4]
      have hry : Rel y st := by rw [y4]; exact h.at _
      have hu := runs_remark (g := g) (s := s) (st := st) y.i (s.size + 2) y y1 y3 (by omega) (by rw [hl]; exact h.tag.told)
      unfold Sc.until
      generalize (untilF s ⟨#[45, 45]⟩ y.i (s.size + 2) y).1 = u at *
      rcases hu with ⟨u1, u2, u3, u4, u5⟩ | ⟨u1, u2, u3⟩
      · have hl' : u.l = x.l := by rw [u4, ← hl]
        have hru : Rel u st := by rw [u4]; exact hry.at _
        simp only at u5
        rw [u5]
        have hw2 := runs_word (g := g) (s := s) (st := st) .between [62] u (by decide) (by decide) u1 u3 (by rw [hl']; exact h.tag.told)
        generalize Sc.mustL s [62] u = v at *
        rcases hw2 with ⟨v1, v2, v3, v4, v5⟩ | ⟨v1, v2, v3⟩
        · exact Or.inl ⟨v1, by omega, v3, grown_same (by rw [v4, u4, y4]) (by rw [v4, u4, y4]) (by rw [v4, u4, y4]) (by omega), st, by rw [v4]; exact hru.at _, v5⟩
        · exact Or.inr ⟨v1, by rw [v2, hl'], by rw [v3, hl']⟩
      · rw [mustL_err s _ u1]
        exact Or.inr ⟨u1, by rw [u2, hl], by rw [u3, hl]⟩
    · unfold Sc.until
      rw [until_err _ _ _ _ _ y1, mustL_err s _ y1]
      exact Or.inr ⟨y1, y2, y3⟩
  · have hwe := wrong_err x s he
    have hot : x.remark s = x.wrong s := by
      have hi45 : ¬ x.is s (45 : UInt8).toNat = true := fun e => h45 ((is_cur he (by decide)).1 e)
      unfold Sc.remark Sc.until
      have : Sc.mustL s [45, 45] x = x.wrong s := by
        conv => lhs; rw [Sc.mustL]
        rw [if_pos he, if_neg hi45, mustL_err s _ hwe]
      rw [this, until_err _ _ _ _ _ hwe, mustL_err s _ hwe]
    rw [hot]
    refine Done.wrong he ?_
    have e : stepPart (.plain .bang) x.i st (cur s x.i) = ⟨st, .fail (Tk.why (cur s x.i)) x.i⟩ := by
      simp only [stepPart, step]; rw [if_neg h45, if_neg h91]
    rw [runs_fail e, ← h.tag.told]
theorem done_cdata (he : x.err = 0) (hi : x.i ≤ s.size) (h : Rel x st) (h91 : cur s x.i = 91) : Done g s x (x.cdata s) (runs g s x.i (.plain .bang) st) := by
  have hw := wid_byte (s := s) (i := x.i) (by omega) (by omega)
  have hc := cur_pos (s := s) (i := x.i) (by omega)
  have e : stepPart (.plain .bang) x.i st (cur s x.i) = ⟨st, .go (.word [67, 68, 65, 84, 65, 91] .section_)⟩ := by
    simp only [stepPart, step]; rw [if_neg (by omega), if_pos h91]
  rw [runs_go e (by omega), hw]
  have hm : Sc.mustL s [91, 67, 68, 65, 84, 65, 91] x = Sc.mustL s [67, 68, 65, 84, 65, 91] { x with i := x.i + 1 } := by
    have : x.is s (91 : UInt8).toNat = true := (is_cur he (by decide)).2 h91
    conv => lhs; rw [Sc.mustL]
    rw [if_pos he, if_pos this]
  unfold Sc.cdata
  rw [hm]
  have hwd := runs_word (g := g) (s := s) (st := st) .section_ [67, 68, 65, 84, 65, 91] { x with i := x.i + 1 } (by decide) (by decide) he (by show x.i + 1 ≤ _; omega) h.tag.told
  generalize Sc.mustL s [67, 68, 65, 84, 65, 91] { x with i := x.i + 1 } = y at *
  rcases hwd with ⟨y1, y2, y3, y4, y5⟩ | ⟨y1, y2, y3⟩
  · have y2' : x.i + 1 ≤ y.i := y2
    simp only at y5
    rw [y5]
    have hl : y.l = x.l := by rw [y4]
    have hry : Rel y st := by rw [y4]; exact h.at _
    have hu := runs_section (g := g) (s := s) (st := st) y.i (s.size + 2) y y1 y3 (Nat.le_refl _) (by omega) (by rw [hl]; exact h.tag.told)
    rw [upto_self] at hu
    have hut := fun h1 => until_text s ⟨#[93, 93, 62]⟩ (by decide) y.i (s.size + 2) y y1 h1 (by omega) y3
    unfold Sc.until
    generalize untilF s ⟨#[93, 93, 62]⟩ y.i (s.size + 2) y = u at *
    rcases hu with ⟨u1, u2, u3, u4, u5⟩ | ⟨u1, u2, u3⟩
    · obtain ⟨t1, t2⟩ := hut u1
      have t2' : y.i + 3 ≤ u.1.i := t2
      have hsz : (⟨#[93, 93, 62]⟩ : ByteArray).size = 3 := rfl
      have hb : u.2.data.toList = Ch.bytes s y.i (u.1.i - 3 - y.i) := by rw [t1, bytes_extract, hsz]
      have hru : Rel u.1 st := by rw [u4]; exact hry.at _
      rw [u5]
      by_cases hne : u.2.data.toList ≠ []
      · rw [if_pos ⟨u1, hne⟩]
        have hlt : y.i < u.1.i - 3 := by
          by_cases hlt : y.i < u.1.i - 3
          · exact hlt
          · exfalso; apply hne; rw [hb, show u.1.i - 3 - y.i = 0 by omega]; unfold Ch.bytes; simp
        refine Or.inl ⟨u1, by show x.i < u.1.i; omega, u3, ⟨by show u.1.at_ = x.at_; rw [u4, y4], ?_, by show u.1.l.length ≤ _; rw [u4, y4]; simp only; omega⟩, _, ?_, rfl⟩
        · have h6 : u.1.more = x.more := by rw [u4, y4]
          show (u.1.more ++ u.2.data.toList).length + x.i ≤ x.more.length + u.1.i
          rw [h6, List.length_append, hb]
          have h7 : (Ch.bytes s y.i (u.1.i - 3 - y.i)).length ≤ u.1.i - 3 - y.i := by unfold Ch.bytes; rw [List.length_take]; omega
          omega
        refine ⟨⟨hru.tag.told, ?_, ?_⟩, hru.attrs, hru.names, ?_⟩
        · simp only [St.upto, St.setRun, if_true, Sc.texted]
          rw [hb, hru.tag.text]
        · intro _
          simp only [St.upto, St.setRun, if_true, Sc.texted]
          rw [hru.tag.text]
          by_cases hm0 : u.1.more = []
          · rw [if_pos ⟨hm0, hlt⟩, if_pos hm0]
          · rw [if_neg (fun e => hm0 e.1), if_neg hm0]; exact hru.tag.from_ hm0
        · simpa [St.upto, St.setRun] using hru.value
      · rw [if_neg (fun e => hne e.2)]
        have hz : u.1.i - 3 = y.i := by
          by_cases hlt : y.i < u.1.i - 3
          · exact absurd (by rw [hb]; exact bytes_ne s (by omega) (by omega)) hne
          · omega
        refine Or.inl ⟨u1, by omega, u3, grown_same (by rw [u4, y4]) (by rw [u4, y4]) (by rw [u4, y4]) (by omega), st, hru, ?_⟩
        show runs g s u.1.i _ (st.upto s .text y.i (u.1.i - 3)) = _
        rw [hz, upto_self]
    · rw [if_neg (fun e => u1 e.1)]
      exact Or.inr ⟨u1, by rw [u2, hl], by rw [u3, hl]⟩
  · unfold Sc.until
    rw [until_err _ _ _ _ _ y1]
    rw [if_neg (fun e => y1 e.1)]
    exact Or.inr ⟨y1, y2, y3⟩
theorem done_markup (he : x.err = 0) (h : Rel x st) (h60 : cur s x.i = 60) : Done g s x (x.markup s) (runs g s x.i (.plain .between) st) := by
  have hw := wid_byte (s := s) (i := x.i) (by omega) (by omega)
  have hc := cur_pos (s := s) (i := x.i) (by omega)
  have e : stepPart (.plain .between) x.i st (cur s x.i) = ⟨{ st with tagAt := x.i }, .go (.plain .less)⟩ := by
    simp only [stepPart, step]; rw [if_pos h60]
  rw [runs_go e (by omega), hw]
  have hr : Rel { x with i := x.i + 1 } { st with tagAt := (x.i : Int) } := ⟨⟨h.tag.told, h.tag.text, h.tag.from_⟩, h.attrs, h.names, h.value⟩
  unfold Sc.markup
  refine Done.on (j := x.i + 1) ?_ (by omega)
  have hle : x.i + 1 ≤ s.size := by omega
  have hx : ({ x with i := x.i + 1 } : Sc).err = 0 := he
  have htg : ({ st with tagAt := (x.i : Int) } : St).tagAt = x.i := rfl
  have hi' : ({ x with i := x.i + 1 } : Sc).i = x.i + 1 := rfl
  rw [← hi'] at hle ⊢
  rw [← htg]
  generalize ({ x with i := x.i + 1 } : Sc) = X at *
  generalize ({ st with tagAt := (x.i : Int) } : St) = S at *
  clear htg hi' e h60 hw hc h he
  unfold Sc.behind
  have i33 : X.is s 33 = true ↔ cur s X.i = 33 := is_cur hx (by omega)
  have i63 : X.is s 63 = true ↔ cur s X.i = 63 := is_cur hx (by omega)
  have i47 : X.is s 47 = true ↔ cur s X.i = 47 := is_cur hx (by omega)
  by_cases c33 : cur s X.i = 33
  · rw [if_pos (i33.2 c33)]
    have hw := wid_byte (s := s) (i := X.i) (by omega) (by omega)
    have hc := cur_pos (s := s) (i := X.i) (by omega)
    have e : stepPart (.plain .less) X.i S (cur s X.i) = ⟨S, .go (.plain .bang)⟩ := by
      simp only [stepPart, step]; rw [if_neg (by omega), if_neg (by omega), if_pos c33]
    rw [runs_go e (by omega), hw]
    refine Done.on (j := X.i + 1) ?_ (by omega)
    unfold Sc.bang
    have i91 := is_cur (s := s) (x := { X with i := X.i + 1 }) hx (c := 91) (by omega)
    by_cases c91 : cur s (X.i + 1) = 91
    · rw [if_pos (i91.2 c91)]
      exact done_cdata (x := { X with i := X.i + 1 }) hx (by show X.i + 1 ≤ _; omega) (hr.at _) c91
    · rw [if_neg (fun h => c91 (i91.1 h))]
      exact done_remark (x := { X with i := X.i + 1 }) hx (by show X.i + 1 ≤ _; omega) (hr.at _) c91
  · rw [if_neg (fun h => c33 (i33.1 h))]
    by_cases c63 : cur s X.i = 63
    · rw [if_pos (i63.2 c63)]
      have hw := wid_byte (s := s) (i := X.i) (by omega) (by omega)
      have hc := cur_pos (s := s) (i := X.i) (by omega)
      have e : stepPart (.plain .less) X.i S (cur s X.i) = ⟨S, .go (.plain .orderName)⟩ := by
        simp only [stepPart, step]; rw [if_neg (by omega), if_pos c63]
      rw [runs_go e (by omega), hw]
      exact (done_order (x := { X with i := X.i + 1 }) hx (by show X.i + 1 ≤ _; omega) (hr.at _)).on (by omega)
    · rw [if_neg (fun h => c63 (i63.1 h))]
      by_cases c47 : cur s X.i = 47
      · rw [if_pos (i47.2 c47)]
        have hw := wid_byte (s := s) (i := X.i) (by omega) (by omega)
        have hc := cur_pos (s := s) (i := X.i) (by omega)
        have e : stepPart (.plain .less) X.i S (cur s X.i) = ⟨S.clear .name, .go (.name .name .closing)⟩ := by
          simp only [stepPart, step]; rw [if_pos c47]
        rw [runs_go e (by omega), hw]
        have hr' : Rel { X with i := X.i + 1 } (S.clear .name) := ⟨⟨hr.tag.told, by simpa [St.clear, St.setRun] using hr.tag.text, by simpa [St.clear, St.setRun] using hr.tag.from_⟩, hr.attrs, hr.names, by simpa [St.clear, St.setRun] using hr.value⟩
        exact (done_closeTag (x := { X with i := X.i + 1 }) hx (by show X.i + 1 ≤ _; omega) hr' (by simp [St.clear, St.setRun])).on (by omega)
      · rw [if_neg (fun h => c47 (i47.1 h))]
        exact done_open hx hle hr c47 c63 c33
end Go.Proofs.YtfolnkmbdmfigaaGreatDoor

set_option linter.unusedSimpArgs false
set_option linter.unusedVariables false
namespace Go.Proofs.YtfolnkmbdmfigaaGreatDoor
open Go.RowKit Go.Lib
variable {g : St → List Tok} {s : ByteArray} {i : Nat} {pt pt' : Part} {st st' : St} {no q c : Int} {x y : Sc}

def Sc.piece (x : Sc) (s : ByteArray) : Sc :=
  if (s.get! x.i).toNat = 60 then x.markup s else if (x.char s 60).1.err = 0 then (x.char s 60).1.texted (x.char s 60).2 x.i else (x.char s 60).1
def readF (s : ByteArray) : Nat → Sc → Sc
  | 0, x => x
  | f + 1, x => if x.i < s.size ∧ x.err = 0 then readF s f (x.piece s) else x
def Sc.zero : Sc := ⟨0, [], [], 0, 0, 0⟩
def readS (s : ByteArray) : Sc := readF s (s.size + 1) Sc.zero
def Sc.last (x : Sc) : List Tok := if x.err ≠ 0 ∨ x.more = [] then [] else [txtTok x]
def Sc.fin (x : Sc) (G : Sc → List Tok) : List Tok × Int × Int := if x.err = 0 then (G x, 0, 0) else (x.l, x.err, x.at_)
theorem done_text (he : x.err = 0) (hi : x.i < s.size) (h : Rel x st) (h60 : ¬ cur s x.i = 60) :
    Done g s x (if (x.char s 60).1.err = 0 then (x.char s 60).1.texted (x.char s 60).2 x.i else (x.char s 60).1) (runs g s x.i (.plain .between) st) := by
  have hch := char_cur (s := s) he 60 (by omega)
  have hc60 : ¬ cur s x.i = ((60 : Nat) : Int) := h60
  by_cases h0 : 0 ≤ cur s x.i
  · have hc := cur_pos h0
    have hneg : ¬ (cur s x.i < 0 ∨ cur s x.i = 60 ∨ cur s x.i = ((60 : Nat) : Int)) := by rintro (h | h | h); omega; exact h60 h; exact hc60 h
    rw [if_neg hneg] at hch
    by_cases h38 : cur s x.i = 38
    · rw [if_pos h38] at hch
      have e : stepPart (.plain .between) x.i st (cur s x.i) = ⟨(st.clear .ref).put .ref 38 x.i, .go (.ref .text .between)⟩ := by
        simp only [stepPart, step]; rw [if_neg h60, if_pos h38]
      rw [runs_go e h0, runs_ref .text .between x.i st h38]
      unfold refTo
      by_cases hz : (Ch.refAt s x.i).2 = 0
      · rw [if_pos hz] at hch ⊢
        have hf := fail_err x 4 x.i he (by decide)
        rw [hch]
        simp only
        rw [if_neg hf]
        refine Or.inr ⟨hf, ?_, ?_⟩
        · unfold Sc.fail; rw [if_pos he]
        · unfold Sc.fail; rw [if_pos he, h.tag.told]
      · rw [if_neg hz] at hch ⊢
        have hsp := Ch.refAt_spec hz
        rw [hch]
        simp only
        rw [if_pos he]
        refine Or.inl ⟨he, by show x.i < x.i + _; omega, by show x.i + (Ch.refAt s x.i).2.toNat ≤ _; omega, ⟨rfl, ?_, by show x.l.length ≤ _; omega⟩, _, ?_, rfl⟩
        · show (x.more ++ Lib.encodeRune (Ch.refAt s x.i).1).length + x.i ≤ x.more.length + (x.i + (Ch.refAt s x.i).2.toNat)
          have := Ch.encode_le (Ch.refAt s x.i).1
          rw [List.length_append]; omega
        refine ⟨⟨h.tag.told, ?_, ?_⟩, h.attrs, h.names, ?_⟩
        · simp [St.put, St.setRun, Sc.texted, h.tag.text]
        · intro _
          simp only [St.put, St.setRun, Sc.texted, if_true]
          by_cases hm : x.more = []
          · rw [if_pos hm]; simp [h.tag.text, hm]
          · rw [if_neg hm]; simp [h.tag.text, hm]; exact h.tag.from_ hm
        · simpa [St.put, St.setRun] using h.value
    · rw [if_neg h38] at hch
      have e : stepPart (.plain .between) x.i st (cur s x.i) = ⟨st.put .text (cur s x.i) x.i, .go (.plain .between)⟩ := by
        simp only [stepPart, step]; rw [if_neg h60, if_neg h38, if_neg (by omega), if_neg (by omega)]
      have hb := bytes_extract s x.i (x.i + wid s x.i)
      rw [show x.i + wid s x.i - x.i = wid s x.i by omega, ← enc_cur h0] at hb
      rw [runs_go e h0, hch]
      simp only
      rw [if_pos he]
      refine Or.inl ⟨he, by show x.i < x.i + wid s x.i; omega, by show x.i + wid s x.i ≤ _; omega, ⟨rfl, ?_, by show x.l.length ≤ _; omega⟩, _, ?_, rfl⟩
      · show (x.more ++ (s.extract x.i (x.i + wid s x.i)).data.toList).length + x.i ≤ x.more.length + (x.i + wid s x.i)
        have h7 : (Ch.bytes s x.i (wid s x.i)).length ≤ wid s x.i := by unfold Ch.bytes; rw [List.length_take]; omega
        rw [List.length_append, hb, enc_cur h0]; omega
      refine ⟨⟨h.tag.told, ?_, ?_⟩, h.attrs, h.names, ?_⟩
      · simp only [St.put, St.setRun, Sc.texted, if_true]; rw [hb, h.tag.text]
      · intro _
        simp only [St.put, St.setRun, Sc.texted, if_true]
        by_cases hm : x.more = []
        · rw [if_pos hm]; simp [h.tag.text, hm]
        · rw [if_neg hm]; simp [h.tag.text, hm]; exact h.tag.from_ hm
      · simpa [St.put, St.setRun] using h.value
  · rw [if_pos (Or.inl (by omega))] at hch
    have hwe := wrong_err x s he
    rw [hch]
    simp only
    rw [if_neg hwe]
    refine Done.wrong he ?_
    rcases cur_neg h0 with ⟨_, h2⟩ | ⟨h2, _⟩
    · have e : stepPart (.plain .between) x.i st (cur s x.i) = ⟨st, .fail 2 x.i⟩ := by
        simp only [stepPart, step, h2]; rfl
      rw [runs_fail e, h2, h.tag.told]; rfl
    · exact absurd hi h2
theorem done_piece (he : x.err = 0) (hi : x.i < s.size) (h : Rel x st) : Done g s x (x.piece s) (runs g s x.i (.plain .between) st) := by
  unfold Sc.piece
  have b60 := cur_byte (s := s) (i := x.i) (c := 60) (by omega)
  by_cases h60 : cur s x.i = 60
  · rw [if_pos (b60.1 h60).2]; exact done_markup he h h60
  · rw [if_neg (fun e => h60 (b60.2 ⟨hi, e⟩))]; exact done_text he hi h h60
theorem readF_err (he : x.err ≠ 0) (f : Nat) : readF s f x = x := by
  cases f with
  | zero => rfl
  | succ f => simp only [readF]; rw [if_neg (fun e => he e.2)]
theorem runs_read (G : Sc → List Tok) (hG : ∀ (x : Sc) (st : St), x.err = 0 → Rel x st → g st = G x) : ∀ (f : Nat) (x : Sc) (st : St), x.err = 0 → x.i ≤ s.size → s.size < x.i + f → Rel x st → runs g s x.i (.plain .between) st = (readF s f x).fin G := by
  intro f
  induction f with
  | zero => intro x st he hi hf; omega
  | succ f ih =>
    intro x st he hi hf h
    simp only [readF]
    by_cases hlt : x.i < s.size
    · rw [if_pos ⟨hlt, he⟩]
      rcases done_piece he hlt h with ⟨h1, h2, h3, ha, st', h4, h5⟩ | ⟨h1, h2, h3⟩
      · rw [h5]; exact ih _ _ h1 h3 (by omega) h4
      · rw [readF_err h1, h3]
        unfold Sc.fin; rw [if_neg h1, h2]
    · rw [if_neg (fun e => hlt e.1)]
      have hc : cur s x.i = -1 := by unfold cur; rw [if_neg hlt]
      have e : stepPart (.plain .between) x.i st (cur s x.i) = ⟨st.tellText, .stop⟩ := by
        simp only [stepPart, step, hc]; rfl
      rw [runs_stop e, hG x st he h]
      unfold Sc.fin
      rw [if_pos he]
theorem readF_over (g : St → List Tok) : ∀ (f : Nat) (x : Sc) (st : St), x.err = 0 → x.i ≤ s.size → s.size < x.i + f → Rel x st → (readF s f x).err = 0 → (readF s f x).i = s.size ∧ (readF s f x).at_ = x.at_ := by
  intro f
  induction f with
  | zero => intro x st he hi hf; omega
  | succ f ih =>
    intro x st he hi hf h
    simp only [readF]
    by_cases hlt : x.i < s.size
    · rw [if_pos ⟨hlt, he⟩]
      rcases done_piece (g := g) he hlt h with ⟨h1, h2, h3, ha, st', h4, h5⟩ | ⟨h1, h2, h3⟩
      · intro e; have := ih _ _ h1 h3 (by omega) h4 e; exact ⟨this.1, this.2.trans ha.1⟩
      · rw [readF_err h1]; intro e; exact absurd e h1
    · rw [if_neg (fun e => hlt e.1)]; intro _; exact ⟨by omega, rfl⟩
theorem tell_last (x : Sc) (st : St) (he : x.err = 0) (h : Rel x st) : st.tellText.told = x.l ++ x.last := by
  rw [tellText_tok h.tag]
  unfold Sc.last
  by_cases hm : x.more = []
  · rw [if_pos hm, if_pos (Or.inr hm), List.append_nil]
  · rw [if_neg hm, if_neg (by rintro (h | h); exact h he; exact hm h)]
end Go.Proofs.YtfolnkmbdmfigaaGreatDoor

set_option linter.unusedSimpArgs false
set_option linter.unusedVariables false
namespace Go.Proofs.YtfolnkmbdmfigaaGreatDoor
open Go.RowKit Go.Maps Go.Lib
variable {g : St → List Tok} {s : ByteArray} {i : Nat} {pt pt' : Part} {st st' : St} {no q c : Int} {S : Src}

theorem took_cur (h1 : S.rest = s.extract i s.size) (hi : i ≤ s.size) : S.took.2 = cur s i ∧ (0 ≤ cur s i → S.took.1.rest = s.extract (i + wid s i) s.size ∧ S.took.1.next = S.next + wid s i) := by
  have hz : S.rest.size = s.size - i := by rw [h1]; simp [ByteArray.size_extract]
  rw [Ch.tail_extract] at h1
  have hc := cur_tail s i 0
  rw [Nat.add_zero] at hc
  unfold Src.took
  by_cases h0 : i < s.size
  · have hw := wid_tail (s := s) (k := i) (j := 0) (by omega)
    rw [Nat.add_zero] at hw
    rw [if_neg (by omega), h1]
    have hz' : 0 < (Ch.tail s i).size := by rw [Ch.tail_size]; omega
    unfold cur at hc
    rw [if_pos hz', if_pos h0] at hc
    unfold cur
    rw [if_pos h0]
    by_cases ho : Ch.okAt (Ch.tail s i) 0 = true
    · rw [if_pos ho] at hc ⊢
      refine ⟨hc, fun _ => ?_⟩
      simp only
      have hw' : (Utf8.decode (Ch.tail s i) 0).2 = wid s i := hw
      rw [hw']
      refine ⟨?_, rfl⟩
      rw [Ch.tail_extract, Ch.tail_tail, ← Ch.tail_extract]
    · rw [if_neg ho] at hc ⊢
      refine ⟨hc, fun h => ?_⟩
      rw [← hc] at h; omega
  · rw [if_pos (by omega)]
    unfold cur
    rw [if_neg h0]
    exact ⟨rfl, fun h => by omega⟩
theorem stepPart_stop {o : St} (h : stepPart pt q st c = ⟨o, .stop⟩) : o = st.tellText := by
  have key : ∀ (k : Pl) (st : St), step k q st c = ⟨o, .stop⟩ → o = st.tellText := by
    intro k st h
    have := step_stop h
    subst this
    simp only [step] at h
    repeat' split at h
    all_goals first | (cases h; done) | (cases h; rfl)
  cases pt with
  | plain k => exact key k st h
  | word l k =>
    cases l with
    | nil => simp only [stepPart] at h; cases h
    | cons x l =>
      simp only [stepPart, stWord] at h
      repeat' split at h
      all_goals cases h
  | name i k =>
    simp only [stepPart, stName, stName1] at h
    repeat' split at h
    all_goals first | (cases h; done) | exact key k st h
  | ref i k =>
    simp only [stepPart, stRef] at h
    split at h
    · split at h
      · unfold stRefEnd at h
        split at h <;> cases h
      · cases h
    · cases h
theorem reads_runs (g : St → List Tok) (s : ByteArray) : ∀ (n i : Nat) (S : Src) (pt : Part) (st : St) (k : Nat), s.size - i < n → i ≤ s.size → S.rest = s.extract i s.size → S.next = (i : Int) → S.ended = true → Lim k pt st →
    (∃ no q, (reads S pt st).ret = .fail no q ∧ runs g s i pt st = ((reads S pt st).st.told, no, q)) ∨ ((reads S pt st).ret = .over ∧ ∃ st', runs g s i pt st = (g st', 0, 0) ∧ (reads S pt st).st = st'.tellText) := by
  intro n
  induction n with
  | zero => intro i S pt st k h; omega
  | succ n ih =>
    intro i S pt st k hn hi hr hx he hl
    obtain ⟨h1, h2⟩ := took_cur hr hi
    have hm : S.more = false := by simp [Src.more, he]
    rw [reads_eq hl hm, h1, hx]
    generalize hs : stepPart pt i st (cur s i) = o
    obtain ⟨o, r⟩ := o
    cases r with
    | go pt' =>
      have hres : (stepPart pt S.next st S.took.2).res = .go pt' := by rw [h1, hx, hs]
      have hk := took_less hl.sound hl.quote hres
      have h0 : 0 ≤ cur s i := by
        by_cases h0 : 0 ≤ cur s i
        · exact h0
        · exfalso
          have hneg : cur s i = -1 ∨ cur s i = -2 := by rcases cur_neg h0 with ⟨_, h⟩ | ⟨_, h⟩ <;> omega
          exact stepPart_adds pt i st (cur s i) hl.sound hneg hl.quote pt' (by rw [hs])
      have hc := cur_pos h0
      obtain ⟨h3, h4⟩ := h2 h0
      rw [runs_go hs h0]
      have hst : (stepPart pt S.next st S.took.2).st = o := by rw [h1, hx, hs]
      have hlim := hl.step hres
      rw [hst] at hlim
      exact ih (i + wid s i) S.took.1 pt' o (k + 1) (by omega) (by omega) h3 (by rw [h4, hx]; omega) ((took_flags S).1.trans he) hlim
    | stop =>
      refine Or.inr ⟨rfl, st, runs_stop hs, ?_⟩
      exact stepPart_stop hs
    | fail no q => exact Or.inl ⟨no, q, rfl, runs_fail hs⟩
theorem reads_end : ∀ (n : Nat) (S : Src) (pt : Part) (st : St) (k : Nat), S.rest.size < n → Lim k pt st → S.ended = false →
    ((reads S pt st).ret = .more → reads { S with ended := true } pt st = reads { (reads S pt st).s with ended := true } (reads S pt st).pt (reads S pt st).st) ∧
    (∀ no q, (reads S pt st).ret = .fail no q → (reads { S with ended := true } pt st).ret = .fail no q ∧ (reads { S with ended := true } pt st).st = (reads S pt st).st) := by
  intro n
  induction n with
  | zero => intro S pt st k h; omega
  | succ n ih =>
    intro S pt st k hn hl he
    by_cases hm : S.more = true
    · rw [reads_at hm]
      exact ⟨fun _ => rfl, fun _ _ e => (by cases e)⟩
    · have hm' : S.more = false := by simpa using hm
      have hm2 : ({ S with ended := true } : Src).more = false := by simp [Src.more]
      have ht : ({ S with ended := true } : Src).took = ({ S.took.1 with ended := true }, S.took.2) := by
        unfold Src.took; repeat' split
        all_goals rfl
      rw [reads_eq hl hm', reads_eq (s := { S with ended := true }) hl hm2, ht]
      generalize hr : (stepPart pt S.next st S.took.2).res = r
      cases r with
      | go pt' =>
        have hk := took_less hl.sound hl.quote hr
        exact ih S.took.1 pt' _ (k + 1) (by omega) (hl.step hr) ((took_flags S).1.trans he)
      | stop => exact ⟨fun e => (by cases e), fun _ _ e => (by cases e)⟩
      | fail no q => exact ⟨fun e => (by cases e), fun _ _ e => ⟨e, rfl⟩⟩
theorem mrun_closed (b : Bool) : ∀ (n : Nat) (S : Src) (pt : Part) (st : St), mrun n { S with closed := b } pt st = { mrun n S pt st with s := { (mrun n S pt st).s with closed := b } } := by
  intro n
  induction n with
  | zero => intro S pt st; rfl
  | succ n ih =>
    intro S pt st
    have ht : ({ S with closed := b } : Src).took = ({ S.took.1 with closed := b }, S.took.2) := by
      unfold Src.took; repeat' split
      all_goals rfl
    have hm : ({ S with closed := b } : Src).more = S.more := rfl
    simp only [mrun, ht, hm]
    split
    · rfl
    · cases (stepPart pt S.took.1.at_ st S.took.2).res with
      | go pt' => simp only []; exact ih _ _ _
      | stop => rfl
      | fail no q => rfl
end Go.Proofs.YtfolnkmbdmfigaaGreatDoor

set_option linter.unusedSimpArgs false
set_option linter.unusedVariables false
namespace Go.Proofs.YtfolnkmbdmfigaaGreatDoor
open Go.RowKit Go.Maps Go.Lib
def refAll (s : ByteArray) : List Tok × Int × Int := if (readS s).err ≠ 0 then ([], (readS s).err, (readS s).at_) else ((readS s).l ++ (readS s).last, 0, 0)
theorem rel0 : Rel Sc.zero St.zero := ⟨⟨rfl, rfl, fun h => absurd rfl h⟩, rfl, rfl, rfl⟩
def srcOf (b : ByteArray) (e : Bool) : Src := { Src.zero 0 0 false with rest := b, ended := e }
theorem runs_told (b : ByteArray) : runs (fun st => st.told) b 0 (.plain .between) St.zero = ((readS b).l, (readS b).err, (readS b).at_) := by
  have h := runs_read (g := fun st => st.told) (s := b) (fun x => x.l) (fun x st he h => h.tag.told) (b.size + 1) Sc.zero St.zero rfl (Nat.zero_le _) (by show b.size < 0 + _; omega) rel0
  have h2 : runs (fun st => st.told) b 0 (.plain .between) St.zero = (readF b (b.size + 1) Sc.zero).fin fun x => x.l := h
  rw [h2]
  unfold Sc.fin readS
  split
  · rename_i he
    have := readF_over (fun st => st.told) (s := b) (b.size + 1) Sc.zero St.zero rfl (Nat.zero_le _) (by show b.size < 0 + _; omega) rel0 he
    rw [he, this.2]; rfl
  · rfl
theorem runs_last (b : ByteArray) : runs (fun st => st.tellText.told) b 0 (.plain .between) St.zero = if (readS b).err = 0 then ((readS b).l ++ (readS b).last, 0, 0) else ((readS b).l, (readS b).err, (readS b).at_) :=
  runs_read (g := fun st => st.tellText.told) (s := b) (fun x => x.l ++ x.last) (fun x st he h => tell_last x st he h) (b.size + 1) Sc.zero St.zero rfl (Nat.zero_le _) (by show b.size < 0 + _; omega) rel0
theorem fail_ne {S : Src} {pt : Part} {st : St} {k : Nat} {no q : Int} (hl : Lim k pt st) (h : (reads S pt st).ret = .fail no q) : no ≠ 0 := by
  have key : ∀ (n : Nat) (S : Src) (pt : Part) (st : St), (mrun n S pt st).ret = .fail no q → no ≠ 0 := by
    intro n
    induction n with
    | zero => intro S pt st h; simp only [mrun] at h; cases h
    | succ n ih =>
      intro S pt st h
      simp only [mrun] at h
      split at h
      · cases h
      · have hends := stepPart_ends pt S.took.1.at_ st S.took.2
        cases hr : (stepPart pt S.took.1.at_ st S.took.2).res with
        | go pt2 => rw [hr] at h; exact ih _ _ _ h
        | stop => rw [hr] at h; cases h
        | fail a b => rw [hr] at h; cases h; exact hends.fail _ _ hr
  exact key _ S pt st h
theorem reads_whole (b : ByteArray) : ((readS b).err = 0 → (reads (srcOf b true) (.plain .between) St.zero).ret = .over ∧ (reads (srcOf b true) (.plain .between) St.zero).st.told = (readS b).l ++ (readS b).last) ∧
    ((readS b).err ≠ 0 → (reads (srcOf b true) (.plain .between) St.zero).ret = .fail (readS b).err (readS b).at_ ∧ (reads (srcOf b true) (.plain .between) St.zero).st.told = (readS b).l) := by
  have hr : (srcOf b true).rest = b.extract 0 b.size := by show b = _; simp
  have hends := fun no q (h : (reads (srcOf b true) (.plain .between) St.zero).ret = .fail no q) => h
  have h := reads_runs (fun st => st.tellText.told) b (b.size + 1) 0 (srcOf b true) (.plain .between) St.zero 0 (by omega) (Nat.zero_le _) hr rfl rfl (lim0 0)
  have h2 := reads_runs (fun st => st.told) b (b.size + 1) 0 (srcOf b true) (.plain .between) St.zero 0 (by omega) (Nat.zero_le _) hr rfl rfl (lim0 0)
  rw [runs_last] at h
  rw [runs_told] at h2
  constructor
  · intro he
    rw [if_pos he] at h
    rcases h with ⟨no, q, h1, h3⟩ | ⟨h1, st', h3, h4⟩
    · exfalso
      rcases h2 with ⟨no', q', k1, k3⟩ | ⟨k1, _⟩
      · have hno := fail_ne (lim0 0) k1
        simp only [Prod.mk.injEq] at k3
        exact hno (k3.2.1.symm.trans he)
      · rw [h1] at k1; cases k1
    · refine ⟨h1, ?_⟩
      rw [h4]
      exact (congrArg Prod.fst h3).symm
  · intro he
    rw [if_neg he] at h
    rcases h2 with ⟨no, q, k1, k3⟩ | ⟨k1, st', k3, k4⟩
    · simp only [Prod.mk.injEq] at k3
      exact ⟨by rw [k1, k3.2.1, k3.2.2], k3.1.symm⟩
    · simp only [Prod.mk.injEq] at k3
      exact absurd k3.2.1 he
end Go.Proofs.YtfolnkmbdmfigaaGreatDoor

set_option linter.unusedSimpArgs false
set_option linter.unusedVariables false
namespace Go.Proofs.YtfolnkmbdmfigaaGreatDoor
open Go.RowKit Go.Maps Go.Lib
theorem not_full (t : ByteArray) (h0 : 0 < t.size) (h : Tk.full t = false) : Ch.okAt t 0 = false := by
  apply Ch.okAt_bad
  unfold Tk.full at h
  rw [if_neg (by omega)] at h
  rw [decode_at, decode_first4 _ _ _ _ _ (by omega) (UInt8.toNat_lt _) (UInt8.toNat_lt _) (UInt8.toNat_lt _) (UInt8.toNat_lt _)]
  simp only [fullN, Bool.or_eq_false_iff, decide_eq_false_iff_not] at h
  rw [Nat.sub_zero]
  have h1 := h.1
  generalize (t.get! 0).toNat = b0 at *
  unfold first4
  by_cases a1 : firstT b0 = 240
  · rw [a1] at h1; omega
  by_cases a2 : firstT b0 = 241
  · rw [if_neg a1, if_pos a2]
  rw [if_neg a1, if_neg a2]
  unfold slowN
  rw [if_pos (by omega)]
theorem took_short {S : Src} (h : S.more = true) : S.took.2 = -1 ∨ S.took.2 = -2 := by
  simp only [Src.more, Bool.and_eq_true, Bool.not_eq_true'] at h
  unfold Src.took
  by_cases h0 : S.rest.size = 0
  · rw [if_pos h0]; exact Or.inl rfl
  · rw [if_neg h0, if_neg (by rw [not_full _ (by omega) h.2]; simp)]; exact Or.inr rfl
theorem fail_told {pt : Part} {q : Int} {st o : St} {c : Int} {no p : Int} (h : stepPart pt q st c = ⟨o, .fail no p⟩) : o.told = st.told := by
  have key : ∀ (k : Pl) (st : St), step k q st c = ⟨o, .fail no p⟩ → o.told = st.told := by
    intro k st h
    cases k <;> simp only [step, stPart, stName1, stAttr, stRemark, stOrder, stSection, stBracket] at h <;> (repeat' split at h) <;> first | (cases h; done) | (cases h; rfl)
  cases pt with
  | plain k => exact key k st h
  | word l k =>
    cases l with
    | nil => simp only [stepPart] at h; cases h
    | cons x l =>
      simp only [stepPart, stWord] at h
      repeat' split at h
      all_goals first | (cases h; done) | (cases h; rfl)
  | name i k =>
    simp only [stepPart, stName, stName1] at h
    repeat' split at h
    all_goals first | (cases h; done) | exact key k st h | (cases h; rfl)
  | ref i k =>
    simp only [stepPart, stRef] at h
    split at h
    · split at h
      · unfold stRefEnd at h
        split at h <;> cases h
        rfl
      · cases h
    · cases h; rfl
theorem reads_stay (g : St → List Tok) (s : ByteArray) : ∀ (n i : Nat) (S : Src) (pt : Part) (st : St) (k : Nat), s.size - i < n → i ≤ s.size → S.rest = s.extract i s.size → S.next = (i : Int) → S.ended = false → Lim k pt st → (reads S pt st).ret = .more →
    ∃ j, j ≤ s.size ∧ runs g s i pt st = runs g s j (reads S pt st).pt (reads S pt st).st ∧ (reads S pt st).s.rest = s.extract j s.size := by
  intro n
  induction n with
  | zero => intro i S pt st k h; omega
  | succ n ih =>
    intro i S pt st k hn hi hr hx he hl hret
    by_cases hm : S.more = true
    · rw [reads_at hm]
      exact ⟨i, hi, rfl, hr⟩
    · have hm' : S.more = false := by simpa using hm
      obtain ⟨h1, h2⟩ := took_cur hr hi
      rw [reads_eq hl hm', h1, hx] at hret ⊢
      generalize hs : stepPart pt i st (cur s i) = o at *
      obtain ⟨o, r⟩ := o
      cases r with
      | go pt' =>
        have hres : (stepPart pt S.next st S.took.2).res = .go pt' := by rw [h1, hx, hs]
        have h0 : 0 ≤ cur s i := by
          by_cases h0 : 0 ≤ cur s i
          · exact h0
          · exfalso
            have hneg : cur s i = -1 ∨ cur s i = -2 := by rcases cur_neg h0 with ⟨_, h⟩ | ⟨_, h⟩ <;> omega
            exact stepPart_adds pt i st (cur s i) hl.sound hneg hl.quote pt' (by rw [hs])
        have hc := cur_pos h0
        obtain ⟨h3, h4⟩ := h2 h0
        rw [runs_go hs h0]
        have hst : (stepPart pt S.next st S.took.2).st = o := by rw [h1, hx, hs]
        have hlim := hl.step hres
        rw [hst] at hlim
        exact ih (i + wid s i) S.took.1 pt' o (k + 1) (by omega) (by omega) h3 (by rw [h4, hx]; omega) ((took_flags S).1.trans he) hlim hret
      | stop => cases hret
      | fail no q => cases hret
theorem reads_flags {S : Src} {pt : Part} {st : St} : (reads S pt st).s.no = S.no ∧ (reads S pt st).s.fat = S.fat := by
  have key : ∀ (n : Nat) (S : Src) (pt : Part) (st : St), (mrun n S pt st).s.no = S.no ∧ (mrun n S pt st).s.fat = S.fat := by
    intro n
    induction n with
    | zero => intro S pt st; exact ⟨rfl, rfl⟩
    | succ n ih =>
      intro S pt st
      have hf := took_flags S
      simp only [mrun]
      split
      · exact ⟨rfl, rfl⟩
      · cases (stepPart pt S.took.1.at_ st S.took.2).res with
        | go pt' =>
          have := ih S.took.1 pt' (stepPart pt S.took.1.at_ st S.took.2).st
          exact ⟨this.1.trans hf.2.1, this.2.trans hf.2.2.1⟩
        | stop => exact ⟨hf.2.1, hf.2.2.1⟩
        | fail no q => exact ⟨hf.2.1, hf.2.2.1⟩
  exact key _ S pt st
def rdOf (b : ByteArray) : Rd := reads (srcOf b false) (.plain .between) St.zero
theorem rd_cases (b : ByteArray) :
    ((rdOf b).ret = .more ∧ (rdOf b).st.told = (readS b).l ∧ reads (srcOf b true) (.plain .between) St.zero = reads { (rdOf b).s with ended := true } (rdOf b).pt (rdOf b).st ∧ (∃ n, Lim n (rdOf b).pt (rdOf b).st) ∧ (rdOf b).s.more = true ∧ (rdOf b).s.no = 0 ∧ (rdOf b).s.fat = 0 ∧ (rdOf b).s.closed = false ∧ (rdOf b).s.now = .nilFunc) ∨
    ((rdOf b).ret = .fail (readS b).err (readS b).at_ ∧ (readS b).err ≠ 0 ∧ (rdOf b).st.told = (readS b).l ∧ (rdOf b).s.closed = false) := by
  have hw := reads_whole b
  have hcut := reads_cut ⟨#[]⟩ (b.size + 1) (srcOf b false) (.plain .between) St.zero 0 (by show b.size < _; omega) (lim0 0) rfl
  have hend := reads_end (b.size + 1) (srcOf b false) (.plain .between) St.zero 0 (by show b.size < _; omega) (lim0 0) rfl
  have hmore := reads_stay (fun st => st.told) b (b.size + 1) 0 (srcOf b false) (.plain .between) St.zero 0 (by omega) (Nat.zero_le _) (by show b = _; simp) rfl rfl (lim0 0)
  have e1 : ({ srcOf b false with ended := true } : Src) = srcOf b true := rfl
  rw [e1] at hend
  rw [runs_told] at hmore
  have hno := fun no q => fail_ne (S := srcOf b false) (no := no) (q := q) (lim0 0)
  unfold rdOf
  generalize reads (srcOf b false) (.plain .between) St.zero = m at *
  cases hret : m.ret with
  | more =>
    obtain ⟨c1, stay⟩ := hcut.more hret
    have e2 := hend.1 hret
    obtain ⟨n, hl, _⟩ := stay.lim
    obtain ⟨j, hj, hr, hrest⟩ := hmore hret
    refine Or.inl ⟨rfl, ?_, e2, ⟨n, hl⟩, stay.more, stay.no, stay.fat, stay.closed, stay.now⟩
    obtain ⟨h1, _⟩ := took_cur hrest hj
    have hsh := took_short stay.more
    rw [h1] at hsh
    generalize hs : stepPart m.pt j m.st (cur b j) = o
    obtain ⟨o, r⟩ := o
    cases r with
    | go pt' => exact absurd (by rw [hs]) (stepPart_adds m.pt j m.st (cur b j) hl.sound hsh hl.quote pt')
    | stop =>
      rw [runs_stop hs] at hr
      exact (congrArg Prod.fst hr).symm
    | fail no q =>
      rw [runs_fail hs] at hr
      rw [← fail_told hs]
      exact (congrArg Prod.fst hr).symm
  | over => exact absurd hret hcut.over
  | fail no q =>
    obtain ⟨f1, f2⟩ := hend.2 no q hret
    have hn := hno no q hret
    have herr : (readS b).err ≠ 0 := by
      intro e
      have := (hw.1 e).1
      rw [f1] at this; cases this
    obtain ⟨w1, w2⟩ := hw.2 herr
    rw [f1] at w1
    cases w1
    rw [f2] at w2
    exact Or.inr ⟨rfl, herr, w2, (hcut.fail _ _ hret).2.2⟩
theorem src_new (b : ByteArray) : ({ PR.new.s with rest := PR.new.s.rest ++ b } : Src).bare = srcOf b false := by
  have h : (⟨#[]⟩ : ByteArray) ++ b = b := by
    apply ByteArray.ext
    simp [ByteArray.data_append]
  simp only [PR.new, Src.zero, Src.bare, srcOf, h]
theorem write_new (b : ByteArray) : PR.new.write b = tells (rdOf b) := by
  unfold PR.write
  rw [if_neg (by rintro (h | h); cases h; exact h rfl)]
  show tells (reads ({ PR.new.s with rest := PR.new.s.rest ++ b } : Src).bare (.plain .between) St.zero) = _
  rw [src_new]; rfl
theorem write_ref (b : ByteArray) : (PR.new.write b).2 = (readS b).l := by
  rw [write_new]
  unfold tells
  rcases rd_cases b with ⟨h1, h2, _⟩ | ⟨h1, _, h2, _⟩
  · rw [h1]; exact h2
  · rw [h1]; exact h2
theorem reads_closed (S : Src) (pt : Part) (st : St) (b : Bool) : reads { S with closed := b } pt st = { reads S pt st with s := { (reads S pt st).s with closed := b } } := mrun_closed b _ S pt st
theorem reads_pre (T : List Tok) (S : Src) (pt : Part) (st : St) : reads S pt (st.pre T) = { reads S pt st with st := (reads S pt st).st.pre T } := pre_mrun T _ S pt st
theorem close_ref (b : ByteArray) : (PR.new.write b).1.close.2 = (readS b).last ∧ (PR.new.write b).1.close.1.err = ((readS b).err, (readS b).at_) ∧ (PR.new.write b).1.close.1.s.closed = true := by
  have hw := reads_whole b
  rw [write_new]
  rcases rd_cases b with ⟨h1, h2, h3, ⟨n, hl⟩, hm, hno, hfat, hcl, hnow⟩ | ⟨h1, h2, h3, hcl⟩
  · unfold tells
    rw [h1]
    simp only
    unfold PR.close
    simp only
    rw [hcl, if_neg (show ¬ (false = true) by simp), if_neg (show ¬ ((rdOf b).s.no ≠ 0) by rw [hno]; simp)]
    have hb : ({ (rdOf b).s with closed := true, ended := true } : Src).bare = { ({ (rdOf b).s with ended := true } : Src) with closed := true } := by
      simp only [Src.bare, hnow]
    have hst : (rdOf b).st = ({ (rdOf b).st with told := [] } : St).pre (rdOf b).st.told := by simp [St.pre]
    rw [h3] at hw
    rw [hst, reads_pre] at hw
    simp only at hw
    rw [hb, reads_closed]
    have hkeep := reads_flags (S := { (rdOf b).s with ended := true }) (pt := (rdOf b).pt) (st := { (rdOf b).st with told := [] })
    generalize reads { (rdOf b).s with ended := true } (rdOf b).pt { (rdOf b).st with told := [] } = m at *
    unfold shut tells
    by_cases he : (readS b).err = 0
    · obtain ⟨w1, w2⟩ := hw.1 he
      simp only [w1]
      have w2' : (rdOf b).st.told ++ m.st.told = (readS b).l ++ (readS b).last := w2
      rw [h2] at w2'
      refine ⟨List.append_cancel_left w2', ?_, rfl⟩
      have hat : (readS b).at_ = 0 := by
        have := readF_over (fun st => st.told) (s := b) (b.size + 1) Sc.zero St.zero rfl (Nat.zero_le _) (by show b.size < 0 + _; omega) rel0 he
        exact this.2
      unfold PR.err Src.zero
      simp only [if_true]
      rw [hkeep.1, hkeep.2, he, hat]
      simp only [hno, hfat]
    · obtain ⟨w1, w2⟩ := hw.2 he
      simp only [w1]
      have w2' : (rdOf b).st.told ++ m.st.told = (readS b).l := w2
      rw [h2] at w2'
      have hnil : m.st.told = [] := by simpa using w2'
      refine ⟨?_, rfl, rfl⟩
      rw [hnil]
      unfold Sc.last; rw [if_pos (Or.inl he)]
  · unfold tells
    rw [h1]
    simp only
    unfold PR.close
    simp [Src.zero, hcl, h2, PR.err, Sc.last]
theorem all_ref (b : ByteArray) : allP b = refAll b := by
  obtain ⟨h1, h2, _⟩ := close_ref b
  unfold allP refAll
  rw [h2, write_ref, h1]
end Go.Proofs.YtfolnkmbdmfigaaGreatDoor
