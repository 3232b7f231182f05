import Derived.Lib.SmallJoins
import Derived.Test.YtfolnkmbdmfigaaGreatDoorGaw
import Derived.Test.YtfolnkmbdmfigaaGreatDoorHbg
import Derived.Test.YtfolnkmbdmfigaaGreatDoorGbb
import Derived.Test.YtfolnkmbdmfigaaGreatDoorHbe
import Derived.Test.YtfolnkmbdmfigaaGreatDoorHbf
set_option linter.unusedVariables false
set_option linter.unusedSimpArgs false
set_option linter.unusedSimpArgs false
set_option linter.unusedVariables false
namespace Go.Proofs.YtfolnkmbdmfigaaGreatDoor
open Go.RowKit Go.Lib
variable {s : ByteArray} {p : Nat} {c : Int} {x y z : Sc} {q : Bool}

def rowP (a : List UInt8 × List UInt8) : List UInt8 := a.1 ++ ([61, 34] ++ (Ch.escL true a.2 ++ [34]))
theorem tagA_row (a : List UInt8 × List UInt8) : tagA a = 32 :: rowP a := rfl
theorem attr_plain {l : Ats} {a : List UInt8 × List UInt8} (he : x.err = 0) (hn : NameOf a.1) (hv : TextOf a.2) (hd : l.any (fun b => b.1 == a.1) = false) (h : Ch.has s x.i (rowP a) = true) :
    x.attr s l = ({ x with i := x.i + (rowP a).length }, a) ∧ Ch.begins (cur s x.i) = true := by
  unfold rowP at h ⊢
  obtain ⟨cs, hm, hcs⟩ := hv
  rw [hcs, escL_encs hm] at h ⊢
  rw [has_append] at h
  obtain ⟨h1, h2⟩ := h
  rw [has_append] at h2
  obtain ⟨h2, h3⟩ := h2
  obtain ⟨b1, _, _, b2⟩ := has_sign (u := 61) (by decide) h2
  obtain ⟨d1, _, d3, _⟩ := has_sign (u := 34) (by decide) b2
  have b1' : cur s (x.i + a.1.length) = 61 := b1
  have d1' : cur s (x.i + a.1.length + 1) = 34 := d1
  have h3' : Ch.has s (x.i + a.1.length + 1 + 1) (escs true cs ++ [34]) = true := h3
  obtain ⟨n1, n2, n3⟩ := name_copy hn h1 (by rw [b1']; decide)
  obtain ⟨m1, m2⟩ := name_yes (s := s) he n1
  have hbytes := has_bytes h1 n3
  rw [n2, show x.i + a.1.length - x.i = a.1.length by omega, hbytes] at m2
  rw [n2] at m1
  have htw : x.twice s l = { x with i := x.i + a.1.length } := by
    unfold Sc.twice; rw [m2, hd, if_neg (by simp), m1]
  have g1 : gap s (x.i + a.1.length) = 0 := gap_no (by rw [b1']; decide)
  have g2 : gap s (x.i + a.1.length + 1) = 0 := gap_no (by rw [d1']; decide)
  have hbk := blanks_gap (s := s) (x := { x with i := x.i + a.1.length }) he
  simp only [g1, Nat.add_zero] at hbk
  have hmu := must_one (s := s) (x := { x with i := x.i + a.1.length }) he (c := 61) (by decide)
  have hif : cur s ({ x with i := x.i + a.1.length } : Sc).i = ((61 : UInt8).toNat : Int) := b1'
  rw [if_pos hif] at hmu
  have hbk2 := blanks_gap (s := s) (x := { x with i := x.i + a.1.length + 1 }) he
  simp only [g2, Nat.add_zero] at hbk2
  have heq : x.equal s l = { x with i := x.i + a.1.length + 1 } := by
    unfold Sc.equal; rw [htw, hbk, hmu]; simp only; rw [hbk2]
  have hvc := value_cases (s := s) (x := { x with i := x.i + a.1.length + 1 }) he
  simp only at hvc
  rw [if_pos (Or.inl d1'), d1'] at hvc
  have hsz : (escs true cs ++ [34]).length ≤ s.size := by
    have := Ch.has_size h3' (by simp); omega
  have hcl := escs_len true cs
  rw [List.length_append] at hsz
  have hvf := valF_fuel (s := s) cs { x with i := x.i + a.1.length + 1 + 1 } [] (s.size + 2) he hm h3' (by omega)
  have hvf' : valF s (34 : Int).toNat (s.size + 2) { x with i := x.i + a.1.length + 1 + 1 } [] = ({ x with i := x.i + a.1.length + 1 + 1 + (escs true cs).length }, [] ++ encs cs) := hvf
  rw [hvf'] at hvc
  refine ⟨?_, n1⟩
  unfold Sc.attr
  rw [heq, if_pos he, hvc, m2]
  simp only [List.nil_append, ← hcs]
  congr 1
  simp only [Sc.mk.injEq, List.length_append, List.length_cons, List.length_nil, and_true, true_and]
  omega
theorem attrs_plain : ∀ (ats : Ats) (x : Sc) (l : Ats) (f : Nat), x.err = 0 → (∀ a ∈ ats, NameOf a.1 ∧ TextOf a.2) → Dist l ats → Ch.has s x.i (ats.flatMap tagA) = true → (cur s (x.i + (ats.flatMap tagA).length) = 62 ∨ cur s (x.i + (ats.flatMap tagA).length) = 47) →
    attrsF s (f + 1 + ats.length) x l = ({ x with i := x.i + (ats.flatMap tagA).length }, l ++ ats) := by
  intro ats
  induction ats with
  | nil =>
    intro x l f he _ _ _ hc
    simp only [List.flatMap_nil, List.length_nil, Nat.add_zero] at hc
    have g1 : gap s x.i = 0 := gap_no (by rcases hc with e | e <;> (rw [e]; decide))
    simp only [List.length_nil, Nat.add_zero, attrsF, List.flatMap_nil]
    rw [if_pos (Or.inl (by rw [skip_gap he, g1])), blanks_gap he, g1]
    simp
  | cons a ats ih =>
    intro x l f he hok hd h hc
    have e1 : (a :: ats).flatMap tagA = tagA a ++ ats.flatMap tagA := by simp
    rw [e1, List.length_append] at hc
    rw [e1, has_append] at h
    obtain ⟨h1, h2⟩ := h
    obtain ⟨a1, _, _, a2⟩ := has_sign (u := 32) (by decide) (show Ch.has s x.i (32 :: (rowP a)) = true from h1)
    have a1' : cur s x.i = 32 := a1
    obtain ⟨n1, n2⟩ := attr_plain (s := s) (x := { x with i := x.i + 1 }) (l := l) he (hok a (by simp)).1 (hok a (by simp)).2 hd.1 a2
    have n2' : Ch.begins (cur s (x.i + 1)) = true := n2
    have hb := begins_not n2'
    have g1 : gap s x.i = 1 := by rw [gap_yes (by rw [a1']; decide), gap_no hb.1]
    have i47 : ¬ Sc.is { x with i := x.i + 1 } s 47 = true := fun e => hb.2.1 ((is_cur (x := { x with i := x.i + 1 }) he (c := 47) (by omega)).1 e)
    have i62 : ¬ Sc.is { x with i := x.i + 1 } s 62 = true := fun e => hb.2.2.1 ((is_cur (x := { x with i := x.i + 1 }) he (c := 62) (by omega)).1 e)
    rw [List.length_cons, show f + 1 + (ats.length + 1) = f + 1 + ats.length + 1 by omega]
    conv => lhs; unfold attrsF
    rw [blanks_gap he, skip_gap he, g1, if_neg (by rintro (e | e | e | e); cases e; exact e he; exact i47 e; exact i62 e), n1]
    simp only
    have hlen : (tagA a).length = 1 + (rowP a).length := by rw [tagA_row, List.length_cons]; omega
    have hp : x.i + 1 + (rowP a).length = x.i + (tagA a).length := by omega
    have h2' : Ch.has s (x.i + 1 + (rowP a).length) (ats.flatMap tagA) = true := by rw [hp]; exact h2
    rw [ih { x with i := x.i + 1 + (rowP a).length } (l ++ [a]) f he (fun b hb => hok b (by simp [hb])) hd.2 h2' (by
      show cur s (x.i + 1 + (rowP a).length + _) = 62 ∨ cur s (x.i + 1 + (rowP a).length + _) = 47
      rw [hp, show x.i + (tagA a).length + (ats.flatMap tagA).length = x.i + ((tagA a).length + (ats.flatMap tagA).length) by omega]; exact hc), e1]
    simp only [List.append_assoc, List.singleton_append]
    congr 1
    simp only [Sc.mk.injEq, and_true, true_and]
    rw [List.length_append, hlen]; omega
theorem tagA_len (ats : Ats) : ats.length ≤ (ats.flatMap tagA).length := by
  induction ats with
  | nil => exact Nat.le_refl _
  | cons a ats ih =>
    have e1 : (a :: ats).flatMap tagA = tagA a ++ ats.flatMap tagA := by simp
    have : 1 ≤ (tagA a).length := by unfold tagA; rw [List.length_cons]; omega
    rw [e1, List.length_append, List.length_cons]; omega
theorem read_tag {n : List UInt8} {ats : Ats} {e : UInt8} {r : List UInt8} (hee : e = 62 ∨ e = 47) (he : x.err = 0) (hn : NameOf n) (hok : ∀ a ∈ ats, NameOf a.1 ∧ TextOf a.2) (hd : Dist [] ats) (h : Ch.has s x.i (60 :: (n ++ (ats.flatMap tagA ++ e :: r))) = true) :
    x.markup s = Sc.openTail { x with i := x.i + 1 + n.length + (ats.flatMap tagA).length } s n ats x.i ∧ cur s x.i = 60 ∧ cur s (x.i + 1 + n.length + (ats.flatMap tagA).length) = (e.toNat : Int) ∧ Ch.has s (x.i + 1 + n.length + (ats.flatMap tagA).length + 1) r = true := by
  obtain ⟨a1, _, _, a2⟩ := has_sign (u := 60) (by decide) h
  rw [has_append] at a2
  obtain ⟨h1, h2⟩ := a2
  rw [has_append] at h2
  obtain ⟨h2, h3⟩ := h2
  obtain ⟨z1, _, _, z2⟩ := has_sign (u := e) (by rcases hee with rfl | rfl <;> decide) h3
  have z1' : cur s (x.i + 1 + n.length + (ats.flatMap tagA).length) = 62 ∨ cur s (x.i + 1 + n.length + (ats.flatMap tagA).length) = 47 := by
    rw [z1]; rcases hee with rfl | rfl
    · exact Or.inl rfl
    · exact Or.inr rfl
  have hnext : ¬ inN (cur s (x.i + 1 + n.length)) = true := by
    cases ats with
    | nil =>
      simp only [List.flatMap_nil, List.length_nil, Nat.add_zero] at z1'
      rcases z1' with e | e <;> (rw [e]; decide)
    | cons a ats =>
      have e1 : (a :: ats).flatMap tagA = 32 :: (rowP a ++ ats.flatMap tagA) := by simp [tagA_row]
      rw [e1] at h2
      obtain ⟨d1, _⟩ := has_sign (u := 32) (by decide) h2
      rw [d1]; decide
  obtain ⟨n1, n2, n3⟩ := name_copy hn h1 hnext
  have hbn := begins_not n1
  have hx : ({ x with i := x.i + 1 } : Sc).err = 0 := he
  have i33 : ¬ Sc.is { x with i := x.i + 1 } s 33 = true := fun e => hbn.2.2.2.1 ((is_cur hx (c := 33) (by omega)).1 e)
  have i63 : ¬ Sc.is { x with i := x.i + 1 } s 63 = true := fun e => hbn.2.2.2.2 ((is_cur hx (c := 63) (by omega)).1 e)
  have i47 : ¬ Sc.is { x with i := x.i + 1 } s 47 = true := fun e => hbn.2.1 ((is_cur hx (c := 47) (by omega)).1 e)
  refine ⟨?_, a1, z1, z2⟩
  unfold Sc.markup Sc.behind
  rw [if_neg i33, if_neg i63, if_neg i47]
  unfold Sc.openTag Sc.attrs
  obtain ⟨m1, m2⟩ := name_yes (s := s) (x := { x with i := x.i + 1 }) he n1
  have hbytes := has_bytes h1 n3
  simp only at m1 m2
  rw [n2, show x.i + 1 + n.length - (x.i + 1) = n.length by omega, hbytes] at m2
  rw [n2] at m1
  rw [m1, m2]
  have hsz := Ch.has_size h3 (by simp)
  have hal := tagA_len ats
  obtain ⟨f, hf⟩ : ∃ f, s.size + 2 = f + 1 + ats.length := ⟨s.size + 1 - ats.length, by omega⟩
  have hat := attrs_plain (s := s) ats { x with i := x.i + 1 + n.length } [] f he hok hd h2 z1'
  simp only [List.nil_append] at hat
  rw [hf, hat]
theorem all_told (he : x.err = 0) (t : Tok) : ((x.told t).l ++ (x.told t).last) = (x.l ++ x.last) ++ [t] ∧ (x.told t).more = [] ∧ (x.told t).err = 0 ∧ (x.told t).i = x.i := by
  rw [told_l he]
  refine ⟨?_, rfl, he, rfl⟩
  unfold Sc.last
  rw [if_pos (Or.inr rfl), List.append_nil]
  simp only
  by_cases hm : x.more = []
  · rw [if_pos hm, if_pos (Or.inr hm), List.append_nil]
  · rw [if_neg hm, if_neg (by rintro (e | e); exact e he; exact hm e)]
theorem goes_open {n : List UInt8} {ats : Ats} (he : x.err = 0) (hn : NameOf n) (hok : ∀ a ∈ ats, NameOf a.1 ∧ TextOf a.2) (hd : Dist [] ats) (h : Ch.has s x.i (60 :: (n ++ (ats.flatMap tagA ++ [62]))) = true) :
    ∃ y, Goes s x y ∧ y.err = 0 ∧ y.more = [] ∧ y.i = x.i + (60 :: (n ++ (ats.flatMap tagA ++ [62]))).length ∧ y.l ++ y.last = (x.l ++ x.last) ++ [⟨1, n, ats, [], x.i⟩] := by
  obtain ⟨a1, a2, a3, _⟩ := read_tag (e := 62) (Or.inl rfl) he hn hok hd h
  have a3' : cur s (x.i + 1 + n.length + (ats.flatMap tagA).length) = 62 := a3
  have j47 : ¬ Sc.is { x with i := x.i + 1 + n.length + (ats.flatMap tagA).length } s 47 = true := fun e => by
    have e2 : cur s (x.i + 1 + n.length + (ats.flatMap tagA).length) = 47 := (is_cur (x := { x with i := x.i + 1 + n.length + (ats.flatMap tagA).length }) he (c := 47) (by omega)).1 e
    omega
  have hm := must_one (s := s) (x := { x with i := x.i + 1 + n.length + (ats.flatMap tagA).length }) he (c := 62) (by decide)
  rw [if_pos (show cur s ({ x with i := x.i + 1 + n.length + (ats.flatMap tagA).length } : Sc).i = ((62 : UInt8).toNat : Int) from a3')] at hm
  unfold Sc.openTail at a1
  rw [if_neg j47, hm] at a1
  obtain ⟨b1, b2, b3, b4⟩ := all_told (x := { x with i := x.i + 1 + n.length + (ats.flatMap tagA).length + 1 }) he ⟨1, n, ats, [], x.i⟩
  simp only at a1
  have hi : (x.markup s).i = x.i + (60 :: (n ++ (ats.flatMap tagA ++ [62]))).length := by
    rw [a1, b4]; simp only [List.length_cons, List.length_append, List.length_nil]; omega
  refine ⟨x.markup s, Goes.markup he a2 (by rw [hi]; simp only [List.length_cons]; omega), by rw [a1]; exact b3, by rw [a1]; exact b2, hi, ?_⟩
  rw [a1]; exact b1
theorem goes_empty {n : List UInt8} {ats : Ats} (he : x.err = 0) (hn : NameOf n) (hok : ∀ a ∈ ats, NameOf a.1 ∧ TextOf a.2) (hd : Dist [] ats) (h : Ch.has s x.i (60 :: (n ++ (ats.flatMap tagA ++ [47, 62]))) = true) :
    ∃ y, Goes s x y ∧ y.err = 0 ∧ y.more = [] ∧ y.i = x.i + (60 :: (n ++ (ats.flatMap tagA ++ [47, 62]))).length ∧ y.l ++ y.last = (x.l ++ x.last) ++ [⟨1, n, ats, [], x.i⟩, ⟨2, n, [], [], x.i⟩] := by
  obtain ⟨a1, a2, a3, a4⟩ := read_tag (e := 47) (r := [62]) (Or.inr rfl) he hn hok hd h
  have a3' : cur s (x.i + 1 + n.length + (ats.flatMap tagA).length) = 47 := a3
  obtain ⟨a5, _⟩ := has_sign (u := 62) (l := []) (by decide) a4
  have a5' : cur s (x.i + 1 + n.length + (ats.flatMap tagA).length + 1) = 62 := a5
  have j47 : Sc.is { x with i := x.i + 1 + n.length + (ats.flatMap tagA).length } s 47 = true := (is_cur (x := { x with i := x.i + 1 + n.length + (ats.flatMap tagA).length }) he (c := 47) (by omega)).2 a3'
  have hm := must_one (s := s) (x := { x with i := x.i + 1 + n.length + (ats.flatMap tagA).length + 1 }) he (c := 62) (by decide)
  rw [if_pos (show cur s ({ x with i := x.i + 1 + n.length + (ats.flatMap tagA).length + 1 } : Sc).i = ((62 : UInt8).toNat : Int) from a5')] at hm
  unfold Sc.openTail at a1
  rw [if_pos j47] at a1
  simp only at a1 hm
  rw [hm] at a1
  obtain ⟨b1, b2, b3, b4⟩ := all_told (x := { x with i := x.i + 1 + n.length + (ats.flatMap tagA).length + 1 + 1 }) he ⟨1, n, ats, [], x.i⟩
  obtain ⟨d1, d2, d3, d4⟩ := all_told (x := Sc.told { x with i := x.i + 1 + n.length + (ats.flatMap tagA).length + 1 + 1 } ⟨1, n, ats, [], x.i⟩) b3 ⟨2, n, [], [], x.i⟩
  have hi : (x.markup s).i = x.i + (60 :: (n ++ (ats.flatMap tagA ++ [47, 62]))).length := by
    rw [a1, d4, b4]; simp only [List.length_cons, List.length_append, List.length_nil]; omega
  refine ⟨x.markup s, Goes.markup he a2 (by rw [hi]; simp only [List.length_cons]; omega), by rw [a1]; exact d3, by rw [a1]; exact d2, hi, ?_⟩
  rw [a1, d1, b1, List.append_assoc]; rfl
theorem goes_close {n : List UInt8} (he : x.err = 0) (hn : NameOf n) (h : Ch.has s x.i ([60, 47] ++ (n ++ [62])) = true) :
    ∃ y, Goes s x y ∧ y.err = 0 ∧ y.more = [] ∧ y.i = x.i + ([60, 47] ++ (n ++ [62])).length ∧ y.l ++ y.last = (x.l ++ x.last) ++ [⟨2, n, [], [], x.i⟩] := by
  obtain ⟨a1, a2⟩ := read_close (n := n) he hn (by rw [List.append_assoc]; exact h)
  obtain ⟨b1, b2, b3, b4⟩ := all_told (x := { x with i := x.i + ([60, 47] ++ n ++ [62]).length }) he ⟨2, n, [], [], x.i⟩
  have hi : (x.markup s).i = x.i + ([60, 47] ++ (n ++ [62])).length := by
    rw [a1, b4, List.append_assoc]
  refine ⟨x.markup s, Goes.markup he a2 (by rw [hi]; simp only [List.length_append, List.length_cons, List.length_nil]; omega), by rw [a1]; exact b3, by rw [a1]; exact b2, hi, ?_⟩
  rw [a1]; exact b1
theorem goes_words {t : List UInt8} (he : x.err = 0) (ht : TextOf t) (hne : t ≠ []) (hx : x.more = []) (h : Ch.has s x.i (Ch.escL false t) = true) :
    ∃ y, Goes s x y ∧ y.err = 0 ∧ y.more ≠ [] ∧ y.i = x.i + (Ch.escL false t).length ∧ y.l ++ y.last = (x.l ++ x.last) ++ [⟨3, [], [], t, x.i⟩] := by
  obtain ⟨cs, hm, rfl⟩ := ht
  rw [escL_encs hm] at h ⊢
  have hcs : cs ≠ [] := by rintro rfl; exact hne rfl
  refine ⟨{ x with i := x.i + (escs false cs).length, more := encs cs, frm := x.i }, ⟨cs.length, ?_, fun f => ?_⟩, he, hne, rfl, ?_⟩
  · have := escs_len false cs
    show x.i + cs.length ≤ x.i + (escs false cs).length
    omega
  · rw [read_esc cs x f he hm h, hx, if_pos ⟨rfl, hcs⟩, List.nil_append]
  · unfold Sc.last
    rw [if_neg (by rintro (e | e); exact e he; exact hne e), if_pos (Or.inr hx), List.append_nil]
    rfl
def Fo.toks : Fo → List Tok
  | .nil => []
  | .text t r => ⟨3, [], [], t, 0⟩ :: r.toks
  | .elem n a k r => ⟨1, n, a, [], 0⟩ :: (k.toks ++ ⟨2, n, [], [], 0⟩ :: r.toks)
def GoodT (t : List UInt8) : Prop := TextOf t ∧ t ≠ []
def GoodE (n : List UInt8) (a : Ats) : Prop := NameOf n ∧ (∀ x ∈ a, NameOf x.1 ∧ TextOf x.2) ∧ Dist [] a
theorem goes_fo : ∀ (f : Fo) (x : Sc), x.err = 0 → f.All GoodT GoodE → f.Apart (!x.more.isEmpty) → Ch.has s x.i f.plain = true →
    ∃ y, Goes s x y ∧ y.err = 0 ∧ y.i = x.i + f.plain.length ∧ (y.l ++ y.last).map bare = (x.l ++ x.last).map bare ++ f.toks
  | .nil, x, he, _, _, _ => ⟨x, Goes.refl x, he, by simp [Fo.plain], by simp [Fo.toks]⟩
  | .text t r, x, he, ha, hp, h => by
    simp only [Fo.plain] at h ⊢
    rw [has_append] at h
    have hx : x.more = [] := by simpa using hp.1
    obtain ⟨y, g1, g2, g3, g4, g5⟩ := goes_words (s := s) he ha.1.1 ha.1.2 hx h.1
    obtain ⟨z, k1, k2, k3, k4⟩ := goes_fo r y g2 ha.2 (by rw [show (!y.more.isEmpty) = true by simpa using g3]; exact hp.2) (by rw [g4]; exact h.2)
    refine ⟨z, g1.trans k1, k2, by rw [k3, g4, List.length_append]; omega, ?_⟩
    rw [k4, g5]; simp [Fo.toks, bare]
  | .elem n a .nil r, x, he, ha, hp, h => by
    have e : (Fo.elem n a .nil r).plain = (60 :: (n ++ (a.flatMap tagA ++ [47, 62]))) ++ r.plain := by simp [Fo.plain, Fo.isNil]
    rw [e, has_append] at h
    rw [e]
    obtain ⟨y, g1, g2, g3, g4, g5⟩ := goes_empty (s := s) he ha.1.1 ha.1.2.1 ha.1.2.2 h.1
    obtain ⟨z, k1, k2, k3, k4⟩ := goes_fo r y g2 ha.2.2 (by rw [show (!y.more.isEmpty) = false by simpa using g3]; exact hp.2) (by rw [g4]; exact h.2)
    refine ⟨z, g1.trans k1, k2, by rw [k3, g4, List.length_append]; omega, ?_⟩
    rw [k4, g5]; simp [Fo.toks, bare]
  | .elem n a (.text t k) r, x, he, ha, hp, h => by
    have e : (Fo.elem n a (.text t k) r).plain = (60 :: (n ++ (a.flatMap tagA ++ [62]))) ++ ((Fo.text t k).plain ++ (([60, 47] ++ (n ++ [62])) ++ r.plain)) := by
      conv => lhs; unfold Fo.plain
      simp [Fo.isNil]
    rw [e, has_append, has_append, has_append] at h
    rw [e]
    obtain ⟨h1, h2, h3, h4⟩ := h
    obtain ⟨y, g1, g2, g3, g4, g5⟩ := goes_open (s := s) he ha.1.1 ha.1.2.1 ha.1.2.2 h1
    obtain ⟨z, k1, k2, k3, k4⟩ := goes_fo (.text t k) y g2 ha.2.1 (by rw [show (!y.more.isEmpty) = false by simpa using g3]; exact hp.1) (by rw [g4]; exact h2)
    obtain ⟨v, l1, l2, l3, l4, l5⟩ := goes_close (s := s) (n := n) k2 ha.1.1 (by rw [k3, g4]; exact h3)
    obtain ⟨o, m1, m2, m3, m4⟩ := goes_fo r v l2 ha.2.2 (by rw [show (!v.more.isEmpty) = false by simpa using l3]; exact hp.2) (by rw [l4, k3, g4]; exact h4)
    refine ⟨o, ((g1.trans k1).trans l1).trans m1, m2, by rw [m3, l4, k3, g4]; simp only [List.length_append]; omega, ?_⟩
    rw [m4, l5, List.map_append, k4, g5]; simp [Fo.toks, bare]
  | .elem n a (.elem n' a' k' k) r, x, he, ha, hp, h => by
    have e : (Fo.elem n a (.elem n' a' k' k) r).plain = (60 :: (n ++ (a.flatMap tagA ++ [62]))) ++ ((Fo.elem n' a' k' k).plain ++ (([60, 47] ++ (n ++ [62])) ++ r.plain)) := by
      conv => lhs; unfold Fo.plain
      simp [Fo.isNil]
    rw [e, has_append, has_append, has_append] at h
    rw [e]
    obtain ⟨h1, h2, h3, h4⟩ := h
    obtain ⟨y, g1, g2, g3, g4, g5⟩ := goes_open (s := s) he ha.1.1 ha.1.2.1 ha.1.2.2 h1
    obtain ⟨z, k1, k2, k3, k4⟩ := goes_fo (.elem n' a' k' k) y g2 ha.2.1 (by rw [show (!y.more.isEmpty) = false by simpa using g3]; exact hp.1) (by rw [g4]; exact h2)
    obtain ⟨v, l1, l2, l3, l4, l5⟩ := goes_close (s := s) (n := n) k2 ha.1.1 (by rw [k3, g4]; exact h3)
    obtain ⟨o, m1, m2, m3, m4⟩ := goes_fo r v l2 ha.2.2 (by rw [show (!v.more.isEmpty) = false by simpa using l3]; exact hp.2) (by rw [l4, k3, g4]; exact h4)
    refine ⟨o, ((g1.trans k1).trans l1).trans m1, m2, by rw [m3, l4, k3, g4]; simp only [List.length_append]; omega, ?_⟩
    rw [m4, l5, List.map_append, k4, g5]; simp [Fo.toks, bare]
theorem read_plain {f : Fo} (ha : f.All GoodT GoodE) (hp : f.Apart false) (hs : s.data.toList = f.plain) : (readS s).err = 0 ∧ ((readS s).l ++ (readS s).last).map bare = f.toks := by
  have hhas : Ch.has s 0 f.plain = true := by
    refine Ch.has_of.2 fun k hk => ?_
    have hz : s.data.toList.length = s.size := by simp
    rw [← hs] at hk
    have : Ch.bz s k = ((s.data.toList[k]).toNat : Int) := by
      have hk' : k < s.size := by omega
      simp only [Ch.bz, hk', if_true]
      congr 2
      simp [ByteArray.get!, hk']
    rw [Nat.zero_add, this]
    simp only [hs]
  obtain ⟨y, g1, g2, g3, g4⟩ := goes_fo (s := s) f Sc.zero rfl ha hp hhas
  have hsz : s.size = f.plain.length := by rw [← hs]; simp
  have hr := g1.over (by rw [g3, hsz]; show 0 + _ = _; omega)
  rw [hr]
  exact ⟨g2, by rw [g4]; simp [Sc.zero, Sc.last]⟩
theorem makes_bare : ∀ (f : Fo) (l : List Tok), l.map bare = f.toks → Makes f l
  | .nil, l, h => by
    obtain rfl : l = [] := by simpa [Fo.toks] using h
    exact .nil
  | .text t r, l, h => by
    cases l with
    | nil => simp [Fo.toks] at h
    | cons a l =>
      simp only [List.map_cons, Fo.toks, List.cons.injEq] at h
      have ha := h.1
      simp only [bare, Tok.mk.injEq] at ha
      have := makes_bare r l h.2
      rw [← ha.2.2.2.1]
      exact .text a r l (by rw [ha.1]; decide) (by rw [ha.1]; decide) this
  | .elem n a k r, l, h => by
    cases l with
    | nil => simp [Fo.toks] at h
    | cons t l =>
      simp only [List.map_cons, Fo.toks, List.cons.injEq] at h
      have ha := h.1
      simp only [bare, Tok.mk.injEq] at ha
      obtain ⟨l1, l2, e, e1, e2⟩ := List.map_eq_append_iff.1 h.2
      cases l2 with
      | nil => simp at e2
      | cons c l2 =>
        simp only [List.map_cons, List.cons.injEq] at e2
        have hc := e2.1
        simp only [bare, Tok.mk.injEq] at hc
        have m1 := makes_bare k l1 e1
        have m2 := makes_bare r l2 e2.2
        rw [e, ← ha.2.1, ← ha.2.2.1]
        exact .elem t c k r l1 l2 ha.1 hc.1 (by rw [hc.2.1, ha.2.1]) m1 m2
theorem makes_good {f : Fo} {l : List Tok} (h : Makes f l) : ∀ b, Chain b l → f.All GoodT GoodE ∧ f.Apart b := by
  induction h with
  | nil => intro b _; exact ⟨trivial, trivial⟩
  | text t r l h1 h2 h ih =>
    intro b hc
    obtain ⟨c1, c2, c3⟩ := hc
    rcases c1 with ⟨k, _⟩ | ⟨k, _⟩ | ⟨k, k1, k2, k3, k4⟩
    · exact absurd k h1
    · exact absurd k h2
    · obtain ⟨i1, i2⟩ := ih _ c3
      have e : (t.kind == 3) = true := by simpa using k
      rw [e] at i2
      exact ⟨⟨⟨k3, k4⟩, i1⟩, c2 k, i2⟩
  | elem t c k r lk lr h1 h2 hn hk hr ihk ihr =>
    intro b hc
    obtain ⟨c1, c2, c3⟩ := hc
    have e : (t.kind == 3) = false := by rw [h1]; rfl
    rw [e, chain_append] at c3
    obtain ⟨d1, d2, d3, d4⟩ := c3
    obtain ⟨i1, i2⟩ := ihk _ d1
    have e2 : (c.kind == 3) = false := by rw [h2]; rfl
    rw [e2] at d4
    obtain ⟨j1, j2⟩ := ihr _ d4
    rcases c1 with ⟨k, k1, k2, k3, k4⟩ | ⟨k, _⟩ | ⟨k, _⟩
    · exact ⟨⟨⟨k1, k2, k3⟩, i1, j1⟩, i2, j2⟩
    · omega
    · omega
end Go.Proofs.YtfolnkmbdmfigaaGreatDoor

set_option linter.unusedSimpArgs false
set_option linter.unusedVariables false
namespace Go.Proofs.YtfolnkmbdmfigaaGreatDoor
open Go.RowKit Go.Lib

structure Root (n : List UInt8) (a : Ats) (f : Fo) : Prop where
  name : GoodE n a
  all : f.All GoodT GoodE
  apart : f.Apart false
  deep : 1 + f.deep ≤ 30
def toksOf (s : ByteArray) : List Tok := (readS s).l ++ (readS s).last
theorem toks_chain (s : ByteArray) (he : (readS s).err = 0) : Chain false (toksOf s) := by
  have := refAll_chain s
  unfold refAll at this
  rw [if_neg (by simpa using he)] at this
  exact this
theorem doc_root {n : List UInt8} {a : Ats} {f : Fo} (hd : 1 + f.deep ≤ 30) {l : List Tok} (hl : l.map bare = (Fo.elem n a f .nil).toks) : Doc l n a f := by
  have := makes_bare _ _ hl
  generalize hF : Fo.elem n a f .nil = F at this
  cases this with
  | nil => cases hF
  | text => cases hF
  | elem t c k r lk lr h1 h2 hn hk hr =>
    injection hF with e1 e2 e3 e4
    subst e1; subst e2; subst e3; subst e4
    cases hr
    exact ⟨⟨[], t, lk, c, [], rfl, fun x hx => by simp at hx, fun x hx => by simp at hx, h1, rfl, rfl, hk, h2, hn⟩, hd⟩
theorem parse_root {n : List UInt8} {a : Ats} {f : Fo} (h : Root n a f) {t : ByteArray} (ht : t.data.toList = (Fo.elem n a f .nil).plain) : parseN t = ((Fo.elem n a f .nil).flat 0 (-1), 0, 0) := by
  obtain ⟨r1, r2⟩ := read_plain (s := t) (f := Fo.elem n a f .nil) ⟨h.name, h.all, trivial⟩ ⟨h.apart, trivial⟩ ht
  have hg := grow_doc (doc_root h.deep (l := (readS t).l ++ (readS t).last) r2)
  unfold parseN
  rw [hg, if_neg (by simp), if_neg (by simpa using r1), if_neg (by simp [Fo.flat])]
theorem toks_all {s : ByteArray} (h : (refAll s).2.1 = 0) : (readS s).err = 0 ∧ (readS s).l ++ (readS s).last = (refAll s).1 := by
  unfold refAll at h ⊢
  by_cases he : (readS s).err = 0
  · rw [if_neg (by simpa using he)]; exact ⟨he, rfl⟩
  · rw [if_pos he] at h; exact absurd h he
end Go.Proofs.YtfolnkmbdmfigaaGreatDoor

set_option linter.unusedSimpArgs false
set_option linter.unusedVariables false
namespace Go.Proofs.YtfolnkmbdmfigaaGreatDoor
open Go.RowKit Go.Lib

theorem tagA_shown (l : Ats) : (l.flatMap tagA).length ≤ (l.flatMap shownA).length := by
  induction l with
  | nil => simp
  | cons a l ih =>
    rw [List.flatMap_cons, List.flatMap_cons, List.length_append, List.length_append]
    have : (tagA a).length ≤ (shownA a).length := by
      unfold tagA shownA
      simp only [List.length_cons, List.length_append, List.length_nil]
      omega
    omega
theorem cost_cons (t : Tok) (l : List Tok) : cost (t :: l) = (showT t).length + cost l := by simp [cost]
theorem open_cost {t : Tok} (h : t.kind = 1) : 1 + t.name.length + (t.attrs.flatMap tagA).length + 2 ≤ (showT t).length := by
  unfold showT
  rw [if_pos h]
  have := tagA_shown t.attrs
  simp only [List.length_cons, List.length_append, List.length_nil]
  omega
theorem close_cost {t : Tok} (h : t.kind = 2) : (showT t).length = t.name.length + 3 := by
  unfold showT
  rw [if_neg (by omega), if_pos h]
  simp only [List.length_cons, List.length_append, List.length_nil]
  omega
theorem makes_len {f : Fo} {l : List Tok} (h : Makes f l) : f.plain.length ≤ cost l ∧ f.value.length ≤ f.plain.length := by
  induction h with
  | nil => simp [Fo.plain, Fo.value]
  | text t r l h1 h2 h ih =>
    rw [cost_cons]
    have h3 : showT t = Ch.escL false t.text ++ marks := by unfold showT; rw [if_neg h1, if_neg h2]
    have h7 := Ch.escL_ge false t.text
    rw [h3]
    simp only [Fo.plain, Fo.value, List.length_append]
    omega
  | elem t c k r lk lr h1 h2 hn hk hr ih1 ih2 =>
    have e1 := open_cost h1
    have e2 := close_cost h2
    have e3 := congrArg List.length hn
    rw [cost_cons, cost_append, cost_cons]
    simp only [Fo.plain, Fo.value, List.length_append, List.length_cons, List.length_nil]
    by_cases hz : k.isNil = true
    · rw [if_pos hz]
      have hk0 : k.value = [] := by cases k <;> simp [Fo.isNil, Fo.value] at hz ⊢
      rw [hk0]
      simp only [List.length_cons, List.length_nil]
      omega
    · rw [if_neg hz]
      simp only [List.length_append, List.length_cons, List.length_nil]
      omega
theorem root_long {s : ByteArray} {nodes : List Nd} {q : Int} (h : parseN s = (nodes, 0, q)) : q = 0 ∧ ∃ n a f, Root n a f ∧ nodes = (Fo.elem n a f .nil).flat 0 (-1) ∧ (Fo.elem n a f .nil).plain.length ≤ 64 * s.size ∧ (Fo.elem n a f .nil).value.length ≤ 64 * s.size := by
  have h0 := h
  unfold parseN at h
  split at h
  · rename_i hx
    simp only [Prod.mk.injEq] at h
    exact absurd h.2.1 hx
  · rename_i hx
    split at h
    · rename_i hy
      simp only [Prod.mk.injEq] at h
      exact absurd h.2.1 hy
    · rename_i hy
      split at h
      · simp only [Prod.mk.injEq] at h
        exact absurd h.2.1 (by decide)
      · rename_i hz
        simp only [Prod.mk.injEq] at h
        refine ⟨h.2.2.symm, ?_⟩
        have he : (readS s).err = 0 := by simpa using hy
        have hx0 : (grow Gr.zero (toksOf s)).1 = 0 := Classical.byContradiction fun e => hx e
        have hst : (grow Gr.zero (toksOf s)).2.2.stack = [] := Classical.byContradiction fun e => hz (Or.inl e)
        have hne : (grow Gr.zero (toksOf s)).2.2.nodes ≠ [] := fun e => hz (Or.inr e)
        obtain ⟨n, a, f, hd, e⟩ := doc_of (toksOf s) (grow Gr.zero (toksOf s)).2.2 (grow Gr.zero (toksOf s)).2.1 (by rw [← hx0]) hst hne
        have hc := toks_chain s he
        have hcost := readS_cost s
        obtain ⟨⟨b1, t, ls, c, b2, el, _, _, k1, k2, k3, mk, k4, k5⟩, dp⟩ := hd
        have hcost2 : cost (toksOf s) ≤ 64 * s.size := hcost
        rw [el, cost_append, cost_cons, cost_append, cost_cons] at hcost2
        have hm := makes_len (Makes.elem t c f .nil ls [] k1 k4 (by rw [k5, k2]) mk .nil)
        rw [k2, k3, cost_cons, cost_append, cost_cons] at hm
        have hc0 : cost ([] : List Tok) = 0 := rfl
        rw [hc0] at hm
        refine ⟨n, a, f, ?_, by rw [← e, ← h.1]; rfl, by omega, by omega⟩
        rw [el, chain_append] at hc
        obtain ⟨_, c1, _, c3⟩ := hc
        have e3 : (t.kind == 3) = false := by rw [k1]; rfl
        rw [e3, chain_append] at c3
        obtain ⟨i1, i2⟩ := makes_good mk _ c3.1
        rcases c1 with ⟨_, j1, j2, j3, _⟩ | ⟨k, _⟩ | ⟨k, _⟩
        · subst k2; subst k3
          exact ⟨⟨j1, j2, j3⟩, i1, i2, dp⟩
        · omega
        · omega
end Go.Proofs.YtfolnkmbdmfigaaGreatDoor

set_option linter.unusedSimpArgs false
set_option linter.unusedVariables false
namespace Go.Proofs.YtfolnkmbdmfigaaGreatDoor
open Go.RowKit Go.Maps Go.Lib
variable {A K : Nat → Prop} {w w' w1 wr : World} {nv : Value} {av kv : Nat → Value} {l : List Nd} {tN tA : TypeId} {a : Addr}
theorem Nodes.narrow (h : Nodes tN tA A K w nv l av kv) : Nodes tN tA (fun k => A k ∧ k < w.heap.size) (fun k => K k ∧ k < w.heap.size) w nv l av kv :=
  ⟨h.row, fun k e => ⟨h.rowK k e, own_lt h.row e⟩, h.attr, fun i k hi e => ⟨h.attrA i k hi e, own_lt (h.attr i _ (List.getElem?_eq_getElem hi)) e⟩, h.kid, fun i k hi e => ⟨⟨(h.kidK i k hi e).1, own_lt (h.kid i _ (List.getElem?_eq_getElem hi)) e⟩, (h.kidK i k hi e).2⟩, h.apart, h.knil⟩
def WEnd (w : World) (S : List UInt8) (no q : Int) (e : Ending) (w' : World) : Prop := e = .returned (.tuple #[.string ⟨S.toArray⟩, .int .i64 no, .int .i64 q]) ∧ Below w.heap.size w w'
theorem writer_new (w1 : World) (v : Value) : WR w1.heap.size [] v (w1.alloc (.cells #[.pointer none, .slice none 0 0, v] 110)) :=
  ⟨.pointer none, .slice none 0 0, Or.inl rfl, Below_new w1 _, ⟨rfl, Or.inl ⟨rfl, rfl⟩⟩, fun e => by cases e⟩
def Way (n : Nat) (l : List Nd) (m : Nat) (S : List UInt8) : Prop := ∀ (A K : Nat → Prop) (v : Value) (av kv : Nat → Value) (b : Nat) (w : World), (∀ k, A k → k < b) → (∀ k, K k → k < b) → Nodes 42 44 A K w v l av kv → WR b [] v w →
  Calls Tryz.prog n #[.pointer (some ⟨b, 0, none⟩), .int .i64 (m : Int)] w fun e w' => e = .returned (.tuple #[]) ∧ WR b S v w' ∧ Below b w w'
theorem way_plain {x : Fo} {m : Nat} {u : Int} (hs : Single x) (ha : x.All (fun _ => True) (fun n _ => n ≠ [])) (hx : IsAt l m u x) (hz : x.plain.length ≤ 549755813888) : Way 32 l m x.plain := fun A K v av kv b w hA hK hn hw => by
  have := wplain_ok hA hK hn.knil x.size x m u [] w (Nat.le_refl _) hs ha hx hn hw (by simp only [List.length_nil]; omega)
  simpa using this
set_option maxHeartbeats 8000000 in
set_option maxRecDepth 100000 in
theorem write_bad (s : ByteArray) (k : Int) (n : Nat) (gl : Gl w a) (hb : s.size ≤ 268435456) (h0 : (parseN s).2.1 ≠ 0) : Calls Tryz.prog 31 #[.string s, .int .i64 k, .func (.func n) #[] #[]] w (WEnd w [] (parseN s).2.1 (parseN s).2.2) := by
  have hp := parse_ok s w gl hb
  have hne : ((parseN s).2.1 != 0) = true := by simpa using h0
  have HP := hide hp
  clear hp gl h0
  generalize parseN s = x at *
  obtain ⟨L, no, q⟩ := x
  simp only at hne ⊢
  go_enter Tryz.func31, Tryz.ntmps31
  go_wp2_with (go_at_call 9; refine HP.out.mono ?_; rintro e w1 ⟨v, rfl, hn, hb1, hv⟩; have B1 := hide hb1; clear hn hb1 hv)
  go_ret3
  exact ⟨rfl, B1.out⟩
set_option maxHeartbeats 8000000 in
set_option maxRecDepth 100000 in
theorem write_ok32 (s : ByteArray) (m : Nat) (S : List UInt8) (gl : Gl w a) (hb : s.size ≤ 268435456) (h0 : (parseN s).2.1 = 0) (hm : m < (parseN s).1.length) (hway : Way 32 (parseN s).1 m S) : Calls Tryz.prog 31 #[.string s, .int .i64 (m : Int), .func (.func 32) #[] #[]] w (WEnd w S 0 0) := by
  have hp := parse_ok s w gl hb
  have HP := hide hp
  have HW := hide hway
  clear hp gl hway
  generalize parseN s = x at *
  obtain ⟨L, no, q⟩ := x
  simp only at h0 hm HP HW ⊢
  subst h0
  have hd : decide ((m : Int) < 0) = false := by simp
  have hd2 : decide ((m : Int) ≥ (L.length : Int)) = false := by simp; omega
  have hd3 : decide ((L.length : Int) ≤ (m : Int)) = false := by simp; omega
  have hd4 : decide (L.length ≤ m) = false := by simp; omega
  go_enter Tryz.func31, Tryz.ntmps31
  go_wp2_with (go_at_call 9; refine HP.out.mono ?_; rintro e w1 ⟨v, rfl, ⟨A, K, av, kv, hn, _⟩, hb1, hv⟩; obtain ⟨ai, ac, rfl⟩ := slice_len hn.row; have HN := hide hn.narrow; have B1 := hide hb1; clear hn hb1 hv)
  have hsz := B1.out.size
  have hcall := HW.out _ _ _ _ _ w1.heap.size (w1.alloc (.cells #[.pointer none, .slice none 0 0, .slice ai L.length ac] 110)) (fun k x => x.2) (fun k x => x.2) (HN.out.frame (fun k hk _ => Below.heap_alloc _ _ _ hk) (fun k hk _ => Below.heap_alloc _ _ _ hk) (fun _ _ x => x)) (writer_new w1 _)
  have HC := hide hcall
  have hb2 : Below w.heap.size w (w1.alloc (.cells #[.pointer none, .slice none 0 0, .slice ai L.length ac] 110)) := B1.out.alloc hsz _
  have HB2 := hide hb2
  clear hcall hb2
  refine HC.out.mono ?_
  rintro e w2 ⟨rfl, r2, b2⟩
  have hst := wstring_ok r2
  have hst' := wstring_ok (w := w2.drew) ⟨r2.ex⟩
  have B2 := hide (HB2.out.trans (below_less b2 hsz))
  clear r2 b2
  go_wp2_with (go_at_call 48; refine hst.mono ?_; rintro e w3 ⟨rfl, b3⟩; have B3 := hide (B2.out.trans (below_less b3 hsz)); clear b3)
  go_ret3
  exact ⟨rfl, B3.out⟩
end Go.Proofs.YtfolnkmbdmfigaaGreatDoor

set_option linter.unusedSimpArgs false
set_option linter.unusedVariables false
namespace Go.Proofs.YtfolnkmbdmfigaaGreatDoor
open Go.RowKit Go.Maps Go.Lib
variable {w w' w1 wr : World} {a : Addr}
set_option maxHeartbeats 4000000 in
set_option maxRecDepth 100000 in
theorem print_by (s : ByteArray) (S : List UInt8) (no q : Int) (h : Calls Tryz.prog 31 #[.string s, .int .i64 0, .func (.func 32) #[] #[]] w (WEnd w S no q)) : Calls Tryz.prog 14 #[.string s] w (WEnd w S no q) := by
  go_enter Tryz.func14, Tryz.ntmps14
  go_wp2_with (go_at_call 31; refine h.mono ?_; rintro e w1 ⟨rfl, b1⟩)
  go_ret3
  exact ⟨rfl, b1⟩
set_option maxHeartbeats 4000000 in
set_option maxRecDepth 100000 in
theorem sub_by (s : ByteArray) (k : Int) (S : List UInt8) (no q : Int) (h : Calls Tryz.prog 31 #[.string s, .int .i64 k, .func (.func 32) #[] #[]] w (WEnd w S no q)) : Calls Tryz.prog 15 #[.string s, .int .i64 k] w (WEnd w S no q) := by
  go_enter Tryz.func15, Tryz.ntmps15
  go_wp2_with (go_at_call 31; refine h.mono ?_; rintro e w1 ⟨rfl, b1⟩)
  go_ret3
  exact ⟨rfl, b1⟩
structure Leaf (l : List Nd) (m : Nat) (x : Fo) : Prop where
  ex : ∃ u, IsAt l m u x
  one : Single x
  all : x.All (fun _ => True) (fun n _ => n ≠ [])
  len : x.plain.length ≤ 549755813888
  vlen : x.value.length ≤ 549755813888
  lt : m < l.length
theorem name_some {n : List UInt8} (h : NameOf n) : n ≠ [] := by
  obtain ⟨s0, q, hb, rfl⟩ := h
  have h0 : 0 ≤ cur s0 q := by have := (Ch.begins_iff _).1 hb; omega
  have hq := cur_pos h0
  have hle : nend s0 q ≤ s0.size := nend_le (by omega)
  have hin : inN (cur s0 q) = true := by unfold inN; rw [hb]; rfl
  have hgt : q < nend s0 q := by
    have := nend_ge s0 (q + wid s0 q)
    rw [nend_yes hin]; omega
  intro e
  have := congrArg List.length e
  rw [bytes_len _ _ _ (by omega)] at this
  simp only [List.length_nil] at this
  omega
theorem all_names : ∀ (f : Fo), f.All GoodT GoodE → f.All (fun _ => True) (fun n _ => n ≠ [])
  | .nil, _ => trivial
  | .text t r, h => ⟨trivial, all_names r h.2⟩
  | .elem n a k r, h => ⟨name_some h.1.1, all_names k h.2.1, all_names r h.2.2⟩
structure Whole (s : ByteArray) (l : List Nd) (n : List UInt8) (a : Ats) (f : Fo) : Prop where
  root : Root n a f
  nodes : l = (Fo.elem n a f .nil).flat 0 (-1)
  plain : (Fo.elem n a f .nil).plain.length ≤ 64 * s.size
  value : (Fo.elem n a f .nil).value.length ≤ 64 * s.size
theorem whole_of {s : ByteArray} (h : (parseN s).2.1 = 0) : (parseN s).2.2 = 0 ∧ ∃ n a f, Whole s (parseN s).1 n a f := by
  have e : parseN s = ((parseN s).1, 0, (parseN s).2.2) := by rw [← h]
  obtain ⟨hq, n, a, f, h1, h2, h3, h4⟩ := root_long e
  exact ⟨hq, n, a, f, h1, h2, h3, h4⟩
theorem Whole.len {s : ByteArray} {l : List Nd} {n : List UInt8} {a : Ats} {f : Fo} (h : Whole s l n a f) : l.length = 1 + f.size := by
  rw [h.nodes, flat_len]; simp only [Fo.size, Nat.add_zero]
theorem Whole.first {s : ByteArray} {l : List Nd} {n : List UInt8} {a : Ats} {f : Fo} (h : Whole s l n a f) (hs : s.size ≤ 4294967296) : Leaf l 0 (Fo.elem n a f .nil) := by
  refine ⟨⟨-1, by rw [h.nodes]; exact isAt_whole _ _⟩, Or.inr ⟨n, a, f, rfl⟩, all_names _ ⟨h.root.name, h.root.all, trivial⟩, by have := h.plain; omega, by have := h.value; omega, by rw [h.len]; omega⟩
theorem print_bad (s : ByteArray) (gl : Gl w a) (hb : s.size ≤ 268435456) (h0 : (parseN s).2.1 ≠ 0) : Calls Tryz.prog 14 #[.string s] w (WEnd w [] (parseN s).2.1 (parseN s).2.2) := print_by s _ _ _ (write_bad s 0 32 gl hb h0)
theorem print_good (s : ByteArray) (gl : Gl w a) (hb : s.size ≤ 268435456) (h0 : (parseN s).2.1 = 0) {x : Fo} (hx : Leaf (parseN s).1 0 x) : Calls Tryz.prog 14 #[.string s] w (WEnd w x.plain 0 0) := by
  obtain ⟨u, hu⟩ := hx.ex
  exact print_by s _ _ _ (write_ok32 s 0 x.plain gl hb h0 hx.lt (way_plain hx.one hx.all hu hx.len))
theorem sub_good (s : ByteArray) (m : Nat) (gl : Gl w a) (hb : s.size ≤ 268435456) (h0 : (parseN s).2.1 = 0) {x : Fo} (hx : Leaf (parseN s).1 m x) : Calls Tryz.prog 15 #[.string s, .int .i64 (m : Int)] w (WEnd w x.plain 0 0) := by
  obtain ⟨u, hu⟩ := hx.ex
  exact sub_by s _ _ _ _ (write_ok32 s m x.plain gl hb h0 hx.lt (way_plain hx.one hx.all hu hx.len))
end Go.Proofs.YtfolnkmbdmfigaaGreatDoor

set_option linter.unusedSimpArgs false
set_option linter.unusedVariables false
namespace Go.Proofs.YtfolnkmbdmfigaaGreatDoor
open Go.RowKit Go.Maps Go.Lib
variable {A K : Nat → Prop} {w w' w1 wr : World} {nv : Value} {av kv : Nat → Value} {l : List Nd}
theorem Nodes.later (h : Nodes 76 82 A K w nv l av kv) (hb : Below w.heap.size w w') : Nodes 76 82 A K w' nv l av kv :=
  h.frame (fun k hk _ => hb.block k hk) (fun k hk _ => hb.block k hk) (fun _ _ x => x)
end Go.Proofs.YtfolnkmbdmfigaaGreatDoor

set_option linter.unusedSimpArgs false
set_option linter.unusedVariables false
namespace Go.Proofs.YtfolnkmbdmfigaaGreatDoor
open Go.RowKit Go.Maps Go.Lib
variable {w w' w1 wr : World} {a : Addr}
def alive1 : ByteArray := ⟨#[60, 97, 62, 60, 98, 47, 62, 120, 60, 47, 97, 62]⟩
def alive2 : ByteArray := ⟨#[60, 97, 32, 107, 61, 39, 49, 39, 62, 60, 47, 97, 62]⟩
theorem alive1_all : refAll alive1 = ([⟨1, [97], [], [], 0⟩, ⟨1, [98], [], [], 3⟩, ⟨2, [98], [], [], 3⟩, ⟨3, [], [], [120], 7⟩, ⟨2, [97], [], [], 8⟩], 0, 0) := by rw [← all_ref]; kernel_rfl
theorem alive2_all : refAll alive2 = ([⟨1, [97], [([107], [49])], [], 0⟩, ⟨2, [97], [], [], 9⟩], 0, 0) := by rw [← all_ref]; kernel_rfl
def leaf2 : Fo := .elem [97] [([107], [49])] .nil .nil
theorem alive1_parse : parseN alive1 = ([⟨[97], [], [], [1, 2], -1⟩, ⟨[98], [], [], [], 0⟩, ⟨[], [], [120], [], 0⟩], 0, 0) := by
  obtain ⟨h1, h2⟩ := toks_all (s := alive1) (by rw [alive1_all])
  unfold parseN
  rw [h2, h1, alive1_all]
  rfl
theorem alive2_parse : parseN alive2 = ([⟨[97], [([107], [49])], [], [], -1⟩], 0, 0) := by
  obtain ⟨h1, h2⟩ := toks_all (s := alive2) (by rw [alive2_all])
  unfold parseN
  rw [h2, h1, alive2_all]
  rfl
theorem leaf2_plain : leaf2.plain = [60, 97, 32, 107, 61, 34, 49, 34, 47, 62] := by rfl
theorem leaf2_ok : Leaf (parseN alive2).1 0 leaf2 := by
  rw [alive2_parse]
  refine ⟨⟨-1, isAt_whole leaf2 (-1)⟩, Or.inr ⟨_, _, _, rfl⟩, ⟨by simp, trivial, trivial⟩, ?_, ?_, by decide⟩
  · rw [leaf2_plain]; decide
  · decide
theorem Gl.up (gl : Gl w a) (h : Below w.heap.size w w') : Gl w' a := gl.frame (F := fun _ => False) (Frame.below h) (fun _ _ x => x)
theorem num_ok (n : Int) (w : World) : Calls Tryz.prog 12 #[.int .i64 n] w fun e w' => e = .returned (.int .i64 n) ∧ w' = w := by
  go_enter Tryz.func12, Tryz.ntmps12
  go_wp2
  go_ret
  exact ⟨rfl, rfl⟩
set_option maxHeartbeats 8000000 in
set_option maxRecDepth 100000 in
theorem alive_ok (gl : Gl w a) : Calls Tryz.prog 13 #[] w fun e w' => e = .returned (.bool true) ∧ Below w.heap.size w w' := by
  have h1 := parse_ok alive1 w gl (by decide)
  rw [alive1_parse] at h1
  have h2 : ∀ W, Below w.heap.size w W → Calls Tryz.prog 14 #[.string alive2] W (WEnd W [60, 97, 32, 107, 61, 34, 49, 34, 47, 62] 0 0) := fun W hW => by
    have := print_good (w := W) alive2 (gl.up hW) (by decide) (by rw [alive2_parse]) leaf2_ok
    rw [leaf2_plain] at this
    exact this
  have H1 := hide h1
  have H2 := hide h2
  clear h1 h2 gl
  unfold alive1 at H1
  unfold alive2 at H2
  go_enter Tryz.func13, Tryz.ntmps13
  go_wp2_with (first
    | (go_at_call 9; refine H1.out.mono ?_; rintro e w1 ⟨v, rfl, ⟨A, K, av, kv, hn, _⟩, b1, _⟩; obtain ⟨g, cap, rfl, hml, hKg, q0, q1, q2, q3, q4⟩ := hn.cells 2 ⟨[], [], [120], [], 0⟩ rfl; have hlt := World.block_lt_of_cell? w1 _ q2; have B1 := hide b1; clear hn b1 q0 q1 q3 q4 hml)
    | (go_at_call 14; refine (H2.out _ B1.out).mono ?_; rintro e w2 ⟨rfl, b2⟩; have r2 : w2.cell? ⟨g, 12, none⟩ = some (.string ⟨#[120]⟩) := (World.cell?_of_block (b2.block g hlt)).trans q2; have B2 := hide (B1.out.trans (below_less b2 B1.out.size)); clear b2)
    | (go_at_call 12; refine (num_ok _ _).mono ?_; rintro e w3 ⟨rfl, rfl⟩))
  go_ret
  exact ⟨rfl, B2.out⟩
end Go.Proofs.YtfolnkmbdmfigaaGreatDoor
