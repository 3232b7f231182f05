import Derived.Lib.SmallJoins
import Derived.Test.YthfklhaelmhdhaaGreatDoorGaw
import Derived.Test.YthfklhaelmhdhaaGreatDoorHbg
import Derived.Test.YthfklhaelmhdhaaGreatDoorGbb
import Derived.Test.YthfklhaelmhdhaaGreatDoorHbe
import Derived.Test.YthfklhaelmhdhaaGreatDoorHbf
set_option linter.unusedVariables false
set_option linter.unusedSimpArgs false
set_option linter.unusedSimpArgs false
set_option linter.unusedVariables false
namespace Go.Proofs.YthfklhaelmhdhaaGreatDoor
open Go.RowKit Go.Lib
variable {s : ByteArray} {p : Nat} {c : Int} {x y z : Sc} {q : Bool}

def rowP (a : List UInt8 × List UInt8) : List UInt8 := a.1 ++ ([61, 34] ++ (Ch.escL true a.2 ++ [34]))
theorem tagA_row (a : List UInt8 × List UInt8) : tagA a = 32 :: rowP a := rfl
theorem attr_plain {l : Ats} {a : List UInt8 × List UInt8} (he : x.err = 0) (hn : NameOf a.1) (hv : TextOf a.2) (hd : l.any (fun b => b.1 == a.1) = false) (h : Ch.has s x.i (rowP a) = true) :
    x.attr s l = ({ x with i := x.i + (rowP a).length }, a) ∧ Ch.begins (cur s x.i) = true := by
  unfold rowP at h ⊢
  obtain ⟨cs, hm, hcs⟩ := hv
  rw [hcs, escL_encs hm] at h ⊢
  rw [has_append] at h
  obtain ⟨h1, h2⟩ := h
  rw [has_append] at h2
  obtain ⟨h2, h3⟩ := h2
  obtain ⟨b1, _, _, b2⟩ := has_sign (u := 61) (by decide) h2
  obtain ⟨d1, _, d3, _⟩ := has_sign (u := 34) (by decide) b2
  have b1' : cur s (x.i + a.1.length) = 61 := b1
  have d1' : cur s (x.i + a.1.length + 1) = 34 := d1
  have h3' : Ch.has s (x.i + a.1.length + 1 + 1) (escs true cs ++ [34]) = true := h3
  obtain ⟨n1, n2, n3⟩ := name_copy hn h1 (by rw [b1']; decide)
  obtain ⟨m1, m2⟩ := name_yes (s := s) he n1
  have hbytes := has_bytes h1 n3
  rw [n2, show x.i + a.1.length - x.i = a.1.length by omega, hbytes] at m2
  rw [n2] at m1
  have htw : x.twice s l = { x with i := x.i + a.1.length } := by
    unfold Sc.twice; rw [m2, hd, if_neg (by simp), m1]
  have g1 : gap s (x.i + a.1.length) = 0 := gap_no (by rw [b1']; decide)
  have g2 : gap s (x.i + a.1.length + 1) = 0 := gap_no (by rw [d1']; decide)
  have hbk := blanks_gap (s := s) (x := { x with i := x.i + a.1.length }) he
  simp only [g1, Nat.add_zero] at hbk
  have hmu := must_one (s := s) (x := { x with i := x.i + a.1.length }) he (c := 61) (by decide)
  have hif : cur s ({ x with i := x.i + a.1.length } : Sc).i = ((61 : UInt8).toNat : Int) := b1'
  rw [if_pos hif] at hmu
  have hbk2 := blanks_gap (s := s) (x := { x with i := x.i + a.1.length + 1 }) he
  simp only [g2, Nat.add_zero] at hbk2
  have heq : x.equal s l = { x with i := x.i + a.1.length + 1 } := by
    unfold Sc.equal; rw [htw, hbk, hmu]; simp only; rw [hbk2]
  have hvc := value_cases (s := s) (x := { x with i := x.i + a.1.length + 1 }) he
  simp only at hvc
  rw [if_pos (Or.inl d1'), d1'] at hvc
  have hsz : (escs true cs ++ [34]).length ≤ s.size := by
    have := Ch.has_size h3' (by simp); omega
  have hcl := escs_len true cs
  rw [List.length_append] at hsz
  have hvf := valF_fuel (s := s) cs { x with i := x.i + a.1.length + 1 + 1 } [] (s.size + 2) he hm h3' (by omega)
  have hvf' : valF s (34 : Int).toNat (s.size + 2) { x with i := x.i + a.1.length + 1 + 1 } [] = ({ x with i := x.i + a.1.length + 1 + 1 + (escs true cs).length }, [] ++ encs cs) := hvf
  rw [hvf'] at hvc
  refine ⟨?_, n1⟩
  unfold Sc.attr
  rw [heq, if_pos he, hvc, m2]
  simp only [List.nil_append, ← hcs]
  congr 1
  simp only [Sc.mk.injEq, List.length_append, List.length_cons, List.length_nil, and_true, true_and]
  omega
theorem attrs_plain : ∀ (ats : Ats) (x : Sc) (l : Ats) (f : Nat), x.err = 0 → (∀ a ∈ ats, NameOf a.1 ∧ TextOf a.2) → Dist l ats → Ch.has s x.i (ats.flatMap tagA) = true → (cur s (x.i + (ats.flatMap tagA).length) = 62 ∨ cur s (x.i + (ats.flatMap tagA).length) = 47) →
    attrsF s (f + 1 + ats.length) x l = ({ x with i := x.i + (ats.flatMap tagA).length }, l ++ ats) := by
  intro ats
  induction ats with
  | nil =>
    intro x l f he _ _ _ hc
    simp only [List.flatMap_nil, List.length_nil, Nat.add_zero] at hc
    have g1 : gap s x.i = 0 := gap_no (by rcases hc with e | e <;> (rw [e]; decide))
    simp only [List.length_nil, Nat.add_zero, attrsF, List.flatMap_nil]
    rw [if_pos (Or.inl (by rw [skip_gap he, g1])), blanks_gap he, g1]
    simp
  | cons a ats ih =>
    intro x l f he hok hd h hc
    have e1 : (a :: ats).flatMap tagA = tagA a ++ ats.flatMap tagA := by simp
    rw [e1, List.length_append] at hc
    rw [e1, has_append] at h
    obtain ⟨h1, h2⟩ := h
    obtain ⟨a1, _, _, a2⟩ := has_sign (u := 32) (by decide) (show Ch.has s x.i (32 :: (rowP a)) = true from h1)
    have a1' : cur s x.i = 32 := a1
    obtain ⟨n1, n2⟩ := attr_plain (s := s) (x := { x with i := x.i + 1 }) (l := l) he (hok a (by simp)).1 (hok a (by simp)).2 hd.1 a2
    have n2' : Ch.begins (cur s (x.i + 1)) = true := n2
    have hb := begins_not n2'
    have g1 : gap s x.i = 1 := by rw [gap_yes (by rw [a1']; decide), gap_no hb.1]
    have i47 : ¬ Sc.is { x with i := x.i + 1 } s 47 = true := fun e => hb.2.1 ((is_cur (x := { x with i := x.i + 1 }) he (c := 47) (by omega)).1 e)
    have i62 : ¬ Sc.is { x with i := x.i + 1 } s 62 = true := fun e => hb.2.2.1 ((is_cur (x := { x with i := x.i + 1 }) he (c := 62) (by omega)).1 e)
    rw [List.length_cons, show f + 1 + (ats.length + 1) = f + 1 + ats.length + 1 by omega]
    conv => lhs; unfold attrsF
    rw [blanks_gap he, skip_gap he, g1, if_neg (by rintro (e | e | e | e); cases e; exact e he; exact i47 e; exact i62 e), n1]
    simp only
    have hlen : (tagA a).length = 1 + (rowP a).length := by rw [tagA_row, List.length_cons]; omega
    have hp : x.i + 1 + (rowP a).length = x.i + (tagA a).length := by omega
    have h2' : Ch.has s (x.i + 1 + (rowP a).length) (ats.flatMap tagA) = true := by rw [hp]; exact h2
    rw [ih { x with i := x.i + 1 + (rowP a).length } (l ++ [a]) f he (fun b hb => hok b (by simp [hb])) hd.2 h2' (by
      show cur s (x.i + 1 + (rowP a).length + _) = 62 ∨ cur s (x.i + 1 + (rowP a).length + _) = 47
      rw [hp, show x.i + (tagA a).length + (ats.flatMap tagA).length = x.i + ((tagA a).length + (ats.flatMap tagA).length) by omega]; exact hc), e1]
    simp only [List.append_assoc, List.singleton_append]
    congr 1
    simp only [Sc.mk.injEq, and_true, true_and]
    rw [List.length_append, hlen]; omega
theorem tagA_len (ats : Ats) : ats.length ≤ (ats.flatMap tagA).length := by
  induction ats with
  | nil => exact Nat.le_refl _
  | cons a ats ih =>
    have e1 : (a :: ats).flatMap tagA = tagA a ++ ats.flatMap tagA := by simp
    have : 1 ≤ (tagA a).length := by unfold tagA; rw [List.length_cons]; omega
    rw [e1, List.length_append, List.length_cons]; omega
theorem read_tag {n : List UInt8} {ats : Ats} {e : UInt8} {r : List UInt8} (hee : e = 62 ∨ e = 47) (he : x.err = 0) (hn : NameOf n) (hok : ∀ a ∈ ats, NameOf a.1 ∧ TextOf a.2) (hd : Dist [] ats) (h : Ch.has s x.i (60 :: (n ++ (ats.flatMap tagA ++ e :: r))) = true) :
    x.markup s = Sc.openTail { x with i := x.i + 1 + n.length + (ats.flatMap tagA).length } s n ats x.i ∧ cur s x.i = 60 ∧ cur s (x.i + 1 + n.length + (ats.flatMap tagA).length) = (e.toNat : Int) ∧ Ch.has s (x.i + 1 + n.length + (ats.flatMap tagA).length + 1) r = true := by
  obtain ⟨a1, _, _, a2⟩ := has_sign (u := 60) (by decide) h
  rw [has_append] at a2
  obtain ⟨h1, h2⟩ := a2
  rw [has_append] at h2
  obtain ⟨h2, h3⟩ := h2
  obtain ⟨z1, _, _, z2⟩ := has_sign (u := e) (by rcases hee with rfl | rfl <;> decide) h3
  have z1' : cur s (x.i + 1 + n.length + (ats.flatMap tagA).length) = 62 ∨ cur s (x.i + 1 + n.length + (ats.flatMap tagA).length) = 47 := by
    rw [z1]; rcases hee with rfl | rfl
    · exact Or.inl rfl
    · exact Or.inr rfl
  have hnext : ¬ inN (cur s (x.i + 1 + n.length)) = true := by
    cases ats with
    | nil =>
      simp only [List.flatMap_nil, List.length_nil, Nat.add_zero] at z1'
      rcases z1' with e | e <;> (rw [e]; decide)
    | cons a ats =>
      have e1 : (a :: ats).flatMap tagA = 32 :: (rowP a ++ ats.flatMap tagA) := by simp [tagA_row]
      rw [e1] at h2
      obtain ⟨d1, _⟩ := has_sign (u := 32) (by decide) h2
      rw [d1]; decide
  obtain ⟨n1, n2, n3⟩ := name_copy hn h1 hnext
  have hbn := begins_not n1
  have hx : ({ x with i := x.i + 1 } : Sc).err = 0 := he
  have i33 : ¬ Sc.is { x with i := x.i + 1 } s 33 = true := fun e => hbn.2.2.2.1 ((is_cur hx (c := 33) (by omega)).1 e)
  have i63 : ¬ Sc.is { x with i := x.i + 1 } s 63 = true := fun e => hbn.2.2.2.2 ((is_cur hx (c := 63) (by omega)).1 e)
  have i47 : ¬ Sc.is { x with i := x.i + 1 } s 47 = true := fun e => hbn.2.1 ((is_cur hx (c := 47) (by omega)).1 e)
  refine ⟨?_, a1, z1, z2⟩
  unfold Sc.markup Sc.behind
  rw [if_neg i33, if_neg i63, if_neg i47]
  unfold Sc.openTag Sc.attrs
  obtain ⟨m1, m2⟩ := name_yes (s := s) (x := { x with i := x.i + 1 }) he n1
  have hbytes := has_bytes h1 n3
  simp only at m1 m2
  rw [n2, show x.i + 1 + n.length - (x.i + 1) = n.length by omega, hbytes] at m2
  rw [n2] at m1
  rw [m1, m2]
  have hsz := Ch.has_size h3 (by simp)
  have hal := tagA_len ats
  obtain ⟨f, hf⟩ : ∃ f, s.size + 2 = f + 1 + ats.length := ⟨s.size + 1 - ats.length, by omega⟩
  have hat := attrs_plain (s := s) ats { x with i := x.i + 1 + n.length } [] f he hok hd h2 z1'
  simp only [List.nil_append] at hat
  rw [hf, hat]
theorem all_told (he : x.err = 0) (t : Tok) : ((x.told t).l ++ (x.told t).last) = (x.l ++ x.last) ++ [t] ∧ (x.told t).more = [] ∧ (x.told t).err = 0 ∧ (x.told t).i = x.i := by
  rw [told_l he]
  refine ⟨?_, rfl, he, rfl⟩
  unfold Sc.last
  rw [if_pos (Or.inr rfl), List.append_nil]
  simp only
  by_cases hm : x.more = []
  · rw [if_pos hm, if_pos (Or.inr hm), List.append_nil]
  · rw [if_neg hm, if_neg (by rintro (e | e); exact e he; exact hm e)]
theorem goes_open {n : List UInt8} {ats : Ats} (he : x.err = 0) (hn : NameOf n) (hok : ∀ a ∈ ats, NameOf a.1 ∧ TextOf a.2) (hd : Dist [] ats) (h : Ch.has s x.i (60 :: (n ++ (ats.flatMap tagA ++ [62]))) = true) :
    ∃ y, Goes s x y ∧ y.err = 0 ∧ y.more = [] ∧ y.i = x.i + (60 :: (n ++ (ats.flatMap tagA ++ [62]))).length ∧ y.l ++ y.last = (x.l ++ x.last) ++ [⟨1, n, ats, [], x.i⟩] := by
  obtain ⟨a1, a2, a3, _⟩ := read_tag (e := 62) (Or.inl rfl) he hn hok hd h
  have a3' : cur s (x.i + 1 + n.length + (ats.flatMap tagA).length) = 62 := a3
  have j47 : ¬ Sc.is { x with i := x.i + 1 + n.length + (ats.flatMap tagA).length } s 47 = true := fun e => by
    have e2 : cur s (x.i + 1 + n.length + (ats.flatMap tagA).length) = 47 := (is_cur (x := { x with i := x.i + 1 + n.length + (ats.flatMap tagA).length }) he (c := 47) (by omega)).1 e
    omega
  have hm := must_one (s := s) (x := { x with i := x.i + 1 + n.length + (ats.flatMap tagA).length }) he (c := 62) (by decide)
  rw [if_pos (show cur s ({ x with i := x.i + 1 + n.length + (ats.flatMap tagA).length } : Sc).i = ((62 : UInt8).toNat : Int) from a3')] at hm
  unfold Sc.openTail at a1
  rw [if_neg j47, hm] at a1
  obtain ⟨b1, b2, b3, b4⟩ := all_told (x := { x with i := x.i + 1 + n.length + (ats.flatMap tagA).length + 1 }) he ⟨1, n, ats, [], x.i⟩
  simp only at a1
  have hi : (x.markup s).i = x.i + (60 :: (n ++ (ats.flatMap tagA ++ [62]))).length := by
    rw [a1, b4]; simp only [List.length_cons, List.length_append, List.length_nil]; omega
  refine ⟨x.markup s, Goes.markup he a2 (by rw [hi]; simp only [List.length_cons]; omega), by rw [a1]; exact b3, by rw [a1]; exact b2, hi, ?_⟩
  rw [a1]; exact b1
theorem goes_empty {n : List UInt8} {ats : Ats} (he : x.err = 0) (hn : NameOf n) (hok : ∀ a ∈ ats, NameOf a.1 ∧ TextOf a.2) (hd : Dist [] ats) (h : Ch.has s x.i (60 :: (n ++ (ats.flatMap tagA ++ [47, 62]))) = true) :
    ∃ y, Goes s x y ∧ y.err = 0 ∧ y.more = [] ∧ y.i = x.i + (60 :: (n ++ (ats.flatMap tagA ++ [47, 62]))).length ∧ y.l ++ y.last = (x.l ++ x.last) ++ [⟨1, n, ats, [], x.i⟩, ⟨2, n, [], [], x.i⟩] := by
  obtain ⟨a1, a2, a3, a4⟩ := read_tag (e := 47) (r := [62]) (Or.inr rfl) he hn hok hd h
  have a3' : cur s (x.i + 1 + n.length + (ats.flatMap tagA).length) = 47 := a3
  obtain ⟨a5, _⟩ := has_sign (u := 62) (l := []) (by decide) a4
  have a5' : cur s (x.i + 1 + n.length + (ats.flatMap tagA).length + 1) = 62 := a5
  have j47 : Sc.is { x with i := x.i + 1 + n.length + (ats.flatMap tagA).length } s 47 = true := (is_cur (x := { x with i := x.i + 1 + n.length + (ats.flatMap tagA).length }) he (c := 47) (by omega)).2 a3'
  have hm := must_one (s := s) (x := { x with i := x.i + 1 + n.length + (ats.flatMap tagA).length + 1 }) he (c := 62) (by decide)
  rw [if_pos (show cur s ({ x with i := x.i + 1 + n.length + (ats.flatMap tagA).length + 1 } : Sc).i = ((62 : UInt8).toNat : Int) from a5')] at hm
  unfold Sc.openTail at a1
  rw [if_pos j47] at a1
  simp only at a1 hm
  rw [hm] at a1
  obtain ⟨b1, b2, b3, b4⟩ := all_told (x := { x with i := x.i + 1 + n.length + (ats.flatMap tagA).length + 1 + 1 }) he ⟨1, n, ats, [], x.i⟩
  obtain ⟨d1, d2, d3, d4⟩ := all_told (x := Sc.told { x with i := x.i + 1 + n.length + (ats.flatMap tagA).length + 1 + 1 } ⟨1, n, ats, [], x.i⟩) b3 ⟨2, n, [], [], x.i⟩
  have hi : (x.markup s).i = x.i + (60 :: (n ++ (ats.flatMap tagA ++ [47, 62]))).length := by
    rw [a1, d4, b4]; simp only [List.length_cons, List.length_append, List.length_nil]; omega
  refine ⟨x.markup s, Goes.markup he a2 (by rw [hi]; simp only [List.length_cons]; omega), by rw [a1]; exact d3, by rw [a1]; exact d2, hi, ?_⟩
  rw [a1, d1, b1, List.append_assoc]; rfl
theorem goes_close {n : List UInt8} (he : x.err = 0) (hn : NameOf n) (h : Ch.has s x.i ([60, 47] ++ (n ++ [62])) = true) :
    ∃ y, Goes s x y ∧ y.err = 0 ∧ y.more = [] ∧ y.i = x.i + ([60, 47] ++ (n ++ [62])).length ∧ y.l ++ y.last = (x.l ++ x.last) ++ [⟨2, n, [], [], x.i⟩] := by
  obtain ⟨a1, a2⟩ := read_close (n := n) he hn (by rw [List.append_assoc]; exact h)
  obtain ⟨b1, b2, b3, b4⟩ := all_told (x := { x with i := x.i + ([60, 47] ++ n ++ [62]).length }) he ⟨2, n, [], [], x.i⟩
  have hi : (x.markup s).i = x.i + ([60, 47] ++ (n ++ [62])).length := by
    rw [a1, b4, List.append_assoc]
  refine ⟨x.markup s, Goes.markup he a2 (by rw [hi]; simp only [List.length_append, List.length_cons, List.length_nil]; omega), by rw [a1]; exact b3, by rw [a1]; exact b2, hi, ?_⟩
  rw [a1]; exact b1
theorem goes_words {t : List UInt8} (he : x.err = 0) (ht : TextOf t) (hne : t ≠ []) (hx : x.more = []) (h : Ch.has s x.i (Ch.escL false t) = true) :
    ∃ y, Goes s x y ∧ y.err = 0 ∧ y.more ≠ [] ∧ y.i = x.i + (Ch.escL false t).length ∧ y.l ++ y.last = (x.l ++ x.last) ++ [⟨3, [], [], t, x.i⟩] := by
  obtain ⟨cs, hm, rfl⟩ := ht
  rw [escL_encs hm] at h ⊢
  have hcs : cs ≠ [] := by rintro rfl; exact hne rfl
  refine ⟨{ x with i := x.i + (escs false cs).length, more := encs cs, frm := x.i }, ⟨cs.length, ?_, fun f => ?_⟩, he, hne, rfl, ?_⟩
  · have := escs_len false cs
    show x.i + cs.length ≤ x.i + (escs false cs).length
    omega
  · rw [read_esc cs x f he hm h, hx, if_pos ⟨rfl, hcs⟩, List.nil_append]
  · unfold Sc.last
    rw [if_neg (by rintro (e | e); exact e he; exact hne e), if_pos (Or.inr hx), List.append_nil]
    rfl
def Fo.toks : Fo → List Tok
  | .nil => []
  | .text t r => ⟨3, [], [], t, 0⟩ :: r.toks
  | .elem n a k r => ⟨1, n, a, [], 0⟩ :: (k.toks ++ ⟨2, n, [], [], 0⟩ :: r.toks)
def GoodT (t : List UInt8) : Prop := TextOf t ∧ t ≠ []
def GoodE (n : List UInt8) (a : Ats) : Prop := NameOf n ∧ (∀ x ∈ a, NameOf x.1 ∧ TextOf x.2) ∧ Dist [] a
theorem goes_fo : ∀ (f : Fo) (x : Sc), x.err = 0 → f.All GoodT GoodE → f.Apart (!x.more.isEmpty) → Ch.has s x.i f.plain = true →
    ∃ y, Goes s x y ∧ y.err = 0 ∧ y.i = x.i + f.plain.length ∧ (y.l ++ y.last).map bare = (x.l ++ x.last).map bare ++ f.toks
  | .nil, x, he, _, _, _ => ⟨x, Goes.refl x, he, by simp [Fo.plain], by simp [Fo.toks]⟩
  | .text t r, x, he, ha, hp, h => by
    simp only [Fo.plain] at h ⊢
    rw [has_append] at h
    have hx : x.more = [] := by simpa using hp.1
    obtain ⟨y, g1, g2, g3, g4, g5⟩ := goes_words (s := s) he ha.1.1 ha.1.2 hx h.1
    obtain ⟨z, k1, k2, k3, k4⟩ := goes_fo r y g2 ha.2 (by rw [show (!y.more.isEmpty) = true by simpa using g3]; exact hp.2) (by rw [g4]; exact h.2)
    refine ⟨z, g1.trans k1, k2, by rw [k3, g4, List.length_append]; omega, ?_⟩
    rw [k4, g5]; simp [Fo.toks, bare]
  | .elem n a .nil r, x, he, ha, hp, h => by
    have e : (Fo.elem n a .nil r).plain = (60 :: (n ++ (a.flatMap tagA ++ [47, 62]))) ++ r.plain := by simp [Fo.plain, Fo.isNil]
    rw [e, has_append] at h
    rw [e]
    obtain ⟨y, g1, g2, g3, g4, g5⟩ := goes_empty (s := s) he ha.1.1 ha.1.2.1 ha.1.2.2 h.1
    obtain ⟨z, k1, k2, k3, k4⟩ := goes_fo r y g2 ha.2.2 (by rw [show (!y.more.isEmpty) = false by simpa using g3]; exact hp.2) (by rw [g4]; exact h.2)
    refine ⟨z, g1.trans k1, k2, by rw [k3, g4, List.length_append]; omega, ?_⟩
    rw [k4, g5]; simp [Fo.toks, bare]
  | .elem n a (.text t k) r, x, he, ha, hp, h => by
    have e : (Fo.elem n a (.text t k) r).plain = (60 :: (n ++ (a.flatMap tagA ++ [62]))) ++ ((Fo.text t k).plain ++ (([60, 47] ++ (n ++ [62])) ++ r.plain)) := by
      conv => lhs; unfold Fo.plain
      simp [Fo.isNil]
    rw [e, has_append, has_append, has_append] at h
    rw [e]
    obtain ⟨h1, h2, h3, h4⟩ := h
    obtain ⟨y, g1, g2, g3, g4, g5⟩ := goes_open (s := s) he ha.1.1 ha.1.2.1 ha.1.2.2 h1
    obtain ⟨z, k1, k2, k3, k4⟩ := goes_fo (.text t k) y g2 ha.2.1 (by rw [show (!y.more.isEmpty) = false by simpa using g3]; exact hp.1) (by rw [g4]; exact h2)
    obtain ⟨v, l1, l2, l3, l4, l5⟩ := goes_close (s := s) (n := n) k2 ha.1.1 (by rw [k3, g4]; exact h3)
    obtain ⟨o, m1, m2, m3, m4⟩ := goes_fo r v l2 ha.2.2 (by rw [show (!v.more.isEmpty) = false by simpa using l3]; exact hp.2) (by rw [l4, k3, g4]; exact h4)
    refine ⟨o, ((g1.trans k1).trans l1).trans m1, m2, by rw [m3, l4, k3, g4]; simp only [List.length_append]; omega, ?_⟩
    rw [m4, l5, List.map_append, k4, g5]; simp [Fo.toks, bare]
  | .elem n a (.elem n' a' k' k) r, x, he, ha, hp, h => by
    have e : (Fo.elem n a (.elem n' a' k' k) r).plain = (60 :: (n ++ (a.flatMap tagA ++ [62]))) ++ ((Fo.elem n' a' k' k).plain ++ (([60, 47] ++ (n ++ [62])) ++ r.plain)) := by
      conv => lhs; unfold Fo.plain
      simp [Fo.isNil]
    rw [e, has_append, has_append, has_append] at h
    rw [e]
    obtain ⟨h1, h2, h3, h4⟩ := h
    obtain ⟨y, g1, g2, g3, g4, g5⟩ := goes_open (s := s) he ha.1.1 ha.1.2.1 ha.1.2.2 h1
    obtain ⟨z, k1, k2, k3, k4⟩ := goes_fo (.elem n' a' k' k) y g2 ha.2.1 (by rw [show (!y.more.isEmpty) = false by simpa using g3]; exact hp.1) (by rw [g4]; exact h2)
    obtain ⟨v, l1, l2, l3, l4, l5⟩ := goes_close (s := s) (n := n) k2 ha.1.1 (by rw [k3, g4]; exact h3)
    obtain ⟨o, m1, m2, m3, m4⟩ := goes_fo r v l2 ha.2.2 (by rw [show (!v.more.isEmpty) = false by simpa using l3]; exact hp.2) (by rw [l4, k3, g4]; exact h4)
    refine ⟨o, ((g1.trans k1).trans l1).trans m1, m2, by rw [m3, l4, k3, g4]; simp only [List.length_append]; omega, ?_⟩
    rw [m4, l5, List.map_append, k4, g5]; simp [Fo.toks, bare]
theorem read_plain {f : Fo} (ha : f.All GoodT GoodE) (hp : f.Apart false) (hs : s.data.toList = f.plain) : (readS s).err = 0 ∧ ((readS s).l ++ (readS s).last).map bare = f.toks := by
  have hhas : Ch.has s 0 f.plain = true := by
    refine Ch.has_of.2 fun k hk => ?_
    have hz : s.data.toList.length = s.size := by simp
    rw [← hs] at hk
    have : Ch.bz s k = ((s.data.toList[k]).toNat : Int) := by
      have hk' : k < s.size := by omega
      simp only [Ch.bz, hk', if_true]
      congr 2
      simp [ByteArray.get!, hk']
    rw [Nat.zero_add, this]
    simp only [hs]
  obtain ⟨y, g1, g2, g3, g4⟩ := goes_fo (s := s) f Sc.zero rfl ha hp hhas
  have hsz : s.size = f.plain.length := by rw [← hs]; simp
  have hr := g1.over (by rw [g3, hsz]; show 0 + _ = _; omega)
  rw [hr]
  exact ⟨g2, by rw [g4]; simp [Sc.zero, Sc.last]⟩
theorem makes_bare : ∀ (f : Fo) (l : List Tok), l.map bare = f.toks → Makes f l
  | .nil, l, h => by
    obtain rfl : l = [] := by simpa [Fo.toks] using h
    exact .nil
  | .text t r, l, h => by
    cases l with
    | nil => simp [Fo.toks] at h
    | cons a l =>
      simp only [List.map_cons, Fo.toks, List.cons.injEq] at h
      have ha := h.1
      simp only [bare, Tok.mk.injEq] at ha
      have := makes_bare r l h.2
      rw [← ha.2.2.2.1]
      exact .text a r l (by rw [ha.1]; decide) (by rw [ha.1]; decide) this
  | .elem n a k r, l, h => by
    cases l with
    | nil => simp [Fo.toks] at h
    | cons t l =>
      simp only [List.map_cons, Fo.toks, List.cons.injEq] at h
      have ha := h.1
      simp only [bare, Tok.mk.injEq] at ha
      obtain ⟨l1, l2, e, e1, e2⟩ := List.map_eq_append_iff.1 h.2
      cases l2 with
      | nil => simp at e2
      | cons c l2 =>
        simp only [List.map_cons, List.cons.injEq] at e2
        have hc := e2.1
        simp only [bare, Tok.mk.injEq] at hc
        have m1 := makes_bare k l1 e1
        have m2 := makes_bare r l2 e2.2
        rw [e, ← ha.2.1, ← ha.2.2.1]
        exact .elem t c k r l1 l2 ha.1 hc.1 (by rw [hc.2.1, ha.2.1]) m1 m2
theorem makes_good {f : Fo} {l : List Tok} (h : Makes f l) : ∀ b, Chain b l → f.All GoodT GoodE ∧ f.Apart b := by
  induction h with
  | nil => intro b _; exact ⟨trivial, trivial⟩
  | text t r l h1 h2 h ih =>
    intro b hc
    obtain ⟨c1, c2, c3⟩ := hc
    rcases c1 with ⟨k, _⟩ | ⟨k, _⟩ | ⟨k, k1, k2, k3, k4⟩
    · exact absurd k h1
    · exact absurd k h2
    · obtain ⟨i1, i2⟩ := ih _ c3
      have e : (t.kind == 3) = true := by simpa using k
      rw [e] at i2
      exact ⟨⟨⟨k3, k4⟩, i1⟩, c2 k, i2⟩
  | elem t c k r lk lr h1 h2 hn hk hr ihk ihr =>
    intro b hc
    obtain ⟨c1, c2, c3⟩ := hc
    have e : (t.kind == 3) = false := by rw [h1]; rfl
    rw [e, chain_append] at c3
    obtain ⟨d1, d2, d3, d4⟩ := c3
    obtain ⟨i1, i2⟩ := ihk _ d1
    have e2 : (c.kind == 3) = false := by rw [h2]; rfl
    rw [e2] at d4
    obtain ⟨j1, j2⟩ := ihr _ d4
    rcases c1 with ⟨k, k1, k2, k3, k4⟩ | ⟨k, _⟩ | ⟨k, _⟩
    · exact ⟨⟨⟨k1, k2, k3⟩, i1, j1⟩, i2, j2⟩
    · omega
    · omega
end Go.Proofs.YthfklhaelmhdhaaGreatDoor

set_option linter.unusedSimpArgs false
set_option linter.unusedVariables false
namespace Go.Proofs.YthfklhaelmhdhaaGreatDoor
open Go.RowKit Go.Lib

structure Root (n : List UInt8) (a : Ats) (f : Fo) : Prop where
  name : GoodE n a
  all : f.All GoodT GoodE
  apart : f.Apart false
  deep : 1 + f.deep ≤ 30
def toksOf (s : ByteArray) : List Tok := (readS s).l ++ (readS s).last
theorem toks_chain (s : ByteArray) (he : (readS s).err = 0) : Chain false (toksOf s) := by
  have := refAll_chain s
  unfold refAll at this
  rw [if_neg (by simpa using he)] at this
  exact this
theorem doc_root {n : List UInt8} {a : Ats} {f : Fo} (hd : 1 + f.deep ≤ 30) {l : List Tok} (hl : l.map bare = (Fo.elem n a f .nil).toks) : Doc l n a f := by
  have := makes_bare _ _ hl
  generalize hF : Fo.elem n a f .nil = F at this
  cases this with
  | nil => cases hF
  | text => cases hF
  | elem t c k r lk lr h1 h2 hn hk hr =>
    injection hF with e1 e2 e3 e4
    subst e1; subst e2; subst e3; subst e4
    cases hr
    exact ⟨⟨[], t, lk, c, [], rfl, fun x hx => by simp at hx, fun x hx => by simp at hx, h1, rfl, rfl, hk, h2, hn⟩, hd⟩
theorem parse_root {n : List UInt8} {a : Ats} {f : Fo} (h : Root n a f) {t : ByteArray} (ht : t.data.toList = (Fo.elem n a f .nil).plain) : parseN t = ((Fo.elem n a f .nil).flat 0 (-1), 0, 0) := by
  obtain ⟨r1, r2⟩ := read_plain (s := t) (f := Fo.elem n a f .nil) ⟨h.name, h.all, trivial⟩ ⟨h.apart, trivial⟩ ht
  have hg := grow_doc (doc_root h.deep (l := (readS t).l ++ (readS t).last) r2)
  unfold parseN
  rw [hg, if_neg (by simp), if_neg (by simpa using r1), if_neg (by simp [Fo.flat])]
theorem toks_all {s : ByteArray} (h : (refAll s).2.1 = 0) : (readS s).err = 0 ∧ (readS s).l ++ (readS s).last = (refAll s).1 := by
  unfold refAll at h ⊢
  by_cases he : (readS s).err = 0
  · rw [if_neg (by simpa using he)]; exact ⟨he, rfl⟩
  · rw [if_pos he] at h; exact absurd h he
end Go.Proofs.YthfklhaelmhdhaaGreatDoor

set_option linter.unusedSimpArgs false
set_option linter.unusedVariables false
namespace Go.Proofs.YthfklhaelmhdhaaGreatDoor
open Go.RowKit Go.Lib

theorem tagA_shown (l : Ats) : (l.flatMap tagA).length ≤ (l.flatMap shownA).length := by
  induction l with
  | nil => simp
  | cons a l ih =>
    rw [List.flatMap_cons, List.flatMap_cons, List.length_append, List.length_append]
    have : (tagA a).length ≤ (shownA a).length := by
      unfold tagA shownA
      simp only [List.length_cons, List.length_append, List.length_nil]
      omega
    omega
theorem cost_cons (t : Tok) (l : List Tok) : cost (t :: l) = (showT t).length + cost l := by simp [cost]
theorem open_cost {t : Tok} (h : t.kind = 1) : 1 + t.name.length + (t.attrs.flatMap tagA).length + 2 ≤ (showT t).length := by
  unfold showT
  rw [if_pos h]
  have := tagA_shown t.attrs
  simp only [List.length_cons, List.length_append, List.length_nil]
  omega
theorem close_cost {t : Tok} (h : t.kind = 2) : (showT t).length = t.name.length + 3 := by
  unfold showT
  rw [if_neg (by omega), if_pos h]
  simp only [List.length_cons, List.length_append, List.length_nil]
  omega
theorem makes_len {f : Fo} {l : List Tok} (h : Makes f l) : f.plain.length ≤ cost l ∧ f.value.length ≤ f.plain.length := by
  induction h with
  | nil => simp [Fo.plain, Fo.value]
  | text t r l h1 h2 h ih =>
    rw [cost_cons]
    have h3 : showT t = Ch.escL false t.text ++ marks := by unfold showT; rw [if_neg h1, if_neg h2]
    have h7 := Ch.escL_ge false t.text
    rw [h3]
    simp only [Fo.plain, Fo.value, List.length_append]
    omega
  | elem t c k r lk lr h1 h2 hn hk hr ih1 ih2 =>
    have e1 := open_cost h1
    have e2 := close_cost h2
    have e3 := congrArg List.length hn
    rw [cost_cons, cost_append, cost_cons]
    simp only [Fo.plain, Fo.value, List.length_append, List.length_cons, List.length_nil]
    by_cases hz : k.isNil = true
    · rw [if_pos hz]
      have hk0 : k.value = [] := by cases k <;> simp [Fo.isNil, Fo.value] at hz ⊢
      rw [hk0]
      simp only [List.length_cons, List.length_nil]
      omega
    · rw [if_neg hz]
      simp only [List.length_append, List.length_cons, List.length_nil]
      omega
theorem root_long {s : ByteArray} {nodes : List Nd} {q : Int} (h : parseN s = (nodes, 0, q)) : q = 0 ∧ ∃ n a f, Root n a f ∧ nodes = (Fo.elem n a f .nil).flat 0 (-1) ∧ (Fo.elem n a f .nil).plain.length ≤ 64 * s.size ∧ (Fo.elem n a f .nil).value.length ≤ 64 * s.size := by
  have h0 := h
  unfold parseN at h
  split at h
  · rename_i hx
    simp only [Prod.mk.injEq] at h
    exact absurd h.2.1 hx
  · rename_i hx
    split at h
    · rename_i hy
      simp only [Prod.mk.injEq] at h
      exact absurd h.2.1 hy
    · rename_i hy
      split at h
      · simp only [Prod.mk.injEq] at h
        exact absurd h.2.1 (by decide)
      · rename_i hz
        simp only [Prod.mk.injEq] at h
        refine ⟨h.2.2.symm, ?_⟩
        have he : (readS s).err = 0 := by simpa using hy
        have hx0 : (grow Gr.zero (toksOf s)).1 = 0 := Classical.byContradiction fun e => hx e
        have hst : (grow Gr.zero (toksOf s)).2.2.stack = [] := Classical.byContradiction fun e => hz (Or.inl e)
        have hne : (grow Gr.zero (toksOf s)).2.2.nodes ≠ [] := fun e => hz (Or.inr e)
        obtain ⟨n, a, f, hd, e⟩ := doc_of (toksOf s) (grow Gr.zero (toksOf s)).2.2 (grow Gr.zero (toksOf s)).2.1 (by rw [← hx0]) hst hne
        have hc := toks_chain s he
        have hcost := readS_cost s
        obtain ⟨⟨b1, t, ls, c, b2, el, _, _, k1, k2, k3, mk, k4, k5⟩, dp⟩ := hd
        have hcost2 : cost (toksOf s) ≤ 64 * s.size := hcost
        rw [el, cost_append, cost_cons, cost_append, cost_cons] at hcost2
        have hm := makes_len (Makes.elem t c f .nil ls [] k1 k4 (by rw [k5, k2]) mk .nil)
        rw [k2, k3, cost_cons, cost_append, cost_cons] at hm
        have hc0 : cost ([] : List Tok) = 0 := rfl
        rw [hc0] at hm
        refine ⟨n, a, f, ?_, by rw [← e, ← h.1]; rfl, by omega, by omega⟩
        rw [el, chain_append] at hc
        obtain ⟨_, c1, _, c3⟩ := hc
        have e3 : (t.kind == 3) = false := by rw [k1]; rfl
        rw [e3, chain_append] at c3
        obtain ⟨i1, i2⟩ := makes_good mk _ c3.1
        rcases c1 with ⟨_, j1, j2, j3, _⟩ | ⟨k, _⟩ | ⟨k, _⟩
        · subst k2; subst k3
          exact ⟨⟨j1, j2, j3⟩, i1, i2, dp⟩
        · omega
        · omega
end Go.Proofs.YthfklhaelmhdhaaGreatDoor

set_option linter.unusedSimpArgs false
set_option linter.unusedVariables false
namespace Go.Proofs.YthfklhaelmhdhaaGreatDoor
open Go.RowKit Go.Maps Go.Lib
variable {A K : Nat → Prop} {w w' w1 wr : World} {nv : Value} {av kv : Nat → Value} {l : List Nd} {tN tA : TypeId} {a : Addr}
theorem Nodes.narrow (h : Nodes tN tA A K w nv l av kv) : Nodes tN tA (fun k => A k ∧ k < w.heap.size) (fun k => K k ∧ k < w.heap.size) w nv l av kv :=
  ⟨h.row, fun k e => ⟨h.rowK k e, own_lt h.row e⟩, h.attr, fun i k hi e => ⟨h.attrA i k hi e, own_lt (h.attr i _ (List.getElem?_eq_getElem hi)) e⟩, h.kid, fun i k hi e => ⟨⟨(h.kidK i k hi e).1, own_lt (h.kid i _ (List.getElem?_eq_getElem hi)) e⟩, (h.kidK i k hi e).2⟩, h.apart, h.knil⟩
def WEnd (w : World) (S : List UInt8) (no q : Int) (e : Ending) (w' : World) : Prop := e = .returned (.tuple #[.string ⟨S.toArray⟩, .int .i64 no, .int .i64 q]) ∧ Below w.heap.size w w'
theorem writer_new (w1 : World) (v : Value) : WR w1.heap.size [] v (w1.alloc (.cells #[.pointer none, .slice none 0 0, v] 110)) :=
  ⟨.pointer none, .slice none 0 0, Or.inl rfl, Below_new w1 _, ⟨rfl, Or.inl ⟨rfl, rfl⟩⟩, fun e => by cases e⟩
def Way (n : Nat) (l : List Nd) (m : Nat) (S : List UInt8) : Prop := ∀ (A K : Nat → Prop) (v : Value) (av kv : Nat → Value) (b : Nat) (w : World), (∀ k, A k → k < b) → (∀ k, K k → k < b) → Nodes 42 44 A K w v l av kv → WR b [] v w →
  Calls Tryz.prog n #[.pointer (some ⟨b, 0, none⟩), .int .i64 (m : Int)] w fun e w' => e = .returned (.tuple #[]) ∧ WR b S v w' ∧ Below b w w'
theorem way_plain {x : Fo} {m : Nat} {u : Int} (hs : Single x) (ha : x.All (fun _ => True) (fun n _ => n ≠ [])) (hx : IsAt l m u x) (hz : x.plain.length ≤ 549755813888) : Way 32 l m x.plain := fun A K v av kv b w hA hK hn hw => by
  have := wplain_ok hA hK hn.knil x.size x m u [] w (Nat.le_refl _) hs ha hx hn hw (by simp only [List.length_nil]; omega)
  simpa using this
set_option maxHeartbeats 8000000 in
set_option maxRecDepth 100000 in
theorem write_bad (s : ByteArray) (k : Int) (n : Nat) (gl : Gl w a) (hb : s.size ≤ 268435456) (h0 : (parseN s).2.1 ≠ 0) : Calls Tryz.prog 31 #[.string s, .int .i64 k, .func (.func n) #[] #[]] w (WEnd w [] (parseN s).2.1 (parseN s).2.2) := by
  have hp := parse_ok s w gl hb
  have hne : ((parseN s).2.1 != 0) = true := by simpa using h0
  have HP := hide hp
  clear hp gl h0
  generalize parseN s = x at *
  obtain ⟨L, no, q⟩ := x
  simp only at hne ⊢
  go_enter Tryz.func31, Tryz.ntmps31
  go_wp2_with (go_at_call 9; refine HP.out.mono ?_; rintro e w1 ⟨v, rfl, hn, hb1, hv⟩; have B1 := hide hb1; clear hn hb1 hv)
  go_ret3
  exact ⟨rfl, B1.out⟩
set_option maxHeartbeats 8000000 in
set_option maxRecDepth 100000 in
theorem write_ok32 (s : ByteArray) (m : Nat) (S : List UInt8) (gl : Gl w a) (hb : s.size ≤ 268435456) (h0 : (parseN s).2.1 = 0) (hm : m < (parseN s).1.length) (hway : Way 32 (parseN s).1 m S) : Calls Tryz.prog 31 #[.string s, .int .i64 (m : Int), .func (.func 32) #[] #[]] w (WEnd w S 0 0) := by
  have hp := parse_ok s w gl hb
  have HP := hide hp
  have HW := hide hway
  clear hp gl hway
  generalize parseN s = x at *
  obtain ⟨L, no, q⟩ := x
  simp only at h0 hm HP HW ⊢
  subst h0
  have hd : decide ((m : Int) < 0) = false := by simp
  have hd2 : decide ((m : Int) ≥ (L.length : Int)) = false := by simp; omega
  have hd3 : decide ((L.length : Int) ≤ (m : Int)) = false := by simp; omega
  have hd4 : decide (L.length ≤ m) = false := by simp; omega
  go_enter Tryz.func31, Tryz.ntmps31
  go_wp2_with (go_at_call 9; refine HP.out.mono ?_; rintro e w1 ⟨v, rfl, ⟨A, K, av, kv, hn, _⟩, hb1, hv⟩; obtain ⟨ai, ac, rfl⟩ := slice_len hn.row; have HN := hide hn.narrow; have B1 := hide hb1; clear hn hb1 hv)
  have hsz := B1.out.size
  have hcall := HW.out _ _ _ _ _ w1.heap.size (w1.alloc (.cells #[.pointer none, .slice none 0 0, .slice ai L.length ac] 110)) (fun k x => x.2) (fun k x => x.2) (HN.out.frame (fun k hk _ => Below.heap_alloc _ _ _ hk) (fun k hk _ => Below.heap_alloc _ _ _ hk) (fun _ _ x => x)) (writer_new w1 _)
  have HC := hide hcall
  have hb2 : Below w.heap.size w (w1.alloc (.cells #[.pointer none, .slice none 0 0, .slice ai L.length ac] 110)) := B1.out.alloc hsz _
  have HB2 := hide hb2
  clear hcall hb2
  refine HC.out.mono ?_
  rintro e w2 ⟨rfl, r2, b2⟩
  have hst := wstring_ok r2
  have hst' := wstring_ok (w := w2.drew) ⟨r2.ex⟩
  have B2 := hide (HB2.out.trans (below_less b2 hsz))
  clear r2 b2
  go_wp2_with (go_at_call 48; refine hst.mono ?_; rintro e w3 ⟨rfl, b3⟩; have B3 := hide (B2.out.trans (below_less b3 hsz)); clear b3)
  go_ret3
  exact ⟨rfl, B3.out⟩
end Go.Proofs.YthfklhaelmhdhaaGreatDoor

set_option linter.unusedSimpArgs false
set_option linter.unusedVariables false
namespace Go.Proofs.YthfklhaelmhdhaaGreatDoor
open Go.RowKit Go.Maps Go.Lib
variable {w w' w1 wr : World} {a : Addr}
set_option maxHeartbeats 4000000 in
set_option maxRecDepth 100000 in
theorem print_by (s : ByteArray) (S : List UInt8) (no q : Int) (h : Calls Tryz.prog 31 #[.string s, .int .i64 0, .func (.func 32) #[] #[]] w (WEnd w S no q)) : Calls Tryz.prog 14 #[.string s] w (WEnd w S no q) := by
  go_enter Tryz.func14, Tryz.ntmps14
  go_wp2_with (go_at_call 31; refine h.mono ?_; rintro e w1 ⟨rfl, b1⟩)
  go_ret3
  exact ⟨rfl, b1⟩
set_option maxHeartbeats 4000000 in
set_option maxRecDepth 100000 in
theorem sub_by (s : ByteArray) (k : Int) (S : List UInt8) (no q : Int) (h : Calls Tryz.prog 31 #[.string s, .int .i64 k, .func (.func 32) #[] #[]] w (WEnd w S no q)) : Calls Tryz.prog 15 #[.string s, .int .i64 k] w (WEnd w S no q) := by
  go_enter Tryz.func15, Tryz.ntmps15
  go_wp2_with (go_at_call 31; refine h.mono ?_; rintro e w1 ⟨rfl, b1⟩)
  go_ret3
  exact ⟨rfl, b1⟩
structure Leaf (l : List Nd) (m : Nat) (x : Fo) : Prop where
  ex : ∃ u, IsAt l m u x
  one : Single x
  all : x.All (fun _ => True) (fun n _ => n ≠ [])
  len : x.plain.length ≤ 549755813888
  vlen : x.value.length ≤ 549755813888
  lt : m < l.length
theorem name_some {n : List UInt8} (h : NameOf n) : n ≠ [] := by
  obtain ⟨s0, q, hb, rfl⟩ := h
  have h0 : 0 ≤ cur s0 q := by have := (Ch.begins_iff _).1 hb; omega
  have hq := cur_pos h0
  have hle : nend s0 q ≤ s0.size := nend_le (by omega)
  have hin : inN (cur s0 q) = true := by unfold inN; rw [hb]; rfl
  have hgt : q < nend s0 q := by
    have := nend_ge s0 (q + wid s0 q)
    rw [nend_yes hin]; omega
  intro e
  have := congrArg List.length e
  rw [bytes_len _ _ _ (by omega)] at this
  simp only [List.length_nil] at this
  omega
theorem all_names : ∀ (f : Fo), f.All GoodT GoodE → f.All (fun _ => True) (fun n _ => n ≠ [])
  | .nil, _ => trivial
  | .text t r, h => ⟨trivial, all_names r h.2⟩
  | .elem n a k r, h => ⟨name_some h.1.1, all_names k h.2.1, all_names r h.2.2⟩
structure Whole (s : ByteArray) (l : List Nd) (n : List UInt8) (a : Ats) (f : Fo) : Prop where
  root : Root n a f
  nodes : l = (Fo.elem n a f .nil).flat 0 (-1)
  plain : (Fo.elem n a f .nil).plain.length ≤ 64 * s.size
  value : (Fo.elem n a f .nil).value.length ≤ 64 * s.size
theorem whole_of {s : ByteArray} (h : (parseN s).2.1 = 0) : (parseN s).2.2 = 0 ∧ ∃ n a f, Whole s (parseN s).1 n a f := by
  have e : parseN s = ((parseN s).1, 0, (parseN s).2.2) := by rw [← h]
  obtain ⟨hq, n, a, f, h1, h2, h3, h4⟩ := root_long e
  exact ⟨hq, n, a, f, h1, h2, h3, h4⟩
theorem Whole.len {s : ByteArray} {l : List Nd} {n : List UInt8} {a : Ats} {f : Fo} (h : Whole s l n a f) : l.length = 1 + f.size := by
  rw [h.nodes, flat_len]; simp only [Fo.size, Nat.add_zero]
theorem Whole.first {s : ByteArray} {l : List Nd} {n : List UInt8} {a : Ats} {f : Fo} (h : Whole s l n a f) (hs : s.size ≤ 4294967296) : Leaf l 0 (Fo.elem n a f .nil) := by
  refine ⟨⟨-1, by rw [h.nodes]; exact isAt_whole _ _⟩, Or.inr ⟨n, a, f, rfl⟩, all_names _ ⟨h.root.name, h.root.all, trivial⟩, by have := h.plain; omega, by have := h.value; omega, by rw [h.len]; omega⟩
theorem print_bad (s : ByteArray) (gl : Gl w a) (hb : s.size ≤ 268435456) (h0 : (parseN s).2.1 ≠ 0) : Calls Tryz.prog 14 #[.string s] w (WEnd w [] (parseN s).2.1 (parseN s).2.2) := print_by s _ _ _ (write_bad s 0 32 gl hb h0)
theorem print_good (s : ByteArray) (gl : Gl w a) (hb : s.size ≤ 268435456) (h0 : (parseN s).2.1 = 0) {x : Fo} (hx : Leaf (parseN s).1 0 x) : Calls Tryz.prog 14 #[.string s] w (WEnd w x.plain 0 0) := by
  obtain ⟨u, hu⟩ := hx.ex
  exact print_by s _ _ _ (write_ok32 s 0 x.plain gl hb h0 hx.lt (way_plain hx.one hx.all hu hx.len))
theorem sub_good (s : ByteArray) (m : Nat) (gl : Gl w a) (hb : s.size ≤ 268435456) (h0 : (parseN s).2.1 = 0) {x : Fo} (hx : Leaf (parseN s).1 m x) : Calls Tryz.prog 15 #[.string s, .int .i64 (m : Int)] w (WEnd w x.plain 0 0) := by
  obtain ⟨u, hu⟩ := hx.ex
  exact sub_by s _ _ _ _ (write_ok32 s m x.plain gl hb h0 hx.lt (way_plain hx.one hx.all hu hx.len))
end Go.Proofs.YthfklhaelmhdhaaGreatDoor

set_option linter.unusedSimpArgs false
set_option linter.unusedVariables false
namespace Go.Proofs.YthfklhaelmhdhaaGreatDoor
open Go.RowKit Go.Maps Go.Lib
variable {A K : Nat → Prop} {w w' w1 wr : World} {nv : Value} {av kv : Nat → Value} {l : List Nd}
theorem Nodes.later (h : Nodes 76 82 A K w nv l av kv) (hb : Below w.heap.size w w') : Nodes 76 82 A K w' nv l av kv :=
  h.frame (fun k hk _ => hb.block k hk) (fun k hk _ => hb.block k hk) (fun _ _ x => x)
end Go.Proofs.YthfklhaelmhdhaaGreatDoor

set_option linter.unusedSimpArgs false
set_option linter.unusedVariables false
namespace Go.Proofs.YthfklhaelmhdhaaGreatDoor
open Go.RowKit Go.Maps Go.Lib
variable {w w' w1 wr : World} {a : Addr}
def alive1 : ByteArray := ⟨#[60, 97, 62, 60, 98, 47, 62, 120, 60, 47, 97, 62]⟩
def alive2 : ByteArray := ⟨#[60, 97, 32, 107, 61, 39, 49, 39, 62, 60, 47, 97, 62]⟩
theorem alive1_all : refAll alive1 = ([⟨1, [97], [], [], 0⟩, ⟨1, [98], [], [], 3⟩, ⟨2, [98], [], [], 3⟩, ⟨3, [], [], [120], 7⟩, ⟨2, [97], [], [], 8⟩], 0, 0) := by rw [← all_ref]; kernel_rfl
theorem alive2_all : refAll alive2 = ([⟨1, [97], [([107], [49])], [], 0⟩, ⟨2, [97], [], [], 9⟩], 0, 0) := by rw [← all_ref]; kernel_rfl
def leaf2 : Fo := .elem [97] [([107], [49])] .nil .nil
theorem alive1_parse : parseN alive1 = ([⟨[97], [], [], [1, 2], -1⟩, ⟨[98], [], [], [], 0⟩, ⟨[], [], [120], [], 0⟩], 0, 0) := by
  obtain ⟨h1, h2⟩ := toks_all (s := alive1) (by rw [alive1_all])
  unfold parseN
  rw [h2, h1, alive1_all]
  rfl
theorem alive2_parse : parseN alive2 = ([⟨[97], [([107], [49])], [], [], -1⟩], 0, 0) := by
  obtain ⟨h1, h2⟩ := toks_all (s := alive2) (by rw [alive2_all])
  unfold parseN
  rw [h2, h1, alive2_all]
  rfl
theorem leaf2_plain : leaf2.plain = [60, 97, 32, 107, 61, 34, 49, 34, 47, 62] := by rfl
theorem leaf2_ok : Leaf (parseN alive2).1 0 leaf2 := by
  rw [alive2_parse]
  refine ⟨⟨-1, isAt_whole leaf2 (-1)⟩, Or.inr ⟨_, _, _, rfl⟩, ⟨by simp, trivial, trivial⟩, ?_, ?_, by decide⟩
  · rw [leaf2_plain]; decide
  · decide
theorem Gl.up (gl : Gl w a) (h : Below w.heap.size w w') : Gl w' a := gl.frame (F := fun _ => False) (Frame.below h) (fun _ _ x => x)
theorem num_ok (n : Int) (w : World) : Calls Tryz.prog 12 #[.int .i64 n] w fun e w' => e = .returned (.int .i64 n) ∧ w' = w := by
  go_enter Tryz.func12, Tryz.ntmps12
  go_wp2
  go_ret
  exact ⟨rfl, rfl⟩
set_option maxHeartbeats 8000000 in
set_option maxRecDepth 100000 in
theorem alive_ok (gl : Gl w a) : Calls Tryz.prog 13 #[] w fun e w' => e = .returned (.bool true) ∧ Below w.heap.size w w' := by
  have h1 := parse_ok alive1 w gl (by decide)
  rw [alive1_parse] at h1
  have h2 : ∀ W, Below w.heap.size w W → Calls Tryz.prog 14 #[.string alive2] W (WEnd W [60, 97, 32, 107, 61, 34, 49, 34, 47, 62] 0 0) := fun W hW => by
    have := print_good (w := W) alive2 (gl.up hW) (by decide) (by rw [alive2_parse]) leaf2_ok
    rw [leaf2_plain] at this
    exact this
  have H1 := hide h1
  have H2 := hide h2
  clear h1 h2 gl
  unfold alive1 at H1
  unfold alive2 at H2
  go_enter Tryz.func13, Tryz.ntmps13
  go_wp2_with (first
    | (go_at_call 9; refine H1.out.mono ?_; rintro e w1 ⟨v, rfl, ⟨A, K, av, kv, hn, _⟩, b1, _⟩; obtain ⟨g, cap, rfl, hml, hKg, q0, q1, q2, q3, q4⟩ := hn.cells 2 ⟨[], [], [120], [], 0⟩ rfl; have hlt := World.block_lt_of_cell? w1 _ q2; have B1 := hide b1; clear hn b1 q0 q1 q3 q4 hml)
    | (go_at_call 14; refine (H2.out _ B1.out).mono ?_; rintro e w2 ⟨rfl, b2⟩; have r2 : w2.cell? ⟨g, 12, none⟩ = some (.string ⟨#[120]⟩) := (World.cell?_of_block (b2.block g hlt)).trans q2; have B2 := hide (B1.out.trans (below_less b2 B1.out.size)); clear b2)
    | (go_at_call 12; refine (num_ok _ _).mono ?_; rintro e w3 ⟨rfl, rfl⟩))
  go_ret
  exact ⟨rfl, B2.out⟩
end Go.Proofs.YthfklhaelmhdhaaGreatDoor

set_option linter.unusedSimpArgs false
set_option linter.unusedVariables false
namespace Go.Proofs.YthfklhaelmhdhaaGreatDoor
open Go.RowKit Go.Maps Go.Lib
variable {A K : Nat → Prop} {w w' w1 wr : World} {a : Addr} {nv : Value} {av kv : Nat → Value} {l : List Nd}

structure NView (w : World) (ai : Option Addr) (l : List Nd) : Prop where
  len : (l.length : Int) ≤ 9223372036854775807
  at_ : ∀ i x, l[i]? = some x → ∃ g o va ve, ai = some ⟨g, o, none⟩ ∧ w.cell? ⟨g, o + i * 5, none⟩ = some (.string ⟨x.name.toArray⟩) ∧ w.cell? ⟨g, o + i * 5 + 1, none⟩ = some va ∧ w.cell? ⟨g, o + i * 5 + 2, none⟩ = some (.string ⟨x.text.toArray⟩) ∧ w.cell? ⟨g, o + i * 5 + 3, none⟩ = some ve ∧ w.cell? ⟨g, o + i * 5 + 4, none⟩ = some (.int .i64 x.up) ∧
    w.ownsRow 0 44 2 va x.attrs.length (attrCells x.attrs) ∧ w.ownsRow 0 3 1 ve x.kids.length (kidCells x.kids)
structure AlikeAt (x y : Nd) (by_ : Int) : Prop where
  name : x.name = y.name
  text : x.text = y.text
  attrs : x.attrs = y.attrs
  kids : x.kids.length = y.kids.length
  kid : ∀ (k p q : Nat), x.kids[k]? = some p → y.kids[k]? = some q → (p : Int) + by_ = (q : Int) ∧ (q : Int) ≤ 4611686018427387904
structure AlikeN (la lb : List Nd) (by_ : Int) : Prop where
  len : la.length = lb.length
  one : ∀ i x y, la[i]? = some x → lb[i]? = some y → AlikeAt x y by_ ∧ (0 < i → x.up + by_ = y.up ∧ -1 ≤ y.up ∧ y.up ≤ 4611686018427387904)
structure Pair4 (w : World) (g1 o1 g2 o2 i : Nat) (by_ : Int) (nm tx : List UInt8) (ai bi ki li : Option Addr) (ac bc kc lc NA NK : Nat) (u1 u2 : Int) : Prop where
  a0 : w.cell? ⟨g1, o1 + i * 5, none⟩ = some (.string ⟨nm.toArray⟩)
  a1 : w.cell? ⟨g1, o1 + i * 5 + 1, none⟩ = some (.slice ai NA ac)
  a2 : w.cell? ⟨g1, o1 + i * 5 + 2, none⟩ = some (.string ⟨tx.toArray⟩)
  a3 : w.cell? ⟨g1, o1 + i * 5 + 3, none⟩ = some (.slice ki NK kc)
  a4 : w.cell? ⟨g1, o1 + i * 5 + 4, none⟩ = some (.int .i64 u1)
  b0 : w.cell? ⟨g2, o2 + i * 5, none⟩ = some (.string ⟨nm.toArray⟩)
  b1 : w.cell? ⟨g2, o2 + i * 5 + 1, none⟩ = some (.slice bi NA bc)
  b2 : w.cell? ⟨g2, o2 + i * 5 + 2, none⟩ = some (.string ⟨tx.toArray⟩)
  b3 : w.cell? ⟨g2, o2 + i * 5 + 3, none⟩ = some (.slice li NK lc)
  b4 : w.cell? ⟨g2, o2 + i * 5 + 4, none⟩ = some (.int .i64 u2)
  up : 0 < i → IntKind.i64.wrap (u1 + by_) = u2
  kid : ∀ W, Below w.heap.size w W → ∀ k, k < NK → ∃ h1 h2, ki = some ⟨h1, 0, none⟩ ∧ li = some ⟨h2, 0, none⟩ ∧ (NK : Int) ≤ 9223372036854775807 ∧ ∃ p q : Int, W.cell? ⟨h1, k, none⟩ = some (.int .i64 p) ∧ W.cell? ⟨h2, k, none⟩ = some (.int .i64 q) ∧ IntKind.i64.wrap (p + by_) = q
  attr : ∀ W, Below w.heap.size w W → ∀ k, k < NA → ∃ h1 h2, ai = some ⟨h1, 0, none⟩ ∧ bi = some ⟨h2, 0, none⟩ ∧ (NA : Int) ≤ 9223372036854775807 ∧ ∃ x y : ByteArray, W.cell? ⟨h1, k * 2, none⟩ = some (.string x) ∧ W.cell? ⟨h1, k * 2 + 1, none⟩ = some (.string y) ∧ W.cell? ⟨h2, k * 2, none⟩ = some (.string x) ∧ W.cell? ⟨h2, k * 2 + 1, none⟩ = some (.string y)
theorem NView.keep {ai : Option Addr} (h : NView w ai l) (hb : Below w.heap.size w w') : NView w' ai l := by
  refine ⟨h.len, fun i x hi => ?_⟩
  obtain ⟨g, o, va, ve, e, c0, c1, c2, c3, c4, r1, r2⟩ := h.at_ i x hi
  have hg : g < w.heap.size := World.block_lt_of_cell? w _ c0
  have up : ∀ j v, w.cell? ⟨g, j, none⟩ = some v → w'.cell? ⟨g, j, none⟩ = some v := fun j v hj => (World.cell?_of_block (hb.block g hg)).trans hj
  exact ⟨g, o, va, ve, e, up _ _ c0, up _ _ c1, up _ _ c2, up _ _ c3, up _ _ c4, owns_of r1 fun k e => hb.block k (own_lt r1 e), owns_of r2 fun k e => hb.block k (own_lt r2 e)⟩
theorem pair4 {la lb : List Nd} {ai bi : Option Addr} {by_ : Int} (h1 : NView w ai la) (h2 : NView w bi lb) (h : AlikeN la lb by_) (hby : -4611686018427387904 ≤ by_ ∧ by_ ≤ 4611686018427387904) (i : Nat) (hi : i < la.length) :
    ∃ g1 o1 g2 o2, ai = some ⟨g1, o1, none⟩ ∧ bi = some ⟨g2, o2, none⟩ ∧ ∃ nm tx ai bi ki li ac bc kc lc NA NK u1 u2, Pair4 w g1 o1 g2 o2 i by_ nm tx ai bi ki li ac bc kc lc NA NK u1 u2 := by
  obtain ⟨x, hx⟩ : ∃ x, la[i]? = some x := ⟨_, List.getElem?_eq_getElem hi⟩
  obtain ⟨y, hy⟩ : ∃ y, lb[i]? = some y := ⟨_, List.getElem?_eq_getElem (by rw [← h.len]; exact hi)⟩
  obtain ⟨⟨e1, e2, e3, e4, e5⟩, e6⟩ := h.one i x y hx hy
  obtain ⟨g1, o1, va, ve, rfl, a0, a1, a2, a3, a4, r1, r2⟩ := h1.at_ i x hx
  obtain ⟨g2, o2, vb, vf, rfl, b0, b1, b2, b3, b4, s1, s2⟩ := h2.at_ i y hy
  obtain ⟨pa, ca, rfl⟩ := slice_len r1
  obtain ⟨pb, cb, rfl⟩ := slice_len s1
  obtain ⟨qa, da, rfl⟩ := slice_len r2
  obtain ⟨qb, db, rfl⟩ := slice_len s2
  refine ⟨g1, o1, g2, o2, rfl, rfl, x.name, x.text, pa, pb, qa, qb, ca, cb, da, db, x.attrs.length, x.kids.length, x.up, y.up, a0, a1, a2, a3, a4, by rw [e1]; exact b0, by rw [e3]; exact b1, by rw [e2]; exact b2, by rw [e4]; exact b3, b4, fun hp => ?_, fun W hW k hk => ?_, fun W hW k hk => ?_⟩
  · obtain ⟨e7, e8, e9⟩ := e6 hp
    rw [e7, IntKind.wrap_i64]; omega
  · obtain ⟨ga, c1, ea, x1, m1⟩ := kid_cell (n := 0) r2 k hk
    obtain ⟨gb, c2, eb, y1, m2⟩ := kid_cell (n := 0) s2 k (by rw [← e4]; exact hk)
    cases ea
    cases eb
    obtain ⟨e7, e8⟩ := e5 k _ _ (List.getElem?_eq_getElem hk) (List.getElem?_eq_getElem (by rw [← e4]; exact hk))
    refine ⟨ga, gb, rfl, rfl, by have : maxLen = 9223372036854775807 := rfl; omega, _, _, (World.cell?_of_block (hW.block ga (own_lt r2 rfl))).trans x1, (World.cell?_of_block (hW.block gb (own_lt s2 rfl))).trans y1, ?_⟩
    rw [e7, IntKind.wrap_i64]; omega
  · obtain ⟨ga, c1, ea, x1, x2, m1⟩ := attr_two r1 k hk
    obtain ⟨gb, c2, eb, y1, y2, m2⟩ := attr_two s1 k (by rw [← e3]; exact hk)
    cases ea
    cases eb
    have e7 : y.attrs[k]'(by rw [← e3]; exact hk) = x.attrs[k] := by simp only [e3]
    rw [e7] at y1 y2
    exact ⟨ga, gb, rfl, rfl, by have : maxLen = 9223372036854775807 := rfl; omega, _, _, (World.cell?_of_block (hW.block ga (own_lt r1 rfl))).trans x1, (World.cell?_of_block (hW.block ga (own_lt r1 rfl))).trans x2, (World.cell?_of_block (hW.block gb (own_lt s1 rfl))).trans y1, (World.cell?_of_block (hW.block gb (own_lt s1 rfl))).trans y2⟩
theorem bon' {A B C : World} (h1 : Below A.heap.size A B) (h2 : Below B.heap.size B C) : Below A.heap.size A C := h1.trans (below_less h2 h1.size)
set_option maxHeartbeats 16000000 in
set_option maxRecDepth 100000 in
theorem alike_ok {la lb : List Nd} (ai bi : Option Addr) (ac bc : Nat) (by_ : Int) (h1 : NView w ai la) (h2 : NView w bi lb) (h : AlikeN la lb by_) (hby : -4611686018427387904 ≤ by_ ∧ by_ ≤ 4611686018427387904) :
    Calls Tryz.prog 19 #[.slice ai la.length ac, .slice bi lb.length bc, .int .i64 by_] w fun e w' => e = .returned (.bool true) ∧ Below w.heap.size w w' := by
  have hlen := h1.len
  have hp : ∀ W, Below w.heap.size w W → ∀ i, i < la.length → ∃ g1 o1 g2 o2, ai = some ⟨g1, o1, none⟩ ∧ bi = some ⟨g2, o2, none⟩ ∧ ∃ nm tx ai bi ki li ac bc kc lc NA NK u1 u2, Pair4 W g1 o1 g2 o2 i by_ nm tx ai bi ki li ac bc kc lc NA NK u1 u2 := fun W hW i hi => pair4 (h1.keep hW) (h2.keep hW) h hby i hi
  rw [← h.len]
  have HP := hide hp
  clear hp h1 h2 h hby
  generalize la.length = n at *
  have hnn : ((n : Int) != n) = false := by simp
  go_enter Tryz.func19, Tryz.ntmps19
  go_wp2_with fail
  go_loopw [7, 8, 9, 10, 11] (fun iv _ _ _ _ wr => ∃ i : Nat, iv = .int .i64 i ∧ i ≤ n ∧ Below w.heap.size w wr) (fun iv _ _ _ _ _ => n - (RowKit.intOf iv).toNat)
  case atStart => exact ⟨0, rfl, Nat.zero_le _, Below.refl _ _⟩
  case round =>
    rename World => WO
    obtain ⟨i, rfl, hi, hb⟩ := hrel
    by_cases hlt : i < n
    · obtain ⟨g1, o1, g2, o2, rfl, rfl, nm, tx, ai, bi, ki, li, ac, bc, kc, lc, NA, NK, u1, u2, p⟩ := HP.out _ hb i hlt
      have hdec : decide ((i : Int) < n) = true := by simp; omega
      have hii : (i : Int) < n := by omega
      obtain ⟨a0, a1, a2, a3, a4, b0, b1, b2, b3, b4, hup, hkid, hattr⟩ := p
      have hb0 : ∀ o : Obj, (WO.alloc o).cell? ⟨g2, o2 + i * 5, none⟩ = some (.string ⟨nm.toArray⟩) := fun o => cell_alloc o b0
      have hb1 : ∀ o : Obj, (WO.alloc o).cell? ⟨g2, o2 + i * 5 + 1, none⟩ = some (.slice bi NA bc) := fun o => cell_alloc o b1
      have hb2 : ∀ o : Obj, (WO.alloc o).cell? ⟨g2, o2 + i * 5 + 2, none⟩ = some (.string ⟨tx.toArray⟩) := fun o => cell_alloc o b2
      have hb3 : ∀ o : Obj, (WO.alloc o).cell? ⟨g2, o2 + i * 5 + 3, none⟩ = some (.slice li NK lc) := fun o => cell_alloc o b3
      have hb4 : ∀ o : Obj, (WO.alloc o).cell? ⟨g2, o2 + i * 5 + 4, none⟩ = some (.int .i64 u2) := fun o => cell_alloc o b4
      obtain ⟨O1, hO1⟩ : ∃ O : Obj, Obj.cells #[.string ⟨nm.toArray⟩, .slice ai NA ac, .string ⟨tx.toArray⟩, .slice ki NK kc, .int .i64 u1] 42 = O := ⟨_, rfl⟩
      obtain ⟨O2, hO2⟩ : ∃ O : Obj, Obj.cells #[.string ⟨nm.toArray⟩, .slice bi NA bc, .string ⟨tx.toArray⟩, .slice li NK lc, .int .i64 u2] 42 = O := ⟨_, rfl⟩
      have hbox : ∀ W, Below (WO.heap.size + 2) ((WO.alloc O1).alloc O2) W → (W.cell? ⟨WO.heap.size, 0, none⟩ = some (.string ⟨nm.toArray⟩) ∧ W.cell? ⟨WO.heap.size, 1, none⟩ = some (.slice ai NA ac) ∧ W.cell? ⟨WO.heap.size, 2, none⟩ = some (.string ⟨tx.toArray⟩) ∧ W.cell? ⟨WO.heap.size, 3, none⟩ = some (.slice ki NK kc) ∧ W.cell? ⟨WO.heap.size, 4, none⟩ = some (.int .i64 u1)) ∧ (W.cell? ⟨WO.heap.size + 1, 0, none⟩ = some (.string ⟨nm.toArray⟩) ∧ W.cell? ⟨WO.heap.size + 1, 1, none⟩ = some (.slice bi NA bc) ∧ W.cell? ⟨WO.heap.size + 1, 2, none⟩ = some (.string ⟨tx.toArray⟩) ∧ W.cell? ⟨WO.heap.size + 1, 3, none⟩ = some (.slice li NK lc) ∧ W.cell? ⟨WO.heap.size + 1, 4, none⟩ = some (.int .i64 u2)) := fun W hW => by
        have hx : W.heap[WO.heap.size]? = some (.cells #[.string ⟨nm.toArray⟩, .slice ai NA ac, .string ⟨tx.toArray⟩, .slice ki NK kc, .int .i64 u1] 42) := by
          rw [hW.block WO.heap.size (by omega), Below.heap_alloc _ _ _ (by simp), hO1]; exact Below_new _ _
        have hy : W.heap[WO.heap.size + 1]? = some (.cells #[.string ⟨nm.toArray⟩, .slice bi NA bc, .string ⟨tx.toArray⟩, .slice li NK lc, .int .i64 u2] 42) := by
          rw [hW.block (WO.heap.size + 1) (by omega), hO2]
          have := Below_new (WO.alloc O1) O2
          simpa using this
        exact ⟨⟨cell_of hx rfl, cell_of hx rfl, cell_of hx rfl, cell_of hx rfl, cell_of hx rfl⟩, cell_of hy rfl, cell_of hy rfl, cell_of hy rfl, cell_of hy rfl, cell_of hy rfl⟩
      have hdown : ∀ W, Below (WO.heap.size + 2) ((WO.alloc O1).alloc O2) W → Below WO.heap.size WO W := fun W hW => (((Below.refl _ WO).alloc (Nat.le_refl _) O1).alloc (by simp) O2).trans (below_less hW (by omega))
      obtain ⟨⟨x0, x1, x2, x3, x4⟩, y0, y1, y2, y3, y4⟩ := hbox _ (Below.refl _ _)
      have HBX := hide hbox
      have HDN := hide hdown
      have HKD := hide hkid
      have HAT := hide hattr
      have HB := hide hb
      have hnt : (nm != nm) = false := by simp
      have htt : (tx != tx) = false := by simp
      clear hbox hdown hkid hattr hb b0 b1 b2 b3 b4
      obtain ⟨pb, hpb, hpb2, hpb3, hup2⟩ : ∃ pb : Bool, decide ((i : Int) > 0) = pb ∧ decide (0 < (i : Int)) = pb ∧ decide (0 < i) = pb ∧ (pb = true → IntKind.i64.wrap (u1 + by_) = u2) := by
        by_cases hi0 : 0 < i
        · exact ⟨true, by simp; omega, by simp; omega, by simp; omega, fun _ => hup hi0⟩
        · exact ⟨false, by simp; omega, by simp; omega, by simp; omega, fun e => by cases e⟩
      clear hup
      cases pb with
      | false =>
        clear hup2
        go_wp2_with fail
        go_loopw [10] (fun jv w2 => ∃ j : Nat, jv = .int .i64 j ∧ j ≤ NK ∧ Below (WO.heap.size + 2) ((WO.alloc O1).alloc O2) w2) (fun jv _ => NK - (RowKit.intOf jv).toNat)
        case atStart => exact ⟨0, rfl, Nat.zero_le _, Below.refl _ _⟩
        case round =>
          obtain ⟨j, rfl, hj, hb2⟩ := hrel
          obtain ⟨⟨c0, c1, c2, c3, c4⟩, d0, d1, d2, d3, d4⟩ := HBX.out _ hb2
          have HB2 := hide hb2
          clear hb2 c0 c2 c4 d0 d2 d4
          by_cases hlj : j < NK
          · obtain ⟨h1, h2, rfl, rfl, hmx, pp, qq, e1, e2, e3⟩ := HKD.out _ (HDN.out _ HB2.out) j hlj
            have hdj : decide ((j : Int) < NK) = true := by simp; omega
            have hji : (j : Int) < NK := by omega
            have hqq : (qq != qq) = false := by simp
            go_wp2_with fail
            go_quiet (fail)
            go_wp2
            go_roundw
            case rel => exact ⟨j + 1, by simp, by omega, below_drewN HB2.out _⟩
            case measure => simp only [RowKit.intOf]; omega
          · have hdj : decide ((j : Int) < NK) = false := by simp; omega
            clear hj
            go_wp2_with fail
            go_loopw [11] (fun jv w2 => ∃ j : Nat, jv = .int .i64 j ∧ j ≤ NA ∧ Below (WO.heap.size + 2) ((WO.alloc O1).alloc O2) w2) (fun jv _ => NA - (RowKit.intOf jv).toNat)
            case atStart => exact ⟨0, rfl, Nat.zero_le _, HB2.out⟩
            case round =>
              obtain ⟨r, rfl, hr, hb3⟩ := hrel
              obtain ⟨⟨c0', c1', c2', c3', c4'⟩, d0', d1', d2', d3', d4'⟩ := HBX.out _ hb3
              have HB3 := hide hb3
              clear hb3 c0' c2' c4' d0' d2' d4' c1 c3 d1 d3
              by_cases hlr : r < NA
              · obtain ⟨h1, h2, rfl, rfl, hmx, xx, yy, e1, e2, e3, e4⟩ := HAT.out _ (HDN.out _ HB3.out) r hlr
                have hdr : decide ((r : Int) < NA) = true := by simp; omega
                have hri : (r : Int) < NA := by omega
                have hgd := guard52
                have hne := neq52
                go_wp2_with fail
                go_quiet (fail)
                go_wp2
                go_roundw
                case rel => exact ⟨r + 1, by simp, by omega, below_drewN HB3.out _⟩
                case measure => simp only [RowKit.intOf]; omega
              · have hdr : decide ((r : Int) < NA) = false := by simp; omega
                go_wp2
                exact ⟨⟨i + 1, by simp, by omega, bon' HB.out (HDN.out _ HB3.out)⟩, by simp only [RowKit.intOf]; omega⟩
      | true =>
        have hup := hup2 rfl
        have huu : (u2 != u2) = false := by simp
        clear hup2
        go_wp2_with fail
        go_loopw [10] (fun jv w2 => ∃ j : Nat, jv = .int .i64 j ∧ j ≤ NK ∧ Below (WO.heap.size + 2) ((WO.alloc O1).alloc O2) w2) (fun jv _ => NK - (RowKit.intOf jv).toNat)
        case atStart => exact ⟨0, rfl, Nat.zero_le _, Below.refl _ _⟩
        case round =>
          obtain ⟨j, rfl, hj, hb2⟩ := hrel
          obtain ⟨⟨c0, c1, c2, c3, c4⟩, d0, d1, d2, d3, d4⟩ := HBX.out _ hb2
          have HB2 := hide hb2
          clear hb2 c0 c2 c4 d0 d2 d4
          by_cases hlj : j < NK
          · obtain ⟨h1, h2, rfl, rfl, hmx, pp, qq, e1, e2, e3⟩ := HKD.out _ (HDN.out _ HB2.out) j hlj
            have hdj : decide ((j : Int) < NK) = true := by simp; omega
            have hji : (j : Int) < NK := by omega
            have hqq : (qq != qq) = false := by simp
            go_wp2_with fail
            go_quiet (fail)
            go_wp2
            go_roundw
            case rel => exact ⟨j + 1, by simp, by omega, below_drewN HB2.out _⟩
            case measure => simp only [RowKit.intOf]; omega
          · have hdj : decide ((j : Int) < NK) = false := by simp; omega
            clear hj
            go_wp2_with fail
            go_loopw [11] (fun jv w2 => ∃ j : Nat, jv = .int .i64 j ∧ j ≤ NA ∧ Below (WO.heap.size + 2) ((WO.alloc O1).alloc O2) w2) (fun jv _ => NA - (RowKit.intOf jv).toNat)
            case atStart => exact ⟨0, rfl, Nat.zero_le _, HB2.out⟩
            case round =>
              obtain ⟨r, rfl, hr, hb3⟩ := hrel
              obtain ⟨⟨c0', c1', c2', c3', c4'⟩, d0', d1', d2', d3', d4'⟩ := HBX.out _ hb3
              have HB3 := hide hb3
              clear hb3 c0' c2' c4' d0' d2' d4' c1 c3 d1 d3
              by_cases hlr : r < NA
              · obtain ⟨h1, h2, rfl, rfl, hmx, xx, yy, e1, e2, e3, e4⟩ := HAT.out _ (HDN.out _ HB3.out) r hlr
                have hdr : decide ((r : Int) < NA) = true := by simp; omega
                have hri : (r : Int) < NA := by omega
                have hgd := guard52
                have hne := neq52
                go_wp2_with fail
                go_quiet (fail)
                go_wp2
                go_roundw
                case rel => exact ⟨r + 1, by simp, by omega, below_drewN HB3.out _⟩
                case measure => simp only [RowKit.intOf]; omega
              · have hdr : decide ((r : Int) < NA) = false := by simp; omega
                go_wp2
                exact ⟨⟨i + 1, by simp, by omega, bon' HB.out (HDN.out _ HB3.out)⟩, by simp only [RowKit.intOf]; omega⟩
    · have hdec : decide ((i : Int) < n) = false := by simp; omega
      have HB := hide hb
      clear hb
      go_wp2
      go_ret
      exact ⟨rfl, HB.out⟩
end Go.Proofs.YthfklhaelmhdhaaGreatDoor
