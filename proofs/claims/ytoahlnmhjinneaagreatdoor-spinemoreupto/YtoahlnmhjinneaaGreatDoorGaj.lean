import Derived.Lib.RuneBytes
import Derived.Test.YtoahlnmhjinneaaGreatDoorGaa
import Derived.Test.YtoahlnmhjinneaaGreatDoorGab
set_option linter.unusedVariables false
set_option linter.unusedSimpArgs false
namespace Go.Proofs.YtoahlnmhjinneaaGreatDoor.Ch
open Go
def bytes (s : ByteArray) (i n : Nat) : List UInt8 := (s.data.toList.drop i).take n
end Go.Proofs.YtoahlnmhjinneaaGreatDoor.Ch

namespace Go.Proofs.YtoahlnmhjinneaaGreatDoor.Ch
open Go
theorem bytes_high {s : ByteArray} {i : Nat} (hi : i < s.size) (h : 128 ≤ bz s i) : ∀ j, i ≤ j → j < i + (Utf8.decode s i).2 → 128 ≤ bz s j := by
  have one : ∀ j, i ≤ j → j < i + 1 → 128 ≤ bz s j := fun j a b => by
    obtain rfl : i = j := by omega
    exact h
  by_cases a2 : bz s i < 192
  · rw [decode_none (Or.inl ⟨h, a2⟩)]; exact one
  by_cases a3 : bz s i < 224
  · by_cases c1 : cont s (i + 1)
    · rw [decode_two (by omega) a3 c1]
      split
      · intro j x y
        unfold cont at c1
        have : j = i ∨ j = i + 1 := by omega
        rcases this with rfl | rfl <;> omega
      · exact one
    · rw [decode_two_no (by omega) a3 c1]; exact one
  by_cases a4 : bz s i < 240
  · by_cases c1 : cont s (i + 1)
    · by_cases c2 : cont s (i + 2)
      · rw [decode_three (by omega) a4 c1 c2]
        split
        · intro j x y
          unfold cont at c1 c2
          have : j = i ∨ j = i + 1 ∨ j = i + 2 := by omega
          rcases this with rfl | rfl | rfl <;> omega
        · exact one
      · rw [decode_three_no (by omega) a4 (Or.inr c2)]; exact one
    · rw [decode_three_no (by omega) a4 (Or.inl c1)]; exact one
  by_cases a5 : bz s i < 248
  · by_cases c1 : cont s (i + 1)
    · by_cases c2 : cont s (i + 2)
      · by_cases c3 : cont s (i + 3)
        · rw [decode_four (by omega) a5 c1 c2 c3]
          split
          · intro j x y
            unfold cont at c1 c2 c3
            have : j = i ∨ j = i + 1 ∨ j = i + 2 ∨ j = i + 3 := by omega
            rcases this with rfl | rfl | rfl | rfl <;> omega
          · exact one
        · rw [decode_four_no (by omega) a5 (Or.inr (Or.inr c3))]; exact one
      · rw [decode_four_no (by omega) a5 (Or.inr (Or.inl c2))]; exact one
    · rw [decode_four_no (by omega) a5 (Or.inl c1)]; exact one
  · rw [decode_none (Or.inr (by omega))]; exact one
end Go.Proofs.YtoahlnmhjinneaaGreatDoor.Ch

namespace Go.Proofs.YtoahlnmhjinneaaGreatDoor.Ch
open Go
theorem decode_same {s t : ByteArray} {i j : Nat} (h0 : bz s i = bz t j) (hge : 128 ≤ bz s i)
    (h1 : cont s (i + 1) → bz s (i + 1) = bz t (j + 1)) (n1 : ¬ cont s (i + 1) → ¬ cont t (j + 1))
    (h2 : cont s (i + 1) → cont s (i + 2) → bz s (i + 2) = bz t (j + 2)) (n2 : cont s (i + 1) → ¬ cont s (i + 2) → ¬ cont t (j + 2))
    (h3 : cont s (i + 1) → cont s (i + 2) → cont s (i + 3) → bz s (i + 3) = bz t (j + 3)) (n3 : cont s (i + 1) → cont s (i + 2) → ¬ cont s (i + 3) → ¬ cont t (j + 3)) :
    Utf8.decode t j = Utf8.decode s i := by
  have c1 : ∀ (h : cont s (i + 1)), cont t (j + 1) := fun h => by unfold cont at *; rw [← h1 h]; exact h
  have c2 : ∀ (h : cont s (i + 1)), cont s (i + 2) → cont t (j + 2) := fun h k => by unfold cont at *; rw [← h2 h k]; exact k
  have c3 : ∀ (h : cont s (i + 1)), cont s (i + 2) → cont s (i + 3) → cont t (j + 3) := fun h k l => by unfold cont at *; rw [← h3 h k l]; exact l
  by_cases a2 : bz s i < 192
  · rw [decode_none (Or.inl ⟨hge, a2⟩), decode_none (Or.inl ⟨by omega, by omega⟩)]
  by_cases a3 : bz s i < 224
  · by_cases k1 : cont s (i + 1)
    · rw [decode_two (by omega) a3 k1, decode_two (by omega) (by omega) (c1 k1)]
      simp only [acc, Nat.zero_add, h0, h1 k1]
    · rw [decode_two_no (by omega) a3 k1, decode_two_no (by omega) (by omega) (n1 k1)]
  by_cases a4 : bz s i < 240
  · by_cases k1 : cont s (i + 1)
    · by_cases k2 : cont s (i + 2)
      · rw [decode_three (by omega) a4 k1 k2, decode_three (by omega) (by omega) (c1 k1) (c2 k1 k2)]
        simp only [acc, Nat.zero_add, Nat.reduceAdd, h0, h1 k1, h2 k1 k2]
      · rw [decode_three_no (by omega) a4 (Or.inr k2), decode_three_no (by omega) (by omega) (Or.inr (n2 k1 k2))]
    · rw [decode_three_no (by omega) a4 (Or.inl k1), decode_three_no (by omega) (by omega) (Or.inl (n1 k1))]
  by_cases a5 : bz s i < 248
  · by_cases k1 : cont s (i + 1)
    · by_cases k2 : cont s (i + 2)
      · by_cases k3 : cont s (i + 3)
        · rw [decode_four (by omega) a5 k1 k2 k3, decode_four (by omega) (by omega) (c1 k1) (c2 k1 k2) (c3 k1 k2 k3)]
          simp only [acc, Nat.zero_add, Nat.reduceAdd, h0, h1 k1, h2 k1 k2, h3 k1 k2 k3]
        · rw [decode_four_no (by omega) a5 (Or.inr (Or.inr k3)), decode_four_no (by omega) (by omega) (Or.inr (Or.inr (n3 k1 k2 k3)))]
      · rw [decode_four_no (by omega) a5 (Or.inr (Or.inl k2)), decode_four_no (by omega) (by omega) (Or.inr (Or.inl (n2 k1 k2)))]
    · rw [decode_four_no (by omega) a5 (Or.inl k1), decode_four_no (by omega) (by omega) (Or.inl (n1 k1))]
  · rw [decode_none (Or.inr (by omega)), decode_none (Or.inr (by omega))]
def txt (l : List UInt8) : ByteArray := ⟨l.toArray⟩
theorem bz_txt (l : List UInt8) (i : Nat) : bz (txt l) i = (match l[i]? with | some c => (c.toNat : Int) | none => -1) := by
  unfold bz
  have hs : (txt l).size = l.length := by show l.toArray.size = _; simp
  rw [hs]
  by_cases h : i < l.length
  · rw [if_pos h, List.getElem?_eq_getElem h]
    have h2 : i < (txt l).size := by rw [hs]; exact h
    have e : (txt l).get! i = (txt l)[i] := by simp [ByteArray.get!, h2]; rfl
    rw [e]
    have e2 : (txt l)[i] = l[i] := rfl
    rw [e2]
    rfl
  · rw [if_neg h, List.getElem?_eq_none (by omega)]
theorem bz_app (a b : List UInt8) (i : Nat) : bz (txt (a ++ b)) (a.length + i) = bz (txt b) i := by
  rw [bz_txt, bz_txt, List.getElem?_append_right (by omega), Nat.add_sub_cancel_left]
theorem bz_app_left (a b : List UInt8) (i : Nat) (h : i < a.length) : bz (txt (a ++ b)) i = bz (txt a) i := by
  rw [bz_txt, bz_txt, List.getElem?_append_left h]
theorem bz_head (c : UInt8) (l : List UInt8) : bz (txt (c :: l)) 0 = (c.toNat : Int) := by
  rw [bz_txt]; rfl
theorem decode_shift {s t : ByteArray} {i j : Nat} (hi : i < s.size) (h : ∀ k, bz s (i + k) = bz t (j + k)) : Utf8.decode t j = Utf8.decode s i := by
  have h0 := h 0
  simp only [Nat.add_zero] at h0
  have hs0 : 0 ≤ bz s i := by unfold bz; rw [if_pos hi]; omega
  by_cases ha : bz s i < 128
  · rw [decode_one hs0 ha, decode_one (by omega) (by omega), h0]
  · have hc : ∀ k, cont s (i + k) ↔ cont t (j + k) := fun k => by unfold cont; rw [h k]
    exact decode_same h0 (by omega) (fun _ => h 1) (fun n q => n ((hc 1).2 q)) (fun _ _ => h 2) (fun _ n q => n ((hc 2).2 q)) (fun _ _ _ => h 3) (fun _ _ n q => n ((hc 3).2 q))
end Go.Proofs.YtoahlnmhjinneaaGreatDoor.Ch

namespace Go.Proofs.YtoahlnmhjinneaaGreatDoor.Ch
open Go
theorem decode_prefix {s t : ByteArray} {i j : Nat} (h : i < s.size) (ho : okAt s i = true) (hb : ∀ k, k < (Utf8.decode s i).2 → bz s (i + k) = bz t (j + k)) : Utf8.decode t j = Utf8.decode s i := by
  have h0 : 0 ≤ bz s i := by unfold bz; rw [if_pos h]; omega
  have hbd := bz_bd s i
  have nb : Utf8.decode s i ≠ (65533, 1) := fun e => by rw [okAt_bad e] at ho; cases ho
  have hw := decode_width s i h
  have b0 := hb 0 (by omega)
  simp only [Nat.add_zero] at b0
  by_cases a1 : bz s i < 128
  · rw [decode_one h0 a1, decode_one (by omega) (by omega), b0]
  by_cases a2 : bz s i < 192
  · exact absurd (decode_none (Or.inl ⟨by omega, a2⟩)) nb
  by_cases a3 : bz s i < 224
  · by_cases c1 : cont s (i + 1)
    · have hd := decode_two (by omega) a3 c1
      by_cases hz : 128 ≤ acc s i (bz s i - 192) 1
      · rw [if_pos hz] at hd
        rw [hd] at hb
        have b1 := hb 1 (by simp)
        have d1 : cont t (j + 1) := by unfold cont at *; rw [← b1]; exact c1
        rw [decode_two (by omega) a3 c1, decode_two (by omega) (by omega) d1]
        simp only [acc, Nat.zero_add, b0, b1]
      · rw [if_neg hz] at hd; exact absurd hd nb
    · exact absurd (decode_two_no (by omega) a3 c1) nb
  by_cases a4 : bz s i < 240
  · by_cases c1 : cont s (i + 1)
    · by_cases c2 : cont s (i + 2)
      · have hd := decode_three (by omega) a4 c1 c2
        by_cases hz : 2048 ≤ acc s i (bz s i - 224) 2 ∧ Utf8.valid (acc s i (bz s i - 224) 2) = true
        · rw [if_pos hz] at hd
          rw [hd] at hb
          have b1 := hb 1 (by simp)
          have b2 := hb 2 (by simp)
          have d1 : cont t (j + 1) := by unfold cont at *; rw [← b1]; exact c1
          have d2 : cont t (j + 2) := by unfold cont at *; rw [← b2]; exact c2
          rw [decode_three (by omega) a4 c1 c2, decode_three (by omega) (by omega) d1 d2]
          simp only [acc, Nat.zero_add, Nat.reduceAdd, b0, b1, b2]
        · rw [if_neg hz] at hd; exact absurd hd nb
      · exact absurd (decode_three_no (by omega) a4 (Or.inr c2)) nb
    · exact absurd (decode_three_no (by omega) a4 (Or.inl c1)) nb
  by_cases a5 : bz s i < 248
  · by_cases c1 : cont s (i + 1)
    · by_cases c2 : cont s (i + 2)
      · by_cases c3 : cont s (i + 3)
        · have hd := decode_four (by omega) a5 c1 c2 c3
          by_cases hz : 65536 ≤ acc s i (bz s i - 240) 3 ∧ Utf8.valid (acc s i (bz s i - 240) 3) = true
          · rw [if_pos hz] at hd
            rw [hd] at hb
            have b1 := hb 1 (by simp)
            have b2 := hb 2 (by simp)
            have b3 := hb 3 (by simp)
            have d1 : cont t (j + 1) := by unfold cont at *; rw [← b1]; exact c1
            have d2 : cont t (j + 2) := by unfold cont at *; rw [← b2]; exact c2
            have d3 : cont t (j + 3) := by unfold cont at *; rw [← b3]; exact c3
            rw [decode_four (by omega) a5 c1 c2 c3, decode_four (by omega) (by omega) d1 d2 d3]
            simp only [acc, Nat.zero_add, Nat.reduceAdd, b0, b1, b2, b3]
          · rw [if_neg hz] at hd; exact absurd hd nb
        · exact absurd (decode_four_no (by omega) a5 (Or.inr (Or.inr c3))) nb
      · exact absurd (decode_four_no (by omega) a5 (Or.inr (Or.inl c2))) nb
    · exact absurd (decode_four_no (by omega) a5 (Or.inl c1)) nb
  · exact absurd (decode_none (Or.inr (by omega))) nb
theorem okSame {s t : ByteArray} {i j : Nat} (h : Utf8.decode t j = Utf8.decode s i) : okAt t j = okAt s i := by
  unfold okAt; rw [h]
section
variable {a b ab : ByteArray}
def joined (a b ab : ByteArray) : Prop := ab.size = a.size + b.size ∧ (∀ k, k < a.size → bz ab k = bz a k) ∧ ∀ k, bz ab (a.size + k) = bz b k
theorem join_ok (hj : joined a b ab) {p : Nat} (hp : p < a.size) (ho : okAt a p = true) : Utf8.decode ab p = Utf8.decode a p := by
  have hw := decode_width a p hp
  exact decode_prefix hp ho (fun k hk => (hj.2.1 (p + k) (by omega)).symm)
theorem join_second (hj : joined a b ab) {k : Nat} (hk : k < b.size) : Utf8.decode ab (a.size + k) = Utf8.decode b k :=
  decode_shift (s := b) (t := ab) (i := k) (j := a.size + k) hk (fun i => by rw [Nat.add_assoc, hj.2.2])
theorem badFrom_ge (s : ByteArray) : ∀ f p, p ≤ s.size → p ≤ badFrom s f p := by
  intro f
  induction f with
  | zero => intro p _; exact Nat.le_refl _
  | succ f ih =>
    intro p hp
    rw [badFrom.eq_2]
    by_cases h : p < s.size
    · have hw := decode_width s p h
      rw [if_pos h]
      split
      · have := ih (p + (Utf8.decode s p).2) hw.1; omega
      · omega
    · rw [if_neg h]; exact hp
theorem nameFrom_ge (s : ByteArray) : ∀ f p, p ≤ s.size → p ≤ nameFrom s f p := by
  intro f
  induction f with
  | zero => intro p _; exact Nat.le_refl _
  | succ f ih =>
    intro p hp
    rw [nameFrom.eq_2]
    by_cases h : p < s.size
    · have hw := decode_width s p h
      rw [if_pos h]
      split
      · have := ih (p + (Utf8.decode s p).2) hw.1; omega
      · omega
    · rw [if_neg h]; exact hp
theorem nameFrom_le (s : ByteArray) : ∀ f p, p ≤ s.size → nameFrom s f p ≤ s.size := by
  intro f
  induction f with
  | zero => intro p h; exact h
  | succ f ih =>
    intro p h
    rw [nameFrom.eq_2]
    by_cases hp : p < s.size
    · rw [if_pos hp]
      split
      · exact ih _ (decode_width s p hp).1
      · exact h
    · rw [if_neg hp]; exact Nat.le_refl _
theorem badFrom_fuel (s : ByteArray) : ∀ F F' p, p ≤ s.size → s.size < p + F → s.size < p + F' → badFrom s F p = badFrom s F' p := by
  intro F
  induction F with
  | zero => intro F' p h0 h h'; omega
  | succ F ih =>
    intro F' p h0 h h'
    obtain ⟨F', rfl⟩ : ∃ k, F' = k + 1 := ⟨F' - 1, by omega⟩
    rw [badFrom.eq_2, badFrom.eq_2]
    by_cases hp : p < s.size
    · have hw := decode_width s p hp
      rw [if_pos hp, if_pos hp]
      split
      · exact ih F' _ hw.1 (by omega) (by omega)
      · rfl
    · rw [if_neg hp, if_neg hp]
theorem bad_second (hj : joined a b ab) : ∀ F k, k ≤ b.size → badFrom ab F (a.size + k) = if F = 0 then a.size + k else a.size + badFrom b F k := by
  intro F
  induction F with
  | zero => intro k _; rfl
  | succ F ih =>
    intro k hk
    rw [if_neg (by omega), badFrom.eq_2, badFrom.eq_2]
    by_cases h : k < b.size
    · have hd := join_second hj h
      have hw := decode_width b k h
      rw [if_pos (by rw [hj.1]; omega), if_pos h, okSame hd, hd]
      split
      · rw [Nat.add_assoc, ih _ hw.1]
        split
        · rename_i e; subst e; rfl
        · rfl
      · rfl
    · rw [if_neg (by rw [hj.1]; omega), if_neg h, hj.1]
theorem bad_first (hj : joined a b ab) : ∀ f p F, p ≤ a.size → a.size < p + f → ab.size < p + F →
    badFrom a f p ≤ badFrom ab F p ∧ (badFrom a f p = a.size → badFrom ab F p = a.size + bad b) := by
  intro f
  induction f with
  | zero => intro p F h1 h2; omega
  | succ f ih =>
    intro p F h1 h2 h3
    have hsz := hj.1
    obtain ⟨F, rfl⟩ : ∃ k, F = k + 1 := ⟨F - 1, by omega⟩
    by_cases hp : p < a.size
    · have hw := decode_width a p hp
      cases hok : okAt a p
      · have e : badFrom a (f + 1) p = p := by rw [badFrom.eq_2, if_pos hp, if_neg (by rw [hok]; decide)]
        rw [e]
        exact ⟨badFrom_ge ab _ _ (by omega), fun h => by omega⟩
      · have hd := join_ok hj hp hok
        have e : badFrom a (f + 1) p = badFrom a f (p + (Utf8.decode a p).2) := by rw [badFrom.eq_2, if_pos hp, if_pos hok]
        have e2 : badFrom ab (F + 1) p = badFrom ab F (p + (Utf8.decode a p).2) := by
          rw [badFrom.eq_2, if_pos (by omega), if_pos (by rw [okSame hd]; exact hok), hd]
        rw [e, e2]
        exact ih _ _ hw.1 (by omega) (by omega)
    · obtain rfl : p = a.size := by omega
      have e : badFrom a (f + 1) a.size = a.size := by rw [badFrom.eq_2, if_neg hp]
      have e2 : badFrom ab (F + 1) a.size = a.size + badFrom b (F + 1) 0 := by
        have h := bad_second hj (F + 1) 0 (by omega)
        rw [if_neg (by omega)] at h
        exact h
      rw [e, e2]
      refine ⟨by omega, fun _ => ?_⟩
      rw [bad, badFrom_fuel b (F + 1) (b.size + 1) 0 (by omega) (by omega) (by omega)]
theorem inName_same {s t : ByteArray} {p : Nat} (h : Utf8.decode t p = Utf8.decode s p) : inName t p = inName s p := by
  unfold inName; rw [okSame h, h]
end
end Go.Proofs.YtoahlnmhjinneaaGreatDoor.Ch

set_option linter.unusedSimpArgs false
set_option linter.unusedVariables false
namespace Go.Proofs.YtoahlnmhjinneaaGreatDoor
open Go

structure RS where
  l : L
  nest : Int
  err : Nat
  at_ : Nat
def RS.bl (s : RS) : RS := if s.err = 0 then { s with l := skip s.l } else s
def RS.fail (q : L) (e : Nat) (s : RS) : RS := if s.err = 0 then { s with err := e, at_ := q.length - s.l.length } else s
def okw (q l : L) : Nat := ((Ch.at2 (bs q) (q.length - l.length)).2).toNat
def RS.wrong (q : L) (s : RS) : RS := s.bl.fail q (if s.bl.l ≠ [] ∧ okw q s.bl.l = 0 then 2 else 3)
def isB (p l : L) : Bool := Lib.hasPrefix l p && (p != [47] || !(Lib.hasPrefix (l.drop 1) [47]))
def RS.is (p : L) (s : RS) : Bool := decide (s.err = 0) && isB p s.bl.l
def RS.has (p : L) (s : RS) : RS := if s.is p = true then { s.bl with l := s.bl.l.drop p.length } else s.bl
def RS.must (q p : L) (s : RS) : RS := if s.is p = true then s.has p else (s.has p).wrong q
def RS.peek (s : RS) : L := if s.err = 0 then s.bl.l.take (nm s.bl.l) else []
def RS.name (q : L) (s : RS) : RS := if s.peek = [] then s.bl.wrong q else { s.bl with l := s.bl.l.drop s.peek.length }
def RS.called (p : L) (s : RS) : Bool := s.peek == p && RS.is [40] { s.bl with l := s.bl.l.drop s.peek.length }
def RS.opn (q p : L) (s : RS) : RS := if s.is p = true then (let s1 := if s.nest = 8 then s.bl.fail q 8 else s.bl; { s1 with nest := IntKind.i64.wrap (s1.nest + 1), l := s1.l.drop 1 }) else s.bl.wrong q
def RS.shut (q p : L) (s : RS) : RS := { s.must q p with nest := IntKind.i64.wrap ((s.must q p).nest - 1) }
def scan (q : L) (c : UInt8) : Nat → L → L × Nat
  | 0, l => (l, 3)
  | f + 1, l => match l with
    | [] => ([], 3)
    | b :: r => if b = c then (b :: r, 0) else if okw q (b :: r) = 0 then (b :: r, 2) else scan q c f ((b :: r).drop (okw q (b :: r)))
def quoteR (q : L) (c : UInt8) (s : RS) : L × RS :=
  let x := scan q c (s.l.length + 1) s.l
  if x.2 = 0 then (s.l.take (s.l.length - x.1.length), { s with l := x.1.drop 1 }) else ([], RS.fail q x.2 { s with l := x.1 })
def quotedR (q : L) (s : RS) : L × RS := if s.is [34] = true then quoteR q 34 (s.has [34]) else if s.bl.is [39] = true then quoteR q 39 (s.bl.has [39]) else ([], (s.bl.has [39]).wrong q)
def testR (q : L) (s : RS) : L × RS :=
  if s.is [42] = true then ([42], s.has [42]) else if s.bl.called wText = true then ([35], ((s.bl.bl.name q).must q [40]).must q [41]) else (s.bl.bl.peek, s.bl.bl.name q)
variable (q : L) (inner : RS → Prd × RS)
def predsR : Nat → RS → List Prd × RS
  | 0, s => ([], s)
  | f + 1, s => if s.is [91] = true then
      (let x := inner (s.bl.opn q [91]); let y := predsR f (x.2.shut q [93]); (x.1 :: y.1, y.2)) else ([], s.bl)
def stepR (deep : Bool) (s : RS) : Stp × RS :=
  let x := testR q s
  let y := predsR q inner (x.2.l.length + 1) x.2
  (⟨deep, x.1, Prds.of y.1⟩, y.2)
def lastText (l : List Stp) : Bool := match l.getLast? with
  | some s => s.test == [35]
  | none => false
def moreR (may : Bool) : Nat → List Stp → RS → List Stp × RS
  | 0, l, s => (l, s)
  | f + 1, l, s => if s.err ≠ 0 then (l, s) else if lastText l = true then (l, s) else
      if s.is [47, 47] = true then (let x := stepR q inner true (s.has [47, 47]); moreR may f (l ++ [x.1]) x.2)
      else if s.bl.is [47] = true then
        (if may = true ∧ (s.bl.has [47]).is [64] = true then (l, { (s.bl.has [47]).bl with l := s.l })
         else let x := stepR q inner false (if may = true then (s.bl.has [47]).bl else s.bl.has [47]); moreR may f (l ++ [x.1]) x.2)
      else (l, s.bl)
def pathR (s : RS) : List Stp × RS := if s.is [47, 47] = true ∨ s.bl.is [47] = true then moreR q inner false (s.l.length + 1) [] s.bl else ([], s.bl.wrong q)
def attrR (s : RS) (l : List Stp) : Prd × RS :=
  if s.err = 0 ∧ lastText l = false ∧ s.is [47] = true then (⟨[], .nil, Stps.of l, ((s.has [47]).must q [64]).peek, []⟩, ((s.has [47]).must q [64]).name q)
  else (⟨[], .nil, Stps.of l, [], []⟩, if s.err = 0 ∧ lastText l = false then s.bl else s)
def valueR (s : RS) : Prd × RS :=
  if s.is [64] = true then (⟨[], .nil, .nil, (s.has [64]).peek, []⟩, (s.has [64]).name q)
  else if s.bl.is [46] = true then
    (if (s.bl.has [46]).is [47, 47] = true then (let y := moreR q inner true ((s.bl.has [46]).l.length + 1) [] (s.bl.has [46]).bl; attrR q y.2 y.1) else (⟨[], .nil, .nil, [], []⟩, (s.bl.has [46]).bl))
  else let x := stepR q inner false s.bl.bl; let y := moreR q inner true (x.2.l.length + 1) [x.1] x.2; attrR q y.2 y.1
def oneR (s : RS) : Prd × RS :=
  if s.called wNot = true then (let x := inner ((s.bl.name q).opn q [40]); (⟨wNot, Prds.of [x.1], .nil, [], []⟩, x.2.shut q [41]))
  else if s.bl.is [40] = true then (let x := inner (s.bl.bl.opn q [40]); (x.1, x.2.shut q [41]))
  else
    let x := valueR q inner s.bl.bl
    if x.2.is [33, 61] = true then (let y := quotedR q (x.2.has [33, 61]); (⟨[33, 61], x.1.kids, x.1.steps, x.1.attr, y.1⟩, y.2))
    else if x.2.bl.is [61] = true then (let y := quotedR q (x.2.bl.has [61]); (⟨[61], x.1.kids, x.1.steps, x.1.attr, y.1⟩, y.2))
    else (⟨wHas, x.1.kids, x.1.steps, x.1.attr, x.1.text⟩, x.2.bl.bl)
def severalR (op : L) (l : List Prd) : Prd := match l with
  | [p] => p
  | l => ⟨op, Prds.of l, .nil, [], []⟩
def loopR (word : L) (read : RS → Prd × RS) : Nat → RS → List Prd × RS
  | 0, s => ([], s)
  | f + 1, s => if s.err ≠ 0 then ([], s) else if s.peek = word then
      (let x := read (s.bl.name q); let y := loopR word read f x.2; (x.1 :: y.1, y.2)) else ([], s.bl)
def joinR (word : L) (read : RS → Prd × RS) (s : RS) : Prd × RS :=
  let x := read s
  let y := loopR q word read (x.2.l.length + 1) x.2
  (severalR word (x.1 :: y.1), y.2)
def bothR : RS → Prd × RS := joinR q wAnd (oneR q inner)
def condR : RS → Prd × RS := joinR q wOr (bothR q inner)
end Go.Proofs.YtoahlnmhjinneaaGreatDoor
namespace Go.Proofs.YtoahlnmhjinneaaGreatDoor
open Go
def junk : Prd := ⟨wHas, .nil, Stps.of [⟨false, [], .nil⟩], [], []⟩
def condRAt (q : L) : Nat → RS → Prd × RS
  | 0 => condR q fun s => (junk, s)
  | d + 1 => condR q (condRAt q d)
def inRAt (q : L) : Nat → RS → Prd × RS
  | 0 => fun s => (junk, s)
  | d + 1 => condRAt q d
theorem condRAt_eq (q : L) (d : Nat) : condRAt q d = condR q (inRAt q d) := by cases d <;> rfl
def pathsR (q : L) : Nat → RS → List (List Stp) × RS
  | 0, s => ([], s)
  | f + 1, s => if s.is [124] = true then (let x := pathR q (inRAt q 8) (s.has [124]); let y := pathsR q f x.2; (x.1 :: y.1, y.2)) else ([], s.bl)
def queryR (q : L) (s : RS) : List (List Stp) × RS :=
  let x := pathR q (inRAt q 8) s
  let y := pathsR q (x.2.l.length + 1) x.2
  (x.1 :: y.1, y.2)
def RS.start (q : L) : RS := ⟨q, 0, 0, 0⟩
def parseR (q : L) : Except (Nat × Nat) (List (List Stp)) :=
  if 500 < q.length then .error (1, 0) else
    let x := queryR q (RS.start q)
    let s := if x.2.bl.err = 0 ∧ x.2.bl.l ≠ [] then x.2.bl.wrong q else x.2.bl
    if s.err = 0 then .ok x.1 else .error (s.err, s.at_)
end Go.Proofs.YtoahlnmhjinneaaGreatDoor
