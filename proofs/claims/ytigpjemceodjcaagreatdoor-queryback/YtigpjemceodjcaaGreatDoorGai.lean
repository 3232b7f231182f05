import Derived.Test.YtigpjemceodjcaaGreatDoorGah
import Derived.Test.YtigpjemceodjcaaGreatDoorGab
set_option linter.unusedVariables false
set_option linter.unusedSimpArgs false
namespace Go.Proofs.YtigpjemceodjcaaGreatDoor.Ch
open Go
theorem decode_same {s t : ByteArray} {i j : Nat} (h0 : bz s i = bz t j) (hge : 128 ≤ bz s i)
    (h1 : cont s (i + 1) → bz s (i + 1) = bz t (j + 1)) (n1 : ¬ cont s (i + 1) → ¬ cont t (j + 1))
    (h2 : cont s (i + 1) → cont s (i + 2) → bz s (i + 2) = bz t (j + 2)) (n2 : cont s (i + 1) → ¬ cont s (i + 2) → ¬ cont t (j + 2))
    (h3 : cont s (i + 1) → cont s (i + 2) → cont s (i + 3) → bz s (i + 3) = bz t (j + 3)) (n3 : cont s (i + 1) → cont s (i + 2) → ¬ cont s (i + 3) → ¬ cont t (j + 3)) :
    Utf8.decode t j = Utf8.decode s i := by
  have c1 : ∀ (h : cont s (i + 1)), cont t (j + 1) := fun h => by unfold cont at *; rw [← h1 h]; exact h
  have c2 : ∀ (h : cont s (i + 1)), cont s (i + 2) → cont t (j + 2) := fun h k => by unfold cont at *; rw [← h2 h k]; exact k
  have c3 : ∀ (h : cont s (i + 1)), cont s (i + 2) → cont s (i + 3) → cont t (j + 3) := fun h k l => by unfold cont at *; rw [← h3 h k l]; exact l
  by_cases a2 : bz s i < 192
  · rw [decode_none (Or.inl ⟨hge, a2⟩), decode_none (Or.inl ⟨by omega, by omega⟩)]
  by_cases a3 : bz s i < 224
  · by_cases k1 : cont s (i + 1)
    · rw [decode_two (by omega) a3 k1, decode_two (by omega) (by omega) (c1 k1)]
      simp only [acc, Nat.zero_add, h0, h1 k1]
    · rw [decode_two_no (by omega) a3 k1, decode_two_no (by omega) (by omega) (n1 k1)]
  by_cases a4 : bz s i < 240
  · by_cases k1 : cont s (i + 1)
    · by_cases k2 : cont s (i + 2)
      · rw [decode_three (by omega) a4 k1 k2, decode_three (by omega) (by omega) (c1 k1) (c2 k1 k2)]
        simp only [acc, Nat.zero_add, Nat.reduceAdd, h0, h1 k1, h2 k1 k2]
      · rw [decode_three_no (by omega) a4 (Or.inr k2), decode_three_no (by omega) (by omega) (Or.inr (n2 k1 k2))]
    · rw [decode_three_no (by omega) a4 (Or.inl k1), decode_three_no (by omega) (by omega) (Or.inl (n1 k1))]
  by_cases a5 : bz s i < 248
  · by_cases k1 : cont s (i + 1)
    · by_cases k2 : cont s (i + 2)
      · by_cases k3 : cont s (i + 3)
        · rw [decode_four (by omega) a5 k1 k2 k3, decode_four (by omega) (by omega) (c1 k1) (c2 k1 k2) (c3 k1 k2 k3)]
          simp only [acc, Nat.zero_add, Nat.reduceAdd, h0, h1 k1, h2 k1 k2, h3 k1 k2 k3]
        · rw [decode_four_no (by omega) a5 (Or.inr (Or.inr k3)), decode_four_no (by omega) (by omega) (Or.inr (Or.inr (n3 k1 k2 k3)))]
      · rw [decode_four_no (by omega) a5 (Or.inr (Or.inl k2)), decode_four_no (by omega) (by omega) (Or.inr (Or.inl (n2 k1 k2)))]
    · rw [decode_four_no (by omega) a5 (Or.inl k1), decode_four_no (by omega) (by omega) (Or.inl (n1 k1))]
  · rw [decode_none (Or.inr (by omega)), decode_none (Or.inr (by omega))]
def txt (l : List UInt8) : ByteArray := ⟨l.toArray⟩
theorem bz_txt (l : List UInt8) (i : Nat) : bz (txt l) i = (match l[i]? with | some c => (c.toNat : Int) | none => -1) := by
  unfold bz
  have hs : (txt l).size = l.length := by show l.toArray.size = _; simp
  rw [hs]
  by_cases h : i < l.length
  · rw [if_pos h, List.getElem?_eq_getElem h]
    have h2 : i < (txt l).size := by rw [hs]; exact h
    have e : (txt l).get! i = (txt l)[i] := by simp [ByteArray.get!, h2]; rfl
    rw [e]
    have e2 : (txt l)[i] = l[i] := rfl
    rw [e2]
    rfl
  · rw [if_neg h, List.getElem?_eq_none (by omega)]
theorem bz_app (a b : List UInt8) (i : Nat) : bz (txt (a ++ b)) (a.length + i) = bz (txt b) i := by
  rw [bz_txt, bz_txt, List.getElem?_append_right (by omega), Nat.add_sub_cancel_left]
theorem bz_app_left (a b : List UInt8) (i : Nat) (h : i < a.length) : bz (txt (a ++ b)) i = bz (txt a) i := by
  rw [bz_txt, bz_txt, List.getElem?_append_left h]
theorem bz_head (c : UInt8) (l : List UInt8) : bz (txt (c :: l)) 0 = (c.toNat : Int) := by
  rw [bz_txt]; rfl
theorem decode_shift {s t : ByteArray} {i j : Nat} (hi : i < s.size) (h : ∀ k, bz s (i + k) = bz t (j + k)) : Utf8.decode t j = Utf8.decode s i := by
  have h0 := h 0
  simp only [Nat.add_zero] at h0
  have hs0 : 0 ≤ bz s i := by unfold bz; rw [if_pos hi]; omega
  by_cases ha : bz s i < 128
  · rw [decode_one hs0 ha, decode_one (by omega) (by omega), h0]
  · have hc : ∀ k, cont s (i + k) ↔ cont t (j + k) := fun k => by unfold cont; rw [h k]
    exact decode_same h0 (by omega) (fun _ => h 1) (fun n q => n ((hc 1).2 q)) (fun _ _ => h 2) (fun _ n q => n ((hc 2).2 q)) (fun _ _ _ => h 3) (fun _ _ n q => n ((hc 3).2 q))
end Go.Proofs.YtigpjemceodjcaaGreatDoor.Ch

namespace Go.Proofs.YtigpjemceodjcaaGreatDoor.Ch
open Go
theorem decode_prefix {s t : ByteArray} {i j : Nat} (h : i < s.size) (ho : okAt s i = true) (hb : ∀ k, k < (Utf8.decode s i).2 → bz s (i + k) = bz t (j + k)) : Utf8.decode t j = Utf8.decode s i := by
  have h0 : 0 ≤ bz s i := by unfold bz; rw [if_pos h]; omega
  have hbd := bz_bd s i
  have nb : Utf8.decode s i ≠ (65533, 1) := fun e => by rw [okAt_bad e] at ho; cases ho
  have hw := decode_width s i h
  have b0 := hb 0 (by omega)
  simp only [Nat.add_zero] at b0
  by_cases a1 : bz s i < 128
  · rw [decode_one h0 a1, decode_one (by omega) (by omega), b0]
  by_cases a2 : bz s i < 192
  · exact absurd (decode_none (Or.inl ⟨by omega, a2⟩)) nb
  by_cases a3 : bz s i < 224
  · by_cases c1 : cont s (i + 1)
    · have hd := decode_two (by omega) a3 c1
      by_cases hz : 128 ≤ acc s i (bz s i - 192) 1
      · rw [if_pos hz] at hd
        rw [hd] at hb
        have b1 := hb 1 (by simp)
        have d1 : cont t (j + 1) := by unfold cont at *; rw [← b1]; exact c1
        rw [decode_two (by omega) a3 c1, decode_two (by omega) (by omega) d1]
        simp only [acc, Nat.zero_add, b0, b1]
      · rw [if_neg hz] at hd; exact absurd hd nb
    · exact absurd (decode_two_no (by omega) a3 c1) nb
  by_cases a4 : bz s i < 240
  · by_cases c1 : cont s (i + 1)
    · by_cases c2 : cont s (i + 2)
      · have hd := decode_three (by omega) a4 c1 c2
        by_cases hz : 2048 ≤ acc s i (bz s i - 224) 2 ∧ Utf8.valid (acc s i (bz s i - 224) 2) = true
        · rw [if_pos hz] at hd
          rw [hd] at hb
          have b1 := hb 1 (by simp)
          have b2 := hb 2 (by simp)
          have d1 : cont t (j + 1) := by unfold cont at *; rw [← b1]; exact c1
          have d2 : cont t (j + 2) := by unfold cont at *; rw [← b2]; exact c2
          rw [decode_three (by omega) a4 c1 c2, decode_three (by omega) (by omega) d1 d2]
          simp only [acc, Nat.zero_add, Nat.reduceAdd, b0, b1, b2]
        · rw [if_neg hz] at hd; exact absurd hd nb
      · exact absurd (decode_three_no (by omega) a4 (Or.inr c2)) nb
    · exact absurd (decode_three_no (by omega) a4 (Or.inl c1)) nb
  by_cases a5 : bz s i < 248
  · by_cases c1 : cont s (i + 1)
    · by_cases c2 : cont s (i + 2)
      · by_cases c3 : cont s (i + 3)
        · have hd := decode_four (by omega) a5 c1 c2 c3
          by_cases hz : 65536 ≤ acc s i (bz s i - 240) 3 ∧ Utf8.valid (acc s i (bz s i - 240) 3) = true
          · rw [if_pos hz] at hd
            rw [hd] at hb
            have b1 := hb 1 (by simp)
            have b2 := hb 2 (by simp)
            have b3 := hb 3 (by simp)
            have d1 : cont t (j + 1) := by unfold cont at *; rw [← b1]; exact c1
            have d2 : cont t (j + 2) := by unfold cont at *; rw [← b2]; exact c2
            have d3 : cont t (j + 3) := by unfold cont at *; rw [← b3]; exact c3
            rw [decode_four (by omega) a5 c1 c2 c3, decode_four (by omega) (by omega) d1 d2 d3]
            simp only [acc, Nat.zero_add, Nat.reduceAdd, b0, b1, b2, b3]
          · rw [if_neg hz] at hd; exact absurd hd nb
        · exact absurd (decode_four_no (by omega) a5 (Or.inr (Or.inr c3))) nb
      · exact absurd (decode_four_no (by omega) a5 (Or.inr (Or.inl c2))) nb
    · exact absurd (decode_four_no (by omega) a5 (Or.inl c1)) nb
  · exact absurd (decode_none (Or.inr (by omega))) nb
theorem okSame {s t : ByteArray} {i j : Nat} (h : Utf8.decode t j = Utf8.decode s i) : okAt t j = okAt s i := by
  unfold okAt; rw [h]
section
variable {a b ab : ByteArray}
def joined (a b ab : ByteArray) : Prop := ab.size = a.size + b.size ∧ (∀ k, k < a.size → bz ab k = bz a k) ∧ ∀ k, bz ab (a.size + k) = bz b k
theorem join_ok (hj : joined a b ab) {p : Nat} (hp : p < a.size) (ho : okAt a p = true) : Utf8.decode ab p = Utf8.decode a p := by
  have hw := decode_width a p hp
  exact decode_prefix hp ho (fun k hk => (hj.2.1 (p + k) (by omega)).symm)
theorem join_second (hj : joined a b ab) {k : Nat} (hk : k < b.size) : Utf8.decode ab (a.size + k) = Utf8.decode b k :=
  decode_shift (s := b) (t := ab) (i := k) (j := a.size + k) hk (fun i => by rw [Nat.add_assoc, hj.2.2])
theorem badFrom_ge (s : ByteArray) : ∀ f p, p ≤ s.size → p ≤ badFrom s f p := by
  intro f
  induction f with
  | zero => intro p _; exact Nat.le_refl _
  | succ f ih =>
    intro p hp
    rw [badFrom.eq_2]
    by_cases h : p < s.size
    · have hw := decode_width s p h
      rw [if_pos h]
      split
      · have := ih (p + (Utf8.decode s p).2) hw.1; omega
      · omega
    · rw [if_neg h]; exact hp
theorem nameFrom_ge (s : ByteArray) : ∀ f p, p ≤ s.size → p ≤ nameFrom s f p := by
  intro f
  induction f with
  | zero => intro p _; exact Nat.le_refl _
  | succ f ih =>
    intro p hp
    rw [nameFrom.eq_2]
    by_cases h : p < s.size
    · have hw := decode_width s p h
      rw [if_pos h]
      split
      · have := ih (p + (Utf8.decode s p).2) hw.1; omega
      · omega
    · rw [if_neg h]; exact hp
theorem nameFrom_le (s : ByteArray) : ∀ f p, p ≤ s.size → nameFrom s f p ≤ s.size := by
  intro f
  induction f with
  | zero => intro p h; exact h
  | succ f ih =>
    intro p h
    rw [nameFrom.eq_2]
    by_cases hp : p < s.size
    · rw [if_pos hp]
      split
      · exact ih _ (decode_width s p hp).1
      · exact h
    · rw [if_neg hp]; exact Nat.le_refl _
theorem badFrom_fuel (s : ByteArray) : ∀ F F' p, p ≤ s.size → s.size < p + F → s.size < p + F' → badFrom s F p = badFrom s F' p := by
  intro F
  induction F with
  | zero => intro F' p h0 h h'; omega
  | succ F ih =>
    intro F' p h0 h h'
    obtain ⟨F', rfl⟩ : ∃ k, F' = k + 1 := ⟨F' - 1, by omega⟩
    rw [badFrom.eq_2, badFrom.eq_2]
    by_cases hp : p < s.size
    · have hw := decode_width s p hp
      rw [if_pos hp, if_pos hp]
      split
      · exact ih F' _ hw.1 (by omega) (by omega)
      · rfl
    · rw [if_neg hp, if_neg hp]
theorem bad_second (hj : joined a b ab) : ∀ F k, k ≤ b.size → badFrom ab F (a.size + k) = if F = 0 then a.size + k else a.size + badFrom b F k := by
  intro F
  induction F with
  | zero => intro k _; rfl
  | succ F ih =>
    intro k hk
    rw [if_neg (by omega), badFrom.eq_2, badFrom.eq_2]
    by_cases h : k < b.size
    · have hd := join_second hj h
      have hw := decode_width b k h
      rw [if_pos (by rw [hj.1]; omega), if_pos h, okSame hd, hd]
      split
      · rw [Nat.add_assoc, ih _ hw.1]
        split
        · rename_i e; subst e; rfl
        · rfl
      · rfl
    · rw [if_neg (by rw [hj.1]; omega), if_neg h, hj.1]
theorem bad_first (hj : joined a b ab) : ∀ f p F, p ≤ a.size → a.size < p + f → ab.size < p + F →
    badFrom a f p ≤ badFrom ab F p ∧ (badFrom a f p = a.size → badFrom ab F p = a.size + bad b) := by
  intro f
  induction f with
  | zero => intro p F h1 h2; omega
  | succ f ih =>
    intro p F h1 h2 h3
    have hsz := hj.1
    obtain ⟨F, rfl⟩ : ∃ k, F = k + 1 := ⟨F - 1, by omega⟩
    by_cases hp : p < a.size
    · have hw := decode_width a p hp
      cases hok : okAt a p
      · have e : badFrom a (f + 1) p = p := by rw [badFrom.eq_2, if_pos hp, if_neg (by rw [hok]; decide)]
        rw [e]
        exact ⟨badFrom_ge ab _ _ (by omega), fun h => by omega⟩
      · have hd := join_ok hj hp hok
        have e : badFrom a (f + 1) p = badFrom a f (p + (Utf8.decode a p).2) := by rw [badFrom.eq_2, if_pos hp, if_pos hok]
        have e2 : badFrom ab (F + 1) p = badFrom ab F (p + (Utf8.decode a p).2) := by
          rw [badFrom.eq_2, if_pos (by omega), if_pos (by rw [okSame hd]; exact hok), hd]
        rw [e, e2]
        exact ih _ _ hw.1 (by omega) (by omega)
    · obtain rfl : p = a.size := by omega
      have e : badFrom a (f + 1) a.size = a.size := by rw [badFrom.eq_2, if_neg hp]
      have e2 : badFrom ab (F + 1) a.size = a.size + badFrom b (F + 1) 0 := by
        have h := bad_second hj (F + 1) 0 (by omega)
        rw [if_neg (by omega)] at h
        exact h
      rw [e, e2]
      refine ⟨by omega, fun _ => ?_⟩
      rw [bad, badFrom_fuel b (F + 1) (b.size + 1) 0 (by omega) (by omega) (by omega)]
theorem inName_same {s t : ByteArray} {p : Nat} (h : Utf8.decode t p = Utf8.decode s p) : inName t p = inName s p := by
  unfold inName; rw [okSame h, h]
end
end Go.Proofs.YtigpjemceodjcaaGreatDoor.Ch

set_option linter.unusedSimpArgs false
set_option linter.unusedVariables false
namespace Go.Proofs.YtigpjemceodjcaaGreatDoor
open Go

structure RS where
  l : L
  nest : Int
  err : Nat
  at_ : Nat
def RS.bl (s : RS) : RS := if s.err = 0 then { s with l := skip s.l } else s
def RS.fail (q : L) (e : Nat) (s : RS) : RS := if s.err = 0 then { s with err := e, at_ := q.length - s.l.length } else s
def okw (q l : L) : Nat := ((Ch.at2 (bs q) (q.length - l.length)).2).toNat
def RS.wrong (q : L) (s : RS) : RS := s.bl.fail q (if s.bl.l ≠ [] ∧ okw q s.bl.l = 0 then 2 else 3)
def isB (p l : L) : Bool := Lib.hasPrefix l p && (p != [47] || !(Lib.hasPrefix (l.drop 1) [47]))
def RS.is (p : L) (s : RS) : Bool := decide (s.err = 0) && isB p s.bl.l
def RS.has (p : L) (s : RS) : RS := if s.is p = true then { s.bl with l := s.bl.l.drop p.length } else s.bl
def RS.must (q p : L) (s : RS) : RS := if s.is p = true then s.has p else (s.has p).wrong q
def RS.peek (s : RS) : L := if s.err = 0 then s.bl.l.take (nm s.bl.l) else []
def RS.name (q : L) (s : RS) : RS := if s.peek = [] then s.bl.wrong q else { s.bl with l := s.bl.l.drop s.peek.length }
def RS.called (p : L) (s : RS) : Bool := s.peek == p && RS.is [40] { s.bl with l := s.bl.l.drop s.peek.length }
def RS.opn (q p : L) (s : RS) : RS := if s.is p = true then (let s1 := if s.nest = 8 then s.bl.fail q 8 else s.bl; { s1 with nest := IntKind.i64.wrap (s1.nest + 1), l := s1.l.drop 1 }) else s.bl.wrong q
def RS.shut (q p : L) (s : RS) : RS := { s.must q p with nest := IntKind.i64.wrap ((s.must q p).nest - 1) }
def scan (q : L) (c : UInt8) : Nat → L → L × Nat
  | 0, l => (l, 3)
  | f + 1, l => match l with
    | [] => ([], 3)
    | b :: r => if b = c then (b :: r, 0) else if okw q (b :: r) = 0 then (b :: r, 2) else scan q c f ((b :: r).drop (okw q (b :: r)))
def quoteR (q : L) (c : UInt8) (s : RS) : L × RS :=
  let x := scan q c (s.l.length + 1) s.l
  if x.2 = 0 then (s.l.take (s.l.length - x.1.length), { s with l := x.1.drop 1 }) else ([], RS.fail q x.2 { s with l := x.1 })
def quotedR (q : L) (s : RS) : L × RS := if s.is [34] = true then quoteR q 34 (s.has [34]) else if s.bl.is [39] = true then quoteR q 39 (s.bl.has [39]) else ([], (s.bl.has [39]).wrong q)
def testR (q : L) (s : RS) : L × RS :=
  if s.is [42] = true then ([42], s.has [42]) else if s.bl.called wText = true then ([35], ((s.bl.bl.name q).must q [40]).must q [41]) else (s.bl.bl.peek, s.bl.bl.name q)
variable (q : L) (inner : RS → Prd × RS)
def predsR : Nat → RS → List Prd × RS
  | 0, s => ([], s)
  | f + 1, s => if s.is [91] = true then
      (let x := inner (s.bl.opn q [91]); let y := predsR f (x.2.shut q [93]); (x.1 :: y.1, y.2)) else ([], s.bl)
def stepR (deep : Bool) (s : RS) : Stp × RS :=
  let x := testR q s
  let y := predsR q inner (x.2.l.length + 1) x.2
  (⟨deep, x.1, Prds.of y.1⟩, y.2)
def lastText (l : List Stp) : Bool := match l.getLast? with
  | some s => s.test == [35]
  | none => false
def moreR (may : Bool) : Nat → List Stp → RS → List Stp × RS
  | 0, l, s => (l, s)
  | f + 1, l, s => if s.err ≠ 0 then (l, s) else if lastText l = true then (l, s) else
      if s.is [47, 47] = true then (let x := stepR q inner true (s.has [47, 47]); moreR may f (l ++ [x.1]) x.2)
      else if s.bl.is [47] = true then
        (if may = true ∧ (s.bl.has [47]).is [64] = true then (l, { (s.bl.has [47]).bl with l := s.l })
         else let x := stepR q inner false (if may = true then (s.bl.has [47]).bl else s.bl.has [47]); moreR may f (l ++ [x.1]) x.2)
      else (l, s.bl)
def pathR (s : RS) : List Stp × RS := if s.is [47, 47] = true ∨ s.bl.is [47] = true then moreR q inner false (s.l.length + 1) [] s.bl else ([], s.bl.wrong q)
def attrR (s : RS) (l : List Stp) : Prd × RS :=
  if s.err = 0 ∧ lastText l = false ∧ s.is [47] = true then (⟨[], .nil, Stps.of l, ((s.has [47]).must q [64]).peek, []⟩, ((s.has [47]).must q [64]).name q)
  else (⟨[], .nil, Stps.of l, [], []⟩, if s.err = 0 ∧ lastText l = false then s.bl else s)
def valueR (s : RS) : Prd × RS :=
  if s.is [64] = true then (⟨[], .nil, .nil, (s.has [64]).peek, []⟩, (s.has [64]).name q)
  else if s.bl.is [46] = true then
    (if (s.bl.has [46]).is [47, 47] = true then (let y := moreR q inner true ((s.bl.has [46]).l.length + 1) [] (s.bl.has [46]).bl; attrR q y.2 y.1) else (⟨[], .nil, .nil, [], []⟩, (s.bl.has [46]).bl))
  else let x := stepR q inner false s.bl.bl; let y := moreR q inner true (x.2.l.length + 1) [x.1] x.2; attrR q y.2 y.1
def oneR (s : RS) : Prd × RS :=
  if s.called wNot = true then (let x := inner ((s.bl.name q).opn q [40]); (⟨wNot, Prds.of [x.1], .nil, [], []⟩, x.2.shut q [41]))
  else if s.bl.is [40] = true then (let x := inner (s.bl.bl.opn q [40]); (x.1, x.2.shut q [41]))
  else
    let x := valueR q inner s.bl.bl
    if x.2.is [33, 61] = true then (let y := quotedR q (x.2.has [33, 61]); (⟨[33, 61], x.1.kids, x.1.steps, x.1.attr, y.1⟩, y.2))
    else if x.2.bl.is [61] = true then (let y := quotedR q (x.2.bl.has [61]); (⟨[61], x.1.kids, x.1.steps, x.1.attr, y.1⟩, y.2))
    else (⟨wHas, x.1.kids, x.1.steps, x.1.attr, x.1.text⟩, x.2.bl.bl)
def severalR (op : L) (l : List Prd) : Prd := match l with
  | [p] => p
  | l => ⟨op, Prds.of l, .nil, [], []⟩
def loopR (word : L) (read : RS → Prd × RS) : Nat → RS → List Prd × RS
  | 0, s => ([], s)
  | f + 1, s => if s.err ≠ 0 then ([], s) else if s.peek = word then
      (let x := read (s.bl.name q); let y := loopR word read f x.2; (x.1 :: y.1, y.2)) else ([], s.bl)
def joinR (word : L) (read : RS → Prd × RS) (s : RS) : Prd × RS :=
  let x := read s
  let y := loopR q word read (x.2.l.length + 1) x.2
  (severalR word (x.1 :: y.1), y.2)
def bothR : RS → Prd × RS := joinR q wAnd (oneR q inner)
def condR : RS → Prd × RS := joinR q wOr (bothR q inner)
end Go.Proofs.YtigpjemceodjcaaGreatDoor
namespace Go.Proofs.YtigpjemceodjcaaGreatDoor
open Go
def junk : Prd := ⟨wHas, .nil, Stps.of [⟨false, [], .nil⟩], [], []⟩
def condRAt (q : L) : Nat → RS → Prd × RS
  | 0 => condR q fun s => (junk, s)
  | d + 1 => condR q (condRAt q d)
def inRAt (q : L) : Nat → RS → Prd × RS
  | 0 => fun s => (junk, s)
  | d + 1 => condRAt q d
theorem condRAt_eq (q : L) (d : Nat) : condRAt q d = condR q (inRAt q d) := by cases d <;> rfl
def pathsR (q : L) : Nat → RS → List (List Stp) × RS
  | 0, s => ([], s)
  | f + 1, s => if s.is [124] = true then (let x := pathR q (inRAt q 8) (s.has [124]); let y := pathsR q f x.2; (x.1 :: y.1, y.2)) else ([], s.bl)
def queryR (q : L) (s : RS) : List (List Stp) × RS :=
  let x := pathR q (inRAt q 8) s
  let y := pathsR q (x.2.l.length + 1) x.2
  (x.1 :: y.1, y.2)
def RS.start (q : L) : RS := ⟨q, 0, 0, 0⟩
def parseR (q : L) : Except (Nat × Nat) (List (List Stp)) :=
  if 500 < q.length then .error (1, 0) else
    let x := queryR q (RS.start q)
    let s := if x.2.bl.err = 0 ∧ x.2.bl.l ≠ [] then x.2.bl.wrong q else x.2.bl
    if s.err = 0 then .ok x.1 else .error (s.err, s.at_)
end Go.Proofs.YtigpjemceodjcaaGreatDoor

set_option linter.unusedSimpArgs false
set_option linter.unusedVariables false
namespace Go.Proofs.YtigpjemceodjcaaGreatDoor
open Go

variable {q l r T a b : L} {c : UInt8}
theorem bsz (l : L) : (bs l).size = l.length := by simp [bs, ByteArray.size]
theorem jn (a b : L) : Ch.joined (bs a) (bs b) (bs (a ++ b)) := ⟨by simp [bsz], fun k hk => Ch.bz_app_left a b k (by simpa [bsz] using hk), fun k => by rw [bsz]; exact Ch.bz_app a b k⟩
def Gd (l : L) : Prop := Ch.bad (bs l) = l.length
def wd (l : L) : Nat := (Utf8.decode (bs l) 0).2
theorem gd_from {p f : Nat} (hp : p ≤ l.length) (hf : l.length < p + f) (h : Ch.badFrom (bs l) f p = l.length) : Gd (l.drop p) := by
  have hj := jn (l.take p) (l.drop p)
  rw [List.take_append_drop] at hj
  have h2 := Ch.bad_second hj f 0 (Nat.zero_le _)
  rw [if_neg (by omega), bsz, List.length_take, Nat.min_eq_left hp, Nat.add_zero, h] at h2
  unfold Gd Ch.bad
  rw [Ch.badFrom_fuel (bs (l.drop p)) _ f 0 (Nat.zero_le _) (by omega) (by rw [bsz, List.length_drop]; omega), List.length_drop]
  omega
theorem gd_step (h : Gd l) (hl : l ≠ []) : Ch.okAt (bs l) 0 = true ∧ 1 ≤ wd l ∧ wd l ≤ l.length ∧ Gd (l.drop (wd l)) := by
  have h0 : 0 < l.length := List.length_pos_iff.2 hl
  have hw := Ch.decode_width (bs l) 0 (by rw [bsz]; exact h0)
  have h' := h
  unfold Gd Ch.bad at h
  rw [Ch.badFrom.eq_2, if_pos (by rw [bsz]; exact h0)] at h
  cases hok : Ch.okAt (bs l) 0 with
  | false => rw [hok] at h; simp at h; omega
  | true =>
    rw [if_pos hok, Nat.zero_add] at h
    rw [bsz, Nat.zero_add] at hw
    exact ⟨rfl, hw.2.1, hw.1, gd_from hw.1 (by rw [bsz]; show l.length < wd l + _; unfold wd; omega) h⟩
theorem dec_ascii (hc : c.toNat < 128) (r : L) : Utf8.decode (bs (c :: r)) 0 = (c.toNat, 1) := by
  have h0 := Ch.bz_head c r
  have := Ch.decode_one (s := bs (c :: r)) (i := 0) (by show 0 ≤ Ch.bz (Ch.txt (c :: r)) 0; omega) (by show Ch.bz (Ch.txt (c :: r)) 0 < 128; omega)
  rw [this]
  show ((Ch.bz (Ch.txt (c :: r)) 0).toNat, 1) = _
  rw [h0]; rfl
theorem gd_cons (h : Gd (c :: r)) (hc : c.toNat < 128) : Gd r := by
  have := (gd_step h (by simp)).2.2.2
  unfold wd at this
  rw [dec_ascii hc] at this
  exact this
theorem gd_nil : Gd [] := rfl
theorem gd_skip (h : Gd l) : Gd (skip l) := by
  unfold skip Lib.trimLeftS
  induction l with
  | nil => exact h
  | cons c r ih =>
    rw [List.dropWhile_cons]
    split
    · next hc =>
      refine ih (gd_cons h ?_)
      simp at hc
      rcases hc with rfl | rfl | rfl | rfl <;> decide
    · exact h
def Stop (T : L) : Prop := T = [] ∨ Ch.okAt (bs T) 0 = false ∨ (Ch.begins ((Utf8.decode (bs T) 0).1 : Int) = false ∧ Ch.goesOn ((Utf8.decode (bs T) 0).1 : Int) = false)
theorem stop_no {pos : Nat} (hT : Stop T) (h : 0 < T.length) : Ch.inName (bs (a ++ T)) (bs a).size = false := by
  have hd := Ch.join_second (jn a T) (k := 0) (by rw [bsz]; exact h)
  rw [Nat.add_zero] at hd
  unfold Ch.inName
  rw [Ch.okSame hd, hd]
  rcases hT with rfl | hT | ⟨h1, h2⟩
  · simp at h
  · rw [hT]; rfl
  · rw [h1, h2]; simp
theorem name_run (hT : Stop T) : ∀ f p F, p ≤ a.length → a.length < p + f → (a ++ T).length < p + F → Ch.badFrom (bs a) f p = a.length → Ch.nameFrom (bs (a ++ T)) F p = Ch.nameFrom (bs a) f p := by
  intro f
  induction f with
  | zero => intro p F h1 h2; omega
  | succ f ih =>
    intro p F h1 h2 h3 hb
    have hj := jn a T
    have hsz := hj.1
    rw [List.length_append] at h3
    obtain ⟨F, rfl⟩ : ∃ k, F = k + 1 := ⟨F - 1, by omega⟩
    by_cases hp : p < a.length
    · have hp' : p < (bs a).size := by rw [bsz]; exact hp
      have hw := Ch.decode_width (bs a) p hp'
      rw [Ch.badFrom.eq_2, if_pos hp'] at hb
      cases hok : Ch.okAt (bs a) p with
      | false => rw [hok] at hb; simp at hb; omega
      | true =>
        rw [if_pos hok] at hb
        have hd := Ch.join_ok hj hp' hok
        rw [Ch.nameFrom.eq_2, Ch.nameFrom.eq_2, if_pos (by rw [hsz]; omega), if_pos hp', Ch.inName_same hd, hd]
        split
        · exact ih _ _ (by rw [bsz] at hw; omega) (by omega) (by rw [List.length_append]; omega) hb
        · rfl
    · obtain rfl : p = a.length := by omega
      have e : Ch.nameFrom (bs a) (f + 1) a.length = a.length := by rw [Ch.nameFrom.eq_2, if_neg (by rw [bsz]; omega), bsz]
      rw [e, Ch.nameFrom.eq_2]
      split
      · next h =>
        rw [bsz, List.length_append] at h
        have hs := stop_no (a := a) (pos := 0) hT (by omega)
        rw [bsz] at hs
        rw [hs]; simp
      · next h => rw [bsz, List.length_append] at h ⊢; omega
theorem nm_app (h : Gd l) (hT : Stop T) : nm (l ++ T) = nm l := by
  unfold nm Ch.name
  exact name_run hT _ 0 _ (Nat.zero_le _) (by rw [bsz]; omega) (by rw [bsz]; omega) h
theorem nmq_le (l : L) : nm l ≤ l.length := by have := Ch.nameFrom_le (bs l) ((bs l).size + 1) 0 (Nat.zero_le _); rwa [bsz] at this
theorem name_bad : ∀ f p, p ≤ l.length → l.length < p + f → Ch.badFrom (bs l) f p = l.length → ∃ F, l.length < Ch.nameFrom (bs l) f p + F ∧ Ch.badFrom (bs l) F (Ch.nameFrom (bs l) f p) = l.length := by
  intro f
  induction f with
  | zero => intro p h1 h2; omega
  | succ f ih =>
    intro p h1 h2 hb
    by_cases hp : p < l.length
    · have hp' : p < (bs l).size := by rw [bsz]; exact hp
      have hw := Ch.decode_width (bs l) p hp'
      rw [Ch.nameFrom.eq_2, if_pos hp']
      split
      · next hin =>
        rw [Ch.badFrom.eq_2, if_pos hp'] at hb
        have hok : Ch.okAt (bs l) p = true := by
          unfold Ch.inName at hin
          simp only [Bool.and_eq_true] at hin
          exact hin.1
        rw [if_pos hok] at hb
        exact ih _ (by rw [bsz] at hw; omega) (by omega) hb
      · exact ⟨f + 1, h2, hb⟩
    · obtain rfl : p = l.length := by omega
      rw [Ch.nameFrom.eq_2, if_neg (by rw [bsz]; omega), bsz]
      exact ⟨f + 1, h2, hb⟩
theorem gd_name (h : Gd l) : Gd (l.drop (nm l)) := by
  obtain ⟨F, h1, h2⟩ := name_bad (l := l) ((bs l).size + 1) 0 (Nat.zero_le _) (by rw [bsz]; omega) h
  exact gd_from (nmq_le l) h1 h2
theorem nm_sign (hc : c.toNat < 128) (hb : Ch.begins (c.toNat : Int) = false) (r : L) : nm (c :: r) = 0 := by
  unfold nm Ch.name
  rw [Ch.nameFrom.eq_2]
  have : Ch.inName (bs (c :: r)) 0 = false := by
    unfold Ch.inName
    rw [dec_ascii hc]
    simp only [hb]
    simp
  rw [this]
  simp [bsz]
theorem cut_run : ∀ f p F, p ≤ q.length → q.length < p + f → Ch.badFrom (bs q) f p = Ch.bad (bs q) → Ch.bad (bs q) < p + F → Ch.badFrom (bs (cutAt q)) F p = Ch.bad (bs q) := by
  have hle := Ch.badFrom_le (bs q) ((bs q).size + 1) 0 (Nat.zero_le _)
  have hle' : Ch.bad (bs q) ≤ q.length := by rw [bsz] at hle; unfold Ch.bad; rw [bsz]; exact hle
  have hlen : (cutAt q).length = Ch.bad (bs q) := by unfold cutAt; rw [List.length_take]; exact Nat.min_eq_left hle'
  have hj := jn (cutAt q) (q.drop (Ch.bad (bs q)))
  have hq : cutAt q ++ q.drop (Ch.bad (bs q)) = q := List.take_append_drop _ _
  rw [hq] at hj
  intro f
  induction f with
  | zero => intro p F h1 h2; omega
  | succ f ih =>
    intro p F h1 h2 hb hF
    have hge := Ch.badFrom_ge (bs q) (f + 1) p (by rw [bsz]; exact h1)
    rw [hb] at hge
    by_cases hp : p < q.length
    · have hp' : p < (bs q).size := by rw [bsz]; exact hp
      have hw := Ch.decode_width (bs q) p hp'
      rw [Ch.badFrom.eq_2, if_pos hp'] at hb
      obtain ⟨F, rfl⟩ : ∃ k, F = k + 1 := ⟨F - 1, by omega⟩
      split at hb
      · next hok =>
        have hge2 := Ch.badFrom_ge (bs q) f (p + (Utf8.decode (bs q) p).2) hw.1
        rw [hb] at hge2
        have hd : Utf8.decode (bs (cutAt q)) p = Utf8.decode (bs q) p := Ch.decode_prefix hp' hok (fun k hk => hj.2.1 (p + k) (by rw [bsz, hlen]; omega))
        rw [Ch.badFrom.eq_2, if_pos (by rw [bsz, hlen]; omega), Ch.okSame hd, if_pos hok, hd]
        exact ih _ _ (by rw [bsz] at hw; omega) (by omega) hb (by omega)
      · rw [Ch.badFrom.eq_2, if_neg (by rw [bsz, hlen]; omega), bsz, hlen]
    · obtain ⟨F, rfl⟩ : ∃ k, F = k + 1 := ⟨F - 1, by omega⟩
      rw [Ch.badFrom.eq_2, if_neg (by rw [bsz, hlen]; omega), bsz, hlen]
def cutT (q : L) : L := q.drop (Ch.bad (bs q))
theorem cut_app (q : L) : cutAt q ++ cutT q = q := List.take_append_drop _ _
theorem badq_le (q : L) : Ch.bad (bs q) ≤ q.length := by have := Ch.badFrom_le (bs q) ((bs q).size + 1) 0 (Nat.zero_le _); unfold Ch.bad; rw [bsz] at this ⊢; exact this
theorem cut_len (q : L) : (cutAt q).length = Ch.bad (bs q) := by unfold cutAt; rw [List.length_take]; exact Nat.min_eq_left (badq_le q)
theorem cut_good (q : L) : Gd (cutAt q) := by
  unfold Gd
  rw [cut_len]
  exact cut_run ((bs q).size + 1) 0 _ (Nat.zero_le _) (by rw [bsz]; omega) rfl (by rw [bsz, cut_len]; omega)
theorem bad_stop (s : ByteArray) : ∀ f p, p ≤ s.size → s.size < p + f → Ch.badFrom s f p = s.size ∨ (Ch.badFrom s f p < s.size ∧ Ch.okAt s (Ch.badFrom s f p) = false) := by
  intro f
  induction f with
  | zero => intro p h1 h2; omega
  | succ f ih =>
    intro p h1 h2
    rw [Ch.badFrom.eq_2]
    split
    · next hp =>
      have hw := Ch.decode_width s p hp
      split
      · exact ih _ hw.1 (by omega)
      · next hok => exact Or.inr ⟨hp, by simpa using hok⟩
    · exact Or.inl rfl
theorem cut_stop (q : L) : cutT q = [] ∨ Ch.okAt (bs (cutT q)) 0 = false := by
  have h := bad_stop (bs q) ((bs q).size + 1) 0 (Nat.zero_le _) (by omega)
  change Ch.bad (bs q) = _ ∨ (Ch.bad (bs q) < _ ∧ Ch.okAt (bs q) (Ch.bad (bs q)) = false) at h
  rw [bsz] at h
  rcases h with h | ⟨h1, h2⟩
  · exact Or.inl (by unfold cutT; rw [h]; simp)
  · right
    have hj := jn (cutAt q) (cutT q)
    rw [cut_app] at hj
    have hd := Ch.join_second hj (k := 0) (by rw [bsz]; unfold cutT; rw [List.length_drop]; omega)
    rw [bsz, cut_len, Nat.add_zero] at hd
    rw [← Ch.okSame hd]; exact h2
theorem okw_eq (h : l <:+ q) (hl : l ≠ []) : okw q l = if Ch.okAt (bs l) 0 = true then wd l else 0 := by
  obtain ⟨a, rfl⟩ := h
  have h0 : 0 < l.length := List.length_pos_iff.2 hl
  have hd := Ch.join_second (jn a l) (k := 0) (by rw [bsz]; exact h0)
  rw [bsz, Nat.add_zero] at hd
  unfold okw
  rw [List.length_append, Nat.add_sub_cancel, Ch.at2_pos _ _ (by rw [bsz, List.length_append]; omega), Ch.okSame hd, hd]
  split
  · rfl
  · rfl
end Go.Proofs.YtigpjemceodjcaaGreatDoor

set_option linter.unusedSimpArgs false
set_option linter.unusedVariables false
namespace Go.Proofs.YtigpjemceodjcaaGreatDoor
open Go.RowKit Go.Maps Go.Lib
variable {w w' w1 w2 W0 W1 W2 W3 W4 WO wr W W5 : World} {A A' F G : Nat → Prop} {X lo : Nat} {q l l' : L} {s s' : RS} {v v' vp : Value}
structure XR (X : Nat) (q : L) (w : World) (s : RS) : Prop where
  blk : w.heap[X]? = some (.cells #[.string (bs q), .int .i64 ((q.length - s.l.length : Nat) : Int), .int .i64 s.nest, .int .i64 s.err, .int .i64 s.at_] 47 (0, 0))
  suf : s.l <:+ q
  q5 : q.length ≤ 500
theorem XR.lt (h : XR X q w s) : X < w.heap.size := blk_lt h.blk
theorem XR.fr (h : XR X q w s) (f : Fr F w w') (hX : ¬ F X) : XR X q w' s := ⟨(f.block X h.lt hX).trans h.blk, h.suf, h.q5⟩
theorem XR.below (h : XR X q w s) (b : Below w.heap.size w w') : XR X q w' s := ⟨(b.block X h.lt).trans h.blk, h.suf, h.q5⟩
theorem XR.le (h : XR X q w s) : s.l.length ≤ q.length := h.suf.length_le
theorem XR.cells (h : XR X q w s) : w.cell? ⟨X, 0, none⟩ = some (.string (bs q)) ∧ w.cell? ⟨X, 1, none⟩ = some (.int .i64 ((q.length - s.l.length : Nat) : Int)) ∧ w.cell? ⟨X, 2, none⟩ = some (.int .i64 s.nest) ∧ w.cell? ⟨X, 3, none⟩ = some (.int .i64 s.err) ∧ w.cell? ⟨X, 4, none⟩ = some (.int .i64 s.at_) :=
  ⟨cell_of h.blk rfl, cell_of h.blk rfl, cell_of h.blk rfl, cell_of h.blk rfl, cell_of h.blk rfl⟩
theorem XR.setL (h : XR X q w s) (hl : l <:+ q) : XR X q (w.setCell ⟨X, 1, none⟩ (.int .i64 ((q.length - l.length : Nat) : Int))) { s with l := l } := ⟨set_of h.blk _, hl, h.q5⟩
theorem XR.setN (h : XR X q w s) (m : Int) : XR X q (w.setCell ⟨X, 2, none⟩ (.int .i64 m)) { s with nest := m } := ⟨set_of h.blk _, h.suf, h.q5⟩
theorem fr_set (w : World) (X i : Nat) (u : Value) : Fr (fun k => k = X) w (w.setCell ⟨X, i, none⟩ u) := (Fr.refl (fun k => k = X) w).set ⟨X, i, none⟩ u (fun _ => rfl)
abbrev XE (X : Nat) (q : L) (w : World) (s : RS) (e : Ending) (w' : World) : Prop := e = .returned (.tuple #[]) ∧ XR X q w' s ∧ Fr (fun k => k = X) w w'
set_option maxHeartbeats 2000000 in
theorem failR_ok (h : XR X q w s) (e : Nat) : Calls Tryz.prog 29 #[ptr X, .int .i64 e, .int .i64 ((q.length - s.l.length : Nat) : Int)] w (XE X q w (s.fail q e)) := by
  obtain ⟨c0, c1, c2, c3, c4⟩ := h.cells
  unfold RS.fail
  by_cases he : s.err = 0
  · rw [if_pos he]
    rw [he] at c3
    have c3 : w.cell? ⟨X, 3, none⟩ = some (.int .i64 0) := c3
    have f3 := free_of (i := 3) h.blk
    have b1 : (w.setCell ⟨X, 3, none⟩ (.int .i64 e)).heap[X]? = _ := set_of h.blk _
    have d4 := cell_of (i := 4) b1 rfl
    have f4 := free_of (i := 4) b1
    have HE : Hid (XR X q ((w.setCell ⟨X, 3, none⟩ (.int .i64 e)).setCell ⟨X, 4, none⟩ (.int .i64 ((q.length - s.l.length : Nat) : Int))) { s with err := e, at_ := q.length - s.l.length } ∧ Fr (fun k => k = X) w ((w.setCell ⟨X, 3, none⟩ (.int .i64 e)).setCell ⟨X, 4, none⟩ (.int .i64 ((q.length - s.l.length : Nat) : Int)))) := ⟨⟨set_of b1 _, h.suf, h.q5⟩, (fr_set _ _ _ _).same (fr_set _ _ _ _)⟩
    clear h b1 he c1 c2 c4 c0
    go_enter Tryz.func29, Tryz.ntmps29
    go_wp2
    go_end0
    exact ⟨rfl, HE.out.1, HE.out.2⟩
  · rw [if_neg he]
    have hb : ((s.err : Int) == 0) = false := by simp; omega
    have hb2 : (s.err == 0) = false := by simpa using he
    have H := hide h
    clear h he c0 c1 c2 c4
    go_enter Tryz.func29, Tryz.ntmps29
    go_wp2
    go_end0
    exact ⟨rfl, H.out, Fr.refl _ _⟩
theorem blankR_any (c : UInt8) (w : World) : Calls Tryz.prog 27 #[.int .u8 (c.toNat : Int)] w fun e w' => e = .returned (.bool ([9, 10, 13, 32].contains c)) ∧ w' = w := by
  have h1 : ([9, 10, 13, 32].contains c) = ((c.toNat : Int) == 32 || (c.toNat : Int) == 9 || (c.toNat : Int) == 10 || (c.toNat : Int) == 13) := by
    have e : ∀ k : UInt8, ((c.toNat : Int) == (k.toNat : Int)) = (c == k) := fun k => by
      rw [Bool.eq_iff_iff, beq_iff_eq, beq_iff_eq]
      constructor
      · intro h; exact UInt8.toNat_inj.1 (by omega)
      · intro h; rw [h]
    have e1 : ((c.toNat : Int) == 32) = (c == 32) := e 32
    have e2 : ((c.toNat : Int) == 9) = (c == 9) := e 9
    have e3 : ((c.toNat : Int) == 10) = (c == 10) := e 10
    have e4 : ((c.toNat : Int) == 13) = (c == 13) := e 13
    rw [e1, e2, e3, e4]
    simp only [List.contains_cons, List.contains_nil, Bool.or_false]
    cases (c == 9) <;> cases (c == 10) <;> cases (c == 13) <;> cases (c == 32) <;> rfl
  rw [h1]
  clear h1
  generalize (c.toNat : Int) = k
  go_enter Tryz.func27, Tryz.ntmps27
  go_wp2
  all_goals go_ret
  all_goals refine ⟨ret_bool ?_, rfl⟩
  all_goals try simp only [beq_iff_eq, beq_eq_false_iff_ne, ne_eq] at *
  all_goals rw [Bool.eq_iff_iff]
  all_goals try simp only [Bool.or_eq_true, beq_iff_eq]
  all_goals first | omega | (simp_all; done) | (simp_all; omega)
theorem index_run {b : UInt8} {r : L} (h : (b :: r) <:+ q) (w : World) : (Instr.index 9 (.string (bs q)) (.int .i64 ((q.length - (b :: r).length : Nat) : Int))).run Tryz.prog w = .ok (.int .u8 (b.toNat : Int)) w := by
  have hd := suf_drop h
  have hle := h.length_le
  simp only [List.length_cons] at hle hd ⊢
  generalize hk : q.length - (r.length + 1) = k at *
  have hkl : k < q.length := by omega
  have hq : q[k]? = some b := by have := congrArg (·[0]?) hd; simpa using this
  have hi : 0 ≤ (k : Int) ∧ (k : Int) < (bs q).size := ⟨by omega, by rw [bs_size]; omega⟩
  rw [run_index_string _ _ _ _ _ Tryz.underlying9, dif_pos hi]
  have hb : (bs q)[(k : Int).toNat]'(by rw [bs_size]; omega) = b := by
    have h2 : q[k] = b := by rw [List.getElem?_eq_getElem hkl] at hq; exact Option.some.inj hq
    simp [bs, ByteArray.getElem_eq_getElem_data, h2]
  rw [hb]
end Go.Proofs.YtigpjemceodjcaaGreatDoor

set_option linter.unusedSimpArgs false
set_option linter.unusedVariables false
namespace Go.Proofs.YtigpjemceodjcaaGreatDoor
open Go.RowKit Go.Maps Go.Lib
variable {w w' w1 w2 W0 W1 W2 W3 W4 WO wr W W5 : World} {A A' F G : Nat → Prop} {X lo : Nat} {q l l' : L} {s s' : RS} {v v' vp : Value}
def meaX (X : Nat) (q : L) (W : World) : Nat := q.length - (RowKit.intOf ((W.cell? ⟨X, 1, none⟩).getD (.int .i64 0))).toNat
theorem XR.mea (h : XR X q w s) : meaX X q w = s.l.length := by
  obtain ⟨_, c1, _⟩ := h.cells
  have := h.le
  unfold meaX
  rw [c1]
  simp [RowKit.intOf]
  omega
theorem skip_cons (b : UInt8) (r : L) : skip (b :: r) = if [9, 10, 13, 32].contains b = true then skip r else b :: r := by
  simp only [skip, Lib.trimLeftS, List.dropWhile_cons]
theorem skip_nil : skip [] = [] := rfl
theorem skip_skip (l : L) : skip (skip l) = skip l := by
  induction l with
  | nil => rfl
  | cons b r ih =>
    rw [skip_cons]
    split
    · exact ih
    · next h => rw [skip_cons, if_neg h]
set_option maxHeartbeats 4000000 in
set_option maxRecDepth 100000 in
theorem blanksR_ok (h : XR X q w s) : Calls Tryz.prog 15 #[ptr X] w (XE X q w s.bl) := by
  unfold RS.bl
  by_cases he : s.err = 0
  · rw [if_pos he]
    have HR : Hid (XR X q w { s with l := s.l } ∧ skip s.l = skip s.l) := ⟨h, rfl⟩
    have H0 := hide h
    obtain ⟨lz, nest, err, at_⟩ := s
    simp only at he
    subst he
    clear h
    go_enter Tryz.func15, Tryz.ntmps15
    go_wp2_with fail
    go_loopw [2, 3, 4, 5, 6, 7, 8, 9, 10, 11, 12, 13, 14, 15, 16, 17, 18, 19, 20, 21, 22, 23, 24, 25, 26, 27, 28, 29, 30, 31, 32, 33, 34, 35, 36, 37] (fun _ _ _ _ _ _ _ _ _ _ _ _ _ _ _ _ _ _ _ _ _ _ _ _ _ _ _ _ _ _ _ _ _ _ _ _ wr => ∃ l', XR X q wr ⟨l', nest, 0, at_⟩ ∧ skip l' = skip lz ∧ Fr (fun k => k = X) w wr) (fun _ _ _ _ _ _ _ _ _ _ _ _ _ _ _ _ _ _ _ _ _ _ _ _ _ _ _ _ _ _ _ _ _ _ _ _ wr => meaX X q wr)
    case atStart => exact ⟨lz, H0.out, rfl, Fr.refl _ _⟩
    case round =>
      rename World => WO
      obtain ⟨l', hx, hs, hfr⟩ := hrel
      obtain ⟨c0, c1, c2, c3, c4⟩ := hx.cells
      have hmea := hx.mea
      have HX := hide hx
      have HS := hide hs
      have HF := hide hfr
      have hz := bs_size q
      have hle := hx.le
      cases l' with
      | nil =>
        have e0 : decide ((q.length - ([] : L).length : Nat) < q.length) = false := by simp
        have e1 : decide ((((q.length - ([] : L).length : Nat)) : Int) < (q.length : Int)) = false := by simp
        simp only at c1 c3
        clear hx hs hfr hmea hle c2 c4
        generalize q.length - ([] : L).length = K at *
        go_wp2_with fail
        go_quiet (fail)
        go_wp2
        go_end0
        refine ⟨rfl, ?_, HF.out.drewN _⟩
        rw [← HS.out]
        exact HX.out.fr (F := fun _ => False) ((Fr.refl _ WO).drewN _) (fun x => x)
      | cons b r =>
        have e0 : decide (q.length - (b :: r).length < q.length) = true := by simp at hle ⊢; omega
        have e1 : decide (((q.length - (b :: r).length : Nat) : Int) < (q.length : Int)) = true := by simp at hle ⊢; omega
        have hidx := index_run (q := q) (b := b) (r := r) hx.suf
        have hbl := blankR_any b
        have HBL := hide hbl
        obtain ⟨bb, hbb⟩ : ∃ x, [9, 10, 13, 32].contains b = x := ⟨_, rfl⟩
        rw [hbb] at HBL
        simp only at c1 c3
        cases bb with
        | false =>
          have hsk : skip lz = b :: r := by rw [← hs, skip_cons, hbb]; simp
          clear hx hs hfr hmea hle c2 c4 hbl hbb
          generalize q.length - (b :: r).length = K at *
          go_wp2_with fail
          go_quiet (first | (go_at_call 27; refine Calls.quiet_of_same (HBL.out _)))
          go_wp2
          go_end0
          refine ⟨rfl, ?_, HF.out.drewN _⟩
          rw [hsk]
          exact HX.out.fr (F := fun _ => False) ((Fr.refl _ WO).drewN _) (fun x => x)
        | true =>
          have hsr : r <:+ q := (List.suffix_cons b r).trans hx.suf
          have hlr : r.length + 1 ≤ q.length := by simpa using hle
          have hnx : (q.length - (b :: r).length) + 1 = q.length - r.length := by simp; omega
          have hwr : IntKind.i64.wrap (((q.length - (b :: r).length : Nat) : Int) + 1) = ((q.length - r.length : Nat) : Int) := by rw [← hnx]; have := hx.q5; rw [IntKind.wrap_i64]; simp; omega
          have f1 := free_of (i := 1) hx.blk
          have HN : Hid (∀ m, XR X q ((WO.drewN m).setCell ⟨X, 1, none⟩ (.int .i64 ((q.length - r.length : Nat) : Int))) ⟨r, nest, 0, at_⟩ ∧ Fr (fun k => k = X) w ((WO.drewN m).setCell ⟨X, 1, none⟩ (.int .i64 ((q.length - r.length : Nat) : Int)))) := fun m => by
            have hx' : XR X q (WO.drewN m) ⟨b :: r, nest, 0, at_⟩ := hx.fr (F := fun _ => False) ((Fr.refl _ WO).drewN m) (fun x => x)
            exact ⟨hx'.setL hsr, (hfr.drewN m).same (fr_set _ _ _ _)⟩
          have hsk : skip r = skip lz := by rw [← hs, skip_cons, hbb]; simp
          have hmr : (b :: r).length = r.length + 1 := rfl
          clear hx hs hfr hle c2 c4 hbl hbb hnx hsr
          generalize q.length - (b :: r).length = K at *
          go_wp2_with fail
          go_quiet (first | (go_at_call 27; refine Calls.quiet_of_same (HBL.out _)))
          go_wp2
          obtain ⟨n1, n2⟩ := HN.out nq
          exact ⟨⟨r, n1, hsk, n2⟩, by rw [n1.mea, hmea]; simp⟩
  · rw [if_neg he]
    have hb : ((s.err : Int) == 0) = false := by simp; omega
    have hb2 : (s.err == 0) = false := by simpa using he
    have H0 := hide h
    clear h he
    go_enter Tryz.func15, Tryz.ntmps15
    go_wp2_with fail
    go_loopw [2, 3, 4, 5, 6, 7, 8, 9, 10, 11, 12, 13, 14, 15, 16, 17, 18, 19, 20, 21, 22, 23, 24, 25, 26, 27, 28, 29, 30, 31, 32, 33, 34, 35, 36, 37] (fun _ _ _ _ _ _ _ _ _ _ _ _ _ _ _ _ _ _ _ _ _ _ _ _ _ _ _ _ _ _ _ _ _ _ _ _ wr => wr = w) (fun _ _ _ _ _ _ _ _ _ _ _ _ _ _ _ _ _ _ _ _ _ _ _ _ _ _ _ _ _ _ _ _ _ _ _ _ _ => 0)
    case atStart => rfl
    case round =>
      rename World => WO
      subst hrel
      obtain ⟨c0, c1, c2, c3, c4⟩ := H0.out.cells
      go_wp2_with fail
      go_quiet (fail)
      go_wp2
      go_end0
      exact ⟨rfl, H0.out.fr (F := fun _ => False) ((Fr.refl _ _).drewN _) (fun x => x), (Fr.refl _ _).drewN _⟩
end Go.Proofs.YtigpjemceodjcaaGreatDoor

set_option linter.unusedSimpArgs false
set_option linter.unusedVariables false
namespace Go.Proofs.YtigpjemceodjcaaGreatDoor
open Go.RowKit Go.Maps Go.Lib
variable {w w' w1 w2 W0 W1 W2 W3 W4 WO wr W W5 : World} {A A' F G : Nat → Prop} {X lo : Nat} {q l l' : L} {s s' : RS} {v v' vp : Value}
theorem XR.drewN (h : XR X q w s) (n : Nat) : XR X q (w.drewN n) s := h.fr (F := fun _ => False) ((Fr.refl _ w).drewN n) (fun x => x)
theorem at2_nonneg (S : ByteArray) (i : Nat) : 0 ≤ (Ch.at2 S i).2 := by unfold Ch.at2; split <;> simp
set_option maxHeartbeats 4000000 in
set_option maxRecDepth 100000 in
theorem wrongR_ok (h : XR X q w s) : Calls Tryz.prog 16 #[ptr X] w (XE X q w (s.wrong q)) := by
  have HB := hide (blanksR_ok h)
  have hq5 := h.q5
  clear h
  unfold RS.wrong
  generalize s.bl = s1 at *
  have hz := bs_size q
  by_cases hl : s1.l = []
  · rw [if_neg (fun x => x.1 hl)]
    have e0 : decide ((q.length - s1.l.length : Nat) < q.length) = false := by rw [hl]; simp
    have e1 : decide (((q.length - s1.l.length : Nat) : Int) < (q.length : Int)) = false := by rw [hl]; simp
    have HC : Hid (∀ W, XR X q W s1 → W.cell? ⟨X, 0, none⟩ = some (.string (bs q)) ∧ W.cell? ⟨X, 1, none⟩ = some (.int .i64 ((q.length - s1.l.length : Nat) : Int)) ∧ ∀ m, (Calls Tryz.prog 29 #[ptr X, .int .i64 3, .int .i64 ((q.length - s1.l.length : Nat) : Int)] (W.drewN m) (XE X q (W.drewN m) (s1.fail q 3)))) := fun W hW => ⟨hW.cells.1, hW.cells.2.1, fun m => failR_ok (hW.drewN m) 3⟩
    generalize q.length - s1.l.length = K at *
    clear hl
    go_enter Tryz.func16, Tryz.ntmps16
    go_wp2_with (first | (go_at_call 15; refine HB.out.mono ?_; rintro e w2 ⟨rfl, hx, fr⟩; obtain ⟨c0, c1, hf⟩ := HC.out _ hx; have HF := hide hf; clear hf))
    go_quiet (fail)
    go_wp2_with (first | (go_at_call 29; refine (HF.out _).mono ?_; rintro e w3 ⟨rfl, hx3, fr3⟩))
    go_end0
    exact ⟨rfl, hx3, (fr.drewN _).same fr3⟩
  · have hle : ∀ W, XR X q W s1 → q.length - s1.l.length ≤ q.length := fun W hW => Nat.sub_le _ _
    have HA : Hid (∀ W, Calls Tryz.prog 28 #[.string (bs q), .int .i64 ((q.length - s1.l.length : Nat) : Int)] W fun e w' => e = .returned (.tuple #[.int .i64 (Ch.at2 (bs q) (q.length - s1.l.length)).1, .int .i64 (Ch.at2 (bs q) (q.length - s1.l.length)).2]) ∧ w' = W) := fun W => At_any (bs q) (q.length - s1.l.length) W (by rw [hz]; omega) (by rw [hz]; omega)
    have hnn := at2_nonneg (bs q) (q.length - s1.l.length)
    obtain ⟨bz, hbz⟩ : ∃ b, ((Ch.at2 (bs q) (q.length - s1.l.length)).2 == 0) = b := ⟨_, rfl⟩
    have hno : (if s1.l ≠ [] ∧ okw q s1.l = 0 then 2 else 3) = (if bz = true then 2 else 3) := by
      have : (okw q s1.l = 0) ↔ bz = true := by
        rw [← hbz, beq_iff_eq]; unfold okw; omega
      simp only [ne_eq, hl, not_false_eq_true, true_and, this]
    rw [hno]
    have HC : Hid (∀ W, XR X q W s1 → (W.cell? ⟨X, 0, none⟩ = some (.string (bs q)) ∧ W.cell? ⟨X, 1, none⟩ = some (.int .i64 ((q.length - s1.l.length : Nat) : Int))) ∧ decide (q.length - s1.l.length < q.length) = true ∧ decide (((q.length - s1.l.length : Nat) : Int) < (q.length : Int)) = true ∧ ∀ n : Nat, (Calls Tryz.prog 29 #[ptr X, .int .i64 n, .int .i64 ((q.length - s1.l.length : Nat) : Int)] W (XE X q W (s1.fail q n)))) := fun W hW => by
      have h1 := hW.le
      have h2 : 0 < s1.l.length := List.length_pos_iff.2 hl
      exact ⟨⟨hW.cells.1, hW.cells.2.1⟩, by simp; omega, by simp; omega, fun n => failR_ok hW n⟩
    generalize q.length - s1.l.length = K at *
    generalize (Ch.at2 (bs q) K).1 = a1 at *
    generalize (Ch.at2 (bs q) K).2 = a2 at *
    clear hl hno hle hnn
    cases bz with
    | true =>
      simp only [if_true]
      go_enter Tryz.func16, Tryz.ntmps16
      go_wp2_with (first | (go_at_call 15; refine HB.out.mono ?_; rintro e w2 ⟨rfl, hx, fr⟩; obtain ⟨⟨c0, c1⟩, d1, d2, -⟩ := HC.out _ hx))
      go_quiet (fail)
      go_wp2_with fail
      obtain ⟨⟨g0, g1⟩, -, -, -⟩ := HC.out _ (hx.drewN nq)
      go_region_held3 (fun W => W.cell? ⟨X, 0, none⟩ = some (.string (bs q)) ∧ W.cell? ⟨X, 1, none⟩ = some (.int .i64 (K : Int)))
        (first | exact ⟨g0, g1⟩)
        (first | (go_at_call 28; refine (HA.out _).mono ?_; rintro e w3 ⟨rfl, hw3⟩; have hw4 := hw3.symm; clear hw3; subst hw4))
      all_goals
        have hx5 : XR X q (w2.drewN nq).drew s1 := (hx.drewN nq).drewN 1
        have hf := (HC.out _ hx5).2.2.2 2
        have HF : Hid (Calls Tryz.prog 29 #[ptr X, .int .i64 2, .int .i64 (K : Int)] (w2.drewN nq).drew (XE X q (w2.drewN nq).drew (s1.fail q 2))) := hf
        clear hf
        go_wp2_with (first | (go_at_call 29; refine HF.out.mono ?_; rintro e w6 ⟨rfl, hx6, fr6⟩))
        first | go_end0 | refine bodyPost_ret (results_none rfl _ _ _) rfl ?_
        exact ⟨rfl, hx6, ((fr.drewN nq).drewN 1).same fr6⟩
    | false =>
      simp only [Bool.false_eq_true, if_false]
      go_enter Tryz.func16, Tryz.ntmps16
      go_wp2_with (first | (go_at_call 15; refine HB.out.mono ?_; rintro e w2 ⟨rfl, hx, fr⟩; obtain ⟨⟨c0, c1⟩, d1, d2, -⟩ := HC.out _ hx))
      go_quiet (fail)
      go_wp2_with fail
      obtain ⟨⟨g0, g1⟩, -, -, -⟩ := HC.out _ (hx.drewN nq)
      go_region_held3 (fun W => W.cell? ⟨X, 0, none⟩ = some (.string (bs q)) ∧ W.cell? ⟨X, 1, none⟩ = some (.int .i64 (K : Int)))
        (first | exact ⟨g0, g1⟩)
        (first | (go_at_call 28; refine (HA.out _).mono ?_; rintro e w3 ⟨rfl, hw3⟩; have hw4 := hw3.symm; clear hw3; subst hw4))
      all_goals
        have hx5 : XR X q (w2.drewN nq).drew s1 := (hx.drewN nq).drewN 1
        have hf := (HC.out _ hx5).2.2.2 3
        have HF : Hid (Calls Tryz.prog 29 #[ptr X, .int .i64 3, .int .i64 (K : Int)] (w2.drewN nq).drew (XE X q (w2.drewN nq).drew (s1.fail q 3))) := hf
        clear hf
        go_wp2_with (first | (go_at_call 29; refine HF.out.mono ?_; rintro e w6 ⟨rfl, hx6, fr6⟩))
        first | go_end0 | refine bodyPost_ret (results_none rfl _ _ _) rfl ?_
        exact ⟨rfl, hx6, ((fr.drewN nq).drewN 1).same fr6⟩
end Go.Proofs.YtigpjemceodjcaaGreatDoor
