import Derived.Test.YtbjpimnmgonebabDoorPt
namespace Go.Proofs.YtbjpimnmgonebabDoor.Ch
open Go

/-- A character is told by its own bytes. -/
theorem decode_prefix {s t : ByteArray} {i j : Nat} (h : i < s.size) (ho : okAt s i = true) (hb : ∀ k, k < (Utf8.decode s i).2 → bz s (i + k) = bz t (j + k)) : Utf8.decode t j = Utf8.decode s i := by
  have h0 : 0 ≤ bz s i := by unfold bz; rw [if_pos h]; omega
  have hbd := bz_bd s i
  have nb : Utf8.decode s i ≠ (65533, 1) := fun e => by rw [okAt_bad e] at ho; cases ho
  have hw := decode_width s i h
  have b0 := hb 0 (by omega)
  simp only [Nat.add_zero] at b0
  by_cases a1 : bz s i < 128
  · rw [decode_one h0 a1, decode_one (by omega) (by omega), b0]
  by_cases a2 : bz s i < 192
  · exact absurd (decode_none (Or.inl ⟨by omega, a2⟩)) nb
  by_cases a3 : bz s i < 224
  · by_cases c1 : cont s (i + 1)
    · have hd := decode_two (by omega) a3 c1
      by_cases hz : 128 ≤ acc s i (bz s i - 192) 1
      · rw [if_pos hz] at hd
        rw [hd] at hb
        have b1 := hb 1 (by simp)
        have d1 : cont t (j + 1) := by unfold cont at *; rw [← b1]; exact c1
        rw [decode_two (by omega) a3 c1, decode_two (by omega) (by omega) d1]
        simp only [acc, Nat.zero_add, b0, b1]
      · rw [if_neg hz] at hd; exact absurd hd nb
    · exact absurd (decode_two_no (by omega) a3 c1) nb
  by_cases a4 : bz s i < 240
  · by_cases c1 : cont s (i + 1)
    · by_cases c2 : cont s (i + 2)
      · have hd := decode_three (by omega) a4 c1 c2
        by_cases hz : 2048 ≤ acc s i (bz s i - 224) 2 ∧ Utf8.valid (acc s i (bz s i - 224) 2) = true
        · rw [if_pos hz] at hd
          rw [hd] at hb
          have b1 := hb 1 (by simp)
          have b2 := hb 2 (by simp)
          have d1 : cont t (j + 1) := by unfold cont at *; rw [← b1]; exact c1
          have d2 : cont t (j + 2) := by unfold cont at *; rw [← b2]; exact c2
          rw [decode_three (by omega) a4 c1 c2, decode_three (by omega) (by omega) d1 d2]
          simp only [acc, Nat.zero_add, Nat.reduceAdd, b0, b1, b2]
        · rw [if_neg hz] at hd; exact absurd hd nb
      · exact absurd (decode_three_no (by omega) a4 (Or.inr c2)) nb
    · exact absurd (decode_three_no (by omega) a4 (Or.inl c1)) nb
  by_cases a5 : bz s i < 248
  · by_cases c1 : cont s (i + 1)
    · by_cases c2 : cont s (i + 2)
      · by_cases c3 : cont s (i + 3)
        · have hd := decode_four (by omega) a5 c1 c2 c3
          by_cases hz : 65536 ≤ acc s i (bz s i - 240) 3 ∧ Utf8.valid (acc s i (bz s i - 240) 3) = true
          · rw [if_pos hz] at hd
            rw [hd] at hb
            have b1 := hb 1 (by simp)
            have b2 := hb 2 (by simp)
            have b3 := hb 3 (by simp)
            have d1 : cont t (j + 1) := by unfold cont at *; rw [← b1]; exact c1
            have d2 : cont t (j + 2) := by unfold cont at *; rw [← b2]; exact c2
            have d3 : cont t (j + 3) := by unfold cont at *; rw [← b3]; exact c3
            rw [decode_four (by omega) a5 c1 c2 c3, decode_four (by omega) (by omega) d1 d2 d3]
            simp only [acc, Nat.zero_add, Nat.reduceAdd, b0, b1, b2, b3]
          · rw [if_neg hz] at hd; exact absurd hd nb
        · exact absurd (decode_four_no (by omega) a5 (Or.inr (Or.inr c3))) nb
      · exact absurd (decode_four_no (by omega) a5 (Or.inr (Or.inl c2))) nb
    · exact absurd (decode_four_no (by omega) a5 (Or.inl c1)) nb
  · exact absurd (decode_none (Or.inr (by omega))) nb

theorem okSame {s t : ByteArray} {i j : Nat} (h : Utf8.decode t j = Utf8.decode s i) : okAt t j = okAt s i := by
  unfold okAt; rw [h]

section
variable {a b ab : ByteArray}

/-- Two texts, one behind the other. -/
def joined (a b ab : ByteArray) : Prop := ab.size = a.size + b.size ∧ (∀ k, k < a.size → bz ab k = bz a k) ∧ ∀ k, bz ab (a.size + k) = bz b k

theorem join_ok (hj : joined a b ab) {p : Nat} (hp : p < a.size) (ho : okAt a p = true) : Utf8.decode ab p = Utf8.decode a p := by
  have hw := decode_width a p hp
  exact decode_prefix hp ho (fun k hk => (hj.2.1 (p + k) (by omega)).symm)

theorem join_second (hj : joined a b ab) {k : Nat} (hk : k < b.size) : Utf8.decode ab (a.size + k) = Utf8.decode b k :=
  decode_shift (s := b) (t := ab) (i := k) (j := a.size + k) hk (fun i => by rw [Nat.add_assoc, hj.2.2])

theorem badFrom_ge (s : ByteArray) : ∀ f p, p ≤ s.size → p ≤ badFrom s f p := by
  intro f
  induction f with
  | zero => intro p _; exact Nat.le_refl _
  | succ f ih =>
    intro p hp
    rw [badFrom.eq_2]
    by_cases h : p < s.size
    · have hw := decode_width s p h
      rw [if_pos h]
      split
      · have := ih (p + (Utf8.decode s p).2) hw.1; omega
      · omega
    · rw [if_neg h]; exact hp

theorem nameFrom_ge (s : ByteArray) : ∀ f p, p ≤ s.size → p ≤ nameFrom s f p := by
  intro f
  induction f with
  | zero => intro p _; exact Nat.le_refl _
  | succ f ih =>
    intro p hp
    rw [nameFrom.eq_2]
    by_cases h : p < s.size
    · have hw := decode_width s p h
      rw [if_pos h]
      split
      · have := ih (p + (Utf8.decode s p).2) hw.1; omega
      · omega
    · rw [if_neg h]; exact hp
theorem nameFrom_le (s : ByteArray) : ∀ f p, p ≤ s.size → nameFrom s f p ≤ s.size := by
  intro f
  induction f with
  | zero => intro p h; exact h
  | succ f ih =>
    intro p h
    rw [nameFrom.eq_2]
    by_cases hp : p < s.size
    · rw [if_pos hp]
      split
      · exact ih _ (decode_width s p hp).1
      · exact h
    · rw [if_neg hp]; exact Nat.le_refl _

theorem badFrom_fuel (s : ByteArray) : ∀ F F' p, p ≤ s.size → s.size < p + F → s.size < p + F' → badFrom s F p = badFrom s F' p := by
  intro F
  induction F with
  | zero => intro F' p h0 h h'; omega
  | succ F ih =>
    intro F' p h0 h h'
    obtain ⟨F', rfl⟩ : ∃ k, F' = k + 1 := ⟨F' - 1, by omega⟩
    rw [badFrom.eq_2, badFrom.eq_2]
    by_cases hp : p < s.size
    · have hw := decode_width s p hp
      rw [if_pos hp, if_pos hp]
      split
      · exact ih F' _ hw.1 (by omega) (by omega)
      · rfl
    · rw [if_neg hp, if_neg hp]

theorem bad_second (hj : joined a b ab) : ∀ F k, k ≤ b.size → badFrom ab F (a.size + k) = if F = 0 then a.size + k else a.size + badFrom b F k := by
  intro F
  induction F with
  | zero => intro k _; rfl
  | succ F ih =>
    intro k hk
    rw [if_neg (by omega), badFrom.eq_2, badFrom.eq_2]
    by_cases h : k < b.size
    · have hd := join_second hj h
      have hw := decode_width b k h
      rw [if_pos (by rw [hj.1]; omega), if_pos h, okSame hd, hd]
      split
      · rw [Nat.add_assoc, ih _ hw.1]
        split
        · rename_i e; subst e; rfl
        · rfl
      · rfl
    · rw [if_neg (by rw [hj.1]; omega), if_neg h, hj.1]

theorem bad_first (hj : joined a b ab) : ∀ f p F, p ≤ a.size → a.size < p + f → ab.size < p + F →
    badFrom a f p ≤ badFrom ab F p ∧ (badFrom a f p = a.size → badFrom ab F p = a.size + bad b) := by
  intro f
  induction f with
  | zero => intro p F h1 h2; omega
  | succ f ih =>
    intro p F h1 h2 h3
    have hsz := hj.1
    obtain ⟨F, rfl⟩ : ∃ k, F = k + 1 := ⟨F - 1, by omega⟩
    by_cases hp : p < a.size
    · have hw := decode_width a p hp
      cases hok : okAt a p
      · have e : badFrom a (f + 1) p = p := by rw [badFrom.eq_2, if_pos hp, if_neg (by rw [hok]; decide)]
        rw [e]
        exact ⟨badFrom_ge ab _ _ (by omega), fun h => by omega⟩
      · have hd := join_ok hj hp hok
        have e : badFrom a (f + 1) p = badFrom a f (p + (Utf8.decode a p).2) := by rw [badFrom.eq_2, if_pos hp, if_pos hok]
        have e2 : badFrom ab (F + 1) p = badFrom ab F (p + (Utf8.decode a p).2) := by
          rw [badFrom.eq_2, if_pos (by omega), if_pos (by rw [okSame hd]; exact hok), hd]
        rw [e, e2]
        exact ih _ _ hw.1 (by omega) (by omega)
    · obtain rfl : p = a.size := by omega
      have e : badFrom a (f + 1) a.size = a.size := by rw [badFrom.eq_2, if_neg hp]
      have e2 : badFrom ab (F + 1) a.size = a.size + badFrom b (F + 1) 0 := by
        have h := bad_second hj (F + 1) 0 (by omega)
        rw [if_neg (by omega)] at h
        exact h
      rw [e, e2]
      refine ⟨by omega, fun _ => ?_⟩
      rw [bad, badFrom_fuel b (F + 1) (b.size + 1) 0 (by omega) (by omega) (by omega)]

theorem inName_same {s t : ByteArray} {p : Nat} (h : Utf8.decode t p = Utf8.decode s p) : inName t p = inName s p := by
  unfold inName; rw [okSame h, h]

theorem name_first (hj : joined a b ab) : ∀ f p F, p ≤ a.size → a.size < p + f → ab.size < p + F →
    nameFrom a f p ≤ nameFrom ab F p ∧ (badFrom a f p = a.size → nameFrom a f p < a.size → nameFrom ab F p = nameFrom a f p) := by
  intro f
  induction f with
  | zero => intro p F h1 h2; omega
  | succ f ih =>
    intro p F h1 h2 h3
    have hsz := hj.1
    obtain ⟨F, rfl⟩ : ∃ k, F = k + 1 := ⟨F - 1, by omega⟩
    by_cases hp : p < a.size
    · have hw := decode_width a p hp
      cases hin : inName a p
      · have e : nameFrom a (f + 1) p = p := by rw [nameFrom.eq_2, if_pos hp, if_neg (by rw [hin]; decide)]
        rw [e]
        refine ⟨nameFrom_ge ab _ _ (by omega), fun hb _ => ?_⟩
        cases hok : okAt a p
        · rw [badFrom.eq_2, if_pos hp, if_neg (by rw [hok]; decide)] at hb; omega
        · have hd := join_ok hj hp hok
          rw [nameFrom.eq_2, if_pos (by omega), if_neg (by rw [inName_same hd, hin]; decide)]
      · have hok : okAt a p = true := by
          unfold inName at hin
          simp only [Bool.and_eq_true] at hin
          exact hin.1
        have hd := join_ok hj hp hok
        have e : nameFrom a (f + 1) p = nameFrom a f (p + (Utf8.decode a p).2) := by rw [nameFrom.eq_2, if_pos hp, if_pos hin]
        have e2 : nameFrom ab (F + 1) p = nameFrom ab F (p + (Utf8.decode a p).2) := by
          rw [nameFrom.eq_2, if_pos (by omega), if_pos (by rw [inName_same hd]; exact hin), hd]
        have e3 : badFrom a (f + 1) p = badFrom a f (p + (Utf8.decode a p).2) := by rw [badFrom.eq_2, if_pos hp, if_pos hok]
        rw [e, e2, e3]
        exact ih _ _ hw.1 (by omega) (by omega)
    · obtain rfl : p = a.size := by omega
      have e : nameFrom a (f + 1) a.size = a.size := by rw [nameFrom.eq_2, if_neg hp]
      rw [e]
      exact ⟨nameFrom_ge ab _ _ (by omega), fun _ h => by omega⟩
end

theorem joined_append (a b : ByteArray) : joined a b (a ++ b) := by
  have hs : (a ++ b).size = a.size + b.size := ByteArray.size_append
  have hl : (a ++ b) = txt (a.data.toList ++ b.data.toList) := by
    apply ByteArray.ext
    apply Array.toList_inj.1
    simp [txt]
  have hla : a.data.toList.length = a.size := by simp
  refine ⟨hs, ?_, ?_⟩
  · intro k hk
    rw [hl, bz_app_left _ _ _ (by rw [hla]; exact hk), txt_self]
  · intro k
    rw [hl]
    have := bz_app a.data.toList b.data.toList k
    rw [hla] at this
    rw [this, txt_self]

theorem esc_append (a b : ByteArray) (q : Bool) : esc (a ++ b) q = esc a q ++ esc b q := by
  have : (a ++ b).data.toList = a.data.toList ++ b.data.toList := by simp
  unfold esc
  rw [this, escL_append]
end Go.Proofs.YtbjpimnmgonebabDoor.Ch
