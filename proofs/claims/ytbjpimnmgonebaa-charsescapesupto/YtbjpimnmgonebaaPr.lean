import Derived.Test.YtbjpimnmgonebaaPq
namespace Go.Proofs.Ytbjpimnmgonebaa.Ch
open Go

theorem has_bz (s : ByteArray) (l : List UInt8) : ∀ i, has s i l = true → ∀ k (h : k < l.length), bz s (i + k) = ((l[k]).toNat : Int) := by
  induction l with
  | nil => intro i _ k h; simp at h
  | cons c l ih =>
    intro i hi k h
    simp only [has, Bool.and_eq_true, beq_iff_eq] at hi
    cases k with
    | zero => simpa using hi.1
    | succ k =>
      have := ih (i + 1) hi.2 k (by simpa using h)
      rw [show i + 1 + k = i + (k + 1) by omega] at this
      simpa using this

theorem has_ascii {s : ByteArray} {i : Nat} {l : List UInt8} (h : has s i l = true) (hl : ∀ c ∈ l, c.toNat < 128) : ∀ j, i ≤ j → j < i + l.length → 0 ≤ bz s j ∧ bz s j < 128 := by
  intro j h1 h2
  obtain ⟨k, rfl⟩ : ∃ k, j = i + k := ⟨j - i, by omega⟩
  have hk : k < l.length := by omega
  rw [has_bz s l i h k hk]
  have := hl l[k] (List.getElem_mem hk)
  omega

theorem has_size {s : ByteArray} {i : Nat} {l : List UInt8} (h : has s i l = true) (h0 : 0 < l.length) : i + l.length ≤ s.size := by
  have := has_bz s l i h (l.length - 1) (by omega)
  have h2 := (bz_get (s := s) (i := i + (l.length - 1)) (by omega)).1
  omega

theorem dig_ascii {b r : Int} (hb : b ≤ 16) (h : ¬ b ≤ dig 16 r) : 0 ≤ r ∧ r < 128 := by
  unfold dig at h
  split at h
  · omega
  · split at h
    · omega
    · split at h
      · omega
      · omega

theorem numFrom_spec (u : ByteArray) (b : Int) (hb : b ≤ 16) : ∀ f pos n, (numFrom u b f pos n).2 ≠ 0 →
    may (numFrom u b f pos n).1 = true ∧ (pos : Int) + 1 ≤ (numFrom u b f pos n).2 ∧ (may n = false → (pos : Int) + 2 ≤ (numFrom u b f pos n).2) ∧ (numFrom u b f pos n).2 ≤ u.size ∧ ∀ j : Nat, pos ≤ j → (j : Int) < (numFrom u b f pos n).2 → 0 ≤ bz u j ∧ bz u j < 128 := by
  intro f
  induction f with
  | zero => intro pos n h; exact absurd rfl h
  | succ f ih =>
    intro pos n
    rw [numFrom.eq_2]
    split
    · rename_i h59
      have hp : pos < u.size := (bz_get (s := u) (i := pos) (by omega)).1
      split
      · rename_i hm
        intro _
        refine ⟨hm, by simp, fun h => absurd (hm.symm.trans h) (by decide), (by simp; omega), ?_⟩
        intro j h1 h2
        simp only at h2
        have : j = pos := by omega
        subst this
        omega
      · intro h; exact absurd rfl h
    · split
      · intro h; exact absurd rfl h
      · rename_i hd
        intro h
        obtain ⟨h1, h2, h3, h4, h5⟩ := ih (pos + 1) _ h
        refine ⟨h1, by omega, fun _ => by omega, h4, ?_⟩
        intro j hj1 hj2
        by_cases e : j = pos
        · subst e; exact dig_ascii hb hd
        · exact h5 j (by omega) hj2

theorem numAt_spec {s : ByteArray} {p : Nat} {b : Int} (hb : b ≤ 16) (h : (numAt s p b).2 ≠ 0) :
    may (numAt s p b).1 = true ∧ 2 ≤ (numAt s p b).2 ∧ (p : Int) + (numAt s p b).2 ≤ s.size ∧ ∀ j : Nat, p ≤ j → (j : Int) < p + (numAt s p b).2 → 0 ≤ bz s j ∧ bz s j < 128 := by
  unfold numAt at *
  split at h
  · exact absurd rfl h
  · rename_i hz
    rw [if_neg hz]
    obtain ⟨h1, h2, h3, h4, h5⟩ := numFrom_spec s b hb _ _ _ hz
    have h6 := h3 (by decide)
    refine ⟨h1, by simp only; omega, by simp only; omega, ?_⟩
    intro j hj1 hj2
    simp only at hj2
    exact h5 j hj1 (by omega)

theorem refAt_spec {s : ByteArray} {i : Nat} (h : (refAt s i).2 ≠ 0) :
    may (refAt s i).1 = true ∧ 4 ≤ (refAt s i).2 ∧ (i : Int) + (refAt s i).2 ≤ s.size ∧ ∀ j : Nat, i ≤ j → (j : Int) < i + (refAt s i).2 → 0 ≤ bz s j ∧ bz s j < 128 := by
  have key : ∀ (l : List UInt8) (r : Int), 4 ≤ l.length → has s i l = true → (∀ c ∈ l, c.toNat < 128) → may r = true →
      may r = true ∧ 4 ≤ ((l.length : Nat) : Int) ∧ (i : Int) + ((l.length : Nat) : Int) ≤ s.size ∧ ∀ j : Nat, i ≤ j → (j : Int) < i + ((l.length : Nat) : Int) → 0 ≤ bz s j ∧ bz s j < 128 := by
    intro l r hl hh ha hm
    have hs := has_size hh (by omega)
    refine ⟨hm, by omega, by omega, ?_⟩
    intro j h1 h2
    exact has_ascii hh ha j h1 (by omega)
  have num : ∀ (k : Nat) (b : Int) (l : List UInt8), 2 ≤ k → b ≤ 16 → l.length = k → has s i l = true → (∀ c ∈ l, c.toNat < 128) → (numAt s (i + k) b).2 ≠ 0 →
      may (numAt s (i + k) b).1 = true ∧ 4 ≤ (k : Int) + (numAt s (i + k) b).2 ∧ (i : Int) + ((k : Int) + (numAt s (i + k) b).2) ≤ s.size ∧ ∀ j : Nat, i ≤ j → (j : Int) < i + ((k : Int) + (numAt s (i + k) b).2) → 0 ≤ bz s j ∧ bz s j < 128 := by
    intro k b l hk hb hl hh ha hn
    obtain ⟨h1, h2, h3, h4⟩ := numAt_spec hb hn
    refine ⟨h1, by omega, by omega, ?_⟩
    intro j hj1 hj2
    by_cases e : j < i + k
    · exact has_ascii hh ha j hj1 (by omega)
    · exact h4 j (by omega) (by omega)
  unfold refAt at *
  split at h
  · rename_i h1
    rw [if_pos h1]
    exact key [38, 108, 116, 59] 60 (by decide) h1 (by decide) (by decide)
  · rename_i n1
    rw [if_neg n1]
    split at h
    · rename_i h1
      rw [if_pos h1]
      exact key [38, 103, 116, 59] 62 (by decide) h1 (by decide) (by decide)
    · rename_i n2
      rw [if_neg n2]
      split at h
      · rename_i h1
        rw [if_pos h1]
        exact key [38, 97, 109, 112, 59] 38 (by decide) h1 (by decide) (by decide)
      · rename_i n3
        rw [if_neg n3]
        split at h
        · rename_i h1
          rw [if_pos h1]
          exact key [38, 113, 117, 111, 116, 59] 34 (by decide) h1 (by decide) (by decide)
        · rename_i n4
          rw [if_neg n4]
          split at h
          · rename_i h1
            rw [if_pos h1]
            exact key [38, 97, 112, 111, 115, 59] 39 (by decide) h1 (by decide) (by decide)
          · rename_i n5
            rw [if_neg n5]
            split at h
            · rename_i h1
              rw [if_pos h1]
              split at h
              · exact absurd rfl h
              · rename_i hz
                rw [if_neg hz]
                exact num 3 16 [38, 35, 120] (by decide) (by decide) rfl h1 (by decide) hz
            · rename_i n6
              rw [if_neg n6]
              split at h
              · rename_i h1
                rw [if_pos h1]
                split at h
                · exact absurd rfl h
                · rename_i hz
                  rw [if_neg hz]
                  exact num 2 10 [38, 35] (by decide) (by decide) rfl h1 (by decide) hz
              · exact absurd rfl h

theorem encode_le (r : Int) : (Lib.encodeRune r).length ≤ 4 := by
  have := Lib.encodeRuneZ_length r
  simp [Lib.encodeRune]; omega

theorem byte_back {s : ByteArray} {i : Nat} {x : Int} (h : x = bz s i) (h0 : 0 ≤ bz s i) : x.toNat.toUInt8 = s.get! i := by
  have := (bz_get h0).2
  have e : x.toNat = (s.get! i).toNat := by omega
  rw [e]
  simp

/-- The bytes from a place on. -/
def bytes (s : ByteArray) (i n : Nat) : List UInt8 := (s.data.toList.drop i).take n

theorem bytes_one {s : ByteArray} {i : Nat} (h : i < s.size) : bytes s i 1 = [s.get! i] := by
  simp [bytes, drop_cons s i h]
theorem bytes_two {s : ByteArray} {i : Nat} (h : i + 1 < s.size) : bytes s i 2 = [s.get! i, s.get! (i + 1)] := by
  rw [bytes, drop_cons s i (by omega), drop_cons s (i + 1) h]; simp
theorem bytes_three {s : ByteArray} {i : Nat} (h : i + 2 < s.size) : bytes s i 3 = [s.get! i, s.get! (i + 1), s.get! (i + 2)] := by
  rw [bytes, drop_cons s i (by omega), drop_cons s (i + 1) (by omega), drop_cons s (i + 1 + 1) h]; simp
theorem bytes_four {s : ByteArray} {i : Nat} (h : i + 3 < s.size) : bytes s i 4 = [s.get! i, s.get! (i + 1), s.get! (i + 2), s.get! (i + 3)] := by
  rw [bytes, drop_cons s i (by omega), drop_cons s (i + 1) (by omega), drop_cons s (i + 1 + 1) (by omega), drop_cons s (i + 1 + 1 + 1) h]; simp

/-- A character's bytes, written again. -/
theorem encode_decode {s : ByteArray} {i : Nat} (h : i < s.size) (ho : okAt s i = true) : Lib.encodeRune (Utf8.decode s i).1 = bytes s i (Utf8.decode s i).2 := by
  have h0 : 0 ≤ bz s i := by unfold bz; rw [if_pos h]; omega
  have hbd := bz_bd s i
  have nb : Utf8.decode s i ≠ (65533, 1) := fun e => by rw [okAt_bad e] at ho; cases ho
  by_cases a1 : bz s i < 128
  · rw [decode_one h0 a1, bytes_one h]
    simp only [Lib.encodeRune]
    rw [Lib.encodeRuneZ_one (by omega) (by omega)]
    simp only [List.map_cons, List.map_nil]
    rw [byte_back (x := ((bz s i).toNat : Int)) (by omega) h0]
  by_cases a2 : bz s i < 192
  · exact absurd (decode_none (Or.inl ⟨by omega, a2⟩)) nb
  by_cases a3 : bz s i < 224
  · by_cases c1 : cont s (i + 1)
    · have hd := decode_two (by omega) a3 c1
      unfold cont at c1
      have hi1 := (bz_get (s := s) (i := i + 1) (by omega)).1
      by_cases hz : 128 ≤ acc s i (bz s i - 192) 1
      · rw [if_pos hz] at hd
        rw [hd, bytes_two hi1]
        simp only [acc, Nat.zero_add] at hz ⊢
        simp only [Lib.encodeRune]
        rw [Lib.encodeRuneZ_two (by omega) (by omega)]
        simp only [List.map_cons, List.map_nil]
        rw [byte_back (s := s) (i := i) (by omega) (by omega), byte_back (s := s) (i := i + 1) (by omega) (by omega)]
      · rw [if_neg hz] at hd; exact absurd hd nb
    · exact absurd (decode_two_no (by omega) a3 c1) nb
  by_cases a4 : bz s i < 240
  · by_cases c1 : cont s (i + 1)
    · by_cases c2 : cont s (i + 2)
      · have hd := decode_three (by omega) a4 c1 c2
        unfold cont at c1 c2
        have hi1 := (bz_get (s := s) (i := i + 2) (by omega)).1
        by_cases hz : 2048 ≤ acc s i (bz s i - 224) 2 ∧ Utf8.valid (acc s i (bz s i - 224) 2) = true
        · rw [if_pos hz] at hd
          obtain ⟨hz, hv⟩ := hz
          simp only [Utf8.valid, Bool.or_eq_true, Bool.and_eq_true, decide_eq_true_eq] at hv
          rw [hd, bytes_three hi1]
          simp only [acc, Nat.zero_add, Nat.reduceAdd] at hz hv ⊢
          simp only [Lib.encodeRune]
          rw [Lib.encodeRuneZ_three (by omega)]
          simp only [List.map_cons, List.map_nil]
          rw [byte_back (s := s) (i := i) (by omega) (by omega), byte_back (s := s) (i := i + 1) (by omega) (by omega), byte_back (s := s) (i := i + 2) (by omega) (by omega)]
        · rw [if_neg hz] at hd; exact absurd hd nb
      · exact absurd (decode_three_no (by omega) a4 (Or.inr c2)) nb
    · exact absurd (decode_three_no (by omega) a4 (Or.inl c1)) nb
  by_cases a5 : bz s i < 248
  · by_cases c1 : cont s (i + 1)
    · by_cases c2 : cont s (i + 2)
      · by_cases c3 : cont s (i + 3)
        · have hd := decode_four (by omega) a5 c1 c2 c3
          unfold cont at c1 c2 c3
          have hi1 := (bz_get (s := s) (i := i + 3) (by omega)).1
          by_cases hz : 65536 ≤ acc s i (bz s i - 240) 3 ∧ Utf8.valid (acc s i (bz s i - 240) 3) = true
          · rw [if_pos hz] at hd
            obtain ⟨hz, hv⟩ := hz
            simp only [Utf8.valid, Bool.or_eq_true, Bool.and_eq_true, decide_eq_true_eq] at hv
            rw [hd, bytes_four hi1]
            simp only [acc, Nat.zero_add, Nat.reduceAdd] at hz hv ⊢
            simp only [Lib.encodeRune]
            rw [Lib.encodeRuneZ_four (by omega) (by omega)]
            simp only [List.map_cons, List.map_nil]
            rw [byte_back (s := s) (i := i) (by omega) (by omega), byte_back (s := s) (i := i + 1) (by omega) (by omega), byte_back (s := s) (i := i + 2) (by omega) (by omega), byte_back (s := s) (i := i + 3) (by omega) (by omega)]
          · rw [if_neg hz] at hd; exact absurd hd nb
        · exact absurd (decode_four_no (by omega) a5 (Or.inr (Or.inr c3))) nb
      · exact absurd (decode_four_no (by omega) a5 (Or.inr (Or.inl c2))) nb
    · exact absurd (decode_four_no (by omega) a5 (Or.inl c1)) nb
  · exact absurd (decode_none (Or.inr (by omega))) nb

theorem encode_width {s : ByteArray} {i : Nat} (h : i < s.size) (ho : okAt s i = true) : (Lib.encodeRune (Utf8.decode s i).1).length ≤ (Utf8.decode s i).2 := by
  rw [encode_decode h ho]
  simp [bytes]; omega

/-- C4's answer, from a place on: the text, the error, its place. -/
def unescFrom (s : ByteArray) : Nat → Nat → List UInt8 → List UInt8 × Int × Int
  | 0, _, _ => ([], 0, 0)
  | f + 1, pos, acc =>
    if pos < s.size then
      if okAt s pos = true then
        if bz s pos = 38 then
          (if (refAt s pos).2 = 0 then ([], 4, (pos : Int)) else unescFrom s f (pos + (refAt s pos).2.toNat) (acc ++ Lib.encodeRune (refAt s pos).1))
        else unescFrom s f (pos + (Utf8.decode s pos).2) (acc ++ Lib.encodeRune (Utf8.decode s pos).1)
      else ([], 2, (pos : Int))
    else (acc, 0, 0)
def unesc (s : ByteArray) : List UInt8 × Int × Int := unescFrom s (s.size + 1) 0 []

theorem unesc_end {s : ByteArray} {f pos : Nat} {acc : List UInt8} {X : List UInt8 × Int × Int} (hp : ¬ pos < s.size) (h : unescFrom s (f + 1) pos acc = X) : X = (acc, 0, 0) := by
  subst h; rw [unescFrom.eq_2, if_neg hp]
theorem unesc_char {s : ByteArray} {f pos : Nat} {acc : List UInt8} {X : List UInt8 × Int × Int} (hp : pos < s.size) (ho : okAt s pos = false) (h : unescFrom s (f + 1) pos acc = X) : X = ([], 2, (pos : Int)) := by
  subst h; rw [unescFrom.eq_2, if_pos hp, if_neg (by rw [ho]; decide)]
theorem unesc_on {s : ByteArray} {f pos : Nat} {acc : List UInt8} {X : List UInt8 × Int × Int} (hp : pos < s.size) (ho : okAt s pos = true) (h38 : ¬ bz s pos = 38) (h : unescFrom s (f + 1) pos acc = X) :
    unescFrom s f (pos + (Utf8.decode s pos).2) (acc ++ Lib.encodeRune (Utf8.decode s pos).1) = X := by
  subst h; rw [unescFrom.eq_2, if_pos hp, if_pos ho, if_neg h38]
theorem unesc_noref {s : ByteArray} {f pos : Nat} {acc : List UInt8} {X : List UInt8 × Int × Int} (hp : pos < s.size) (ho : okAt s pos = true) (h38 : bz s pos = 38) (hr : (refAt s pos).2 = 0) (h : unescFrom s (f + 1) pos acc = X) : X = ([], 4, (pos : Int)) := by
  subst h; rw [unescFrom.eq_2, if_pos hp, if_pos ho, if_pos h38, if_pos hr]
theorem unesc_ref {s : ByteArray} {f pos : Nat} {acc : List UInt8} {X : List UInt8 × Int × Int} (hp : pos < s.size) (ho : okAt s pos = true) (h38 : bz s pos = 38) (hr : ¬ (refAt s pos).2 = 0) (h : unescFrom s (f + 1) pos acc = X) :
    unescFrom s f (pos + (refAt s pos).2.toNat) (acc ++ Lib.encodeRune (refAt s pos).1) = X := by
  subst h; rw [unescFrom.eq_2, if_pos hp, if_pos ho, if_pos h38, if_neg hr]
end Go.Proofs.Ytbjpimnmgonebaa.Ch
