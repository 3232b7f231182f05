import Derived.Laws.RangeString
import Derived.Laws.RangeAny
namespace Go.Proofs.YtbjpimnmgonebaaDoor.Ch
open Go

/-- C1's characters. -/
def may (r : Int) : Bool := r == 9 || r == 10 || r == 13 || (decide (32 ≤ r) && decide (r ≤ 55295)) || (decide (57344 ≤ r) && decide (r ≤ 65533)) || (decide (65536 ≤ r) && decide (r ≤ 1114111))

theorem may_iff (r : Int) : may r = true ↔ r = 9 ∨ r = 10 ∨ r = 13 ∨ (32 ≤ r ∧ r ≤ 55295) ∨ (57344 ≤ r ∧ r ≤ 65533) ∨ (65536 ≤ r ∧ r ≤ 1114111) := by
  simp only [may, Bool.or_eq_true, Bool.and_eq_true, beq_iff_eq, decide_eq_true_eq]
  omega

theorem may_true {r : Int} (h : r = 9 ∨ r = 10 ∨ r = 13 ∨ (32 ≤ r ∧ r ≤ 55295) ∨ (57344 ≤ r ∧ r ≤ 65533) ∨ (65536 ≤ r ∧ r ≤ 1114111)) : may r = true := (may_iff r).2 h
theorem may_false {r : Int} (h : ¬ (r = 9 ∨ r = 10 ∨ r = 13 ∨ (32 ≤ r ∧ r ≤ 55295) ∨ (57344 ≤ r ∧ r ≤ 65533) ∨ (65536 ≤ r ∧ r ≤ 1114111))) : may r = false := by
  cases e : may r
  · rfl
  · exact absurd ((may_iff r).1 e) h

/-- A byte as a number; -1: there is none. -/
def bz (s : ByteArray) (i : Nat) : Int := if i < s.size then ((s.get! i).toNat : Int) else -1

theorem bz_bd (s : ByteArray) (i : Nat) : -1 ≤ bz s i ∧ bz s i ≤ 255 := by
  unfold bz
  have := (s.get! i).toNat_lt
  split <;> omega

/-- Does a character begin there? -/
def okAt (s : ByteArray) (i : Nat) : Bool := may (Utf8.decode s i).1 && ((Utf8.decode s i).1 != 65533 || (Utf8.decode s i).2 == 3)

/-- The number of a character that has been gathered over k bytes behind the first. -/
def acc (s : ByteArray) (i : Nat) (r0 : Int) : Nat → Int
  | 0 => r0
  | k + 1 => 64 * acc s i r0 k + bz s (i + (k + 1)) - 128

def cont (s : ByteArray) (i : Nat) : Prop := 128 ≤ bz s i ∧ bz s i < 192

theorem cont_iff (s : ByteArray) (i k : Nat) : ((decide (i + k < s.size) && (s.get! (i + k)).toNat / 64 == 2) = true) ↔ cont s (i + k) := by
  unfold cont bz
  by_cases h : i + k < s.size
  · simp [h]; omega
  · simp [h]

theorem bz_get {s : ByteArray} {i : Nat} (h : 0 ≤ bz s i) : i < s.size ∧ ((s.get! i).toNat : Int) = bz s i := by
  unfold bz at *
  split at h
  · exact ⟨‹_›, by simp [*]⟩
  · omega

theorem decode_one {s : ByteArray} {i : Nat} (h0 : 0 ≤ bz s i) (h1 : bz s i < 128) : Utf8.decode s i = ((bz s i).toNat, 1) := by
  obtain ⟨hi, hb⟩ := bz_get h0
  have e : (s.get! i).toNat < 128 := by omega
  simp only [Utf8.decode, Nat.add_zero, e, if_true]
  congr 1
  omega

theorem decode_none {s : ByteArray} {i : Nat} (h : (128 ≤ bz s i ∧ bz s i < 192) ∨ 248 ≤ bz s i) : Utf8.decode s i = (65533, 1) := by
  obtain ⟨hi, hb⟩ := bz_get (s := s) (i := i) (by omega)
  have h3 := (s.get! i).toNat_lt
  have e1 : ¬ (s.get! i).toNat < 128 := by omega
  have e2 : ((s.get! i).toNat / 32 == 6) = false := by simp; omega
  have e3 : ((s.get! i).toNat / 16 == 14) = false := by simp; omega
  have e4 : ((s.get! i).toNat / 8 == 30) = false := by simp; omega
  simp [Utf8.decode, e1, e2, e3, e4, Utf8.runeError]

theorem cont_false {s : ByteArray} {i k : Nat} (h : ¬ cont s (i + k)) : (decide (i + k < s.size) && (s.get! (i + k)).toNat / 64 == 2) = false := by
  rw [Bool.eq_false_iff]; intro e; exact h ((cont_iff s i k).1 e)
theorem cont_true {s : ByteArray} {i k : Nat} (h : cont s (i + k)) : (decide (i + k < s.size) && (s.get! (i + k)).toNat / 64 == 2) = true := (cont_iff s i k).2 h

theorem decode_two {s : ByteArray} {i : Nat} (h0 : 192 ≤ bz s i) (h1 : bz s i < 224) (c1 : cont s (i + 1)) :
    Utf8.decode s i = if 128 ≤ acc s i (bz s i - 192) 1 then ((acc s i (bz s i - 192) 1).toNat, 2) else (65533, 1) := by
  obtain ⟨hi, hb⟩ := bz_get (s := s) (i := i) (by omega)
  obtain ⟨hi1, hb1⟩ := bz_get (s := s) (i := i + 1) (by unfold cont at c1; omega)
  have k1 := cont_true c1
  have e1 : ¬ (s.get! i).toNat < 128 := by omega
  have e2 : ((s.get! i).toNat / 32 == 6) = true := by simp; omega
  unfold cont at c1
  simp only [Utf8.decode, Nat.add_zero, e1, e2, k1, if_false, if_true, Bool.and_self, Utf8.runeError, acc]
  simp only [Nat.zero_add]
  have hc : (((s.get! i).toNat % 32 * 64 + (s.get! (i + 1)).toNat % 64 : Nat) : Int) = 64 * (bz s i - 192) + bz s (i + 1) - 128 := by omega
  by_cases h : 128 ≤ (s.get! i).toNat % 32 * 64 + (s.get! (i + 1)).toNat % 64
  · rw [if_pos (by simpa using h), if_pos (by omega)]
    congr 1; omega
  · rw [if_neg (by simpa using h), if_neg (by omega)]

theorem decode_two_no {s : ByteArray} {i : Nat} (h0 : 192 ≤ bz s i) (h1 : bz s i < 224) (c1 : ¬ cont s (i + 1)) : Utf8.decode s i = (65533, 1) := by
  obtain ⟨hi, hb⟩ := bz_get (s := s) (i := i) (by omega)
  have k1 := cont_false c1
  have e1 : ¬ (s.get! i).toNat < 128 := by omega
  have e3 : ((s.get! i).toNat / 16 == 14) = false := by simp; omega
  have e4 : ((s.get! i).toNat / 8 == 30) = false := by simp; omega
  simp only [Utf8.decode, Nat.add_zero, e1, e3, e4, k1, if_false, Bool.and_false, Bool.false_and, Utf8.runeError, Bool.false_eq_true]

set_option maxRecDepth 100000 in
theorem decode_three {s : ByteArray} {i : Nat} (h0 : 224 ≤ bz s i) (h1 : bz s i < 240) (c1 : cont s (i + 1)) (c2 : cont s (i + 2)) :
    Utf8.decode s i = if 2048 ≤ acc s i (bz s i - 224) 2 ∧ Utf8.valid (acc s i (bz s i - 224) 2) = true then ((acc s i (bz s i - 224) 2).toNat, 3) else (65533, 1) := by
  obtain ⟨hi, hb⟩ := bz_get (s := s) (i := i) (by omega)
  obtain ⟨hi1, hb1⟩ := bz_get (s := s) (i := i + 1) (by unfold cont at c1; omega)
  obtain ⟨hi2, hb2⟩ := bz_get (s := s) (i := i + 2) (by unfold cont at c2; omega)
  have k1 := cont_true c1
  have k2 := cont_true c2
  have e1 : ¬ (s.get! i).toNat < 128 := by omega
  have e2 : ((s.get! i).toNat / 32 == 6) = false := by simp; omega
  have e3 : ((s.get! i).toNat / 16 == 14) = true := by simp; omega
  unfold cont at c1 c2
  simp only [Utf8.decode, Nat.add_zero, e1, e2, e3, k1, k2, if_false, if_true, Bool.and_self, Bool.false_and, Utf8.runeError, acc, Bool.false_eq_true]
  simp only [Nat.zero_add, Nat.reduceAdd]
  have hc : (((s.get! i).toNat % 16 * 4096 + (s.get! (i + 1)).toNat % 64 * 64 + (s.get! (i + 2)).toNat % 64 : Nat) : Int) = 64 * (64 * (bz s i - 224) + bz s (i + 1) - 128) + bz s (i + 2) - 128 := by omega
  generalize 64 * (64 * (bz s i - 224) + bz s (i + 1) - 128) + bz s (i + 2) - 128 = z at hc ⊢
  generalize (s.get! i).toNat % 16 * 4096 + (s.get! (i + 1)).toNat % 64 * 64 + (s.get! (i + 2)).toNat % 64 = c at hc ⊢
  subst hc
  by_cases h : 2048 ≤ c ∧ Utf8.valid c = true
  · rw [if_pos (by rw [Bool.and_eq_true, decide_eq_true_eq]; exact h), if_pos ⟨by omega, h.2⟩]
    congr 1
  · rw [if_neg (by rw [Bool.and_eq_true, decide_eq_true_eq]; exact h), if_neg (fun q => h ⟨by omega, q.2⟩)]

theorem decode_three_no {s : ByteArray} {i : Nat} (h0 : 224 ≤ bz s i) (h1 : bz s i < 240) (c1 : ¬ cont s (i + 1) ∨ ¬ cont s (i + 2)) : Utf8.decode s i = (65533, 1) := by
  obtain ⟨hi, hb⟩ := bz_get (s := s) (i := i) (by omega)
  have e1 : ¬ (s.get! i).toNat < 128 := by omega
  have e2 : ((s.get! i).toNat / 32 == 6) = false := by simp; omega
  have e4 : ((s.get! i).toNat / 8 == 30) = false := by simp; omega
  rcases c1 with c1 | c1
  all_goals have k1 := cont_false c1
  all_goals simp only [Utf8.decode, Nat.add_zero, e1, e2, e4, k1, if_false, Bool.and_false, Bool.false_and, Utf8.runeError, Bool.false_eq_true]

set_option maxRecDepth 100000 in
theorem decode_four {s : ByteArray} {i : Nat} (h0 : 240 ≤ bz s i) (h1 : bz s i < 248) (c1 : cont s (i + 1)) (c2 : cont s (i + 2)) (c3 : cont s (i + 3)) :
    Utf8.decode s i = if 65536 ≤ acc s i (bz s i - 240) 3 ∧ Utf8.valid (acc s i (bz s i - 240) 3) = true then ((acc s i (bz s i - 240) 3).toNat, 4) else (65533, 1) := by
  obtain ⟨hi, hb⟩ := bz_get (s := s) (i := i) (by omega)
  obtain ⟨hi1, hb1⟩ := bz_get (s := s) (i := i + 1) (by unfold cont at c1; omega)
  obtain ⟨hi2, hb2⟩ := bz_get (s := s) (i := i + 2) (by unfold cont at c2; omega)
  obtain ⟨hi3, hb3⟩ := bz_get (s := s) (i := i + 3) (by unfold cont at c3; omega)
  have k1 := cont_true c1
  have k2 := cont_true c2
  have k3 := cont_true c3
  have e1 : ¬ (s.get! i).toNat < 128 := by omega
  have e2 : ((s.get! i).toNat / 32 == 6) = false := by simp; omega
  have e3 : ((s.get! i).toNat / 16 == 14) = false := by simp; omega
  have e4 : ((s.get! i).toNat / 8 == 30) = true := by simp; omega
  unfold cont at c1 c2 c3
  simp only [Utf8.decode, Nat.add_zero, e1, e2, e3, e4, k1, k2, k3, if_false, if_true, Bool.and_self, Bool.false_and, Utf8.runeError, acc, Bool.false_eq_true]
  simp only [Nat.zero_add, Nat.reduceAdd]
  have hc : (((s.get! i).toNat % 8 * 262144 + (s.get! (i + 1)).toNat % 64 * 4096 + (s.get! (i + 2)).toNat % 64 * 64 + (s.get! (i + 3)).toNat % 64 : Nat) : Int) = 64 * (64 * (64 * (bz s i - 240) + bz s (i + 1) - 128) + bz s (i + 2) - 128) + bz s (i + 3) - 128 := by omega
  generalize 64 * (64 * (64 * (bz s i - 240) + bz s (i + 1) - 128) + bz s (i + 2) - 128) + bz s (i + 3) - 128 = z at hc ⊢
  generalize (s.get! i).toNat % 8 * 262144 + (s.get! (i + 1)).toNat % 64 * 4096 + (s.get! (i + 2)).toNat % 64 * 64 + (s.get! (i + 3)).toNat % 64 = c at hc ⊢
  subst hc
  by_cases h : 65536 ≤ c ∧ Utf8.valid c = true
  · rw [if_pos (by rw [Bool.and_eq_true, decide_eq_true_eq]; exact h), if_pos ⟨by omega, h.2⟩]
    congr 1
  · rw [if_neg (by rw [Bool.and_eq_true, decide_eq_true_eq]; exact h), if_neg (fun q => h ⟨by omega, q.2⟩)]

theorem decode_four_no {s : ByteArray} {i : Nat} (h0 : 240 ≤ bz s i) (h1 : bz s i < 248) (c1 : ¬ cont s (i + 1) ∨ ¬ cont s (i + 2) ∨ ¬ cont s (i + 3)) : Utf8.decode s i = (65533, 1) := by
  obtain ⟨hi, hb⟩ := bz_get (s := s) (i := i) (by omega)
  have e1 : ¬ (s.get! i).toNat < 128 := by omega
  have e2 : ((s.get! i).toNat / 32 == 6) = false := by simp; omega
  have e3 : ((s.get! i).toNat / 16 == 14) = false := by simp; omega
  rcases c1 with c1 | c1 | c1
  all_goals have k1 := cont_false c1
  all_goals simp only [Utf8.decode, Nat.add_zero, e1, e2, e3, k1, if_false, Bool.and_false, Bool.false_and, Utf8.runeError, Bool.false_eq_true]

theorem okAt_bad {s : ByteArray} {i : Nat} (h : Utf8.decode s i = (65533, 1)) : okAt s i = false := by
  simp [okAt, h]

theorem acc_bd {s : ByteArray} {i : Nat} {r0 : Int} (k : Nat) (h0 : 0 ≤ r0) (h1 : r0 ≤ 255) (hk : k ≤ 3) (hc : ∀ j, 1 ≤ j → j ≤ k → cont s (i + j)) : 0 ≤ acc s i r0 k ∧ acc s i r0 k ≤ 67108863 := by
  have a1 : k = 0 ∨ k = 1 ∨ k = 2 ∨ k = 3 := by omega
  rcases a1 with rfl | rfl | rfl | rfl
  · simp [acc]; omega
  · have c1 := hc 1 (by omega) (by omega)
    unfold cont at c1
    simp only [acc, Nat.zero_add]; omega
  · have c1 := hc 1 (by omega) (by omega)
    have c2 := hc 2 (by omega) (by omega)
    unfold cont at c1 c2
    simp only [acc, Nat.zero_add, Nat.reduceAdd]; omega
  · have c1 := hc 1 (by omega) (by omega)
    have c2 := hc 2 (by omega) (by omega)
    have c3 := hc 3 (by omega) (by omega)
    unfold cont at c1 c2 c3
    simp only [acc, Nat.zero_add, Nat.reduceAdd]; omega

/-- How many bytes the first one tells, and what it counts. -/
def lead (a : Int) : Nat × Int :=
  if 0 ≤ a ∧ a < 128 then (1, a) else if 192 ≤ a ∧ a < 224 then (2, a - 192) else if 224 ≤ a ∧ a < 240 then (3, a - 224) else if 240 ≤ a ∧ a < 248 then (4, a - 240) else (0, 0)

def few (n : Nat) (r : Int) : Bool := (n == 2 && decide (r < 128)) || (n == 3 && decide (r < 2048)) || (n == 4 && decide (r < 65536))

/-- What the reference's At answers. -/
def at2 (s : ByteArray) (i : Nat) : Int × Int := if i < s.size ∧ okAt s i = true then (((Utf8.decode s i).1 : Int), ((Utf8.decode s i).2 : Int)) else (0, 0)

theorem at2_bad {s : ByteArray} {i : Nat} (h : Utf8.decode s i = (65533, 1)) : at2 s i = (0, 0) := by
  simp [at2, okAt_bad h]

theorem at2_short {s : ByteArray} {i k : Nat} (hk : 1 ≤ k) (hkn : k < (lead (bz s i)).1) (hc : ¬ cont s (i + k)) : at2 s i = (0, 0) := by
  apply at2_bad
  unfold lead at hkn
  split at hkn
  · simp at hkn; omega
  · split at hkn
    · simp at hkn
      have : k = 1 := by omega
      subst this
      exact decode_two_no (by omega) (by omega) hc
    · split at hkn
      · simp at hkn
        have : k = 1 ∨ k = 2 := by omega
        refine decode_three_no (by omega) (by omega) ?_
        rcases this with rfl | rfl
        · exact Or.inl hc
        · exact Or.inr hc
      · split at hkn
        · simp at hkn
          have : k = 1 ∨ k = 2 ∨ k = 3 := by omega
          refine decode_four_no (by omega) (by omega) ?_
          rcases this with rfl | rfl | rfl
          · exact Or.inl hc
          · exact Or.inr (Or.inl hc)
          · exact Or.inr (Or.inr hc)
        · simp at hkn

theorem valid_of_may {r : Int} (h : may r = true) : Utf8.valid r = true := by
  rw [may_iff] at h
  simp [Utf8.valid]; omega

theorem at2_full {s : ByteArray} {i : Nat} (hc : ∀ j, 1 ≤ j → j < (lead (bz s i)).1 → cont s (i + j)) :
    at2 s i = if (few (lead (bz s i)).1 (acc s i (lead (bz s i)).2 ((lead (bz s i)).1 - 1)) || !may (acc s i (lead (bz s i)).2 ((lead (bz s i)).1 - 1))) = true then (0, 0)
      else (acc s i (lead (bz s i)).2 ((lead (bz s i)).1 - 1), ((lead (bz s i)).1 : Int)) := by
  have hbd := bz_bd s i
  unfold lead at hc ⊢
  split at hc
  · rename_i h
    simp only [h, and_self, if_true, Nat.sub_self, acc] at hc ⊢
    have hd := decode_one h.1 h.2
    have hi := (bz_get h.1).1
    have ht : (((bz s i).toNat : Nat) : Int) = bz s i := by omega
    simp only [at2, okAt, hd, ht, hi, few]
    cases hm : may (bz s i)
    · simp
    · have : (bz s i != 65533) = true := by simp; omega
      have : ¬ ((bz s i).toNat = 65533) := by omega
      simp [this]
  · rename_i hn1
    split at hc
    · rename_i h
      simp only [hn1, h, and_self, if_true, if_false, Nat.reduceSub] at hc ⊢
      have c1 := hc 1 (by omega) (by omega)
      have hb := acc_bd (s := s) (i := i) (r0 := bz s i - 192) 1 (by omega) (by omega) (by omega) (fun j a b => hc j a (by omega))
      have hi := (bz_get (s := s) (i := i) (by omega)).1
      have hd := decode_two h.1 h.2 c1
      have hup : acc s i (bz s i - 192) 1 ≤ 2047 := by unfold cont at c1; simp only [acc, Nat.zero_add]; omega
      generalize acc s i (bz s i - 192) 1 = z at *
      by_cases hz : 128 ≤ z
      · rw [if_pos hz] at hd
        have ht : ((z.toNat : Nat) : Int) = z := by omega
        have hne : ¬ z.toNat = 65533 := by omega
        have hf : few 2 z = false := by simp [few]; omega
        simp only [at2, okAt, hd, ht, hi, hf]
        cases hm : may z
        · simp
        · simp [hne]
      · rw [if_neg hz] at hd
        have hf : few 2 z = true := by simp [few]; omega
        rw [at2_bad hd]; simp [hf]
    · rename_i hn2
      split at hc
      · rename_i h
        simp only [hn1, hn2, h, and_self, if_true, if_false, Nat.reduceSub] at hc ⊢
        have c1 := hc 1 (by omega) (by omega)
        have c2 := hc 2 (by omega) (by omega)
        have hb := acc_bd (s := s) (i := i) (r0 := bz s i - 224) 2 (by omega) (by omega) (by omega) (fun j a b => hc j a (by omega))
        have hi := (bz_get (s := s) (i := i) (by omega)).1
        have hd := decode_three h.1 h.2 c1 c2
        generalize acc s i (bz s i - 224) 2 = z at *
        by_cases hz : 2048 ≤ z
        · have hf : few 3 z = false := by simp [few]; omega
          cases hm : may z
          · simp only [hf, Bool.not_false, Bool.or_true, if_true]
            by_cases hv : Utf8.valid z = true
            · rw [if_pos ⟨hz, hv⟩] at hd
              have ht : ((z.toNat : Nat) : Int) = z := by omega
              simp [at2, okAt, hd, ht, hm]
            · rw [if_neg (fun q => hv q.2)] at hd
              exact at2_bad hd
          · rw [if_pos ⟨hz, valid_of_may hm⟩] at hd
            have ht : ((z.toNat : Nat) : Int) = z := by omega
            simp [at2, okAt, hd, ht, hm, hi, hf]
        · rw [if_neg (fun q => hz q.1)] at hd
          have hf : few 3 z = true := by simp [few]; omega
          rw [at2_bad hd]; simp [hf]
      · rename_i hn3
        split at hc
        · rename_i h
          simp only [hn1, hn2, hn3, h, and_self, if_true, if_false, Nat.reduceSub] at hc ⊢
          have c1 := hc 1 (by omega) (by omega)
          have c2 := hc 2 (by omega) (by omega)
          have c3 := hc 3 (by omega) (by omega)
          have hb := acc_bd (s := s) (i := i) (r0 := bz s i - 240) 3 (by omega) (by omega) (by omega) (fun j a b => hc j a (by omega))
          have hi := (bz_get (s := s) (i := i) (by omega)).1
          have hd := decode_four h.1 h.2 c1 c2 c3
          generalize acc s i (bz s i - 240) 3 = z at *
          by_cases hz : 65536 ≤ z
          · have hf : few 4 z = false := by simp [few]; omega
            cases hm : may z
            · simp only [hf, Bool.not_false, Bool.or_true, if_true]
              by_cases hv : Utf8.valid z = true
              · rw [if_pos ⟨hz, hv⟩] at hd
                have ht : ((z.toNat : Nat) : Int) = z := by omega
                simp [at2, okAt, hd, ht, hm]
              · rw [if_neg (fun q => hv q.2)] at hd
                exact at2_bad hd
            · rw [if_pos ⟨hz, valid_of_may hm⟩] at hd
              have ht : ((z.toNat : Nat) : Int) = z := by omega
              have hne : ¬ z.toNat = 65533 := by omega
              simp [at2, okAt, hd, ht, hm, hi, hf, hne]
          · rw [if_neg (fun q => hz q.1)] at hd
            have hf : few 4 z = true := by simp [few]; omega
            rw [at2_bad hd]; simp [hf]
        · rename_i hn4
          simp only [hn1, hn2, hn3, hn4, if_false, Nat.zero_sub, acc] at hc ⊢
          have hm : may 0 = false := by decide
          simp only [hm, Bool.not_false, Bool.or_true, if_true]
          by_cases hs : bz s i = -1
          · have : ¬ i < s.size := by
              intro hi
              unfold bz at hs
              rw [if_pos hi] at hs
              omega
            simp [at2, this]
          · exact at2_bad (decode_none (by omega))

end Go.Proofs.YtbjpimnmgonebaaDoor.Ch
