import Derived.Laws.RangeString
import Derived.Laws.RangeAny
import Derived.Lib.Strings
import Derived.Lib.IndexBytes
import Derived.Lib.RuneBytes
set_option linter.unusedVariables false
set_option linter.unusedSimpArgs false
namespace Go.Proofs.YtbbocgeapofloaiGreatDoor.Ch
open Go

/-- C1's characters. -/
def may (r : Int) : Bool := r == 9 || r == 10 || r == 13 || (decide (32 ≤ r) && decide (r ≤ 55295)) || (decide (57344 ≤ r) && decide (r ≤ 65533)) || (decide (65536 ≤ r) && decide (r ≤ 1114111))

theorem may_iff (r : Int) : may r = true ↔ r = 9 ∨ r = 10 ∨ r = 13 ∨ (32 ≤ r ∧ r ≤ 55295) ∨ (57344 ≤ r ∧ r ≤ 65533) ∨ (65536 ≤ r ∧ r ≤ 1114111) := by
  simp only [may, Bool.or_eq_true, Bool.and_eq_true, beq_iff_eq, decide_eq_true_eq]
  omega

theorem may_true {r : Int} (h : r = 9 ∨ r = 10 ∨ r = 13 ∨ (32 ≤ r ∧ r ≤ 55295) ∨ (57344 ≤ r ∧ r ≤ 65533) ∨ (65536 ≤ r ∧ r ≤ 1114111)) : may r = true := (may_iff r).2 h
theorem may_false {r : Int} (h : ¬ (r = 9 ∨ r = 10 ∨ r = 13 ∨ (32 ≤ r ∧ r ≤ 55295) ∨ (57344 ≤ r ∧ r ≤ 65533) ∨ (65536 ≤ r ∧ r ≤ 1114111))) : may r = false := by
  cases e : may r
  · rfl
  · exact absurd ((may_iff r).1 e) h

/-- A byte as a number; -1: there is none. -/
def bz (s : ByteArray) (i : Nat) : Int := if i < s.size then ((s.get! i).toNat : Int) else -1

theorem bz_bd (s : ByteArray) (i : Nat) : -1 ≤ bz s i ∧ bz s i ≤ 255 := by
  unfold bz
  have := (s.get! i).toNat_lt
  split <;> omega

/-- Does a character begin there? -/
def okAt (s : ByteArray) (i : Nat) : Bool := may (Utf8.decode s i).1 && ((Utf8.decode s i).1 != 65533 || (Utf8.decode s i).2 == 3)

/-- The number of a character that has been gathered over k bytes behind the first. -/
def acc (s : ByteArray) (i : Nat) (r0 : Int) : Nat → Int
  | 0 => r0
  | k + 1 => 64 * acc s i r0 k + bz s (i + (k + 1)) - 128

def cont (s : ByteArray) (i : Nat) : Prop := 128 ≤ bz s i ∧ bz s i < 192

theorem cont_iff (s : ByteArray) (i k : Nat) : ((decide (i + k < s.size) && (s.get! (i + k)).toNat / 64 == 2) = true) ↔ cont s (i + k) := by
  unfold cont bz
  by_cases h : i + k < s.size
  · simp [h]; omega
  · simp [h]

theorem bz_get {s : ByteArray} {i : Nat} (h : 0 ≤ bz s i) : i < s.size ∧ ((s.get! i).toNat : Int) = bz s i := by
  unfold bz at *
  split at h
  · exact ⟨‹_›, by simp [*]⟩
  · omega

theorem decode_one {s : ByteArray} {i : Nat} (h0 : 0 ≤ bz s i) (h1 : bz s i < 128) : Utf8.decode s i = ((bz s i).toNat, 1) := by
  obtain ⟨hi, hb⟩ := bz_get h0
  have e : (s.get! i).toNat < 128 := by omega
  simp only [Utf8.decode, Nat.add_zero, e, if_true]
  congr 1
  omega

theorem decode_none {s : ByteArray} {i : Nat} (h : (128 ≤ bz s i ∧ bz s i < 192) ∨ 248 ≤ bz s i) : Utf8.decode s i = (65533, 1) := by
  obtain ⟨hi, hb⟩ := bz_get (s := s) (i := i) (by omega)
  have h3 := (s.get! i).toNat_lt
  have e1 : ¬ (s.get! i).toNat < 128 := by omega
  have e2 : ((s.get! i).toNat / 32 == 6) = false := by simp; omega
  have e3 : ((s.get! i).toNat / 16 == 14) = false := by simp; omega
  have e4 : ((s.get! i).toNat / 8 == 30) = false := by simp; omega
  simp [Utf8.decode, e1, e2, e3, e4, Utf8.runeError]

theorem cont_false {s : ByteArray} {i k : Nat} (h : ¬ cont s (i + k)) : (decide (i + k < s.size) && (s.get! (i + k)).toNat / 64 == 2) = false := by
  rw [Bool.eq_false_iff]; intro e; exact h ((cont_iff s i k).1 e)
theorem cont_true {s : ByteArray} {i k : Nat} (h : cont s (i + k)) : (decide (i + k < s.size) && (s.get! (i + k)).toNat / 64 == 2) = true := (cont_iff s i k).2 h

theorem decode_two {s : ByteArray} {i : Nat} (h0 : 192 ≤ bz s i) (h1 : bz s i < 224) (c1 : cont s (i + 1)) :
    Utf8.decode s i = if 128 ≤ acc s i (bz s i - 192) 1 then ((acc s i (bz s i - 192) 1).toNat, 2) else (65533, 1) := by
  obtain ⟨hi, hb⟩ := bz_get (s := s) (i := i) (by omega)
  obtain ⟨hi1, hb1⟩ := bz_get (s := s) (i := i + 1) (by unfold cont at c1; omega)
  have k1 := cont_true c1
  have e1 : ¬ (s.get! i).toNat < 128 := by omega
  have e2 : ((s.get! i).toNat / 32 == 6) = true := by simp; omega
  unfold cont at c1
  simp only [Utf8.decode, Nat.add_zero, e1, e2, k1, if_false, if_true, Bool.and_self, Utf8.runeError, acc]
  simp only [Nat.zero_add]
  have hc : (((s.get! i).toNat % 32 * 64 + (s.get! (i + 1)).toNat % 64 : Nat) : Int) = 64 * (bz s i - 192) + bz s (i + 1) - 128 := by omega
  by_cases h : 128 ≤ (s.get! i).toNat % 32 * 64 + (s.get! (i + 1)).toNat % 64
  · rw [if_pos (by simpa using h), if_pos (by omega)]
    congr 1; omega
  · rw [if_neg (by simpa using h), if_neg (by omega)]

theorem decode_two_no {s : ByteArray} {i : Nat} (h0 : 192 ≤ bz s i) (h1 : bz s i < 224) (c1 : ¬ cont s (i + 1)) : Utf8.decode s i = (65533, 1) := by
  obtain ⟨hi, hb⟩ := bz_get (s := s) (i := i) (by omega)
  have k1 := cont_false c1
  have e1 : ¬ (s.get! i).toNat < 128 := by omega
  have e3 : ((s.get! i).toNat / 16 == 14) = false := by simp; omega
  have e4 : ((s.get! i).toNat / 8 == 30) = false := by simp; omega
  simp only [Utf8.decode, Nat.add_zero, e1, e3, e4, k1, if_false, Bool.and_false, Bool.false_and, Utf8.runeError, Bool.false_eq_true]

set_option maxRecDepth 100000 in
theorem decode_three {s : ByteArray} {i : Nat} (h0 : 224 ≤ bz s i) (h1 : bz s i < 240) (c1 : cont s (i + 1)) (c2 : cont s (i + 2)) :
    Utf8.decode s i = if 2048 ≤ acc s i (bz s i - 224) 2 ∧ Utf8.valid (acc s i (bz s i - 224) 2) = true then ((acc s i (bz s i - 224) 2).toNat, 3) else (65533, 1) := by
  obtain ⟨hi, hb⟩ := bz_get (s := s) (i := i) (by omega)
  obtain ⟨hi1, hb1⟩ := bz_get (s := s) (i := i + 1) (by unfold cont at c1; omega)
  obtain ⟨hi2, hb2⟩ := bz_get (s := s) (i := i + 2) (by unfold cont at c2; omega)
  have k1 := cont_true c1
  have k2 := cont_true c2
  have e1 : ¬ (s.get! i).toNat < 128 := by omega
  have e2 : ((s.get! i).toNat / 32 == 6) = false := by simp; omega
  have e3 : ((s.get! i).toNat / 16 == 14) = true := by simp; omega
  unfold cont at c1 c2
  simp only [Utf8.decode, Nat.add_zero, e1, e2, e3, k1, k2, if_false, if_true, Bool.and_self, Bool.false_and, Utf8.runeError, acc, Bool.false_eq_true]
  simp only [Nat.zero_add, Nat.reduceAdd]
  have hc : (((s.get! i).toNat % 16 * 4096 + (s.get! (i + 1)).toNat % 64 * 64 + (s.get! (i + 2)).toNat % 64 : Nat) : Int) = 64 * (64 * (bz s i - 224) + bz s (i + 1) - 128) + bz s (i + 2) - 128 := by omega
  generalize 64 * (64 * (bz s i - 224) + bz s (i + 1) - 128) + bz s (i + 2) - 128 = z at hc ⊢
  generalize (s.get! i).toNat % 16 * 4096 + (s.get! (i + 1)).toNat % 64 * 64 + (s.get! (i + 2)).toNat % 64 = c at hc ⊢
  subst hc
  by_cases h : 2048 ≤ c ∧ Utf8.valid c = true
  · rw [if_pos (by rw [Bool.and_eq_true, decide_eq_true_eq]; exact h), if_pos ⟨by omega, h.2⟩]
    congr 1
  · rw [if_neg (by rw [Bool.and_eq_true, decide_eq_true_eq]; exact h), if_neg (fun q => h ⟨by omega, q.2⟩)]

theorem decode_three_no {s : ByteArray} {i : Nat} (h0 : 224 ≤ bz s i) (h1 : bz s i < 240) (c1 : ¬ cont s (i + 1) ∨ ¬ cont s (i + 2)) : Utf8.decode s i = (65533, 1) := by
  obtain ⟨hi, hb⟩ := bz_get (s := s) (i := i) (by omega)
  have e1 : ¬ (s.get! i).toNat < 128 := by omega
  have e2 : ((s.get! i).toNat / 32 == 6) = false := by simp; omega
  have e4 : ((s.get! i).toNat / 8 == 30) = false := by simp; omega
  rcases c1 with c1 | c1
  all_goals have k1 := cont_false c1
  all_goals simp only [Utf8.decode, Nat.add_zero, e1, e2, e4, k1, if_false, Bool.and_false, Bool.false_and, Utf8.runeError, Bool.false_eq_true]

set_option maxRecDepth 100000 in
theorem decode_four {s : ByteArray} {i : Nat} (h0 : 240 ≤ bz s i) (h1 : bz s i < 248) (c1 : cont s (i + 1)) (c2 : cont s (i + 2)) (c3 : cont s (i + 3)) :
    Utf8.decode s i = if 65536 ≤ acc s i (bz s i - 240) 3 ∧ Utf8.valid (acc s i (bz s i - 240) 3) = true then ((acc s i (bz s i - 240) 3).toNat, 4) else (65533, 1) := by
  obtain ⟨hi, hb⟩ := bz_get (s := s) (i := i) (by omega)
  obtain ⟨hi1, hb1⟩ := bz_get (s := s) (i := i + 1) (by unfold cont at c1; omega)
  obtain ⟨hi2, hb2⟩ := bz_get (s := s) (i := i + 2) (by unfold cont at c2; omega)
  obtain ⟨hi3, hb3⟩ := bz_get (s := s) (i := i + 3) (by unfold cont at c3; omega)
  have k1 := cont_true c1
  have k2 := cont_true c2
  have k3 := cont_true c3
  have e1 : ¬ (s.get! i).toNat < 128 := by omega
  have e2 : ((s.get! i).toNat / 32 == 6) = false := by simp; omega
  have e3 : ((s.get! i).toNat / 16 == 14) = false := by simp; omega
  have e4 : ((s.get! i).toNat / 8 == 30) = true := by simp; omega
  unfold cont at c1 c2 c3
  simp only [Utf8.decode, Nat.add_zero, e1, e2, e3, e4, k1, k2, k3, if_false, if_true, Bool.and_self, Bool.false_and, Utf8.runeError, acc, Bool.false_eq_true]
  simp only [Nat.zero_add, Nat.reduceAdd]
  have hc : (((s.get! i).toNat % 8 * 262144 + (s.get! (i + 1)).toNat % 64 * 4096 + (s.get! (i + 2)).toNat % 64 * 64 + (s.get! (i + 3)).toNat % 64 : Nat) : Int) = 64 * (64 * (64 * (bz s i - 240) + bz s (i + 1) - 128) + bz s (i + 2) - 128) + bz s (i + 3) - 128 := by omega
  generalize 64 * (64 * (64 * (bz s i - 240) + bz s (i + 1) - 128) + bz s (i + 2) - 128) + bz s (i + 3) - 128 = z at hc ⊢
  generalize (s.get! i).toNat % 8 * 262144 + (s.get! (i + 1)).toNat % 64 * 4096 + (s.get! (i + 2)).toNat % 64 * 64 + (s.get! (i + 3)).toNat % 64 = c at hc ⊢
  subst hc
  by_cases h : 65536 ≤ c ∧ Utf8.valid c = true
  · rw [if_pos (by rw [Bool.and_eq_true, decide_eq_true_eq]; exact h), if_pos ⟨by omega, h.2⟩]
    congr 1
  · rw [if_neg (by rw [Bool.and_eq_true, decide_eq_true_eq]; exact h), if_neg (fun q => h ⟨by omega, q.2⟩)]

theorem decode_four_no {s : ByteArray} {i : Nat} (h0 : 240 ≤ bz s i) (h1 : bz s i < 248) (c1 : ¬ cont s (i + 1) ∨ ¬ cont s (i + 2) ∨ ¬ cont s (i + 3)) : Utf8.decode s i = (65533, 1) := by
  obtain ⟨hi, hb⟩ := bz_get (s := s) (i := i) (by omega)
  have e1 : ¬ (s.get! i).toNat < 128 := by omega
  have e2 : ((s.get! i).toNat / 32 == 6) = false := by simp; omega
  have e3 : ((s.get! i).toNat / 16 == 14) = false := by simp; omega
  rcases c1 with c1 | c1 | c1
  all_goals have k1 := cont_false c1
  all_goals simp only [Utf8.decode, Nat.add_zero, e1, e2, e3, k1, if_false, Bool.and_false, Bool.false_and, Utf8.runeError, Bool.false_eq_true]

theorem okAt_bad {s : ByteArray} {i : Nat} (h : Utf8.decode s i = (65533, 1)) : okAt s i = false := by
  simp [okAt, h]

theorem acc_bd {s : ByteArray} {i : Nat} {r0 : Int} (k : Nat) (h0 : 0 ≤ r0) (h1 : r0 ≤ 255) (hk : k ≤ 3) (hc : ∀ j, 1 ≤ j → j ≤ k → cont s (i + j)) : 0 ≤ acc s i r0 k ∧ acc s i r0 k ≤ 67108863 := by
  have a1 : k = 0 ∨ k = 1 ∨ k = 2 ∨ k = 3 := by omega
  rcases a1 with rfl | rfl | rfl | rfl
  · simp [acc]; omega
  · have c1 := hc 1 (by omega) (by omega)
    unfold cont at c1
    simp only [acc, Nat.zero_add]; omega
  · have c1 := hc 1 (by omega) (by omega)
    have c2 := hc 2 (by omega) (by omega)
    unfold cont at c1 c2
    simp only [acc, Nat.zero_add, Nat.reduceAdd]; omega
  · have c1 := hc 1 (by omega) (by omega)
    have c2 := hc 2 (by omega) (by omega)
    have c3 := hc 3 (by omega) (by omega)
    unfold cont at c1 c2 c3
    simp only [acc, Nat.zero_add, Nat.reduceAdd]; omega

/-- How many bytes the first one tells, and what it counts. -/
def lead (a : Int) : Nat × Int :=
  if 0 ≤ a ∧ a < 128 then (1, a) else if 192 ≤ a ∧ a < 224 then (2, a - 192) else if 224 ≤ a ∧ a < 240 then (3, a - 224) else if 240 ≤ a ∧ a < 248 then (4, a - 240) else (0, 0)

def few (n : Nat) (r : Int) : Bool := (n == 2 && decide (r < 128)) || (n == 3 && decide (r < 2048)) || (n == 4 && decide (r < 65536))

/-- What the reference's At answers. -/
def at2 (s : ByteArray) (i : Nat) : Int × Int := if i < s.size ∧ okAt s i = true then (((Utf8.decode s i).1 : Int), ((Utf8.decode s i).2 : Int)) else (0, 0)

theorem at2_bad {s : ByteArray} {i : Nat} (h : Utf8.decode s i = (65533, 1)) : at2 s i = (0, 0) := by
  simp [at2, okAt_bad h]

theorem at2_short {s : ByteArray} {i k : Nat} (hk : 1 ≤ k) (hkn : k < (lead (bz s i)).1) (hc : ¬ cont s (i + k)) : at2 s i = (0, 0) := by
  apply at2_bad
  unfold lead at hkn
  split at hkn
  · simp at hkn; omega
  · split at hkn
    · simp at hkn
      have : k = 1 := by omega
      subst this
      exact decode_two_no (by omega) (by omega) hc
    · split at hkn
      · simp at hkn
        have : k = 1 ∨ k = 2 := by omega
        refine decode_three_no (by omega) (by omega) ?_
        rcases this with rfl | rfl
        · exact Or.inl hc
        · exact Or.inr hc
      · split at hkn
        · simp at hkn
          have : k = 1 ∨ k = 2 ∨ k = 3 := by omega
          refine decode_four_no (by omega) (by omega) ?_
          rcases this with rfl | rfl | rfl
          · exact Or.inl hc
          · exact Or.inr (Or.inl hc)
          · exact Or.inr (Or.inr hc)
        · simp at hkn

theorem valid_of_may {r : Int} (h : may r = true) : Utf8.valid r = true := by
  rw [may_iff] at h
  simp [Utf8.valid]; omega

theorem at2_full {s : ByteArray} {i : Nat} (hc : ∀ j, 1 ≤ j → j < (lead (bz s i)).1 → cont s (i + j)) :
    at2 s i = if (few (lead (bz s i)).1 (acc s i (lead (bz s i)).2 ((lead (bz s i)).1 - 1)) || !may (acc s i (lead (bz s i)).2 ((lead (bz s i)).1 - 1))) = true then (0, 0)
      else (acc s i (lead (bz s i)).2 ((lead (bz s i)).1 - 1), ((lead (bz s i)).1 : Int)) := by
  have hbd := bz_bd s i
  unfold lead at hc ⊢
  split at hc
  · rename_i h
    simp only [h, and_self, if_true, Nat.sub_self, acc] at hc ⊢
    have hd := decode_one h.1 h.2
    have hi := (bz_get h.1).1
    have ht : (((bz s i).toNat : Nat) : Int) = bz s i := by omega
    simp only [at2, okAt, hd, ht, hi, few]
    cases hm : may (bz s i)
    · simp
    · have : (bz s i != 65533) = true := by simp; omega
      have : ¬ ((bz s i).toNat = 65533) := by omega
      simp [this]
  · rename_i hn1
    split at hc
    · rename_i h
      simp only [hn1, h, and_self, if_true, if_false, Nat.reduceSub] at hc ⊢
      have c1 := hc 1 (by omega) (by omega)
      have hb := acc_bd (s := s) (i := i) (r0 := bz s i - 192) 1 (by omega) (by omega) (by omega) (fun j a b => hc j a (by omega))
      have hi := (bz_get (s := s) (i := i) (by omega)).1
      have hd := decode_two h.1 h.2 c1
      have hup : acc s i (bz s i - 192) 1 ≤ 2047 := by unfold cont at c1; simp only [acc, Nat.zero_add]; omega
      generalize acc s i (bz s i - 192) 1 = z at *
      by_cases hz : 128 ≤ z
      · rw [if_pos hz] at hd
        have ht : ((z.toNat : Nat) : Int) = z := by omega
        have hne : ¬ z.toNat = 65533 := by omega
        have hf : few 2 z = false := by simp [few]; omega
        simp only [at2, okAt, hd, ht, hi, hf]
        cases hm : may z
        · simp
        · simp [hne]
      · rw [if_neg hz] at hd
        have hf : few 2 z = true := by simp [few]; omega
        rw [at2_bad hd]; simp [hf]
    · rename_i hn2
      split at hc
      · rename_i h
        simp only [hn1, hn2, h, and_self, if_true, if_false, Nat.reduceSub] at hc ⊢
        have c1 := hc 1 (by omega) (by omega)
        have c2 := hc 2 (by omega) (by omega)
        have hb := acc_bd (s := s) (i := i) (r0 := bz s i - 224) 2 (by omega) (by omega) (by omega) (fun j a b => hc j a (by omega))
        have hi := (bz_get (s := s) (i := i) (by omega)).1
        have hd := decode_three h.1 h.2 c1 c2
        generalize acc s i (bz s i - 224) 2 = z at *
        by_cases hz : 2048 ≤ z
        · have hf : few 3 z = false := by simp [few]; omega
          cases hm : may z
          · simp only [hf, Bool.not_false, Bool.or_true, if_true]
            by_cases hv : Utf8.valid z = true
            · rw [if_pos ⟨hz, hv⟩] at hd
              have ht : ((z.toNat : Nat) : Int) = z := by omega
              simp [at2, okAt, hd, ht, hm]
            · rw [if_neg (fun q => hv q.2)] at hd
              exact at2_bad hd
          · rw [if_pos ⟨hz, valid_of_may hm⟩] at hd
            have ht : ((z.toNat : Nat) : Int) = z := by omega
            simp [at2, okAt, hd, ht, hm, hi, hf]
        · rw [if_neg (fun q => hz q.1)] at hd
          have hf : few 3 z = true := by simp [few]; omega
          rw [at2_bad hd]; simp [hf]
      · rename_i hn3
        split at hc
        · rename_i h
          simp only [hn1, hn2, hn3, h, and_self, if_true, if_false, Nat.reduceSub] at hc ⊢
          have c1 := hc 1 (by omega) (by omega)
          have c2 := hc 2 (by omega) (by omega)
          have c3 := hc 3 (by omega) (by omega)
          have hb := acc_bd (s := s) (i := i) (r0 := bz s i - 240) 3 (by omega) (by omega) (by omega) (fun j a b => hc j a (by omega))
          have hi := (bz_get (s := s) (i := i) (by omega)).1
          have hd := decode_four h.1 h.2 c1 c2 c3
          generalize acc s i (bz s i - 240) 3 = z at *
          by_cases hz : 65536 ≤ z
          · have hf : few 4 z = false := by simp [few]; omega
            cases hm : may z
            · simp only [hf, Bool.not_false, Bool.or_true, if_true]
              by_cases hv : Utf8.valid z = true
              · rw [if_pos ⟨hz, hv⟩] at hd
                have ht : ((z.toNat : Nat) : Int) = z := by omega
                simp [at2, okAt, hd, ht, hm]
              · rw [if_neg (fun q => hv q.2)] at hd
                exact at2_bad hd
            · rw [if_pos ⟨hz, valid_of_may hm⟩] at hd
              have ht : ((z.toNat : Nat) : Int) = z := by omega
              have hne : ¬ z.toNat = 65533 := by omega
              simp [at2, okAt, hd, ht, hm, hi, hf, hne]
          · rw [if_neg (fun q => hz q.1)] at hd
            have hf : few 4 z = true := by simp [few]; omega
            rw [at2_bad hd]; simp [hf]
        · rename_i hn4
          simp only [hn1, hn2, hn3, hn4, if_false, Nat.zero_sub, acc] at hc ⊢
          have hm : may 0 = false := by decide
          simp only [hm, Bool.not_false, Bool.or_true, if_true]
          by_cases hs : bz s i = -1
          · have : ¬ i < s.size := by
              intro hi
              unfold bz at hs
              rw [if_pos hi] at hs
              omega
            simp [at2, this]
          · exact at2_bad (decode_none (by omega))

end Go.Proofs.YtbbocgeapofloaiGreatDoor.Ch
namespace Go.Proofs.YtbbocgeapofloaiGreatDoor.Ch
open Go

def begins (r : Int) : Bool := (decide (65 ≤ r) && decide (r ≤ 90)) || (decide (97 ≤ r) && decide (r ≤ 122)) || r == 95 || decide (128 ≤ r)
def goesOn (r : Int) : Bool := (decide (48 ≤ r) && decide (r ≤ 57)) || r == 45 || r == 46

theorem begins_iff (r : Int) : begins r = true ↔ (65 ≤ r ∧ r ≤ 90) ∨ (97 ≤ r ∧ r ≤ 122) ∨ r = 95 ∨ 128 ≤ r := by
  simp only [begins, Bool.or_eq_true, Bool.and_eq_true, beq_iff_eq, decide_eq_true_eq]; omega
theorem goesOn_iff (r : Int) : goesOn r = true ↔ (48 ≤ r ∧ r ≤ 57) ∨ r = 45 ∨ r = 46 := by
  simp only [goesOn, Bool.or_eq_true, Bool.and_eq_true, beq_iff_eq, decide_eq_true_eq]; omega

/-- What a digit counts; d, if it is none. -/
def dig (d r : Int) : Int := if 48 ≤ r ∧ r ≤ 57 then r - 48 else if 97 ≤ r ∧ r ≤ 102 then r - 87 else if 65 ≤ r ∧ r ≤ 70 then r - 55 else d

def refFor (r : Int) (q : Bool) : List UInt8 :=
  if r = 38 then [38, 97, 109, 112, 59] else if r = 60 then [38, 108, 116, 59] else if r = 62 then [38, 103, 116, 59] else if r = 13 then [38, 35, 49, 51, 59]
  else if q = false then [] else if r = 34 then [38, 113, 117, 111, 116, 59] else if r = 9 then [38, 35, 57, 59] else if r = 10 then [38, 35, 49, 48, 59] else []

/-- What a range over a string tells characterAt. -/
def chAt (s : ByteArray) (i : Nat) (r : Int) : Bool := if r = 65533 then (bz s i == 239 && bz s (i + 1) == 191 && bz s (i + 2) == 189) else may r

theorem decode_width (s : ByteArray) (i : Nat) (h : i < s.size) : i + (Utf8.decode s i).2 ≤ s.size ∧ 1 ≤ (Utf8.decode s i).2 ∧ (Utf8.decode s i).2 ≤ 4 := by
  simp only [Utf8.decode]
  repeat' split
  all_goals simp_all
  all_goals omega

theorem chAt_decode (s : ByteArray) (i : Nat) (h : i < s.size) : chAt s i (Utf8.decode s i).1 = okAt s i := by
  unfold chAt okAt
  by_cases he : (Utf8.decode s i).1 = 65533
  · have hm : may ((65533 : Nat) : Int) = true := by decide
    rw [if_pos (by rw [he]; rfl), he, hm]
    simp only [bne_self_eq_false, Bool.false_or, Bool.true_and]
    rw [Bool.eq_iff_iff]
    simp only [Bool.and_eq_true, beq_iff_eq]
    have hb := bz_bd s i
    have hi0 : 0 ≤ bz s i := by unfold bz; rw [if_pos h]; omega
    constructor
    · rintro ⟨⟨h0, h1⟩, h2⟩
      have hd := decode_three (s := s) (i := i) (by omega) (by omega) (by unfold cont; omega) (by unfold cont; omega)
      have ha : acc s i (bz s i - 224) 2 = 65533 := by simp only [acc, Nat.zero_add, Nat.reduceAdd, h0, h1, h2]; decide
      rw [ha] at hd
      rw [if_pos ⟨by decide, by decide⟩] at hd
      rw [hd]
    · intro h3
      by_cases a1 : bz s i < 128
      · rw [decode_one hi0 a1] at h3; simp at h3
      by_cases a2 : bz s i < 192
      · rw [decode_none (Or.inl ⟨by omega, a2⟩)] at h3; simp at h3
      by_cases a3 : bz s i < 224
      · by_cases c1 : cont s (i + 1)
        · rw [decode_two (by omega) a3 c1] at h3; split at h3 <;> simp at h3
        · rw [decode_two_no (by omega) a3 c1] at h3; simp at h3
      by_cases a4 : bz s i < 240
      · by_cases c1 : cont s (i + 1)
        · by_cases c2 : cont s (i + 2)
          · have hd := decode_three (by omega) a4 c1 c2
            rw [hd] at h3 he
            split at h3
            · rename_i hz
              rw [if_pos hz] at he
              simp only at he
              have hz2 : acc s i (bz s i - 224) 2 = 65533 := by omega
              unfold cont at c1 c2
              simp only [acc, Nat.zero_add, Nat.reduceAdd] at hz2
              omega
            · simp at h3
          · rw [decode_three_no (by omega) a4 (Or.inr c2)] at h3; simp at h3
        · rw [decode_three_no (by omega) a4 (Or.inl c1)] at h3; simp at h3
      by_cases a5 : bz s i < 248
      · by_cases c1 : cont s (i + 1)
        · by_cases c2 : cont s (i + 2)
          · by_cases c3 : cont s (i + 3)
            · rw [decode_four (by omega) a5 c1 c2 c3] at h3; split at h3 <;> simp at h3
            · rw [decode_four_no (by omega) a5 (Or.inr (Or.inr c3))] at h3; simp at h3
          · rw [decode_four_no (by omega) a5 (Or.inr (Or.inl c2))] at h3; simp at h3
        · rw [decode_four_no (by omega) a5 (Or.inl c1)] at h3; simp at h3
      · rw [decode_none (Or.inr (by omega))] at h3; simp at h3
  · rw [if_neg (by omega)]
    have : ((Utf8.decode s i).1 != 65533) = true := by simp [he]
    simp [this]

end Go.Proofs.YtbbocgeapofloaiGreatDoor.Ch
namespace Go.Proofs.YtbbocgeapofloaiGreatDoor.Ch
open Go

/-- Do these bytes stand there? -/
def has (s : ByteArray) (i : Nat) : List UInt8 → Bool
  | [] => true
  | c :: l => bz s i == (c.toNat : Int) && has s (i + 1) l

theorem drop_cons (s : ByteArray) (i : Nat) (h : i < s.size) : s.data.toList.drop i = s.get! i :: s.data.toList.drop (i + 1) := by
  rw [List.drop_eq_getElem_cons (by simpa using h)]
  congr 1
  simp [ByteArray.get!, h]

theorem drop_nil (s : ByteArray) (i : Nat) (h : ¬ i < s.size) : s.data.toList.drop i = [] := by
  apply List.drop_eq_nil_of_le
  simpa using h

theorem prefix_has (s : ByteArray) (l : List UInt8) : ∀ i, l.isPrefixOf (s.data.toList.drop i) = has s i l := by
  induction l with
  | nil => intro i; simp [has]
  | cons c l ih =>
    intro i
    by_cases h : i < s.size
    · rw [drop_cons s i h]
      simp only [List.isPrefixOf, has, ih]
      congr 1
      rw [Bool.eq_iff_iff, beq_iff_eq, beq_iff_eq]
      simp only [bz, h, if_true]
      constructor
      · intro e; rw [e]
      · intro e; exact (UInt8.toNat_inj.1 (by omega))
    · rw [drop_nil s i h]
      simp [has, List.isPrefixOf, bz, h]

theorem extract_list (s : ByteArray) (i : Nat) : (s.extract i s.size).data.toList = s.data.toList.drop i := by
  simp [List.take_of_length_le]

theorem hasPrefix_from (s : ByteArray) (i : Nat) (l : List UInt8) : Lib.hasPrefix (s.extract i s.size).data.toList l = has s i l := by
  rw [extract_list, Lib.hasPrefix, prefix_has]

theorem hasPrefix_walk (s : ByteArray) (i : Nat) (l : List UInt8) : Lib.hasPrefix (List.take (s.size - i) (List.drop i s.data.toList)) l = has s i l := by
  rw [List.take_of_length_le (by simp), Lib.hasPrefix, prefix_has]

/-- C1's answer, from a place on. -/
def badFrom (s : ByteArray) : Nat → Nat → Nat
  | 0, pos => pos
  | f + 1, pos => if pos < s.size then (if okAt s pos = true then badFrom s f (pos + (Utf8.decode s pos).2) else pos) else s.size
def bad (s : ByteArray) : Nat := badFrom s (s.size + 1) 0

theorem badFrom_le (s : ByteArray) : ∀ f pos, pos ≤ s.size → badFrom s f pos ≤ s.size := by
  intro f
  induction f with
  | zero => intro pos h; exact h
  | succ f ih =>
    intro pos h
    unfold badFrom
    split
    · split
      · exact ih _ (decode_width s pos ‹_›).1
      · omega
    · omega

def inName (s : ByteArray) (pos : Nat) : Bool := okAt s pos && (begins (Utf8.decode s pos).1 || (decide (0 < pos) && goesOn (Utf8.decode s pos).1))
/-- C2's answer, from a place on. -/
def nameFrom (s : ByteArray) : Nat → Nat → Nat
  | 0, pos => pos
  | f + 1, pos => if pos < s.size then (if inName s pos = true then nameFrom s f (pos + (Utf8.decode s pos).2) else pos) else s.size
def name (s : ByteArray) : Nat := nameFrom s (s.size + 1) 0

theorem at2_pos (s : ByteArray) (i : Nat) (h : i < s.size) : at2 s i = if okAt s i = true then (((Utf8.decode s i).1 : Int), ((Utf8.decode s i).2 : Int)) else (0, 0) := by
  simp [at2, h]
end Go.Proofs.YtbbocgeapofloaiGreatDoor.Ch
namespace Go.Proofs.YtbbocgeapofloaiGreatDoor.Ch
open Go

/-- The number that begins at pos, n told already, up to its ;: the number and the place behind the ;; (0, 0): there is none. -/
def numFrom (u : ByteArray) (b : Int) : Nat → Nat → Int → Int × Int
  | 0, _, _ => (0, 0)
  | f + 1, pos, n =>
    if bz u pos = 59 then (if may n = true then (n, (pos : Int) + 1) else (0, 0))
    else if b ≤ dig 16 (bz u pos) then (0, 0)
    else numFrom u b f (pos + 1) (if n ≤ 1114111 then n * b + dig 16 (bz u pos) else n)

theorem dig_high {r : Int} (h : 128 ≤ r) (d : Int) : dig d r = d := by
  unfold dig
  rw [if_neg (by omega), if_neg (by omega), if_neg (by omega)]
theorem dig_bd (r : Int) : 0 ≤ dig 16 r ∧ dig 16 r ≤ 16 := by
  unfold dig
  repeat' split
  all_goals omega
theorem dig_end (r : Int) (h : r < 0) : dig 16 r = 16 := by
  unfold dig
  rw [if_neg (by omega), if_neg (by omega), if_neg (by omega)]

/-- What a range tells of a place, by its byte. -/
theorem decode_byte (u : ByteArray) (pos : Nat) (h : pos < u.size) : (0 ≤ bz u pos ∧ bz u pos < 128 ∧ Utf8.decode u pos = ((bz u pos).toNat, 1)) ∨ (128 ≤ bz u pos ∧ 128 ≤ (Utf8.decode u pos).1) := by
  have h0 : 0 ≤ bz u pos := by unfold bz; rw [if_pos h]; omega
  by_cases hb : bz u pos < 128
  · exact Or.inl ⟨h0, hb, decode_one h0 hb⟩
  · refine Or.inr ⟨by omega, ?_⟩
    have hg : ((u.get! pos).toNat : Int) = bz u pos := (bz_get h0).2
    have e : u.get! pos = u[pos] := by simp [ByteArray.get!, h]; rfl
    exact (decode_high u pos h (by rw [← e]; omega)).1

theorem num_end {u : ByteArray} {b : Int} {f pos : Nat} {n : Int} {X : Int × Int} (hb : b ≤ 16) (hp : ¬ pos < u.size) (h : numFrom u b (f + 1) pos n = X) : X = (0, 0) := by
  have hz : bz u pos = -1 := by unfold bz; rw [if_neg hp]
  subst h
  unfold numFrom
  rw [hz, if_neg (by omega), dig_end _ (by omega), if_pos hb]
theorem num_semi {u : ByteArray} {b : Int} {f pos : Nat} {n : Int} {X : Int × Int} (hs : bz u pos = 59) (h : numFrom u b (f + 1) pos n = X) : X = if may n = true then (n, (pos : Int) + 1) else (0, 0) := by
  subst h
  unfold numFrom
  rw [if_pos hs]
theorem num_no {u : ByteArray} {b : Int} {f pos : Nat} {n : Int} {X : Int × Int} (hs : ¬ bz u pos = 59) (hd : b ≤ dig 16 (bz u pos)) (h : numFrom u b (f + 1) pos n = X) : X = (0, 0) := by
  subst h
  unfold numFrom
  rw [if_neg hs, if_pos hd]
theorem num_on {u : ByteArray} {b : Int} {f pos : Nat} {n : Int} {X : Int × Int} (hs : ¬ bz u pos = 59) (hd : ¬ b ≤ dig 16 (bz u pos)) (h : numFrom u b (f + 1) pos n = X) :
    numFrom u b f (pos + 1) (if n ≤ 1114111 then n * b + dig 16 (bz u pos) else n) = X := by
  subst h
  rw [numFrom.eq_2, if_neg hs, if_neg hd]

/-- The number at the beginning of u. -/
def num (u : ByteArray) (b : Int) : Int × Int := numFrom u b (u.size + 1) 0 0

theorem numFrom_may (u : ByteArray) (b : Int) : ∀ f pos n, (numFrom u b f pos n = (0, 0)) ∨ (may (numFrom u b f pos n).1 = true ∧ (pos : Int) + 1 ≤ (numFrom u b f pos n).2 ∧ (numFrom u b f pos n).2 ≤ u.size) := by
  intro f
  induction f with
  | zero => intro pos n; exact Or.inl rfl
  | succ f ih =>
    intro pos n
    unfold numFrom
    split
    · rename_i h
      have hp : pos < u.size := (bz_get (s := u) (i := pos) (by omega)).1
      split
      · exact Or.inr ⟨by assumption, by simp, by simp; omega⟩
      · exact Or.inl rfl
    · split
      · exact Or.inl rfl
      · rcases ih (pos + 1) (if n ≤ 1114111 then n * b + dig 16 (bz u pos) else n) with h | ⟨h1, h2, h3⟩
        · exact Or.inl h
        · exact Or.inr ⟨h1, by omega, h3⟩
end Go.Proofs.YtbbocgeapofloaiGreatDoor.Ch
namespace Go.Proofs.YtbbocgeapofloaiGreatDoor.Ch
open Go

/-- A text's end, from a place on. -/
def tail (s : ByteArray) (k : Nat) : ByteArray := ⟨(s.data.toList.drop k).toArray⟩

theorem tail_size (s : ByteArray) (k : Nat) : (tail s k).size = s.size - k := by
  show (tail s k).data.size = s.data.size - k
  simp [tail]

theorem tail_bz (s : ByteArray) (k j : Nat) : bz (tail s k) j = bz s (k + j) := by
  unfold bz
  rw [tail_size]
  by_cases h : k + j < s.size
  · have h1 : j < s.size - k := by omega
    have h2 : j < (tail s k).size := by rw [tail_size]; exact h1
    rw [if_pos h1, if_pos h]
    have e1 : (tail s k).get! j = (tail s k).data.toList[j]'(by simpa using h2) := by
      have : (tail s k).get! j = (tail s k)[j] := by simp [ByteArray.get!, h2]; rfl
      rw [this]; rfl
    have e2 : s.get! (k + j) = s.data.toList[k + j]'(by simpa using h) := by
      have : s.get! (k + j) = s[k + j] := by simp [ByteArray.get!, h]; rfl
      rw [this]; rfl
    rw [e1, e2]
    simp [tail]
  · rw [if_neg (by omega), if_neg h]

theorem tail_extract (s : ByteArray) (k : Nat) : s.extract k s.size = tail s k := by
  apply ByteArray.ext
  apply Array.toList_inj.1
  rw [extract_list]
  simp [tail]

theorem tail_tail (s : ByteArray) (k j : Nat) : tail (tail s k) j = tail s (k + j) := by
  apply ByteArray.ext
  apply Array.toList_inj.1
  simp [tail]

theorem tail_has (s : ByteArray) (k : Nat) (l : List UInt8) : ∀ i, has (tail s k) i l = has s (k + i) l := by
  induction l with
  | nil => intro i; rfl
  | cons c l ih => intro i; simp only [has, tail_bz, ih, Nat.add_assoc]

/-- numFrom of a tail. -/
theorem tail_num (s : ByteArray) (b : Int) (k : Nat) : ∀ f pos n, numFrom (tail s k) b f pos n = if (numFrom s b f (k + pos) n).2 = 0 then (0, 0) else ((numFrom s b f (k + pos) n).1, (numFrom s b f (k + pos) n).2 - k) := by
  intro f
  induction f with
  | zero => intro pos n; rfl
  | succ f ih =>
    intro pos n
    rw [numFrom.eq_2, numFrom.eq_2, tail_bz]
    split
    · split
      · have : ¬ (((k + pos : Nat) : Int) + 1 = 0) := by omega
        simp only [this, if_false]
        congr 1
        omega
      · rfl
    · split
      · rfl
      · rw [ih]; rfl

/-- The number that begins at p: the number, and how long it is, its ; with it. -/
def numAt (s : ByteArray) (p : Nat) (b : Int) : Int × Int := if (numFrom s b (s.size - p + 1) p 0).2 = 0 then (0, 0) else ((numFrom s b (s.size - p + 1) p 0).1, (numFrom s b (s.size - p + 1) p 0).2 - p)

theorem numAt_zero (s : ByteArray) (b : Int) : numAt s 0 b = num s b := by
  unfold numAt num
  simp only [Nat.sub_zero, Int.ofNat_zero, Int.sub_zero]
  split
  · rcases numFrom_may s b (s.size + 1) 0 0 with h | ⟨_, h, _⟩
    · rw [h]
    · omega
  · rfl

theorem numAt_tail (s : ByteArray) (k p : Nat) (b : Int) : numAt (tail s k) p b = numAt s (k + p) b := by
  unfold numAt
  rw [tail_size, tail_num, show s.size - k - p + 1 = s.size - (k + p) + 1 by omega]
  rcases numFrom_may s b (s.size - (k + p) + 1) (k + p) 0 with h | ⟨_, h, _⟩
  · rw [h]; rfl
  · have h1 : ¬ (numFrom s b (s.size - (k + p) + 1) (k + p) 0).2 = 0 := by omega
    simp only [h1, if_false]
    have h2 : ¬ (numFrom s b (s.size - (k + p) + 1) (k + p) 0).2 - (k : Int) = 0 := by omega
    simp only [h2, if_false]
    congr 1
    omega

/-- The reference that begins at i: what it stands for, and how long it is; 0: none begins. -/
def refAt (s : ByteArray) (i : Nat) : Int × Int :=
  if has s i [38, 108, 116, 59] = true then (60, 4) else if has s i [38, 103, 116, 59] = true then (62, 4) else if has s i [38, 97, 109, 112, 59] = true then (38, 5)
  else if has s i [38, 113, 117, 111, 116, 59] = true then (34, 6) else if has s i [38, 97, 112, 111, 115, 59] = true then (39, 6)
  else if has s i [38, 35, 120] = true then (if (numAt s (i + 3) 16).2 = 0 then (0, 0) else ((numAt s (i + 3) 16).1, 3 + (numAt s (i + 3) 16).2))
  else if has s i [38, 35] = true then (if (numAt s (i + 2) 10).2 = 0 then (0, 0) else ((numAt s (i + 2) 10).1, 2 + (numAt s (i + 2) 10).2))
  else (0, 0)

theorem refAt_tail (s : ByteArray) (k : Nat) : refAt (tail s k) 0 = refAt s k := by
  simp only [refAt, tail_has, numAt_tail, Nat.add_zero, Nat.zero_add]

end Go.Proofs.YtbbocgeapofloaiGreatDoor.Ch
namespace Go.Proofs.YtbbocgeapofloaiGreatDoor.Ch
open Go

theorem has_bz (s : ByteArray) (l : List UInt8) : ∀ i, has s i l = true → ∀ k (h : k < l.length), bz s (i + k) = ((l[k]).toNat : Int) := by
  induction l with
  | nil => intro i _ k h; simp at h
  | cons c l ih =>
    intro i hi k h
    simp only [has, Bool.and_eq_true, beq_iff_eq] at hi
    cases k with
    | zero => simpa using hi.1
    | succ k =>
      have := ih (i + 1) hi.2 k (by simpa using h)
      rw [show i + 1 + k = i + (k + 1) by omega] at this
      simpa using this

theorem has_ascii {s : ByteArray} {i : Nat} {l : List UInt8} (h : has s i l = true) (hl : ∀ c ∈ l, c.toNat < 128) : ∀ j, i ≤ j → j < i + l.length → 0 ≤ bz s j ∧ bz s j < 128 := by
  intro j h1 h2
  obtain ⟨k, rfl⟩ : ∃ k, j = i + k := ⟨j - i, by omega⟩
  have hk : k < l.length := by omega
  rw [has_bz s l i h k hk]
  have := hl l[k] (List.getElem_mem hk)
  omega

theorem has_size {s : ByteArray} {i : Nat} {l : List UInt8} (h : has s i l = true) (h0 : 0 < l.length) : i + l.length ≤ s.size := by
  have := has_bz s l i h (l.length - 1) (by omega)
  have h2 := (bz_get (s := s) (i := i + (l.length - 1)) (by omega)).1
  omega

theorem dig_ascii {b r : Int} (hb : b ≤ 16) (h : ¬ b ≤ dig 16 r) : 0 ≤ r ∧ r < 128 := by
  unfold dig at h
  split at h
  · omega
  · split at h
    · omega
    · split at h
      · omega
      · omega

theorem numFrom_spec (u : ByteArray) (b : Int) (hb : b ≤ 16) : ∀ f pos n, (numFrom u b f pos n).2 ≠ 0 →
    may (numFrom u b f pos n).1 = true ∧ (pos : Int) + 1 ≤ (numFrom u b f pos n).2 ∧ (may n = false → (pos : Int) + 2 ≤ (numFrom u b f pos n).2) ∧ (numFrom u b f pos n).2 ≤ u.size ∧ ∀ j : Nat, pos ≤ j → (j : Int) < (numFrom u b f pos n).2 → 0 ≤ bz u j ∧ bz u j < 128 := by
  intro f
  induction f with
  | zero => intro pos n h; exact absurd rfl h
  | succ f ih =>
    intro pos n
    rw [numFrom.eq_2]
    split
    · rename_i h59
      have hp : pos < u.size := (bz_get (s := u) (i := pos) (by omega)).1
      split
      · rename_i hm
        intro _
        refine ⟨hm, by simp, fun h => absurd (hm.symm.trans h) (by decide), (by simp; omega), ?_⟩
        intro j h1 h2
        simp only at h2
        have : j = pos := by omega
        subst this
        omega
      · intro h; exact absurd rfl h
    · split
      · intro h; exact absurd rfl h
      · rename_i hd
        intro h
        obtain ⟨h1, h2, h3, h4, h5⟩ := ih (pos + 1) _ h
        refine ⟨h1, by omega, fun _ => by omega, h4, ?_⟩
        intro j hj1 hj2
        by_cases e : j = pos
        · subst e; exact dig_ascii hb hd
        · exact h5 j (by omega) hj2

theorem numAt_spec {s : ByteArray} {p : Nat} {b : Int} (hb : b ≤ 16) (h : (numAt s p b).2 ≠ 0) :
    may (numAt s p b).1 = true ∧ 2 ≤ (numAt s p b).2 ∧ (p : Int) + (numAt s p b).2 ≤ s.size ∧ ∀ j : Nat, p ≤ j → (j : Int) < p + (numAt s p b).2 → 0 ≤ bz s j ∧ bz s j < 128 := by
  unfold numAt at *
  split at h
  · exact absurd rfl h
  · rename_i hz
    rw [if_neg hz]
    obtain ⟨h1, h2, h3, h4, h5⟩ := numFrom_spec s b hb _ _ _ hz
    have h6 := h3 (by decide)
    refine ⟨h1, by simp only; omega, by simp only; omega, ?_⟩
    intro j hj1 hj2
    simp only at hj2
    exact h5 j hj1 (by omega)

theorem refAt_spec {s : ByteArray} {i : Nat} (h : (refAt s i).2 ≠ 0) :
    may (refAt s i).1 = true ∧ 4 ≤ (refAt s i).2 ∧ (i : Int) + (refAt s i).2 ≤ s.size ∧ ∀ j : Nat, i ≤ j → (j : Int) < i + (refAt s i).2 → 0 ≤ bz s j ∧ bz s j < 128 := by
  have key : ∀ (l : List UInt8) (r : Int), 4 ≤ l.length → has s i l = true → (∀ c ∈ l, c.toNat < 128) → may r = true →
      may r = true ∧ 4 ≤ ((l.length : Nat) : Int) ∧ (i : Int) + ((l.length : Nat) : Int) ≤ s.size ∧ ∀ j : Nat, i ≤ j → (j : Int) < i + ((l.length : Nat) : Int) → 0 ≤ bz s j ∧ bz s j < 128 := by
    intro l r hl hh ha hm
    have hs := has_size hh (by omega)
    refine ⟨hm, by omega, by omega, ?_⟩
    intro j h1 h2
    exact has_ascii hh ha j h1 (by omega)
  have num : ∀ (k : Nat) (b : Int) (l : List UInt8), 2 ≤ k → b ≤ 16 → l.length = k → has s i l = true → (∀ c ∈ l, c.toNat < 128) → (numAt s (i + k) b).2 ≠ 0 →
      may (numAt s (i + k) b).1 = true ∧ 4 ≤ (k : Int) + (numAt s (i + k) b).2 ∧ (i : Int) + ((k : Int) + (numAt s (i + k) b).2) ≤ s.size ∧ ∀ j : Nat, i ≤ j → (j : Int) < i + ((k : Int) + (numAt s (i + k) b).2) → 0 ≤ bz s j ∧ bz s j < 128 := by
    intro k b l hk hb hl hh ha hn
    obtain ⟨h1, h2, h3, h4⟩ := numAt_spec hb hn
    refine ⟨h1, by omega, by omega, ?_⟩
    intro j hj1 hj2
    by_cases e : j < i + k
    · exact has_ascii hh ha j hj1 (by omega)
    · exact h4 j (by omega) (by omega)
  unfold refAt at *
  split at h
  · rename_i h1
    rw [if_pos h1]
    exact key [38, 108, 116, 59] 60 (by decide) h1 (by decide) (by decide)
  · rename_i n1
    rw [if_neg n1]
    split at h
    · rename_i h1
      rw [if_pos h1]
      exact key [38, 103, 116, 59] 62 (by decide) h1 (by decide) (by decide)
    · rename_i n2
      rw [if_neg n2]
      split at h
      · rename_i h1
        rw [if_pos h1]
        exact key [38, 97, 109, 112, 59] 38 (by decide) h1 (by decide) (by decide)
      · rename_i n3
        rw [if_neg n3]
        split at h
        · rename_i h1
          rw [if_pos h1]
          exact key [38, 113, 117, 111, 116, 59] 34 (by decide) h1 (by decide) (by decide)
        · rename_i n4
          rw [if_neg n4]
          split at h
          · rename_i h1
            rw [if_pos h1]
            exact key [38, 97, 112, 111, 115, 59] 39 (by decide) h1 (by decide) (by decide)
          · rename_i n5
            rw [if_neg n5]
            split at h
            · rename_i h1
              rw [if_pos h1]
              split at h
              · exact absurd rfl h
              · rename_i hz
                rw [if_neg hz]
                exact num 3 16 [38, 35, 120] (by decide) (by decide) rfl h1 (by decide) hz
            · rename_i n6
              rw [if_neg n6]
              split at h
              · rename_i h1
                rw [if_pos h1]
                split at h
                · exact absurd rfl h
                · rename_i hz
                  rw [if_neg hz]
                  exact num 2 10 [38, 35] (by decide) (by decide) rfl h1 (by decide) hz
              · exact absurd rfl h

theorem encode_le (r : Int) : (Lib.encodeRune r).length ≤ 4 := by
  have := Lib.encodeRuneZ_length r
  simp [Lib.encodeRune]; omega

theorem byte_back {s : ByteArray} {i : Nat} {x : Int} (h : x = bz s i) (h0 : 0 ≤ bz s i) : x.toNat.toUInt8 = s.get! i := by
  have := (bz_get h0).2
  have e : x.toNat = (s.get! i).toNat := by omega
  rw [e]
  simp

/-- The bytes from a place on. -/
def bytes (s : ByteArray) (i n : Nat) : List UInt8 := (s.data.toList.drop i).take n

theorem bytes_one {s : ByteArray} {i : Nat} (h : i < s.size) : bytes s i 1 = [s.get! i] := by
  simp [bytes, drop_cons s i h]
theorem bytes_two {s : ByteArray} {i : Nat} (h : i + 1 < s.size) : bytes s i 2 = [s.get! i, s.get! (i + 1)] := by
  rw [bytes, drop_cons s i (by omega), drop_cons s (i + 1) h]; simp
theorem bytes_three {s : ByteArray} {i : Nat} (h : i + 2 < s.size) : bytes s i 3 = [s.get! i, s.get! (i + 1), s.get! (i + 2)] := by
  rw [bytes, drop_cons s i (by omega), drop_cons s (i + 1) (by omega), drop_cons s (i + 1 + 1) h]; simp
theorem bytes_four {s : ByteArray} {i : Nat} (h : i + 3 < s.size) : bytes s i 4 = [s.get! i, s.get! (i + 1), s.get! (i + 2), s.get! (i + 3)] := by
  rw [bytes, drop_cons s i (by omega), drop_cons s (i + 1) (by omega), drop_cons s (i + 1 + 1) (by omega), drop_cons s (i + 1 + 1 + 1) h]; simp

/-- A character's bytes, written again. -/
theorem encode_decode {s : ByteArray} {i : Nat} (h : i < s.size) (ho : okAt s i = true) : Lib.encodeRune (Utf8.decode s i).1 = bytes s i (Utf8.decode s i).2 := by
  have h0 : 0 ≤ bz s i := by unfold bz; rw [if_pos h]; omega
  have hbd := bz_bd s i
  have nb : Utf8.decode s i ≠ (65533, 1) := fun e => by rw [okAt_bad e] at ho; cases ho
  by_cases a1 : bz s i < 128
  · rw [decode_one h0 a1, bytes_one h]
    simp only [Lib.encodeRune]
    rw [Lib.encodeRuneZ_one (by omega) (by omega)]
    simp only [List.map_cons, List.map_nil]
    rw [byte_back (x := ((bz s i).toNat : Int)) (by omega) h0]
  by_cases a2 : bz s i < 192
  · exact absurd (decode_none (Or.inl ⟨by omega, a2⟩)) nb
  by_cases a3 : bz s i < 224
  · by_cases c1 : cont s (i + 1)
    · have hd := decode_two (by omega) a3 c1
      unfold cont at c1
      have hi1 := (bz_get (s := s) (i := i + 1) (by omega)).1
      by_cases hz : 128 ≤ acc s i (bz s i - 192) 1
      · rw [if_pos hz] at hd
        rw [hd, bytes_two hi1]
        simp only [acc, Nat.zero_add] at hz ⊢
        simp only [Lib.encodeRune]
        rw [Lib.encodeRuneZ_two (by omega) (by omega)]
        simp only [List.map_cons, List.map_nil]
        rw [byte_back (s := s) (i := i) (by omega) (by omega), byte_back (s := s) (i := i + 1) (by omega) (by omega)]
      · rw [if_neg hz] at hd; exact absurd hd nb
    · exact absurd (decode_two_no (by omega) a3 c1) nb
  by_cases a4 : bz s i < 240
  · by_cases c1 : cont s (i + 1)
    · by_cases c2 : cont s (i + 2)
      · have hd := decode_three (by omega) a4 c1 c2
        unfold cont at c1 c2
        have hi1 := (bz_get (s := s) (i := i + 2) (by omega)).1
        by_cases hz : 2048 ≤ acc s i (bz s i - 224) 2 ∧ Utf8.valid (acc s i (bz s i - 224) 2) = true
        · rw [if_pos hz] at hd
          obtain ⟨hz, hv⟩ := hz
          simp only [Utf8.valid, Bool.or_eq_true, Bool.and_eq_true, decide_eq_true_eq] at hv
          rw [hd, bytes_three hi1]
          simp only [acc, Nat.zero_add, Nat.reduceAdd] at hz hv ⊢
          simp only [Lib.encodeRune]
          rw [Lib.encodeRuneZ_three (by omega)]
          simp only [List.map_cons, List.map_nil]
          rw [byte_back (s := s) (i := i) (by omega) (by omega), byte_back (s := s) (i := i + 1) (by omega) (by omega), byte_back (s := s) (i := i + 2) (by omega) (by omega)]
        · rw [if_neg hz] at hd; exact absurd hd nb
      · exact absurd (decode_three_no (by omega) a4 (Or.inr c2)) nb
    · exact absurd (decode_three_no (by omega) a4 (Or.inl c1)) nb
  by_cases a5 : bz s i < 248
  · by_cases c1 : cont s (i + 1)
    · by_cases c2 : cont s (i + 2)
      · by_cases c3 : cont s (i + 3)
        · have hd := decode_four (by omega) a5 c1 c2 c3
          unfold cont at c1 c2 c3
          have hi1 := (bz_get (s := s) (i := i + 3) (by omega)).1
          by_cases hz : 65536 ≤ acc s i (bz s i - 240) 3 ∧ Utf8.valid (acc s i (bz s i - 240) 3) = true
          · rw [if_pos hz] at hd
            obtain ⟨hz, hv⟩ := hz
            simp only [Utf8.valid, Bool.or_eq_true, Bool.and_eq_true, decide_eq_true_eq] at hv
            rw [hd, bytes_four hi1]
            simp only [acc, Nat.zero_add, Nat.reduceAdd] at hz hv ⊢
            simp only [Lib.encodeRune]
            rw [Lib.encodeRuneZ_four (by omega) (by omega)]
            simp only [List.map_cons, List.map_nil]
            rw [byte_back (s := s) (i := i) (by omega) (by omega), byte_back (s := s) (i := i + 1) (by omega) (by omega), byte_back (s := s) (i := i + 2) (by omega) (by omega), byte_back (s := s) (i := i + 3) (by omega) (by omega)]
          · rw [if_neg hz] at hd; exact absurd hd nb
        · exact absurd (decode_four_no (by omega) a5 (Or.inr (Or.inr c3))) nb
      · exact absurd (decode_four_no (by omega) a5 (Or.inr (Or.inl c2))) nb
    · exact absurd (decode_four_no (by omega) a5 (Or.inl c1)) nb
  · exact absurd (decode_none (Or.inr (by omega))) nb

theorem encode_width {s : ByteArray} {i : Nat} (h : i < s.size) (ho : okAt s i = true) : (Lib.encodeRune (Utf8.decode s i).1).length ≤ (Utf8.decode s i).2 := by
  rw [encode_decode h ho]
  simp [bytes]; omega

/-- C4's answer, from a place on: the text, the error, its place. -/
def unescFrom (s : ByteArray) : Nat → Nat → List UInt8 → List UInt8 × Int × Int
  | 0, _, _ => ([], 0, 0)
  | f + 1, pos, acc =>
    if pos < s.size then
      if okAt s pos = true then
        if bz s pos = 38 then
          (if (refAt s pos).2 = 0 then ([], 4, (pos : Int)) else unescFrom s f (pos + (refAt s pos).2.toNat) (acc ++ Lib.encodeRune (refAt s pos).1))
        else unescFrom s f (pos + (Utf8.decode s pos).2) (acc ++ Lib.encodeRune (Utf8.decode s pos).1)
      else ([], 2, (pos : Int))
    else (acc, 0, 0)
def unesc (s : ByteArray) : List UInt8 × Int × Int := unescFrom s (s.size + 1) 0 []

theorem unesc_end {s : ByteArray} {f pos : Nat} {acc : List UInt8} {X : List UInt8 × Int × Int} (hp : ¬ pos < s.size) (h : unescFrom s (f + 1) pos acc = X) : X = (acc, 0, 0) := by
  subst h; rw [unescFrom.eq_2, if_neg hp]
theorem unesc_char {s : ByteArray} {f pos : Nat} {acc : List UInt8} {X : List UInt8 × Int × Int} (hp : pos < s.size) (ho : okAt s pos = false) (h : unescFrom s (f + 1) pos acc = X) : X = ([], 2, (pos : Int)) := by
  subst h; rw [unescFrom.eq_2, if_pos hp, if_neg (by rw [ho]; decide)]
theorem unesc_on {s : ByteArray} {f pos : Nat} {acc : List UInt8} {X : List UInt8 × Int × Int} (hp : pos < s.size) (ho : okAt s pos = true) (h38 : ¬ bz s pos = 38) (h : unescFrom s (f + 1) pos acc = X) :
    unescFrom s f (pos + (Utf8.decode s pos).2) (acc ++ Lib.encodeRune (Utf8.decode s pos).1) = X := by
  subst h; rw [unescFrom.eq_2, if_pos hp, if_pos ho, if_neg h38]
theorem unesc_noref {s : ByteArray} {f pos : Nat} {acc : List UInt8} {X : List UInt8 × Int × Int} (hp : pos < s.size) (ho : okAt s pos = true) (h38 : bz s pos = 38) (hr : (refAt s pos).2 = 0) (h : unescFrom s (f + 1) pos acc = X) : X = ([], 4, (pos : Int)) := by
  subst h; rw [unescFrom.eq_2, if_pos hp, if_pos ho, if_pos h38, if_pos hr]
theorem unesc_ref {s : ByteArray} {f pos : Nat} {acc : List UInt8} {X : List UInt8 × Int × Int} (hp : pos < s.size) (ho : okAt s pos = true) (h38 : bz s pos = 38) (hr : ¬ (refAt s pos).2 = 0) (h : unescFrom s (f + 1) pos acc = X) :
    unescFrom s f (pos + (refAt s pos).2.toNat) (acc ++ Lib.encodeRune (refAt s pos).1) = X := by
  subst h; rw [unescFrom.eq_2, if_pos hp, if_pos ho, if_pos h38, if_neg hr]
end Go.Proofs.YtbbocgeapofloaiGreatDoor.Ch
namespace Go.Proofs.YtbbocgeapofloaiGreatDoor.Ch
open Go

def escB (q : Bool) (c : UInt8) : List UInt8 := if refFor (c.toNat : Int) q = [] then [c] else refFor (c.toNat : Int) q
def escL (q : Bool) (l : List UInt8) : List UInt8 := l.flatMap (escB q)
def esc (s : ByteArray) (q : Bool) : List UInt8 := escL q s.data.toList

theorem refFor_high {r : Int} (q : Bool) (h : 128 ≤ r) : refFor r q = [] := by
  unfold refFor
  repeat' split
  all_goals first | omega | rfl
theorem refFor_le (r : Int) (q : Bool) : (refFor r q).length ≤ 6 := by
  unfold refFor
  repeat' split
  all_goals simp

theorem bytes_high {s : ByteArray} {i : Nat} (hi : i < s.size) (h : 128 ≤ bz s i) : ∀ j, i ≤ j → j < i + (Utf8.decode s i).2 → 128 ≤ bz s j := by
  have one : ∀ j, i ≤ j → j < i + 1 → 128 ≤ bz s j := fun j a b => by
    obtain rfl : i = j := by omega
    exact h
  by_cases a2 : bz s i < 192
  · rw [decode_none (Or.inl ⟨h, a2⟩)]; exact one
  by_cases a3 : bz s i < 224
  · by_cases c1 : cont s (i + 1)
    · rw [decode_two (by omega) a3 c1]
      split
      · intro j x y
        unfold cont at c1
        have : j = i ∨ j = i + 1 := by omega
        rcases this with rfl | rfl <;> omega
      · exact one
    · rw [decode_two_no (by omega) a3 c1]; exact one
  by_cases a4 : bz s i < 240
  · by_cases c1 : cont s (i + 1)
    · by_cases c2 : cont s (i + 2)
      · rw [decode_three (by omega) a4 c1 c2]
        split
        · intro j x y
          unfold cont at c1 c2
          have : j = i ∨ j = i + 1 ∨ j = i + 2 := by omega
          rcases this with rfl | rfl | rfl <;> omega
        · exact one
      · rw [decode_three_no (by omega) a4 (Or.inr c2)]; exact one
    · rw [decode_three_no (by omega) a4 (Or.inl c1)]; exact one
  by_cases a5 : bz s i < 248
  · by_cases c1 : cont s (i + 1)
    · by_cases c2 : cont s (i + 2)
      · by_cases c3 : cont s (i + 3)
        · rw [decode_four (by omega) a5 c1 c2 c3]
          split
          · intro j x y
            unfold cont at c1 c2 c3
            have : j = i ∨ j = i + 1 ∨ j = i + 2 ∨ j = i + 3 := by omega
            rcases this with rfl | rfl | rfl | rfl <;> omega
          · exact one
        · rw [decode_four_no (by omega) a5 (Or.inr (Or.inr c3))]; exact one
      · rw [decode_four_no (by omega) a5 (Or.inr (Or.inl c2))]; exact one
    · rw [decode_four_no (by omega) a5 (Or.inl c1)]; exact one
  · rw [decode_none (Or.inr (by omega))]; exact one

theorem escL_append (q : Bool) (a b : List UInt8) : escL q (a ++ b) = escL q a ++ escL q b := by simp [escL]

theorem take_get (s : ByteArray) (i : Nat) (h : i < s.size) : s.data.toList.take (i + 1) = s.data.toList.take i ++ [s.get! i] := by
  rw [List.take_succ_eq_append_getElem (by simpa using h)]
  congr 2
  simp [ByteArray.get!, h]

theorem bytes_snoc (s : ByteArray) (i n : Nat) (h : i + n < s.size) : bytes s i (n + 1) = bytes s i n ++ [s.get! (i + n)] := by
  have hd : n < (s.data.toList.drop i).length := by simp; omega
  unfold bytes
  rw [List.take_succ_eq_append_getElem hd]
  congr 2
  simp [ByteArray.get!, h]

/-- Bytes that are left as they are. -/
theorem esc_plain (s : ByteArray) (q : Bool) (acc : List UInt8) (wr pos : Nat) (h1 : wr ≤ pos) (h : acc ++ bytes s wr (pos - wr) = escL q (s.data.toList.take pos)) :
    ∀ n, pos + n ≤ s.size → (∀ j, pos ≤ j → j < pos + n → refFor (bz s j) q = []) → acc ++ bytes s wr (pos + n - wr) = escL q (s.data.toList.take (pos + n)) := by
  intro n
  induction n with
  | zero => intro _ _; exact h
  | succ n ih =>
    intro hn hj
    have h2 := ih (by omega) (fun j a b => hj j a (by omega))
    have h3 := hj (pos + n) (by omega) (by omega)
    have hlt : pos + n < s.size := by omega
    rw [show pos + (n + 1) - wr = (pos + n - wr) + 1 by omega, bytes_snoc s wr _ (by omega), show wr + (pos + n - wr) = pos + n by omega, ← List.append_assoc, h2, ← Nat.add_assoc, take_get s (pos + n) hlt, escL_append]
    congr 1
    have hb : bz s (pos + n) = ((s.get! (pos + n)).toNat : Int) := by unfold bz; rw [if_pos hlt]
    rw [hb] at h3
    simp [escL, escB, h3]

theorem esc_ref (s : ByteArray) (q : Bool) (acc : List UInt8) (wr pos : Nat) (h : acc ++ bytes s wr (pos - wr) = escL q (s.data.toList.take pos)) (hlt : pos < s.size) (hr : ¬ refFor (bz s pos) q = []) :
    (acc ++ bytes s wr (pos - wr)) ++ refFor (bz s pos) q ++ bytes s (pos + 1) (pos + 1 - (pos + 1)) = escL q (s.data.toList.take (pos + 1)) := by
  have hb : bz s pos = ((s.get! pos).toNat : Int) := by unfold bz; rw [if_pos hlt]
  rw [Nat.sub_self, take_get s pos hlt, escL_append, h]
  rw [hb] at hr ⊢
  simp [escL, escB, hr, bytes]
end Go.Proofs.YtbbocgeapofloaiGreatDoor.Ch
namespace Go.Proofs.YtbbocgeapofloaiGreatDoor.Ch
open Go

/-- What decode sees: one byte, and the bytes behind it as long as they go on. -/
theorem decode_same {s t : ByteArray} {i j : Nat} (h0 : bz s i = bz t j) (hge : 128 ≤ bz s i)
    (h1 : cont s (i + 1) → bz s (i + 1) = bz t (j + 1)) (n1 : ¬ cont s (i + 1) → ¬ cont t (j + 1))
    (h2 : cont s (i + 1) → cont s (i + 2) → bz s (i + 2) = bz t (j + 2)) (n2 : cont s (i + 1) → ¬ cont s (i + 2) → ¬ cont t (j + 2))
    (h3 : cont s (i + 1) → cont s (i + 2) → cont s (i + 3) → bz s (i + 3) = bz t (j + 3)) (n3 : cont s (i + 1) → cont s (i + 2) → ¬ cont s (i + 3) → ¬ cont t (j + 3)) :
    Utf8.decode t j = Utf8.decode s i := by
  have c1 : ∀ (h : cont s (i + 1)), cont t (j + 1) := fun h => by unfold cont at *; rw [← h1 h]; exact h
  have c2 : ∀ (h : cont s (i + 1)), cont s (i + 2) → cont t (j + 2) := fun h k => by unfold cont at *; rw [← h2 h k]; exact k
  have c3 : ∀ (h : cont s (i + 1)), cont s (i + 2) → cont s (i + 3) → cont t (j + 3) := fun h k l => by unfold cont at *; rw [← h3 h k l]; exact l
  by_cases a2 : bz s i < 192
  · rw [decode_none (Or.inl ⟨hge, a2⟩), decode_none (Or.inl ⟨by omega, by omega⟩)]
  by_cases a3 : bz s i < 224
  · by_cases k1 : cont s (i + 1)
    · rw [decode_two (by omega) a3 k1, decode_two (by omega) (by omega) (c1 k1)]
      simp only [acc, Nat.zero_add, h0, h1 k1]
    · rw [decode_two_no (by omega) a3 k1, decode_two_no (by omega) (by omega) (n1 k1)]
  by_cases a4 : bz s i < 240
  · by_cases k1 : cont s (i + 1)
    · by_cases k2 : cont s (i + 2)
      · rw [decode_three (by omega) a4 k1 k2, decode_three (by omega) (by omega) (c1 k1) (c2 k1 k2)]
        simp only [acc, Nat.zero_add, Nat.reduceAdd, h0, h1 k1, h2 k1 k2]
      · rw [decode_three_no (by omega) a4 (Or.inr k2), decode_three_no (by omega) (by omega) (Or.inr (n2 k1 k2))]
    · rw [decode_three_no (by omega) a4 (Or.inl k1), decode_three_no (by omega) (by omega) (Or.inl (n1 k1))]
  by_cases a5 : bz s i < 248
  · by_cases k1 : cont s (i + 1)
    · by_cases k2 : cont s (i + 2)
      · by_cases k3 : cont s (i + 3)
        · rw [decode_four (by omega) a5 k1 k2 k3, decode_four (by omega) (by omega) (c1 k1) (c2 k1 k2) (c3 k1 k2 k3)]
          simp only [acc, Nat.zero_add, Nat.reduceAdd, h0, h1 k1, h2 k1 k2, h3 k1 k2 k3]
        · rw [decode_four_no (by omega) a5 (Or.inr (Or.inr k3)), decode_four_no (by omega) (by omega) (Or.inr (Or.inr (n3 k1 k2 k3)))]
      · rw [decode_four_no (by omega) a5 (Or.inr (Or.inl k2)), decode_four_no (by omega) (by omega) (Or.inr (Or.inl (n2 k1 k2)))]
    · rw [decode_four_no (by omega) a5 (Or.inl k1), decode_four_no (by omega) (by omega) (Or.inl (n1 k1))]
  · rw [decode_none (Or.inr (by omega)), decode_none (Or.inr (by omega))]

/-- A list of bytes as a text. -/
def txt (l : List UInt8) : ByteArray := ⟨l.toArray⟩

theorem bz_txt (l : List UInt8) (i : Nat) : bz (txt l) i = (match l[i]? with | some c => (c.toNat : Int) | none => -1) := by
  unfold bz
  have hs : (txt l).size = l.length := by show l.toArray.size = _; simp
  rw [hs]
  by_cases h : i < l.length
  · rw [if_pos h, List.getElem?_eq_getElem h]
    have h2 : i < (txt l).size := by rw [hs]; exact h
    have e : (txt l).get! i = (txt l)[i] := by simp [ByteArray.get!, h2]; rfl
    rw [e]
    have e2 : (txt l)[i] = l[i] := rfl
    rw [e2]
    rfl
  · rw [if_neg h, List.getElem?_eq_none (by omega)]

theorem bz_app (a b : List UInt8) (i : Nat) : bz (txt (a ++ b)) (a.length + i) = bz (txt b) i := by
  rw [bz_txt, bz_txt, List.getElem?_append_right (by omega), Nat.add_sub_cancel_left]
theorem bz_app_left (a b : List UInt8) (i : Nat) (h : i < a.length) : bz (txt (a ++ b)) i = bz (txt a) i := by
  rw [bz_txt, bz_txt, List.getElem?_append_left h]

theorem txt_self (s : ByteArray) : txt s.data.toList = s := rfl

theorem bz_cons (c : UInt8) (l : List UInt8) (k : Nat) : bz (txt (c :: l)) (k + 1) = bz (txt l) k := by
  rw [bz_txt, bz_txt]; rfl
theorem bz_head (c : UInt8) (l : List UInt8) : bz (txt (c :: l)) 0 = (c.toNat : Int) := by
  rw [bz_txt]; rfl

/-- The same bytes from there on. -/
theorem decode_shift {s t : ByteArray} {i j : Nat} (hi : i < s.size) (h : ∀ k, bz s (i + k) = bz t (j + k)) : Utf8.decode t j = Utf8.decode s i := by
  have h0 := h 0
  simp only [Nat.add_zero] at h0
  have hs0 : 0 ≤ bz s i := by unfold bz; rw [if_pos hi]; omega
  by_cases ha : bz s i < 128
  · rw [decode_one hs0 ha, decode_one (by omega) (by omega), h0]
  · have hc : ∀ k, cont s (i + k) ↔ cont t (j + k) := fun k => by unfold cont; rw [h k]
    exact decode_same h0 (by omega) (fun _ => h 1) (fun n q => n ((hc 1).2 q)) (fun _ _ => h 2) (fun _ n q => n ((hc 2).2 q)) (fun _ _ _ => h 3) (fun _ _ n q => n ((hc 3).2 q))

theorem escB_plain {q : Bool} {c : UInt8} (h : refFor (c.toNat : Int) q = []) : escB q c = [c] := by simp [escB, h]
theorem escB_ref {q : Bool} {c : UInt8} (h : ¬ refFor (c.toNat : Int) q = []) : escB q c = refFor (c.toNat : Int) q := by simp [escB, h]

theorem refFor_head {r : Int} {q : Bool} (h : ¬ refFor r q = []) : ∃ l, refFor r q = 38 :: l := by
  unfold refFor at *
  repeat' split
  all_goals simp_all

/-- What stands first in an escaped text goes on a character just where it did. -/
theorem head_esc (q : Bool) (D : List UInt8) : (cont (txt D) 0 → bz (txt D) 0 = bz (txt (escL q D)) 0) ∧ (¬ cont (txt D) 0 → ¬ cont (txt (escL q D)) 0) := by
  cases D with
  | nil => exact ⟨fun _ => rfl, fun h => h⟩
  | cons c D =>
    by_cases h : refFor (c.toNat : Int) q = []
    · have e : escL q (c :: D) = c :: escL q D := by simp [escL, escB_plain h]
      rw [e, bz_head, bz_head]
      unfold cont
      rw [bz_head, bz_head]
      exact ⟨fun _ => rfl, fun h => h⟩
    · obtain ⟨l, hl⟩ := refFor_head h
      have e : escL q (c :: D) = 38 :: (l ++ escL q D) := by simp [escL, escB_ref h, hl]
      have hc : (c.toNat : Int) < 128 := by
        rcases Int.lt_or_le (c.toNat : Int) 128 with h' | h'
        · exact h'
        · exact absurd (refFor_high q h') h
      rw [e, bz_head, bz_head]
      unfold cont
      rw [bz_head, bz_head]
      refine ⟨fun h => by omega, fun _ h => ?_⟩
      have : ((38 : UInt8).toNat : Int) = 38 := rfl
      omega

theorem cont_cons {c : UInt8} {l : List UInt8} {k : Nat} : cont (txt (c :: l)) (k + 1) ↔ cont (txt l) k := by
  unfold cont; rw [bz_cons]

/-- A byte of a character (or of none) that is left: what decode sees is the same. -/
theorem decode_esc {q : Bool} {c : UInt8} {D : List UInt8} (h : refFor (c.toNat : Int) q = []) : Utf8.decode (txt (escL q (c :: D))) 0 = Utf8.decode (txt (c :: D)) 0 := by
  have e : escL q (c :: D) = c :: escL q D := by simp [escL, escB_plain h]
  rw [e]
  by_cases ha : (c.toNat : Int) < 128
  · rw [decode_one (by rw [bz_head]; omega) (by rw [bz_head]; exact ha), decode_one (by rw [bz_head]; omega) (by rw [bz_head]; exact ha), bz_head, bz_head]
  · have high : ∀ (d : UInt8) (X : List UInt8), cont (txt (d :: X)) 0 → escL q (d :: X) = d :: escL q X := by
      intro d X hd
      unfold cont at hd
      rw [bz_head] at hd
      simp [escL, escB_plain (refFor_high q (show (128 : Int) ≤ (d.toNat : Int) by omega))]
    have tailc : ∀ X : List UInt8, cont (txt X) 0 → ∃ d Y, X = d :: Y := by
      intro X hX
      cases X with
      | nil => unfold cont at hX; rw [bz_txt] at hX; simp at hX
      | cons d Y => exact ⟨d, Y, rfl⟩
    refine decode_same (s := txt (c :: D)) (t := txt (c :: escL q D)) (i := 0) (j := 0) (by rw [bz_head, bz_head]) (by rw [bz_head]; omega) ?_ ?_ ?_ ?_ ?_ ?_
    · intro h1
      have h1' := cont_cons.1 h1
      show bz (txt (c :: D)) (0 + 1) = bz (txt (c :: escL q D)) (0 + 1)
      rw [bz_cons, bz_cons]
      exact (head_esc q D).1 h1'
    · intro h1 h2
      exact (head_esc q D).2 (fun k => h1 (cont_cons.2 k)) (cont_cons.1 h2)
    · intro h1 h2
      have h1' := cont_cons.1 h1
      obtain ⟨d, Y, rfl⟩ := tailc D h1'
      have h2' : cont (txt Y) 0 := cont_cons.1 (cont_cons.1 h2)
      rw [high d Y h1']
      show bz (txt (c :: d :: Y)) (0 + 1 + 1) = bz (txt (c :: d :: escL q Y)) (0 + 1 + 1)
      rw [bz_cons, bz_cons, bz_cons, bz_cons]
      exact (head_esc q Y).1 h2'
    · intro h1 h2 h3
      have h1' := cont_cons.1 h1
      obtain ⟨d, Y, rfl⟩ := tailc D h1'
      rw [high d Y h1'] at h3
      exact (head_esc q Y).2 (fun k => h2 (cont_cons.2 (cont_cons.2 k))) (cont_cons.1 (cont_cons.1 h3))
    · intro h1 h2 h3
      have h1' := cont_cons.1 h1
      obtain ⟨d, Y, rfl⟩ := tailc D h1'
      have h2' : cont (txt Y) 0 := cont_cons.1 (cont_cons.1 h2)
      obtain ⟨d2, Z, rfl⟩ := tailc Y h2'
      have h3' : cont (txt Z) 0 := cont_cons.1 (cont_cons.1 (cont_cons.1 h3))
      rw [high d (d2 :: Z) h1', high d2 Z h2']
      show bz (txt (c :: d :: d2 :: Z)) (0 + 1 + 1 + 1) = bz (txt (c :: d :: d2 :: escL q Z)) (0 + 1 + 1 + 1)
      rw [bz_cons, bz_cons, bz_cons, bz_cons, bz_cons, bz_cons]
      exact (head_esc q Z).1 h3'
    · intro h1 h2 h3 h4
      have h1' := cont_cons.1 h1
      obtain ⟨d, Y, rfl⟩ := tailc D h1'
      have h2' : cont (txt Y) 0 := cont_cons.1 (cont_cons.1 h2)
      obtain ⟨d2, Z, rfl⟩ := tailc Y h2'
      rw [high d (d2 :: Z) h1', high d2 Z h2'] at h4
      exact (head_esc q Z).2 (fun k => h3 (cont_cons.2 (cont_cons.2 (cont_cons.2 k)))) (cont_cons.1 (cont_cons.1 (cont_cons.1 h4)))
end Go.Proofs.YtbbocgeapofloaiGreatDoor.Ch
namespace Go.Proofs.YtbbocgeapofloaiGreatDoor.Ch
open Go

theorem txt_size (l : List UInt8) : (txt l).size = l.length := by
  show l.toArray.size = _
  simp

theorem has_txt (X l : List UInt8) : has (txt X) 0 l = l.isPrefixOf X := by
  rw [← prefix_has]; rfl

theorem num_txt13 (X : List UInt8) : numAt (txt ([38, 35, 49, 51, 59] ++ X)) 2 10 = (13, 3) := by
  have hsz : (txt ([38, 35, 49, 51, 59] ++ X)).size - 2 + 1 = X.length + 1 + 1 + 1 + 1 := by rw [txt_size]; simp
  have b2 : bz (txt ([38, 35, 49, 51, 59] ++ X)) 2 = 49 := by rw [bz_txt]; rfl
  have b3 : bz (txt ([38, 35, 49, 51, 59] ++ X)) (2 + 1) = 51 := by rw [bz_txt]; rfl
  have b4 : bz (txt ([38, 35, 49, 51, 59] ++ X)) (2 + 1 + 1) = 59 := by rw [bz_txt]; rfl
  have e : numFrom (txt ([38, 35, 49, 51, 59] ++ X)) 10 ((txt ([38, 35, 49, 51, 59] ++ X)).size - 2 + 1) 2 0 = (13, 5) := by
    rw [hsz, numFrom.eq_2, b2, numFrom.eq_2, b3, numFrom.eq_2, b4, if_neg (by decide), if_neg (by decide), if_neg (by decide), if_neg (by decide), if_pos rfl, if_pos (by decide)]; decide
  unfold numAt
  rw [e]; decide
theorem num_txt10 (X : List UInt8) : numAt (txt ([38, 35, 49, 48, 59] ++ X)) 2 10 = (10, 3) := by
  have hsz : (txt ([38, 35, 49, 48, 59] ++ X)).size - 2 + 1 = X.length + 1 + 1 + 1 + 1 := by rw [txt_size]; simp
  have b2 : bz (txt ([38, 35, 49, 48, 59] ++ X)) 2 = 49 := by rw [bz_txt]; rfl
  have b3 : bz (txt ([38, 35, 49, 48, 59] ++ X)) (2 + 1) = 48 := by rw [bz_txt]; rfl
  have b4 : bz (txt ([38, 35, 49, 48, 59] ++ X)) (2 + 1 + 1) = 59 := by rw [bz_txt]; rfl
  have e : numFrom (txt ([38, 35, 49, 48, 59] ++ X)) 10 ((txt ([38, 35, 49, 48, 59] ++ X)).size - 2 + 1) 2 0 = (10, 5) := by
    rw [hsz, numFrom.eq_2, b2, numFrom.eq_2, b3, numFrom.eq_2, b4, if_neg (by decide), if_neg (by decide), if_neg (by decide), if_neg (by decide), if_pos rfl, if_pos (by decide)]; decide
  unfold numAt
  rw [e]; decide
theorem num_txt9 (X : List UInt8) : numAt (txt ([38, 35, 57, 59] ++ X)) 2 10 = (9, 2) := by
  have hsz : (txt ([38, 35, 57, 59] ++ X)).size - 2 + 1 = X.length + 1 + 1 + 1 := by rw [txt_size]; simp
  have b2 : bz (txt ([38, 35, 57, 59] ++ X)) 2 = 57 := by rw [bz_txt]; rfl
  have b3 : bz (txt ([38, 35, 57, 59] ++ X)) (2 + 1) = 59 := by rw [bz_txt]; rfl
  have e : numFrom (txt ([38, 35, 57, 59] ++ X)) 10 ((txt ([38, 35, 57, 59] ++ X)).size - 2 + 1) 2 0 = (9, 4) := by
    rw [hsz, numFrom.eq_2, b2, numFrom.eq_2, b3, if_neg (by decide), if_neg (by decide), if_pos rfl, if_pos (by decide)]; decide
  unfold numAt
  rw [e]; decide

/-- What Escape puts for a byte is read as that byte. -/
theorem refAt_esc {c : Int} {q : Bool} (X : List UInt8) (h : ¬ refFor c q = []) : refAt (txt (refFor c q ++ X)) 0 = (c, ((refFor c q).length : Int)) := by
  unfold refFor at *
  by_cases c1 : c = 38
  · subst c1; simp [refAt, has_txt, List.isPrefixOf]
  by_cases c2 : c = 60
  · subst c2; simp [refAt, has_txt, List.isPrefixOf]
  by_cases c3 : c = 62
  · subst c3; simp [refAt, has_txt, List.isPrefixOf]
  by_cases c4 : c = 13
  · subst c4
    have := num_txt13 X
    simp only [List.cons_append, List.nil_append] at this
    simp [refAt, has_txt, List.isPrefixOf, this]
  cases q
  · simp [c1, c2, c3, c4] at h
  by_cases c5 : c = 34
  · subst c5; simp [refAt, has_txt, List.isPrefixOf]
  by_cases c6 : c = 9
  · subst c6
    have := num_txt9 X
    simp only [List.cons_append, List.nil_append] at this
    simp [refAt, has_txt, List.isPrefixOf, this]
  by_cases c7 : c = 10
  · subst c7
    have := num_txt10 X
    simp only [List.cons_append, List.nil_append] at this
    simp [refAt, has_txt, List.isPrefixOf, this]
  · simp [c1, c2, c3, c4, c5, c6, c7] at h

theorem refFor_may {c : Int} {q : Bool} (h : ¬ refFor c q = []) : (may c = true ∧ 0 ≤ c ∧ c < 128) := by
  unfold refFor at h
  have : c = 38 ∨ c = 60 ∨ c = 62 ∨ c = 13 ∨ c = 34 ∨ c = 9 ∨ c = 10 := by
    repeat' split at h
    all_goals first | omega | (exact absurd rfl h)
  rcases this with rfl | rfl | rfl | rfl | rfl | rfl | rfl <;> decide

theorem encode_ascii {c : UInt8} (h : (c.toNat : Int) < 128) : Lib.encodeRune (c.toNat : Int) = [c] := by
  simp only [Lib.encodeRune]
  rw [Lib.encodeRuneZ_one (by omega) (by omega)]
  simp

/-- Where a place of a text lies in its escaped form. -/
def pre (q : Bool) (L : List UInt8) (p : Nat) : Nat := (escL q (L.take p)).length

theorem escL_split (q : Bool) (L : List UInt8) (p : Nat) : escL q L = escL q (L.take p) ++ escL q (L.drop p) := by
  rw [← escL_append, List.take_append_drop]

theorem escB_pos (q : Bool) (c : UInt8) : 1 ≤ (escB q c).length := by
  by_cases h : refFor (c.toNat : Int) q = []
  · rw [escB_plain h]; simp
  · obtain ⟨l, hl⟩ := refFor_head h
    rw [escB_ref h, hl]; simp

theorem escL_ge (q : Bool) (L : List UInt8) : L.length ≤ (escL q L).length := by
  induction L with
  | nil => simp [escL]
  | cons c L ih =>
    have := escB_pos q c
    have e : escL q (c :: L) = escB q c ++ escL q L := by simp [escL]
    rw [e]; simp; omega

theorem pre_ge {q : Bool} {L : List UInt8} {p : Nat} (h : p ≤ L.length) : p ≤ pre q L p := by
  have := escL_ge q (L.take p)
  unfold pre
  simp at this
  omega

theorem tail_esc (q : Bool) (L : List UInt8) (p : Nat) : tail (txt (escL q L)) (pre q L p) = txt (escL q (L.drop p)) := by
  apply ByteArray.ext
  apply Array.toList_inj.1
  have h := escL_split q L p
  show (escL q L).toArray.toList.drop (pre q L p) = escL q (L.drop p)
  rw [List.toList_toArray, h]
  exact List.drop_left' rfl

theorem decode_at_tail {s : ByteArray} {k : Nat} (h : k < s.size) : Utf8.decode s k = Utf8.decode (tail s k) 0 :=
  decode_shift (s := tail s k) (t := s) (i := 0) (j := k) (by rw [tail_size]; omega) (fun j => by rw [tail_bz, Nat.zero_add])

theorem okAt_of {s t : ByteArray} {i j : Nat} (h : Utf8.decode t j = Utf8.decode s i) : okAt t j = okAt s i := by
  unfold okAt; rw [h]

theorem drop_head {s : ByteArray} {p : Nat} (h : p < s.size) : s.data.toList.drop p = s.get! p :: s.data.toList.drop (p + 1) := drop_cons s p h

theorem esc_len_lt {s : ByteArray} {q : Bool} {p : Nat} (h : p < s.size) : pre q s.data.toList p < (txt (escL q s.data.toList)).size := by
  rw [txt_size, escL_split q s.data.toList p, List.length_append]
  have := escL_ge q (s.data.toList.drop p)
  have e : (s.data.toList.drop p).length = s.size - p := by simp
  unfold pre
  omega

/-- A byte that is left: the two texts are read alike there. -/
theorem esc_alike {s : ByteArray} {q : Bool} {p : Nat} (h : p < s.size) (hr : refFor (bz s p) q = []) :
    Utf8.decode (txt (escL q s.data.toList)) (pre q s.data.toList p) = Utf8.decode s p ∧ bz (txt (escL q s.data.toList)) (pre q s.data.toList p) = bz s p := by
  have hb : bz s p = ((s.get! p).toNat : Int) := by unfold bz; rw [if_pos h]
  rw [hb] at hr
  have ht : tail s p = txt (s.get! p :: s.data.toList.drop (p + 1)) := by
    rw [← drop_head h]; rfl
  constructor
  · rw [decode_at_tail (esc_len_lt h), tail_esc, decode_at_tail h, ht, drop_head h]
    exact decode_esc hr
  · have := tail_bz (txt (escL q s.data.toList)) (pre q s.data.toList p) 0
    rw [tail_esc, Nat.add_zero, drop_head h] at this
    rw [← this, hb]
    have e : escL q (s.get! p :: s.data.toList.drop (p + 1)) = s.get! p :: escL q (s.data.toList.drop (p + 1)) := by simp [escL, escB_plain hr]
    rw [e, bz_head]

theorem pre_plain {s : ByteArray} {q : Bool} {p : Nat} : ∀ n, p + n ≤ s.size → (∀ j, p ≤ j → j < p + n → refFor (bz s j) q = []) → pre q s.data.toList (p + n) = pre q s.data.toList p + n := by
  intro n
  induction n with
  | zero => intro _ _; rfl
  | succ n ih =>
    intro hn hj
    have h2 := ih (by omega) (fun j a b => hj j a (by omega))
    have h3 := hj (p + n) (by omega) (by omega)
    have hlt : p + n < s.size := by omega
    have hb : bz s (p + n) = ((s.get! (p + n)).toNat : Int) := by unfold bz; rw [if_pos hlt]
    rw [hb] at h3
    unfold pre at *
    rw [← Nat.add_assoc, take_get s (p + n) hlt, escL_append, List.length_append, h2]
    simp [escL, escB_plain h3]
    omega
theorem pre_ref {s : ByteArray} {q : Bool} {p : Nat} (hlt : p < s.size) (hr : ¬ refFor (bz s p) q = []) : pre q s.data.toList (p + 1) = pre q s.data.toList p + (refFor (bz s p) q).length := by
  have hb : bz s p = ((s.get! p).toNat : Int) := by unfold bz; rw [if_pos hlt]
  rw [hb] at hr ⊢
  unfold pre
  rw [take_get s p hlt, escL_append, List.length_append]
  simp [escL, escB_ref hr]

theorem take_bytes {s : ByteArray} {p n : Nat} : s.data.toList.take p ++ bytes s p n = s.data.toList.take (p + n) := by
  unfold bytes
  exact (List.take_add (l := s.data.toList) (i := p) (j := n)).symm

/-- WHAT IS ESCAPED IS READ AGAIN AS IT WAS; or, where a byte is wrong, up to that. -/
theorem back_from (s : ByteArray) (q : Bool) : ∀ f p F, p ≤ s.size → s.size < p + f → f ≤ F →
    unescFrom (txt (escL q s.data.toList)) F (pre q s.data.toList p) (s.data.toList.take p) = if badFrom s f p = s.size then (s.data.toList, 0, 0) else ([], 2, (pre q s.data.toList (badFrom s f p) : Int)) := by
  intro f
  induction f with
  | zero => intro p F h1 h2; omega
  | succ f ih =>
    intro p F h1 h2 hF
    obtain ⟨F, rfl⟩ : ∃ k, F = k + 1 := ⟨F - 1, by omega⟩
    by_cases hp : p < s.size
    · have hlt := esc_len_lt (q := q) hp
      have hb : bz s p = ((s.get! p).toNat : Int) := by unfold bz; rw [if_pos hp]
      by_cases hr : refFor (bz s p) q = []
      · obtain ⟨hd, hbz⟩ := esc_alike hp hr
        have hne : ¬ bz s p = 38 := fun e => by rw [e] at hr; simp [refFor] at hr
        cases hok : okAt s p
        · have hb1 : badFrom s (f + 1) p = p := by rw [badFrom.eq_2, if_pos hp, if_neg (by rw [hok]; decide)]
          rw [hb1, if_neg (by omega)]
          exact (unesc_char hlt (by rw [okAt_of hd]; exact hok) rfl)
        · have hb1 : badFrom s (f + 1) p = badFrom s f (p + (Utf8.decode s p).2) := by rw [badFrom.eq_2, if_pos hp, if_pos hok]
          have hwd := decode_width s p hp
          rw [hb1, ← ih (p + (Utf8.decode s p).2) F hwd.1 (by omega) (by omega)]
          have hpl : ∀ j, p ≤ j → j < p + (Utf8.decode s p).2 → refFor (bz s j) q = [] := by
            intro j j1 j2
            rcases decode_byte s p hp with ⟨h0, h1, hdd⟩ | ⟨h0, h1⟩
            · rw [hdd] at j2
              obtain rfl : p = j := by simp only at j2; omega
              exact hr
            · exact refFor_high q (bytes_high hp h0 j j1 j2)
          have h := unesc_on hlt (by rw [okAt_of hd]; exact hok) (by rw [hbz]; exact hne) (rfl : unescFrom (txt (escL q s.data.toList)) (F + 1) (pre q s.data.toList p) (s.data.toList.take p) = _)
          rw [← h, hd, encode_decode hp hok, take_bytes, pre_plain _ hwd.1 hpl]
      · obtain ⟨hm, h0, h128⟩ := refFor_may hr
        have hdd := decode_one h0 h128
        have hok : okAt s p = true := by
          unfold okAt
          rw [hdd]
          have e1 : (((bz s p).toNat : Nat) : Int) = bz s p := by omega
          have e2 : ((bz s p).toNat != 65533) = true := by rw [bne_iff_ne]; omega
          simp only [e1, hm, e2, Bool.true_or, Bool.and_self]
        have hb1 : badFrom s (f + 1) p = badFrom s f (p + 1) := by rw [badFrom.eq_2, if_pos hp, if_pos hok, hdd]
        rw [hb1, ← ih (p + 1) F (by omega) (by omega) (by omega)]
        have hte : tail (txt (escL q s.data.toList)) (pre q s.data.toList p) = txt (refFor (bz s p) q ++ escL q (s.data.toList.drop (p + 1))) := by
          rw [tail_esc, drop_head hp]
          congr 1
          rw [hb] at hr ⊢
          simp [escL, escB_ref hr]
        obtain ⟨l, hl⟩ := refFor_head hr
        have hb38 : bz (txt (escL q s.data.toList)) (pre q s.data.toList p) = 38 := by
          have := tail_bz (txt (escL q s.data.toList)) (pre q s.data.toList p) 0
          rw [hte, hl, List.cons_append, bz_head, Nat.add_zero] at this
          exact this.symm
        have hde := decode_one (s := txt (escL q s.data.toList)) (i := pre q s.data.toList p) (by omega) (by omega)
        have hok2 : okAt (txt (escL q s.data.toList)) (pre q s.data.toList p) = true := by
          unfold okAt; rw [hde, hb38]; decide
        have hra : refAt (txt (escL q s.data.toList)) (pre q s.data.toList p) = (bz s p, ((refFor (bz s p) q).length : Int)) := by
          rw [← refAt_tail, hte]; exact refAt_esc _ hr
        have hln : ¬ (refAt (txt (escL q s.data.toList)) (pre q s.data.toList p)).2 = 0 := by
          rw [hra, hl]; simp; omega
        have h := unesc_ref hlt hok2 hb38 hln (rfl : unescFrom (txt (escL q s.data.toList)) (F + 1) (pre q s.data.toList p) (s.data.toList.take p) = _)
        rw [← h, hra]
        simp only [Int.toNat_natCast]
        rw [pre_ref hp hr, take_get s p hp, hb, encode_ascii (by omega)]
    · have hb1 : badFrom s (f + 1) p = s.size := by rw [badFrom.eq_2, if_neg hp]
      rw [hb1, if_pos rfl]
      have e1 : s.data.toList.take p = s.data.toList := List.take_of_length_le (by simp; omega)
      have e2 : ¬ pre q s.data.toList p < (txt (escL q s.data.toList)).size := by
        rw [txt_size]; unfold pre; rw [e1]; omega
      rw [e1]
      exact unesc_end e2 rfl

theorem back (s : ByteArray) (q : Bool) : unesc (txt (esc s q)) = if bad s = s.size then (s.data.toList, 0, 0) else ([], 2, (pre q s.data.toList (bad s) : Int)) := by
  have hle : s.size ≤ (esc s q).length := by
    have := escL_ge q s.data.toList
    simpa [esc] using this
  have h := back_from s q (s.size + 1) 0 ((txt (esc s q)).size + 1) (by omega) (by omega) (by rw [txt_size]; omega)
  exact h

theorem refFor_signs {c : Int} {q : Bool} : ∀ x ∈ refFor c q, x ≠ 60 ∧ x ≠ 62 ∧ x ≠ 13 ∧ x ≠ 34 ∧ x ≠ 9 ∧ x ≠ 10 := by
  unfold refFor
  repeat' split
  all_goals decide

theorem signs {q : Bool} {L : List UInt8} : ∀ x ∈ escL q L, x ≠ 60 ∧ x ≠ 62 ∧ x ≠ 13 ∧ (q = true → x ≠ 34 ∧ x ≠ 9 ∧ x ≠ 10) := by
  intro x hx
  simp only [escL, List.mem_flatMap] at hx
  obtain ⟨c, _, hc⟩ := hx
  by_cases h : refFor (c.toNat : Int) q = []
  · rw [escB_plain h] at hc
    simp only [List.mem_singleton] at hc
    subst hc
    refine ⟨?_, ?_, ?_, ?_⟩
    · rintro rfl; simp [refFor] at h
    · rintro rfl; simp [refFor] at h
    · rintro rfl; simp [refFor] at h
    · rintro rfl
      refine ⟨?_, ?_, ?_⟩ <;> rintro rfl <;> simp [refFor] at h
  · rw [escB_ref h] at hc
    obtain ⟨a, b, c, d, e, f⟩ := refFor_signs x hc
    exact ⟨a, b, c, fun _ => ⟨d, e, f⟩⟩
end Go.Proofs.YtbbocgeapofloaiGreatDoor.Ch
namespace Go.Proofs.YtbbocgeapofloaiGreatDoor.Ch
open Go

/-- A character is told by its own bytes. -/
theorem decode_prefix {s t : ByteArray} {i j : Nat} (h : i < s.size) (ho : okAt s i = true) (hb : ∀ k, k < (Utf8.decode s i).2 → bz s (i + k) = bz t (j + k)) : Utf8.decode t j = Utf8.decode s i := by
  have h0 : 0 ≤ bz s i := by unfold bz; rw [if_pos h]; omega
  have hbd := bz_bd s i
  have nb : Utf8.decode s i ≠ (65533, 1) := fun e => by rw [okAt_bad e] at ho; cases ho
  have hw := decode_width s i h
  have b0 := hb 0 (by omega)
  simp only [Nat.add_zero] at b0
  by_cases a1 : bz s i < 128
  · rw [decode_one h0 a1, decode_one (by omega) (by omega), b0]
  by_cases a2 : bz s i < 192
  · exact absurd (decode_none (Or.inl ⟨by omega, a2⟩)) nb
  by_cases a3 : bz s i < 224
  · by_cases c1 : cont s (i + 1)
    · have hd := decode_two (by omega) a3 c1
      by_cases hz : 128 ≤ acc s i (bz s i - 192) 1
      · rw [if_pos hz] at hd
        rw [hd] at hb
        have b1 := hb 1 (by simp)
        have d1 : cont t (j + 1) := by unfold cont at *; rw [← b1]; exact c1
        rw [decode_two (by omega) a3 c1, decode_two (by omega) (by omega) d1]
        simp only [acc, Nat.zero_add, b0, b1]
      · rw [if_neg hz] at hd; exact absurd hd nb
    · exact absurd (decode_two_no (by omega) a3 c1) nb
  by_cases a4 : bz s i < 240
  · by_cases c1 : cont s (i + 1)
    · by_cases c2 : cont s (i + 2)
      · have hd := decode_three (by omega) a4 c1 c2
        by_cases hz : 2048 ≤ acc s i (bz s i - 224) 2 ∧ Utf8.valid (acc s i (bz s i - 224) 2) = true
        · rw [if_pos hz] at hd
          rw [hd] at hb
          have b1 := hb 1 (by simp)
          have b2 := hb 2 (by simp)
          have d1 : cont t (j + 1) := by unfold cont at *; rw [← b1]; exact c1
          have d2 : cont t (j + 2) := by unfold cont at *; rw [← b2]; exact c2
          rw [decode_three (by omega) a4 c1 c2, decode_three (by omega) (by omega) d1 d2]
          simp only [acc, Nat.zero_add, Nat.reduceAdd, b0, b1, b2]
        · rw [if_neg hz] at hd; exact absurd hd nb
      · exact absurd (decode_three_no (by omega) a4 (Or.inr c2)) nb
    · exact absurd (decode_three_no (by omega) a4 (Or.inl c1)) nb
  by_cases a5 : bz s i < 248
  · by_cases c1 : cont s (i + 1)
    · by_cases c2 : cont s (i + 2)
      · by_cases c3 : cont s (i + 3)
        · have hd := decode_four (by omega) a5 c1 c2 c3
          by_cases hz : 65536 ≤ acc s i (bz s i - 240) 3 ∧ Utf8.valid (acc s i (bz s i - 240) 3) = true
          · rw [if_pos hz] at hd
            rw [hd] at hb
            have b1 := hb 1 (by simp)
            have b2 := hb 2 (by simp)
            have b3 := hb 3 (by simp)
            have d1 : cont t (j + 1) := by unfold cont at *; rw [← b1]; exact c1
            have d2 : cont t (j + 2) := by unfold cont at *; rw [← b2]; exact c2
            have d3 : cont t (j + 3) := by unfold cont at *; rw [← b3]; exact c3
            rw [decode_four (by omega) a5 c1 c2 c3, decode_four (by omega) (by omega) d1 d2 d3]
            simp only [acc, Nat.zero_add, Nat.reduceAdd, b0, b1, b2, b3]
          · rw [if_neg hz] at hd; exact absurd hd nb
        · exact absurd (decode_four_no (by omega) a5 (Or.inr (Or.inr c3))) nb
      · exact absurd (decode_four_no (by omega) a5 (Or.inr (Or.inl c2))) nb
    · exact absurd (decode_four_no (by omega) a5 (Or.inl c1)) nb
  · exact absurd (decode_none (Or.inr (by omega))) nb

theorem okSame {s t : ByteArray} {i j : Nat} (h : Utf8.decode t j = Utf8.decode s i) : okAt t j = okAt s i := by
  unfold okAt; rw [h]

section
variable {a b ab : ByteArray}

/-- Two texts, one behind the other. -/
def joined (a b ab : ByteArray) : Prop := ab.size = a.size + b.size ∧ (∀ k, k < a.size → bz ab k = bz a k) ∧ ∀ k, bz ab (a.size + k) = bz b k

theorem join_ok (hj : joined a b ab) {p : Nat} (hp : p < a.size) (ho : okAt a p = true) : Utf8.decode ab p = Utf8.decode a p := by
  have hw := decode_width a p hp
  exact decode_prefix hp ho (fun k hk => (hj.2.1 (p + k) (by omega)).symm)

theorem join_second (hj : joined a b ab) {k : Nat} (hk : k < b.size) : Utf8.decode ab (a.size + k) = Utf8.decode b k :=
  decode_shift (s := b) (t := ab) (i := k) (j := a.size + k) hk (fun i => by rw [Nat.add_assoc, hj.2.2])

theorem badFrom_ge (s : ByteArray) : ∀ f p, p ≤ s.size → p ≤ badFrom s f p := by
  intro f
  induction f with
  | zero => intro p _; exact Nat.le_refl _
  | succ f ih =>
    intro p hp
    rw [badFrom.eq_2]
    by_cases h : p < s.size
    · have hw := decode_width s p h
      rw [if_pos h]
      split
      · have := ih (p + (Utf8.decode s p).2) hw.1; omega
      · omega
    · rw [if_neg h]; exact hp

theorem nameFrom_ge (s : ByteArray) : ∀ f p, p ≤ s.size → p ≤ nameFrom s f p := by
  intro f
  induction f with
  | zero => intro p _; exact Nat.le_refl _
  | succ f ih =>
    intro p hp
    rw [nameFrom.eq_2]
    by_cases h : p < s.size
    · have hw := decode_width s p h
      rw [if_pos h]
      split
      · have := ih (p + (Utf8.decode s p).2) hw.1; omega
      · omega
    · rw [if_neg h]; exact hp
theorem nameFrom_le (s : ByteArray) : ∀ f p, p ≤ s.size → nameFrom s f p ≤ s.size := by
  intro f
  induction f with
  | zero => intro p h; exact h
  | succ f ih =>
    intro p h
    rw [nameFrom.eq_2]
    by_cases hp : p < s.size
    · rw [if_pos hp]
      split
      · exact ih _ (decode_width s p hp).1
      · exact h
    · rw [if_neg hp]; exact Nat.le_refl _

theorem badFrom_fuel (s : ByteArray) : ∀ F F' p, p ≤ s.size → s.size < p + F → s.size < p + F' → badFrom s F p = badFrom s F' p := by
  intro F
  induction F with
  | zero => intro F' p h0 h h'; omega
  | succ F ih =>
    intro F' p h0 h h'
    obtain ⟨F', rfl⟩ : ∃ k, F' = k + 1 := ⟨F' - 1, by omega⟩
    rw [badFrom.eq_2, badFrom.eq_2]
    by_cases hp : p < s.size
    · have hw := decode_width s p hp
      rw [if_pos hp, if_pos hp]
      split
      · exact ih F' _ hw.1 (by omega) (by omega)
      · rfl
    · rw [if_neg hp, if_neg hp]

theorem bad_second (hj : joined a b ab) : ∀ F k, k ≤ b.size → badFrom ab F (a.size + k) = if F = 0 then a.size + k else a.size + badFrom b F k := by
  intro F
  induction F with
  | zero => intro k _; rfl
  | succ F ih =>
    intro k hk
    rw [if_neg (by omega), badFrom.eq_2, badFrom.eq_2]
    by_cases h : k < b.size
    · have hd := join_second hj h
      have hw := decode_width b k h
      rw [if_pos (by rw [hj.1]; omega), if_pos h, okSame hd, hd]
      split
      · rw [Nat.add_assoc, ih _ hw.1]
        split
        · rename_i e; subst e; rfl
        · rfl
      · rfl
    · rw [if_neg (by rw [hj.1]; omega), if_neg h, hj.1]

theorem bad_first (hj : joined a b ab) : ∀ f p F, p ≤ a.size → a.size < p + f → ab.size < p + F →
    badFrom a f p ≤ badFrom ab F p ∧ (badFrom a f p = a.size → badFrom ab F p = a.size + bad b) := by
  intro f
  induction f with
  | zero => intro p F h1 h2; omega
  | succ f ih =>
    intro p F h1 h2 h3
    have hsz := hj.1
    obtain ⟨F, rfl⟩ : ∃ k, F = k + 1 := ⟨F - 1, by omega⟩
    by_cases hp : p < a.size
    · have hw := decode_width a p hp
      cases hok : okAt a p
      · have e : badFrom a (f + 1) p = p := by rw [badFrom.eq_2, if_pos hp, if_neg (by rw [hok]; decide)]
        rw [e]
        exact ⟨badFrom_ge ab _ _ (by omega), fun h => by omega⟩
      · have hd := join_ok hj hp hok
        have e : badFrom a (f + 1) p = badFrom a f (p + (Utf8.decode a p).2) := by rw [badFrom.eq_2, if_pos hp, if_pos hok]
        have e2 : badFrom ab (F + 1) p = badFrom ab F (p + (Utf8.decode a p).2) := by
          rw [badFrom.eq_2, if_pos (by omega), if_pos (by rw [okSame hd]; exact hok), hd]
        rw [e, e2]
        exact ih _ _ hw.1 (by omega) (by omega)
    · obtain rfl : p = a.size := by omega
      have e : badFrom a (f + 1) a.size = a.size := by rw [badFrom.eq_2, if_neg hp]
      have e2 : badFrom ab (F + 1) a.size = a.size + badFrom b (F + 1) 0 := by
        have h := bad_second hj (F + 1) 0 (by omega)
        rw [if_neg (by omega)] at h
        exact h
      rw [e, e2]
      refine ⟨by omega, fun _ => ?_⟩
      rw [bad, badFrom_fuel b (F + 1) (b.size + 1) 0 (by omega) (by omega) (by omega)]

theorem inName_same {s t : ByteArray} {p : Nat} (h : Utf8.decode t p = Utf8.decode s p) : inName t p = inName s p := by
  unfold inName; rw [okSame h, h]

theorem name_first (hj : joined a b ab) : ∀ f p F, p ≤ a.size → a.size < p + f → ab.size < p + F →
    nameFrom a f p ≤ nameFrom ab F p ∧ (badFrom a f p = a.size → nameFrom a f p < a.size → nameFrom ab F p = nameFrom a f p) := by
  intro f
  induction f with
  | zero => intro p F h1 h2; omega
  | succ f ih =>
    intro p F h1 h2 h3
    have hsz := hj.1
    obtain ⟨F, rfl⟩ : ∃ k, F = k + 1 := ⟨F - 1, by omega⟩
    by_cases hp : p < a.size
    · have hw := decode_width a p hp
      cases hin : inName a p
      · have e : nameFrom a (f + 1) p = p := by rw [nameFrom.eq_2, if_pos hp, if_neg (by rw [hin]; decide)]
        rw [e]
        refine ⟨nameFrom_ge ab _ _ (by omega), fun hb _ => ?_⟩
        cases hok : okAt a p
        · rw [badFrom.eq_2, if_pos hp, if_neg (by rw [hok]; decide)] at hb; omega
        · have hd := join_ok hj hp hok
          rw [nameFrom.eq_2, if_pos (by omega), if_neg (by rw [inName_same hd, hin]; decide)]
      · have hok : okAt a p = true := by
          unfold inName at hin
          simp only [Bool.and_eq_true] at hin
          exact hin.1
        have hd := join_ok hj hp hok
        have e : nameFrom a (f + 1) p = nameFrom a f (p + (Utf8.decode a p).2) := by rw [nameFrom.eq_2, if_pos hp, if_pos hin]
        have e2 : nameFrom ab (F + 1) p = nameFrom ab F (p + (Utf8.decode a p).2) := by
          rw [nameFrom.eq_2, if_pos (by omega), if_pos (by rw [inName_same hd]; exact hin), hd]
        have e3 : badFrom a (f + 1) p = badFrom a f (p + (Utf8.decode a p).2) := by rw [badFrom.eq_2, if_pos hp, if_pos hok]
        rw [e, e2, e3]
        exact ih _ _ hw.1 (by omega) (by omega)
    · obtain rfl : p = a.size := by omega
      have e : nameFrom a (f + 1) a.size = a.size := by rw [nameFrom.eq_2, if_neg hp]
      rw [e]
      exact ⟨nameFrom_ge ab _ _ (by omega), fun _ h => by omega⟩
end

theorem joined_append (a b : ByteArray) : joined a b (a ++ b) := by
  have hs : (a ++ b).size = a.size + b.size := ByteArray.size_append
  have hl : (a ++ b) = txt (a.data.toList ++ b.data.toList) := by
    apply ByteArray.ext
    apply Array.toList_inj.1
    simp [txt]
  have hla : a.data.toList.length = a.size := by simp
  refine ⟨hs, ?_, ?_⟩
  · intro k hk
    rw [hl, bz_app_left _ _ _ (by rw [hla]; exact hk), txt_self]
  · intro k
    rw [hl]
    have := bz_app a.data.toList b.data.toList k
    rw [hla] at this
    rw [this, txt_self]

theorem esc_append (a b : ByteArray) (q : Bool) : esc (a ++ b) q = esc a q ++ esc b q := by
  have : (a ++ b).data.toList = a.data.toList ++ b.data.toList := by simp
  unfold esc
  rw [this, escL_append]
end Go.Proofs.YtbbocgeapofloaiGreatDoor.Ch
namespace Go.Proofs.YtbbocgeapofloaiGreatDoor.Ch
open Go

theorem valid_iff (r : Int) : Utf8.valid r = true ↔ (0 ≤ r ∧ r < 55296) ∨ (57343 < r ∧ r ≤ 1114111) := by
  simp only [Utf8.valid, Bool.or_eq_true, Bool.and_eq_true, decide_eq_true_eq]; omega

theorem encode_eq {c : Int} (hv : Utf8.valid c = true) : Utf8.encode c = txt (Lib.encodeRune c) := by
  have h := (valid_iff c).1 hv
  unfold Utf8.encode
  simp only [hv, if_true]
  obtain ⟨n, rfl⟩ : ∃ n : Nat, c = n := ⟨c.toNat, by omega⟩
  have e1 : (n : Int).toNat = n := by omega
  rw [e1]
  simp only [txt, Lib.encodeRune]
  by_cases a1 : n < 128
  · rw [if_pos a1, Lib.encodeRuneZ_one (by omega) (by omega)]
    simp
  rw [if_neg a1]
  by_cases a2 : n < 2048
  · rw [if_pos a2, Lib.encodeRuneZ_two (by omega) (by omega)]
    have e2 : ((192 : Int) + (n : Int) / 64).toNat = 192 + n / 64 := by omega
    have e3 : ((128 : Int) + (n : Int) % 64).toNat = 128 + n % 64 := by omega
    simp [e2, e3]
  rw [if_neg a2]
  by_cases a3 : n < 65536
  · rw [if_pos a3, Lib.encodeRuneZ_three (by omega)]
    have e2 : ((224 : Int) + (n : Int) / 4096).toNat = 224 + n / 4096 := by omega
    have e3 : ((128 : Int) + (n : Int) / 64 % 64).toNat = 128 + n / 64 % 64 := by omega
    have e4 : ((128 : Int) + (n : Int) % 64).toNat = 128 + n % 64 := by omega
    simp [e2, e3, e4]
  · rw [if_neg a3, Lib.encodeRuneZ_four (by omega) (by omega)]
    have e2 : ((240 : Int) + (n : Int) / 262144).toNat = 240 + n / 262144 := by omega
    have e5 : ((128 : Int) + (n : Int) / 4096 % 64).toNat = 128 + n / 4096 % 64 := by omega
    have e3 : ((128 : Int) + (n : Int) / 64 % 64).toNat = 128 + n / 64 % 64 := by omega
    have e4 : ((128 : Int) + (n : Int) % 64).toNat = 128 + n % 64 := by omega
    simp [e2, e3, e4, e5]

theorem u8_back {x : Int} (h0 : 0 ≤ x) (h1 : x < 256) : ((x.toNat.toUInt8).toNat : Int) = x := by
  have : x.toNat.toUInt8.toNat = x.toNat := by simp; omega
  omega

/-- A character that was written is read again. -/
theorem dec_enc {c : Int} (hv : Utf8.valid c = true) (l : List UInt8) : Utf8.decode (txt (Lib.encodeRune c ++ l)) 0 = (c.toNat, (Lib.encodeRune c).length) := by
  have h := (valid_iff c).1 hv
  by_cases a1 : c < 128
  · have e : Lib.encodeRune c = [c.toNat.toUInt8] := by simp [Lib.encodeRune, Lib.encodeRuneZ_one (show 0 ≤ c by omega) (show c ≤ 127 by omega)]
    rw [e]
    have b0 : bz (txt ([c.toNat.toUInt8] ++ l)) 0 = c := by
      show bz (txt (c.toNat.toUInt8 :: l)) 0 = c
      rw [bz_head]; exact u8_back (by omega) (by omega)
    rw [decode_one (by omega) (by omega), b0]
    rfl
  by_cases a2 : c < 2048
  · have e : Lib.encodeRune c = [(192 + c / 64).toNat.toUInt8, (128 + c % 64).toNat.toUInt8] := by simp [Lib.encodeRune, Lib.encodeRuneZ_two (show 128 ≤ c by omega) (show c ≤ 2047 by omega)]
    rw [e]
    generalize hs : txt ([(192 + c / 64).toNat.toUInt8, (128 + c % 64).toNat.toUInt8] ++ l) = s
    have b0 : bz s 0 = 192 + c / 64 := by
      rw [← hs]; exact (bz_head _ _).trans (u8_back (by omega) (by omega))
    have b1 : bz s 1 = 128 + c % 64 := by
      rw [← hs]; exact ((bz_cons _ _ 0).trans (bz_head _ _)).trans (u8_back (by omega) (by omega))
    rw [decode_two (by omega) (by omega) (by show cont s 1; unfold cont; omega)]
    have ea : acc s 0 (bz s 0 - 192) 1 = c := by simp only [acc, b0, b1, Nat.zero_add]; omega
    rw [ea, if_pos (by omega)]
    rfl
  by_cases a3 : c < 65536
  · have e : Lib.encodeRune c = [(224 + c / 4096).toNat.toUInt8, (128 + c / 64 % 64).toNat.toUInt8, (128 + c % 64).toNat.toUInt8] := by simp [Lib.encodeRune, Lib.encodeRuneZ_three (show (2048 ≤ c ∧ c < 55296) ∨ (57343 < c ∧ c ≤ 65535) by omega)]
    rw [e]
    generalize hs : txt ([(224 + c / 4096).toNat.toUInt8, (128 + c / 64 % 64).toNat.toUInt8, (128 + c % 64).toNat.toUInt8] ++ l) = s
    have b0 : bz s 0 = 224 + c / 4096 := by
      rw [← hs]; exact (bz_head _ _).trans (u8_back (by omega) (by omega))
    have b1 : bz s 1 = 128 + c / 64 % 64 := by
      rw [← hs]; exact ((bz_cons _ _ 0).trans (bz_head _ _)).trans (u8_back (by omega) (by omega))
    have b2 : bz s 2 = 128 + c % 64 := by
      rw [← hs]; exact ((bz_cons _ _ 1).trans ((bz_cons _ _ 0).trans (bz_head _ _))).trans (u8_back (by omega) (by omega))
    rw [decode_three (by omega) (by omega) (by show cont s 1; unfold cont; omega) (by show cont s 2; unfold cont; omega)]
    have ea : acc s 0 (bz s 0 - 224) 2 = c := by simp only [acc, b0, b1, b2, Nat.zero_add, Nat.reduceAdd]; omega
    rw [ea, if_pos ⟨by omega, hv⟩]
    rfl
  · have e : Lib.encodeRune c = [(240 + c / 262144).toNat.toUInt8, (128 + c / 4096 % 64).toNat.toUInt8, (128 + c / 64 % 64).toNat.toUInt8, (128 + c % 64).toNat.toUInt8] := by simp [Lib.encodeRune, Lib.encodeRuneZ_four (show 65536 ≤ c by omega) (show c ≤ 1114111 by omega)]
    rw [e]
    generalize hs : txt ([(240 + c / 262144).toNat.toUInt8, (128 + c / 4096 % 64).toNat.toUInt8, (128 + c / 64 % 64).toNat.toUInt8, (128 + c % 64).toNat.toUInt8] ++ l) = s
    have b0 : bz s 0 = 240 + c / 262144 := by
      rw [← hs]; exact (bz_head _ _).trans (u8_back (by omega) (by omega))
    have b1 : bz s 1 = 128 + c / 4096 % 64 := by
      rw [← hs]; exact ((bz_cons _ _ 0).trans (bz_head _ _)).trans (u8_back (by omega) (by omega))
    have b2 : bz s 2 = 128 + c / 64 % 64 := by
      rw [← hs]; exact ((bz_cons _ _ 1).trans ((bz_cons _ _ 0).trans (bz_head _ _))).trans (u8_back (by omega) (by omega))
    have b3 : bz s 3 = 128 + c % 64 := by
      rw [← hs]; exact ((bz_cons _ _ 2).trans ((bz_cons _ _ 1).trans ((bz_cons _ _ 0).trans (bz_head _ _)))).trans (u8_back (by omega) (by omega))
    rw [decode_four (by omega) (by omega) (by show cont s 1; unfold cont; omega) (by show cont s 2; unfold cont; omega) (by show cont s 3; unfold cont; omega)]
    have ea : acc s 0 (bz s 0 - 240) 3 = c := by simp only [acc, b0, b1, b2, b3, Nat.zero_add, Nat.reduceAdd]; omega
    rw [ea, if_pos ⟨by omega, hv⟩]
    rfl

theorem enc_pos (c : Int) : 1 ≤ (Lib.encodeRune c).length := by
  simp only [Lib.encodeRune, Lib.encodeRuneZ, List.length_map]
  repeat' split
  all_goals simp

theorem ok_enc {c : Int} (hm : may c = true) (l : List UInt8) : okAt (txt (Lib.encodeRune c ++ l)) 0 = true := by
  have hv := valid_of_may hm
  have h := (valid_iff c).1 hv
  unfold okAt
  rw [dec_enc hv]
  have e : ((c.toNat : Nat) : Int) = c := by omega
  simp only [e, hm, Bool.true_and, Bool.or_eq_true, bne_iff_ne, ne_eq, beq_iff_eq]
  by_cases h3 : c.toNat = 65533
  · right
    have : c = 65533 := by omega
    subst this; decide
  · exact Or.inl h3

theorem name_begins {c : Int} (hm : may c = true) : (0 < name (txt (Lib.encodeRune c))) ↔ begins c = true := by
  have hv := valid_of_may hm
  have h := (valid_iff c).1 hv
  have hd := dec_enc hv []
  have ho := ok_enc hm []
  have hp := enc_pos c
  have e : ((c.toNat : Nat) : Int) = c := by omega
  rw [List.append_nil] at hd ho
  generalize hs : txt (Lib.encodeRune c) = s at *
  have hl : s.size = (Lib.encodeRune c).length := by rw [← hs]; exact txt_size _
  unfold name nameFrom
  rw [if_pos (by omega)]
  have hi : inName s 0 = begins c := by simp [inName, ho, hd, e]
  rw [hi]
  cases hb : begins c
  · simp
  · simp only [if_true, iff_true]
    have := nameFrom_ge s s.size (0 + (Utf8.decode s 0).2) (by rw [hd]; simp; omega)
    rw [hd] at this ⊢
    simp only at this ⊢
    omega

theorem name_goes {c : Int} (hm : may c = true) : (1 < name (txt (95 :: Lib.encodeRune c))) ↔ (begins c || goesOn c) = true := by
  have hv := valid_of_may hm
  have h := (valid_iff c).1 hv
  have hd := dec_enc hv []
  have ho := ok_enc hm []
  have hp := enc_pos c
  have e : ((c.toNat : Nat) : Int) = c := by omega
  rw [List.append_nil] at hd ho
  generalize hs : txt (95 :: Lib.encodeRune c) = s
  have hl : s.size = (Lib.encodeRune c).length + 1 := by rw [← hs]; exact txt_size _
  have b0 : bz s 0 = 95 := by rw [← hs]; exact bz_head _ _
  have hd0 : Utf8.decode s 0 = (95, 1) := by rw [decode_one (by omega) (by omega), b0]; rfl
  have hd1 : Utf8.decode s 1 = Utf8.decode (txt (Lib.encodeRune c)) 0 := by
    refine decode_shift (by rw [txt_size]; omega) ?_
    intro k
    rw [← hs, show 1 + k = k + 1 by omega, bz_cons, Nat.zero_add]
  have ho1 : okAt s 1 = true := by rw [okAt_of hd1]; exact ho
  have ho0 : okAt s 0 = true := by unfold okAt; rw [hd0]; decide
  have hi0 : inName s 0 = true := by simp only [inName, ho0, hd0]; decide
  have hi1 : inName s 1 = (begins c || goesOn c) := by simp [inName, ho1, hd1, hd, e]
  unfold name nameFrom
  rw [if_pos (by omega), hi0, if_pos rfl, hd0, show s.size = ((Lib.encodeRune c).length) + 1 from hl]
  show 1 < nameFrom s _ 1 ↔ _
  unfold nameFrom
  rw [if_pos (by omega), hi1]
  cases hb : (begins c || goesOn c)
  · simp
  · simp only [if_true, iff_true]
    have := nameFrom_ge s (Lib.encodeRune c).length (1 + (Utf8.decode s 1).2) (by rw [hd1, hd]; simp; omega)
    rw [hd1, hd] at this ⊢
    simp only at this ⊢
    omega
end Go.Proofs.YtbbocgeapofloaiGreatDoor.Ch
namespace Go.Proofs.YtbbocgeapofloaiGreatDoor.Ch
open Go

theorem decode_prefix_nb {s t : ByteArray} {i j : Nat} (h : i < s.size) (nb : Utf8.decode s i ≠ (65533, 1)) (hb : ∀ k, k < (Utf8.decode s i).2 → bz s (i + k) = bz t (j + k)) : Utf8.decode t j = Utf8.decode s i := by
  have h0 : 0 ≤ bz s i := by unfold bz; rw [if_pos h]; omega
  have hbd := bz_bd s i
  have hw := decode_width s i h
  have b0 := hb 0 (by omega)
  simp only [Nat.add_zero] at b0
  by_cases a1 : bz s i < 128
  · rw [decode_one h0 a1, decode_one (by omega) (by omega), b0]
  by_cases a2 : bz s i < 192
  · exact absurd (decode_none (Or.inl ⟨by omega, a2⟩)) nb
  by_cases a3 : bz s i < 224
  · by_cases c1 : cont s (i + 1)
    · have hd := decode_two (by omega) a3 c1
      by_cases hz : 128 ≤ acc s i (bz s i - 192) 1
      · rw [if_pos hz] at hd
        rw [hd] at hb
        have b1 := hb 1 (by simp)
        have d1 : cont t (j + 1) := by unfold cont at *; rw [← b1]; exact c1
        rw [decode_two (by omega) a3 c1, decode_two (by omega) (by omega) d1]
        simp only [acc, Nat.zero_add, b0, b1]
      · rw [if_neg hz] at hd; exact absurd hd nb
    · exact absurd (decode_two_no (by omega) a3 c1) nb
  by_cases a4 : bz s i < 240
  · by_cases c1 : cont s (i + 1)
    · by_cases c2 : cont s (i + 2)
      · have hd := decode_three (by omega) a4 c1 c2
        by_cases hz : 2048 ≤ acc s i (bz s i - 224) 2 ∧ Utf8.valid (acc s i (bz s i - 224) 2) = true
        · rw [if_pos hz] at hd
          rw [hd] at hb
          have b1 := hb 1 (by simp)
          have b2 := hb 2 (by simp)
          have d1 : cont t (j + 1) := by unfold cont at *; rw [← b1]; exact c1
          have d2 : cont t (j + 2) := by unfold cont at *; rw [← b2]; exact c2
          rw [decode_three (by omega) a4 c1 c2, decode_three (by omega) (by omega) d1 d2]
          simp only [acc, Nat.zero_add, Nat.reduceAdd, b0, b1, b2]
        · rw [if_neg hz] at hd; exact absurd hd nb
      · exact absurd (decode_three_no (by omega) a4 (Or.inr c2)) nb
    · exact absurd (decode_three_no (by omega) a4 (Or.inl c1)) nb
  by_cases a5 : bz s i < 248
  · by_cases c1 : cont s (i + 1)
    · by_cases c2 : cont s (i + 2)
      · by_cases c3 : cont s (i + 3)
        · have hd := decode_four (by omega) a5 c1 c2 c3
          by_cases hz : 65536 ≤ acc s i (bz s i - 240) 3 ∧ Utf8.valid (acc s i (bz s i - 240) 3) = true
          · rw [if_pos hz] at hd
            rw [hd] at hb
            have b1 := hb 1 (by simp)
            have b2 := hb 2 (by simp)
            have b3 := hb 3 (by simp)
            have d1 : cont t (j + 1) := by unfold cont at *; rw [← b1]; exact c1
            have d2 : cont t (j + 2) := by unfold cont at *; rw [← b2]; exact c2
            have d3 : cont t (j + 3) := by unfold cont at *; rw [← b3]; exact c3
            rw [decode_four (by omega) a5 c1 c2 c3, decode_four (by omega) (by omega) d1 d2 d3]
            simp only [acc, Nat.zero_add, Nat.reduceAdd, b0, b1, b2, b3]
          · rw [if_neg hz] at hd; exact absurd hd nb
        · exact absurd (decode_four_no (by omega) a5 (Or.inr (Or.inr c3))) nb
      · exact absurd (decode_four_no (by omega) a5 (Or.inr (Or.inl c2))) nb
    · exact absurd (decode_four_no (by omega) a5 (Or.inl c1)) nb
  · exact absurd (decode_none (Or.inr (by omega))) nb


theorem extract_txt (t : ByteArray) (n : Nat) : t.extract 0 n = txt (t.data.toList.take n) := by
  apply ByteArray.ext
  apply Array.ext'
  simp [txt, List.take_drop]
theorem bz_extract (t : ByteArray) (n k : Nat) (_hn : n ≤ t.size) : bz (t.extract 0 n) k = if k < n then bz t k else -1 := by
  have e : bz t k = bz (txt t.data.toList) k := by rw [txt_self]
  rw [extract_txt, bz_txt, e, bz_txt, List.getElem?_take]
  by_cases h : k < n
  · simp [h]
  · simp [h]

/-- The first character's bytes alone. -/
theorem decode_first (t : ByteArray) (h : 0 < t.size) : Utf8.decode (t.extract 0 (Utf8.decode t 0).2) 0 = Utf8.decode t 0 := by
  have hw := decode_width t 0 h
  by_cases nb : Utf8.decode t 0 = (65533, 1)
  · rw [nb]
    show Utf8.decode (t.extract 0 1) 0 = (65533, 1)
    have h0 : 0 ≤ bz t 0 := by unfold bz; rw [if_pos h]; omega
    have hbd := bz_bd t 0
    have hge : 128 ≤ bz t 0 := by
      by_cases a : bz t 0 < 128
      · rw [decode_one h0 a] at nb
        simp only [Prod.mk.injEq] at nb
        omega
      · omega
    have b0 : bz (t.extract 0 1) 0 = bz t 0 := by rw [bz_extract t 1 0 (by omega)]; simp
    have b1 : bz (t.extract 0 1) 1 = -1 := by rw [bz_extract t 1 1 (by omega)]; simp
    have c1 : ¬ cont (t.extract 0 1) (0 + 1) := by unfold cont; rw [Nat.zero_add, b1]; omega
    by_cases a2 : bz t 0 < 192
    · exact decode_none (Or.inl ⟨by omega, by omega⟩)
    by_cases a3 : bz t 0 < 224
    · exact decode_two_no (by omega) (by omega) c1
    by_cases a4 : bz t 0 < 240
    · exact decode_three_no (by omega) (by omega) (Or.inl c1)
    by_cases a5 : bz t 0 < 248
    · exact decode_four_no (by omega) (by omega) (Or.inl c1)
    · exact decode_none (Or.inr (by omega))
  · refine decode_prefix_nb h nb ?_
    intro k hk
    rw [Nat.zero_add, bz_extract t _ k (by omega), if_pos hk]

theorem bad_first_char (t : ByteArray) (h : 0 < t.size) : bad (t.extract 0 (Utf8.decode t 0).2) = if okAt t 0 = true then (Utf8.decode t 0).2 else 0 := by
  have hw := decode_width t 0 h
  have hd := decode_first t h
  have ho : okAt (t.extract 0 (Utf8.decode t 0).2) 0 = okAt t 0 := okAt_of hd
  have hs : (t.extract 0 (Utf8.decode t 0).2).size = (Utf8.decode t 0).2 := by simp; omega
  generalize t.extract 0 (Utf8.decode t 0).2 = u at *
  unfold bad
  rw [badFrom.eq_2, if_pos (by omega), ho, hd, hs]
  split
  · obtain ⟨m, hm⟩ : ∃ m, (Utf8.decode t 0).2 = m + 1 := ⟨(Utf8.decode t 0).2 - 1, by omega⟩
    rw [hm, badFrom.eq_2, if_neg (by omega), hs, hm]
  · rfl
end Go.Proofs.YtbbocgeapofloaiGreatDoor.Ch
