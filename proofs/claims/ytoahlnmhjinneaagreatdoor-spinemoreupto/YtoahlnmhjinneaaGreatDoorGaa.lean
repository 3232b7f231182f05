import Derived.Laws.RangeString
import Derived.Laws.RangeAny
import Derived.Test.YtoahlnmhjinneaaGreatDoorProg
import Derived.WalkKit
import Derived.WalkSpells
import Derived.Outline
import Derived.Lib.Strings
import Derived.Lib.IndexBytes
import Derived.Shelf.Strings.Trim
import Derived.Shelf.Strings.SlTrimAscii
import Derived.Shelf.Strings.Prefix
import Derived.Shelf.Strings.Search1
import Derived.BigCall
set_option linter.unusedVariables false
set_option linter.unusedSimpArgs false
namespace Go.Proofs.YtoahlnmhjinneaaGreatDoor.Ch
open Go
def may (r : Int) : Bool := r == 9 || r == 10 || r == 13 || (decide (32 ≤ r) && decide (r ≤ 55295)) || (decide (57344 ≤ r) && decide (r ≤ 65533)) || (decide (65536 ≤ r) && decide (r ≤ 1114111))
theorem may_iff (r : Int) : may r = true ↔ r = 9 ∨ r = 10 ∨ r = 13 ∨ (32 ≤ r ∧ r ≤ 55295) ∨ (57344 ≤ r ∧ r ≤ 65533) ∨ (65536 ≤ r ∧ r ≤ 1114111) := by
  simp only [may, Bool.or_eq_true, Bool.and_eq_true, beq_iff_eq, decide_eq_true_eq]
  omega
def bz (s : ByteArray) (i : Nat) : Int := if i < s.size then ((s.get! i).toNat : Int) else -1
theorem bz_bd (s : ByteArray) (i : Nat) : -1 ≤ bz s i ∧ bz s i ≤ 255 := by
  unfold bz
  have := (s.get! i).toNat_lt
  split <;> omega
def okAt (s : ByteArray) (i : Nat) : Bool := may (Utf8.decode s i).1 && ((Utf8.decode s i).1 != 65533 || (Utf8.decode s i).2 == 3)
def acc (s : ByteArray) (i : Nat) (r0 : Int) : Nat → Int
  | 0 => r0
  | k + 1 => 64 * acc s i r0 k + bz s (i + (k + 1)) - 128
def cont (s : ByteArray) (i : Nat) : Prop := 128 ≤ bz s i ∧ bz s i < 192
theorem cont_iff (s : ByteArray) (i k : Nat) : ((decide (i + k < s.size) && (s.get! (i + k)).toNat / 64 == 2) = true) ↔ cont s (i + k) := by
  unfold cont bz
  by_cases h : i + k < s.size
  · simp [h]; omega
  · simp [h]
theorem bz_get {s : ByteArray} {i : Nat} (h : 0 ≤ bz s i) : i < s.size ∧ ((s.get! i).toNat : Int) = bz s i := by
  unfold bz at *
  split at h
  · exact ⟨‹_›, by simp [*]⟩
  · omega
theorem decode_one {s : ByteArray} {i : Nat} (h0 : 0 ≤ bz s i) (h1 : bz s i < 128) : Utf8.decode s i = ((bz s i).toNat, 1) := by
  obtain ⟨hi, hb⟩ := bz_get h0
  have e : (s.get! i).toNat < 128 := by omega
  simp only [Utf8.decode, Nat.add_zero, e, if_true]
  congr 1
  omega
theorem decode_none {s : ByteArray} {i : Nat} (h : (128 ≤ bz s i ∧ bz s i < 192) ∨ 248 ≤ bz s i) : Utf8.decode s i = (65533, 1) := by
  obtain ⟨hi, hb⟩ := bz_get (s := s) (i := i) (by omega)
  have h3 := (s.get! i).toNat_lt
  have e1 : ¬ (s.get! i).toNat < 128 := by omega
  have e2 : ((s.get! i).toNat / 32 == 6) = false := by simp; omega
  have e3 : ((s.get! i).toNat / 16 == 14) = false := by simp; omega
  have e4 : ((s.get! i).toNat / 8 == 30) = false := by simp; omega
  simp [Utf8.decode, e1, e2, e3, e4, Utf8.runeError]
theorem cont_false {s : ByteArray} {i k : Nat} (h : ¬ cont s (i + k)) : (decide (i + k < s.size) && (s.get! (i + k)).toNat / 64 == 2) = false := by
  rw [Bool.eq_false_iff]; intro e; exact h ((cont_iff s i k).1 e)
theorem cont_true {s : ByteArray} {i k : Nat} (h : cont s (i + k)) : (decide (i + k < s.size) && (s.get! (i + k)).toNat / 64 == 2) = true := (cont_iff s i k).2 h
theorem decode_two {s : ByteArray} {i : Nat} (h0 : 192 ≤ bz s i) (h1 : bz s i < 224) (c1 : cont s (i + 1)) :
    Utf8.decode s i = if 128 ≤ acc s i (bz s i - 192) 1 then ((acc s i (bz s i - 192) 1).toNat, 2) else (65533, 1) := by
  obtain ⟨hi, hb⟩ := bz_get (s := s) (i := i) (by omega)
  obtain ⟨hi1, hb1⟩ := bz_get (s := s) (i := i + 1) (by unfold cont at c1; omega)
  have k1 := cont_true c1
  have e1 : ¬ (s.get! i).toNat < 128 := by omega
  have e2 : ((s.get! i).toNat / 32 == 6) = true := by simp; omega
  unfold cont at c1
  simp only [Utf8.decode, Nat.add_zero, e1, e2, k1, if_false, if_true, Bool.and_self, Utf8.runeError, acc]
  simp only [Nat.zero_add]
  have hc : (((s.get! i).toNat % 32 * 64 + (s.get! (i + 1)).toNat % 64 : Nat) : Int) = 64 * (bz s i - 192) + bz s (i + 1) - 128 := by omega
  by_cases h : 128 ≤ (s.get! i).toNat % 32 * 64 + (s.get! (i + 1)).toNat % 64
  · rw [if_pos (by simpa using h), if_pos (by omega)]
    congr 1; omega
  · rw [if_neg (by simpa using h), if_neg (by omega)]
theorem decode_two_no {s : ByteArray} {i : Nat} (h0 : 192 ≤ bz s i) (h1 : bz s i < 224) (c1 : ¬ cont s (i + 1)) : Utf8.decode s i = (65533, 1) := by
  obtain ⟨hi, hb⟩ := bz_get (s := s) (i := i) (by omega)
  have k1 := cont_false c1
  have e1 : ¬ (s.get! i).toNat < 128 := by omega
  have e3 : ((s.get! i).toNat / 16 == 14) = false := by simp; omega
  have e4 : ((s.get! i).toNat / 8 == 30) = false := by simp; omega
  simp only [Utf8.decode, Nat.add_zero, e1, e3, e4, k1, if_false, Bool.and_false, Bool.false_and, Utf8.runeError, Bool.false_eq_true]
set_option maxRecDepth 100000 in
theorem decode_three {s : ByteArray} {i : Nat} (h0 : 224 ≤ bz s i) (h1 : bz s i < 240) (c1 : cont s (i + 1)) (c2 : cont s (i + 2)) :
    Utf8.decode s i = if 2048 ≤ acc s i (bz s i - 224) 2 ∧ Utf8.valid (acc s i (bz s i - 224) 2) = true then ((acc s i (bz s i - 224) 2).toNat, 3) else (65533, 1) := by
  obtain ⟨hi, hb⟩ := bz_get (s := s) (i := i) (by omega)
  obtain ⟨hi1, hb1⟩ := bz_get (s := s) (i := i + 1) (by unfold cont at c1; omega)
  obtain ⟨hi2, hb2⟩ := bz_get (s := s) (i := i + 2) (by unfold cont at c2; omega)
  have k1 := cont_true c1
  have k2 := cont_true c2
  have e1 : ¬ (s.get! i).toNat < 128 := by omega
  have e2 : ((s.get! i).toNat / 32 == 6) = false := by simp; omega
  have e3 : ((s.get! i).toNat / 16 == 14) = true := by simp; omega
  unfold cont at c1 c2
  simp only [Utf8.decode, Nat.add_zero, e1, e2, e3, k1, k2, if_false, if_true, Bool.and_self, Bool.false_and, Utf8.runeError, acc, Bool.false_eq_true]
  simp only [Nat.zero_add, Nat.reduceAdd]
  have hc : (((s.get! i).toNat % 16 * 4096 + (s.get! (i + 1)).toNat % 64 * 64 + (s.get! (i + 2)).toNat % 64 : Nat) : Int) = 64 * (64 * (bz s i - 224) + bz s (i + 1) - 128) + bz s (i + 2) - 128 := by omega
  generalize 64 * (64 * (bz s i - 224) + bz s (i + 1) - 128) + bz s (i + 2) - 128 = z at hc ⊢
  generalize (s.get! i).toNat % 16 * 4096 + (s.get! (i + 1)).toNat % 64 * 64 + (s.get! (i + 2)).toNat % 64 = c at hc ⊢
  subst hc
  by_cases h : 2048 ≤ c ∧ Utf8.valid c = true
  · rw [if_pos (by rw [Bool.and_eq_true, decide_eq_true_eq]; exact h), if_pos ⟨by omega, h.2⟩]
    congr 1
  · rw [if_neg (by rw [Bool.and_eq_true, decide_eq_true_eq]; exact h), if_neg (fun q => h ⟨by omega, q.2⟩)]
theorem decode_three_no {s : ByteArray} {i : Nat} (h0 : 224 ≤ bz s i) (h1 : bz s i < 240) (c1 : ¬ cont s (i + 1) ∨ ¬ cont s (i + 2)) : Utf8.decode s i = (65533, 1) := by
  obtain ⟨hi, hb⟩ := bz_get (s := s) (i := i) (by omega)
  have e1 : ¬ (s.get! i).toNat < 128 := by omega
  have e2 : ((s.get! i).toNat / 32 == 6) = false := by simp; omega
  have e4 : ((s.get! i).toNat / 8 == 30) = false := by simp; omega
  rcases c1 with c1 | c1
  all_goals have k1 := cont_false c1
  all_goals simp only [Utf8.decode, Nat.add_zero, e1, e2, e4, k1, if_false, Bool.and_false, Bool.false_and, Utf8.runeError, Bool.false_eq_true]
set_option maxRecDepth 100000 in
theorem decode_four {s : ByteArray} {i : Nat} (h0 : 240 ≤ bz s i) (h1 : bz s i < 248) (c1 : cont s (i + 1)) (c2 : cont s (i + 2)) (c3 : cont s (i + 3)) :
    Utf8.decode s i = if 65536 ≤ acc s i (bz s i - 240) 3 ∧ Utf8.valid (acc s i (bz s i - 240) 3) = true then ((acc s i (bz s i - 240) 3).toNat, 4) else (65533, 1) := by
  obtain ⟨hi, hb⟩ := bz_get (s := s) (i := i) (by omega)
  obtain ⟨hi1, hb1⟩ := bz_get (s := s) (i := i + 1) (by unfold cont at c1; omega)
  obtain ⟨hi2, hb2⟩ := bz_get (s := s) (i := i + 2) (by unfold cont at c2; omega)
  obtain ⟨hi3, hb3⟩ := bz_get (s := s) (i := i + 3) (by unfold cont at c3; omega)
  have k1 := cont_true c1
  have k2 := cont_true c2
  have k3 := cont_true c3
  have e1 : ¬ (s.get! i).toNat < 128 := by omega
  have e2 : ((s.get! i).toNat / 32 == 6) = false := by simp; omega
  have e3 : ((s.get! i).toNat / 16 == 14) = false := by simp; omega
  have e4 : ((s.get! i).toNat / 8 == 30) = true := by simp; omega
  unfold cont at c1 c2 c3
  simp only [Utf8.decode, Nat.add_zero, e1, e2, e3, e4, k1, k2, k3, if_false, if_true, Bool.and_self, Bool.false_and, Utf8.runeError, acc, Bool.false_eq_true]
  simp only [Nat.zero_add, Nat.reduceAdd]
  have hc : (((s.get! i).toNat % 8 * 262144 + (s.get! (i + 1)).toNat % 64 * 4096 + (s.get! (i + 2)).toNat % 64 * 64 + (s.get! (i + 3)).toNat % 64 : Nat) : Int) = 64 * (64 * (64 * (bz s i - 240) + bz s (i + 1) - 128) + bz s (i + 2) - 128) + bz s (i + 3) - 128 := by omega
  generalize 64 * (64 * (64 * (bz s i - 240) + bz s (i + 1) - 128) + bz s (i + 2) - 128) + bz s (i + 3) - 128 = z at hc ⊢
  generalize (s.get! i).toNat % 8 * 262144 + (s.get! (i + 1)).toNat % 64 * 4096 + (s.get! (i + 2)).toNat % 64 * 64 + (s.get! (i + 3)).toNat % 64 = c at hc ⊢
  subst hc
  by_cases h : 65536 ≤ c ∧ Utf8.valid c = true
  · rw [if_pos (by rw [Bool.and_eq_true, decide_eq_true_eq]; exact h), if_pos ⟨by omega, h.2⟩]
    congr 1
  · rw [if_neg (by rw [Bool.and_eq_true, decide_eq_true_eq]; exact h), if_neg (fun q => h ⟨by omega, q.2⟩)]
theorem decode_four_no {s : ByteArray} {i : Nat} (h0 : 240 ≤ bz s i) (h1 : bz s i < 248) (c1 : ¬ cont s (i + 1) ∨ ¬ cont s (i + 2) ∨ ¬ cont s (i + 3)) : Utf8.decode s i = (65533, 1) := by
  obtain ⟨hi, hb⟩ := bz_get (s := s) (i := i) (by omega)
  have e1 : ¬ (s.get! i).toNat < 128 := by omega
  have e2 : ((s.get! i).toNat / 32 == 6) = false := by simp; omega
  have e3 : ((s.get! i).toNat / 16 == 14) = false := by simp; omega
  rcases c1 with c1 | c1 | c1
  all_goals have k1 := cont_false c1
  all_goals simp only [Utf8.decode, Nat.add_zero, e1, e2, e3, k1, if_false, Bool.and_false, Bool.false_and, Utf8.runeError, Bool.false_eq_true]
theorem okAt_bad {s : ByteArray} {i : Nat} (h : Utf8.decode s i = (65533, 1)) : okAt s i = false := by
  simp [okAt, h]
theorem acc_bd {s : ByteArray} {i : Nat} {r0 : Int} (k : Nat) (h0 : 0 ≤ r0) (h1 : r0 ≤ 255) (hk : k ≤ 3) (hc : ∀ j, 1 ≤ j → j ≤ k → cont s (i + j)) : 0 ≤ acc s i r0 k ∧ acc s i r0 k ≤ 67108863 := by
  have a1 : k = 0 ∨ k = 1 ∨ k = 2 ∨ k = 3 := by omega
  rcases a1 with rfl | rfl | rfl | rfl
  · simp [acc]; omega
  · have c1 := hc 1 (by omega) (by omega)
    unfold cont at c1
    simp only [acc, Nat.zero_add]; omega
  · have c1 := hc 1 (by omega) (by omega)
    have c2 := hc 2 (by omega) (by omega)
    unfold cont at c1 c2
    simp only [acc, Nat.zero_add, Nat.reduceAdd]; omega
  · have c1 := hc 1 (by omega) (by omega)
    have c2 := hc 2 (by omega) (by omega)
    have c3 := hc 3 (by omega) (by omega)
    unfold cont at c1 c2 c3
    simp only [acc, Nat.zero_add, Nat.reduceAdd]; omega
def lead (a : Int) : Nat × Int :=
  if 0 ≤ a ∧ a < 128 then (1, a) else if 192 ≤ a ∧ a < 224 then (2, a - 192) else if 224 ≤ a ∧ a < 240 then (3, a - 224) else if 240 ≤ a ∧ a < 248 then (4, a - 240) else (0, 0)
def few (n : Nat) (r : Int) : Bool := (n == 2 && decide (r < 128)) || (n == 3 && decide (r < 2048)) || (n == 4 && decide (r < 65536))
def at2 (s : ByteArray) (i : Nat) : Int × Int := if i < s.size ∧ okAt s i = true then (((Utf8.decode s i).1 : Int), ((Utf8.decode s i).2 : Int)) else (0, 0)
theorem at2_bad {s : ByteArray} {i : Nat} (h : Utf8.decode s i = (65533, 1)) : at2 s i = (0, 0) := by
  simp [at2, okAt_bad h]
theorem at2_short {s : ByteArray} {i k : Nat} (hk : 1 ≤ k) (hkn : k < (lead (bz s i)).1) (hc : ¬ cont s (i + k)) : at2 s i = (0, 0) := by
  apply at2_bad
  unfold lead at hkn
  split at hkn
  · simp at hkn; omega
  · split at hkn
    · simp at hkn
      have : k = 1 := by omega
      subst this
      exact decode_two_no (by omega) (by omega) hc
    · split at hkn
      · simp at hkn
        have : k = 1 ∨ k = 2 := by omega
        refine decode_three_no (by omega) (by omega) ?_
        rcases this with rfl | rfl
        · exact Or.inl hc
        · exact Or.inr hc
      · split at hkn
        · simp at hkn
          have : k = 1 ∨ k = 2 ∨ k = 3 := by omega
          refine decode_four_no (by omega) (by omega) ?_
          rcases this with rfl | rfl | rfl
          · exact Or.inl hc
          · exact Or.inr (Or.inl hc)
          · exact Or.inr (Or.inr hc)
        · simp at hkn
theorem valid_of_may {r : Int} (h : may r = true) : Utf8.valid r = true := by
  rw [may_iff] at h
  simp [Utf8.valid]; omega
theorem at2_full {s : ByteArray} {i : Nat} (hc : ∀ j, 1 ≤ j → j < (lead (bz s i)).1 → cont s (i + j)) :
    at2 s i = if (few (lead (bz s i)).1 (acc s i (lead (bz s i)).2 ((lead (bz s i)).1 - 1)) || !may (acc s i (lead (bz s i)).2 ((lead (bz s i)).1 - 1))) = true then (0, 0)
      else (acc s i (lead (bz s i)).2 ((lead (bz s i)).1 - 1), ((lead (bz s i)).1 : Int)) := by
  have hbd := bz_bd s i
  unfold lead at hc ⊢
  split at hc
  · rename_i h
    simp only [h, and_self, if_true, Nat.sub_self, acc] at hc ⊢
    have hd := decode_one h.1 h.2
    have hi := (bz_get h.1).1
    have ht : (((bz s i).toNat : Nat) : Int) = bz s i := by omega
    simp only [at2, okAt, hd, ht, hi, few]
    cases hm : may (bz s i)
    · simp
    · have : (bz s i != 65533) = true := by simp; omega
      have : ¬ ((bz s i).toNat = 65533) := by omega
      simp [this]
  · rename_i hn1
    split at hc
    · rename_i h
      simp only [hn1, h, and_self, if_true, if_false, Nat.reduceSub] at hc ⊢
      have c1 := hc 1 (by omega) (by omega)
      have hb := acc_bd (s := s) (i := i) (r0 := bz s i - 192) 1 (by omega) (by omega) (by omega) (fun j a b => hc j a (by omega))
      have hi := (bz_get (s := s) (i := i) (by omega)).1
      have hd := decode_two h.1 h.2 c1
      have hup : acc s i (bz s i - 192) 1 ≤ 2047 := by unfold cont at c1; simp only [acc, Nat.zero_add]; omega
      generalize acc s i (bz s i - 192) 1 = z at *
      by_cases hz : 128 ≤ z
      · rw [if_pos hz] at hd
        have ht : ((z.toNat : Nat) : Int) = z := by omega
        have hne : ¬ z.toNat = 65533 := by omega
        have hf : few 2 z = false := by simp [few]; omega
        simp only [at2, okAt, hd, ht, hi, hf]
        cases hm : may z
        · simp
        · simp [hne]
      · rw [if_neg hz] at hd
        have hf : few 2 z = true := by simp [few]; omega
        rw [at2_bad hd]; simp [hf]
    · rename_i hn2
      split at hc
      · rename_i h
        simp only [hn1, hn2, h, and_self, if_true, if_false, Nat.reduceSub] at hc ⊢
        have c1 := hc 1 (by omega) (by omega)
        have c2 := hc 2 (by omega) (by omega)
        have hb := acc_bd (s := s) (i := i) (r0 := bz s i - 224) 2 (by omega) (by omega) (by omega) (fun j a b => hc j a (by omega))
        have hi := (bz_get (s := s) (i := i) (by omega)).1
        have hd := decode_three h.1 h.2 c1 c2
        generalize acc s i (bz s i - 224) 2 = z at *
        by_cases hz : 2048 ≤ z
        · have hf : few 3 z = false := by simp [few]; omega
          cases hm : may z
          · simp only [hf, Bool.not_false, Bool.or_true, if_true]
            by_cases hv : Utf8.valid z = true
            · rw [if_pos ⟨hz, hv⟩] at hd
              have ht : ((z.toNat : Nat) : Int) = z := by omega
              simp [at2, okAt, hd, ht, hm]
            · rw [if_neg (fun q => hv q.2)] at hd
              exact at2_bad hd
          · rw [if_pos ⟨hz, valid_of_may hm⟩] at hd
            have ht : ((z.toNat : Nat) : Int) = z := by omega
            simp [at2, okAt, hd, ht, hm, hi, hf]
        · rw [if_neg (fun q => hz q.1)] at hd
          have hf : few 3 z = true := by simp [few]; omega
          rw [at2_bad hd]; simp [hf]
      · rename_i hn3
        split at hc
        · rename_i h
          simp only [hn1, hn2, hn3, h, and_self, if_true, if_false, Nat.reduceSub] at hc ⊢
          have c1 := hc 1 (by omega) (by omega)
          have c2 := hc 2 (by omega) (by omega)
          have c3 := hc 3 (by omega) (by omega)
          have hb := acc_bd (s := s) (i := i) (r0 := bz s i - 240) 3 (by omega) (by omega) (by omega) (fun j a b => hc j a (by omega))
          have hi := (bz_get (s := s) (i := i) (by omega)).1
          have hd := decode_four h.1 h.2 c1 c2 c3
          generalize acc s i (bz s i - 240) 3 = z at *
          by_cases hz : 65536 ≤ z
          · have hf : few 4 z = false := by simp [few]; omega
            cases hm : may z
            · simp only [hf, Bool.not_false, Bool.or_true, if_true]
              by_cases hv : Utf8.valid z = true
              · rw [if_pos ⟨hz, hv⟩] at hd
                have ht : ((z.toNat : Nat) : Int) = z := by omega
                simp [at2, okAt, hd, ht, hm]
              · rw [if_neg (fun q => hv q.2)] at hd
                exact at2_bad hd
            · rw [if_pos ⟨hz, valid_of_may hm⟩] at hd
              have ht : ((z.toNat : Nat) : Int) = z := by omega
              have hne : ¬ z.toNat = 65533 := by omega
              simp [at2, okAt, hd, ht, hm, hi, hf, hne]
          · rw [if_neg (fun q => hz q.1)] at hd
            have hf : few 4 z = true := by simp [few]; omega
            rw [at2_bad hd]; simp [hf]
        · rename_i hn4
          simp only [hn1, hn2, hn3, hn4, if_false, Nat.zero_sub, acc] at hc ⊢
          have hm : may 0 = false := by decide
          simp only [hm, Bool.not_false, Bool.or_true, if_true]
          by_cases hs : bz s i = -1
          · have : ¬ i < s.size := by
              intro hi
              unfold bz at hs
              rw [if_pos hi] at hs
              omega
            simp [at2, this]
          · exact at2_bad (decode_none (by omega))
end Go.Proofs.YtoahlnmhjinneaaGreatDoor.Ch

namespace Go.Proofs.YtoahlnmhjinneaaGreatDoor.Ch
open Go
def begins (r : Int) : Bool := (decide (65 ≤ r) && decide (r ≤ 90)) || (decide (97 ≤ r) && decide (r ≤ 122)) || r == 95 || decide (128 ≤ r)
def goesOn (r : Int) : Bool := (decide (48 ≤ r) && decide (r ≤ 57)) || r == 45 || r == 46
theorem begins_iff (r : Int) : begins r = true ↔ (65 ≤ r ∧ r ≤ 90) ∨ (97 ≤ r ∧ r ≤ 122) ∨ r = 95 ∨ 128 ≤ r := by
  simp only [begins, Bool.or_eq_true, Bool.and_eq_true, beq_iff_eq, decide_eq_true_eq]; omega
theorem goesOn_iff (r : Int) : goesOn r = true ↔ (48 ≤ r ∧ r ≤ 57) ∨ r = 45 ∨ r = 46 := by
  simp only [goesOn, Bool.or_eq_true, Bool.and_eq_true, beq_iff_eq, decide_eq_true_eq]; omega
def chAt (s : ByteArray) (i : Nat) (r : Int) : Bool := if r = 65533 then (bz s i == 239 && bz s (i + 1) == 191 && bz s (i + 2) == 189) else may r
theorem decode_width (s : ByteArray) (i : Nat) (h : i < s.size) : i + (Utf8.decode s i).2 ≤ s.size ∧ 1 ≤ (Utf8.decode s i).2 ∧ (Utf8.decode s i).2 ≤ 4 := by
  simp only [Utf8.decode]
  repeat' split
  all_goals simp_all
  all_goals omega
theorem chAt_decode (s : ByteArray) (i : Nat) (h : i < s.size) : chAt s i (Utf8.decode s i).1 = okAt s i := by
  unfold chAt okAt
  by_cases he : (Utf8.decode s i).1 = 65533
  · have hm : may ((65533 : Nat) : Int) = true := by decide
    rw [if_pos (by rw [he]; rfl), he, hm]
    simp only [bne_self_eq_false, Bool.false_or, Bool.true_and]
    rw [Bool.eq_iff_iff]
    simp only [Bool.and_eq_true, beq_iff_eq]
    have hb := bz_bd s i
    have hi0 : 0 ≤ bz s i := by unfold bz; rw [if_pos h]; omega
    constructor
    · rintro ⟨⟨h0, h1⟩, h2⟩
      have hd := decode_three (s := s) (i := i) (by omega) (by omega) (by unfold cont; omega) (by unfold cont; omega)
      have ha : acc s i (bz s i - 224) 2 = 65533 := by simp only [acc, Nat.zero_add, Nat.reduceAdd, h0, h1, h2]; decide
      rw [ha] at hd
      rw [if_pos ⟨by decide, by decide⟩] at hd
      rw [hd]
    · intro h3
      by_cases a1 : bz s i < 128
      · rw [decode_one hi0 a1] at h3; simp at h3
      by_cases a2 : bz s i < 192
      · rw [decode_none (Or.inl ⟨by omega, a2⟩)] at h3; simp at h3
      by_cases a3 : bz s i < 224
      · by_cases c1 : cont s (i + 1)
        · rw [decode_two (by omega) a3 c1] at h3; split at h3 <;> simp at h3
        · rw [decode_two_no (by omega) a3 c1] at h3; simp at h3
      by_cases a4 : bz s i < 240
      · by_cases c1 : cont s (i + 1)
        · by_cases c2 : cont s (i + 2)
          · have hd := decode_three (by omega) a4 c1 c2
            rw [hd] at h3 he
            split at h3
            · rename_i hz
              rw [if_pos hz] at he
              simp only at he
              have hz2 : acc s i (bz s i - 224) 2 = 65533 := by omega
              unfold cont at c1 c2
              simp only [acc, Nat.zero_add, Nat.reduceAdd] at hz2
              omega
            · simp at h3
          · rw [decode_three_no (by omega) a4 (Or.inr c2)] at h3; simp at h3
        · rw [decode_three_no (by omega) a4 (Or.inl c1)] at h3; simp at h3
      by_cases a5 : bz s i < 248
      · by_cases c1 : cont s (i + 1)
        · by_cases c2 : cont s (i + 2)
          · by_cases c3 : cont s (i + 3)
            · rw [decode_four (by omega) a5 c1 c2 c3] at h3; split at h3 <;> simp at h3
            · rw [decode_four_no (by omega) a5 (Or.inr (Or.inr c3))] at h3; simp at h3
          · rw [decode_four_no (by omega) a5 (Or.inr (Or.inl c2))] at h3; simp at h3
        · rw [decode_four_no (by omega) a5 (Or.inl c1)] at h3; simp at h3
      · rw [decode_none (Or.inr (by omega))] at h3; simp at h3
  · rw [if_neg (by omega)]
    have : ((Utf8.decode s i).1 != 65533) = true := by simp [he]
    simp [this]
end Go.Proofs.YtoahlnmhjinneaaGreatDoor.Ch

namespace Go.Proofs.YtoahlnmhjinneaaGreatDoor
open Go.RowKit
theorem ret_bool {a b : Bool} (h : a = b) : Ending.returned (.bool a) = .returned (.bool b) := by rw [h]
theorem ret_int {k : IntKind} {a b : Int} (h : a = b) : Ending.returned (.int k a) = .returned (.int k b) := by rw [h]
set_option maxHeartbeats 400000 in
theorem character_any (r : Int) (w : World) :
    Calls Tryz.prog 89 #[.int .i32 r] w fun e w' => e = .returned (.bool (Ch.may r)) ∧ w' = w := by
  go_enter Tryz.func89, Tryz.ntmps89
  go_wp2
  all_goals go_ret
  all_goals refine ⟨ret_bool ?_, rfl⟩
  all_goals try simp only [beq_iff_eq, beq_eq_false_iff_ne, ne_eq] at *
  all_goals rw [Bool.eq_iff_iff, Ch.may_iff]
  all_goals first | omega | (simp; done) | (simp; omega)
set_option maxHeartbeats 400000 in
theorem May_any (r : Int) (w : World) :
    Calls Tryz.prog 79 #[.int .i64 r] w fun e w' => e = .returned (.bool (Ch.may r)) ∧ w' = w := by
  go_enter Tryz.func79, Tryz.ntmps79
  go_wp2
  all_goals go_ret
  all_goals refine ⟨ret_bool ?_, rfl⟩
  all_goals try simp only [beq_iff_eq, beq_eq_false_iff_ne, ne_eq] at *
  all_goals rw [Bool.eq_iff_iff, Ch.may_iff]
  all_goals first | omega | (simp; done) | (simp; omega)
set_option maxHeartbeats 400000 in
theorem byteAt_any (s : ByteArray) (i : Nat) (w : World) (_hs : s.size ≤ maxLen) :
    Calls Tryz.prog 78 #[.string s, .int .i64 i] w fun e w' => e = .returned (.int .i64 (Ch.bz s i)) ∧ w' = w := by
  unfold maxLen at _hs
  by_cases h : i < s.size
  · go_enter Tryz.func78, Tryz.ntmps78
    go_wp2
    go_ret
    refine ⟨ret_int ?_, rfl⟩
    have e : (s.get! i) = s[i] := by
      simp [ByteArray.get!, h]; rfl
    have hl := (s[i]).toNat_lt
    rw [IntWalk.wrap64_in _ (by omega), Ch.bz, if_pos h, e]
  · go_enter Tryz.func78, Tryz.ntmps78
    go_wp2
    go_ret
    refine ⟨ret_int ?_, rfl⟩
    rw [Ch.bz, if_neg h]
set_option maxHeartbeats 400000 in
theorem beginsName_any (r : Int) (w : World) :
    Calls Tryz.prog 142 #[.int .i32 r] w fun e w' => e = .returned (.bool (Ch.begins r)) ∧ w' = w := by
  go_enter Tryz.func142, Tryz.ntmps142
  go_wp2
  all_goals go_ret
  all_goals refine ⟨ret_bool ?_, rfl⟩
  all_goals try simp only [beq_iff_eq, beq_eq_false_iff_ne, ne_eq] at *
  all_goals rw [Bool.eq_iff_iff, Ch.begins_iff]
  all_goals first | omega | (simp; done) | (simp; omega)
set_option maxHeartbeats 400000 in
theorem begins_any (r : Int) (w : World) :
    Calls Tryz.prog 168 #[.int .i64 r] w fun e w' => e = .returned (.bool (Ch.begins r)) ∧ w' = w := by
  go_enter Tryz.func168, Tryz.ntmps168
  go_wp2
  all_goals go_ret
  all_goals refine ⟨ret_bool ?_, rfl⟩
  all_goals try simp only [beq_iff_eq, beq_eq_false_iff_ne, ne_eq] at *
  all_goals rw [Bool.eq_iff_iff, Ch.begins_iff]
  all_goals first | omega | (simp; done) | (simp; omega)
set_option maxHeartbeats 400000 in
theorem goesOnInName_any (r : Int) (w : World) :
    Calls Tryz.prog 143 #[.int .i32 r] w fun e w' => e = .returned (.bool (Ch.goesOn r)) ∧ w' = w := by
  go_enter Tryz.func143, Tryz.ntmps143
  go_wp2
  all_goals go_ret
  all_goals refine ⟨ret_bool ?_, rfl⟩
  all_goals try simp only [beq_iff_eq, beq_eq_false_iff_ne, ne_eq] at *
  all_goals rw [Bool.eq_iff_iff, Ch.goesOn_iff]
  all_goals first | omega | (simp; done) | (simp; omega)
theorem byteAt_int (s : ByteArray) (j : Int) (w : World) (hs : s.size ≤ maxLen) (h : 0 ≤ j) :
    Calls Tryz.prog 78 #[.string s, .int .i64 j] w fun e w' => e = .returned (.int .i64 (Ch.bz s j.toNat)) ∧ w' = w := by
  obtain ⟨n, rfl⟩ := Int.eq_ofNat_of_zero_le h
  rw [Int.toNat_natCast]
  exact byteAt_any s n w hs
end Go.Proofs.YtoahlnmhjinneaaGreatDoor

namespace Go.Proofs.YtoahlnmhjinneaaGreatDoor
open Go.RowKit
theorem hide {p : Prop} (h : p) : Hid p := h
theorem lead_cases (a : Int) (h : -1 ≤ a ∧ a ≤ 255) : (0 ≤ a ∧ a < 128 ∧ Ch.lead a = (1, a)) ∨ (192 ≤ a ∧ a < 224 ∧ Ch.lead a = (2, a - 192)) ∨ (224 ≤ a ∧ a < 240 ∧ Ch.lead a = (3, a - 224)) ∨ (240 ≤ a ∧ a < 248 ∧ Ch.lead a = (4, a - 240)) ∨ (a < 0 ∧ Ch.lead a = (0, 0)) ∨ (128 ≤ a ∧ a < 192 ∧ Ch.lead a = (0, 0)) ∨ (248 ≤ a ∧ Ch.lead a = (0, 0)) := by
  unfold Ch.lead
  repeat' split
  all_goals simp
  all_goals omega
theorem acc_step (s : ByteArray) (i m : Nat) (r0 : Int) (h : 1 ≤ m) : Ch.acc s i r0 (m + 1 - 1) = 64 * Ch.acc s i r0 (m - 1) + Ch.bz s (i + m) - 128 := by
  obtain ⟨k, rfl⟩ : ∃ k, m = k + 1 := ⟨m - 1, by omega⟩
  simp [Ch.acc]
theorem lead_bd (a : Int) (h : -1 ≤ a ∧ a ≤ 255) : (Ch.lead a).1 ≤ 4 ∧ 0 ≤ (Ch.lead a).2 ∧ (Ch.lead a).2 ≤ 255 := by
  unfold Ch.lead
  repeat' split
  all_goals simp
  all_goals omega
set_option maxHeartbeats 4000000 in
theorem At_any (s : ByteArray) (i : Nat) (w : World) (hs : s.size ≤ 1125899906842624) (hi : i ≤ s.size) :
    Calls Tryz.prog 56 #[.string s, .int .i64 i] w fun e w' => e = .returned (.tuple #[.int .i64 (Ch.at2 s i).1, .int .i64 (Ch.at2 s i).2]) ∧ w' = w := by
  have hm : s.size ≤ maxLen := by unfold maxLen; omega
  have hbd := Ch.bz_bd s i
  have hlb := lead_bd (Ch.bz s i) hbd
  have hlc := lead_cases (Ch.bz s i) hbd
  rcases hlc with ⟨h0, h1, hl⟩ | ⟨h0, h1, hl⟩ | ⟨h0, h1, hl⟩ | ⟨h0, h1, hl⟩ | ⟨h0, hl⟩ | ⟨h0, h1, hl⟩ | ⟨h0, hl⟩
  all_goals
    have HL := hide hl
    clear hl
    go_enter Tryz.func56, Tryz.ntmps56
    go_wp2_with (go_at_call 78; refine (byteAt_int _ _ _ hm (by omega)).mono ?_; rintro e w' ⟨rfl, rfl⟩; rw [Int.toNat_natCast])
    go_loop [8, 9] (fun r k => ∃ m : Nat, 1 ≤ m ∧ (m ≤ (Ch.lead (Ch.bz s i)).1 ∨ m = 1) ∧ k = .int .i64 m ∧ r = .int .i64 (Ch.acc s i (Ch.lead (Ch.bz s i)).2 (m - 1)) ∧ ∀ j, 1 ≤ j → j < m → Ch.cont s (i + j)) (fun _ k => 5 - (intOf k).toNat)
    case atStart =>
      refine ⟨1, Nat.le_refl _, Or.inr rfl, rfl, ?_, fun j a b => by omega⟩
      rw [HL.out]; rfl
    case round =>
      obtain ⟨m, hm1, hm2, rfl, rfl, hc⟩ := hrel
      have HC := hide hc
      clear hc
      by_cases hlt : m < (Ch.lead (Ch.bz s i)).1
      · have hlt' := hlt
        rw [HL.out] at hlt'
        simp only at hlt'
        first
          | (exfalso; omega)
          | (have hb := Ch.acc_bd (s := s) (i := i) (r0 := (Ch.lead (Ch.bz s i)).2) (m - 1) (by omega) (by omega) (by omega) (fun j a b => HC.out j a (by omega))
             have hb2 := Ch.bz_bd s (i + m)
             have hj : ((i : Int) + (m : Int)).toNat = i + m := by omega
             by_cases c : Ch.cont s (i + m)
             · have c' := c
               unfold Ch.cont at c'
               have hst := hide (acc_step s i m (Ch.lead (Ch.bz s i)).2 hm1)
               have HC2 : Hid (∀ j, 1 ≤ j → j < m + 1 → Ch.cont s (i + j)) := fun j a b => by
                 by_cases e : j = m
                 · rw [e]; exact c
                 · exact HC.out j a (by omega)
               have HJ := hide hj
               clear hj c
               generalize Ch.acc s i (Ch.lead (Ch.bz s i)).2 (m - 1) = z at *
               go_wp2_with (go_at_call 78; refine (byteAt_int _ _ _ hm (by omega)).mono ?_; rintro e w' ⟨rfl, rfl⟩; rw [HJ.out])
               go_round
               case rel => exact ⟨m + 1, by omega, Or.inl (by omega), by go_num, by rw [hst.out], HC2.out⟩
               case measure => simp [intOf]; omega
             · have hsh := hide (Ch.at2_short hm1 hlt c)
               have c' : Ch.bz s (i + m) < 128 ∨ 192 ≤ Ch.bz s (i + m) := by unfold Ch.cont at c; omega
               have HJ := hide hj
               clear hj c
               rcases c' with c' | c'
               all_goals
                 go_wp2_with (go_at_call 78; refine (byteAt_int _ _ _ hm (by omega)).mono ?_; rintro e w' ⟨rfl, rfl⟩; rw [HJ.out])
                 go_ret2
                 refine ⟨?_, rfl⟩
                 rw [hsh.out]
                 rfl)
      · have hfull := Ch.at2_full (s := s) (i := i) (fun j a b => HC.out j a (by omega))
        have hmm : (Ch.lead (Ch.bz s i)).1 - 1 = m - 1 := by rcases hm2 with h | h <;> omega
        have hb := Ch.acc_bd (s := s) (i := i) (r0 := (Ch.lead (Ch.bz s i)).2) (m - 1) (by omega) (by omega) (by rcases hm2 with h | h <;> omega) (fun j a b => HC.out j a (by omega))
        rw [hmm] at hfull
        clear hmm
        have hlt' := hlt
        rw [HL.out] at hlt'
        simp only at hlt'
        generalize Ch.acc s i (Ch.lead (Ch.bz s i)).2 (m - 1) = z at *
        rw [HL.out] at hfull
        simp only at hfull
        have HF := hide hfull
        clear hfull
        cases hmay : Ch.may z
        all_goals
          go_wp2_with (go_at_call 79; refine (May_any _ _).mono ?_; rintro e w' ⟨rfl, rfl⟩)
          all_goals go_ret2
          all_goals refine ⟨?_, rfl⟩
          all_goals rw [HF.out]
          all_goals split
          all_goals first
            | rfl
            | (rename_i hcond; exfalso; simp [Ch.few, hmay] at hcond; done)
            | (rename_i hcond; exfalso; simp [Ch.few, hmay] at hcond; omega)
end Go.Proofs.YtoahlnmhjinneaaGreatDoor

namespace Go.Proofs.YtoahlnmhjinneaaGreatDoor.Ch
open Go
def has (s : ByteArray) (i : Nat) : List UInt8 → Bool
  | [] => true
  | c :: l => bz s i == (c.toNat : Int) && has s (i + 1) l
theorem drop_cons (s : ByteArray) (i : Nat) (h : i < s.size) : s.data.toList.drop i = s.get! i :: s.data.toList.drop (i + 1) := by
  rw [List.drop_eq_getElem_cons (by simpa using h)]
  congr 1
  simp [ByteArray.get!, h]
theorem drop_nil (s : ByteArray) (i : Nat) (h : ¬ i < s.size) : s.data.toList.drop i = [] := by
  apply List.drop_eq_nil_of_le
  simpa using h
theorem prefix_has (s : ByteArray) (l : List UInt8) : ∀ i, l.isPrefixOf (s.data.toList.drop i) = has s i l := by
  induction l with
  | nil => intro i; simp [has]
  | cons c l ih =>
    intro i
    by_cases h : i < s.size
    · rw [drop_cons s i h]
      simp only [List.isPrefixOf, has, ih]
      congr 1
      rw [Bool.eq_iff_iff, beq_iff_eq, beq_iff_eq]
      simp only [bz, h, if_true]
      constructor
      · intro e; rw [e]
      · intro e; exact (UInt8.toNat_inj.1 (by omega))
    · rw [drop_nil s i h]
      simp [has, List.isPrefixOf, bz, h]
theorem hasPrefix_walk (s : ByteArray) (i : Nat) (l : List UInt8) : Lib.hasPrefix (List.take (s.size - i) (List.drop i s.data.toList)) l = has s i l := by
  rw [List.take_of_length_le (by simp), Lib.hasPrefix, prefix_has]
def badFrom (s : ByteArray) : Nat → Nat → Nat
  | 0, pos => pos
  | f + 1, pos => if pos < s.size then (if okAt s pos = true then badFrom s f (pos + (Utf8.decode s pos).2) else pos) else s.size
def bad (s : ByteArray) : Nat := badFrom s (s.size + 1) 0
theorem badFrom_le (s : ByteArray) : ∀ f pos, pos ≤ s.size → badFrom s f pos ≤ s.size := by
  intro f
  induction f with
  | zero => intro pos h; exact h
  | succ f ih =>
    intro pos h
    unfold badFrom
    split
    · split
      · exact ih _ (decode_width s pos ‹_›).1
      · omega
    · omega
def inName (s : ByteArray) (pos : Nat) : Bool := okAt s pos && (begins (Utf8.decode s pos).1 || (decide (0 < pos) && goesOn (Utf8.decode s pos).1))
def nameFrom (s : ByteArray) : Nat → Nat → Nat
  | 0, pos => pos
  | f + 1, pos => if pos < s.size then (if inName s pos = true then nameFrom s f (pos + (Utf8.decode s pos).2) else pos) else s.size
def name (s : ByteArray) : Nat := nameFrom s (s.size + 1) 0
theorem at2_pos (s : ByteArray) (i : Nat) (h : i < s.size) : at2 s i = if okAt s i = true then (((Utf8.decode s i).1 : Int), ((Utf8.decode s i).2 : Int)) else (0, 0) := by
  simp [at2, h]
end Go.Proofs.YtoahlnmhjinneaaGreatDoor.Ch

namespace Go.Proofs
open Go.Shelf
def Tryz.lays99_ren : Go.Shelf.Ren := ⟨fun | 99 => 88 | 206 => 111 | n => n, fun | 3 => 3 | 4 => 4 | 9 => 9 | n => n, fun  | n => n⟩
theorem Tryz.lays99 : Go.Proofs.Lays.n99 Tryz.prog Tryz.lays99_ren := {
  mixed := by kernel_rfl
  f99 := Tryz.func88.trans (congrArg some (by kernel_rfl))
  f206 := Tryz.func111.trans (congrArg some (by kernel_rfl))
  t3 := Tryz.underlying3
  a3 := Tryz.isAgg3
  z3 := Tryz.sizeOf3
  v3 := Tryz.zeroValue3
  t4 := Tryz.underlying4
  a4 := Tryz.isAgg4
  z4 := Tryz.sizeOf4
  v4 := Tryz.zeroValue4
  t9 := Tryz.underlying9
  a9 := Tryz.isAgg9
  z9 := Tryz.sizeOf9
  v9 := Tryz.zeroValue9 }
open Go.RowKit Go.Lib in
theorem Tryz.strings_HasPrefix (s p : ByteArray) (w : World) :
    Calls Tryz.prog 88 #[.string s, .string p] w fun e w' => e = .returned (.bool (Lib.hasPrefix s.data.toList p.data.toList)) ∧ w' = w := Any.strings_HasPrefix Tryz.lays99 s p w
def Tryz.lays217_ren : Go.Shelf.Ren := ⟨fun | 217 => 173 | 266 => 178 | n => n, fun | 3 => 3 | 5 => 5 | 9 => 9 | n => n, fun  | n => n⟩
theorem Tryz.lays217 : Go.Proofs.Lays.n217 Tryz.prog Tryz.lays217_ren := {
  mixed := by kernel_rfl
  f217 := Tryz.func173.trans (congrArg some (by kernel_rfl))
  f266 := Tryz.func178.trans (congrArg some (by kernel_rfl))
  t3 := Tryz.underlying3
  a3 := Tryz.isAgg3
  z3 := Tryz.sizeOf3
  v3 := Tryz.zeroValue3
  t5 := Tryz.underlying5
  a5 := Tryz.isAgg5
  z5 := Tryz.sizeOf5
  v5 := Tryz.zeroValue5
  t9 := Tryz.underlying9
  a9 := Tryz.isAgg9
  z9 := Tryz.sizeOf9
  v9 := Tryz.zeroValue9 }
open Go.RowKit in
theorem Tryz.stringslite_IndexByte (s : ByteArray) (c : Int) (w : World) :
    Calls Tryz.prog 173 #[.string s, .int .u8 c] w fun e w' => e = .returned (.int .i64 (Lib.indexByte s.data.toList c.toNat.toUInt8)) ∧ w' = w := Any.stringslite_IndexByte Tryz.lays217 s c w
def Tryz.lays161_ren : Go.Shelf.Ren := ⟨fun | 119 => 162 | 137 => 161 | 151 => 137 | 152 => 153 | 161 => 90 | 197 => 136 | 217 => 173 | 224 => 163 | 225 => 164 | 227 => 113 | 228 => 135 | 231 => 112 | 233 => 114 | 235 => 115 | 260 => 152 | 266 => 178 | n => n, fun | 0 => 0 | 3 => 3 | 4 => 4 | 5 => 5 | 9 => 9 | 21 => 21 | 46 => 155 | 105 => 195 | 116 => 179 | 117 => 180 | 119 => 212 | 124 => 183 | 138 => 214 | 139 => 215 | n => n, fun | 3 => 1 | 4 => 2 | n => n⟩
theorem Tryz.lays161 : Go.Proofs.Lays.n161 Tryz.prog Tryz.lays161_ren := {
  mixed := by kernel_rfl
  f119 := Tryz.func162.trans (congrArg some (by kernel_rfl))
  f137 := Tryz.func161.trans (congrArg some (by kernel_rfl))
  f151 := Tryz.func137.trans (congrArg some (by kernel_rfl))
  f152 := Tryz.func153.trans (congrArg some (by kernel_rfl))
  f161 := Tryz.func90.trans (congrArg some (by kernel_rfl))
  f197 := Tryz.func136.trans (congrArg some (by kernel_rfl))
  f217 := Tryz.func173.trans (congrArg some (by kernel_rfl))
  f224 := Tryz.func163.trans (congrArg some (by kernel_rfl))
  f225 := Tryz.func164.trans (congrArg some (by kernel_rfl))
  f227 := Tryz.func113.trans (congrArg some (by kernel_rfl))
  f228 := Tryz.func135.trans (congrArg some (by kernel_rfl))
  f231 := Tryz.func112.trans (congrArg some (by kernel_rfl))
  f233 := Tryz.func114.trans (congrArg some (by kernel_rfl))
  f235 := Tryz.func115.trans (congrArg some (by kernel_rfl))
  f260 := Tryz.func152.trans (congrArg some (by kernel_rfl))
  f266 := Tryz.func178.trans (congrArg some (by kernel_rfl))
  t0 := Tryz.underlying0
  a0 := Tryz.isAgg0
  z0 := Tryz.sizeOf0
  v0 := Tryz.zeroValue0
  t3 := Tryz.underlying3
  a3 := Tryz.isAgg3
  z3 := Tryz.sizeOf3
  v3 := Tryz.zeroValue3
  t4 := Tryz.underlying4
  a4 := Tryz.isAgg4
  z4 := Tryz.sizeOf4
  v4 := Tryz.zeroValue4
  t5 := Tryz.underlying5
  a5 := Tryz.isAgg5
  z5 := Tryz.sizeOf5
  v5 := Tryz.zeroValue5
  t9 := Tryz.underlying9
  a9 := Tryz.isAgg9
  z9 := Tryz.sizeOf9
  v9 := Tryz.zeroValue9
  t21 := Tryz.underlying21
  a21 := Tryz.isAgg21
  z21 := Tryz.sizeOf21
  v21 := Tryz.zeroValue21
  t46 := Tryz.underlying155
  a46 := Tryz.isAgg155
  z46 := Tryz.sizeOf155
  v46 := Tryz.zeroValue155
  t105 := Tryz.underlying195
  a105 := Tryz.isAgg195
  z105 := Tryz.sizeOf195
  v105 := Tryz.zeroValue195
  t116 := Tryz.underlying179
  a116 := Tryz.isAgg179
  z116 := Tryz.sizeOf179
  t117 := Tryz.underlying180
  a117 := Tryz.isAgg180
  z117 := Tryz.sizeOf180
  v117 := Tryz.zeroValue180
  t119 := Tryz.underlying212
  a119 := Tryz.isAgg212
  z119 := Tryz.sizeOf212
  t124 := Tryz.underlying183
  a124 := Tryz.isAgg183
  z124 := Tryz.sizeOf183
  v124 := Tryz.zeroValue183
  t138 := Tryz.underlying214
  a138 := Tryz.isAgg214
  z138 := Tryz.sizeOf214
  v138 := Tryz.zeroValue214
  t139 := Tryz.underlying215
  a139 := Tryz.isAgg215
  z139 := Tryz.sizeOf215
  v139 := Tryz.zeroValue215
  g3 := by kernel_rfl
  g4 := by kernel_rfl }
open Go.RowKit in
theorem Tryz.strings_TrimLeft_blanks (s : ByteArray) (w : World) :
    Calls Tryz.prog 90 #[.string s, .string ⟨#[9, 10, 13, 32]⟩] w fun e w' => e = .returned (.string ⟨(Lib.trimLeftS s.data.toList [9, 10, 13, 32]).toArray⟩) ∧ Below w.heap.size w w' :=
  Any.strings_TrimLeft_laid Tryz.lays161 (by kernel_rfl) s ⟨#[9, 10, 13, 32]⟩ w (by decide) (ascii_of_all (by decide))
end Go.Proofs

namespace Go.Proofs.YtoahlnmhjinneaaGreatDoor
open Go.RowKit
set_option maxHeartbeats 1000000 in
theorem characterAt_any (s : ByteArray) (i : Nat) (r : Int) (w : World) (_hs : s.size ≤ 1125899906842624) (hi : i ≤ s.size) :
    Calls Tryz.prog 69 #[.string s, .int .i64 i, .int .i32 r] w fun e w' => e = .returned (.bool (Ch.chAt s i r)) ∧ w' = w := by
  by_cases hr : r = 65533
  · have hb : (r == 65533) = true := by simp [hr]
    have hp := Ch.hasPrefix_walk s i [239, 191, 189]
    have hq : Ch.has s i [239, 191, 189] = Ch.chAt s i r := by
      simp [Ch.has, Ch.chAt, hr, Bool.and_assoc, Nat.add_assoc]
    rw [hq] at hp
    have HP := hide hp
    clear hp hq hr
    go_enter Tryz.func69, Tryz.ntmps69
    go_wp2_with (go_at_call 88; refine (Tryz.strings_HasPrefix _ _ _).mono ?_; rintro e w' ⟨rfl, rfl⟩)
    go_ret
    refine ⟨ret_bool ?_, rfl⟩
    exact HP.out
  · have hb : (r == 65533) = false := by simp [hr]
    have hc : Ch.chAt s i r = Ch.may r := by simp [Ch.chAt, hr]
    have HC := hide hc
    clear hc hr
    go_enter Tryz.func69, Tryz.ntmps69
    go_wp2_with (go_at_call 89; refine (character_any _ _).mono ?_; rintro e w' ⟨rfl, rfl⟩)
    go_ret
    exact ⟨ret_bool HC.out.symm, rfl⟩
theorem below_iter (w : World) (s : ByteArray) (pos : Nat) : Below w.heap.size w (w.iter s pos) :=
  (Below.refl _ w).alloc (Nat.le_refl _) _
set_option maxHeartbeats 2000000 in
set_option maxRecDepth 1000000 in
theorem badC_any (s : ByteArray) (w : World) (hs : s.size ≤ 1125899906842624) :
    Calls Tryz.prog 45 #[.string s] w fun e w' => e = .returned (.int .i64 (Ch.bad s)) ∧ Below w.heap.size w w' := by
  go_enter Tryz.func45, Tryz.ntmps45
  go_wp2
  go_loopw [] (fun w' => ∃ (pos fuel : Nat), w' = w.iter s pos ∧ Ch.badFrom s fuel pos = Ch.bad s ∧ s.size < pos + fuel ∧ pos ≤ s.size) (fun w' => s.size - w'.iterPos w.heap.size)
  case atStart => exact ⟨0, s.size + 1, rfl, rfl, by omega, by omega⟩
  case round =>
    obtain ⟨pos, fuel, rfl, hc, hb, hl⟩ := hrel
    obtain ⟨f, rfl⟩ : ∃ f, fuel = f + 1 := ⟨fuel - 1, by omega⟩
    have HC := hide hc
    clear hc
    by_cases hp : pos < s.size
    · have hnx : ∀ ty, (Instr.next (.pointer (some ⟨w.heap.size, 0, none⟩)) true ty).run Tryz.prog (w.iter s pos) = _ := fun ty => run_next_any w s pos ty hp
      have hwd := Ch.decode_width s pos hp
      have hch := Ch.chAt_decode s pos hp
      cases hok : Ch.okAt s pos
      · rw [hok] at hch
        go_wp2_with (go_at_call 69; refine (characterAt_any _ _ _ _ hs hl).mono ?_; rintro e w' ⟨rfl, rfl⟩)
        go_ret
        refine ⟨ret_int ?_, ?_⟩
        · have := HC.out; simp only [Ch.badFrom, hp, hok] at this; simp at this; omega
        · exact below_iter w s _
      · rw [hok] at hch
        go_wp2_with (go_at_call 69; refine (characterAt_any _ _ _ _ hs hl).mono ?_; rintro e w' ⟨rfl, rfl⟩)
        go_roundw
        case rel =>
          refine ⟨pos + (Utf8.decode s pos).2, f, rfl, ?_, by omega, by omega⟩
          have := HC.out; simp only [Ch.badFrom, hp, hok] at this; simpa using this
        case measure =>
          simp
          omega
    · have hnx : ∀ ty, (Instr.next (.pointer (some ⟨w.heap.size, 0, none⟩)) true ty).run Tryz.prog (w.iter s pos) = _ := fun ty => run_next_end w s pos ty hp
      go_wp2
      go_ret
      refine ⟨ret_int ?_, ?_⟩
      · have := HC.out; simp only [Ch.badFrom, hp] at this; simp at this; omega
      · exact below_iter w s _
end Go.Proofs.YtoahlnmhjinneaaGreatDoor

namespace Go.Proofs.YtoahlnmhjinneaaGreatDoor
open Go.RowKit
theorem name_stop {s : ByteArray} {f pos : Nat} (hp : pos < s.size) (hi : Ch.inName s pos = false) (h : Ch.nameFrom s (f + 1) pos = Ch.name s) : (pos : Int) = (Ch.name s : Int) := by
  simp only [Ch.nameFrom, hp, hi] at h; simp at h; omega
theorem name_on {s : ByteArray} {f pos : Nat} (hp : pos < s.size) (hi : Ch.inName s pos = true) (h : Ch.nameFrom s (f + 1) pos = Ch.name s) : Ch.nameFrom s f (pos + (Utf8.decode s pos).2) = Ch.name s := by
  simp only [Ch.nameFrom, hp, hi] at h; simpa using h
theorem name_end {s : ByteArray} {f pos : Nat} (hp : ¬ pos < s.size) (h : Ch.nameFrom s (f + 1) pos = Ch.name s) : (s.size : Int) = (Ch.name s : Int) := by
  simp only [Ch.nameFrom, hp] at h; simp at h; omega
set_option maxHeartbeats 4000000 in
set_option maxRecDepth 1000000 in
theorem nameC_any (s : ByteArray) (w : World) (hs : s.size ≤ 1125899906842624) :
    Calls Tryz.prog 121 #[.string s] w fun e w' => e = .returned (.int .i64 (Ch.name s)) ∧ Below w.heap.size w w' := by
  go_enter Tryz.func121, Tryz.ntmps121
  go_wp2
  go_loopw [] (fun w' => ∃ (pos fuel : Nat), w' = w.iter s pos ∧ Ch.nameFrom s fuel pos = Ch.name s ∧ s.size < pos + fuel ∧ pos ≤ s.size) (fun w' => s.size - w'.iterPos w.heap.size)
  case atStart => exact ⟨0, s.size + 1, rfl, rfl, by omega, by omega⟩
  case round =>
    obtain ⟨pos, fuel, rfl, hc, hb, hl⟩ := hrel
    obtain ⟨f, rfl⟩ : ∃ f, fuel = f + 1 := ⟨fuel - 1, by omega⟩
    have HC := hide hc
    clear hc
    by_cases hp : pos < s.size
    · have hnx : ∀ ty, (Instr.next (.pointer (some ⟨w.heap.size, 0, none⟩)) true ty).run Tryz.prog (w.iter s pos) = _ := fun ty => run_next_any w s pos ty hp
      have hwd := Ch.decode_width s pos hp
      have hch := Ch.chAt_decode s pos hp
      cases hok : Ch.okAt s pos <;> cases hbe : Ch.begins (Utf8.decode s pos).1 <;> cases hgo : Ch.goesOn (Utf8.decode s pos).1 <;> by_cases h0 : 0 < pos
      all_goals rw [hok] at hch
      all_goals
        go_wp2_with (first | (go_at_call 142; refine (beginsName_any _ _).mono ?_; rintro e w' ⟨rfl, rfl⟩) | (go_at_call 143; refine (goesOnInName_any _ _).mono ?_; rintro e w' ⟨rfl, rfl⟩) | (go_at_call 69; refine (characterAt_any _ _ _ _ hs hl).mono ?_; rintro e w' ⟨rfl, rfl⟩))
        first
          | (go_ret
             exact ⟨ret_int (name_stop hp (by simp [Ch.inName, hok, hbe, hgo, h0]) HC.out), below_iter w s _⟩)
          | (go_roundw
             case rel => exact ⟨pos + (Utf8.decode s pos).2, f, rfl, name_on hp (by simp [Ch.inName, hok, hbe, hgo, h0]) HC.out, by omega, by omega⟩
             case measure => simp; omega)
    · have hnx : ∀ ty, (Instr.next (.pointer (some ⟨w.heap.size, 0, none⟩)) true ty).run Tryz.prog (w.iter s pos) = _ := fun ty => run_next_end w s pos ty hp
      go_wp2
      go_ret
      exact ⟨ret_int (name_end hp HC.out), below_iter w s _⟩
theorem goes_cases {r : Int} {b : Bool} (h : Ch.goesOn r = b) : (b = true ∧ 48 ≤ r ∧ r ≤ 57) ∨ (b = true ∧ ¬ 48 ≤ r ∧ (r == 45) = true) ∨ (b = true ∧ ¬ 48 ≤ r ∧ (r == 45) = false ∧ (r == 46) = true) ∨ (b = false ∧ ¬ 48 ≤ r ∧ (r == 45) = false ∧ (r == 46) = false) ∨ (b = false ∧ 57 < r ∧ (r == 45) = false ∧ (r == 46) = false) := by
  subst h
  cases e : Ch.goesOn r
  · have : ¬ ((48 ≤ r ∧ r ≤ 57) ∨ r = 45 ∨ r = 46) := fun q => by rw [(Ch.goesOn_iff r).2 q] at e; cases e
    simp only [Bool.false_eq_true, false_and, false_or, true_and, beq_eq_false_iff_ne, ne_eq]; omega
  · have := (Ch.goesOn_iff r).1 e
    simp only [true_and, beq_eq_false_iff_ne, beq_iff_eq, ne_eq]; omega
set_option maxHeartbeats 4000000 in
set_option maxRecDepth 1000000 in
theorem nameR_any (s : ByteArray) (w : World) (hs : s.size ≤ 1125899906842624) :
    Calls Tryz.prog 155 #[.string s] w fun e w' => e = .returned (.int .i64 (Ch.name s)) ∧ w' = w := by
  go_enter Tryz.func155, Tryz.ntmps155
  go_wp2
  go_loop [3, 4, 5, 6] (fun i _ _ _ => ∃ (pos fuel : Nat), i = .int .i64 pos ∧ Ch.nameFrom s fuel pos = Ch.name s ∧ s.size < pos + fuel ∧ pos ≤ s.size) (fun i _ _ _ => s.size - (intOf i).toNat)
  case atStart => exact ⟨0, s.size + 1, rfl, rfl, by omega, by omega⟩
  case round =>
    obtain ⟨pos, fuel, rfl, hc, hb, hl⟩ := hrel
    obtain ⟨f, rfl⟩ : ∃ f, fuel = f + 1 := ⟨fuel - 1, by omega⟩
    have HC := hide hc
    clear hc
    by_cases hp : pos < s.size
    · have hwd := Ch.decode_width s pos hp
      have hat := Ch.at2_pos s pos hp
      cases hok : Ch.okAt s pos
      · rw [hok] at hat
        simp only [Bool.false_eq_true, if_false] at hat
        have HA := hide hat
        clear hat
        by_cases h0 : 0 < pos
        all_goals
          go_wp2_with (first | (go_at_call 56; refine (At_any _ _ _ hs hl).mono ?_; rintro e w' ⟨rfl, rfl⟩; rw [HA.out]) | (go_at_call 168; refine (begins_any _ _).mono ?_; rintro e w' ⟨rfl, rfl⟩))
          go_ret
          exact ⟨ret_int (name_stop hp (by simp [Ch.inName, hok]) HC.out), rfl⟩
      · rw [hok] at hat
        simp only [if_true] at hat
        have HA := hide hat
        clear hat
        cases hbe : Ch.begins (Utf8.decode s pos).1 <;> cases hgo : Ch.goesOn (Utf8.decode s pos).1 <;> by_cases h0 : 0 < pos
        all_goals
          have HG := hide hgo
          clear hgo
          rcases goes_cases HG.out with ⟨e1, e2, e3⟩ | ⟨e1, e2, e3⟩ | ⟨e1, e2, e3, e4⟩ | ⟨e1, e2, e3, e4⟩ | ⟨e1, e2, e3, e4⟩
          all_goals first
            | (cases e1; done)
            | (clear e1
               go_wp2_with (first | (go_at_call 56; refine (At_any _ _ _ hs hl).mono ?_; rintro e w' ⟨rfl, rfl⟩; rw [HA.out]) | (go_at_call 168; refine (begins_any _ _).mono ?_; rintro e w' ⟨rfl, rfl⟩))
               first
                 | (go_ret
                    exact ⟨ret_int (name_stop hp (by simp [Ch.inName, hok, hbe, HG.out, h0]) HC.out), rfl⟩)
                 | (go_round
                    case rel => exact ⟨pos + (Utf8.decode s pos).2, f, by go_num, name_on hp (by simp [Ch.inName, hok, hbe, HG.out, h0]) HC.out, by omega, by omega⟩
                    case measure => simp [intOf]; omega))
    · go_wp2
      go_ret
      exact ⟨ret_int (by have := name_end hp HC.out; omega), rfl⟩
end Go.Proofs.YtoahlnmhjinneaaGreatDoor
