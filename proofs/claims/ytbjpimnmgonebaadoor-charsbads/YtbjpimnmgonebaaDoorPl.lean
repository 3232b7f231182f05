import Derived.Test.YtbjpimnmgonebaaDoorUtf
namespace Go.Proofs.YtbjpimnmgonebaaDoor.Ch
open Go

def begins (r : Int) : Bool := (decide (65 ≤ r) && decide (r ≤ 90)) || (decide (97 ≤ r) && decide (r ≤ 122)) || r == 95 || decide (128 ≤ r)
def goesOn (r : Int) : Bool := (decide (48 ≤ r) && decide (r ≤ 57)) || r == 45 || r == 46

theorem begins_iff (r : Int) : begins r = true ↔ (65 ≤ r ∧ r ≤ 90) ∨ (97 ≤ r ∧ r ≤ 122) ∨ r = 95 ∨ 128 ≤ r := by
  simp only [begins, Bool.or_eq_true, Bool.and_eq_true, beq_iff_eq, decide_eq_true_eq]; omega
theorem goesOn_iff (r : Int) : goesOn r = true ↔ (48 ≤ r ∧ r ≤ 57) ∨ r = 45 ∨ r = 46 := by
  simp only [goesOn, Bool.or_eq_true, Bool.and_eq_true, beq_iff_eq, decide_eq_true_eq]; omega

/-- What a digit counts; d, if it is none. -/
def dig (d r : Int) : Int := if 48 ≤ r ∧ r ≤ 57 then r - 48 else if 97 ≤ r ∧ r ≤ 102 then r - 87 else if 65 ≤ r ∧ r ≤ 70 then r - 55 else d

def refFor (r : Int) (q : Bool) : List UInt8 :=
  if r = 38 then [38, 97, 109, 112, 59] else if r = 60 then [38, 108, 116, 59] else if r = 62 then [38, 103, 116, 59] else if r = 13 then [38, 35, 49, 51, 59]
  else if q = false then [] else if r = 34 then [38, 113, 117, 111, 116, 59] else if r = 9 then [38, 35, 57, 59] else if r = 10 then [38, 35, 49, 48, 59] else []

/-- What a range over a string tells characterAt. -/
def chAt (s : ByteArray) (i : Nat) (r : Int) : Bool := if r = 65533 then (bz s i == 239 && bz s (i + 1) == 191 && bz s (i + 2) == 189) else may r

theorem decode_width (s : ByteArray) (i : Nat) (h : i < s.size) : i + (Utf8.decode s i).2 ≤ s.size ∧ 1 ≤ (Utf8.decode s i).2 ∧ (Utf8.decode s i).2 ≤ 4 := by
  simp only [Utf8.decode]
  repeat' split
  all_goals simp_all
  all_goals omega

theorem chAt_decode (s : ByteArray) (i : Nat) (h : i < s.size) : chAt s i (Utf8.decode s i).1 = okAt s i := by
  unfold chAt okAt
  by_cases he : (Utf8.decode s i).1 = 65533
  · have hm : may ((65533 : Nat) : Int) = true := by decide
    rw [if_pos (by rw [he]; rfl), he, hm]
    simp only [bne_self_eq_false, Bool.false_or, Bool.true_and]
    rw [Bool.eq_iff_iff]
    simp only [Bool.and_eq_true, beq_iff_eq]
    have hb := bz_bd s i
    have hi0 : 0 ≤ bz s i := by unfold bz; rw [if_pos h]; omega
    constructor
    · rintro ⟨⟨h0, h1⟩, h2⟩
      have hd := decode_three (s := s) (i := i) (by omega) (by omega) (by unfold cont; omega) (by unfold cont; omega)
      have ha : acc s i (bz s i - 224) 2 = 65533 := by simp only [acc, Nat.zero_add, Nat.reduceAdd, h0, h1, h2]; decide
      rw [ha] at hd
      rw [if_pos ⟨by decide, by decide⟩] at hd
      rw [hd]
    · intro h3
      by_cases a1 : bz s i < 128
      · rw [decode_one hi0 a1] at h3; simp at h3
      by_cases a2 : bz s i < 192
      · rw [decode_none (Or.inl ⟨by omega, a2⟩)] at h3; simp at h3
      by_cases a3 : bz s i < 224
      · by_cases c1 : cont s (i + 1)
        · rw [decode_two (by omega) a3 c1] at h3; split at h3 <;> simp at h3
        · rw [decode_two_no (by omega) a3 c1] at h3; simp at h3
      by_cases a4 : bz s i < 240
      · by_cases c1 : cont s (i + 1)
        · by_cases c2 : cont s (i + 2)
          · have hd := decode_three (by omega) a4 c1 c2
            rw [hd] at h3 he
            split at h3
            · rename_i hz
              rw [if_pos hz] at he
              simp only at he
              have hz2 : acc s i (bz s i - 224) 2 = 65533 := by omega
              unfold cont at c1 c2
              simp only [acc, Nat.zero_add, Nat.reduceAdd] at hz2
              omega
            · simp at h3
          · rw [decode_three_no (by omega) a4 (Or.inr c2)] at h3; simp at h3
        · rw [decode_three_no (by omega) a4 (Or.inl c1)] at h3; simp at h3
      by_cases a5 : bz s i < 248
      · by_cases c1 : cont s (i + 1)
        · by_cases c2 : cont s (i + 2)
          · by_cases c3 : cont s (i + 3)
            · rw [decode_four (by omega) a5 c1 c2 c3] at h3; split at h3 <;> simp at h3
            · rw [decode_four_no (by omega) a5 (Or.inr (Or.inr c3))] at h3; simp at h3
          · rw [decode_four_no (by omega) a5 (Or.inr (Or.inl c2))] at h3; simp at h3
        · rw [decode_four_no (by omega) a5 (Or.inl c1)] at h3; simp at h3
      · rw [decode_none (Or.inr (by omega))] at h3; simp at h3
  · rw [if_neg (by omega)]
    have : ((Utf8.decode s i).1 != 65533) = true := by simp [he]
    simp [this]

end Go.Proofs.YtbjpimnmgonebaaDoor.Ch
