import Derived.Test.YtbjpimnmgonebaaDoorPn
namespace Go.Proofs.YtbjpimnmgonebaaDoor.Ch
open Go

/-- A text's end, from a place on. -/
def tail (s : ByteArray) (k : Nat) : ByteArray := ⟨(s.data.toList.drop k).toArray⟩

theorem tail_size (s : ByteArray) (k : Nat) : (tail s k).size = s.size - k := by
  show (tail s k).data.size = s.data.size - k
  simp [tail]

theorem tail_bz (s : ByteArray) (k j : Nat) : bz (tail s k) j = bz s (k + j) := by
  unfold bz
  rw [tail_size]
  by_cases h : k + j < s.size
  · have h1 : j < s.size - k := by omega
    have h2 : j < (tail s k).size := by rw [tail_size]; exact h1
    rw [if_pos h1, if_pos h]
    have e1 : (tail s k).get! j = (tail s k).data.toList[j]'(by simpa using h2) := by
      have : (tail s k).get! j = (tail s k)[j] := by simp [ByteArray.get!, h2]; rfl
      rw [this]; rfl
    have e2 : s.get! (k + j) = s.data.toList[k + j]'(by simpa using h) := by
      have : s.get! (k + j) = s[k + j] := by simp [ByteArray.get!, h]; rfl
      rw [this]; rfl
    rw [e1, e2]
    simp [tail]
  · rw [if_neg (by omega), if_neg h]

theorem tail_extract (s : ByteArray) (k : Nat) : s.extract k s.size = tail s k := by
  apply ByteArray.ext
  apply Array.toList_inj.1
  rw [extract_list]
  simp [tail]

theorem tail_tail (s : ByteArray) (k j : Nat) : tail (tail s k) j = tail s (k + j) := by
  apply ByteArray.ext
  apply Array.toList_inj.1
  simp [tail]

theorem tail_has (s : ByteArray) (k : Nat) (l : List UInt8) : ∀ i, has (tail s k) i l = has s (k + i) l := by
  induction l with
  | nil => intro i; rfl
  | cons c l ih => intro i; simp only [has, tail_bz, ih, Nat.add_assoc]

/-- numFrom of a tail. -/
theorem tail_num (s : ByteArray) (b : Int) (k : Nat) : ∀ f pos n, numFrom (tail s k) b f pos n = if (numFrom s b f (k + pos) n).2 = 0 then (0, 0) else ((numFrom s b f (k + pos) n).1, (numFrom s b f (k + pos) n).2 - k) := by
  intro f
  induction f with
  | zero => intro pos n; rfl
  | succ f ih =>
    intro pos n
    rw [numFrom.eq_2, numFrom.eq_2, tail_bz]
    split
    · split
      · have : ¬ (((k + pos : Nat) : Int) + 1 = 0) := by omega
        simp only [this, if_false]
        congr 1
        omega
      · rfl
    · split
      · rfl
      · rw [ih]; rfl

/-- The number that begins at p: the number, and how long it is, its ; with it. -/
def numAt (s : ByteArray) (p : Nat) (b : Int) : Int × Int := if (numFrom s b (s.size - p + 1) p 0).2 = 0 then (0, 0) else ((numFrom s b (s.size - p + 1) p 0).1, (numFrom s b (s.size - p + 1) p 0).2 - p)

theorem numAt_zero (s : ByteArray) (b : Int) : numAt s 0 b = num s b := by
  unfold numAt num
  simp only [Nat.sub_zero, Int.ofNat_zero, Int.sub_zero]
  split
  · rcases numFrom_may s b (s.size + 1) 0 0 with h | ⟨_, h, _⟩
    · rw [h]
    · omega
  · rfl

theorem numAt_tail (s : ByteArray) (k p : Nat) (b : Int) : numAt (tail s k) p b = numAt s (k + p) b := by
  unfold numAt
  rw [tail_size, tail_num, show s.size - k - p + 1 = s.size - (k + p) + 1 by omega]
  rcases numFrom_may s b (s.size - (k + p) + 1) (k + p) 0 with h | ⟨_, h, _⟩
  · rw [h]; rfl
  · have h1 : ¬ (numFrom s b (s.size - (k + p) + 1) (k + p) 0).2 = 0 := by omega
    simp only [h1, if_false]
    have h2 : ¬ (numFrom s b (s.size - (k + p) + 1) (k + p) 0).2 - (k : Int) = 0 := by omega
    simp only [h2, if_false]
    congr 1
    omega

/-- The reference that begins at i: what it stands for, and how long it is; 0: none begins. -/
def refAt (s : ByteArray) (i : Nat) : Int × Int :=
  if has s i [38, 108, 116, 59] = true then (60, 4) else if has s i [38, 103, 116, 59] = true then (62, 4) else if has s i [38, 97, 109, 112, 59] = true then (38, 5)
  else if has s i [38, 113, 117, 111, 116, 59] = true then (34, 6) else if has s i [38, 97, 112, 111, 115, 59] = true then (39, 6)
  else if has s i [38, 35, 120] = true then (if (numAt s (i + 3) 16).2 = 0 then (0, 0) else ((numAt s (i + 3) 16).1, 3 + (numAt s (i + 3) 16).2))
  else if has s i [38, 35] = true then (if (numAt s (i + 2) 10).2 = 0 then (0, 0) else ((numAt s (i + 2) 10).1, 2 + (numAt s (i + 2) 10).2))
  else (0, 0)

theorem refAt_tail (s : ByteArray) (k : Nat) : refAt (tail s k) 0 = refAt s k := by
  simp only [refAt, tail_has, numAt_tail, Nat.add_zero, Nat.zero_add]

end Go.Proofs.YtbjpimnmgonebaaDoor.Ch
