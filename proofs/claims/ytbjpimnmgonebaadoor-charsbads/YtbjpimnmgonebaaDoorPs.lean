import Derived.Test.YtbjpimnmgonebaaDoorPr
namespace Go.Proofs.YtbjpimnmgonebaaDoor.Ch
open Go

def escB (q : Bool) (c : UInt8) : List UInt8 := if refFor (c.toNat : Int) q = [] then [c] else refFor (c.toNat : Int) q
def escL (q : Bool) (l : List UInt8) : List UInt8 := l.flatMap (escB q)
def esc (s : ByteArray) (q : Bool) : List UInt8 := escL q s.data.toList

theorem refFor_high {r : Int} (q : Bool) (h : 128 ≤ r) : refFor r q = [] := by
  unfold refFor
  repeat' split
  all_goals first | omega | rfl
theorem refFor_le (r : Int) (q : Bool) : (refFor r q).length ≤ 6 := by
  unfold refFor
  repeat' split
  all_goals simp

theorem bytes_high {s : ByteArray} {i : Nat} (hi : i < s.size) (h : 128 ≤ bz s i) : ∀ j, i ≤ j → j < i + (Utf8.decode s i).2 → 128 ≤ bz s j := by
  have one : ∀ j, i ≤ j → j < i + 1 → 128 ≤ bz s j := fun j a b => by
    obtain rfl : i = j := by omega
    exact h
  by_cases a2 : bz s i < 192
  · rw [decode_none (Or.inl ⟨h, a2⟩)]; exact one
  by_cases a3 : bz s i < 224
  · by_cases c1 : cont s (i + 1)
    · rw [decode_two (by omega) a3 c1]
      split
      · intro j x y
        unfold cont at c1
        have : j = i ∨ j = i + 1 := by omega
        rcases this with rfl | rfl <;> omega
      · exact one
    · rw [decode_two_no (by omega) a3 c1]; exact one
  by_cases a4 : bz s i < 240
  · by_cases c1 : cont s (i + 1)
    · by_cases c2 : cont s (i + 2)
      · rw [decode_three (by omega) a4 c1 c2]
        split
        · intro j x y
          unfold cont at c1 c2
          have : j = i ∨ j = i + 1 ∨ j = i + 2 := by omega
          rcases this with rfl | rfl | rfl <;> omega
        · exact one
      · rw [decode_three_no (by omega) a4 (Or.inr c2)]; exact one
    · rw [decode_three_no (by omega) a4 (Or.inl c1)]; exact one
  by_cases a5 : bz s i < 248
  · by_cases c1 : cont s (i + 1)
    · by_cases c2 : cont s (i + 2)
      · by_cases c3 : cont s (i + 3)
        · rw [decode_four (by omega) a5 c1 c2 c3]
          split
          · intro j x y
            unfold cont at c1 c2 c3
            have : j = i ∨ j = i + 1 ∨ j = i + 2 ∨ j = i + 3 := by omega
            rcases this with rfl | rfl | rfl | rfl <;> omega
          · exact one
        · rw [decode_four_no (by omega) a5 (Or.inr (Or.inr c3))]; exact one
      · rw [decode_four_no (by omega) a5 (Or.inr (Or.inl c2))]; exact one
    · rw [decode_four_no (by omega) a5 (Or.inl c1)]; exact one
  · rw [decode_none (Or.inr (by omega))]; exact one

theorem escL_append (q : Bool) (a b : List UInt8) : escL q (a ++ b) = escL q a ++ escL q b := by simp [escL]

theorem take_get (s : ByteArray) (i : Nat) (h : i < s.size) : s.data.toList.take (i + 1) = s.data.toList.take i ++ [s.get! i] := by
  rw [List.take_succ_eq_append_getElem (by simpa using h)]
  congr 2
  simp [ByteArray.get!, h]

theorem bytes_snoc (s : ByteArray) (i n : Nat) (h : i + n < s.size) : bytes s i (n + 1) = bytes s i n ++ [s.get! (i + n)] := by
  have hd : n < (s.data.toList.drop i).length := by simp; omega
  unfold bytes
  rw [List.take_succ_eq_append_getElem hd]
  congr 2
  simp [ByteArray.get!, h]

/-- Bytes that are left as they are. -/
theorem esc_plain (s : ByteArray) (q : Bool) (acc : List UInt8) (wr pos : Nat) (h1 : wr ≤ pos) (h : acc ++ bytes s wr (pos - wr) = escL q (s.data.toList.take pos)) :
    ∀ n, pos + n ≤ s.size → (∀ j, pos ≤ j → j < pos + n → refFor (bz s j) q = []) → acc ++ bytes s wr (pos + n - wr) = escL q (s.data.toList.take (pos + n)) := by
  intro n
  induction n with
  | zero => intro _ _; exact h
  | succ n ih =>
    intro hn hj
    have h2 := ih (by omega) (fun j a b => hj j a (by omega))
    have h3 := hj (pos + n) (by omega) (by omega)
    have hlt : pos + n < s.size := by omega
    rw [show pos + (n + 1) - wr = (pos + n - wr) + 1 by omega, bytes_snoc s wr _ (by omega), show wr + (pos + n - wr) = pos + n by omega, ← List.append_assoc, h2, ← Nat.add_assoc, take_get s (pos + n) hlt, escL_append]
    congr 1
    have hb : bz s (pos + n) = ((s.get! (pos + n)).toNat : Int) := by unfold bz; rw [if_pos hlt]
    rw [hb] at h3
    simp [escL, escB, h3]

theorem esc_ref (s : ByteArray) (q : Bool) (acc : List UInt8) (wr pos : Nat) (h : acc ++ bytes s wr (pos - wr) = escL q (s.data.toList.take pos)) (hlt : pos < s.size) (hr : ¬ refFor (bz s pos) q = []) :
    (acc ++ bytes s wr (pos - wr)) ++ refFor (bz s pos) q ++ bytes s (pos + 1) (pos + 1 - (pos + 1)) = escL q (s.data.toList.take (pos + 1)) := by
  have hb : bz s pos = ((s.get! pos).toNat : Int) := by unfold bz; rw [if_pos hlt]
  rw [Nat.sub_self, take_get s pos hlt, escL_append, h]
  rw [hb] at hr ⊢
  simp [escL, escB, hr, bytes]
end Go.Proofs.YtbjpimnmgonebaaDoor.Ch
