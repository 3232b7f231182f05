import Derived.Test.YtbjpimnmgonebaaDoorPm
import Derived.Lib.RuneBytes
namespace Go.Proofs.YtbjpimnmgonebaaDoor.Ch
open Go

/-- The number that begins at pos, n told already, up to its ;: the number and the place behind the ;; (0, 0): there is none. -/
def numFrom (u : ByteArray) (b : Int) : Nat → Nat → Int → Int × Int
  | 0, _, _ => (0, 0)
  | f + 1, pos, n =>
    if bz u pos = 59 then (if may n = true then (n, (pos : Int) + 1) else (0, 0))
    else if b ≤ dig 16 (bz u pos) then (0, 0)
    else numFrom u b f (pos + 1) (if n ≤ 1114111 then n * b + dig 16 (bz u pos) else n)

theorem dig_high {r : Int} (h : 128 ≤ r) (d : Int) : dig d r = d := by
  unfold dig
  rw [if_neg (by omega), if_neg (by omega), if_neg (by omega)]
theorem dig_bd (r : Int) : 0 ≤ dig 16 r ∧ dig 16 r ≤ 16 := by
  unfold dig
  repeat' split
  all_goals omega
theorem dig_end (r : Int) (h : r < 0) : dig 16 r = 16 := by
  unfold dig
  rw [if_neg (by omega), if_neg (by omega), if_neg (by omega)]

/-- What a range tells of a place, by its byte. -/
theorem decode_byte (u : ByteArray) (pos : Nat) (h : pos < u.size) : (0 ≤ bz u pos ∧ bz u pos < 128 ∧ Utf8.decode u pos = ((bz u pos).toNat, 1)) ∨ (128 ≤ bz u pos ∧ 128 ≤ (Utf8.decode u pos).1) := by
  have h0 : 0 ≤ bz u pos := by unfold bz; rw [if_pos h]; omega
  by_cases hb : bz u pos < 128
  · exact Or.inl ⟨h0, hb, decode_one h0 hb⟩
  · refine Or.inr ⟨by omega, ?_⟩
    have hg : ((u.get! pos).toNat : Int) = bz u pos := (bz_get h0).2
    have e : u.get! pos = u[pos] := by simp [ByteArray.get!, h]; rfl
    exact (decode_high u pos h (by rw [← e]; omega)).1

theorem num_end {u : ByteArray} {b : Int} {f pos : Nat} {n : Int} {X : Int × Int} (hb : b ≤ 16) (hp : ¬ pos < u.size) (h : numFrom u b (f + 1) pos n = X) : X = (0, 0) := by
  have hz : bz u pos = -1 := by unfold bz; rw [if_neg hp]
  subst h
  unfold numFrom
  rw [hz, if_neg (by omega), dig_end _ (by omega), if_pos hb]
theorem num_semi {u : ByteArray} {b : Int} {f pos : Nat} {n : Int} {X : Int × Int} (hs : bz u pos = 59) (h : numFrom u b (f + 1) pos n = X) : X = if may n = true then (n, (pos : Int) + 1) else (0, 0) := by
  subst h
  unfold numFrom
  rw [if_pos hs]
theorem num_no {u : ByteArray} {b : Int} {f pos : Nat} {n : Int} {X : Int × Int} (hs : ¬ bz u pos = 59) (hd : b ≤ dig 16 (bz u pos)) (h : numFrom u b (f + 1) pos n = X) : X = (0, 0) := by
  subst h
  unfold numFrom
  rw [if_neg hs, if_pos hd]
theorem num_on {u : ByteArray} {b : Int} {f pos : Nat} {n : Int} {X : Int × Int} (hs : ¬ bz u pos = 59) (hd : ¬ b ≤ dig 16 (bz u pos)) (h : numFrom u b (f + 1) pos n = X) :
    numFrom u b f (pos + 1) (if n ≤ 1114111 then n * b + dig 16 (bz u pos) else n) = X := by
  subst h
  rw [numFrom.eq_2, if_neg hs, if_neg hd]

/-- The number at the beginning of u. -/
def num (u : ByteArray) (b : Int) : Int × Int := numFrom u b (u.size + 1) 0 0

theorem numFrom_may (u : ByteArray) (b : Int) : ∀ f pos n, (numFrom u b f pos n = (0, 0)) ∨ (may (numFrom u b f pos n).1 = true ∧ (pos : Int) + 1 ≤ (numFrom u b f pos n).2 ∧ (numFrom u b f pos n).2 ≤ u.size) := by
  intro f
  induction f with
  | zero => intro pos n; exact Or.inl rfl
  | succ f ih =>
    intro pos n
    unfold numFrom
    split
    · rename_i h
      have hp : pos < u.size := (bz_get (s := u) (i := pos) (by omega)).1
      split
      · exact Or.inr ⟨by assumption, by simp, by simp; omega⟩
      · exact Or.inl rfl
    · split
      · exact Or.inl rfl
      · rcases ih (pos + 1) (if n ≤ 1114111 then n * b + dig 16 (bz u pos) else n) with h | ⟨h1, h2, h3⟩
        · exact Or.inl h
        · exact Or.inr ⟨h1, by omega, h3⟩
end Go.Proofs.YtbjpimnmgonebaaDoor.Ch
