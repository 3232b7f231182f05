import Derived.Test.YtbjpimnmgonebaaDoorPl
import Derived.Lib.Strings
import Derived.Lib.IndexBytes
namespace Go.Proofs.YtbjpimnmgonebaaDoor.Ch
open Go

/-- Do these bytes stand there? -/
def has (s : ByteArray) (i : Nat) : List UInt8 → Bool
  | [] => true
  | c :: l => bz s i == (c.toNat : Int) && has s (i + 1) l

theorem drop_cons (s : ByteArray) (i : Nat) (h : i < s.size) : s.data.toList.drop i = s.get! i :: s.data.toList.drop (i + 1) := by
  rw [List.drop_eq_getElem_cons (by simpa using h)]
  congr 1
  simp [ByteArray.get!, h]

theorem drop_nil (s : ByteArray) (i : Nat) (h : ¬ i < s.size) : s.data.toList.drop i = [] := by
  apply List.drop_eq_nil_of_le
  simpa using h

theorem prefix_has (s : ByteArray) (l : List UInt8) : ∀ i, l.isPrefixOf (s.data.toList.drop i) = has s i l := by
  induction l with
  | nil => intro i; simp [has]
  | cons c l ih =>
    intro i
    by_cases h : i < s.size
    · rw [drop_cons s i h]
      simp only [List.isPrefixOf, has, ih]
      congr 1
      rw [Bool.eq_iff_iff, beq_iff_eq, beq_iff_eq]
      simp only [bz, h, if_true]
      constructor
      · intro e; rw [e]
      · intro e; exact (UInt8.toNat_inj.1 (by omega))
    · rw [drop_nil s i h]
      simp [has, List.isPrefixOf, bz, h]

theorem extract_list (s : ByteArray) (i : Nat) : (s.extract i s.size).data.toList = s.data.toList.drop i := by
  simp [List.take_of_length_le]

theorem hasPrefix_from (s : ByteArray) (i : Nat) (l : List UInt8) : Lib.hasPrefix (s.extract i s.size).data.toList l = has s i l := by
  rw [extract_list, Lib.hasPrefix, prefix_has]

theorem hasPrefix_walk (s : ByteArray) (i : Nat) (l : List UInt8) : Lib.hasPrefix (List.take (s.size - i) (List.drop i s.data.toList)) l = has s i l := by
  rw [List.take_of_length_le (by simp), Lib.hasPrefix, prefix_has]

/-- C1's answer, from a place on. -/
def badFrom (s : ByteArray) : Nat → Nat → Nat
  | 0, pos => pos
  | f + 1, pos => if pos < s.size then (if okAt s pos = true then badFrom s f (pos + (Utf8.decode s pos).2) else pos) else s.size
def bad (s : ByteArray) : Nat := badFrom s (s.size + 1) 0

theorem badFrom_le (s : ByteArray) : ∀ f pos, pos ≤ s.size → badFrom s f pos ≤ s.size := by
  intro f
  induction f with
  | zero => intro pos h; exact h
  | succ f ih =>
    intro pos h
    unfold badFrom
    split
    · split
      · exact ih _ (decode_width s pos ‹_›).1
      · omega
    · omega

def inName (s : ByteArray) (pos : Nat) : Bool := okAt s pos && (begins (Utf8.decode s pos).1 || (decide (0 < pos) && goesOn (Utf8.decode s pos).1))
/-- C2's answer, from a place on. -/
def nameFrom (s : ByteArray) : Nat → Nat → Nat
  | 0, pos => pos
  | f + 1, pos => if pos < s.size then (if inName s pos = true then nameFrom s f (pos + (Utf8.decode s pos).2) else pos) else s.size
def name (s : ByteArray) : Nat := nameFrom s (s.size + 1) 0

theorem at2_pos (s : ByteArray) (i : Nat) (h : i < s.size) : at2 s i = if okAt s i = true then (((Utf8.decode s i).1 : Int), ((Utf8.decode s i).2 : Int)) else (0, 0) := by
  simp [at2, h]
end Go.Proofs.YtbjpimnmgonebaaDoor.Ch
