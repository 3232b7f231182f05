import Derived.Test.YtbjpimnmgonebabDoorPs
namespace Go.Proofs.YtbjpimnmgonebabDoor.Ch
open Go

/-- What decode sees: one byte, and the bytes behind it as long as they go on. -/
theorem decode_same {s t : ByteArray} {i j : Nat} (h0 : bz s i = bz t j) (hge : 128 ≤ bz s i)
    (h1 : cont s (i + 1) → bz s (i + 1) = bz t (j + 1)) (n1 : ¬ cont s (i + 1) → ¬ cont t (j + 1))
    (h2 : cont s (i + 1) → cont s (i + 2) → bz s (i + 2) = bz t (j + 2)) (n2 : cont s (i + 1) → ¬ cont s (i + 2) → ¬ cont t (j + 2))
    (h3 : cont s (i + 1) → cont s (i + 2) → cont s (i + 3) → bz s (i + 3) = bz t (j + 3)) (n3 : cont s (i + 1) → cont s (i + 2) → ¬ cont s (i + 3) → ¬ cont t (j + 3)) :
    Utf8.decode t j = Utf8.decode s i := by
  have c1 : ∀ (h : cont s (i + 1)), cont t (j + 1) := fun h => by unfold cont at *; rw [← h1 h]; exact h
  have c2 : ∀ (h : cont s (i + 1)), cont s (i + 2) → cont t (j + 2) := fun h k => by unfold cont at *; rw [← h2 h k]; exact k
  have c3 : ∀ (h : cont s (i + 1)), cont s (i + 2) → cont s (i + 3) → cont t (j + 3) := fun h k l => by unfold cont at *; rw [← h3 h k l]; exact l
  by_cases a2 : bz s i < 192
  · rw [decode_none (Or.inl ⟨hge, a2⟩), decode_none (Or.inl ⟨by omega, by omega⟩)]
  by_cases a3 : bz s i < 224
  · by_cases k1 : cont s (i + 1)
    · rw [decode_two (by omega) a3 k1, decode_two (by omega) (by omega) (c1 k1)]
      simp only [acc, Nat.zero_add, h0, h1 k1]
    · rw [decode_two_no (by omega) a3 k1, decode_two_no (by omega) (by omega) (n1 k1)]
  by_cases a4 : bz s i < 240
  · by_cases k1 : cont s (i + 1)
    · by_cases k2 : cont s (i + 2)
      · rw [decode_three (by omega) a4 k1 k2, decode_three (by omega) (by omega) (c1 k1) (c2 k1 k2)]
        simp only [acc, Nat.zero_add, Nat.reduceAdd, h0, h1 k1, h2 k1 k2]
      · rw [decode_three_no (by omega) a4 (Or.inr k2), decode_three_no (by omega) (by omega) (Or.inr (n2 k1 k2))]
    · rw [decode_three_no (by omega) a4 (Or.inl k1), decode_three_no (by omega) (by omega) (Or.inl (n1 k1))]
  by_cases a5 : bz s i < 248
  · by_cases k1 : cont s (i + 1)
    · by_cases k2 : cont s (i + 2)
      · by_cases k3 : cont s (i + 3)
        · rw [decode_four (by omega) a5 k1 k2 k3, decode_four (by omega) (by omega) (c1 k1) (c2 k1 k2) (c3 k1 k2 k3)]
          simp only [acc, Nat.zero_add, Nat.reduceAdd, h0, h1 k1, h2 k1 k2, h3 k1 k2 k3]
        · rw [decode_four_no (by omega) a5 (Or.inr (Or.inr k3)), decode_four_no (by omega) (by omega) (Or.inr (Or.inr (n3 k1 k2 k3)))]
      · rw [decode_four_no (by omega) a5 (Or.inr (Or.inl k2)), decode_four_no (by omega) (by omega) (Or.inr (Or.inl (n2 k1 k2)))]
    · rw [decode_four_no (by omega) a5 (Or.inl k1), decode_four_no (by omega) (by omega) (Or.inl (n1 k1))]
  · rw [decode_none (Or.inr (by omega)), decode_none (Or.inr (by omega))]

/-- A list of bytes as a text. -/
def txt (l : List UInt8) : ByteArray := ⟨l.toArray⟩

theorem bz_txt (l : List UInt8) (i : Nat) : bz (txt l) i = (match l[i]? with | some c => (c.toNat : Int) | none => -1) := by
  unfold bz
  have hs : (txt l).size = l.length := by show l.toArray.size = _; simp
  rw [hs]
  by_cases h : i < l.length
  · rw [if_pos h, List.getElem?_eq_getElem h]
    have h2 : i < (txt l).size := by rw [hs]; exact h
    have e : (txt l).get! i = (txt l)[i] := by simp [ByteArray.get!, h2]; rfl
    rw [e]
    have e2 : (txt l)[i] = l[i] := rfl
    rw [e2]
    rfl
  · rw [if_neg h, List.getElem?_eq_none (by omega)]

theorem bz_app (a b : List UInt8) (i : Nat) : bz (txt (a ++ b)) (a.length + i) = bz (txt b) i := by
  rw [bz_txt, bz_txt, List.getElem?_append_right (by omega), Nat.add_sub_cancel_left]
theorem bz_app_left (a b : List UInt8) (i : Nat) (h : i < a.length) : bz (txt (a ++ b)) i = bz (txt a) i := by
  rw [bz_txt, bz_txt, List.getElem?_append_left h]

theorem txt_self (s : ByteArray) : txt s.data.toList = s := rfl

theorem bz_cons (c : UInt8) (l : List UInt8) (k : Nat) : bz (txt (c :: l)) (k + 1) = bz (txt l) k := by
  rw [bz_txt, bz_txt]; rfl
theorem bz_head (c : UInt8) (l : List UInt8) : bz (txt (c :: l)) 0 = (c.toNat : Int) := by
  rw [bz_txt]; rfl

/-- The same bytes from there on. -/
theorem decode_shift {s t : ByteArray} {i j : Nat} (hi : i < s.size) (h : ∀ k, bz s (i + k) = bz t (j + k)) : Utf8.decode t j = Utf8.decode s i := by
  have h0 := h 0
  simp only [Nat.add_zero] at h0
  have hs0 : 0 ≤ bz s i := by unfold bz; rw [if_pos hi]; omega
  by_cases ha : bz s i < 128
  · rw [decode_one hs0 ha, decode_one (by omega) (by omega), h0]
  · have hc : ∀ k, cont s (i + k) ↔ cont t (j + k) := fun k => by unfold cont; rw [h k]
    exact decode_same h0 (by omega) (fun _ => h 1) (fun n q => n ((hc 1).2 q)) (fun _ _ => h 2) (fun _ n q => n ((hc 2).2 q)) (fun _ _ _ => h 3) (fun _ _ n q => n ((hc 3).2 q))

theorem escB_plain {q : Bool} {c : UInt8} (h : refFor (c.toNat : Int) q = []) : escB q c = [c] := by simp [escB, h]
theorem escB_ref {q : Bool} {c : UInt8} (h : ¬ refFor (c.toNat : Int) q = []) : escB q c = refFor (c.toNat : Int) q := by simp [escB, h]

theorem refFor_head {r : Int} {q : Bool} (h : ¬ refFor r q = []) : ∃ l, refFor r q = 38 :: l := by
  unfold refFor at *
  repeat' split
  all_goals simp_all

/-- What stands first in an escaped text goes on a character just where it did. -/
theorem head_esc (q : Bool) (D : List UInt8) : (cont (txt D) 0 → bz (txt D) 0 = bz (txt (escL q D)) 0) ∧ (¬ cont (txt D) 0 → ¬ cont (txt (escL q D)) 0) := by
  cases D with
  | nil => exact ⟨fun _ => rfl, fun h => h⟩
  | cons c D =>
    by_cases h : refFor (c.toNat : Int) q = []
    · have e : escL q (c :: D) = c :: escL q D := by simp [escL, escB_plain h]
      rw [e, bz_head, bz_head]
      unfold cont
      rw [bz_head, bz_head]
      exact ⟨fun _ => rfl, fun h => h⟩
    · obtain ⟨l, hl⟩ := refFor_head h
      have e : escL q (c :: D) = 38 :: (l ++ escL q D) := by simp [escL, escB_ref h, hl]
      have hc : (c.toNat : Int) < 128 := by
        rcases Int.lt_or_le (c.toNat : Int) 128 with h' | h'
        · exact h'
        · exact absurd (refFor_high q h') h
      rw [e, bz_head, bz_head]
      unfold cont
      rw [bz_head, bz_head]
      refine ⟨fun h => by omega, fun _ h => ?_⟩
      have : ((38 : UInt8).toNat : Int) = 38 := rfl
      omega

theorem cont_cons {c : UInt8} {l : List UInt8} {k : Nat} : cont (txt (c :: l)) (k + 1) ↔ cont (txt l) k := by
  unfold cont; rw [bz_cons]

/-- A byte of a character (or of none) that is left: what decode sees is the same. -/
theorem decode_esc {q : Bool} {c : UInt8} {D : List UInt8} (h : refFor (c.toNat : Int) q = []) : Utf8.decode (txt (escL q (c :: D))) 0 = Utf8.decode (txt (c :: D)) 0 := by
  have e : escL q (c :: D) = c :: escL q D := by simp [escL, escB_plain h]
  rw [e]
  by_cases ha : (c.toNat : Int) < 128
  · rw [decode_one (by rw [bz_head]; omega) (by rw [bz_head]; exact ha), decode_one (by rw [bz_head]; omega) (by rw [bz_head]; exact ha), bz_head, bz_head]
  · have high : ∀ (d : UInt8) (X : List UInt8), cont (txt (d :: X)) 0 → escL q (d :: X) = d :: escL q X := by
      intro d X hd
      unfold cont at hd
      rw [bz_head] at hd
      simp [escL, escB_plain (refFor_high q (show (128 : Int) ≤ (d.toNat : Int) by omega))]
    have tailc : ∀ X : List UInt8, cont (txt X) 0 → ∃ d Y, X = d :: Y := by
      intro X hX
      cases X with
      | nil => unfold cont at hX; rw [bz_txt] at hX; simp at hX
      | cons d Y => exact ⟨d, Y, rfl⟩
    refine decode_same (s := txt (c :: D)) (t := txt (c :: escL q D)) (i := 0) (j := 0) (by rw [bz_head, bz_head]) (by rw [bz_head]; omega) ?_ ?_ ?_ ?_ ?_ ?_
    · intro h1
      have h1' := cont_cons.1 h1
      show bz (txt (c :: D)) (0 + 1) = bz (txt (c :: escL q D)) (0 + 1)
      rw [bz_cons, bz_cons]
      exact (head_esc q D).1 h1'
    · intro h1 h2
      exact (head_esc q D).2 (fun k => h1 (cont_cons.2 k)) (cont_cons.1 h2)
    · intro h1 h2
      have h1' := cont_cons.1 h1
      obtain ⟨d, Y, rfl⟩ := tailc D h1'
      have h2' : cont (txt Y) 0 := cont_cons.1 (cont_cons.1 h2)
      rw [high d Y h1']
      show bz (txt (c :: d :: Y)) (0 + 1 + 1) = bz (txt (c :: d :: escL q Y)) (0 + 1 + 1)
      rw [bz_cons, bz_cons, bz_cons, bz_cons]
      exact (head_esc q Y).1 h2'
    · intro h1 h2 h3
      have h1' := cont_cons.1 h1
      obtain ⟨d, Y, rfl⟩ := tailc D h1'
      rw [high d Y h1'] at h3
      exact (head_esc q Y).2 (fun k => h2 (cont_cons.2 (cont_cons.2 k))) (cont_cons.1 (cont_cons.1 h3))
    · intro h1 h2 h3
      have h1' := cont_cons.1 h1
      obtain ⟨d, Y, rfl⟩ := tailc D h1'
      have h2' : cont (txt Y) 0 := cont_cons.1 (cont_cons.1 h2)
      obtain ⟨d2, Z, rfl⟩ := tailc Y h2'
      have h3' : cont (txt Z) 0 := cont_cons.1 (cont_cons.1 (cont_cons.1 h3))
      rw [high d (d2 :: Z) h1', high d2 Z h2']
      show bz (txt (c :: d :: d2 :: Z)) (0 + 1 + 1 + 1) = bz (txt (c :: d :: d2 :: escL q Z)) (0 + 1 + 1 + 1)
      rw [bz_cons, bz_cons, bz_cons, bz_cons, bz_cons, bz_cons]
      exact (head_esc q Z).1 h3'
    · intro h1 h2 h3 h4
      have h1' := cont_cons.1 h1
      obtain ⟨d, Y, rfl⟩ := tailc D h1'
      have h2' : cont (txt Y) 0 := cont_cons.1 (cont_cons.1 h2)
      obtain ⟨d2, Z, rfl⟩ := tailc Y h2'
      rw [high d (d2 :: Z) h1', high d2 Z h2'] at h4
      exact (head_esc q Z).2 (fun k => h3 (cont_cons.2 (cont_cons.2 (cont_cons.2 k)))) (cont_cons.1 (cont_cons.1 (cont_cons.1 h4)))
end Go.Proofs.YtbjpimnmgonebabDoor.Ch
