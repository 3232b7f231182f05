import Derived.Test.YtbjpimnmgonebabDoorWj
import Derived.Test.YtbjpimnmgonebabDoorPw
import Derived.Lib.SmallJoins
namespace Go.Proofs.YtbjpimnmgonebabDoor
open Go.RowKit

theorem escape_is (s E : ByteArray) (q : Bool) (w : World) (hs : s.size ≤ 1099511627776) (h : Ch.txt (Ch.esc s q) = E) :
    Calls Tryd.prog 4 #[.string s, .bool q] w fun e w' => e = .returned (.string E) ∧ Below w.heap.size w w' := by
  subst h
  exact escape_any s q w hs
theorem bad_is (s : ByteArray) (n : Nat) (w : World) (hs : s.size ≤ 1125899906842624) (h : Ch.bad s = n) :
    Calls Tryd.prog 6 #[.string s] w fun e w' => e = .returned (.int .i64 n) ∧ Below w.heap.size w w' := by
  subst h
  exact badC_any s w hs
theorem badR_is (s : ByteArray) (n : Nat) (w : World) (hs : s.size ≤ 1125899906842624) (h : Ch.bad s = n) :
    Calls Tryd.prog 8 #[.string s] w fun e w' => e = .returned (.int .i64 n) ∧ w' = w := by
  subst h
  exact badR_any s w hs
theorem name_is (s : ByteArray) (n : Nat) (w : World) (hs : s.size ≤ 1125899906842624) (h : Ch.name s = n) :
    Calls Tryd.prog 7 #[.string s] w fun e w' => e = .returned (.int .i64 n) ∧ Below w.heap.size w w' := by
  subst h
  exact nameC_any s w hs

theorem escL_le (q : Bool) (L : List UInt8) : (Ch.escL q L).length ≤ 6 * L.length := by
  induction L with
  | nil => simp [Ch.escL]
  | cons c L ih =>
    have h1 : (Ch.escB q c).length ≤ 6 := by
      unfold Ch.escB
      split
      · simp
      · exact Ch.refFor_le _ _
    have e : Ch.escL q (c :: L) = Ch.escB q c ++ Ch.escL q L := by simp [Ch.escL]
    rw [e]
    simp only [List.length_append, List.length_cons]
    omega
theorem esc_size (s : ByteArray) (q : Bool) : (Ch.txt (Ch.esc s q)).size ≤ 6 * s.size := by
  show (Ch.esc s q).toArray.size ≤ _
  have := escL_le q s.data.toList
  simpa [Ch.esc] using this

set_option maxHeartbeats 4000000 in
theorem lawJoined (a b : ByteArray) (q : Bool) (w : World) (ha : a.size ≤ 1048576) (hb : b.size ≤ 1048576) (hT : Tab w) :
    Calls Tryd.prog 3 #[.string a, .string b, .bool q] w fun e w' => e = .returned (.bool true) ∧ Below w.heap.size w w' := by
  have hB0 := tab_size hT
  have hj := Ch.joined_append a b
  have habs : (a ++ b).size = a.size + b.size := hj.1
  have hbf := Ch.bad_first hj (a.size + 1) 0 ((a ++ b).size + 1) (by omega) (by omega) (by omega)
  have hnf := Ch.name_first hj (a.size + 1) 0 ((a ++ b).size + 1) (by omega) (by omega) (by omega)
  have hpa : Ch.bad a ≤ a.size := Ch.badFrom_le a _ _ (by omega)
  have hqb : Ch.bad b ≤ b.size := Ch.badFrom_le b _ _ (by omega)
  have hrc : Ch.bad (a ++ b) ≤ (a ++ b).size := Ch.badFrom_le (a ++ b) _ _ (by omega)
  have hna : Ch.name a ≤ a.size := Ch.nameFrom_le a _ _ (by omega)
  have hmc : Ch.name (a ++ b) ≤ (a ++ b).size := Ch.nameFrom_le (a ++ b) _ _ (by omega)
  have hbf' : Ch.bad a ≤ Ch.bad (a ++ b) ∧ (Ch.bad a = a.size → Ch.bad (a ++ b) = a.size + Ch.bad b) := hbf
  have hnf' : Ch.name a ≤ Ch.name (a ++ b) ∧ (Ch.bad a = a.size → Ch.name a < a.size → Ch.name (a ++ b) = Ch.name a) := hnf
  clear hbf hnf hj
  have hea := esc_size a q
  have heb := esc_size b q
  have hec : Ch.txt (Ch.esc (a ++ b) q) = Ch.txt (Ch.esc a q) ++ Ch.txt (Ch.esc b q) := by
    rw [Ch.esc_append]
    apply ByteArray.ext
    apply Array.toList_inj.1
    rw [Joins.data_append]
    simp [Ch.txt]
  generalize hEA : Ch.txt (Ch.esc a q) = EA at *
  generalize hEB : Ch.txt (Ch.esc b q) = EB at *
  generalize hP : Ch.bad a = P at *
  generalize hQ : Ch.bad b = Q at *
  generalize hR : Ch.bad (a ++ b) = R at *
  generalize hN : Ch.name a = n at *
  generalize hM : Ch.name (a ++ b) = m at *
  have HEA := hide hEA
  have HEB := hide hEB
  have HEC := hide hec
  have HP := hide hP
  have HQ := hide hQ
  have HR := hide hR
  have HN := hide hN
  have HM := hide hM
  have HZ := hide habs
  obtain ⟨hb1, hb2⟩ := hbf'
  obtain ⟨hn1, hn2⟩ := hnf'
  have hss : (a ++ b).size ≤ 1125899906842624 := by omega
  have hss2 : (a ++ b).size ≤ 1099511627776 := by omega
  rw [habs] at hrc hmc
  have key : (P < a.size ∧ (((R : Int) == (P : Int)) = true ∨ (((R : Int) == (P : Int)) = false ∧ P < R))) ∨ (¬ P < a.size ∧ ((R : Int) != (a.size : Int) + (Q : Int)) = false ∧ (((n : Int) == (a.size : Int)) = true ∨ (((n : Int) == (a.size : Int)) = false ∧ ((m : Int) == (n : Int)) = true))) := by
    by_cases h : P < a.size
    · refine Or.inl ⟨h, ?_⟩
      by_cases e : R = P
      · exact Or.inl (by rw [beq_iff_eq]; omega)
      · exact Or.inr ⟨by rw [beq_eq_false_iff_ne]; omega, by omega⟩
    · have hPe : P = a.size := by omega
      refine Or.inr ⟨h, ?_, ?_⟩
      · have := hb2 hPe
        rw [this]; simp
      · by_cases e : n = a.size
        · exact Or.inl (by rw [beq_iff_eq]; omega)
        · have := hn2 hPe (by omega)
          exact Or.inr ⟨by rw [beq_eq_false_iff_ne]; omega, by rw [beq_iff_eq]; omega⟩
  clear hEA hEB hec hP hQ hR hN hM habs hb2 hn2
  rcases key with ⟨k0, k1 | ⟨k1, k2⟩⟩ | ⟨k0, k1, k2 | ⟨k2, k3⟩⟩
  all_goals
    go_enter Tryd.func3, Tryd.ntmps3
    go_wp2_with (first | (go_at_call_of 4 (Value.string a); refine (escape_is a EA q _ (by omega) HEA.out).mono ?_; rintro e w1 ⟨rfl, b1⟩) | (go_at_call_of 4 (Value.string b); refine (escape_is b EB q _ (by omega) HEB.out).mono ?_; rintro e w2 ⟨rfl, b2⟩) | (go_at_call 4; refine (escape_is (a ++ b) (EA ++ EB) q _ hss2 HEC.out).mono ?_; rintro e w3 ⟨rfl, b3⟩) | (go_at_call 5; refine (alive_any _ (tab_below hT hB0 (below_on (below_on b1 b2) b3))).mono ?_; rintro e w4 ⟨rfl, b4⟩) | (go_at_call_of 6 (Value.string a); refine (bad_is a P _ (by omega) HP.out).mono ?_; rintro e w5 ⟨rfl, b5⟩) | (go_at_call_of 6 (Value.string b); refine (bad_is b Q _ (by omega) HQ.out).mono ?_; rintro e w6 ⟨rfl, b6⟩) | (go_at_call 6; refine (bad_is (a ++ b) R _ hss HR.out).mono ?_; rintro e w7 ⟨rfl, b7⟩) | (go_at_call_of 7 (Value.string a); refine (name_is a n _ (by omega) HN.out).mono ?_; rintro e w8 ⟨rfl, b8⟩) | (go_at_call 7; refine (name_is (a ++ b) m _ hss HM.out).mono ?_; rintro e w9 ⟨rfl, b9⟩) | (go_at_call 8; refine (badR_is (a ++ b) R _ hss HR.out).mono ?_; rintro e w' ⟨rfl, rfl⟩))
    go_ret
    exact ⟨rfl, below_on (below_on (below_on (below_on (below_on (below_on (below_on (below_on b1 b2) b3) b4) b5) b6) b7) b8) b9⟩
end Go.Proofs.YtbjpimnmgonebabDoor
