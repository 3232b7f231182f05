import Derived.Test.YtbjpimnmgonebaaDoorWq
namespace Go.Proofs.YtbjpimnmgonebaaDoor
open Go.RowKit

/-- Does an & stand among the first k bytes? -/
def amp (s : ByteArray) : Nat → Bool
  | 0 => false
  | k + 1 => amp s k || Ch.bz s k == 38

theorem amp_no (s : ByteArray) : ∀ k, amp s k = false → ∀ j, j < k → ¬ Ch.bz s j = 38 := by
  intro k
  induction k with
  | zero => intro _ j h; omega
  | succ k ih =>
    intro h j hj
    simp only [amp, Bool.or_eq_false_iff, beq_eq_false_iff_ne] at h
    by_cases e : j = k
    · rw [e]; exact h.2
    · exact ih h.1 j (by omega)

theorem bz_nth (s : ByteArray) (pos : Nat) (h : pos < s.size) : (s[pos].toNat : Int) = Ch.bz s pos := by
  have e : (s.get! pos) = s[pos] := by
    simp [ByteArray.get!, h]; rfl
  rw [Ch.bz, if_pos h, e]

/-- The text that is asked, put together as the law does. -/
theorem cat_is (s D : ByteArray) : s ++ ⟨#[38, 35]⟩ ++ D ++ ⟨#[59]⟩ ++ s = Ch.txt (s.data.toList ++ ([38, 35] ++ D.data.toList ++ [59] ++ s.data.toList)) := by
  apply ByteArray.ext
  apply Array.toList_inj.1
  rw [Joins.data_append, Joins.data_append, Joins.data_append, Joins.data_append]
  simp [Ch.txt]
theorem three_is (s X : ByteArray) : (⟨(s.data.toList ++ X.data.toList ++ s.data.toList).toArray⟩ : ByteArray) = s ++ X ++ s := by
  apply ByteArray.ext
  apply Array.toList_inj.1
  rw [Joins.data_append, Joins.data_append]

theorem decimal_int (n : Nat) (w : World) (hn : n ≤ 1099511627776) : Calls Tryd.prog 17 #[.int .i64 n] w fun e w' => e = .returned (.string (Ch.txt (Ch.decF 13 n))) ∧ Below w.heap.size w w' :=
  decimal_any 13 n w (by have : (10 : Nat) ^ 13 = 10000000000000 := by decide
                         omega) hn (by decide) (by decide)

set_option maxHeartbeats 4000000 in
set_option maxRecDepth 1000000 in
theorem numbers_main (n : Nat) (s : ByteArray) (w : World) (hn : n ≤ 1099511627776) (hs : s.size ≤ 1048576) (hT : Tab w) (hbad : Ch.bad s = s.size) :
    Calls Tryd.prog 7 #[.int .i64 n, .string s] w fun e w' => e = .returned (.bool true) ∧ Below w.heap.size w w' := by
  have hB0 := tab_size hT
  have hblt : ¬ ((Ch.bad s : Int) < (s.size : Int)) := by omega
  have HBD := hide hbad
  clear hbad
  go_enter Tryd.func7, Tryd.ntmps7
  go_wp2_with (go_at_call 9; refine (badR_any _ _ (by omega)).mono ?_; rintro e w' ⟨rfl, rfl⟩)
  go_loop [5, 6] (fun a i => ∃ k : Nat, k ≤ s.size ∧ i = .int .i64 k ∧ a = .bool (amp s k)) (fun _ i => s.size - (intOf i).toNat)
  case atStart => exact ⟨0, by omega, rfl, rfl⟩
  case round =>
    obtain ⟨k, hk, rfl, rfl⟩ := hrel
    by_cases hlt : k < s.size
    · have hb := bz_nth s k hlt
      have hst : amp s (k + 1) = (amp s k || Ch.bz s k == 38) := rfl
      have HST := hide hst
      have HB := hide hb
      clear hst hb
      cases ha : amp s k
      · go_wp2
        refine ⟨⟨k + 1, by omega, by go_num, ?_⟩, by simp [intOf]; omega⟩
        rw [HST.out, ha, HB.out, Bool.false_or]
      · go_wp2
        refine ⟨⟨k + 1, by omega, by go_num, ?_⟩, by simp [intOf]; omega⟩
        rw [HST.out, ha, Bool.true_or]
    · obtain rfl : k = s.size := by omega
      cases ha : amp s s.size
      · have hnum := Ch.numbers s 12 n (by have : (10 : Nat) ^ (12 + 1) = 10000000000000 := by decide
                                           omega) HBD.out (amp_no s s.size ha)
        obtain ⟨D, hD⟩ : ∃ D, Ch.txt (Ch.decF 13 n) = D := ⟨_, rfl⟩
        have hDs : D.size ≤ 13 := by
          rw [← hD, Ch.txt_size]; exact Ch.decF_le 13 n
        obtain ⟨E, hE⟩ : ∃ E : ByteArray, E = ⟨(Lib.encodeRune (n : Int)).toArray⟩ := ⟨_, rfl⟩
        have hEs : E.size ≤ 4 := by
          rw [hE]
          have := Ch.encode_le (n : Int)
          show (Lib.encodeRune (n : Int)).toArray.size ≤ 4
          simpa using this
        have hcat := cat_is s D
        have hDl : D.data.toList = Ch.decF 13 n := by rw [← hD]; rfl
        rw [hDl] at hcat
        obtain ⟨X, hX⟩ : ∃ X, s ++ ⟨#[38, 35]⟩ ++ D ++ ⟨#[59]⟩ ++ s = X := ⟨_, rfl⟩
        rw [hX] at hcat
        have hXs : X.size ≤ 4194304 := by
          rw [← hX]
          simp only [ByteArray.size_append]
          have e1 : (⟨#[38, 35]⟩ : ByteArray).size = 2 := rfl
          have e2 : (⟨#[59]⟩ : ByteArray).size = 1 := rfl
          omega
        have hun : Ch.unesc X = if Ch.may (n : Int) = true then (s.data.toList ++ Lib.encodeRune (n : Int) ++ s.data.toList, 0, 0) else ([], 4, (s.size : Int)) := by
          rw [hcat]; exact hnum
        have HD := hide hD
        have HX := hide hX
        have HE := hide hE
        clear hnum hD hX hE hcat hDl
        cases hm : Ch.may (n : Int)
        · rw [hm] at hun
          simp only [Bool.false_eq_true, if_false] at hun
          have HU := hide hun
          clear hun
          go_wp2_with (first | (go_at_call 17; refine (decimal_int n _ hn).mono ?_; rintro e w1 ⟨rfl, b1⟩; rw [HD.out]) | (go_at_call 13; rw [HX.out]; refine (unescape_is X _ _ _ _ (by omega) (tab_below hT hB0 b1) HU.out).mono ?_; rintro e w2 ⟨rfl, b2⟩) | (go_at_call 18; refine (May_any _ _).mono ?_; rintro e w' ⟨rfl, rfl⟩; rw [hm]) | (go_at_call 15; refine (num_any _ _).mono ?_; rintro e w' ⟨rfl, rfl⟩))
          go_ret
          exact ⟨rfl, below_on b1 b2⟩
        · rw [hm] at hun
          simp only [if_true] at hun
          have hL : Lib.encodeRune (n : Int) = E.data.toList := by rw [HE.out]
          rw [hL] at hun
          have HU := hide hun
          have HL := hide hL
          have HTH := hide (three_is s E)
          have HW : Hid (∀ w, Calls Tryd.prog 19 #[.int .i64 (n : Int)] w fun e w' => e = .returned (.string E) ∧ Below w.heap.size w w') := fun w => by
            have := Write_any (n : Int) w hm
            rw [HE.out]; exact this
          clear hun hL
          go_wp2_with (first | (go_at_call 17; refine (decimal_int n _ hn).mono ?_; rintro e w1 ⟨rfl, b1⟩; rw [HD.out]) | (go_at_call 13; rw [HX.out]; refine (unescape_is X _ _ _ _ (by omega) (tab_below hT hB0 b1) HU.out).mono ?_; rintro e w2 ⟨rfl, b2⟩; rw [HTH.out]) | (go_at_call 18; refine (May_any _ _).mono ?_; rintro e w' ⟨rfl, rfl⟩; rw [hm]) | (go_at_call 15; refine (num_any _ _).mono ?_; rintro e w' ⟨rfl, rfl⟩) | (go_at_call 19; refine (HW.out _).mono ?_; rintro e w3 ⟨rfl, b3⟩))
          go_ret
          exact ⟨rfl, below_on (below_on b1 b2) b3⟩
      · go_wp2_with (go_at_call 10; refine (alive_any _ hT).mono ?_; rintro e w4 ⟨rfl, b4⟩)
        go_ret
        exact ⟨rfl, b4⟩

set_option maxHeartbeats 1000000 in
theorem lawNumbers (n : Int) (s : ByteArray) (w : World) (hs : s.size ≤ 1048576) (hT : Tab w) :
    Calls Tryd.prog 7 #[.int .i64 n, .string s] w fun e w' => e = .returned (.bool true) ∧ Below w.heap.size w w' := by
  by_cases h0 : n < 0
  · go_enter Tryd.func7, Tryd.ntmps7
    go_wp2_with (go_at_call 10; refine (alive_any _ hT).mono ?_; rintro e w4 ⟨rfl, b4⟩)
    go_ret
    exact ⟨rfl, b4⟩
  by_cases h1 : 1099511627776 < n
  · go_enter Tryd.func7, Tryd.ntmps7
    go_wp2_with (go_at_call 10; refine (alive_any _ hT).mono ?_; rintro e w4 ⟨rfl, b4⟩)
    go_ret
    exact ⟨rfl, b4⟩
  obtain ⟨m, rfl⟩ := Int.eq_ofNat_of_zero_le (Int.not_lt.1 h0)
  by_cases hbad : Ch.bad s = s.size
  · exact numbers_main m s w (by omega) hs hT hbad
  · have hbl : Ch.bad s ≤ s.size := Ch.badFrom_le s _ _ (by omega)
    have hblt : (Ch.bad s : Int) < (s.size : Int) := by omega
    clear hbad hbl
    go_enter Tryd.func7, Tryd.ntmps7
    go_wp2_with (first | (go_at_call 9; refine (badR_any _ _ (by omega)).mono ?_; rintro e w' ⟨rfl, rfl⟩) | (go_at_call 10; refine (alive_any _ hT).mono ?_; rintro e w4 ⟨rfl, b4⟩))
    go_ret
    exact ⟨rfl, b4⟩
end Go.Proofs.YtbjpimnmgonebaaDoor
