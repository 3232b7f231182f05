import Derived.Test.YtbjpimnmgonebaaDoorWl
namespace Go.Proofs.YtbjpimnmgonebaaDoor
open Go.RowKit

/-- What the reference's Ref answers. -/
def refR (s : ByteArray) (i : Nat) : List UInt8 × Int := if (Ch.refAt s i).2 = 0 then ([], -1) else (Lib.encodeRune (Ch.refAt s i).1, (i : Int) + (Ch.refAt s i).2)

theorem numberedR16_int (s : ByteArray) (j : Int) (w : World) (hs : s.size ≤ 1125899906842624) (h0 : 0 ≤ j) (h1 : j ≤ s.size) :
    Calls Tryd.prog 39 #[.string s, .int .i64 j, .int .i64 16] w fun e w' => e = .returned (.tuple #[.int .i64 (numR s j.toNat 16).1, .int .i64 (numR s j.toNat 16).2]) ∧ w' = w := by
  obtain ⟨n, rfl⟩ := Int.eq_ofNat_of_zero_le h0
  rw [Int.toNat_natCast]
  exact numberedR16 s n w hs (by omega)
theorem numberedR10_int (s : ByteArray) (j : Int) (w : World) (hs : s.size ≤ 1125899906842624) (h0 : 0 ≤ j) (h1 : j ≤ s.size) :
    Calls Tryd.prog 39 #[.string s, .int .i64 j, .int .i64 10] w fun e w' => e = .returned (.tuple #[.int .i64 (numR s j.toNat 10).1, .int .i64 (numR s j.toNat 10).2]) ∧ w' = w := by
  obtain ⟨n, rfl⟩ := Int.eq_ofNat_of_zero_le h0
  rw [Int.toNat_natCast]
  exact numberedR10 s n w hs (by omega)

theorem numR_parts (s : ByteArray) (p : Nat) (b : Int) (hb : b ≤ 16) : ((Ch.numAt s p b).2 = 0 ∧ numR s p b = (0, -1)) ∨ (¬ (Ch.numAt s p b).2 = 0 ∧ 0 ≤ (numR s p b).2 ∧ (numR s p b).1 = (Ch.numAt s p b).1 ∧ (numR s p b).2 = (p : Int) + (Ch.numAt s p b).2 ∧ Ch.may (numR s p b).1 = true) := by
  by_cases h : (Ch.numFrom s b (s.size - p + 1) p 0).2 = 0
  · refine Or.inl ⟨by simp [Ch.numAt, h], by simp [numR, h]⟩
  · obtain ⟨h1, h2, h3, h4, h5⟩ := Ch.numFrom_spec s b hb _ _ _ h
    refine Or.inr ?_
    have e1 : numR s p b = Ch.numFrom s b (s.size - p + 1) p 0 := by simp [numR, h]
    have e2 : Ch.numAt s p b = ((Ch.numFrom s b (s.size - p + 1) p 0).1, (Ch.numFrom s b (s.size - p + 1) p 0).2 - p) := by simp [Ch.numAt, h]
    rw [e1, e2]
    refine ⟨?_, by omega, rfl, ?_, h1⟩ <;> simp only <;> omega

set_option maxHeartbeats 4000000 in
set_option maxRecDepth 1000000 in
theorem Ref_any (s : ByteArray) (i : Nat) (w : World) (hs : s.size ≤ 1125899906842624) (hi : i ≤ s.size) :
    Calls Tryd.prog 28 #[.string s, .int .i64 i] w fun e w' => e = .returned (.tuple #[.string ⟨(refR s i).1.toArray⟩, .int .i64 (refR s i).2]) ∧ Below w.heap.size w w' := by
  cases h0 : Ch.has s i [38, 108, 116, 59]
  rotate_left
  · have hR : refR s i = ([60], (i : Int) + 4) := by
      have : Ch.refAt s i = (60, 4) := by simp [Ch.refAt, h0]
      simp [refR, this]; decide
    have HR := hide hR
    clear hR
    go_enter Tryd.func28, Tryd.ntmps28
    go_wp2_with (go_at_call 38; refine (is_any _ _ _ _ hs hi (by decide) (by decide)).mono ?_; rintro e w' ⟨rfl, rfl⟩)
    go_ret2
    refine ⟨?_, Below.refl _ _⟩
    rw [HR.out]; rfl
  cases h1 : Ch.has s i [38, 103, 116, 59]
  rotate_left
  · have hR : refR s i = ([62], (i : Int) + 4) := by
      have : Ch.refAt s i = (62, 4) := by simp [Ch.refAt, h0, h1]
      simp [refR, this]; decide
    have HR := hide hR
    clear hR
    go_enter Tryd.func28, Tryd.ntmps28
    go_wp2_with (go_at_call 38; refine (is_any _ _ _ _ hs hi (by decide) (by decide)).mono ?_; rintro e w' ⟨rfl, rfl⟩)
    go_ret2
    refine ⟨?_, Below.refl _ _⟩
    rw [HR.out]; rfl
  cases h2 : Ch.has s i [38, 97, 109, 112, 59]
  rotate_left
  · have hR : refR s i = ([38], (i : Int) + 5) := by
      have : Ch.refAt s i = (38, 5) := by simp [Ch.refAt, h0, h1, h2]
      simp [refR, this]; decide
    have HR := hide hR
    clear hR
    go_enter Tryd.func28, Tryd.ntmps28
    go_wp2_with (go_at_call 38; refine (is_any _ _ _ _ hs hi (by decide) (by decide)).mono ?_; rintro e w' ⟨rfl, rfl⟩)
    go_ret2
    refine ⟨?_, Below.refl _ _⟩
    rw [HR.out]; rfl
  cases h3 : Ch.has s i [38, 113, 117, 111, 116, 59]
  rotate_left
  · have hR : refR s i = ([34], (i : Int) + 6) := by
      have : Ch.refAt s i = (34, 6) := by simp [Ch.refAt, h0, h1, h2, h3]
      simp [refR, this]; decide
    have HR := hide hR
    clear hR
    go_enter Tryd.func28, Tryd.ntmps28
    go_wp2_with (go_at_call 38; refine (is_any _ _ _ _ hs hi (by decide) (by decide)).mono ?_; rintro e w' ⟨rfl, rfl⟩)
    go_ret2
    refine ⟨?_, Below.refl _ _⟩
    rw [HR.out]; rfl
  cases h4 : Ch.has s i [38, 97, 112, 111, 115, 59]
  rotate_left
  · have hR : refR s i = ([39], (i : Int) + 6) := by
      have : Ch.refAt s i = (39, 6) := by simp [Ch.refAt, h0, h1, h2, h3, h4]
      simp [refR, this]; decide
    have HR := hide hR
    clear hR
    go_enter Tryd.func28, Tryd.ntmps28
    go_wp2_with (go_at_call 38; refine (is_any _ _ _ _ hs hi (by decide) (by decide)).mono ?_; rintro e w' ⟨rfl, rfl⟩)
    go_ret2
    refine ⟨?_, Below.refl _ _⟩
    rw [HR.out]; rfl
  cases h5 : Ch.has s i [38, 35, 120]
  rotate_left
  · have hsz := Ch.has_size h5 (by decide)
    simp only [List.length_cons, List.length_nil] at hsz
    have hj : ((i : Int) + 3).toNat = i + 3 := by omega
    have HJ := hide hj
    clear hj
    rcases numR_parts s (i + 3) 16 (by decide) with ⟨hz, hn⟩ | ⟨hz, hn0, hn1, hn2, hm⟩
    · have hR : refR s i = ([], -1) := by
        have : (Ch.refAt s i).2 = 0 := by simp [Ch.refAt, h0, h1, h2, h3, h4, h5, hz]
        simp [refR, this]
      have HR := hide hR
      have HN := hide hn
      clear hR hn hz
      go_enter Tryd.func28, Tryd.ntmps28
      go_wp2_with (first | (go_at_call 38; refine (is_any _ _ _ _ hs hi (by decide) (by decide)).mono ?_; rintro e w' ⟨rfl, rfl⟩) | (go_at_call 39; refine (numberedR16_int _ _ _ hs (by omega) (by omega)).mono ?_; rintro e w' ⟨rfl, rfl⟩; rw [HJ.out, HN.out]))
      go_ret2
      refine ⟨?_, Below.refl _ _⟩
      rw [HR.out]; rfl
    · have hR : refR s i = (Lib.encodeRune (numR s (i + 3) 16).1, (numR s (i + 3) 16).2) := by
        have h1 : Ch.refAt s i = ((Ch.numAt s (i + 3) 16).1, 3 + (Ch.numAt s (i + 3) 16).2) := by simp [Ch.refAt, h0, h1, h2, h3, h4, h5, hz]
        have hsp := Ch.numAt_spec (by decide) hz
        have h2 : ¬ (Ch.refAt s i).2 = 0 := by rw [h1]; simp only; omega
        unfold refR
        rw [if_neg h2, h1, hn1, hn2]
        simp only
        congr 1
        omega
      have HR := hide hR
      clear hR hn1 hn2 hz
      have HM := hide hm
      clear hm
      generalize hX : numR s (i + 3) 16 = X at *
      have HX := hide hX
      clear hX
      go_enter Tryd.func28, Tryd.ntmps28
      go_wp2_with (first | (go_at_call 38; refine (is_any _ _ _ _ hs hi (by decide) (by decide)).mono ?_; rintro e w' ⟨rfl, rfl⟩) | (go_at_call 39; refine (numberedR16_int _ _ _ hs (by omega) (by omega)).mono ?_; rintro e w' ⟨rfl, rfl⟩; rw [HJ.out, HX.out]) | (go_at_call 19; refine (Write_any _ _ HM.out).mono ?_; rintro e w1 ⟨rfl, b1⟩))
      go_ret2
      refine ⟨?_, b1⟩
      rw [HR.out]; rfl
  cases h6 : Ch.has s i [38, 35]
  rotate_left
  · have hsz := Ch.has_size h6 (by decide)
    simp only [List.length_cons, List.length_nil] at hsz
    have hj : ((i : Int) + 2).toNat = i + 2 := by omega
    have HJ := hide hj
    clear hj
    rcases numR_parts s (i + 2) 10 (by decide) with ⟨hz, hn⟩ | ⟨hz, hn0, hn1, hn2, hm⟩
    · have hR : refR s i = ([], -1) := by
        have : (Ch.refAt s i).2 = 0 := by simp [Ch.refAt, h0, h1, h2, h3, h4, h5, h6, hz]
        simp [refR, this]
      have HR := hide hR
      have HN := hide hn
      clear hR hn hz
      go_enter Tryd.func28, Tryd.ntmps28
      go_wp2_with (first | (go_at_call 38; refine (is_any _ _ _ _ hs hi (by decide) (by decide)).mono ?_; rintro e w' ⟨rfl, rfl⟩) | (go_at_call 39; refine (numberedR10_int _ _ _ hs (by omega) (by omega)).mono ?_; rintro e w' ⟨rfl, rfl⟩; rw [HJ.out, HN.out]))
      go_ret2
      refine ⟨?_, Below.refl _ _⟩
      rw [HR.out]; rfl
    · have hR : refR s i = (Lib.encodeRune (numR s (i + 2) 10).1, (numR s (i + 2) 10).2) := by
        have h1 : Ch.refAt s i = ((Ch.numAt s (i + 2) 10).1, 2 + (Ch.numAt s (i + 2) 10).2) := by simp [Ch.refAt, h0, h1, h2, h3, h4, h5, h6, hz]
        have hsp := Ch.numAt_spec (by decide) hz
        have h2 : ¬ (Ch.refAt s i).2 = 0 := by rw [h1]; simp only; omega
        unfold refR
        rw [if_neg h2, h1, hn1, hn2]
        simp only
        congr 1
        omega
      have HR := hide hR
      clear hR hn1 hn2 hz
      have HM := hide hm
      clear hm
      generalize hX : numR s (i + 2) 10 = X at *
      have HX := hide hX
      clear hX
      go_enter Tryd.func28, Tryd.ntmps28
      go_wp2_with (first | (go_at_call 38; refine (is_any _ _ _ _ hs hi (by decide) (by decide)).mono ?_; rintro e w' ⟨rfl, rfl⟩) | (go_at_call 39; refine (numberedR10_int _ _ _ hs (by omega) (by omega)).mono ?_; rintro e w' ⟨rfl, rfl⟩; rw [HJ.out, HX.out]) | (go_at_call 19; refine (Write_any _ _ HM.out).mono ?_; rintro e w1 ⟨rfl, b1⟩))
      go_ret2
      refine ⟨?_, b1⟩
      rw [HR.out]; rfl
  have hR : refR s i = ([], -1) := by
    have : Ch.refAt s i = (0, 0) := by simp [Ch.refAt, h0, h1, h2, h3, h4, h5, h6]
    simp [refR, this]
  have HR := hide hR
  clear hR
  go_enter Tryd.func28, Tryd.ntmps28
  go_wp2_with (go_at_call 38; refine (is_any _ _ _ _ hs hi (by decide) (by decide)).mono ?_; rintro e w' ⟨rfl, rfl⟩)
  go_ret2
  refine ⟨?_, Below.refl _ _⟩
  rw [HR.out]; rfl
end Go.Proofs.YtbjpimnmgonebaaDoor
