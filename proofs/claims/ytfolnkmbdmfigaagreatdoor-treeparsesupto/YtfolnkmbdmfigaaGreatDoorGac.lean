import Derived.Maps.OwnSet
import Derived.Maps.Views
import Derived.Maps.Keyed
import Derived.Deep.RegionLaw
import Derived.Deep.RegionHeld3
import Derived.BigRegion
import Derived.Test.YtfolnkmbdmfigaaGreatDoorGab
set_option linter.unusedVariables false
set_option linter.unusedSimpArgs false
namespace Go.Proofs.YtfolnkmbdmfigaaGreatDoor.Ch
open Go
theorem decode_prefix {s t : ByteArray} {i j : Nat} (h : i < s.size) (ho : okAt s i = true) (hb : ∀ k, k < (Utf8.decode s i).2 → bz s (i + k) = bz t (j + k)) : Utf8.decode t j = Utf8.decode s i := by
  have h0 : 0 ≤ bz s i := by unfold bz; rw [if_pos h]; omega
  have hbd := bz_bd s i
  have nb : Utf8.decode s i ≠ (65533, 1) := fun e => by rw [okAt_bad e] at ho; cases ho
  have hw := decode_width s i h
  have b0 := hb 0 (by omega)
  simp only [Nat.add_zero] at b0
  by_cases a1 : bz s i < 128
  · rw [decode_one h0 a1, decode_one (by omega) (by omega), b0]
  by_cases a2 : bz s i < 192
  · exact absurd (decode_none (Or.inl ⟨by omega, a2⟩)) nb
  by_cases a3 : bz s i < 224
  · by_cases c1 : cont s (i + 1)
    · have hd := decode_two (by omega) a3 c1
      by_cases hz : 128 ≤ acc s i (bz s i - 192) 1
      · rw [if_pos hz] at hd
        rw [hd] at hb
        have b1 := hb 1 (by simp)
        have d1 : cont t (j + 1) := by unfold cont at *; rw [← b1]; exact c1
        rw [decode_two (by omega) a3 c1, decode_two (by omega) (by omega) d1]
        simp only [acc, Nat.zero_add, b0, b1]
      · rw [if_neg hz] at hd; exact absurd hd nb
    · exact absurd (decode_two_no (by omega) a3 c1) nb
  by_cases a4 : bz s i < 240
  · by_cases c1 : cont s (i + 1)
    · by_cases c2 : cont s (i + 2)
      · have hd := decode_three (by omega) a4 c1 c2
        by_cases hz : 2048 ≤ acc s i (bz s i - 224) 2 ∧ Utf8.valid (acc s i (bz s i - 224) 2) = true
        · rw [if_pos hz] at hd
          rw [hd] at hb
          have b1 := hb 1 (by simp)
          have b2 := hb 2 (by simp)
          have d1 : cont t (j + 1) := by unfold cont at *; rw [← b1]; exact c1
          have d2 : cont t (j + 2) := by unfold cont at *; rw [← b2]; exact c2
          rw [decode_three (by omega) a4 c1 c2, decode_three (by omega) (by omega) d1 d2]
          simp only [acc, Nat.zero_add, Nat.reduceAdd, b0, b1, b2]
        · rw [if_neg hz] at hd; exact absurd hd nb
      · exact absurd (decode_three_no (by omega) a4 (Or.inr c2)) nb
    · exact absurd (decode_three_no (by omega) a4 (Or.inl c1)) nb
  by_cases a5 : bz s i < 248
  · by_cases c1 : cont s (i + 1)
    · by_cases c2 : cont s (i + 2)
      · by_cases c3 : cont s (i + 3)
        · have hd := decode_four (by omega) a5 c1 c2 c3
          by_cases hz : 65536 ≤ acc s i (bz s i - 240) 3 ∧ Utf8.valid (acc s i (bz s i - 240) 3) = true
          · rw [if_pos hz] at hd
            rw [hd] at hb
            have b1 := hb 1 (by simp)
            have b2 := hb 2 (by simp)
            have b3 := hb 3 (by simp)
            have d1 : cont t (j + 1) := by unfold cont at *; rw [← b1]; exact c1
            have d2 : cont t (j + 2) := by unfold cont at *; rw [← b2]; exact c2
            have d3 : cont t (j + 3) := by unfold cont at *; rw [← b3]; exact c3
            rw [decode_four (by omega) a5 c1 c2 c3, decode_four (by omega) (by omega) d1 d2 d3]
            simp only [acc, Nat.zero_add, Nat.reduceAdd, b0, b1, b2, b3]
          · rw [if_neg hz] at hd; exact absurd hd nb
        · exact absurd (decode_four_no (by omega) a5 (Or.inr (Or.inr c3))) nb
      · exact absurd (decode_four_no (by omega) a5 (Or.inr (Or.inl c2))) nb
    · exact absurd (decode_four_no (by omega) a5 (Or.inl c1)) nb
  · exact absurd (decode_none (Or.inr (by omega))) nb
section
variable {a b ab : ByteArray}
theorem nameFrom_ge (s : ByteArray) : ∀ f p, p ≤ s.size → p ≤ nameFrom s f p := by
  intro f
  induction f with
  | zero => intro p _; exact Nat.le_refl _
  | succ f ih =>
    intro p hp
    rw [nameFrom.eq_2]
    by_cases h : p < s.size
    · have hw := decode_width s p h
      rw [if_pos h]
      split
      · have := ih (p + (Utf8.decode s p).2) hw.1; omega
      · omega
    · rw [if_neg h]; exact hp
theorem nameFrom_le (s : ByteArray) : ∀ f p, p ≤ s.size → nameFrom s f p ≤ s.size := by
  intro f
  induction f with
  | zero => intro p h; exact h
  | succ f ih =>
    intro p h
    rw [nameFrom.eq_2]
    by_cases hp : p < s.size
    · rw [if_pos hp]
      split
      · exact ih _ (decode_width s p hp).1
      · exact h
    · rw [if_neg hp]; exact Nat.le_refl _
end
end Go.Proofs.YtfolnkmbdmfigaaGreatDoor.Ch

namespace Go.Proofs.YtfolnkmbdmfigaaGreatDoor.Ch
open Go
theorem valid_iff (r : Int) : Utf8.valid r = true ↔ (0 ≤ r ∧ r < 55296) ∨ (57343 < r ∧ r ≤ 1114111) := by
  simp only [Utf8.valid, Bool.or_eq_true, Bool.and_eq_true, decide_eq_true_eq]; omega
theorem encode_eq {c : Int} (hv : Utf8.valid c = true) : Utf8.encode c = txt (Lib.encodeRune c) := by
  have h := (valid_iff c).1 hv
  unfold Utf8.encode
  simp only [hv, if_true]
  obtain ⟨n, rfl⟩ : ∃ n : Nat, c = n := ⟨c.toNat, by omega⟩
  have e1 : (n : Int).toNat = n := by omega
  rw [e1]
  simp only [txt, Lib.encodeRune]
  by_cases a1 : n < 128
  · rw [if_pos a1, Lib.encodeRuneZ_one (by omega) (by omega)]
    simp
  rw [if_neg a1]
  by_cases a2 : n < 2048
  · rw [if_pos a2, Lib.encodeRuneZ_two (by omega) (by omega)]
    have e2 : ((192 : Int) + (n : Int) / 64).toNat = 192 + n / 64 := by omega
    have e3 : ((128 : Int) + (n : Int) % 64).toNat = 128 + n % 64 := by omega
    simp [e2, e3]
  rw [if_neg a2]
  by_cases a3 : n < 65536
  · rw [if_pos a3, Lib.encodeRuneZ_three (by omega)]
    have e2 : ((224 : Int) + (n : Int) / 4096).toNat = 224 + n / 4096 := by omega
    have e3 : ((128 : Int) + (n : Int) / 64 % 64).toNat = 128 + n / 64 % 64 := by omega
    have e4 : ((128 : Int) + (n : Int) % 64).toNat = 128 + n % 64 := by omega
    simp [e2, e3, e4]
  · rw [if_neg a3, Lib.encodeRuneZ_four (by omega) (by omega)]
    have e2 : ((240 : Int) + (n : Int) / 262144).toNat = 240 + n / 262144 := by omega
    have e5 : ((128 : Int) + (n : Int) / 4096 % 64).toNat = 128 + n / 4096 % 64 := by omega
    have e3 : ((128 : Int) + (n : Int) / 64 % 64).toNat = 128 + n / 64 % 64 := by omega
    have e4 : ((128 : Int) + (n : Int) % 64).toNat = 128 + n % 64 := by omega
    simp [e2, e3, e4, e5]
theorem u8_back {x : Int} (h0 : 0 ≤ x) (h1 : x < 256) : ((x.toNat.toUInt8).toNat : Int) = x := by
  have : x.toNat.toUInt8.toNat = x.toNat := by simp; omega
  omega
theorem dec_enc {c : Int} (hv : Utf8.valid c = true) (l : List UInt8) : Utf8.decode (txt (Lib.encodeRune c ++ l)) 0 = (c.toNat, (Lib.encodeRune c).length) := by
  have h := (valid_iff c).1 hv
  by_cases a1 : c < 128
  · have e : Lib.encodeRune c = [c.toNat.toUInt8] := by simp [Lib.encodeRune, Lib.encodeRuneZ_one (show 0 ≤ c by omega) (show c ≤ 127 by omega)]
    rw [e]
    have b0 : bz (txt ([c.toNat.toUInt8] ++ l)) 0 = c := by
      show bz (txt (c.toNat.toUInt8 :: l)) 0 = c
      rw [bz_head]; exact u8_back (by omega) (by omega)
    rw [decode_one (by omega) (by omega), b0]
    rfl
  by_cases a2 : c < 2048
  · have e : Lib.encodeRune c = [(192 + c / 64).toNat.toUInt8, (128 + c % 64).toNat.toUInt8] := by simp [Lib.encodeRune, Lib.encodeRuneZ_two (show 128 ≤ c by omega) (show c ≤ 2047 by omega)]
    rw [e]
    generalize hs : txt ([(192 + c / 64).toNat.toUInt8, (128 + c % 64).toNat.toUInt8] ++ l) = s
    have b0 : bz s 0 = 192 + c / 64 := by
      rw [← hs]; exact (bz_head _ _).trans (u8_back (by omega) (by omega))
    have b1 : bz s 1 = 128 + c % 64 := by
      rw [← hs]; exact ((bz_cons _ _ 0).trans (bz_head _ _)).trans (u8_back (by omega) (by omega))
    rw [decode_two (by omega) (by omega) (by show cont s 1; unfold cont; omega)]
    have ea : acc s 0 (bz s 0 - 192) 1 = c := by simp only [acc, b0, b1, Nat.zero_add]; omega
    rw [ea, if_pos (by omega)]
    rfl
  by_cases a3 : c < 65536
  · have e : Lib.encodeRune c = [(224 + c / 4096).toNat.toUInt8, (128 + c / 64 % 64).toNat.toUInt8, (128 + c % 64).toNat.toUInt8] := by simp [Lib.encodeRune, Lib.encodeRuneZ_three (show (2048 ≤ c ∧ c < 55296) ∨ (57343 < c ∧ c ≤ 65535) by omega)]
    rw [e]
    generalize hs : txt ([(224 + c / 4096).toNat.toUInt8, (128 + c / 64 % 64).toNat.toUInt8, (128 + c % 64).toNat.toUInt8] ++ l) = s
    have b0 : bz s 0 = 224 + c / 4096 := by
      rw [← hs]; exact (bz_head _ _).trans (u8_back (by omega) (by omega))
    have b1 : bz s 1 = 128 + c / 64 % 64 := by
      rw [← hs]; exact ((bz_cons _ _ 0).trans (bz_head _ _)).trans (u8_back (by omega) (by omega))
    have b2 : bz s 2 = 128 + c % 64 := by
      rw [← hs]; exact ((bz_cons _ _ 1).trans ((bz_cons _ _ 0).trans (bz_head _ _))).trans (u8_back (by omega) (by omega))
    rw [decode_three (by omega) (by omega) (by show cont s 1; unfold cont; omega) (by show cont s 2; unfold cont; omega)]
    have ea : acc s 0 (bz s 0 - 224) 2 = c := by simp only [acc, b0, b1, b2, Nat.zero_add, Nat.reduceAdd]; omega
    rw [ea, if_pos ⟨by omega, hv⟩]
    rfl
  · have e : Lib.encodeRune c = [(240 + c / 262144).toNat.toUInt8, (128 + c / 4096 % 64).toNat.toUInt8, (128 + c / 64 % 64).toNat.toUInt8, (128 + c % 64).toNat.toUInt8] := by simp [Lib.encodeRune, Lib.encodeRuneZ_four (show 65536 ≤ c by omega) (show c ≤ 1114111 by omega)]
    rw [e]
    generalize hs : txt ([(240 + c / 262144).toNat.toUInt8, (128 + c / 4096 % 64).toNat.toUInt8, (128 + c / 64 % 64).toNat.toUInt8, (128 + c % 64).toNat.toUInt8] ++ l) = s
    have b0 : bz s 0 = 240 + c / 262144 := by
      rw [← hs]; exact (bz_head _ _).trans (u8_back (by omega) (by omega))
    have b1 : bz s 1 = 128 + c / 4096 % 64 := by
      rw [← hs]; exact ((bz_cons _ _ 0).trans (bz_head _ _)).trans (u8_back (by omega) (by omega))
    have b2 : bz s 2 = 128 + c / 64 % 64 := by
      rw [← hs]; exact ((bz_cons _ _ 1).trans ((bz_cons _ _ 0).trans (bz_head _ _))).trans (u8_back (by omega) (by omega))
    have b3 : bz s 3 = 128 + c % 64 := by
      rw [← hs]; exact ((bz_cons _ _ 2).trans ((bz_cons _ _ 1).trans ((bz_cons _ _ 0).trans (bz_head _ _)))).trans (u8_back (by omega) (by omega))
    rw [decode_four (by omega) (by omega) (by show cont s 1; unfold cont; omega) (by show cont s 2; unfold cont; omega) (by show cont s 3; unfold cont; omega)]
    have ea : acc s 0 (bz s 0 - 240) 3 = c := by simp only [acc, b0, b1, b2, b3, Nat.zero_add, Nat.reduceAdd]; omega
    rw [ea, if_pos ⟨by omega, hv⟩]
    rfl
theorem enc_pos (c : Int) : 1 ≤ (Lib.encodeRune c).length := by
  simp only [Lib.encodeRune, Lib.encodeRuneZ, List.length_map]
  repeat' split
  all_goals simp
theorem ok_enc {c : Int} (hm : may c = true) (l : List UInt8) : okAt (txt (Lib.encodeRune c ++ l)) 0 = true := by
  have hv := valid_of_may hm
  have h := (valid_iff c).1 hv
  unfold okAt
  rw [dec_enc hv]
  have e : ((c.toNat : Nat) : Int) = c := by omega
  simp only [e, hm, Bool.true_and, Bool.or_eq_true, bne_iff_ne, ne_eq, beq_iff_eq]
  by_cases h3 : c.toNat = 65533
  · right
    have : c = 65533 := by omega
    subst this; decide
  · exact Or.inl h3
theorem name_begins {c : Int} (hm : may c = true) : (0 < name (txt (Lib.encodeRune c))) ↔ begins c = true := by
  have hv := valid_of_may hm
  have h := (valid_iff c).1 hv
  have hd := dec_enc hv []
  have ho := ok_enc hm []
  have hp := enc_pos c
  have e : ((c.toNat : Nat) : Int) = c := by omega
  rw [List.append_nil] at hd ho
  generalize hs : txt (Lib.encodeRune c) = s at *
  have hl : s.size = (Lib.encodeRune c).length := by rw [← hs]; exact txt_size _
  unfold name nameFrom
  rw [if_pos (by omega)]
  have hi : inName s 0 = begins c := by simp [inName, ho, hd, e]
  rw [hi]
  cases hb : begins c
  · simp
  · simp only [if_true, iff_true]
    have := nameFrom_ge s s.size (0 + (Utf8.decode s 0).2) (by rw [hd]; simp; omega)
    rw [hd] at this ⊢
    simp only at this ⊢
    omega
theorem name_goes {c : Int} (hm : may c = true) : (1 < name (txt (95 :: Lib.encodeRune c))) ↔ (begins c || goesOn c) = true := by
  have hv := valid_of_may hm
  have h := (valid_iff c).1 hv
  have hd := dec_enc hv []
  have ho := ok_enc hm []
  have hp := enc_pos c
  have e : ((c.toNat : Nat) : Int) = c := by omega
  rw [List.append_nil] at hd ho
  generalize hs : txt (95 :: Lib.encodeRune c) = s
  have hl : s.size = (Lib.encodeRune c).length + 1 := by rw [← hs]; exact txt_size _
  have b0 : bz s 0 = 95 := by rw [← hs]; exact bz_head _ _
  have hd0 : Utf8.decode s 0 = (95, 1) := by rw [decode_one (by omega) (by omega), b0]; rfl
  have hd1 : Utf8.decode s 1 = Utf8.decode (txt (Lib.encodeRune c)) 0 := by
    refine decode_shift (by rw [txt_size]; omega) ?_
    intro k
    rw [← hs, show 1 + k = k + 1 by omega, bz_cons, Nat.zero_add]
  have ho1 : okAt s 1 = true := by rw [okAt_of hd1]; exact ho
  have ho0 : okAt s 0 = true := by unfold okAt; rw [hd0]; decide
  have hi0 : inName s 0 = true := by simp only [inName, ho0, hd0]; decide
  have hi1 : inName s 1 = (begins c || goesOn c) := by simp [inName, ho1, hd1, hd, e]
  unfold name nameFrom
  rw [if_pos (by omega), hi0, if_pos rfl, hd0, show s.size = ((Lib.encodeRune c).length) + 1 from hl]
  show 1 < nameFrom s _ 1 ↔ _
  unfold nameFrom
  rw [if_pos (by omega), hi1]
  cases hb : (begins c || goesOn c)
  · simp
  · simp only [if_true, iff_true]
    have := nameFrom_ge s (Lib.encodeRune c).length (1 + (Utf8.decode s 1).2) (by rw [hd1, hd]; simp; omega)
    rw [hd1, hd] at this ⊢
    simp only at this ⊢
    omega
end Go.Proofs.YtfolnkmbdmfigaaGreatDoor.Ch

namespace Go.Proofs.YtfolnkmbdmfigaaGreatDoor
open Go.RowKit
def Leg (c : Int) : Prop := Ch.may c = true ∨ c = -1 ∨ c = -2
theorem Leg.lo {c : Int} (h : Leg c) : -2 ≤ c ∧ c ≤ 1114111 := by
  rcases h with h | h | h
  · have := (Ch.may_iff c).1 h; omega
  · omega
  · omega
theorem begins_neg {c : Int} (h : c < 0) : Ch.begins c = false := by
  cases e : Ch.begins c
  · rfl
  · have := (Ch.begins_iff c).1 e; omega
theorem goes_neg {c : Int} (h : c < 0) : Ch.goesOn c = false := by
  cases e : Ch.goesOn c
  · rfl
  · have := (Ch.goesOn_iff c).1 e; omega
theorem enc_le (c : Int) : (Lib.encodeRune c).length ≤ 4 := Ch.encode_le c
theorem dec_lt {n : Nat} {b : Bool} (h : 0 < n ↔ b = true) : (decide (0 < n)) = b := by
  cases b
  · have : ¬ 0 < n := fun x => by simp at h; omega
    simp; omega
  · have := h.2 rfl
    simp; omega
theorem dec_lt1 {n : Nat} {b : Bool} (h : 1 < n ↔ b = true) : (decide (1 < (n : Int))) = b := by
  cases b
  · have : ¬ 1 < n := fun x => by simp at h; omega
    simp; omega
  · have := h.2 rfl
    simp; omega
set_option maxHeartbeats 1000000 in
theorem beginsName_tok (c : Int) (h : Leg c) (w : World) :
    Calls Tryz.prog 106 #[.int .i32 c] w fun e w' => e = .returned (.bool (Ch.begins c)) ∧ Below w.heap.size w w' := by
  by_cases hc : c < 0
  · rw [begins_neg hc]
    go_enter Tryz.func106, Tryz.ntmps106
    go_wp2
    go_ret
    exact ⟨rfl, Below.refl _ _⟩
  · have hm : Ch.may c = true := by rcases h with h | h | h <;> first | exact h | omega
    have hn := nameC_any (Utf8.encode c) w (by rw [Ch.encode_eq (Ch.valid_of_may hm), Ch.txt_size]; have := enc_le c; omega)
    have hb : (decide (0 < Ch.name (Utf8.encode c))) = Ch.begins c := by
      rw [Ch.encode_eq (Ch.valid_of_may hm)]; exact dec_lt (Ch.name_begins hm)
    have HB := hide hb
    clear hb h hm
    go_enter Tryz.func106, Tryz.ntmps106
    go_wp2_with (go_at_call 116; refine hn.mono ?_; rintro e w1 ⟨rfl, b1⟩)
    go_ret
    rw [HB.out]
    exact ⟨rfl, b1⟩
set_option maxHeartbeats 1000000 in
theorem goesOnInName_tok (c : Int) (h : Leg c) (w : World) :
    Calls Tryz.prog 85 #[.int .i32 c] w fun e w' => e = .returned (.bool (Ch.begins c || Ch.goesOn c)) ∧ Below w.heap.size w w' := by
  by_cases hc : c < 0
  · rw [begins_neg hc, goes_neg hc]
    go_enter Tryz.func85, Tryz.ntmps85
    go_wp2
    go_ret
    exact ⟨rfl, Below.refl _ _⟩
  · have hm : Ch.may c = true := by rcases h with h | h | h <;> first | exact h | omega
    have he : (⟨#[95]⟩ ++ Utf8.encode c : ByteArray) = Ch.txt (95 :: Lib.encodeRune c) := by
      rw [Ch.encode_eq (Ch.valid_of_may hm)]
      apply ByteArray.ext
      simp [Ch.txt]
    have hn := nameC_any (⟨#[95]⟩ ++ Utf8.encode c) w (by rw [he, Ch.txt_size]; have := enc_le c; simp; omega)
    have hb : (decide (1 < ((Ch.name (⟨#[95]⟩ ++ Utf8.encode c) : Nat) : Int))) = (Ch.begins c || Ch.goesOn c) := by
      rw [he]; exact dec_lt1 (Ch.name_goes hm)
    have hz : (Utf8.encode c).size ≤ 4 := by rw [Ch.encode_eq (Ch.valid_of_may hm), Ch.txt_size]; exact enc_le c
    have HB := hide hb
    clear hb h hm he
    go_enter Tryz.func85, Tryz.ntmps85
    go_wp2_with (go_at_call 116; refine hn.mono ?_; rintro e w1 ⟨rfl, b1⟩)
    go_ret
    rw [HB.out]
    exact ⟨rfl, b1⟩
def Tk.blank (c : Int) : Bool := c == 32 || c == 9 || c == 10 || c == 13
set_option maxHeartbeats 1000000 in
theorem blank_tok (c : Int) (w : World) :
    Calls Tryz.prog 107 #[.int .i32 c] w fun e w' => e = .returned (.bool (Tk.blank c)) ∧ w' = w := by
  cases h1 : (c == 32) <;> cases h2 : (c == 9) <;> cases h3 : (c == 10) <;> cases h4 : (c == 13)
  all_goals
    unfold Tk.blank
    rw [h1, h2, h3, h4]
    simp only [Bool.or_false, Bool.or_true, Bool.false_or, Bool.true_or]
    go_enter Tryz.func107, Tryz.ntmps107
    go_wp2
    go_ret
    exact ⟨rfl, rfl⟩
def wrongV (no p : Int) : Value := .iface 94 (.agg #[.int .i64 no, .int .i64 p])
def Tk.why (c : Int) : Int := if c = -2 then 2 else 3
set_option maxHeartbeats 1000000 in
theorem refuse_tok (R : Nat) (c p : Int) (w : World) (hp : w.cell? ⟨R, 2, none⟩ = some (.int .i64 p)) :
    Calls Tryz.prog 56 #[.pointer (some ⟨R, 0, none⟩), .int .i32 c] w fun e w' => e = .returned (wrongV (Tk.why c) p) ∧ w' = w := by
  by_cases hc : c = -2
  · subst hc
    go_enter Tryz.func56, Tryz.ntmps56
    go_wp2
    go_ret
    exact ⟨rfl, rfl⟩
  · have e : Tk.why c = 3 := by simp [Tk.why, hc]
    rw [e]
    have h2 : (c == -2) = false := by simpa using hc
    clear e hc
    go_enter Tryz.func56, Tryz.ntmps56
    go_wp2
    go_ret
    exact ⟨rfl, rfl⟩
end Go.Proofs.YtfolnkmbdmfigaaGreatDoor

namespace Go.Proofs.YtfolnkmbdmfigaaGreatDoor
open Go.RowKit Go.Maps

inductive Rn | text | name | attr | value | ref
deriving DecidableEq
def Rn.off : Rn → Nat
  | .text => 6 | .name => 9 | .attr => 13 | .value => 15 | .ref => 18
structure Tok where
  kind : Int
  name : List UInt8
  attrs : List (List UInt8 × List UInt8)
  text : List UInt8
  at_ : Int
structure St where
  run : Rn → List UInt8
  runAt : Rn → Int
  tagAt : Int
  attrs : List (List UInt8 × List UInt8)
  names : List (List UInt8)
  quote : Int
  told : List Tok
structure Src where
  rest : ByteArray
  next : Int
  at_ : Int
  ended : Bool
  now : Value
  no : Int
  fat : Int
  closed : Bool
structure Ptr where
  told : Value
  run : Rn → Value
  attrs : Value
  names : Value
def cellsOf (s : Src) (p : Ptr) (st : St) : Array Value :=
  #[.string s.rest, .int .i64 s.next, .int .i64 s.at_, .bool s.ended, s.now, p.told, p.run .text, .int .i64 (st.runAt .text), .int .i64 st.tagAt, p.run .name, .int .i64 (st.runAt .name), p.attrs, p.names, p.run .attr, .int .i64 (st.runAt .attr), p.run .value, .int .i64 (st.runAt .value), .int .i32 st.quote, p.run .ref, .int .i64 (st.runAt .ref), .int .i64 s.no, .int .i64 s.fat, .bool s.closed]
def strV (l : List UInt8) : Value := .string ⟨l.toArray⟩
def attrCells (l : List (List UInt8 × List UInt8)) : List Value := l.flatMap fun a => [strV a.1, strV a.2]
def tokCells (t : Tok) (v : Value) : List Value := [.int .i64 t.kind, strV t.name, v, strV t.text, .int .i64 t.at_]
inductive Toks (F : Nat → Prop) (R : Nat) (w : World) (av : Value) : List Tok → List Value → Prop
  | nil : Toks F R w av [] []
  | cons (t : Tok) (v : Value) (l : List Tok) (cs : List Value) (ho : w.ownsRow 0 44 2 v t.attrs.length (attrCells t.attrs)) (hf : ∀ k, v.ownBlock = some k → F k ∧ k ≠ R ∧ av.ownBlock ≠ some k) (hl : Toks F R w av l cs) : Toks F R w av (t :: l) (tokCells t v ++ cs)
def namesD (l : List (List UInt8)) : DataW Unit := setOf (.agg []) (l.map Lit.string)
def Names (F : Nat → Prop) (R : Nat) (w : World) (v : Value) (l : List (List UInt8)) : Prop :=
  (v = .map none ∧ l = []) ∨ ∃ b, v = .map (some b) ∧ F b ∧ b ≠ R ∧ w.ownsMap Tryz.prog 9 unitElem b l.length (namesD l)
structure Own (F : Nat → Prop) (R : Nat) (w : World) (p : Ptr) (st : St) : Prop where
  run : ∀ i, w.ownsRow 0 5 1 (p.run i) (st.run i).length (Lib.byteCells (st.run i))
  runF : ∀ i k, (p.run i).ownBlock = some k → F k ∧ k ≠ R
  apart : ∀ i j k, i ≠ j → (p.run i).ownBlock = some k → (p.run j).ownBlock ≠ some k
  told : ∃ cs, w.ownsRow 0 56 5 p.told st.told.length cs ∧ Toks F R w p.attrs st.told cs
  toldF : ∀ k, p.told.ownBlock = some k → F k ∧ k ≠ R
  attrs : w.ownsRow 0 44 2 p.attrs st.attrs.length (attrCells st.attrs)
  attrsF : ∀ k, p.attrs.ownBlock = some k → F k ∧ k ≠ R
  names : Names F R w p.names st.names
structure Rep (F : Nat → Prop) (R : Nat) (w : World) (s : Src) (p : Ptr) (st : St) : Prop where
  blk : w.heap[R]? = some (.cells (cellsOf s p st) 96 (0, 0))
  inR : F R
  lt : ∀ k, F k → k < w.heap.size
  own : Own F R w p st
def Grow (F : Nat → Prop) (w w' : World) (k : Nat) : Prop := F k ∨ (w.heap.size ≤ k ∧ k < w'.heap.size)
structure Frame (F : Nat → Prop) (w w' : World) : Prop where
  os : w'.os = w.os
  tape : w'.tape = w.tape
  output : w'.output = w.output
  size : w.heap.size ≤ w'.heap.size
  block : ∀ k, k < w.heap.size → ¬ F k → w'.heap[k]? = w.heap[k]?
theorem Frame.refl (F : Nat → Prop) (w : World) : Frame F w w := ⟨rfl, rfl, rfl, Nat.le_refl _, fun _ _ _ => rfl⟩
theorem Frame.trans {F : Nat → Prop} {a b c : World} (h : Frame F a b) (k : Frame (Grow F a b) b c) : Frame F a c :=
  ⟨k.os.trans h.os, k.tape.trans h.tape, k.output.trans h.output, Nat.le_trans h.size k.size, fun i hi hf =>
    (k.block i (Nat.lt_of_lt_of_le hi h.size) (fun e => e.elim hf (fun x => by omega))).trans (h.block i hi hf)⟩
theorem Frame.same {F : Nat → Prop} {a b c : World} (h : Frame F a b) (k : Frame F b c) : Frame F a c :=
  ⟨k.os.trans h.os, k.tape.trans h.tape, k.output.trans h.output, Nat.le_trans h.size k.size, fun i hi hf =>
    (k.block i (Nat.lt_of_lt_of_le hi h.size) hf).trans (h.block i hi hf)⟩
theorem Grow.trans {F : Nat → Prop} {a b c : World} (h1 : a.heap.size ≤ b.heap.size) (h2 : b.heap.size ≤ c.heap.size) (k : Nat) : Grow (Grow F a b) b c k ↔ Grow F a c k := by
  unfold Grow; constructor
  · rintro ((h | h) | h)
    · exact Or.inl h
    · exact Or.inr (by omega)
    · exact Or.inr (by omega)
  · rintro (h | h)
    · exact Or.inl (Or.inl h)
    · by_cases hk : k < b.heap.size
      · exact Or.inl (Or.inr (by omega))
      · exact Or.inr (by omega)
theorem owns_of {w w' : World} {e : TypeId} {s : Nat} {v : Value} {n : Nat} {xs : List Value} (h : w.ownsRow 0 e s v n xs) (hk : ∀ k, v.ownBlock = some k → w'.heap[k]? = w.heap[k]?) : w'.ownsRow 0 e s v n xs := by
  refine ⟨h.1, ?_⟩
  rcases h.2 with hn | ⟨g, cap, cur, rfl, hb, hg, rest⟩
  · exact Or.inl hn
  · exact Or.inr ⟨g, cap, cur, rfl, hb, by rw [hk g rfl]; exact hg, rest⟩
theorem owns_blk {w : World} {e : TypeId} {s : Nat} {v : Value} {n : Nat} {xs : List Value} (h : w.ownsRow 0 e s v n xs) {k : Nat} (hk : v.ownBlock = some k) : ∃ cur, w.heap[k]? = some (.cells cur e (0, 0)) := by
  rcases h.2 with ⟨rfl, _⟩ | ⟨g, cap, cur, rfl, hb, hg, rest⟩
  · simp [Value.ownBlock] at hk
  · simp [Value.ownBlock] at hk
    subst hk
    exact ⟨cur, hg⟩
theorem tag_ne {w : World} {e e' : TypeId} {s s' : Nat} {v v' : Value} {n n' : Nat} {xs xs' : List Value} (h : w.ownsRow 0 e s v n xs) (h' : w.ownsRow 0 e' s' v' n' xs') (hne : e ≠ e') {k : Nat} (hk : v.ownBlock = some k) : v'.ownBlock ≠ some k := by
  intro hk'
  obtain ⟨c, hc⟩ := owns_blk h hk
  obtain ⟨c', hc'⟩ := owns_blk h' hk'
  rw [hc] at hc'
  simp only [Option.some.injEq, Obj.cells.injEq] at hc'
  exact hne hc'.2.1
theorem map_ne {w : World} {e : TypeId} {s : Nat} {v : Value} {n : Nat} {xs : List Value} {b m : Nat} {D : DataW Unit} (h : w.ownsRow 0 e s v n xs) (hm : w.ownsMap Tryz.prog 9 unitElem b m D) : v.ownBlock ≠ some b := by
  intro hk
  obtain ⟨c, hc⟩ := owns_blk h hk
  obtain ⟨es, cl, hb, _⟩ := hm
  rw [hc] at hb
  cases hb
theorem map_of {w w' : World} {b m : Nat} {D : DataW Unit} (hm : w.ownsMap Tryz.prog 9 unitElem b m D) (hk : w'.heap[b]? = w.heap[b]?) : w'.ownsMap Tryz.prog 9 unitElem b m D := by
  obtain ⟨es, cl, hb, h⟩ := hm
  exact ⟨es, cl, hk.trans hb, h⟩
theorem Toks.frame {F F' : Nat → Prop} {R : Nat} {w w' : World} {av av' : Value} {l : List Tok} {cs : List Value} (h : Toks F R w av l cs)
    (hk : ∀ k n xs v, w.ownsRow 0 44 2 v n xs → v.ownBlock = some k → F k → k ≠ R → av.ownBlock ≠ some k → w'.heap[k]? = w.heap[k]? ∧ F' k ∧ av'.ownBlock ≠ some k) : Toks F' R w' av' l cs := by
  induction h with
  | nil => exact .nil
  | cons t v l cs ho hf hl ih =>
    refine .cons t v l cs (owns_of ho fun k hv => (hk k _ _ v ho hv (hf k hv).1 (hf k hv).2.1 (hf k hv).2.2).1) ?_ ih
    intro k hv
    obtain ⟨a, b, c⟩ := hf k hv
    obtain ⟨d, e, f⟩ := hk k _ _ v ho hv a b c
    exact ⟨e, b, f⟩
theorem Toks.app {F : Nat → Prop} {R : Nat} {w : World} {av : Value} {l l' : List Tok} {cs cs' : List Value} (h : Toks F R w av l cs) (h' : Toks F R w av l' cs') : Toks F R w av (l ++ l') (cs ++ cs') := by
  induction h with
  | nil => exact h'
  | cons t v l cs ho hf hl ih =>
    rw [List.cons_append, List.append_assoc]
    exact .cons t v _ _ ho hf ih
theorem Toks.length {F : Nat → Prop} {R : Nat} {w : World} {av : Value} {l : List Tok} {cs : List Value} (h : Toks F R w av l cs) : cs.length = l.length * 5 := by
  induction h with
  | nil => rfl
  | cons t v l cs ho hf hl ih => simp [tokCells, ih]; omega
theorem Own.frame {F F' : Nat → Prop} {R : Nat} {w w' : World} {p : Ptr} {st : St} (h : Own F R w p st) (hk : ∀ k, F k → k ≠ R → w'.heap[k]? = w.heap[k]?) (hF : ∀ k, F k → F' k) : Own F' R w' p st := by
  refine ⟨fun i => owns_of (h.run i) fun k e => hk k (h.runF i k e).1 (h.runF i k e).2, fun i k e => ⟨hF k (h.runF i k e).1, (h.runF i k e).2⟩, h.apart, ?_, fun k e => ⟨hF k (h.toldF k e).1, (h.toldF k e).2⟩,
    owns_of h.attrs fun k e => hk k (h.attrsF k e).1 (h.attrsF k e).2, fun k e => ⟨hF k (h.attrsF k e).1, (h.attrsF k e).2⟩, ?_⟩
  · obtain ⟨cs, h1, h2⟩ := h.told
    exact ⟨cs, owns_of h1 fun k e => hk k (h.toldF k e).1 (h.toldF k e).2, h2.frame fun k n xs v ho hv a b c => ⟨hk k a b, hF k a, c⟩⟩
  · rcases h.names with hn | ⟨b, h1, h2, h3, h4⟩
    · exact Or.inl hn
    · exact Or.inr ⟨b, h1, hF b h2, h3, map_of h4 (hk b h2 h3)⟩
theorem Rep.setR {F : Nat → Prop} {R : Nat} {w w' : World} {s s' : Src} {p : Ptr} {st st' : St} (h : Rep F R w s p st) (hk : ∀ k, k ≠ R → w'.heap[k]? = w.heap[k]?) (hs : w'.heap.size = w.heap.size)
    (hb : w'.heap[R]? = some (.cells (cellsOf s' p st') 96 (0, 0))) (ho : Own F R w' p st → Own F R w' p st') : Rep F R w' s' p st' :=
  ⟨hb, h.inR, fun k hf => by rw [hs]; exact h.lt k hf, ho (h.own.frame (fun k _ hr => hk k hr) fun _ x => x)⟩
def Ptr.setRun (p : Ptr) (i : Rn) (v : Value) : Ptr := { p with run := fun j => if j = i then v else p.run j }
def St.setRun (st : St) (i : Rn) (l : List UInt8) (a : Int) : St := { st with run := fun j => if j = i then l else st.run j, runAt := fun j => if j = i then a else st.runAt j }
theorem cells_setRun (s : Src) (p : Ptr) (st : St) (i : Rn) (v : Value) (l : List UInt8) (a : Int) :
    ((cellsOf s p st).setIfInBounds (i.off + 1) (.int .i64 a)).setIfInBounds i.off v = cellsOf s (p.setRun i v) (st.setRun i l a) := by
  cases i <;> rfl
theorem cells_run (s : Src) (p : Ptr) (st : St) (i : Rn) : (cellsOf s p st)[i.off]? = some (p.run i) ∧ (cellsOf s p st)[i.off + 1]? = some (.int .i64 (st.runAt i)) := by
  cases i <;> exact ⟨rfl, rfl⟩
theorem Own.turn {F : Nat → Prop} {R : Nat} {w w' : World} {p : Ptr} {st : St} (h : Own F R w p st) (hlt : ∀ k, F k → k < w.heap.size) (hR : F R) (i : Rn) (v : Value) (l : List UInt8) (a : Int)
    (hK : Kept R (p.run i).ownBlock w w') (ho : w'.ownsRow 0 5 1 v l.length (Lib.byteCells l)) (hat : v.ownBlock = (p.run i).ownBlock ∨ ∀ k, v.ownBlock = some k → w.heap.size ≤ k) :
    Own (Grow F w w') R w' (p.setRun i v) (st.setRun i l a) := by
  have hvk : ∀ k, v.ownBlock = some k → k < w'.heap.size := fun k e => by
    obtain ⟨c, hc⟩ := owns_blk ho e
    exact (Array.getElem?_eq_some_iff.1 hc).1
  have keep : ∀ k, F k → k ≠ R → (p.run i).ownBlock ≠ some k → w'.heap[k]? = w.heap[k]? := fun k a b c => hK.block k (hlt k a) b (fun e => c e.symm)
  refine ⟨?_, ?_, ?_, ?_, ?_, ?_, ?_, ?_⟩
  · intro j
    simp only [Ptr.setRun, St.setRun]
    by_cases hj : j = i
    · subst hj; simp only [if_true]; exact ho
    · simp only [hj, if_false]
      exact owns_of (h.run j) fun k e => keep k (h.runF j k e).1 (h.runF j k e).2 (h.apart j i k hj e)
  · intro j k e
    simp only [Ptr.setRun] at e
    by_cases hj : j = i
    · subst hj; simp only [if_true] at e
      rcases hat with e2 | e2
      · rw [e2] at e; exact ⟨Or.inl (h.runF j k e).1, (h.runF j k e).2⟩
      · have := e2 k e
        have := hlt R hR
        exact ⟨Or.inr ⟨by assumption, hvk k e⟩, by omega⟩
    · simp only [hj, if_false] at e
      exact ⟨Or.inl (h.runF j k e).1, (h.runF j k e).2⟩
  · intro j j' k hne e
    simp only [Ptr.setRun] at e ⊢
    by_cases hj : j = i
    · subst hj
      simp only [if_true] at e
      have : ¬ j' = j := fun x => hne x.symm
      simp only [this, if_false]
      rcases hat with e2 | e2
      · rw [e2] at e; exact h.apart j j' k hne e
      · intro e3
        have := hlt k (h.runF j' k e3).1
        have := e2 k e
        omega
    · simp only [hj, if_false] at e
      by_cases hj' : j' = i
      · subst hj'
        simp only [if_true]
        rcases hat with e2 | e2
        · rw [e2]; exact h.apart j j' k hne e
        · intro e3
          have := hlt k (h.runF j k e).1
          have := e2 k e3
          omega
      · simp only [hj', if_false]; exact h.apart j j' k hne e
  · obtain ⟨cs, h1, h2⟩ := h.told
    refine ⟨cs, owns_of h1 fun k e => keep k (h.toldF k e).1 (h.toldF k e).2 (tag_ne h1 (h.run i) (by decide) e), h2.frame ?_⟩
    intro k n xs v' ho' hv a b c
    exact ⟨keep k a b (tag_ne ho' (h.run i) (by decide) hv), Or.inl a, c⟩
  · exact fun k e => ⟨Or.inl (h.toldF k e).1, (h.toldF k e).2⟩
  · exact owns_of h.attrs fun k e => keep k (h.attrsF k e).1 (h.attrsF k e).2 (tag_ne h.attrs (h.run i) (by decide) e)
  · exact fun k e => ⟨Or.inl (h.attrsF k e).1, (h.attrsF k e).2⟩
  · rcases h.names with hn | ⟨b, h1, h2, h3, h4⟩
    · exact Or.inl hn
    · exact Or.inr ⟨b, h1, Or.inl h2, h3, map_of h4 (keep b h2 h3 (map_ne (h.run i) h4))⟩
end Go.Proofs.YtfolnkmbdmfigaaGreatDoor

namespace Go.Proofs.YtfolnkmbdmfigaaGreatDoor
open Go.RowKit Go.Maps

inductive Pl | between | less | bang | remark | dash | orderName | order | mark | section_ | bracket | brackets | part | blanks | newAttr | attrP | equals | valueP | slash | closing
def Pl.fn : Pl → Nat
  | .between => 35 | .less => 53 | .bang => 82 | .remark => 111 | .dash => 138 | .orderName => 81 | .order => 109 | .mark => 136 | .section_ => 112 | .bracket => 139 | .brackets => 151
  | .part => 83 | .blanks => 113 | .newAttr => 140 | .attrP => 153 | .equals => 159 | .valueP => 164 | .slash => 114 | .closing => 80
def fnV (n : Nat) : Value := .func (.func n) #[] #[]
def Pl.val (p : Pl) : Value := fnV p.fn
inductive Part
  | plain (p : Pl)
  | word (l : List UInt8) (p : Pl)
  | name (i : Rn) (p : Pl)
  | ref (i : Rn) (p : Pl)
inductive Res
  | go (p : Part)
  | stop
  | fail (no at_ : Int)
structure Out where
  st : St
  res : Res
def St.put (st : St) (i : Rn) (c q : Int) : St := st.setRun i (st.run i ++ Lib.encodeRune c) (if (st.run i).length = 0 then q else st.runAt i)
def St.clear (st : St) (i : Rn) : St := st.setRun i [] 0
def St.tellText (st : St) : St := if (st.run .text).length = 0 then st else St.clear { st with told := st.told ++ [⟨3, [], [], st.run .text, st.runAt .text⟩] } .text
def St.tellOpening (st : St) : St := { st.tellText with told := st.tellText.told ++ [⟨1, st.run .name, st.attrs, [], st.tagAt⟩], attrs := [], names := [] }
def St.tellClosing (st : St) : St := { st.tellText with told := st.tellText.told ++ [⟨2, st.run .name, [], [], st.tagAt⟩] }
def St.addAttr (st : St) : St := St.clear { st with attrs := st.attrs ++ [(st.run .attr, st.run .value)] } .value
def stPart (q : Int) (st : St) (c : Int) : Out :=
  if Tk.blank c = true then ⟨st, .go (.plain .blanks)⟩ else if c = 47 then ⟨st, .go (.plain .slash)⟩ else if c = 62 then ⟨st.tellOpening, .go (.plain .between)⟩ else ⟨st, .fail (Tk.why c) q⟩
def stName1 (i : Rn) (k : Pl) (q : Int) (st : St) (c : Int) : Out :=
  if Ch.begins c = true then ⟨st.put i c q, .go (.name i k)⟩ else ⟨st, .fail (Tk.why c) q⟩
def stAttr (q : Int) (st : St) (c : Int) : Out :=
  if Tk.blank c = true then ⟨st, .go (.plain .attrP)⟩ else if c = 61 then ⟨st, .go (.plain .equals)⟩ else ⟨st, .fail (Tk.why c) q⟩
def stRemark (q : Int) (st : St) (c : Int) : Out :=
  if c = 45 then ⟨st, .go (.plain .dash)⟩ else if c < 0 then ⟨st, .fail (Tk.why c) q⟩ else ⟨st, .go (.plain .remark)⟩
def stOrder (q : Int) (st : St) (c : Int) : Out :=
  if c = 63 then ⟨st, .go (.plain .mark)⟩ else if c < 0 then ⟨st, .fail (Tk.why c) q⟩ else ⟨st, .go (.plain .order)⟩
def stSection (q : Int) (st : St) (c : Int) : Out :=
  if c = 93 then ⟨st, .go (.plain .bracket)⟩ else if c < 0 then ⟨st, .fail (Tk.why c) q⟩ else ⟨st.put .text c q, .go (.plain .section_)⟩
def stBracket (q : Int) (st : St) (c : Int) : Out :=
  if c = 93 then ⟨st, .go (.plain .brackets)⟩ else stSection q (st.put .text 93 (q - 1)) c
def step (pl : Pl) (q : Int) (st : St) (c : Int) : Out :=
  match pl with
  | .between => if c = 60 then ⟨{ st with tagAt := q }, .go (.plain .less)⟩ else if c = 38 then ⟨(st.clear .ref).put .ref 38 q, .go (.ref .text .between)⟩ else if c = -1 then ⟨st.tellText, .stop⟩ else if c = -2 then ⟨st, .fail 2 q⟩ else ⟨st.put .text c q, .go (.plain .between)⟩
  | .less => if c = 47 then ⟨st.clear .name, .go (.name .name .closing)⟩ else if c = 63 then ⟨st, .go (.plain .orderName)⟩ else if c = 33 then ⟨st, .go (.plain .bang)⟩ else stName1 .name .part q (st.clear .name) c
  | .bang => if c = 45 then ⟨st, .go (.word [45] .remark)⟩ else if c = 91 then ⟨st, .go (.word [67, 68, 65, 84, 65, 91] .section_)⟩ else ⟨st, .fail (Tk.why c) q⟩
  | .remark => stRemark q st c
  | .dash => if c = 45 then ⟨st, .go (.word [62] .between)⟩ else stRemark q st c
  | .orderName => if Ch.begins c = true then ⟨st, .go (.plain .order)⟩ else ⟨st, .fail (Tk.why c) q⟩
  | .order => stOrder q st c
  | .mark => if c = 62 then ⟨st, .go (.plain .between)⟩ else stOrder q st c
  | .section_ => stSection q st c
  | .bracket => stBracket q st c
  | .brackets => if c = 62 then ⟨st, .go (.plain .between)⟩ else stBracket q (st.put .text 93 (q - 2)) c
  | .part => stPart q st c
  | .blanks => if Ch.begins c = true then stName1 .attr .newAttr q (st.clear .attr) c else stPart q st c
  | .newAttr => if st.names.contains (st.run .attr) = true then ⟨st, .fail 5 (st.runAt .attr)⟩ else stAttr q { st with names := st.names ++ [st.run .attr] } c
  | .attrP => stAttr q st c
  | .equals => if Tk.blank c = true then ⟨st, .go (.plain .equals)⟩ else if c = 34 ∨ c = 39 then ⟨{ st with quote := c }, .go (.plain .valueP)⟩ else ⟨st, .fail (Tk.why c) q⟩
  | .valueP => if c = st.quote then ⟨st.addAttr, .go (.plain .part)⟩ else if c = 38 then ⟨(st.clear .ref).put .ref 38 q, .go (.ref .value .valueP)⟩ else if c = 60 ∨ c < 0 then ⟨st, .fail (Tk.why c) q⟩ else ⟨st.put .value c q, .go (.plain .valueP)⟩
  | .slash => if c = 62 then ⟨st.tellOpening.tellClosing, .go (.plain .between)⟩ else ⟨st, .fail (Tk.why c) q⟩
  | .closing => if Tk.blank c = true then ⟨st, .go (.plain .closing)⟩ else if c = 62 then ⟨st.tellClosing, .go (.plain .between)⟩ else ⟨st, .fail (Tk.why c) q⟩

def Box (F : Nat → Prop) (R : Nat) (w : World) (b : Nat) (x : Value) (t : TypeId) : Prop := w.heap[b]? = some (.cells #[x] t (0, 0)) ∧ F b ∧ b ≠ R
def ptrV (b : Nat) : Value := .pointer (some ⟨b, 0, none⟩)
def PartAt (F : Nat → Prop) (R : Nat) (w : World) (v : Value) : Part → Prop
  | .plain p => v = p.val
  | .word l p => ∃ b1 b2, v = .func (.func 137) #[] #[ptrV b1, ptrV b2] ∧ Box F R w b1 (strV l) 9 ∧ Box F R w b2 p.val 86
  | .name i p => ∃ b1 b2 b3, v = .func (.func 105) #[] #[ptrV b1, ptrV b2, ptrV b3] ∧ Box F R w b1 (.pointer (some ⟨R, i.off, none⟩)) 121 ∧ Box F R w b2 p.val 86 ∧ Box F R w b3 v 86
  | .ref i p => ∃ b1 b2 b3, v = .func (.func 84) #[] #[ptrV b1, ptrV b2, ptrV b3] ∧ Box F R w b1 v 86 ∧ Box F R w b2 (.pointer (some ⟨R, i.off, none⟩)) 121 ∧ Box F R w b3 p.val 86
def PartEnd (F : Nat → Prop) (R : Nat) (w : World) (s : Src) (o : Out) (e : Ending) (w' : World) : Prop :=
  ∃ p', Rep (Grow F w w') R w' s p' o.st ∧ Frame F w w' ∧
    match o.res with
    | .go part => ∃ v, e = .returned (.tuple #[v, .nilIface]) ∧ PartAt (Grow F w w') R w' v part
    | .stop => e = .returned (.tuple #[.nilFunc, .nilIface])
    | .fail no q => e = .returned (.tuple #[.nilFunc, wrongV no q])
theorem Rep.grow0 {F : Nat → Prop} {R : Nat} {w : World} {s : Src} {p : Ptr} {st : St} (h : Rep F R w s p st) : Rep (Grow F w w) R w s p st :=
  ⟨h.blk, Or.inl h.inR, fun k hk => hk.elim (h.lt k) (fun x => x.2), h.own.frame (fun _ _ _ => rfl) (fun _ x => Or.inl x)⟩
theorem Rep.below {F : Nat → Prop} {R : Nat} {w w' : World} {s : Src} {p : Ptr} {st : St} (h : Rep F R w s p st) (hb : Below w.heap.size w w') : Rep (Grow F w w') R w' s p st :=
  ⟨(hb.block R (h.lt R h.inR)).trans h.blk, Or.inl h.inR, fun k hk => hk.elim (fun x => Nat.lt_of_lt_of_le (h.lt k x) hb.size) (fun x => x.2), h.own.frame (fun k a _ => hb.block k (h.lt k a)) (fun _ x => Or.inl x)⟩
theorem Frame.below {F : Nat → Prop} {w w' : World} (hb : Below w.heap.size w w') : Frame F w w' := ⟨hb.os, hb.tape, hb.output, hb.size, fun k h _ => hb.block k h⟩
theorem PartEnd.fail0 {F : Nat → Prop} {R : Nat} {w w' : World} {s : Src} {p : Ptr} {st : St} {no q : Int} (h : Rep F R w s p st) (hb : Below w.heap.size w w') : PartEnd F R w s ⟨st, .fail no q⟩ (.returned (.tuple #[.nilFunc, wrongV no q])) w' :=
  ⟨p, h.below hb, Frame.below hb, rfl⟩
theorem PartEnd.go0 {F : Nat → Prop} {R : Nat} {w w' : World} {s : Src} {p : Ptr} {st : St} {pl : Pl} (h : Rep F R w s p st) (hb : Below w.heap.size w w') : PartEnd F R w s ⟨st, .go (.plain pl)⟩ (.returned (.tuple #[pl.val, .nilIface])) w' :=
  ⟨p, h.below hb, Frame.below hb, _, rfl, rfl⟩
theorem Rep.cell {F : Nat → Prop} {R : Nat} {w : World} {s : Src} {p : Ptr} {st : St} (h : Rep F R w s p st) (i : Nat) {v : Value} (hi : (cellsOf s p st)[i]? = some v) : w.cell? ⟨R, i, none⟩ = some v := cell_of h.blk hi
theorem Rep.free {F : Nat → Prop} {R : Nat} {w : World} {s : Src} {p : Ptr} {st : St} (h : Rep F R w s p st) (i : Nat) : w.frozen? ⟨R, i, none⟩ = false := free_of h.blk
theorem enc_cells (l : List UInt8) (c : Int) : Lib.byteCells l ++ Lib.runeCells c = Lib.byteCells (l ++ Lib.encodeRune c) := by
  rw [Lib.byteCells_append, Lib.byteCells_encodeRune]
theorem rune_len (c : Int) : (Lib.runeCells c).length = (Lib.encodeRune c).length := by simp [Lib.runeCells, Lib.encodeRune]
theorem put_rep {F : Nat → Prop} {R : Nat} {w : World} {s : Src} {p : Ptr} {st : St} (h : Rep F R w s p st) (i : Rn) (c q : Int) (hc : Scalar c) (hn : (st.run i).length + 4 ≤ 140737488355328) :
    Calls Tryz.prog 57 #[.pointer (some ⟨R, i.off, none⟩), .int .i32 c, .int .i64 q] w fun e w' => e = .returned (.tuple #[]) ∧ ∃ v, Rep (Grow F w w') R w' s (p.setRun i v) (st.put i c q) ∧ Kept R (p.run i).ownBlock w w' := by
  refine (put_any R i.off 0 (cellsOf s p st) 96 (p.run i) (st.run i).length _ (st.runAt i) q c w h.blk (by decide) (cells_run s p st i).1 (cells_run s p st i).2 (h.own.run i) hc (Nat.zero_le _) hn).mono ?_
  rintro e w' ⟨rfl, v, ho, hb, hk, hat⟩
  refine ⟨rfl, v, ⟨?_, Or.inl h.inR, fun k hf => hf.elim (fun x => Nat.lt_of_lt_of_le (h.lt k x) hk.size) (fun x => x.2), ?_⟩, hk⟩
  · rw [hb]
    congr 2
    exact cells_setRun s p st i v _ _
  · refine h.own.turn h.lt h.inR i v _ _ hk ?_ ?_
    · rw [enc_cells] at ho
      rw [List.length_append, ← rune_len]
      exact ho
    · rcases hat with e | ⟨k, e, hk⟩
      · exact Or.inl e
      · refine Or.inr fun j hj => ?_
        rw [e] at hj
        cases hj
        exact hk
theorem Rep.frameK {F : Nat → Prop} {R : Nat} {w w' : World} {s : Src} {p : Ptr} {st : St} (h : Rep F R w s p st) {i : Rn} (hk : Kept R (p.run i).ownBlock w w') : Frame F w w' :=
  ⟨hk.os, hk.tape, hk.output, hk.size, fun k hl hf => hk.block k hl (fun e => hf (e ▸ h.inR)) (fun e => hf (h.own.runF i k e.symm).1)⟩
theorem scalar_of {c : Int} (h : Leg c) (h0 : 0 ≤ c) : Scalar c := by
  have hm : Ch.may c = true := by rcases h with h | h | h <;> first | exact h | omega
  have := (Ch.may_iff c).1 hm
  unfold Scalar; omega
end Go.Proofs.YtfolnkmbdmfigaaGreatDoor

namespace Go.Proofs.YtfolnkmbdmfigaaGreatDoor
open Go.RowKit Go.Maps
structure St.Small (st : St) : Prop where
  run : ∀ i, (st.run i).length ≤ 70368744177664
  told : st.told.length ≤ 1099511627776
  attrs : st.attrs.length ≤ 1099511627776
  names : st.names.length ≤ 1099511627776
variable {F : Nat → Prop} {R : Nat} {w : World} {s : Src} {p : Ptr} {st : St} {c : Int}
set_option maxHeartbeats 1000000 in
theorem remark_ok (h : Rep F R w s p st) (_hc : Leg c) :
    Calls Tryz.prog 111 #[.pointer (some ⟨R, 0, none⟩), .int .i32 c] w (PartEnd F R w s (stRemark s.at_ st c)) := by
  have hat := h.cell 2 rfl
  have H := hide h
  clear h
  by_cases h1 : c = 45
  · subst h1
    go_enter Tryz.func111, Tryz.ntmps111
    go_wp2
    go_ret2
    exact PartEnd.go0 H.out (Below.refl _ _)
  · have e1 : (c == 45) = false := by simpa using h1
    by_cases h2 : c < 0
    · rw [show stRemark s.at_ st c = ⟨st, .fail (Tk.why c) s.at_⟩ by simp [stRemark, h1, h2]]
      go_enter Tryz.func111, Tryz.ntmps111
      go_wp2_with (go_at_call 56; refine (refuse_tok R c s.at_ _ hat).mono ?_; rintro e w1 ⟨rfl, rfl⟩)
      go_ret2
      exact PartEnd.fail0 H.out (Below.refl _ _)
    · rw [show stRemark s.at_ st c = ⟨st, .go (.plain .remark)⟩ by simp [stRemark, h1, h2]]
      go_enter Tryz.func111, Tryz.ntmps111
      go_wp2
      go_ret2
      exact PartEnd.go0 H.out (Below.refl _ _)
set_option maxHeartbeats 1000000 in
theorem order_ok (h : Rep F R w s p st) (_hc : Leg c) :
    Calls Tryz.prog 109 #[.pointer (some ⟨R, 0, none⟩), .int .i32 c] w (PartEnd F R w s (stOrder s.at_ st c)) := by
  have hat := h.cell 2 rfl
  have H := hide h
  clear h
  by_cases h1 : c = 63
  · subst h1
    go_enter Tryz.func109, Tryz.ntmps109
    go_wp2
    go_ret2
    exact PartEnd.go0 H.out (Below.refl _ _)
  · have e1 : (c == 63) = false := by simpa using h1
    by_cases h2 : c < 0
    · rw [show stOrder s.at_ st c = ⟨st, .fail (Tk.why c) s.at_⟩ by simp [stOrder, h1, h2]]
      go_enter Tryz.func109, Tryz.ntmps109
      go_wp2_with (go_at_call 56; refine (refuse_tok R c s.at_ _ hat).mono ?_; rintro e w1 ⟨rfl, rfl⟩)
      go_ret2
      exact PartEnd.fail0 H.out (Below.refl _ _)
    · rw [show stOrder s.at_ st c = ⟨st, .go (.plain .order)⟩ by simp [stOrder, h1, h2]]
      go_enter Tryz.func109, Tryz.ntmps109
      go_wp2
      go_ret2
      exact PartEnd.go0 H.out (Below.refl _ _)
theorem PartEnd.two {o : Out} {e : Ending} {w' : World} (h : PartEnd F R w s o e w') : ∃ v1 v2, e = .returned (.tuple #[v1, v2]) := by
  obtain ⟨p', _, _, h⟩ := h
  cases hr : o.res with
  | go part => rw [hr] at h; obtain ⟨v, h, _⟩ := h; exact ⟨_, _, h⟩
  | stop => rw [hr] at h; exact ⟨_, _, h⟩
  | fail no q => rw [hr] at h; exact ⟨_, _, h⟩
set_option maxHeartbeats 1000000 in
theorem mark_ok (h : Rep F R w s p st) (hc : Leg c) :
    Calls Tryz.prog 136 #[.pointer (some ⟨R, 0, none⟩), .int .i32 c] w (PartEnd F R w s (step .mark s.at_ st c)) := by
  have hr := order_ok h hc
  have H := hide h
  clear h
  by_cases h1 : c = 62
  · subst h1
    go_enter Tryz.func136, Tryz.ntmps136
    go_wp2
    go_ret2
    exact PartEnd.go0 H.out (Below.refl _ _)
  · have e1 : (c == 62) = false := by simpa using h1
    rw [show step .mark s.at_ st c = stOrder s.at_ st c by simp [step, h1]]
    generalize stOrder s.at_ st c = o at *
    clear h1 hc
    go_enter Tryz.func136, Tryz.ntmps136
    go_wp2_with (go_at_call 109; refine hr.mono ?_)
    intro e w1 hP
    obtain ⟨v1, v2, rfl⟩ := hP.two
    go_wp2
    go_ret2
    exact hP
theorem wantWord_tok (t : ByteArray) (n : Nat) (w : World) (he : t.toList.isEmpty = false) :
    Calls Tryz.prog 110 #[.string t, .func (.func n) #[] #[]] w fun e w' => e = .returned (.func (.func 137) #[] #[ptrV w.heap.size, ptrV (w.heap.size + 1)]) ∧ w' = (w.alloc (.cells #[.string t] 9)).alloc (.cells #[.func (.func n) #[] #[]] 86) := by
  go_enter Tryz.func110, Tryz.ntmps110
  go_wp2
  go_ret
  exact ⟨rfl, rfl⟩
theorem wantWord_nil (t : ByteArray) (n : Nat) (w : World) (he : t.toList.isEmpty = true) :
    Calls Tryz.prog 110 #[.string t, .func (.func n) #[] #[]] w fun e w' => e = .returned (.func (.func n) #[] #[]) ∧ w' = (w.alloc (.cells #[.string t] 9)).alloc (.cells #[.func (.func n) #[] #[]] 86) := by
  go_enter Tryz.func110, Tryz.ntmps110
  go_wp2
  go_ret
  exact ⟨rfl, rfl⟩
theorem below_two (w : World) (o o' : Obj) : Below w.heap.size w ((w.alloc o).alloc o') := ((Below.refl _ w).alloc (Nat.le_refl _) o).alloc (by simp) o'
theorem PartEnd.word {l : List UInt8} {pl : Pl} (h : Rep F R w s p st) : PartEnd F R w s ⟨st, .go (.word l pl)⟩ (.returned (.tuple #[.func (.func 137) #[] #[ptrV w.heap.size, ptrV (w.heap.size + 1)], .nilIface])) ((w.alloc (.cells #[strV l] 9)).alloc (.cells #[pl.val] 86)) := by
  have hR := h.lt R h.inR
  refine ⟨p, h.below (below_two w _ _), Frame.below (below_two w _ _), _, rfl, w.heap.size, w.heap.size + 1, rfl, ⟨?_, Or.inr ⟨Nat.le_refl _, by simp; omega⟩, by omega⟩, ⟨?_, Or.inr ⟨by omega, by simp⟩, by omega⟩⟩
  · rw [Below.heap_alloc _ _ _ (by simp)]
    exact heap_alloc_new w _
  · have := heap_alloc_new (w.alloc (.cells #[strV l] 9)) (.cells #[pl.val] 86)
    simpa using this
set_option maxHeartbeats 1000000 in
theorem dash_ok (h : Rep F R w s p st) (hc : Leg c) :
    Calls Tryz.prog 138 #[.pointer (some ⟨R, 0, none⟩), .int .i32 c] w (PartEnd F R w s (step .dash s.at_ st c)) := by
  have hr := remark_ok h hc
  have H := hide h
  clear h
  by_cases h1 : c = 45
  · subst h1
    go_enter Tryz.func138, Tryz.ntmps138
    go_wp2_with (go_at_call 110; refine (wantWord_tok ⟨#[62]⟩ 35 _ (by decide +kernel)).mono ?_; rintro e w1 ⟨rfl, rfl⟩)
    go_ret2
    exact PartEnd.word (l := [62]) (pl := .between) H.out
  · have e1 : (c == 45) = false := by simpa using h1
    rw [show step .dash s.at_ st c = stRemark s.at_ st c by simp [step, h1]]
    generalize stRemark s.at_ st c = o at *
    clear h1 hc
    go_enter Tryz.func138, Tryz.ntmps138
    go_wp2_with (go_at_call 111; refine hr.mono ?_)
    intro e w1 hP
    obtain ⟨v1, v2, rfl⟩ := hP.two
    go_wp2
    go_ret2
    exact hP
set_option maxHeartbeats 1000000 in
theorem orderName_ok (h : Rep F R w s p st) (hc : Leg c) :
    Calls Tryz.prog 81 #[.pointer (some ⟨R, 0, none⟩), .int .i32 c] w (PartEnd F R w s (step .orderName s.at_ st c)) := by
  have hr := beginsName_tok c hc
  have hat := h.cell 2 rfl
  have hR := h.lt R h.inR
  have hst : step .orderName s.at_ st c = if Ch.begins c = true then ⟨st, .go (.plain .order)⟩ else ⟨st, .fail (Tk.why c) s.at_⟩ := rfl
  rw [hst]
  clear hst
  have H := hide h
  have HAT := hide hat
  have HR := hide hR
  clear h hc hat hR
  generalize Ch.begins c = b at *
  cases b
  · go_enter Tryz.func81, Tryz.ntmps81
    go_wp2_with (go_at_call 106; refine (hr _).mono ?_; rintro e w1 ⟨rfl, b1⟩)
    refine (refuse_tok R c s.at_ _ ((b1.cell HR.out).trans HAT.out)).mono ?_
    rintro e w2 ⟨rfl, rfl⟩
    go_wp2
    go_ret2
    exact PartEnd.fail0 H.out b1
  · go_enter Tryz.func81, Tryz.ntmps81
    go_wp2_with (first | (go_at_call 106; refine (hr _).mono ?_; rintro e w1 ⟨rfl, b1⟩))
    go_ret2
    exact PartEnd.go0 H.out b1
end Go.Proofs.YtfolnkmbdmfigaaGreatDoor

namespace Go.Proofs.YtfolnkmbdmfigaaGreatDoor
open Go.RowKit Go.Maps
theorem step_own_at {P : Program} {ops : Array Oper} {o : Oper} {a : Act} {w : World} {K : Act → World → Prop} {Q : Exit → Act → World → Prop} {E : Prop}
    (hg : o.guard = none) (s x : Operand) (t : TypeId) (hop : o.op = Op.call { callee := Callee.builtin Builtin.append, args := #[s, x], argTypes := #[t, t] })
    (e : TypeId) (i : TypeInfo) (z : Value) (size bytes : Nat) (h1 : P.underlying t = some (.slice e)) (h2 : P.info? e = some i) (h3 : i.zero = some z) (h4 : i.size = size) (h5 : i.bytes = bytes) (h6 : z.cells.size = size) (h7 : 0 < size)
    (v : Value) (n : Nat) (xs : List Value) (hs : a.eval s = v) (hown : w.ownsRow 0 e size v n xs)
    (ad : Addr) (m c : Nat) (news : List Value) (hx : a.eval x = .slice (some ad) m c) (hn : news.length = m * size) (hc : ∀ j u, news[j]? = some u → w.cell? (ad.add j) = some u) (h1c : ∀ u ∈ news, u.oneCell' = true)
    (b1 : n + m ≤ maxLen) (b2 : (n + m) * bytes ≤ 140737488355328)
    (hK : ∀ v' w', w'.ownsRow 0 e size v' (n + m) (xs ++ news) → w.grownBy w' v.ownBlock → (v'.ownBlock = v.ownBlock ∨ v'.ownBlock = some w.heap.size) → K (a.put o.dst v') w') :
    if Region.wanted o (yielded ops a.tmps) = true then Oper.wp P o a w K Q else E := by
  have hw : Region.wanted o (yielded ops a.tmps) = true := by simp [Region.wanted, hg]
  rw [if_pos hw]
  obtain ⟨v', w', hrun, r1, r2, _, r4⟩ := run_append_own_at (P := P) w 0 t o.type e i z size bytes h1 h2 h3 h4 h5 h6 h7 v n xs hown ad m c news hn hc h1c b1 b2 (Nat.zero_le _)
  unfold Oper.wp
  simp [execOp, hop, resolve, invoke, builtin, hs, hx, hrun, Result.andThen]
  exact hK v' w' r1 r2 r4
theorem info49 : (Tryz.prog.info? 56).map (fun i => (i.zero, i.size, i.bytes)) = some (some (.agg #[.int .i64 0, .string ⟨#[]⟩, .slice none 0 0, .string ⟨#[]⟩, .int .i64 0]), 5, 72) := by kernel_rfl
theorem info52 : (Tryz.prog.info? 44).map (fun i => (i.zero, i.size, i.bytes)) = some (some (.agg #[.string ⟨#[]⟩, .string ⟨#[]⟩]), 2, 32) := by kernel_rfl
theorem conv_own {w : World} {v : Value} {l : List UInt8} (h : w.ownsRow 0 5 1 v l.length (Lib.byteCells l)) : (convert 87 9 v).run Tryz.prog w = .ok (strV l) w := by
  rcases h.2 with ⟨rfl, hn⟩ | ⟨g, cap, cur, rfl, _, hg, hc, _, hcs, ht⟩
  · obtain rfl : l = [] := List.eq_nil_of_length_eq_zero hn
    exact run_convert_bytes_nil w 87 5 Tryz.underlying87 Tryz.underlying5 0 0 9 Tryz.underlying9
  · have hx : strOfNums (l.map fun b => (b.toNat : Int)) = ⟨l.toArray⟩ := by
      unfold strOfNums
      congr 2
      rw [List.map_map]
      conv => rhs; rw [← List.map_id l]
      apply List.map_congr_left
      intro b _
      simp
    have := run_convert_bytes_arg (P := Tryz.prog) w 87 5 Tryz.underlying87 Tryz.underlying5 g 0 l.length cap (l.map fun b => (b.toNat : Int)) (by simp) ?_ 9 Tryz.underlying9
    · rw [this, hx]; rfl
    · intro i hi
      rw [Nat.zero_add, cell_of hg (v := .int .u8 ((l.map fun b => (b.toNat : Int)).getD i 0)) ?_]
      rw [← Array.getElem?_toList]
      have h1 : (cur.toList.take (l.length * 1))[i]? = cur.toList[i]? := by rw [List.getElem?_take, if_pos (by omega)]
      rw [← h1, ht]
      simp [Lib.byteCells, hi]
theorem tok_news (w : World) (t : Tok) (v : Value) : ∀ j u, (tokCells t v)[j]? = some u → (w.alloc (.cells (tokCells t v).toArray 56)).cell? ((⟨w.heap.size, 0, none⟩ : Addr).add j) = some u := by
  intro j u hu
  rw [Addr.add_lit, Nat.zero_add, cell_of (heap_alloc_new w _) (v := u)]
  rw [List.getElem?_toArray]; exact hu
theorem tok_one (t : Tok) (v : Value) (hv : v.oneCell' = true) : ∀ u ∈ tokCells t v, u.oneCell' = true := by
  intro u hu
  simp only [tokCells, List.mem_cons, List.not_mem_nil, or_false] at hu
  rcases hu with rfl | rfl | rfl | rfl | rfl
  · rfl
  · rfl
  · exact hv
  · rfl
  · rfl
theorem grown_blk {w w1 : World} {R : Nat} {o ob : Obj} {row : Option Nat} (hb : w.heap[R]? = some ob) (hR : row ≠ some R) (hg : (w.drew.alloc o).grownBy w1 row) : w1.heap[R]? = some ob := by
  have hlt : R < w.heap.size := (Array.getElem?_eq_some_iff.1 hb).1
  rw [hg.block R (by simp; omega) (fun e => hR e.symm)]
  exact (Below.heap_alloc w.drew o R hlt).trans hb
variable {F : Nat → Prop} {R : Nat} {w : World} {s : Src} {p : Ptr} {st : St} {c : Int}
theorem own_grown {w w1 : World} {e : TypeId} {sz : Nat} {v tv : Value} {n m : Nat} {xs ys : List Value} {ty : TypeId} {sy : Nat} (h : w.ownsRow 0 e sz v n xs) (ht : w.ownsRow 0 ty sy tv m ys) (hne : e ≠ ty) (hg : w.grownBy w1 tv.ownBlock) : w1.ownsRow 0 e sz v n xs :=
  owns_of h fun k hk => by
    obtain ⟨c, hc⟩ := owns_blk h hk
    exact hg.block k (Array.getElem?_eq_some_iff.1 hc).1 (fun x => tag_ne h ht hne hk x.symm)
def TT (R : Nat) (ao : Option Addr) (n cap : Nat) (q : Int) (l : List UInt8) (W : World) : Prop :=
  W.cell? ⟨R, 6, none⟩ = some (.slice ao n cap) ∧ W.cell? ⟨R, 7, none⟩ = some (.int .i64 q) ∧ W.ownsRow 0 5 1 (.slice ao n cap) l.length (Lib.byteCells l)
theorem cell_alloc {w : World} {a : Addr} {v : Value} (o : Obj) (h : w.cell? a = some v) : (w.alloc o).cell? a = some v :=
  (World.cell?_of_block (Below.heap_alloc w o a.block (World.block_lt_of_cell? w a h))).trans h
theorem cell_set5 {w : World} {R i : Nat} {v : Value} (u : Value) (h : w.cell? ⟨R, i, none⟩ = some v) (hi : i ≠ 5) : (w.setCell ⟨R, 5, none⟩ u).cell? ⟨R, i, none⟩ = some v := by
  rw [World.cell?_setCell_other]
  · exact h
  · simp [hi]
theorem tt_alloc {R : Nat} {ao : Option Addr} {n cap : Nat} {q : Int} {l : List UInt8} {W : World} (_hR : R < W.heap.size) (h : TT R ao n cap q l W) (o : Obj) : TT R ao n cap q l (W.alloc o) :=
  ⟨cell_alloc o h.1, cell_alloc o h.2.1, h.2.2.alloc o⟩
theorem tt_set {R : Nat} {ao : Option Addr} {n cap : Nat} {q : Int} {l : List UInt8} {W : World} (hR : (Value.slice ao n cap).ownBlock ≠ some R) (h : TT R ao n cap q l W) (u : Value) : TT R ao n cap q l (W.setCell ⟨R, 5, none⟩ u) :=
  ⟨cell_set5 u h.1 (by decide), cell_set5 u h.2.1 (by decide), owns_setCell h.2.2 _ _ hR⟩
set_option maxHeartbeats 4000000 in
set_option maxRecDepth 100000 in
theorem tellText_walk (R : Nat) (cs : Array Value) (ao : Option Addr) (n cap : Nat) (q : Int) (tv : Value) (m : Nat) (xs : List Value) (l : List UInt8) (w : World)
    (hb : w.heap[R]? = some (.cells cs 96 (0, 0))) (h5 : cs[5]? = some tv) (h6 : cs[6]? = some (.slice ao n cap)) (h7 : cs[7]? = some (.int .i64 q))
    (hn : 0 < n) (hl : w.ownsRow 0 5 1 (.slice ao n cap) l.length (Lib.byteCells l)) (ht : w.ownsRow 0 56 5 tv m xs) (hm : m ≤ 1099511627790) (hR : tv.ownBlock ≠ some R) (hR2 : (Value.slice ao n cap).ownBlock ≠ some R) :
    Calls Tryz.prog 55 #[.pointer (some ⟨R, 0, none⟩)] w fun e w' => e = .returned (.tuple #[]) ∧ ∃ v' w1 o, (w.drew.alloc o).grownBy w1 tv.ownBlock ∧ w1.ownsRow 0 56 5 v' (m + 1) (xs ++ tokCells ⟨3, [], [], l, q⟩ (.slice none 0 0)) ∧ (v'.ownBlock = tv.ownBlock ∨ v'.ownBlock = some (w.heap.size + 1)) ∧
      w' = ((w1.setCell ⟨R, 5, none⟩ v').setCell ⟨R, 6, none⟩ (.slice none 0 0)).setCell ⟨R, 7, none⟩ (.int .i64 0) := by
  obtain ⟨ti, tc, rfl⟩ := slice_len ht
  obtain ⟨i0, hi, hz0, hz1, hz2⟩ := info_parts info49
  have hcv : ∀ W : World, W.ownsRow 0 5 1 (.slice ao n cap) l.length (Lib.byteCells l) → (convert 87 9 (.slice ao n cap)).run Tryz.prog W = .ok (.string ⟨l.toArray⟩) W := fun W h => conv_own h
  have c5 := cell_of hb h5
  have c6 := cell_of hb h6
  have c7 := cell_of hb h7
  have hz : ((n : Int) == 0) = false := by
    have : (n : Int) ≠ 0 := by omega
    simpa using this
  have hlt : R < w.heap.size := (Array.getElem?_eq_some_iff.1 hb).1
  have HT := hide ht
  clear ht
  have HB := hide hb
  have H6 := hide h6
  have H5 := hide h5
  have H7 := hide h7
  have HL := hide hl
  clear hb h5 h6 h7 hl
  have T0 : Hid (TT R ao n cap q l w.drew) := ⟨c6, c7, HL.out.drew⟩
  have T1 : Hid (∀ o, TT R ao n cap q l (w.drew.alloc o)) := fun o => tt_alloc hlt T0.out o
  have hcv1 := hcv w.drew HL.out.drew
  go_enter Tryz.func55, Tryz.ntmps55
  go_wp2_with fail
  go_region_law
    (first | (
      refine step_own_at rfl (.tmp 13) (.tmp 26) 47 rfl 56 i0 _ 5 72 Tryz.underlying47 hi hz0 hz1 hz2 rfl (by decide) (.slice ti m tc) m xs (by simp [Act.eval, Act.put]) (HT.out.drew.alloc _) ⟨w.heap.size, 0, none⟩ 1 1 (tokCells ⟨3, [], [], l, q⟩ (.slice none 0 0)) (by simp [Act.eval, Act.put]) rfl (tok_news _ _ _) (tok_one _ _ rfl) (by unfold maxLen; omega) (by omega) ?_
      intro v' w1 ho hg hat
      obtain ⟨ao', cap', rfl⟩ := slice_len ho
      have hb1 := grown_blk HB.out hR hg
      have c5' := cell_of hb1 H5.out
      have c6' := cell_of hb1 H6.out
      have c7' := cell_of hb1 H7.out
      have f5' := free_of (i := 5) hb1
      have f6' := free_of (i := 6) hb1
      have f7' := free_of (i := 7) hb1
      have T2 : Hid (TT R ao n cap q l w1) := ⟨c6', c7', own_grown (HL.out.drew.alloc _) (HT.out.drew.alloc _) (by decide) hg⟩
      have T3 : Hid (∀ v, TT R ao n cap q l (w1.setCell ⟨R, 5, none⟩ v)) := fun v => tt_set hR2 T2.out v
      have HO := hide ho
      have HG := hide hg
      have HA := hide hat
      clear ho hg hat hb1))
  all_goals
    go_wp2
    go_end0
    exact ⟨rfl, _, w1, _, HG.out, HO.out, by simpa using HA.out, rfl⟩
end Go.Proofs.YtfolnkmbdmfigaaGreatDoor

namespace Go.Proofs.YtfolnkmbdmfigaaGreatDoor
open Go.RowKit Go.Maps
variable {F : Nat → Prop} {R : Nat} {w w' : World} {s : Src} {p : Ptr} {st : St} {c : Int}
theorem owns_nil (w : World) (e : TypeId) (sz : Nat) : w.ownsRow 0 e sz (.slice none 0 0) 0 [] := World.ownsRow_nil w 0 e sz
theorem nil_block (k : Nat) : (Value.slice none 0 0).ownBlock ≠ some k := by simp [Value.ownBlock]
theorem Kept.refl (R : Nat) (row : Option Nat) (w : World) : Kept R row w w := ⟨rfl, rfl, rfl, Nat.le_refl _, fun _ _ _ _ => rfl⟩
theorem Grow.base {F : Nat → Prop} {w : World} (k : Nat) (h : Grow F w w k) : F k := h.elim id fun x => by omega
theorem Own.clear (h : Own F R w p st) (hlt : ∀ k, F k → k < w.heap.size) (hR : F R) (i : Rn) : Own F R w (p.setRun i (.slice none 0 0)) (st.clear i) :=
  (h.turn hlt hR i (.slice none 0 0) [] 0 (Kept.refl _ _ _) (owns_nil w 5 1) (Or.inr fun k e => absurd e (nil_block k))).frame (fun _ _ _ => rfl) Grow.base
theorem Own.tell (h : Own F R w p st) (hlt : ∀ k, F k → k < w.heap.size) (hR : F R) {cs : List Value} (hc : w.ownsRow 0 56 5 p.told st.told.length cs) (hT : Toks F R w p.attrs st.told cs)
    (hK : Kept R p.told.ownBlock w w') (v : Value) (t : Tok) (ht : t.attrs = []) (ho : w'.ownsRow 0 56 5 v (st.told.length + 1) (cs ++ tokCells t (.slice none 0 0))) (hat : v.ownBlock = p.told.ownBlock ∨ ∀ k, v.ownBlock = some k → w.heap.size ≤ k) :
    Own (Grow F w w') R w' { p with told := v } { st with told := st.told ++ [t] } := by
  have keep : ∀ k, F k → k ≠ R → p.told.ownBlock ≠ some k → w'.heap[k]? = w.heap[k]? := fun k a b c => hK.block k (hlt k a) b (fun e => c e.symm)
  refine ⟨fun i => owns_of (h.run i) fun k e => keep k (h.runF i k e).1 (h.runF i k e).2 (tag_ne (h.run i) hc (by decide) e), fun i k e => ⟨Or.inl (h.runF i k e).1, (h.runF i k e).2⟩, h.apart, ⟨_, by rw [List.length_append]; exact ho, ?_⟩, ?_,
    owns_of h.attrs fun k e => keep k (h.attrsF k e).1 (h.attrsF k e).2 (tag_ne h.attrs hc (by decide) e), fun k e => ⟨Or.inl (h.attrsF k e).1, (h.attrsF k e).2⟩, ?_⟩
  · refine (hT.frame fun k n xs v' ho' hv a b c => ⟨keep k a b (tag_ne ho' hc (by decide) hv), Or.inl a, c⟩).app ?_
    have := Toks.cons (F := Grow F w w') (R := R) (w := w') (av := p.attrs) t (.slice none 0 0) [] [] (by rw [ht]; exact owns_nil w' 44 2) (fun k e => absurd e (nil_block k)) .nil
    rw [List.append_nil] at this
    exact this
  · intro k e
    rcases hat with e2 | e2
    · rw [e2] at e; exact ⟨Or.inl (h.toldF k e).1, (h.toldF k e).2⟩
    · have h1 := e2 k e
      have h2 := hlt R hR
      obtain ⟨c, hc⟩ := owns_blk ho e
      exact ⟨Or.inr ⟨h1, (Array.getElem?_eq_some_iff.1 hc).1⟩, by omega⟩
  · rcases h.names with hn | ⟨b, h1, h2, h3, h4⟩
    · exact Or.inl hn
    · exact Or.inr ⟨b, h1, Or.inl h2, h3, map_of h4 (keep b h2 h3 (map_ne hc h4))⟩
theorem Own.tellOpen (h : Own F R w p st) (hlt : ∀ k, F k → k < w.heap.size) (hR : F R) {cs : List Value} (hc : w.ownsRow 0 56 5 p.told st.told.length cs) (hT : Toks F R w p.attrs st.told cs)
    (hK : Kept R p.told.ownBlock w w') (v : Value) (t : Tok) (ht : t.attrs = st.attrs) (ho : w'.ownsRow 0 56 5 v (st.told.length + 1) (cs ++ tokCells t p.attrs)) (hat : v.ownBlock = p.told.ownBlock ∨ ∀ k, v.ownBlock = some k → w.heap.size ≤ k) :
    Own (Grow F w w') R w' { p with told := v, attrs := .slice none 0 0, names := .map none } { st with told := st.told ++ [t], attrs := [], names := [] } := by
  have keep : ∀ k, F k → k ≠ R → p.told.ownBlock ≠ some k → w'.heap[k]? = w.heap[k]? := fun k a b c => hK.block k (hlt k a) b (fun e => c e.symm)
  refine ⟨fun i => owns_of (h.run i) fun k e => keep k (h.runF i k e).1 (h.runF i k e).2 (tag_ne (h.run i) hc (by decide) e), fun i k e => ⟨Or.inl (h.runF i k e).1, (h.runF i k e).2⟩, h.apart, ⟨_, by rw [List.length_append]; exact ho, ?_⟩, ?_,
    owns_nil w' 44 2, fun k e => absurd e (nil_block k), Or.inl ⟨rfl, rfl⟩⟩
  · refine (hT.frame fun k n xs v' ho' hv a b c => ⟨keep k a b (tag_ne ho' hc (by decide) hv), Or.inl a, nil_block k⟩).app ?_
    have := Toks.cons (F := Grow F w w') (R := R) (w := w') (av := .slice none 0 0) t p.attrs [] [] (by rw [ht]; exact owns_of h.attrs fun k e => keep k (h.attrsF k e).1 (h.attrsF k e).2 (tag_ne h.attrs hc (by decide) e)) (fun k e => ⟨Or.inl (h.attrsF k e).1, (h.attrsF k e).2, nil_block k⟩) .nil
    rw [List.append_nil] at this
    exact this
  · intro k e
    rcases hat with e2 | e2
    · rw [e2] at e; exact ⟨Or.inl (h.toldF k e).1, (h.toldF k e).2⟩
    · have h1 := e2 k e
      have h2 := hlt R hR
      obtain ⟨c, hc⟩ := owns_blk ho e
      exact ⟨Or.inr ⟨h1, (Array.getElem?_eq_some_iff.1 hc).1⟩, by omega⟩
theorem kept_of {w1 : World} {row : Option Nat} {o : Obj} (hg : (w.drew.alloc o).grownBy w1 row) (hs : w'.heap.size = w1.heap.size) (hk : ∀ k, k ≠ R → w'.heap[k]? = w1.heap[k]?) (h1 : w'.os = w1.os) (h2 : w'.tape = w1.tape) (h3 : w'.output = w1.output) : Kept R row w w' := by
  have hz := hg.size
  simp at hz
  refine ⟨h1.trans hg.os, h2.trans hg.tape, h3.trans hg.output, by omega, ?_⟩
  intro k hl hR hr
  rw [hk k hR, hg.block k (by simp; omega) hr]
  exact Below.heap_alloc w.drew o k hl
theorem Kept.frame (h : Kept R p.told.ownBlock w w') (ho : Own F R w p st) (hR : F R) : Frame F w w' :=
  ⟨h.os, h.tape, h.output, h.size, fun k hl hf => h.block k hl (fun e => hf (e ▸ hR)) (fun e => hf (ho.toldF k e.symm).1)⟩
theorem heap3 (w1 : World) (i j k : Nat) (a b c : Value) : (∀ x, x ≠ R → (((w1.setCell ⟨R, i, none⟩ a).setCell ⟨R, j, none⟩ b).setCell ⟨R, k, none⟩ c).heap[x]? = w1.heap[x]?) ∧ (((w1.setCell ⟨R, i, none⟩ a).setCell ⟨R, j, none⟩ b).setCell ⟨R, k, none⟩ c).heap.size = w1.heap.size := by
  constructor
  · intro x hx
    rw [Below.heap_setCell _ _ _ _ hx, Below.heap_setCell _ _ _ _ hx, Below.heap_setCell _ _ _ _ hx]
  · simp [World.setCell]
theorem told_ne (h : Own F R w p st) (hR : R < w.heap.size) {v : Value} (hat : v.ownBlock = p.told.ownBlock ∨ v.ownBlock = some (w.heap.size + 1)) : ∀ k, v.ownBlock = some k → k ≠ R := by
  intro k e
  rcases hat with e2 | e2
  · rw [e2] at e; exact (h.toldF k e).2
  · rw [e2] at e; cases e; omega
theorem told_at {v : Value} (hat : v.ownBlock = p.told.ownBlock ∨ v.ownBlock = some (w.heap.size + 1)) : v.ownBlock = p.told.ownBlock ∨ ∀ k, v.ownBlock = some k → w.heap.size ≤ k := by
  rcases hat with e2 | e2
  · exact Or.inl e2
  · exact Or.inr fun k e => by rw [e2] at e; cases e; omega
theorem grow_lt (h : ∀ k, F k → k < w.heap.size) (hs : w.heap.size ≤ w'.heap.size) : ∀ k, Grow F w w' k → k < w'.heap.size := fun k hk => hk.elim (fun x => Nat.lt_of_lt_of_le (h k x) hs) (fun x => x.2)
theorem tellText_rep (h : Rep F R w s p st) (hs : st.told.length ≤ 1099511627790) :
    Calls Tryz.prog 55 #[.pointer (some ⟨R, 0, none⟩)] w fun e w' => e = .returned (.tuple #[]) ∧ ∃ p', Rep (Grow F w w') R w' s p' st.tellText ∧ Frame F w w' ∧ p'.run .name = p.run .name ∧ p'.attrs = p.attrs := by
  have hlen := h.own.run .text
  obtain ⟨ao, cap, hv⟩ := slice_len hlen
  by_cases hn : (st.run .text).length = 0
  · have hst : st.tellText = st := by simp [St.tellText, hn]
    rw [hst]
    have c6 : w.cell? ⟨R, 6, none⟩ = some (p.run .text) := h.cell 6 rfl
    rw [hv, hn] at c6
    have H := hide h
    clear h hlen hst hn hv hs
    go_enter Tryz.func55, Tryz.ntmps55
    go_wp2
    (try simp only [Exit.inBlock, Exit.then])
    refine bodyPost_ret (results_none rfl _ _ _) rfl ?_
    exact ⟨rfl, p, H.out.grow0, Frame.refl _ _, rfl, rfl⟩
  · have hst : st.tellText = St.clear { st with told := st.told ++ [⟨3, [], [], st.run .text, st.runAt .text⟩] } .text := by simp [St.tellText, hn]
    rw [hst]
    obtain ⟨cs, hc, hT⟩ := h.own.told
    have hR := h.lt R h.inR
    refine (tellText_walk R (cellsOf s p st) ao (st.run .text).length cap (st.runAt .text) p.told st.told.length cs (st.run .text) w h.blk rfl (by rw [← hv]; rfl) rfl (by omega) (by rw [← hv]; exact hlen) hc hs (fun e => (h.own.toldF R e).2 rfl) (by rw [← hv]; exact fun e => (h.own.runF .text R e).2 rfl)).mono ?_
    rintro e w' ⟨rfl, v', w1, o, hg, ho, hat, rfl⟩
    obtain ⟨hk, hsz⟩ := heap3 (R := R) w1 5 6 7 v' (.slice none 0 0) (.int .i64 0)
    have hb1 := grown_blk h.blk (fun e => (h.own.toldF R e).2 rfl) hg
    have hb := set_of (i := 7) (set_of (i := 6) (set_of (i := 5) hb1 v') (.slice none 0 0)) (.int .i64 0)
    have hK : Kept R p.told.ownBlock w _ := kept_of (R := R) hg hsz hk rfl rfl rfl
    have hne : ∀ k, v'.ownBlock = some k → k ≠ R := told_ne h.own hR hat
    generalize ((w1.setCell ⟨R, 5, none⟩ v').setCell ⟨R, 6, none⟩ (.slice none 0 0)).setCell ⟨R, 7, none⟩ (.int .i64 0) = w' at *
    have o1 := h.own.tell h.lt h.inR hc hT hK v' ⟨3, [], [], st.run .text, st.runAt .text⟩ rfl (owns_of ho fun k e => hk k (hne k e)) (told_at hat)
    have hlt' : ∀ k, Grow F w w' k → k < w'.heap.size := grow_lt h.lt hK.size
    refine ⟨rfl, _, ⟨?_, Or.inl h.inR, hlt', o1.clear hlt' (Or.inl h.inR) .text⟩, hK.frame h.own h.inR, rfl, rfl⟩
    rw [hb]
    rfl
end Go.Proofs.YtfolnkmbdmfigaaGreatDoor
