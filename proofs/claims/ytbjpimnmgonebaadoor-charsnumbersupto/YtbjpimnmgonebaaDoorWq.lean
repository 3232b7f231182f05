import Derived.Test.YtbjpimnmgonebaaDoorWp
import Derived.Test.YtbjpimnmgonebaaDoorWk
import Derived.Test.YtbjpimnmgonebaaDoorPv
import Derived.Lib.SmallJoins
namespace Go.Proofs.YtbjpimnmgonebaaDoor
open Go.RowKit

/-- A digit's one byte. -/
def dgt (d : Nat) : List UInt8 := [UInt8.ofNat (48 + d)]

theorem conv_digit (w : World) (d : Nat) : (convert 41 9 (.slice (some ⟨w.heap.size, 0, none⟩) 1 1)).run Tryd.prog (w.alloc (.cells #[.int .u8 (48 + (d : Int))] 5)) = .ok (.string (Ch.txt (dgt d))) (w.alloc (.cells #[.int .u8 (48 + (d : Int))] 5)) := by
  have h := conv_new w [48 + (d : Int)] 1 rfl
  have e : strOfNums [48 + (d : Int)] = Ch.txt (dgt d) := by
    have : (48 + (d : Int)).toNat = 48 + d := by omega
    simp [strOfNums, Ch.txt, dgt, this]
  rw [e] at h
  exact h

theorem txt_append (a b : List UInt8) : Ch.txt a ++ Ch.txt b = Ch.txt (a ++ b) := by
  apply ByteArray.ext
  apply Array.toList_inj.1
  rw [Joins.data_append]
  simp [Ch.txt]

set_option maxHeartbeats 2000000 in
theorem decimal_any : ∀ (f n : Nat) (w : World), n < 10 ^ f → n ≤ 1099511627776 → 1 ≤ f → f ≤ 13 →
    Calls Tryd.prog 17 #[.int .i64 n] w fun e w' => e = .returned (.string (Ch.txt (Ch.decF f n))) ∧ Below w.heap.size w w' := by
  intro f
  induction f with
  | zero => intro n w h1 h2 h3 h4; omega
  | succ f ih =>
    intro n w h1 h2 h3 h4
    have HI := hide ih
    clear ih
    by_cases h10 : n < 10
    · have e : Ch.decF (f + 1) n = dgt n := by simp [Ch.decF, dgt, h10]
      rw [e]
      have hcv := conv_digit w n
      clear e
      go_enter Tryd.func17, Tryd.ntmps17
      go_wp2
      go_ret
      exact ⟨rfl, (Below.refl _ w).alloc (Nat.le_refl _) _⟩
    · have e : Ch.decF (f + 1) n = Ch.decF f (n / 10) ++ dgt (n % 10) := by simp [Ch.decF, dgt, h10]
      rw [e]
      clear e
      have hn' : n / 10 < 10 ^ f := by
        rw [Nat.pow_succ] at h1
        exact Nat.div_lt_of_lt_mul (by omega)
      have hf : 1 ≤ f := by
        rcases Nat.eq_zero_or_pos f with h | h
        · subst h; simp at hn'; omega
        · exact h
      have hc : ∀ w, Calls Tryd.prog 17 #[.int .i64 ((n : Int) / 10)] w fun e w' => e = .returned (.string (Ch.txt (Ch.decF f (n / 10)))) ∧ Below w.heap.size w w' := fun w => by
        have := HI.out (n / 10) w hn' (by omega) hf (by omega)
        exact this
      have HCC := hide hc
      have hcv : ∀ w : World, (convert 41 9 (.slice (some ⟨w.heap.size, 0, none⟩) 1 1)).run Tryd.prog (w.alloc (.cells #[.int .u8 (48 + (n : Int) % 10)] 5)) = .ok (.string (Ch.txt (dgt (n % 10)))) (w.alloc (.cells #[.int .u8 (48 + (n : Int) % 10)] 5)) := fun w => conv_digit w (n % 10)
      have hz1 : (Ch.txt (Ch.decF f (n / 10))).size ≤ 20 := by
        rw [Ch.txt_size]
        have := Ch.decF_le f (n / 10)
        omega
      have hz2 : (Ch.txt (dgt (n % 10))).size ≤ 20 := by
        rw [Ch.txt_size]; simp [dgt]
      clear hc hn' h1
      go_enter Tryd.func17, Tryd.ntmps17
      go_wp2_with (go_at_call 17; refine (HCC.out _).mono ?_; rintro e w1 ⟨rfl, b1⟩)
      go_ret
      refine ⟨?_, b1.alloc b1.size _⟩
      rw [← txt_append]
      rfl
end Go.Proofs.YtbjpimnmgonebaaDoor
