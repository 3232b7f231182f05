import Derived.Test.YtbjpimnmgonebaaDoorWf
import Derived.Test.YtbjpimnmgonebaaDoorPq
import Derived.BigQuiet
import Derived.Deep.QuietTactic
namespace Go.Proofs.YtbjpimnmgonebaaDoor
open Go.RowKit

/-- The table of the references that have a name, as it lies in memory. -/
def tab : Array Value := #[.string ⟨#[38, 108, 116, 59]⟩, .int .i32 60, .string ⟨#[38, 103, 116, 59]⟩, .int .i32 62, .string ⟨#[38, 97, 109, 112, 59]⟩, .int .i32 38, .string ⟨#[38, 113, 117, 111, 116, 59]⟩, .int .i32 34, .string ⟨#[38, 97, 112, 111, 115, 59]⟩, .int .i32 39]

def Tab (w : World) : Prop := ∃ t fr, w.heap[0]? = some (.cells tab t fr)

def nm : Nat → List UInt8
  | 0 => [38, 108, 116, 59]
  | 1 => [38, 103, 116, 59]
  | 2 => [38, 97, 109, 112, 59]
  | 3 => [38, 113, 117, 111, 116, 59]
  | _ => [38, 97, 112, 111, 115, 59]

theorem idx0 (w : World) : (Instr.index 58 (.agg tab) (.int .i64 0)).run Tryd.prog w = .ok (.agg #[.string ⟨#[38, 108, 116, 59]⟩, .int .i32 60]) w := by kernel_rfl
theorem idx1 (w : World) : (Instr.index 58 (.agg tab) (.int .i64 1)).run Tryd.prog w = .ok (.agg #[.string ⟨#[38, 103, 116, 59]⟩, .int .i32 62]) w := by kernel_rfl
theorem idx2 (w : World) : (Instr.index 58 (.agg tab) (.int .i64 2)).run Tryd.prog w = .ok (.agg #[.string ⟨#[38, 97, 109, 112, 59]⟩, .int .i32 38]) w := by kernel_rfl
theorem idx3 (w : World) : (Instr.index 58 (.agg tab) (.int .i64 3)).run Tryd.prog w = .ok (.agg #[.string ⟨#[38, 113, 117, 111, 116, 59]⟩, .int .i32 34]) w := by kernel_rfl
theorem idx4 (w : World) : (Instr.index 58 (.agg tab) (.int .i64 4)).run Tryd.prog w = .ok (.agg #[.string ⟨#[38, 97, 112, 111, 115, 59]⟩, .int .i32 39]) w := by kernel_rfl

theorem hasPrefix_zero (u : ByteArray) (l : List UInt8) : Lib.hasPrefix u.data.toList l = Ch.has u 0 l := by
  rw [Lib.hasPrefix, ← Ch.prefix_has u l 0]; rfl

theorem below_drews {B : Nat} {a w : World} (h : Below B a w) (n : Nat) : Below B a (w.drewN n) := h.trans ⟨rfl, rfl, rfl, Nat.le_refl _, fun _ _ => rfl⟩

theorem no_step {u : ByteArray} {m : Nat} (h : Hid (∀ j, j < m → Ch.has u 0 (nm j) = false)) (hb : Ch.has u 0 (nm m) = false) : ∀ j, j < m + 1 → Ch.has u 0 (nm j) = false := by
  intro j hj
  by_cases e : j = m
  · rw [e]; exact hb
  · exact h.out j (by omega)

theorem cutPrefix_any (u : ByteArray) (a : Array UInt8) (w : World) (b : Bool) (h : Ch.has u 0 a.toList = b) :
    Calls Tryd.prog 34 #[.string u, .string ⟨a⟩] w fun e w' => e = .returned (.tuple #[.string (if b = true then Ch.tail u a.toList.length else u), .bool b]) ∧ w' = w := by
  refine (Tryd.strings_CutPrefix u ⟨a⟩ w).mono ?_
  rintro e w' ⟨rfl, rfl⟩
  have hp := hasPrefix_zero u a.toList
  rw [h] at hp
  refine ⟨?_, rfl⟩
  cases b
  · simp [Lib.trimPrefix, hp]
  · simp [Lib.trimPrefix, hp, Ch.tail]

theorem cut_yes (u : ByteArray) (a : Array UInt8) (w : World) (h : Ch.has u 0 a.toList = true) :
    Calls Tryd.prog 34 #[.string u, .string ⟨a⟩] w fun e w' => e = .returned (.tuple #[.string (Ch.tail u a.toList.length), .bool true]) ∧ w' = w :=
  cutPrefix_any u a w true h
theorem cut_no (u : ByteArray) (a : Array UInt8) (w : World) (h : Ch.has u 0 a.toList = false) :
    Calls Tryd.prog 34 #[.string u, .string ⟨a⟩] w fun e w' => e = .returned (.tuple #[.string u, .bool false]) ∧ w' = w :=
  cutPrefix_any u a w false h

theorem numC_at (u : ByteArray) (k : Nat) (b ahead : Int) : numC (Ch.tail u k) b ahead = if (Ch.numAt u k b).2 = 0 then (0, 0) else ((Ch.numAt u k b).1, ahead + (Ch.numAt u k b).2) := by
  unfold numC
  rw [← Ch.numAt_zero, Ch.numAt_tail, Nat.add_zero]

theorem ref_hex {u : ByteArray} (h : ∀ j, j < 5 → Ch.has u 0 (nm j) = false) (hb : Ch.has u 0 [38, 35, 120] = true) : Ch.refAt u 0 = numC (Ch.tail u 3) 16 3 := by
  have h0 := h 0 (by omega); have h1 := h 1 (by omega); have h2 := h 2 (by omega); have h3 := h 3 (by omega); have h4 := h 4 (by omega)
  simp only [nm] at h0 h1 h2 h3 h4
  rw [numC_at]
  simp [Ch.refAt, h0, h1, h2, h3, h4, hb]
theorem ref_dec {u : ByteArray} (h : ∀ j, j < 5 → Ch.has u 0 (nm j) = false) (hb : Ch.has u 0 [38, 35, 120] = false) (hc : Ch.has u 0 [38, 35] = true) : Ch.refAt u 0 = numC (Ch.tail u 2) 10 2 := by
  have h0 := h 0 (by omega); have h1 := h 1 (by omega); have h2 := h 2 (by omega); have h3 := h 3 (by omega); have h4 := h 4 (by omega)
  simp only [nm] at h0 h1 h2 h3 h4
  rw [numC_at]
  simp [Ch.refAt, h0, h1, h2, h3, h4, hb, hc]
theorem ref_none {u : ByteArray} (h : ∀ j, j < 5 → Ch.has u 0 (nm j) = false) (hb : Ch.has u 0 [38, 35, 120] = false) (hc : Ch.has u 0 [38, 35] = false) : Ch.refAt u 0 = (0, 0) := by
  have h0 := h 0 (by omega); have h1 := h 1 (by omega); have h2 := h 2 (by omega); have h3 := h 3 (by omega); have h4 := h 4 (by omega)
  simp only [nm] at h0 h1 h2 h3 h4
  simp [Ch.refAt, h0, h1, h2, h3, h4, hb, hc]
def nmOf : Nat → Int × Int
  | 0 => (60, 4)
  | 1 => (62, 4)
  | 2 => (38, 5)
  | 3 => (34, 6)
  | _ => (39, 6)
theorem ref_named {u : ByteArray} {m : Nat} (hm : m < 5) (h : ∀ j, j < m → Ch.has u 0 (nm j) = false) (hb : Ch.has u 0 (nm m) = true) : Ch.refAt u 0 = nmOf m := by
  have hcs : m = 0 ∨ m = 1 ∨ m = 2 ∨ m = 3 ∨ m = 4 := by omega
  rcases hcs with rfl | rfl | rfl | rfl | rfl
  · simp only [nm] at hb
    simp [Ch.refAt, hb, nmOf]
  · have h0 := h 0 (by omega)
    simp only [nm] at hb h0
    simp [Ch.refAt, hb, nmOf, h0]
  · have h0 := h 0 (by omega); have h1 := h 1 (by omega)
    simp only [nm] at hb h0 h1
    simp [Ch.refAt, hb, nmOf, h0, h1]
  · have h0 := h 0 (by omega); have h1 := h 1 (by omega); have h2 := h 2 (by omega)
    simp only [nm] at hb h0 h1 h2
    simp [Ch.refAt, hb, nmOf, h0, h1, h2]
  · have h0 := h 0 (by omega); have h1 := h 1 (by omega); have h2 := h 2 (by omega); have h3 := h 3 (by omega)
    simp only [nm] at hb h0 h1 h2 h3
    simp [Ch.refAt, hb, nmOf, h0, h1, h2, h3]

set_option maxHeartbeats 4000000 in
set_option maxRecDepth 1000000 in
theorem reference_any (u : ByteArray) (w : World) (hu : u.size ≤ 1125899906842624) (hT : Tab w) :
    Calls Tryd.prog 25 #[.string u] w fun e w' => e = .returned (.tuple #[.int .i32 (Ch.refAt u 0).1, .int .i64 (Ch.refAt u 0).2]) ∧ Below w.heap.size w w' := by
  obtain ⟨tt, fr, hg⟩ := hT
  go_enter Tryd.func25, Tryd.ntmps25
  go_wp2_with (refine wpList_load_row rfl 58 _ rfl 0 rfl tt _ fr _ hg Tryd.underlying58 rfl (by kernel_rfl) ?_)
  go_loopw [11] (fun k wr => ∃ m : Nat, m ≤ 5 ∧ k = .int .i64 m ∧ Below w.heap.size w wr ∧ Hid (∀ j, j < m → Ch.has u 0 (nm j) = false)) (fun k _ => 5 - (intOf k).toNat)
  case atStart => exact ⟨0, by omega, rfl, Below.refl _ _, fun j h => by omega⟩
  case round =>
    obtain ⟨m, hm, rfl, hbw, HNO⟩ := hrel
    have hcs : m = 0 ∨ m = 1 ∨ m = 2 ∨ m = 3 ∨ m = 4 ∨ m = 5 := by omega
    rcases hcs with rfl | rfl | rfl | rfl | rfl | rfl
    rotate_right
    · cases hb : Ch.has u 0 [38, 35, 120]
      · cases hc : Ch.has u 0 [38, 35]
        · have HR := hide (ref_none HNO.out hb hc)
          go_wp2_with (first | (go_at_call_of 34 (Value.string { data := #[38, 35, 120] }); refine (cut_no u #[38, 35, 120] _ hb).mono ?_; rintro e w' ⟨rfl, rfl⟩) | (go_at_call 34; refine (cut_no u #[38, 35] _ hc).mono ?_; rintro e w' ⟨rfl, rfl⟩))
          go_ret2
          refine ⟨?_, hbw⟩
          rw [HR.out]; rfl
        · have HR := hide (ref_dec HNO.out hb hc)
          have hts : (Ch.tail u 2).size ≤ 1125899906842624 := by rw [Ch.tail_size]; omega
          go_wp2_with (first | (go_at_call_of 34 (Value.string { data := #[38, 35, 120] }); refine (cut_no u #[38, 35, 120] _ hb).mono ?_; rintro e w' ⟨rfl, rfl⟩) | (go_at_call 34; refine (cut_yes u #[38, 35] _ hc).mono ?_; rintro e w' ⟨rfl, rfl⟩) | (go_at_call 35; refine (numbered_any (Ch.tail u 2) 10 2 _ hts (Or.inl rfl) (by decide) (by decide)).mono ?_; rintro e w1 ⟨rfl, hb1⟩))
          go_ret2
          refine ⟨?_, hbw.trans (hb1.mono hbw.size)⟩
          rw [HR.out]; rfl
      · have HR := hide (ref_hex HNO.out hb)
        have hts : (Ch.tail u 3).size ≤ 1125899906842624 := by rw [Ch.tail_size]; omega
        go_wp2_with (first | (go_at_call_of 34 (Value.string { data := #[38, 35, 120] }); refine (cut_yes u #[38, 35, 120] _ hb).mono ?_; rintro e w' ⟨rfl, rfl⟩) | (go_at_call 35; refine (numbered_any (Ch.tail u 3) 16 3 _ hts (Or.inr rfl) (by decide) (by decide)).mono ?_; rintro e w1 ⟨rfl, hb1⟩))
        go_ret2
        refine ⟨?_, hbw.trans (hb1.mono hbw.size)⟩
        rw [HR.out]; rfl
    · have hi := idx0
      have hpf := hasPrefix_zero u [38, 108, 116, 59]
      cases hb : Ch.has u 0 [38, 108, 116, 59]
      · rw [hb] at hpf
        go_wp2_with (go_at_call 31; refine (Tryd.strings_HasPrefix _ _ _).mono ?_; rintro e w' ⟨rfl, rfl⟩)
        exact ⟨⟨1, by omega, rfl, hbw.alloc hbw.size _, no_step HNO hb⟩, by decide⟩
      · rw [hb] at hpf
        have HR := hide (ref_named (m := 0) (by omega) HNO.out hb)
        go_wp2_with (go_at_call 31; refine (Tryd.strings_HasPrefix _ _ _).mono ?_; rintro e w' ⟨rfl, rfl⟩)
        go_quiet (fail)
        go_wp2
        go_ret2
        refine ⟨?_, below_drews (hbw.alloc hbw.size _) _⟩
        rw [HR.out]; rfl
    · have hi := idx1
      have hpf := hasPrefix_zero u [38, 103, 116, 59]
      cases hb : Ch.has u 0 [38, 103, 116, 59]
      · rw [hb] at hpf
        go_wp2_with (go_at_call 31; refine (Tryd.strings_HasPrefix _ _ _).mono ?_; rintro e w' ⟨rfl, rfl⟩)
        exact ⟨⟨2, by omega, rfl, hbw.alloc hbw.size _, no_step HNO hb⟩, by decide⟩
      · rw [hb] at hpf
        have HR := hide (ref_named (m := 1) (by omega) HNO.out hb)
        go_wp2_with (go_at_call 31; refine (Tryd.strings_HasPrefix _ _ _).mono ?_; rintro e w' ⟨rfl, rfl⟩)
        go_quiet (fail)
        go_wp2
        go_ret2
        refine ⟨?_, below_drews (hbw.alloc hbw.size _) _⟩
        rw [HR.out]; rfl
    · have hi := idx2
      have hpf := hasPrefix_zero u [38, 97, 109, 112, 59]
      cases hb : Ch.has u 0 [38, 97, 109, 112, 59]
      · rw [hb] at hpf
        go_wp2_with (go_at_call 31; refine (Tryd.strings_HasPrefix _ _ _).mono ?_; rintro e w' ⟨rfl, rfl⟩)
        exact ⟨⟨3, by omega, rfl, hbw.alloc hbw.size _, no_step HNO hb⟩, by decide⟩
      · rw [hb] at hpf
        have HR := hide (ref_named (m := 2) (by omega) HNO.out hb)
        go_wp2_with (go_at_call 31; refine (Tryd.strings_HasPrefix _ _ _).mono ?_; rintro e w' ⟨rfl, rfl⟩)
        go_quiet (fail)
        go_wp2
        go_ret2
        refine ⟨?_, below_drews (hbw.alloc hbw.size _) _⟩
        rw [HR.out]; rfl
    · have hi := idx3
      have hpf := hasPrefix_zero u [38, 113, 117, 111, 116, 59]
      cases hb : Ch.has u 0 [38, 113, 117, 111, 116, 59]
      · rw [hb] at hpf
        go_wp2_with (go_at_call 31; refine (Tryd.strings_HasPrefix _ _ _).mono ?_; rintro e w' ⟨rfl, rfl⟩)
        exact ⟨⟨4, by omega, rfl, hbw.alloc hbw.size _, no_step HNO hb⟩, by decide⟩
      · rw [hb] at hpf
        have HR := hide (ref_named (m := 3) (by omega) HNO.out hb)
        go_wp2_with (go_at_call 31; refine (Tryd.strings_HasPrefix _ _ _).mono ?_; rintro e w' ⟨rfl, rfl⟩)
        go_quiet (fail)
        go_wp2
        go_ret2
        refine ⟨?_, below_drews (hbw.alloc hbw.size _) _⟩
        rw [HR.out]; rfl
    · have hi := idx4
      have hpf := hasPrefix_zero u [38, 97, 112, 111, 115, 59]
      cases hb : Ch.has u 0 [38, 97, 112, 111, 115, 59]
      · rw [hb] at hpf
        go_wp2_with (go_at_call 31; refine (Tryd.strings_HasPrefix _ _ _).mono ?_; rintro e w' ⟨rfl, rfl⟩)
        exact ⟨⟨5, by omega, rfl, hbw.alloc hbw.size _, no_step HNO hb⟩, by decide⟩
      · rw [hb] at hpf
        have HR := hide (ref_named (m := 4) (by omega) HNO.out hb)
        go_wp2_with (go_at_call 31; refine (Tryd.strings_HasPrefix _ _ _).mono ?_; rintro e w' ⟨rfl, rfl⟩)
        go_quiet (fail)
        go_wp2
        go_ret2
        refine ⟨?_, below_drews (hbw.alloc hbw.size _) _⟩
        rw [HR.out]; rfl
end Go.Proofs.YtbjpimnmgonebaaDoor
