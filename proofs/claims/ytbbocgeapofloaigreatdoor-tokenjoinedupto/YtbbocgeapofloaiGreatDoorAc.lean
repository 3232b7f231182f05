import Derived.BigQuiet
import Derived.Deep.QuietTactic
import Derived.Laws.BytesArg
import Derived.Test.YtbbocgeapofloaiGreatDoorAb
import Derived.Test.YtbbocgeapofloaiGreatDoorAa
set_option linter.unusedVariables false
set_option linter.unusedSimpArgs false
namespace Go.Proofs.YtbbocgeapofloaiGreatDoor
open Go.RowKit

/-- The table of the references that have a name, as it lies in memory. -/
def tab : Array Value := #[.string ⟨#[38, 108, 116, 59]⟩, .int .i32 60, .string ⟨#[38, 103, 116, 59]⟩, .int .i32 62, .string ⟨#[38, 97, 109, 112, 59]⟩, .int .i32 38, .string ⟨#[38, 113, 117, 111, 116, 59]⟩, .int .i32 34, .string ⟨#[38, 97, 112, 111, 115, 59]⟩, .int .i32 39]

def Tab (w : World) : Prop := ∃ t fr, w.heap[2]? = some (.cells tab t fr)

def nm : Nat → List UInt8
  | 0 => [38, 108, 116, 59]
  | 1 => [38, 103, 116, 59]
  | 2 => [38, 97, 109, 112, 59]
  | 3 => [38, 113, 117, 111, 116, 59]
  | _ => [38, 97, 112, 111, 115, 59]

theorem idx0 (w : World) : (Instr.index 148 (.agg tab) (.int .i64 0)).run Tryz.prog w = .ok (.agg #[.string ⟨#[38, 108, 116, 59]⟩, .int .i32 60]) w := by kernel_rfl
theorem idx1 (w : World) : (Instr.index 148 (.agg tab) (.int .i64 1)).run Tryz.prog w = .ok (.agg #[.string ⟨#[38, 103, 116, 59]⟩, .int .i32 62]) w := by kernel_rfl
theorem idx2 (w : World) : (Instr.index 148 (.agg tab) (.int .i64 2)).run Tryz.prog w = .ok (.agg #[.string ⟨#[38, 97, 109, 112, 59]⟩, .int .i32 38]) w := by kernel_rfl
theorem idx3 (w : World) : (Instr.index 148 (.agg tab) (.int .i64 3)).run Tryz.prog w = .ok (.agg #[.string ⟨#[38, 113, 117, 111, 116, 59]⟩, .int .i32 34]) w := by kernel_rfl
theorem idx4 (w : World) : (Instr.index 148 (.agg tab) (.int .i64 4)).run Tryz.prog w = .ok (.agg #[.string ⟨#[38, 97, 112, 111, 115, 59]⟩, .int .i32 39]) w := by kernel_rfl

theorem hasPrefix_zero (u : ByteArray) (l : List UInt8) : Lib.hasPrefix u.data.toList l = Ch.has u 0 l := by
  rw [Lib.hasPrefix, ← Ch.prefix_has u l 0]; rfl

theorem below_drews {B : Nat} {a w : World} (h : Below B a w) (n : Nat) : Below B a (w.drewN n) := h.trans ⟨rfl, rfl, rfl, Nat.le_refl _, fun _ _ => rfl⟩

theorem no_step {u : ByteArray} {m : Nat} (h : Hid (∀ j, j < m → Ch.has u 0 (nm j) = false)) (hb : Ch.has u 0 (nm m) = false) : ∀ j, j < m + 1 → Ch.has u 0 (nm j) = false := by
  intro j hj
  by_cases e : j = m
  · rw [e]; exact hb
  · exact h.out j (by omega)

theorem cutPrefix_any (u : ByteArray) (a : Array UInt8) (w : World) (b : Bool) (h : Ch.has u 0 a.toList = b) :
    Calls Tryz.prog 101 #[.string u, .string ⟨a⟩] w fun e w' => e = .returned (.tuple #[.string (if b = true then Ch.tail u a.toList.length else u), .bool b]) ∧ w' = w := by
  refine (Tryz.strings_CutPrefix u ⟨a⟩ w).mono ?_
  rintro e w' ⟨rfl, rfl⟩
  have hp := hasPrefix_zero u a.toList
  rw [h] at hp
  refine ⟨?_, rfl⟩
  cases b
  · simp [Lib.trimPrefix, hp]
  · simp [Lib.trimPrefix, hp, Ch.tail]

theorem cut_yes (u : ByteArray) (a : Array UInt8) (w : World) (h : Ch.has u 0 a.toList = true) :
    Calls Tryz.prog 101 #[.string u, .string ⟨a⟩] w fun e w' => e = .returned (.tuple #[.string (Ch.tail u a.toList.length), .bool true]) ∧ w' = w :=
  cutPrefix_any u a w true h
theorem cut_no (u : ByteArray) (a : Array UInt8) (w : World) (h : Ch.has u 0 a.toList = false) :
    Calls Tryz.prog 101 #[.string u, .string ⟨a⟩] w fun e w' => e = .returned (.tuple #[.string u, .bool false]) ∧ w' = w :=
  cutPrefix_any u a w false h

theorem numC_at (u : ByteArray) (k : Nat) (b ahead : Int) : numC (Ch.tail u k) b ahead = if (Ch.numAt u k b).2 = 0 then (0, 0) else ((Ch.numAt u k b).1, ahead + (Ch.numAt u k b).2) := by
  unfold numC
  rw [← Ch.numAt_zero, Ch.numAt_tail, Nat.add_zero]

theorem ref_hex {u : ByteArray} (h : ∀ j, j < 5 → Ch.has u 0 (nm j) = false) (hb : Ch.has u 0 [38, 35, 120] = true) : Ch.refAt u 0 = numC (Ch.tail u 3) 16 3 := by
  have h0 := h 0 (by omega); have h1 := h 1 (by omega); have h2 := h 2 (by omega); have h3 := h 3 (by omega); have h4 := h 4 (by omega)
  simp only [nm] at h0 h1 h2 h3 h4
  rw [numC_at]
  simp [Ch.refAt, h0, h1, h2, h3, h4, hb]
theorem ref_dec {u : ByteArray} (h : ∀ j, j < 5 → Ch.has u 0 (nm j) = false) (hb : Ch.has u 0 [38, 35, 120] = false) (hc : Ch.has u 0 [38, 35] = true) : Ch.refAt u 0 = numC (Ch.tail u 2) 10 2 := by
  have h0 := h 0 (by omega); have h1 := h 1 (by omega); have h2 := h 2 (by omega); have h3 := h 3 (by omega); have h4 := h 4 (by omega)
  simp only [nm] at h0 h1 h2 h3 h4
  rw [numC_at]
  simp [Ch.refAt, h0, h1, h2, h3, h4, hb, hc]
theorem ref_none {u : ByteArray} (h : ∀ j, j < 5 → Ch.has u 0 (nm j) = false) (hb : Ch.has u 0 [38, 35, 120] = false) (hc : Ch.has u 0 [38, 35] = false) : Ch.refAt u 0 = (0, 0) := by
  have h0 := h 0 (by omega); have h1 := h 1 (by omega); have h2 := h 2 (by omega); have h3 := h 3 (by omega); have h4 := h 4 (by omega)
  simp only [nm] at h0 h1 h2 h3 h4
  simp [Ch.refAt, h0, h1, h2, h3, h4, hb, hc]
def nmOf : Nat → Int × Int
  | 0 => (60, 4)
  | 1 => (62, 4)
  | 2 => (38, 5)
  | 3 => (34, 6)
  | _ => (39, 6)
theorem ref_named {u : ByteArray} {m : Nat} (hm : m < 5) (h : ∀ j, j < m → Ch.has u 0 (nm j) = false) (hb : Ch.has u 0 (nm m) = true) : Ch.refAt u 0 = nmOf m := by
  have hcs : m = 0 ∨ m = 1 ∨ m = 2 ∨ m = 3 ∨ m = 4 := by omega
  rcases hcs with rfl | rfl | rfl | rfl | rfl
  · simp only [nm] at hb
    simp [Ch.refAt, hb, nmOf]
  · have h0 := h 0 (by omega)
    simp only [nm] at hb h0
    simp [Ch.refAt, hb, nmOf, h0]
  · have h0 := h 0 (by omega); have h1 := h 1 (by omega)
    simp only [nm] at hb h0 h1
    simp [Ch.refAt, hb, nmOf, h0, h1]
  · have h0 := h 0 (by omega); have h1 := h 1 (by omega); have h2 := h 2 (by omega)
    simp only [nm] at hb h0 h1 h2
    simp [Ch.refAt, hb, nmOf, h0, h1, h2]
  · have h0 := h 0 (by omega); have h1 := h 1 (by omega); have h2 := h 2 (by omega); have h3 := h 3 (by omega)
    simp only [nm] at hb h0 h1 h2 h3
    simp [Ch.refAt, hb, nmOf, h0, h1, h2, h3]

set_option maxHeartbeats 4000000 in
set_option maxRecDepth 1000000 in
theorem reference_any (u : ByteArray) (w : World) (hu : u.size ≤ 1125899906842624) (hT : Tab w) :
    Calls Tryz.prog 80 #[.string u] w fun e w' => e = .returned (.tuple #[.int .i32 (Ch.refAt u 0).1, .int .i64 (Ch.refAt u 0).2]) ∧ Below w.heap.size w w' := by
  obtain ⟨tt, fr, hg⟩ := hT
  go_enter Tryz.func80, Tryz.ntmps80
  go_wp2_with (refine wpList_load_row rfl 148 _ rfl 2 rfl tt _ fr _ hg Tryz.underlying148 rfl (by kernel_rfl) ?_)
  go_loopw [11] (fun k wr => ∃ m : Nat, m ≤ 5 ∧ k = .int .i64 m ∧ Below w.heap.size w wr ∧ Hid (∀ j, j < m → Ch.has u 0 (nm j) = false)) (fun k _ => 5 - (intOf k).toNat)
  case atStart => exact ⟨0, by omega, rfl, Below.refl _ _, fun j h => by omega⟩
  case round =>
    obtain ⟨m, hm, rfl, hbw, HNO⟩ := hrel
    have hcs : m = 0 ∨ m = 1 ∨ m = 2 ∨ m = 3 ∨ m = 4 ∨ m = 5 := by omega
    rcases hcs with rfl | rfl | rfl | rfl | rfl | rfl
    rotate_right
    · cases hb : Ch.has u 0 [38, 35, 120]
      · cases hc : Ch.has u 0 [38, 35]
        · have HR := hide (ref_none HNO.out hb hc)
          go_wp2_with (first | (go_at_call_of 101 (Value.string { data := #[38, 35, 120] }); refine (cut_no u #[38, 35, 120] _ hb).mono ?_; rintro e w' ⟨rfl, rfl⟩) | (go_at_call 101; refine (cut_no u #[38, 35] _ hc).mono ?_; rintro e w' ⟨rfl, rfl⟩))
          go_ret2
          refine ⟨?_, hbw⟩
          rw [HR.out]; rfl
        · have HR := hide (ref_dec HNO.out hb hc)
          have hts : (Ch.tail u 2).size ≤ 1125899906842624 := by rw [Ch.tail_size]; omega
          go_wp2_with (first | (go_at_call_of 101 (Value.string { data := #[38, 35, 120] }); refine (cut_no u #[38, 35, 120] _ hb).mono ?_; rintro e w' ⟨rfl, rfl⟩) | (go_at_call 101; refine (cut_yes u #[38, 35] _ hc).mono ?_; rintro e w' ⟨rfl, rfl⟩) | (go_at_call 102; refine (numbered_any (Ch.tail u 2) 10 2 _ hts (Or.inl rfl) (by decide) (by decide)).mono ?_; rintro e w1 ⟨rfl, hb1⟩))
          go_ret2
          refine ⟨?_, hbw.trans (hb1.mono hbw.size)⟩
          rw [HR.out]; rfl
      · have HR := hide (ref_hex HNO.out hb)
        have hts : (Ch.tail u 3).size ≤ 1125899906842624 := by rw [Ch.tail_size]; omega
        go_wp2_with (first | (go_at_call_of 101 (Value.string { data := #[38, 35, 120] }); refine (cut_yes u #[38, 35, 120] _ hb).mono ?_; rintro e w' ⟨rfl, rfl⟩) | (go_at_call 102; refine (numbered_any (Ch.tail u 3) 16 3 _ hts (Or.inr rfl) (by decide) (by decide)).mono ?_; rintro e w1 ⟨rfl, hb1⟩))
        go_ret2
        refine ⟨?_, hbw.trans (hb1.mono hbw.size)⟩
        rw [HR.out]; rfl
    · have hi := idx0
      have hpf := hasPrefix_zero u [38, 108, 116, 59]
      cases hb : Ch.has u 0 [38, 108, 116, 59]
      · rw [hb] at hpf
        go_wp2_with (go_at_call 99; refine (Tryz.strings_HasPrefix _ _ _).mono ?_; rintro e w' ⟨rfl, rfl⟩)
        exact ⟨⟨1, by omega, rfl, hbw.alloc hbw.size _, no_step HNO hb⟩, by decide⟩
      · rw [hb] at hpf
        have HR := hide (ref_named (m := 0) (by omega) HNO.out hb)
        go_wp2_with (go_at_call 99; refine (Tryz.strings_HasPrefix _ _ _).mono ?_; rintro e w' ⟨rfl, rfl⟩)
        go_quiet (fail)
        go_wp2
        go_ret2
        refine ⟨?_, below_drews (hbw.alloc hbw.size _) _⟩
        rw [HR.out]; rfl
    · have hi := idx1
      have hpf := hasPrefix_zero u [38, 103, 116, 59]
      cases hb : Ch.has u 0 [38, 103, 116, 59]
      · rw [hb] at hpf
        go_wp2_with (go_at_call 99; refine (Tryz.strings_HasPrefix _ _ _).mono ?_; rintro e w' ⟨rfl, rfl⟩)
        exact ⟨⟨2, by omega, rfl, hbw.alloc hbw.size _, no_step HNO hb⟩, by decide⟩
      · rw [hb] at hpf
        have HR := hide (ref_named (m := 1) (by omega) HNO.out hb)
        go_wp2_with (go_at_call 99; refine (Tryz.strings_HasPrefix _ _ _).mono ?_; rintro e w' ⟨rfl, rfl⟩)
        go_quiet (fail)
        go_wp2
        go_ret2
        refine ⟨?_, below_drews (hbw.alloc hbw.size _) _⟩
        rw [HR.out]; rfl
    · have hi := idx2
      have hpf := hasPrefix_zero u [38, 97, 109, 112, 59]
      cases hb : Ch.has u 0 [38, 97, 109, 112, 59]
      · rw [hb] at hpf
        go_wp2_with (go_at_call 99; refine (Tryz.strings_HasPrefix _ _ _).mono ?_; rintro e w' ⟨rfl, rfl⟩)
        exact ⟨⟨3, by omega, rfl, hbw.alloc hbw.size _, no_step HNO hb⟩, by decide⟩
      · rw [hb] at hpf
        have HR := hide (ref_named (m := 2) (by omega) HNO.out hb)
        go_wp2_with (go_at_call 99; refine (Tryz.strings_HasPrefix _ _ _).mono ?_; rintro e w' ⟨rfl, rfl⟩)
        go_quiet (fail)
        go_wp2
        go_ret2
        refine ⟨?_, below_drews (hbw.alloc hbw.size _) _⟩
        rw [HR.out]; rfl
    · have hi := idx3
      have hpf := hasPrefix_zero u [38, 113, 117, 111, 116, 59]
      cases hb : Ch.has u 0 [38, 113, 117, 111, 116, 59]
      · rw [hb] at hpf
        go_wp2_with (go_at_call 99; refine (Tryz.strings_HasPrefix _ _ _).mono ?_; rintro e w' ⟨rfl, rfl⟩)
        exact ⟨⟨4, by omega, rfl, hbw.alloc hbw.size _, no_step HNO hb⟩, by decide⟩
      · rw [hb] at hpf
        have HR := hide (ref_named (m := 3) (by omega) HNO.out hb)
        go_wp2_with (go_at_call 99; refine (Tryz.strings_HasPrefix _ _ _).mono ?_; rintro e w' ⟨rfl, rfl⟩)
        go_quiet (fail)
        go_wp2
        go_ret2
        refine ⟨?_, below_drews (hbw.alloc hbw.size _) _⟩
        rw [HR.out]; rfl
    · have hi := idx4
      have hpf := hasPrefix_zero u [38, 97, 112, 111, 115, 59]
      cases hb : Ch.has u 0 [38, 97, 112, 111, 115, 59]
      · rw [hb] at hpf
        go_wp2_with (go_at_call 99; refine (Tryz.strings_HasPrefix _ _ _).mono ?_; rintro e w' ⟨rfl, rfl⟩)
        exact ⟨⟨5, by omega, rfl, hbw.alloc hbw.size _, no_step HNO hb⟩, by decide⟩
      · rw [hb] at hpf
        have HR := hide (ref_named (m := 4) (by omega) HNO.out hb)
        go_wp2_with (go_at_call 99; refine (Tryz.strings_HasPrefix _ _ _).mono ?_; rintro e w' ⟨rfl, rfl⟩)
        go_quiet (fail)
        go_wp2
        go_ret2
        refine ⟨?_, below_drews (hbw.alloc hbw.size _) _⟩
        rw [HR.out]; rfl
end Go.Proofs.YtbbocgeapofloaiGreatDoor
namespace Go.Proofs.YtbbocgeapofloaiGreatDoor
open Go.RowKit

theorem builder_below {T e : TypeId} {B b : Nat} {bs : List Value} {w w1 : World} (h : Lib.IsBuilderF T e B b bs w) (hb : Below w.heap.size w w1) : Lib.IsBuilderF T e B b bs w1 := by
  have keep : ∀ (k : Nat) (o : Obj), w.heap[k]? = some o → w1.heap[k]? = some o := by
    intro k o hk
    have hlt : k < w.heap.size := (Array.getElem?_eq_some_iff.1 hk).1
    rw [hb.block k hlt]; exact hk
  have one : ∀ p, Lib.BuilderAtF T e B b p bs w → Lib.BuilderAtF T e B b p bs w1 := by
    rintro p ⟨hB, v, hbk, ⟨hl, hown⟩, hne⟩
    refine ⟨hB, v, keep _ _ hbk, ⟨hl, ?_⟩, hne⟩
    rcases hown with hn | ⟨g, cap, cur, fz, hv, hbg, hg, rest⟩
    · exact Or.inl hn
    · exact Or.inr ⟨g, cap, cur, fz, hv, hbg, keep _ _ hg, rest⟩
  exact h.elim (fun x => Or.inl (one _ x)) (fun x => Or.inr (one _ x))

theorem heap_below {w w1 : World} {k : Nat} {o : Obj} (hb : Below w.heap.size w w1) (hk : w.heap[k]? = some o) : w1.heap[k]? = some o := by
  have hlt : k < w.heap.size := (Array.getElem?_eq_some_iff.1 hk).1
  rw [hb.block k hlt]; exact hk

theorem tab_below {w w1 : World} {B : Nat} (hT : Tab w) (hB : 2 < B) (hb : Below B w w1) : Tab w1 := by
  obtain ⟨t, fr, hg⟩ := hT
  exact ⟨t, fr, by rw [hb.block 2 hB]; exact hg⟩
theorem tab_size {w : World} (hT : Tab w) : 2 < w.heap.size := by
  obtain ⟨t, fr, hg⟩ := hT
  exact (Array.getElem?_eq_some_iff.1 hg).1

theorem decode_amp {s : ByteArray} {pos : Nat} (hp : pos < s.size) : (Ch.bz s pos = 38 ∧ Utf8.decode s pos = (38, 1)) ∨ (¬ Ch.bz s pos = 38 ∧ (((Utf8.decode s pos).1 : Int) == 38) = false) := by
  rcases Ch.decode_byte s pos hp with ⟨h0, h1, hd⟩ | ⟨h0, h1⟩
  · by_cases e : Ch.bz s pos = 38
    · exact Or.inl ⟨e, by rw [hd, e]; rfl⟩
    · refine Or.inr ⟨e, ?_⟩
      rw [hd, beq_eq_false_iff_ne]
      simp only
      omega
  · refine Or.inr ⟨by omega, ?_⟩
    rw [beq_eq_false_iff_ne]
    omega

theorem reference_at (s : ByteArray) (pos : Nat) (w : World) (hs : s.size ≤ 1125899906842624) (hT : Tab w) :
    Calls Tryz.prog 80 #[.string (s.extract pos s.size)] w fun e w' => e = .returned (.tuple #[.int .i32 (Ch.refAt s pos).1, .int .i64 (Ch.refAt s pos).2]) ∧ Below w.heap.size w w' := by
  rw [Ch.tail_extract, ← Ch.refAt_tail]
  exact reference_any (Ch.tail s pos) w (by rw [Ch.tail_size]; omega) hT

set_option maxHeartbeats 4000000 in
set_option maxRecDepth 1000000 in
theorem unescape_any (s : ByteArray) (w : World) (hs : s.size ≤ 140737488351232) (hT : Tab w) :
    Calls Tryz.prog 49 #[.string s] w fun e w' => e = .returned (.tuple #[.string ⟨(Ch.unesc s).1.toArray⟩, .int .i64 (Ch.unesc s).2.1, .int .i64 (Ch.unesc s).2.2]) ∧ Below w.heap.size w w' := by
  have hs2 : s.size ≤ 1125899906842624 := by omega
  have hB0 := tab_size hT
  go_enter Tryz.func49, Tryz.ntmps49
  go_wp2
  go_loopw [6] (fun bh wr => ∃ (pos behind at' fuel : Nat) (acc : List UInt8), bh = .int .i64 behind ∧ Lib.IsBuilderF 123 5 w.heap.size w.heap.size (Lib.byteCells acc) wr ∧ wr.heap[w.heap.size + 1]? = some (.stringIter s pos) ∧ Below w.heap.size w wr ∧ Hid (Ch.unescFrom s fuel at' acc = Ch.unesc s) ∧ s.size < at' + fuel ∧ pos ≤ at' ∧ behind ≤ at' ∧ at' ≤ s.size ∧ Hid (at' = pos ∨ at' = behind) ∧ Hid (∀ j, pos ≤ j → j < behind → 0 ≤ Ch.bz s j ∧ Ch.bz s j < 128) ∧ acc.length ≤ at') (fun _ wr => s.size - wr.iterPos (w.heap.size + 1))
  case atStart =>
    refine ⟨0, 0, 0, s.size + 1, [], rfl, (Lib.IsBuilderF.of (Lib.fresh_isBuilder 123 5 w)).alloc _, ?_, ((Below.refl _ w).alloc (Nat.le_refl _) _).alloc (by simp) _, rfl, by omega, by omega, by omega, by omega, Or.inl rfl, fun j h1 h2 => by omega, by simp⟩
    have := World.iter_heap (w.alloc (.cells #[.pointer none, .slice none 0 0] 123)) s 0
    simpa using this
  case round =>
    obtain ⟨pos, behind, at', fuel, acc, rfl, hI, hit, hbw, HC, hf, hp1, hp2, hp3, HD, HA, hal⟩ := hrel
    have hsz : w.heap.size + 1 < wr.heap.size := (Array.getElem?_eq_some_iff.1 hit).1
    by_cases hp : pos < s.size
    · have hnx0 : ∀ ty, (Instr.next (.pointer (some ⟨w.heap.size + 1, 0, none⟩)) true ty).run Tryz.prog wr = _ := fun ty => Lib.run_next_any_at wr (w.heap.size + 1) s pos ty hit hp
      have hd1 := decode_le s pos
      have hI2 := fun q => hI.iterAt hit q
      have hit2 := fun q => Lib.iterAt_heap wr (w.heap.size + 1) s pos q hit
      have hbw2 := fun q => Lib.below_iterAt hbw (k := w.heap.size + 1) (by omega) s q
      have hsz2 : ∀ q, w.heap.size ≤ (wr.iterAt (w.heap.size + 1) s q).heap.size := fun q => by rw [Lib.iterAt_size]; omega
      by_cases hlt : pos < behind
      · obtain ⟨b0, b1⟩ := HA.out pos (Nat.le_refl _) hlt
        have hdec := Ch.decode_one b0 b1
        rw [hdec] at hnx0
        have hnx : ∀ ty, (Instr.next (.pointer (some ⟨w.heap.size + 1, 0, none⟩)) true ty).run Tryz.prog wr = .ok (.tuple #[.bool true, .int .i64 pos, .int .i32 (Ch.bz s pos).toNat]) (wr.iterAt (w.heap.size + 1) s (pos + 1)) := hnx0
        clear hnx0 hdec
        go_wp2
        go_roundw
        case rel => exact ⟨pos + 1, behind, at', fuel, acc, rfl, hI2 _, hit2 _, hbw2 _, HC, hf, by omega, hp2, hp3, Or.inr (by rcases HD.out with h | h <;> omega), fun j h1 h2 => HA.out j (by omega) h2, hal⟩
        case measure =>
          simp only [World.iterPos, hit2, hit]
          omega
      · obtain rfl : pos = at' := by rcases HD.out with h | h <;> omega
        obtain ⟨f, rfl⟩ : ∃ f, fuel = f + 1 := ⟨fuel - 1, by omega⟩
        have hwd := Ch.decode_width s pos hp
        have hch := Ch.chAt_decode s pos hp
        cases hok : Ch.okAt s pos
        · rw [hok] at hch
          have HN := hide (Ch.unesc_char hp hok HC.out)
          go_wp2_with (go_at_call 79; refine (characterAt_any _ _ _ _ hs2 hp3).mono ?_; rintro e w' ⟨rfl, rfl⟩)
          go_ret3
          refine ⟨?_, hbw2 _⟩
          rw [HN.out]; rfl
        · rw [hok] at hch
          rcases decode_amp hp with ⟨h38, hdec⟩ | ⟨h38, hq⟩
          · have HB38 := hide h38
            clear h38
            rw [hdec] at hnx0 hch
            have hnx : ∀ ty, (Instr.next (.pointer (some ⟨w.heap.size + 1, 0, none⟩)) true ty).run Tryz.prog wr = .ok (.tuple #[.bool true, .int .i64 pos, .int .i32 38]) (wr.iterAt (w.heap.size + 1) s (pos + 1)) := hnx0
            clear hnx0 hdec
            have hch2 : Ch.chAt s pos 38 = true := hch
            have hT0 : Tab (wr.iterAt (w.heap.size + 1) s (pos + 1)) := tab_below hT hB0 (hbw2 _)
            by_cases hr : (Ch.refAt s pos).2 = 0
            · have HN := hide (Ch.unesc_noref hp hok HB38.out hr HC.out)
              go_wp2_with (first | (go_at_call 79; refine (characterAt_any _ _ _ _ hs2 hp3).mono ?_; rintro e w' ⟨rfl, rfl⟩) | (go_at_call 80; refine (reference_at s pos _ hs2 hT0).mono ?_; rintro e w1 ⟨rfl, hb1⟩))
              go_ret3
              refine ⟨?_, (hbw2 _).trans (hb1.mono (hsz2 _))⟩
              rw [HN.out]; rfl
            · have HN := hide (Ch.unesc_ref hp hok HB38.out hr HC.out)
              obtain ⟨r1, r2, r3, r4⟩ := Ch.refAt_spec hr
              have hrm := (Ch.may_iff _).1 r1
              have hrz : ((Ch.refAt s pos).2 == 0) = false := by rw [beq_eq_false_iff_ne]; exact hr
              have HR4 := hide r4
              have hel := Ch.encode_le (Ch.refAt s pos).1
              clear r4 hr r1
              obtain ⟨n, hn⟩ : ∃ n : Nat, (Ch.refAt s pos).2 = n := ⟨(Ch.refAt s pos).2.toNat, by omega⟩
              have HNN := hide hn
              rw [hn] at r2 r3 hrz
              clear hn
              go_wp2_with (first | (go_at_call 79; refine (characterAt_any _ _ _ _ hs2 hp3).mono ?_; rintro e w' ⟨rfl, rfl⟩) | (go_at_call 80; refine (reference_at s pos _ hs2 hT0).mono ?_; rintro e w1 ⟨rfl, hb1⟩; rw [HNN.out]))
              have hI3 := builder_below (hI2 (pos + 1)) hb1
              have hit3 := heap_below hb1 (hit2 (pos + 1))
              have hs3 : w.heap.size ≤ w1.heap.size := Nat.le_trans (hsz2 (pos + 1)) hb1.size
              have hbw3 : Below w.heap.size w w1 := (hbw2 (pos + 1)).trans (hb1.mono (hsz2 _))
              refine (writeRune_k w.heap.size w.heap.size _ _ (by omega) (by omega) _ hI3 (by rw [Lib.byteCells_length]; omega) hs3).mono ?_
              rintro e W1 ⟨rfl, h1, b1, k1⟩
              go_wp2
              refine ⟨⟨pos + 1, pos + n, pos + n, f, acc ++ Lib.encodeRune (Ch.refAt s pos).1, by go_num, ?_, k1.iter hit3 (by omega), hbw3.trans b1, ?_, by omega, by omega, by omega, by omega, Or.inr rfl, ?_, by simp; omega⟩, ?_⟩
              · rw [Lib.byteCells_append, Lib.byteCells_encodeRune]; exact Or.inr h1
              · have := HN.out
                rw [HNN.out, Int.toNat_natCast] at this
                exact this
              · intro j j1 j2
                exact HR4.out j (by omega) (by rw [HNN.out]; omega)
              · simp only [World.iterPos, k1.iter hit3 (by omega), hit]
                omega
          · have HN := hide (Ch.unesc_on hp hok h38 HC.out)
            have hew := Ch.encode_width hp hok
            clear h38
            have hnx := hnx0
            clear hnx0
            go_wp2_with (first | (go_at_call 79; refine (characterAt_any _ _ _ _ hs2 hp3).mono ?_; rintro e w' ⟨rfl, rfl⟩) | (go_at_call 81; refine (writeRune_k w.heap.size w.heap.size _ _ (by omega) (by omega) _ (hI2 _) (by rw [Lib.byteCells_length]; omega) (hsz2 _)).mono ?_; rintro e W1 ⟨rfl, h1, b1, k1⟩))
            refine ⟨⟨pos + (Utf8.decode s pos).2, behind, pos + (Utf8.decode s pos).2, f, acc ++ Lib.encodeRune (Utf8.decode s pos).1, rfl, ?_, k1.iter (hit2 _) (by omega), (hbw2 _).trans b1, HN, by omega, by omega, by omega, by omega, Or.inl rfl, fun j h1 h2 => by omega, by simp; omega⟩, ?_⟩
            · rw [Lib.byteCells_append, Lib.byteCells_encodeRune]; exact Or.inr h1
            · simp only [World.iterPos, k1.iter (hit2 _) (by omega), hit]
              omega
    · obtain rfl : pos = at' := by rcases HD.out with h | h <;> omega
      obtain ⟨f, rfl⟩ : ∃ f, fuel = f + 1 := ⟨fuel - 1, by omega⟩
      have hnx : ∀ ty, (Instr.next (.pointer (some ⟨w.heap.size + 1, 0, none⟩)) true ty).run Tryz.prog wr = _ := fun ty => Lib.run_next_end_at wr (w.heap.size + 1) s pos ty hit hp
      have HN := hide (Ch.unesc_end hp HC.out)
      go_wp2_with (go_at_call 82; refine (Tryz.Builder_String_any_k w.heap.size w.heap.size acc _ hI (by omega)).mono ?_; rintro e W1 ⟨rfl, _, b1, _⟩)
      go_ret3
      refine ⟨?_, hbw.trans b1⟩
      rw [HN.out]; rfl
end Go.Proofs.YtbbocgeapofloaiGreatDoor
namespace Go.Proofs.YtbbocgeapofloaiGreatDoor
open Go.RowKit

theorem extract_bytes (s : ByteArray) (a b : Nat) : (s.extract a b).data.toList = Ch.bytes s a (b - a) := by
  simp [Ch.bytes, List.take_drop]
theorem bytes_length (s : ByteArray) (a n : Nat) : (Ch.bytes s a n).length ≤ n := by
  simp [Ch.bytes]; omega
theorem extract_size (s : ByteArray) (a b : Nat) : (s.extract a b).size ≤ b - a := by
  simp; omega
theorem strCells_bytes (s : ByteArray) : Lib.strCells s = Lib.byteCells s.data.toList := rfl

end Go.Proofs.YtbbocgeapofloaiGreatDoor
namespace Go.Proofs.YtbbocgeapofloaiGreatDoor
open Go.RowKit

theorem below_on {w a b : World} (h : Below w.heap.size w a) (k : Below a.heap.size a b) : Below w.heap.size w b := h.trans (k.mono h.size)

theorem has_take (s : ByteArray) (i : Nat) (l : List UInt8) : (Ch.bytes s i l.length == l) = Ch.has s i l := by
  rw [← Ch.prefix_has, Bool.eq_iff_iff, beq_iff_eq, List.isPrefixOf_iff_prefix, List.prefix_iff_eq_take]
  unfold Ch.bytes
  exact eq_comm

set_option maxHeartbeats 4000000 in
set_option maxRecDepth 100000 in
theorem is_any (s : ByteArray) (i : Nat) (a : Array UInt8) (w : World) (hs : s.size ≤ 1125899906842624) (_hi : i ≤ s.size) (ha0 : 0 < a.size) (ha : a.size ≤ 16) :
    Calls Tryz.prog 62 #[.string s, .int .i64 i, .string ⟨a⟩] w fun e w' => e = .returned (.bool (Ch.has s i a.toList)) ∧ w' = w := by
  have hsz : (⟨a⟩ : ByteArray).size = a.size := rfl
  by_cases h : i + a.size ≤ s.size
  · go_enter Tryz.func62, Tryz.ntmps62
    go_wp2
    go_ret
    refine ⟨ret_bool ?_, rfl⟩
    rw [← has_take, Go.ByteArray.toList_eq, Go.ByteArray.toList_eq, extract_bytes, show i + a.size - i = a.toList.length by simp]
  · have hf : Ch.has s i a.toList = false := by
      cases e : Ch.has s i a.toList
      · rfl
      · have := Ch.has_size e (by simpa using ha0)
        simp at this
        omega
    have HF := hide hf
    clear hf
    go_enter Tryz.func62, Tryz.ntmps62
    go_wp2
    go_ret
    exact ⟨ret_bool HF.out.symm, rfl⟩

theorem Below_new (w : World) (o : Obj) : (w.alloc o).heap[w.heap.size]? = some o := heap_alloc_new w o

theorem conv_new (w : World) (xs : List Int) (n : Nat) (hn : xs.length = n) :
    (convert 53 9 (.slice (some ⟨w.heap.size, 0, none⟩) n n)).run Tryz.prog (w.alloc (.cells (xs.map (Value.int .u8)).toArray 5)) = .ok (.string (strOfNums xs)) (w.alloc (.cells (xs.map (Value.int .u8)).toArray 5)) := by
  refine run_convert_bytes_arg _ 53 5 Tryz.underlying53 Tryz.underlying5 w.heap.size 0 n n xs hn ?_ 9 Tryz.underlying9
  intro i hi
  have hlt : i < xs.length := by omega
  rw [Lib.cell_of_heap (Below_new w _)]
  simp [hlt]

theorem encode_nums {r : Int} {xs : List Int} (h : Lib.encodeRuneZ r = xs) : strOfNums xs = ⟨(Lib.encodeRune r).toArray⟩ := by
  subst h; rfl

set_option maxHeartbeats 4000000 in
set_option maxRecDepth 100000 in
theorem write1 (r : Int) (w : World) (h0 : 0 ≤ r) (h1 : r < 128) :
    Calls Tryz.prog 64 #[.int .i64 r] w fun e w' => e = .returned (.string ⟨(Lib.encodeRune r).toArray⟩) ∧ Below w.heap.size w w' := by
  have hcv := conv_new w [r] 1 rfl
  rw [encode_nums (Lib.encodeRuneZ_one h0 (by omega))] at hcv
  have hcv' : (convert 53 9 (.slice (some ⟨w.heap.size, 0, none⟩) 1 1)).run Tryz.prog (w.alloc (.cells #[.int .u8 r] 5)) = _ := hcv
  clear hcv
  go_enter Tryz.func64, Tryz.ntmps64
  go_wp2
  go_ret
  exact ⟨rfl, (Below.refl _ w).alloc (Nat.le_refl _) _⟩

set_option maxHeartbeats 4000000 in
set_option maxRecDepth 100000 in
theorem write2 (r : Int) (w : World) (h0 : 128 ≤ r) (h1 : r < 2048) :
    Calls Tryz.prog 64 #[.int .i64 r] w fun e w' => e = .returned (.string ⟨(Lib.encodeRune r).toArray⟩) ∧ Below w.heap.size w w' := by
  have hcv := conv_new w [192 + r / 64, 128 + r % 64] 2 rfl
  rw [encode_nums (Lib.encodeRuneZ_two h0 (by omega))] at hcv
  have hcv' : (convert 53 9 (.slice (some ⟨w.heap.size, 0, none⟩) 2 2)).run Tryz.prog (w.alloc (.cells #[.int .u8 (192 + r / 64), .int .u8 (128 + r % 64)] 5)) = _ := hcv
  clear hcv
  go_enter Tryz.func64, Tryz.ntmps64
  go_wp2
  go_ret
  exact ⟨rfl, (Below.refl _ w).alloc (Nat.le_refl _) _⟩

set_option maxHeartbeats 4000000 in
set_option maxRecDepth 100000 in
theorem write3 (r : Int) (w : World) (h0 : 2048 ≤ r) (h1 : r < 55296) :
    Calls Tryz.prog 64 #[.int .i64 r] w fun e w' => e = .returned (.string ⟨(Lib.encodeRune r).toArray⟩) ∧ Below w.heap.size w w' := by
  have hcv := conv_new w [224 + r / 4096, 128 + r / 64 % 64, 128 + r % 64] 3 rfl
  rw [encode_nums (Lib.encodeRuneZ_three (by omega))] at hcv
  have hcv' : (convert 53 9 (.slice (some ⟨w.heap.size, 0, none⟩) 3 3)).run Tryz.prog (w.alloc (.cells #[.int .u8 (224 + r / 4096), .int .u8 (128 + r / 64 % 64), .int .u8 (128 + r % 64)] 5)) = _ := hcv
  clear hcv
  go_enter Tryz.func64, Tryz.ntmps64
  go_wp2
  go_ret
  exact ⟨rfl, (Below.refl _ w).alloc (Nat.le_refl _) _⟩

set_option maxHeartbeats 4000000 in
set_option maxRecDepth 100000 in
theorem write4 (r : Int) (w : World) (h0 : 57344 ≤ r) (h1 : r < 65536) :
    Calls Tryz.prog 64 #[.int .i64 r] w fun e w' => e = .returned (.string ⟨(Lib.encodeRune r).toArray⟩) ∧ Below w.heap.size w w' := by
  have hcv := conv_new w [224 + r / 4096, 128 + r / 64 % 64, 128 + r % 64] 3 rfl
  rw [encode_nums (Lib.encodeRuneZ_three (by omega))] at hcv
  have hcv' : (convert 53 9 (.slice (some ⟨w.heap.size, 0, none⟩) 3 3)).run Tryz.prog (w.alloc (.cells #[.int .u8 (224 + r / 4096), .int .u8 (128 + r / 64 % 64), .int .u8 (128 + r % 64)] 5)) = _ := hcv
  clear hcv
  go_enter Tryz.func64, Tryz.ntmps64
  go_wp2
  go_ret
  exact ⟨rfl, (Below.refl _ w).alloc (Nat.le_refl _) _⟩

set_option maxHeartbeats 4000000 in
set_option maxRecDepth 100000 in
theorem write5 (r : Int) (w : World) (h0 : 65536 ≤ r) (h1 : r ≤ 1114111) :
    Calls Tryz.prog 64 #[.int .i64 r] w fun e w' => e = .returned (.string ⟨(Lib.encodeRune r).toArray⟩) ∧ Below w.heap.size w w' := by
  have hcv := conv_new w [240 + r / 262144, 128 + r / 4096 % 64, 128 + r / 64 % 64, 128 + r % 64] 4 rfl
  rw [encode_nums (Lib.encodeRuneZ_four h0 (by omega))] at hcv
  have hcv' : (convert 53 9 (.slice (some ⟨w.heap.size, 0, none⟩) 4 4)).run Tryz.prog (w.alloc (.cells #[.int .u8 (240 + r / 262144), .int .u8 (128 + r / 4096 % 64), .int .u8 (128 + r / 64 % 64), .int .u8 (128 + r % 64)] 5)) = _ := hcv
  clear hcv
  go_enter Tryz.func64, Tryz.ntmps64
  go_wp2
  go_ret
  exact ⟨rfl, (Below.refl _ w).alloc (Nat.le_refl _) _⟩

theorem Write_any (r : Int) (w : World) (hm : Ch.may r = true) :
    Calls Tryz.prog 64 #[.int .i64 r] w fun e w' => e = .returned (.string ⟨(Lib.encodeRune r).toArray⟩) ∧ Below w.heap.size w w' := by
  have h := (Ch.may_iff r).1 hm
  by_cases c1 : r < 128
  · exact write1 r w (by omega) c1
  by_cases c2 : r < 2048
  · exact write2 r w (by omega) c2
  by_cases c3 : r < 55296
  · exact write3 r w (by omega) c3
  by_cases c4 : r < 65536
  · exact write4 r w (by omega) c4
  · exact write5 r w (by omega) (by omega)
end Go.Proofs.YtbbocgeapofloaiGreatDoor
namespace Go.Proofs.YtbbocgeapofloaiGreatDoor
open Go.RowKit

/-- The two counts of a number: one, or both above all characters. -/
def both (c r : Int) : Prop := (c = r ∧ r ≤ 1114111) ∨ (1114111 < c ∧ 1114111 < r)

theorem both_may {c r : Int} (h : both c r) : Ch.may c = Ch.may r := by
  rcases h with ⟨h, _⟩ | ⟨h1, h2⟩
  · rw [h]
  · rw [Ch.may_false (by omega), Ch.may_false (by omega)]
theorem both_of_may {c r : Int} (h : both c r) (hm : Ch.may r = true) : c = r := by
  rcases h with ⟨h, _⟩ | ⟨h1, h2⟩
  · exact h
  · rw [Ch.may_false (by omega)] at hm; cases hm

/-- What the reference's numbered answers. -/
def numR (s : ByteArray) (p : Nat) (b : Int) : Int × Int := if (Ch.numFrom s b (s.size - p + 1) p 0).2 = 0 then (0, -1) else Ch.numFrom s b (s.size - p + 1) p 0

theorem numR_none {s : ByteArray} {p : Nat} {b : Int} (h : Ch.numFrom s b (s.size - p + 1) p 0 = (0, 0)) : numR s p b = (0, -1) := by simp [numR, h]
theorem numR_some {s : ByteArray} {p : Nat} {b n : Int} {q : Nat} (h : Ch.numFrom s b (s.size - p + 1) p 0 = (n, (q : Int) + 1)) : numR s p b = (n, (q : Int) + 1) := by
  have : ¬ ((q : Int) + 1 = 0) := by omega
  simp [numR, h, this]

theorem dig_two (c : Int) : (Ch.dig (-1) c = -1 ∧ Ch.dig 16 c = 16) ∨ (Ch.dig (-1) c = Ch.dig 16 c ∧ 0 ≤ Ch.dig 16 c ∧ Ch.dig 16 c ≤ 15) := by
  unfold Ch.dig
  repeat' split
  all_goals omega

theorem dig_semi : Ch.dig 16 59 = 16 := by decide

theorem both_step10 {c r d : Int} (h : both c r) (_h0 : 0 ≤ r) (d0 : 0 ≤ d) (d1 : d < 10) : both (if c ≤ 1114111 then c * 10 + d else c) (min (r * 10 + d) 2097152) := by
  unfold both at *
  split <;> omega
theorem both_step16 {c r d : Int} (h : both c r) (_h0 : 0 ≤ r) (d0 : 0 ≤ d) (d1 : d < 16) : both (if c ≤ 1114111 then c * 16 + d else c) (min (r * 16 + d) 2097152) := by
  unfold both at *
  split <;> omega

theorem num_zero {s : ByteArray} {b c : Int} {f p : Nat} {X : Int × Int} (h0 : c = 0) (hd : ¬ Ch.dig 16 (Ch.bz s p) < b) (h : Ch.numFrom s b (f + 1) p c = X) : X = (0, 0) := by
  subst h0
  by_cases e : Ch.bz s p = 59
  · have := Ch.num_semi e h
    rw [if_neg (by decide)] at this
    exact this
  · exact Ch.num_no e (by omega) h

set_option maxHeartbeats 4000000 in
set_option maxRecDepth 1000000 in
theorem numberedR10 (s : ByteArray) (p : Nat) (w : World) (hs : s.size ≤ 1125899906842624) (hp : p ≤ s.size) :
    Calls Tryz.prog 63 #[.string s, .int .i64 p, .int .i64 10] w fun e w' => e = .returned (.tuple #[.int .i64 (numR s p 10).1, .int .i64 (numR s p 10).2]) ∧ w' = w := by
  have hm : s.size ≤ maxLen := by unfold maxLen; omega
  go_enter Tryz.func63, Tryz.ntmps63
  go_wp2
  go_loop [1, 9, 10] (fun i n _ => ∃ (pos fuel : Nat) (c r : Int), i = .int .i64 pos ∧ n = .int .i64 r ∧ Hid (both c r) ∧ 0 ≤ r ∧ r ≤ 2097152 ∧ Hid (Ch.numFrom s 10 fuel pos c = Ch.numFrom s 10 (s.size - p + 1) p 0) ∧ s.size < pos + fuel ∧ p ≤ pos ∧ pos ≤ s.size ∧ Hid (pos = p → c = 0)) (fun i _ _ => s.size - (intOf i).toNat)
  case atStart => exact ⟨p, s.size - p + 1, 0, 0, rfl, rfl, Or.inl ⟨rfl, by omega⟩, by omega, by omega, rfl, by omega, by omega, by omega, fun _ => rfl⟩
  case round =>
    obtain ⟨pos, fuel, c, r, rfl, rfl, HBo, hr0, hr1, HC, hf, hpp, hps, HZ⟩ := hrel
    obtain ⟨f, rfl⟩ : ∃ f, fuel = f + 1 := ⟨fuel - 1, by omega⟩
    have hbz := Ch.bz_bd s pos
    have hdt := dig_two (Ch.bz s pos)
    by_cases hd : Ch.dig 16 (Ch.bz s pos) < 10
    · have hd0 : 0 ≤ Ch.dig (-1) (Ch.bz s pos) ∧ Ch.dig (-1) (Ch.bz s pos) < 10 := by omega
      have hde : Ch.dig 16 (Ch.bz s pos) = Ch.dig (-1) (Ch.bz s pos) := by omega
      have hsemi : ¬ Ch.bz s pos = 59 := fun e => by rw [e, dig_semi] at hd; omega
      have hlt : pos < s.size := by
        have := Ch.dig_ascii (b := 10) (by omega) (by omega : ¬ 10 ≤ Ch.dig 16 (Ch.bz s pos))
        exact (Ch.bz_get this.1).1
      have HN := hide (Ch.num_on hsemi (by omega) HC.out)
      rw [hde] at HN
      have HS := hide (both_step10 HBo.out hr0 hd0.1 hd0.2)
      clear hdt hd hde hsemi
      go_wp2_with (first | (go_at_call 65; refine (byteAt_int _ _ _ hm (by omega)).mono ?_; rintro e w' ⟨rfl, rfl⟩; rw [Int.toNat_natCast]) | (go_at_call 91; refine (digitR_any _ _ (by omega) (by omega)).mono ?_; rintro e w' ⟨rfl, rfl⟩) | (go_at_call 66; refine (May_any _ _).mono ?_; rintro e w' ⟨rfl, rfl⟩))
      exact ⟨⟨pos + 1, f, _, _, by go_num, rfl, HS, by omega, by omega, HN, by omega, by omega, by omega, fun e => by omega⟩, by simp [intOf]; omega⟩
    · have hdd : Ch.dig (-1) (Ch.bz s pos) < 0 ∨ 10 ≤ Ch.dig (-1) (Ch.bz s pos) := by omega
      by_cases hpz : pos = p
      · have HN := hide (numR_none (num_zero (HZ.out hpz) hd HC.out))
        have hq : ((pos : Int) == (p : Int)) = true := by rw [beq_iff_eq]; omega
        clear hpz hd hdt
        rcases hdd with hdd | hdd
        all_goals
          go_wp2_with (first | (go_at_call 65; refine (byteAt_int _ _ _ hm (by omega)).mono ?_; rintro e w' ⟨rfl, rfl⟩; rw [Int.toNat_natCast]) | (go_at_call 91; refine (digitR_any _ _ (by omega) (by omega)).mono ?_; rintro e w' ⟨rfl, rfl⟩) | (go_at_call 66; refine (May_any _ _).mono ?_; rintro e w' ⟨rfl, rfl⟩))
          go_ret2
          refine ⟨?_, rfl⟩
          rw [HN.out]; rfl
      · have hq : ((pos : Int) == (p : Int)) = false := by rw [beq_eq_false_iff_ne]; omega
        by_cases h59 : Ch.bz s pos = 59
        · have HX := Ch.num_semi h59 HC.out
          rw [both_may HBo.out] at HX
          have hq2 : (Ch.bz s pos != 59) = false := by rw [h59]; rfl
          clear h59 hpz hd hdt
          cases hmay : Ch.may r
          · rw [hmay] at HX
            have HN := hide (numR_none HX)
            clear HX
            rcases hdd with hdd | hdd
            all_goals
              go_wp2_with (first | (go_at_call 65; refine (byteAt_int _ _ _ hm (by omega)).mono ?_; rintro e w' ⟨rfl, rfl⟩; rw [Int.toNat_natCast]) | (go_at_call 91; refine (digitR_any _ _ (by omega) (by omega)).mono ?_; rintro e w' ⟨rfl, rfl⟩) | (go_at_call 66; refine (May_any _ _).mono ?_; rintro e w' ⟨rfl, rfl⟩))
              go_ret2
              refine ⟨?_, rfl⟩
              rw [HN.out]; rfl
          · rw [hmay, both_of_may HBo.out hmay] at HX
            have HN := hide (numR_some HX)
            clear HX
            rcases hdd with hdd | hdd
            all_goals
              go_wp2_with (first | (go_at_call 65; refine (byteAt_int _ _ _ hm (by omega)).mono ?_; rintro e w' ⟨rfl, rfl⟩; rw [Int.toNat_natCast]) | (go_at_call 91; refine (digitR_any _ _ (by omega) (by omega)).mono ?_; rintro e w' ⟨rfl, rfl⟩) | (go_at_call 66; refine (May_any _ _).mono ?_; rintro e w' ⟨rfl, rfl⟩))
              go_ret2
              refine ⟨?_, rfl⟩
              rw [HN.out]; rfl
        · have HN := hide (numR_none (Ch.num_no h59 (by omega) HC.out))
          have hq2 : (Ch.bz s pos != 59) = true := by rw [bne_iff_ne]; exact h59
          clear h59 hpz hd hdt
          rcases hdd with hdd | hdd
          all_goals
            go_wp2_with (first | (go_at_call 65; refine (byteAt_int _ _ _ hm (by omega)).mono ?_; rintro e w' ⟨rfl, rfl⟩; rw [Int.toNat_natCast]) | (go_at_call 91; refine (digitR_any _ _ (by omega) (by omega)).mono ?_; rintro e w' ⟨rfl, rfl⟩) | (go_at_call 66; refine (May_any _ _).mono ?_; rintro e w' ⟨rfl, rfl⟩))
            go_ret2
            refine ⟨?_, rfl⟩
            rw [HN.out]; rfl

set_option maxHeartbeats 4000000 in
set_option maxRecDepth 1000000 in
theorem numberedR16 (s : ByteArray) (p : Nat) (w : World) (hs : s.size ≤ 1125899906842624) (hp : p ≤ s.size) :
    Calls Tryz.prog 63 #[.string s, .int .i64 p, .int .i64 16] w fun e w' => e = .returned (.tuple #[.int .i64 (numR s p 16).1, .int .i64 (numR s p 16).2]) ∧ w' = w := by
  have hm : s.size ≤ maxLen := by unfold maxLen; omega
  go_enter Tryz.func63, Tryz.ntmps63
  go_wp2
  go_loop [1, 9, 10] (fun i n _ => ∃ (pos fuel : Nat) (c r : Int), i = .int .i64 pos ∧ n = .int .i64 r ∧ Hid (both c r) ∧ 0 ≤ r ∧ r ≤ 2097152 ∧ Hid (Ch.numFrom s 16 fuel pos c = Ch.numFrom s 16 (s.size - p + 1) p 0) ∧ s.size < pos + fuel ∧ p ≤ pos ∧ pos ≤ s.size ∧ Hid (pos = p → c = 0)) (fun i _ _ => s.size - (intOf i).toNat)
  case atStart => exact ⟨p, s.size - p + 1, 0, 0, rfl, rfl, Or.inl ⟨rfl, by omega⟩, by omega, by omega, rfl, by omega, by omega, by omega, fun _ => rfl⟩
  case round =>
    obtain ⟨pos, fuel, c, r, rfl, rfl, HBo, hr0, hr1, HC, hf, hpp, hps, HZ⟩ := hrel
    obtain ⟨f, rfl⟩ : ∃ f, fuel = f + 1 := ⟨fuel - 1, by omega⟩
    have hbz := Ch.bz_bd s pos
    have hdt := dig_two (Ch.bz s pos)
    by_cases hd : Ch.dig 16 (Ch.bz s pos) < 16
    · have hd0 : 0 ≤ Ch.dig (-1) (Ch.bz s pos) ∧ Ch.dig (-1) (Ch.bz s pos) < 16 := by omega
      have hde : Ch.dig 16 (Ch.bz s pos) = Ch.dig (-1) (Ch.bz s pos) := by omega
      have hsemi : ¬ Ch.bz s pos = 59 := fun e => by rw [e, dig_semi] at hd; omega
      have hlt : pos < s.size := by
        have := Ch.dig_ascii (b := 16) (by omega) (by omega : ¬ 16 ≤ Ch.dig 16 (Ch.bz s pos))
        exact (Ch.bz_get this.1).1
      have HN := hide (Ch.num_on hsemi (by omega) HC.out)
      rw [hde] at HN
      have HS := hide (both_step16 HBo.out hr0 hd0.1 hd0.2)
      clear hdt hd hde hsemi
      go_wp2_with (first | (go_at_call 65; refine (byteAt_int _ _ _ hm (by omega)).mono ?_; rintro e w' ⟨rfl, rfl⟩; rw [Int.toNat_natCast]) | (go_at_call 91; refine (digitR_any _ _ (by omega) (by omega)).mono ?_; rintro e w' ⟨rfl, rfl⟩) | (go_at_call 66; refine (May_any _ _).mono ?_; rintro e w' ⟨rfl, rfl⟩))
      exact ⟨⟨pos + 1, f, _, _, by go_num, rfl, HS, by omega, by omega, HN, by omega, by omega, by omega, fun e => by omega⟩, by simp [intOf]; omega⟩
    · have hdd : Ch.dig (-1) (Ch.bz s pos) < 0 ∨ 16 ≤ Ch.dig (-1) (Ch.bz s pos) := by omega
      by_cases hpz : pos = p
      · have HN := hide (numR_none (num_zero (HZ.out hpz) hd HC.out))
        have hq : ((pos : Int) == (p : Int)) = true := by rw [beq_iff_eq]; omega
        clear hpz hd hdt
        rcases hdd with hdd | hdd
        all_goals
          go_wp2_with (first | (go_at_call 65; refine (byteAt_int _ _ _ hm (by omega)).mono ?_; rintro e w' ⟨rfl, rfl⟩; rw [Int.toNat_natCast]) | (go_at_call 91; refine (digitR_any _ _ (by omega) (by omega)).mono ?_; rintro e w' ⟨rfl, rfl⟩) | (go_at_call 66; refine (May_any _ _).mono ?_; rintro e w' ⟨rfl, rfl⟩))
          go_ret2
          refine ⟨?_, rfl⟩
          rw [HN.out]; rfl
      · have hq : ((pos : Int) == (p : Int)) = false := by rw [beq_eq_false_iff_ne]; omega
        by_cases h59 : Ch.bz s pos = 59
        · have HX := Ch.num_semi h59 HC.out
          rw [both_may HBo.out] at HX
          have hq2 : (Ch.bz s pos != 59) = false := by rw [h59]; rfl
          clear h59 hpz hd hdt
          cases hmay : Ch.may r
          · rw [hmay] at HX
            have HN := hide (numR_none HX)
            clear HX
            rcases hdd with hdd | hdd
            all_goals
              go_wp2_with (first | (go_at_call 65; refine (byteAt_int _ _ _ hm (by omega)).mono ?_; rintro e w' ⟨rfl, rfl⟩; rw [Int.toNat_natCast]) | (go_at_call 91; refine (digitR_any _ _ (by omega) (by omega)).mono ?_; rintro e w' ⟨rfl, rfl⟩) | (go_at_call 66; refine (May_any _ _).mono ?_; rintro e w' ⟨rfl, rfl⟩))
              go_ret2
              refine ⟨?_, rfl⟩
              rw [HN.out]; rfl
          · rw [hmay, both_of_may HBo.out hmay] at HX
            have HN := hide (numR_some HX)
            clear HX
            rcases hdd with hdd | hdd
            all_goals
              go_wp2_with (first | (go_at_call 65; refine (byteAt_int _ _ _ hm (by omega)).mono ?_; rintro e w' ⟨rfl, rfl⟩; rw [Int.toNat_natCast]) | (go_at_call 91; refine (digitR_any _ _ (by omega) (by omega)).mono ?_; rintro e w' ⟨rfl, rfl⟩) | (go_at_call 66; refine (May_any _ _).mono ?_; rintro e w' ⟨rfl, rfl⟩))
              go_ret2
              refine ⟨?_, rfl⟩
              rw [HN.out]; rfl
        · have HN := hide (numR_none (Ch.num_no h59 (by omega) HC.out))
          have hq2 : (Ch.bz s pos != 59) = true := by rw [bne_iff_ne]; exact h59
          clear h59 hpz hd hdt
          rcases hdd with hdd | hdd
          all_goals
            go_wp2_with (first | (go_at_call 65; refine (byteAt_int _ _ _ hm (by omega)).mono ?_; rintro e w' ⟨rfl, rfl⟩; rw [Int.toNat_natCast]) | (go_at_call 91; refine (digitR_any _ _ (by omega) (by omega)).mono ?_; rintro e w' ⟨rfl, rfl⟩) | (go_at_call 66; refine (May_any _ _).mono ?_; rintro e w' ⟨rfl, rfl⟩))
            go_ret2
            refine ⟨?_, rfl⟩
            rw [HN.out]; rfl

end Go.Proofs.YtbbocgeapofloaiGreatDoor
namespace Go.Proofs.YtbbocgeapofloaiGreatDoor
open Go.RowKit

/-- What the reference's Ref answers. -/
def refR (s : ByteArray) (i : Nat) : List UInt8 × Int := if (Ch.refAt s i).2 = 0 then ([], -1) else (Lib.encodeRune (Ch.refAt s i).1, (i : Int) + (Ch.refAt s i).2)

theorem numberedR16_int (s : ByteArray) (j : Int) (w : World) (hs : s.size ≤ 1125899906842624) (h0 : 0 ≤ j) (h1 : j ≤ s.size) :
    Calls Tryz.prog 63 #[.string s, .int .i64 j, .int .i64 16] w fun e w' => e = .returned (.tuple #[.int .i64 (numR s j.toNat 16).1, .int .i64 (numR s j.toNat 16).2]) ∧ w' = w := by
  obtain ⟨n, rfl⟩ := Int.eq_ofNat_of_zero_le h0
  rw [Int.toNat_natCast]
  exact numberedR16 s n w hs (by omega)
theorem numberedR10_int (s : ByteArray) (j : Int) (w : World) (hs : s.size ≤ 1125899906842624) (h0 : 0 ≤ j) (h1 : j ≤ s.size) :
    Calls Tryz.prog 63 #[.string s, .int .i64 j, .int .i64 10] w fun e w' => e = .returned (.tuple #[.int .i64 (numR s j.toNat 10).1, .int .i64 (numR s j.toNat 10).2]) ∧ w' = w := by
  obtain ⟨n, rfl⟩ := Int.eq_ofNat_of_zero_le h0
  rw [Int.toNat_natCast]
  exact numberedR10 s n w hs (by omega)

theorem numR_parts (s : ByteArray) (p : Nat) (b : Int) (hb : b ≤ 16) : ((Ch.numAt s p b).2 = 0 ∧ numR s p b = (0, -1)) ∨ (¬ (Ch.numAt s p b).2 = 0 ∧ 0 ≤ (numR s p b).2 ∧ (numR s p b).1 = (Ch.numAt s p b).1 ∧ (numR s p b).2 = (p : Int) + (Ch.numAt s p b).2 ∧ Ch.may (numR s p b).1 = true) := by
  by_cases h : (Ch.numFrom s b (s.size - p + 1) p 0).2 = 0
  · refine Or.inl ⟨by simp [Ch.numAt, h], by simp [numR, h]⟩
  · obtain ⟨h1, h2, h3, h4, h5⟩ := Ch.numFrom_spec s b hb _ _ _ h
    refine Or.inr ?_
    have e1 : numR s p b = Ch.numFrom s b (s.size - p + 1) p 0 := by simp [numR, h]
    have e2 : Ch.numAt s p b = ((Ch.numFrom s b (s.size - p + 1) p 0).1, (Ch.numFrom s b (s.size - p + 1) p 0).2 - p) := by simp [Ch.numAt, h]
    rw [e1, e2]
    refine ⟨?_, by omega, rfl, ?_, h1⟩ <;> simp only <;> omega

set_option maxHeartbeats 4000000 in
set_option maxRecDepth 1000000 in
theorem Ref_any (s : ByteArray) (i : Nat) (w : World) (hs : s.size ≤ 1125899906842624) (hi : i ≤ s.size) :
    Calls Tryz.prog 39 #[.string s, .int .i64 i] w fun e w' => e = .returned (.tuple #[.string ⟨(refR s i).1.toArray⟩, .int .i64 (refR s i).2]) ∧ Below w.heap.size w w' := by
  cases h0 : Ch.has s i [38, 108, 116, 59]
  rotate_left
  · have hR : refR s i = ([60], (i : Int) + 4) := by
      have : Ch.refAt s i = (60, 4) := by simp [Ch.refAt, h0]
      simp [refR, this]; decide
    have HR := hide hR
    clear hR
    go_enter Tryz.func39, Tryz.ntmps39
    go_wp2_with (go_at_call 62; refine (is_any _ _ _ _ hs hi (by decide) (by decide)).mono ?_; rintro e w' ⟨rfl, rfl⟩)
    go_ret2
    refine ⟨?_, Below.refl _ _⟩
    rw [HR.out]; rfl
  cases h1 : Ch.has s i [38, 103, 116, 59]
  rotate_left
  · have hR : refR s i = ([62], (i : Int) + 4) := by
      have : Ch.refAt s i = (62, 4) := by simp [Ch.refAt, h0, h1]
      simp [refR, this]; decide
    have HR := hide hR
    clear hR
    go_enter Tryz.func39, Tryz.ntmps39
    go_wp2_with (go_at_call 62; refine (is_any _ _ _ _ hs hi (by decide) (by decide)).mono ?_; rintro e w' ⟨rfl, rfl⟩)
    go_ret2
    refine ⟨?_, Below.refl _ _⟩
    rw [HR.out]; rfl
  cases h2 : Ch.has s i [38, 97, 109, 112, 59]
  rotate_left
  · have hR : refR s i = ([38], (i : Int) + 5) := by
      have : Ch.refAt s i = (38, 5) := by simp [Ch.refAt, h0, h1, h2]
      simp [refR, this]; decide
    have HR := hide hR
    clear hR
    go_enter Tryz.func39, Tryz.ntmps39
    go_wp2_with (go_at_call 62; refine (is_any _ _ _ _ hs hi (by decide) (by decide)).mono ?_; rintro e w' ⟨rfl, rfl⟩)
    go_ret2
    refine ⟨?_, Below.refl _ _⟩
    rw [HR.out]; rfl
  cases h3 : Ch.has s i [38, 113, 117, 111, 116, 59]
  rotate_left
  · have hR : refR s i = ([34], (i : Int) + 6) := by
      have : Ch.refAt s i = (34, 6) := by simp [Ch.refAt, h0, h1, h2, h3]
      simp [refR, this]; decide
    have HR := hide hR
    clear hR
    go_enter Tryz.func39, Tryz.ntmps39
    go_wp2_with (go_at_call 62; refine (is_any _ _ _ _ hs hi (by decide) (by decide)).mono ?_; rintro e w' ⟨rfl, rfl⟩)
    go_ret2
    refine ⟨?_, Below.refl _ _⟩
    rw [HR.out]; rfl
  cases h4 : Ch.has s i [38, 97, 112, 111, 115, 59]
  rotate_left
  · have hR : refR s i = ([39], (i : Int) + 6) := by
      have : Ch.refAt s i = (39, 6) := by simp [Ch.refAt, h0, h1, h2, h3, h4]
      simp [refR, this]; decide
    have HR := hide hR
    clear hR
    go_enter Tryz.func39, Tryz.ntmps39
    go_wp2_with (go_at_call 62; refine (is_any _ _ _ _ hs hi (by decide) (by decide)).mono ?_; rintro e w' ⟨rfl, rfl⟩)
    go_ret2
    refine ⟨?_, Below.refl _ _⟩
    rw [HR.out]; rfl
  cases h5 : Ch.has s i [38, 35, 120]
  rotate_left
  · have hsz := Ch.has_size h5 (by decide)
    simp only [List.length_cons, List.length_nil] at hsz
    have hj : ((i : Int) + 3).toNat = i + 3 := by omega
    have HJ := hide hj
    clear hj
    rcases numR_parts s (i + 3) 16 (by decide) with ⟨hz, hn⟩ | ⟨hz, hn0, hn1, hn2, hm⟩
    · have hR : refR s i = ([], -1) := by
        have : (Ch.refAt s i).2 = 0 := by simp [Ch.refAt, h0, h1, h2, h3, h4, h5, hz]
        simp [refR, this]
      have HR := hide hR
      have HN := hide hn
      clear hR hn hz
      go_enter Tryz.func39, Tryz.ntmps39
      go_wp2_with (first | (go_at_call 62; refine (is_any _ _ _ _ hs hi (by decide) (by decide)).mono ?_; rintro e w' ⟨rfl, rfl⟩) | (go_at_call 63; refine (numberedR16_int _ _ _ hs (by omega) (by omega)).mono ?_; rintro e w' ⟨rfl, rfl⟩; rw [HJ.out, HN.out]))
      go_ret2
      refine ⟨?_, Below.refl _ _⟩
      rw [HR.out]; rfl
    · have hR : refR s i = (Lib.encodeRune (numR s (i + 3) 16).1, (numR s (i + 3) 16).2) := by
        have h1 : Ch.refAt s i = ((Ch.numAt s (i + 3) 16).1, 3 + (Ch.numAt s (i + 3) 16).2) := by simp [Ch.refAt, h0, h1, h2, h3, h4, h5, hz]
        have hsp := Ch.numAt_spec (by decide) hz
        have h2 : ¬ (Ch.refAt s i).2 = 0 := by rw [h1]; simp only; omega
        unfold refR
        rw [if_neg h2, h1, hn1, hn2]
        simp only
        congr 1
        omega
      have HR := hide hR
      clear hR hn1 hn2 hz
      have HM := hide hm
      clear hm
      generalize hX : numR s (i + 3) 16 = X at *
      have HX := hide hX
      clear hX
      go_enter Tryz.func39, Tryz.ntmps39
      go_wp2_with (first | (go_at_call 62; refine (is_any _ _ _ _ hs hi (by decide) (by decide)).mono ?_; rintro e w' ⟨rfl, rfl⟩) | (go_at_call 63; refine (numberedR16_int _ _ _ hs (by omega) (by omega)).mono ?_; rintro e w' ⟨rfl, rfl⟩; rw [HJ.out, HX.out]) | (go_at_call 64; refine (Write_any _ _ HM.out).mono ?_; rintro e w1 ⟨rfl, b1⟩))
      go_ret2
      refine ⟨?_, b1⟩
      rw [HR.out]; rfl
  cases h6 : Ch.has s i [38, 35]
  rotate_left
  · have hsz := Ch.has_size h6 (by decide)
    simp only [List.length_cons, List.length_nil] at hsz
    have hj : ((i : Int) + 2).toNat = i + 2 := by omega
    have HJ := hide hj
    clear hj
    rcases numR_parts s (i + 2) 10 (by decide) with ⟨hz, hn⟩ | ⟨hz, hn0, hn1, hn2, hm⟩
    · have hR : refR s i = ([], -1) := by
        have : (Ch.refAt s i).2 = 0 := by simp [Ch.refAt, h0, h1, h2, h3, h4, h5, h6, hz]
        simp [refR, this]
      have HR := hide hR
      have HN := hide hn
      clear hR hn hz
      go_enter Tryz.func39, Tryz.ntmps39
      go_wp2_with (first | (go_at_call 62; refine (is_any _ _ _ _ hs hi (by decide) (by decide)).mono ?_; rintro e w' ⟨rfl, rfl⟩) | (go_at_call 63; refine (numberedR10_int _ _ _ hs (by omega) (by omega)).mono ?_; rintro e w' ⟨rfl, rfl⟩; rw [HJ.out, HN.out]))
      go_ret2
      refine ⟨?_, Below.refl _ _⟩
      rw [HR.out]; rfl
    · have hR : refR s i = (Lib.encodeRune (numR s (i + 2) 10).1, (numR s (i + 2) 10).2) := by
        have h1 : Ch.refAt s i = ((Ch.numAt s (i + 2) 10).1, 2 + (Ch.numAt s (i + 2) 10).2) := by simp [Ch.refAt, h0, h1, h2, h3, h4, h5, h6, hz]
        have hsp := Ch.numAt_spec (by decide) hz
        have h2 : ¬ (Ch.refAt s i).2 = 0 := by rw [h1]; simp only; omega
        unfold refR
        rw [if_neg h2, h1, hn1, hn2]
        simp only
        congr 1
        omega
      have HR := hide hR
      clear hR hn1 hn2 hz
      have HM := hide hm
      clear hm
      generalize hX : numR s (i + 2) 10 = X at *
      have HX := hide hX
      clear hX
      go_enter Tryz.func39, Tryz.ntmps39
      go_wp2_with (first | (go_at_call 62; refine (is_any _ _ _ _ hs hi (by decide) (by decide)).mono ?_; rintro e w' ⟨rfl, rfl⟩) | (go_at_call 63; refine (numberedR10_int _ _ _ hs (by omega) (by omega)).mono ?_; rintro e w' ⟨rfl, rfl⟩; rw [HJ.out, HX.out]) | (go_at_call 64; refine (Write_any _ _ HM.out).mono ?_; rintro e w1 ⟨rfl, b1⟩))
      go_ret2
      refine ⟨?_, b1⟩
      rw [HR.out]; rfl
  have hR : refR s i = ([], -1) := by
    have : Ch.refAt s i = (0, 0) := by simp [Ch.refAt, h0, h1, h2, h3, h4, h5, h6]
    simp [refR, this]
  have HR := hide hR
  clear hR
  go_enter Tryz.func39, Tryz.ntmps39
  go_wp2_with (go_at_call 62; refine (is_any _ _ _ _ hs hi (by decide) (by decide)).mono ?_; rintro e w' ⟨rfl, rfl⟩)
  go_ret2
  refine ⟨?_, Below.refl _ _⟩
  rw [HR.out]; rfl
end Go.Proofs.YtbbocgeapofloaiGreatDoor
