import Derived.Test.YtbjpimnmgonebaaShelf
import Derived.Test.YtbjpimnmgonebaaPs
import Derived.WalkKit
import Derived.WalkSpells
import Derived.Outline
import Derived.BigCall
namespace Go.Proofs.Ytbjpimnmgonebaa
open Go.RowKit

theorem referenceFor_any (r : Int) (q : Bool) (w : World) : Calls Try.prog 6 #[.int .i32 r, .bool q] w fun e w' => e = .returned (.string ⟨(Ch.refFor r q).toArray⟩) ∧ w' = w := by
  go_enter Try.func6, Try.ntmps6
  go_wp2
  all_goals go_ret
  all_goals refine ⟨?_, rfl⟩
  all_goals simp only [beq_iff_eq, beq_eq_false_iff_ne, ne_eq, Bool.not_eq_true', Bool.not_eq_false'] at *
  all_goals simp [Ch.refFor, *]


theorem hide {p : Prop} (h : p) : Hid p := h

theorem info43 : ∃ j, Try.prog.info? 27 = some j ∧ j.size = 2 := Option.map_eq_some_iff.1 Try.Builder_Extra_169.sizeBuilder

set_option maxHeartbeats 1000000 in
set_option maxRecDepth 100000 in
theorem copyCheck_used (b : Nat) (w : World) (c0 : w.cell? ⟨b, 0, none⟩ = some (.pointer (some ⟨b, 0, none⟩))) :
    Calls Try.prog 9 #[.pointer (some ⟨b, 0, none⟩)] w fun e w' => e = .returned (.tuple #[]) ∧ w' = w := by
  obtain ⟨j, hj, _⟩ := info43
  go_enter Try.func9, Try.ntmps9
  go_wp2
  rw [Lib.run_neq_ptr_same w _ Try.underlying24 hj]
  go_wp2
  go_end0
  exact ⟨rfl, rfl⟩

set_option maxHeartbeats 1000000 in
set_option maxRecDepth 100000 in
theorem copyCheck_fresh (b : Nat) (w : World) (c0 : w.cell? ⟨b, 0, none⟩ = some (.pointer none)) (hsh : w.shape? b = some (27, 2)) (f0 : w.frozen? ⟨b, 0, none⟩ = false) :
    Calls Try.prog 9 #[.pointer (some ⟨b, 0, none⟩)] w fun e w' => e = .returned (.tuple #[]) ∧ w' = w.setCell ⟨b, 0, none⟩ (.pointer (some ⟨b, 0, none⟩)) := by
  obtain ⟨j, hj, hjs⟩ := info43
  go_enter Try.func9, Try.ntmps9
  go_wp2
  rw [Lib.run_to_unsafe w ⟨b, 0, none⟩ Try.underlying24 Try.underlying35 hj (by rw [hjs]; decide) hsh (Nat.zero_lt_succ 1)]
  simp only [Result.andThen]
  rw [Oper.upon_value]
  go_wp2
  rw [run_callFunc_extern Try.func10 (by kernel_rfl) (by kernel_rfl) (by kernel_rfl) (e := Extern.AbiNoEscape.same) (by kernel_rfl)]
  rw [Lib.run_noEscape]
  simp only [Result.andThen]
  rw [Oper.upon_value]
  go_wp2
  rw [Lib.run_from_unsafe w ⟨b, 0, none⟩ Try.underlying35 Try.underlying24 hj hsh Try.Builder_Extra_169.liesBuilder]
  simp only [Result.andThen]
  rw [Oper.upon_value]
  go_wp2
  go_end0
  exact ⟨rfl, rfl⟩

theorem copyCheck_k (B b : Nat) (bs : List Value) (w : World) (h : Lib.IsBuilderF 27 5 B b bs w) :
    Calls Try.prog 9 #[.pointer (some ⟨b, 0, none⟩)] w fun e w' => e = .returned (.tuple #[]) ∧ (Lib.BuilderAtF 27 5 B b (.pointer (some ⟨b, 0, none⟩)) bs w' ∧ Below B w w' ∧ Lib.OthersKept 5 (some b) w w') := by
  rcases h with h | h
  · refine (copyCheck_fresh b w h.cell0 h.shape h.frozen0).mono ?_
    rintro e w' ⟨rfl, rfl⟩
    exact ⟨rfl, h.used _, (Below.refl B w).setCell (p := ⟨b, 0, none⟩) h.1 _, (Lib.OthersKept.refl _ _ w).setCell ⟨b, 0, none⟩ rfl _⟩
  · refine (copyCheck_used b w h.cell0).mono ?_
    rintro e w' ⟨rfl, rfl⟩
    exact ⟨rfl, h, Below.refl B _, Lib.OthersKept.refl _ _ _⟩

/-- What a builder's cells are behind a call that has grown its row. -/
theorem builder_cells {b : Nat} {v : Value} {w : World} (hbk : w.heap[b]? = some (.cells #[.pointer (some ⟨b, 0, none⟩), v] 27 (0, 0))) :
    w.cell? ⟨b, 0, none⟩ = some (.pointer (some ⟨b, 0, none⟩)) ∧ w.cell? ⟨b, 1, none⟩ = some v ∧ w.frozen? ⟨b, 1, none⟩ = false ∧ b < w.heap.size :=
  ⟨by rw [Lib.cell_of_heap hbk]; rfl, by rw [Lib.cell_of_heap hbk]; rfl, Lib.frozen_of_heap hbk 1, (Array.getElem?_eq_some_iff.1 hbk).1⟩

set_option maxHeartbeats 2000000 in
set_option maxRecDepth 100000 in
theorem writeString_k (B b : Nat) (bs : List Value) (s : ByteArray) (w : World) (h : Lib.IsBuilderF 27 5 B b bs w) (hlen : bs.length + s.size ≤ 140737488355328) (hBw : B ≤ w.heap.size) :
    Calls Try.prog 7 #[.pointer (some ⟨b, 0, none⟩), .string s] w fun e w' => e = .returned (.tuple #[.int .i64 s.size, .nilIface]) ∧ (Lib.BuilderAtF 27 5 B b (.pointer (some ⟨b, 0, none⟩)) (bs ++ Lib.strCells s) w' ∧ Below B w w' ∧ Lib.OthersKept 5 (some b) w w') := by
  obtain ⟨i0, hi, hz0, hz1, hz2⟩ := info_parts Try.Builder_Extra_169.infoByte
  go_enter Try.func7, Try.ntmps7
  go_wp2_with (go_at_call 9; refine (copyCheck_k B b bs _ h).mono ?_)
  rintro e w1 ⟨rfl, h1, hb1, hk1⟩
  obtain ⟨hB, v, hbk, hown, hne⟩ := h1
  obtain ⟨c0, c1, _, hlt⟩ := builder_cells hbk
  go_wp2_with (at_builtin; refine Lib.wpList_append_own_stringF _ rfl _ _ 25 9 rfl B 5 i0 Try.underlying25 Try.underlying9 hi hz0 hz1 hz2 _ _ _ rfl hown s rfl ?c3 ?c4 ?c5 ?_)
  case c3 => unfold maxLen; omega
  case c4 => omega
  case c5 => have := hb1.size; omega
  intro v' w2 hown' hgrow _
  have hb2 : w2.heap[b]? = some (.cells #[.pointer (some ⟨b, 0, none⟩), v] 27 (0, 0)) := by
    rw [hgrow.block b hlt (fun e => hne e.symm)]
    exact hbk
  obtain ⟨d0, d1, f1, _⟩ := builder_cells hb2
  obtain ⟨ao, n', cap, rfl⟩ : ∃ ao n' cap, v' = .slice ao n' cap := by
    rcases hown'.2 with ⟨hv, _⟩ | ⟨g, cap, cur, fz, hv, _⟩ <;> exact ⟨_, _, _, hv⟩
  go_wp2
  go_ret2
  refine ⟨rfl, ?_, ?_, (hk1.grown hgrow (Lib.ownsRowF_kind hown)).setCell ⟨b, 1, none⟩ rfl _⟩
  · exact Lib.BuilderAtF.put (T := 27) (e := 5) hB hb2 (bs' := bs ++ Lib.strCells s) (by simpa [Lib.strCells_length] using hown') (by decide)
  · exact (hb1.grown hgrow (by have := hb1.size; omega) (fun k hk => (hown.lt k hk).1)).setCell (p := ⟨b, 1, none⟩) hB _

theorem extract_bytes (s : ByteArray) (a b : Nat) : (s.extract a b).data.toList = Ch.bytes s a (b - a) := by
  simp [Ch.bytes, List.take_drop]
theorem bytes_length (s : ByteArray) (a n : Nat) : (Ch.bytes s a n).length ≤ n := by
  simp [Ch.bytes]; omega
theorem extract_size (s : ByteArray) (a b : Nat) : (s.extract a b).size ≤ b - a := by
  simp; omega
theorem strCells_bytes (s : ByteArray) : Lib.strCells s = Lib.byteCells s.data.toList := rfl

set_option maxHeartbeats 4000000 in
set_option maxRecDepth 1000000 in
theorem escape_any (s : ByteArray) (q : Bool) (w : World) (hs : s.size ≤ 1099511627776) :
    Calls Try.prog 4 #[.string s, .bool q] w fun e w' => e = .returned (.string ⟨(Ch.esc s q).toArray⟩) ∧ Below w.heap.size w w' := by
  go_enter Try.func4, Try.ntmps4
  go_wp2
  go_loopw [6] (fun wv wr => ∃ (pos wn : Nat) (acc : List UInt8), wv = .int .i64 wn ∧ Lib.IsBuilderF 27 5 w.heap.size w.heap.size (Lib.byteCells acc) wr ∧ wr.heap[w.heap.size + 1]? = some (.stringIter s pos) ∧ Below w.heap.size w wr ∧ Hid (acc ++ Ch.bytes s wn (pos - wn) = Ch.escL q (s.data.toList.take pos)) ∧ wn ≤ pos ∧ pos ≤ s.size ∧ acc.length ≤ 6 * wn) (fun _ wr => s.size - wr.iterPos (w.heap.size + 1))
  case atStart =>
    refine ⟨0, 0, [], rfl, (Lib.IsBuilderF.of (Lib.fresh_isBuilder 27 5 w)).alloc _, ?_, ((Below.refl _ w).alloc (Nat.le_refl _) _).alloc (by simp) _, ?_, by omega, by omega, by simp⟩
    · have := World.iter_heap (w.alloc (.cells #[.pointer none, .slice none 0 0] 27)) s 0
      simpa using this
    · simp [Hid, Ch.bytes, Ch.escL]
  case round =>
    obtain ⟨pos, wn, acc, rfl, hI, hit, hbw, HC, hp1, hp2, hal⟩ := hrel
    have hsz : w.heap.size + 1 < wr.heap.size := (Array.getElem?_eq_some_iff.1 hit).1
    by_cases hp : pos < s.size
    · have hnx0 : ∀ ty, (Instr.next (.pointer (some ⟨w.heap.size + 1, 0, none⟩)) true ty).run Try.prog wr = _ := fun ty => Lib.run_next_any_at wr (w.heap.size + 1) s pos ty hit hp
      have hwd := Ch.decode_width s pos hp
      have hI2 := fun q => hI.iterAt hit q
      have hit2 := fun q => Lib.iterAt_heap wr (w.heap.size + 1) s pos q hit
      have hbw2 := fun q => Lib.below_iterAt hbw (k := w.heap.size + 1) (by omega) s q
      have hsz2 : ∀ q, w.heap.size ≤ (wr.iterAt (w.heap.size + 1) s q).heap.size := fun q => by rw [Lib.iterAt_size]; omega
      have hrr : Ch.refFor (Utf8.decode s pos).1 q = Ch.refFor (Ch.bz s pos) q := by
        rcases Ch.decode_byte s pos hp with ⟨h0, h1, hd⟩ | ⟨h0, h1⟩
        · rw [hd]; congr 1; simp only; omega
        · rw [Ch.refFor_high q h0, Ch.refFor_high q (by omega)]
      have HRR := hide hrr
      clear hrr
      have hnx := hnx0
      clear hnx0
      by_cases hr : Ch.refFor (Ch.bz s pos) q = []
      · have HN : Hid (acc ++ Ch.bytes s wn (pos + (Utf8.decode s pos).2 - wn) = Ch.escL q (s.data.toList.take (pos + (Utf8.decode s pos).2))) := by
          refine Ch.esc_plain s q acc wn pos hp1 HC.out _ hwd.1 ?_
          intro j j1 j2
          rcases Ch.decode_byte s pos hp with ⟨h0, h1, hd⟩ | ⟨h0, h1⟩
          · rw [hd] at j2
            obtain rfl : pos = j := by simp only at j2; omega
            exact hr
          · exact Ch.refFor_high q (Ch.bytes_high hp h0 j j1 j2)
        have HR := hide hr
        clear hr
        go_wp2_with (go_at_call 6; refine (referenceFor_any _ _ _).mono ?_; rintro e w' ⟨rfl, rfl⟩; rw [HRR.out, HR.out])
        refine ⟨⟨pos + (Utf8.decode s pos).2, wn, acc, rfl, hI2 _, hit2 _, hbw2 _, HN, by omega, by omega, hal⟩, ?_⟩
        simp only [World.iterPos, hit2, hit]
        omega
      · have HN := hide (Ch.esc_ref s q acc wn pos HC.out hp hr)
        have hle := Ch.refFor_le (Ch.bz s pos) q
        have hw1 : (Utf8.decode s pos).2 = 1 := by
          rcases Ch.decode_byte s pos hp with ⟨h0, h1, hd⟩ | ⟨h0, h1⟩
          · rw [hd]
          · exact absurd (Ch.refFor_high q h0) hr
        rw [hw1] at hnx
        generalize Ch.refFor (Ch.bz s pos) q = L at *
        obtain ⟨c, l, rfl⟩ : ∃ c l, L = c :: l := by
          cases L with
          | nil => exact absurd rfl hr
          | cons c l => exact ⟨c, l, rfl⟩
        clear hr
        go_wp2_with (go_at_call 6; refine (referenceFor_any _ _ _).mono ?_; rintro e w' ⟨rfl, rfl⟩; rw [HRR.out])
        have he1 := extract_size s wn pos
        have hb1 := bytes_length s wn (pos - wn)
        refine (writeString_k w.heap.size w.heap.size _ _ _ (hI2 _) (by rw [Lib.byteCells_length]; omega) (hsz2 _)).mono ?_
        rintro e W1 ⟨rfl, h1, b1, k1⟩
        have hl1 : (Lib.byteCells acc ++ Lib.strCells (s.extract wn pos)).length = acc.length + (s.extract wn pos).size := by
          rw [List.length_append, Lib.byteCells_length, Lib.strCells_length]
        have hll : (⟨(c :: l).toArray⟩ : ByteArray).size = (c :: l).length := by
          show (c :: l).toArray.size = _
          simp
        have hs1 : w.heap.size ≤ W1.heap.size := Nat.le_trans (hsz2 _) b1.size
        go_wp2_with (go_at_call 7; refine (writeString_k w.heap.size w.heap.size _ _ _ (Or.inr h1) (by rw [hl1, hll]; omega) hs1).mono ?_; rintro e W2 ⟨rfl, h2, b2, k2⟩)
        have hit3 := k2.iter (k1.iter (hit2 (pos + 1)) (by omega)) (by omega)
        refine ⟨⟨pos + 1, pos + 1, (acc ++ Ch.bytes s wn (pos - wn)) ++ (c :: l), by go_num, ?_, hit3, (hbw2 _).trans (b1.trans b2), ?_, by omega, by omega, ?_⟩, ?_⟩
        · refine Or.inr ?_
          rw [strCells_bytes, strCells_bytes, extract_bytes, ← Lib.byteCells_append, ← Lib.byteCells_append] at h2
          exact h2
        · exact HN.out
        · simp only [List.length_append]
          omega
        · simp only [World.iterPos, hit3, hit]
          omega
    · have hnx : ∀ ty, (Instr.next (.pointer (some ⟨w.heap.size + 1, 0, none⟩)) true ty).run Try.prog wr = _ := fun ty => Lib.run_next_end_at wr (w.heap.size + 1) s pos ty hit hp
      obtain rfl : pos = s.size := by omega
      have he1 := extract_size s wn s.size
      go_wp2_with (go_at_call 7; refine (writeString_k w.heap.size w.heap.size _ _ _ hI (by rw [Lib.byteCells_length]; omega) (by omega)).mono ?_; rintro e W1 ⟨rfl, h1, b1, k1⟩)
      rw [strCells_bytes, extract_bytes, ← Lib.byteCells_append] at h1
      have hs1 : w.heap.size ≤ W1.heap.size := Nat.le_trans (by omega) b1.size
      refine (Try.Builder_String_any_k w.heap.size w.heap.size _ _ (Or.inr h1) hs1).mono ?_
      rintro e W2 ⟨rfl, _, b2, _⟩
      go_wp2
      go_ret
      refine ⟨?_, hbw.trans (b1.trans b2)⟩
      rw [HC.out, List.take_of_length_le (by simp)]
      rfl
theorem below_on {w a b : World} (h : Below w.heap.size w a) (k : Below a.heap.size a b) : Below w.heap.size w b := h.trans (k.mono h.size)

end Go.Proofs.Ytbjpimnmgonebaa
