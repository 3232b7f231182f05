import Derived.Test.YtbjpimnmgonebaaDoorWh
import Derived.Test.YtbjpimnmgonebaaDoorPs
namespace Go.Proofs.YtbjpimnmgonebaaDoor
open Go.RowKit

theorem extract_bytes (s : ByteArray) (a b : Nat) : (s.extract a b).data.toList = Ch.bytes s a (b - a) := by
  simp [Ch.bytes, List.take_drop]
theorem bytes_length (s : ByteArray) (a n : Nat) : (Ch.bytes s a n).length ≤ n := by
  simp [Ch.bytes]; omega
theorem extract_size (s : ByteArray) (a b : Nat) : (s.extract a b).size ≤ b - a := by
  simp; omega
theorem strCells_bytes (s : ByteArray) : Lib.strCells s = Lib.byteCells s.data.toList := rfl

set_option maxHeartbeats 4000000 in
set_option maxRecDepth 1000000 in
theorem escape_any (s : ByteArray) (q : Bool) (w : World) (hs : s.size ≤ 1099511627776) :
    Calls Tryd.prog 16 #[.string s, .bool q] w fun e w' => e = .returned (.string ⟨(Ch.esc s q).toArray⟩) ∧ Below w.heap.size w w' := by
  go_enter Tryd.func16, Tryd.ntmps16
  go_wp2
  go_loopw [6] (fun wv wr => ∃ (pos wn : Nat) (acc : List UInt8), wv = .int .i64 wn ∧ Lib.IsBuilderF 43 5 w.heap.size w.heap.size (Lib.byteCells acc) wr ∧ wr.heap[w.heap.size + 1]? = some (.stringIter s pos) ∧ Below w.heap.size w wr ∧ Hid (acc ++ Ch.bytes s wn (pos - wn) = Ch.escL q (s.data.toList.take pos)) ∧ wn ≤ pos ∧ pos ≤ s.size ∧ acc.length ≤ 6 * wn) (fun _ wr => s.size - wr.iterPos (w.heap.size + 1))
  case atStart =>
    refine ⟨0, 0, [], rfl, (Lib.IsBuilderF.of (Lib.fresh_isBuilder 43 5 w)).alloc _, ?_, ((Below.refl _ w).alloc (Nat.le_refl _) _).alloc (by simp) _, ?_, by omega, by omega, by simp⟩
    · have := World.iter_heap (w.alloc (.cells #[.pointer none, .slice none 0 0] 43)) s 0
      simpa using this
    · simp [Hid, Ch.bytes, Ch.escL]
  case round =>
    obtain ⟨pos, wn, acc, rfl, hI, hit, hbw, HC, hp1, hp2, hal⟩ := hrel
    have hsz : w.heap.size + 1 < wr.heap.size := (Array.getElem?_eq_some_iff.1 hit).1
    by_cases hp : pos < s.size
    · have hnx0 : ∀ ty, (Instr.next (.pointer (some ⟨w.heap.size + 1, 0, none⟩)) true ty).run Tryd.prog wr = _ := fun ty => Lib.run_next_any_at wr (w.heap.size + 1) s pos ty hit hp
      have hwd := Ch.decode_width s pos hp
      have hI2 := fun q => hI.iterAt hit q
      have hit2 := fun q => Lib.iterAt_heap wr (w.heap.size + 1) s pos q hit
      have hbw2 := fun q => Lib.below_iterAt hbw (k := w.heap.size + 1) (by omega) s q
      have hsz2 : ∀ q, w.heap.size ≤ (wr.iterAt (w.heap.size + 1) s q).heap.size := fun q => by rw [Lib.iterAt_size]; omega
      have hrr : Ch.refFor (Utf8.decode s pos).1 q = Ch.refFor (Ch.bz s pos) q := by
        rcases Ch.decode_byte s pos hp with ⟨h0, h1, hd⟩ | ⟨h0, h1⟩
        · rw [hd]; congr 1; simp only; omega
        · rw [Ch.refFor_high q h0, Ch.refFor_high q (by omega)]
      have HRR := hide hrr
      clear hrr
      have hnx := hnx0
      clear hnx0
      by_cases hr : Ch.refFor (Ch.bz s pos) q = []
      · have HN : Hid (acc ++ Ch.bytes s wn (pos + (Utf8.decode s pos).2 - wn) = Ch.escL q (s.data.toList.take (pos + (Utf8.decode s pos).2))) := by
          refine Ch.esc_plain s q acc wn pos hp1 HC.out _ hwd.1 ?_
          intro j j1 j2
          rcases Ch.decode_byte s pos hp with ⟨h0, h1, hd⟩ | ⟨h0, h1⟩
          · rw [hd] at j2
            obtain rfl : pos = j := by simp only at j2; omega
            exact hr
          · exact Ch.refFor_high q (Ch.bytes_high hp h0 j j1 j2)
        have HR := hide hr
        clear hr
        go_wp2_with (go_at_call 29; refine (referenceFor_any _ _ _).mono ?_; rintro e w' ⟨rfl, rfl⟩; rw [HRR.out, HR.out])
        refine ⟨⟨pos + (Utf8.decode s pos).2, wn, acc, rfl, hI2 _, hit2 _, hbw2 _, HN, by omega, by omega, hal⟩, ?_⟩
        simp only [World.iterPos, hit2, hit]
        omega
      · have HN := hide (Ch.esc_ref s q acc wn pos HC.out hp hr)
        have hle := Ch.refFor_le (Ch.bz s pos) q
        have hw1 : (Utf8.decode s pos).2 = 1 := by
          rcases Ch.decode_byte s pos hp with ⟨h0, h1, hd⟩ | ⟨h0, h1⟩
          · rw [hd]
          · exact absurd (Ch.refFor_high q h0) hr
        rw [hw1] at hnx
        generalize Ch.refFor (Ch.bz s pos) q = L at *
        obtain ⟨c, l, rfl⟩ : ∃ c l, L = c :: l := by
          cases L with
          | nil => exact absurd rfl hr
          | cons c l => exact ⟨c, l, rfl⟩
        clear hr
        go_wp2_with (go_at_call 29; refine (referenceFor_any _ _ _).mono ?_; rintro e w' ⟨rfl, rfl⟩; rw [HRR.out])
        have he1 := extract_size s wn pos
        have hb1 := bytes_length s wn (pos - wn)
        refine (writeString_k w.heap.size w.heap.size _ _ _ (hI2 _) (by rw [Lib.byteCells_length]; omega) (hsz2 _)).mono ?_
        rintro e W1 ⟨rfl, h1, b1, k1⟩
        have hl1 : (Lib.byteCells acc ++ Lib.strCells (s.extract wn pos)).length = acc.length + (s.extract wn pos).size := by
          rw [List.length_append, Lib.byteCells_length, Lib.strCells_length]
        have hll : (⟨(c :: l).toArray⟩ : ByteArray).size = (c :: l).length := by
          show (c :: l).toArray.size = _
          simp
        have hs1 : w.heap.size ≤ W1.heap.size := Nat.le_trans (hsz2 _) b1.size
        go_wp2_with (go_at_call 30; refine (writeString_k w.heap.size w.heap.size _ _ _ (Or.inr h1) (by rw [hl1, hll]; omega) hs1).mono ?_; rintro e W2 ⟨rfl, h2, b2, k2⟩)
        have hit3 := k2.iter (k1.iter (hit2 (pos + 1)) (by omega)) (by omega)
        refine ⟨⟨pos + 1, pos + 1, (acc ++ Ch.bytes s wn (pos - wn)) ++ (c :: l), by go_num, ?_, hit3, (hbw2 _).trans (b1.trans b2), ?_, by omega, by omega, ?_⟩, ?_⟩
        · refine Or.inr ?_
          rw [strCells_bytes, strCells_bytes, extract_bytes, ← Lib.byteCells_append, ← Lib.byteCells_append] at h2
          exact h2
        · exact HN.out
        · simp only [List.length_append]
          omega
        · simp only [World.iterPos, hit3, hit]
          omega
    · have hnx : ∀ ty, (Instr.next (.pointer (some ⟨w.heap.size + 1, 0, none⟩)) true ty).run Tryd.prog wr = _ := fun ty => Lib.run_next_end_at wr (w.heap.size + 1) s pos ty hit hp
      obtain rfl : pos = s.size := by omega
      have he1 := extract_size s wn s.size
      go_wp2_with (go_at_call 30; refine (writeString_k w.heap.size w.heap.size _ _ _ hI (by rw [Lib.byteCells_length]; omega) (by omega)).mono ?_; rintro e W1 ⟨rfl, h1, b1, k1⟩)
      rw [strCells_bytes, extract_bytes, ← Lib.byteCells_append] at h1
      have hs1 : w.heap.size ≤ W1.heap.size := Nat.le_trans (by omega) b1.size
      refine (Tryd.Builder_String_any_k w.heap.size w.heap.size _ _ (Or.inr h1) hs1).mono ?_
      rintro e W2 ⟨rfl, _, b2, _⟩
      go_wp2
      go_ret
      refine ⟨?_, hbw.trans (b1.trans b2)⟩
      rw [HC.out, List.take_of_length_le (by simp)]
      rfl
end Go.Proofs.YtbjpimnmgonebaaDoor
