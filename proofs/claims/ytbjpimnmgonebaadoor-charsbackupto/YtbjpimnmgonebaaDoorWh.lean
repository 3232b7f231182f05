import Derived.Test.YtbjpimnmgonebaaDoorWg
import Derived.Test.YtbjpimnmgonebaaDoorPr
namespace Go.Proofs.YtbjpimnmgonebaaDoor
open Go.RowKit

theorem builder_below {T e : TypeId} {B b : Nat} {bs : List Value} {w w1 : World} (h : Lib.IsBuilderF T e B b bs w) (hb : Below w.heap.size w w1) : Lib.IsBuilderF T e B b bs w1 := by
  have keep : ∀ (k : Nat) (o : Obj), w.heap[k]? = some o → w1.heap[k]? = some o := by
    intro k o hk
    have hlt : k < w.heap.size := (Array.getElem?_eq_some_iff.1 hk).1
    rw [hb.block k hlt]; exact hk
  have one : ∀ p, Lib.BuilderAtF T e B b p bs w → Lib.BuilderAtF T e B b p bs w1 := by
    rintro p ⟨hB, v, hbk, ⟨hl, hown⟩, hne⟩
    refine ⟨hB, v, keep _ _ hbk, ⟨hl, ?_⟩, hne⟩
    rcases hown with hn | ⟨g, cap, cur, fz, hv, hbg, hg, rest⟩
    · exact Or.inl hn
    · exact Or.inr ⟨g, cap, cur, fz, hv, hbg, keep _ _ hg, rest⟩
  exact h.elim (fun x => Or.inl (one _ x)) (fun x => Or.inr (one _ x))

theorem heap_below {w w1 : World} {k : Nat} {o : Obj} (hb : Below w.heap.size w w1) (hk : w.heap[k]? = some o) : w1.heap[k]? = some o := by
  have hlt : k < w.heap.size := (Array.getElem?_eq_some_iff.1 hk).1
  rw [hb.block k hlt]; exact hk

theorem tab_below {w w1 : World} {B : Nat} (hT : Tab w) (hB : 0 < B) (hb : Below B w w1) : Tab w1 := by
  obtain ⟨t, fr, hg⟩ := hT
  exact ⟨t, fr, by rw [hb.block 0 hB]; exact hg⟩
theorem tab_size {w : World} (hT : Tab w) : 0 < w.heap.size := by
  obtain ⟨t, fr, hg⟩ := hT
  exact (Array.getElem?_eq_some_iff.1 hg).1

theorem decode_amp {s : ByteArray} {pos : Nat} (hp : pos < s.size) : (Ch.bz s pos = 38 ∧ Utf8.decode s pos = (38, 1)) ∨ (¬ Ch.bz s pos = 38 ∧ (((Utf8.decode s pos).1 : Int) == 38) = false) := by
  rcases Ch.decode_byte s pos hp with ⟨h0, h1, hd⟩ | ⟨h0, h1⟩
  · by_cases e : Ch.bz s pos = 38
    · exact Or.inl ⟨e, by rw [hd, e]; rfl⟩
    · refine Or.inr ⟨e, ?_⟩
      rw [hd, beq_eq_false_iff_ne]
      simp only
      omega
  · refine Or.inr ⟨by omega, ?_⟩
    rw [beq_eq_false_iff_ne]
    omega

theorem reference_at (s : ByteArray) (pos : Nat) (w : World) (hs : s.size ≤ 1125899906842624) (hT : Tab w) :
    Calls Tryd.prog 25 #[.string (s.extract pos s.size)] w fun e w' => e = .returned (.tuple #[.int .i32 (Ch.refAt s pos).1, .int .i64 (Ch.refAt s pos).2]) ∧ Below w.heap.size w w' := by
  rw [Ch.tail_extract, ← Ch.refAt_tail]
  exact reference_any (Ch.tail s pos) w (by rw [Ch.tail_size]; omega) hT

set_option maxHeartbeats 4000000 in
set_option maxRecDepth 1000000 in
theorem unescape_any (s : ByteArray) (w : World) (hs : s.size ≤ 140737488351232) (hT : Tab w) :
    Calls Tryd.prog 13 #[.string s] w fun e w' => e = .returned (.tuple #[.string ⟨(Ch.unesc s).1.toArray⟩, .int .i64 (Ch.unesc s).2.1, .int .i64 (Ch.unesc s).2.2]) ∧ Below w.heap.size w w' := by
  have hs2 : s.size ≤ 1125899906842624 := by omega
  have hB0 := tab_size hT
  go_enter Tryd.func13, Tryd.ntmps13
  go_wp2
  go_loopw [6] (fun bh wr => ∃ (pos behind at' fuel : Nat) (acc : List UInt8), bh = .int .i64 behind ∧ Lib.IsBuilderF 43 5 w.heap.size w.heap.size (Lib.byteCells acc) wr ∧ wr.heap[w.heap.size + 1]? = some (.stringIter s pos) ∧ Below w.heap.size w wr ∧ Hid (Ch.unescFrom s fuel at' acc = Ch.unesc s) ∧ s.size < at' + fuel ∧ pos ≤ at' ∧ behind ≤ at' ∧ at' ≤ s.size ∧ Hid (at' = pos ∨ at' = behind) ∧ Hid (∀ j, pos ≤ j → j < behind → 0 ≤ Ch.bz s j ∧ Ch.bz s j < 128) ∧ acc.length ≤ at') (fun _ wr => s.size - wr.iterPos (w.heap.size + 1))
  case atStart =>
    refine ⟨0, 0, 0, s.size + 1, [], rfl, (Lib.IsBuilderF.of (Lib.fresh_isBuilder 43 5 w)).alloc _, ?_, ((Below.refl _ w).alloc (Nat.le_refl _) _).alloc (by simp) _, rfl, by omega, by omega, by omega, by omega, Or.inl rfl, fun j h1 h2 => by omega, by simp⟩
    have := World.iter_heap (w.alloc (.cells #[.pointer none, .slice none 0 0] 43)) s 0
    simpa using this
  case round =>
    obtain ⟨pos, behind, at', fuel, acc, rfl, hI, hit, hbw, HC, hf, hp1, hp2, hp3, HD, HA, hal⟩ := hrel
    have hsz : w.heap.size + 1 < wr.heap.size := (Array.getElem?_eq_some_iff.1 hit).1
    by_cases hp : pos < s.size
    · have hnx0 : ∀ ty, (Instr.next (.pointer (some ⟨w.heap.size + 1, 0, none⟩)) true ty).run Tryd.prog wr = _ := fun ty => Lib.run_next_any_at wr (w.heap.size + 1) s pos ty hit hp
      have hd1 := decode_le s pos
      have hI2 := fun q => hI.iterAt hit q
      have hit2 := fun q => Lib.iterAt_heap wr (w.heap.size + 1) s pos q hit
      have hbw2 := fun q => Lib.below_iterAt hbw (k := w.heap.size + 1) (by omega) s q
      have hsz2 : ∀ q, w.heap.size ≤ (wr.iterAt (w.heap.size + 1) s q).heap.size := fun q => by rw [Lib.iterAt_size]; omega
      by_cases hlt : pos < behind
      · obtain ⟨b0, b1⟩ := HA.out pos (Nat.le_refl _) hlt
        have hdec := Ch.decode_one b0 b1
        rw [hdec] at hnx0
        have hnx : ∀ ty, (Instr.next (.pointer (some ⟨w.heap.size + 1, 0, none⟩)) true ty).run Tryd.prog wr = .ok (.tuple #[.bool true, .int .i64 pos, .int .i32 (Ch.bz s pos).toNat]) (wr.iterAt (w.heap.size + 1) s (pos + 1)) := hnx0
        clear hnx0 hdec
        go_wp2
        go_roundw
        case rel => exact ⟨pos + 1, behind, at', fuel, acc, rfl, hI2 _, hit2 _, hbw2 _, HC, hf, by omega, hp2, hp3, Or.inr (by rcases HD.out with h | h <;> omega), fun j h1 h2 => HA.out j (by omega) h2, hal⟩
        case measure =>
          simp only [World.iterPos, hit2, hit]
          omega
      · obtain rfl : pos = at' := by rcases HD.out with h | h <;> omega
        obtain ⟨f, rfl⟩ : ∃ f, fuel = f + 1 := ⟨fuel - 1, by omega⟩
        have hwd := Ch.decode_width s pos hp
        have hch := Ch.chAt_decode s pos hp
        cases hok : Ch.okAt s pos
        · rw [hok] at hch
          have HN := hide (Ch.unesc_char hp hok HC.out)
          go_wp2_with (go_at_call 20; refine (characterAt_any _ _ _ _ hs2 hp3).mono ?_; rintro e w' ⟨rfl, rfl⟩)
          go_ret3
          refine ⟨?_, hbw2 _⟩
          rw [HN.out]; rfl
        · rw [hok] at hch
          rcases decode_amp hp with ⟨h38, hdec⟩ | ⟨h38, hq⟩
          · have HB38 := hide h38
            clear h38
            rw [hdec] at hnx0 hch
            have hnx : ∀ ty, (Instr.next (.pointer (some ⟨w.heap.size + 1, 0, none⟩)) true ty).run Tryd.prog wr = .ok (.tuple #[.bool true, .int .i64 pos, .int .i32 38]) (wr.iterAt (w.heap.size + 1) s (pos + 1)) := hnx0
            clear hnx0 hdec
            have hch2 : Ch.chAt s pos 38 = true := hch
            have hT0 : Tab (wr.iterAt (w.heap.size + 1) s (pos + 1)) := tab_below hT hB0 (hbw2 _)
            by_cases hr : (Ch.refAt s pos).2 = 0
            · have HN := hide (Ch.unesc_noref hp hok HB38.out hr HC.out)
              go_wp2_with (first | (go_at_call 20; refine (characterAt_any _ _ _ _ hs2 hp3).mono ?_; rintro e w' ⟨rfl, rfl⟩) | (go_at_call 25; refine (reference_at s pos _ hs2 hT0).mono ?_; rintro e w1 ⟨rfl, hb1⟩))
              go_ret3
              refine ⟨?_, (hbw2 _).trans (hb1.mono (hsz2 _))⟩
              rw [HN.out]; rfl
            · have HN := hide (Ch.unesc_ref hp hok HB38.out hr HC.out)
              obtain ⟨r1, r2, r3, r4⟩ := Ch.refAt_spec hr
              have hrm := (Ch.may_iff _).1 r1
              have hrz : ((Ch.refAt s pos).2 == 0) = false := by rw [beq_eq_false_iff_ne]; exact hr
              have HR4 := hide r4
              have hel := Ch.encode_le (Ch.refAt s pos).1
              clear r4 hr r1
              obtain ⟨n, hn⟩ : ∃ n : Nat, (Ch.refAt s pos).2 = n := ⟨(Ch.refAt s pos).2.toNat, by omega⟩
              have HNN := hide hn
              rw [hn] at r2 r3 hrz
              clear hn
              go_wp2_with (first | (go_at_call 20; refine (characterAt_any _ _ _ _ hs2 hp3).mono ?_; rintro e w' ⟨rfl, rfl⟩) | (go_at_call 25; refine (reference_at s pos _ hs2 hT0).mono ?_; rintro e w1 ⟨rfl, hb1⟩; rw [HNN.out]))
              have hI3 := builder_below (hI2 (pos + 1)) hb1
              have hit3 := heap_below hb1 (hit2 (pos + 1))
              have hs3 : w.heap.size ≤ w1.heap.size := Nat.le_trans (hsz2 (pos + 1)) hb1.size
              have hbw3 : Below w.heap.size w w1 := (hbw2 (pos + 1)).trans (hb1.mono (hsz2 _))
              refine (writeRune_k w.heap.size w.heap.size _ _ (by omega) (by omega) _ hI3 (by rw [Lib.byteCells_length]; omega) hs3).mono ?_
              rintro e W1 ⟨rfl, h1, b1, k1⟩
              go_wp2
              refine ⟨⟨pos + 1, pos + n, pos + n, f, acc ++ Lib.encodeRune (Ch.refAt s pos).1, by go_num, ?_, k1.iter hit3 (by omega), hbw3.trans b1, ?_, by omega, by omega, by omega, by omega, Or.inr rfl, ?_, by simp; omega⟩, ?_⟩
              · rw [Lib.byteCells_append, Lib.byteCells_encodeRune]; exact Or.inr h1
              · have := HN.out
                rw [HNN.out, Int.toNat_natCast] at this
                exact this
              · intro j j1 j2
                exact HR4.out j (by omega) (by rw [HNN.out]; omega)
              · simp only [World.iterPos, k1.iter hit3 (by omega), hit]
                omega
          · have HN := hide (Ch.unesc_on hp hok h38 HC.out)
            have hew := Ch.encode_width hp hok
            clear h38
            have hnx := hnx0
            clear hnx0
            go_wp2_with (first | (go_at_call 20; refine (characterAt_any _ _ _ _ hs2 hp3).mono ?_; rintro e w' ⟨rfl, rfl⟩) | (go_at_call 26; refine (writeRune_k w.heap.size w.heap.size _ _ (by omega) (by omega) _ (hI2 _) (by rw [Lib.byteCells_length]; omega) (hsz2 _)).mono ?_; rintro e W1 ⟨rfl, h1, b1, k1⟩))
            refine ⟨⟨pos + (Utf8.decode s pos).2, behind, pos + (Utf8.decode s pos).2, f, acc ++ Lib.encodeRune (Utf8.decode s pos).1, rfl, ?_, k1.iter (hit2 _) (by omega), (hbw2 _).trans b1, HN, by omega, by omega, by omega, by omega, Or.inl rfl, fun j h1 h2 => by omega, by simp; omega⟩, ?_⟩
            · rw [Lib.byteCells_append, Lib.byteCells_encodeRune]; exact Or.inr h1
            · simp only [World.iterPos, k1.iter (hit2 _) (by omega), hit]
              omega
    · obtain rfl : pos = at' := by rcases HD.out with h | h <;> omega
      obtain ⟨f, rfl⟩ : ∃ f, fuel = f + 1 := ⟨fuel - 1, by omega⟩
      have hnx : ∀ ty, (Instr.next (.pointer (some ⟨w.heap.size + 1, 0, none⟩)) true ty).run Tryd.prog wr = _ := fun ty => Lib.run_next_end_at wr (w.heap.size + 1) s pos ty hit hp
      have HN := hide (Ch.unesc_end hp HC.out)
      go_wp2_with (go_at_call 27; refine (Tryd.Builder_String_any_k w.heap.size w.heap.size acc _ hI (by omega)).mono ?_; rintro e W1 ⟨rfl, _, b1, _⟩)
      go_ret3
      refine ⟨?_, hbw.trans b1⟩
      rw [HN.out]; rfl
end Go.Proofs.YtbjpimnmgonebaaDoor
