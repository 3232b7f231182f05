import Derived.Laws.BytesArg
import Derived.OneCell
import Derived.Test.YtfolnkmbdmfigaaGreatDoorGaa
set_option linter.unusedVariables false
set_option linter.unusedSimpArgs false
namespace Go.Proofs.YtfolnkmbdmfigaaGreatDoor.Ch
open Go
theorem has_bz (s : ByteArray) (l : List UInt8) : ∀ i, has s i l = true → ∀ k (h : k < l.length), bz s (i + k) = ((l[k]).toNat : Int) := by
  induction l with
  | nil => intro i _ k h; simp at h
  | cons c l ih =>
    intro i hi k h
    simp only [has, Bool.and_eq_true, beq_iff_eq] at hi
    cases k with
    | zero => simpa using hi.1
    | succ k =>
      have := ih (i + 1) hi.2 k (by simpa using h)
      rw [show i + 1 + k = i + (k + 1) by omega] at this
      simpa using this
theorem has_ascii {s : ByteArray} {i : Nat} {l : List UInt8} (h : has s i l = true) (hl : ∀ c ∈ l, c.toNat < 128) : ∀ j, i ≤ j → j < i + l.length → 0 ≤ bz s j ∧ bz s j < 128 := by
  intro j h1 h2
  obtain ⟨k, rfl⟩ : ∃ k, j = i + k := ⟨j - i, by omega⟩
  have hk : k < l.length := by omega
  rw [has_bz s l i h k hk]
  have := hl l[k] (List.getElem_mem hk)
  omega
theorem has_size {s : ByteArray} {i : Nat} {l : List UInt8} (h : has s i l = true) (h0 : 0 < l.length) : i + l.length ≤ s.size := by
  have := has_bz s l i h (l.length - 1) (by omega)
  have h2 := (bz_get (s := s) (i := i + (l.length - 1)) (by omega)).1
  omega
theorem dig_ascii {b r : Int} (hb : b ≤ 16) (h : ¬ b ≤ dig 16 r) : 0 ≤ r ∧ r < 128 := by
  unfold dig at h
  split at h
  · omega
  · split at h
    · omega
    · split at h
      · omega
      · omega
theorem numFrom_spec (u : ByteArray) (b : Int) (hb : b ≤ 16) : ∀ f pos n, (numFrom u b f pos n).2 ≠ 0 →
    may (numFrom u b f pos n).1 = true ∧ (pos : Int) + 1 ≤ (numFrom u b f pos n).2 ∧ (may n = false → (pos : Int) + 2 ≤ (numFrom u b f pos n).2) ∧ (numFrom u b f pos n).2 ≤ u.size ∧ ∀ j : Nat, pos ≤ j → (j : Int) < (numFrom u b f pos n).2 → 0 ≤ bz u j ∧ bz u j < 128 := by
  intro f
  induction f with
  | zero => intro pos n h; exact absurd rfl h
  | succ f ih =>
    intro pos n
    rw [numFrom.eq_2]
    split
    · rename_i h59
      have hp : pos < u.size := (bz_get (s := u) (i := pos) (by omega)).1
      split
      · rename_i hm
        intro _
        refine ⟨hm, by simp, fun h => absurd (hm.symm.trans h) (by decide), (by simp; omega), ?_⟩
        intro j h1 h2
        simp only at h2
        have : j = pos := by omega
        subst this
        omega
      · intro h; exact absurd rfl h
    · split
      · intro h; exact absurd rfl h
      · rename_i hd
        intro h
        obtain ⟨h1, h2, h3, h4, h5⟩ := ih (pos + 1) _ h
        refine ⟨h1, by omega, fun _ => by omega, h4, ?_⟩
        intro j hj1 hj2
        by_cases e : j = pos
        · subst e; exact dig_ascii hb hd
        · exact h5 j (by omega) hj2
theorem numAt_spec {s : ByteArray} {p : Nat} {b : Int} (hb : b ≤ 16) (h : (numAt s p b).2 ≠ 0) :
    may (numAt s p b).1 = true ∧ 2 ≤ (numAt s p b).2 ∧ (p : Int) + (numAt s p b).2 ≤ s.size ∧ ∀ j : Nat, p ≤ j → (j : Int) < p + (numAt s p b).2 → 0 ≤ bz s j ∧ bz s j < 128 := by
  unfold numAt at *
  split at h
  · exact absurd rfl h
  · rename_i hz
    rw [if_neg hz]
    obtain ⟨h1, h2, h3, h4, h5⟩ := numFrom_spec s b hb _ _ _ hz
    have h6 := h3 (by decide)
    refine ⟨h1, by simp only; omega, by simp only; omega, ?_⟩
    intro j hj1 hj2
    simp only at hj2
    exact h5 j hj1 (by omega)
theorem refAt_spec {s : ByteArray} {i : Nat} (h : (refAt s i).2 ≠ 0) :
    may (refAt s i).1 = true ∧ 4 ≤ (refAt s i).2 ∧ (i : Int) + (refAt s i).2 ≤ s.size ∧ ∀ j : Nat, i ≤ j → (j : Int) < i + (refAt s i).2 → 0 ≤ bz s j ∧ bz s j < 128 := by
  have key : ∀ (l : List UInt8) (r : Int), 4 ≤ l.length → has s i l = true → (∀ c ∈ l, c.toNat < 128) → may r = true →
      may r = true ∧ 4 ≤ ((l.length : Nat) : Int) ∧ (i : Int) + ((l.length : Nat) : Int) ≤ s.size ∧ ∀ j : Nat, i ≤ j → (j : Int) < i + ((l.length : Nat) : Int) → 0 ≤ bz s j ∧ bz s j < 128 := by
    intro l r hl hh ha hm
    have hs := has_size hh (by omega)
    refine ⟨hm, by omega, by omega, ?_⟩
    intro j h1 h2
    exact has_ascii hh ha j h1 (by omega)
  have num : ∀ (k : Nat) (b : Int) (l : List UInt8), 2 ≤ k → b ≤ 16 → l.length = k → has s i l = true → (∀ c ∈ l, c.toNat < 128) → (numAt s (i + k) b).2 ≠ 0 →
      may (numAt s (i + k) b).1 = true ∧ 4 ≤ (k : Int) + (numAt s (i + k) b).2 ∧ (i : Int) + ((k : Int) + (numAt s (i + k) b).2) ≤ s.size ∧ ∀ j : Nat, i ≤ j → (j : Int) < i + ((k : Int) + (numAt s (i + k) b).2) → 0 ≤ bz s j ∧ bz s j < 128 := by
    intro k b l hk hb hl hh ha hn
    obtain ⟨h1, h2, h3, h4⟩ := numAt_spec hb hn
    refine ⟨h1, by omega, by omega, ?_⟩
    intro j hj1 hj2
    by_cases e : j < i + k
    · exact has_ascii hh ha j hj1 (by omega)
    · exact h4 j (by omega) (by omega)
  unfold refAt at *
  split at h
  · rename_i h1
    rw [if_pos h1]
    exact key [38, 108, 116, 59] 60 (by decide) h1 (by decide) (by decide)
  · rename_i n1
    rw [if_neg n1]
    split at h
    · rename_i h1
      rw [if_pos h1]
      exact key [38, 103, 116, 59] 62 (by decide) h1 (by decide) (by decide)
    · rename_i n2
      rw [if_neg n2]
      split at h
      · rename_i h1
        rw [if_pos h1]
        exact key [38, 97, 109, 112, 59] 38 (by decide) h1 (by decide) (by decide)
      · rename_i n3
        rw [if_neg n3]
        split at h
        · rename_i h1
          rw [if_pos h1]
          exact key [38, 113, 117, 111, 116, 59] 34 (by decide) h1 (by decide) (by decide)
        · rename_i n4
          rw [if_neg n4]
          split at h
          · rename_i h1
            rw [if_pos h1]
            exact key [38, 97, 112, 111, 115, 59] 39 (by decide) h1 (by decide) (by decide)
          · rename_i n5
            rw [if_neg n5]
            split at h
            · rename_i h1
              rw [if_pos h1]
              split at h
              · exact absurd rfl h
              · rename_i hz
                rw [if_neg hz]
                exact num 3 16 [38, 35, 120] (by decide) (by decide) rfl h1 (by decide) hz
            · rename_i n6
              rw [if_neg n6]
              split at h
              · rename_i h1
                rw [if_pos h1]
                split at h
                · exact absurd rfl h
                · rename_i hz
                  rw [if_neg hz]
                  exact num 2 10 [38, 35] (by decide) (by decide) rfl h1 (by decide) hz
              · exact absurd rfl h
theorem encode_le (r : Int) : (Lib.encodeRune r).length ≤ 4 := by
  have := Lib.encodeRuneZ_length r
  simp [Lib.encodeRune]; omega
theorem byte_back {s : ByteArray} {i : Nat} {x : Int} (h : x = bz s i) (h0 : 0 ≤ bz s i) : x.toNat.toUInt8 = s.get! i := by
  have := (bz_get h0).2
  have e : x.toNat = (s.get! i).toNat := by omega
  rw [e]
  simp
def bytes (s : ByteArray) (i n : Nat) : List UInt8 := (s.data.toList.drop i).take n
theorem bytes_one {s : ByteArray} {i : Nat} (h : i < s.size) : bytes s i 1 = [s.get! i] := by
  simp [bytes, drop_cons s i h]
theorem bytes_two {s : ByteArray} {i : Nat} (h : i + 1 < s.size) : bytes s i 2 = [s.get! i, s.get! (i + 1)] := by
  rw [bytes, drop_cons s i (by omega), drop_cons s (i + 1) h]; simp
theorem bytes_three {s : ByteArray} {i : Nat} (h : i + 2 < s.size) : bytes s i 3 = [s.get! i, s.get! (i + 1), s.get! (i + 2)] := by
  rw [bytes, drop_cons s i (by omega), drop_cons s (i + 1) (by omega), drop_cons s (i + 1 + 1) h]; simp
theorem bytes_four {s : ByteArray} {i : Nat} (h : i + 3 < s.size) : bytes s i 4 = [s.get! i, s.get! (i + 1), s.get! (i + 2), s.get! (i + 3)] := by
  rw [bytes, drop_cons s i (by omega), drop_cons s (i + 1) (by omega), drop_cons s (i + 1 + 1) (by omega), drop_cons s (i + 1 + 1 + 1) h]; simp
theorem encode_decode {s : ByteArray} {i : Nat} (h : i < s.size) (ho : okAt s i = true) : Lib.encodeRune (Utf8.decode s i).1 = bytes s i (Utf8.decode s i).2 := by
  have h0 : 0 ≤ bz s i := by unfold bz; rw [if_pos h]; omega
  have hbd := bz_bd s i
  have nb : Utf8.decode s i ≠ (65533, 1) := fun e => by rw [okAt_bad e] at ho; cases ho
  by_cases a1 : bz s i < 128
  · rw [decode_one h0 a1, bytes_one h]
    simp only [Lib.encodeRune]
    rw [Lib.encodeRuneZ_one (by omega) (by omega)]
    simp only [List.map_cons, List.map_nil]
    rw [byte_back (x := ((bz s i).toNat : Int)) (by omega) h0]
  by_cases a2 : bz s i < 192
  · exact absurd (decode_none (Or.inl ⟨by omega, a2⟩)) nb
  by_cases a3 : bz s i < 224
  · by_cases c1 : cont s (i + 1)
    · have hd := decode_two (by omega) a3 c1
      unfold cont at c1
      have hi1 := (bz_get (s := s) (i := i + 1) (by omega)).1
      by_cases hz : 128 ≤ acc s i (bz s i - 192) 1
      · rw [if_pos hz] at hd
        rw [hd, bytes_two hi1]
        simp only [acc, Nat.zero_add] at hz ⊢
        simp only [Lib.encodeRune]
        rw [Lib.encodeRuneZ_two (by omega) (by omega)]
        simp only [List.map_cons, List.map_nil]
        rw [byte_back (s := s) (i := i) (by omega) (by omega), byte_back (s := s) (i := i + 1) (by omega) (by omega)]
      · rw [if_neg hz] at hd; exact absurd hd nb
    · exact absurd (decode_two_no (by omega) a3 c1) nb
  by_cases a4 : bz s i < 240
  · by_cases c1 : cont s (i + 1)
    · by_cases c2 : cont s (i + 2)
      · have hd := decode_three (by omega) a4 c1 c2
        unfold cont at c1 c2
        have hi1 := (bz_get (s := s) (i := i + 2) (by omega)).1
        by_cases hz : 2048 ≤ acc s i (bz s i - 224) 2 ∧ Utf8.valid (acc s i (bz s i - 224) 2) = true
        · rw [if_pos hz] at hd
          obtain ⟨hz, hv⟩ := hz
          simp only [Utf8.valid, Bool.or_eq_true, Bool.and_eq_true, decide_eq_true_eq] at hv
          rw [hd, bytes_three hi1]
          simp only [acc, Nat.zero_add, Nat.reduceAdd] at hz hv ⊢
          simp only [Lib.encodeRune]
          rw [Lib.encodeRuneZ_three (by omega)]
          simp only [List.map_cons, List.map_nil]
          rw [byte_back (s := s) (i := i) (by omega) (by omega), byte_back (s := s) (i := i + 1) (by omega) (by omega), byte_back (s := s) (i := i + 2) (by omega) (by omega)]
        · rw [if_neg hz] at hd; exact absurd hd nb
      · exact absurd (decode_three_no (by omega) a4 (Or.inr c2)) nb
    · exact absurd (decode_three_no (by omega) a4 (Or.inl c1)) nb
  by_cases a5 : bz s i < 248
  · by_cases c1 : cont s (i + 1)
    · by_cases c2 : cont s (i + 2)
      · by_cases c3 : cont s (i + 3)
        · have hd := decode_four (by omega) a5 c1 c2 c3
          unfold cont at c1 c2 c3
          have hi1 := (bz_get (s := s) (i := i + 3) (by omega)).1
          by_cases hz : 65536 ≤ acc s i (bz s i - 240) 3 ∧ Utf8.valid (acc s i (bz s i - 240) 3) = true
          · rw [if_pos hz] at hd
            obtain ⟨hz, hv⟩ := hz
            simp only [Utf8.valid, Bool.or_eq_true, Bool.and_eq_true, decide_eq_true_eq] at hv
            rw [hd, bytes_four hi1]
            simp only [acc, Nat.zero_add, Nat.reduceAdd] at hz hv ⊢
            simp only [Lib.encodeRune]
            rw [Lib.encodeRuneZ_four (by omega) (by omega)]
            simp only [List.map_cons, List.map_nil]
            rw [byte_back (s := s) (i := i) (by omega) (by omega), byte_back (s := s) (i := i + 1) (by omega) (by omega), byte_back (s := s) (i := i + 2) (by omega) (by omega), byte_back (s := s) (i := i + 3) (by omega) (by omega)]
          · rw [if_neg hz] at hd; exact absurd hd nb
        · exact absurd (decode_four_no (by omega) a5 (Or.inr (Or.inr c3))) nb
      · exact absurd (decode_four_no (by omega) a5 (Or.inr (Or.inl c2))) nb
    · exact absurd (decode_four_no (by omega) a5 (Or.inl c1)) nb
  · exact absurd (decode_none (Or.inr (by omega))) nb
theorem encode_width {s : ByteArray} {i : Nat} (h : i < s.size) (ho : okAt s i = true) : (Lib.encodeRune (Utf8.decode s i).1).length ≤ (Utf8.decode s i).2 := by
  rw [encode_decode h ho]
  simp [bytes]; omega
def unescFrom (s : ByteArray) : Nat → Nat → List UInt8 → List UInt8 × Int × Int
  | 0, _, _ => ([], 0, 0)
  | f + 1, pos, acc =>
    if pos < s.size then
      if okAt s pos = true then
        if bz s pos = 38 then
          (if (refAt s pos).2 = 0 then ([], 4, (pos : Int)) else unescFrom s f (pos + (refAt s pos).2.toNat) (acc ++ Lib.encodeRune (refAt s pos).1))
        else unescFrom s f (pos + (Utf8.decode s pos).2) (acc ++ Lib.encodeRune (Utf8.decode s pos).1)
      else ([], 2, (pos : Int))
    else (acc, 0, 0)
def unesc (s : ByteArray) : List UInt8 × Int × Int := unescFrom s (s.size + 1) 0 []
theorem unesc_end {s : ByteArray} {f pos : Nat} {acc : List UInt8} {X : List UInt8 × Int × Int} (hp : ¬ pos < s.size) (h : unescFrom s (f + 1) pos acc = X) : X = (acc, 0, 0) := by
  subst h; rw [unescFrom.eq_2, if_neg hp]
theorem unesc_char {s : ByteArray} {f pos : Nat} {acc : List UInt8} {X : List UInt8 × Int × Int} (hp : pos < s.size) (ho : okAt s pos = false) (h : unescFrom s (f + 1) pos acc = X) : X = ([], 2, (pos : Int)) := by
  subst h; rw [unescFrom.eq_2, if_pos hp, if_neg (by rw [ho]; decide)]
theorem unesc_on {s : ByteArray} {f pos : Nat} {acc : List UInt8} {X : List UInt8 × Int × Int} (hp : pos < s.size) (ho : okAt s pos = true) (h38 : ¬ bz s pos = 38) (h : unescFrom s (f + 1) pos acc = X) :
    unescFrom s f (pos + (Utf8.decode s pos).2) (acc ++ Lib.encodeRune (Utf8.decode s pos).1) = X := by
  subst h; rw [unescFrom.eq_2, if_pos hp, if_pos ho, if_neg h38]
theorem unesc_noref {s : ByteArray} {f pos : Nat} {acc : List UInt8} {X : List UInt8 × Int × Int} (hp : pos < s.size) (ho : okAt s pos = true) (h38 : bz s pos = 38) (hr : (refAt s pos).2 = 0) (h : unescFrom s (f + 1) pos acc = X) : X = ([], 4, (pos : Int)) := by
  subst h; rw [unescFrom.eq_2, if_pos hp, if_pos ho, if_pos h38, if_pos hr]
theorem unesc_ref {s : ByteArray} {f pos : Nat} {acc : List UInt8} {X : List UInt8 × Int × Int} (hp : pos < s.size) (ho : okAt s pos = true) (h38 : bz s pos = 38) (hr : ¬ (refAt s pos).2 = 0) (h : unescFrom s (f + 1) pos acc = X) :
    unescFrom s f (pos + (refAt s pos).2.toNat) (acc ++ Lib.encodeRune (refAt s pos).1) = X := by
  subst h; rw [unescFrom.eq_2, if_pos hp, if_pos ho, if_pos h38, if_neg hr]
end Go.Proofs.YtfolnkmbdmfigaaGreatDoor.Ch

namespace Go.Proofs.YtfolnkmbdmfigaaGreatDoor
open Go.RowKit
theorem builder_below {T e : TypeId} {B b : Nat} {bs : List Value} {w w1 : World} (h : Lib.IsBuilderF T e B b bs w) (hb : Below w.heap.size w w1) : Lib.IsBuilderF T e B b bs w1 := by
  have keep : ∀ (k : Nat) (o : Obj), w.heap[k]? = some o → w1.heap[k]? = some o := by
    intro k o hk
    have hlt : k < w.heap.size := (Array.getElem?_eq_some_iff.1 hk).1
    rw [hb.block k hlt]; exact hk
  have one : ∀ p, Lib.BuilderAtF T e B b p bs w → Lib.BuilderAtF T e B b p bs w1 := by
    rintro p ⟨hB, v, hbk, ⟨hl, hown⟩, hne⟩
    refine ⟨hB, v, keep _ _ hbk, ⟨hl, ?_⟩, hne⟩
    rcases hown with hn | ⟨g, cap, cur, fz, hv, hbg, hg, rest⟩
    · exact Or.inl hn
    · exact Or.inr ⟨g, cap, cur, fz, hv, hbg, keep _ _ hg, rest⟩
  exact h.elim (fun x => Or.inl (one _ x)) (fun x => Or.inr (one _ x))
theorem heap_below {w w1 : World} {k : Nat} {o : Obj} (hb : Below w.heap.size w w1) (hk : w.heap[k]? = some o) : w1.heap[k]? = some o := by
  have hlt : k < w.heap.size := (Array.getElem?_eq_some_iff.1 hk).1
  rw [hb.block k hlt]; exact hk
theorem tab_below {w w1 : World} {B : Nat} (hT : Tab w) (hB : 2 < B) (hb : Below B w w1) : Tab w1 := by
  obtain ⟨t, fr, hg⟩ := hT
  exact ⟨t, fr, by rw [hb.block 2 hB]; exact hg⟩
theorem tab_size {w : World} (hT : Tab w) : 2 < w.heap.size := by
  obtain ⟨t, fr, hg⟩ := hT
  exact (Array.getElem?_eq_some_iff.1 hg).1
theorem decode_amp {s : ByteArray} {pos : Nat} (hp : pos < s.size) : (Ch.bz s pos = 38 ∧ Utf8.decode s pos = (38, 1)) ∨ (¬ Ch.bz s pos = 38 ∧ (((Utf8.decode s pos).1 : Int) == 38) = false) := by
  rcases Ch.decode_byte s pos hp with ⟨h0, h1, hd⟩ | ⟨h0, h1⟩
  · by_cases e : Ch.bz s pos = 38
    · exact Or.inl ⟨e, by rw [hd, e]; rfl⟩
    · refine Or.inr ⟨e, ?_⟩
      rw [hd, beq_eq_false_iff_ne]
      simp only
      omega
  · refine Or.inr ⟨by omega, ?_⟩
    rw [beq_eq_false_iff_ne]
    omega
theorem reference_at (s : ByteArray) (pos : Nat) (w : World) (hs : s.size ≤ 1125899906842624) (hT : Tab w) :
    Calls Tryz.prog 118 #[.string (s.extract pos s.size)] w fun e w' => e = .returned (.tuple #[.int .i32 (Ch.refAt s pos).1, .int .i64 (Ch.refAt s pos).2]) ∧ Below w.heap.size w w' := by
  rw [Ch.tail_extract, ← Ch.refAt_tail]
  exact reference_any (Ch.tail s pos) w (by rw [Ch.tail_size]; omega) hT
set_option maxHeartbeats 4000000 in
set_option maxRecDepth 1000000 in
theorem unescape_any (s : ByteArray) (w : World) (hs : s.size ≤ 140737488351232) (hT : Tab w) :
    Calls Tryz.prog 86 #[.string s] w fun e w' => e = .returned (.tuple #[.string ⟨(Ch.unesc s).1.toArray⟩, .int .i64 (Ch.unesc s).2.1, .int .i64 (Ch.unesc s).2.2]) ∧ Below w.heap.size w w' := by
  have hs2 : s.size ≤ 1125899906842624 := by omega
  have hB0 := tab_size hT
  go_enter Tryz.func86, Tryz.ntmps86
  go_wp2
  go_loopw [6] (fun bh wr => ∃ (pos behind at' fuel : Nat) (acc : List UInt8), bh = .int .i64 behind ∧ Lib.IsBuilderF 108 5 w.heap.size w.heap.size (Lib.byteCells acc) wr ∧ wr.heap[w.heap.size + 1]? = some (.stringIter s pos) ∧ Below w.heap.size w wr ∧ Hid (Ch.unescFrom s fuel at' acc = Ch.unesc s) ∧ s.size < at' + fuel ∧ pos ≤ at' ∧ behind ≤ at' ∧ at' ≤ s.size ∧ Hid (at' = pos ∨ at' = behind) ∧ Hid (∀ j, pos ≤ j → j < behind → 0 ≤ Ch.bz s j ∧ Ch.bz s j < 128) ∧ acc.length ≤ at') (fun _ wr => s.size - wr.iterPos (w.heap.size + 1))
  case atStart =>
    refine ⟨0, 0, 0, s.size + 1, [], rfl, (Lib.IsBuilderF.of (Lib.fresh_isBuilder 108 5 w)).alloc _, ?_, ((Below.refl _ w).alloc (Nat.le_refl _) _).alloc (by simp) _, rfl, by omega, by omega, by omega, by omega, Or.inl rfl, fun j h1 h2 => by omega, by simp⟩
    have := World.iter_heap (w.alloc (.cells #[.pointer none, .slice none 0 0] 108)) s 0
    simpa using this
  case round =>
    obtain ⟨pos, behind, at', fuel, acc, rfl, hI, hit, hbw, HC, hf, hp1, hp2, hp3, HD, HA, hal⟩ := hrel
    have hsz : w.heap.size + 1 < wr.heap.size := (Array.getElem?_eq_some_iff.1 hit).1
    by_cases hp : pos < s.size
    · have hnx0 : ∀ ty, (Instr.next (.pointer (some ⟨w.heap.size + 1, 0, none⟩)) true ty).run Tryz.prog wr = _ := fun ty => Lib.run_next_any_at wr (w.heap.size + 1) s pos ty hit hp
      have hd1 := decode_le s pos
      have hI2 := fun q => hI.iterAt hit q
      have hit2 := fun q => Lib.iterAt_heap wr (w.heap.size + 1) s pos q hit
      have hbw2 := fun q => Lib.below_iterAt hbw (k := w.heap.size + 1) (by omega) s q
      have hsz2 : ∀ q, w.heap.size ≤ (wr.iterAt (w.heap.size + 1) s q).heap.size := fun q => by rw [Lib.iterAt_size]; omega
      by_cases hlt : pos < behind
      · obtain ⟨b0, b1⟩ := HA.out pos (Nat.le_refl _) hlt
        have hdec := Ch.decode_one b0 b1
        rw [hdec] at hnx0
        have hnx : ∀ ty, (Instr.next (.pointer (some ⟨w.heap.size + 1, 0, none⟩)) true ty).run Tryz.prog wr = .ok (.tuple #[.bool true, .int .i64 pos, .int .i32 (Ch.bz s pos).toNat]) (wr.iterAt (w.heap.size + 1) s (pos + 1)) := hnx0
        clear hnx0 hdec
        go_wp2
        go_roundw
        case rel => exact ⟨pos + 1, behind, at', fuel, acc, rfl, hI2 _, hit2 _, hbw2 _, HC, hf, by omega, hp2, hp3, Or.inr (by rcases HD.out with h | h <;> omega), fun j h1 h2 => HA.out j (by omega) h2, hal⟩
        case measure =>
          simp only [World.iterPos, hit2, hit]
          omega
      · obtain rfl : pos = at' := by rcases HD.out with h | h <;> omega
        obtain ⟨f, rfl⟩ : ∃ f, fuel = f + 1 := ⟨fuel - 1, by omega⟩
        have hwd := Ch.decode_width s pos hp
        have hch := Ch.chAt_decode s pos hp
        cases hok : Ch.okAt s pos
        · rw [hok] at hch
          have HN := hide (Ch.unesc_char hp hok HC.out)
          go_wp2_with (go_at_call 117; refine (characterAt_any _ _ _ _ hs2 hp3).mono ?_; rintro e w' ⟨rfl, rfl⟩)
          go_ret3
          refine ⟨?_, hbw2 _⟩
          rw [HN.out]; rfl
        · rw [hok] at hch
          rcases decode_amp hp with ⟨h38, hdec⟩ | ⟨h38, hq⟩
          · have HB38 := hide h38
            clear h38
            rw [hdec] at hnx0 hch
            have hnx : ∀ ty, (Instr.next (.pointer (some ⟨w.heap.size + 1, 0, none⟩)) true ty).run Tryz.prog wr = .ok (.tuple #[.bool true, .int .i64 pos, .int .i32 38]) (wr.iterAt (w.heap.size + 1) s (pos + 1)) := hnx0
            clear hnx0 hdec
            have hch2 : Ch.chAt s pos 38 = true := hch
            have hT0 : Tab (wr.iterAt (w.heap.size + 1) s (pos + 1)) := tab_below hT hB0 (hbw2 _)
            by_cases hr : (Ch.refAt s pos).2 = 0
            · have HN := hide (Ch.unesc_noref hp hok HB38.out hr HC.out)
              go_wp2_with (first | (go_at_call 117; refine (characterAt_any _ _ _ _ hs2 hp3).mono ?_; rintro e w' ⟨rfl, rfl⟩) | (go_at_call 118; refine (reference_at s pos _ hs2 hT0).mono ?_; rintro e w1 ⟨rfl, hb1⟩))
              go_ret3
              refine ⟨?_, (hbw2 _).trans (hb1.mono (hsz2 _))⟩
              rw [HN.out]; rfl
            · have HN := hide (Ch.unesc_ref hp hok HB38.out hr HC.out)
              obtain ⟨r1, r2, r3, r4⟩ := Ch.refAt_spec hr
              have hrm := (Ch.may_iff _).1 r1
              have hrz : ((Ch.refAt s pos).2 == 0) = false := by rw [beq_eq_false_iff_ne]; exact hr
              have HR4 := hide r4
              have hel := Ch.encode_le (Ch.refAt s pos).1
              clear r4 hr r1
              obtain ⟨n, hn⟩ : ∃ n : Nat, (Ch.refAt s pos).2 = n := ⟨(Ch.refAt s pos).2.toNat, by omega⟩
              have HNN := hide hn
              rw [hn] at r2 r3 hrz
              clear hn
              go_wp2_with (first | (go_at_call 117; refine (characterAt_any _ _ _ _ hs2 hp3).mono ?_; rintro e w' ⟨rfl, rfl⟩) | (go_at_call 118; refine (reference_at s pos _ hs2 hT0).mono ?_; rintro e w1 ⟨rfl, hb1⟩; rw [HNN.out]))
              have hI3 := builder_below (hI2 (pos + 1)) hb1
              have hit3 := heap_below hb1 (hit2 (pos + 1))
              have hs3 : w.heap.size ≤ w1.heap.size := Nat.le_trans (hsz2 (pos + 1)) hb1.size
              have hbw3 : Below w.heap.size w w1 := (hbw2 (pos + 1)).trans (hb1.mono (hsz2 _))
              refine (writeRune_k w.heap.size w.heap.size _ _ (by omega) (by omega) _ hI3 (by rw [Lib.byteCells_length]; omega) hs3).mono ?_
              rintro e W1 ⟨rfl, h1, b1, k1⟩
              go_wp2
              refine ⟨⟨pos + 1, pos + n, pos + n, f, acc ++ Lib.encodeRune (Ch.refAt s pos).1, by go_num, ?_, k1.iter hit3 (by omega), hbw3.trans b1, ?_, by omega, by omega, by omega, by omega, Or.inr rfl, ?_, by simp; omega⟩, ?_⟩
              · rw [Lib.byteCells_append, Lib.byteCells_encodeRune]; exact Or.inr h1
              · have := HN.out
                rw [HNN.out, Int.toNat_natCast] at this
                exact this
              · intro j j1 j2
                exact HR4.out j (by omega) (by rw [HNN.out]; omega)
              · simp only [World.iterPos, k1.iter hit3 (by omega), hit]
                omega
          · have HN := hide (Ch.unesc_on hp hok h38 HC.out)
            have hew := Ch.encode_width hp hok
            clear h38
            have hnx := hnx0
            clear hnx0
            go_wp2_with (first | (go_at_call 117; refine (characterAt_any _ _ _ _ hs2 hp3).mono ?_; rintro e w' ⟨rfl, rfl⟩) | (go_at_call 119; refine (writeRune_k w.heap.size w.heap.size _ _ (by omega) (by omega) _ (hI2 _) (by rw [Lib.byteCells_length]; omega) (hsz2 _)).mono ?_; rintro e W1 ⟨rfl, h1, b1, k1⟩))
            refine ⟨⟨pos + (Utf8.decode s pos).2, behind, pos + (Utf8.decode s pos).2, f, acc ++ Lib.encodeRune (Utf8.decode s pos).1, rfl, ?_, k1.iter (hit2 _) (by omega), (hbw2 _).trans b1, HN, by omega, by omega, by omega, by omega, Or.inl rfl, fun j h1 h2 => by omega, by simp; omega⟩, ?_⟩
            · rw [Lib.byteCells_append, Lib.byteCells_encodeRune]; exact Or.inr h1
            · simp only [World.iterPos, k1.iter (hit2 _) (by omega), hit]
              omega
    · obtain rfl : pos = at' := by rcases HD.out with h | h <;> omega
      obtain ⟨f, rfl⟩ : ∃ f, fuel = f + 1 := ⟨fuel - 1, by omega⟩
      have hnx : ∀ ty, (Instr.next (.pointer (some ⟨w.heap.size + 1, 0, none⟩)) true ty).run Tryz.prog wr = _ := fun ty => Lib.run_next_end_at wr (w.heap.size + 1) s pos ty hit hp
      have HN := hide (Ch.unesc_end hp HC.out)
      go_wp2_with (go_at_call 48; refine (Tryz.Builder_String_any_k w.heap.size w.heap.size acc _ hI (by omega)).mono ?_; rintro e W1 ⟨rfl, _, b1, _⟩)
      go_ret3
      refine ⟨?_, hbw.trans b1⟩
      rw [HN.out]; rfl
end Go.Proofs.YtfolnkmbdmfigaaGreatDoor

namespace Go.Proofs.YtfolnkmbdmfigaaGreatDoor.Ch
open Go
def escB (q : Bool) (c : UInt8) : List UInt8 := if refFor (c.toNat : Int) q = [] then [c] else refFor (c.toNat : Int) q
def escL (q : Bool) (l : List UInt8) : List UInt8 := l.flatMap (escB q)
def esc (s : ByteArray) (q : Bool) : List UInt8 := escL q s.data.toList
theorem refFor_high {r : Int} (q : Bool) (h : 128 ≤ r) : refFor r q = [] := by
  unfold refFor
  repeat' split
  all_goals first | omega | rfl
theorem refFor_le (r : Int) (q : Bool) : (refFor r q).length ≤ 6 := by
  unfold refFor
  repeat' split
  all_goals simp
theorem bytes_high {s : ByteArray} {i : Nat} (hi : i < s.size) (h : 128 ≤ bz s i) : ∀ j, i ≤ j → j < i + (Utf8.decode s i).2 → 128 ≤ bz s j := by
  have one : ∀ j, i ≤ j → j < i + 1 → 128 ≤ bz s j := fun j a b => by
    obtain rfl : i = j := by omega
    exact h
  by_cases a2 : bz s i < 192
  · rw [decode_none (Or.inl ⟨h, a2⟩)]; exact one
  by_cases a3 : bz s i < 224
  · by_cases c1 : cont s (i + 1)
    · rw [decode_two (by omega) a3 c1]
      split
      · intro j x y
        unfold cont at c1
        have : j = i ∨ j = i + 1 := by omega
        rcases this with rfl | rfl <;> omega
      · exact one
    · rw [decode_two_no (by omega) a3 c1]; exact one
  by_cases a4 : bz s i < 240
  · by_cases c1 : cont s (i + 1)
    · by_cases c2 : cont s (i + 2)
      · rw [decode_three (by omega) a4 c1 c2]
        split
        · intro j x y
          unfold cont at c1 c2
          have : j = i ∨ j = i + 1 ∨ j = i + 2 := by omega
          rcases this with rfl | rfl | rfl <;> omega
        · exact one
      · rw [decode_three_no (by omega) a4 (Or.inr c2)]; exact one
    · rw [decode_three_no (by omega) a4 (Or.inl c1)]; exact one
  by_cases a5 : bz s i < 248
  · by_cases c1 : cont s (i + 1)
    · by_cases c2 : cont s (i + 2)
      · by_cases c3 : cont s (i + 3)
        · rw [decode_four (by omega) a5 c1 c2 c3]
          split
          · intro j x y
            unfold cont at c1 c2 c3
            have : j = i ∨ j = i + 1 ∨ j = i + 2 ∨ j = i + 3 := by omega
            rcases this with rfl | rfl | rfl | rfl <;> omega
          · exact one
        · rw [decode_four_no (by omega) a5 (Or.inr (Or.inr c3))]; exact one
      · rw [decode_four_no (by omega) a5 (Or.inr (Or.inl c2))]; exact one
    · rw [decode_four_no (by omega) a5 (Or.inl c1)]; exact one
  · rw [decode_none (Or.inr (by omega))]; exact one
theorem escL_append (q : Bool) (a b : List UInt8) : escL q (a ++ b) = escL q a ++ escL q b := by simp [escL]
theorem take_get (s : ByteArray) (i : Nat) (h : i < s.size) : s.data.toList.take (i + 1) = s.data.toList.take i ++ [s.get! i] := by
  rw [List.take_succ_eq_append_getElem (by simpa using h)]
  congr 2
  simp [ByteArray.get!, h]
theorem bytes_snoc (s : ByteArray) (i n : Nat) (h : i + n < s.size) : bytes s i (n + 1) = bytes s i n ++ [s.get! (i + n)] := by
  have hd : n < (s.data.toList.drop i).length := by simp; omega
  unfold bytes
  rw [List.take_succ_eq_append_getElem hd]
  congr 2
  simp [ByteArray.get!, h]
theorem esc_plain (s : ByteArray) (q : Bool) (acc : List UInt8) (wr pos : Nat) (h1 : wr ≤ pos) (h : acc ++ bytes s wr (pos - wr) = escL q (s.data.toList.take pos)) :
    ∀ n, pos + n ≤ s.size → (∀ j, pos ≤ j → j < pos + n → refFor (bz s j) q = []) → acc ++ bytes s wr (pos + n - wr) = escL q (s.data.toList.take (pos + n)) := by
  intro n
  induction n with
  | zero => intro _ _; exact h
  | succ n ih =>
    intro hn hj
    have h2 := ih (by omega) (fun j a b => hj j a (by omega))
    have h3 := hj (pos + n) (by omega) (by omega)
    have hlt : pos + n < s.size := by omega
    rw [show pos + (n + 1) - wr = (pos + n - wr) + 1 by omega, bytes_snoc s wr _ (by omega), show wr + (pos + n - wr) = pos + n by omega, ← List.append_assoc, h2, ← Nat.add_assoc, take_get s (pos + n) hlt, escL_append]
    congr 1
    have hb : bz s (pos + n) = ((s.get! (pos + n)).toNat : Int) := by unfold bz; rw [if_pos hlt]
    rw [hb] at h3
    simp [escL, escB, h3]
theorem esc_ref (s : ByteArray) (q : Bool) (acc : List UInt8) (wr pos : Nat) (h : acc ++ bytes s wr (pos - wr) = escL q (s.data.toList.take pos)) (hlt : pos < s.size) (hr : ¬ refFor (bz s pos) q = []) :
    (acc ++ bytes s wr (pos - wr)) ++ refFor (bz s pos) q ++ bytes s (pos + 1) (pos + 1 - (pos + 1)) = escL q (s.data.toList.take (pos + 1)) := by
  have hb : bz s pos = ((s.get! pos).toNat : Int) := by unfold bz; rw [if_pos hlt]
  rw [Nat.sub_self, take_get s pos hlt, escL_append, h]
  rw [hb] at hr ⊢
  simp [escL, escB, hr, bytes]
end Go.Proofs.YtfolnkmbdmfigaaGreatDoor.Ch

namespace Go.Proofs.YtfolnkmbdmfigaaGreatDoor
open Go.RowKit
theorem extract_bytes (s : ByteArray) (a b : Nat) : (s.extract a b).data.toList = Ch.bytes s a (b - a) := by
  simp [Ch.bytes, List.take_drop]
theorem bytes_length (s : ByteArray) (a n : Nat) : (Ch.bytes s a n).length ≤ n := by
  simp [Ch.bytes]; omega
theorem extract_size (s : ByteArray) (a b : Nat) : (s.extract a b).size ≤ b - a := by
  simp; omega
theorem strCells_bytes (s : ByteArray) : Lib.strCells s = Lib.byteCells s.data.toList := rfl
set_option maxHeartbeats 4000000 in
set_option maxRecDepth 1000000 in
theorem escape_any (s : ByteArray) (q : Bool) (w : World) (hs : s.size ≤ 1099511627776) :
    Calls Tryz.prog 50 #[.string s, .bool q] w fun e w' => e = .returned (.string ⟨(Ch.esc s q).toArray⟩) ∧ Below w.heap.size w w' := by
  go_enter Tryz.func50, Tryz.ntmps50
  go_wp2
  go_loopw [6] (fun wv wr => ∃ (pos wn : Nat) (acc : List UInt8), wv = .int .i64 wn ∧ Lib.IsBuilderF 108 5 w.heap.size w.heap.size (Lib.byteCells acc) wr ∧ wr.heap[w.heap.size + 1]? = some (.stringIter s pos) ∧ Below w.heap.size w wr ∧ Hid (acc ++ Ch.bytes s wn (pos - wn) = Ch.escL q (s.data.toList.take pos)) ∧ wn ≤ pos ∧ pos ≤ s.size ∧ acc.length ≤ 6 * wn) (fun _ wr => s.size - wr.iterPos (w.heap.size + 1))
  case atStart =>
    refine ⟨0, 0, [], rfl, (Lib.IsBuilderF.of (Lib.fresh_isBuilder 108 5 w)).alloc _, ?_, ((Below.refl _ w).alloc (Nat.le_refl _) _).alloc (by simp) _, ?_, by omega, by omega, by simp⟩
    · have := World.iter_heap (w.alloc (.cells #[.pointer none, .slice none 0 0] 108)) s 0
      simpa using this
    · simp [Hid, Ch.bytes, Ch.escL]
  case round =>
    obtain ⟨pos, wn, acc, rfl, hI, hit, hbw, HC, hp1, hp2, hal⟩ := hrel
    have hsz : w.heap.size + 1 < wr.heap.size := (Array.getElem?_eq_some_iff.1 hit).1
    by_cases hp : pos < s.size
    · have hnx0 : ∀ ty, (Instr.next (.pointer (some ⟨w.heap.size + 1, 0, none⟩)) true ty).run Tryz.prog wr = _ := fun ty => Lib.run_next_any_at wr (w.heap.size + 1) s pos ty hit hp
      have hwd := Ch.decode_width s pos hp
      have hI2 := fun q => hI.iterAt hit q
      have hit2 := fun q => Lib.iterAt_heap wr (w.heap.size + 1) s pos q hit
      have hbw2 := fun q => Lib.below_iterAt hbw (k := w.heap.size + 1) (by omega) s q
      have hsz2 : ∀ q, w.heap.size ≤ (wr.iterAt (w.heap.size + 1) s q).heap.size := fun q => by rw [Lib.iterAt_size]; omega
      have hrr : Ch.refFor (Utf8.decode s pos).1 q = Ch.refFor (Ch.bz s pos) q := by
        rcases Ch.decode_byte s pos hp with ⟨h0, h1, hd⟩ | ⟨h0, h1⟩
        · rw [hd]; congr 1; simp only; omega
        · rw [Ch.refFor_high q h0, Ch.refFor_high q (by omega)]
      have HRR := hide hrr
      clear hrr
      have hnx := hnx0
      clear hnx0
      by_cases hr : Ch.refFor (Ch.bz s pos) q = []
      · have HN : Hid (acc ++ Ch.bytes s wn (pos + (Utf8.decode s pos).2 - wn) = Ch.escL q (s.data.toList.take (pos + (Utf8.decode s pos).2))) := by
          refine Ch.esc_plain s q acc wn pos hp1 HC.out _ hwd.1 ?_
          intro j j1 j2
          rcases Ch.decode_byte s pos hp with ⟨h0, h1, hd⟩ | ⟨h0, h1⟩
          · rw [hd] at j2
            obtain rfl : pos = j := by simp only at j2; omega
            exact hr
          · exact Ch.refFor_high q (Ch.bytes_high hp h0 j j1 j2)
        have HR := hide hr
        clear hr
        go_wp2_with (go_at_call 78; refine (referenceFor_any _ _ _).mono ?_; rintro e w' ⟨rfl, rfl⟩; rw [HRR.out, HR.out])
        refine ⟨⟨pos + (Utf8.decode s pos).2, wn, acc, rfl, hI2 _, hit2 _, hbw2 _, HN, by omega, by omega, hal⟩, ?_⟩
        simp only [World.iterPos, hit2, hit]
        omega
      · have HN := hide (Ch.esc_ref s q acc wn pos HC.out hp hr)
        have hle := Ch.refFor_le (Ch.bz s pos) q
        have hw1 : (Utf8.decode s pos).2 = 1 := by
          rcases Ch.decode_byte s pos hp with ⟨h0, h1, hd⟩ | ⟨h0, h1⟩
          · rw [hd]
          · exact absurd (Ch.refFor_high q h0) hr
        rw [hw1] at hnx
        generalize Ch.refFor (Ch.bz s pos) q = L at *
        obtain ⟨c, l, rfl⟩ : ∃ c l, L = c :: l := by
          cases L with
          | nil => exact absurd rfl hr
          | cons c l => exact ⟨c, l, rfl⟩
        clear hr
        go_wp2_with (go_at_call 78; refine (referenceFor_any _ _ _).mono ?_; rintro e w' ⟨rfl, rfl⟩; rw [HRR.out])
        have he1 := extract_size s wn pos
        have hb1 := bytes_length s wn (pos - wn)
        refine (writeString_k w.heap.size w.heap.size _ _ _ (hI2 _) (by rw [Lib.byteCells_length]; omega) (hsz2 _)).mono ?_
        rintro e W1 ⟨rfl, h1, b1, k1⟩
        have hl1 : (Lib.byteCells acc ++ Lib.strCells (s.extract wn pos)).length = acc.length + (s.extract wn pos).size := by
          rw [List.length_append, Lib.byteCells_length, Lib.strCells_length]
        have hll : (⟨(c :: l).toArray⟩ : ByteArray).size = (c :: l).length := by
          show (c :: l).toArray.size = _
          simp
        have hs1 : w.heap.size ≤ W1.heap.size := Nat.le_trans (hsz2 _) b1.size
        go_wp2_with (go_at_call 49; refine (writeString_k w.heap.size w.heap.size _ _ _ (Or.inr h1) (by rw [hl1, hll]; omega) hs1).mono ?_; rintro e W2 ⟨rfl, h2, b2, k2⟩)
        have hit3 := k2.iter (k1.iter (hit2 (pos + 1)) (by omega)) (by omega)
        refine ⟨⟨pos + 1, pos + 1, (acc ++ Ch.bytes s wn (pos - wn)) ++ (c :: l), by go_num, ?_, hit3, (hbw2 _).trans (b1.trans b2), ?_, by omega, by omega, ?_⟩, ?_⟩
        · refine Or.inr ?_
          rw [strCells_bytes, strCells_bytes, extract_bytes, ← Lib.byteCells_append, ← Lib.byteCells_append] at h2
          exact h2
        · exact HN.out
        · simp only [List.length_append]
          omega
        · simp only [World.iterPos, hit3, hit]
          omega
    · have hnx : ∀ ty, (Instr.next (.pointer (some ⟨w.heap.size + 1, 0, none⟩)) true ty).run Tryz.prog wr = _ := fun ty => Lib.run_next_end_at wr (w.heap.size + 1) s pos ty hit hp
      obtain rfl : pos = s.size := by omega
      have he1 := extract_size s wn s.size
      go_wp2_with (go_at_call 49; refine (writeString_k w.heap.size w.heap.size _ _ _ hI (by rw [Lib.byteCells_length]; omega) (by omega)).mono ?_; rintro e W1 ⟨rfl, h1, b1, k1⟩)
      rw [strCells_bytes, extract_bytes, ← Lib.byteCells_append] at h1
      have hs1 : w.heap.size ≤ W1.heap.size := Nat.le_trans (by omega) b1.size
      refine (Tryz.Builder_String_any_k w.heap.size w.heap.size _ _ (Or.inr h1) hs1).mono ?_
      rintro e W2 ⟨rfl, _, b2, _⟩
      go_wp2
      go_ret
      refine ⟨?_, hbw.trans (b1.trans b2)⟩
      rw [HC.out, List.take_of_length_le (by simp)]
      rfl
end Go.Proofs.YtfolnkmbdmfigaaGreatDoor

namespace Go.Proofs.YtfolnkmbdmfigaaGreatDoor
open Go.RowKit
theorem name_stop {s : ByteArray} {f pos : Nat} (hp : pos < s.size) (hi : Ch.inName s pos = false) (h : Ch.nameFrom s (f + 1) pos = Ch.name s) : (pos : Int) = (Ch.name s : Int) := by
  simp only [Ch.nameFrom, hp, hi] at h; simp at h; omega
theorem name_on {s : ByteArray} {f pos : Nat} (hp : pos < s.size) (hi : Ch.inName s pos = true) (h : Ch.nameFrom s (f + 1) pos = Ch.name s) : Ch.nameFrom s f (pos + (Utf8.decode s pos).2) = Ch.name s := by
  simp only [Ch.nameFrom, hp, hi] at h; simpa using h
theorem name_end {s : ByteArray} {f pos : Nat} (hp : ¬ pos < s.size) (h : Ch.nameFrom s (f + 1) pos = Ch.name s) : (s.size : Int) = (Ch.name s : Int) := by
  simp only [Ch.nameFrom, hp] at h; simp at h; omega
set_option maxHeartbeats 4000000 in
set_option maxRecDepth 1000000 in
theorem nameC_any (s : ByteArray) (w : World) (hs : s.size ≤ 1125899906842624) :
    Calls Tryz.prog 116 #[.string s] w fun e w' => e = .returned (.int .i64 (Ch.name s)) ∧ Below w.heap.size w w' := by
  go_enter Tryz.func116, Tryz.ntmps116
  go_wp2
  go_loopw [] (fun w' => ∃ (pos fuel : Nat), w' = w.iter s pos ∧ Ch.nameFrom s fuel pos = Ch.name s ∧ s.size < pos + fuel ∧ pos ≤ s.size) (fun w' => s.size - w'.iterPos w.heap.size)
  case atStart => exact ⟨0, s.size + 1, rfl, rfl, by omega, by omega⟩
  case round =>
    obtain ⟨pos, fuel, rfl, hc, hb, hl⟩ := hrel
    obtain ⟨f, rfl⟩ : ∃ f, fuel = f + 1 := ⟨fuel - 1, by omega⟩
    have HC := hide hc
    clear hc
    by_cases hp : pos < s.size
    · have hnx : ∀ ty, (Instr.next (.pointer (some ⟨w.heap.size, 0, none⟩)) true ty).run Tryz.prog (w.iter s pos) = _ := fun ty => run_next_any w s pos ty hp
      have hwd := Ch.decode_width s pos hp
      have hch := Ch.chAt_decode s pos hp
      cases hok : Ch.okAt s pos <;> cases hbe : Ch.begins (Utf8.decode s pos).1 <;> cases hgo : Ch.goesOn (Utf8.decode s pos).1 <;> by_cases h0 : 0 < pos
      all_goals rw [hok] at hch
      all_goals
        go_wp2_with (first | (go_at_call 141; refine (beginsName_any _ _).mono ?_; rintro e w' ⟨rfl, rfl⟩) | (go_at_call 142; refine (goesOnInName_any _ _).mono ?_; rintro e w' ⟨rfl, rfl⟩) | (go_at_call 117; refine (characterAt_any _ _ _ _ hs hl).mono ?_; rintro e w' ⟨rfl, rfl⟩))
        first
          | (go_ret
             exact ⟨ret_int (name_stop hp (by simp [Ch.inName, hok, hbe, hgo, h0]) HC.out), below_iter w s _⟩)
          | (go_roundw
             case rel => exact ⟨pos + (Utf8.decode s pos).2, f, rfl, name_on hp (by simp [Ch.inName, hok, hbe, hgo, h0]) HC.out, by omega, by omega⟩
             case measure => simp; omega)
    · have hnx : ∀ ty, (Instr.next (.pointer (some ⟨w.heap.size, 0, none⟩)) true ty).run Tryz.prog (w.iter s pos) = _ := fun ty => run_next_end w s pos ty hp
      go_wp2
      go_ret
      exact ⟨ret_int (name_end hp HC.out), below_iter w s _⟩
theorem goes_cases {r : Int} {b : Bool} (h : Ch.goesOn r = b) : (b = true ∧ 48 ≤ r ∧ r ≤ 57) ∨ (b = true ∧ ¬ 48 ≤ r ∧ (r == 45) = true) ∨ (b = true ∧ ¬ 48 ≤ r ∧ (r == 45) = false ∧ (r == 46) = true) ∨ (b = false ∧ ¬ 48 ≤ r ∧ (r == 45) = false ∧ (r == 46) = false) ∨ (b = false ∧ 57 < r ∧ (r == 45) = false ∧ (r == 46) = false) := by
  subst h
  cases e : Ch.goesOn r
  · have : ¬ ((48 ≤ r ∧ r ≤ 57) ∨ r = 45 ∨ r = 46) := fun q => by rw [(Ch.goesOn_iff r).2 q] at e; cases e
    simp only [Bool.false_eq_true, false_and, false_or, true_and, beq_eq_false_iff_ne, ne_eq]; omega
  · have := (Ch.goesOn_iff r).1 e
    simp only [true_and, beq_eq_false_iff_ne, beq_iff_eq, ne_eq]; omega
set_option maxHeartbeats 4000000 in
set_option maxRecDepth 1000000 in
theorem nameR_any (s : ByteArray) (w : World) (hs : s.size ≤ 1125899906842624) :
    Calls Tryz.prog 97 #[.string s] w fun e w' => e = .returned (.int .i64 (Ch.name s)) ∧ w' = w := by
  go_enter Tryz.func97, Tryz.ntmps97
  go_wp2
  go_loop [3, 4, 5, 6] (fun i _ _ _ => ∃ (pos fuel : Nat), i = .int .i64 pos ∧ Ch.nameFrom s fuel pos = Ch.name s ∧ s.size < pos + fuel ∧ pos ≤ s.size) (fun i _ _ _ => s.size - (intOf i).toNat)
  case atStart => exact ⟨0, s.size + 1, rfl, rfl, by omega, by omega⟩
  case round =>
    obtain ⟨pos, fuel, rfl, hc, hb, hl⟩ := hrel
    obtain ⟨f, rfl⟩ : ∃ f, fuel = f + 1 := ⟨fuel - 1, by omega⟩
    have HC := hide hc
    clear hc
    by_cases hp : pos < s.size
    · have hwd := Ch.decode_width s pos hp
      have hat := Ch.at2_pos s pos hp
      cases hok : Ch.okAt s pos
      · rw [hok] at hat
        simp only [Bool.false_eq_true, if_false] at hat
        have HA := hide hat
        clear hat
        by_cases h0 : 0 < pos
        all_goals
          go_wp2_with (first | (go_at_call 75; refine (At_any _ _ _ hs hl).mono ?_; rintro e w' ⟨rfl, rfl⟩; rw [HA.out]) | (go_at_call 134; refine (begins_any _ _).mono ?_; rintro e w' ⟨rfl, rfl⟩))
          go_ret
          exact ⟨ret_int (name_stop hp (by simp [Ch.inName, hok]) HC.out), rfl⟩
      · rw [hok] at hat
        simp only [if_true] at hat
        have HA := hide hat
        clear hat
        cases hbe : Ch.begins (Utf8.decode s pos).1 <;> cases hgo : Ch.goesOn (Utf8.decode s pos).1 <;> by_cases h0 : 0 < pos
        all_goals
          have HG := hide hgo
          clear hgo
          rcases goes_cases HG.out with ⟨e1, e2, e3⟩ | ⟨e1, e2, e3⟩ | ⟨e1, e2, e3, e4⟩ | ⟨e1, e2, e3, e4⟩ | ⟨e1, e2, e3, e4⟩
          all_goals first
            | (cases e1; done)
            | (clear e1
               go_wp2_with (first | (go_at_call 75; refine (At_any _ _ _ hs hl).mono ?_; rintro e w' ⟨rfl, rfl⟩; rw [HA.out]) | (go_at_call 134; refine (begins_any _ _).mono ?_; rintro e w' ⟨rfl, rfl⟩))
               first
                 | (go_ret
                    exact ⟨ret_int (name_stop hp (by simp [Ch.inName, hok, hbe, HG.out, h0]) HC.out), rfl⟩)
                 | (go_round
                    case rel => exact ⟨pos + (Utf8.decode s pos).2, f, by go_num, name_on hp (by simp [Ch.inName, hok, hbe, HG.out, h0]) HC.out, by omega, by omega⟩
                    case measure => simp [intOf]; omega))
    · go_wp2
      go_ret
      exact ⟨ret_int (by have := name_end hp HC.out; omega), rfl⟩
end Go.Proofs.YtfolnkmbdmfigaaGreatDoor

namespace Go.Proofs.YtfolnkmbdmfigaaGreatDoor
open Go.RowKit
theorem has_take (s : ByteArray) (i : Nat) (l : List UInt8) : (Ch.bytes s i l.length == l) = Ch.has s i l := by
  rw [← Ch.prefix_has, Bool.eq_iff_iff, beq_iff_eq, List.isPrefixOf_iff_prefix, List.prefix_iff_eq_take]
  unfold Ch.bytes
  exact eq_comm
set_option maxHeartbeats 4000000 in
set_option maxRecDepth 100000 in
theorem is_any (s : ByteArray) (i : Nat) (a : Array UInt8) (w : World) (hs : s.size ≤ 1125899906842624) (_hi : i ≤ s.size) (ha0 : 0 < a.size) (ha : a.size ≤ 16) :
    Calls Tryz.prog 99 #[.string s, .int .i64 i, .string ⟨a⟩] w fun e w' => e = .returned (.bool (Ch.has s i a.toList)) ∧ w' = w := by
  have hsz : (⟨a⟩ : ByteArray).size = a.size := rfl
  by_cases h : i + a.size ≤ s.size
  · go_enter Tryz.func99, Tryz.ntmps99
    go_wp2
    go_ret
    refine ⟨ret_bool ?_, rfl⟩
    rw [← has_take, Go.ByteArray.toList_eq, Go.ByteArray.toList_eq, extract_bytes, show i + a.size - i = a.toList.length by simp]
  · have hf : Ch.has s i a.toList = false := by
      cases e : Ch.has s i a.toList
      · rfl
      · have := Ch.has_size e (by simpa using ha0)
        simp at this
        omega
    have HF := hide hf
    clear hf
    go_enter Tryz.func99, Tryz.ntmps99
    go_wp2
    go_ret
    exact ⟨ret_bool HF.out.symm, rfl⟩
theorem Below_new (w : World) (o : Obj) : (w.alloc o).heap[w.heap.size]? = some o := heap_alloc_new w o
theorem conv_new (w : World) (xs : List Int) (n : Nat) (hn : xs.length = n) :
    (convert 87 9 (.slice (some ⟨w.heap.size, 0, none⟩) n n)).run Tryz.prog (w.alloc (.cells (xs.map (Value.int .u8)).toArray 5)) = .ok (.string (strOfNums xs)) (w.alloc (.cells (xs.map (Value.int .u8)).toArray 5)) := by
  refine run_convert_bytes_arg _ 87 5 Tryz.underlying87 Tryz.underlying5 w.heap.size 0 n n xs hn ?_ 9 Tryz.underlying9
  intro i hi
  have hlt : i < xs.length := by omega
  rw [Lib.cell_of_heap (Below_new w _)]
  simp [hlt]
theorem encode_nums {r : Int} {xs : List Int} (h : Lib.encodeRuneZ r = xs) : strOfNums xs = ⟨(Lib.encodeRune r).toArray⟩ := by
  subst h; rfl
set_option maxHeartbeats 4000000 in
set_option maxRecDepth 100000 in
theorem write1 (r : Int) (w : World) (h0 : 0 ≤ r) (h1 : r < 128) :
    Calls Tryz.prog 101 #[.int .i64 r] w fun e w' => e = .returned (.string ⟨(Lib.encodeRune r).toArray⟩) ∧ Below w.heap.size w w' := by
  have hcv := conv_new w [r] 1 rfl
  rw [encode_nums (Lib.encodeRuneZ_one h0 (by omega))] at hcv
  have hcv' : (convert 87 9 (.slice (some ⟨w.heap.size, 0, none⟩) 1 1)).run Tryz.prog (w.alloc (.cells #[.int .u8 r] 5)) = _ := hcv
  clear hcv
  go_enter Tryz.func101, Tryz.ntmps101
  go_wp2
  go_ret
  exact ⟨rfl, (Below.refl _ w).alloc (Nat.le_refl _) _⟩
set_option maxHeartbeats 4000000 in
set_option maxRecDepth 100000 in
theorem write2 (r : Int) (w : World) (h0 : 128 ≤ r) (h1 : r < 2048) :
    Calls Tryz.prog 101 #[.int .i64 r] w fun e w' => e = .returned (.string ⟨(Lib.encodeRune r).toArray⟩) ∧ Below w.heap.size w w' := by
  have hcv := conv_new w [192 + r / 64, 128 + r % 64] 2 rfl
  rw [encode_nums (Lib.encodeRuneZ_two h0 (by omega))] at hcv
  have hcv' : (convert 87 9 (.slice (some ⟨w.heap.size, 0, none⟩) 2 2)).run Tryz.prog (w.alloc (.cells #[.int .u8 (192 + r / 64), .int .u8 (128 + r % 64)] 5)) = _ := hcv
  clear hcv
  go_enter Tryz.func101, Tryz.ntmps101
  go_wp2
  go_ret
  exact ⟨rfl, (Below.refl _ w).alloc (Nat.le_refl _) _⟩
set_option maxHeartbeats 4000000 in
set_option maxRecDepth 100000 in
theorem write3 (r : Int) (w : World) (h0 : 2048 ≤ r) (h1 : r < 55296) :
    Calls Tryz.prog 101 #[.int .i64 r] w fun e w' => e = .returned (.string ⟨(Lib.encodeRune r).toArray⟩) ∧ Below w.heap.size w w' := by
  have hcv := conv_new w [224 + r / 4096, 128 + r / 64 % 64, 128 + r % 64] 3 rfl
  rw [encode_nums (Lib.encodeRuneZ_three (by omega))] at hcv
  have hcv' : (convert 87 9 (.slice (some ⟨w.heap.size, 0, none⟩) 3 3)).run Tryz.prog (w.alloc (.cells #[.int .u8 (224 + r / 4096), .int .u8 (128 + r / 64 % 64), .int .u8 (128 + r % 64)] 5)) = _ := hcv
  clear hcv
  go_enter Tryz.func101, Tryz.ntmps101
  go_wp2
  go_ret
  exact ⟨rfl, (Below.refl _ w).alloc (Nat.le_refl _) _⟩
set_option maxHeartbeats 4000000 in
set_option maxRecDepth 100000 in
theorem write4 (r : Int) (w : World) (h0 : 57344 ≤ r) (h1 : r < 65536) :
    Calls Tryz.prog 101 #[.int .i64 r] w fun e w' => e = .returned (.string ⟨(Lib.encodeRune r).toArray⟩) ∧ Below w.heap.size w w' := by
  have hcv := conv_new w [224 + r / 4096, 128 + r / 64 % 64, 128 + r % 64] 3 rfl
  rw [encode_nums (Lib.encodeRuneZ_three (by omega))] at hcv
  have hcv' : (convert 87 9 (.slice (some ⟨w.heap.size, 0, none⟩) 3 3)).run Tryz.prog (w.alloc (.cells #[.int .u8 (224 + r / 4096), .int .u8 (128 + r / 64 % 64), .int .u8 (128 + r % 64)] 5)) = _ := hcv
  clear hcv
  go_enter Tryz.func101, Tryz.ntmps101
  go_wp2
  go_ret
  exact ⟨rfl, (Below.refl _ w).alloc (Nat.le_refl _) _⟩
set_option maxHeartbeats 4000000 in
set_option maxRecDepth 100000 in
theorem write5 (r : Int) (w : World) (h0 : 65536 ≤ r) (h1 : r ≤ 1114111) :
    Calls Tryz.prog 101 #[.int .i64 r] w fun e w' => e = .returned (.string ⟨(Lib.encodeRune r).toArray⟩) ∧ Below w.heap.size w w' := by
  have hcv := conv_new w [240 + r / 262144, 128 + r / 4096 % 64, 128 + r / 64 % 64, 128 + r % 64] 4 rfl
  rw [encode_nums (Lib.encodeRuneZ_four h0 (by omega))] at hcv
  have hcv' : (convert 87 9 (.slice (some ⟨w.heap.size, 0, none⟩) 4 4)).run Tryz.prog (w.alloc (.cells #[.int .u8 (240 + r / 262144), .int .u8 (128 + r / 4096 % 64), .int .u8 (128 + r / 64 % 64), .int .u8 (128 + r % 64)] 5)) = _ := hcv
  clear hcv
  go_enter Tryz.func101, Tryz.ntmps101
  go_wp2
  go_ret
  exact ⟨rfl, (Below.refl _ w).alloc (Nat.le_refl _) _⟩
theorem Write_any (r : Int) (w : World) (hm : Ch.may r = true) :
    Calls Tryz.prog 101 #[.int .i64 r] w fun e w' => e = .returned (.string ⟨(Lib.encodeRune r).toArray⟩) ∧ Below w.heap.size w w' := by
  have h := (Ch.may_iff r).1 hm
  by_cases c1 : r < 128
  · exact write1 r w (by omega) c1
  by_cases c2 : r < 2048
  · exact write2 r w (by omega) c2
  by_cases c3 : r < 55296
  · exact write3 r w (by omega) c3
  by_cases c4 : r < 65536
  · exact write4 r w (by omega) c4
  · exact write5 r w (by omega) (by omega)
end Go.Proofs.YtfolnkmbdmfigaaGreatDoor

namespace Go.Proofs.YtfolnkmbdmfigaaGreatDoor
open Go.RowKit
def both (c r : Int) : Prop := (c = r ∧ r ≤ 1114111) ∨ (1114111 < c ∧ 1114111 < r)
theorem both_may {c r : Int} (h : both c r) : Ch.may c = Ch.may r := by
  rcases h with ⟨h, _⟩ | ⟨h1, h2⟩
  · rw [h]
  · rw [Ch.may_false (by omega), Ch.may_false (by omega)]
theorem both_of_may {c r : Int} (h : both c r) (hm : Ch.may r = true) : c = r := by
  rcases h with ⟨h, _⟩ | ⟨h1, h2⟩
  · exact h
  · rw [Ch.may_false (by omega)] at hm; cases hm
def numR (s : ByteArray) (p : Nat) (b : Int) : Int × Int := if (Ch.numFrom s b (s.size - p + 1) p 0).2 = 0 then (0, -1) else Ch.numFrom s b (s.size - p + 1) p 0
theorem numR_none {s : ByteArray} {p : Nat} {b : Int} (h : Ch.numFrom s b (s.size - p + 1) p 0 = (0, 0)) : numR s p b = (0, -1) := by simp [numR, h]
theorem numR_some {s : ByteArray} {p : Nat} {b n : Int} {q : Nat} (h : Ch.numFrom s b (s.size - p + 1) p 0 = (n, (q : Int) + 1)) : numR s p b = (n, (q : Int) + 1) := by
  have : ¬ ((q : Int) + 1 = 0) := by omega
  simp [numR, h, this]
theorem dig_two (c : Int) : (Ch.dig (-1) c = -1 ∧ Ch.dig 16 c = 16) ∨ (Ch.dig (-1) c = Ch.dig 16 c ∧ 0 ≤ Ch.dig 16 c ∧ Ch.dig 16 c ≤ 15) := by
  unfold Ch.dig
  repeat' split
  all_goals omega
theorem dig_semi : Ch.dig 16 59 = 16 := by decide
theorem both_step10 {c r d : Int} (h : both c r) (_h0 : 0 ≤ r) (d0 : 0 ≤ d) (d1 : d < 10) : both (if c ≤ 1114111 then c * 10 + d else c) (min (r * 10 + d) 2097152) := by
  unfold both at *
  split <;> omega
theorem both_step16 {c r d : Int} (h : both c r) (_h0 : 0 ≤ r) (d0 : 0 ≤ d) (d1 : d < 16) : both (if c ≤ 1114111 then c * 16 + d else c) (min (r * 16 + d) 2097152) := by
  unfold both at *
  split <;> omega
theorem num_zero {s : ByteArray} {b c : Int} {f p : Nat} {X : Int × Int} (h0 : c = 0) (hd : ¬ Ch.dig 16 (Ch.bz s p) < b) (h : Ch.numFrom s b (f + 1) p c = X) : X = (0, 0) := by
  subst h0
  by_cases e : Ch.bz s p = 59
  · have := Ch.num_semi e h
    rw [if_neg (by decide)] at this
    exact this
  · exact Ch.num_no e (by omega) h
set_option maxHeartbeats 4000000 in
set_option maxRecDepth 1000000 in
theorem numberedR10 (s : ByteArray) (p : Nat) (w : World) (hs : s.size ≤ 1125899906842624) (hp : p ≤ s.size) :
    Calls Tryz.prog 100 #[.string s, .int .i64 p, .int .i64 10] w fun e w' => e = .returned (.tuple #[.int .i64 (numR s p 10).1, .int .i64 (numR s p 10).2]) ∧ w' = w := by
  have hm : s.size ≤ maxLen := by unfold maxLen; omega
  go_enter Tryz.func100, Tryz.ntmps100
  go_wp2
  go_loop [1, 9, 10] (fun i n _ => ∃ (pos fuel : Nat) (c r : Int), i = .int .i64 pos ∧ n = .int .i64 r ∧ Hid (both c r) ∧ 0 ≤ r ∧ r ≤ 2097152 ∧ Hid (Ch.numFrom s 10 fuel pos c = Ch.numFrom s 10 (s.size - p + 1) p 0) ∧ s.size < pos + fuel ∧ p ≤ pos ∧ pos ≤ s.size ∧ Hid (pos = p → c = 0)) (fun i _ _ => s.size - (intOf i).toNat)
  case atStart => exact ⟨p, s.size - p + 1, 0, 0, rfl, rfl, Or.inl ⟨rfl, by omega⟩, by omega, by omega, rfl, by omega, by omega, by omega, fun _ => rfl⟩
  case round =>
    obtain ⟨pos, fuel, c, r, rfl, rfl, HBo, hr0, hr1, HC, hf, hpp, hps, HZ⟩ := hrel
    obtain ⟨f, rfl⟩ : ∃ f, fuel = f + 1 := ⟨fuel - 1, by omega⟩
    have hbz := Ch.bz_bd s pos
    have hdt := dig_two (Ch.bz s pos)
    by_cases hd : Ch.dig 16 (Ch.bz s pos) < 10
    · have hd0 : 0 ≤ Ch.dig (-1) (Ch.bz s pos) ∧ Ch.dig (-1) (Ch.bz s pos) < 10 := by omega
      have hde : Ch.dig 16 (Ch.bz s pos) = Ch.dig (-1) (Ch.bz s pos) := by omega
      have hsemi : ¬ Ch.bz s pos = 59 := fun e => by rw [e, dig_semi] at hd; omega
      have hlt : pos < s.size := by
        have := Ch.dig_ascii (b := 10) (by omega) (by omega : ¬ 10 ≤ Ch.dig 16 (Ch.bz s pos))
        exact (Ch.bz_get this.1).1
      have HN := hide (Ch.num_on hsemi (by omega) HC.out)
      rw [hde] at HN
      have HS := hide (both_step10 HBo.out hr0 hd0.1 hd0.2)
      clear hdt hd hde hsemi
      go_wp2_with (first | (go_at_call 102; refine (byteAt_int _ _ _ hm (by omega)).mono ?_; rintro e w' ⟨rfl, rfl⟩; rw [Int.toNat_natCast]) | (go_at_call 135; refine (digitR_any _ _ (by omega) (by omega)).mono ?_; rintro e w' ⟨rfl, rfl⟩) | (go_at_call 103; refine (May_any _ _).mono ?_; rintro e w' ⟨rfl, rfl⟩))
      exact ⟨⟨pos + 1, f, _, _, by go_num, rfl, HS, by omega, by omega, HN, by omega, by omega, by omega, fun e => by omega⟩, by simp [intOf]; omega⟩
    · have hdd : Ch.dig (-1) (Ch.bz s pos) < 0 ∨ 10 ≤ Ch.dig (-1) (Ch.bz s pos) := by omega
      by_cases hpz : pos = p
      · have HN := hide (numR_none (num_zero (HZ.out hpz) hd HC.out))
        have hq : ((pos : Int) == (p : Int)) = true := by rw [beq_iff_eq]; omega
        clear hpz hd hdt
        rcases hdd with hdd | hdd
        all_goals
          go_wp2_with (first | (go_at_call 102; refine (byteAt_int _ _ _ hm (by omega)).mono ?_; rintro e w' ⟨rfl, rfl⟩; rw [Int.toNat_natCast]) | (go_at_call 135; refine (digitR_any _ _ (by omega) (by omega)).mono ?_; rintro e w' ⟨rfl, rfl⟩) | (go_at_call 103; refine (May_any _ _).mono ?_; rintro e w' ⟨rfl, rfl⟩))
          go_ret2
          refine ⟨?_, rfl⟩
          rw [HN.out]; rfl
      · have hq : ((pos : Int) == (p : Int)) = false := by rw [beq_eq_false_iff_ne]; omega
        by_cases h59 : Ch.bz s pos = 59
        · have HX := Ch.num_semi h59 HC.out
          rw [both_may HBo.out] at HX
          have hq2 : (Ch.bz s pos != 59) = false := by rw [h59]; rfl
          clear h59 hpz hd hdt
          cases hmay : Ch.may r
          · rw [hmay] at HX
            have HN := hide (numR_none HX)
            clear HX
            rcases hdd with hdd | hdd
            all_goals
              go_wp2_with (first | (go_at_call 102; refine (byteAt_int _ _ _ hm (by omega)).mono ?_; rintro e w' ⟨rfl, rfl⟩; rw [Int.toNat_natCast]) | (go_at_call 135; refine (digitR_any _ _ (by omega) (by omega)).mono ?_; rintro e w' ⟨rfl, rfl⟩) | (go_at_call 103; refine (May_any _ _).mono ?_; rintro e w' ⟨rfl, rfl⟩))
              go_ret2
              refine ⟨?_, rfl⟩
              rw [HN.out]; rfl
          · rw [hmay, both_of_may HBo.out hmay] at HX
            have HN := hide (numR_some HX)
            clear HX
            rcases hdd with hdd | hdd
            all_goals
              go_wp2_with (first | (go_at_call 102; refine (byteAt_int _ _ _ hm (by omega)).mono ?_; rintro e w' ⟨rfl, rfl⟩; rw [Int.toNat_natCast]) | (go_at_call 135; refine (digitR_any _ _ (by omega) (by omega)).mono ?_; rintro e w' ⟨rfl, rfl⟩) | (go_at_call 103; refine (May_any _ _).mono ?_; rintro e w' ⟨rfl, rfl⟩))
              go_ret2
              refine ⟨?_, rfl⟩
              rw [HN.out]; rfl
        · have HN := hide (numR_none (Ch.num_no h59 (by omega) HC.out))
          have hq2 : (Ch.bz s pos != 59) = true := by rw [bne_iff_ne]; exact h59
          clear h59 hpz hd hdt
          rcases hdd with hdd | hdd
          all_goals
            go_wp2_with (first | (go_at_call 102; refine (byteAt_int _ _ _ hm (by omega)).mono ?_; rintro e w' ⟨rfl, rfl⟩; rw [Int.toNat_natCast]) | (go_at_call 135; refine (digitR_any _ _ (by omega) (by omega)).mono ?_; rintro e w' ⟨rfl, rfl⟩) | (go_at_call 103; refine (May_any _ _).mono ?_; rintro e w' ⟨rfl, rfl⟩))
            go_ret2
            refine ⟨?_, rfl⟩
            rw [HN.out]; rfl
set_option maxHeartbeats 4000000 in
set_option maxRecDepth 1000000 in
theorem numberedR16 (s : ByteArray) (p : Nat) (w : World) (hs : s.size ≤ 1125899906842624) (hp : p ≤ s.size) :
    Calls Tryz.prog 100 #[.string s, .int .i64 p, .int .i64 16] w fun e w' => e = .returned (.tuple #[.int .i64 (numR s p 16).1, .int .i64 (numR s p 16).2]) ∧ w' = w := by
  have hm : s.size ≤ maxLen := by unfold maxLen; omega
  go_enter Tryz.func100, Tryz.ntmps100
  go_wp2
  go_loop [1, 9, 10] (fun i n _ => ∃ (pos fuel : Nat) (c r : Int), i = .int .i64 pos ∧ n = .int .i64 r ∧ Hid (both c r) ∧ 0 ≤ r ∧ r ≤ 2097152 ∧ Hid (Ch.numFrom s 16 fuel pos c = Ch.numFrom s 16 (s.size - p + 1) p 0) ∧ s.size < pos + fuel ∧ p ≤ pos ∧ pos ≤ s.size ∧ Hid (pos = p → c = 0)) (fun i _ _ => s.size - (intOf i).toNat)
  case atStart => exact ⟨p, s.size - p + 1, 0, 0, rfl, rfl, Or.inl ⟨rfl, by omega⟩, by omega, by omega, rfl, by omega, by omega, by omega, fun _ => rfl⟩
  case round =>
    obtain ⟨pos, fuel, c, r, rfl, rfl, HBo, hr0, hr1, HC, hf, hpp, hps, HZ⟩ := hrel
    obtain ⟨f, rfl⟩ : ∃ f, fuel = f + 1 := ⟨fuel - 1, by omega⟩
    have hbz := Ch.bz_bd s pos
    have hdt := dig_two (Ch.bz s pos)
    by_cases hd : Ch.dig 16 (Ch.bz s pos) < 16
    · have hd0 : 0 ≤ Ch.dig (-1) (Ch.bz s pos) ∧ Ch.dig (-1) (Ch.bz s pos) < 16 := by omega
      have hde : Ch.dig 16 (Ch.bz s pos) = Ch.dig (-1) (Ch.bz s pos) := by omega
      have hsemi : ¬ Ch.bz s pos = 59 := fun e => by rw [e, dig_semi] at hd; omega
      have hlt : pos < s.size := by
        have := Ch.dig_ascii (b := 16) (by omega) (by omega : ¬ 16 ≤ Ch.dig 16 (Ch.bz s pos))
        exact (Ch.bz_get this.1).1
      have HN := hide (Ch.num_on hsemi (by omega) HC.out)
      rw [hde] at HN
      have HS := hide (both_step16 HBo.out hr0 hd0.1 hd0.2)
      clear hdt hd hde hsemi
      go_wp2_with (first | (go_at_call 102; refine (byteAt_int _ _ _ hm (by omega)).mono ?_; rintro e w' ⟨rfl, rfl⟩; rw [Int.toNat_natCast]) | (go_at_call 135; refine (digitR_any _ _ (by omega) (by omega)).mono ?_; rintro e w' ⟨rfl, rfl⟩) | (go_at_call 103; refine (May_any _ _).mono ?_; rintro e w' ⟨rfl, rfl⟩))
      exact ⟨⟨pos + 1, f, _, _, by go_num, rfl, HS, by omega, by omega, HN, by omega, by omega, by omega, fun e => by omega⟩, by simp [intOf]; omega⟩
    · have hdd : Ch.dig (-1) (Ch.bz s pos) < 0 ∨ 16 ≤ Ch.dig (-1) (Ch.bz s pos) := by omega
      by_cases hpz : pos = p
      · have HN := hide (numR_none (num_zero (HZ.out hpz) hd HC.out))
        have hq : ((pos : Int) == (p : Int)) = true := by rw [beq_iff_eq]; omega
        clear hpz hd hdt
        rcases hdd with hdd | hdd
        all_goals
          go_wp2_with (first | (go_at_call 102; refine (byteAt_int _ _ _ hm (by omega)).mono ?_; rintro e w' ⟨rfl, rfl⟩; rw [Int.toNat_natCast]) | (go_at_call 135; refine (digitR_any _ _ (by omega) (by omega)).mono ?_; rintro e w' ⟨rfl, rfl⟩) | (go_at_call 103; refine (May_any _ _).mono ?_; rintro e w' ⟨rfl, rfl⟩))
          go_ret2
          refine ⟨?_, rfl⟩
          rw [HN.out]; rfl
      · have hq : ((pos : Int) == (p : Int)) = false := by rw [beq_eq_false_iff_ne]; omega
        by_cases h59 : Ch.bz s pos = 59
        · have HX := Ch.num_semi h59 HC.out
          rw [both_may HBo.out] at HX
          have hq2 : (Ch.bz s pos != 59) = false := by rw [h59]; rfl
          clear h59 hpz hd hdt
          cases hmay : Ch.may r
          · rw [hmay] at HX
            have HN := hide (numR_none HX)
            clear HX
            rcases hdd with hdd | hdd
            all_goals
              go_wp2_with (first | (go_at_call 102; refine (byteAt_int _ _ _ hm (by omega)).mono ?_; rintro e w' ⟨rfl, rfl⟩; rw [Int.toNat_natCast]) | (go_at_call 135; refine (digitR_any _ _ (by omega) (by omega)).mono ?_; rintro e w' ⟨rfl, rfl⟩) | (go_at_call 103; refine (May_any _ _).mono ?_; rintro e w' ⟨rfl, rfl⟩))
              go_ret2
              refine ⟨?_, rfl⟩
              rw [HN.out]; rfl
          · rw [hmay, both_of_may HBo.out hmay] at HX
            have HN := hide (numR_some HX)
            clear HX
            rcases hdd with hdd | hdd
            all_goals
              go_wp2_with (first | (go_at_call 102; refine (byteAt_int _ _ _ hm (by omega)).mono ?_; rintro e w' ⟨rfl, rfl⟩; rw [Int.toNat_natCast]) | (go_at_call 135; refine (digitR_any _ _ (by omega) (by omega)).mono ?_; rintro e w' ⟨rfl, rfl⟩) | (go_at_call 103; refine (May_any _ _).mono ?_; rintro e w' ⟨rfl, rfl⟩))
              go_ret2
              refine ⟨?_, rfl⟩
              rw [HN.out]; rfl
        · have HN := hide (numR_none (Ch.num_no h59 (by omega) HC.out))
          have hq2 : (Ch.bz s pos != 59) = true := by rw [bne_iff_ne]; exact h59
          clear h59 hpz hd hdt
          rcases hdd with hdd | hdd
          all_goals
            go_wp2_with (first | (go_at_call 102; refine (byteAt_int _ _ _ hm (by omega)).mono ?_; rintro e w' ⟨rfl, rfl⟩; rw [Int.toNat_natCast]) | (go_at_call 135; refine (digitR_any _ _ (by omega) (by omega)).mono ?_; rintro e w' ⟨rfl, rfl⟩) | (go_at_call 103; refine (May_any _ _).mono ?_; rintro e w' ⟨rfl, rfl⟩))
            go_ret2
            refine ⟨?_, rfl⟩
            rw [HN.out]; rfl
end Go.Proofs.YtfolnkmbdmfigaaGreatDoor

namespace Go.Proofs.YtfolnkmbdmfigaaGreatDoor
open Go.RowKit
def refR (s : ByteArray) (i : Nat) : List UInt8 × Int := if (Ch.refAt s i).2 = 0 then ([], -1) else (Lib.encodeRune (Ch.refAt s i).1, (i : Int) + (Ch.refAt s i).2)
theorem numberedR16_int (s : ByteArray) (j : Int) (w : World) (hs : s.size ≤ 1125899906842624) (h0 : 0 ≤ j) (h1 : j ≤ s.size) :
    Calls Tryz.prog 100 #[.string s, .int .i64 j, .int .i64 16] w fun e w' => e = .returned (.tuple #[.int .i64 (numR s j.toNat 16).1, .int .i64 (numR s j.toNat 16).2]) ∧ w' = w := by
  obtain ⟨n, rfl⟩ := Int.eq_ofNat_of_zero_le h0
  rw [Int.toNat_natCast]
  exact numberedR16 s n w hs (by omega)
theorem numberedR10_int (s : ByteArray) (j : Int) (w : World) (hs : s.size ≤ 1125899906842624) (h0 : 0 ≤ j) (h1 : j ≤ s.size) :
    Calls Tryz.prog 100 #[.string s, .int .i64 j, .int .i64 10] w fun e w' => e = .returned (.tuple #[.int .i64 (numR s j.toNat 10).1, .int .i64 (numR s j.toNat 10).2]) ∧ w' = w := by
  obtain ⟨n, rfl⟩ := Int.eq_ofNat_of_zero_le h0
  rw [Int.toNat_natCast]
  exact numberedR10 s n w hs (by omega)
theorem numR_parts (s : ByteArray) (p : Nat) (b : Int) (hb : b ≤ 16) : ((Ch.numAt s p b).2 = 0 ∧ numR s p b = (0, -1)) ∨ (¬ (Ch.numAt s p b).2 = 0 ∧ 0 ≤ (numR s p b).2 ∧ (numR s p b).1 = (Ch.numAt s p b).1 ∧ (numR s p b).2 = (p : Int) + (Ch.numAt s p b).2 ∧ Ch.may (numR s p b).1 = true) := by
  by_cases h : (Ch.numFrom s b (s.size - p + 1) p 0).2 = 0
  · refine Or.inl ⟨by simp [Ch.numAt, h], by simp [numR, h]⟩
  · obtain ⟨h1, h2, h3, h4, h5⟩ := Ch.numFrom_spec s b hb _ _ _ h
    refine Or.inr ?_
    have e1 : numR s p b = Ch.numFrom s b (s.size - p + 1) p 0 := by simp [numR, h]
    have e2 : Ch.numAt s p b = ((Ch.numFrom s b (s.size - p + 1) p 0).1, (Ch.numFrom s b (s.size - p + 1) p 0).2 - p) := by simp [Ch.numAt, h]
    rw [e1, e2]
    refine ⟨?_, by omega, rfl, ?_, h1⟩ <;> simp only <;> omega
set_option maxHeartbeats 4000000 in
set_option maxRecDepth 1000000 in
theorem Ref_any (s : ByteArray) (i : Nat) (w : World) (hs : s.size ≤ 1125899906842624) (hi : i ≤ s.size) :
    Calls Tryz.prog 73 #[.string s, .int .i64 i] w fun e w' => e = .returned (.tuple #[.string ⟨(refR s i).1.toArray⟩, .int .i64 (refR s i).2]) ∧ Below w.heap.size w w' := by
  cases h0 : Ch.has s i [38, 108, 116, 59]
  rotate_left
  · have hR : refR s i = ([60], (i : Int) + 4) := by
      have : Ch.refAt s i = (60, 4) := by simp [Ch.refAt, h0]
      simp [refR, this]; decide
    have HR := hide hR
    clear hR
    go_enter Tryz.func73, Tryz.ntmps73
    go_wp2_with (go_at_call 99; refine (is_any _ _ _ _ hs hi (by decide) (by decide)).mono ?_; rintro e w' ⟨rfl, rfl⟩)
    go_ret2
    refine ⟨?_, Below.refl _ _⟩
    rw [HR.out]; rfl
  cases h1 : Ch.has s i [38, 103, 116, 59]
  rotate_left
  · have hR : refR s i = ([62], (i : Int) + 4) := by
      have : Ch.refAt s i = (62, 4) := by simp [Ch.refAt, h0, h1]
      simp [refR, this]; decide
    have HR := hide hR
    clear hR
    go_enter Tryz.func73, Tryz.ntmps73
    go_wp2_with (go_at_call 99; refine (is_any _ _ _ _ hs hi (by decide) (by decide)).mono ?_; rintro e w' ⟨rfl, rfl⟩)
    go_ret2
    refine ⟨?_, Below.refl _ _⟩
    rw [HR.out]; rfl
  cases h2 : Ch.has s i [38, 97, 109, 112, 59]
  rotate_left
  · have hR : refR s i = ([38], (i : Int) + 5) := by
      have : Ch.refAt s i = (38, 5) := by simp [Ch.refAt, h0, h1, h2]
      simp [refR, this]; decide
    have HR := hide hR
    clear hR
    go_enter Tryz.func73, Tryz.ntmps73
    go_wp2_with (go_at_call 99; refine (is_any _ _ _ _ hs hi (by decide) (by decide)).mono ?_; rintro e w' ⟨rfl, rfl⟩)
    go_ret2
    refine ⟨?_, Below.refl _ _⟩
    rw [HR.out]; rfl
  cases h3 : Ch.has s i [38, 113, 117, 111, 116, 59]
  rotate_left
  · have hR : refR s i = ([34], (i : Int) + 6) := by
      have : Ch.refAt s i = (34, 6) := by simp [Ch.refAt, h0, h1, h2, h3]
      simp [refR, this]; decide
    have HR := hide hR
    clear hR
    go_enter Tryz.func73, Tryz.ntmps73
    go_wp2_with (go_at_call 99; refine (is_any _ _ _ _ hs hi (by decide) (by decide)).mono ?_; rintro e w' ⟨rfl, rfl⟩)
    go_ret2
    refine ⟨?_, Below.refl _ _⟩
    rw [HR.out]; rfl
  cases h4 : Ch.has s i [38, 97, 112, 111, 115, 59]
  rotate_left
  · have hR : refR s i = ([39], (i : Int) + 6) := by
      have : Ch.refAt s i = (39, 6) := by simp [Ch.refAt, h0, h1, h2, h3, h4]
      simp [refR, this]; decide
    have HR := hide hR
    clear hR
    go_enter Tryz.func73, Tryz.ntmps73
    go_wp2_with (go_at_call 99; refine (is_any _ _ _ _ hs hi (by decide) (by decide)).mono ?_; rintro e w' ⟨rfl, rfl⟩)
    go_ret2
    refine ⟨?_, Below.refl _ _⟩
    rw [HR.out]; rfl
  cases h5 : Ch.has s i [38, 35, 120]
  rotate_left
  · have hsz := Ch.has_size h5 (by decide)
    simp only [List.length_cons, List.length_nil] at hsz
    have hj : ((i : Int) + 3).toNat = i + 3 := by omega
    have HJ := hide hj
    clear hj
    rcases numR_parts s (i + 3) 16 (by decide) with ⟨hz, hn⟩ | ⟨hz, hn0, hn1, hn2, hm⟩
    · have hR : refR s i = ([], -1) := by
        have : (Ch.refAt s i).2 = 0 := by simp [Ch.refAt, h0, h1, h2, h3, h4, h5, hz]
        simp [refR, this]
      have HR := hide hR
      have HN := hide hn
      clear hR hn hz
      go_enter Tryz.func73, Tryz.ntmps73
      go_wp2_with (first | (go_at_call 99; refine (is_any _ _ _ _ hs hi (by decide) (by decide)).mono ?_; rintro e w' ⟨rfl, rfl⟩) | (go_at_call 100; refine (numberedR16_int _ _ _ hs (by omega) (by omega)).mono ?_; rintro e w' ⟨rfl, rfl⟩; rw [HJ.out, HN.out]))
      go_ret2
      refine ⟨?_, Below.refl _ _⟩
      rw [HR.out]; rfl
    · have hR : refR s i = (Lib.encodeRune (numR s (i + 3) 16).1, (numR s (i + 3) 16).2) := by
        have h1 : Ch.refAt s i = ((Ch.numAt s (i + 3) 16).1, 3 + (Ch.numAt s (i + 3) 16).2) := by simp [Ch.refAt, h0, h1, h2, h3, h4, h5, hz]
        have hsp := Ch.numAt_spec (by decide) hz
        have h2 : ¬ (Ch.refAt s i).2 = 0 := by rw [h1]; simp only; omega
        unfold refR
        rw [if_neg h2, h1, hn1, hn2]
        simp only
        congr 1
        omega
      have HR := hide hR
      clear hR hn1 hn2 hz
      have HM := hide hm
      clear hm
      generalize hX : numR s (i + 3) 16 = X at *
      have HX := hide hX
      clear hX
      go_enter Tryz.func73, Tryz.ntmps73
      go_wp2_with (first | (go_at_call 99; refine (is_any _ _ _ _ hs hi (by decide) (by decide)).mono ?_; rintro e w' ⟨rfl, rfl⟩) | (go_at_call 100; refine (numberedR16_int _ _ _ hs (by omega) (by omega)).mono ?_; rintro e w' ⟨rfl, rfl⟩; rw [HJ.out, HX.out]) | (go_at_call 101; refine (Write_any _ _ HM.out).mono ?_; rintro e w1 ⟨rfl, b1⟩))
      go_ret2
      refine ⟨?_, b1⟩
      rw [HR.out]; rfl
  cases h6 : Ch.has s i [38, 35]
  rotate_left
  · have hsz := Ch.has_size h6 (by decide)
    simp only [List.length_cons, List.length_nil] at hsz
    have hj : ((i : Int) + 2).toNat = i + 2 := by omega
    have HJ := hide hj
    clear hj
    rcases numR_parts s (i + 2) 10 (by decide) with ⟨hz, hn⟩ | ⟨hz, hn0, hn1, hn2, hm⟩
    · have hR : refR s i = ([], -1) := by
        have : (Ch.refAt s i).2 = 0 := by simp [Ch.refAt, h0, h1, h2, h3, h4, h5, h6, hz]
        simp [refR, this]
      have HR := hide hR
      have HN := hide hn
      clear hR hn hz
      go_enter Tryz.func73, Tryz.ntmps73
      go_wp2_with (first | (go_at_call 99; refine (is_any _ _ _ _ hs hi (by decide) (by decide)).mono ?_; rintro e w' ⟨rfl, rfl⟩) | (go_at_call 100; refine (numberedR10_int _ _ _ hs (by omega) (by omega)).mono ?_; rintro e w' ⟨rfl, rfl⟩; rw [HJ.out, HN.out]))
      go_ret2
      refine ⟨?_, Below.refl _ _⟩
      rw [HR.out]; rfl
    · have hR : refR s i = (Lib.encodeRune (numR s (i + 2) 10).1, (numR s (i + 2) 10).2) := by
        have h1 : Ch.refAt s i = ((Ch.numAt s (i + 2) 10).1, 2 + (Ch.numAt s (i + 2) 10).2) := by simp [Ch.refAt, h0, h1, h2, h3, h4, h5, h6, hz]
        have hsp := Ch.numAt_spec (by decide) hz
        have h2 : ¬ (Ch.refAt s i).2 = 0 := by rw [h1]; simp only; omega
        unfold refR
        rw [if_neg h2, h1, hn1, hn2]
        simp only
        congr 1
        omega
      have HR := hide hR
      clear hR hn1 hn2 hz
      have HM := hide hm
      clear hm
      generalize hX : numR s (i + 2) 10 = X at *
      have HX := hide hX
      clear hX
      go_enter Tryz.func73, Tryz.ntmps73
      go_wp2_with (first | (go_at_call 99; refine (is_any _ _ _ _ hs hi (by decide) (by decide)).mono ?_; rintro e w' ⟨rfl, rfl⟩) | (go_at_call 100; refine (numberedR10_int _ _ _ hs (by omega) (by omega)).mono ?_; rintro e w' ⟨rfl, rfl⟩; rw [HJ.out, HX.out]) | (go_at_call 101; refine (Write_any _ _ HM.out).mono ?_; rintro e w1 ⟨rfl, b1⟩))
      go_ret2
      refine ⟨?_, b1⟩
      rw [HR.out]; rfl
  have hR : refR s i = ([], -1) := by
    have : Ch.refAt s i = (0, 0) := by simp [Ch.refAt, h0, h1, h2, h3, h4, h5, h6]
    simp [refR, this]
  have HR := hide hR
  clear hR
  go_enter Tryz.func73, Tryz.ntmps73
  go_wp2_with (go_at_call 99; refine (is_any _ _ _ _ hs hi (by decide) (by decide)).mono ?_; rintro e w' ⟨rfl, rfl⟩)
  go_ret2
  refine ⟨?_, Below.refl _ _⟩
  rw [HR.out]; rfl
end Go.Proofs.YtfolnkmbdmfigaaGreatDoor

namespace Go.Proofs.YtfolnkmbdmfigaaGreatDoor
open Go.RowKit
structure Kept (R : Nat) (row : Option Nat) (w w' : World) : Prop where
  os : w'.os = w.os
  tape : w'.tape = w.tape
  output : w'.output = w.output
  size : w.heap.size ≤ w'.heap.size
  block : ∀ k, k < w.heap.size → k ≠ R → some k ≠ row → w'.heap[k]? = w.heap[k]?
theorem cell_of {w : World} {R i : Nat} {cs : Array Value} {t : TypeId} {v : Value} (h : w.heap[R]? = some (.cells cs t (0, 0))) (hi : cs[i]? = some v) : w.cell? ⟨R, i, none⟩ = some v := by
  simp [World.cell?, h, hi]
theorem free_of {w : World} {R i : Nat} {cs : Array Value} {t : TypeId} (h : w.heap[R]? = some (.cells cs t (0, 0))) : w.frozen? ⟨R, i, none⟩ = false := by
  simp [World.frozen?, h]
theorem set_of {w : World} {R i : Nat} {cs : Array Value} {t : TypeId} (h : w.heap[R]? = some (.cells cs t (0, 0))) (v : Value) : (w.setCell ⟨R, i, none⟩ v).heap[R]? = some (.cells (cs.setIfInBounds i v) t (0, 0)) := by
  rw [setCell_eq_setRow w R i cs t (0, 0) v h]
  exact setRow_heap w R cs _ t _ h
theorem owns_setCell {w : World} {B : Nat} {v : Value} {n : Nat} {xs : List Value} (h : w.ownsRow B 5 1 v n xs) (a : Addr) (u : Value) (hne : v.ownBlock ≠ some a.block) : (w.setCell a u).ownsRow B 5 1 v n xs := by
  refine h.kept (row := some a.block) ⟨rfl, rfl, rfl, by simp [World.setCell], fun k _ hk => Below.heap_setCell _ _ _ _ (fun e => hk (by rw [e]))⟩ ?_
  exact Or.inr hne
theorem owns_ne {w : World} {B : Nat} {v : Value} {n : Nat} {xs : List Value} (h : w.ownsRow B 5 1 v n xs) {R : Nat} {cs : Array Value} {t : TypeId} (hb : w.heap[R]? = some (.cells cs t (0, 0))) (ht : t ≠ 5) : v.ownBlock ≠ some R := by
  intro he
  rcases h.2 with ⟨rfl, _⟩ | ⟨g, cap, cur, rfl, _, hg, _⟩
  · simp [Value.ownBlock] at he
  · simp [Value.ownBlock] at he
    subst he
    rw [hb] at hg
    simp only [Option.some.injEq, Obj.cells.injEq] at hg
    exact ht hg.2.1
theorem slice_len {w : World} {B : Nat} {e : TypeId} {s : Nat} {v : Value} {n : Nat} {xs : List Value} (h : w.ownsRow B e s v n xs) : ∃ ao cap, v = .slice ao n cap := by
  rcases h.2 with ⟨rfl, rfl⟩ | ⟨g, cap, cur, rfl, _⟩
  · exact ⟨_, _, rfl⟩
  · exact ⟨_, _, rfl⟩
def PutEnd (R i B : Nat) (cs : Array Value) (t : TypeId) (v : Value) (n : Nat) (xs news : List Value) (a p : Int) (w : World) (e : Ending) (w' : World) : Prop :=
  e = .returned (.tuple #[]) ∧ ∃ v', w'.ownsRow B 5 1 v' (n + news.length) (xs ++ news) ∧
    w'.heap[R]? = some (.cells ((cs.setIfInBounds (i + 1) (.int .i64 (if n = 0 then p else a))).setIfInBounds i v') t (0, 0)) ∧
    Kept R v.ownBlock w w' ∧ (v'.ownBlock = v.ownBlock ∨ ∃ k, v'.ownBlock = some k ∧ w.heap.size ≤ k)
theorem put_close {R i B : Nat} {cs cs2 : Array Value} {t : TypeId} {v v' : Value} {n : Nat} {xs news : List Value} {a p : Int} {w w0 w1 : World}
    (hcs : cs2 = cs.setIfInBounds (i + 1) (.int .i64 (if n = 0 then p else a)))
    (hb : w0.heap[R]? = some (.cells cs2 t (0, 0))) (ht : t ≠ 5) (hk : Kept R v.ownBlock w w0) (hv : v.ownBlock ≠ some R) (hsz : w0.heap.size = w.heap.size)
    (ho : w1.ownsRow B 5 1 v' (n + news.length) (xs ++ news)) (hg : ∃ o, (w0.alloc o).grownBy w1 v.ownBlock) (hat : v'.ownBlock = v.ownBlock ∨ v'.ownBlock = some (w0.heap.size + 1)) :
    w1.heap[R]? = some (.cells cs2 t (0, 0)) ∧ PutEnd R i B cs t v n xs news a p w (.returned (.tuple #[])) (w1.setCell ⟨R, i, none⟩ v') := by
  obtain ⟨o, hg⟩ := hg
  have hR : R < w0.heap.size := (Array.getElem?_eq_some_iff.1 hb).1
  have hb1 : w1.heap[R]? = some (.cells cs2 t (0, 0)) := by
    rw [hg.block R (by simp; omega) (fun e => hv e.symm), Below.heap_alloc _ _ _ hR]
    exact hb
  refine ⟨hb1, rfl, v', owns_setCell ho _ _ (owns_ne ho hb1 ht), ?_, ?_, ?_⟩
  · rw [← hcs]; exact set_of hb1 _
  · have hs1 : w0.heap.size ≤ w1.heap.size := by have := hg.size; simp at this; omega
    refine ⟨hg.os.trans hk.os, hg.tape.trans hk.tape, hg.output.trans hk.output, ?_, ?_⟩
    · simp [World.setCell]; omega
    · intro k h1 h2 h3
      rw [Below.heap_setCell _ _ _ _ h2, hg.block k (by simp; omega) h3, Below.heap_alloc _ _ _ (by omega)]
      exact hk.block k h1 h2 h3
  · rcases hat with h | h
    · exact Or.inl h
    · exact Or.inr ⟨_, h, by omega⟩
set_option maxHeartbeats 1000000 in
theorem put_first (R i B : Nat) (cs : Array Value) (t : TypeId) (v : Value) (xs : List Value) (a p c : Int) (w : World)
    (hb : w.heap[R]? = some (.cells cs t (0, 0))) (ht : t ≠ 5) (h0 : cs[i]? = some v) (h1 : cs[i + 1]? = some (.int .i64 a)) (hown : w.ownsRow B 5 1 v 0 xs) (hc : Scalar c) (hBw : B ≤ w.heap.size) :
    Calls Tryz.prog 57 #[.pointer (some ⟨R, i, none⟩), .int .i32 c, .int .i64 p] w (PutEnd R i B cs t v 0 xs (Lib.runeCells c) a p w) := by
  obtain ⟨ao, cap, rfl⟩ := slice_len hown
  have c0 := cell_of hb h0
  have c1 := cell_of hb h1
  have f1 := free_of (i := i + 1) hb
  have hne := owns_ne hown hb ht
  have hb0 := set_of (i := i + 1) hb (.int .i64 p)
  have c2 := cell_of (i := i) (v := .slice ao 0 cap) hb0 (by rw [Array.getElem?_setIfInBounds_ne (by omega)]; exact h0)
  have hap := appendRune_at B _ 0 xs c hc (w.setCell ⟨R, i + 1, none⟩ (.int .i64 p)) (owns_setCell hown _ _ hne) (by omega) (by simpa [World.setCell] using hBw)
  have hk : Kept R (Value.ownBlock (.slice ao 0 cap)) w (w.setCell ⟨R, i + 1, none⟩ (.int .i64 p)) := ⟨rfl, rfl, rfl, by simp [World.setCell], fun k _ h2 _ => Below.heap_setCell _ _ _ _ h2⟩
  generalize Lib.runeCells c = news at *
  have H0 := hide h0
  clear hb h0 h1 hown hc hBw
  go_enter Tryz.func57, Tryz.ntmps57
  go_wp2_with (go_at_call 87; refine hap.mono ?_)
  rintro e w1 ⟨v', rfl, ho, hg, hat⟩
  obtain ⟨hb1, hfin⟩ := put_close (cs := cs) (a := a) (p := p) (i := i) (by simp) hb0 ht hk hne (by simp [World.setCell]) ho hg hat
  obtain ⟨ao', cap', rfl⟩ := slice_len ho
  have c3 := cell_of (i := i) (v := .slice ao 0 cap) hb1 (by rw [Array.getElem?_setIfInBounds_ne (by omega)]; exact H0.out)
  have f3 := free_of (i := i) hb1
  clear hap hk hne hb0 hb1 ho hg hat
  go_wp2
  go_end0
  rw [Nat.zero_add] at hfin
  exact hfin
set_option maxHeartbeats 1000000 in
theorem put_more (R i B : Nat) (cs : Array Value) (t : TypeId) (v : Value) (n : Nat) (xs : List Value) (a p c : Int) (w : World)
    (hb : w.heap[R]? = some (.cells cs t (0, 0))) (ht : t ≠ 5) (h0 : cs[i]? = some v) (h1 : cs[i + 1]? = some (.int .i64 a)) (hown : w.ownsRow B 5 1 v n xs) (hc : Scalar c) (hBw : B ≤ w.heap.size) (hn : 0 < n) (hn2 : n + 4 ≤ 140737488355328) :
    Calls Tryz.prog 57 #[.pointer (some ⟨R, i, none⟩), .int .i32 c, .int .i64 p] w (PutEnd R i B cs t v n xs (Lib.runeCells c) a p w) := by
  obtain ⟨ao, cap, rfl⟩ := slice_len hown
  have c0 := cell_of hb h0
  have hne := owns_ne hown hb ht
  have hap := appendRune_at B _ n xs c hc w hown hn2 hBw
  have hk : Kept R (Value.ownBlock (.slice ao n cap)) w w := ⟨rfl, rfl, rfl, Nat.le_refl _, fun k _ h2 _ => rfl⟩
  have hcs : cs = cs.setIfInBounds (i + 1) (.int .i64 (if n = 0 then p else a)) := by
    rw [if_neg (by omega)]
    apply Array.ext_getElem?
    intro j
    rw [Array.getElem?_setIfInBounds]
    split
    · rename_i hj
      subst hj
      obtain ⟨hl, he⟩ := Array.getElem?_eq_some_iff.1 h1
      rw [if_pos hl]; exact h1
    · rfl
  have HCS := hide hcs
  clear hcs
  generalize Lib.runeCells c = news at *
  have HB := hide hb
  have H0 := hide h0
  clear hb h0 h1 hown hc hBw hn2
  have hz : ((n : Int) == 0) = false := by
    have : (n : Int) ≠ 0 := by omega
    simpa using this
  go_enter Tryz.func57, Tryz.ntmps57
  go_wp2_with (go_at_call 87; refine hap.mono ?_)
  rintro e w1 ⟨v', rfl, ho, hg, hat⟩
  obtain ⟨hb1, hfin⟩ := put_close (cs := cs) (a := a) (p := p) (i := i) HCS.out HB.out ht hk hne rfl ho hg hat
  obtain ⟨ao', cap', rfl⟩ := slice_len ho
  have c3 := cell_of (i := i) (v := .slice ao n cap) hb1 H0.out
  have f3 := free_of (i := i) hb1
  clear hap hk hne hb1 ho hg hat
  go_wp2
  go_end0
  exact hfin
theorem put_any (R i B : Nat) (cs : Array Value) (t : TypeId) (v : Value) (n : Nat) (xs : List Value) (a p c : Int) (w : World)
    (hb : w.heap[R]? = some (.cells cs t (0, 0))) (ht : t ≠ 5) (h0 : cs[i]? = some v) (h1 : cs[i + 1]? = some (.int .i64 a)) (hown : w.ownsRow B 5 1 v n xs) (hc : Scalar c) (hBw : B ≤ w.heap.size) (hn2 : n + 4 ≤ 140737488355328) :
    Calls Tryz.prog 57 #[.pointer (some ⟨R, i, none⟩), .int .i32 c, .int .i64 p] w (PutEnd R i B cs t v n xs (Lib.runeCells c) a p w) := by
  rcases Nat.eq_zero_or_pos n with rfl | hn
  · exact put_first R i B cs t v xs a p c w hb ht h0 h1 hown hc hBw
  · exact put_more R i B cs t v n xs a p c w hb ht h0 h1 hown hc hBw hn hn2
end Go.Proofs.YtfolnkmbdmfigaaGreatDoor

namespace Go.Proofs.YtfolnkmbdmfigaaGreatDoor.Ch
open Go
theorem decode_same {s t : ByteArray} {i j : Nat} (h0 : bz s i = bz t j) (hge : 128 ≤ bz s i)
    (h1 : cont s (i + 1) → bz s (i + 1) = bz t (j + 1)) (n1 : ¬ cont s (i + 1) → ¬ cont t (j + 1))
    (h2 : cont s (i + 1) → cont s (i + 2) → bz s (i + 2) = bz t (j + 2)) (n2 : cont s (i + 1) → ¬ cont s (i + 2) → ¬ cont t (j + 2))
    (h3 : cont s (i + 1) → cont s (i + 2) → cont s (i + 3) → bz s (i + 3) = bz t (j + 3)) (n3 : cont s (i + 1) → cont s (i + 2) → ¬ cont s (i + 3) → ¬ cont t (j + 3)) :
    Utf8.decode t j = Utf8.decode s i := by
  have c1 : ∀ (h : cont s (i + 1)), cont t (j + 1) := fun h => by unfold cont at *; rw [← h1 h]; exact h
  have c2 : ∀ (h : cont s (i + 1)), cont s (i + 2) → cont t (j + 2) := fun h k => by unfold cont at *; rw [← h2 h k]; exact k
  have c3 : ∀ (h : cont s (i + 1)), cont s (i + 2) → cont s (i + 3) → cont t (j + 3) := fun h k l => by unfold cont at *; rw [← h3 h k l]; exact l
  by_cases a2 : bz s i < 192
  · rw [decode_none (Or.inl ⟨hge, a2⟩), decode_none (Or.inl ⟨by omega, by omega⟩)]
  by_cases a3 : bz s i < 224
  · by_cases k1 : cont s (i + 1)
    · rw [decode_two (by omega) a3 k1, decode_two (by omega) (by omega) (c1 k1)]
      simp only [acc, Nat.zero_add, h0, h1 k1]
    · rw [decode_two_no (by omega) a3 k1, decode_two_no (by omega) (by omega) (n1 k1)]
  by_cases a4 : bz s i < 240
  · by_cases k1 : cont s (i + 1)
    · by_cases k2 : cont s (i + 2)
      · rw [decode_three (by omega) a4 k1 k2, decode_three (by omega) (by omega) (c1 k1) (c2 k1 k2)]
        simp only [acc, Nat.zero_add, Nat.reduceAdd, h0, h1 k1, h2 k1 k2]
      · rw [decode_three_no (by omega) a4 (Or.inr k2), decode_three_no (by omega) (by omega) (Or.inr (n2 k1 k2))]
    · rw [decode_three_no (by omega) a4 (Or.inl k1), decode_three_no (by omega) (by omega) (Or.inl (n1 k1))]
  by_cases a5 : bz s i < 248
  · by_cases k1 : cont s (i + 1)
    · by_cases k2 : cont s (i + 2)
      · by_cases k3 : cont s (i + 3)
        · rw [decode_four (by omega) a5 k1 k2 k3, decode_four (by omega) (by omega) (c1 k1) (c2 k1 k2) (c3 k1 k2 k3)]
          simp only [acc, Nat.zero_add, Nat.reduceAdd, h0, h1 k1, h2 k1 k2, h3 k1 k2 k3]
        · rw [decode_four_no (by omega) a5 (Or.inr (Or.inr k3)), decode_four_no (by omega) (by omega) (Or.inr (Or.inr (n3 k1 k2 k3)))]
      · rw [decode_four_no (by omega) a5 (Or.inr (Or.inl k2)), decode_four_no (by omega) (by omega) (Or.inr (Or.inl (n2 k1 k2)))]
    · rw [decode_four_no (by omega) a5 (Or.inl k1), decode_four_no (by omega) (by omega) (Or.inl (n1 k1))]
  · rw [decode_none (Or.inr (by omega)), decode_none (Or.inr (by omega))]
def txt (l : List UInt8) : ByteArray := ⟨l.toArray⟩
theorem bz_txt (l : List UInt8) (i : Nat) : bz (txt l) i = (match l[i]? with | some c => (c.toNat : Int) | none => -1) := by
  unfold bz
  have hs : (txt l).size = l.length := by show l.toArray.size = _; simp
  rw [hs]
  by_cases h : i < l.length
  · rw [if_pos h, List.getElem?_eq_getElem h]
    have h2 : i < (txt l).size := by rw [hs]; exact h
    have e : (txt l).get! i = (txt l)[i] := by simp [ByteArray.get!, h2]; rfl
    rw [e]
    have e2 : (txt l)[i] = l[i] := rfl
    rw [e2]
    rfl
  · rw [if_neg h, List.getElem?_eq_none (by omega)]
theorem txt_self (s : ByteArray) : txt s.data.toList = s := rfl
theorem bz_cons (c : UInt8) (l : List UInt8) (k : Nat) : bz (txt (c :: l)) (k + 1) = bz (txt l) k := by
  rw [bz_txt, bz_txt]; rfl
theorem bz_head (c : UInt8) (l : List UInt8) : bz (txt (c :: l)) 0 = (c.toNat : Int) := by
  rw [bz_txt]; rfl
theorem decode_shift {s t : ByteArray} {i j : Nat} (hi : i < s.size) (h : ∀ k, bz s (i + k) = bz t (j + k)) : Utf8.decode t j = Utf8.decode s i := by
  have h0 := h 0
  simp only [Nat.add_zero] at h0
  have hs0 : 0 ≤ bz s i := by unfold bz; rw [if_pos hi]; omega
  by_cases ha : bz s i < 128
  · rw [decode_one hs0 ha, decode_one (by omega) (by omega), h0]
  · have hc : ∀ k, cont s (i + k) ↔ cont t (j + k) := fun k => by unfold cont; rw [h k]
    exact decode_same h0 (by omega) (fun _ => h 1) (fun n q => n ((hc 1).2 q)) (fun _ _ => h 2) (fun _ n q => n ((hc 2).2 q)) (fun _ _ _ => h 3) (fun _ _ n q => n ((hc 3).2 q))
theorem escB_plain {q : Bool} {c : UInt8} (h : refFor (c.toNat : Int) q = []) : escB q c = [c] := by simp [escB, h]
theorem escB_ref {q : Bool} {c : UInt8} (h : ¬ refFor (c.toNat : Int) q = []) : escB q c = refFor (c.toNat : Int) q := by simp [escB, h]
theorem refFor_head {r : Int} {q : Bool} (h : ¬ refFor r q = []) : ∃ l, refFor r q = 38 :: l := by
  unfold refFor at *
  repeat' split
  all_goals simp_all
end Go.Proofs.YtfolnkmbdmfigaaGreatDoor.Ch

namespace Go.Proofs.YtfolnkmbdmfigaaGreatDoor.Ch
open Go
theorem txt_size (l : List UInt8) : (txt l).size = l.length := by
  show l.toArray.size = _
  simp
theorem has_txt (X l : List UInt8) : has (txt X) 0 l = l.isPrefixOf X := by
  rw [← prefix_has]; rfl
theorem num_txt13 (X : List UInt8) : numAt (txt ([38, 35, 49, 51, 59] ++ X)) 2 10 = (13, 3) := by
  have hsz : (txt ([38, 35, 49, 51, 59] ++ X)).size - 2 + 1 = X.length + 1 + 1 + 1 + 1 := by rw [txt_size]; simp
  have b2 : bz (txt ([38, 35, 49, 51, 59] ++ X)) 2 = 49 := by rw [bz_txt]; rfl
  have b3 : bz (txt ([38, 35, 49, 51, 59] ++ X)) (2 + 1) = 51 := by rw [bz_txt]; rfl
  have b4 : bz (txt ([38, 35, 49, 51, 59] ++ X)) (2 + 1 + 1) = 59 := by rw [bz_txt]; rfl
  have e : numFrom (txt ([38, 35, 49, 51, 59] ++ X)) 10 ((txt ([38, 35, 49, 51, 59] ++ X)).size - 2 + 1) 2 0 = (13, 5) := by
    rw [hsz, numFrom.eq_2, b2, numFrom.eq_2, b3, numFrom.eq_2, b4, if_neg (by decide), if_neg (by decide), if_neg (by decide), if_neg (by decide), if_pos rfl, if_pos (by decide)]; decide
  unfold numAt
  rw [e]; decide
theorem num_txt10 (X : List UInt8) : numAt (txt ([38, 35, 49, 48, 59] ++ X)) 2 10 = (10, 3) := by
  have hsz : (txt ([38, 35, 49, 48, 59] ++ X)).size - 2 + 1 = X.length + 1 + 1 + 1 + 1 := by rw [txt_size]; simp
  have b2 : bz (txt ([38, 35, 49, 48, 59] ++ X)) 2 = 49 := by rw [bz_txt]; rfl
  have b3 : bz (txt ([38, 35, 49, 48, 59] ++ X)) (2 + 1) = 48 := by rw [bz_txt]; rfl
  have b4 : bz (txt ([38, 35, 49, 48, 59] ++ X)) (2 + 1 + 1) = 59 := by rw [bz_txt]; rfl
  have e : numFrom (txt ([38, 35, 49, 48, 59] ++ X)) 10 ((txt ([38, 35, 49, 48, 59] ++ X)).size - 2 + 1) 2 0 = (10, 5) := by
    rw [hsz, numFrom.eq_2, b2, numFrom.eq_2, b3, numFrom.eq_2, b4, if_neg (by decide), if_neg (by decide), if_neg (by decide), if_neg (by decide), if_pos rfl, if_pos (by decide)]; decide
  unfold numAt
  rw [e]; decide
theorem num_txt9 (X : List UInt8) : numAt (txt ([38, 35, 57, 59] ++ X)) 2 10 = (9, 2) := by
  have hsz : (txt ([38, 35, 57, 59] ++ X)).size - 2 + 1 = X.length + 1 + 1 + 1 := by rw [txt_size]; simp
  have b2 : bz (txt ([38, 35, 57, 59] ++ X)) 2 = 57 := by rw [bz_txt]; rfl
  have b3 : bz (txt ([38, 35, 57, 59] ++ X)) (2 + 1) = 59 := by rw [bz_txt]; rfl
  have e : numFrom (txt ([38, 35, 57, 59] ++ X)) 10 ((txt ([38, 35, 57, 59] ++ X)).size - 2 + 1) 2 0 = (9, 4) := by
    rw [hsz, numFrom.eq_2, b2, numFrom.eq_2, b3, if_neg (by decide), if_neg (by decide), if_pos rfl, if_pos (by decide)]; decide
  unfold numAt
  rw [e]; decide
theorem refAt_esc {c : Int} {q : Bool} (X : List UInt8) (h : ¬ refFor c q = []) : refAt (txt (refFor c q ++ X)) 0 = (c, ((refFor c q).length : Int)) := by
  unfold refFor at *
  by_cases c1 : c = 38
  · subst c1; simp [refAt, has_txt, List.isPrefixOf]
  by_cases c2 : c = 60
  · subst c2; simp [refAt, has_txt, List.isPrefixOf]
  by_cases c3 : c = 62
  · subst c3; simp [refAt, has_txt, List.isPrefixOf]
  by_cases c4 : c = 13
  · subst c4
    have := num_txt13 X
    simp only [List.cons_append, List.nil_append] at this
    simp [refAt, has_txt, List.isPrefixOf, this]
  cases q
  · simp [c1, c2, c3, c4] at h
  by_cases c5 : c = 34
  · subst c5; simp [refAt, has_txt, List.isPrefixOf]
  by_cases c6 : c = 9
  · subst c6
    have := num_txt9 X
    simp only [List.cons_append, List.nil_append] at this
    simp [refAt, has_txt, List.isPrefixOf, this]
  by_cases c7 : c = 10
  · subst c7
    have := num_txt10 X
    simp only [List.cons_append, List.nil_append] at this
    simp [refAt, has_txt, List.isPrefixOf, this]
  · simp [c1, c2, c3, c4, c5, c6, c7] at h
theorem encode_ascii {c : UInt8} (h : (c.toNat : Int) < 128) : Lib.encodeRune (c.toNat : Int) = [c] := by
  simp only [Lib.encodeRune]
  rw [Lib.encodeRuneZ_one (by omega) (by omega)]
  simp
def pre (q : Bool) (L : List UInt8) (p : Nat) : Nat := (escL q (L.take p)).length
theorem escB_pos (q : Bool) (c : UInt8) : 1 ≤ (escB q c).length := by
  by_cases h : refFor (c.toNat : Int) q = []
  · rw [escB_plain h]; simp
  · obtain ⟨l, hl⟩ := refFor_head h
    rw [escB_ref h, hl]; simp
theorem escL_ge (q : Bool) (L : List UInt8) : L.length ≤ (escL q L).length := by
  induction L with
  | nil => simp [escL]
  | cons c L ih =>
    have := escB_pos q c
    have e : escL q (c :: L) = escB q c ++ escL q L := by simp [escL]
    rw [e]; simp; omega
theorem okAt_of {s t : ByteArray} {i j : Nat} (h : Utf8.decode t j = Utf8.decode s i) : okAt t j = okAt s i := by
  unfold okAt; rw [h]
end Go.Proofs.YtfolnkmbdmfigaaGreatDoor.Ch
