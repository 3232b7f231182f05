import Derived.Test.YtbjpimnmgonebaaDoorPt
namespace Go.Proofs.YtbjpimnmgonebaaDoor.Ch
open Go

theorem txt_size (l : List UInt8) : (txt l).size = l.length := by
  show l.toArray.size = _
  simp

theorem has_txt (X l : List UInt8) : has (txt X) 0 l = l.isPrefixOf X := by
  rw [← prefix_has]; rfl

theorem num_txt13 (X : List UInt8) : numAt (txt ([38, 35, 49, 51, 59] ++ X)) 2 10 = (13, 3) := by
  have hsz : (txt ([38, 35, 49, 51, 59] ++ X)).size - 2 + 1 = X.length + 1 + 1 + 1 + 1 := by rw [txt_size]; simp
  have b2 : bz (txt ([38, 35, 49, 51, 59] ++ X)) 2 = 49 := by rw [bz_txt]; rfl
  have b3 : bz (txt ([38, 35, 49, 51, 59] ++ X)) (2 + 1) = 51 := by rw [bz_txt]; rfl
  have b4 : bz (txt ([38, 35, 49, 51, 59] ++ X)) (2 + 1 + 1) = 59 := by rw [bz_txt]; rfl
  have e : numFrom (txt ([38, 35, 49, 51, 59] ++ X)) 10 ((txt ([38, 35, 49, 51, 59] ++ X)).size - 2 + 1) 2 0 = (13, 5) := by
    rw [hsz, numFrom.eq_2, b2, numFrom.eq_2, b3, numFrom.eq_2, b4, if_neg (by decide), if_neg (by decide), if_neg (by decide), if_neg (by decide), if_pos rfl, if_pos (by decide)]; decide
  unfold numAt
  rw [e]; decide
theorem num_txt10 (X : List UInt8) : numAt (txt ([38, 35, 49, 48, 59] ++ X)) 2 10 = (10, 3) := by
  have hsz : (txt ([38, 35, 49, 48, 59] ++ X)).size - 2 + 1 = X.length + 1 + 1 + 1 + 1 := by rw [txt_size]; simp
  have b2 : bz (txt ([38, 35, 49, 48, 59] ++ X)) 2 = 49 := by rw [bz_txt]; rfl
  have b3 : bz (txt ([38, 35, 49, 48, 59] ++ X)) (2 + 1) = 48 := by rw [bz_txt]; rfl
  have b4 : bz (txt ([38, 35, 49, 48, 59] ++ X)) (2 + 1 + 1) = 59 := by rw [bz_txt]; rfl
  have e : numFrom (txt ([38, 35, 49, 48, 59] ++ X)) 10 ((txt ([38, 35, 49, 48, 59] ++ X)).size - 2 + 1) 2 0 = (10, 5) := by
    rw [hsz, numFrom.eq_2, b2, numFrom.eq_2, b3, numFrom.eq_2, b4, if_neg (by decide), if_neg (by decide), if_neg (by decide), if_neg (by decide), if_pos rfl, if_pos (by decide)]; decide
  unfold numAt
  rw [e]; decide
theorem num_txt9 (X : List UInt8) : numAt (txt ([38, 35, 57, 59] ++ X)) 2 10 = (9, 2) := by
  have hsz : (txt ([38, 35, 57, 59] ++ X)).size - 2 + 1 = X.length + 1 + 1 + 1 := by rw [txt_size]; simp
  have b2 : bz (txt ([38, 35, 57, 59] ++ X)) 2 = 57 := by rw [bz_txt]; rfl
  have b3 : bz (txt ([38, 35, 57, 59] ++ X)) (2 + 1) = 59 := by rw [bz_txt]; rfl
  have e : numFrom (txt ([38, 35, 57, 59] ++ X)) 10 ((txt ([38, 35, 57, 59] ++ X)).size - 2 + 1) 2 0 = (9, 4) := by
    rw [hsz, numFrom.eq_2, b2, numFrom.eq_2, b3, if_neg (by decide), if_neg (by decide), if_pos rfl, if_pos (by decide)]; decide
  unfold numAt
  rw [e]; decide

/-- What Escape puts for a byte is read as that byte. -/
theorem refAt_esc {c : Int} {q : Bool} (X : List UInt8) (h : ¬ refFor c q = []) : refAt (txt (refFor c q ++ X)) 0 = (c, ((refFor c q).length : Int)) := by
  unfold refFor at *
  by_cases c1 : c = 38
  · subst c1; simp [refAt, has_txt, List.isPrefixOf]
  by_cases c2 : c = 60
  · subst c2; simp [refAt, has_txt, List.isPrefixOf]
  by_cases c3 : c = 62
  · subst c3; simp [refAt, has_txt, List.isPrefixOf]
  by_cases c4 : c = 13
  · subst c4
    have := num_txt13 X
    simp only [List.cons_append, List.nil_append] at this
    simp [refAt, has_txt, List.isPrefixOf, this]
  cases q
  · simp [c1, c2, c3, c4] at h
  by_cases c5 : c = 34
  · subst c5; simp [refAt, has_txt, List.isPrefixOf]
  by_cases c6 : c = 9
  · subst c6
    have := num_txt9 X
    simp only [List.cons_append, List.nil_append] at this
    simp [refAt, has_txt, List.isPrefixOf, this]
  by_cases c7 : c = 10
  · subst c7
    have := num_txt10 X
    simp only [List.cons_append, List.nil_append] at this
    simp [refAt, has_txt, List.isPrefixOf, this]
  · simp [c1, c2, c3, c4, c5, c6, c7] at h

theorem refFor_may {c : Int} {q : Bool} (h : ¬ refFor c q = []) : (may c = true ∧ 0 ≤ c ∧ c < 128) := by
  unfold refFor at h
  have : c = 38 ∨ c = 60 ∨ c = 62 ∨ c = 13 ∨ c = 34 ∨ c = 9 ∨ c = 10 := by
    repeat' split at h
    all_goals first | omega | (exact absurd rfl h)
  rcases this with rfl | rfl | rfl | rfl | rfl | rfl | rfl <;> decide

theorem encode_ascii {c : UInt8} (h : (c.toNat : Int) < 128) : Lib.encodeRune (c.toNat : Int) = [c] := by
  simp only [Lib.encodeRune]
  rw [Lib.encodeRuneZ_one (by omega) (by omega)]
  simp

/-- Where a place of a text lies in its escaped form. -/
def pre (q : Bool) (L : List UInt8) (p : Nat) : Nat := (escL q (L.take p)).length

theorem escL_split (q : Bool) (L : List UInt8) (p : Nat) : escL q L = escL q (L.take p) ++ escL q (L.drop p) := by
  rw [← escL_append, List.take_append_drop]

theorem escB_pos (q : Bool) (c : UInt8) : 1 ≤ (escB q c).length := by
  by_cases h : refFor (c.toNat : Int) q = []
  · rw [escB_plain h]; simp
  · obtain ⟨l, hl⟩ := refFor_head h
    rw [escB_ref h, hl]; simp

theorem escL_ge (q : Bool) (L : List UInt8) : L.length ≤ (escL q L).length := by
  induction L with
  | nil => simp [escL]
  | cons c L ih =>
    have := escB_pos q c
    have e : escL q (c :: L) = escB q c ++ escL q L := by simp [escL]
    rw [e]; simp; omega

theorem pre_ge {q : Bool} {L : List UInt8} {p : Nat} (h : p ≤ L.length) : p ≤ pre q L p := by
  have := escL_ge q (L.take p)
  unfold pre
  simp at this
  omega

theorem tail_esc (q : Bool) (L : List UInt8) (p : Nat) : tail (txt (escL q L)) (pre q L p) = txt (escL q (L.drop p)) := by
  apply ByteArray.ext
  apply Array.toList_inj.1
  have h := escL_split q L p
  show (escL q L).toArray.toList.drop (pre q L p) = escL q (L.drop p)
  rw [List.toList_toArray, h]
  exact List.drop_left' rfl

theorem decode_at_tail {s : ByteArray} {k : Nat} (h : k < s.size) : Utf8.decode s k = Utf8.decode (tail s k) 0 :=
  decode_shift (s := tail s k) (t := s) (i := 0) (j := k) (by rw [tail_size]; omega) (fun j => by rw [tail_bz, Nat.zero_add])

theorem okAt_of {s t : ByteArray} {i j : Nat} (h : Utf8.decode t j = Utf8.decode s i) : okAt t j = okAt s i := by
  unfold okAt; rw [h]

theorem drop_head {s : ByteArray} {p : Nat} (h : p < s.size) : s.data.toList.drop p = s.get! p :: s.data.toList.drop (p + 1) := drop_cons s p h

theorem esc_len_lt {s : ByteArray} {q : Bool} {p : Nat} (h : p < s.size) : pre q s.data.toList p < (txt (escL q s.data.toList)).size := by
  rw [txt_size, escL_split q s.data.toList p, List.length_append]
  have := escL_ge q (s.data.toList.drop p)
  have e : (s.data.toList.drop p).length = s.size - p := by simp
  unfold pre
  omega

/-- A byte that is left: the two texts are read alike there. -/
theorem esc_alike {s : ByteArray} {q : Bool} {p : Nat} (h : p < s.size) (hr : refFor (bz s p) q = []) :
    Utf8.decode (txt (escL q s.data.toList)) (pre q s.data.toList p) = Utf8.decode s p ∧ bz (txt (escL q s.data.toList)) (pre q s.data.toList p) = bz s p := by
  have hb : bz s p = ((s.get! p).toNat : Int) := by unfold bz; rw [if_pos h]
  rw [hb] at hr
  have ht : tail s p = txt (s.get! p :: s.data.toList.drop (p + 1)) := by
    rw [← drop_head h]; rfl
  constructor
  · rw [decode_at_tail (esc_len_lt h), tail_esc, decode_at_tail h, ht, drop_head h]
    exact decode_esc hr
  · have := tail_bz (txt (escL q s.data.toList)) (pre q s.data.toList p) 0
    rw [tail_esc, Nat.add_zero, drop_head h] at this
    rw [← this, hb]
    have e : escL q (s.get! p :: s.data.toList.drop (p + 1)) = s.get! p :: escL q (s.data.toList.drop (p + 1)) := by simp [escL, escB_plain hr]
    rw [e, bz_head]

theorem pre_plain {s : ByteArray} {q : Bool} {p : Nat} : ∀ n, p + n ≤ s.size → (∀ j, p ≤ j → j < p + n → refFor (bz s j) q = []) → pre q s.data.toList (p + n) = pre q s.data.toList p + n := by
  intro n
  induction n with
  | zero => intro _ _; rfl
  | succ n ih =>
    intro hn hj
    have h2 := ih (by omega) (fun j a b => hj j a (by omega))
    have h3 := hj (p + n) (by omega) (by omega)
    have hlt : p + n < s.size := by omega
    have hb : bz s (p + n) = ((s.get! (p + n)).toNat : Int) := by unfold bz; rw [if_pos hlt]
    rw [hb] at h3
    unfold pre at *
    rw [← Nat.add_assoc, take_get s (p + n) hlt, escL_append, List.length_append, h2]
    simp [escL, escB_plain h3]
    omega
theorem pre_ref {s : ByteArray} {q : Bool} {p : Nat} (hlt : p < s.size) (hr : ¬ refFor (bz s p) q = []) : pre q s.data.toList (p + 1) = pre q s.data.toList p + (refFor (bz s p) q).length := by
  have hb : bz s p = ((s.get! p).toNat : Int) := by unfold bz; rw [if_pos hlt]
  rw [hb] at hr ⊢
  unfold pre
  rw [take_get s p hlt, escL_append, List.length_append]
  simp [escL, escB_ref hr]

theorem take_bytes {s : ByteArray} {p n : Nat} : s.data.toList.take p ++ bytes s p n = s.data.toList.take (p + n) := by
  unfold bytes
  exact (List.take_add (l := s.data.toList) (i := p) (j := n)).symm

/-- WHAT IS ESCAPED IS READ AGAIN AS IT WAS; or, where a byte is wrong, up to that. -/
theorem back_from (s : ByteArray) (q : Bool) : ∀ f p F, p ≤ s.size → s.size < p + f → f ≤ F →
    unescFrom (txt (escL q s.data.toList)) F (pre q s.data.toList p) (s.data.toList.take p) = if badFrom s f p = s.size then (s.data.toList, 0, 0) else ([], 2, (pre q s.data.toList (badFrom s f p) : Int)) := by
  intro f
  induction f with
  | zero => intro p F h1 h2; omega
  | succ f ih =>
    intro p F h1 h2 hF
    obtain ⟨F, rfl⟩ : ∃ k, F = k + 1 := ⟨F - 1, by omega⟩
    by_cases hp : p < s.size
    · have hlt := esc_len_lt (q := q) hp
      have hb : bz s p = ((s.get! p).toNat : Int) := by unfold bz; rw [if_pos hp]
      by_cases hr : refFor (bz s p) q = []
      · obtain ⟨hd, hbz⟩ := esc_alike hp hr
        have hne : ¬ bz s p = 38 := fun e => by rw [e] at hr; simp [refFor] at hr
        cases hok : okAt s p
        · have hb1 : badFrom s (f + 1) p = p := by rw [badFrom.eq_2, if_pos hp, if_neg (by rw [hok]; decide)]
          rw [hb1, if_neg (by omega)]
          exact (unesc_char hlt (by rw [okAt_of hd]; exact hok) rfl)
        · have hb1 : badFrom s (f + 1) p = badFrom s f (p + (Utf8.decode s p).2) := by rw [badFrom.eq_2, if_pos hp, if_pos hok]
          have hwd := decode_width s p hp
          rw [hb1, ← ih (p + (Utf8.decode s p).2) F hwd.1 (by omega) (by omega)]
          have hpl : ∀ j, p ≤ j → j < p + (Utf8.decode s p).2 → refFor (bz s j) q = [] := by
            intro j j1 j2
            rcases decode_byte s p hp with ⟨h0, h1, hdd⟩ | ⟨h0, h1⟩
            · rw [hdd] at j2
              obtain rfl : p = j := by simp only at j2; omega
              exact hr
            · exact refFor_high q (bytes_high hp h0 j j1 j2)
          have h := unesc_on hlt (by rw [okAt_of hd]; exact hok) (by rw [hbz]; exact hne) (rfl : unescFrom (txt (escL q s.data.toList)) (F + 1) (pre q s.data.toList p) (s.data.toList.take p) = _)
          rw [← h, hd, encode_decode hp hok, take_bytes, pre_plain _ hwd.1 hpl]
      · obtain ⟨hm, h0, h128⟩ := refFor_may hr
        have hdd := decode_one h0 h128
        have hok : okAt s p = true := by
          unfold okAt
          rw [hdd]
          have e1 : (((bz s p).toNat : Nat) : Int) = bz s p := by omega
          have e2 : ((bz s p).toNat != 65533) = true := by rw [bne_iff_ne]; omega
          simp only [e1, hm, e2, Bool.true_or, Bool.and_self]
        have hb1 : badFrom s (f + 1) p = badFrom s f (p + 1) := by rw [badFrom.eq_2, if_pos hp, if_pos hok, hdd]
        rw [hb1, ← ih (p + 1) F (by omega) (by omega) (by omega)]
        have hte : tail (txt (escL q s.data.toList)) (pre q s.data.toList p) = txt (refFor (bz s p) q ++ escL q (s.data.toList.drop (p + 1))) := by
          rw [tail_esc, drop_head hp]
          congr 1
          rw [hb] at hr ⊢
          simp [escL, escB_ref hr]
        obtain ⟨l, hl⟩ := refFor_head hr
        have hb38 : bz (txt (escL q s.data.toList)) (pre q s.data.toList p) = 38 := by
          have := tail_bz (txt (escL q s.data.toList)) (pre q s.data.toList p) 0
          rw [hte, hl, List.cons_append, bz_head, Nat.add_zero] at this
          exact this.symm
        have hde := decode_one (s := txt (escL q s.data.toList)) (i := pre q s.data.toList p) (by omega) (by omega)
        have hok2 : okAt (txt (escL q s.data.toList)) (pre q s.data.toList p) = true := by
          unfold okAt; rw [hde, hb38]; decide
        have hra : refAt (txt (escL q s.data.toList)) (pre q s.data.toList p) = (bz s p, ((refFor (bz s p) q).length : Int)) := by
          rw [← refAt_tail, hte]; exact refAt_esc _ hr
        have hln : ¬ (refAt (txt (escL q s.data.toList)) (pre q s.data.toList p)).2 = 0 := by
          rw [hra, hl]; simp; omega
        have h := unesc_ref hlt hok2 hb38 hln (rfl : unescFrom (txt (escL q s.data.toList)) (F + 1) (pre q s.data.toList p) (s.data.toList.take p) = _)
        rw [← h, hra]
        simp only [Int.toNat_natCast]
        rw [pre_ref hp hr, take_get s p hp, hb, encode_ascii (by omega)]
    · have hb1 : badFrom s (f + 1) p = s.size := by rw [badFrom.eq_2, if_neg hp]
      rw [hb1, if_pos rfl]
      have e1 : s.data.toList.take p = s.data.toList := List.take_of_length_le (by simp; omega)
      have e2 : ¬ pre q s.data.toList p < (txt (escL q s.data.toList)).size := by
        rw [txt_size]; unfold pre; rw [e1]; omega
      rw [e1]
      exact unesc_end e2 rfl

theorem back (s : ByteArray) (q : Bool) : unesc (txt (esc s q)) = if bad s = s.size then (s.data.toList, 0, 0) else ([], 2, (pre q s.data.toList (bad s) : Int)) := by
  have hle : s.size ≤ (esc s q).length := by
    have := escL_ge q s.data.toList
    simpa [esc] using this
  have h := back_from s q (s.size + 1) 0 ((txt (esc s q)).size + 1) (by omega) (by omega) (by rw [txt_size]; omega)
  exact h

theorem refFor_signs {c : Int} {q : Bool} : ∀ x ∈ refFor c q, x ≠ 60 ∧ x ≠ 62 ∧ x ≠ 13 ∧ x ≠ 34 ∧ x ≠ 9 ∧ x ≠ 10 := by
  unfold refFor
  repeat' split
  all_goals decide

theorem signs {q : Bool} {L : List UInt8} : ∀ x ∈ escL q L, x ≠ 60 ∧ x ≠ 62 ∧ x ≠ 13 ∧ (q = true → x ≠ 34 ∧ x ≠ 9 ∧ x ≠ 10) := by
  intro x hx
  simp only [escL, List.mem_flatMap] at hx
  obtain ⟨c, _, hc⟩ := hx
  by_cases h : refFor (c.toNat : Int) q = []
  · rw [escB_plain h] at hc
    simp only [List.mem_singleton] at hc
    subst hc
    refine ⟨?_, ?_, ?_, ?_⟩
    · rintro rfl; simp [refFor] at h
    · rintro rfl; simp [refFor] at h
    · rintro rfl; simp [refFor] at h
    · rintro rfl
      refine ⟨?_, ?_, ?_⟩ <;> rintro rfl <;> simp [refFor] at h
  · rw [escB_ref h] at hc
    obtain ⟨a, b, c, d, e, f⟩ := refFor_signs x hc
    exact ⟨a, b, c, fun _ => ⟨d, e, f⟩⟩
end Go.Proofs.YtbjpimnmgonebaaDoor.Ch
