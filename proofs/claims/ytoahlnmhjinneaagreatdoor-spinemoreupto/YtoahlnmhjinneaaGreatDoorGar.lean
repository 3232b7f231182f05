import Derived.Test.YtoahlnmhjinneaaGreatDoorGaj
import Derived.Test.YtoahlnmhjinneaaGreatDoorGao
set_option linter.unusedVariables false
set_option linter.unusedSimpArgs false
set_option linter.unusedSimpArgs false
set_option linter.unusedVariables false
namespace Go.Proofs.YtoahlnmhjinneaaGreatDoor
open Go

variable {q l r T a b : L} {c : UInt8}
theorem bsz (l : L) : (bs l).size = l.length := by simp [bs, ByteArray.size]
theorem jn (a b : L) : Ch.joined (bs a) (bs b) (bs (a ++ b)) := ⟨by simp [bsz], fun k hk => Ch.bz_app_left a b k (by simpa [bsz] using hk), fun k => by rw [bsz]; exact Ch.bz_app a b k⟩
def Gd (l : L) : Prop := Ch.bad (bs l) = l.length
def wd (l : L) : Nat := (Utf8.decode (bs l) 0).2
theorem gd_from {p f : Nat} (hp : p ≤ l.length) (hf : l.length < p + f) (h : Ch.badFrom (bs l) f p = l.length) : Gd (l.drop p) := by
  have hj := jn (l.take p) (l.drop p)
  rw [List.take_append_drop] at hj
  have h2 := Ch.bad_second hj f 0 (Nat.zero_le _)
  rw [if_neg (by omega), bsz, List.length_take, Nat.min_eq_left hp, Nat.add_zero, h] at h2
  unfold Gd Ch.bad
  rw [Ch.badFrom_fuel (bs (l.drop p)) _ f 0 (Nat.zero_le _) (by omega) (by rw [bsz, List.length_drop]; omega), List.length_drop]
  omega
theorem gd_step (h : Gd l) (hl : l ≠ []) : Ch.okAt (bs l) 0 = true ∧ 1 ≤ wd l ∧ wd l ≤ l.length ∧ Gd (l.drop (wd l)) := by
  have h0 : 0 < l.length := List.length_pos_iff.2 hl
  have hw := Ch.decode_width (bs l) 0 (by rw [bsz]; exact h0)
  have h' := h
  unfold Gd Ch.bad at h
  rw [Ch.badFrom.eq_2, if_pos (by rw [bsz]; exact h0)] at h
  cases hok : Ch.okAt (bs l) 0 with
  | false => rw [hok] at h; simp at h; omega
  | true =>
    rw [if_pos hok, Nat.zero_add] at h
    rw [bsz, Nat.zero_add] at hw
    exact ⟨rfl, hw.2.1, hw.1, gd_from hw.1 (by rw [bsz]; show l.length < wd l + _; unfold wd; omega) h⟩
theorem dec_ascii (hc : c.toNat < 128) (r : L) : Utf8.decode (bs (c :: r)) 0 = (c.toNat, 1) := by
  have h0 := Ch.bz_head c r
  have := Ch.decode_one (s := bs (c :: r)) (i := 0) (by show 0 ≤ Ch.bz (Ch.txt (c :: r)) 0; omega) (by show Ch.bz (Ch.txt (c :: r)) 0 < 128; omega)
  rw [this]
  show ((Ch.bz (Ch.txt (c :: r)) 0).toNat, 1) = _
  rw [h0]; rfl
theorem gd_cons (h : Gd (c :: r)) (hc : c.toNat < 128) : Gd r := by
  have := (gd_step h (by simp)).2.2.2
  unfold wd at this
  rw [dec_ascii hc] at this
  exact this
theorem gd_nil : Gd [] := rfl
theorem gd_skip (h : Gd l) : Gd (skip l) := by
  unfold skip Lib.trimLeftS
  induction l with
  | nil => exact h
  | cons c r ih =>
    rw [List.dropWhile_cons]
    split
    · next hc =>
      refine ih (gd_cons h ?_)
      simp at hc
      rcases hc with rfl | rfl | rfl | rfl <;> decide
    · exact h
def Stop (T : L) : Prop := T = [] ∨ Ch.okAt (bs T) 0 = false ∨ (Ch.begins ((Utf8.decode (bs T) 0).1 : Int) = false ∧ Ch.goesOn ((Utf8.decode (bs T) 0).1 : Int) = false)
theorem stop_no {pos : Nat} (hT : Stop T) (h : 0 < T.length) : Ch.inName (bs (a ++ T)) (bs a).size = false := by
  have hd := Ch.join_second (jn a T) (k := 0) (by rw [bsz]; exact h)
  rw [Nat.add_zero] at hd
  unfold Ch.inName
  rw [Ch.okSame hd, hd]
  rcases hT with rfl | hT | ⟨h1, h2⟩
  · simp at h
  · rw [hT]; rfl
  · rw [h1, h2]; simp
theorem name_run (hT : Stop T) : ∀ f p F, p ≤ a.length → a.length < p + f → (a ++ T).length < p + F → Ch.badFrom (bs a) f p = a.length → Ch.nameFrom (bs (a ++ T)) F p = Ch.nameFrom (bs a) f p := by
  intro f
  induction f with
  | zero => intro p F h1 h2; omega
  | succ f ih =>
    intro p F h1 h2 h3 hb
    have hj := jn a T
    have hsz := hj.1
    rw [List.length_append] at h3
    obtain ⟨F, rfl⟩ : ∃ k, F = k + 1 := ⟨F - 1, by omega⟩
    by_cases hp : p < a.length
    · have hp' : p < (bs a).size := by rw [bsz]; exact hp
      have hw := Ch.decode_width (bs a) p hp'
      rw [Ch.badFrom.eq_2, if_pos hp'] at hb
      cases hok : Ch.okAt (bs a) p with
      | false => rw [hok] at hb; simp at hb; omega
      | true =>
        rw [if_pos hok] at hb
        have hd := Ch.join_ok hj hp' hok
        rw [Ch.nameFrom.eq_2, Ch.nameFrom.eq_2, if_pos (by rw [hsz]; omega), if_pos hp', Ch.inName_same hd, hd]
        split
        · exact ih _ _ (by rw [bsz] at hw; omega) (by omega) (by rw [List.length_append]; omega) hb
        · rfl
    · obtain rfl : p = a.length := by omega
      have e : Ch.nameFrom (bs a) (f + 1) a.length = a.length := by rw [Ch.nameFrom.eq_2, if_neg (by rw [bsz]; omega), bsz]
      rw [e, Ch.nameFrom.eq_2]
      split
      · next h =>
        rw [bsz, List.length_append] at h
        have hs := stop_no (a := a) (pos := 0) hT (by omega)
        rw [bsz] at hs
        rw [hs]; simp
      · next h => rw [bsz, List.length_append] at h ⊢; omega
theorem nm_app (h : Gd l) (hT : Stop T) : nm (l ++ T) = nm l := by
  unfold nm Ch.name
  exact name_run hT _ 0 _ (Nat.zero_le _) (by rw [bsz]; omega) (by rw [bsz]; omega) h
theorem nmq_le (l : L) : nm l ≤ l.length := by have := Ch.nameFrom_le (bs l) ((bs l).size + 1) 0 (Nat.zero_le _); rwa [bsz] at this
theorem name_bad : ∀ f p, p ≤ l.length → l.length < p + f → Ch.badFrom (bs l) f p = l.length → ∃ F, l.length < Ch.nameFrom (bs l) f p + F ∧ Ch.badFrom (bs l) F (Ch.nameFrom (bs l) f p) = l.length := by
  intro f
  induction f with
  | zero => intro p h1 h2; omega
  | succ f ih =>
    intro p h1 h2 hb
    by_cases hp : p < l.length
    · have hp' : p < (bs l).size := by rw [bsz]; exact hp
      have hw := Ch.decode_width (bs l) p hp'
      rw [Ch.nameFrom.eq_2, if_pos hp']
      split
      · next hin =>
        rw [Ch.badFrom.eq_2, if_pos hp'] at hb
        have hok : Ch.okAt (bs l) p = true := by
          unfold Ch.inName at hin
          simp only [Bool.and_eq_true] at hin
          exact hin.1
        rw [if_pos hok] at hb
        exact ih _ (by rw [bsz] at hw; omega) (by omega) hb
      · exact ⟨f + 1, h2, hb⟩
    · obtain rfl : p = l.length := by omega
      rw [Ch.nameFrom.eq_2, if_neg (by rw [bsz]; omega), bsz]
      exact ⟨f + 1, h2, hb⟩
theorem gd_name (h : Gd l) : Gd (l.drop (nm l)) := by
  obtain ⟨F, h1, h2⟩ := name_bad (l := l) ((bs l).size + 1) 0 (Nat.zero_le _) (by rw [bsz]; omega) h
  exact gd_from (nmq_le l) h1 h2
theorem nm_sign (hc : c.toNat < 128) (hb : Ch.begins (c.toNat : Int) = false) (r : L) : nm (c :: r) = 0 := by
  unfold nm Ch.name
  rw [Ch.nameFrom.eq_2]
  have : Ch.inName (bs (c :: r)) 0 = false := by
    unfold Ch.inName
    rw [dec_ascii hc]
    simp only [hb]
    simp
  rw [this]
  simp [bsz]
theorem cut_run : ∀ f p F, p ≤ q.length → q.length < p + f → Ch.badFrom (bs q) f p = Ch.bad (bs q) → Ch.bad (bs q) < p + F → Ch.badFrom (bs (cutAt q)) F p = Ch.bad (bs q) := by
  have hle := Ch.badFrom_le (bs q) ((bs q).size + 1) 0 (Nat.zero_le _)
  have hle' : Ch.bad (bs q) ≤ q.length := by rw [bsz] at hle; unfold Ch.bad; rw [bsz]; exact hle
  have hlen : (cutAt q).length = Ch.bad (bs q) := by unfold cutAt; rw [List.length_take]; exact Nat.min_eq_left hle'
  have hj := jn (cutAt q) (q.drop (Ch.bad (bs q)))
  have hq : cutAt q ++ q.drop (Ch.bad (bs q)) = q := List.take_append_drop _ _
  rw [hq] at hj
  intro f
  induction f with
  | zero => intro p F h1 h2; omega
  | succ f ih =>
    intro p F h1 h2 hb hF
    have hge := Ch.badFrom_ge (bs q) (f + 1) p (by rw [bsz]; exact h1)
    rw [hb] at hge
    by_cases hp : p < q.length
    · have hp' : p < (bs q).size := by rw [bsz]; exact hp
      have hw := Ch.decode_width (bs q) p hp'
      rw [Ch.badFrom.eq_2, if_pos hp'] at hb
      obtain ⟨F, rfl⟩ : ∃ k, F = k + 1 := ⟨F - 1, by omega⟩
      split at hb
      · next hok =>
        have hge2 := Ch.badFrom_ge (bs q) f (p + (Utf8.decode (bs q) p).2) hw.1
        rw [hb] at hge2
        have hd : Utf8.decode (bs (cutAt q)) p = Utf8.decode (bs q) p := Ch.decode_prefix hp' hok (fun k hk => hj.2.1 (p + k) (by rw [bsz, hlen]; omega))
        rw [Ch.badFrom.eq_2, if_pos (by rw [bsz, hlen]; omega), Ch.okSame hd, if_pos hok, hd]
        exact ih _ _ (by rw [bsz] at hw; omega) (by omega) hb (by omega)
      · rw [Ch.badFrom.eq_2, if_neg (by rw [bsz, hlen]; omega), bsz, hlen]
    · obtain ⟨F, rfl⟩ : ∃ k, F = k + 1 := ⟨F - 1, by omega⟩
      rw [Ch.badFrom.eq_2, if_neg (by rw [bsz, hlen]; omega), bsz, hlen]
def cutT (q : L) : L := q.drop (Ch.bad (bs q))
theorem cut_app (q : L) : cutAt q ++ cutT q = q := List.take_append_drop _ _
theorem badq_le (q : L) : Ch.bad (bs q) ≤ q.length := by have := Ch.badFrom_le (bs q) ((bs q).size + 1) 0 (Nat.zero_le _); unfold Ch.bad; rw [bsz] at this ⊢; exact this
theorem cut_len (q : L) : (cutAt q).length = Ch.bad (bs q) := by unfold cutAt; rw [List.length_take]; exact Nat.min_eq_left (badq_le q)
theorem cut_good (q : L) : Gd (cutAt q) := by
  unfold Gd
  rw [cut_len]
  exact cut_run ((bs q).size + 1) 0 _ (Nat.zero_le _) (by rw [bsz]; omega) rfl (by rw [bsz, cut_len]; omega)
theorem bad_stop (s : ByteArray) : ∀ f p, p ≤ s.size → s.size < p + f → Ch.badFrom s f p = s.size ∨ (Ch.badFrom s f p < s.size ∧ Ch.okAt s (Ch.badFrom s f p) = false) := by
  intro f
  induction f with
  | zero => intro p h1 h2; omega
  | succ f ih =>
    intro p h1 h2
    rw [Ch.badFrom.eq_2]
    split
    · next hp =>
      have hw := Ch.decode_width s p hp
      split
      · exact ih _ hw.1 (by omega)
      · next hok => exact Or.inr ⟨hp, by simpa using hok⟩
    · exact Or.inl rfl
theorem cut_stop (q : L) : cutT q = [] ∨ Ch.okAt (bs (cutT q)) 0 = false := by
  have h := bad_stop (bs q) ((bs q).size + 1) 0 (Nat.zero_le _) (by omega)
  change Ch.bad (bs q) = _ ∨ (Ch.bad (bs q) < _ ∧ Ch.okAt (bs q) (Ch.bad (bs q)) = false) at h
  rw [bsz] at h
  rcases h with h | ⟨h1, h2⟩
  · exact Or.inl (by unfold cutT; rw [h]; simp)
  · right
    have hj := jn (cutAt q) (cutT q)
    rw [cut_app] at hj
    have hd := Ch.join_second hj (k := 0) (by rw [bsz]; unfold cutT; rw [List.length_drop]; omega)
    rw [bsz, cut_len, Nat.add_zero] at hd
    rw [← Ch.okSame hd]; exact h2
theorem okw_eq (h : l <:+ q) (hl : l ≠ []) : okw q l = if Ch.okAt (bs l) 0 = true then wd l else 0 := by
  obtain ⟨a, rfl⟩ := h
  have h0 : 0 < l.length := List.length_pos_iff.2 hl
  have hd := Ch.join_second (jn a l) (k := 0) (by rw [bsz]; exact h0)
  rw [bsz, Nat.add_zero] at hd
  unfold okw
  rw [List.length_append, Nat.add_sub_cancel, Ch.at2_pos _ _ (by rw [bsz, List.length_append]; omega), Ch.okSame hd, hd]
  split
  · rfl
  · rfl
end Go.Proofs.YtoahlnmhjinneaaGreatDoor

set_option linter.unusedSimpArgs false
set_option linter.unusedVariables false
namespace Go.Proofs.YtoahlnmhjinneaaGreatDoor
open Go

variable {q l r T p w : L} {c : UInt8} {s : RS} {cut : Bool}
structure Cx (T : L) (cut : Bool) : Prop where
  st : T = [] ∨ Ch.okAt (bs T) 0 = false
  ct : cut = true ↔ T ≠ []
structure At (q T l : L) (s : RS) : Prop where
  err : s.err = 0
  eq : s.bl.l = l ++ T
  gd : Gd l
  suf : s.l <:+ q
theorem ok_ascii (hc : c.toNat < 128) (r : L) : Ch.okAt (bs (c :: r)) 0 = Ch.may (c.toNat : Int) := by
  unfold Ch.okAt
  rw [dec_ascii hc]
  have : ((c.toNat : Int) != 65533) = true := by simp; omega
  simp only [this]
  simp
  intro _; omega
theorem Cx.head (h : Cx T cut) (hc : c.toNat < 128) (hm : Ch.may (c.toNat : Int) = true) (t : L) : T ≠ c :: t := by
  rintro rfl
  rcases h.st with h | h
  · cases h
  · rw [ok_ascii hc, hm] at h; cases h
theorem Cx.stop (h : Cx T cut) : Stop T := h.st.elim Or.inl fun h => Or.inr (Or.inl h)
theorem Cx.skip (h : Cx T cut) : skip T = T := by
  cases T with
  | nil => rfl
  | cons c t =>
    rw [skip_cons, if_neg]
    intro hc
    refine h.head (c := c) ?_ ?_ t rfl
    · simp at hc; rcases hc with rfl | rfl | rfl | rfl <;> decide
    · simp at hc; rcases hc with rfl | rfl | rfl | rfl <;> decide
theorem skip_app (h : skip T = T) (a : L) : skip (a ++ T) = skip a ++ T := by
  induction a with
  | nil => rw [skip_nil]; exact h
  | cons c a ih =>
    rw [List.cons_append, skip_cons, skip_cons]
    split
    · exact ih
    · rfl
theorem part_pre (l : L) : part l <+: l := by
  unfold part
  split
  · exact List.take_prefix _ _
  · split
    · exact List.take_prefix _ _
    · exact List.take_prefix _ _
theorem part_cons (c : UInt8) (r : L) : ∃ t, part (c :: r) = c :: t := by
  unfold part
  split
  · next h => obtain ⟨k, hk⟩ : ∃ k, nm (c :: r) = k + 1 := ⟨nm (c :: r) - 1, by omega⟩; rw [hk]; exact ⟨_, rfl⟩
  · split
    · exact ⟨_, rfl⟩
    · exact ⟨_, rfl⟩
theorem pre_cons (c d : UInt8) (a b : L) : Lib.hasPrefix (c :: a) (d :: b) = (d == c && Lib.hasPrefix a b) := rfl
theorem pre_nil (a : L) : Lib.hasPrefix a [] = true := by cases a <;> rfl
structure Sg1 (d : UInt8) : Prop where
  lt : d.toNat < 128
  nb : Ch.begins (d.toNat : Int) = false
  my : Ch.may (d.toNat : Int) = true
  n47 : d ≠ 47
  n33 : d ≠ 33
theorem Cx.pre (h : Cx T cut) (hc : c.toNat < 128) (hm : Ch.may (c.toNat : Int) = true) (a b : L) : Lib.hasPrefix (a ++ T) (c :: b) = match a with
    | [] => false
    | d :: a => c == d && Lib.hasPrefix (a ++ T) b := by
  cases a with
  | nil =>
    cases hT : T with
    | nil => rfl
    | cons e t =>
      rw [List.nil_append, pre_cons]
      have : (c == e) = false := by
        simp only [beq_eq_false_iff_ne]
        rintro rfl
        exact h.head hc hm t hT
      rw [this]; rfl
  | cons d a => rw [List.cons_append, pre_cons]
theorem part_one {d : UInt8} (hd : Sg1 d) (r : L) : part (d :: r) = [d] := by
  unfold part
  rw [nm_sign hd.lt hd.nb, pre_cons, pre_cons]
  have h1 : (47 == d) = false := by simp; exact fun e => hd.n47 e.symm
  have h2 : (33 == d) = false := by simp; exact fun e => hd.n33 e.symm
  rw [h1, h2]
  simp
theorem sign1 (h : Cx T cut) {d : UInt8} (hd : Sg1 d) (l : L) : isB [d] (l ++ T) = (part l == [d]) := by
  unfold isB
  have h47 : (([d] : L) != [47]) = true := by simp; exact hd.n47
  rw [h47, h.pre hd.lt hd.my]
  cases l with
  | nil => rw [part_nil]; rfl
  | cons c r =>
    simp only [pre_nil, Bool.and_true, Bool.true_or]
    cases hdc : d == c with
    | true =>
      have e : d = c := by simpa using hdc
      subst e
      rw [part_one hd]; simp
    | false =>
      obtain ⟨t, ht⟩ := part_cons c r
      rw [ht]
      have : d ≠ c := by simpa using hdc
      symm
      simp
      intro e; exact absurd e.symm this
theorem b47 : (47 : UInt8).toNat < 128 ∧ Ch.begins ((47 : UInt8).toNat : Int) = false ∧ Ch.may ((47 : UInt8).toNat : Int) = true := by decide
theorem b33 : (33 : UInt8).toNat < 128 ∧ Ch.begins ((33 : UInt8).toNat : Int) = false ∧ Ch.may ((33 : UInt8).toNat : Int) = true := by decide
theorem b61 : (61 : UInt8).toNat < 128 ∧ Ch.begins ((61 : UInt8).toNat : Int) = false ∧ Ch.may ((61 : UInt8).toNat : Int) = true := by decide
theorem part47 (r : L) : part (47 :: r) = if Lib.hasPrefix r [47] = true then 47 :: r.take 1 else [47] := by
  unfold part
  rw [nm_sign b47.1 b47.2.1, pre_cons, pre_cons]
  simp
theorem part33 (r : L) : part (33 :: r) = if Lib.hasPrefix r [61] = true then 33 :: r.take 1 else [33] := by
  unfold part
  rw [nm_sign b33.1 b33.2.1, pre_cons, pre_cons]
  simp
theorem pre_one (d : UInt8) (r : L) : Lib.hasPrefix r [d] = (r.take 1 == [d]) := by
  cases r with
  | nil => rfl
  | cons c r => rw [pre_cons, pre_nil]; simp; rw [Bool.beq_comm]
theorem sign47 (h : Cx T cut) (l : L) : isB [47] (l ++ T) = (part l == [47]) := by
  unfold isB
  rw [h.pre b47.1 b47.2.2]
  cases l with
  | nil => rw [part_nil]; rfl
  | cons c r =>
    simp only [pre_nil, Bool.and_true]
    cases hdc : (47 : UInt8) == c with
    | true =>
      have e : 47 = c := by simpa using hdc
      subst e
      have e2 : Lib.hasPrefix (((47 : UInt8) :: r ++ T).drop 1) [47] = Lib.hasPrefix r [47] := by
        show Lib.hasPrefix (r ++ T) [47] = _
        rw [h.pre b47.1 b47.2.2]
        cases r with
        | nil => rfl
        | cons d r => simp only [pre_nil]; rw [pre_cons, pre_nil]
      rw [e2, part47]
      cases hp : Lib.hasPrefix r [47] with
      | true => rw [pre_one] at hp; simp at hp; rw [hp]; rfl
      | false => rfl
    | false =>
      obtain ⟨t, ht⟩ := part_cons c r
      rw [ht]
      have : 47 ≠ c := by simpa using hdc
      symm
      simp
      intro e; exact absurd e.symm this
theorem sign4747 (h : Cx T cut) (l : L) : isB [47, 47] (l ++ T) = (part l == [47, 47]) := by
  unfold isB
  rw [h.pre b47.1 b47.2.2]
  cases l with
  | nil => rw [part_nil]; rfl
  | cons c r =>
    simp only
    cases hdc : (47 : UInt8) == c with
    | true =>
      have e : 47 = c := by simpa using hdc
      subst e
      rw [h.pre b47.1 b47.2.2, part47]
      cases r with
      | nil => rfl
      | cons d r =>
        simp only [pre_nil, pre_cons]
        cases hd : (47 : UInt8) == d with
        | true => have e : 47 = d := by simpa using hd
                  subst e; rfl
        | false => rfl
    | false =>
      obtain ⟨t, ht⟩ := part_cons c r
      rw [ht]
      have : 47 ≠ c := by simpa using hdc
      symm
      simp
      intro e; exact absurd e.symm this
theorem sign3361 (h : Cx T cut) (l : L) : isB [33, 61] (l ++ T) = (part l == [33, 61]) := by
  unfold isB
  rw [h.pre b33.1 b33.2.2]
  cases l with
  | nil => rw [part_nil]; rfl
  | cons c r =>
    simp only
    cases hdc : (33 : UInt8) == c with
    | true =>
      have e : 33 = c := by simpa using hdc
      subst e
      rw [h.pre b61.1 b61.2.2, part33]
      cases r with
      | nil => rfl
      | cons d r =>
        simp only [pre_nil, pre_cons]
        cases hd : (61 : UInt8) == d with
        | true => have e : 61 = d := by simpa using hd
                  subst e; rfl
        | false => rfl
    | false =>
      obtain ⟨t, ht⟩ := part_cons c r
      rw [ht]
      have : 33 ≠ c := by simpa using hdc
      symm
      simp
      intro e; exact absurd e.symm this
structure Sg (p : L) : Prop where
  is : ∀ T cut, Cx T cut → ∀ l, isB p (l ++ T) = (part l == p)
  asc : ∀ c ∈ p, c.toNat < 128
  ne : p ≠ []
theorem Sg.of1 {d : UInt8} (hd : Sg1 d) : Sg [d] := ⟨fun T cut h l => sign1 h hd l, fun c hc => by simp at hc; subst hc; exact hd.lt, by simp⟩
theorem sg40 : Sg [40] := Sg.of1 ⟨by decide, by decide, by decide, by decide, by decide⟩
theorem sg41 : Sg [41] := Sg.of1 ⟨by decide, by decide, by decide, by decide, by decide⟩
theorem sg91 : Sg [91] := Sg.of1 ⟨by decide, by decide, by decide, by decide, by decide⟩
theorem sg93 : Sg [93] := Sg.of1 ⟨by decide, by decide, by decide, by decide, by decide⟩
theorem sg42 : Sg [42] := Sg.of1 ⟨by decide, by decide, by decide, by decide, by decide⟩
theorem sg64 : Sg [64] := Sg.of1 ⟨by decide, by decide, by decide, by decide, by decide⟩
theorem sg46 : Sg [46] := Sg.of1 ⟨by decide, by decide, by decide, by decide, by decide⟩
theorem sg61 : Sg [61] := Sg.of1 ⟨by decide, by decide, by decide, by decide, by decide⟩
theorem sg124 : Sg [124] := Sg.of1 ⟨by decide, by decide, by decide, by decide, by decide⟩
theorem sg34 : Sg [34] := Sg.of1 ⟨by decide, by decide, by decide, by decide, by decide⟩
theorem sg39 : Sg [39] := Sg.of1 ⟨by decide, by decide, by decide, by decide, by decide⟩
theorem sg47 : Sg [47] := ⟨fun T cut h l => sign47 h l, by decide, by decide⟩
theorem sg4747 : Sg [47, 47] := ⟨fun T cut h l => sign4747 h l, by decide, by decide⟩
theorem sg3361 : Sg [33, 61] := ⟨fun T cut h l => sign3361 h l, by decide, by decide⟩
theorem gd_asc : ∀ {p r : L}, (∀ c ∈ p, c.toNat < 128) → Gd (p ++ r) → Gd r
  | [], r, _, h => h
  | c :: p, r, ha, h => gd_asc (fun d hd => ha d (List.mem_cons_of_mem _ hd)) (gd_cons h (ha c (List.mem_cons_self)))
theorem part_app (h : part l = p) : l = p ++ l.drop p.length := by
  obtain ⟨t, ht⟩ := part_pre l
  rw [h] at ht
  rw [← ht]; simp
theorem At.bl (h : At q T l s) : At q T l s.bl := ⟨by rw [bl_err]; exact h.err, by rw [bl_bl]; exact h.eq, h.gd, (bl_suf s).trans h.suf⟩
theorem At.is (hx : Cx T cut) (h : At q T l s) (hp : Sg p) : s.is p = (part l == p) := by
  unfold RS.is
  rw [h.eq, hp.is T cut hx l]
  simp [h.err]
theorem At.drop (hx : Cx T cut) (h : At q T l s) {m : Nat} (hm : m ≤ l.length) (hg : Gd (l.drop m)) : At q T (pass m l) { s.bl with l := s.bl.l.drop m } := by
  refine ⟨by simp only [bl_err]; exact h.err, ?_, gd_skip hg, (List.drop_suffix _ _).trans ((bl_suf s).trans h.suf)⟩
  unfold RS.bl
  have e : s.bl.err = 0 := by rw [bl_err]; exact h.err
  change (if s.bl.err = 0 then _ else _ : RS).l = _
  rw [if_pos e]
  show Go.Proofs.YtoahlnmhjinneaaGreatDoor.skip (s.bl.l.drop m) = _
  rw [h.eq, List.drop_append_of_le_length hm, skip_app hx.skip]
  rfl
theorem At.has (hx : Cx T cut) (h : At q T l s) (hp : Sg p) (hb : part l = p) : At q T (pass p.length l) (s.has p) := by
  have : s.is p = true := by rw [h.is hx hp, hb]; simp
  unfold RS.has
  rw [if_pos this]
  have hl := part_app hb
  have hle : p.length ≤ l.length := by rw [hl]; simp
  refine h.drop hx hle ?_
  have hg := h.gd
  rw [hl] at hg
  have := gd_asc hp.asc hg
  exact this
theorem At.okwS (hx : Cx T cut) (h : At q T l s) : (s.bl.l ≠ [] ∧ okw q s.bl.l = 0) ↔ (l = [] ∧ cut = true) := by
  have hs := (bl_suf s).trans h.suf
  rw [h.eq] at hs ⊢
  constructor
  · rintro ⟨h1, h2⟩
    rw [okw_eq hs h1] at h2
    cases l with
    | nil => exact ⟨rfl, hx.ct.2 (by simpa using h1)⟩
    | cons c r =>
      obtain ⟨g1, g2, g3, -⟩ := gd_step h.gd (by simp)
      have hd := Ch.join_ok (jn (c :: r) T) (p := 0) (by rw [bsz]; simp) g1
      rw [if_pos (by rw [Ch.okSame hd]; exact g1)] at h2
      unfold wd at h2 g2
      rw [hd] at h2
      omega
  · rintro ⟨rfl, h2⟩
    have hT := hx.ct.1 h2
    refine ⟨by simpa using hT, ?_⟩
    rw [okw_eq hs (by simpa using hT)]
    rcases hx.st with h3 | h3
    · exact absurd h3 hT
    · rw [List.nil_append, h3]; rfl
theorem At.wrong (hx : Cx T cut) (h : At q T l s) : (s.wrong q).err = (bad cut l).1 ∧ (bad cut l).1 ≠ 0 := by
  have e : s.bl.err = 0 := by rw [bl_err]; exact h.err
  unfold RS.wrong RS.fail
  rw [if_pos e]
  simp only [h.okwS hx, bad]
  refine ⟨trivial, ?_⟩
  split <;> decide
theorem At.peek (hx : Cx T cut) (h : At q T l s) : s.peek = l.take (nm l) := by
  unfold RS.peek
  rw [if_pos h.err, h.eq, nm_app h.gd hx.stop, List.take_append_of_le_length (nmq_le l)]
theorem At.namd (hx : Cx T cut) (h : At q T l s) (hn : nm l ≠ 0) : At q T (pass (nm l) l) (s.name q) := by
  have hle := nmq_le l
  have hp := h.peek hx
  have hlen : s.peek.length = nm l := by rw [hp, List.length_take]; omega
  unfold RS.name
  rw [if_neg (by intro e; rw [e] at hlen; exact hn hlen.symm), hlen]
  exact h.drop hx hle (gd_name h.gd)
theorem At.noname (hx : Cx T cut) (h : At q T l s) (hn : nm l = 0) : (s.name q).err = (bad cut l).1 := by
  unfold RS.name
  rw [if_pos (by rw [h.peek hx, hn]; rfl)]
  exact (h.bl.wrong hx).1
end Go.Proofs.YtoahlnmhjinneaaGreatDoor

set_option linter.unusedSimpArgs false
set_option linter.unusedVariables false
namespace Go.Proofs.YtoahlnmhjinneaaGreatDoor
open Go
variable {q l l' r T p w : L} {c : UInt8} {s s' : RS} {cut : Bool} {α : Type} {e : Nat}
structure Wd (w : L) : Prop where
  two : 2 ≤ w.length
  n47 : w.head? ≠ some 47
  n33 : w.head? ≠ some 33
theorem wdOr : Wd wOr := ⟨by decide, by decide, by decide⟩
theorem wdAnd : Wd wAnd := ⟨by decide, by decide, by decide⟩
theorem wdNot : Wd wNot := ⟨by decide, by decide, by decide⟩
theorem wdText : Wd wText := ⟨by decide, by decide, by decide⟩
theorem part_word (hw : Wd w) (l : L) : part l = w ↔ l.take (nm l) = w := by
  unfold part
  split
  · exact Iff.rfl
  · next h =>
    have h0 : nm l = 0 := by omega
    rw [h0]
    have hne : ¬ (l.take 0 = w) := by intro x; have := hw.two; rw [← x] at this; simp at this
    refine ⟨fun x => ?_, fun x => absurd x hne⟩
    exfalso
    split at x
    · next hp =>
      cases l with
      | nil => have := hw.two; rw [← x] at this; simp at this
      | cons a r =>
        have h47 := hw.n47
        have h33 := hw.n33
        rw [← x] at h47 h33
        rw [pre_cons, pre_cons] at hp
        simp at h47 h33 hp
        rcases hp with hp | hp
        · exact h47 hp.1.symm
        · exact h33 hp.1.symm
    · have := hw.two; rw [← x, List.length_take] at this; omega
theorem word_nm (hw : Wd w) (h : part l = w) : nm l = w.length ∧ nm l ≠ 0 := by
  have h1 := (part_word hw l).1 h
  have h2 := nmq_le l
  have h3 : (l.take (nm l)).length = nm l := by rw [List.length_take]; omega
  rw [h1] at h3
  have := hw.two
  omega
theorem cx0 : Cx [] false := ⟨Or.inl rfl, by simp⟩
theorem pre40 (l : L) : Lib.hasPrefix l [40] = (part l == [40]) := by
  have := sg40.is [] false cx0 l
  rw [List.append_nil] at this
  rw [← this]; unfold isB; simp
theorem At.word (hx : Cx T cut) (h : At q T l s) (hw : Wd w) : s.peek = w ↔ part l = w := by rw [h.peek hx, part_word hw]
theorem At.wname (hx : Cx T cut) (h : At q T l s) (hw : Wd w) (hp : part l = w) : At q T (pass w.length l) (s.name q) := by
  have h1 := word_nm hw hp
  have := h.namd hx h1.2
  rwa [h1.1] at this
theorem At.called (hx : Cx T cut) (h : At q T l s) (hw : Wd w) : s.called w = calls w l := by
  unfold RS.called calls
  by_cases hp : part l = w
  · have h1 := word_nm hw hp
    have h2 := (h.word hx hw).2 hp
    have h3 := h.drop hx (m := w.length) (by rw [← h1.1]; exact nmq_le l) (by rw [← h1.1]; exact gd_name h.gd)
    rw [h2, hp, h3.is hx sg40, pre40]
    rfl
  · have h2 : s.peek ≠ w := fun x => hp ((h.word hx hw).1 x)
    have e1 : (s.peek == w) = false := by simpa using h2
    have e2 : (part l == w) = false := by simpa using hp
    rw [e1, e2]; rfl
def Doom (q : L) (s : RS) : Prop := s.err = 0 ∧ ∃ r, s.bl.l = 40 :: r ∧ okw q s.bl.l ≠ 0
def Bd (q : L) (e : Nat) (s : RS) : Prop := (e ≠ 0 ∧ s.err = e) ∨ (e = 3 ∧ Doom q s)
def Sm (q T : L) (x : Rs α) (y : α × RS) : Prop := match x with
  | .ok (a, l) => y.1 = a ∧ At q T l y.2
  | .error e => Bd q e.1 y.2
theorem Bd.bl (h : Bd q e s) : Bd q e s.bl := by
  rcases h with ⟨h1, h2⟩ | ⟨h1, h2, h3⟩
  · exact Or.inl ⟨h1, by rw [bl_err]; exact h2⟩
  · exact Or.inr ⟨h1, by rw [bl_err]; exact h2, by rw [bl_bl]; exact h3⟩
theorem Bd.ne (h : Bd q e s) : e ≠ 0 := by rcases h with h | h; exact h.1; rw [h.1]; decide
theorem Bd.is (h : Bd q e s) {t : L} (hc : c ≠ 40) : s.is (c :: t) = false := by
  rcases h with ⟨h1, h2⟩ | ⟨h1, h2, r, h3, h4⟩
  · exact dead_is (by rw [h2]; exact h1)
  · unfold RS.is isB
    rw [h3, pre_cons]
    have : (c == 40) = false := by simpa using hc
    rw [this]; simp
theorem Bd.has (h : Bd q e s) {t : L} (hc : c ≠ 40) : s.has (c :: t) = s.bl := has_no (h.is hc)
theorem Bd.wrong (h : Bd q e s) : (s.wrong q).err = e := by
  rcases h with ⟨h1, h2⟩ | ⟨h1, h2, r, h3, h4⟩
  · rw [dead_wrong (by rw [h2]; exact h1)]; exact h2
  · have e0 : s.bl.err = 0 := by rw [bl_err]; exact h2
    unfold RS.wrong RS.fail
    rw [if_pos e0, if_neg (fun x => h4 x.2), h1]
theorem Bd.dead (h : e ≠ 0) (h2 : s.err = e) : Bd q e s := Or.inl ⟨h, h2⟩
theorem Bd.must (h : Bd q e s) {t : L} (hc : c ≠ 40) : (s.must q (c :: t)).err = e := by
  unfold RS.must
  rw [if_neg (by rw [h.is hc]; simp), h.has hc]
  exact h.bl.wrong
theorem Bd.shut (h : Bd q e s) {t : L} (hc : c ≠ 40) : Bd q e (s.shut q (c :: t)) := Or.inl ⟨h.ne, h.must hc⟩
theorem Bd.peek (h : Bd q e s) : s.peek = [] := by
  rcases h with ⟨h1, h2⟩ | ⟨h1, h2, r, h3, h4⟩
  · exact dead_peek (by rw [h2]; exact h1)
  · unfold RS.peek
    rw [if_pos h2, h3, nm_sign (by decide) (by decide)]; rfl
variable {inner read : RS → Prd × RS}
theorem Bd.preds (h : Bd q e s) (f : Nat) : Bd q e (predsR q inner f s).2 := by
  cases f with
  | zero => exact h
  | succ f => rw [predsR, if_neg (by rw [h.is (by decide)]; simp)]; exact h.bl
theorem Bd.more (h : Bd q e s) (may : Bool) (f : Nat) (ls : List Stp) : Bd q e (moreR q inner may f ls s).2 := by
  cases f with
  | zero => exact h
  | succ f =>
    rw [moreR]
    split
    · exact h
    · split
      · exact h
      · rw [if_neg (by rw [h.is (by decide)]; simp), if_neg (by rw [h.bl.is (by decide)]; simp)]; exact h.bl
theorem Bd.attr (h : Bd q e s) (ls : List Stp) : Bd q e (attrR q s ls).2 := by
  unfold attrR
  rw [if_neg (fun x => by rw [h.is (by decide)] at x; simp at x)]
  simp only
  split
  · exact h.bl
  · exact h
theorem Bd.loop (h : Bd q e s) {word : L} (hw : word ≠ []) (f : Nat) : Bd q e (loopR q word read f s).2 := by
  cases f with
  | zero => exact h
  | succ f =>
    rw [loopR]
    split
    · exact h
    · rw [if_neg (by rw [h.peek]; exact fun x => hw x.symm)]; exact h.bl
theorem Bd.paths (h : Bd q e s) (f : Nat) : Bd q e (pathsR q f s).2 := by
  cases f with
  | zero => exact h
  | succ f => rw [pathsR, if_neg (by rw [h.is (by decide)]; simp)]; exact h.bl
theorem At.mustS (hx : Cx T cut) (h : At q T l s) (hp : Sg p) : match want cut p l with
    | .ok l' => At q T l' (s.must q p)
    | .error e => (s.must q p).err = e.1 ∧ e.1 ≠ 0 := by
  unfold want RS.must
  rw [h.is hx hp]
  by_cases hb : part l = p
  · rw [if_pos hb, if_pos (by simpa using hb)]
    exact h.has hx hp hb
  · have hno : s.is p = false := by rw [h.is hx hp]; simpa using hb
    rw [if_neg hb, if_neg (by simpa using hb), has_no hno]
    exact h.bl.wrong hx
theorem At.nestS (h : At q T l s) (m : Int) : At q T l { s with nest := m } := by
  refine ⟨h.err, ?_, h.gd, h.suf⟩
  have := h.eq
  unfold RS.bl at this ⊢
  simp only [h.err, if_true] at this ⊢
  exact this
theorem At.shutS (hx : Cx T cut) (h : At q T l s) (hp : Sg p) : match want cut p l with
    | .ok l' => At q T l' (s.shut q p)
    | .error e => (s.shut q p).err = e.1 ∧ e.1 ≠ 0 := by
  have := h.mustS hx hp
  split at this
  · exact this.nestS _
  · exact this
theorem At.nameS (hx : Cx T cut) (h : At q T l s) : Sm q T (name cut l) (s.peek, s.name q) := by
  unfold name
  by_cases h0 : nm l = 0
  · rw [if_pos (Or.inl h0)]
    exact Or.inl ⟨(h.wrong hx).2, h.noname hx h0⟩
  · have hc : calls wNot l = true ∨ calls wText l = true → Bd q 3 (s.name q) := fun hc => by
      obtain ⟨w, hw, hcw⟩ : ∃ w, Wd w ∧ calls w l = true := hc.elim (fun x => ⟨_, wdNot, x⟩) (fun x => ⟨_, wdText, x⟩)
      unfold calls at hcw
      simp only [Bool.and_eq_true, beq_iff_eq] at hcw
      obtain ⟨h1, h2⟩ := hcw
      have ha := h.wname hx hw h1
      refine Or.inr ⟨rfl, ha.err, ?_⟩
      change Lib.hasPrefix (pass w.length l) [40] = true at h2
      obtain ⟨r, hr⟩ : ∃ r, pass w.length l = 40 :: r := by
        cases hps : pass w.length l with
        | nil => rw [hps] at h2; cases h2
        | cons d r => rw [hps, pre_cons] at h2; simp at h2; exact ⟨r, by rw [← h2.1]⟩
      refine ⟨r ++ T, by rw [ha.eq, hr]; rfl, fun hz => ?_⟩
      have := (ha.okwS hx).1 ⟨by rw [ha.eq, hr]; simp, hz⟩
      rw [hr] at this
      cases this.1
    by_cases hcc : calls wNot l = true ∨ calls wText l = true
    · rw [if_pos (Or.inr hcc)]
      have : (bad cut l).1 = 3 := by unfold bad; rw [if_neg]; rintro ⟨x, -⟩; rw [x] at h0; exact h0 rfl
      show Bd q (bad cut l).1 _
      rw [this]; exact hc hcc
    · rw [if_neg (by rintro (x | x); exact h0 x; exact hcc x)]
      exact ⟨h.peek hx, h.namd hx h0⟩
theorem At.testS (hx : Cx T cut) (h : At q T l s) : Sm q T (test cut l) (testR q s) := by
  unfold test testR
  rw [h.is hx sg42]
  by_cases hb : part l = [42]
  · rw [if_pos hb, if_pos (by simpa using hb)]
    exact ⟨rfl, h.has hx sg42 hb⟩
  · have hb' : ¬ (part l == [42]) = true := by simpa using hb
    rw [if_neg hb, if_neg hb', h.bl.called hx wdText]
    by_cases hc : calls wText l = true
    · rw [if_pos hc, if_pos hc]
      have hp : part l = wText := by unfold calls at hc; simp at hc; exact hc.1
      have h1 := h.bl.bl.wname hx wdText hp
      have e1 : want cut wText l = .ok (pass wText.length l) := by unfold want; rw [if_pos hp]
      rw [e1]
      simp only [wnt]
      have h2 := h1.mustS hx sg40
      cases hw2 : want cut [40] (pass wText.length l) with
      | error y =>
        rw [hw2] at h2
        refine Or.inl ⟨h2.2, ?_⟩
        exact (Bd.dead (q := q) h2.2 h2.1).must (by decide)
      | ok l2 =>
        rw [hw2] at h2
        have h3 := h2.mustS hx sg41
        simp only
        cases hw3 : want cut [41] l2 with
        | error y => rw [hw3] at h3; exact Or.inl ⟨h3.2, h3.1⟩
        | ok l3 => rw [hw3] at h3; exact ⟨rfl, h3⟩
    · rw [if_neg hc, if_neg hc]
      exact h.bl.bl.nameS hx
end Go.Proofs.YtoahlnmhjinneaaGreatDoor

set_option linter.unusedSimpArgs false
set_option linter.unusedVariables false
namespace Go.Proofs.YtoahlnmhjinneaaGreatDoor
open Go
variable {q l l' r T p w m : L} {c : UInt8} {s s' : RS} {cut : Bool} {α : Type} {e : Nat}
theorem char_far (h : Gd m) (hm : m ≠ []) (hc : c.toNat < 128) (hh : m.head? ≠ some c) : ∀ d ∈ m.take (wd m), d ≠ c := by
  cases m with
  | nil => exact absurd rfl hm
  | cons b r =>
    have hb : b ≠ c := fun x => hh (by rw [x]; rfl)
    by_cases h128 : b.toNat < 128
    · unfold wd
      rw [dec_ascii h128]
      intro d hd
      simp at hd
      rw [hd]; exact hb
    · have h0 := Ch.bz_head b r
      have hw := Ch.decode_width (bs (b :: r)) 0 (by rw [bsz]; simp)
      have hhi := Ch.bytes_high (s := bs (b :: r)) (i := 0) (by rw [bsz]; simp) (by show 128 ≤ Ch.bz (Ch.txt (b :: r)) 0; omega)
      intro d hd
      obtain ⟨i, hi, rfl⟩ := List.mem_iff_getElem.1 hd
      rw [List.length_take] at hi
      have hz := hhi i (Nat.zero_le _) (by rw [Nat.zero_add]; unfold wd at hi; omega)
      have e1 : Ch.bz (Ch.txt (b :: r)) i = (match (b :: r)[i]? with | some c => (c.toNat : Int) | none => -1) := Ch.bz_txt _ i
      have hlt : i < (b :: r).length := by omega
      rw [List.getElem?_eq_getElem hlt] at e1
      change 128 ≤ Ch.bz (Ch.txt (b :: r)) i at hz
      rw [e1] at hz
      simp only at hz
      intro hx
      have hg : ((b :: r).take (wd (b :: r)))[i]'(by rw [List.length_take]; exact hi) = (b :: r)[i]'hlt := List.getElem_take
      rw [hg] at hx
      rw [hx] at hz
      omega
theorem while_far {a b : L} (h : ∀ d ∈ a, d ≠ c) : (a ++ b).dropWhile (· != c) = b.dropWhile (· != c) ∧ (a ++ b).contains c = b.contains c := by
  induction a with
  | nil => exact ⟨rfl, rfl⟩
  | cons x a ih =>
    have hx := h x (List.mem_cons_self)
    have := ih (fun d hd => h d (List.mem_cons_of_mem _ hd))
    constructor
    · rw [List.cons_append, List.dropWhile_cons, if_pos (by simpa using hx)]; exact this.1
    · rw [List.cons_append, List.contains_cons, this.2]
      have : (c == x) = false := by simpa using fun y : c = x => hx y.symm
      rw [this]; rfl
theorem scan_ok (hx : Cx T cut) (hc : c.toNat < 128) (hmy : Ch.may (c.toNat : Int) = true) : ∀ (f : Nat) (m : L), Gd m → m ++ T <:+ q → (m ++ T).length < f → scan q c f (m ++ T) = if m.contains c = true then (m.dropWhile (· != c) ++ T, 0) else (T, if T = [] then 3 else 2)
  | 0, m, hg, hs, hf => by omega
  | f + 1, m, hg, hs, hf => by
    cases m with
    | nil =>
      rw [List.nil_append] at hs ⊢
      cases hT : T with
      | nil => rfl
      | cons b t =>
        have hb : b ≠ c := by rintro rfl; exact hx.head hc hmy t hT
        have hz : okw q (b :: t) = 0 := by
          rw [← hT, okw_eq hs (by rw [hT]; simp)]
          rcases hx.st with h | h
          · rw [h] at hT; cases hT
          · rw [h]; rfl
        rw [scan, if_neg hb, if_pos hz]; simp
    | cons b r =>
      rw [List.cons_append, scan]
      by_cases hb : b = c
      · subst hb
        rw [if_pos rfl, if_pos (by simp), List.dropWhile_cons, if_neg (by simp)]; rfl
      · obtain ⟨g1, g2, g3, g4⟩ := gd_step hg (by simp)
        have hd := Ch.join_ok (jn (b :: r) T) (p := 0) (by rw [bsz]; simp) g1
        have hw : okw q ((b :: r) ++ T) = wd (b :: r) := by
          rw [okw_eq hs (by simp), if_pos (by rw [Ch.okSame hd]; exact g1)]
          unfold wd; rw [hd]
        rw [← List.cons_append, if_neg hb, if_neg (by omega), hw, List.drop_append_of_le_length g3]
        have hfar := char_far (c := c) hg (by simp) hc (by simpa using hb)
        have hwf := while_far (c := c) (a := (b :: r).take (wd (b :: r))) (b := (b :: r).drop (wd (b :: r))) hfar
        rw [List.take_append_drop] at hwf
        rw [hwf.1, hwf.2]
        refine scan_ok hx hc hmy f _ g4 ?_ ?_
        · rw [← List.drop_append_of_le_length g3]; exact (List.drop_suffix _ _).trans hs
        · rw [List.length_append, List.length_drop]; rw [List.length_append] at hf; omega
theorem while_split (m : L) : ∃ a b, m.takeWhile (· != c) = a ∧ m.dropWhile (· != c) = b ∧ m = a ++ b := ⟨_, _, rfl, rfl, (List.takeWhile_append_dropWhile).symm⟩
theorem mem_while (a : UInt8) : ∀ (m : L), a ∈ m.takeWhile (· != c) → a ≠ c
  | [], h => by simp at h
  | b :: m, h => by
    rw [List.takeWhile_cons] at h
    split at h
    · next hb =>
      rcases List.mem_cons.1 h with rfl | h
      · simpa using hb
      · exact mem_while a m h
    · simp at h
theorem takeq_while (m : L) : m.take (m.length - (m.dropWhile (· != c)).length) = m.takeWhile (· != c) := by
  obtain ⟨a, b, h1, h2, h3⟩ := while_split (c := c) m
  rw [h1, h2, h3]
  simp
theorem drop_while (m : L) : m.drop ((m.takeWhile (· != c)).length) = m.dropWhile (· != c) := by
  obtain ⟨a, b, h1, h2, h3⟩ := while_split (c := c) m
  rw [h1, h2, h3]
  simp
theorem gd_while (hc : c.toNat < 128) : ∀ (k : Nat) (m : L), m.length ≤ k → Gd m → Gd (m.dropWhile (· != c))
  | 0, m, hk, hg => by
    have : m = [] := List.length_eq_zero_iff.1 (by omega)
    subst this; exact gd_nil
  | k + 1, m, hk, hg => by
    cases m with
    | nil => exact gd_nil
    | cons b r =>
      by_cases hb : b = c
      · rw [List.dropWhile_cons, if_neg (by simpa using hb)]; exact hg
      · obtain ⟨g1, g2, g3, g4⟩ := gd_step hg (by simp)
        have hfar := char_far (c := c) hg (by simp) hc (by simpa using hb)
        have hwf := while_far (c := c) (a := (b :: r).take (wd (b :: r))) (b := (b :: r).drop (wd (b :: r))) hfar
        rw [List.take_append_drop] at hwf
        rw [hwf.1]
        exact gd_while hc k _ (by rw [List.length_drop]; simp at hk; simp at g3; simp; omega) g4
theorem At.quoteS (hx : Cx T cut) (h : At q T l s) {c : UInt8} (hp : Sg1 c) (hb : part l = [c]) : Sm q T (quotedBy cut c l) (quoteR q c (s.has [c])) := by
  have hl := part_app hb
  have hs : s.is [c] = true := by rw [h.is hx (Sg.of1 hp), hb]; simp
  have e0 : s.bl.err = 0 := by rw [bl_err]; exact h.err
  obtain ⟨m, hm⟩ : ∃ m, l = c :: m := ⟨_, hl⟩
  have hg : Gd m := gd_cons (by rw [← hm]; exact h.gd) hp.lt
  have hh : s.has [c] = { s.bl with l := m ++ T } := by
    unfold RS.has
    rw [if_pos hs, h.eq, hm]; rfl
  have hsuf : m ++ T <:+ q := by
    have := (bl_suf s).trans h.suf
    rw [h.eq, hm] at this
    exact (List.suffix_cons _ _).trans this
  have hsc := scan_ok hx hp.lt hp.my ((m ++ T).length + 1) m hg hsuf (Nat.lt_succ_self _)
  unfold quotedBy quoteR quoteOf
  rw [hh]
  simp only
  rw [hsc, hm, List.drop_one, List.tail_cons]
  cases hc : m.contains c with
  | true =>
    rw [if_pos rfl, if_pos rfl]
    simp only [if_true]
    refine ⟨?_, ?_⟩
    · rw [List.length_append, List.length_append, ← takeq_while, show m.length + T.length - ((m.dropWhile (· != c)).length + T.length) = m.length - (m.dropWhile (· != c)).length by omega, List.take_append_of_le_length (by omega)]
    · obtain ⟨r, hr⟩ : ∃ r, m.dropWhile (· != c) = c :: r := by
        have hmem : c ∈ m := by simpa using hc
        cases hd : m.dropWhile (· != c) with
        | nil =>
          exfalso
          have h3 := List.takeWhile_append_dropWhile (p := (· != c)) (l := m)
          rw [hd, List.append_nil] at h3
          rw [← h3] at hmem
          exact mem_while c m hmem rfl
        | cons b r =>
          have := List.head_dropWhile_not (p := (· != c)) (l := m) (by rw [hd]; simp)
          simp only [hd, List.head_cons] at this
          simp at this
          exact ⟨r, by rw [this]⟩
      have hgr : Gd r := gd_cons (by rw [← hr]; exact gd_while hp.lt _ m (Nat.le_refl _) hg) hp.lt
      have hpass : pass ((m.takeWhile (· != c)).length + 2) (c :: m) = skip r := by
        unfold pass
        rw [show (m.takeWhile (· != c)).length + 2 = 1 + ((m.takeWhile (· != c)).length + 1) by omega, ← List.drop_drop, List.drop_one, List.tail_cons, ← List.drop_drop, drop_while, hr]
        rfl
      rw [hpass, hr]
      refine ⟨e0, ?_, gd_skip hgr, ?_⟩
      · unfold RS.bl
        change (if s.bl.err = 0 then _ else _ : RS).l = _
        rw [if_pos e0]
        exact skip_app hx.skip r
      · refine List.IsSuffix.trans (List.drop_suffix _ _) (List.IsSuffix.trans ?_ hsuf)
        rw [← hr]
        exact ⟨m.takeWhile (· != c), by rw [← List.append_assoc, List.takeWhile_append_dropWhile]⟩
  | false =>
    have hn : ¬ ((if T = [] then 3 else 2) = 0) := by split <;> decide
    simp only [Bool.false_eq_true, if_false]
    rw [if_neg hn]
    show Bd q (bad cut []).1 _
    have hb : (bad cut []).1 = if T = [] then 3 else 2 := by
      unfold bad
      by_cases hT : T = []
      · rw [if_pos hT, if_neg]; rintro ⟨-, x⟩; exact hx.ct.1 x hT
      · rw [if_neg hT, if_pos ⟨rfl, hx.ct.2 hT⟩]
    rw [hb]
    refine Or.inl ⟨hn, ?_⟩
    unfold RS.fail
    rw [if_pos e0]
theorem sg1_34 : Sg1 34 := ⟨by decide, by decide, by decide, by decide, by decide⟩
theorem sg1_39 : Sg1 39 := ⟨by decide, by decide, by decide, by decide, by decide⟩
theorem At.quotedS (hx : Cx T cut) (h : At q T l s) : Sm q T (quoted cut l) (quotedR q s) := by
  unfold quoted quotedR
  rw [h.is hx sg34]
  by_cases hb : part l = [34]
  · rw [if_pos hb, if_pos (by simpa using hb)]; exact h.quoteS hx sg1_34 hb
  · have hb' : ¬ (part l == [34]) = true := by simpa using hb
    rw [if_neg hb, if_neg hb', h.bl.is hx sg39]
    by_cases hc : part l = [39]
    · rw [if_pos hc, if_pos (by simpa using hc)]; exact h.bl.quoteS hx sg1_39 hc
    · have hc' : ¬ (part l == [39]) = true := by simpa using hc
      rw [if_neg hc, if_neg hc', has_no (by rw [h.bl.is hx sg39]; simpa using hc)]
      exact Or.inl ⟨(h.wrong hx).2, (h.bl.bl.wrong hx).1⟩
end Go.Proofs.YtoahlnmhjinneaaGreatDoor

set_option linter.unusedSimpArgs false
set_option linter.unusedVariables false
namespace Go.Proofs.YtoahlnmhjinneaaGreatDoor
open Go

def Er {α : Type} (l : L) (x : Rs α) : Prop := (∀ e, x = .error e → e.2 ≤ l.length) ∧ Suf l x
def ErW (l : L) (x : Except (Nat × Nat) L) : Prop := (∀ e, x = .error e → e.2 ≤ l.length) ∧ SufW l x
theorem Er.ok {α : Type} {l l' : L} {a : α} (h : l' <:+ l) : Er l (.ok (a, l')) := ⟨fun e x => (by cases x), Suf.ok h⟩
theorem Er.err {α : Type} {l : L} {e : Nat × Nat} (h : e.2 ≤ l.length := by simp [bad]) : Er (α := α) l (.error e) := ⟨fun e' x => (by cases x; exact h), Suf.error⟩
theorem Er.thn {α β : Type} {l : L} {x : Rs α} {f : α → L → Rs β} (h : Er l x) (hf : ∀ a l', Er l' (f a l')) : Er l (thn x f) := by
  refine ⟨fun e he => ?_, Suf.thn h.2 fun a l' => (hf a l').2⟩
  cases x with
  | error y => cases he; exact h.1 _ rfl
  | ok y => obtain ⟨a, l'⟩ := y; exact Nat.le_trans ((hf a l').1 e he) (h.2 a l' rfl).length_le
theorem Er.wnt {β : Type} {l : L} {x : Except (Nat × Nat) L} {f : L → Rs β} (h : ErW l x) (hf : ∀ l', Er l' (f l')) : Er l (wnt x f) := by
  refine ⟨fun e he => ?_, Suf.wnt h.2 fun l' => (hf l').2⟩
  cases x with
  | error y => cases he; exact h.1 _ rfl
  | ok l' => exact Nat.le_trans ((hf l').1 e he) (h.2 l' rfl).length_le
theorem Er.from {α : Type} {l l' : L} {x : Rs α} (h : Er l' x) (hl : l' <:+ l) : Er l x := ⟨fun e he => Nat.le_trans (h.1 e he) hl.length_le, h.2.from hl⟩
variable {cut : Bool} {inn : Option (L → Rs Prd)}
end Go.Proofs.YtoahlnmhjinneaaGreatDoor

set_option linter.unusedSimpArgs false
set_option linter.unusedVariables false
namespace Go.Proofs.YtoahlnmhjinneaaGreatDoor
open Go

variable {l l' r t p w m : L} {c d : UInt8} {cut cut' : Bool} {α β : Type} {inn inn' : Option (L → Rs Prd)}
abbrev ex (t l : L) : L := l ++ 124 :: t
theorem skip124 (t : L) : skip (124 :: t) = 124 :: t := by rw [skip_cons, if_neg (by decide)]
structure Pt (p : L) : Prop where
  ne : p ≠ []
  n124 : p ≠ [124]
theorem pass_ex {k : Nat} (hk : k ≤ l.length) (t : L) : pass k (ex t l) = ex t (pass k l) := by
  unfold pass
  show skip ((l ++ 124 :: t).drop k) = _
  rw [List.drop_append_of_le_length hk]
  exact skip_app (skip124 t) _
structure Ps (p : L) : Prop extends Pt p where
  gd : ∀ l, Gd l → part l = p → Gd (l.drop p.length)
theorem Sg.ps (h : Sg p) (hn : p ≠ [124]) : Ps p := ⟨⟨h.ne, hn⟩, fun l hg hb => by
  have hl := part_app hb
  rw [hl] at hg
  exact gd_asc h.asc hg⟩
theorem Wd.ps (h : Wd w) : Ps w := ⟨⟨by intro x; have := h.two; rw [x] at this; simp at this, by intro x; have := h.two; rw [x] at this; simp at this⟩, fun l hg hb => by rw [← (word_nm h hb).1]; exact gd_name hg⟩
theorem part_le (hb : part l = p) : p.length ≤ l.length := by have := part_app hb; rw [this]; simp
def Ex (t : L) (x x' : Rs α) : Prop := ∀ a l, x = .ok (a, l) → Gd l ∧ x' = .ok (a, ex t l)
def ExW (t : L) (x x' : Except (Nat × Nat) L) : Prop := ∀ l, x = .ok l → Gd l ∧ x' = .ok (ex t l)
theorem Ex.ok {a : α} (h : Gd l) : Ex t (.ok (a, l)) (.ok (a, ex t l)) := fun b l' e => by cases e; exact ⟨h, rfl⟩
theorem Ex.err {e : Nat × Nat} {x' : Rs α} : Ex t (.error e) x' := fun b l' e => by cases e
theorem Ex.thn {x x' : Rs α} {f f' : α → L → Rs β} (h : Ex t x x') (hf : ∀ a l, Gd l → x = .ok (a, l) → Ex t (f a l) (f' a (ex t l))) : Ex t (thn x f) (thn x' f') := fun b l2 e => by
  cases hx : x with
  | error y => rw [hx] at e; cases e
  | ok y =>
    obtain ⟨a, l1⟩ := y
    obtain ⟨g, e1⟩ := h a l1 hx
    rw [hx] at e
    rw [e1]
    exact hf a l1 g hx b l2 e
theorem Ex.wnt {x x' : Except (Nat × Nat) L} {f f' : L → Rs β} (h : ExW t x x') (hf : ∀ l, Gd l → x = .ok l → Ex t (f l) (f' (ex t l))) : Ex t (wnt x f) (wnt x' f') := fun b l2 e => by
  cases hx : x with
  | error y => rw [hx] at e; cases e
  | ok l1 =>
    obtain ⟨g, e1⟩ := h l1 hx
    rw [hx] at e
    rw [e1]
    exact hf l1 g hx b l2 e
theorem while_ex {m : L} (hc : c ∈ m) (b : L) : (m ++ b).takeWhile (· != c) = m.takeWhile (· != c) ∧ (m.takeWhile (· != c)).length + 1 ≤ m.length := by
  induction m with
  | nil => simp at hc
  | cons x m ih =>
    rw [List.cons_append, List.takeWhile_cons, List.takeWhile_cons]
    by_cases hx : x = c
    · subst hx; simp
    · have hm : c ∈ m := by
        rcases List.mem_cons.1 hc with h | h
        · exact absurd h.symm hx
        · exact h
      obtain ⟨h1, h2⟩ := ih hm
      have : (x != c) = true := by simpa using hx
      rw [this]
      simp only [if_true]
      exact ⟨by rw [h1], by simp; omega⟩
theorem quotedBy_ex (h : Gd l) (hc : Sg1 c) (hb : part l = [c]) (t : L) : Ex t (quotedBy cut c l) (quotedBy cut' c (ex t l)) := by
  obtain ⟨m, hm⟩ : ∃ m, l = c :: m := ⟨_, part_app hb⟩
  have hg : Gd m := gd_cons (by rw [← hm]; exact h) hc.lt
  unfold quotedBy quoteOf
  have e1 : (ex t l).drop 1 = m ++ 124 :: t := by rw [hm]; rfl
  have e2 : l.drop 1 = m := by rw [hm]; rfl
  rw [e1, e2]
  cases hcc : m.contains c with
  | false => exact Ex.err
  | true =>
    have hmem : c ∈ m := by simpa using hcc
    obtain ⟨h1, h2⟩ := while_ex hmem (124 :: t)
    have h3 : (m ++ 124 :: t).contains c = true := by simp [hmem]
    rw [h3, if_pos rfl, if_pos rfl, h1, pass_ex (by rw [hm]; simp; omega)]
    refine Ex.ok (gd_skip ?_)
    rw [hm, show (m.takeWhile (· != c)).length + 2 = 1 + ((m.takeWhile (· != c)).length + 1) by omega, ← List.drop_drop, List.drop_one, List.tail_cons, ← List.drop_drop, drop_while]
    have hgw := gd_while hc.lt _ m (Nat.le_refl _) hg
    cases hd : m.dropWhile (· != c) with
    | nil => exact gd_nil
    | cons b r =>
      have hbc := List.head_dropWhile_not (p := (· != c)) (l := m) (by rw [hd]; simp)
      simp only [hd, List.head_cons] at hbc
      simp at hbc
      rw [hd, hbc] at hgw
      exact gd_cons hgw hc.lt
theorem ps91 : Ps [91] := sg91.ps (by decide)
theorem ps93 : Ps [93] := sg93.ps (by decide)
theorem ps40 : Ps [40] := sg40.ps (by decide)
theorem ps41 : Ps [41] := sg41.ps (by decide)
theorem ps64 : Ps [64] := sg64.ps (by decide)
theorem ps46 : Ps [46] := sg46.ps (by decide)
theorem ps47 : Ps [47] := sg47.ps (by decide)
theorem ps4747 : Ps [47, 47] := sg4747.ps (by decide)
theorem ps42 : Ps [42] := sg42.ps (by decide)
theorem ps61 : Ps [61] := sg61.ps (by decide)
theorem ps3361 : Ps [33, 61] := sg3361.ps (by decide)
variable {read read' : L → Rs Prd} {word : L}
end Go.Proofs.YtoahlnmhjinneaaGreatDoor
