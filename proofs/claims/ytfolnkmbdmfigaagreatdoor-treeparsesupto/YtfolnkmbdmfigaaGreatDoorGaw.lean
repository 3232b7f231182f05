import Derived.Test.YtfolnkmbdmfigaaGreatDoorGav
import Derived.Test.YtfolnkmbdmfigaaGreatDoorGao
set_option linter.unusedVariables false
set_option linter.unusedSimpArgs false
set_option linter.unusedSimpArgs false
set_option linter.unusedVariables false
namespace Go.Proofs.YtfolnkmbdmfigaaGreatDoor
open Go.RowKit Go.Lib

def NameOf (n : List UInt8) : Prop := ∃ (s0 : ByteArray) (q : Nat), Ch.begins (cur s0 q) = true ∧ n = Ch.bytes s0 q (nend s0 q - q)
def TextOf (t : List UInt8) : Prop := ∃ cs : List Int, (∀ c ∈ cs, Ch.may c = true) ∧ t = encs cs
variable {s : ByteArray} {p : Nat} {c : Int} {x : Sc} {q : Bool}
theorem bytes_len (s : ByteArray) (i n : Nat) (h : i + n ≤ s.size) : (Ch.bytes s i n).length = n := by
  unfold Ch.bytes
  have hz : s.data.toList.length = s.size := by simp
  rw [List.length_take, List.length_drop]; omega
theorem name_copy {n : List UInt8} (hn : NameOf n) (h : Ch.has s p n = true) (hend : ¬ inN (cur s (p + n.length)) = true) : Ch.begins (cur s p) = true ∧ nend s p = p + n.length ∧ 0 < n.length := by
  obtain ⟨s0, q, hb, rfl⟩ := hn
  have h0 : 0 ≤ cur s0 q := by have := (Ch.begins_iff _).1 hb; omega
  have hq := cur_pos h0
  have hle : nend s0 q ≤ s0.size := nend_le (by omega)
  have hin : inN (cur s0 q) = true := by unfold inN; rw [hb]; rfl
  have hgt : q < nend s0 q := by
    have := nend_ge s0 (q + wid s0 q)
    rw [nend_yes hin]; omega
  have hlen := bytes_len s0 q (nend s0 q - q) (by omega)
  rw [hlen] at hend ⊢
  have hbz : ∀ k, q ≤ k → k < nend s0 q → Ch.bz s (p + (k - q)) = Ch.bz s0 k := by
    intro k h1 h2
    have := Ch.has_bz s _ p h (k - q) (by omega)
    rw [this]
    have hp := bz_piece s0 q (nend s0 q - q) (k - q) (by omega) (by omega)
    rw [Ch.bz_txt, List.getElem?_eq_getElem (by omega)] at hp
    rw [show q + (k - q) = k by omega] at hp
    exact hp
  have same : ∀ i, q ≤ i → i < nend s0 q → 0 ≤ cur s0 i → i + wid s0 i ≤ nend s0 q → cur s (p + (i - q)) = cur s0 i ∧ wid s (p + (i - q)) = wid s0 i := by
    intro i h1 h2 h3 h4
    have hi := cur_pos h3
    have hd : Utf8.decode s (p + (i - q)) = Utf8.decode s0 i := by
      refine Ch.decode_prefix (s := s0) (t := s) (i := i) (j := p + (i - q)) hi.1 hi.2.1 (fun k hk => ?_)
      have hk' : k < wid s0 i := hk
      have := hbz (i + k) (by omega) (by omega)
      rw [show p + (i + k - q) = p + (i - q) + k by omega] at this
      exact this.symm
    have hlt : p + (i - q) < s.size := by
      have := hbz i h1 h2
      have h5 : 0 ≤ Ch.bz s0 i := by
        rcases Ch.decode_byte s0 i hi.1 with ⟨a, _⟩ | ⟨a, _⟩ <;> omega
      exact (Ch.bz_get (s := s) (i := p + (i - q)) (by omega)).1
    have hok : Ch.okAt s (p + (i - q)) = true := by rw [Ch.okAt_of hd]; exact hi.2.1
    refine ⟨?_, by unfold wid; rw [hd]⟩
    rw [hi.2.2.1]
    unfold cur; rw [if_pos hlt, if_pos hok, hd]
  have key : ∀ (m i : Nat), s0.size - i < m → q ≤ i → i ≤ nend s0 q → nend s0 i = nend s0 q → nend s (p + (i - q)) = p + (nend s0 q - q) := by
    intro m
    induction m with
    | zero => intro i h; omega
    | succ m ih =>
      intro i hm h1 h2 h3
      by_cases hi : inN (cur s0 i) = true
      · have hp := inN_pos hi
        have hc := cur_pos hp
        have hg := nend_ge s0 (i + wid s0 i)
        have h4 : nend s0 (i + wid s0 i) = nend s0 q := by rw [← nend_yes hi]; exact h3
        obtain ⟨e1, e2⟩ := same i h1 (by omega) hp (by omega)
        rw [nend_yes (by rw [e1]; exact hi), e2, show p + (i - q) + wid s0 i = p + (i + wid s0 i - q) by omega]
        exact ih (i + wid s0 i) (by omega) (by omega) (by omega) h4
      · rw [nend_no hi] at h3
        rw [h3, nend_no hend]
  have hw := nend_ge s0 (q + wid s0 q)
  rw [← nend_yes hin] at hw
  obtain ⟨e1, _⟩ := same q (Nat.le_refl _) hgt h0 hw
  rw [Nat.sub_self, Nat.add_zero] at e1
  have hk := key (s0.size + 1) q (by omega) (Nat.le_refl _) (by omega) rfl
  rw [Nat.sub_self, Nat.add_zero] at hk
  exact ⟨by rw [e1]; exact hb, hk, by omega⟩
theorem has_sign {u : UInt8} {l : List UInt8} (hu : u.toNat = 10 ∨ (32 ≤ u.toNat ∧ u.toNat < 128)) (h : Ch.has s p (u :: l) = true) : cur s p = (u.toNat : Int) ∧ wid s p = 1 ∧ p < s.size ∧ Ch.has s (p + 1) l = true := by
  simp only [Ch.has, Bool.and_eq_true, beq_iff_eq] at h
  have hc : cur s p = (u.toNat : Int) := by
    rw [cur_byte (by omega)]
    have := Ch.bz_get (s := s) (i := p) (by omega)
    exact ⟨this.1, by omega⟩
  exact ⟨hc, wid_byte (by omega) (by omega), (cur_pos (s := s) (i := p) (by omega)).1, h.2⟩
theorem read_close {n : List UInt8} (he : x.err = 0) (hn : NameOf n) (h : Ch.has s x.i ([60, 47] ++ n ++ [62]) = true) : x.markup s = Sc.told { x with i := x.i + ([60, 47] ++ n ++ [62]).length } ⟨2, n, [], [], x.i⟩ ∧ cur s x.i = 60 := by
  rw [List.append_assoc, List.cons_append, List.cons_append, List.nil_append] at h
  obtain ⟨a1, _, _, a2⟩ := has_sign (u := 60) (by decide) h
  obtain ⟨b1, _, _, b2⟩ := has_sign (u := 47) (by decide) a2
  rw [has_append] at b2
  obtain ⟨d1, _, d3, _⟩ := has_sign (u := 62) (l := []) (by decide) b2.2
  obtain ⟨n1, n2, n3⟩ := name_copy hn b2.1 (by rw [d1]; decide)
  have a1' : cur s x.i = 60 := a1
  have b1' : cur s (x.i + 1) = 47 := b1
  have d1' : cur s (x.i + 1 + 1 + n.length) = 62 := d1
  refine ⟨?_, a1'⟩
  have hx : ({ x with i := x.i + 1 } : Sc).err = 0 := he
  have i33 : ¬ Sc.is { x with i := x.i + 1 } s 33 = true := fun e => by have e2 : cur s (x.i + 1) = 33 := (is_cur hx (c := 33) (by omega)).1 e; omega
  have i63 : ¬ Sc.is { x with i := x.i + 1 } s 63 = true := fun e => by have e2 : cur s (x.i + 1) = 63 := (is_cur hx (c := 63) (by omega)).1 e; omega
  have i47 : Sc.is { x with i := x.i + 1 } s 47 = true := (is_cur hx (c := 47) (by omega)).2 b1'
  unfold Sc.markup Sc.behind
  rw [if_neg i33, if_neg i63, if_pos i47]
  unfold Sc.closeTag
  have hb : Ch.begins (cur s ({ x with i := x.i + 1 + 1 } : Sc).i) = true := n1
  obtain ⟨m1, m2⟩ := name_yes (s := s) (x := { x with i := x.i + 1 + 1 }) he hb
  simp only at m1 m2 ⊢
  rw [m1, m2, n2]
  have hg : gap s (x.i + 1 + 1 + n.length) = 0 := gap_no (by rw [d1']; decide)
  have hbk := blanks_gap (s := s) (x := { x with i := x.i + 1 + 1 + n.length }) he
  simp only at hbk
  rw [hbk, hg, Nat.add_zero]
  have hm := must_one (s := s) (x := { x with i := x.i + 1 + 1 + n.length }) he (c := 62) (by decide)
  rw [hm]
  have hif : cur s ({ x with i := x.i + 1 + 1 + n.length } : Sc).i = ((62 : UInt8).toNat : Int) := d1'
  rw [if_pos hif]
  have hlen : ([60, 47] ++ n ++ [62]).length = n.length + 3 := by simp
  have hbytes : Ch.bytes s (x.i + 1 + 1) (x.i + 1 + 1 + n.length - (x.i + 1 + 1)) = n := by
    rw [show x.i + 1 + 1 + n.length - (x.i + 1 + 1) = n.length by omega]
    have hz := Ch.has_size b2.1 n3
    apply List.ext_getElem
    · rw [bytes_len s _ _ hz]
    · intro k hk1 hk2
      have e1 := Ch.has_bz s _ _ b2.1 k hk2
      have e2 := bz_piece s (x.i + 1 + 1) n.length k hz hk2
      rw [Ch.bz_txt, List.getElem?_eq_getElem hk1] at e2
      have : (((Ch.bytes s (x.i + 1 + 1) n.length)[k]).toNat : Int) = ((n[k]).toNat : Int) := by rw [← e1, ← e2]
      exact UInt8.toNat_inj.1 (by omega)
  rw [hbytes, hlen]
  have : x.i + 1 + 1 + n.length + 1 = x.i + (n.length + 3) := by omega
  rw [this]
end Go.Proofs.YtfolnkmbdmfigaaGreatDoor

set_option linter.unusedSimpArgs false
set_option linter.unusedVariables false
namespace Go.Proofs.YtfolnkmbdmfigaaGreatDoor
open Go.RowKit Go.Lib
variable {s : ByteArray} {p : Nat} {c : Int} {x : Sc} {q : Bool}
theorem has_bytes {n : List UInt8} (h : Ch.has s p n = true) (h0 : 0 < n.length) : Ch.bytes s p n.length = n := by
  have hz := Ch.has_size h h0
  apply List.ext_getElem
  · rw [bytes_len s _ _ hz]
  · intro k hk1 hk2
    have e1 := Ch.has_bz s _ _ h k hk2
    have e2 := bz_piece s p n.length k hz hk2
    rw [Ch.bz_txt, List.getElem?_eq_getElem hk1] at e2
    have : (((Ch.bytes s p n.length)[k]).toNat : Int) = ((n[k]).toNat : Int) := by rw [← e1, ← e2]
    exact UInt8.toNat_inj.1 (by omega)
def shownA (a : List UInt8 × List UInt8) : List UInt8 := 10 :: (a.1 ++ ([32, 61, 32, 34] ++ (Ch.escL true a.2 ++ [34])))
theorem valF_quote (he : x.err = 0) (h : cur s x.i = 34) (t : List UInt8) (f : Nat) : valF s 34 (f + 1) x t = (x, t) := by
  have his : x.is s 34 = true := (is_cur he (c := 34) (by omega)).2 h
  unfold valF
  rw [if_neg (by rw [his]; simp)]
theorem valF_fuel : ∀ (cs : List Int) (x : Sc) (t : List UInt8) (f : Nat), x.err = 0 → (∀ c ∈ cs, Ch.may c = true) → Ch.has s x.i (escs true cs ++ [34]) = true → cs.length < f →
    valF s 34 f x t = ({ x with i := x.i + (escs true cs).length }, t ++ encs cs) := by
  intro cs x t f he hm h hf
  rw [has_append] at h
  obtain ⟨f, rfl⟩ : ∃ g, f = g + 1 + cs.length := ⟨f - 1 - cs.length, by omega⟩
  rw [val_esc cs x t (f + 1) he hm h.1]
  obtain ⟨a1, _⟩ := has_sign (u := 34) (l := []) (by decide) h.2
  exact valF_quote (x := { x with i := x.i + (escs true cs).length }) he a1 _ f
theorem escs_len (q : Bool) : ∀ cs : List Int, cs.length ≤ (escs q cs).length
  | [] => Nat.le_refl _
  | c :: cs => by
    have e2 : escs q (c :: cs) = escC q c ++ escs q cs := by simp [escs]
    have := escs_len q cs
    have h1 : 1 ≤ (escC q c).length := by
      unfold escC
      split
      · exact Ch.enc_pos c
      · rename_i hr
        obtain ⟨l, hl⟩ := Ch.refFor_head hr
        rw [hl]; simp
    rw [e2, List.length_append, List.length_cons]; omega
end Go.Proofs.YtfolnkmbdmfigaaGreatDoor

set_option linter.unusedSimpArgs false
set_option linter.unusedVariables false
namespace Go.Proofs.YtfolnkmbdmfigaaGreatDoor
open Go.RowKit Go.Lib
variable {s : ByteArray} {p : Nat} {c : Int} {x : Sc} {q : Bool}
def Dist : Ats → Ats → Prop
  | _, [] => True
  | l, a :: ats => l.any (fun b => b.1 == a.1) = false ∧ Dist (l ++ [a]) ats
theorem begins_not {c : Int} (h : Ch.begins c = true) : ¬ Tk.blank c = true ∧ c ≠ 47 ∧ c ≠ 62 ∧ c ≠ 33 ∧ c ≠ 63 := by
  have := (Ch.begins_iff c).1 h
  refine ⟨fun e => ?_, by omega, by omega, by omega, by omega⟩
  have := tk_blank e
  omega
end Go.Proofs.YtfolnkmbdmfigaaGreatDoor

set_option linter.unusedSimpArgs false
set_option linter.unusedVariables false
namespace Go.Proofs.YtfolnkmbdmfigaaGreatDoor
open Go.RowKit Go.Lib
variable {s : ByteArray} {p : Nat} {c : Int} {x y z : Sc} {q : Bool}

def markR : List UInt8 := [60, 33, 45, 45, 32, 114, 32, 45, 45, 62]
def markO : List UInt8 := [60, 63, 111, 63, 62]
def markC : List UInt8 := [60, 33, 91, 67, 68, 65, 84, 65, 91, 93, 93, 62]
def Goes (s : ByteArray) (x y : Sc) : Prop := ∃ n, x.i + n ≤ y.i ∧ ∀ f, readF s (f + n) x = readF s f y
theorem Goes.refl (x : Sc) : Goes s x x := ⟨0, by omega, fun f => rfl⟩
theorem Goes.trans (h : Goes s x y) (k : Goes s y z) : Goes s x z := by
  obtain ⟨n, h1, h2⟩ := h
  obtain ⟨m, k1, k2⟩ := k
  refine ⟨m + n, by omega, fun f => ?_⟩
  rw [← Nat.add_assoc, h2, k2]
theorem Goes.markup (he : x.err = 0) (h60 : cur s x.i = 60) (hi : x.i + 1 ≤ (x.markup s).i) : Goes s x (x.markup s) := by
  have hp := (cur_byte (s := s) (i := x.i) (c := 60) (by omega)).1 h60
  refine ⟨1, hi, fun f => ?_⟩
  conv => lhs; unfold readF
  rw [if_pos ⟨hp.1, he⟩]
  unfold Sc.piece
  rw [if_pos hp.2]
theorem Goes.over (h : Goes s Sc.zero y) (hi : y.i = s.size) : readS s = y := by
  obtain ⟨n, h1, h2⟩ := h
  have h0 : (Sc.zero).i = 0 := rfl
  unfold readS
  obtain ⟨f, hf⟩ : ∃ f, s.size + 1 = f + n := ⟨s.size + 1 - n, by omega⟩
  rw [hf, h2]
  cases f with
  | zero => rfl
  | succ f => simp only [readF]; rw [if_neg (fun e => by omega)]
def marks : List UInt8 := markR ++ (markO ++ markC)
end Go.Proofs.YtfolnkmbdmfigaaGreatDoor

set_option linter.unusedSimpArgs false
set_option linter.unusedVariables false
namespace Go.Proofs.YtfolnkmbdmfigaaGreatDoor
open Go.RowKit Go.Lib
variable {s : ByteArray} {p : Nat} {c : Int} {x y z : Sc} {q : Bool}

def showT (t : Tok) : List UInt8 := if t.kind = 1 then 60 :: (t.name ++ (t.attrs.flatMap shownA ++ [32, 62])) else if t.kind = 2 then [60, 47] ++ t.name ++ [62] else Ch.escL false t.text ++ marks
def TokOk (t : Tok) : Prop :=
  (t.kind = 1 ∧ NameOf t.name ∧ (∀ a ∈ t.attrs, NameOf a.1 ∧ TextOf a.2) ∧ Dist [] t.attrs ∧ t.text = []) ∨ (t.kind = 2 ∧ NameOf t.name ∧ t.attrs = [] ∧ t.text = []) ∨
  (t.kind = 3 ∧ t.name = [] ∧ t.attrs = [] ∧ TextOf t.text ∧ t.text ≠ [])
def Chain : Bool → List Tok → Prop
  | _, [] => True
  | b, t :: l => TokOk t ∧ (t.kind = 3 → b = false) ∧ Chain (t.kind == 3) l
def ends : Bool → List Tok → Bool
  | b, [] => b
  | _, t :: l => ends (t.kind == 3) l
def bare (t : Tok) : Tok := { t with at_ := 0 }
theorem chain_append : ∀ (l l' : List Tok) (b : Bool), Chain b (l ++ l') ↔ Chain b l ∧ Chain (ends b l) l' := by
  intro l
  induction l with
  | nil => intro l' b; simp [Chain, ends]
  | cons t l ih => intro l' b; simp only [List.cons_append, Chain, ends, ih, and_assoc]
theorem ends_append : ∀ (l l' : List Tok) (b : Bool), ends b (l ++ l') = ends (ends b l) l' := by
  intro l
  induction l with
  | nil => intro l' b; rfl
  | cons t l ih => intro l' b; simp only [List.cons_append, ends, ih]
end Go.Proofs.YtfolnkmbdmfigaaGreatDoor

set_option linter.unusedSimpArgs false
set_option linter.unusedVariables false
namespace Go.Proofs.YtfolnkmbdmfigaaGreatDoor
open Go.RowKit Go.Lib
variable {s : ByteArray} {p : Nat} {c : Int} {x y z : Sc} {q : Bool}

theorem may_cur (h : 0 ≤ cur s p) : Ch.may (cur s p) = true := by
  have hc := cur_pos h
  have h1 : Ch.okAt s p = true := hc.2.1
  rw [hc.2.2.1]
  simp only [Ch.okAt, Bool.and_eq_true] at h1
  exact h1.1
theorem TextOf.nil : TextOf [] := ⟨[], fun c hc => by simp at hc, rfl⟩
theorem TextOf.one (h : Ch.may c = true) : TextOf (Lib.encodeRune c) := ⟨[c], fun d hd => by simp at hd; rw [hd]; exact h, by simp [encs]⟩
theorem TextOf.add {a b : List UInt8} (h : TextOf a) (k : TextOf b) : TextOf (a ++ b) := by
  obtain ⟨cs, h1, h2⟩ := h
  obtain ⟨ds, k1, k2⟩ := k
  refine ⟨cs ++ ds, fun c hc => ?_, by rw [h2, k2]; simp [encs]⟩
  rcases List.mem_append.1 hc with e | e
  · exact h1 c e
  · exact k1 c e
theorem char_text (he : x.err = 0) (bar : Nat) (hb : 32 ≤ bar ∧ bar < 128) (h : (x.char s bar).1.err = 0) : TextOf (x.char s bar).2.data.toList := by
  rw [char_cur he bar hb] at h ⊢
  split
  · rename_i h1
    rw [if_pos h1] at h
    exact absurd h (wrong_err x s he)
  · rename_i h1
    rw [if_neg h1] at h
    split
    · rename_i h2
      rw [if_pos h2] at h
      split
      · rename_i h3
        rw [if_pos h3] at h
        exact absurd h (fail_err x 4 x.i he (by decide))
      · rename_i h3
        have := Ch.refAt_spec h3
        exact TextOf.one this.1
    · have h0 : 0 ≤ cur s x.i := by omega
      rw [bytes_extract, show x.i + wid s x.i - x.i = wid s x.i by omega, ← enc_cur h0]
      exact TextOf.one (may_cur h0)
theorem valF_text (Q : Nat) (hQ : 32 ≤ Q ∧ Q < 128) : ∀ (f : Nat) (x : Sc) (t : List UInt8), TextOf t → (valF s Q f x t).1.err = 0 → TextOf (valF s Q f x t).2 := by
  intro f
  induction f with
  | zero => intro x t ht _; exact ht
  | succ f ih =>
    intro x t ht h
    simp only [valF] at h ⊢
    split
    · rename_i h1
      rw [if_pos h1] at h
      by_cases hc : (x.char s Q).1.err = 0
      · exact ih _ _ (ht.add (char_text h1.1 Q hQ hc)) h
      · have hv : ∀ f t, valF s Q f (x.char s Q).1 t = ((x.char s Q).1, t) := by
          intro f t
          cases f with
          | zero => rfl
          | succ f => simp only [valF]; rw [if_neg (fun e => hc e.1)]
        rw [hv] at h
        exact absurd h hc
    · exact ht
theorem value_text (he : x.err = 0) (h : (x.value s).1.err = 0) : TextOf (x.value s).2 := by
  rw [value_cases he] at h ⊢
  split
  · rename_i h1
    rw [if_pos h1] at h
    exact valF_text _ (by rcases h1 with e | e <;> rw [e] <;> decide) _ _ _ TextOf.nil h
  · exact TextOf.nil
theorem untilF_text (t : ByteArray) (hz : t.size ≠ 0) (frm : Nat) : ∀ (f : Nat) (x : Sc), x.err = 0 → frm ≤ x.i → TextOf (Ch.bytes s frm (x.i - frm)) → TextOf (untilF s t frm f x).2.data.toList := by
  intro f
  induction f with
  | zero => intro x _ _ _; exact TextOf.nil
  | succ f ih =>
    intro x he hf ht
    rw [until_step _ _ _ _ _ he hz]
    split
    · rw [bytes_extract]; exact ht
    · split
      · rename_i h0
        refine ih _ he (by show frm ≤ x.i + wid s x.i; omega) ?_
        have hb := bytes_add s frm (x.i - frm) (wid s x.i)
        rw [show frm + (x.i - frm) = x.i by omega] at hb
        show TextOf (Ch.bytes s frm (x.i + wid s x.i - frm))
        rw [show x.i + wid s x.i - frm = x.i - frm + wid s x.i by omega, ← hb, ← enc_cur h0]
        exact ht.add (TextOf.one (may_cur h0))
      · rw [until_err _ _ _ _ _ (wrong_err x s he)]; exact TextOf.nil
theorem must_no (he : x.err ≠ 0) (l : List UInt8) : (Sc.mustL s l x).err ≠ 0 := by
  cases l with
  | nil => exact he
  | cons u l => simp only [Sc.mustL]; rw [if_neg he]; exact he
theorem name_of (h : (x.name s).1.err = 0) : NameOf (x.name s).2.data.toList := by
  by_cases he : x.err = 0
  · by_cases hb : Ch.begins (cur s x.i) = true
    · rw [(name_yes he hb).2]
      exact ⟨s, x.i, hb, rfl⟩
    · rw [name_no he hb] at h
      exact absurd h (wrong_err x s he)
  · unfold Sc.name at h; rw [if_neg he] at h; exact absurd h he
theorem attr_of {l : Ats} (h : (x.attr s l).1.err = 0) : NameOf (x.attr s l).2.1 ∧ TextOf (x.attr s l).2.2 ∧ l.any (fun b => b.1 == (x.attr s l).2.1) = false := by
  unfold Sc.attr at h ⊢
  split
  · rename_i h1
    rw [if_pos h1] at h
    have h2 : (x.twice s l).err = 0 := by
      refine Classical.byContradiction fun e => ?_
      have : (Sc.mustL s [61] ((x.twice s l).blanks s)).err ≠ 0 := must_no (show ((x.twice s l).blanks s).err ≠ 0 from e) _
      exact this h1
    have h3 : l.any (fun a => a.1 == (x.name s).2.data.toList) = false ∧ (x.name s).1.err = 0 := by
      unfold Sc.twice at h2
      split at h2
      · by_cases hn : (x.name s).1.err = 0
        · exact absurd h2 (fail_err _ 5 x.i hn (by decide))
        · unfold Sc.fail at h2; rw [if_neg hn] at h2; exact absurd h2 hn
      · rename_i h4
        exact ⟨Bool.eq_false_iff.2 h4, h2⟩
    exact ⟨name_of h3.2, value_text h1 h, h3.1⟩
  · rename_i h1
    rw [if_neg h1] at h
    exact absurd h h1
theorem dist_append : ∀ (a b l : Ats), Dist l (a ++ b) ↔ Dist l a ∧ Dist (l ++ a) b := by
  intro a
  induction a with
  | nil => intro b l; simp [Dist]
  | cons u a ih =>
    intro b l
    simp only [List.cons_append, Dist, ih, and_assoc, List.append_assoc, List.singleton_append]
    simp
theorem attrsF_of : ∀ (f : Nat) (x : Sc) (l : Ats), (∀ a ∈ l, NameOf a.1 ∧ TextOf a.2) → Dist [] l → (attrsF s f x l).1.err = 0 → (∀ a ∈ (attrsF s f x l).2, NameOf a.1 ∧ TextOf a.2) ∧ Dist [] (attrsF s f x l).2 := by
  intro f
  induction f with
  | zero => intro x l h1 h2 _; exact ⟨h1, h2⟩
  | succ f ih =>
    intro x l h1 h2 h
    simp only [attrsF] at h ⊢
    split
    · exact ⟨h1, h2⟩
    · rename_i h3
      rw [if_neg h3] at h
      by_cases ha : ((x.blanks s).attr s l).1.err = 0
      · obtain ⟨a1, a2, a3⟩ := attr_of ha
        refine ih _ _ ?_ ?_ h
        · intro a hm
          rcases List.mem_append.1 hm with e | e
          · exact h1 a e
          · rw [List.mem_singleton.1 e]; exact ⟨a1, a2⟩
        · rw [dist_append]
          exact ⟨h2, by simpa [Dist] using a3⟩
      · rw [attrsF_err ha] at h; exact absurd h ha
def Inv (x : Sc) : Prop := TextOf x.more ∧ Chain false x.l ∧ ends false x.l = false
theorem Inv.same (h : Inv x) (k : Same3 x y) : Inv y := by
  obtain ⟨a, b, d⟩ := h
  exact ⟨by rw [k.2.1]; exact a, by rw [k.1]; exact b, by rw [k.1]; exact d⟩
theorem Inv.told {t : Tok} (h : Inv x) (ht : x.err = 0 → TokOk t ∧ t.kind ≠ 3) : Inv (x.told t) := by
  by_cases he : x.err = 0
  · obtain ⟨h1, h2, h3⟩ := h
    obtain ⟨t1, t2⟩ := ht he
    rw [told_l he]
    refine ⟨TextOf.nil, ?_, ?_⟩
    · simp only
      rw [chain_append]
      split
      · rw [h3]
        exact ⟨h2, t1, fun e => absurd e t2, trivial⟩
      · rename_i hm
        rw [chain_append, ends_append, h3]
        refine ⟨⟨h2, Or.inr (Or.inr ⟨rfl, rfl, rfl, h1, hm⟩), fun _ => rfl, trivial⟩, t1, fun e => absurd e t2, trivial⟩
    · simp only
      rw [ends_append]
      simp only [ends]
      simpa using t2
  · rw [told_err' he]; exact h
theorem kind_ne {k : Int} {n : List UInt8} {l : Ats} {t : List UInt8} {a : Int} (h : k ≠ 3) : (⟨k, n, l, t, a⟩ : Tok).kind ≠ 3 := h
theorem openTail_inv {nm : List UInt8} {l : Ats} {tg : Int} (h : Inv x) (hn : x.err = 0 → NameOf nm ∧ (∀ a ∈ l, NameOf a.1 ∧ TextOf a.2) ∧ Dist [] l) : Inv (x.openTail s nm l tg) := by
  unfold Sc.openTail
  have hm : ∀ y : Sc, y.err = x.err → ((Sc.mustL s [62] y).err = 0 → x.err = 0) := by
    intro y hy e
    refine Classical.byContradiction fun e2 => ?_
    exact must_no (s := s) (x := y) (by rw [hy]; exact e2) [62] e
  split
  · have i1 := (h.same (at_s x (x.i + 1))).same (mustL_s s [62] _)
    have i2 := i1.told (t := ⟨1, nm, l, [], tg⟩) (fun e => by
      obtain ⟨a, b, d⟩ := hn (hm { x with i := x.i + 1 } rfl e)
      exact ⟨Or.inl ⟨rfl, a, b, d, rfl⟩, kind_ne (by decide)⟩)
    exact i2.told (fun e => by
      rw [told_e] at e
      obtain ⟨a, b, d⟩ := hn (hm { x with i := x.i + 1 } rfl e)
      exact ⟨Or.inr (Or.inl ⟨rfl, a, rfl, rfl⟩), kind_ne (by decide)⟩)
  · have i1 := h.same (mustL_s s [62] x)
    exact i1.told (t := ⟨1, nm, l, [], tg⟩) (fun e => by
      obtain ⟨a, b, d⟩ := hn (hm _ rfl e)
      exact ⟨Or.inl ⟨rfl, a, b, d, rfl⟩, kind_ne (by decide)⟩)
theorem openTag_inv {tg : Int} (h : Inv x) : Inv (x.openTag s tg) := by
  unfold Sc.openTag
  refine openTail_inv ((h.same (name_s x s)).same (attrs_s _ s)) fun e => ?_
  have hn : (x.name s).1.err = 0 := by
    refine Classical.byContradiction fun e2 => ?_
    unfold Sc.attrs at e
    rw [attrsF_err e2] at e
    exact e2 e
  have ha := attrsF_of (s := s) (s.size + 2) (x.name s).1 [] (fun a hm => by simp at hm) trivial e
  exact ⟨name_of hn, ha.1, ha.2⟩
theorem closeTag_inv {tg : Int} (h : Inv x) : Inv (x.closeTag s tg) := by
  unfold Sc.closeTag
  refine (((h.same (name_s x s)).same (blanks_s _ s)).same (mustL_s s [62] _)).told fun e => ?_
  have hn : (x.name s).1.err = 0 := by
    refine Classical.byContradiction fun e2 => ?_
    exact must_no (s := s) (x := (x.name s).1.blanks s) e2 [62] e
  exact ⟨Or.inr (Or.inl ⟨rfl, name_of hn, rfl, rfl⟩), kind_ne (by decide)⟩
theorem cdata_inv (h : Inv x) (he : x.err = 0) : Inv (x.cdata s) := by
  unfold Sc.cdata
  have h1 := (h.same (mustL_s s [91, 67, 68, 65, 84, 65, 91] x)).same (until_s _ s ⟨#[93, 93, 62]⟩)
  split
  · rename_i hc
    refine ⟨?_, h1.2.1, h1.2.2⟩
    refine h1.1.add ?_
    by_cases hm : (Sc.mustL s [91, 67, 68, 65, 84, 65, 91] x).err = 0
    · exact untilF_text _ (by decide) _ _ _ hm (Nat.le_refl _) (by rw [Nat.sub_self]; exact TextOf.nil)
    · unfold Sc.until at hc
      rw [until_err _ _ _ _ _ hm] at hc
      exact absurd hc.1 hm
  · exact h1
theorem markup_inv (h : Inv x) (he : x.err = 0) : Inv (x.markup s) := by
  unfold Sc.markup Sc.behind
  have h1 := h.same (at_s x (x.i + 1))
  split
  · unfold Sc.bang
    have h2 := h1.same (at_s _ (x.i + 1 + 1))
    split
    · exact cdata_inv h2 he
    · unfold Sc.remark
      exact ((h2.same (mustL_s s [45, 45] _)).same (until_s _ s _)).same (mustL_s s [62] _)
  · split
    · unfold Sc.order
      have h2 := h1.same (at_s _ (x.i + 1 + 1))
      exact (h2.same (name_s _ s)).same (until_s _ s _)
    · split
      · exact closeTag_inv (h1.same (at_s _ (x.i + 1 + 1)))
      · exact openTag_inv h1
theorem piece_inv (h : Inv x) (he : x.err = 0) : Inv (x.piece s) := by
  unfold Sc.piece
  split
  · exact markup_inv h he
  · have h1 := h.same (char_s x s 60)
    split
    · rename_i hc
      exact ⟨h1.1.add (char_text he 60 (by omega) hc), h1.2.1, h1.2.2⟩
    · exact h1
theorem readF_inv : ∀ (f : Nat) (x : Sc), Inv x → Inv (readF s f x) := by
  intro f
  induction f with
  | zero => intro x h; exact h
  | succ f ih =>
    intro x h
    simp only [readF]
    split
    · rename_i hc; exact ih _ (piece_inv h hc.2)
    · exact h
theorem refAll_chain (s : ByteArray) : Chain false (refAll s).1 := by
  have h : Inv (readS s) := readF_inv _ _ ⟨TextOf.nil, trivial, rfl⟩
  unfold refAll
  split
  · trivial
  · rename_i he
    have he : (readS s).err = 0 := by simpa using he
    simp only
    rw [chain_append, h.2.2]
    refine ⟨h.2.1, ?_⟩
    unfold Sc.last
    split
    · trivial
    · rename_i hm
      exact ⟨Or.inr (Or.inr ⟨rfl, rfl, rfl, h.1, fun e => hm (Or.inr e)⟩), fun _ => rfl, trivial⟩
end Go.Proofs.YtfolnkmbdmfigaaGreatDoor

set_option linter.unusedSimpArgs false
set_option linter.unusedVariables false
namespace Go.Proofs.YtfolnkmbdmfigaaGreatDoor
open Go.RowKit Go.Lib
variable {s : ByteArray} {p : Nat} {c : Int} {x y z : Sc} {q : Bool}

theorem escL_six (q : Bool) : ∀ l : List UInt8, (Ch.escL q l).length ≤ 6 * l.length
  | [] => Nat.le_refl _
  | u :: l => by
    have e1 : Ch.escL q (u :: l) = Ch.escB q u ++ Ch.escL q l := by simp [Ch.escL]
    have ih := escL_six q l
    have h1 : (Ch.escB q u).length ≤ 6 := by
      unfold Ch.escB Ch.refFor
      repeat' split
      all_goals simp
    rw [e1, List.length_append, List.length_cons]; omega
def cost (l : List Tok) : Nat := (l.flatMap showT).length
theorem cost_append (a b : List Tok) : cost (a ++ b) = cost a + cost b := by simp [cost]
def bill (x : Sc) : Nat := cost x.l + (if x.more = [] then 0 else 6 * x.more.length + 27)
theorem bill_told (x : Sc) (t : Tok) : bill (x.told t) ≤ bill x + (showT t).length := by
  by_cases he : x.err = 0
  · rw [told_l he]
    unfold bill
    simp only [if_true]
    rw [cost_append]
    have h1 : cost [t] = (showT t).length := by simp [cost]
    split
    · omega
    · have h2 : cost [txtTok x] ≤ 6 * x.more.length + 27 := by
        have h3 : cost [txtTok x] = (showT (txtTok x)).length := by simp [cost]
        have h4 : showT (txtTok x) = Ch.escL false x.more ++ marks := rfl
        have h5 := escL_six false x.more
        have h6 : marks.length = 27 := rfl
        rw [h3, h4, List.length_append]; omega
      rw [cost_append]; omega
  · rw [told_err' he]; omega
theorem bill_same (h : Same3 x y) : bill y = bill x := by unfold bill; rw [h.1, h.2.1]

theorem name_pass (h : (x.name s).1.err = 0) : (x.name s).1.i = x.i + (x.name s).2.data.toList.length ∧ 1 ≤ (x.name s).2.data.toList.length := by
  by_cases he : x.err = 0
  · by_cases hb : Ch.begins (cur s x.i) = true
    · have hin : inN (cur s x.i) = true := by unfold inN; rw [hb]; rfl
      have h0 : 0 ≤ cur s x.i := inN_pos hin
      have hc := cur_pos h0
      have hle : nend s x.i ≤ s.size := nend_le (by omega)
      have hgt : x.i < nend s x.i := by
        have := nend_ge s (x.i + wid s x.i)
        rw [nend_yes hin]; omega
      rw [(name_yes he hb).1, (name_yes he hb).2, bytes_len s _ _ (by omega)]
      exact ⟨by simp only; omega, by omega⟩
    · rw [name_no he hb] at h
      exact absurd h (wrong_err x s he)
  · unfold Sc.name at h; rw [if_neg he] at h; exact absurd h he
theorem must_pass : ∀ (l : List UInt8) (x : Sc), x.i ≤ (Sc.mustL s l x).i ∧ ((Sc.mustL s l x).err = 0 → x.err = 0 ∧ (Sc.mustL s l x).i = x.i + l.length) := by
  intro l
  induction l with
  | nil => intro x; exact ⟨Nat.le_refl _, fun e => ⟨e, rfl⟩⟩
  | cons u l ih =>
    intro x
    simp only [Sc.mustL]
    split
    · rename_i he
      split
      · obtain ⟨a, b⟩ := ih { x with i := x.i + 1 }
        refine ⟨by have a' : x.i + 1 ≤ (Sc.mustL s l { x with i := x.i + 1 }).i := a
                   omega, fun e => ⟨he, ?_⟩⟩
        have b' : (Sc.mustL s l { x with i := x.i + 1 }).i = x.i + 1 + l.length := (b e).2
        rw [b', List.length_cons]; omega
      · obtain ⟨a, b⟩ := ih (x.wrong s)
        rw [wrong_i] at a
        exact ⟨a, fun e => absurd (b e).1 (wrong_err x s he)⟩
    · rename_i he
      exact ⟨Nat.le_refl _, fun e => absurd e he⟩
theorem char_pass (he : x.err = 0) (bar : Nat) (hb : 32 ≤ bar ∧ bar < 128) : x.i + (x.char s bar).2.data.toList.length ≤ (x.char s bar).1.i := by
  rw [char_cur he bar hb]
  split
  · show x.i + 0 ≤ (x.wrong s).i; rw [wrong_i]; omega
  · rename_i h1
    split
    · split
      · show x.i + 0 ≤ (x.fail 4 x.i).i; rw [fail_i]; omega
      · rename_i h3
        have h4 := Ch.refAt_spec h3
        have h5 := Ch.encode_le (Ch.refAt s x.i).1
        show x.i + (Lib.encodeRune (Ch.refAt s x.i).1).length ≤ x.i + (Ch.refAt s x.i).2.toNat
        omega
    · have hx := bytes_extract s x.i (x.i + wid s x.i)
      rw [hx]
      have : (Ch.bytes s x.i (x.i + wid s x.i - x.i)).length ≤ wid s x.i := by unfold Ch.bytes; rw [List.length_take]; omega
      show x.i + _ ≤ x.i + wid s x.i; omega
theorem valF_pass (Q : Nat) (hQ : 32 ≤ Q ∧ Q < 128) : ∀ (f : Nat) (x : Sc) (t : List UInt8), x.i + (valF s Q f x t).2.length ≤ t.length + (valF s Q f x t).1.i := by
  intro f
  induction f with
  | zero => intro x t; simp only [valF]; omega
  | succ f ih =>
    intro x t
    simp only [valF]
    split
    · rename_i h1
      have h2 := ih (x.char s Q).1 (t ++ (x.char s Q).2.data.toList)
      have h3 := char_pass (s := s) h1.1 Q hQ
      rw [List.length_append] at h2
      omega
    · simp only; omega
theorem value_pass (he : x.err = 0) (h : (x.value s).1.err = 0) : x.i + (x.value s).2.length + 2 ≤ (x.value s).1.i := by
  rw [value_cases he] at h ⊢
  split
  · rename_i h1
    have h2 := valF_pass (s := s) (cur s x.i).toNat (by rcases h1 with e | e <;> rw [e] <;> decide) (s.size + 2) { x with i := x.i + 1 } []
    simp only [List.length_nil] at h2 ⊢
    omega
  · rename_i h1
    rw [if_neg h1] at h
    exact absurd h (wrong_err x s he)
theorem blanks_i (x : Sc) : (x.blanks s).i = x.i + x.skip s := rfl
theorem attr_pass {l : Ats} (h : (x.attr s l).1.err = 0) : x.i + (x.attr s l).2.1.length + (x.attr s l).2.2.length + 3 ≤ (x.attr s l).1.i := by
  unfold Sc.attr at h ⊢
  split
  · rename_i h1
    rw [if_pos h1] at h
    have h2 := value_pass h1 h
    have hm := must_pass (s := s) [61] ((x.twice s l).blanks s)
    have he2 : (Sc.mustL s [61] ((x.twice s l).blanks s)).err = 0 := h1
    have hm2 := hm.2 he2
    have hte : (x.twice s l).err = 0 := hm2.1
    have h3 : x.twice s l = (x.name s).1 := by
      unfold Sc.twice at hte ⊢
      split
      · rename_i h4
        rw [if_pos h4] at hte
        by_cases hn : (x.name s).1.err = 0
        · exact absurd hte (fail_err _ 5 x.i hn (by decide))
        · unfold Sc.fail at hte; rw [if_neg hn] at hte; exact absurd hte hn
      · rfl
    have hn := name_pass (s := s) (x := x) (by rw [← h3]; exact hte)
    have e1 : (x.equal s l).i = (Sc.mustL s [61] ((x.twice s l).blanks s)).i + (Sc.mustL s [61] ((x.twice s l).blanks s)).skip s := rfl
    have e2 := blanks_i (s := s) (x.twice s l)
    have e3 := hm2.2
    rw [h3] at e1 e2 e3
    simp only [List.length_cons, List.length_nil] at e3
    simp only
    omega
  · rename_i h1
    rw [if_neg h1] at h
    exact absurd h h1
theorem shownA_cost (a : List UInt8 × List UInt8) : (shownA a).length ≤ 6 + a.1.length + 6 * a.2.length := by
  have := escL_six true a.2
  unfold shownA
  simp only [List.length_cons, List.length_append, List.length_nil]
  omega
theorem attrsF_pass : ∀ (f : Nat) (x : Sc) (l : Ats), (attrsF s f x l).1.err = 0 → (l.flatMap shownA).length ≤ 8 * x.i → ((attrsF s f x l).2.flatMap shownA).length + 8 * x.i ≤ (l.flatMap shownA).length + 8 * (attrsF s f x l).1.i := by
  intro f
  induction f with
  | zero => intro x l h _; simp only [attrsF]; omega
  | succ f ih =>
    intro x l h hl
    simp only [attrsF] at h ⊢
    split
    · rw [blanks_i]; simp only; omega
    · rename_i h3
      rw [if_neg h3] at h
      by_cases ha : ((x.blanks s).attr s l).1.err = 0
      · have hp := attr_pass ha
        have hb := blanks_i (s := s) x
        have hc := shownA_cost ((x.blanks s).attr s l).2
        have e1 : ((l ++ [((x.blanks s).attr s l).2]).flatMap shownA).length = (l.flatMap shownA).length + (shownA ((x.blanks s).attr s l).2).length := by simp
        have := ih _ _ h (by rw [e1]; omega)
        rw [e1] at this
        omega
      · rw [attrsF_err ha] at h; exact absurd h ha
theorem untilF_pass (t : ByteArray) (frm : Nat) : ∀ (f : Nat) (x : Sc), frm ≤ x.i → x.i ≤ (untilF s t frm f x).1.i ∧ frm + (untilF s t frm f x).2.data.toList.length ≤ (untilF s t frm f x).1.i := by
  intro f
  induction f with
  | zero => intro x h; exact ⟨Nat.le_refl _, h⟩
  | succ f ih =>
    intro x h
    simp only [untilF]
    split
    · split
      · refine ⟨by simp only; omega, ?_⟩
        have hx := bytes_extract s frm x.i
        rw [hx]
        have : (Ch.bytes s frm (x.i - frm)).length ≤ x.i - frm := by unfold Ch.bytes; rw [List.length_take]; omega
        simp only; omega
      · split
        · have := ih (x.wrong s) (by rw [wrong_i]; exact h)
          rw [wrong_i] at this; exact this
        · have := ih { x with i := x.i + (Ch.at2 s x.i).2.toNat } (by simp only; omega)
          simp only at this
          omega
    · exact ⟨Nat.le_refl _, h⟩

def Paid (x : Sc) : Prop := x.err = 0 → bill x ≤ 64 * x.i
theorem openTail_bill {nm : List UInt8} {L : Ats} {tg : Int} (h : (x.openTail s nm L tg).err = 0) : x.err = 0 ∧ x.i + 1 ≤ (x.openTail s nm L tg).i ∧ bill (x.openTail s nm L tg) ≤ bill x + 6 + 2 * nm.length + (L.flatMap shownA).length := by
  unfold Sc.openTail at h ⊢
  have cst : (showT ⟨1, nm, L, [], tg⟩).length = 3 + nm.length + (L.flatMap shownA).length := by
    have : showT ⟨1, nm, L, [], tg⟩ = 60 :: (nm ++ (L.flatMap shownA ++ [32, 62])) := rfl
    rw [this]; simp only [List.length_cons, List.length_append, List.length_nil]; omega
  have cst2 : (showT ⟨2, nm, [], [], tg⟩).length = 3 + nm.length := by
    have : showT ⟨2, nm, [], [], tg⟩ = [60, 47] ++ nm ++ [62] := rfl
    rw [this]; simp only [List.length_cons, List.length_append, List.length_nil]; omega
  split
  · rename_i h47
    rw [if_pos h47, told_e, told_e] at h
    obtain ⟨k1, k2⟩ := (must_pass (s := s) [62] { x with i := x.i + 1 }).2 h
    simp only [List.length_cons, List.length_nil] at k2
    have hb := bill_same ((at_s x (x.i + 1)).trans (mustL_s s [62] _))
    have b1 := bill_told (Sc.mustL s [62] { x with i := x.i + 1 }) ⟨1, nm, L, [], tg⟩
    have b2 := bill_told ((Sc.mustL s [62] { x with i := x.i + 1 }).told ⟨1, nm, L, [], tg⟩) ⟨2, nm, [], [], tg⟩
    rw [cst] at b1
    rw [cst2] at b2
    rw [told_i, told_i]
    exact ⟨k1, by omega, by omega⟩
  · rename_i h47
    rw [if_neg h47, told_e] at h
    obtain ⟨k1, k2⟩ := (must_pass (s := s) [62] x).2 h
    simp only [List.length_cons, List.length_nil] at k2
    have hb := bill_same (mustL_s s [62] x)
    have b1 := bill_told (Sc.mustL s [62] x) ⟨1, nm, L, [], tg⟩
    rw [cst] at b1
    rw [told_i]
    exact ⟨k1, by omega, by omega⟩
theorem openTag_bill {tg : Int} (h : (x.openTag s tg).err = 0) : bill (x.openTag s tg) + 64 * x.i ≤ bill x + 64 * (x.openTag s tg).i := by
  unfold Sc.openTag at h ⊢
  obtain ⟨k1, k2, k3⟩ := openTail_bill h
  have hb := bill_same ((name_s x s).trans (attrs_s (x.name s).1 s))
  have hne : (x.name s).1.err = 0 := by
    refine Classical.byContradiction fun e2 => ?_
    unfold Sc.attrs at k1
    rw [attrsF_err e2] at k1
    exact e2 k1
  have hn := name_pass hne
  have ha := attrsF_pass (s := s) (s.size + 2) (x.name s).1 [] k1 (by simp)
  simp only [List.flatMap_nil, List.length_nil, Nat.zero_add] at ha
  have ha' : (((x.name s).1.attrs s).2.flatMap shownA).length + 8 * (x.name s).1.i ≤ 8 * ((x.name s).1.attrs s).1.i := ha
  omega
theorem closeTag_bill {tg : Int} (h : (x.closeTag s tg).err = 0) : bill (x.closeTag s tg) + 64 * x.i ≤ bill x + 64 * (x.closeTag s tg).i := by
  unfold Sc.closeTag at h ⊢
  rw [told_e] at h
  have hm := (must_pass (s := s) [62] ((x.name s).1.blanks s)).2 h
  have hn := name_pass (s := s) (x := x) hm.1
  have hb := bill_same (((name_s x s).trans (blanks_s _ s)).trans (mustL_s s [62] ((x.name s).1.blanks s)))
  have b1 := bill_told (Sc.mustL s [62] ((x.name s).1.blanks s)) ⟨2, (x.name s).2.data.toList, [], [], tg⟩
  have cst2 : (showT ⟨2, (x.name s).2.data.toList, [], [], tg⟩).length = 3 + (x.name s).2.data.toList.length := by
    have : showT ⟨2, (x.name s).2.data.toList, [], [], tg⟩ = [60, 47] ++ (x.name s).2.data.toList ++ [62] := rfl
    rw [this]; simp only [List.length_cons, List.length_append, List.length_nil]; omega
  have e2 := blanks_i (s := s) (x.name s).1
  have e3 := hm.2
  simp only [List.length_cons, List.length_nil] at e3
  rw [cst2] at b1
  rw [told_i]
  omega
theorem texted_bill (x : Sc) (t : ByteArray) (a : Int) (h : t.data.toList ≠ []) : bill (x.texted t a) ≤ bill x + 6 * t.data.toList.length + 27 := by
  have h1 : ¬ (x.texted t a).more = [] := fun e => h (List.append_eq_nil_iff.1 e).2
  unfold bill
  rw [if_neg h1]
  have e1 : (x.texted t a).more.length = x.more.length + t.data.toList.length := List.length_append
  have e2 : (x.texted t a).l = x.l := rfl
  rw [e1, e2]
  split
  · rename_i h2; rw [h2]; simp only [List.length_nil]; omega
  · omega
theorem cdata_bill (h : (x.cdata s).err = 0) : bill (x.cdata s) + 64 * x.i ≤ bill x + 64 * (x.cdata s).i := by
  unfold Sc.cdata at h ⊢
  have hm := must_pass (s := s) [91, 67, 68, 65, 84, 65, 91] x
  have hu := untilF_pass (s := s) ⟨#[93, 93, 62]⟩ (Sc.mustL s [91, 67, 68, 65, 84, 65, 91] x).i (s.size + 2) (Sc.mustL s [91, 67, 68, 65, 84, 65, 91] x) (Nat.le_refl _)
  have hu' : (Sc.mustL s [91, 67, 68, 65, 84, 65, 91] x).i ≤ ((Sc.mustL s [91, 67, 68, 65, 84, 65, 91] x).until s ⟨#[93, 93, 62]⟩).1.i ∧ (Sc.mustL s [91, 67, 68, 65, 84, 65, 91] x).i + ((Sc.mustL s [91, 67, 68, 65, 84, 65, 91] x).until s ⟨#[93, 93, 62]⟩).2.data.toList.length ≤ ((Sc.mustL s [91, 67, 68, 65, 84, 65, 91] x).until s ⟨#[93, 93, 62]⟩).1.i := hu
  have hb := bill_same ((mustL_s s [91, 67, 68, 65, 84, 65, 91] x).trans (until_s _ s ⟨#[93, 93, 62]⟩))
  generalize hU : (Sc.mustL s [91, 67, 68, 65, 84, 65, 91] x).until s ⟨#[93, 93, 62]⟩ = U at *
  split
  · rename_i hc
    have hme : (Sc.mustL s [91, 67, 68, 65, 84, 65, 91] x).err = 0 := by
      refine Classical.byContradiction fun e => ?_
      have : U.1 = Sc.mustL s [91, 67, 68, 65, 84, 65, 91] x := by
        rw [← hU]; unfold Sc.until; rw [until_err _ _ _ _ _ e]
      rw [this] at hc
      exact e hc.1
    have hmi := (hm.2 hme).2
    have hlen : [91, 67, 68, 65, 84, 65, 91].length = 7 := rfl
    have ht := texted_bill U.1 U.2 (Sc.mustL s [91, 67, 68, 65, 84, 65, 91] x).i hc.2
    show bill _ + 64 * x.i ≤ bill x + 64 * U.1.i
    have hpos : 1 ≤ U.2.data.toList.length := List.length_pos_iff.2 hc.2
    simp only [List.length_cons, List.length_nil] at hmi
    omega
  · have := hm.1
    omega
theorem remark_pass (x : Sc) : x.i ≤ (x.remark s).i := by
  unfold Sc.remark
  have h1 := (must_pass (s := s) [45, 45] x).1
  have h2 := (untilF_pass (s := s) ⟨#[45, 45]⟩ (Sc.mustL s [45, 45] x).i (s.size + 2) (Sc.mustL s [45, 45] x) (Nat.le_refl _)).1
  have h3 := (must_pass (s := s) [62] ((Sc.mustL s [45, 45] x).until s ⟨#[45, 45]⟩).1).1
  exact Nat.le_trans h1 (Nat.le_trans h2 h3)
theorem name_ge (x : Sc) : x.i ≤ (x.name s).1.i := by
  unfold Sc.name; repeat' split
  · rw [wrong_i]; exact Nat.le_refl _
  · simp only; omega
  · exact Nat.le_refl _
theorem order_pass (x : Sc) : x.i ≤ (x.order s).i := by
  unfold Sc.order
  exact Nat.le_trans (name_ge x) (untilF_pass (s := s) ⟨#[63, 62]⟩ (x.name s).1.i (s.size + 2) (x.name s).1 (Nat.le_refl _)).1
theorem markup_bill (h : (x.markup s).err = 0) : bill (x.markup s) + 64 * x.i ≤ bill x + 64 * (x.markup s).i := by
  unfold Sc.markup Sc.behind at h ⊢
  split
  · rename_i h33
    rw [if_pos h33] at h
    unfold Sc.bang at h ⊢
    split
    · rename_i h91
      rw [if_pos h91] at h
      have h1 := cdata_bill h
      have hb := bill_same (at_s x (x.i + 1 + 1))
      simp only at h1 ⊢
      omega
    · have h1 := remark_pass (s := s) { x with i := x.i + 1 + 1 }
      have hb : bill (({ x with i := x.i + 1 + 1 } : Sc).remark s) = bill x := bill_same ((((at_s x (x.i + 1 + 1)).trans (mustL_s s [45, 45] _)).trans (until_s _ s ⟨#[45, 45]⟩)).trans (mustL_s s [62] _))
      simp only at h1 ⊢
      omega
  · rename_i h33
    rw [if_neg h33] at h
    split
    · have h1 := order_pass (s := s) { x with i := x.i + 1 + 1 }
      have hb : bill (({ x with i := x.i + 1 + 1 } : Sc).order s) = bill x := bill_same (((at_s x (x.i + 1 + 1)).trans (name_s _ s)).trans (until_s _ s ⟨#[63, 62]⟩))
      simp only at h1 ⊢
      omega
    · rename_i h63
      rw [if_neg h63] at h
      split
      · rename_i h47
        rw [if_pos h47] at h
        have h1 := closeTag_bill h
        have hb := bill_same (at_s x (x.i + 1 + 1))
        simp only at h1 ⊢
        omega
      · rename_i h47
        rw [if_neg h47] at h
        have h1 := openTag_bill h
        have hb := bill_same (at_s x (x.i + 1))
        simp only at h1 ⊢
        omega
theorem piece_paid (h : Paid x) (he : x.err = 0) : Paid (x.piece s) := by
  intro e
  have h0 := h he
  unfold Sc.piece at e ⊢
  split
  · rename_i h60
    rw [if_pos h60] at e
    have := markup_bill e
    omega
  · rename_i h60
    rw [if_neg h60] at e
    split
    · rename_i hc
      have h1 := char_pass (s := s) he 60 (by omega)
      have h2 := bill_same (char_s x s 60)
      by_cases hn : (x.char s 60).2.data.toList = []
      · have e1 : bill ((x.char s 60).1.texted (x.char s 60).2 x.i) = bill (x.char s 60).1 := by
          unfold bill Sc.texted; rw [hn]; simp
        have e2 : ((x.char s 60).1.texted (x.char s 60).2 x.i).i = (x.char s 60).1.i := rfl
        rw [e1, e2]; omega
      · have ht := texted_bill (x.char s 60).1 (x.char s 60).2 x.i hn
        have hpos : 1 ≤ (x.char s 60).2.data.toList.length := List.length_pos_iff.2 hn
        have e2 : ((x.char s 60).1.texted (x.char s 60).2 x.i).i = (x.char s 60).1.i := rfl
        rw [e2]
        omega
    · rename_i hc
      rw [if_neg hc] at e
      exact absurd e hc
theorem readF_paid : ∀ (f : Nat) (x : Sc), Paid x → Paid (readF s f x) := by
  intro f
  induction f with
  | zero => intro x h; exact h
  | succ f ih =>
    intro x h
    simp only [readF]
    split
    · rename_i hc; exact ih _ (piece_paid h hc.2)
    · exact h
theorem Rel.zero : Rel Sc.zero ⟨fun _ => [], fun _ => 0, 0, [], [], 0, []⟩ := ⟨⟨rfl, rfl, fun e => absurd rfl e⟩, rfl, rfl, rfl⟩
theorem cost_all (s : ByteArray) : cost (refAll s).1 ≤ 64 * s.size := by
  unfold refAll
  split
  · simp [cost]
  · rename_i he
    have he : (readS s).err = 0 := by simpa using he
    have hp : Paid (readS s) := readF_paid _ _ (fun _ => by simp [bill, cost, Sc.zero])
    have h1 := hp he
    have hi : (readS s).i = s.size := (readF_over (s := s) (fun _ => []) (s.size + 1) Sc.zero _ rfl (Nat.zero_le _) (by show s.size < 0 + (s.size + 1); omega) Rel.zero he).1
    rw [hi] at h1
    refine Nat.le_trans ?_ h1
    simp only
    rw [cost_append]
    unfold bill Sc.last
    split
    · simp [cost]
    · rename_i hm
      rw [if_neg (fun e => hm (Or.inr e))]
      have h3 : cost [txtTok (readS s)] = (showT (txtTok (readS s))).length := by simp [cost]
      have h4 : showT (txtTok (readS s)) = Ch.escL false (readS s).more ++ marks := rfl
      have h5 := escL_six false (readS s).more
      have h6 : marks.length = 27 := rfl
      rw [h3, h4, List.length_append]; omega
end Go.Proofs.YtfolnkmbdmfigaaGreatDoor
