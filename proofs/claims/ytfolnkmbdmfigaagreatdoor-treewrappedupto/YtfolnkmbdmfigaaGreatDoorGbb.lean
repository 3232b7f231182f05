import Derived.Test.YtfolnkmbdmfigaaGreatDoorGav
import Derived.Test.YtfolnkmbdmfigaaGreatDoorGao
set_option linter.unusedVariables false
set_option linter.unusedSimpArgs false
set_option linter.unusedSimpArgs false
set_option linter.unusedVariables false
namespace Go.Proofs.YtfolnkmbdmfigaaGreatDoor
open Go.RowKit Go.Lib
variable {s : ByteArray} {p : Nat} {c : Int} {x y z : Sc} {q : Bool}

def AtB (s : ByteArray) (x : Sc) : Prop := x.err ≠ 0 → 0 ≤ x.at_ ∧ x.at_ ≤ s.size
theorem fail_b {e a : Int} (k : AtB s x) (h : x.err = 0 → 0 ≤ a ∧ a ≤ s.size) : AtB s (x.fail e a) := by
  unfold Sc.fail
  split
  · rename_i he; exact fun _ => h he
  · exact k
theorem wrong_b (k : AtB s x) (h : Fits s x) : AtB s (x.wrong s) := by
  have : x.err = 0 → 0 ≤ (x.i : Int) ∧ (x.i : Int) ≤ s.size := fun e => by have := h e; omega
  unfold Sc.wrong
  repeat' split
  all_goals exact fail_b k this
theorem wrong_f (x : Sc) (s : ByteArray) (he : x.err = 0) : Fits s (x.wrong s) := fun e => absurd e (wrong_err x s he)
theorem at_b (k : AtB s x) (j : Nat) : AtB s { x with i := j } := k
theorem blanks_b (k : AtB s x) : AtB s (x.blanks s) := k
theorem name_b (k : AtB s x) (h : Fits s x) : AtB s (x.name s).1 := by
  unfold Sc.name
  repeat' split
  · exact wrong_b k h
  · exact k
  · exact k
theorem mustL_b : ∀ (l : List UInt8) (x : Sc), AtB s x → Fits s x → AtB s (Sc.mustL s l x) := by
  intro l
  induction l with
  | nil => intro x k _; exact k
  | cons u l ih =>
    intro x k h
    simp only [Sc.mustL]
    repeat' split
    · rename_i h1 h2
      have := is_lt h2
      exact ih _ (at_b k _) (fun _ => by show x.i + 1 ≤ _; omega)
    · rename_i h1 h2
      exact ih _ (wrong_b k h) (wrong_f x s h1)
    · exact k
theorem untilF_b (t : ByteArray) (hz : t.size ≠ 0) (frm : Nat) : ∀ (f : Nat) (x : Sc), AtB s x → Fits s x → AtB s (untilF s t frm f x).1 := by
  intro f
  induction f with
  | zero => intro x k _; exact k
  | succ f ih =>
    intro x k h
    by_cases he : x.err = 0
    · rw [until_step _ _ _ _ _ he hz]
      split
      · exact at_b k _
      · split
        · rename_i hc
          have := cur_pos hc
          exact ih _ (at_b k _) (fun _ => by show x.i + wid s x.i ≤ _; omega)
        · exact ih _ (wrong_b k h) (wrong_f x s he)
    · rw [until_err _ _ _ _ _ he]; exact k
theorem char_b (he : x.err = 0) (bar : Nat) (hb : 32 ≤ bar ∧ bar < 128) (k : AtB s x) (h : Fits s x) : AtB s (x.char s bar).1 ∧ Fits s (x.char s bar).1 := by
  have hi := h he
  rw [char_cur he bar hb]
  split
  · exact ⟨wrong_b k h, wrong_f x s he⟩
  · rename_i h1
    split
    · split
      · exact ⟨fail_b k (fun _ => by omega), fun e => absurd e (fail_err x 4 x.i he (by decide))⟩
      · rename_i h3
        have h4 := Ch.refAt_spec h3
        exact ⟨at_b k _, fun _ => by show x.i + (Ch.refAt s x.i).2.toNat ≤ _; omega⟩
    · have := cur_pos (s := s) (i := x.i) (by omega)
      exact ⟨at_b k _, fun _ => by show x.i + wid s x.i ≤ _; omega⟩
theorem valF_b (Q : Nat) (hQ : 32 ≤ Q ∧ Q < 128) : ∀ (f : Nat) (x : Sc) (t : List UInt8), AtB s x → Fits s x → AtB s (valF s Q f x t).1 := by
  intro f
  induction f with
  | zero => intro x t k _; exact k
  | succ f ih =>
    intro x t k h
    simp only [valF]
    split
    · rename_i h1
      obtain ⟨a, b⟩ := char_b h1.1 Q hQ k h
      exact ih _ _ a b
    · exact k
theorem value_b (he : x.err = 0) (k : AtB s x) (h : Fits s x) : AtB s (x.value s).1 := by
  rw [value_cases he]
  split
  · rename_i h1
    have hp := cur_pos (s := s) (i := x.i) (by omega)
    refine at_b (valF_b _ (by rcases h1 with e | e <;> rw [e] <;> decide) _ _ _ (at_b k _) ?_) _
    exact fun _ => by show x.i + 1 ≤ _; omega
  · exact wrong_b k h
theorem twice_b {l : Ats} (k : AtB s x) (h : Fits s x) : AtB s (x.twice s l) ∧ Fits s (x.twice s l) := by
  unfold Sc.twice
  have hn := name_b k h
  have hf := name_f h
  split
  · refine ⟨fail_b hn fun e => ?_, fun e => ?_⟩
    · by_cases he : x.err = 0
      · have := h he; omega
      · have : x.name s = (x, ⟨#[]⟩) := by unfold Sc.name; rw [if_neg he]
        rw [this] at e
        exact absurd e he
    · by_cases he : (x.name s).1.err = 0
      · exact absurd e (fail_err _ 5 _ he (by decide))
      · unfold Sc.fail at e; rw [if_neg he] at e; exact absurd e he
  · exact ⟨hn, hf⟩
theorem equal_b {l : Ats} (k : AtB s x) (h : Fits s x) : AtB s (x.equal s l) ∧ Fits s (x.equal s l) := by
  obtain ⟨a, b⟩ := twice_b (l := l) k h
  have a1 := mustL_b [61] _ (blanks_b a) (blanks_f b)
  have b1 := mustL_f s [61] _ (blanks_f b)
  exact ⟨blanks_b a1, blanks_f b1⟩
theorem attr_b {l : Ats} (k : AtB s x) (h : Fits s x) : AtB s (x.attr s l).1 := by
  obtain ⟨a, b⟩ := equal_b (l := l) k h
  unfold Sc.attr
  split
  · rename_i he; exact value_b he a b
  · exact a
theorem attr_f {l : Ats} (h : Fits s x) (he : x.err = 0) (hbl : ¬ Tk.blank (cur s x.i) = true) (h47 : ¬ cur s x.i = 47) (h62 : ¬ cur s x.i = 62) : Fits s (x.attr s l).1 := by
  have hA : InA x ⟨fun j => if j = .text then x.more else [], fun _ => x.frm, 0, l, l.map Prod.fst, 0, x.l⟩ l [] 0 := ⟨⟨rfl, rfl, fun _ => rfl⟩, rfl, rfl, rfl, rfl, rfl⟩
  rcases runs_attr (g := fun _ => []) (s := s) he (h he) hA hbl h47 h62 with ⟨_, _, h3, _⟩ | ⟨h1, _⟩
  · exact fun _ => h3
  · exact fun e => absurd e h1
theorem attrsF_b : ∀ (f : Nat) (x : Sc) (l : Ats), AtB s x → Fits s x → AtB s (attrsF s f x l).1 := by
  intro f
  induction f with
  | zero => intro x l k _; exact k
  | succ f ih =>
    intro x l k h
    simp only [attrsF]
    split
    · exact blanks_b k
    · rename_i h3
      have he : (x.blanks s).err = 0 := Classical.byContradiction fun e => h3 (Or.inr (Or.inl e))
      have hx : x.err = 0 := he
      have h47 : ¬ cur s (x.blanks s).i = 47 := fun e => h3 (Or.inr (Or.inr (Or.inl ((is_cur he (c := 47) (by omega)).2 e))))
      have h62 : ¬ cur s (x.blanks s).i = 62 := fun e => h3 (Or.inr (Or.inr (Or.inr ((is_cur he (c := 62) (by omega)).2 e))))
      have hbl : ¬ Tk.blank (cur s (x.blanks s).i) = true := by
        rw [blanks_gap hx]; exact gap_end s x.i
      exact ih _ _ (attr_b (blanks_b k) (blanks_f h)) (attr_f (blanks_f h) he hbl h47 h62)
theorem until_b (t : ByteArray) (hz : t.size ≠ 0) (k : AtB s x) (h : Fits s x) : AtB s (x.until s t).1 := untilF_b t hz _ _ _ k h
structure Pos (s : ByteArray) (x : Sc) : Prop where
  toks : ∀ t ∈ x.l, 0 ≤ t.at_ ∧ t.at_ ≤ s.size
  frm : x.more ≠ [] → 0 ≤ x.frm ∧ x.frm ≤ s.size
  fault : AtB s x
theorem Pos.same (h : Pos s x) (k : Same3 x y) (b : AtB s y) : Pos s y := ⟨by rw [k.1]; exact h.toks, by rw [k.2.1, k.2.2]; exact h.frm, b⟩
theorem Pos.told {t : Tok} (h : Pos s x) (ht : 0 ≤ t.at_ ∧ t.at_ ≤ s.size) : Pos s (x.told t) := by
  by_cases he : x.err = 0
  · rw [told_l he]
    refine ⟨?_, fun e => absurd rfl e, h.fault⟩
    intro u hu
    simp only at hu
    rcases List.mem_append.1 hu with hu | hu
    · split at hu
      · exact h.toks u hu
      · rename_i hm
        rcases List.mem_append.1 hu with hu | hu
        · exact h.toks u hu
        · rw [List.mem_singleton.1 hu]; exact h.frm hm
    · rw [List.mem_singleton.1 hu]; exact ht
  · rw [told_err' he]; exact h
theorem openTag_p {tg : Int} (h : Pos s x) (hf : Fits s x) (ht : 0 ≤ tg ∧ tg ≤ s.size) : Pos s (x.openTag s tg) := by
  unfold Sc.openTag Sc.openTail
  have b1 := name_b h.fault hf
  have f1 := name_f hf
  have b2 : AtB s ((x.name s).1.attrs s).1 := attrsF_b _ _ _ b1 f1
  have f2 := attrs_f f1
  have p2 := h.same ((name_s x s).trans (attrs_s (x.name s).1 s)) b2
  split
  · rename_i h47
    have hlt := is_lt h47
    have f3 : Fits s { ((x.name s).1.attrs s).1 with i := ((x.name s).1.attrs s).1.i + 1 } := fun _ => by show ((x.name s).1.attrs s).1.i + 1 ≤ _; omega
    have p3 := p2.same ((at_s _ (((x.name s).1.attrs s).1.i + 1)).trans (mustL_s s [62] _)) (mustL_b [62] _ (at_b b2 _) f3)
    exact (p3.told ht).told ht
  · exact (p2.same (mustL_s s [62] _) (mustL_b [62] _ b2 f2)).told ht
theorem closeTag_p {tg : Int} (h : Pos s x) (hf : Fits s x) (ht : 0 ≤ tg ∧ tg ≤ s.size) : Pos s (x.closeTag s tg) := by
  unfold Sc.closeTag
  have b1 := name_b h.fault hf
  have f1 := name_f hf
  exact (h.same (((name_s x s).trans (blanks_s _ s)).trans (mustL_s s [62] _)) (mustL_b [62] _ (blanks_b b1) (blanks_f f1))).told ht
theorem texted_p {t : ByteArray} {a : Int} (h : Pos s x) (ha : 0 ≤ a ∧ a ≤ s.size) : Pos s (x.texted t a) := by
  refine ⟨h.toks, fun _ => ?_, h.fault⟩
  show 0 ≤ (if x.more = [] then a else x.frm) ∧ (if x.more = [] then a else x.frm) ≤ s.size
  split
  · exact ha
  · rename_i hm; exact h.frm hm
theorem cdata_p (h : Pos s x) (hf : Fits s x) : Pos s (x.cdata s) := by
  unfold Sc.cdata
  have b1 := mustL_b [91, 67, 68, 65, 84, 65, 91] x h.fault hf
  have f1 := mustL_f s [91, 67, 68, 65, 84, 65, 91] x hf
  have b2 := until_b ⟨#[93, 93, 62]⟩ (by decide) b1 f1
  have p2 := h.same ((mustL_s s [91, 67, 68, 65, 84, 65, 91] x).trans (until_s _ s ⟨#[93, 93, 62]⟩)) b2
  split
  · rename_i hc
    refine texted_p p2 ?_
    have hme : (Sc.mustL s [91, 67, 68, 65, 84, 65, 91] x).err = 0 := by
      refine Classical.byContradiction fun e => ?_
      have h2 := hc.1
      unfold Sc.until at h2
      rw [until_err _ _ _ _ _ e] at h2
      exact e h2
    have := f1 hme
    omega
  · exact p2
theorem markup_p (h : Pos s x) (he : x.err = 0) (h60 : cur s x.i = 60) : Pos s (x.markup s) := by
  have hp := cur_pos (s := s) (i := x.i) (by omega)
  have hw := wid_byte (s := s) (i := x.i) (by omega) (by omega)
  have ht : 0 ≤ (x.i : Int) ∧ (x.i : Int) ≤ s.size := by omega
  have f1 : Fits s { x with i := x.i + 1 } := fun _ => by show x.i + 1 ≤ _; omega
  have p1 := h.same (at_s x (x.i + 1)) (at_b h.fault _)
  have f2 : ∀ c : Nat, Sc.is { x with i := x.i + 1 } s c = true → Fits s { x with i := x.i + 1 + 1 } := fun c hc _ => by
    have e2 : x.i + 1 < s.size := is_lt hc
    show x.i + 1 + 1 ≤ _; omega
  have p2 := h.same (at_s x (x.i + 1 + 1)) (at_b h.fault _)
  unfold Sc.markup Sc.behind
  split
  · rename_i h33
    have f3 := f2 33 h33
    unfold Sc.bang
    split
    · exact cdata_p p2 f3
    · unfold Sc.remark
      have b1 := mustL_b [45, 45] _ p2.fault f3
      have g1 := mustL_f s [45, 45] _ f3
      have b2 := until_b ⟨#[45, 45]⟩ (by decide) b1 g1
      have g2 := until_f ⟨#[45, 45]⟩ (by decide) g1
      exact p2.same (((mustL_s s [45, 45] _).trans (until_s _ s _)).trans (mustL_s s [62] _)) (mustL_b [62] _ b2 g2)
  · split
    · rename_i h63
      have f3 := f2 63 h63
      unfold Sc.order
      have b1 := name_b p2.fault f3
      have g1 := name_f f3
      exact p2.same ((name_s _ s).trans (until_s _ s _)) (until_b ⟨#[63, 62]⟩ (by decide) b1 g1)
    · split
      · rename_i h47
        exact closeTag_p p2 (f2 47 h47) ht
      · exact openTag_p p1 f1 ht
theorem piece_p (h : Pos s x) (he : x.err = 0) (hi : x.i < s.size) : Pos s (x.piece s) := by
  unfold Sc.piece
  have b60 := cur_byte (s := s) (i := x.i) (c := 60) (by omega)
  split
  · rename_i h60
    exact markup_p h he (b60.2 ⟨hi, h60⟩)
  · obtain ⟨a, b⟩ := char_b (s := s) he 60 (by omega) h.fault (fun _ => by omega)
    have p1 := h.same (char_s x s 60) a
    split
    · exact texted_p p1 (by omega)
    · exact p1
theorem readF_p : ∀ (f : Nat) (x : Sc), Pos s x → Pos s (readF s f x) := by
  intro f
  induction f with
  | zero => intro x h; exact h
  | succ f ih =>
    intro x h
    simp only [readF]
    split
    · rename_i hc; exact ih _ (piece_p h hc.2 hc.1)
    · exact h
theorem readS_p (s : ByteArray) : Pos s (readS s) := readF_p _ _ ⟨fun t ht => by simp [Sc.zero] at ht, fun e => absurd rfl e, fun e => absurd rfl e⟩
theorem places (s : ByteArray) : (∀ t ∈ (refAll s).1, 0 ≤ t.at_ ∧ t.at_ ≤ s.size) ∧ 0 ≤ (refAll s).2.2 ∧ (refAll s).2.2 ≤ s.size := by
  have h := readS_p s
  unfold refAll
  split
  · rename_i he
    refine ⟨fun t ht => by simp at ht, h.fault he⟩
  · rename_i he
    refine ⟨?_, by simp⟩
    intro t ht
    simp only at ht
    rcases List.mem_append.1 ht with ht | ht
    · exact h.toks t ht
    · unfold Sc.last at ht
      split at ht
      · simp at ht
      · rename_i hm
        rw [List.mem_singleton.1 ht]
        exact h.frm (fun e => hm (Or.inr e))
end Go.Proofs.YtfolnkmbdmfigaaGreatDoor

set_option linter.unusedSimpArgs false
set_option linter.unusedVariables false
namespace Go.Proofs.YtfolnkmbdmfigaaGreatDoor
open Go.RowKit Go.Maps Go.Lib

def Tok.on (N : Int) (t : Tok) : Tok := { t with at_ := t.at_ + N }
structure Sh (N : Int) (T : List Tok) (st st' : St) : Prop where
  run : st'.run = st.run
  at_ : ∀ i, st.run i ≠ [] → st'.runAt i = st.runAt i + N
  tag : st'.tagAt = st.tagAt + N
  attrs : st'.attrs = st.attrs
  names : st'.names = st.names
  quote : st'.quote = st.quote
  told : st'.told = T ++ st.told.map (Tok.on N)
def Res.on (N : Int) : Res → Res
  | .go p => .go p
  | .stop => .stop
  | .fail no q => .fail no (q + N)
def ShO (N : Int) (T : List Tok) (o o' : Out) : Prop := Sh N T o.st o'.st ∧ o'.res = o.res.on N
variable {N : Int} {T : List Tok} {st st' : St} {c q : Int}
theorem Sh.put (h : Sh N T st st') (i : Rn) (c q : Int) : Sh N T (st.put i c q) (st'.put i c (q + N)) := by
  unfold St.put
  refine ⟨?_, fun j hj => ?_, h.tag, h.attrs, h.names, h.quote, h.told⟩
  · simp only [St.setRun, h.run]
  · simp only [St.setRun, h.run] at hj ⊢
    by_cases e : j = i
    · subst e
      simp only [if_true]
      by_cases hl : (st.run j).length = 0
      · rw [if_pos hl, if_pos hl]
      · rw [if_neg hl, if_neg hl]; exact h.at_ j (by simpa using hl)
    · rw [if_neg e] at hj
      rw [if_neg e, if_neg e]; exact h.at_ j hj
theorem Sh.clear (h : Sh N T st st') (i : Rn) : Sh N T (st.clear i) (st'.clear i) := by
  unfold St.clear
  refine ⟨?_, fun j hj => ?_, h.tag, h.attrs, h.names, h.quote, h.told⟩
  · simp only [St.setRun, h.run]
  · simp only [St.setRun] at hj ⊢
    by_cases e : j = i
    · subst e; simp at hj
    · rw [if_neg e] at hj
      rw [if_neg e, if_neg e]; exact h.at_ j hj
theorem Sh.tellText (h : Sh N T st st') : Sh N T st.tellText st'.tellText := by
  unfold St.tellText
  rw [h.run]
  by_cases hl : (st.run .text).length = 0
  · rw [if_pos hl, if_pos hl]; exact h
  · rw [if_neg hl, if_neg hl]
    have := h.at_ .text (by simpa using hl)
    refine Sh.clear ?_ .text
    refine ⟨rfl, h.at_, h.tag, h.attrs, h.names, h.quote, ?_⟩
    simp [h.told, this, Tok.on]
theorem Sh.tellOpening (h : Sh N T st st') : Sh N T st.tellOpening st'.tellOpening := by
  have ht := h.tellText
  refine ⟨ht.run, ht.at_, ht.tag, rfl, rfl, ht.quote, ?_⟩
  show st'.tellText.told ++ [_] = T ++ (st.tellText.told ++ [_]).map (Tok.on N)
  rw [ht.told, h.run, h.attrs, h.tag]
  simp [Tok.on]
theorem Sh.tellClosing (h : Sh N T st st') : Sh N T st.tellClosing st'.tellClosing := by
  have ht := h.tellText
  refine ⟨ht.run, ht.at_, ht.tag, ht.attrs, ht.names, ht.quote, ?_⟩
  show st'.tellText.told ++ [_] = T ++ (st.tellText.told ++ [_]).map (Tok.on N)
  rw [ht.told, h.run, h.tag]
  simp [Tok.on]
theorem Sh.addAttr (h : Sh N T st st') : Sh N T st.addAttr st'.addAttr := by
  unfold St.addAttr
  refine Sh.clear ?_ .value
  refine ⟨h.run, h.at_, h.tag, ?_, h.names, h.quote, h.told⟩
  simp only
  rw [h.attrs, h.run]
theorem ShO.go (h : Sh N T st st') (p : Part) : ShO N T ⟨st, .go p⟩ ⟨st', .go p⟩ := ⟨h, rfl⟩
theorem ShO.fail (h : Sh N T st st') (no q : Int) : ShO N T ⟨st, .fail no q⟩ ⟨st', .fail no (q + N)⟩ := ⟨h, rfl⟩
theorem ShO.stop (h : Sh N T st st') : ShO N T ⟨st, .stop⟩ ⟨st', .stop⟩ := ⟨h, rfl⟩
theorem sh_stPart (h : Sh N T st st') (q c : Int) : ShO N T (stPart q st c) (stPart (q + N) st' c) := by
  unfold stPart
  repeat' split
  · exact .go h _
  · exact .go h _
  · exact .go h.tellOpening _
  · exact .fail h _ _
theorem sh_stName1 (h : Sh N T st st') (i : Rn) (k : Pl) (q c : Int) : ShO N T (stName1 i k q st c) (stName1 i k (q + N) st' c) := by
  unfold stName1
  split
  · exact .go (h.put i c q) _
  · exact .fail h _ _
theorem sh_stAttr (h : Sh N T st st') (q c : Int) : ShO N T (stAttr q st c) (stAttr (q + N) st' c) := by
  unfold stAttr
  repeat' split
  · exact .go h _
  · exact .go h _
  · exact .fail h _ _
theorem sh_stRemark (h : Sh N T st st') (q c : Int) : ShO N T (stRemark q st c) (stRemark (q + N) st' c) := by
  unfold stRemark
  repeat' split
  · exact .go h _
  · exact .fail h _ _
  · exact .go h _
theorem sh_stOrder (h : Sh N T st st') (q c : Int) : ShO N T (stOrder q st c) (stOrder (q + N) st' c) := by
  unfold stOrder
  repeat' split
  · exact .go h _
  · exact .fail h _ _
  · exact .go h _
theorem sh_stSection (h : Sh N T st st') (q c : Int) : ShO N T (stSection q st c) (stSection (q + N) st' c) := by
  unfold stSection
  repeat' split
  · exact .go h _
  · exact .fail h _ _
  · exact .go (h.put .text c q) _
theorem sh_stBracket (h : Sh N T st st') (q c : Int) : ShO N T (stBracket q st c) (stBracket (q + N) st' c) := by
  unfold stBracket
  split
  · exact .go h _
  · have := h.put .text 93 (q - 1)
    rw [show q - 1 + N = q + N - 1 by omega] at this
    exact sh_stSection this q c
theorem sh_step (h : Sh N T st st') (k : Pl) (hk : k = .newAttr → st.run .attr ≠ []) (q c : Int) : ShO N T (step k q st c) (step k (q + N) st' c) := by
  cases k with
  | between =>
    simp only [step]
    repeat' split
    · exact ShO.go (st := { st with tagAt := q }) (st' := { st' with tagAt := q + N }) ⟨h.run, h.at_, rfl, h.attrs, h.names, h.quote, h.told⟩ _
    · exact .go ((h.clear .ref).put .ref 38 q) _
    · exact .stop h.tellText
    · exact .fail h _ _
    · exact .go (h.put .text c q) _
  | less =>
    simp only [step]
    repeat' split
    · exact .go (h.clear .name) _
    · exact .go h _
    · exact .go h _
    · exact sh_stName1 (h.clear .name) _ _ _ _
  | bang =>
    simp only [step]
    repeat' split
    · exact .go h _
    · exact .go h _
    · exact .fail h _ _
  | remark => exact sh_stRemark h q c
  | dash =>
    simp only [step]
    split
    · exact .go h _
    · exact sh_stRemark h q c
  | orderName =>
    simp only [step]
    split
    · exact .go h _
    · exact .fail h _ _
  | order => exact sh_stOrder h q c
  | mark =>
    simp only [step]
    split
    · exact .go h _
    · exact sh_stOrder h q c
  | section_ => exact sh_stSection h q c
  | bracket => exact sh_stBracket h q c
  | brackets =>
    simp only [step]
    split
    · exact .go h _
    · have := h.put .text 93 (q - 2)
      rw [show q - 2 + N = q + N - 2 by omega] at this
      exact sh_stBracket this q c
  | part => exact sh_stPart h q c
  | blanks =>
    simp only [step]
    split
    · exact sh_stName1 (h.clear .attr) _ _ _ _
    · exact sh_stPart h q c
  | newAttr =>
    have h1 := h.at_ .attr (hk rfl)
    simp only [step, h.names, h.run]
    split
    · rw [h1]; exact .fail h _ _
    · exact sh_stAttr (st := { st with names := st.names ++ [st.run .attr] }) (st' := { st' with run := st.run, names := st.names ++ [st.run .attr] }) ⟨rfl, h.at_, h.tag, h.attrs, rfl, h.quote, h.told⟩ q c
  | attrP => exact sh_stAttr h q c
  | equals =>
    simp only [step]
    repeat' split
    · exact .go h _
    · exact ShO.go (st := { st with quote := c }) (st' := { st' with quote := c }) ⟨h.run, h.at_, h.tag, h.attrs, h.names, rfl, h.told⟩ _
    · exact .fail h _ _
  | valueP =>
    simp only [step, h.quote]
    repeat' split
    · exact .go h.addAttr _
    · exact .go ((h.clear .ref).put .ref 38 q) _
    · exact .fail h _ _
    · exact .go (h.put .value c q) _
  | slash =>
    simp only [step]
    split
    · exact .go h.tellOpening.tellClosing _
    · exact .fail h _ _
  | closing =>
    simp only [step]
    repeat' split
    · exact .go h _
    · exact .go h.tellClosing _
    · exact .fail h _ _
theorem sh_putFrom (i : Rn) (t : ByteArray) (q : Int) : ∀ (f pos : Nat) (st st' : St), Sh N T st st' → Sh N T (putFrom i t q f pos st) (putFrom i t (q + N) f pos st') := by
  intro f
  induction f with
  | zero => intro pos st st' h; exact h
  | succ f ih =>
    intro pos st st' h
    unfold putFrom
    split
    · exact ih _ _ _ (h.put i _ q)
    · exact h
def Part.Fit : Part → St → Prop
  | .plain k, _ => k ≠ .newAttr
  | .word l k, _ => l ≠ [] ∧ (k = .remark ∨ k = .section_ ∨ k = .between)
  | .name i k, _ => (i = .name ∧ (k = .closing ∨ k = .part)) ∨ (i = .attr ∧ k = .newAttr)
  | .ref i k, st => st.run .ref ≠ [] ∧ ((i = .text ∧ k = .between) ∨ (i = .value ∧ k = .valueP))
theorem sh_stepPart (h : Sh N T st st') (pt : Part) (hf : pt.Fit st) (q c : Int) : ShO N T (stepPart pt q st c) (stepPart pt (q + N) st' c) := by
  cases pt with
  | plain k => exact sh_step h k (fun e => absurd e hf) q c
  | word l k =>
    cases l with
    | nil => exact .go h _
    | cons x l =>
      simp only [stepPart, stWord]
      repeat' split
      · exact .go h _
      · exact .go h _
      · exact .fail h _ _
  | name i k =>
    simp only [stepPart, stName, h.run]
    split
    · exact sh_stName1 h _ _ _ _
    · rename_i hl
      split
      · exact .go (h.put i c q) _
      · refine sh_step h k (fun e => ?_) q c
        rcases hf with ⟨_, h1 | h1⟩ | ⟨h1, _⟩
        · rw [h1] at e; cases e
        · rw [h1] at e; cases e
        · rw [← h1]; simpa using hl
  | ref i k =>
    have hr := h.at_ .ref hf.1
    simp only [stepPart, stRef]
    split
    · split
      · have hp := h.put .ref 59 q
        have hne : (st.put .ref 59 q).run .ref ≠ [] := by simp [St.put, St.setRun, hf.1]
        have hat := hp.at_ .ref hne
        unfold stRefEnd
        rw [hp.run]
        split
        · rw [hat]
          exact .go (sh_putFrom i _ _ _ _ _ _ hp) _
        · rw [hat]; exact .fail hp _ _
      · exact .go (h.put .ref c q) _
    · rw [hr]; exact .fail h _ _
end Go.Proofs.YtfolnkmbdmfigaaGreatDoor

set_option linter.unusedSimpArgs false
set_option linter.unusedVariables false
namespace Go.Proofs.YtfolnkmbdmfigaaGreatDoor
open Go.RowKit Go.Maps Go.Lib

def Pl.tag : Pl → Bool
  | .part => true | .blanks => true | .newAttr => true | .attrP => true | .equals => true | .valueP => true | .slash => true | _ => false
def Pl.vals : Pl → Bool
  | .valueP => true | _ => false
def Part.pl : Part → Pl
  | .plain k => k | .word _ k => k | .name _ k => k | .ref _ k => k
def Clean (pt : Part) (st : St) : Prop := (pt.pl.tag = false → st.attrs = [] ∧ st.names = []) ∧ (pt.pl.vals = false → st.run .value = [])
theorem tellText_value (st : St) : st.tellText.run .value = st.run .value := tellText_run st .value (by decide)
theorem enc_ne (c : Int) : Lib.encodeRune c ≠ [] := by
  intro e
  have := Ch.enc_pos c
  rw [e] at this; simp at this
theorem clean_step (k : Pl) (q : Int) (st : St) (c : Int) {o : St} {pt' : Part} (hc : Clean (.plain k) st) (h : step k q st c = ⟨o, .go pt'⟩) : pt'.Fit o ∧ Clean pt' o := by
  have e1 := enc_ne
  have tv := tellText_value st
  have tf := tellText_fields st
  cases k <;> simp only [step, stPart, stName1, stAttr, stRemark, stOrder, stSection, stBracket] at h <;> (repeat' split at h) <;> (cases h) <;> (try simp_all [Part.Fit, Clean, Part.pl, Pl.tag, Pl.vals, St.put, St.clear, St.setRun, St.tellOpening, St.tellClosing, St.addAttr])
  refine ⟨⟨?_, ?_⟩, ?_⟩
  · rw [(tellText_fields _).1]
  · rw [(tellText_fields _).2.1]
  · rw [tellText_value]; exact tv
theorem clean_pl {pt pt' : Part} {st : St} (h : Clean pt st) (e : pt'.pl = pt.pl) : Clean pt' st := by unfold Clean; rw [e]; exact h
theorem clean_same {pt : Part} {st st' : St} (h : Clean pt st) (h1 : st'.attrs = st.attrs) (h2 : st'.names = st.names) (h3 : pt.pl.vals = false → st'.run .value = st.run .value) : Clean pt st' :=
  ⟨fun e => by rw [h1, h2]; exact h.1 e, fun e => by rw [h3 e]; exact h.2 e⟩
theorem clean_part (pt : Part) (q : Int) (st : St) (c : Int) {o : St} {pt' : Part} (hf : pt.Fit st) (hc : Clean pt st) (h : stepPart pt q st c = ⟨o, .go pt'⟩) : pt'.Fit o ∧ Clean pt' o := by
  cases pt with
  | plain k => exact clean_step k q st c hc h
  | word l k =>
    cases l with
    | nil => exact absurd rfl hf.1
    | cons x l =>
      simp only [stepPart, stWord] at h
      have hk : k ≠ .newAttr := by rintro rfl; rcases hf.2 with e | e | e <;> cases e
      repeat' split at h
      · cases h; exact ⟨hk, clean_pl hc rfl⟩
      · rename_i hl
        cases h; exact ⟨⟨hl, hf.2⟩, clean_pl hc rfl⟩
      · cases h
  | name i k =>
    have hput : ∀ c q, Clean (.name i k) (st.put i c q) := fun c q => clean_same hc rfl rfl (fun _ => by
      have : Rn.value ≠ i := by rcases hf with ⟨e, _⟩ | ⟨e, _⟩ <;> rw [e] <;> decide
      simp [St.put, St.setRun, this])
    simp only [stepPart, stName, stName1] at h
    repeat' split at h
    · cases h; exact ⟨hf, hput c q⟩
    · cases h
    · cases h; exact ⟨hf, hput c q⟩
    · exact clean_step k q st c (clean_pl hc rfl) h
  | ref i k =>
    obtain ⟨hr, hik⟩ := hf
    have hk : k ≠ .newAttr := by rintro rfl; rcases hik with ⟨_, e⟩ | ⟨_, e⟩ <;> cases e
    have hput : ∀ c, Clean (.ref i k) (st.put .ref c q) := fun c => clean_same hc rfl rfl (fun _ => by simp [St.put, St.setRun])
    simp only [stepPart, stRef] at h
    split at h
    · split at h
      · unfold stRefEnd at h
        split at h
        · cases h
          refine ⟨hk, ?_⟩
          have hs := putFrom_same i ⟨(Ch.unesc ⟨((st.put .ref 59 q).run .ref).toArray⟩).1.toArray⟩ ((st.put .ref 59 q).runAt .ref) (((⟨(Ch.unesc ⟨((st.put .ref 59 q).run .ref).toArray⟩).1.toArray⟩ : ByteArray).size) + 1) 0 (st.put .ref 59 q)
          refine clean_same (clean_pl (hput 59) rfl) hs.2.1 hs.2.2.1 (fun e => ?_)
          rcases hik with ⟨rfl, rfl⟩ | ⟨rfl, rfl⟩
          · exact putFrom_other .text .value _ _ (by decide) _ _ _
          · cases e
        · cases h
      · cases h
        refine ⟨⟨?_, hik⟩, hput c⟩
        simp [St.put, St.setRun, hr]
    · cases h
theorem mrun_clean : ∀ (n : Nat) (S : Src) (pt : Part) (st : St), pt.Fit st → Clean pt st → (mrun n S pt st).ret = .more → (mrun n S pt st).pt.Fit (mrun n S pt st).st ∧ Clean (mrun n S pt st).pt (mrun n S pt st).st := by
  intro n
  induction n with
  | zero => intro S pt st hf hc _; exact ⟨hf, hc⟩
  | succ n ih =>
    intro S pt st hf hc
    simp only [mrun]
    split
    · intro _; exact ⟨hf, hc⟩
    · generalize hs : stepPart pt S.took.1.at_ st S.took.2 = o
      obtain ⟨o, r⟩ := o
      cases r with
      | go pt' =>
        obtain ⟨h1, h2⟩ := clean_part pt _ st _ hf hc hs
        exact ih _ _ _ h1 h2
      | stop => intro e; cases e
      | fail no q => intro e; cases e
theorem runs_shift {g : St → List Tok} {N : Nat} {T : List Tok} (s' : ByteArray) (hg : ∀ st st', Sh N T st st' → g st' = T ++ (g st).map (Tok.on N)) : ∀ (n i : Nat) (pt : Part) (st st' : St), (Ch.tail s' N).size - i < n → pt.Fit st → Clean pt st → Sh N T st st' →
    runs g s' (N + i) pt st' = (T ++ (runs g (Ch.tail s' N) i pt st).1.map (Tok.on N), (runs g (Ch.tail s' N) i pt st).2.1, if (runs g (Ch.tail s' N) i pt st).2.1 = 0 then 0 else (runs g (Ch.tail s' N) i pt st).2.2 + N) := by
  intro n
  induction n with
  | zero => intro i pt st st' h; omega
  | succ n ih =>
    intro i pt st st' hn hf hc hsh
    have hcur := cur_tail s' N i
    obtain ⟨h1, h2⟩ := sh_stepPart hsh pt hf (i : Int) (cur (Ch.tail s' N) i)
    have hends := stepPart_ends pt (i : Int) st (cur (Ch.tail s' N) i)
    generalize hs : stepPart pt i st (cur (Ch.tail s' N) i) = o at *
    obtain ⟨o, r⟩ := o
    have hq : ((N + i : Nat) : Int) = (i : Int) + N := by omega
    generalize hs' : stepPart pt ((i : Int) + N) st' (cur (Ch.tail s' N) i) = o' at *
    obtain ⟨o', r'⟩ := o'
    simp only at h1 h2
    have hs2 : stepPart pt ((N + i : Nat) : Int) st' (cur s' (N + i)) = ⟨o', r'⟩ := by rw [hq, ← hcur]; exact hs'
    cases r with
    | go pt' =>
      simp only [Res.on] at h2
      subst h2
      by_cases h0 : 0 ≤ cur (Ch.tail s' N) i
      · have hp := cur_pos h0
        have hz := Ch.tail_size s' N
        have hw := wid_tail (s := s') (k := N) (j := i) (by omega)
        obtain ⟨f1, f2⟩ := clean_part pt _ st _ hf hc hs
        rw [runs_go hs h0, runs_go hs2 (by rw [← hcur]; exact h0), ← hw, Nat.add_assoc]
        exact ih (i + wid (Ch.tail s' N) i) pt' o o' (by omega) f1 f2 h1
      · have e1 : runs g (Ch.tail s' N) i pt st = (st.told, 0, 0) := by
          unfold runs runsF; rw [hs]; simp only; rw [if_neg h0]
        have e2 : runs g s' (N + i) pt st' = (st'.told, 0, 0) := by
          unfold runs runsF; rw [hs2]; simp only; rw [if_neg (by rw [← hcur]; exact h0)]
        rw [e1, e2]
        simp [hsh.told]
    | stop =>
      simp only [Res.on] at h2
      subst h2
      rw [runs_stop hs, runs_stop hs2]
      simp [hg _ _ hsh]
    | fail no p =>
      simp only [Res.on] at h2
      subst h2
      have hne := hends.fail no p rfl
      rw [runs_fail hs, runs_fail hs2]
      simp [h1.told, hne]
end Go.Proofs.YtfolnkmbdmfigaaGreatDoor

set_option linter.unusedSimpArgs false
set_option linter.unusedVariables false
namespace Go.Proofs.YtfolnkmbdmfigaaGreatDoor
open Go.RowKit Go.Maps Go.Lib

theorem rd_end (one : ByteArray) (he : (readS one).err = 0) (hl : (readS one).last = []) :
    (rdOf one).ret = .more ∧ (rdOf one).pt = .plain .between ∧ (rdOf one).s.rest.size = 0 ∧ (rdOf one).s.next = (one.size : Int) ∧ (rdOf one).st.told = (readS one).l ∧ (rdOf one).st.run .text = [] ∧ (rdOf one).st.attrs = [] ∧ (rdOf one).st.names = [] ∧ (rdOf one).st.run .value = [] ∧ (∃ n, Lim n (rdOf one).pt (rdOf one).st) ∧ (rdOf one).s.ended = false := by
  have hw := reads_whole one
  have hcut := reads_cut ⟨#[]⟩ (one.size + 1) (srcOf one false) (.plain .between) St.zero 0 (by show one.size < _; omega) (lim0 0) rfl
  have hclean := mrun_clean ((srcOf one false).rest.size + 1) (srcOf one false) (.plain .between) St.zero (by simp [Part.Fit]) ⟨fun _ => ⟨rfl, rfl⟩, fun _ => rfl⟩
  rcases rd_cases one with ⟨h1, h2, h3, ⟨n, hlim⟩, hm, _⟩ | ⟨_, h2, _⟩
  · obtain ⟨c1, c2⟩ := hclean h1
    obtain ⟨_, stay⟩ := hcut.more h1
    change (rdOf one).pt.Fit (rdOf one).st at c1
    change Clean (rdOf one).pt (rdOf one).st at c2
    change Stay (srcOf one false) 0 (rdOf one) at stay
    obtain ⟨w1, w2⟩ := hw.1 he
    rw [h3] at w1 w2
    have hm2 : ({ (rdOf one).s with ended := true } : Src).more = false := by simp [Src.more]
    have ht : ({ (rdOf one).s with ended := true } : Src).took = ({ (rdOf one).s.took.1 with ended := true }, (rdOf one).s.took.2) := by
      unfold Src.took; repeat' split
      all_goals rfl
    have hn : ({ (rdOf one).s with ended := true } : Src).next = (rdOf one).s.next := rfl
    rw [reads_eq hlim hm2, ht, hn] at w1 w2
    generalize hs : stepPart (rdOf one).pt (rdOf one).s.next (rdOf one).st (rdOf one).s.took.2 = o at *
    obtain ⟨o, r⟩ := o
    cases r with
    | go pt' => exact absurd (by rw [hs]) (stepPart_adds (rdOf one).pt (rdOf one).s.next (rdOf one).st (rdOf one).s.took.2 hlim.sound (took_short hm) hlim.quote pt')
    | fail no q => cases w1
    | stop =>
      have hcm := (stepPart_ends (rdOf one).pt (rdOf one).s.next (rdOf one).st (rdOf one).s.took.2).stop (by rw [hs])
      have ho := stepPart_stop hs
      simp only at w2
      rw [ho, hl, List.append_nil] at w2
      have hpt : (rdOf one).pt = .plain .between := by
        generalize (rdOf one).pt = pt at *
        cases pt with
        | plain k => rw [plain_stop hs]
        | word l k =>
          exfalso
          cases l with
          | nil => exact c1.1 rfl
          | cons x l =>
            simp only [stepPart, stWord] at hs
            repeat' split at hs
            all_goals cases hs
        | name i k =>
          exfalso
          simp only [stepPart, stName, stName1] at hs
          repeat' split at hs
          · cases hs
          · cases hs
          · cases hs
          · have := step_stop hs
            rcases c1 with ⟨_, e | e⟩ | ⟨_, e⟩ <;> (rw [e] at this; cases this)
        | ref i k =>
          exfalso
          simp only [stepPart, stRef] at hs
          split at hs
          · split at hs
            · unfold stRefEnd at hs
              split at hs <;> cases hs
            · cases hs
          · cases hs
      have hr : (rdOf one).s.rest.size = 0 := by
        unfold Src.took at hcm
        split at hcm
        · assumption
        · split at hcm
          · have : (((Utf8.decode (rdOf one).s.rest 0).1 : Nat) : Int) = -1 := hcm
            omega
          · cases hcm
      have htx : (rdOf one).st.run .text = [] := by
        by_cases hx : ((rdOf one).st.run .text).length = 0
        · simpa using hx
        · exfalso
          unfold St.tellText at w2
          rw [if_neg hx] at w2
          have := congrArg List.length w2
          rw [← h2] at this
          simp [St.clear, St.setRun] at this
      rw [hpt] at c2
      have hnx := stay.next
      have hz : (srcOf one false).next + ((srcOf one false).rest.size : Int) = one.size := by show (0 : Int) + one.size = _; omega
      exact ⟨h1, hpt, hr, by omega, h2, htx, (c2.1 rfl).1, (c2.1 rfl).2, c2.2 rfl, ⟨n, hlim⟩, stay.ended⟩
  · exact absurd he h2
theorem join_rest (one two : ByteArray) (i : Nat) (hi : i ≤ one.size) : one.extract i one.size ++ two = (one ++ two).extract i (one ++ two).size := by
  have hsz : (one ++ two).size = one.size + two.size := ByteArray.size_append
  apply ByteArray.ext
  apply Array.ext'
  simp only [ByteArray.data_extract, ByteArray.data_append, Array.toList_extract, Array.toList_append, List.extract_eq_take_drop]
  have hz : one.data.toList.length = one.size := by simp
  have hz2 : two.data.toList.length = two.size := by simp
  rw [List.drop_append_of_le_length (by omega), List.take_of_length_le (by rw [List.length_drop]; omega), List.take_of_length_le (by rw [List.length_append, List.length_drop]; omega)]
theorem runs_pre (g : St → List Tok) (one two : ByteArray) : ∀ (n i : Nat) (S : Src) (pt : Part) (st : St) (k : Nat), one.size - i < n → i ≤ one.size → S.rest = one.extract i one.size → S.next = (i : Int) → S.ended = false → Lim k pt st → (reads S pt st).ret = .more →
    ∃ j, j ≤ one.size ∧ runs g (one ++ two) i pt st = runs g (one ++ two) j (reads S pt st).pt (reads S pt st).st ∧ (reads S pt st).s.rest = one.extract j one.size := by
  intro n
  induction n with
  | zero => intro i S pt st k h; omega
  | succ n ih =>
    intro i S pt st k hn hi hr hx he hl hret
    by_cases hm : S.more = true
    · rw [reads_at hm]
      exact ⟨i, hi, rfl, hr⟩
    · have hm' : S.more = false := by simpa using hm
      have hsz : (one ++ two).size = one.size + two.size := ByteArray.size_append
      obtain ⟨ta1, ta2⟩ := took_app S two hm' he
      obtain ⟨h1, h2⟩ := took_cur hr hi
      have hr' : ({ S with rest := S.rest ++ two } : Src).rest = (one ++ two).extract i (one ++ two).size := by show S.rest ++ two = _; rw [hr, join_rest one two i hi]
      obtain ⟨h1', h2'⟩ := took_cur hr' (by omega)
      rw [ta2] at h1' h2'
      have hc : cur (one ++ two) i = cur one i := by rw [← h1', ← h1]
      rw [reads_eq hl hm', h1, hx] at hret ⊢
      generalize hs : stepPart pt i st (cur one i) = o at *
      obtain ⟨o, r⟩ := o
      cases r with
      | go pt' =>
        have hres : (stepPart pt S.next st S.took.2).res = .go pt' := by rw [h1, hx, hs]
        have h0 : 0 ≤ cur one i := by
          by_cases h0 : 0 ≤ cur one i
          · exact h0
          · exfalso
            have hneg : cur one i = -1 ∨ cur one i = -2 := by rcases cur_neg h0 with ⟨_, h⟩ | ⟨_, h⟩ <;> omega
            exact stepPart_adds pt i st (cur one i) hl.sound hneg hl.quote pt' (by rw [hs])
        have hcp := cur_pos h0
        obtain ⟨h3, h4⟩ := h2 h0
        have h4' := (h2' (by rw [hc]; exact h0)).2
        have hwid : wid (one ++ two) i = wid one i := by
          have e1 : S.took.1.next = S.next + wid one i := h4
          have e2 : S.took.1.next = S.next + wid (one ++ two) i := h4'
          omega
        rw [runs_go (by rw [hc]; exact hs) (by rw [hc]; exact h0), hwid]
        have hst : (stepPart pt S.next st S.took.2).st = o := by rw [h1, hx, hs]
        have hlim := hl.step hres
        rw [hst] at hlim
        exact ih (i + wid one i) S.took.1 pt' o (k + 1) (by omega) (by omega) h3 (by rw [h4, hx]; omega) ((took_flags S).1.trans he) hlim hret
      | stop => cases hret
      | fail no q => cases hret
theorem runs_joined (one two : ByteArray) (he : (readS one).err = 0) (hl : (readS one).last = []) (g : St → List Tok) (G : Sc → List Tok) (hG : ∀ (x : Sc) (st : St), x.err = 0 → Rel x st → g st = G x) (hg : ∀ st st', Sh one.size (readS one).l st st' → g st' = (readS one).l ++ (g st).map (Tok.on one.size)) :
    runs g (one ++ two) 0 (.plain .between) St.zero = ((readS one).l ++ ((readS two).fin G).1.map (Tok.on one.size), ((readS two).fin G).2.1, if ((readS two).fin G).2.1 = 0 then 0 else ((readS two).fin G).2.2 + one.size) := by
  obtain ⟨h1, hpt, hr, hnx, htold, htx, hat, hnm, hvl, ⟨n, hlim⟩, hend⟩ := rd_end one he hl
  have hsz : (one ++ two).size = one.size + two.size := ByteArray.size_append
  have htail : Ch.tail (one ++ two) one.size = two := by
    apply ByteArray.ext
    apply Array.ext'
    show (((one ++ two).data.toList.drop one.size).toArray).toList = two.data.toList
    rw [ByteArray.data_append]
    have hz : one.data.toList.length = one.size := by simp
    simp only [Array.toList_append]
    rw [← hz, List.drop_left]
  obtain ⟨j, hj, hrun, hrest⟩ := runs_pre g one two (one.size + 1) 0 (srcOf one false) (.plain .between) St.zero 0 (by omega) (Nat.zero_le _) (by show one = _; simp) rfl rfl (lim0 0) h1
  change runs g (one ++ two) 0 (.plain .between) St.zero = runs g (one ++ two) j (rdOf one).pt (rdOf one).st at hrun
  change (rdOf one).s.rest = one.extract j one.size at hrest
  have hje : j = one.size := by
    rw [hrest] at hr
    simp at hr; omega
  subst hje
  rw [hrun, hpt]
  generalize (rdOf one).st = st' at *
  have hsh : Sh one.size (readS one).l ⟨st'.run, fun i => st'.runAt i - one.size, st'.tagAt - one.size, st'.attrs, st'.names, st'.quote, []⟩ st' :=
    ⟨rfl, fun i _ => by simp only; omega, by simp only; omega, rfl, rfl, rfl, by simp [htold]⟩
  have hrel : Rel Sc.zero ⟨st'.run, fun i => st'.runAt i - one.size, st'.tagAt - one.size, st'.attrs, st'.names, st'.quote, []⟩ := ⟨⟨rfl, htx, fun h => absurd rfl h⟩, hat, hnm, hvl⟩
  have hsft := runs_shift (g := g) (N := one.size) (T := (readS one).l) (one ++ two) hg (two.size + 1) 0 (.plain .between) ⟨st'.run, fun i => st'.runAt i - one.size, st'.tagAt - one.size, st'.attrs, st'.names, st'.quote, []⟩ st' (by rw [htail]; omega) (by simp [Part.Fit]) ⟨fun _ => ⟨hat, hnm⟩, fun _ => hvl⟩ hsh
  rw [htail, Nat.add_zero] at hsft
  have hrd := runs_read (g := g) (s := two) G hG (two.size + 1) Sc.zero _ rfl (Nat.zero_le _) (by show two.size < 0 + _; omega) hrel
  have hrd2 : runs g two 0 (.plain .between) ⟨st'.run, fun i => st'.runAt i - one.size, st'.tagAt - one.size, st'.attrs, st'.names, st'.quote, []⟩ = (readS two).fin G := hrd
  rw [hrd2] at hsft
  exact hsft
theorem sh_last (N : Int) (T : List Tok) (st st' : St) (h : Sh N T st st') : st'.tellText.told = T ++ (st.tellText.told).map (Tok.on N) := h.tellText.told
theorem all_joined (one two : ByteArray) (he : (readS one).err = 0) (hl : (readS one).last = []) :
    refAll (one ++ two) = if (readS two).err = 0 then ((refAll one).1 ++ (refAll two).1.map (Tok.on one.size), 0, 0) else ([], (readS two).err, (readS two).at_ + one.size) := by
  have h1 := runs_joined one two he hl (fun st => st.told) (fun x => x.l) (fun x st he h => h.tag.told) (fun st st' h => h.told)
  have h2 := runs_joined one two he hl (fun st => st.tellText.told) (fun x => x.l ++ x.last) (fun x st he h => tell_last x st he h) (fun st st' h => sh_last _ _ st st' h)
  rw [runs_told] at h1
  rw [runs_last] at h2
  unfold Sc.fin at h1 h2
  unfold refAll
  by_cases ht : (readS two).err = 0
  · rw [if_pos ht] at h1 h2
    simp only [Prod.mk.injEq, if_true] at h1
    have e0 : (readS (one ++ two)).err = 0 := h1.2.1
    rw [if_pos e0] at h2
    simp only [Prod.mk.injEq] at h2
    rw [if_neg (by simpa using e0), if_pos ht, if_neg (by simpa using he), if_neg (by simpa using ht), hl, List.append_nil]
    rw [h2.1]
  · rw [if_neg ht] at h1
    simp only [Prod.mk.injEq] at h1
    rw [if_neg ht] at h1
    have e0 : (readS (one ++ two)).err ≠ 0 := by rw [h1.2.1]; exact ht
    rw [if_pos e0, if_neg ht, h1.2.1, h1.2.2]
end Go.Proofs.YtfolnkmbdmfigaaGreatDoor

set_option linter.unusedSimpArgs false
set_option linter.unusedVariables false
namespace Go.Proofs.YtfolnkmbdmfigaaGreatDoor
open Go.RowKit Go.Lib
theorem refAll_joined (one two : ByteArray) (T1 : List Tok) (q1 : Int) (h1 : refAll one = (T1, 0, q1)) (hk : ∀ (h : 0 < T1.length), (T1[T1.length - 1]).kind ≠ 3) :
    refAll (one ++ two) = if (refAll two).2.1 = 0 then (T1 ++ (refAll two).1.map (Tok.on one.size), 0, 0) else ([], (refAll two).2.1, (refAll two).2.2 + one.size) := by
  have he : (readS one).err = 0 := by
    refine Classical.byContradiction fun e => ?_
    unfold refAll at h1
    rw [if_pos e] at h1
    simp only [Prod.mk.injEq] at h1
    exact e h1.2.1
  have hT : T1 = (readS one).l ++ (readS one).last := by
    unfold refAll at h1
    rw [if_neg (by simpa using he)] at h1
    simp only [Prod.mk.injEq] at h1
    exact h1.1.symm
  have hl : (readS one).last = [] := by
    unfold Sc.last at hT ⊢
    split
    · rfl
    · rename_i hm
      rw [if_neg hm] at hT
      subst hT
      exfalso
      have := hk (by simp)
      simp [txtTok] at this
  rw [all_joined one two he hl]
  have hf : (refAll one).1 = T1 := by rw [h1]
  have h2 : (refAll two).2.1 = (readS two).err ∧ ((readS two).err ≠ 0 → (refAll two).2.2 = (readS two).at_) := by
    unfold refAll
    split
    · exact ⟨rfl, fun _ => rfl⟩
    · rename_i e
      exact ⟨(by simpa using e : (readS two).err = 0).symm, fun e2 => absurd e2 e⟩
  rw [hf, h2.1]
  split
  · rfl
  · rename_i e
    rw [h2.2 e]
end Go.Proofs.YtfolnkmbdmfigaaGreatDoor
