import Derived.Test.YtbbocgeapofloaiGreatDoorAr
set_option linter.unusedVariables false
set_option linter.unusedSimpArgs false
set_option linter.unusedSimpArgs false
set_option linter.unusedVariables false
namespace Go.Proofs.YtbbocgeapofloaiGreatDoor
open Go.RowKit Go.Maps Go.Lib

variable {X : Nat} {w w' w'' wr : World} {s t : ByteArray} {lv : Value} {x x' : Sc}

/-- A text's token. -/
def txtTok (x : Sc) : Tok := ⟨3, [], [], x.more, x.frm⟩

theorem own_lt {e : TypeId} {sz n : Nat} {v : Value} {xs : List Value} (h : w.ownsRow 0 e sz v n xs) {k : Nat} (hk : v.ownBlock = some k) : k < w.heap.size := by
  obtain ⟨cur, hc⟩ := owns_blk h hk
  exact (Array.getElem?_eq_some_iff.1 hc).1

/-- Where a text was told: the reader's block, its row, and the tag that waits. -/
theorem text_mid {cs : List Value} {w w1 W : World} {s : ByteArray} {x : Sc} {X n : Nat} {ti : Option Addr} {tc : Nat} {t : Tok} {ai : Option Addr} {an ac : Nat} {o2 : Obj} {ao' : Option Addr} {cap' : Nat} (hlt : X < w.heap.size) (hX : (Value.slice ti n tc).ownBlock ≠ some X)
    (hol : ∀ k, (Value.slice ti n tc).ownBlock = some k → k < w.heap.size)
    (hb : w1.heap[X]? = some (.cells (scCells s (.slice ti n tc) x) 45 (0, 0)))
    (ho : w1.ownsRow 0 68 5 (.slice ao' (n + 1) cap') (n + 1) cs)
    (hg : ((w.alloc (.cells #[.int .i64 t.kind, strV t.name, .slice ai an ac, strV t.text, .int .i64 t.at_] 68)).drew.alloc o2).grownBy w1 (Value.slice ti n tc).ownBlock)
    (hat : (Value.slice ao' (n + 1) cap').ownBlock = (Value.slice ti n tc).ownBlock ∨ (Value.slice ao' (n + 1) cap').ownBlock = some (w.heap.size + 1 + 1))
    (hW : W = (w1.setCell ⟨X, 2, none⟩ (.slice ao' (n + 1) cap')).setCell ⟨X, 3, none⟩ (.string ⟨#[]⟩)) :
    W.heap[X]? = some (.cells (((scCells s (.slice ti n tc) x).setIfInBounds 2 (.slice ao' (n + 1) cap')).setIfInBounds 3 (.string ⟨#[]⟩)) 45 (0, 0)) ∧
    W.ownsRow 0 68 5 (.slice ao' (n + 1) cap') (n + 1) cs ∧ W.heap[w.heap.size]? = some (.cells #[.int .i64 t.kind, strV t.name, .slice ai an ac, strV t.text, .int .i64 t.at_] 68 (0, 0)) ∧ W.heap.size = w1.heap.size ∧ (X < W.heap.size ∧ (Value.slice ao' (n + 1) cap').ownBlock ≠ some X) := by
  have hne : (Value.slice ao' (n + 1) cap').ownBlock ≠ some X := by
    rcases hat with e | e
    · rw [e]; exact hX
    · rw [e]; intro h9; simp at h9; omega
  have hs : W.heap.size = w1.heap.size := by rw [hW]; simp [World.setCell]
  have hko : ∀ k, k ≠ X → W.heap[k]? = w1.heap[k]? := fun k hk => by
    rw [hW, Below.heap_setCell _ _ _ _ hk, Below.heap_setCell _ _ _ _ hk]
  refine ⟨?_, ?_, ?_, hs, ?_, hne⟩
  · rw [hW]; exact set_of (set_of hb _) _
  · exact owns_of ho (fun k hk => hko k (fun e => hne (by rw [hk, e])))
  · rw [hko _ (by omega), hg.block w.heap.size (by simp [World.drew]; omega) (fun e => by have := hol _ e.symm; omega)]
    exact (Below.heap_alloc _ _ _ (by simp [World.drew])).trans (heap_alloc_new w _)
  · rw [hs]; exact (Array.getElem?_eq_some_iff.1 hb).1

set_option maxHeartbeats 4000000 in
set_option maxRecDepth 100000 in
/-- A tag, behind a text that waits. -/
theorem told_text {cs : List Value} (h : SAt X w s lv x) (hown : w.ownsRow 0 68 5 lv x.l.length cs) (hX : lv.ownBlock ≠ some X) (t : Tok) (ai : Option Addr) (an ac : Nat) (he : x.err = 0) (hm : x.more ≠ []) (hn : x.l.length ≤ 1099511627776) :
    Calls Tryz.prog 36 #[.pointer (some ⟨X, 0, none⟩), .agg #[.int .i64 t.kind, strV t.name, .slice ai an ac, strV t.text, .int .i64 t.at_]] w fun en w' => en = .returned (.tuple #[]) ∧ ∃ v1 w1 o1 o2 v2 w2 o3, ((w.alloc o1).drew.alloc o2).grownBy w1 lv.ownBlock ∧ (v1.ownBlock = lv.ownBlock ∨ v1.ownBlock = some (w.heap.size + 1 + 1)) ∧ w1.ownsRow 0 68 5 v1 (x.l.length + 1) (cs ++ tokCells (txtTok x) (.slice none 0 0)) ∧
      ((((w1.setCell ⟨X, 2, none⟩ v1).setCell ⟨X, 3, none⟩ (.string ⟨#[]⟩)).drew.alloc o3)).grownBy w2 v1.ownBlock ∧ w2.ownsRow 0 68 5 v2 (x.l.length + 1 + 1) (cs ++ tokCells (txtTok x) (.slice none 0 0) ++ tokCells t (.slice ai an ac)) ∧ (v2.ownBlock = v1.ownBlock ∨ v2.ownBlock = some (w1.heap.size + 1)) ∧ w' = w2.setCell ⟨X, 2, none⟩ v2 := by
  obtain ⟨ti, tc, rfl⟩ := slice_len hown
  obtain ⟨i0, hi, hz0, hz1, hz2⟩ := info_parts info56
  have c2 : w.cell? ⟨X, 2, none⟩ = some (.slice ti x.l.length tc) := h.cell 2 rfl
  have c3 : w.cell? ⟨X, 3, none⟩ = some (.string ⟨x.more.toArray⟩) := h.cell 3 rfl
  have c4 : w.cell? ⟨X, 4, none⟩ = some (.int .i64 x.frm) := h.cell 4 rfl
  have c5 : w.cell? ⟨X, 5, none⟩ = some (.int .i64 x.err) := h.cell 5 rfl
  have hlt := h.lt
  have hol : ∀ k, (Value.slice ti x.l.length tc).ownBlock = some k → k < w.heap.size := fun k e => own_lt hown e
  have e0 : (x.err != 0) = false := by simpa using he
  have em : x.more.isEmpty = false := by
    cases hl : x.more with
    | nil => exact absurd hl hm
    | cons a l => rfl
  have HO := hide hown
  have HA := hide h
  have HOL := hide hol
  clear hown h he hm hol
  generalize x.l.length = n at *
  have d2 : (w.alloc (.cells #[.int .i64 t.kind, strV t.name, .slice ai an ac, strV t.text, .int .i64 t.at_] 68)).cell? ⟨X, 2, none⟩ = some (.slice ti n tc) := cell_alloc _ c2
  have d3 : (w.alloc (.cells #[.int .i64 t.kind, strV t.name, .slice ai an ac, strV t.text, .int .i64 t.at_] 68)).cell? ⟨X, 3, none⟩ = some (.string ⟨x.more.toArray⟩) := cell_alloc _ c3
  have d4 : (w.alloc (.cells #[.int .i64 t.kind, strV t.name, .slice ai an ac, strV t.text, .int .i64 t.at_] 68)).cell? ⟨X, 4, none⟩ = some (.int .i64 x.frm) := cell_alloc _ c4
  have d5 : (w.alloc (.cells #[.int .i64 t.kind, strV t.name, .slice ai an ac, strV t.text, .int .i64 t.at_] 68)).cell? ⟨X, 5, none⟩ = some (.int .i64 x.err) := cell_alloc _ c5
  have hnews : ∀ j u, (tokCells (txtTok x) (.slice none 0 0))[j]? = some u → ((w.alloc (.cells #[.int .i64 t.kind, strV t.name, .slice ai an ac, strV t.text, .int .i64 t.at_] 68)).drew.alloc (.cells (tokCells (txtTok x) (.slice none 0 0)).toArray 68)).cell? ((⟨w.heap.size + 1, 0, none⟩ : Addr).add j) = some u := by
    have h9 := rtok_news (w.alloc (.cells #[.int .i64 t.kind, strV t.name, .slice ai an ac, strV t.text, .int .i64 t.at_] 68)).drew (txtTok x) (.slice none 0 0)
    have e9 : (w.alloc (.cells #[.int .i64 t.kind, strV t.name, .slice ai an ac, strV t.text, .int .i64 t.at_] 68)).drew.heap.size = w.heap.size + 1 := by simp [World.drew]
    rw [e9] at h9
    exact h9
  have HNW := hide hnews
  clear hnews
  go_enter Tryz.func36, Tryz.ntmps36
  go_wp2_with fail
  go_region_law
    (first | (
      refine step_own_at rfl (.tmp 18) (.tmp 28) 26 rfl 68 i0 _ 5 72 Tryz.underlying26 hi hz0 hz1 hz2 rfl (by decide) (.slice ti n tc) n cs (by simp [Act.eval, Act.put]) ((HO.out.alloc _).drew.alloc _) ⟨w.heap.size + 1, 0, none⟩ 1 1 (tokCells (txtTok x) (.slice none 0 0)) (by simp [Act.eval, Act.put]) rfl HNW.out (tok_one _ _ rfl) (by unfold maxLen; omega) (by omega) ?_
      intro v' w1 ho hg hat
      obtain ⟨ao', cap', rfl⟩ := slice_len ho
      have hb1 : w1.heap[X]? = some (.cells (scCells s (.slice ti n tc) x) 45 (0, 0)) := by
        rw [hg.block X (by simp; omega) (fun e => hX e.symm)]
        exact (Below.heap_alloc _ _ X (by simp; omega)).trans ((Below.heap_alloc w _ X hlt).trans HA.out)
      have g2 := cell_of hb1 (i := 2) rfl
      have g3 := cell_of hb1 (i := 3) rfl
      have gf := free_of (i := 2) hb1
      have gf3 := free_of (i := 3) hb1
      have HB := hide hb1
      have HOW := hide ho
      have HG := hide hg
      have HAT := hide hat
      clear ho hg hat hb1))
  all_goals
    go_wp2_with fail
    obtain ⟨W, hW⟩ : ∃ W, W = (w1.setCell ⟨X, 2, none⟩ (.slice ao' (n + 1) cap')).setCell ⟨X, 3, none⟩ (.string ⟨#[]⟩) := ⟨_, rfl⟩
    obtain ⟨kX, kO, kB, kS, kL⟩ := text_mid (ai := ai) (an := an) (ac := ac) (t := t) hlt hX HOL.out HB.out HOW.out HG.out (by simpa using HAT.out) hW
    rw [← hW]
    have k2 : W.cell? ⟨X, 2, none⟩ = some (.slice ao' (n + 1) cap') := cell_of kX rfl
    have q0 : W.cell? ⟨w.heap.size, 0, none⟩ = some (.int .i64 t.kind) := cell_of kB rfl
    have q1 : W.cell? ⟨w.heap.size, 1, none⟩ = some (strV t.name) := cell_of kB rfl
    have q2 : W.cell? ⟨w.heap.size, 2, none⟩ = some (.slice ai an ac) := cell_of kB rfl
    have q3 : W.cell? ⟨w.heap.size, 3, none⟩ = some (strV t.text) := cell_of kB rfl
    have q4 : W.cell? ⟨w.heap.size, 4, none⟩ = some (.int .i64 t.at_) := cell_of kB rfl
    have HN2 := hide (rtok_news W.drew t (.slice ai an ac))
    have HKX := hide kX
    have HKO := hide kO
    have HW := hide hW
    have HKS := hide kS
    clear kX kO kB hW kS g2 g3 gf gf3 c2 c3 c4 c5 d2 d3 d4 d5
    go_region_law
      (first | (
        refine step_own_at rfl (.tmp 39) (.tmp 41) 26 rfl 68 i0 _ 5 72 Tryz.underlying26 hi hz0 hz1 hz2 rfl (by decide) (.slice ao' (n + 1) cap') (n + 1) (cs ++ tokCells (txtTok x) (.slice none 0 0)) (by simp [Act.eval, Act.put]) (HKO.out.drew.alloc _) ⟨W.heap.size, 0, none⟩ 1 1 (tokCells t (.slice ai an ac)) (by simp [Act.eval, Act.put]) rfl HN2.out (tok_one _ _ rfl) (by unfold maxLen; omega) (by omega) ?_
        intro v' w2 ho hg hat
        obtain ⟨ao2, cap2, rfl⟩ := slice_len ho
        have hb2 : w2.heap[X]? = some (.cells (((scCells s (.slice ti n tc) x).setIfInBounds 2 (.slice ao' (n + 1) cap')).setIfInBounds 3 (.string ⟨#[]⟩)) 45 (0, 0)) := by
          rw [hg.block X (by simp; omega) (fun e => kL.2 e.symm)]
          exact (Below.heap_alloc _ _ X kL.1).trans HKX.out
        have r2 := cell_of hb2 (i := 2) rfl
        have rf := free_of (i := 2) hb2
        have HOW2 := hide ho
        have HG2 := hide hg
        have HAT2 := hide hat
        clear ho hg hat hb2))
    all_goals
      go_wp2
      go_end0
      have e5 := HW.out
      have e6 := HG2.out
      have e7 := HAT2.out
      rw [e5] at e6
      refine ⟨rfl, _, _, _, _, _, _, _, HG.out, by simpa using HAT.out, HOW.out, e6, HOW2.out, ?_, rfl⟩
      simpa [HKS.out] using e7
end Go.Proofs.YtbbocgeapofloaiGreatDoor
set_option linter.unusedSimpArgs false
set_option linter.unusedVariables false
namespace Go.Proofs.YtbbocgeapofloaiGreatDoor
open Go.RowKit Go.Maps Go.Lib

variable {X : Nat} {w w' w'' wr : World} {s t : ByteArray} {lv : Value} {x x' : Sc}

/-- Behind an error nothing is told. -/
theorem told_err (h : SAt X w s lv x) (t : Tok) (ai : Option Addr) (an ac : Nat) (he : x.err ≠ 0) :
    Calls Tryz.prog 36 #[.pointer (some ⟨X, 0, none⟩), .agg #[.int .i64 t.kind, strV t.name, .slice ai an ac, strV t.text, .int .i64 t.at_]] w fun en w' => en = .returned (.tuple #[]) ∧ Below w.heap.size w w' := by
  have c5 : w.cell? ⟨X, 5, none⟩ = some (.int .i64 x.err) := h.cell 5 rfl
  have e0 : (x.err != 0) = true := by simpa using he
  clear he h
  have d5 : (w.alloc (.cells #[.int .i64 t.kind, strV t.name, .slice ai an ac, strV t.text, .int .i64 t.at_] 68)).cell? ⟨X, 5, none⟩ = some (.int .i64 x.err) := cell_alloc _ c5
  go_enter Tryz.func36, Tryz.ntmps36
  go_wp2
  refine bodyPost_ret (results_none rfl _ _ _) rfl ?_
  exact ⟨rfl, (Below.refl _ _).alloc (Nat.le_refl _) _⟩

/-- Tokens in memory, as the document's own reader lays them. -/
def RToks (F : Nat → Prop) (X : Nat) (w : World) : List Tok → List Value → Prop
  | [], cs => cs = []
  | t :: l, cs => ∃ v cs', cs = tokCells t v ++ cs' ∧ w.ownsRow 0 114 2 v t.attrs.length (attrCells t.attrs) ∧ (∀ k, v.ownBlock = some k → F k ∧ k ≠ X) ∧ RToks F X w l cs'

theorem RToks.frame {F F' : Nat → Prop} : ∀ {l : List Tok} {cs : List Value}, RToks F X w l cs → (∀ k n xs v, w.ownsRow 0 114 2 v n xs → v.ownBlock = some k → F k → k ≠ X → w'.heap[k]? = w.heap[k]? ∧ F' k) → RToks F' X w' l cs
  | [], _, h, _ => h
  | t :: l, _, ⟨v, cs', e, ho, hf, hl⟩, hk => ⟨v, cs', e, owns_of ho fun k hv => (hk k _ _ v ho hv (hf k hv).1 (hf k hv).2).1, fun k hv => ⟨(hk k _ _ v ho hv (hf k hv).1 (hf k hv).2).2, (hf k hv).2⟩, hl.frame hk⟩

theorem RToks.app {F : Nat → Prop} : ∀ {l l' : List Tok} {cs cs' : List Value}, RToks F X w l cs → RToks F X w l' cs' → RToks F X w (l ++ l') (cs ++ cs')
  | [], _, _, _, h, h' => by cases h; exact h'
  | t :: l, _, _, _, ⟨v, c, e, ho, hf, hl⟩, h' => ⟨v, _, by rw [e, List.append_assoc], ho, hf, hl.app h'⟩

/-- The document's own reader in memory, with all that it owns. -/
structure RS (F : Nat → Prop) (X : Nat) (w : World) (s : ByteArray) (lv : Value) (cs : List Value) (x : Sc) : Prop where
  sat : SAt X w s lv x
  row : w.ownsRow 0 68 5 lv x.l.length cs
  toks : RToks F X w x.l cs
  own : ∀ k, lv.ownBlock = some k → F k ∧ k ≠ X
  has : F X
  lt : ∀ k, F k → k < w.heap.size

/-- What a call leaves: the reader in its new state, and all but its own blocks as they were. -/
def RSE (F : Nat → Prop) (X : Nat) (w : World) (s : ByteArray) (x : Sc) (w' : World) : Prop := ∃ lv cs, RS (Grow F w w') X w' s lv cs x ∧ Frame F w w'

theorem RS.ne {F : Nat → Prop} {cs : List Value} (h : RS F X w s lv cs x) : lv.ownBlock ≠ some X := fun e => (h.own X e).2 rfl

theorem RS.below {F : Nat → Prop} {cs : List Value} (h : RS F X w s lv cs x) (b : Below w.heap.size w w') : RSE F X w s x w' := by
  refine ⟨lv, cs, ⟨?_, ?_, ?_, ?_, Or.inl h.has, ?_⟩, ⟨b.os, b.tape, b.output, b.size, fun k hk _ => b.block k hk⟩⟩
  · exact (b.block X (h.lt X h.has)).trans h.sat
  · exact owns_of h.row fun k e => b.block k (h.lt k (h.own k e).1)
  · exact h.toks.frame fun k _ _ _ _ _ a _ => ⟨b.block k (h.lt k a), Or.inl a⟩
  · exact fun k e => ⟨Or.inl (h.own k e).1, (h.own k e).2⟩
  · rintro k (a | a)
    · exact Nat.lt_of_lt_of_le (h.lt k a) b.size
    · exact a.2

/-- A token that is told. -/
theorem RS.tell {F : Nat → Prop} {cs : List Value} (h : RS F X w s lv cs x) {W0 w1 : World} (b : Below w.heap.size w W0) (hg : W0.grownBy w1 lv.ownBlock) (t : Tok) (v v' : Value)
    (ha : w.ownsRow 0 114 2 v t.attrs.length (attrCells t.attrs)) (haF : ∀ k, v.ownBlock = some k → F k ∧ k ≠ X)
    (ho : w1.ownsRow 0 68 5 v' (x.l.length + 1) (cs ++ tokCells t v)) (hat : v'.ownBlock = lv.ownBlock ∨ ∃ k, v'.ownBlock = some k ∧ w.heap.size ≤ k) :
    RS (Grow F w w1) X (w1.setCell ⟨X, 2, none⟩ v') s v' (cs ++ tokCells t v) { x with l := x.l ++ [t] } ∧ Frame F w (w1.setCell ⟨X, 2, none⟩ v') := by
  have hs : (w1.setCell ⟨X, 2, none⟩ v').heap.size = w1.heap.size := by simp [World.setCell]
  have hw : w.heap.size ≤ w1.heap.size := Nat.le_trans b.size hg.size
  have hX : X < w.heap.size := h.lt X h.has
  have hold : ∀ k, k < w.heap.size → lv.ownBlock ≠ some k → w1.heap[k]? = w.heap[k]? := fun k hk hn => (hg.block k (Nat.lt_of_lt_of_le hk b.size) (fun e => hn e.symm)).trans (b.block k hk)
  have hset : ∀ k, k ≠ X → (w1.setCell ⟨X, 2, none⟩ v').heap[k]? = w1.heap[k]? := fun k hk => Below.heap_setCell _ _ _ _ hk
  have hat2 : ∀ k, v'.ownBlock = some k → Grow F w w1 k ∧ k ≠ X := by
    intro k e
    rcases hat with e1 | ⟨j, e1, hj⟩
    · rw [e1] at e; exact ⟨Or.inl (h.own k e).1, (h.own k e).2⟩
    · rw [e1] at e; cases e
      exact ⟨Or.inr ⟨hj, own_lt ho e1⟩, by omega⟩
  have hrow : ∀ k n xs u, w.ownsRow 0 114 2 u n xs → u.ownBlock = some k → F k → k ≠ X → (w1.setCell ⟨X, 2, none⟩ v').heap[k]? = w.heap[k]? ∧ Grow F w w1 k := fun k n xs u hu e a c =>
    ⟨(hset k c).trans (hold k (h.lt k a) (tag_ne hu h.row (by decide) e)), Or.inl a⟩
  refine ⟨⟨?_, ?_, ?_, hat2, Or.inl h.has, ?_⟩, ⟨hg.os.trans b.os, hg.tape.trans b.tape, hg.output.trans b.output, by rw [hs]; exact hw, fun k hk hF => ?_⟩⟩
  · have := set_of (i := 2) ((hold X hX h.ne).trans h.sat) v'
    exact this
  · simp only [List.length_append, List.length_cons, List.length_nil, Nat.zero_add]
    exact owns_of ho fun k e => hset k (hat2 k e).2
  · refine (h.toks.frame hrow).app ⟨v, [], by simp, owns_of ha fun k e => (hrow k _ _ v ha e (haF k e).1 (haF k e).2).1, fun k e => ⟨Or.inl (haF k e).1, (haF k e).2⟩, rfl⟩
  · rw [hs]
    rintro k (a | a)
    · exact Nat.lt_of_lt_of_le (h.lt k a) hw
    · exact a.2
  · rw [hset k (fun e => hF (e ▸ h.has)), hold k hk (fun e => hF (h.own k e).1)]
end Go.Proofs.YtbbocgeapofloaiGreatDoor
set_option linter.unusedSimpArgs false
set_option linter.unusedVariables false
namespace Go.Proofs.YtbbocgeapofloaiGreatDoor
open Go.RowKit Go.Maps Go.Lib

variable {X : Nat} {w w' w'' wr : World} {s t : ByteArray} {lv : Value} {x x' : Sc} {F : Nat → Prop} {cs : List Value}

/-- What is told: a text that waits, and the tag. -/
def Sc.told (x : Sc) (t : Tok) : Sc := if x.err ≠ 0 then x else { x with l := x.l ++ (if x.more = [] then [t] else [txtTok x, t]), more := [] }

theorem grow_grow {w1 w2 : World} {k : Nat} (h1 : w.heap.size ≤ w1.heap.size) (h2 : w1.heap.size ≤ w2.heap.size) (h : Grow (Grow F w w1) w1 w2 k) : Grow F w w2 k := by
  rcases h with (h | h) | h
  · exact Or.inl h
  · exact Or.inr ⟨h.1, Nat.lt_of_lt_of_le h.2 h2⟩
  · exact Or.inr ⟨Nat.le_trans h1 h.1, h.2⟩

theorem RS.wider {G : Nat → Prop} (h : RS F X w s lv cs x) (hF : ∀ k, F k → G k) (hl : ∀ k, G k → k < w.heap.size) : RS G X w s lv cs x :=
  ⟨h.sat, h.row, h.toks.frame fun k _ _ _ _ _ a _ => ⟨rfl, hF k a⟩, fun k e => ⟨hF k (h.own k e).1, (h.own k e).2⟩, hF X h.has, hl⟩

theorem RSE.on {w1 w2 : World} (h : RSE F X w s x w1) (k : ∀ lv cs, RS (Grow F w w1) X w1 s lv cs x → RSE (Grow F w w1) X w1 s x' w2) : RSE F X w s x' w2 := by
  obtain ⟨lv, cs, h1, f1⟩ := h
  obtain ⟨lv2, cs2, h2, f2⟩ := k lv cs h1
  refine ⟨lv2, cs2, h2.wider (fun k a => grow_grow f1.size f2.size a) ?_, ⟨f2.os.trans f1.os, f2.tape.trans f1.tape, f2.output.trans f1.output, Nat.le_trans f1.size f2.size, ?_⟩⟩
  · rintro k (a | a)
    · exact h2.lt k (Or.inl (Or.inl a))
    · exact a.2
  · intro k hk hF
    rw [f2.block k (Nat.lt_of_lt_of_le hk f1.size) (by rintro (a | a); exact hF a; omega), f1.block k hk hF]

/-- A cell of the reader's own, set, that is not the tokens'. -/
theorem RS.set (h : RS F X w s lv cs x) (i : Nat) (v : Value) (hc : (scCells s lv x).setIfInBounds i v = scCells s lv x') (hl : x'.l = x.l) : RS F X (w.setCell ⟨X, i, none⟩ v) s lv cs x' := by
  have hk : ∀ k, k ≠ X → (w.setCell ⟨X, i, none⟩ v).heap[k]? = w.heap[k]? := fun k hk => Below.heap_setCell _ _ _ _ hk
  refine ⟨((SE.refl h.sat).set i v hc).1, ?_, ?_, h.own, h.has, fun k a => by simpa [World.setCell] using h.lt k a⟩
  · rw [hl]; exact owns_of h.row fun k e => hk k (h.own k e).2
  · rw [hl]; exact h.toks.frame fun k _ _ _ _ _ a b => ⟨hk k b, a⟩

theorem RS.se {w1 : World} (h : RS (Grow F w w1) X w' s lv cs x) (hs : w'.heap.size = w1.heap.size) (f : Frame F w w') : RSE F X w s x w' := by
  refine ⟨lv, cs, ?_, f⟩
  have e : Grow F w w' = Grow F w w1 := by funext k; simp [Grow, hs]
  rw [e]; exact h

theorem told_rs (h : RS F X w s lv cs x) (t : Tok) (ai : Option Addr) (an ac : Nat) (ha : w.ownsRow 0 114 2 (.slice ai an ac) t.attrs.length (attrCells t.attrs)) (haF : ∀ k, (Value.slice ai an ac).ownBlock = some k → F k ∧ k ≠ X) (hn : x.l.length ≤ 1099511627776) :
    Calls Tryz.prog 36 #[.pointer (some ⟨X, 0, none⟩), .agg #[.int .i64 t.kind, strV t.name, .slice ai an ac, strV t.text, .int .i64 t.at_]] w fun en w' => en = .returned (.tuple #[]) ∧ RSE F X w s (x.told t) w' := by
  by_cases he : x.err = 0
  · by_cases hm : x.more = []
    · refine (told_tag h.sat h.row h.ne t ai an ac he hm hn).mono ?_
      rintro en w' ⟨rfl, v', w1, o1, o2, hg, ho, hat, rfl⟩
      have b : Below w.heap.size w ((w.alloc o1).drew.alloc o2) := (((Below.refl _ w).alloc (Nat.le_refl _) o1).drew).alloc (by simp [World.drew]) o2
      obtain ⟨h1, f1⟩ := h.tell b hg t _ v' ha haF ho (hat.imp id fun e => ⟨_, e, by omega⟩)
      refine ⟨rfl, ?_⟩
      have e9 : x.told t = { x with l := x.l ++ [t] } := by unfold Sc.told; rw [if_neg (by simpa using he), if_pos hm, ← hm]
      rw [e9]
      exact h1.se (by simp [World.setCell]) f1
    · refine (told_text h.sat h.row h.ne t ai an ac he hm hn).mono ?_
      rintro en w' ⟨rfl, v1, w1, o1, o2, v2, w2, o3, hg, hat, ho, hg2, ho2, hat2, rfl⟩
      refine ⟨rfl, ?_⟩
      have b : Below w.heap.size w ((w.alloc o1).drew.alloc o2) := (((Below.refl _ w).alloc (Nat.le_refl _) o1).drew).alloc (by simp [World.drew]) o2
      obtain ⟨h1, f1⟩ := h.tell b hg (txtTok x) (.slice none 0 0) v1 (World.ownsRow_nil _ _ _ _) (by intro k e; simp [Value.ownBlock] at e) ho (hat.imp id fun e => ⟨_, e, by omega⟩)
      have h2 := h1.set (x' := { x with l := x.l ++ [txtTok x], more := [] }) 3 (.string ⟨#[]⟩) rfl rfl
      have hs : ((w1.setCell ⟨X, 2, none⟩ v1).setCell ⟨X, 3, none⟩ (.string ⟨#[]⟩)).heap.size = w1.heap.size := by simp [World.setCell]
      have f2 : Frame F w ((w1.setCell ⟨X, 2, none⟩ v1).setCell ⟨X, 3, none⟩ (.string ⟨#[]⟩)) :=
        ⟨f1.os, f1.tape, f1.output, by rw [hs]; exact Nat.le_trans b.size hg.size, fun k hk hF => (Below.heap_setCell _ _ _ _ (fun (e : k = X) => hF (by rw [e]; exact h.has))).trans (f1.block k hk hF)⟩
      have hgr : Grow F w ((w1.setCell ⟨X, 2, none⟩ v1).setCell ⟨X, 3, none⟩ (.string ⟨#[]⟩)) = Grow F w w1 := by funext k; simp [Grow, hs]
      have e9 : x.told t = { x with l := x.l ++ [txtTok x] ++ [t], more := [] } := by unfold Sc.told; rw [if_neg (by simpa using he), if_neg hm]; simp
      rw [e9]
      refine RSE.on (x := { x with l := x.l ++ [txtTok x], more := [] }) (h2.se hs f2) ?_
      intro lv3 cs3 h3
      clear h3
      rw [hgr]
      have ha2 : ((w1.setCell ⟨X, 2, none⟩ v1).setCell ⟨X, 3, none⟩ (.string ⟨#[]⟩)).ownsRow 0 114 2 (.slice ai an ac) t.attrs.length (attrCells t.attrs) := by
        refine owns_of ha fun k e => ?_
        have hk := haF k e
        rw [Below.heap_setCell _ _ _ _ hk.2, Below.heap_setCell _ _ _ _ hk.2, hg.block k (Nat.lt_of_lt_of_le (h.lt k hk.1) b.size) (fun e2 => tag_ne ha h.row (by decide) e e2.symm), b.block k (h.lt k hk.1)]
      have b2 : Below ((w1.setCell ⟨X, 2, none⟩ v1).setCell ⟨X, 3, none⟩ (.string ⟨#[]⟩)).heap.size ((w1.setCell ⟨X, 2, none⟩ v1).setCell ⟨X, 3, none⟩ (.string ⟨#[]⟩)) (((w1.setCell ⟨X, 2, none⟩ v1).setCell ⟨X, 3, none⟩ (.string ⟨#[]⟩)).drew.alloc o3) := Below.alloc (Below.drew (Below.refl _ ((w1.setCell ⟨X, 2, none⟩ v1).setCell ⟨X, 3, none⟩ (.string ⟨#[]⟩)))) (Nat.le_refl _) o3
      have hl9 : (x.l ++ [txtTok x]).length = x.l.length + 1 := by simp
      obtain ⟨h4, f4⟩ := h2.tell b2 hg2 t _ v2 ha2 (fun k e => ⟨Or.inl (haF k e).1, (haF k e).2⟩) (by simp only [hl9]; exact ho2) (hat2.imp id fun e => ⟨_, e, by rw [hs]; omega⟩)
      exact h4.se (by simp [World.setCell]) f4
  · refine (told_err h.sat t ai an ac he).mono ?_
    rintro en w' ⟨rfl, b⟩
    refine ⟨rfl, ?_⟩
    unfold Sc.told
    rw [if_pos he]
    exact h.below b
end Go.Proofs.YtbbocgeapofloaiGreatDoor
set_option linter.unusedSimpArgs false
set_option linter.unusedVariables false
namespace Go.Proofs.YtbbocgeapofloaiGreatDoor
open Go.RowKit Go.Maps Go.Lib

variable {X : Nat} {w w' w'' wr : World} {s t : ByteArray} {lv : Value} {x x' : Sc} {F : Nat → Prop} {cs : List Value}

/-- A call that leaves the tokens alone, as the parts without tokens tell it. -/
theorem RS.ofSE (h : RS F X w s lv cs x) (k : SE X w s lv x' w') (hl : x'.l = x.l) : RSE F X w s x' w' := by
  have hb : ∀ j, F j → j ≠ X → w'.heap[j]? = w.heap[j]? := fun j a b => k.2.block j (h.lt j a) b
  refine ⟨lv, cs, ⟨k.1, ?_, ?_, fun j e => ⟨Or.inl (h.own j e).1, (h.own j e).2⟩, Or.inl h.has, ?_⟩, ⟨k.2.os, k.2.tape, k.2.output, k.2.size, fun j hj hF => k.2.block j hj (fun e => hF (by rw [e]; exact h.has))⟩⟩
  · rw [hl]; exact owns_of h.row fun j e => hb j (h.own j e).1 (h.own j e).2
  · rw [hl]; exact h.toks.frame fun j _ _ _ _ _ a b => ⟨hb j a b, Or.inl a⟩
  · rintro j (a | a)
    · exact Nat.lt_of_lt_of_le (h.lt j a) k.2.size
    · exact a.2

/-- A reader that begins: nothing is told. -/
theorem RS.first (h : SAt X w s (.slice none 0 0) x) (hl : x.l = []) : RS (fun k => k = X) X w s (.slice none 0 0) [] x :=
  ⟨h, by rw [hl]; exact World.ownsRow_nil _ _ _ _, by rw [hl]; rfl, by intro k e; simp [Value.ownBlock] at e, rfl, by rintro k rfl; exact h.lt⟩
end Go.Proofs.YtbbocgeapofloaiGreatDoor
