import Derived.Test.YtfolnkmbdmfigaaGreatDoorGam
set_option linter.unusedVariables false
set_option linter.unusedSimpArgs false
set_option linter.unusedSimpArgs false
set_option linter.unusedVariables false
namespace Go.Proofs.YtfolnkmbdmfigaaGreatDoor
open Go.RowKit Go.Maps Go.Lib
variable {X : Nat} {w w' w'' wr : World} {s t : ByteArray} {lv : Value} {x x' : Sc}
theorem told_err (h : SAt X w s lv x) (t : Tok) (ai : Option Addr) (an ac : Nat) (he : x.err ≠ 0) :
    Calls Tryz.prog 70 #[.pointer (some ⟨X, 0, none⟩), .agg #[.int .i64 t.kind, strV t.name, .slice ai an ac, strV t.text, .int .i64 t.at_]] w fun en w' => en = .returned (.tuple #[]) ∧ Below w.heap.size w w' := by
  have c5 : w.cell? ⟨X, 5, none⟩ = some (.int .i64 x.err) := h.cell 5 rfl
  have e0 : (x.err != 0) = true := by simpa using he
  clear he h
  have d5 : (w.alloc (.cells #[.int .i64 t.kind, strV t.name, .slice ai an ac, strV t.text, .int .i64 t.at_] 72)).cell? ⟨X, 5, none⟩ = some (.int .i64 x.err) := cell_alloc _ c5
  go_enter Tryz.func70, Tryz.ntmps70
  go_wp2
  refine bodyPost_ret (results_none rfl _ _ _) rfl ?_
  exact ⟨rfl, (Below.refl _ _).alloc (Nat.le_refl _) _⟩
def RToks (F : Nat → Prop) (X : Nat) (w : World) : List Tok → List Value → Prop
  | [], cs => cs = []
  | t :: l, cs => ∃ v cs', cs = tokCells t v ++ cs' ∧ w.ownsRow 0 82 2 v t.attrs.length (attrCells t.attrs) ∧ (∀ k, v.ownBlock = some k → F k ∧ k ≠ X) ∧ RToks F X w l cs'
theorem RToks.frame {F F' : Nat → Prop} : ∀ {l : List Tok} {cs : List Value}, RToks F X w l cs → (∀ k n xs v, w.ownsRow 0 82 2 v n xs → v.ownBlock = some k → F k → k ≠ X → w'.heap[k]? = w.heap[k]? ∧ F' k) → RToks F' X w' l cs
  | [], _, h, _ => h
  | t :: l, _, ⟨v, cs', e, ho, hf, hl⟩, hk => ⟨v, cs', e, owns_of ho fun k hv => (hk k _ _ v ho hv (hf k hv).1 (hf k hv).2).1, fun k hv => ⟨(hk k _ _ v ho hv (hf k hv).1 (hf k hv).2).2, (hf k hv).2⟩, hl.frame hk⟩
theorem RToks.app {F : Nat → Prop} : ∀ {l l' : List Tok} {cs cs' : List Value}, RToks F X w l cs → RToks F X w l' cs' → RToks F X w (l ++ l') (cs ++ cs')
  | [], _, _, _, h, h' => by cases h; exact h'
  | t :: l, _, _, _, ⟨v, c, e, ho, hf, hl⟩, h' => ⟨v, _, by rw [e, List.append_assoc], ho, hf, hl.app h'⟩
structure RS (F : Nat → Prop) (X : Nat) (w : World) (s : ByteArray) (lv : Value) (cs : List Value) (x : Sc) : Prop where
  sat : SAt X w s lv x
  row : w.ownsRow 0 72 5 lv x.l.length cs
  toks : RToks F X w x.l cs
  own : ∀ k, lv.ownBlock = some k → F k ∧ k ≠ X
  has : F X
  lt : ∀ k, F k → k < w.heap.size
def RSE (F : Nat → Prop) (X : Nat) (w : World) (s : ByteArray) (x : Sc) (w' : World) : Prop := ∃ lv cs, RS (Grow F w w') X w' s lv cs x ∧ Frame F w w'
theorem RS.ne {F : Nat → Prop} {cs : List Value} (h : RS F X w s lv cs x) : lv.ownBlock ≠ some X := fun e => (h.own X e).2 rfl
theorem RS.below {F : Nat → Prop} {cs : List Value} (h : RS F X w s lv cs x) (b : Below w.heap.size w w') : RSE F X w s x w' := by
  refine ⟨lv, cs, ⟨?_, ?_, ?_, ?_, Or.inl h.has, ?_⟩, ⟨b.os, b.tape, b.output, b.size, fun k hk _ => b.block k hk⟩⟩
  · exact (b.block X (h.lt X h.has)).trans h.sat
  · exact owns_of h.row fun k e => b.block k (h.lt k (h.own k e).1)
  · exact h.toks.frame fun k _ _ _ _ _ a _ => ⟨b.block k (h.lt k a), Or.inl a⟩
  · exact fun k e => ⟨Or.inl (h.own k e).1, (h.own k e).2⟩
  · rintro k (a | a)
    · exact Nat.lt_of_lt_of_le (h.lt k a) b.size
    · exact a.2
theorem RS.tell {F : Nat → Prop} {cs : List Value} (h : RS F X w s lv cs x) {W0 w1 : World} (b : Below w.heap.size w W0) (hg : W0.grownBy w1 lv.ownBlock) (t : Tok) (v v' : Value)
    (ha : w.ownsRow 0 82 2 v t.attrs.length (attrCells t.attrs)) (haF : ∀ k, v.ownBlock = some k → F k ∧ k ≠ X)
    (ho : w1.ownsRow 0 72 5 v' (x.l.length + 1) (cs ++ tokCells t v)) (hat : v'.ownBlock = lv.ownBlock ∨ ∃ k, v'.ownBlock = some k ∧ w.heap.size ≤ k) :
    RS (Grow F w w1) X (w1.setCell ⟨X, 2, none⟩ v') s v' (cs ++ tokCells t v) { x with l := x.l ++ [t] } ∧ Frame F w (w1.setCell ⟨X, 2, none⟩ v') := by
  have hs : (w1.setCell ⟨X, 2, none⟩ v').heap.size = w1.heap.size := by simp [World.setCell]
  have hw : w.heap.size ≤ w1.heap.size := Nat.le_trans b.size hg.size
  have hX : X < w.heap.size := h.lt X h.has
  have hold : ∀ k, k < w.heap.size → lv.ownBlock ≠ some k → w1.heap[k]? = w.heap[k]? := fun k hk hn => (hg.block k (Nat.lt_of_lt_of_le hk b.size) (fun e => hn e.symm)).trans (b.block k hk)
  have hset : ∀ k, k ≠ X → (w1.setCell ⟨X, 2, none⟩ v').heap[k]? = w1.heap[k]? := fun k hk => Below.heap_setCell _ _ _ _ hk
  have hat2 : ∀ k, v'.ownBlock = some k → Grow F w w1 k ∧ k ≠ X := by
    intro k e
    rcases hat with e1 | ⟨j, e1, hj⟩
    · rw [e1] at e; exact ⟨Or.inl (h.own k e).1, (h.own k e).2⟩
    · rw [e1] at e; cases e
      exact ⟨Or.inr ⟨hj, own_lt ho e1⟩, by omega⟩
  have hrow : ∀ k n xs u, w.ownsRow 0 82 2 u n xs → u.ownBlock = some k → F k → k ≠ X → (w1.setCell ⟨X, 2, none⟩ v').heap[k]? = w.heap[k]? ∧ Grow F w w1 k := fun k n xs u hu e a c =>
    ⟨(hset k c).trans (hold k (h.lt k a) (tag_ne hu h.row (by decide) e)), Or.inl a⟩
  refine ⟨⟨?_, ?_, ?_, hat2, Or.inl h.has, ?_⟩, ⟨hg.os.trans b.os, hg.tape.trans b.tape, hg.output.trans b.output, by rw [hs]; exact hw, fun k hk hF => ?_⟩⟩
  · have := set_of (i := 2) ((hold X hX h.ne).trans h.sat) v'
    exact this
  · simp only [List.length_append, List.length_cons, List.length_nil, Nat.zero_add]
    exact owns_of ho fun k e => hset k (hat2 k e).2
  · refine (h.toks.frame hrow).app ⟨v, [], by simp, owns_of ha fun k e => (hrow k _ _ v ha e (haF k e).1 (haF k e).2).1, fun k e => ⟨Or.inl (haF k e).1, (haF k e).2⟩, rfl⟩
  · rw [hs]
    rintro k (a | a)
    · exact Nat.lt_of_lt_of_le (h.lt k a) hw
    · exact a.2
  · rw [hset k (fun e => hF (e ▸ h.has)), hold k hk (fun e => hF (h.own k e).1)]
end Go.Proofs.YtfolnkmbdmfigaaGreatDoor

set_option linter.unusedSimpArgs false
set_option linter.unusedVariables false
namespace Go.Proofs.YtfolnkmbdmfigaaGreatDoor
open Go.RowKit Go.Maps Go.Lib
variable {X : Nat} {w w' w'' wr : World} {s t : ByteArray} {lv : Value} {x x' : Sc} {F : Nat → Prop} {cs : List Value}
def Sc.told (x : Sc) (t : Tok) : Sc := if x.err ≠ 0 then x else { x with l := x.l ++ (if x.more = [] then [t] else [txtTok x, t]), more := [] }
theorem grow_grow {w1 w2 : World} {k : Nat} (h1 : w.heap.size ≤ w1.heap.size) (h2 : w1.heap.size ≤ w2.heap.size) (h : Grow (Grow F w w1) w1 w2 k) : Grow F w w2 k := by
  rcases h with (h | h) | h
  · exact Or.inl h
  · exact Or.inr ⟨h.1, Nat.lt_of_lt_of_le h.2 h2⟩
  · exact Or.inr ⟨Nat.le_trans h1 h.1, h.2⟩
theorem RS.wider {G : Nat → Prop} (h : RS F X w s lv cs x) (hF : ∀ k, F k → G k) (hl : ∀ k, G k → k < w.heap.size) : RS G X w s lv cs x :=
  ⟨h.sat, h.row, h.toks.frame fun k _ _ _ _ _ a _ => ⟨rfl, hF k a⟩, fun k e => ⟨hF k (h.own k e).1, (h.own k e).2⟩, hF X h.has, hl⟩
theorem RSE.on {w1 w2 : World} (h : RSE F X w s x w1) (k : ∀ lv cs, RS (Grow F w w1) X w1 s lv cs x → RSE (Grow F w w1) X w1 s x' w2) : RSE F X w s x' w2 := by
  obtain ⟨lv, cs, h1, f1⟩ := h
  obtain ⟨lv2, cs2, h2, f2⟩ := k lv cs h1
  refine ⟨lv2, cs2, h2.wider (fun k a => grow_grow f1.size f2.size a) ?_, ⟨f2.os.trans f1.os, f2.tape.trans f1.tape, f2.output.trans f1.output, Nat.le_trans f1.size f2.size, ?_⟩⟩
  · rintro k (a | a)
    · exact h2.lt k (Or.inl (Or.inl a))
    · exact a.2
  · intro k hk hF
    rw [f2.block k (Nat.lt_of_lt_of_le hk f1.size) (by rintro (a | a); exact hF a; omega), f1.block k hk hF]
theorem RS.set (h : RS F X w s lv cs x) (i : Nat) (v : Value) (hc : (scCells s lv x).setIfInBounds i v = scCells s lv x') (hl : x'.l = x.l) : RS F X (w.setCell ⟨X, i, none⟩ v) s lv cs x' := by
  have hk : ∀ k, k ≠ X → (w.setCell ⟨X, i, none⟩ v).heap[k]? = w.heap[k]? := fun k hk => Below.heap_setCell _ _ _ _ hk
  refine ⟨((SE.refl h.sat).set i v hc).1, ?_, ?_, h.own, h.has, fun k a => by simpa [World.setCell] using h.lt k a⟩
  · rw [hl]; exact owns_of h.row fun k e => hk k (h.own k e).2
  · rw [hl]; exact h.toks.frame fun k _ _ _ _ _ a b => ⟨hk k b, a⟩
theorem RS.se {w1 : World} (h : RS (Grow F w w1) X w' s lv cs x) (hs : w'.heap.size = w1.heap.size) (f : Frame F w w') : RSE F X w s x w' := by
  refine ⟨lv, cs, ?_, f⟩
  have e : Grow F w w' = Grow F w w1 := by funext k; simp [Grow, hs]
  rw [e]; exact h
theorem told_rs (h : RS F X w s lv cs x) (t : Tok) (ai : Option Addr) (an ac : Nat) (ha : w.ownsRow 0 82 2 (.slice ai an ac) t.attrs.length (attrCells t.attrs)) (haF : ∀ k, (Value.slice ai an ac).ownBlock = some k → F k ∧ k ≠ X) (hn : x.l.length ≤ 1099511627776) :
    Calls Tryz.prog 70 #[.pointer (some ⟨X, 0, none⟩), .agg #[.int .i64 t.kind, strV t.name, .slice ai an ac, strV t.text, .int .i64 t.at_]] w fun en w' => en = .returned (.tuple #[]) ∧ RSE F X w s (x.told t) w' := by
  by_cases he : x.err = 0
  · by_cases hm : x.more = []
    · refine (told_tag h.sat h.row h.ne t ai an ac he hm hn).mono ?_
      rintro en w' ⟨rfl, v', w1, o1, o2, hg, ho, hat, rfl⟩
      have b : Below w.heap.size w ((w.alloc o1).drew.alloc o2) := (((Below.refl _ w).alloc (Nat.le_refl _) o1).drew).alloc (by simp [World.drew]) o2
      obtain ⟨h1, f1⟩ := h.tell b hg t _ v' ha haF ho (hat.imp id fun e => ⟨_, e, by omega⟩)
      refine ⟨rfl, ?_⟩
      have e9 : x.told t = { x with l := x.l ++ [t] } := by unfold Sc.told; rw [if_neg (by simpa using he), if_pos hm, ← hm]
      rw [e9]
      exact h1.se (by simp [World.setCell]) f1
    · refine (told_text h.sat h.row h.ne t ai an ac he hm hn).mono ?_
      rintro en w' ⟨rfl, v1, w1, o1, o2, v2, w2, o3, hg, hat, ho, hg2, ho2, hat2, rfl⟩
      refine ⟨rfl, ?_⟩
      have b : Below w.heap.size w ((w.alloc o1).drew.alloc o2) := (((Below.refl _ w).alloc (Nat.le_refl _) o1).drew).alloc (by simp [World.drew]) o2
      obtain ⟨h1, f1⟩ := h.tell b hg (txtTok x) (.slice none 0 0) v1 (World.ownsRow_nil _ _ _ _) (by intro k e; simp [Value.ownBlock] at e) ho (hat.imp id fun e => ⟨_, e, by omega⟩)
      have h2 := h1.set (x' := { x with l := x.l ++ [txtTok x], more := [] }) 3 (.string ⟨#[]⟩) rfl rfl
      have hs : ((w1.setCell ⟨X, 2, none⟩ v1).setCell ⟨X, 3, none⟩ (.string ⟨#[]⟩)).heap.size = w1.heap.size := by simp [World.setCell]
      have f2 : Frame F w ((w1.setCell ⟨X, 2, none⟩ v1).setCell ⟨X, 3, none⟩ (.string ⟨#[]⟩)) :=
        ⟨f1.os, f1.tape, f1.output, by rw [hs]; exact Nat.le_trans b.size hg.size, fun k hk hF => (Below.heap_setCell _ _ _ _ (fun (e : k = X) => hF (by rw [e]; exact h.has))).trans (f1.block k hk hF)⟩
      have hgr : Grow F w ((w1.setCell ⟨X, 2, none⟩ v1).setCell ⟨X, 3, none⟩ (.string ⟨#[]⟩)) = Grow F w w1 := by funext k; simp [Grow, hs]
      have e9 : x.told t = { x with l := x.l ++ [txtTok x] ++ [t], more := [] } := by unfold Sc.told; rw [if_neg (by simpa using he), if_neg hm]; simp
      rw [e9]
      refine RSE.on (x := { x with l := x.l ++ [txtTok x], more := [] }) (h2.se hs f2) ?_
      intro lv3 cs3 h3
      clear h3
      rw [hgr]
      have ha2 : ((w1.setCell ⟨X, 2, none⟩ v1).setCell ⟨X, 3, none⟩ (.string ⟨#[]⟩)).ownsRow 0 82 2 (.slice ai an ac) t.attrs.length (attrCells t.attrs) := by
        refine owns_of ha fun k e => ?_
        have hk := haF k e
        rw [Below.heap_setCell _ _ _ _ hk.2, Below.heap_setCell _ _ _ _ hk.2, hg.block k (Nat.lt_of_lt_of_le (h.lt k hk.1) b.size) (fun e2 => tag_ne ha h.row (by decide) e e2.symm), b.block k (h.lt k hk.1)]
      have b2 : Below ((w1.setCell ⟨X, 2, none⟩ v1).setCell ⟨X, 3, none⟩ (.string ⟨#[]⟩)).heap.size ((w1.setCell ⟨X, 2, none⟩ v1).setCell ⟨X, 3, none⟩ (.string ⟨#[]⟩)) (((w1.setCell ⟨X, 2, none⟩ v1).setCell ⟨X, 3, none⟩ (.string ⟨#[]⟩)).drew.alloc o3) := Below.alloc (Below.drew (Below.refl _ ((w1.setCell ⟨X, 2, none⟩ v1).setCell ⟨X, 3, none⟩ (.string ⟨#[]⟩)))) (Nat.le_refl _) o3
      have hl9 : (x.l ++ [txtTok x]).length = x.l.length + 1 := by simp
      obtain ⟨h4, f4⟩ := h2.tell b2 hg2 t _ v2 ha2 (fun k e => ⟨Or.inl (haF k e).1, (haF k e).2⟩) (by simp only [hl9]; exact ho2) (hat2.imp id fun e => ⟨_, e, by rw [hs]; omega⟩)
      exact h4.se (by simp [World.setCell]) f4
  · refine (told_err h.sat t ai an ac he).mono ?_
    rintro en w' ⟨rfl, b⟩
    refine ⟨rfl, ?_⟩
    unfold Sc.told
    rw [if_pos he]
    exact h.below b
end Go.Proofs.YtfolnkmbdmfigaaGreatDoor

set_option linter.unusedSimpArgs false
set_option linter.unusedVariables false
namespace Go.Proofs.YtfolnkmbdmfigaaGreatDoor
open Go.RowKit Go.Maps Go.Lib
variable {X : Nat} {w w' w'' wr : World} {s t : ByteArray} {lv : Value} {x x' : Sc} {F : Nat → Prop} {cs : List Value}
theorem RS.ofSE (h : RS F X w s lv cs x) (k : SE X w s lv x' w') (hl : x'.l = x.l) : RSE F X w s x' w' := by
  have hb : ∀ j, F j → j ≠ X → w'.heap[j]? = w.heap[j]? := fun j a b => k.2.block j (h.lt j a) b
  refine ⟨lv, cs, ⟨k.1, ?_, ?_, fun j e => ⟨Or.inl (h.own j e).1, (h.own j e).2⟩, Or.inl h.has, ?_⟩, ⟨k.2.os, k.2.tape, k.2.output, k.2.size, fun j hj hF => k.2.block j hj (fun e => hF (by rw [e]; exact h.has))⟩⟩
  · rw [hl]; exact owns_of h.row fun j e => hb j (h.own j e).1 (h.own j e).2
  · rw [hl]; exact h.toks.frame fun j _ _ _ _ _ a b => ⟨hb j a b, Or.inl a⟩
  · rintro j (a | a)
    · exact Nat.lt_of_lt_of_le (h.lt j a) k.2.size
    · exact a.2
theorem RS.first (h : SAt X w s (.slice none 0 0) x) (hl : x.l = []) : RS (fun k => k = X) X w s (.slice none 0 0) [] x :=
  ⟨h, by rw [hl]; exact World.ownsRow_nil _ _ _ _, by rw [hl]; rfl, by intro k e; simp [Value.ownBlock] at e, rfl, by rintro k rfl; exact h.lt⟩
end Go.Proofs.YtfolnkmbdmfigaaGreatDoor

set_option linter.unusedSimpArgs false
set_option linter.unusedVariables false
namespace Go.Proofs.YtfolnkmbdmfigaaGreatDoor
open Go.RowKit Go.Lib

def cur (s : ByteArray) (i : Nat) : Int := if i < s.size then (if Ch.okAt s i = true then ((Utf8.decode s i).1 : Int) else -2) else -1
def wid (s : ByteArray) (i : Nat) : Nat := (Utf8.decode s i).2
def runsF (g : St → List Tok) (s : ByteArray) : Nat → Nat → Part → St → List Tok × Int × Int
  | 0, _, _, st => (st.told, 0, 0)
  | f + 1, i, pt, st =>
    match (stepPart pt i st (cur s i)).res with
    | .go pt' => if 0 ≤ cur s i then runsF g s f (i + wid s i) pt' (stepPart pt i st (cur s i)).st else (st.told, 0, 0)
    | .stop => (g st, 0, 0)
    | .fail no q => ((stepPart pt i st (cur s i)).st.told, no, q)
def runs (g : St → List Tok) (s : ByteArray) (i : Nat) (pt : Part) (st : St) : List Tok × Int × Int := runsF g s (s.size - i + 1) i pt st
variable {g : St → List Tok} {s : ByteArray} {i : Nat} {pt pt' : Part} {st st' : St} {no q c : Int}
theorem cur_pos (h : 0 ≤ cur s i) : i < s.size ∧ Ch.okAt s i = true ∧ cur s i = ((Utf8.decode s i).1 : Int) ∧ 1 ≤ wid s i ∧ i + wid s i ≤ s.size := by
  unfold cur at h ⊢
  split at h
  · rename_i h1
    split at h
    · rename_i h2
      have := Ch.decode_width s i h1
      rw [if_pos h1, if_pos h2]
      exact ⟨h1, h2, rfl, this.2.1, this.1⟩
    · omega
  · omega
theorem cur_neg (h : ¬ 0 ≤ cur s i) : (i < s.size ∧ cur s i = -2) ∨ (¬ i < s.size ∧ cur s i = -1) := by
  unfold cur at h ⊢
  split
  · rename_i h1
    rw [if_pos h1] at h
    split
    · rename_i h2; rw [if_pos h2] at h; omega
    · exact Or.inl ⟨h1, rfl⟩
  · rename_i h1; exact Or.inr ⟨h1, rfl⟩
theorem runsF_fuel : ∀ (f f' i : Nat) (pt : Part) (st : St), s.size - i < f → s.size - i < f' → runsF g s f i pt st = runsF g s f' i pt st := by
  intro f
  induction f with
  | zero => intro f' i pt st h; omega
  | succ f ih =>
    intro f' i pt st h h'
    obtain ⟨f', rfl⟩ : ∃ k, f' = k + 1 := ⟨f' - 1, by omega⟩
    simp only [runsF]
    split
    · split
      · rename_i h0
        have := cur_pos h0
        exact ih _ _ _ _ (by omega) (by omega)
      · rfl
    · rfl
    · rfl
theorem runs_go (e : stepPart pt i st (cur s i) = ⟨st', .go pt'⟩) (h : 0 ≤ cur s i) : runs g s i pt st = runs g s (i + wid s i) pt' st' := by
  have hc := cur_pos h
  unfold runs
  conv => lhs; unfold runsF
  rw [e]
  simp only [h, if_true]
  exact runsF_fuel _ _ _ _ _ (by omega) (by omega)
theorem runs_fail (e : stepPart pt i st (cur s i) = ⟨st', .fail no q⟩) : runs g s i pt st = (st'.told, no, q) := by
  unfold runs runsF; rw [e]
theorem runs_stop (e : stepPart pt i st (cur s i) = ⟨st', .stop⟩) : runs g s i pt st = (g st, 0, 0) := by
  unfold runs runsF; rw [e]
theorem runs_same (e : stepPart pt i st (cur s i) = stepPart pt' i st' (cur s i)) (ht : st.told = st'.told) (hg : (∃ o, stepPart pt i st (cur s i) = ⟨o, .stop⟩) → g st = g st') : runs g s i pt st = runs g s i pt' st' := by
  unfold runs runsF
  rw [e] at hg ⊢
  rw [ht]
  generalize stepPart pt' i st' (cur s i) = o at *
  obtain ⟨o, r⟩ := o
  cases r with
  | go pt'' => rfl
  | stop => simp only; rw [hg ⟨o, rfl⟩]
  | fail no q => rfl
theorem step_stop {k : Pl} {o : St} (h : step k q st c = ⟨o, .stop⟩) : k = .between := by
  cases k <;> first | rfl | (exfalso; simp only [step, stPart, stName1, stAttr, stRemark, stOrder, stSection, stBracket] at h; repeat' split at h
                             all_goals cases h)
theorem plain_stop {k : Pl} {o : St} (h : stepPart (.plain k) q st c = ⟨o, .stop⟩) : k = .between := by
  have h' : step k q st c = ⟨o, .stop⟩ := by simpa only [stepPart] using h
  exact step_stop h'
theorem cur_byte {c : Nat} (hc : c = 9 ∨ c = 10 ∨ c = 13 ∨ (32 ≤ c ∧ c < 128)) : cur s i = (c : Int) ↔ i < s.size ∧ (s.get! i).toNat = c := by
  unfold cur
  by_cases h : i < s.size
  · rw [if_pos h]
    have hb : Ch.bz s i = ((s.get! i).toNat : Int) := by simp [Ch.bz, h]
    rcases Ch.decode_byte s i h with ⟨h0, h1, hd⟩ | ⟨h0, h1⟩
    · have hok : Ch.okAt s i = Ch.may (Ch.bz s i) := by
        have e1 : (((Ch.bz s i).toNat : Nat) : Int) = Ch.bz s i := by omega
        have e2 : ((Ch.bz s i).toNat != 65533) = true := by simp; omega
        simp [Ch.okAt, hd, e1]
        intro _; omega
      rw [hok, hd]
      by_cases hm : Ch.may (Ch.bz s i) = true
      · rw [if_pos hm]; simp only [h, true_and]; omega
      · rw [if_neg hm]
        have hm' := mt (Ch.may_iff (Ch.bz s i)).2 hm
        simp only [h, true_and]
        constructor
        · intro e; omega
        · intro e; exfalso; apply hm'; omega
    · constructor
      · intro e
        split at e
        · omega
        · omega
      · rintro ⟨_, e⟩; omega
  · rw [if_neg h]; simp [h]
theorem wid_byte (h : 0 ≤ cur s i) (h1 : cur s i < 128) : wid s i = 1 := by
  have hc := cur_pos h
  rcases Ch.decode_byte s i hc.1 with ⟨_, _, hd⟩ | ⟨_, h2⟩
  · unfold wid; rw [hd]
  · omega
variable {x : Sc}
theorem is_cur (he : x.err = 0) {c : Nat} (hc : c = 9 ∨ c = 10 ∨ c = 13 ∨ (32 ≤ c ∧ c < 128)) : x.is s c = true ↔ cur s x.i = (c : Int) := by
  rw [cur_byte hc]; simp [Sc.is, he]
theorem is_cur' (he : x.err = 0) {c : Nat} (hc : c = 9 ∨ c = 10 ∨ c = 13 ∨ (32 ≤ c ∧ c < 128)) : x.is s c = decide (cur s x.i = (c : Int)) := by
  have := is_cur (s := s) he hc
  cases h : x.is s c <;> simp_all
theorem is_err (he : x.err ≠ 0) (c : Nat) : x.is s c = false := by simp [Sc.is, he]
theorem at2_cur (s : ByteArray) (i : Nat) : Ch.at2 s i = if 0 ≤ cur s i then (cur s i, (wid s i : Int)) else (0, 0) := by
  unfold Ch.at2
  by_cases h : 0 ≤ cur s i
  · have := cur_pos h
    rw [if_pos h, if_pos ⟨this.1, this.2.1⟩, this.2.2.1]; rfl
  · rw [if_neg h]
    rcases cur_neg h with ⟨h1, h2⟩ | ⟨h1, h2⟩
    · have : ¬ Ch.okAt s i = true := by
        intro e; unfold cur at h2; rw [if_pos h1, if_pos e] at h2; omega
      rw [if_neg (fun e => this e.2)]
    · rw [if_neg (fun e => h1 e.1)]
theorem at2_zero (s : ByteArray) (i : Nat) : (Ch.at2 s i).2 = 0 ↔ ¬ 0 ≤ cur s i := by
  rw [at2_cur]
  split
  · rename_i h
    have := cur_pos h
    simp only []
    constructor
    · intro e; omega
    · intro e; exact absurd h e
  · rename_i h; simp [h]
theorem wrong_cur (he : x.err = 0) : x.wrong s = { x with err := Tk.why (cur s x.i), at_ := x.i } := by
  unfold Sc.wrong Sc.fail
  simp only [he, if_true, at2_zero]
  by_cases h : 0 ≤ cur s x.i
  · have := cur_pos h
    rw [if_pos this.1, if_neg (by simpa using h)]
    have e : Tk.why (cur s x.i) = 3 := by unfold Tk.why; rw [if_neg (by omega)]
    rw [e]
  · rcases cur_neg h with ⟨h1, h2⟩ | ⟨h1, h2⟩
    · rw [if_pos h1, if_pos h, h2]; rfl
    · rw [if_neg h1, h2]; rfl
theorem enc_cur (h : 0 ≤ cur s i) : Lib.encodeRune (cur s i) = Ch.bytes s i (wid s i) := by
  have hc := cur_pos h
  rw [hc.2.2.1]; exact Ch.encode_decode hc.1 hc.2.1
theorem bytes_add (s : ByteArray) (i a b : Nat) : Ch.bytes s i a ++ Ch.bytes s (i + a) b = Ch.bytes s i (a + b) := by
  unfold Ch.bytes
  rw [← List.drop_drop, List.take_add]
theorem bytes_extract (s : ByteArray) (a b : Nat) : (s.extract a b).data.toList = Ch.bytes s a (b - a) := by
  unfold Ch.bytes
  simp [ByteArray.data_extract, List.extract_eq_take_drop]
end Go.Proofs.YtfolnkmbdmfigaaGreatDoor

set_option linter.unusedSimpArgs false
set_option linter.unusedVariables false
namespace Go.Proofs.YtfolnkmbdmfigaaGreatDoor
open Go.RowKit Go.Lib
variable {g : St → List Tok} {s : ByteArray} {i : Nat} {pt pt' : Part} {st st' : St} {no q c : Int} {x : Sc}

theorem blank_byte (s : ByteArray) (i : Nat) : (i < s.size ∧ isBlank (s.get! i).toNat = true) ↔ Tk.blank (cur s i) = true := by
  have h := fun c hc => cur_byte (s := s) (i := i) (c := c) hc
  have h32 := h 32 (by omega)
  have h9 := h 9 (by omega)
  have h10 := h 10 (by omega)
  have h13 := h 13 (by omega)
  simp only [isBlank, Tk.blank, Bool.or_eq_true, beq_iff_eq]
  constructor
  · rintro ⟨h0, ((e | e) | e) | e⟩
    · exact Or.inl (Or.inl (Or.inl (h32.2 ⟨h0, e⟩)))
    · exact Or.inl (Or.inl (Or.inr (h9.2 ⟨h0, e⟩)))
    · exact Or.inl (Or.inr (h10.2 ⟨h0, e⟩))
    · exact Or.inr (h13.2 ⟨h0, e⟩)
  · rintro (((e | e) | e) | e)
    · exact ⟨(h32.1 e).1, Or.inl (Or.inl (Or.inl (h32.1 e).2))⟩
    · exact ⟨(h9.1 e).1, Or.inl (Or.inl (Or.inr (h9.1 e).2))⟩
    · exact ⟨(h10.1 e).1, Or.inl (Or.inr (h10.1 e).2)⟩
    · exact ⟨(h13.1 e).1, Or.inr (h13.1 e).2⟩
theorem tk_blank {c : Int} (h : Tk.blank c = true) : c = 32 ∨ c = 9 ∨ c = 10 ∨ c = 13 := by
  simp only [Tk.blank, Bool.or_eq_true, beq_iff_eq] at h; omega
def gap (s : ByteArray) (i : Nat) : Nat := skip s (s.size + 1) i
theorem skip_fuel : ∀ (f f' i : Nat), i ≤ s.size → s.size < i + f → s.size < i + f' → skip s f i = skip s f' i := by
  intro f
  induction f with
  | zero => intro f' i h h1; omega
  | succ f ih =>
    intro f' i h h1 h2
    obtain ⟨f', rfl⟩ : ∃ k, f' = k + 1 := ⟨f' - 1, by omega⟩
    simp only [skip]
    split
    · rename_i hc; rw [ih f' (i + 1) (by omega) (by omega) (by omega)]
    · rfl
theorem gap_yes (h : Tk.blank (cur s i) = true) : gap s i = gap s (i + 1) + 1 := by
  have hb := (blank_byte s i).2 h
  unfold gap
  conv => lhs; unfold skip
  rw [if_pos hb]
  rw [skip_fuel s.size (s.size + 1) (i + 1) (by omega) (by omega) (by omega)]
theorem gap_no (h : ¬ Tk.blank (cur s i) = true) : gap s i = 0 := by
  unfold gap skip; rw [if_neg (fun e => h ((blank_byte s i).1 e))]
theorem gap_le' (s : ByteArray) (i : Nat) (h : i ≤ s.size) : i + gap s i ≤ s.size := by
  by_cases hb : Tk.blank (cur s i) = true
  · have := ((blank_byte s i).2 hb).1
    rw [gap_yes hb]
    have := gap_le' s (i + 1) (by omega)
    omega
  · rw [gap_no hb]; exact h
termination_by s.size - i
theorem gap_le (h : i ≤ s.size) : i + gap s i ≤ s.size := gap_le' s i h
theorem gap_end (s : ByteArray) (i : Nat) : ¬ Tk.blank (cur s (i + gap s i)) = true := by
  by_cases hb : Tk.blank (cur s i) = true
  · have := ((blank_byte s i).2 hb).1
    rw [gap_yes hb]
    have := gap_end s (i + 1)
    rwa [show i + (gap s (i + 1) + 1) = i + 1 + gap s (i + 1) by omega]
  · rw [gap_no hb]; exact hb
termination_by s.size - i
theorem runs_gap (h : ∀ i c, Tk.blank c = true → stepPart pt i st c = ⟨st, .go pt⟩) (i : Nat) : runs g s i pt st = runs g s (i + gap s i) pt st := by
  by_cases hb : Tk.blank (cur s i) = true
  · have hi := ((blank_byte s i).2 hb).1
    have hv := tk_blank hb
    rw [runs_go (h _ _ hb) (by omega), wid_byte (by omega) (by omega), runs_gap h (i + 1), gap_yes hb]
    congr 1; omega
  · rw [gap_no hb]; rfl
termination_by s.size - i
theorem skip_gap (he : x.err = 0) : x.skip s = gap s x.i := by unfold Sc.skip; rw [if_pos he]; rfl
theorem blanks_gap (he : x.err = 0) : x.blanks s = { x with i := x.i + gap s x.i } := by unfold Sc.blanks; rw [skip_gap he]
theorem blanks_err (he : x.err ≠ 0) : x.blanks s = x := by unfold Sc.blanks Sc.skip; rw [if_neg he]; rfl

theorem cur_tail (s : ByteArray) (k j : Nat) : cur (Ch.tail s k) j = cur s (k + j) := by
  unfold cur
  by_cases h : k + j < s.size
  · have h1 : j < (Ch.tail s k).size := by rw [Ch.tail_size]; omega
    have hd : Utf8.decode (Ch.tail s k) j = Utf8.decode s (k + j) := Ch.decode_shift h (fun m => by rw [Ch.tail_bz, Nat.add_assoc])
    rw [if_pos h, if_pos h1]
    have : Ch.okAt (Ch.tail s k) j = Ch.okAt s (k + j) := by unfold Ch.okAt; rw [hd]
    rw [this, hd]
  · have h1 : ¬ j < (Ch.tail s k).size := by rw [Ch.tail_size]; omega
    rw [if_neg h, if_neg h1]
theorem wid_tail {s : ByteArray} {k j : Nat} (h : k + j < s.size) : wid (Ch.tail s k) j = wid s (k + j) := by
  unfold wid
  rw [Ch.decode_shift h (fun m => by rw [Ch.tail_bz, Nat.add_assoc])]
def inN (c : Int) : Bool := Ch.begins c || Ch.goesOn c
theorem inN_pos {c : Int} (h : inN c = true) : 0 ≤ c := by
  unfold inN at h
  rw [Bool.or_eq_true] at h
  rcases h with h | h
  · have := (Ch.begins_iff c).1 h; omega
  · have := (Ch.goesOn_iff c).1 h; omega
theorem inName_cur (s : ByteArray) (p : Nat) (h : p < s.size) : Ch.inName s p = if p = 0 then Ch.begins (cur s p) else inN (cur s p) := by
  unfold Ch.inName cur inN
  rw [if_pos h]
  by_cases ho : Ch.okAt s p = true
  · rw [ho, if_pos rfl]
    by_cases h0 : p = 0
    · subst h0; simp
    · have : decide (0 < p) = true := by simp; omega
      simp [this, h0]
  · have ho' : Ch.okAt s p = false := by simpa using ho
    rw [ho']
    have h1 : Ch.begins (-2) = false := by decide
    have h2 : Ch.goesOn (-2) = false := by decide
    simp [h1, h2]
def nend (s : ByteArray) (i : Nat) : Nat :=
  if h : inN (cur s i) = true then nend s (i + wid s i) else i
termination_by s.size - i
decreasing_by have := cur_pos (inN_pos h); omega
theorem nend_yes (h : inN (cur s i) = true) : nend s i = nend s (i + wid s i) := by
  conv => lhs; unfold nend
  rw [dif_pos h]
theorem nend_no (h : ¬ inN (cur s i) = true) : nend s i = i := by
  unfold nend; rw [dif_neg h]
theorem nend_ge (s : ByteArray) (i : Nat) : i ≤ nend s i := by
  by_cases h : inN (cur s i) = true
  · have := cur_pos (inN_pos h)
    have := nend_ge s (i + wid s i)
    rw [nend_yes h]; omega
  · rw [nend_no h]; omega
termination_by s.size - i
theorem nend_le' (s : ByteArray) (i : Nat) (h0 : i ≤ s.size) : nend s i ≤ s.size := by
  by_cases h : inN (cur s i) = true
  · have := cur_pos (inN_pos h)
    have := nend_le' s (i + wid s i) (by omega)
    rw [nend_yes h]; omega
  · rw [nend_no h]; omega
termination_by s.size - i
theorem nend_le (h : i ≤ s.size) : nend s i ≤ s.size := nend_le' s i h
theorem nameFrom_nend (s : ByteArray) (k : Nat) : ∀ f p, 0 < p → k + p ≤ s.size → s.size < k + p + f → Ch.nameFrom (Ch.tail s k) f p + k = nend s (k + p) := by
  intro f
  induction f with
  | zero => intro p h h1 h2; omega
  | succ f ih =>
    intro p h h1 h2
    have hz := Ch.tail_size s k
    simp only [Ch.nameFrom]
    by_cases hp : k + p < s.size
    · have hin : Ch.inName (Ch.tail s k) p = inN (cur s (k + p)) := by rw [inName_cur _ _ (by omega), if_neg (by omega), cur_tail]
      rw [if_pos (by omega), hin]
      by_cases hn : inN (cur s (k + p)) = true
      · have hc := cur_pos (inN_pos hn)
        have hw : (Utf8.decode (Ch.tail s k) p).2 = wid s (k + p) := wid_tail hp
        rw [if_pos hn, hw, nend_yes hn, ih (p + wid s (k + p)) (by omega) (by omega) (by omega)]
        congr 1; omega
      · rw [if_neg hn, nend_no hn]; omega
    · have e : k + p = s.size := by omega
      rw [if_neg (by omega), nend_no (by unfold cur; rw [if_neg (by omega)]; decide)]; omega
theorem nlen_no (hb : ¬ Ch.begins (cur s x.i) = true) : x.nlen s = 0 := by
  unfold Sc.nlen Ch.name
  rw [Ch.tail_extract]
  simp only [Ch.nameFrom]
  split
  · rename_i h
    have hin : Ch.inName (Ch.tail s x.i) 0 = Ch.begins (cur s x.i) := by rw [inName_cur _ _ h, if_pos rfl, cur_tail, Nat.add_zero]
    rw [hin, if_neg hb]
  · omega
theorem nlen_yes (hb : Ch.begins (cur s x.i) = true) : x.nlen s = nend s x.i - x.i ∧ x.i < nend s x.i := by
  have hp : 0 ≤ cur s x.i := by have := (Ch.begins_iff _).1 hb; omega
  have hc := cur_pos hp
  have hz := Ch.tail_size s x.i
  have hn : inN (cur s x.i) = true := by unfold inN; rw [hb]; rfl
  have hg := nend_ge s (x.i + wid s x.i)
  have hw : (Utf8.decode (Ch.tail s x.i) 0).2 = wid s x.i := wid_tail (by omega)
  unfold Sc.nlen Ch.name
  rw [Ch.tail_extract]
  simp only [Ch.nameFrom]
  have hin : Ch.inName (Ch.tail s x.i) 0 = Ch.begins (cur s x.i) := by rw [inName_cur _ _ (by omega), if_pos rfl, cur_tail, Nat.add_zero]
  rw [if_pos (by omega), hin, if_pos hb, Nat.zero_add, hw]
  have := nameFrom_nend s x.i (Ch.tail s x.i).size (wid s x.i) (by omega) (by omega) (by omega)
  rw [nend_yes hn]
  omega
theorem runs_name (j : Rn) (k : Pl) (i : Nat) (st : St) (h0 : st.run j ≠ []) : runs g s i (.name j k) st = runs g s (nend s i) (.plain k) (st.setRun j (st.run j ++ Ch.bytes s i (nend s i - i)) (st.runAt j)) := by
  have hl : ¬ (st.run j).length = 0 := by simpa using h0
  by_cases h : inN (cur s i) = true
  · have hp := inN_pos h
    have hc := cur_pos hp
    have e : stepPart (.name j k) i st (cur s i) = ⟨st.put j (cur s i) i, .go (.name j k)⟩ := by
      simp only [stepPart, stName]; unfold inN at h; rw [if_neg hl, if_pos h]
    rw [runs_go e hp]
    have ep : st.put j (cur s i) i = st.setRun j (st.run j ++ Ch.bytes s i (wid s i)) (st.runAt j) := by
      unfold St.put; rw [if_neg hl, enc_cur hp]
    have hg := nend_ge s (i + wid s i)
    rw [runs_name j k (i + wid s i) _ (by rw [ep]; simp [St.setRun, h0]), nend_yes h, ep]
    congr 1
    simp only [St.setRun, if_true]
    rw [List.append_assoc, bytes_add, show wid s i + (nend s (i + wid s i) - (i + wid s i)) = nend s (i + wid s i) - i by omega]
    congr 1
    · funext m; split <;> rfl
    · funext m; split <;> rfl
  · rw [nend_no h]
    have e0 : st.setRun j (st.run j ++ Ch.bytes s i (i - i)) (st.runAt j) = st := by
      have : Ch.bytes s i (i - i) = [] := by unfold Ch.bytes; simp
      rw [this, List.append_nil]
      unfold St.setRun
      congr 1
      · funext m; split
        · rename_i e; rw [e]
        · rfl
      · funext m; split
        · rename_i e; rw [e]
        · rfl
    rw [e0]
    refine runs_same ?_ rfl (fun _ => rfl)
    simp only [stepPart, stName]
    rw [if_neg hl]
    unfold inN at h
    rw [if_neg h]
termination_by s.size - i
end Go.Proofs.YtfolnkmbdmfigaaGreatDoor

set_option linter.unusedSimpArgs false
set_option linter.unusedVariables false
namespace Go.Proofs.YtfolnkmbdmfigaaGreatDoor
open Go.RowKit Go.Lib
variable {g : St → List Tok} {s : ByteArray} {i : Nat} {pt pt' : Part} {st st' : St} {no q c : Int} {x y : Sc}
def Alike (s : ByteArray) (x y : Sc) (A : List Tok × Int × Int) (B : Nat → List Tok × Int × Int) : Prop :=
  (y.err = 0 ∧ x.i ≤ y.i ∧ y.i ≤ s.size ∧ y = { x with i := y.i } ∧ A = B y.i) ∨ (y.err ≠ 0 ∧ y.l = x.l ∧ A = (x.l, y.err, y.at_))
theorem Alike.wrong (he : x.err = 0) {A : List Tok × Int × Int} {B : Nat → List Tok × Int × Int} (h : A = (x.l, Tk.why (cur s x.i), (x.i : Int))) : Alike s x (x.wrong s) A B := by
  rw [wrong_cur he]
  refine Or.inr ⟨?_, rfl, h⟩
  show Tk.why _ ≠ 0
  unfold Tk.why; split <;> omega
def Plain (l : List UInt8) : Prop := ∀ c ∈ l, 32 ≤ c.toNat ∧ c.toNat < 128
instance (l : List UInt8) : Decidable (Plain l) := by unfold Plain; infer_instance
theorem has_cur {l : List UInt8} (hl : Plain l) : ∀ i, Ch.has s i l = true ↔ ∀ k (h : k < l.length), cur s (i + k) = ((l[k]).toNat : Int) := by
  induction l with
  | nil => intro i; simp [Ch.has]
  | cons c l ih =>
    intro i
    have hc := hl c (by simp)
    have ih' := ih (fun d hd => hl d (by simp [hd]))
    simp only [Ch.has, Bool.and_eq_true, beq_iff_eq]
    rw [ih']
    have hb : Ch.bz s i = (c.toNat : Int) ↔ cur s i = (c.toNat : Int) := by
      rw [cur_byte (Or.inr (Or.inr (Or.inr hc)))]
      unfold Ch.bz
      split
      · rename_i h; simp only [h, true_and]; omega
      · rename_i h; simp only [h, false_and, iff_false]; omega
    rw [hb]
    constructor
    · rintro ⟨h1, h2⟩ k hk
      cases k with
      | zero => simpa using h1
      | succ k =>
        have := h2 k (by simpa using hk)
        simpa [Nat.add_assoc, Nat.add_comm 1 k] using this
    · intro h
      refine ⟨h 0 (by simp), fun k hk => ?_⟩
      have := h (k + 1) (by simpa using hk)
      simpa [Nat.add_assoc, Nat.add_comm 1 k] using this
theorem stands_has (x : Sc) (s t : ByteArray) (h0 : t.size ≠ 0) : x.stands s t = Ch.has s x.i t.data.toList := by
  rw [← Ch.prefix_has, Bool.eq_iff_iff, List.isPrefixOf_iff_prefix, List.prefix_iff_eq_take]
  unfold Sc.stands
  simp only [Bool.and_eq_true, decide_eq_true_eq, beq_iff_eq]
  rw [Lib.toList_data, Lib.toList_data, bytes_extract]
  unfold Ch.bytes
  have hz : t.data.toList.length = t.size := by simp
  rw [show x.i + t.size - x.i = t.size by omega, hz]
  constructor
  · rintro ⟨_, h⟩; exact h.symm
  · intro h
    refine ⟨?_, h.symm⟩
    have := congrArg List.length h
    rw [hz, List.length_take, List.length_drop] at this
    have h2 : s.data.toList.length = s.size := by simp
    omega
theorem runs_word (k : Pl) : ∀ (l : List UInt8) (x : Sc), l ≠ [] → Plain l → x.err = 0 → x.i ≤ s.size → st.told = x.l → Alike s x (Sc.mustL s l x) (runs g s x.i (.word l k) st) (fun j => runs g s j (.plain k) st) := by
  intro l
  induction l with
  | nil => intro x h; exact absurd rfl h
  | cons c l ih =>
    intro x _ hl he hi ht
    have hc := hl c (by simp)
    simp only [Sc.mustL]
    rw [if_pos he]
    by_cases hq : cur s x.i = (c.toNat : Int)
    · have h0 : 0 ≤ cur s x.i := by omega
      have hp := cur_pos h0
      have hw := wid_byte h0 (by omega)
      rw [if_pos ((is_cur he (Or.inr (Or.inr (Or.inr hc)))).2 hq)]
      by_cases hn : l = []
      · subst hn
        have e : stepPart (.word [c] k) x.i st (cur s x.i) = ⟨st, .go (.plain k)⟩ := by simp [stepPart, stWord, hq]
        rw [runs_go e h0, hw]
        exact Or.inl ⟨he, Nat.le_succ _, by show x.i + 1 ≤ _; omega, rfl, rfl⟩
      · have e : stepPart (.word (c :: l) k) x.i st (cur s x.i) = ⟨st, .go (.word l k)⟩ := by simp [stepPart, stWord, hq, hn]
        rw [runs_go e h0, hw]
        rcases ih { x with i := x.i + 1 } hn (fun d hd => hl d (by simp [hd])) he (by show x.i + 1 ≤ _; omega) ht with ⟨h1, h2, h3, h4, h5⟩ | ⟨h1, h2, h3⟩
        · refine Or.inl ⟨h1, ?_, h3, ?_, h5⟩
          · have h2' : x.i + 1 ≤ _ := h2
            omega
          · rw [h4]
        · exact Or.inr ⟨h1, h2, h3⟩
    · have hf : x.is s c.toNat = false := by
        have := mt (is_cur (s := s) he (Or.inr (Or.inr (Or.inr hc)))).1 hq
        simpa using this
      rw [if_neg (by rw [hf]; simp), mustL_err s l (wrong_err x s he)]
      refine Alike.wrong he ?_
      have e : stepPart (.word (c :: l) k) x.i st (cur s x.i) = ⟨st, .fail (Tk.why (cur s x.i)) x.i⟩ := by simp [stepPart, stWord, hq]
      rw [runs_fail e, ht]
theorem until_step (s t : ByteArray) (frm f : Nat) (x : Sc) (he : x.err = 0) (hz : t.size ≠ 0) : untilF s t frm (f + 1) x = if Ch.has s x.i t.data.toList = true then ({ x with i := x.i + t.size }, s.extract frm x.i) else if 0 ≤ cur s x.i then untilF s t frm f { x with i := x.i + wid s x.i } else untilF s t frm f (x.wrong s) := by
  simp only [untilF]
  rw [if_pos he, stands_has _ _ _ hz]
  split
  · rfl
  · by_cases h : 0 ≤ cur s x.i
    · rw [if_neg (by rw [at2_zero]; simpa using h), if_pos h, at2_cur, if_pos h]
      simp
    · rw [if_pos ((at2_zero s x.i).2 h), if_neg h]
theorem until_err (s t : ByteArray) (frm f : Nat) (x : Sc) (he : x.err ≠ 0) : untilF s t frm f x = (x, ⟨#[]⟩) := by
  cases f with
  | zero => rfl
  | succ f => simp only [untilF]; rw [if_neg he]
theorem has_two {a b : UInt8} (hp : Plain [a, b]) (i : Nat) : Ch.has s i [a, b] = true ↔ cur s i = (a.toNat : Int) ∧ cur s (i + 1) = (b.toNat : Int) := by
  rw [has_cur hp]
  constructor
  · intro h; exact ⟨h 0 (by simp), h 1 (by simp)⟩
  · rintro ⟨h1, h2⟩ k hk
    match k, hk with
    | 0, _ => exact h1
    | 1, _ => exact h2
theorem Alike.on {A : List Tok × Int × Int} {B : Nat → List Tok × Int × Int} {j : Nat} (h : Alike s { x with i := j } y A B) (hj : x.i ≤ j) : Alike s x y A B := by
  rcases h with ⟨h1, h2, h3, h4, h5⟩ | ⟨h1, h2, h3⟩
  · refine Or.inl ⟨h1, Nat.le_trans hj h2, h3, ?_, h5⟩
    rw [h4]
  · exact Or.inr ⟨h1, h2, h3⟩
theorem runs_two (a b : UInt8) (A B : Pl) (K : Part) (hp : Plain [a, b]) (hA : ∀ q c, step A q st c = if c = (a.toNat : Int) then ⟨st, .go (.plain B)⟩ else if c < 0 then ⟨st, .fail (Tk.why c) q⟩ else ⟨st, .go (.plain A)⟩)
    (hB : ∀ q c, step B q st c = if c = (b.toNat : Int) then ⟨st, .go K⟩ else step A q st c) (frm : Nat) : ∀ (f : Nat) (x : Sc), x.err = 0 → x.i ≤ s.size → s.size + 1 < x.i + f → st.told = x.l →
    Alike s x (untilF s ⟨#[a, b]⟩ frm f x).1 (runs g s x.i (.plain A) st) (fun j => runs g s j K st) := by
  have ha := hp a (by simp)
  have hb := hp b (by simp)
  intro f
  induction f with
  | zero => intro x he hi hf; omega
  | succ f ih =>
    intro x he hi hf ht
    rw [until_step _ _ _ _ _ he (by show 2 ≠ 0; decide)]
    have hh := has_two (s := s) hp x.i
    by_cases h0 : 0 ≤ cur s x.i
    · have hp := cur_pos h0
      by_cases h45 : cur s x.i = (a.toNat : Int)
      · have hw := wid_byte h0 (by omega)
        have e : stepPart (.plain A) x.i st (cur s x.i) = ⟨st, .go (.plain B)⟩ := by simp only [stepPart]; rw [hA, if_pos h45]
        rw [runs_go e h0, hw]
        by_cases h45' : cur s (x.i + 1) = (b.toNat : Int)
        · have hp' := cur_pos (s := s) (i := x.i + 1) (by omega)
          have hw' := wid_byte (s := s) (i := x.i + 1) (by omega) (by omega)
          have e2 : stepPart (.plain B) ((x.i + 1 : Nat) : Int) st (cur s (x.i + 1)) = ⟨st, .go K⟩ := by simp only [stepPart]; rw [hB, if_pos h45']
          rw [if_pos (hh.2 ⟨h45, h45'⟩), runs_go e2 (by omega), hw']
          exact Or.inl ⟨he, by show x.i ≤ x.i + 2; omega, by show x.i + 2 ≤ _; omega, rfl, rfl⟩
        · rw [if_neg (fun h => h45' (hh.1 h).2), if_pos h0]
          have e2 : runs g s (x.i + 1) (.plain B) st = runs g s (x.i + 1) (.plain A) st := runs_same (by simp only [stepPart]; rw [hB, if_neg h45']) rfl (fun _ => rfl)
          rw [e2]
          exact (ih { x with i := x.i + 1 } he (by show x.i + 1 ≤ _; omega) (by show _ < x.i + 1 + f; omega) ht).on (by omega)
      · rw [if_neg (fun h => h45 (hh.1 h).1), if_pos h0]
        have e : stepPart (.plain A) x.i st (cur s x.i) = ⟨st, .go (.plain A)⟩ := by simp only [stepPart]; rw [hA, if_neg h45, if_neg (by omega)]
        rw [runs_go e h0]
        exact (ih { x with i := x.i + wid s x.i } he (by show x.i + wid s x.i ≤ _; omega) (by show _ < x.i + wid s x.i + f; omega) ht).on (by omega)
    · rw [if_neg (fun h => by have := (hh.1 h).1; omega), if_neg h0, until_err _ _ _ _ _ (wrong_err x s he)]
      refine Alike.wrong he ?_
      have e : stepPart (.plain A) x.i st (cur s x.i) = ⟨st, .fail (Tk.why (cur s x.i)) x.i⟩ := by simp only [stepPart]; rw [hA, if_neg (by omega), if_pos (by omega)]
      rw [runs_fail e, ht]
theorem runs_remark (frm f : Nat) (x : Sc) (he : x.err = 0) (hi : x.i ≤ s.size) (hf : s.size + 1 < x.i + f) (ht : st.told = x.l) :
    Alike s x (untilF s ⟨#[45, 45]⟩ frm f x).1 (runs g s x.i (.plain .remark) st) (fun j => runs g s j (.word [62] .between) st) :=
  runs_two 45 45 .remark .dash _ (by decide) (fun _ _ => rfl) (fun _ _ => rfl) frm f x he hi hf ht
theorem runs_order (frm f : Nat) (x : Sc) (he : x.err = 0) (hi : x.i ≤ s.size) (hf : s.size + 1 < x.i + f) (ht : st.told = x.l) :
    Alike s x (untilF s ⟨#[63, 62]⟩ frm f x).1 (runs g s x.i (.plain .order) st) (fun j => runs g s j (.plain .between) st) :=
  runs_two 63 62 .order .mark _ (by decide) (fun _ _ => rfl) (fun _ _ => rfl) frm f x he hi hf ht
end Go.Proofs.YtfolnkmbdmfigaaGreatDoor

set_option linter.unusedSimpArgs false
set_option linter.unusedVariables false
namespace Go.Proofs.YtfolnkmbdmfigaaGreatDoor
open Go.RowKit Go.Lib
variable {g : St → List Tok} {s : ByteArray} {i : Nat} {pt pt' : Part} {st st' : St} {no q c : Int} {x y : Sc}
theorem setRun_self (st : St) (j : Rn) : st.setRun j (st.run j) (st.runAt j) = st := by
  unfold St.setRun
  congr 1
  · funext m; split
    · rename_i e; rw [e]
    · rfl
  · funext m; split
    · rename_i e; rw [e]
    · rfl
theorem setRun_twice (st : St) (j : Rn) (l l' : List UInt8) (a a' : Int) : (st.setRun j l a).setRun j l' a' = st.setRun j l' a' := by
  unfold St.setRun
  congr 1
  · funext m; simp only []; split <;> rfl
  · funext m; simp only []; split <;> rfl
def St.upto (st : St) (s : ByteArray) (j : Rn) (frm k : Nat) : St := st.setRun j (st.run j ++ Ch.bytes s frm (k - frm)) (if st.run j = [] ∧ frm < k then (frm : Int) else st.runAt j)
theorem upto_self (st : St) (s : ByteArray) (j : Rn) (frm : Nat) : st.upto s j frm frm = st := by
  unfold St.upto
  rw [if_neg (by omega)]
  have : Ch.bytes s frm (frm - frm) = [] := by unfold Ch.bytes; simp
  rw [this, List.append_nil, setRun_self]
theorem bytes_ne (s : ByteArray) {i n : Nat} (h : i + n ≤ s.size) (hn : 1 ≤ n) : Ch.bytes s i n ≠ [] := by
  intro e
  have := congrArg List.length e
  unfold Ch.bytes at this
  have hz : s.data.toList.length = s.size := by simp
  rw [List.length_take, List.length_drop, hz] at this
  simp at this; omega
theorem upto_put (st : St) (s : ByteArray) (j : Rn) (frm k : Nat) (hk : frm ≤ k) (h : 0 ≤ cur s k) : (st.upto s j frm k).put j (cur s k) k = st.upto s j frm (k + wid s k) := by
  have hc := cur_pos h
  unfold St.put
  rw [enc_cur h]
  unfold St.upto
  rw [setRun_twice]
  simp only [St.setRun, if_true]
  rw [List.append_assoc]
  have hb : Ch.bytes s frm (k - frm) ++ Ch.bytes s k (wid s k) = Ch.bytes s frm (k + wid s k - frm) := by
    have := bytes_add s frm (k - frm) (wid s k)
    rw [show frm + (k - frm) = k by omega] at this
    rw [this]; congr 1; omega
  rw [hb]
  congr 1
  funext m
  split
  · by_cases h0 : st.run j = []
    · rw [h0]
      by_cases hf : frm < k
      · have hne := bytes_ne s (i := frm) (n := k - frm) (by omega) (by omega)
        rw [if_neg (by simpa using hne), if_pos ⟨rfl, hf⟩, if_pos ⟨rfl, by omega⟩]
      · have e : frm = k := by omega
        subst e
        have : Ch.bytes s frm (frm - frm) = [] := by unfold Ch.bytes; simp
        rw [this, if_pos (by simp), if_pos ⟨rfl, by omega⟩]
    · rw [if_neg (by simp [h0]), if_neg (fun e => h0 e.1), if_neg (fun e => h0 e.1)]
  · rfl
theorem upto_told (st : St) (s : ByteArray) (j : Rn) (frm k : Nat) : (st.upto s j frm k).told = st.told := rfl
theorem has_three {a b d : UInt8} (hp : Plain [a, b, d]) (i : Nat) : Ch.has s i [a, b, d] = true ↔ cur s i = (a.toNat : Int) ∧ cur s (i + 1) = (b.toNat : Int) ∧ cur s (i + 2) = (d.toNat : Int) := by
  rw [has_cur hp]
  constructor
  · intro h; exact ⟨h 0 (by simp), h 1 (by simp), h 2 (by simp)⟩
  · rintro ⟨h1, h2, h3⟩ k hk
    match k, hk with
    | 0, _ => exact h1
    | 1, _ => exact h2
    | 2, _ => exact h3
theorem runs_section (frm : Nat) : ∀ (f : Nat) (x : Sc), x.err = 0 → x.i ≤ s.size → frm ≤ x.i → s.size + 1 < x.i + f → st.told = x.l →
    Alike s x (untilF s ⟨#[93, 93, 62]⟩ frm f x).1 (runs g s x.i (.plain .section_) (st.upto s .text frm x.i)) (fun j => runs g s j (.plain .between) (st.upto s .text frm (j - 3))) := by
  intro f
  induction f with
  | zero => intro x he hi hg hf; omega
  | succ f ih =>
    intro x he hi hg hf ht
    rw [until_step _ _ _ _ _ he (by show 3 ≠ 0; decide)]
    have hh : Ch.has s x.i [93, 93, 62] = true ↔ cur s x.i = 93 ∧ cur s (x.i + 1) = 93 ∧ cur s (x.i + 2) = 62 := has_three (s := s) (by decide) x.i
    by_cases h0 : 0 ≤ cur s x.i
    · have hp := cur_pos h0
      by_cases h1 : cur s x.i = 93
      · have hw := wid_byte h0 (by omega)
        have e : stepPart (.plain .section_) x.i (st.upto s .text frm x.i) (cur s x.i) = ⟨st.upto s .text frm x.i, .go (.plain .bracket)⟩ := by simp only [stepPart, step, stSection]; rw [if_pos h1]
        have hput := upto_put st s .text frm x.i hg h0
        rw [hw, h1] at hput
        rw [runs_go e h0]
        have key : ¬ (cur s (x.i + 1) = 93 ∧ cur s (x.i + 2) = 62) → runs g s (x.i + wid s x.i) (.plain .bracket) (st.upto s .text frm x.i) = runs g s (x.i + 1) (.plain .section_) (st.upto s .text frm (x.i + 1)) := by
          intro hno
          rw [hw]
          by_cases h2 : cur s (x.i + 1) = 93
          · have hw2 := wid_byte (s := s) (i := x.i + 1) (by omega) (by omega)
            have e2 : stepPart (.plain .bracket) ((x.i + 1 : Nat) : Int) (st.upto s .text frm x.i) (cur s (x.i + 1)) = ⟨st.upto s .text frm x.i, .go (.plain .brackets)⟩ := by simp only [stepPart, step, stBracket]; rw [if_pos h2]
            have e3 : stepPart (.plain .section_) ((x.i + 1 : Nat) : Int) (st.upto s .text frm (x.i + 1)) (cur s (x.i + 1)) = ⟨st.upto s .text frm (x.i + 1), .go (.plain .bracket)⟩ := by simp only [stepPart, step, stSection]; rw [if_pos h2]
            rw [runs_go e2 (by omega), runs_go e3 (by omega), hw2]
            have h3 : ¬ cur s (x.i + 2) = 62 := fun e => hno ⟨h2, e⟩
            refine runs_same ?_ rfl (fun ⟨o, h⟩ => by cases plain_stop h)
            simp only [stepPart, step]
            rw [show x.i + 1 + 1 = x.i + 2 by omega, if_neg h3, show ((x.i + 2 : Nat) : Int) - 2 = (x.i : Int) by omega, hput]
          · refine runs_same ?_ rfl (fun ⟨o, h⟩ => by cases plain_stop h)
            simp only [stepPart, step, stBracket]
            rw [if_neg h2, show ((x.i + 1 : Nat) : Int) - 1 = (x.i : Int) by omega, hput]
        by_cases hs : cur s (x.i + 1) = 93 ∧ cur s (x.i + 2) = 62
        · rw [if_pos (hh.2 ⟨h1, hs⟩)]
          have hw2 := wid_byte (s := s) (i := x.i + 1) (by omega) (by omega)
          have hw3 := wid_byte (s := s) (i := x.i + 2) (by omega) (by omega)
          have hp3 := cur_pos (s := s) (i := x.i + 2) (by omega)
          have e2 : stepPart (.plain .bracket) ((x.i + 1 : Nat) : Int) (st.upto s .text frm x.i) (cur s (x.i + 1)) = ⟨st.upto s .text frm x.i, .go (.plain .brackets)⟩ := by simp only [stepPart, step, stBracket]; rw [if_pos hs.1]
          have e3 : stepPart (.plain .brackets) ((x.i + 1 + 1 : Nat) : Int) (st.upto s .text frm x.i) (cur s (x.i + 1 + 1)) = ⟨st.upto s .text frm x.i, .go (.plain .between)⟩ := by simp only [stepPart, step]; rw [if_pos hs.2]
          rw [hw, runs_go e2 (by omega), hw2, runs_go e3 (by show 0 ≤ cur s (x.i + 2); omega)]
          refine Or.inl ⟨he, by show x.i ≤ x.i + 3; omega, by show x.i + 3 ≤ _; omega, rfl, ?_⟩
          show _ = runs g s (x.i + 3) _ (st.upto s .text frm (x.i + 3 - 3))
          rw [show x.i + 3 - 3 = x.i by omega, show x.i + 1 + 1 + wid s (x.i + 1 + 1) = x.i + 3 by have : wid s (x.i + 1 + 1) = wid s (x.i + 2) := rfl; omega]
        · rw [if_neg (fun h => hs (hh.1 h).2), if_pos h0, key hs, hw]
          exact (ih { x with i := x.i + 1 } he (by show x.i + 1 ≤ _; omega) (by show frm ≤ x.i + 1; omega) (by show _ < x.i + 1 + f; omega) ht).on (by omega)
      · rw [if_neg (fun h => h1 (hh.1 h).1), if_pos h0]
        have e : stepPart (.plain .section_) x.i (st.upto s .text frm x.i) (cur s x.i) = ⟨st.upto s .text frm (x.i + wid s x.i), .go (.plain .section_)⟩ := by simp only [stepPart, step, stSection]; rw [if_neg h1, if_neg (by omega), upto_put st s .text frm x.i hg h0]
        rw [runs_go e h0]
        exact (ih { x with i := x.i + wid s x.i } he (by show x.i + wid s x.i ≤ _; omega) (by show frm ≤ x.i + wid s x.i; omega) (by show _ < x.i + wid s x.i + f; omega) ht).on (by omega)
    · rw [if_neg (fun h => by have := (hh.1 h).1; omega), if_neg h0, until_err _ _ _ _ _ (wrong_err x s he)]
      refine Alike.wrong he ?_
      have e : stepPart (.plain .section_) x.i (st.upto s .text frm x.i) (cur s x.i) = ⟨st.upto s .text frm x.i, .fail (Tk.why (cur s x.i)) x.i⟩ := by simp only [stepPart, step, stSection]; rw [if_neg (by omega), if_pos (by omega)]
      rw [runs_fail e, upto_told, ht]
theorem until_text (s t : ByteArray) (hz : t.size ≠ 0) (frm : Nat) : ∀ (f : Nat) (x : Sc), x.err = 0 → (untilF s t frm f x).1.err = 0 → s.size + 1 < x.i + f → x.i ≤ s.size → (untilF s t frm f x).2 = s.extract frm ((untilF s t frm f x).1.i - t.size) ∧ x.i + t.size ≤ (untilF s t frm f x).1.i := by
  intro f
  induction f with
  | zero => intro x he h1 h2; omega
  | succ f ih =>
    intro x he h1 h2 hi
    rw [until_step _ _ _ _ _ he hz] at h1 ⊢
    split
    · simp
    · rename_i hn
      rw [if_neg hn] at h1
      split
      · rename_i h0
        rw [if_pos h0] at h1
        have hp := cur_pos h0
        have := ih { x with i := x.i + wid s x.i } he h1 (by show _ < x.i + wid s x.i + f; omega) (by show x.i + wid s x.i ≤ _; omega)
        refine ⟨this.1, ?_⟩
        have h3 : x.i + wid s x.i + t.size ≤ _ := this.2
        omega
      · rename_i h0
        rw [if_neg h0, until_err _ _ _ _ _ (wrong_err x s he)] at h1
        exact absurd h1 (wrong_err x s he)
end Go.Proofs.YtfolnkmbdmfigaaGreatDoor

set_option linter.unusedSimpArgs false
set_option linter.unusedVariables false
namespace Go.Proofs.YtfolnkmbdmfigaaGreatDoor
open Go.RowKit Go.Lib

def inside (c : Int) : Prop := Tk.inRef c = true ∧ c ≠ 59
instance (c : Int) : Decidable (inside c) := by unfold inside; infer_instance
namespace Ch
theorem dig_inside {b r : Int} (hb : b ≤ 16) (h : ¬ b ≤ dig 16 r) : inside r := by
  have hd : (48 ≤ r ∧ r ≤ 57) ∨ (97 ≤ r ∧ r ≤ 102) ∨ (65 ≤ r ∧ r ≤ 70) := by
    unfold dig at h
    split at h
    · left; assumption
    · split at h
      · right; left; assumption
      · split at h
        · right; right; assumption
        · omega
  refine ⟨?_, by omega⟩
  unfold Tk.inRef
  simp only [Bool.or_eq_true, Bool.and_eq_true, beq_iff_eq, decide_eq_true_eq, begins_iff, goesOn_iff]
  omega
theorem num_shape (u : ByteArray) (b : Int) (hb : b ≤ 16) : ∀ f pos n, (numFrom u b f pos n).2 ≠ 0 →
    ∃ e : Nat, (numFrom u b f pos n).2 = (e : Int) + 1 ∧ pos ≤ e ∧ bz u e = 59 ∧ ∀ j, pos ≤ j → j < e → inside (bz u j) := by
  intro f
  induction f with
  | zero => intro pos n h; exact absurd rfl h
  | succ f ih =>
    intro pos n
    rw [numFrom.eq_2]
    split
    · rename_i h59
      split
      · intro _; exact ⟨pos, rfl, Nat.le_refl _, h59, fun j h1 h2 => by omega⟩
      · intro h; exact absurd rfl h
    · split
      · intro h; exact absurd rfl h
      · rename_i hd
        intro h
        obtain ⟨e, h1, h2, h3, h4⟩ := ih (pos + 1) _ h
        refine ⟨e, h1, by omega, h3, fun j hj1 hj2 => ?_⟩
        by_cases e : j = pos
        · subst e; exact dig_inside hb hd
        · exact h4 j (by omega) hj2
theorem num_same (u v : ByteArray) (b : Int) (hb : b ≤ 16) : ∀ (f g pos : Nat) (n : Int), (numFrom u b f pos n).2 ≠ 0 → (∀ j : Nat, pos ≤ j → (j : Int) < (numFrom u b f pos n).2 → bz v j = bz u j) → v.size < pos + g →
    numFrom v b g pos n = numFrom u b f pos n := by
  intro f
  induction f with
  | zero => intro g pos n h; exact absurd rfl h
  | succ f ih =>
    intro g pos n h hs hg
    have hlt : (pos : Int) < (numFrom u b (f + 1) pos n).2 := by
      rcases numFrom_may u b (f + 1) pos n with e | ⟨_, h1, _⟩
      · rw [e] at h; exact absurd rfl h
      · omega
    have h0 : bz v pos = bz u pos := hs pos (Nat.le_refl _) hlt
    rw [numFrom.eq_2] at h hs ⊢
    have hg1 : g ≠ 0 := by
      intro e
      subst e
      have : bz v pos = -1 := by unfold bz; rw [if_neg (by omega)]
      rw [this] at h0
      have hx : dig 16 (bz u pos) = 16 := dig_end _ (by omega)
      rw [if_neg (by omega), if_pos (by omega)] at h
      exact absurd rfl h
    obtain ⟨g, rfl⟩ : ∃ k, g = k + 1 := ⟨g - 1, by omega⟩
    rw [numFrom.eq_2 v, h0]
    split
    · rfl
    · rename_i h59
      rw [if_neg h59] at h hs
      split
      · rfl
      · rename_i hx
        rw [if_neg hx] at h hs
        exact ih g (pos + 1) _ h (fun j h1 h2 => hs j (by omega) h2) (by omega)
theorem numAt_same (u v : ByteArray) (p : Nat) (b : Int) (hb : b ≤ 16) (h : (numAt u p b).2 ≠ 0) (hs : ∀ j : Nat, p ≤ j → (j : Int) < p + (numAt u p b).2 → bz v j = bz u j) : numAt v p b = numAt u p b := by
  unfold numAt at h hs ⊢
  split at h
  · exact absurd rfl h
  · rename_i hz
    rw [if_neg hz] at hs ⊢
    have e := num_same u v b hb _ (v.size - p + 1) p 0 hz (fun j h1 h2 => hs j h1 (by simp only; omega)) (by omega)
    rw [e, if_neg hz]
theorem numAt_shape {s : ByteArray} {p : Nat} {b : Int} (hb : b ≤ 16) (h : (numAt s p b).2 ≠ 0) : ∃ e : Nat, (p : Int) + (numAt s p b).2 = (e : Int) + 1 ∧ p ≤ e ∧ bz s e = 59 ∧ ∀ j, p ≤ j → j < e → inside (bz s j) := by
  unfold numAt at *
  split at h
  · exact absurd rfl h
  · rename_i hz
    rw [if_neg hz]
    obtain ⟨e, h1, h2⟩ := num_shape s b hb _ _ _ hz
    exact ⟨e, by simp only; omega, h2⟩
theorem refAt_shape {s : ByteArray} {i : Nat} (h : (refAt s i).2 ≠ 0) : ∃ e : Nat, (i : Int) + (refAt s i).2 = (e : Int) + 1 ∧ i < e ∧ bz s e = 59 ∧ ∀ j, i < j → j < e → inside (bz s j) := by
  have key : ∀ (l : List UInt8) (m : Nat), l.length = m + 1 → has s i l = true → 1 ≤ m → l[m]? = some 59 → (∀ k, 1 ≤ k → k < m → ∀ c, l[k]? = some c → inside (c.toNat : Int)) → ∃ e : Nat, (i : Int) + (l.length : Int) = (e : Int) + 1 ∧ i < e ∧ bz s e = 59 ∧ ∀ j, i < j → j < e → inside (bz s j) := by
    intro l m hl hh hm h59 hin
    have hb := has_bz s l i hh
    refine ⟨i + m, by omega, by omega, ?_, ?_⟩
    · have := hb m (by omega)
      rw [List.getElem?_eq_getElem (by omega)] at h59
      cases h59' : l[m]
      simp_all
    · intro j h1 h2
      have := hb (j - i) (by omega)
      rw [show i + (j - i) = j by omega] at this
      rw [this]
      exact hin (j - i) (by omega) (by omega) _ (List.getElem?_eq_getElem (by omega))
  have numK : ∀ (k : Nat) (b : Int) (l : List UInt8), 2 ≤ k → b ≤ 16 → l.length = k → has s i l = true → (∀ j, 1 ≤ j → j < k → ∀ c, l[j]? = some c → inside (c.toNat : Int)) → (numAt s (i + k) b).2 ≠ 0 → ∃ e : Nat, (i : Int) + ((k : Int) + (numAt s (i + k) b).2) = (e : Int) + 1 ∧ i < e ∧ bz s e = 59 ∧ ∀ j, i < j → j < e → inside (bz s j) := by
    intro k b l hk hb hl hh hin hn
    obtain ⟨e, h1, h2, h3, h4⟩ := numAt_shape hb hn
    have hz := has_bz s l i hh
    refine ⟨e, by omega, by omega, h3, fun j hj1 hj2 => ?_⟩
    by_cases hj : i + k ≤ j
    · exact h4 j hj hj2
    · have := hz (j - i) (by omega)
      rw [show i + (j - i) = j by omega] at this
      rw [this]
      exact hin (j - i) (by omega) (by omega) _ (List.getElem?_eq_getElem (by omega))
  unfold refAt at h ⊢
  split
  · rename_i hh
    exact key _ 3 rfl hh (by decide) rfl (by intro k h1 h2 c hc; have : k = 1 ∨ k = 2 := by omega
                                             rcases this with rfl | rfl <;> (simp at hc; subst hc; decide))
  rename_i n1
  rw [if_neg n1] at h
  split
  · rename_i hh
    exact key _ 3 rfl hh (by decide) rfl (by intro k h1 h2 c hc; have : k = 1 ∨ k = 2 := by omega
                                             rcases this with rfl | rfl <;> (simp at hc; subst hc; decide))
  rename_i n2
  rw [if_neg n2] at h
  split
  · rename_i hh
    exact key _ 4 rfl hh (by decide) rfl (by intro k h1 h2 c hc; have : k = 1 ∨ k = 2 ∨ k = 3 := by omega
                                             rcases this with rfl | rfl | rfl <;> (simp at hc; subst hc; decide))
  rename_i n3
  rw [if_neg n3] at h
  split
  · rename_i hh
    exact key _ 5 rfl hh (by decide) rfl (by intro k h1 h2 c hc; have : k = 1 ∨ k = 2 ∨ k = 3 ∨ k = 4 := by omega
                                             rcases this with rfl | rfl | rfl | rfl <;> (simp at hc; subst hc; decide))
  rename_i n4
  rw [if_neg n4] at h
  split
  · rename_i hh
    exact key _ 5 rfl hh (by decide) rfl (by intro k h1 h2 c hc; have : k = 1 ∨ k = 2 ∨ k = 3 ∨ k = 4 := by omega
                                             rcases this with rfl | rfl | rfl | rfl <;> (simp at hc; subst hc; decide))
  rename_i n5
  rw [if_neg n5] at h
  split
  · rename_i hh
    rw [if_pos hh] at h
    split at h
    · exact absurd rfl h
    · rename_i hn
      rw [if_neg hn]
      exact numK 3 16 _ (by decide) (by decide) rfl hh (by intro k h1 h2 c hc; have : k = 1 ∨ k = 2 := by omega
                                                           rcases this with rfl | rfl <;> (simp at hc; subst hc; decide)) hn
  rename_i n6
  rw [if_neg n6] at h
  split
  · rename_i hh
    rw [if_pos hh] at h
    split at h
    · exact absurd rfl h
    · rename_i hn
      rw [if_neg hn]
      exact numK 2 10 _ (by decide) (by decide) rfl hh (by intro k h1 h2 c hc; have : k = 1 := by omega
                                                           subst this; simp at hc; subst hc; decide) hn
  · rename_i n7
    rw [if_neg n7] at h; exact absurd rfl h
theorem has_of {s : ByteArray} {l : List UInt8} {i : Nat} : has s i l = true ↔ ∀ k (h : k < l.length), bz s (i + k) = ((l[k]).toNat : Int) := by
  refine ⟨has_bz s l i, ?_⟩
  induction l generalizing i with
  | nil => intro _; rfl
  | cons c l ih =>
    intro h
    simp only [has, Bool.and_eq_true, beq_iff_eq]
    refine ⟨h 0 (by simp), ih fun k hk => ?_⟩
    have := h (k + 1) (by simpa using hk)
    simpa [Nat.add_assoc, Nat.add_comm 1 k] using this
theorem has_same {u v : ByteArray} {l : List UInt8} {n : Nat} (hl : l.length ≤ n) (hs : ∀ j : Nat, j < n → bz v j = bz u j) : has v 0 l = has u 0 l := by
  rw [Bool.eq_iff_iff, has_of, has_of]
  constructor
  · intro h k hk; rw [← hs (0 + k) (by omega)]; exact h k hk
  · intro h k hk; rw [hs (0 + k) (by omega)]; exact h k hk
theorem has_not {s : ByteArray} {i : Nat} {l : List UInt8} (k : Nat) (hk : k < l.length) (h : bz s (i + k) ≠ ((l[k]).toNat : Int)) : ¬ has s i l = true := fun e => h (has_bz s l i e k hk)
theorem refAt_same {u v : ByteArray} (h : (refAt u 0).2 ≠ 0) (hs : ∀ j : Nat, (j : Int) < (refAt u 0).2 → bz v j = bz u j) : refAt v 0 = refAt u 0 := by
  have h4 := (refAt_spec h).2.1
  have s0 := hs 0 (by omega)
  have s1 := hs 1 (by omega)
  have s2 := hs 2 (by omega)
  have s3 := hs 3 (by omega)
  have q : ∀ l : List UInt8, l.length ≤ 4 → has v 0 l = has u 0 l := fun l hl => has_same (n := 4) hl (fun j hj => hs j (by omega))
  have hq1 := q [38, 108, 116, 59] (by decide)
  have hq2 := q [38, 103, 116, 59] (by decide)
  have hq6 := q [38, 35, 120] (by decide)
  have hq7 := q [38, 35] (by decide)
  unfold refAt at h hs ⊢
  rw [hq1, hq2, hq6, hq7]
  by_cases n1 : has u 0 [38, 108, 116, 59] = true
  · rw [if_pos n1, if_pos n1]
  rw [if_neg n1] at h hs ⊢
  rw [if_neg n1]
  by_cases n2 : has u 0 [38, 103, 116, 59] = true
  · rw [if_pos n2, if_pos n2]
  rw [if_neg n2] at h hs ⊢
  rw [if_neg n2]
  have other : ∀ (l : List UInt8) (c : UInt8), l[1]? = some c → bz u 1 ≠ (c.toNat : Int) → ¬ has v 0 l = true := by
    intro l c hc hne
    have hk : 1 < l.length := by
      by_cases hk : 1 < l.length
      · exact hk
      · rw [List.getElem?_eq_none (by omega)] at hc; cases hc
    refine has_not 1 hk ?_
    rw [List.getElem?_eq_getElem hk] at hc
    cases hc
    rw [Nat.zero_add, s1]; exact hne
  by_cases n3 : has u 0 [38, 97, 109, 112, 59] = true
  · rw [if_pos n3] at hs ⊢
    have e3 : has v 0 [38, 97, 109, 112, 59] = true := (has_same (n := 5) (by decide) (fun j hj => hs j (by simp only; omega))).trans n3
    rw [if_pos e3]
  rw [if_neg n3] at h hs ⊢
  by_cases n4 : has u 0 [38, 113, 117, 111, 116, 59] = true
  · have hb := has_bz u _ 0 n4 1 (by decide)
    rw [if_pos n4] at hs ⊢
    have e4 : has v 0 [38, 113, 117, 111, 116, 59] = true := (has_same (n := 6) (by decide) (fun j hj => hs j (by simp only; omega))).trans n4
    rw [if_neg (other _ 97 rfl (by rw [Nat.zero_add] at hb; rw [hb]; decide)), if_pos e4]
  rw [if_neg n4] at h hs ⊢
  by_cases n5 : has u 0 [38, 97, 112, 111, 115, 59] = true
  · have hb := has_bz u _ 0 n5 1 (by decide)
    have hb2 := has_bz u _ 0 n5 2 (by decide)
    rw [if_pos n5] at hs ⊢
    have e5 : has v 0 [38, 97, 112, 111, 115, 59] = true := (has_same (n := 6) (by decide) (fun j hj => hs j (by simp only; omega))).trans n5
    have x3 : ¬ has v 0 [38, 97, 109, 112, 59] = true := has_not 2 (by decide) (by rw [Nat.zero_add, s2]; rw [Nat.zero_add] at hb2; rw [hb2]; decide)
    rw [if_neg x3, if_neg (other _ 113 rfl (by rw [Nat.zero_add] at hb; rw [hb]; decide)), if_pos e5]
  rw [if_neg n5] at h hs ⊢
  by_cases n6 : has u 0 [38, 35, 120] = true
  · have hb := has_bz u _ 0 n6 1 (by decide)
    rw [Nat.zero_add] at hb
    have hb' : bz u 1 = 35 := hb
    rw [if_pos n6] at h hs ⊢
    rw [if_neg (other _ 97 rfl (by rw [hb']; decide)), if_neg (other _ 113 rfl (by rw [hb']; decide)), if_neg (other _ 97 rfl (by rw [hb']; decide)), if_pos n6]
    by_cases hz : (numAt u (0 + 3) 16).2 = 0
    · rw [if_pos hz] at h; exact absurd rfl h
    · rw [if_neg hz] at hs
      rw [numAt_same u v (0 + 3) 16 (by decide) hz (fun j h1 h2 => hs j (by simp only; omega))]
  rw [if_neg n6] at h hs ⊢
  by_cases n7 : has u 0 [38, 35] = true
  · have hb := has_bz u _ 0 n7 1 (by decide)
    rw [Nat.zero_add] at hb
    have hb' : bz u 1 = 35 := hb
    rw [if_pos n7] at h hs ⊢
    rw [if_neg (other _ 97 rfl (by rw [hb']; decide)), if_neg (other _ 113 rfl (by rw [hb']; decide)), if_neg (other _ 97 rfl (by rw [hb']; decide)), if_neg n6, if_pos n7]
    by_cases hz : (numAt u (0 + 2) 10).2 = 0
    · rw [if_pos hz] at h; exact absurd rfl h
    · rw [if_neg hz] at hs
      rw [numAt_same u v (0 + 2) 10 (by decide) hz (fun j h1 h2 => hs j (by simp only; omega))]
  · rw [if_neg n7] at h; exact absurd rfl h
end Ch
end Go.Proofs.YtfolnkmbdmfigaaGreatDoor

set_option linter.unusedSimpArgs false
set_option linter.unusedVariables false
namespace Go.Proofs.YtfolnkmbdmfigaaGreatDoor
open Go.RowKit Go.Lib
variable {g : St → List Tok} {s : ByteArray} {i : Nat} {pt pt' : Part} {st st' : St} {no q c : Int} {x y : Sc}
theorem inside_range {c : Int} (h : inside c) : 35 ≤ c ∧ c < 128 := by
  obtain ⟨h, _⟩ := h
  have := inRef_pos h
  simp only [Tk.inRef, Bool.or_eq_true, Bool.and_eq_true, beq_iff_eq, decide_eq_true_eq, Ch.begins_iff, Ch.goesOn_iff] at h
  omega
theorem cur_bz {c : Int} (h0 : 32 ≤ c) (h1 : c < 128) : cur s i = c ↔ Ch.bz s i = c := by
  have := cur_byte (s := s) (i := i) (c := c.toNat) (by omega)
  rw [show ((c.toNat : Nat) : Int) = c by omega] at this
  rw [this]
  unfold Ch.bz
  split
  · rename_i h; simp only [h, true_and]; omega
  · rename_i h; simp only [h, false_and, false_iff]; omega
theorem bz_piece (s : ByteArray) (i n k : Nat) (h : i + n ≤ s.size) (hk : k < n) : Ch.bz (Ch.txt (Ch.bytes s i n)) k = Ch.bz s (i + k) := by
  rw [Ch.bz_txt]
  unfold Ch.bytes
  rw [List.getElem?_take_of_lt hk, List.getElem?_drop]
  have hz : s.data.toList.length = s.size := by simp
  rw [List.getElem?_eq_getElem (by omega)]
  unfold Ch.bz
  rw [if_pos (by omega)]
  have hd : i + k < s.data.size := by have : s.data.size = s.size := rfl; omega
  have hg : s.get! (i + k) = s.data[i + k] := getElem!_pos s.data (i + k) hd
  rw [hg]
  simp
theorem size_piece (s : ByteArray) (i n : Nat) (h : i + n ≤ s.size) : (Ch.txt (Ch.bytes s i n)).size = n := by
  rw [Ch.txt_size]; unfold Ch.bytes
  have hz : s.data.toList.length = s.size := by simp
  rw [List.length_take, List.length_drop]; omega
theorem unesc_piece (s : ByteArray) (i p : Nat) (h38 : Ch.bz s i = 38) (hp : i < p) (h59 : Ch.bz s p = 59) (hps : p < s.size) (hin : ∀ m, i < m → m < p → inside (Ch.bz s m)) :
    ((Ch.refAt s i).2 ≠ 0 → (Ch.refAt s i).2 = (p + 1 - i : Nat) ∧ Ch.unesc (Ch.txt (Ch.bytes s i (p + 1 - i))) = (Lib.encodeRune (Ch.refAt s i).1, 0, 0)) ∧ ((Ch.refAt s i).2 = 0 → (Ch.unesc (Ch.txt (Ch.bytes s i (p + 1 - i)))).2.1 ≠ 0) := by
  have hsz := size_piece s i (p + 1 - i) (by omega)
  have hbz := fun k hk => bz_piece s i (p + 1 - i) k (by omega) hk
  generalize hv : Ch.txt (Ch.bytes s i (p + 1 - i)) = v at *
  have ht : ∀ k, k < p + 1 - i → Ch.bz (Ch.tail s i) k = Ch.bz v k := fun k hk => by rw [Ch.tail_bz, hbz k hk]
  have v38 : Ch.bz v 0 = 38 := by rw [hbz 0 (by omega)]; exact h38
  have hok : Ch.okAt v 0 = true := by
    have hd := Ch.decode_one (s := v) (i := 0) (by omega) (by omega)
    unfold Ch.okAt; rw [hd, v38]; decide
  constructor
  · intro hn
    obtain ⟨e, h1, h2, h3, h4⟩ := Ch.refAt_shape hn
    have he : e = p := by
      rcases Nat.lt_trichotomy e p with hlt | rfl | hgt
      · exact absurd h3 (hin e h2 hlt).2
      · rfl
      · exact absurd h59 (h4 p hp hgt).2
    subst he
    have hlen : (Ch.refAt s i).2 = (e + 1 - i : Nat) := by omega
    refine ⟨hlen, ?_⟩
    have hr : Ch.refAt v 0 = Ch.refAt s i := by
      have h5 : Ch.refAt (Ch.tail s i) 0 = Ch.refAt s i := Ch.refAt_tail s i
      rw [← h5]
      rw [← h5] at hn hlen
      exact Ch.refAt_same hn (fun j hj => (ht j (by omega)).symm)
    unfold Ch.unesc
    have hstep := Ch.unesc_ref (s := v) (f := v.size) (pos := 0) (acc := []) (by omega) hok v38 (by rw [hr]; exact hn) rfl
    rw [← hstep, hr, hlen]
    rw [hsz]
    obtain ⟨g, hg⟩ : ∃ g, e + 1 - i = g + 1 := ⟨e - i, by omega⟩
    rw [hg]
    have hend := Ch.unesc_end (s := v) (f := g) (pos := 0 + ((g + 1 : Nat) : Int).toNat) (acc := [] ++ Lib.encodeRune (Ch.refAt s i).1) (by rw [hsz]; simp; omega) rfl
    rw [hend]; simp
  · intro hn
    have hr : (Ch.refAt v 0).2 = 0 := by
      by_cases h5 : (Ch.refAt v 0).2 = 0
      · exact h5
      · exfalso
        have hsp := Ch.refAt_spec h5
        have := Ch.refAt_same (u := v) (v := Ch.tail s i) h5 (fun j hj => ht j (by omega))
        rw [Ch.refAt_tail] at this
        rw [this] at hn
        exact h5 hn
    unfold Ch.unesc
    have := Ch.unesc_noref (s := v) (f := v.size) (pos := 0) (acc := []) (by omega) hok v38 hr rfl
    rw [this]; simp
theorem putAll_one (st : St) (j : Rn) (q : Int) (hm : Ch.may c = true) : st.putAll j ⟨(Lib.encodeRune c).toArray⟩ q = st.put j c q := by
  have hv := Ch.valid_of_may hm
  have hd := Ch.dec_enc hv []
  rw [List.append_nil] at hd
  have hz : (⟨(Lib.encodeRune c).toArray⟩ : ByteArray).size = (Lib.encodeRune c).length := Ch.txt_size _
  have hp := Ch.enc_pos c
  have hd' : Utf8.decode ⟨(Lib.encodeRune c).toArray⟩ 0 = (c.toNat, (Lib.encodeRune c).length) := hd
  have h0 : 0 ≤ c := by have := (Ch.may_iff c).1 hm; omega
  unfold St.putAll
  obtain ⟨g, hg⟩ : ∃ g, (⟨(Lib.encodeRune c).toArray⟩ : ByteArray).size = g + 1 := ⟨_, (by omega : _ = ((⟨(Lib.encodeRune c).toArray⟩ : ByteArray).size - 1) + 1)⟩
  rw [hg]
  simp only [putFrom, hd', hg]
  rw [if_pos (by omega), if_neg (by omega), show ((c.toNat : Nat) : Int) = c by omega]
def refTo (g : St → List Tok) (s : ByteArray) (i : Nat) (j : Rn) (k : Pl) (st : St) : List Tok × Int × Int :=
  if (Ch.refAt s i).2 = 0 then (st.told, 4, (i : Int)) else runs g s (i + (Ch.refAt s i).2.toNat) (.plain k) ((st.setRun .ref (Ch.bytes s i (Ch.refAt s i).2.toNat) i).put j (Ch.refAt s i).1 i)
theorem runs_refs (j : Rn) (k : Pl) (i : Nat) (st : St) (h38 : Ch.bz s i = 38) : ∀ (n p : Nat), s.size - p < n → i < p → p ≤ s.size → (∀ m, i < m → m < p → inside (Ch.bz s m)) →
    runs g s p (.ref j k) (st.setRun .ref (Ch.bytes s i (p - i)) i) = refTo g s i j k st := by
  intro n
  induction n with
  | zero => intro p h; omega
  | succ n ih =>
    intro p hn hp hps hin
    have hne := bytes_ne s (i := i) (n := p - i) (by omega) (by omega)
    have put : ∀ c : Int, 0 ≤ cur s p → cur s p = c → c < 128 → (st.setRun .ref (Ch.bytes s i (p - i)) i).put .ref c p = st.setRun .ref (Ch.bytes s i (p + 1 - i)) i := by
      intro c h0 hc h1
      subst hc
      have hw := wid_byte h0 h1
      unfold St.put
      rw [enc_cur h0, hw, setRun_twice]
      simp only [St.setRun, if_true]
      rw [if_neg (by simpa using hne)]
      have := bytes_add s i (p - i) 1
      rw [show i + (p - i) = p by omega, show p - i + 1 = p + 1 - i by omega] at this
      rw [this]
    by_cases hi : inside (cur s p)
    · have hr := inside_range hi
      have hc := cur_pos (s := s) (i := p) (by omega)
      have hw := wid_byte (s := s) (i := p) (by omega) hr.2
      have e : stepPart (.ref j k) p (st.setRun .ref (Ch.bytes s i (p - i)) i) (cur s p) = ⟨st.setRun .ref (Ch.bytes s i (p + 1 - i)) i, .go (.ref j k)⟩ := by
        simp only [stepPart, stRef]; rw [if_pos hi.1, if_neg hi.2, put _ (by omega) rfl hr.2]
      rw [runs_go e (by omega), hw]
      refine ih (p + 1) (by omega) (by omega) (by omega) fun m h1 h2 => ?_
      by_cases hm : m = p
      · subst hm; rw [(cur_bz (by omega) hr.2).1 rfl]; exact hi
      · exact hin m h1 (by omega)
    · by_cases h59 : cur s p = 59
      · have b59 := (cur_bz (by omega) (by omega)).1 h59
        have hc := cur_pos (s := s) (i := p) (by omega)
        have hw := wid_byte (s := s) (i := p) (by omega) (by omega)
        obtain ⟨u1, u2⟩ := unesc_piece s i p h38 hp b59 hc.1 hin
        have hrun : (st.setRun .ref (Ch.bytes s i (p + 1 - i)) i).run .ref = Ch.bytes s i (p + 1 - i) := by simp [St.setRun]
        have hat : (st.setRun .ref (Ch.bytes s i (p + 1 - i)) i).runAt .ref = (i : Int) := by simp [St.setRun]
        unfold refTo
        by_cases hz : (Ch.refAt s i).2 = 0
        · rw [if_pos hz]
          have e : stepPart (.ref j k) p (st.setRun .ref (Ch.bytes s i (p - i)) i) (cur s p) = ⟨st.setRun .ref (Ch.bytes s i (p + 1 - i)) i, .fail 4 i⟩ := by
            simp only [stepPart, stRef]; rw [if_pos (by rw [h59]; decide), if_pos h59, put 59 (by omega) h59 (by omega)]
            unfold stRefEnd
            rw [hrun, hat]
            have u2' : ¬ (Ch.unesc ⟨(Ch.bytes s i (p + 1 - i)).toArray⟩).2.1 = 0 := u2 hz
            rw [if_neg u2']
          rw [runs_fail e]; rfl
        · rw [if_neg hz]
          obtain ⟨v1, v2⟩ := u1 hz
          have hm := (Ch.refAt_spec hz).1
          have e : stepPart (.ref j k) p (st.setRun .ref (Ch.bytes s i (p - i)) i) (cur s p) = ⟨(st.setRun .ref (Ch.bytes s i (p + 1 - i)) i).put j (Ch.refAt s i).1 i, .go (.plain k)⟩ := by
            simp only [stepPart, stRef]; rw [if_pos (by rw [h59]; decide), if_pos h59, put 59 (by omega) h59 (by omega)]
            unfold stRefEnd
            rw [hrun, hat]
            have v2' : Ch.unesc ⟨(Ch.bytes s i (p + 1 - i)).toArray⟩ = (Lib.encodeRune (Ch.refAt s i).1, 0, 0) := v2
            rw [v2', if_pos rfl, putAll_one _ _ _ hm]
          rw [runs_go e (by omega), hw, v1]
          congr 1
          simp; omega
      · have hno : ¬ Tk.inRef (cur s p) = true := fun e => hi ⟨e, h59⟩
        have e : stepPart (.ref j k) p (st.setRun .ref (Ch.bytes s i (p - i)) i) (cur s p) = ⟨st.setRun .ref (Ch.bytes s i (p - i)) i, .fail 4 i⟩ := by
          simp only [stepPart, stRef]; rw [if_neg hno]; simp [St.setRun]
        have hz : (Ch.refAt s i).2 = 0 := by
          by_cases hz : (Ch.refAt s i).2 = 0
          · exact hz
          · exfalso
            obtain ⟨e, h1, h2, h3, h4⟩ := Ch.refAt_shape hz
            rcases Nat.lt_trichotomy e p with hlt | rfl | hgt
            · exact absurd h3 (hin e h2 hlt).2
            · exact h59 ((cur_bz (by omega) (by omega)).2 h3)
            · have hb := h4 p hp hgt
              have hr := inside_range hb
              rw [(cur_bz (c := Ch.bz s p) (by omega) hr.2).2 rfl] at hno
              exact hno hb.1
        unfold refTo
        rw [runs_fail e, if_pos hz]; rfl
theorem runs_ref (j : Rn) (k : Pl) (i : Nat) (st : St) (h38 : cur s i = 38) : runs g s (i + wid s i) (.ref j k) ((st.clear .ref).put .ref 38 i) = refTo g s i j k st := by
  have hc := cur_pos (s := s) (i := i) (by omega)
  have hw := wid_byte (s := s) (i := i) (by omega) (by omega)
  have e : (st.clear .ref).put .ref 38 i = st.setRun .ref (Ch.bytes s i (i + 1 - i)) i := by
    have h1 := enc_cur (s := s) (i := i) (by omega)
    rw [hw, h38] at h1
    unfold St.put St.clear
    rw [setRun_twice]
    simp only [St.setRun, if_true]
    rw [h1, show i + 1 - i = 1 by omega]; simp
  rw [e, hw]
  exact runs_refs j k i st ((cur_bz (by omega) (by omega)).1 h38) (s.size + 1) (i + 1) (by omega) (by omega) (by omega) (fun m h1 h2 => by omega)
theorem char_cur (he : x.err = 0) (bar : Nat) (hb : 32 ≤ bar ∧ bar < 128) : x.char s bar =
    if cur s x.i < 0 ∨ cur s x.i = 60 ∨ cur s x.i = (bar : Int) then (x.wrong s, ⟨#[]⟩)
    else if cur s x.i = 38 then (if (Ch.refAt s x.i).2 = 0 then (x.fail 4 x.i, ⟨#[]⟩) else ({ x with i := x.i + (Ch.refAt s x.i).2.toNat }, ⟨(Lib.encodeRune (Ch.refAt s x.i).1).toArray⟩))
    else ({ x with i := x.i + wid s x.i }, s.extract x.i (x.i + wid s x.i)) := by
  have b60 : cur s x.i = 60 ↔ x.i < s.size ∧ (s.get! x.i).toNat = 60 := cur_byte (s := s) (i := x.i) (c := 60) (by omega)
  have b38 : cur s x.i = 38 ↔ x.i < s.size ∧ (s.get! x.i).toNat = 38 := cur_byte (s := s) (i := x.i) (c := 38) (by omega)
  have bb := cur_byte (s := s) (i := x.i) (c := bar) (by omega)
  unfold Sc.char
  by_cases hi : x.i < s.size
  · simp only [hi, true_and] at b60 b38 bb
    rw [if_pos hi]
    by_cases h1' : (s.get! x.i).toNat = 60 ∨ (s.get! x.i).toNat = bar
    · rw [if_pos h1', if_pos (Or.inr (h1'.imp b60.2 bb.2))]
    · have h1 : ¬ (cur s x.i = 60 ∨ cur s x.i = (bar : Int)) := fun h => h1' (h.imp b60.1 bb.1)
      rw [if_neg h1']
      by_cases h2 : (s.get! x.i).toNat = 38
      · have h2' : cur s x.i = 38 := b38.2 h2
        have hneg : ¬ (cur s x.i < 0 ∨ cur s x.i = 60 ∨ cur s x.i = (bar : Int)) := by rintro (h | h); omega; exact h1 h
        rw [if_pos h2, if_neg hneg, if_pos h2']
        unfold refR
        by_cases hz : (Ch.refAt s x.i).2 = 0
        · rw [if_pos hz, if_pos hz]; rfl
        · have hsp := Ch.refAt_spec hz
          rw [if_neg hz, if_neg hz]
          rw [if_neg (by simp only; omega)]
          congr 2
          simp only; omega
      · have h2' : ¬ cur s x.i = 38 := fun h => h2 (b38.1 h)
        rw [if_neg h2]
        by_cases h0 : 0 ≤ cur s x.i
        · have hneg : ¬ (cur s x.i < 0 ∨ cur s x.i = 60 ∨ cur s x.i = (bar : Int)) := by rintro (h | h); omega; exact h1 h
          rw [if_neg (by rw [at2_zero]; simpa using h0), if_neg hneg, if_neg h2', at2_cur, if_pos h0]
          simp
        · rw [if_pos ((at2_zero _ _).2 h0), if_pos (Or.inl (by omega))]
          rcases cur_neg h0 with ⟨_, h5⟩ | ⟨h5, _⟩
          · rw [wrong_cur he, h5]; unfold Sc.fail; rw [if_pos he]; rfl
          · exact absurd hi h5
  · rw [if_neg hi, if_pos (Or.inl (by unfold cur; rw [if_neg hi]; decide))]
end Go.Proofs.YtfolnkmbdmfigaaGreatDoor

set_option linter.unusedSimpArgs false
set_option linter.unusedVariables false
namespace Go.Proofs.YtfolnkmbdmfigaaGreatDoor
open Go.RowKit Go.Lib
variable {g : St → List Tok} {s : ByteArray} {i : Nat} {pt pt' : Part} {st st' : St} {no q c : Int} {x y : Sc}

structure InTag (x : Sc) (st : St) : Prop where
  told : st.told = x.l
  text : st.run .text = x.more
  from_ : x.more ≠ [] → st.runAt .text = x.frm
theorem InTag.same (h : InTag x st) (h1 : st'.told = st.told) (h2 : st'.run .text = st.run .text) (h3 : st'.runAt .text = st.runAt .text) (h4 : y.l = x.l) (h5 : y.more = x.more) (h6 : y.frm = x.frm) : InTag y st' :=
  ⟨by rw [h1, h4]; exact h.told, by rw [h2, h5]; exact h.text, by rw [h3, h5, h6]; exact h.from_⟩
theorem over_value (st : St) (l r : List UInt8) (a b a' b' : Int) (l' : List UInt8) : (((st.setRun .value l a).setRun .ref r b).setRun .value l' b') = (st.setRun .ref r b).setRun .value l' b' := by
  unfold St.setRun
  congr 1 <;> (funext m; cases m <;> simp)
theorem over_both (st : St) (l r r' : List UInt8) (a b a' b' c : Int) (l' : List UInt8) : ((((st.setRun .ref r' c).setRun .value l a).setRun .ref r b).setRun .value l' b') = (st.setRun .ref r b).setRun .value l' b' := by
  unfold St.setRun
  congr 1 <;> (funext m; cases m <;> simp)
theorem runs_value (Q : Nat) (hQ : 32 ≤ Q ∧ Q < 128) (hne : Q ≠ 60 ∧ Q ≠ 38) : ∀ (f : Nat) (x : Sc) (t : List UInt8) (st : St), x.err = 0 → x.i ≤ s.size → s.size + 1 < x.i + f → st.told = x.l → st.quote = (Q : Int) → st.run .value = t →
    ((valF s Q f x t).1.err = 0 ∧ x.i ≤ (valF s Q f x t).1.i ∧ (valF s Q f x t).1.i + 1 ≤ s.size ∧ (valF s Q f x t).1 = { x with i := (valF s Q f x t).1.i } ∧
      ∃ r a b, runs g s x.i (.plain .valueP) st = runs g s ((valF s Q f x t).1.i + 1) (.plain .part) ((st.setRun .ref r a).setRun .value (valF s Q f x t).2 b).addAttr) ∨
    ((valF s Q f x t).1.err ≠ 0 ∧ (valF s Q f x t).1.l = x.l ∧ runs g s x.i (.plain .valueP) st = (x.l, (valF s Q f x t).1.err, (valF s Q f x t).1.at_)) := by
  intro f
  induction f with
  | zero => intro x t st he hi hf; omega
  | succ f ih =>
    intro x t st he hi hf ht hq hv
    have iq : x.is s Q = decide (cur s x.i = (Q : Int)) := is_cur' he (by omega)
    simp only [valF, iq]
    by_cases hc : cur s x.i = (Q : Int)
    · rw [if_neg (by simp [hc])]
      have h0 : 0 ≤ cur s x.i := by omega
      have hp := cur_pos h0
      have hw := wid_byte h0 (by omega)
      have e : stepPart (.plain .valueP) x.i st (cur s x.i) = ⟨st.addAttr, .go (.plain .part)⟩ := by simp only [stepPart, step]; rw [hq, if_pos hc]
      refine Or.inl ⟨he, Nat.le_refl _, by show x.i + 1 ≤ _; omega, rfl, st.run .ref, st.runAt .ref, st.runAt .value, ?_⟩
      rw [runs_go e h0, hw, setRun_self]
      show _ = runs g s (x.i + 1) _ (st.setRun .value t (st.runAt .value)).addAttr
      rw [← hv, setRun_self]
    · rw [if_pos ⟨he, by simp [hc]⟩, char_cur he Q (by omega)]
      by_cases hbad : cur s x.i < 0 ∨ cur s x.i = 60 ∨ cur s x.i = (Q : Int)
      · rw [if_pos hbad]
        have hnz := wrong_err x s he
        have hval : valF s Q f (x.wrong s) (t ++ (⟨#[]⟩ : ByteArray).data.toList) = (x.wrong s, t) := by
          cases f with
          | zero => simp [valF]
          | succ f => simp only [valF]; rw [if_neg (fun h => hnz h.1)]; simp
        rw [hval]
        refine Or.inr ⟨hnz, by rw [wrong_cur he], ?_⟩
        have e : stepPart (.plain .valueP) x.i st (cur s x.i) = ⟨st, .fail (Tk.why (cur s x.i)) x.i⟩ := by
          simp only [stepPart, step]; rw [hq, if_neg hc, if_neg (by omega), if_pos (by omega)]
        rw [runs_fail e, wrong_cur he, ht]
      · rw [if_neg hbad]
        have h0 : 0 ≤ cur s x.i := by omega
        have hp := cur_pos h0
        by_cases h38 : cur s x.i = 38
        · rw [if_pos h38]
          have e : stepPart (.plain .valueP) x.i st (cur s x.i) = ⟨(st.clear .ref).put .ref 38 x.i, .go (.ref .value .valueP)⟩ := by
            simp only [stepPart, step]; rw [hq, if_neg hc, if_pos h38]
          rw [runs_go e h0, runs_ref .value .valueP x.i st h38]
          unfold refTo
          by_cases hz : (Ch.refAt s x.i).2 = 0
          · rw [if_pos hz, if_pos hz]
            have hnz := fail_err x 4 x.i he (by decide)
            have hval : valF s Q f (x.fail 4 x.i) (t ++ (⟨#[]⟩ : ByteArray).data.toList) = (x.fail 4 x.i, t) := by
              cases f with
              | zero => simp [valF]
              | succ f => simp only [valF]; rw [if_neg (fun h => hnz h.1)]; simp
            rw [hval]
            refine Or.inr ⟨hnz, ?_, ?_⟩
            · unfold Sc.fail; rw [if_pos he]
            · unfold Sc.fail; rw [if_pos he, ht]
          · rw [if_neg hz, if_neg hz]
            have hsp := Ch.refAt_spec hz
            have := ih { x with i := x.i + (Ch.refAt s x.i).2.toNat } (t ++ Lib.encodeRune (Ch.refAt s x.i).1) ((st.setRun .ref (Ch.bytes s x.i (Ch.refAt s x.i).2.toNat) x.i).put .value (Ch.refAt s x.i).1 x.i) he (by show x.i + (Ch.refAt s x.i).2.toNat ≤ _; omega) (by show _ < x.i + (Ch.refAt s x.i).2.toNat + f; omega) ht hq (by simp [St.put, St.setRun, hv])
            simp only [] at this ⊢
            rcases this with ⟨h1, h2, h3, h4, r, a, b, h5⟩ | ⟨h1, h2, h3⟩
            · refine Or.inl ⟨h1, by omega, h3, by rw [h4], r, a, b, ?_⟩
              rw [h5]
              congr 2
              unfold St.put
              exact over_both st _ r _ _ a a b _ _
            · exact Or.inr ⟨h1, h2, h3⟩
        · rw [if_neg h38]
          have e : stepPart (.plain .valueP) x.i st (cur s x.i) = ⟨st.put .value (cur s x.i) x.i, .go (.plain .valueP)⟩ := by
            simp only [stepPart, step]; rw [hq, if_neg hc, if_neg h38, if_neg (by omega)]
          rw [runs_go e h0]
          have hb := bytes_extract s x.i (x.i + wid s x.i)
          rw [show x.i + wid s x.i - x.i = wid s x.i by omega, ← enc_cur h0] at hb
          have := ih { x with i := x.i + wid s x.i } (t ++ (s.extract x.i (x.i + wid s x.i)).data.toList) (st.put .value (cur s x.i) x.i) he (by show x.i + wid s x.i ≤ _; omega) (by show _ < x.i + wid s x.i + f; omega) ht hq (by rw [hb]; simp [St.put, St.setRun, hv])
          simp only [] at this ⊢
          rcases this with ⟨h1, h2, h3, h4, r, a, b, h5⟩ | ⟨h1, h2, h3⟩
          · refine Or.inl ⟨h1, by omega, h3, by rw [h4], r, a, b, ?_⟩
            rw [h5]
            congr 2
            unfold St.put
            exact over_value st _ r _ a a b _
          · exact Or.inr ⟨h1, h2, h3⟩
end Go.Proofs.YtfolnkmbdmfigaaGreatDoor
