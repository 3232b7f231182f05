import Derived.Test.YtfolnkmbdmfigaaGreatDoorHbb
set_option linter.unusedVariables false
set_option linter.unusedSimpArgs false
set_option linter.unusedSimpArgs false
set_option linter.unusedVariables false
namespace Go.Proofs.YtfolnkmbdmfigaaGreatDoor
open Go.RowKit Go.Maps Go.Lib
variable {A K S F : Nat → Prop} {w w0 w' w1 w2 : World} {nv sv rv : Value} {av kv : Nat → Value} {g : Gr} {X : Nat}
def Gr.nameAt (g : Gr) (k : Nat) : List UInt8 := ((g.nodes[k]?).map Nd.name).getD []
def Gr.names (g : Gr) : List (List UInt8) := (g.stack.map g.nameAt).reverse
def Gr.nest (g : Gr) : Nest := ⟨g.names, !g.nodes.isEmpty⟩
theorem names_put (g : Gr) (wf : g.Wf) (n : Nd) : g.stack.map (g.put n).nameAt = g.stack.map g.nameAt := by
  refine List.map_congr_left fun k hk => ?_
  have hlt := wf.ups.lt k hk
  unfold Gr.nameAt
  rw [put_name g n k hlt]
theorem put_some (g : Gr) (n : Nd) : (g.put n).nodes.isEmpty = false := by
  cases h : (g.put n).nodes with
  | nil => have := put_size g n; rw [h] at this; simp at this
  | cons a l => rfl
theorem nest_step (wf : g.Wf) (t : Tok) : g.nest.take t = ((g.take t).1, (g.take t).2.nest) := by
  have hlen : g.names.length = g.stack.length := by simp [Gr.names]
  have hnil : g.names = [] ↔ g.stack = [] := by simp [Gr.names]
  unfold Nest.take Gr.take Gr.nest
  simp only [hnil, hlen]
  by_cases h1 : t.kind = 1
  · rw [if_pos h1, if_pos h1]
    by_cases h2 : g.stack = [] ∧ g.nodes ≠ []
    · rw [if_pos ⟨by cases hg : g.nodes with | nil => exact absurd hg h2.2 | cons a l => rfl, h2.1⟩, if_pos h2]
    · rw [if_neg (fun e => h2 ⟨e.2, fun x => by rw [x] at e; simp at e⟩), if_neg h2]
      by_cases h3 : 30 ≤ g.stack.length
      · rw [if_pos h3, if_pos h3]
      · rw [if_neg h3, if_neg h3]
        have e1 : (g.put (elemOf t)).nodes.isEmpty = false := put_some _ _
        have e2 : Gr.names { (g.put (elemOf t)) with stack := g.nodes.length :: g.stack } = g.names ++ [t.name] := by
          have e3 : (g.put (elemOf t)).nameAt g.nodes.length = t.name := by unfold Gr.nameAt; rw [put_last]; rfl
          have e4 := names_put g wf (elemOf t)
          unfold Gr.names
          have e5 : Gr.nameAt { (g.put (elemOf t)) with stack := g.nodes.length :: g.stack } = (g.put (elemOf t)).nameAt := rfl
          simp only [List.map_cons, List.reverse_cons, e5]
          rw [e3, e4]
        rw [e2]
        simp only [e1]; rfl
  · rw [if_neg h1, if_neg h1]
    by_cases h2 : t.kind = 2
    · rw [if_pos h2, if_pos h2]
      cases hs : g.stack with
      | nil =>
        have e : g.names = [] := hnil.2 hs
        rw [e, if_neg (by simp)]
      | cons k st =>
        obtain ⟨m, hm, _, _⟩ := wf.top hs
        have e : g.names = (st.map g.nameAt).reverse ++ [m.name] := by
          unfold Gr.names; rw [hs]; simp only [List.map_cons, List.reverse_cons]
          have : g.nameAt k = m.name := by unfold Gr.nameAt; rw [hm]; rfl
          rw [this]
        have hnm : g.named k t.name = true ↔ m.name = t.name := by rw [named_iff, hm]; simp
        simp only
        by_cases h3 : m.name = t.name
        · rw [if_pos (by rw [e]; simp [h3]), if_pos (hnm.2 h3), e, List.dropLast_concat]
          rfl
        · rw [if_neg (by rw [e]; simpa using h3), if_neg (fun x => h3 (hnm.1 x))]
    · rw [if_neg h2, if_neg h2]
      cases hs : g.stack with
      | nil =>
        by_cases h3 : blanksOnly t.text = true
        · rw [if_neg (by rw [h3]; simp), if_pos h3]
        · rw [if_pos ⟨rfl, by simpa using h3⟩, if_neg h3]
      | cons k st =>
        rw [if_neg (by simp)]
        have e1 : (g.put (textOf t)).nodes.isEmpty = false := put_some _ _
        have e2 : (g.put (textOf t)).names = g.names := by
          unfold Gr.names; rw [put_stack, names_put g wf]
        obtain ⟨m, hm, _, hlt⟩ := wf.top hs
        have e3 : g.nodes.isEmpty = false := by cases hg : g.nodes with | nil => rw [hg] at hm; simp at hm | cons a l => rfl
        simp only [e1, e2, e3]
theorem nest_root' (wf : g.Wf) : g.nest.names ≠ [] → g.nest.rooted = true := by
  intro h
  cases hs : g.stack with
  | nil => exact absurd (by simp [Gr.nest, Gr.names, hs]) h
  | cons k st =>
    obtain ⟨m, hm, _, _⟩ := wf.top hs
    have : g.nodes.isEmpty = false := by cases hg : g.nodes with | nil => rw [hg] at hm; simp at hm | cons a l => rfl
    simp [Gr.nest, this]
theorem nest_len (wf : g.Wf) : g.nest.names.length ≤ 30 := by
  have := wf.deep
  simpa [Gr.nest, Gr.names] using this
theorem take_bad (t : Tok) (h : (g.take t).1 ≠ 0) : (g.take t).2 = g := by
  unfold Gr.take at h ⊢
  split
  · rename_i h1
    rw [if_pos h1] at h
    split
    · rfl
    · rename_i h2
      rw [if_neg h2] at h
      split
      · rfl
      · rename_i h3
        rw [if_neg h3] at h; exact absurd rfl h
  · rename_i h1
    rw [if_neg h1] at h
    split
    · rename_i h2
      rw [if_pos h2] at h
      split
      · rfl
      · rename_i k st hs
        simp only [hs] at h
        split
        · rename_i h3; rw [if_pos h3] at h; exact absurd rfl h
        · rfl
    · rename_i h2
      rw [if_neg h2] at h
      split
      · split <;> rfl
      · rename_i hs; simp only [hs] at h; exact absurd rfl h

structure GR (A F : Nat → Prop) (X : Nat) (w : World) (g : Gr) : Prop where
  ex : ∃ K S nv av kv sv, GRep A K X w g nv av kv sv (.bool g.nest.rooted) ∧ NS S X 0 w #[sv, .bool g.nest.rooted, nv, .int .i64 (topOf g.stack)] 54 sv g.nest.names g.nest.rooted ∧
    (∀ k, K k → F k) ∧ (∀ k, S k → F k) ∧ (∀ k, A k → ¬ S k) ∧ (∀ k, S k → ¬ K k) ∧ (g.nodes = [] → nv = nilS)
  lt : ∀ k, F k → k < w.heap.size
  nF : ¬ F X
  kids : KidsLe g
  wf : g.Wf
theorem GRep.keep {W : World} (h : GRep A K X w g nv av kv sv rv) (hM : More1 w W) : GRep A K X W g nv av kv sv rv :=
  ⟨(hM.keep X (blk_lt h.blk)).trans h.blk, hM.nodes h.nodes, h.nA, h.nK, h.dis, fun k x => Nat.lt_of_lt_of_le (h.lt k x) hM.size, fun k x => Nat.lt_of_lt_of_le (h.ltA k x) hM.size⟩
theorem GR.keep {W : World} (h : GR A F X w g) (hM : More1 w W) : GR A F X W g := by
  obtain ⟨⟨K, S, nv, av, kv, sv, h1, h2, h3⟩, h4, h5, h6, h7⟩ := h
  exact ⟨⟨K, S, nv, av, kv, sv, h1.keep hM, h2.keep hM, h3⟩, fun k x => Nat.lt_of_lt_of_le (h4 k x) hM.size, h5, h6, h7⟩
theorem GR.blk (h : GR A F X w g) : X < w.heap.size := by
  obtain ⟨⟨K, S, nv, av, kv, sv, h1, _⟩, _⟩ := h
  exact blk_lt h1.blk
theorem cells4 {a b c d a' b' : Value} {cs : Array Value} (h : Oth 0 #[a, b, c, d] cs) (h0 : cs[0]? = some a') (h1 : cs[0 + 1]? = some b') : cs = #[a', b', c, d] := by
  obtain ⟨hs, ho⟩ := h
  have h2 := ho 2 (by decide) (by decide)
  have h3 := ho 3 (by decide) (by decide)
  refine Array.ext_getElem? fun j => ?_
  match j with
  | 0 => exact h0
  | 1 => exact h1
  | 2 => exact h2
  | 3 => exact h3
  | j + 4 =>
    rw [Array.getElem?_eq_none (by rw [hs]; simp), Array.getElem?_eq_none (by simp)]
theorem GRep.nested {cs : Array Value} {sv' : Value} {n : Nest} {r : Bool} (h : GRep A K X w g nv av kv sv (.bool r)) (hSA : ∀ k, A k → ¬ S k) (hSK : ∀ k, S k → ¬ K k) (q : NS (Grow S w w1) X 0 w1 cs 54 sv' n.names n.rooted) (o : Oth 0 #[sv, .bool r, nv, .int .i64 (topOf g.stack)] cs) (fr : Frame (fun k => k = X ∨ S k) w w1) :
    GRep A K X w1 g nv av kv sv' (.bool n.rooted) := by
  have e := cells4 o q.c0 q.c1
  have hb := q.blk
  rw [e] at hb
  refine ⟨hb, h.nodes.frame (fun k hk hA => fr.block k hk ?_) (fun k hk hK => fr.block k hk ?_) (fun _ _ x => x), h.nA, h.nK, h.dis, fun k x => Nat.lt_of_lt_of_le (h.lt k x) fr.size, fun k x => Nat.lt_of_lt_of_le (h.ltA k x) fr.size⟩
  · rintro (x | x)
    · exact h.nA (x ▸ hA)
    · exact hSA k hA x
  · rintro (x | x)
    · exact h.nK (x ▸ hK)
    · exact hSK k x hK
def Took (A F : Nat → Prop) (X : Nat) (w : World) (x : Int × Gr) (e : Ending) (w' : World) : Prop := e = .returned (.int .i64 x.1) ∧ GR A (Grow F w w') X w' x.2 ∧ Frame (fun k => k = X ∨ F k) w w'
theorem GR.made {K S : Nat → Prop} {nv' sv1 : Value} {av' kv' : Nat → Value} {cs : Array Value} {g' : Gr} {n : Nest} (hlt : ∀ k, F k → k < w.heap.size) (hnF : ¬ F X) (hKF : ∀ k, K k → F k) (hSF : ∀ k, S k → F k) (hAS : ∀ k, A k → ¬ S k) (hSK : ∀ k, S k → ¬ K k) (hA : ∀ k, A k → k < w.heap.size) (hX : X < w.heap.size) (m0 : More1 w w0) (q1 : NS (Grow S w0 w1) X 0 w1 cs 54 sv1 n.names n.rooted) (f1 : Frame (fun k => k = X ∨ S k) w0 w1)
    (r2 : GRep A (Grow K w1 w2) X w2 g' nv' av' kv' sv1 (.bool n.rooted)) (f2 : Frame (fun k => k = X ∨ K k) w1 w2) (hn : n = g'.nest) (kids : KidsLe g') (wf : g'.Wf) (hnil : g'.nodes = [] → nv' = nilS) : GR A (Grow F w w2) X w2 g' ∧ Frame (fun k => k = X ∨ F k) w w2 := by
  subst hn
  have s0 := m0.size
  have s1 := f1.size
  have s2 := f2.size
  have fr : Frame (fun k => k = X ∨ F k) w w2 := by
    refine ⟨f2.os.trans (f1.os.trans m0.os), f2.tape.trans (f1.tape.trans m0.tape), f2.output.trans (f1.output.trans m0.output), by omega, fun k hk hf => ?_⟩
    rw [f2.block k (by omega) (fun x => hf (x.imp id (hKF k))), f1.block k (by omega) (fun x => hf (x.imp id (hSF k))), m0.keep k hk]
  refine ⟨⟨⟨_, Grow S w0 w1, nv', av', kv', sv1, r2, ⟨r2.blk, rfl, rfl, owns_of q1.row fun k e => f2.block k (own_lt q1.row e) ?_, q1.own, q1.nX, fun k x => Nat.lt_of_lt_of_le (q1.lt k x) s2⟩, ?_, ?_, ?_, ?_, hnil⟩, grow_lt hlt (by omega), ?_, kids, wf⟩, fr⟩
  · have hS := q1.own k e
    rintro (x | x)
    · exact q1.nX (x ▸ hS)
    · rcases hS with y | y
      · exact hSK k y x
      · have := hlt k (hKF k x); omega
  · rintro k (x | x)
    · exact Or.inl (hKF k x)
    · exact Or.inr ⟨by omega, x.2⟩
  · rintro k (x | x)
    · exact Or.inl (hSF k x)
    · exact Or.inr ⟨by omega, by omega⟩
  · rintro k hk (x | x)
    · exact hAS k hk x
    · have := hA k hk; omega
  · rintro k (x | x) (y | y)
    · exact hSK k x y
    · have := hlt k (hSF k x); omega
    · have := hlt k (hKF k y); omega
    · omega
  · rintro (x | x)
    · exact hnF x
    · omega
theorem GRep.top (h : GRep A K X w g nv av kv sv rv) (st : List Nat) (o : Int) (ho : o = topOf st) : GRep A K X (w.setCell ⟨X, 3, none⟩ (.int .i64 o)) { g with stack := st } nv av kv sv rv := by
  have keep : ∀ b, b ≠ X → (w.setCell ⟨X, 3, none⟩ (.int .i64 o)).heap[b]? = w.heap[b]? := fun b hb => Below.heap_setCell _ _ _ _ hb
  have hz : (w.setCell ⟨X, 3, none⟩ (.int .i64 o)).heap.size = w.heap.size := by simp [World.setCell]
  refine ⟨?_, h.nodes.frame (fun b _ hA => keep b (fun e => h.nA (by rw [← e]; exact hA))) (fun b _ hK => keep b (fun e => h.nK (by rw [← e]; exact hK))) (fun _ _ x => x), h.nA, h.nK, h.dis, fun b hb => by rw [hz]; exact h.lt b hb, fun b hb => by rw [hz]; exact h.ltA b hb⟩
  rw [set_of h.blk _, ho]
  rfl
theorem frame_set1 {P : Nat → Prop} (w1 : World) (i : Nat) (a : Value) : Frame (fun k => k = X ∨ P k) w1 (w1.setCell ⟨X, i, none⟩ a) :=
  ⟨rfl, rfl, rfl, by simp [World.setCell], fun k hk hf => Below.heap_setCell _ _ _ _ (fun e => hf (Or.inl e))⟩
end Go.Proofs.YtfolnkmbdmfigaaGreatDoor

set_option linter.unusedSimpArgs false
set_option linter.unusedVariables false
namespace Go.Proofs.YtfolnkmbdmfigaaGreatDoor
open Go.RowKit Go.Maps Go.Lib
variable {A K S F : Nat → Prop} {w w0 w' w1 w2 : World} {nv sv rv : Value} {av kv : Nat → Value} {g : Gr} {X : Nat}
theorem KidsLe.put (h : KidsLe g) (n : Nd) (hn : n.kids = []) : KidsLe (g.put n) := by
  intro i m hi
  rw [put_size]
  unfold Gr.put at hi
  split at hi
  · by_cases h1 : i < g.nodes.length
    · rw [List.getElem?_append_left h1] at hi
      have := h i m hi; omega
    · rw [List.getElem?_append_right (by omega)] at hi
      have h2 := (List.getElem?_eq_some_iff.1 hi).1
      simp only [List.length_cons, List.length_nil] at h2
      rw [show i - g.nodes.length = 0 by omega] at hi
      obtain rfl : _ = m := by simpa using hi
      show n.kids.length ≤ _
      rw [hn]; simp
  · rename_i k st hs
    by_cases h1 : i < g.nodes.length
    · rw [List.getElem?_append_left (by rw [addKid_len]; exact h1), addKid_at] at hi
      by_cases e : i = k
      · rw [if_pos e] at hi
        obtain ⟨m', h3, h4⟩ := Option.map_eq_some_iff.1 hi
        have := h i m' h3
        rw [← h4]
        simp only [Nd.kid, List.length_append, List.length_cons, List.length_nil]; omega
      · rw [if_neg e] at hi
        have := h i m hi; omega
    · rw [List.getElem?_append_right (by rw [addKid_len]; omega), addKid_len] at hi
      have h2 := (List.getElem?_eq_some_iff.1 hi).1
      simp only [List.length_cons, List.length_nil] at h2
      rw [show i - g.nodes.length = 0 by omega] at hi
      obtain rfl : _ = m := by simpa using hi
      show n.kids.length ≤ _
      rw [hn]; simp
structure GP (A F K S : Nat → Prop) (X : Nat) (w : World) (g : Gr) (nv sv : Value) (av kv : Nat → Value) : Prop where
  rep : GRep A K X w g nv av kv sv (.bool g.nest.rooted)
  nest : NS S X 0 w #[sv, .bool g.nest.rooted, nv, .int .i64 (topOf g.stack)] 54 sv g.nest.names g.nest.rooted
  kF : ∀ k, K k → F k
  sF : ∀ k, S k → F k
  aS : ∀ k, A k → ¬ S k
  sK : ∀ k, S k → ¬ K k
  nil : g.nodes = [] → nv = nilS
  lt : ∀ k, F k → k < w.heap.size
  nF : ¬ F X
  kids : KidsLe g
  wf : g.Wf
theorem GR.parts (h : GR A F X w g) : ∃ K S nv sv av kv, GP A F K S X w g nv sv av kv := by
  obtain ⟨⟨K, S, nv, av, kv, sv, r0, n0, hKF, hSF, hAS, hSK, hnil⟩, hlt, hnF, hk, wf⟩ := h
  exact ⟨K, S, nv, sv, av, kv, r0, n0, hKF, hSF, hAS, hSK, hnil, hlt, hnF, hk, wf⟩
structure GQ (A F K S : Nat → Prop) (X : Nat) (w w0 w1 : World) (g : Gr) (n : Nest) (nv sv1 : Value) (av kv : Nat → Value) : Prop where
  more : More1 w w0
  ns : ∃ cs, NS (Grow S w0 w1) X 0 w1 cs 54 sv1 n.names n.rooted
  fr : Frame (fun k => k = X ∨ S k) w0 w1
  rep : GRep A K X w1 g nv av kv sv1 (.bool n.rooted)
theorem GP.behind {nv sv : Value} {av kv : Nat → Value} {n : Nest} {x : Int} {e : Ending} (h : GP A F K S X w g nv sv av kv) (m0 : More1 w w0) (q : NestEnd S X 0 w0 #[sv, .bool g.nest.rooted, nv, .int .i64 (topOf g.stack)] 54 (x, n) e w1) : e = .returned (.int .i64 x) ∧ ∃ sv1, GQ A F K S X w w0 w1 g n nv sv1 av kv := by
  obtain ⟨rfl, cs, sv1, q1, q2, q3⟩ := q
  exact ⟨rfl, sv1, m0, ⟨cs, q1⟩, q3, (h.rep.keep m0).nested h.aS h.sK q1 q2 q3⟩
theorem GP.ends {nv sv sv1 nv' : Value} {av kv av' kv' : Nat → Value} {g' : Gr} {x : Int} (h : GP A F K S X w g nv sv av kv) (q : GQ A F K S X w w0 w1 g g'.nest nv sv1 av kv)
    (r2 : GRep A (Grow K w1 w2) X w2 g' nv' av' kv' sv1 (.bool g'.nest.rooted)) (f2 : Frame (fun k => k = X ∨ K k) w1 w2) (kids : KidsLe g') (wf : g'.Wf) (hnil : g'.nodes = [] → nv' = nilS) : Took A F X w (x, g') (.returned (.int .i64 x)) w2 := by
  obtain ⟨m0, ⟨cs, q1⟩, f1, r1⟩ := q
  obtain ⟨z1, z2⟩ := GR.made h.lt h.nF h.kF h.sF h.aS h.sK h.rep.ltA (blk_lt h.rep.blk) m0 q1 f1 r2 f2 rfl kids wf hnil
  exact ⟨rfl, z1, z2⟩
theorem GP.same {nv sv sv1 : Value} {av kv : Nat → Value} {x : Int} (h : GP A F K S X w g nv sv av kv) (q : GQ A F K S X w w0 w1 g g.nest nv sv1 av kv) (m2 : More1 w1 w2) : Took A F X w (x, g) (.returned (.int .i64 x)) w2 := by
  have r1 := q.rep
  have r2 := (r1.keep m2)
  exact h.ends q (r1.next m2.frame r2.nodes (fun k _ x => Or.inl x) r2.blk) m2.frame h.kids h.wf h.nil
theorem GQ.box {nv sv1 : Value} {av kv : Nat → Value} {n : Nest} {o : Obj} (h : GQ A F K S X w w0 w1 g n nv sv1 av kv) (hX : X < w.heap.size) (hS : ∀ k, S k → k < w.heap.size) (hb : w0.heap[w.heap.size]? = some o) : w1.heap[w.heap.size]? = some o := by
  rw [h.fr.block w.heap.size (Array.getElem?_eq_some_iff.1 hb).1 (fun x => by
    rcases x with e | e
    · omega
    · have := hS _ e; omega)]
  exact hb
theorem GQ.attr {nv sv sv1 va : Value} {av kv : Nat → Value} {n : Nest} {m : Nat} {xs : List Value} (h : GQ A F K S X w w0 w1 g n nv sv1 av kv) (p : GP A F K S X w g nv sv av kv) (ha : w.ownsRow 0 44 2 va m xs) (haA : ∀ k, va.ownBlock = some k → A k) : w1.ownsRow 0 44 2 va m xs := by
  refine owns_of ha fun b e => (h.fr.block b (Nat.lt_of_lt_of_le (own_lt ha e) h.more.size) ?_).trans (h.more.keep b (own_lt ha e))
  rintro (x | x)
  · exact p.rep.nA (x ▸ haA b e)
  · exact p.aS b (haA b e) x
def tokBox (t : Tok) (va : Value) : Obj := .cells #[.int .i64 t.kind, .string ⟨t.name.toArray⟩, va, .string ⟨t.text.toArray⟩, .int .i64 t.at_] 56
def BoxAt (B : Nat) (k nm va tx at_ : Value) (W : World) : Prop := W.cell? ⟨B, 0, none⟩ = some k ∧ W.cell? ⟨B, 1, none⟩ = some nm ∧ W.cell? ⟨B, 2, none⟩ = some va ∧ W.cell? ⟨B, 3, none⟩ = some tx ∧ W.cell? ⟨B, 4, none⟩ = some at_
theorem boxAt {t : Tok} {va : Value} {W : World} {B : Nat} (h : W.heap[B]? = some (tokBox t va)) : BoxAt B (.int .i64 t.kind) (.string ⟨t.name.toArray⟩) va (.string ⟨t.text.toArray⟩) (.int .i64 t.at_) W :=
  ⟨cell_of h rfl, cell_of h rfl, cell_of h rfl, cell_of h rfl, cell_of h rfl⟩
theorem nest_call {nv sv : Value} {av kv : Nat → Value} (h : GP A F K S X w g nv sv av kv) (t : Tok) (ai : Option Addr) (ac : Nat) (hz : t.text.length ≤ 9223372036854775807) :
    Calls Tryz.prog 39 #[.pointer (some ⟨X, 0, none⟩), tokV t (.slice ai t.attrs.length ac)] (w.alloc (tokBox t (.slice ai t.attrs.length ac))).drew fun e w1 => e = .returned (.int .i64 (g.take t).1) ∧ ∃ sv1, GQ A F K S X w (w.alloc (tokBox t (.slice ai t.attrs.length ac))).drew w1 g (g.take t).2.nest nv sv1 av kv ∧ w1.heap[w.heap.size]? = some (tokBox t (.slice ai t.attrs.length ac)) := by
  have m0 : More1 w (w.alloc (tokBox t (.slice ai t.attrs.length ac))).drew := ((More1.refl w).alloc _).drewN 1
  have := nest_take (h.nest.keep m0) (nest_len h.wf) (nest_root' h.wf) t ai t.attrs.length ac hz
  rw [nest_step h.wf t] at this
  refine this.mono ?_
  intro e w1 q
  obtain ⟨rfl, sv1, gq⟩ := h.behind m0 q
  exact ⟨rfl, sv1, gq, gq.box (blk_lt h.rep.blk) (fun k x => h.lt k (h.sF k x)) (Below_new w _)⟩
set_option maxHeartbeats 8000000 in
set_option maxRecDepth 100000 in
theorem take_wrong {nv sv : Value} {av kv : Nat → Value} (h : GP A F K S X w g nv sv av kv) (t : Tok) (ai : Option Addr) (ac : Nat) (hz : t.text.length ≤ 9223372036854775807) (h0 : (g.take t).1 ≠ 0) :
    Calls Tryz.prog 23 #[.pointer (some ⟨X, 0, none⟩), tokV t (.slice ai t.attrs.length ac)] w (Took A F X w (g.take t)) := by
  have hcall := nest_call h t ai ac hz
  have hx := take_bad t h0
  have hfin : ∀ w1 sv1, GQ A F K S X w (w.alloc (tokBox t (.slice ai t.attrs.length ac))).drew w1 g (g.take t).2.nest nv sv1 av kv → Took A F X w (g.take t) (.returned (.int .i64 (g.take t).1)) w1 := fun w1 sv1 q => by
    rw [hx] at q
    have := h.same (x := (g.take t).1) q (More1.refl w1)
    rw [show g.take t = ((g.take t).1, g) from Prod.ext rfl hx]
    exact this
  have hne : ((g.take t).1 != 0) = true := by simpa using h0
  have hbox : BoxAt w.heap.size (.int .i64 t.kind) (.string ⟨t.name.toArray⟩) (.slice ai t.attrs.length ac) (.string ⟨t.text.toArray⟩) (.int .i64 t.at_) (w.alloc (tokBox t (.slice ai t.attrs.length ac))) := boxAt (Below_new w _)
  obtain ⟨b0, b1, b2, b3, b4⟩ := hbox
  unfold tokV strV at hcall ⊢
  unfold tokBox at *
  have HC := hide hcall
  have HF := hide hfin
  clear hcall hfin h0 hx h
  generalize (g.take t).1 = no at *
  go_enter Tryz.func23, Tryz.ntmps23
  go_wp2_with fail
  go_region_held3 (fun W => W.cell? ⟨w.heap.size, 0, none⟩ = some (.int .i64 t.kind) ∧ W.cell? ⟨w.heap.size, 1, none⟩ = some (.string ⟨t.name.toArray⟩) ∧ W.cell? ⟨w.heap.size, 2, none⟩ = some (.slice ai t.attrs.length ac) ∧ W.cell? ⟨w.heap.size, 3, none⟩ = some (.string ⟨t.text.toArray⟩) ∧ W.cell? ⟨w.heap.size, 4, none⟩ = some (.int .i64 t.at_))
    (first | exact ⟨b0, b1, b2, b3, b4⟩ | exact boxAt hb1)
    (first | (go_at_call 39; refine HC.out.mono ?_; rintro e w1 ⟨rfl, sv1, gq, hb1⟩))
  all_goals
    have GQ1 := hide gq
    clear gq b0 b1 b2 b3 b4 hb1
    go_wp2
    go_ret
    exact HF.out _ _ GQ1.out
set_option maxHeartbeats 8000000 in
set_option maxRecDepth 100000 in
theorem take_open {nv sv : Value} {av kv : Nat → Value} (h : GP A F K S X w g nv sv av kv) (hb : g.nodes.length ≤ 17179869184) (t : Tok) (ai : Option Addr) (ac : Nat) (hz : t.text.length ≤ 9223372036854775807) (ha : w.ownsRow 0 44 2 (.slice ai t.attrs.length ac) t.attrs.length (attrCells t.attrs)) (haA : ∀ k, (Value.slice ai t.attrs.length ac).ownBlock = some k → A k) (h0 : (g.take t).1 = 0) (hk : t.kind = 1) :
    Calls Tryz.prog 23 #[.pointer (some ⟨X, 0, none⟩), tokV t (.slice ai t.attrs.length ac)] w (Took A F X w (g.take t)) := by
  have hcall := nest_call h t ai ac hz
  have hg : g.take t = (0, { (g.put (elemOf t)) with stack := g.nodes.length :: g.stack }) := by
    unfold Gr.take at h0 ⊢
    rw [if_pos hk] at h0 ⊢
    split at h0
    · cases h0
    · rename_i h1
      rw [if_neg h1]
      split at h0
      · cases h0
      · rename_i h2
        rw [if_neg h2]
  have hwf := h.wf.take t
  rw [hg] at hcall hwf ⊢
  have hbox : BoxAt w.heap.size (.int .i64 t.kind) (.string ⟨t.name.toArray⟩) (.slice ai t.attrs.length ac) (.string ⟨t.text.toArray⟩) (.int .i64 t.at_) (w.alloc (tokBox t (.slice ai t.attrs.length ac))) := boxAt (Below_new w _)
  obtain ⟨b0, b1, b2, b3, b4⟩ := hbox
  have hput : ∀ w1 sv1 n, GQ A F K S X w (w.alloc (tokBox t (.slice ai t.attrs.length ac))).drew w1 g n nv sv1 av kv → Calls Tryz.prog 40 #[.pointer (some ⟨X, 0, none⟩), .agg #[.string ⟨t.name.toArray⟩, .slice ai t.attrs.length ac, .string ⟨#[]⟩, .slice none 0 0, .int .i64 0]] w1 fun e w' => e = .returned (.int .i64 g.nodes.length) ∧ ∃ nv' av' kv', GRep A (Grow K w1 w') X w' (g.put (elemOf t)) nv' av' kv' sv1 (.bool n.rooted) ∧ Frame (fun k => k = X ∨ K k) w1 w' := fun w1 sv1 n q =>
    put_node q.rep h.wf h.kids (elemOf t) (.slice ai t.attrs.length ac) 0 (q.attr h ha haA) haA rfl hb
  have hfin : ∀ w1 w2 sv1 nv' av' kv', GQ A F K S X w (w.alloc (tokBox t (.slice ai t.attrs.length ac))).drew w1 g (Gr.nest { (g.put (elemOf t)) with stack := g.nodes.length :: g.stack }) nv sv1 av kv → GRep A (Grow K w1 w2) X w2 (g.put (elemOf t)) nv' av' kv' sv1 (.bool (Gr.nest { (g.put (elemOf t)) with stack := g.nodes.length :: g.stack }).rooted) → Frame (fun k => k = X ∨ K k) w1 w2 →
      Took A F X w (0, { (g.put (elemOf t)) with stack := g.nodes.length :: g.stack }) (.returned (.int .i64 0)) (w2.setCell ⟨X, 3, none⟩ (.int .i64 g.nodes.length)) := fun w1 w2 sv1 nv' av' kv' q r f => by
    have r3 := r.top (g.nodes.length :: g.stack) (g.nodes.length : Int) rfl
    have f3 : Frame (fun k => k = X ∨ K k) w1 (w2.setCell ⟨X, 3, none⟩ (.int .i64 g.nodes.length)) := f.trans' (frame_set1 w2 3 _)
    have hz2 : (w2.setCell ⟨X, 3, none⟩ (.int .i64 g.nodes.length)).heap.size = w2.heap.size := by simp [World.setCell]
    have r4 : GRep A (Grow K w1 (w2.setCell ⟨X, 3, none⟩ (.int .i64 g.nodes.length))) X (w2.setCell ⟨X, 3, none⟩ (.int .i64 g.nodes.length)) { (g.put (elemOf t)) with stack := g.nodes.length :: g.stack } nv' av' kv' sv1 _ :=
      q.rep.next (g' := { (g.put (elemOf t)) with stack := g.nodes.length :: g.stack }) f3 r3.nodes (fun k _ x => x.imp id fun y => ⟨y.1, by rw [hz2]; exact y.2⟩) r3.blk
    refine h.ends q r4 f3 (h.kids.put (elemOf t) rfl) hwf (fun e => ?_)
    have := put_some g (elemOf t)
    have e' : (g.put (elemOf t)).nodes = [] := e
    rw [e'] at this; cases this
  have hcell : ∀ w2 nv' av' kv' sv1 rv1 K2, GRep A K2 X w2 (g.put (elemOf t)) nv' av' kv' sv1 rv1 → (∃ v, w2.cell? ⟨X, 3, none⟩ = some v) ∧ w2.frozen? ⟨X, 3, none⟩ = false := fun w2 nv' av' kv' sv1 rv1 K2 r => ⟨⟨_, r.cell 3 rfl⟩, free_of r.blk⟩
  unfold tokV strV at hcall ⊢
  unfold tokBox at *
  have hk1 : (t.kind == 1) = true := by simpa using hk
  clear hk
  have HC := hide hcall
  have HF := hide hfin
  have HP := hide hput
  have HQ := hide hcell
  clear hcall hfin h0 h hput hcell hg hwf ha haA
  generalize Gr.nest { (g.put (elemOf t)) with stack := g.nodes.length :: g.stack } = nn at *
  go_enter Tryz.func23, Tryz.ntmps23
  go_wp2_with fail
  go_region_held3 (fun W => W.cell? ⟨w.heap.size, 0, none⟩ = some (.int .i64 t.kind) ∧ W.cell? ⟨w.heap.size, 1, none⟩ = some (.string ⟨t.name.toArray⟩) ∧ W.cell? ⟨w.heap.size, 2, none⟩ = some (.slice ai t.attrs.length ac) ∧ W.cell? ⟨w.heap.size, 3, none⟩ = some (.string ⟨t.text.toArray⟩) ∧ W.cell? ⟨w.heap.size, 4, none⟩ = some (.int .i64 t.at_))
    (first | exact ⟨b0, b1, b2, b3, b4⟩ | exact boxAt (t := t) hb1)
    (first | (go_at_call 39; refine HC.out.mono ?_; rintro e w1 ⟨rfl, sv1, gq, hb1⟩))
  all_goals
    have hp := HP.out _ _ _ gq
    have hb2 := boxAt (t := t) (va := .slice ai t.attrs.length ac) hb1
    obtain ⟨d0, d1, d2, d3, d4⟩ := hb2
    have GQ1 := hide gq
    clear gq b0 b1 b2 b3 b4 hb1
    go_wp2_with (go_at_call 40; refine hp.mono ?_; rintro e w2 ⟨rfl, nv', av', kv', r2, f2⟩; obtain ⟨⟨v3, c3⟩, f3⟩ := HQ.out _ _ _ _ _ _ _ r2; have R2 := hide r2; have F2 := hide f2; clear r2 f2)
    go_ret
    exact HF.out _ _ _ _ _ _ GQ1.out R2.out F2.out
end Go.Proofs.YtfolnkmbdmfigaaGreatDoor

set_option linter.unusedSimpArgs false
set_option linter.unusedVariables false
namespace Go.Proofs.YtfolnkmbdmfigaaGreatDoor
open Go.RowKit Go.Maps Go.Lib

variable {A K K' : Nat → Prop} {w w' w1 : World} {nv ov : Value} {av kv : Nat → Value} {g : Gr} {Y : Nat} {er q : Int}
structure BRep (A K : Nat → Prop) (Y : Nat) (w : World) (g : Gr) (er q : Int) (nv ov : Value) (av kv : Nat → Value) : Prop where
  blk : w.heap[Y]? = some (.cells #[nv, ov, .int .i64 er, .int .i64 q] 68 (0, 0))
  nodes : Nodes 76 82 A K w nv g.nodes av kv
  opens : w.ownsRow 0 3 1 ov g.stack.length (kidCells g.stack.reverse)
  openK : ∀ k, ov.ownBlock = some k → K k ∧ nv.ownBlock ≠ some k ∧ ∀ i, i < g.nodes.length → (kv i).ownBlock ≠ some k
  nA : ¬ A Y
  nK : ¬ K Y
  dis : ∀ k, A k → ¬ K k
  lt : ∀ k, K k → k < w.heap.size
  ltA : ∀ k, A k → k < w.heap.size
theorem BRep.cell (h : BRep A K Y w g er q nv ov av kv) (i : Nat) {u : Value} (e : #[nv, ov, .int .i64 er, .int .i64 q][i]? = some u) : w.cell? ⟨Y, i, none⟩ = some u := cell_of h.blk e
theorem More1.nodesR {W : World} {l : List Nd} (h : More1 w W) (hn : Nodes 76 82 A K w nv l av kv) : Nodes 76 82 A K W nv l av kv := hn.frame (fun k hk _ => h.keep k hk) (fun k hk _ => h.keep k hk) (fun _ _ x => x)
theorem BRep.keep {W : World} (h : BRep A K Y w g er q nv ov av kv) (hM : More1 w W) : BRep A K Y W g er q nv ov av kv :=
  ⟨(hM.keep Y (blk_lt h.blk)).trans h.blk, hM.nodesR h.nodes, owns_of h.opens fun k e => hM.keep k (own_lt h.opens e), h.openK, h.nA, h.nK, h.dis, fun k x => Nat.lt_of_lt_of_le (h.lt k x) hM.size, fun k x => Nat.lt_of_lt_of_le (h.ltA k x) hM.size⟩
set_option maxHeartbeats 4000000 in
set_option maxRecDepth 100000 in
theorem bfail_ok (h : BRep A K Y w g er q nv ov av kv) (e p : Int) :
    Calls Tryz.prog 29 #[.pointer (some ⟨Y, 0, none⟩), .int .i64 e, .int .i64 p] w fun en w' => en = .returned (.tuple #[]) ∧ BRep A K Y w' g (if er = 0 then e else er) (if er = 0 then p else q) nv ov av kv ∧ Frame (fun k => k = Y) w w' := by
  have c2 : w.cell? ⟨Y, 2, none⟩ = some (.int .i64 er) := h.cell 2 rfl
  have c3 : w.cell? ⟨Y, 3, none⟩ = some (.int .i64 q) := h.cell 3 rfl
  have f2 := free_of (i := 2) h.blk
  have f3 : ∀ v, (w.setCell ⟨Y, 2, none⟩ v).frozen? ⟨Y, 3, none⟩ = false := fun v => free_of (i := 3) (set_of (i := 2) h.blk v)
  have c3' : ∀ v, (w.setCell ⟨Y, 2, none⟩ v).cell? ⟨Y, 3, none⟩ = some (.int .i64 q) := fun v => cell_of (set_of (i := 2) h.blk v) rfl
  have H := hide h
  clear h
  by_cases h0 : er = 0
  · rw [if_pos h0, if_pos h0]
    have e0 : (er == 0) = true := by simpa using h0
    clear h0
    go_enter Tryz.func29, Tryz.ntmps29
    go_wp2
    (try simp only [Exit.inBlock, Exit.then])
    first
    | (refine bodyPost_end (results_none rfl _ _ _) rfl ?_)
    | (refine bodyPost_ret (results_none rfl _ _ _) rfl ?_)
    have keep : ∀ b, b ≠ Y → ((w.setCell ⟨Y, 2, none⟩ (.int .i64 e)).setCell ⟨Y, 3, none⟩ (.int .i64 p)).heap[b]? = w.heap[b]? := fun b hb => by rw [Below.heap_setCell _ _ _ _ hb, Below.heap_setCell _ _ _ _ hb]
    have hz : ((w.setCell ⟨Y, 2, none⟩ (.int .i64 e)).setCell ⟨Y, 3, none⟩ (.int .i64 p)).heap.size = w.heap.size := by simp [World.setCell]
    have h := H.out
    refine ⟨rfl, ⟨?_, h.nodes.frame (fun b _ hA => keep b (fun e => h.nA (by rw [← e]; exact hA))) (fun b _ hK => keep b (fun e => h.nK (by rw [← e]; exact hK))) (fun _ _ x => x), owns_of h.opens fun k e => keep k (fun x => h.nK (by rw [← x]; exact (h.openK k e).1)), h.openK, h.nA, h.nK, h.dis, fun b hb => by rw [hz]; exact h.lt b hb, fun b hb => by rw [hz]; exact h.ltA b hb⟩, ⟨rfl, rfl, rfl, by rw [hz]; exact Nat.le_refl _, fun b _ hb => keep b hb⟩⟩
    rw [set_of (set_of h.blk _) _]
    rfl
  · rw [if_neg h0, if_neg h0]
    have e0 : (er == 0) = false := by simpa using h0
    clear h0
    go_enter Tryz.func29, Tryz.ntmps29
    go_wp2
    (try simp only [Exit.inBlock, Exit.then])
    first
    | (refine bodyPost_end (results_none rfl _ _ _) rfl ?_)
    | (refine bodyPost_ret (results_none rfl _ _ _) rfl ?_)
    exact ⟨rfl, H.out, ⟨rfl, rfl, rfl, Nat.le_refl _, fun _ _ _ => rfl⟩⟩
theorem BRep.top (h : BRep A K Y w g er q nv ov av kv) {k : Nat} {st : List Nat} (hs : g.stack = k :: st) : ∃ gO cO, ov = .slice (some ⟨gO, 0, none⟩) (st.length + 1) cO ∧ w.cell? ⟨gO, st.length, none⟩ = some (.int .i64 k) ∧ st.length + 1 ≤ maxLen := by
  have ho := h.opens
  rw [hs] at ho
  rcases ho.2 with ⟨_, e⟩ | ⟨gO, cO, cur, e1, _, hg, h1, h2, h3, h4⟩
  · simp at e
  · refine ⟨gO, cO, by rw [e1]; rfl, ?_, by simp only [List.length_cons] at h1; omega⟩
    refine cell_of hg ?_
    have h5 : (kidCells (k :: st).reverse)[st.length]? = some (.int .i64 k) := by
      simp [kidCells]
    rw [← h4, List.getElem?_take] at h5
    split at h5
    · simpa using h5
    · cases h5
set_option maxHeartbeats 4000000 in
set_option maxRecDepth 100000 in
theorem bup_ok (h : BRep A K Y w g er q nv ov av kv) : Calls Tryz.prog 44 #[.pointer (some ⟨Y, 0, none⟩)] w fun en w' => en = .returned (.int .i64 (topOf g.stack)) ∧ More1 w w' := by
  cases hs : g.stack with
  | nil =>
    have c1 : ∃ oo oc, w.cell? ⟨Y, 1, none⟩ = some (.slice oo 0 oc) := by
      have ho := h.opens
      rw [hs] at ho
      obtain ⟨oo, oc, e⟩ := slice_len ho
      exact ⟨oo, oc, by rw [← show ov = .slice oo 0 oc from e]; exact h.cell 1 rfl⟩
    obtain ⟨oo, oc, c1⟩ := c1
    clear h hs
    go_enter Tryz.func44, Tryz.ntmps44
    go_wp2
    go_ret
    exact ⟨rfl, More1.refl w⟩
  | cons k st =>
    obtain ⟨gO, cO, e, x, hmx⟩ := h.top hs
    have c1 : w.cell? ⟨Y, 1, none⟩ = some (.slice (some ⟨gO, 0, none⟩) (st.length + 1) cO) := by rw [← e]; exact h.cell 1 rfl
    have hl : (st.length : Int) + 1 ≤ 9223372036854775807 := by have : maxLen = 9223372036854775807 := rfl; omega
    generalize hM : st.length + 1 = M at c1
    have e0 : ((M : Int) == 0) = false := by simp; omega
    have e0n : (M == 0) = false := by simp; omega
    have e0d : decide (M = 0) = false := by simp; omega
    have hw : IntKind.i64.wrap ((M : Int) - 1) = (st.length : Int) := by rw [IntKind.wrap_i64]; omega
    have hw64 : wrap64 (st.length : Int) = (st.length : Int) := by unfold wrap64; omega
    have hlt : (st.length : Int) < M := by omega
    have HM := hide hM
    clear h hs e hM
    go_enter Tryz.func44, Tryz.ntmps44
    go_wp2_with fail
    go_quiet (fail)
    go_wp2
    go_ret
    exact ⟨rfl, (More1.refl w).drewN _⟩
end Go.Proofs.YtfolnkmbdmfigaaGreatDoor

set_option linter.unusedSimpArgs false
set_option linter.unusedVariables false
namespace Go.Proofs.YtfolnkmbdmfigaaGreatDoor
open Go.RowKit Go.Maps Go.Lib
variable {A K K' : Nat → Prop} {w w' w1 w2 W1 : World} {nv ov v' a : Value} {av kv : Nat → Value} {g : Gr} {Y : Nat} {er q : Int} {n : Nd}
theorem info73 : (Tryz.prog.info? 76).map (fun i => (i.zero, i.size, i.bytes)) = some (some (.agg #[.string ⟨#[]⟩, .slice none 0 0, .string ⟨#[]⟩, .slice none 0 0, .int .i64 0]), 5, 88) := by kernel_rfl
theorem BRep.widen (h : BRep A K Y w g er q nv ov av kv) (hK : ∀ k, k < w.heap.size → K k → K' k) (nK : ¬ K' Y) (dis : ∀ k, A k → ¬ K' k) (lt : ∀ k, K' k → k < w.heap.size) : BRep A K' Y w g er q nv ov av kv :=
  ⟨h.blk, h.nodes.frame (fun _ _ _ => rfl) (fun _ _ _ => rfl) hK, h.opens, fun k e => ⟨hK k (own_lt h.opens e) (h.openK k e).1, (h.openK k e).2⟩, h.nA, nK, dis, lt, h.ltA⟩
theorem bpush_close {o2 : Obj} (h : BRep A K Y w g er q nv ov av kv) (hM : More1 w W1) (ha : w.ownsRow 0 82 2 a n.attrs.length (attrCells n.attrs)) (haA : ∀ k, a.ownBlock = some k → A k) (hk : n.kids = [])
    (hg : (W1.drew.alloc o2).grownBy w2 nv.ownBlock) (ho : w2.ownsRow 0 76 5 v' (g.nodes.length + 1) (ndCells av kv 0 g.nodes ++ nodeRow n a nilS)) (hat : v'.ownBlock = nv.ownBlock ∨ v'.ownBlock = some (W1.drew.alloc o2).heap.size) :
    BRep A (Grow K w (w2.setCell ⟨Y, 0, none⟩ v')) Y (w2.setCell ⟨Y, 0, none⟩ v') ⟨g.nodes ++ [n], g.stack⟩ er q v' ov (upd av g.nodes.length a) (upd kv g.nodes.length nilS) ∧ Frame (fun k => k = Y ∨ K k) w (w2.setCell ⟨Y, 0, none⟩ v') ∧
    (∀ b, w.heap.size ≤ b → b < W1.heap.size → (w2.setCell ⟨Y, 0, none⟩ v').heap[b]? = W1.heap[b]?) := by
  have hYlt := blk_lt h.blk
  have hM' : More1 w (W1.drew.alloc o2) := (hM.drewN 1).alloc o2
  have hz : (W1.drew.alloc o2).heap.size = W1.heap.size + 1 := by simp
  have hzw := hM.size
  have hnY : nv.ownBlock ≠ some Y := fun e => h.nK (h.nodes.rowK Y e)
  have hp := (hM'.nodesR h.nodes).push h.dis (fun k x => Nat.lt_of_lt_of_le (h.lt k x) hM'.size) (fun k x => Nat.lt_of_lt_of_le (h.ltA k x) hM'.size) (owns_of ha fun k e => hM'.keep k (own_lt ha e)) haA hk hg ho hat
  have hz2 : w2.heap.size = (w2.setCell ⟨Y, 0, none⟩ v').heap.size := by simp [World.setCell]
  have hgs := hg.size
  have keep : ∀ b, b < (W1.drew.alloc o2).heap.size → b ≠ Y → nv.ownBlock ≠ some b → (w2.setCell ⟨Y, 0, none⟩ v').heap[b]? = (W1.drew.alloc o2).heap[b]? := fun b hb h1 h2 => by
    rw [Below.heap_setCell _ _ _ _ h1]; exact hg.block b hb (fun e => h2 e.symm)
  have hY2 : w2.heap[Y]? = some (.cells #[nv, ov, .int .i64 er, .int .i64 q] 68 (0, 0)) := by
    rw [hg.block Y (by omega) (fun e => hnY e.symm), hM'.keep Y hYlt]; exact h.blk
  have fr : Frame (fun k => k = Y ∨ K k) w (w2.setCell ⟨Y, 0, none⟩ v') := ⟨hg.os.trans hM'.os, hg.tape.trans hM'.tape, hg.output.trans hM'.output, by omega, fun b hb hf => by
    rw [keep b (by omega) (fun e => hf (Or.inl e)) (fun e => hf (Or.inr (h.nodes.rowK b e)))]; exact hM'.keep b hb⟩
  refine ⟨⟨?_, ?_, ?_, ?_, h.nA, ?_, ?_, ?_, fun k x => by have := h.ltA k x; omega⟩, fr, ?_⟩
  · rw [set_of hY2]; rfl
  · refine hp.frame (fun k _ x => Below.heap_setCell _ _ _ _ (fun e => h.nA (by have e' : k = Y := e; rw [← e']; exact x))) (fun k _ x => Below.heap_setCell _ _ _ _ (fun e => ?_)) (fun k hk x => ?_)
    · have e' : k = Y := e
      rcases x with x | x
      · exact h.nK (by rw [← e']; exact x)
      · omega
    · rcases x with x | x
      · exact Or.inl x
      · exact Or.inr ⟨by omega, hk⟩
  · refine owns_of h.opens fun k e => ?_
    have hl := own_lt h.opens e
    rw [keep k (by omega) (fun x => h.nK (by rw [← x]; exact (h.openK k e).1)) (h.openK k e).2.1]
    exact hM'.keep k hl
  · intro k e
    have hl := own_lt h.opens e
    refine ⟨Or.inl (h.openK k e).1, ?_, fun i hi => ?_⟩
    · rcases hat with e2 | e2
      · rw [e2]; exact (h.openK k e).2.1
      · rw [e2]; intro x; simp only [Option.some.injEq] at x; omega
    · simp only [List.length_append, List.length_cons, List.length_nil] at hi
      by_cases h1 : i = g.nodes.length
      · subst h1; rw [upd_same]; intro x; cases x
      · rw [upd_other _ _ h1]; exact (h.openK k e).2.2 i (by omega)
  · rintro (x | x)
    · exact h.nK x
    · omega
  · rintro k hA (x | x)
    · exact h.dis k hA x
    · have := h.ltA k hA; omega
  · rintro k (x | x)
    · have := h.lt k x; omega
    · exact x.2
  · intro b h1 h2
    rw [keep b (by omega) (by omega) (fun e => by have := h.lt b (h.nodes.rowK b e); omega)]
    exact Below.heap_alloc _ _ _ h2
theorem bkid_close {o : Obj} {k j gN nc : Nat} {m : Nd} (h : BRep A K Y w g er q nv ov av kv) (hM : More1 w W1) (hm : g.nodes[k]? = some m) (hnv : nv = .slice (some ⟨gN, 0, none⟩) g.nodes.length nc)
    (hg : (W1.alloc o).grownBy w2 (kv k).ownBlock) (ho : w2.ownsRow 0 3 1 v' (m.kids.length + 1) (kidCells m.kids ++ [.int .i64 j])) (hat : v'.ownBlock = (kv k).ownBlock ∨ v'.ownBlock = some (W1.alloc o).heap.size) :
    BRep A (Grow K w (w2.setCell ⟨gN, k * 5 + 3, none⟩ v')) Y (w2.setCell ⟨gN, k * 5 + 3, none⟩ v') ⟨addKid g.nodes k j, g.stack⟩ er q nv ov av (upd kv k v') ∧ Frame K w (w2.setCell ⟨gN, k * 5 + 3, none⟩ v') := by
  have hYlt := blk_lt h.blk
  have hk : k < g.nodes.length := (List.getElem?_eq_some_iff.1 hm).1
  have hM' : More1 w (W1.alloc o) := hM.alloc o
  have hz : (W1.alloc o).heap.size = W1.heap.size + 1 := by simp
  have hzw := hM.size
  have hgK : K gN := h.nodes.rowK gN (by rw [hnv]; rfl)
  have hp := (hM'.nodesR h.nodes).addKid (j := j) h.dis (fun i x => Nat.lt_of_lt_of_le (h.lt i x) hM'.size) (fun i x => Nat.lt_of_lt_of_le (h.ltA i x) hM'.size) hnv hm hg ho hat
  have hz2 : w2.heap.size = (w2.setCell ⟨gN, k * 5 + 3, none⟩ v').heap.size := by simp [World.setCell]
  have hgs := hg.size
  have keep : ∀ b, b < (W1.alloc o).heap.size → b ≠ gN → (kv k).ownBlock ≠ some b → (w2.setCell ⟨gN, k * 5 + 3, none⟩ v').heap[b]? = (W1.alloc o).heap[b]? := fun b hb h1 h2 => by
    rw [Below.heap_setCell _ _ _ _ h1]; exact hg.block b hb (fun e => h2 e.symm)
  have fr : Frame K w (w2.setCell ⟨gN, k * 5 + 3, none⟩ v') := ⟨hg.os.trans hM'.os, hg.tape.trans hM'.tape, hg.output.trans hM'.output, by omega, fun b hb hf => by
    rw [keep b (by omega) (fun e => hf (by rw [e]; exact hgK)) (fun e => hf (h.nodes.kidK k b hk e).1)]; exact hM'.keep b hb⟩
  refine ⟨⟨?_, ?_, ?_, ?_, h.nA, ?_, ?_, ?_, fun k x => by have := h.ltA k x; omega⟩, fr⟩
  · rw [fr.block Y hYlt h.nK]; exact h.blk
  · refine hp.frame (fun _ _ _ => rfl) (fun _ _ _ => rfl) (fun i hi x => ?_)
    rcases x with x | x
    · exact Or.inl x
    · exact Or.inr ⟨by omega, hi⟩
  · refine owns_of h.opens fun i e => ?_
    have hl := own_lt h.opens e
    rw [keep i (by omega) (fun x => (h.openK i e).2.1 (by rw [hnv, x]; rfl)) ((h.openK i e).2.2 k hk)]
    exact hM'.keep i hl
  · intro i e
    have hl := own_lt h.opens e
    refine ⟨Or.inl (h.openK i e).1, (h.openK i e).2.1, fun i2 hi2 => ?_⟩
    rw [addKid_len] at hi2
    by_cases h1 : i2 = k
    · subst h1
      rw [upd_same]
      rcases hat with e2 | e2
      · rw [e2]; exact (h.openK i e).2.2 i2 hk
      · rw [e2]; intro x; simp only [Option.some.injEq] at x; omega
    · rw [upd_other _ _ h1]; exact (h.openK i e).2.2 i2 hi2
  · rintro (x | x)
    · exact h.nK x
    · omega
  · rintro i hA (x | x)
    · exact h.dis i hA x
    · have := h.ltA i hA; omega
  · rintro i (x | x)
    · have := h.lt i x; omega
    · exact x.2
end Go.Proofs.YtfolnkmbdmfigaaGreatDoor
