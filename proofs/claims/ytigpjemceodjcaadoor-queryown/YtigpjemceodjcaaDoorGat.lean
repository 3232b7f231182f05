import Derived.Test.YtigpjemceodjcaaDoorGar
set_option linter.unusedVariables false
set_option linter.unusedSimpArgs false
set_option linter.unusedSimpArgs false
set_option linter.unusedVariables false
namespace Go.Proofs.YtigpjemceodjcaaDoor
open Go.RowKit Go.Maps Go.Lib
variable {w w' w1 w2 WO wr W W1 W2 : World} {A A' : Nat → Prop} {v v' va vb : Value} {P : ByteArray → Prop} {lo g i : Nat}

abbrev qm : ByteArray := ⟨#[63]⟩
mutual
def hrowS (w : World) (A : Nat → Prop) (P : ByteArray → Prop) : Nat → Nat → Stps → Prop
  | _, _, .nil => True
  | g, i, .cons _ _ ps m => (∃ T, w.cell? ⟨g, i * 3 + 1, none⟩ = some (.string T) ∧ P T) ∧
    (∃ v, w.cell? ⟨g, i * 3 + 2, none⟩ = some v ∧ sl w A 71 v ps.len fun g => hrowP w A P g 0 ps) ∧ hrowS w A P g (i + 1) m
def hrowP (w : World) (A : Nat → Prop) (P : ByteArray → Prop) : Nat → Nat → Prds → Prop
  | _, _, .nil => True
  | g, i, .cons _ ks ss _ _ m => (∃ T, w.cell? ⟨g, i * 5, none⟩ = some (.string T) ∧ P T) ∧
    (∃ v, w.cell? ⟨g, i * 5 + 1, none⟩ = some v ∧ sl w A 71 v ks.len fun g => hrowP w A P g 0 ks) ∧
    (∃ v, w.cell? ⟨g, i * 5 + 2, none⟩ = some v ∧ sl w A 53 v ss.len fun g => hrowS w A P g 0 ss) ∧ hrowP w A P g (i + 1) m
end
def hS (w : World) (A : Nat → Prop) (P : ByteArray → Prop) (v : Value) (s : Stps) : Prop := sl w A 53 v s.len fun g => hrowS w A P g 0 s
def hP (w : World) (A : Nat → Prop) (P : ByteArray → Prop) (v : Value) (s : Prds) : Prop := sl w A 71 v s.len fun g => hrowP w A P g 0 s
def stepAt (w : World) (A : Nat → Prop) (P : ByteArray → Prop) (g i : Nat) (x : Stp) : Prop := (∃ T, w.cell? ⟨g, i * 3 + 1, none⟩ = some (.string T) ∧ P T) ∧ ∃ v, w.cell? ⟨g, i * 3 + 2, none⟩ = some v ∧ hP w A P v x.preds
def predAt (w : World) (A : Nat → Prop) (P : ByteArray → Prop) (g i : Nat) (x : Prd) : Prop := (∃ T, w.cell? ⟨g, i * 5, none⟩ = some (.string T) ∧ P T) ∧ (∃ v, w.cell? ⟨g, i * 5 + 1, none⟩ = some v ∧ hP w A P v x.kids) ∧ ∃ v, w.cell? ⟨g, i * 5 + 2, none⟩ = some v ∧ hS w A P v x.steps
theorem hrowS.at : ∀ (s : Stps) (k : Nat), hrowS w A P g k s ↔ ∀ i x, s.get i = some x → stepAt w A P g (k + i) x
  | .nil, k => ⟨fun _ i x h => by simp [Stps.get] at h, fun _ => by simp only [hrowS]⟩
  | .cons d t p m, k => by
    have ih := hrowS.at m (k + 1)
    simp only [hrowS]
    constructor
    · rintro ⟨h1, h2, h3⟩ i x hx
      cases i with
      | zero => simp only [Stps.get, Option.some.injEq] at hx; subst hx; exact ⟨h1, h2⟩
      | succ i => have := ih.1 h3 i x hx; rwa [show k + 1 + i = k + (i + 1) by omega] at this
    · intro h
      obtain ⟨h1, h2⟩ := h 0 _ rfl
      refine ⟨h1, h2, ih.2 fun i x hx => ?_⟩
      have := h (i + 1) x hx
      rwa [show k + (i + 1) = k + 1 + i by omega] at this
theorem hrowP.at : ∀ (s : Prds) (k : Nat), hrowP w A P g k s ↔ ∀ i x, s.get i = some x → predAt w A P g (k + i) x
  | .nil, k => ⟨fun _ i x h => by simp [Prds.get] at h, fun _ => by simp only [hrowP]⟩
  | .cons o ks ss a t m, k => by
    have ih := hrowP.at m (k + 1)
    simp only [hrowP]
    constructor
    · rintro ⟨h1, h2, h3, h4⟩ i x hx
      cases i with
      | zero => simp only [Prds.get, Option.some.injEq] at hx; subst hx; exact ⟨h1, h2, h3⟩
      | succ i => have := ih.1 h4 i x hx; rwa [show k + 1 + i = k + (i + 1) by omega] at this
    · intro h
      obtain ⟨h1, h2, h3⟩ := h 0 _ rfl
      refine ⟨h1, h2, h3, ih.2 fun i x hx => ?_⟩
      have := h (i + 1) x hx
      rwa [show k + (i + 1) = k + 1 + i by omega] at this
theorem hS_iff (s : Stps) : hS w A P v s ↔ (s.len = 0 ∧ v = nilS) ∨ ∃ g cap cur, v = .slice (some ⟨g, 0, none⟩) s.len cap ∧ A g ∧ w.heap[g]? = some (.cells cur 53 (0, 0)) ∧ s.len ≤ 1000 ∧ 0 < s.len ∧ ∀ i x, s.get i = some x → stepAt w A P g i x := by
  unfold hS sl
  simp only [hrowS.at, Nat.zero_add]
theorem hP_iff (s : Prds) : hP w A P v s ↔ (s.len = 0 ∧ v = nilS) ∨ ∃ g cap cur, v = .slice (some ⟨g, 0, none⟩) s.len cap ∧ A g ∧ w.heap[g]? = some (.cells cur 71 (0, 0)) ∧ s.len ≤ 1000 ∧ 0 < s.len ∧ ∀ i x, s.get i = some x → predAt w A P g i x := by
  unfold hP sl
  simp only [hrowP.at, Nat.zero_add]
mutual
theorem rowS.h : ∀ (s : Stps) (g k : Nat), rowS w A 53 71 g k s → hrowS w A (fun _ => True) g k s
  | .nil, _, _, _ => by simp only [hrowS]
  | .cons d t ps m, g, k, h => by
    simp only [rowS] at h
    simp only [hrowS]
    obtain ⟨h0, h1, ⟨v, h2, h3⟩, h4⟩ := h
    refine ⟨⟨_, h1, trivial⟩, ⟨v, h2, ?_⟩, rowS.h m g (k + 1) h4⟩
    rcases h3 with h3 | ⟨g', cap, cur, a, b, c, d, e, f⟩
    · exact Or.inl h3
    · exact Or.inr ⟨g', cap, cur, a, b, c, d, e, rowP.h ps g' 0 f⟩
theorem rowP.h : ∀ (s : Prds) (g k : Nat), rowP w A 53 71 g k s → hrowP w A (fun _ => True) g k s
  | .nil, _, _, _ => by simp only [hrowP]
  | .cons o ks ss a t m, g, k, h => by
    simp only [rowP] at h
    simp only [hrowP]
    obtain ⟨h0, ⟨v, h1, h2⟩, ⟨u, h3, h4⟩, h5, h6, h7⟩ := h
    refine ⟨⟨_, h0, trivial⟩, ⟨v, h1, ?_⟩, ⟨u, h3, ?_⟩, rowP.h m g (k + 1) h7⟩
    · rcases h2 with h2 | ⟨g', cap, cur, a, b, c, d, e, f⟩
      · exact Or.inl h2
      · exact Or.inr ⟨g', cap, cur, a, b, c, d, e, rowP.h ks g' 0 f⟩
    · rcases h4 with h4 | ⟨g', cap, cur, a, b, c, d, e, f⟩
      · exact Or.inl h4
      · exact Or.inr ⟨g', cap, cur, a, b, c, d, e, rowS.h ss g' 0 f⟩
end
theorem slS.h {s : Stps} (h : slS w A 53 71 v s) : hS w A (fun _ => True) v s := by
  rcases h with h | ⟨g', cap, cur, a, b, c, d, e, f⟩
  · exact Or.inl h
  · exact Or.inr ⟨g', cap, cur, a, b, c, d, e, rowS.h s g' 0 f⟩
structure Sp (lo : Nat) (w w' : World) : Prop where
  os : w'.os = w.os
  tape : w'.tape = w.tape
  output : w'.output = w.output
  size : w.heap.size ≤ w'.heap.size
  low : ∀ b : Nat, b < lo → w'.heap[b]? = w.heap[b]?
  all : ∀ b : Nat, b < w.heap.size → w'.heap[b]? = w.heap[b]? ∨ ∃ (t : TypeId) (k r : Nat) (cur cur' : Array Value), ((t = 53 ∧ k = 3 ∧ r = 1) ∨ (t = 71 ∧ k = 5 ∧ r = 0)) ∧ w.heap[b]? = some (Obj.cells cur t (0, 0)) ∧ w'.heap[b]? = some (Obj.cells cur' t (0, 0)) ∧ ∀ i : Nat, cur'[i]? = cur[i]? ∨ (i % k = r ∧ cur'[i]? = some (.string qm))
theorem Sp.refl (lo : Nat) (w : World) : Sp lo w w := ⟨rfl, rfl, rfl, Nat.le_refl _, fun _ _ => rfl, fun _ _ => Or.inl rfl⟩
theorem Sp.trans (h : Sp lo w w1) (h' : Sp lo w1 w2) : Sp lo w w2 := by
  refine ⟨h'.os.trans h.os, h'.tape.trans h.tape, h'.output.trans h.output, Nat.le_trans h.size h'.size, fun b hb => (h'.low b hb).trans (h.low b hb), fun b hlt => ?_⟩
  have hlt' := Nat.lt_of_lt_of_le hlt h.size
  rcases h.all b hlt with e | ⟨t, k, r, cur, cur', c1, c2, c3, c4⟩
  · rcases h'.all b hlt' with e' | ⟨t, k, r, cur, cur', c1, c2, c3, c4⟩
    · exact Or.inl (e'.trans e)
    · exact Or.inr ⟨t, k, r, cur, cur', c1, by rw [← e]; exact c2, c3, c4⟩
  · rcases h'.all b hlt' with e' | ⟨t', k', r', cur2, cur3, d1, d2, d3, d4⟩
    · exact Or.inr ⟨t, k, r, cur, cur', c1, c2, e'.trans c3, c4⟩
    · rw [c3] at d2
      simp only [Option.some.injEq, Obj.cells.injEq, and_true] at d2
      obtain ⟨rfl, rfl⟩ := d2
      obtain ⟨rfl, rfl⟩ : k = k' ∧ r = r' := by
        rcases c1 with ⟨rfl, rfl, rfl⟩ | ⟨rfl, rfl, rfl⟩ <;> rcases d1 with ⟨e, rfl, rfl⟩ | ⟨e, rfl, rfl⟩ <;> first | exact ⟨rfl, rfl⟩ | exact absurd e (by decide)
      refine Or.inr ⟨t, k, r, cur, cur3, c1, c2, d3, fun i => ?_⟩
      rcases d4 i with e1 | ⟨e1, e2⟩
      · rcases c4 i with f1 | ⟨f1, f2⟩
        · exact Or.inl (e1.trans f1)
        · exact Or.inr ⟨f1, e1.trans f2⟩
      · exact Or.inr ⟨e1, e2⟩
theorem Sp.below (h : Sp lo w w') (hl : lo ≤ w.heap.size) : Below lo w w' := ⟨h.os, h.tape, h.output, h.size, h.low⟩
theorem cell_of' {R i : Nat} {cs : Array Value} {t : TypeId} (h : w.heap[R]? = some (.cells cs t (0, 0))) : w.cell? ⟨R, i, none⟩ = cs[i]? := by
  cases hc : cs[i]? with
  | some v => exact cell_of h hc
  | none => simp [World.cell?, h, hc]
theorem Sp.of_below (h : Below w.heap.size w w') (hl : lo ≤ w.heap.size) : Sp lo w w' := ⟨h.os, h.tape, h.output, h.size, fun b hb => h.block b (by omega), fun b hb => Or.inl (h.block b hb)⟩
theorem Sp.other (h : Sp lo w w') {cur : Array Value} {t : TypeId} {fz : Nat × Nat} (hb : w.heap[g]? = some (.cells cur t fz)) (h1 : t ≠ 53) (h2 : t ≠ 71) : w'.heap[g]? = w.heap[g]? := by
  rcases h.all g (blk_lt hb) with e | ⟨t', k, r, c, c', d1, d2, d3, d4⟩
  · exact e
  · rw [hb] at d2
    simp only [Option.some.injEq, Obj.cells.injEq] at d2
    obtain ⟨-, rfl, -⟩ := d2
    rcases d1 with d1 | d1
    · exact absurd d1.1 h1
    · exact absurd d1.1 h2
theorem Sp.row53 (h : Sp lo w w') {cur : Array Value} (hb : w.heap[g]? = some (.cells cur 53 (0, 0))) : ∃ cur', w'.heap[g]? = some (.cells cur' 53 (0, 0)) ∧ ∀ i u, w.cell? ⟨g, i, none⟩ = some u → w'.cell? ⟨g, i, none⟩ = some u ∨ (i % 3 = 1 ∧ w'.cell? ⟨g, i, none⟩ = some (.string qm)) := by
  rcases h.all g (blk_lt hb) with e | ⟨t, k, r, c, c', h1, h2, h3, h4⟩
  · exact ⟨cur, e.trans hb, fun i u hu => Or.inl ((World.cell?_of_block e).trans hu)⟩
  · rw [hb] at h2
    simp only [Option.some.injEq, Obj.cells.injEq, and_true] at h2
    obtain ⟨rfl, rfl⟩ := h2
    obtain ⟨-, rfl, rfl⟩ : (53 : TypeId) = 53 ∧ k = 3 ∧ r = 1 := by rcases h1 with h1 | h1; exact h1; exact absurd h1.1 (by decide)
    refine ⟨c', h3, fun i u hu => ?_⟩
    have hu' : cur[i]? = some u := by rw [cell_of' hb] at hu; exact hu
    rcases h4 i with e | ⟨e1, e2⟩
    · exact Or.inl (cell_of h3 (e.trans hu'))
    · exact Or.inr ⟨e1, cell_of h3 e2⟩
theorem Sp.row71 (h : Sp lo w w') {cur : Array Value} (hb : w.heap[g]? = some (.cells cur 71 (0, 0))) : ∃ cur', w'.heap[g]? = some (.cells cur' 71 (0, 0)) ∧ ∀ i u, w.cell? ⟨g, i, none⟩ = some u → w'.cell? ⟨g, i, none⟩ = some u ∨ (i % 5 = 0 ∧ w'.cell? ⟨g, i, none⟩ = some (.string qm)) := by
  rcases h.all g (blk_lt hb) with e | ⟨t, k, r, c, c', h1, h2, h3, h4⟩
  · exact ⟨cur, e.trans hb, fun i u hu => Or.inl ((World.cell?_of_block e).trans hu)⟩
  · rw [hb] at h2
    simp only [Option.some.injEq, Obj.cells.injEq, and_true] at h2
    obtain ⟨rfl, rfl⟩ := h2
    obtain ⟨-, rfl, rfl⟩ : (71 : TypeId) = 71 ∧ k = 5 ∧ r = 0 := by rcases h1 with h1 | h1; exact absurd h1.1 (by decide); exact h1
    refine ⟨c', h3, fun i u hu => ?_⟩
    have hu' : cur[i]? = some u := by rw [cell_of' hb] at hu; exact hu
    rcases h4 i with e | ⟨e1, e2⟩
    · exact Or.inl (cell_of h3 (e.trans hu'))
    · exact Or.inr ⟨e1, cell_of h3 e2⟩
theorem Sp.set53 {cur : Array Value} (hb : w.heap[g]? = some (.cells cur 53 (0, 0))) (hl : lo ≤ g) (i : Nat) : Sp lo w (w.setCell ⟨g, i * 3 + 1, none⟩ (.string qm)) := by
  have f := fr_set w g (i * 3 + 1) (.string qm)
  refine ⟨f.os, f.tape, f.output, f.size, fun b hlt => Below.heap_setCell _ _ _ _ (show b ≠ g by omega), fun b _ => ?_⟩
  by_cases e : b = g
  · subst e
    refine Or.inr ⟨53, 3, 1, cur, _, Or.inl ⟨rfl, rfl, rfl⟩, hb, set_of hb _, fun j => ?_⟩
    rw [Array.getElem?_setIfInBounds]
    split
    · next hj =>
      split
      · exact Or.inr ⟨by omega, rfl⟩
      · next hn => exact Or.inl (by rw [Array.getElem?_eq_none (by omega)])
    · exact Or.inl rfl
  · exact Or.inl (Below.heap_setCell _ _ _ _ e)
theorem Sp.set71 {cur : Array Value} (hb : w.heap[g]? = some (.cells cur 71 (0, 0))) (hl : lo ≤ g) (i : Nat) : Sp lo w (w.setCell ⟨g, i * 5, none⟩ (.string qm)) := by
  have f := fr_set w g (i * 5) (.string qm)
  refine ⟨f.os, f.tape, f.output, f.size, fun b hlt => Below.heap_setCell _ _ _ _ (show b ≠ g by omega), fun b _ => ?_⟩
  by_cases e : b = g
  · subst e
    refine Or.inr ⟨71, 5, 0, cur, _, Or.inr ⟨rfl, rfl, rfl⟩, hb, set_of hb _, fun j => ?_⟩
    rw [Array.getElem?_setIfInBounds]
    split
    · next hj =>
      split
      · exact Or.inr ⟨by omega, rfl⟩
      · next hn => exact Or.inl (by rw [Array.getElem?_eq_none (by omega)])
    · exact Or.inl rfl
  · exact Or.inl (Below.heap_setCell _ _ _ _ e)
mutual
theorem hrowS.sp (hq : P qm) (h : Sp lo w w') : ∀ (s : Stps) (g k : Nat) (cur : Array Value), w.heap[g]? = some (.cells cur 53 (0, 0)) → hrowS w A P g k s → hrowS w' A P g k s
  | .nil, _, _, _, _, _ => by simp only [hrowS]
  | .cons d t ps m, g, k, cur, hb, hr => by
    simp only [hrowS] at hr ⊢
    obtain ⟨⟨T, h1, hT⟩, ⟨v, h2, h3⟩, h4⟩ := hr
    obtain ⟨cur', -, hc⟩ := h.row53 hb
    refine ⟨?_, ⟨v, (hc _ _ h2).resolve_right (fun x => by omega), ?_⟩, hrowS.sp hq h m g (k + 1) cur hb h4⟩
    · rcases hc _ _ h1 with e | ⟨-, e⟩
      · exact ⟨T, e, hT⟩
      · exact ⟨_, e, hq⟩
    · rcases h3 with h3 | ⟨g', cap, c2, a, b, c, d, e, f⟩
      · exact Or.inl h3
      · obtain ⟨c3, hc3, -⟩ := h.row71 c
        exact Or.inr ⟨g', cap, c3, a, b, hc3, d, e, hrowP.sp hq h ps g' 0 c2 c f⟩
theorem hrowP.sp (hq : P qm) (h : Sp lo w w') : ∀ (s : Prds) (g k : Nat) (cur : Array Value), w.heap[g]? = some (.cells cur 71 (0, 0)) → hrowP w A P g k s → hrowP w' A P g k s
  | .nil, _, _, _, _, _ => by simp only [hrowP]
  | .cons o ks ss a t m, g, k, cur, hb, hr => by
    simp only [hrowP] at hr ⊢
    obtain ⟨⟨T, h1, hT⟩, ⟨v, h2, h3⟩, ⟨u, h5, h6⟩, h4⟩ := hr
    obtain ⟨cur', -, hc⟩ := h.row71 hb
    refine ⟨?_, ⟨v, (hc _ _ h2).resolve_right (fun x => by omega), ?_⟩, ⟨u, (hc _ _ h5).resolve_right (fun x => by omega), ?_⟩, hrowP.sp hq h m g (k + 1) cur hb h4⟩
    · rcases hc _ _ h1 with e | ⟨-, e⟩
      · exact ⟨T, e, hT⟩
      · exact ⟨_, e, hq⟩
    · rcases h3 with h3 | ⟨g', cap, c2, a, b, c, d, e, f⟩
      · exact Or.inl h3
      · obtain ⟨c3, hc3, -⟩ := h.row71 c
        exact Or.inr ⟨g', cap, c3, a, b, hc3, d, e, hrowP.sp hq h ks g' 0 c2 c f⟩
    · rcases h6 with h3 | ⟨g', cap, c2, a, b, c, d, e, f⟩
      · exact Or.inl h3
      · obtain ⟨c3, hc3, -⟩ := h.row53 c
        exact Or.inr ⟨g', cap, c3, a, b, hc3, d, e, hrowS.sp hq h ss g' 0 c2 c f⟩
end
theorem hS.sp (hq : P qm) (h : Sp lo w w') {s : Stps} (x : hS w A P v s) : hS w' A P v s := by
  rcases x with x | ⟨g', cap, c2, a, b, c, d, e, f⟩
  · exact Or.inl x
  · obtain ⟨c3, hc3, -⟩ := h.row53 c
    exact Or.inr ⟨g', cap, c3, a, b, hc3, d, e, hrowS.sp hq h s g' 0 c2 c f⟩
theorem hP.sp (hq : P qm) (h : Sp lo w w') {s : Prds} (x : hP w A P v s) : hP w' A P v s := by
  rcases x with x | ⟨g', cap, c2, a, b, c, d, e, f⟩
  · exact Or.inl x
  · obtain ⟨c3, hc3, -⟩ := h.row71 c
    exact Or.inr ⟨g', cap, c3, a, b, hc3, d, e, hrowP.sp hq h s g' 0 c2 c f⟩
theorem stepAt.sp (hq : P qm) (h : Sp lo w w') {cur : Array Value} (hb : w.heap[g]? = some (.cells cur 53 (0, 0))) {x : Stp} (hx : stepAt w A P g i x) : stepAt w' A P g i x := by
  obtain ⟨⟨T, h1, hT⟩, v, h2, h3⟩ := hx
  obtain ⟨cur', -, hc⟩ := h.row53 hb
  refine ⟨?_, v, (hc _ _ h2).resolve_right (fun x => by omega), h3.sp hq h⟩
  rcases hc _ _ h1 with e | ⟨-, e⟩
  · exact ⟨T, e, hT⟩
  · exact ⟨_, e, hq⟩
theorem predAt.sp (hq : P qm) (h : Sp lo w w') {cur : Array Value} (hb : w.heap[g]? = some (.cells cur 71 (0, 0))) {x : Prd} (hx : predAt w A P g i x) : predAt w' A P g i x := by
  obtain ⟨⟨T, h1, hT⟩, ⟨v, h2, h3⟩, u, h4, h5⟩ := hx
  obtain ⟨cur', -, hc⟩ := h.row71 hb
  refine ⟨?_, ⟨v, (hc _ _ h2).resolve_right (fun x => by omega), h3.sp hq h⟩, u, (hc _ _ h4).resolve_right (fun x => by omega), h5.sp hq h⟩
  rcases hc _ _ h1 with e | ⟨-, e⟩
  · exact ⟨T, e, hT⟩
  · exact ⟨_, e, hq⟩
abbrev any : ByteArray → Prop := fun _ => True
abbrev isQ : ByteArray → Prop := fun T => T = qm
def SpS (s : Stps) : Prop := ∀ (lo : Nat) (w : World) (v : Value), hS w (fun b => lo ≤ b) any v s → Calls Tryd.prog 12 #[v] w fun e w' => e = .returned (.tuple #[]) ∧ Sp lo w w' ∧ hS w' (fun b => lo ≤ b) isQ v s
def SpP (s : Prds) : Prop := ∀ (lo : Nat) (w : World) (v : Value), hP w (fun b => lo ≤ b) any v s → Calls Tryd.prog 22 #[v] w fun e w' => e = .returned (.tuple #[]) ∧ Sp lo w w' ∧ hP w' (fun b => lo ≤ b) isQ v s
def LkS (s : Stps) : Prop := ∀ (w : World) (A : Nat → Prop) (v : Value), hS w A isQ v s → Calls Tryd.prog 13 #[v] w fun e w' => e = .returned (.bool true) ∧ w' = w
def LkP (s : Prds) : Prop := ∀ (w : World) (A : Nat → Prop) (v : Value), hP w A isQ v s → Calls Tryd.prog 23 #[v] w fun e w' => e = .returned (.bool true) ∧ w' = w
end Go.Proofs.YtigpjemceodjcaaDoor

set_option linter.unusedSimpArgs false
set_option linter.unusedVariables false
namespace Go.Proofs.YtigpjemceodjcaaDoor
open Go.RowKit Go.Maps Go.Lib
variable {w w' w1 w2 WO wr W W1 W2 : World} {A A' : Nat → Prop} {v v' va vb : Value} {P : ByteArray → Prop} {lo g i : Nat}
theorem Stps.get_some : ∀ (s : Stps) (i : Nat) (x : Stp), s.get i = some x → i < s.len
  | .nil, i, x, h => by simp [Stps.get] at h
  | .cons d t p m, 0, x, h => by simp [Stps.len]
  | .cons d t p m, i + 1, x, h => by have := Stps.get_some m i x h; simp [Stps.len]; omega
theorem Prds.get_some : ∀ (s : Prds) (i : Nat) (x : Prd), s.get i = some x → i < s.len
  | .nil, i, x, h => by simp [Prds.get] at h
  | .cons o k ss a t m, 0, x, h => by simp [Prds.len]
  | .cons o k ss a t m, i + 1, x, h => by have := Prds.get_some m i x h; simp [Prds.len]; omega
theorem hS.len {s : Stps} (h : hS w A P v s) : ∃ ai cap, v = .slice ai s.len cap ∧ s.len ≤ 1000 := by
  rcases h with ⟨h, rfl⟩ | ⟨g, cap, cur, rfl, _, _, hn, _⟩
  · exact ⟨_, _, by rw [h], by omega⟩
  · exact ⟨_, _, rfl, hn⟩
theorem hP.len {s : Prds} (h : hP w A P v s) : ∃ ai cap, v = .slice ai s.len cap ∧ s.len ≤ 1000 := by
  rcases h with ⟨h, rfl⟩ | ⟨g, cap, cur, rfl, _, _, hn, _⟩
  · exact ⟨_, _, by rw [h], by omega⟩
  · exact ⟨_, _, rfl, hn⟩
theorem hS.at {s : Stps} {ai : Option Addr} {n cap : Nat} {x : Stp} (h : hS w A P (.slice ai n cap) s) (hx : s.get i = some x) : ∃ g, ai = some ⟨g, 0, none⟩ ∧ A g ∧ (∃ cur, w.heap[g]? = some (.cells cur 53 (0, 0))) ∧ stepAt w A P g i x := by
  rcases (hS_iff s).1 h with ⟨h, _⟩ | ⟨g, cap', cur, e, ha, hb, hn, h0, hr⟩
  · exfalso
    cases s with
    | nil => simp [Stps.get] at hx
    | cons d t p m => simp [Stps.len] at h
  · cases e
    exact ⟨g, rfl, ha, ⟨cur, hb⟩, hr i x hx⟩
theorem hP.at {s : Prds} {ai : Option Addr} {n cap : Nat} {x : Prd} (h : hP w A P (.slice ai n cap) s) (hx : s.get i = some x) : ∃ g, ai = some ⟨g, 0, none⟩ ∧ A g ∧ (∃ cur, w.heap[g]? = some (.cells cur 71 (0, 0))) ∧ predAt w A P g i x := by
  rcases (hP_iff s).1 h with ⟨h, _⟩ | ⟨g, cap', cur, e, ha, hb, hn, h0, hr⟩
  · exfalso
    cases s with
    | nil => simp [Prds.get] at hx
    | cons o k ss a t m => simp [Prds.len] at h
  · cases e
    exact ⟨g, rfl, ha, ⟨cur, hb⟩, hr i x hx⟩
set_option maxHeartbeats 8000000 in
set_option maxRecDepth 100000 in
theorem lookS_loop (s : Stps) (hs : ∀ i x, s.get i = some x → LkP x.preds) : LkS s := by
  intro w A v h
  obtain ⟨ai, ac, rfl, hn⟩ := h.len
  have HP : Hid (∀ i, i < s.len → ∃ g p, ai = some ⟨g, 0, none⟩ ∧ w.cell? ⟨g, i * 3 + 1, none⟩ = some (.string ⟨#[63]⟩) ∧ w.cell? ⟨g, i * 3 + 2, none⟩ = some p ∧ Calls Tryd.prog 23 #[p] w fun e w' => e = .returned (.bool true) ∧ w' = w) := fun i hi => by
    obtain ⟨x, hx⟩ := s.get_lt i hi
    obtain ⟨g, e1, -, -, ⟨T, a1, hT⟩, p, a2, q1⟩ := h.at hx
    cases hT
    exact ⟨g, p, e1, a1, a2, hs i x hx w A p q1⟩
  clear h hs
  generalize s.len = n at *
  go_enter Tryd.func13, Tryd.ntmps13
  go_wp2_with fail
  go_loopw [3, 4] (fun iv _ wr => ∃ i : Nat, iv = .int .i64 i ∧ i ≤ n ∧ wr = w) (fun iv _ _ => n - (RowKit.intOf iv).toNat)
  case atStart => exact ⟨0, rfl, Nat.zero_le _, rfl⟩
  case round =>
    obtain ⟨i, rfl, hi, rfl⟩ := hrel
    by_cases hlt : i < n
    · obtain ⟨g, p, rfl, a1, a2, hcl⟩ := HP.out i hlt
      have hdec : decide ((i : Int) < n) = true := by simp; omega
      have hii : (i : Int) < n := by omega
      have HCL := hide hcl
      clear hcl HP
      go_wp2_with (first | (go_at_call 23; refine HCL.out.mono ?_; rintro e w2 ⟨rfl, rfl⟩))
      exact ⟨⟨i + 1, by simp, by omega, trivial⟩, by simp only [RowKit.intOf]; omega⟩
    · have hdec : decide ((i : Int) < n) = false := by simp; omega
      go_wp2
      go_ret
      exact ⟨rfl, rfl⟩
set_option maxHeartbeats 8000000 in
set_option maxRecDepth 100000 in
theorem lookP_loop (s : Prds) (hs : ∀ i x, s.get i = some x → LkP x.kids ∧ LkS x.steps) : LkP s := by
  intro w A v h
  obtain ⟨ai, ac, rfl, hn⟩ := h.len
  have HP : Hid (∀ i, i < s.len → ∃ g k p, ai = some ⟨g, 0, none⟩ ∧ w.cell? ⟨g, i * 5, none⟩ = some (.string ⟨#[63]⟩) ∧ w.cell? ⟨g, i * 5 + 1, none⟩ = some k ∧ w.cell? ⟨g, i * 5 + 2, none⟩ = some p ∧ (Calls Tryd.prog 23 #[k] w fun e w' => e = .returned (.bool true) ∧ w' = w) ∧ Calls Tryd.prog 13 #[p] w fun e w' => e = .returned (.bool true) ∧ w' = w) := fun i hi => by
    obtain ⟨x, hx⟩ := s.get_lt i hi
    obtain ⟨g, e1, -, -, ⟨T, a1, hT⟩, ⟨k, a2, q1⟩, p, a3, q2⟩ := h.at hx
    cases hT
    exact ⟨g, k, p, e1, a1, a2, a3, (hs i x hx).1 w A k q1, (hs i x hx).2 w A p q2⟩
  clear h hs
  generalize s.len = n at *
  go_enter Tryd.func23, Tryd.ntmps23
  go_wp2_with fail
  go_loopw [3, 4, 5] (fun iv _ _ wr => ∃ i : Nat, iv = .int .i64 i ∧ i ≤ n ∧ wr = w) (fun iv _ _ _ => n - (RowKit.intOf iv).toNat)
  case atStart => exact ⟨0, rfl, Nat.zero_le _, rfl⟩
  case round =>
    obtain ⟨i, rfl, hi, rfl⟩ := hrel
    by_cases hlt : i < n
    · obtain ⟨g, k, p, rfl, a1, a2, a3, hck, hcl⟩ := HP.out i hlt
      have hdec : decide ((i : Int) < n) = true := by simp; omega
      have hii : (i : Int) < n := by omega
      have HCL := hide hcl
      have HCK := hide hck
      clear hcl hck HP
      go_wp2_with (first | (go_at_call 23; refine HCK.out.mono ?_; rintro e w2 ⟨rfl, rfl⟩) | (go_at_call 13; refine HCL.out.mono ?_; rintro e w2 ⟨rfl, rfl⟩))
      exact ⟨⟨i + 1, by simp, by omega, trivial⟩, by simp only [RowKit.intOf]; omega⟩
    · have hdec : decide ((i : Int) < n) = false := by simp; omega
      go_wp2
      go_ret
      exact ⟨rfl, rfl⟩
theorem look_all : (∀ s : Stps, ∀ i x, s.get i = some x → LkP x.preds) ∧ ∀ s : Prds, ∀ i x, s.get i = some x → LkP x.kids ∧ LkS x.steps := by
  refine ⟨fun s => Stps.rec (motive_1 := fun s => ∀ i x, s.get i = some x → LkP x.preds) (motive_2 := fun s => ∀ i x, s.get i = some x → LkP x.kids ∧ LkS x.steps) ?_ ?_ ?_ ?_ s, fun s => Prds.rec (motive_1 := fun s => ∀ i x, s.get i = some x → LkP x.preds) (motive_2 := fun s => ∀ i x, s.get i = some x → LkP x.kids ∧ LkS x.steps) ?_ ?_ ?_ ?_ s⟩
  all_goals first
    | (intro i x h; cases h; done)
    | (intro d t p m ih1 ih2 i x h
       cases i with
       | zero => cases h; exact lookP_loop _ ih1
       | succ i => exact ih2 i x h)
    | (intro o k s a t m ih1 ih2 ih3 i x h
       cases i with
       | zero => cases h; exact ⟨lookP_loop _ ih1, lookS_loop _ ih2⟩
       | succ i => exact ih3 i x h)
theorem lookS_ok (s : Stps) : LkS s := lookS_loop s (look_all.1 s)
structure LS (lo : Nat) (w : World) (s : Stps) (ai : Option Addr) (wr : World) (i : Nat) : Prop where
  sp : Sp lo w wr
  done : ∀ g, ai = some ⟨g, 0, none⟩ → ∀ j x, j < i → s.get j = some x → stepAt wr (fun b => lo ≤ b) isQ g j x
structure LP (lo : Nat) (w : World) (s : Prds) (ai : Option Addr) (wr : World) (i : Nat) : Prop where
  sp : Sp lo w wr
  done : ∀ g, ai = some ⟨g, 0, none⟩ → ∀ j x, j < i → s.get j = some x → predAt wr (fun b => lo ≤ b) isQ g j x
theorem LS.next {s : Stps} (hs : ∀ i x, s.get i = some x → SpP x.preds) {ai : Option Addr} {n cap : Nat} (h : hS w (fun b => lo ≤ b) any (.slice ai n cap) s) (hl : LS lo w s ai wr i) (hi : i < s.len) :
    ∃ g T p W, ai = some ⟨g, 0, none⟩ ∧ wr.cell? ⟨g, i * 3 + 1, none⟩ = some (.string T) ∧ wr.frozen? ⟨g, i * 3 + 1, none⟩ = false ∧ wr.setCell ⟨g, i * 3 + 1, none⟩ (.string ⟨#[63]⟩) = W ∧ W.cell? ⟨g, i * 3 + 2, none⟩ = some p ∧ Calls Tryd.prog 22 #[p] W fun e w' => e = .returned (.tuple #[]) ∧ LS lo w s ai w' (i + 1) := by
  obtain ⟨x, hx⟩ := s.get_lt i hi
  have h1 := h.sp (P := any) trivial hl.sp
  obtain ⟨g, rfl, hg, ⟨cur, hb⟩, ⟨T, a1, -⟩, p, a2, q⟩ := h1.at hx
  have hset := Sp.set53 hb hg i
  obtain ⟨cur2, hb2, hc2⟩ := hset.row53 hb
  have a2' := (hc2 _ _ a2).resolve_right (fun x => by omega)
  refine ⟨g, T, p, _, rfl, a1, free_of hb, rfl, a2', ?_⟩
  refine (hs i x hx lo _ p (q.sp trivial hset)).mono fun e w' ⟨he, sp2, hq⟩ => ⟨he, hl.sp.trans (hset.trans sp2), fun g' e' j y hj hy => ?_⟩
  cases e'
  by_cases hji : j < i
  · exact ((hl.done g rfl j y hji hy).sp (P := isQ) rfl hset hb).sp (P := isQ) rfl sp2 hb2
  · obtain rfl : j = i := by omega
    obtain rfl := Option.some.inj (hx.symm.trans hy)
    obtain ⟨cur3, hb3, hc3⟩ := sp2.row53 hb2
    have t1 : (wr.setCell ⟨g, j * 3 + 1, none⟩ (.string qm)).cell? ⟨g, j * 3 + 1, none⟩ = some (.string qm) := by
      have hlt : j * 3 + 1 < cur.size := by
        have := a1; rw [cell_of' hb] at this
        exact (Array.getElem?_eq_some_iff.1 this).1
      exact cell_of (set_of hb _) (by rw [Array.getElem?_setIfInBounds, if_pos rfl, if_pos hlt])
    refine ⟨⟨qm, ?_, rfl⟩, p, (hc3 _ _ a2').resolve_right (fun x => by omega), hq⟩
    rcases hc3 _ _ t1 with e | ⟨-, e⟩ <;> exact e
theorem LS.fin {s : Stps} {ai : Option Addr} {cap : Nat} (h : hS w (fun b => lo ≤ b) any (.slice ai s.len cap) s) (hl : LS lo w s ai wr s.len) : hS wr (fun b => lo ≤ b) isQ (.slice ai s.len cap) s := by
  rw [hS_iff]
  have h1 := (hS_iff s).1 (h.sp (P := any) trivial hl.sp)
  rcases h1 with h1 | ⟨g, c, cur, e, a, b, d, f, k⟩
  · exact Or.inl h1
  · cases e
    refine Or.inr ⟨g, cap, cur, rfl, a, b, d, f, fun i x hx => hl.done g rfl i x ?_ hx⟩
    by_cases hi : i < s.len
    · exact hi
    · exfalso; exact absurd (Stps.get_some s i x hx) hi
theorem LP.next {s : Prds} (hs : ∀ i x, s.get i = some x → SpP x.kids ∧ SpS x.steps) {ai : Option Addr} {n cap : Nat} (h : hP w (fun b => lo ≤ b) any (.slice ai n cap) s) (hl : LP lo w s ai wr i) (hi : i < s.len) :
    ∃ g T k W, ai = some ⟨g, 0, none⟩ ∧ wr.cell? ⟨g, i * 5, none⟩ = some (.string T) ∧ wr.frozen? ⟨g, i * 5, none⟩ = false ∧ wr.setCell ⟨g, i * 5, none⟩ (.string ⟨#[63]⟩) = W ∧ W.cell? ⟨g, i * 5 + 1, none⟩ = some k ∧ Calls Tryd.prog 22 #[k] W fun e w2 => e = .returned (.tuple #[]) ∧ ∃ p, w2.cell? ⟨g, i * 5 + 2, none⟩ = some p ∧ Calls Tryd.prog 12 #[p] w2 fun e w' => e = .returned (.tuple #[]) ∧ LP lo w s ai w' (i + 1) := by
  obtain ⟨x, hx⟩ := s.get_lt i hi
  have h1 := h.sp (P := any) trivial hl.sp
  obtain ⟨g, rfl, hg, ⟨cur, hb⟩, ⟨T, a1, -⟩, ⟨k, a2, q⟩, p, a3, q3⟩ := h1.at hx
  have hset := Sp.set71 hb hg i
  obtain ⟨cur2, hb2, hc2⟩ := hset.row71 hb
  have a2' := (hc2 _ _ a2).resolve_right (fun x => by omega)
  have a3' := (hc2 _ _ a3).resolve_right (fun x => by omega)
  refine ⟨g, T, k, _, rfl, a1, free_of hb, rfl, a2', ?_⟩
  refine ((hs i x hx).1 lo _ k (q.sp trivial hset)).mono fun e w2 ⟨he, sp2, hq⟩ => ⟨he, p, ?_, ?_⟩
  · obtain ⟨cur3, hb3, hc3⟩ := sp2.row71 hb2
    exact (hc3 _ _ a3').resolve_right (fun x => by omega)
  · refine ((hs i x hx).2 lo w2 p ((q3.sp trivial hset).sp trivial sp2)).mono fun e w3 ⟨he, sp3, hq3⟩ => ⟨he, hl.sp.trans (hset.trans (sp2.trans sp3)), fun g' e' j y hj hy => ?_⟩
    cases e'
    obtain ⟨cur3, hb3, hc3⟩ := sp2.row71 hb2
    obtain ⟨cur4, hb4, hc4⟩ := sp3.row71 hb3
    by_cases hji : j < i
    · exact (((hl.done g rfl j y hji hy).sp (P := isQ) rfl hset hb).sp (P := isQ) rfl sp2 hb2).sp (P := isQ) rfl sp3 hb3
    · obtain rfl : j = i := by omega
      obtain rfl := Option.some.inj (hx.symm.trans hy)
      have t1 : (wr.setCell ⟨g, j * 5, none⟩ (.string qm)).cell? ⟨g, j * 5, none⟩ = some (.string qm) := by
        have hlt : j * 5 < cur.size := by
          have := a1; rw [cell_of' hb] at this
          exact (Array.getElem?_eq_some_iff.1 this).1
        exact cell_of (set_of hb _) (by rw [Array.getElem?_setIfInBounds, if_pos rfl, if_pos hlt])
      have t2 : w2.cell? ⟨g, j * 5, none⟩ = some (.string qm) := by rcases hc3 _ _ t1 with e | ⟨-, e⟩ <;> exact e
      have t3 : w3.cell? ⟨g, j * 5, none⟩ = some (.string qm) := by rcases hc4 _ _ t2 with e | ⟨-, e⟩ <;> exact e
      have k2 := (hc3 _ _ a2').resolve_right (fun x => by omega)
      have p2 := (hc3 _ _ a3').resolve_right (fun x => by omega)
      exact ⟨⟨qm, t3, rfl⟩, ⟨k, (hc4 _ _ k2).resolve_right (fun x => by omega), hq.sp (P := isQ) rfl sp3⟩, p, (hc4 _ _ p2).resolve_right (fun x => by omega), hq3⟩
theorem LP.fin {s : Prds} {ai : Option Addr} {cap : Nat} (h : hP w (fun b => lo ≤ b) any (.slice ai s.len cap) s) (hl : LP lo w s ai wr s.len) : hP wr (fun b => lo ≤ b) isQ (.slice ai s.len cap) s := by
  rw [hP_iff]
  have h1 := (hP_iff s).1 (h.sp (P := any) trivial hl.sp)
  rcases h1 with h1 | ⟨g, c, cur, e, a, b, d, f, k⟩
  · exact Or.inl h1
  · cases e
    exact Or.inr ⟨g, cap, cur, rfl, a, b, d, f, fun i x hx => hl.done g rfl i x (Prds.get_some s i x hx) hx⟩
set_option maxHeartbeats 8000000 in
set_option maxRecDepth 100000 in
theorem spoilS_loop (s : Stps) (hs : ∀ i x, s.get i = some x → SpP x.preds) : SpS s := by
  intro lo w v h
  obtain ⟨ai, ac, rfl, hn⟩ := h.len
  have HN : Hid (∀ wr i, LS lo w s ai wr i → i < s.len → _) := fun wr i hl hi => LS.next hs h hl hi
  have HF : Hid (∀ wr, LS lo w s ai wr s.len → hS wr (fun b => lo ≤ b) isQ (.slice ai s.len ac) s) := fun wr hl => LS.fin h hl
  clear h hs
  generalize s.len = n at *
  go_enter Tryd.func12, Tryd.ntmps12
  go_wp2_with fail
  go_loopw [2] (fun iv wr => ∃ i : Nat, iv = .int .i64 i ∧ i ≤ n ∧ LS lo w s ai wr i) (fun iv _ => n - (RowKit.intOf iv).toNat)
  case atStart => exact ⟨0, rfl, Nat.zero_le _, Sp.refl _ _, fun g e j x hj => by omega⟩
  case round =>
    rename World => WO
    obtain ⟨i, rfl, hi, hl⟩ := hrel
    by_cases hlt : i < n
    · obtain ⟨g, T, p, W, rfl, a1, a2, hW, a3, hcl⟩ := HN.out WO i hl hlt
      have hdec : decide ((i : Int) < n) = true := by simp; omega
      have hii : (i : Int) < n := by omega
      have HCL := hide hcl
      clear hcl HN
      go_wp2_with (first | (go_at_call 22; refine HCL.out.mono ?_; rintro e w2 ⟨rfl, hl2⟩))
      exact ⟨⟨i + 1, by simp, by omega, hl2⟩, by simp only [RowKit.intOf]; omega⟩
    · have hdec : decide ((i : Int) < n) = false := by simp; omega
      obtain rfl : i = n := by omega
      have hf := HF.out _ hl
      go_wp2
      go_end0
      exact ⟨rfl, hl.sp, hf⟩
set_option maxHeartbeats 8000000 in
set_option maxRecDepth 100000 in
theorem spoilP_loop (s : Prds) (hs : ∀ i x, s.get i = some x → SpP x.kids ∧ SpS x.steps) : SpP s := by
  intro lo w v h
  obtain ⟨ai, ac, rfl, hn⟩ := h.len
  have HN : Hid (∀ wr i, LP lo w s ai wr i → i < s.len → _) := fun wr i hl hi => LP.next hs h hl hi
  have HF : Hid (∀ wr, LP lo w s ai wr s.len → hP wr (fun b => lo ≤ b) isQ (.slice ai s.len ac) s) := fun wr hl => LP.fin h hl
  clear h hs
  generalize s.len = n at *
  go_enter Tryd.func22, Tryd.ntmps22
  go_wp2_with fail
  go_loopw [2] (fun iv wr => ∃ i : Nat, iv = .int .i64 i ∧ i ≤ n ∧ LP lo w s ai wr i) (fun iv _ => n - (RowKit.intOf iv).toNat)
  case atStart => exact ⟨0, rfl, Nat.zero_le _, Sp.refl _ _, fun g e j x hj => by omega⟩
  case round =>
    rename World => WO
    obtain ⟨i, rfl, hi, hl⟩ := hrel
    by_cases hlt : i < n
    · obtain ⟨g, T, k, W, rfl, a1, a2, hW, a3, hcl⟩ := HN.out WO i hl hlt
      have hdec : decide ((i : Int) < n) = true := by simp; omega
      have hii : (i : Int) < n := by omega
      have HCL := hide hcl
      clear hcl HN
      go_wp2_with (first | (go_at_call 22; refine HCL.out.mono ?_; rintro e w2 ⟨rfl, p, a4, hc2⟩; have HC2 := hide hc2; clear hc2) | (go_at_call 12; refine HC2.out.mono ?_; rintro e w3 ⟨rfl, hl2⟩))
      exact ⟨⟨i + 1, by simp, by omega, hl2⟩, by simp only [RowKit.intOf]; omega⟩
    · have hdec : decide ((i : Int) < n) = false := by simp; omega
      obtain rfl : i = n := by omega
      have hf := HF.out _ hl
      go_wp2
      go_end0
      exact ⟨rfl, hl.sp, hf⟩
theorem spoil_all : (∀ s : Stps, ∀ i x, s.get i = some x → SpP x.preds) ∧ ∀ s : Prds, ∀ i x, s.get i = some x → SpP x.kids ∧ SpS x.steps := by
  refine ⟨fun s => Stps.rec (motive_1 := fun s => ∀ i x, s.get i = some x → SpP x.preds) (motive_2 := fun s => ∀ i x, s.get i = some x → SpP x.kids ∧ SpS x.steps) ?_ ?_ ?_ ?_ s, fun s => Prds.rec (motive_1 := fun s => ∀ i x, s.get i = some x → SpP x.preds) (motive_2 := fun s => ∀ i x, s.get i = some x → SpP x.kids ∧ SpS x.steps) ?_ ?_ ?_ ?_ s⟩
  all_goals first
    | (intro i x h; cases h; done)
    | (intro d t p m ih1 ih2 i x h
       cases i with
       | zero => cases h; exact spoilP_loop _ ih1
       | succ i => exact ih2 i x h)
    | (intro o k s a t m ih1 ih2 ih3 i x h
       cases i with
       | zero => cases h; exact ⟨spoilP_loop _ ih1, spoilS_loop _ ih2⟩
       | succ i => exact ih3 i x h)
theorem spoilS_ok (s : Stps) : SpS s := spoilS_loop s (spoil_all.1 s)
end Go.Proofs.YtigpjemceodjcaaDoor

set_option linter.unusedSimpArgs false
set_option linter.unusedVariables false
namespace Go.Proofs.YtigpjemceodjcaaDoor
open Go.RowKit Go.Maps Go.Lib
variable {w w' w1 w2 WO wr W W1 W2 : World} {A A' : Nat → Prop} {v v' va vb : Value} {P : ByteArray → Prop} {lo g i : Nat}
theorem pair_sm {l : List (List Stp)} {p : List Stp} {ai bi : Option Addr} {n c n' c' i : Nat} (h1 : QS W A 34 53 71 (.slice ai n c) l) (h2 : QS W A' 50 69 80 (.slice bi n' c') l) (e1 : l[i]? = some p) : ∃ g1 g2 u1 u2, ai = some ⟨g1, 0, none⟩ ∧ bi = some ⟨g2, 0, none⟩ ∧ W.cell? ⟨g1, i, none⟩ = some u1 ∧ W.cell? ⟨g2, i, none⟩ = some u2 ∧ ∀ k, Calls Tryd.prog 20 #[u1, u2] (W.drewN k) fun e w' => e = .returned (.bool true) ∧ ∃ m, w' = (W.drewN k).drewN m := by
  obtain ⟨g1, rfl, -, u1, c1, s1⟩ := h1.at e1
  obtain ⟨g2, rfl, -, u2, c2, s2⟩ := h2.at e1
  exact ⟨g1, g2, u1, u2, rfl, rfl, c1, c2, fun k => smS_ok _ _ _ _ _ _ (s1.drew k) (s2.drew k)⟩
set_option maxHeartbeats 8000000 in
set_option maxRecDepth 100000 in
theorem same_ok {l : List (List Stp)} (h1 : QS w A 34 53 71 va l) (h2 : QS w A' 50 69 80 vb l) : Calls Tryd.prog 8 #[va, vb] w fun e w' => e = .returned (.bool true) ∧ ∃ m, w' = w.drewN m := by
  obtain ⟨ai, ac, rfl, hn⟩ := h1.len
  obtain ⟨bi, bc, rfl, -⟩ := h2.len
  have HP : Hid (∀ m i, i < l.length → ∃ g1 g2 u1 u2, ai = some ⟨g1, 0, none⟩ ∧ bi = some ⟨g2, 0, none⟩ ∧ (w.drewN m).cell? ⟨g1, i, none⟩ = some u1 ∧ (w.drewN m).cell? ⟨g2, i, none⟩ = some u2 ∧ ∀ k, Calls Tryd.prog 20 #[u1, u2] ((w.drewN m).drewN k) fun e w' => e = .returned (.bool true) ∧ ∃ j, w' = ((w.drewN m).drewN k).drewN j) := fun m i hi => pair_sm (h1.drew m) (h2.drew m) (List.getElem?_eq_getElem hi)
  clear h1 h2
  generalize l.length = n at *
  have hnn : ((n : Int) != n) = false := by simp
  go_enter Tryd.func8, Tryd.ntmps8
  go_wp2_with fail
  go_loopw [5, 6] (fun iv _ wr => ∃ i : Nat, iv = .int .i64 i ∧ i ≤ n ∧ ∃ m, wr = w.drewN m) (fun iv _ _ => n - (RowKit.intOf iv).toNat)
  case atStart => exact ⟨0, rfl, Nat.zero_le _, 0, rfl⟩
  case round =>
    obtain ⟨i, rfl, hi, m, rfl⟩ := hrel
    by_cases hlt : i < n
    · obtain ⟨g1, g2, u1, u2, rfl, rfl, a1, a2, hcl⟩ := HP.out m i hlt
      have hdec : decide ((i : Int) < n) = true := by simp; omega
      have hii : (i : Int) < n := by omega
      have HCL := hide hcl
      have HW : Hid (∀ k, ∃ m', (w.drewN m).drewN k = w.drewN m') := fun k => ⟨m + k, by rw [World.drewN_drewN]⟩
      clear hcl HP
      generalize w.drewN m = WO at *
      go_wp2_with fail
      go_quiet (first | (go_at_call 20; refine Calls.quiet_of (HCL.out _)))
      go_wp2
      exact ⟨⟨i + 1, by simp, by omega, HW.out _⟩, by simp only [RowKit.intOf]; omega⟩
    · have hdec : decide ((i : Int) < n) = false := by simp; omega
      go_wp2
      go_ret
      exact ⟨rfl, m, rfl⟩
structure LQ (lo : Nat) (w : World) (l : List (List Stp)) (ai : Option Addr) (wr : World) (i : Nat) : Prop where
  sp : Sp lo w wr
  done : ∀ g, ai = some ⟨g, 0, none⟩ → ∀ j p, j < i → l[j]? = some p → ∃ u, wr.cell? ⟨g, j, none⟩ = some u ∧ hS wr (fun b => lo ≤ b) isQ u (Stps.of p)
theorem QS.block {l : List (List Stp)} {ai : Option Addr} {n cap i : Nat} {p : List Stp} (h : QS w A 34 53 71 (.slice ai n cap) l) (hx : l[i]? = some p) : ∃ g cur, ai = some ⟨g, 0, none⟩ ∧ w.heap[g]? = some (.cells cur 34 (0, 0)) ∧ ∃ u, w.cell? ⟨g, i, none⟩ = some u ∧ slS w A 53 71 u (Stps.of p) := by
  rcases h with ⟨h, _⟩ | ⟨g, cap', cur, e, ha, hb, hn, h0, hr⟩
  · exfalso
    have := List.length_eq_zero_iff.1 h
    subst this
    simp at hx
  · cases e
    exact ⟨g, cur, rfl, hb, hr i p hx⟩
theorem Sp.cell34 (h : Sp lo w w') {cur : Array Value} (hb : w.heap[g]? = some (.cells cur 34 (0, 0))) {u : Value} (hu : w.cell? ⟨g, i, none⟩ = some u) : w'.cell? ⟨g, i, none⟩ = some u := (World.cell?_of_block (h.other hb (by decide) (by decide))).trans hu
theorem LQ.next {l : List (List Stp)} {ai : Option Addr} {n cap : Nat} (h : QS w (fun b => lo ≤ b) 34 53 71 (.slice ai n cap) l) (hl : LQ lo w l ai wr i) (hi : i < l.length) :
    ∃ g u, ai = some ⟨g, 0, none⟩ ∧ wr.cell? ⟨g, i, none⟩ = some u ∧ Calls Tryd.prog 12 #[u] wr fun e w' => e = .returned (.tuple #[]) ∧ LQ lo w l ai w' (i + 1) := by
  obtain ⟨g, cur, rfl, hb, u, hu, sl⟩ := h.block (List.getElem?_eq_getElem hi)
  have hu1 := hl.sp.cell34 hb hu
  refine ⟨g, u, rfl, hu1, ?_⟩
  refine (spoilS_ok _ lo wr u ((slS.h sl).sp (P := any) trivial hl.sp)).mono fun e w' ⟨he, sp2, hq⟩ => ⟨he, hl.sp.trans sp2, fun g' e' j p hj hp => ?_⟩
  cases e'
  obtain ⟨g2, cur2, e2, hb2, -⟩ := h.block hp
  cases e2
  have hbr : wr.heap[g]? = some (.cells cur 34 (0, 0)) := (hl.sp.other hb (by decide) (by decide)).trans hb
  by_cases hji : j < i
  · obtain ⟨x, hx1, hx2⟩ := hl.done g rfl j p hji hp
    exact ⟨x, sp2.cell34 hbr hx1, hx2.sp (P := isQ) rfl sp2⟩
  · obtain rfl : j = i := by omega
    obtain rfl := Option.some.inj ((List.getElem?_eq_getElem hi).symm.trans hp)
    exact ⟨u, sp2.cell34 hbr hu1, hq⟩
theorem LQ.look {l : List (List Stp)} {ai : Option Addr} {n cap : Nat} (h : QS w (fun b => lo ≤ b) 34 53 71 (.slice ai n cap) l) (hl : LQ lo w l ai wr l.length) (hsp : Sp lo wr W) (hi : i < l.length) :
    ∃ g u, ai = some ⟨g, 0, none⟩ ∧ W.cell? ⟨g, i, none⟩ = some u ∧ Calls Tryd.prog 13 #[u] W fun e w' => e = .returned (.bool true) ∧ w' = W := by
  obtain ⟨g, cur, rfl, hb, u, hu, sl⟩ := h.block (List.getElem?_eq_getElem hi)
  obtain ⟨x, hx1, hx2⟩ := hl.done g rfl i _ hi (List.getElem?_eq_getElem hi)
  have hbr : wr.heap[g]? = some (.cells cur 34 (0, 0)) := (hl.sp.other hb (by decide) (by decide)).trans hb
  exact ⟨g, x, rfl, hsp.cell34 hbr hx1, lookS_ok _ W _ x (hx2.sp (P := isQ) rfl hsp)⟩
theorem lst_sim (q : L) : lst (parse q) = lst (parseR q) := by
  have h := parse_sim q
  cases hp : parse q with
  | ok l => rw [hp] at h; rw [h]
  | error e => rw [hp] at h; obtain ⟨_, at_, h2⟩ := h; rw [h2]; rfl
set_option maxHeartbeats 16000000 in
set_option maxRecDepth 100000 in
theorem queryOwn_ok (q : L) (w : World) : Calls Tryd.prog 5 #[.string (bs q)] w fun e w' => e = .returned (.bool true) ∧ Below w.heap.size w w' := by
  have H6 := hide (a6 q)
  have H7 := hide (a7 q)
  have HN := hide num_ok
  have HA := hide alive_ok
  have hls := lst_sim q
  have HL := hide hls
  have hnn : ((nmb (parse q) : Int) == (nmb (parse q) : Int)) = true := by simp
  clear hls
  generalize hx : parse q = x at *
  generalize hy : parseR q = y at *
  clear hx hy
  generalize nmb x = N at *
  generalize plc x = P1 at *
  generalize plc y = P2 at *
  generalize bs q = S at *
  go_enter Tryd.func5, Tryd.ntmps5
  go_wp2_with (first | (go_at_call 6; refine (H6.out _).mono ?_; rintro e w1 ⟨hb1, ai1, m1, c1, rfl, as1⟩; have AS1 := hide as1; have HB1 := hide hb1; clear as1 hb1))
  obtain ⟨hlen1, -, -⟩ := AS1.out
  have HQ1 := hide AS1.out.qs
  obtain ⟨l, hl⟩ : ∃ l, lst x = l := ⟨_, rfl⟩
  rw [hl] at hlen1 HQ1 HL
  have HLX := hide hl
  have HNX : Hid (∀ wr i, LQ w.heap.size w1 l ai1 wr i → i < m1 → _) := fun wr i hq hi => LQ.next HQ1.out hq (by rw [← hlen1]; exact hi)
  have hm1 : m1 ≤ 1000 := by obtain ⟨_, _, e, h⟩ := HQ1.out.len; cases e; omega
  have HLEN := hide hlen1
  clear hlen1 hl
  go_loopw [6] (fun iv wr => ∃ i : Nat, iv = .int .i64 i ∧ i ≤ m1 ∧ LQ w.heap.size w1 l ai1 wr i) (fun iv _ => m1 - (RowKit.intOf iv).toNat)
  case atStart => exact ⟨0, rfl, Nat.zero_le _, Sp.refl _ _, fun g e j p hj => by omega⟩
  case round =>
    rename World => WO
    obtain ⟨i, rfl, hi, hlq⟩ := hrel
    by_cases hlt : i < m1
    · obtain ⟨g, u, rfl, a1, hcl⟩ := HNX.out WO i hlq hlt
      have hdec : decide ((i : Int) < m1) = true := by simp; omega
      have hii : (i : Int) < m1 := by omega
      have HCL := hide hcl
      clear hcl HNX
      go_wp2_with (first | (go_at_call 12; refine HCL.out.mono ?_; rintro e w2 ⟨rfl, hl2⟩))
      exact ⟨⟨i + 1, by simp, by omega, hl2⟩, by simp only [RowKit.intOf]; omega⟩
    · have hdec : decide ((i : Int) < m1) = false := by simp; omega
      obtain rfl : m1 = i := by omega
      have HLQ := hide hlq
      clear hlq HNX
      go_wp2_with (first | (go_at_call 6; refine (H6.out _).mono ?_; rintro e w2 ⟨hb2, ai2, m2, c2, rfl, as2⟩; have AS2 := hide as2; have HB2 := hide hb2; clear as2 hb2) | (go_at_call 7; refine (H7.out _).mono ?_; rintro e w3 ⟨hb3, ai3, m3, c3, rfl, as3⟩; have AS3 := hide as3; have HB3 := hide hb3; clear as3 hb3))
      have HW3 : Hid (Sp w.heap.size WO w3 ∧ Below w.heap.size w w3) := by
        have z1 := HB1.out.size
        have z2 := HLQ.out.sp.size
        have b12 : Below w.heap.size w WO := HB1.out.trans (HLQ.out.sp.below z1)
        have b23 := bon HB2.out HB3.out
        exact ⟨Sp.of_below b23 (by omega), b12.trans ⟨b23.os, b23.tape, b23.output, b23.size, fun k hk => b23.block k (by omega)⟩⟩
      have HLK : Hid (∀ k, k < m1 → ∃ g u, ai1 = some ⟨g, 0, none⟩ ∧ w3.cell? ⟨g, k, none⟩ = some u ∧ Calls Tryd.prog 13 #[u] w3 fun e w' => e = .returned (.bool true) ∧ w' = w3) := fun k hi => LQ.look HQ1.out (by have := HLQ.out; rw [HLEN.out] at this; exact this) HW3.out.1 (by rw [← HLEN.out]; exact hi)
      have HSM : Hid (Calls Tryd.prog 8 #[.slice ai2 m2 c2, .slice ai3 m3 c3] w3 fun e w' => e = .returned (.bool true) ∧ ∃ m, w' = w3.drewN m) := by
        have q2 := (AS2.out.on HB3.out).qs
        have q3 := AS3.out.qs
        rw [HLX.out] at q2
        rw [← HL.out] at q3
        exact same_ok q2 q3
      clear HLQ AS1 AS2 AS3 HB1 HB2 HB3 HQ1 HLEN HL HLX H6 H7
      go_loopw [13, 14] (fun iv _ wr => ∃ k : Nat, iv = .int .i64 k ∧ k ≤ m1 ∧ wr = w3) (fun iv _ _ => m1 - (RowKit.intOf iv).toNat)
      case atStart => exact ⟨0, rfl, Nat.zero_le _, rfl⟩
      case round =>
        obtain ⟨j, rfl, hj, rfl⟩ := hrel
        by_cases hlj : j < m1
        · obtain ⟨g, u, rfl, a1, hcl⟩ := HLK.out j hlj
          have hdj : decide ((j : Int) < m1) = true := by simp; omega
          have hji : (j : Int) < m1 := by omega
          have HCL := hide hcl
          clear hcl HLK
          go_wp2_with (first | (go_at_call 13; refine HCL.out.mono ?_; rintro e w4 ⟨rfl, hw4⟩; obtain rfl := hw4.symm))
          exact ⟨⟨j + 1, by simp, by omega, trivial⟩, by simp only [RowKit.intOf]; omega⟩
        · have hdj : decide ((j : Int) < m1) = false := by simp; omega
          clear HLK
          go_wp2_with (first | (go_at_call 8; refine HSM.out.mono ?_; rintro e w4 ⟨rfl, m4, rfl⟩) | (go_at_call 9; refine (HN.out N _).mono ?_; rintro e w5 ⟨rfl, hw5⟩; obtain rfl := hw5.symm) | (go_at_call 10; refine (HA.out _).mono ?_; rintro e w6 ⟨rfl, hb6⟩))
          go_ret
          exact ⟨rfl, bon (belowD HW3.out.2 m4) hb6⟩
theorem queryOwn_any (q : ByteArray) (w : World) (h : q.size ≤ q.size) : Calls Tryd.prog 5 #[.string q] w fun e w' => e = .returned (.bool true) ∧ Below w.heap.size w w' := by
  have := queryOwn_ok q.data.toList w
  rwa [bs_self] at this
end Go.Proofs.YtigpjemceodjcaaDoor
