import Derived.Laws.OwnMore
import Derived.Lib.AppendZerosOnto
import Derived.Maps.AppendAt
import Derived.Test.YtoahlnmhjinneaaGreatDoorGau
import Derived.Test.YtoahlnmhjinneaaGreatDoorGad
set_option linter.unusedVariables false
set_option linter.unusedSimpArgs false
set_option linter.unusedSimpArgs false
set_option linter.unusedVariables false
namespace Go.Proofs.YtoahlnmhjinneaaGreatDoor
open Go.RowKit Go.Maps Go.Lib
variable {w w' w1 W : World}
def mk2 (x : Stp × Value) : Mk := (x.1.deep, x.1.test)
def SlV (x : Stp × Value) : Prop := ∃ pi pn pc, x.2 = .slice pi pn pc
theorem cells_of_rows {g : Nat} {xs : List (Stp × Value)} (h : ∀ i x, xs[i]? = some x → w.cell? ⟨g, i * 3, none⟩ = some (.bool x.1.deep) ∧ w.cell? ⟨g, i * 3 + 1, none⟩ = some (.string (bs x.1.test)) ∧ w.cell? ⟨g, i * 3 + 2, none⟩ = some x.2) : ∀ j u, (sCells xs)[j]? = some u → w.cell? ⟨g, j, none⟩ = some u := by
  intro j u hj
  have hl := (List.getElem?_eq_some_iff.1 hj).1
  rw [sCells_len] at hl
  have hi : j / 3 < xs.length := by omega
  obtain ⟨x, hx⟩ : ∃ x, xs[j / 3]? = some x := ⟨_, List.getElem?_eq_getElem hi⟩
  obtain ⟨h0, h1, h2⟩ := h _ _ hx
  have hc : j / 3 * 3 = j ∨ j / 3 * 3 + 1 = j ∨ j / 3 * 3 + 2 = j := by omega
  rcases hc with hc | hc | hc
  · have := sCells_at xs (j / 3) x 0 _ hx rfl
    rw [Nat.add_zero, hc, hj] at this
    rw [hc] at h0
    rw [h0, this]
  · have := sCells_at xs (j / 3) x 1 _ hx rfl
    rw [hc, hj] at this
    rw [hc] at h1
    rw [h1, this]
  · have := sCells_at xs (j / 3) x 2 _ hx rfl
    rw [hc, hj] at this
    rw [hc] at h2
    rw [h2, this]
theorem MkR.cells {ai : Option Addr} {n cap : Nat} {ms : List Mk} (h : MkR w (.slice ai n cap) ms) : n = ms.length ∧ (ms ≠ [] → ∃ g, ai = some ⟨g, 0, none⟩) ∧ ∃ xs : List (Stp × Value), xs.map mk2 = ms ∧ (∀ y ∈ xs, SlV y) ∧ ∀ g, ai = some ⟨g, 0, none⟩ → ∀ j u, (sCells xs)[j]? = some u → w.cell? ⟨g, j, none⟩ = some u := by
  obtain ⟨ai', cap', e, hn, hr⟩ := h
  cases e
  have key : ∀ k, k ≤ ms.length → ∃ xs : List (Stp × Value), xs.map mk2 = ms.take k ∧ (∀ y ∈ xs, SlV y) ∧ ∀ g, ai = some ⟨g, 0, none⟩ → ∀ i x, xs[i]? = some x → w.cell? ⟨g, i * 3, none⟩ = some (.bool x.1.deep) ∧ w.cell? ⟨g, i * 3 + 1, none⟩ = some (.string (bs x.1.test)) ∧ w.cell? ⟨g, i * 3 + 2, none⟩ = some x.2 := by
    intro k
    induction k with
    | zero => intro _; exact ⟨[], by simp, fun y hy => by simp at hy, fun g _ i x hx => by simp at hx⟩
    | succ k ih =>
      intro hk
      obtain ⟨xs, h1, h2, h3⟩ := ih (by omega)
      have hm : ms[k]? = some ms[k] := List.getElem?_eq_getElem (by omega)
      obtain ⟨g, pi, pn, pc, e, hg, a0, a1, a2⟩ := hr k _ hm
      have hxl : xs.length = k := by have := congrArg List.length h1; simp at this; omega
      refine ⟨xs ++ [(⟨ms[k].1, ms[k].2, .nil⟩, .slice pi pn pc)], ?_, ?_, ?_⟩
      · rw [List.map_append, h1, List.take_succ_eq_append_getElem (by omega)]; rfl
      · intro y hy
        rcases List.mem_append.1 hy with hy | hy
        · exact h2 y hy
        · rw [List.mem_singleton] at hy; subst hy; exact ⟨_, _, _, rfl⟩
      · intro g' e' i x hx
        by_cases hi : i < k
        · rw [List.getElem?_append_left (by omega)] at hx
          exact h3 g' e' i x hx
        · have hil := (List.getElem?_eq_some_iff.1 hx).1
          rw [List.length_append, List.length_singleton] at hil
          obtain rfl : i = k := by omega
          rw [List.getElem?_append_right (by omega), hxl, Nat.sub_self] at hx
          simp only [List.getElem?_cons_zero, Option.some.injEq] at hx
          subst hx
          rw [e] at e'
          cases e'
          exact ⟨a0, a1, a2⟩
  refine ⟨rfl, fun h0 => ?_, ?_⟩
  · have hl0 : 0 < ms.length := List.length_pos_iff.2 h0
    obtain ⟨g, _, _, _, e, _⟩ := hr 0 ms[0] (List.getElem?_eq_getElem hl0)
    exact ⟨g, e⟩
  · obtain ⟨xs, h1, h2, h3⟩ := key ms.length (Nat.le_refl _)
    rw [List.take_length] at h1
    exact ⟨xs, h1, h2, fun g e => cells_of_rows (h3 g e)⟩
theorem MkR.of_own {B : Nat} {v : Value} {n : Nat} {xs : List (Stp × Value)} (h : w.ownsRow B 79 3 v n (sCells xs)) (hs : ∀ y ∈ xs, SlV y) (hn : n ≤ 1000000) : MkR w v (xs.map mk2) := by
  have hl := h.1
  rw [sCells_len] at hl
  have hxl : xs.length = n := by omega
  have hcl : ∀ g cap, v = .slice (some ⟨g, 0, none⟩) n cap → ∀ i x, xs[i]? = some x → w.cell? ⟨g, i * 3, none⟩ = some (.bool x.1.deep) ∧ w.cell? ⟨g, i * 3 + 1, none⟩ = some (.string (bs x.1.test)) ∧ w.cell? ⟨g, i * 3 + 2, none⟩ = some x.2 := fun g cap e i x hx => by
    subst e
    have hil := (List.getElem?_eq_some_iff.1 hx).1
    have f := fun c (hc : c < 3) u hu => (h.cellAt (i * 3 + c) (by omega)).trans (sCells_at xs i x c u hx hu)
    exact ⟨f 0 (by omega) _ rfl, f 1 (by omega) _ rfl, f 2 (by omega) _ rfl⟩
  rcases h.2 with ⟨rfl, hz⟩ | ⟨g, cap, cur, rfl, hb, hg, hnc, _, _, _⟩
  · have : xs = [] := List.eq_nil_of_length_eq_zero (by omega)
    subst this
    exact ⟨none, 0, rfl, ⟨by simp, by simp⟩, fun i m hm => by simp at hm⟩
  · refine ⟨some ⟨g, 0, none⟩, cap, by simp [hxl], ⟨by simp; omega, by simp; omega⟩, fun i m hm => ?_⟩
    rw [List.getElem?_map] at hm
    obtain ⟨x, hx, rfl⟩ := Option.map_eq_some_iff.1 hm
    obtain ⟨c0, c1, c2⟩ := hcl g cap rfl i x hx
    obtain ⟨pi, pn, pc, e⟩ := hs x (List.mem_of_getElem? hx)
    exact ⟨g, pi, pn, pc, rfl, blk_lt hg, c0, c1, by rw [c2, e]⟩
theorem run_app_none (v : Value) (n : Nat) (xs : List Value) (B cap : Nat) (hown : w.ownsRow B 79 3 v n xs) : (Builtin.append_ #[52, 52] 52 #[v, .slice none 0 cap]).run Tryz.prog w = .ok v w := by
  obtain ⟨i0, hi, hz0, hz1, hz2⟩ := info_parts info53
  rcases hown.2 with ⟨rfl, rfl⟩ | ⟨g, cap', cur, rfl, _, _, hnc, _⟩
  · simp [Builtin.append_, run_underlying Tryz.underlying52, sizeOf, typeInfo, hi, Builtin.lenOf, Builtin.firstCells]
  · simp [Builtin.append_, run_underlying Tryz.underlying52, sizeOf, typeInfo, hi, Builtin.lenOf, Builtin.firstCells, hnc, storeCells]
theorem run_app {B : Nat} {v : Value} {n : Nat} {xs : List Value} {ai : Option Addr} {m cap : Nat} {ms : List Mk} (hown : w.ownsRow B 79 3 v n xs) (h : MkR w (.slice ai m cap) ms) (hl : n + ms.length ≤ 2000000) (hB : B ≤ w.heap.size) :
    ∃ v' w' ys, (Builtin.append_ #[52, 52] 52 #[v, .slice ai m cap]).run Tryz.prog w = .ok v' w' ∧ w'.ownsRow B 79 3 v' (n + m) (xs ++ sCells ys) ∧ ys.map mk2 = ms ∧ (∀ y ∈ ys, SlV y) ∧ w.grownBy w' v.ownBlock := by
  obtain ⟨i0, hi, hz0, hz1, hz2⟩ := info_parts info53
  obtain ⟨rfl, h1, ys, h2, h3, h4⟩ := h.cells
  have hyl : ys.length = ms.length := by rw [← h2]; simp
  cases ai with
  | none =>
    have h0 : ms = [] := Classical.byContradiction fun hne => by obtain ⟨g, e⟩ := h1 hne; cases e
    subst h0
    have : ys = [] := List.eq_nil_of_length_eq_zero (by simpa using hyl)
    subst this
    exact ⟨v, w, [], run_app_none v n xs B cap hown, by simpa [sCells] using hown, rfl, fun y hy => by simp at hy, ⟨rfl, rfl, rfl, Nat.le_refl _, fun _ _ _ => rfl⟩⟩
  | some ad =>
    have hcell : ∀ j u, (sCells ys)[j]? = some u → w.cell? (ad.add j) = some u := fun j u hj => by
      have hne : ms ≠ [] := by
        rintro rfl
        have : ys = [] := List.eq_nil_of_length_eq_zero (by simpa using hyl)
        subst this
        simp [sCells] at hj
      obtain ⟨g, e⟩ := h1 hne
      cases e
      have := h4 g rfl j u hj
      unfold Addr.add
      split
      · next h0 => rw [h0] at this; exact this
      · simpa using this
    have h1c : ∀ u ∈ sCells ys, u.oneCell' = true := by
      intro u hu
      unfold sCells at hu
      obtain ⟨x, hx, hu⟩ := List.mem_flatMap.1 hu
      obtain ⟨pi, pn, pc, e⟩ := h3 x hx
      rw [e] at hu
      simp only [List.mem_cons, List.not_mem_nil, or_false] at hu
      rcases hu with rfl | rfl | rfl <;> rfl
    obtain ⟨v', w', r, r1, r2, _⟩ := run_append_own (P := Tryz.prog) w B 52 52 79 i0 _ 3 48 Tryz.underlying52 hi hz0 hz1 hz2 rfl (by decide) v n xs hown ad ms.length cap (sCells ys) (by rw [sCells_len, hyl]) hcell h1c (by unfold maxLen; omega) (by omega) hB
    exact ⟨v', w', ys, r, r1, h2, h3, r2⟩
set_option maxHeartbeats 4000000 in
set_option maxRecDepth 100000 in
theorem grow_none (n : Nat) (w : World) (hn : n ≤ 2000000) : Calls Tryz.prog 74 #[.slice none 0 0, .int .i64 n] w fun e w' => ∃ v, e = .returned v ∧ w'.ownsRow w.heap.size 79 3 v 0 [] ∧ Below w.heap.size w w' := by
  obtain ⟨i0, hi, hz0, hz1, hz2⟩ := info_parts info53
  have h1 : decide ((n : Int) < 0) = false := by simp
  have h1' : ¬ ((n : Int) < 0) := by omega
  have hw1 : IntKind.i64.wrap ((n : Int) - 0) = (n : Int) := by rw [IntKind.wrap_i64]; omega
  by_cases h0 : n = 0
  · subst h0
    go_enter Tryz.func74, Tryz.ntmps74
    go_wp2
    go_ret
    exact ⟨_, rfl, World.ownsRow_nil _ _ _ _, Below.refl _ _⟩
  · have h2 : decide ((n : Int) > 0) = true := by simp; omega
    have h2' : (n : Int) > 0 := by omega
    have h2'' : (0 : Int) < (n : Int) := by omega
    have hr := Lib.run_append_grow_zeros (P := Tryz.prog) w 52 3 52 79 i0 _ .i64 .i64 Tryz.underlying52 Tryz.underlying3 hi hz0 none 0 0 [] (run_firstCells_none w.drew i0.size 0 0 0) n (by omega) (by rw [hz1]; decide) (by omega) (by omega) (by rw [hz2]; omega) (growslice_fits (by omega) (by rw [hz2]; omega))
    simp only [Nat.zero_add] at hr
    have hGn : n ≤ grownCap w n 0 79 := grownCap_ge w _ _ _
    have hG63 : grownCap w n 0 79 ≤ maxLen := grownCap_le_maxLen w n 0 79 (by unfold maxLen; omega)
    obtain ⟨G, hG⟩ : ∃ G, G = grownCap w n 0 79 := ⟨_, rfl⟩
    rw [← hG] at hr hGn hG63
    have hown : (w.drew.alloc (.cells (([] : List Value).toArray ++ Builtin.zeroCells (Value.agg #[.bool false, .string ⟨#[]⟩, .slice none 0 0]).cells n ++ Builtin.zeroCells (Value.agg #[.bool false, .string ⟨#[]⟩, .slice none 0 0]).cells (G - n)) 79)).ownsRow w.heap.size 79 3 (.slice (some ⟨w.heap.size, 0, none⟩) 0 G) 0 [] := by
      refine ⟨rfl, Or.inr ⟨w.heap.size, G, _, rfl, Nat.le_refl _, heap_alloc_new w.drew _, Nat.zero_le _, hG63, ?_, by simp⟩⟩
      simp only [Array.size_append, List.size_toArray, size_zeroCells, List.length_nil]
      show 0 + n * 3 + (G - n) * 3 = G * 3
      omega
    have hbel : Below w.heap.size w (w.drew.alloc (.cells (([] : List Value).toArray ++ Builtin.zeroCells (Value.agg #[.bool false, .string ⟨#[]⟩, .slice none 0 0]).cells n ++ Builtin.zeroCells (Value.agg #[.bool false, .string ⟨#[]⟩, .slice none 0 0]).cells (G - n)) 79)) := (Below.drew (Below.refl w.heap.size w)).alloc (Nat.le_refl _) _
    generalize (w.drew.alloc (.cells (([] : List Value).toArray ++ Builtin.zeroCells (Value.agg #[.bool false, .string ⟨#[]⟩, .slice none 0 0]).cells n ++ Builtin.zeroCells (Value.agg #[.bool false, .string ⟨#[]⟩, .slice none 0 0]).cells (G - n)) 79)) = WN at *
    have HO := hide hown
    have HB := hide hbel
    unfold maxLen at hG63
    clear hown hbel hG hGn
    go_enter Tryz.func74, Tryz.ntmps74
    go_wp2_with (at_builtin; refine Lib.wpList_append_run _ rfl _ _ _ _ rfl _ _ rfl rfl _ _ hr ?_)
    all_goals (go_ret; exact ⟨_, rfl, HO.out, HB.out⟩)
end Go.Proofs.YtoahlnmhjinneaaGreatDoor

set_option linter.unusedSimpArgs false
set_option linter.unusedVariables false
namespace Go.Proofs.YtoahlnmhjinneaaGreatDoor
open Go.RowKit Go.Maps Go.Lib
variable {w w' w1 W : World}
def szC (a b : List Mk) (i : Nat) : Nat := if i = 0 then 0 else if i = 1 then a.length else a.length + b.length
def GrC (w : World) (a b : List Mk) (i : Nat) (v : Value) (wr : World) : Prop := (∃ ai n cap, v = .slice ai n cap) ∧ (∃ xs : List (Stp × Value), xs.map mk2 = (a ++ b).take (szC a b i) ∧ (∀ y ∈ xs, SlV y) ∧ wr.ownsRow w.heap.size 79 3 v (szC a b i) (sCells xs)) ∧ Below w.heap.size w wr
theorem own_shape {B : Nat} {e : TypeId} {s : Nat} {v : Value} {n : Nat} {xs : List Value} (h : w.ownsRow B e s v n xs) : ∃ ai n' cap, v = .slice ai n' cap := by
  rcases h.2 with ⟨hv, _⟩ | ⟨g, cap, cur, hv, _⟩ <;> exact ⟨_, _, _, hv⟩
theorem GrC.step {a b : List Mk} {va vb : Value} {k i : Nat} {v : Value} {wr : World} (ha : MkR w va a) (hb : MkR w vb b) (c0 : w.cell? ⟨k, 0, none⟩ = some va) (c1 : w.cell? ⟨k, 1, none⟩ = some vb) (hk : k < w.heap.size) (hl : a.length + b.length ≤ 1000000) (hi : i < 2) (h : GrC w a b i v wr) :
    ∃ ai n cap v' w', wr.cell? ⟨k, i, none⟩ = some (.slice ai n cap) ∧ (Builtin.append_ #[52, 52] 52 #[v, .slice ai n cap]).run Tryz.prog wr = .ok v' w' ∧ GrC w a b (i + 1) v' w' := by
  obtain ⟨-, ⟨xs, h1, h2, h3⟩, hbl⟩ := h
  have main : ∀ (u : Value) (ms : List Mk), MkR w u ms → w.cell? ⟨k, i, none⟩ = some u → szC a b (i + 1) = szC a b i + ms.length → (a ++ b).take (szC a b (i + 1)) = (a ++ b).take (szC a b i) ++ ms → szC a b (i + 1) ≤ 2000000 → ∃ ai n cap v' w', wr.cell? ⟨k, i, none⟩ = some (.slice ai n cap) ∧ (Builtin.append_ #[52, 52] 52 #[v, .slice ai n cap]).run Tryz.prog wr = .ok v' w' ∧ GrC w a b (i + 1) v' w' := by
    intro u ms hu hc hs ht hsz
    obtain ⟨ai, cap, rfl, hn, hr⟩ := id hu
    obtain ⟨v', w', ys, r, r1, r2, r3, r4⟩ := run_app h3 (hu.below (B := 0) hbl) (by omega) hbl.size
    refine ⟨ai, _, cap, v', w', (World.cell?_of_block (hbl.block k hk)).trans hc, r, own_shape r1, ⟨xs ++ ys, ?_, ?_, ?_⟩, ?_⟩
    · rw [List.map_append, h1, r2, ht]
    · intro y hy
      rcases List.mem_append.1 hy with hy | hy
      · exact h2 y hy
      · exact r3 y hy
    · rw [hs]
      have e : sCells (xs ++ ys) = sCells xs ++ sCells ys := by unfold sCells; rw [List.flatMap_append]
      rw [e]
      exact r1
    · exact hbl.grown r4 hbl.size (fun j e => (h3.lt j e).1)
  have hi' : i = 0 ∨ i = 1 := by omega
  rcases hi' with rfl | rfl
  · exact main va a ha c0 (by simp [szC]) (by simp [szC]) (by simp [szC]; omega)
  · refine main vb b hb c1 (by simp [szC]) ?_ (by simp [szC]; omega)
    have e : szC a b (1 + 1) = (a ++ b).length := by simp [szC]
    have e1 : szC a b 1 = a.length := by simp [szC]
    rw [e, e1, List.take_length]
    simp
set_option maxHeartbeats 8000000 in
set_option maxRecDepth 100000 in
theorem concat_ok (a b : List Mk) (va vb : Value) (k : Nat) (w : World) (ha : MkR w va a) (hb : MkR w vb b) (c0 : w.cell? ⟨k, 0, none⟩ = some va) (c1 : w.cell? ⟨k, 1, none⟩ = some vb) (hk : k < w.heap.size) (hl : a.length + b.length ≤ 1000000) : Calls Tryz.prog 48 #[.slice (some ⟨k, 0, none⟩) 2 2] w fun e w' => ∃ ai n cap, e = .returned (.slice ai n cap) ∧ MkR w' (.slice ai n cap) (a ++ b) ∧ Below w.heap.size w w' ∧ ∀ j, (Value.slice ai n cap).ownBlock = some j → w.heap.size ≤ j := by
  have HR : Hid (∀ i, i < 2 → ∃ ai n cap, w.cell? ⟨k, i, none⟩ = some (.slice ai n cap) ∧ ((szC a b i : Nat) : Int) + (n : Int) = ((szC a b (i + 1) : Nat) : Int) ∧ szC a b (i + 1) ≤ 1000000) := fun i hi => by
    have hi' : i = 0 ∨ i = 1 := by omega
    rcases hi' with rfl | rfl
    · obtain ⟨ai, cap, rfl, hn, -⟩ := ha
      exact ⟨_, _, _, c0, by simp [szC], by simp [szC]; omega⟩
    · obtain ⟨ai, cap, rfl, hn, -⟩ := hb
      exact ⟨_, _, _, c1, by simp [szC], by simp [szC]; omega⟩
  have HS : Hid (∀ wr i v, i < 2 → GrC w a b i v wr → ∃ ai n cap v' w', wr.cell? ⟨k, i, none⟩ = some (.slice ai n cap) ∧ (Builtin.append_ #[52, 52] 52 #[v, .slice ai n cap]).run Tryz.prog wr = .ok v' w' ∧ Hid (GrC w a b (i + 1) v' w')) := fun wr i v hi h => by
    obtain ⟨ai, n, cap, v', w', r0, r1, r2⟩ := h.step ha hb c0 c1 hk hl hi
    exact ⟨ai, n, cap, v', w', r0, r1, hide r2⟩
  have HE : Hid (∀ wr v, GrC w a b 2 v wr → MkR wr v (a ++ b) ∧ Below w.heap.size w wr ∧ ∀ j, v.ownBlock = some j → w.heap.size ≤ j) := fun wr v h => by
    obtain ⟨-, ⟨xs, h1, h2, h3⟩, hbl⟩ := h
    have e : szC a b 2 = (a ++ b).length := by simp [szC]
    rw [e] at h1 h3
    rw [List.take_length] at h1
    rw [← h1]
    exact ⟨MkR.of_own h3 h2 (by rw [List.length_append]; omega), hbl, fun j e => (h3.lt j e).1⟩
  have hs2 : szC a b 2 ≤ 1000000 := by simp [szC]; omega
  have HG := hide (grow_none (szC a b 2) w (by omega))
  have HG0 : Hid (∀ v w', w'.ownsRow w.heap.size 79 3 v 0 [] → Below w.heap.size w w' → GrC w a b 0 v w') := fun v w' h1 h2 => ⟨own_shape h1, ⟨[], by simp [szC], fun y hy => by simp at hy, by simpa [szC, sCells] using h1⟩, h2⟩
  have hsz0 : szC a b 0 = 0 := rfl
  have hs2' : decide (((szC a b 2 : Nat) : Int) < 0) = false := by simp
  clear ha hb c0 c1
  generalize szC a b = sz at *
  go_enter Tryz.func48, Tryz.ntmps48
  go_wp2_with fail
  go_loopw [3, 5, 11, 12, 13, 14, 15, 16, 17, 18, 19, 20, 21, 22] (fun u3 _ u11 _ _ _ _ _ _ _ _ _ _ _ wr => ∃ i : Nat, u11 = .int .i64 i ∧ i ≤ 2 ∧ u3 = .int .i64 (sz i : Nat) ∧ wr = w) (fun _ _ u11 _ _ _ _ _ _ _ _ _ _ _ _ => 2 - (RowKit.intOf u11).toNat)
  case atStart => exact ⟨0, rfl, by omega, by rw [hsz0]; rfl, rfl⟩
  case round =>
    obtain ⟨i, rfl, hi, rfl, hww⟩ := hrel
    have hwv := hww.symm
    clear hww
    subst hwv
    by_cases hlt : i < 2
    · obtain ⟨ai, n, cap, cc, hsum, hle⟩ := HR.out i hlt
      have hdec : decide ((i : Int) < 2) = true := by simp; omega
      have hii : (i : Int) < 2 := by omega
      have hwr : IntKind.i64.wrap (((sz i : Nat) : Int) + (n : Int)) = ((sz (i + 1) : Nat) : Int) := by rw [hsum, IntKind.wrap_i64]; omega
      have hneg : decide (((sz (i + 1) : Nat) : Int) < 0) = false := by simp
      have hneg' : ¬ (((sz (i + 1) : Nat) : Int) < 0) := by omega
      clear HR HS HE HG HG0
      go_wp2
      exact ⟨⟨i + 1, by simp, by omega, by simp⟩, by simp only [RowKit.intOf]; omega⟩
    · have hdec : decide ((i : Int) < 2) = false := by simp; omega
      obtain rfl : i = 2 := by omega
      clear HR
      go_wp2_with (go_at_call 74; refine HG.out.mono ?_; rintro e w5 ⟨v5, rfl, r1, r2⟩; have H5 := hide (HG0.out _ _ r1 r2); clear HG HG0 r1 r2)
      go_loopw [6, 8, 27, 28, 29, 30, 31, 32, 33, 34] (fun u6 _ u27 _ _ _ _ _ _ _ wr => ∃ i : Nat, u27 = .int .i64 i ∧ i ≤ 2 ∧ Hid (GrC w a b i u6 wr)) (fun _ _ u27 _ _ _ _ _ _ _ _ => 2 - (RowKit.intOf u27).toNat)
      case atStart => exact ⟨0, rfl, by omega, H5⟩
      case round =>
        rename World => WO
        obtain ⟨i, rfl, hi, HM⟩ := hrel
        by_cases hlt : i < 2
        · obtain ⟨⟨a1, n1, c1, rfl⟩, -⟩ := id HM.out
          obtain ⟨ai, n, cap, v', w', cc, hr, H6⟩ := HS.out _ i _ hlt HM.out
          have hdec : decide ((i : Int) < 2) = true := by simp; omega
          have hii : (i : Int) < 2 := by omega
          clear HS HE HM H5
          go_wp2_with (at_builtin; refine Lib.wpList_append_run _ rfl _ _ _ _ rfl _ _ rfl rfl _ _ hr ?_)
          exact ⟨⟨i + 1, by simp, by omega, H6⟩, by simp only [RowKit.intOf]; omega⟩
        · have hdec : decide ((i : Int) < 2) = false := by simp; omega
          obtain rfl : i = 2 := by omega
          obtain ⟨⟨a1, n1, c1, rfl⟩, -⟩ := id HM.out
          obtain ⟨h7, h8⟩ := HE.out _ _ HM.out
          have H7 := hide h7
          have H8 := hide h8
          clear HS HE HM H5 h7 h8
          go_wp2
          go_ret
          exact ⟨_, _, _, rfl, H7.out, H8.out⟩
theorem concat2 (a b : List Mk) (va vb : Value) (w : World) (ha : MkR w va a) (hb : MkR w vb b) (hl : a.length + b.length ≤ 1000000) (m : Nat) : Calls Tryz.prog 48 #[.slice (some ⟨w.heap.size, 0, none⟩) 2 2] ((w.alloc (.cells #[va, vb] 52)).drewN m) fun e w' => ∃ ai n cap, e = .returned (.slice ai n cap) ∧ MkR w' (.slice ai n cap) (a ++ b) ∧ Below w.heap.size w w' ∧ ∀ j, (Value.slice ai n cap).ownBlock = some j → w.heap.size ≤ j := by
  have hB := Below_new w (.cells #[va, vb] 52)
  have hb0 := belowN ((Below.refl w.heap.size w).alloc (Nat.le_refl _) (.cells #[va, vb] 52)) m
  refine (concat_ok a b va vb w.heap.size ((w.alloc (.cells #[va, vb] 52)).drewN m) (ha.below (B := 0) hb0) (hb.below (B := 0) hb0) (cell_of (w := w.alloc (.cells #[va, vb] 52)) hB rfl) (cell_of (w := w.alloc (.cells #[va, vb] 52)) hB rfl) (blk_lt hB) hl).mono ?_
  rintro e w' ⟨ai, n, cap, h1, h2, h3, h4⟩
  exact ⟨ai, n, cap, h1, h2, hb0.trans (below_less h3 hb0.size), fun j e => Nat.le_trans hb0.size (h4 j e)⟩
end Go.Proofs.YtoahlnmhjinneaaGreatDoor

set_option linter.unusedSimpArgs false
set_option linter.unusedVariables false
namespace Go.Proofs.YtoahlnmhjinneaaGreatDoor
open Go.RowKit Go.Maps Go.Lib
variable {w w' w1 w2 WO wr W : World} {A A' : Nat → Prop} {tS tP tS' tP' : TypeId} {v v' va vb : Value}

def Stps.get : Stps → Nat → Option Stp
  | .nil, _ => none
  | .cons d t p _, 0 => some ⟨d, t, p⟩
  | .cons _ _ _ m, i + 1 => m.get i
def Prds.get : Prds → Nat → Option Prd
  | .nil, _ => none
  | .cons o k s a t _, 0 => some ⟨o, k, s, a, t⟩
  | .cons _ _ _ _ _ m, i + 1 => m.get i
theorem Stps.get_lt : ∀ (s : Stps) (i : Nat), i < s.len → ∃ x, s.get i = some x
  | .nil, i, h => by simp [Stps.len] at h
  | .cons d t p m, 0, h => ⟨_, rfl⟩
  | .cons d t p m, i + 1, h => Stps.get_lt m i (by simp [Stps.len] at h; omega)
theorem Prds.get_lt : ∀ (s : Prds) (i : Nat), i < s.len → ∃ x, s.get i = some x
  | .nil, i, h => by simp [Prds.len] at h
  | .cons o k s a t m, 0, h => ⟨_, rfl⟩
  | .cons o k s a t m, i + 1, h => Prds.get_lt m i (by simp [Prds.len] at h; omega)
theorem rowS.at {g : Nat} : ∀ (s : Stps) (k i : Nat) (x : Stp), rowS w A tS tP g k s → s.get i = some x → w.cell? ⟨g, (k + i) * 3, none⟩ = some (.bool x.deep) ∧ w.cell? ⟨g, (k + i) * 3 + 1, none⟩ = some (.string (bs x.test)) ∧ ∃ v, w.cell? ⟨g, (k + i) * 3 + 2, none⟩ = some v ∧ slP w A tS tP v x.preds
  | .nil, k, i, x, h, hg => by simp [Stps.get] at hg
  | .cons d t p m, k, 0, x, h, hg => by
    simp only [Stps.get, Option.some.injEq] at hg
    subst hg
    simp only [rowS] at h
    exact ⟨h.1, h.2.1, h.2.2.1⟩
  | .cons d t p m, k, i + 1, x, h, hg => by
    simp only [rowS] at h
    have := rowS.at m (k + 1) i x h.2.2.2 hg
    rw [show k + 1 + i = k + (i + 1) by omega] at this
    exact this
theorem rowP.at {g : Nat} : ∀ (s : Prds) (k i : Nat) (x : Prd), rowP w A tS tP g k s → s.get i = some x → w.cell? ⟨g, (k + i) * 5, none⟩ = some (.string (bs x.op)) ∧ (∃ v, w.cell? ⟨g, (k + i) * 5 + 1, none⟩ = some v ∧ slP w A tS tP v x.kids) ∧ (∃ v, w.cell? ⟨g, (k + i) * 5 + 2, none⟩ = some v ∧ slS w A tS tP v x.steps) ∧ w.cell? ⟨g, (k + i) * 5 + 3, none⟩ = some (.string (bs x.attr)) ∧ w.cell? ⟨g, (k + i) * 5 + 4, none⟩ = some (.string (bs x.text))
  | .nil, k, i, x, h, hg => by simp [Prds.get] at hg
  | .cons o ks ss a t m, k, 0, x, h, hg => by
    simp only [Prds.get, Option.some.injEq] at hg
    subst hg
    simp only [rowP] at h
    exact ⟨h.1, h.2.1, h.2.2.1, h.2.2.2.1, h.2.2.2.2.1⟩
  | .cons o ks ss a t m, k, i + 1, x, h, hg => by
    simp only [rowP] at h
    have := rowP.at m (k + 1) i x h.2.2.2.2.2 hg
    rw [show k + 1 + i = k + (i + 1) by omega] at this
    exact this
theorem slS.len {s : Stps} (h : slS w A tS tP v s) : ∃ ai cap, v = .slice ai s.len cap ∧ s.len ≤ 1000 := by
  rcases h with ⟨h, rfl⟩ | ⟨g, cap, cur, rfl, _, _, hn, _⟩
  · exact ⟨_, _, by rw [h], by omega⟩
  · exact ⟨_, _, rfl, hn⟩
theorem slP.len {s : Prds} (h : slP w A tS tP v s) : ∃ ai cap, v = .slice ai s.len cap ∧ s.len ≤ 1000 := by
  rcases h with ⟨h, rfl⟩ | ⟨g, cap, cur, rfl, _, _, hn, _⟩
  · exact ⟨_, _, by rw [h], by omega⟩
  · exact ⟨_, _, rfl, hn⟩
theorem slS.at {s : Stps} {ai : Option Addr} {n cap i : Nat} {x : Stp} (h : slS w A tS tP (.slice ai n cap) s) (hx : s.get i = some x) : ∃ g, ai = some ⟨g, 0, none⟩ ∧ A g ∧ (∃ cur, w.heap[g]? = some (.cells cur tS (0, 0))) ∧ w.cell? ⟨g, i * 3, none⟩ = some (.bool x.deep) ∧ w.cell? ⟨g, i * 3 + 1, none⟩ = some (.string (bs x.test)) ∧ ∃ v, w.cell? ⟨g, i * 3 + 2, none⟩ = some v ∧ slP w A tS tP v x.preds := by
  rcases h with ⟨h, _⟩ | ⟨g, cap', cur, e, ha, hb, hn, h0, hr⟩
  · exfalso
    cases s with
    | nil => simp [Stps.get] at hx
    | cons d t p m => simp [Stps.len] at h
  · cases e
    have := rowS.at s 0 i x hr hx
    rw [Nat.zero_add] at this
    exact ⟨g, rfl, ha, ⟨cur, hb⟩, this⟩
theorem slP.at {s : Prds} {ai : Option Addr} {n cap i : Nat} {x : Prd} (h : slP w A tS tP (.slice ai n cap) s) (hx : s.get i = some x) : ∃ g, ai = some ⟨g, 0, none⟩ ∧ A g ∧ (∃ cur, w.heap[g]? = some (.cells cur tP (0, 0))) ∧ w.cell? ⟨g, i * 5, none⟩ = some (.string (bs x.op)) ∧ (∃ v, w.cell? ⟨g, i * 5 + 1, none⟩ = some v ∧ slP w A tS tP v x.kids) ∧ (∃ v, w.cell? ⟨g, i * 5 + 2, none⟩ = some v ∧ slS w A tS tP v x.steps) ∧ w.cell? ⟨g, i * 5 + 3, none⟩ = some (.string (bs x.attr)) ∧ w.cell? ⟨g, i * 5 + 4, none⟩ = some (.string (bs x.text)) := by
  rcases h with ⟨h, _⟩ | ⟨g, cap', cur, e, ha, hb, hn, h0, hr⟩
  · exfalso
    cases s with
    | nil => simp [Prds.get] at hx
    | cons o k s a t m => simp [Prds.len] at h
  · cases e
    have := rowP.at s 0 i x hr hx
    rw [Nat.zero_add] at this
    exact ⟨g, rfl, ha, ⟨cur, hb⟩, this⟩
theorem slS.drew {s : Stps} (h : slS w A tS tP v s) (n : Nat) : slS (w.drewN n) A tS tP v s := by
  have hm : Move A A w (w.drewN n) := fun b hb hl => ⟨hb, rfl⟩
  exact h.move hm
theorem slP.drew {s : Prds} (h : slP w A tS tP v s) (n : Nat) : slP (w.drewN n) A tS tP v s := by
  have hm : Move A A w (w.drewN n) := fun b hb hl => ⟨hb, rfl⟩
  exact h.move hm
def Prds.dp : Prds → Nat → Prds
  | p, 0 => p
  | .nil, _ + 1 => .nil
  | .cons _ _ _ _ _ m, i + 1 => m.dp i
def Stps.dp : Stps → Nat → Stps
  | p, 0 => p
  | .nil, _ + 1 => .nil
  | .cons _ _ _ m, i + 1 => m.dp i
theorem Prds.dp_zero (p : Prds) : p.dp 0 = p := by cases p <;> rfl
theorem Stps.dp_zero (p : Stps) : p.dp 0 = p := by cases p <;> rfl
theorem Prds.dp_get : ∀ (p : Prds) (i : Nat) (x : Prd), p.get i = some x → p.dp i = .cons x.op x.kids x.steps x.attr x.text (p.dp (i + 1))
  | .nil, i, x, h => by simp [Prds.get] at h
  | .cons o k s a t m, 0, x, h => by simp only [Prds.get, Option.some.injEq] at h; subst h; simp [Prds.dp]
  | .cons o k s a t m, i + 1, x, h => by simp only [Prds.dp]; exact Prds.dp_get m i x h
theorem Stps.dp_get : ∀ (p : Stps) (i : Nat) (x : Stp), p.get i = some x → p.dp i = .cons x.deep x.test x.preds (p.dp (i + 1))
  | .nil, i, x, h => by simp [Stps.get] at h
  | .cons d t q m, 0, x, h => by simp only [Stps.get, Option.some.injEq] at h; subst h; simp [Stps.dp]
  | .cons d t q m, i + 1, x, h => by simp only [Stps.dp]; exact Stps.dp_get m i x h
theorem Prds.dp_len : ∀ (p : Prds), p.dp p.len = .nil
  | .nil => rfl
  | .cons o k s a t m => by simp only [Prds.len, Prds.dp]; exact Prds.dp_len m
theorem Stps.dp_len : ∀ (p : Stps), p.dp p.len = .nil
  | .nil => rfl
  | .cons d t q m => by simp only [Stps.len, Stps.dp]; exact Stps.dp_len m
def joinB (o : L) : Prop := o = [111, 114] ∨ o = [97, 110, 100] ∨ o = [110, 111, 116]
instance (o : L) : Decidable (joinB o) := by unfold joinB; infer_instance
def oneN (at_ : List Mk) (x : Prd) : List Np := if joinB x.op then predsN at_ x.kids else stepsN at_ x.steps ++ [endN (at_ ++ marksS x.steps) (x.op != [104, 97, 115] && x.attr == [])]
theorem predsN_get {at_ : List Mk} {p : Prds} {i : Nat} {x : Prd} (h : p.get i = some x) : predsN at_ (p.dp i) = oneN at_ x ++ predsN at_ (p.dp (i + 1)) := by
  rw [p.dp_get i x h, predsN]
  unfold oneN joinB
  rfl
theorem predsN_end (at_ : List Mk) (p : Prds) : predsN at_ (p.dp p.len) = [] := by rw [Prds.dp_len, predsN]
theorem marks_len : ∀ s : Stps, (marksS s).length = s.len
  | .nil => rfl
  | .cons d t p m => by simp only [marksS, Stps.len, List.length_cons, marks_len m]
theorem marks_get : ∀ (s : Stps) (i : Nat) (x : Stp), s.get i = some x → (marksS s)[i]? = some (x.deep, x.test)
  | .nil, i, x, h => by simp [Stps.get] at h
  | .cons d t p m, 0, x, h => by simp only [Stps.get, Option.some.injEq] at h; subst h; rfl
  | .cons d t p m, i + 1, x, h => by simp only [marksS, List.getElem?_cons_succ]; exact marks_get m i x h
theorem marks_take {s : Stps} {i : Nat} {x : Stp} (h : s.get i = some x) : (marksS s).take (i + 1) = (marksS s).take i ++ [(x.deep, x.test)] := by
  obtain ⟨hl, e⟩ := List.getElem?_eq_some_iff.1 (marks_get s i x h)
  rw [List.take_succ_eq_append_getElem hl, e]
def restN (ahead : List Mk) (s : Stps) (i : Nat) : List Np := stepsN (ahead ++ (marksS s).take i) (s.dp i)
theorem restN_zero (ahead : List Mk) (s : Stps) : restN ahead s 0 = stepsN ahead s := by unfold restN; rw [Stps.dp_zero, List.take_zero, List.append_nil]
theorem restN_get {ahead : List Mk} {s : Stps} {i : Nat} {x : Stp} (h : s.get i = some x) : restN ahead s i = predsN (ahead ++ (marksS s).take (i + 1)) x.preds ++ restN ahead s (i + 1) := by
  unfold restN
  rw [s.dp_get i x h, stepsN, marks_take h, List.append_assoc]
theorem restN_end (ahead : List Mk) (s : Stps) : restN ahead s s.len = [] := by unfold restN; rw [Stps.dp_len, stepsN]
theorem slashM_pos (m : Mk) : 1 ≤ (slashM m).length := by unfold slashM; split <;> simp <;> omega
theorem bareT_app (a b : List Mk) : (bareT (a ++ b)).length = (bareT a).length + (bareT b).length := by unfold bareT; rw [List.flatMap_append, List.length_append]
theorem bareT_one (m : Mk) : (bareT [m]).length = (slashM m).length := by unfold bareT; simp
theorem bareT_len (a : List Mk) : a.length ≤ (bareT a).length := by
  induction a with
  | nil => simp
  | cons m a ih =>
    have e : bareT (m :: a) = slashM m ++ bareT a := by unfold bareT; rw [List.flatMap_cons]
    have := slashM_pos m
    rw [e, List.length_append, List.length_cons]
    omega
mutual
def lS : Stps → Nat
  | .nil => 0
  | .cons d t p m => (slashM (d, t)).length + lP p + lS m
def lP : Prds → Nat
  | .nil => 0
  | .cons o k s _ _ m => lP k + lS s + lP m
end
theorem bareT_marks : ∀ s : Stps, (bareT (marksS s)).length ≤ lS s
  | .nil => by simp [marksS, bareT]
  | .cons d t p m => by
    have e : bareT (marksS (.cons d t p m)) = slashM (d, t) ++ bareT (marksS m) := by unfold bareT; rw [marksS, List.flatMap_cons]
    have := bareT_marks m
    rw [e, List.length_append, lS]
    omega
theorem lS_get : ∀ (s : Stps) (i : Nat) (x : Stp), s.get i = some x → (bareT ((marksS s).take (i + 1))).length + lP x.preds ≤ lS s
  | .nil, i, x, h => by simp [Stps.get] at h
  | .cons d t p m, 0, x, h => by
    simp only [Stps.get, Option.some.injEq] at h
    subst h
    simp only [marksS, List.take_succ_cons, List.take_zero, bareT_one, lS]
    omega
  | .cons d t p m, i + 1, x, h => by
    have := lS_get m i x h
    have e : bareT ((marksS (.cons d t p m)).take (i + 1 + 1)) = slashM (d, t) ++ bareT ((marksS m).take (i + 1)) := by unfold bareT; rw [marksS, List.take_succ_cons, List.flatMap_cons]
    rw [e, List.length_append, lS]
    omega
theorem lP_get : ∀ (p : Prds) (i : Nat) (x : Prd), p.get i = some x → lP x.kids + lS x.steps ≤ lP p
  | .nil, i, x, h => by simp [Prds.get] at h
  | .cons o k s a t m, 0, x, h => by simp only [Prds.get, Option.some.injEq] at h; subst h; simp only [lP]; omega
  | .cons o k s a t m, i + 1, x, h => by have := lP_get m i x h; simp only [lP]; omega
theorem slS.mkr {ai : Option Addr} {n cap : Nat} {s : Stps} (h : slS w A 79 112 (.slice ai n cap) s) {i : Nat} (hi : i ≤ s.len) : MkR w (.slice ai i cap) ((marksS s).take i) := by
  have hn : n = s.len ∧ s.len ≤ 1000 ∧ s.len ≤ cap := by
    rcases h with ⟨h, e⟩ | ⟨g, c, cur, e, _, _, hn, h0, _⟩
    · cases e; exact ⟨h.symm, by omega, by omega⟩
    · cases e; exact ⟨rfl, hn, h0.2⟩
  refine ⟨ai, cap, by rw [List.length_take, marks_len]; congr; omega, ⟨by rw [List.length_take, marks_len]; omega, by rw [List.length_take, marks_len]; omega⟩, fun j m hm => ?_⟩
  rw [List.getElem?_take] at hm
  split at hm
  · next hj =>
    obtain ⟨x, hx⟩ := s.get_lt j (by omega)
    rw [marks_get s j x hx] at hm
    cases hm
    obtain ⟨g, e, _, ⟨cur, hb⟩, a0, a1, u, a2, hp⟩ := h.at hx
    obtain ⟨pi, pc, rfl, _⟩ := hp.len
    exact ⟨g, pi, _, pc, e, blk_lt hb, a0, a1, a2⟩
  · simp at hm
end Go.Proofs.YtoahlnmhjinneaaGreatDoor

set_option linter.unusedSimpArgs false
set_option linter.unusedVariables false
namespace Go.Proofs.YtoahlnmhjinneaaGreatDoor
open Go.RowKit Go.Maps Go.Lib
variable {w w' w1 w2 WO wr W W0 : World}
abbrev Inv := (Nat → Prop) → List Np → World → Prop
structure InvOK (I : Inv) : Prop where
  below : ∀ F acc W W', I F acc W → Below W.heap.size W W' → I F acc W'
  lt : ∀ F acc W k, I F acc W → F k → k < W.heap.size
def Nmax : Nat := 2200000000
def TkPost (I : Inv) (F : Nat → Prop) (acc : List Np) (W : World) (e : Ending) (w' : World) : Prop := e = .returned (.tuple #[]) ∧ ∃ F', I F' acc w' ∧ Fr F W w' ∧ ∀ k, F' k → F k ∨ W.heap.size ≤ k
structure TkPre (I : Inv) (F : Nat → Prop) (acc : List Np) (W : World) (v : Value) (ms : List Mk) : Prop where
  inv : I F acc W
  row : MkR W v ms
  apart : ∀ k, v.ownBlock = some k → ¬ F k
  ne : ms ≠ []
  len : (bareT ms).length ≤ 1000
  acc : acc.length < Nmax
def Tkr (fv : Value) (I : Inv) : Prop :=
  (∃ p, fv = .func (.func 16) #[p] #[] ∧ ∀ F acc W v ms wh, TkPre I F acc W v ms → Calls Tryz.prog 16 #[p, v, .bool wh] W (TkPost I F (acc ++ [(ms, wh)]) W)) ∨
  (∃ p q, fv = .func (.func 18) #[] #[p, q] ∧ ∀ F acc W v ms wh, TkPre I F acc W v ms → Calls Tryz.prog 18 #[v, .bool wh, p, q] W (TkPost I F (acc ++ [(ms, wh)]) W))
def MidN (I : Inv) (F : Nat → Prop) (TOT : List Np) (W0 wr : World) (rest : List Np) : Prop := ∃ F' acc', I F' acc' wr ∧ Fr F W0 wr ∧ (∀ k, F' k → F k ∨ W0.heap.size ≤ k) ∧ acc' ++ rest = TOT
variable {I : Inv} {F : Nat → Prop} {TOT rest t acc : List Np}
theorem MidN.start (h : I F acc W) : MidN I F (acc ++ t) W W t := ⟨F, acc, h, Fr.refl _ _, fun k h => Or.inl h, rfl⟩
theorem MidN.below (hI : InvOK I) (h : MidN I F TOT W0 wr rest) (hb : Below wr.heap.size wr w') : MidN I F TOT W0 w' rest := by
  obtain ⟨F', acc', h1, h2, h3, h4⟩ := h
  exact ⟨F', acc', hI.below _ _ _ _ h1 hb, h2.on hb, h3, h4⟩
theorem MidN.part {f : FuncId} {args : Array Value} (hI : InvOK I) (h : MidN I F TOT W0 wr (t ++ rest)) (hb : Below wr.heap.size wr W) (hc : ∀ F' acc', I F' acc' W → (∀ k, F' k → k < wr.heap.size) → (∀ k, F' k → F k ∨ W0.heap.size ≤ k) → acc' ++ (t ++ rest) = TOT → Calls Tryz.prog f args W (TkPost I F' (acc' ++ t) W)) :
    Calls Tryz.prog f args W fun e w' => e = .returned (.tuple #[]) ∧ Hid (MidN I F TOT W0 w' rest) ∧ ∀ k, wr.heap.size ≤ k → k < W.heap.size → w'.heap[k]? = W.heap[k]? := by
  obtain ⟨F', acc', h1, h2, h3, h4⟩ := h
  have h2' := h2.on hb
  refine (hc F' acc' (hI.below _ _ _ _ h1 hb) (fun k hk => hI.lt _ _ _ k h1 hk) h3 h4).mono ?_
  rintro e w' ⟨h, F2, k1, k2, k3⟩
  refine ⟨h, hide ⟨F2, acc' ++ t, k1, h2'.trans k2 fun i hi hf => ?_, fun k hk => ?_, by rw [List.append_assoc]; exact h4⟩, fun k hk hl => k2.block k hl fun hF => by have := hI.lt _ _ _ k h1 hF; omega⟩
  · rcases h3 i hf with h | h
    · exact h
    · omega
  · rcases k3 k hk with h | h
    · exact h3 k h
    · have := h2'.size
      exact Or.inr (by omega)
theorem MidN.fin (h : MidN I F TOT W wr []) : TkPost I F TOT W (.returned (.tuple #[])) wr := by
  obtain ⟨F', acc', h1, h2, h3, h4⟩ := h
  rw [List.append_nil] at h4
  subst h4
  exact ⟨rfl, F', h1, h2, h3⟩
theorem MidN.fr (h : MidN I F TOT W0 wr rest) : Fr F W0 wr := by obtain ⟨_, _, _, h, _⟩ := h; exact h
theorem MidN.len (h : MidN I F TOT W0 wr (t ++ rest)) (hT : TOT.length ≤ Nmax) {acc' : List Np} (e : acc' ++ (t ++ rest) = TOT) : (acc' ++ t).length ≤ Nmax := by
  have := congrArg List.length e
  simp only [List.length_append] at this ⊢
  omega
abbrev aP (O : ByteArray) (ki : Option Addr) (nk kc : Nat) (si : Option Addr) (ns sc : Nat) (A T : ByteArray) : Array Value := #[.string O, .slice ki nk kc, .slice si ns sc, .string A, .string T]
def AlOK (I : Inv) (fv : Value) (s : Stps) : Prop := ∀ F acc W ahead va vi vn vc wh, I F acc W → MkR W va ahead → (∀ k, va.ownBlock = some k → ¬ F k) → slS W (fun k => ¬ F k) 79 112 (.slice vi vn vc) s → (ahead ≠ [] ∨ s.len ≠ 0) → (bareT ahead).length + lS s ≤ 1000 → (acc ++ (stepsN ahead s ++ [endN (ahead ++ marksS s) wh])).length ≤ Nmax →
  Calls Tryz.prog 31 #[fv, va, .slice vi vn vc, .bool wh] W (TkPost I F (acc ++ (stepsN ahead s ++ [endN (ahead ++ marksS s) wh])) W)
def CdOK (I : Inv) (fv : Value) (x : Prd) : Prop := ∀ F acc W at_ va ki nk kc si ns sc, I F acc W → MkR W va at_ → (∀ k, va.ownBlock = some k → ¬ F k) → slP W (fun k => ¬ F k) 79 112 (.slice ki nk kc) x.kids → slS W (fun k => ¬ F k) 79 112 (.slice si ns sc) x.steps → at_ ≠ [] → (bareT at_).length + (lP x.kids + lS x.steps) ≤ 1000 → (acc ++ oneN at_ x).length ≤ Nmax →
  Calls Tryz.prog 47 #[fv, va, .agg (aP (bs x.op) ki nk kc si ns sc (bs x.attr) (bs x.text))] W (TkPost I F (acc ++ oneN at_ x) W)
theorem Fr.slS {s : Stps} {v : Value} (h : Fr F W0 wr) (hs : slS W0 (fun k => ¬ F k) 79 112 v s) : slS wr (fun k => k < W0.heap.size ∧ ¬ F k) 79 112 v s := hs.move fun b hb hl => ⟨⟨hl, hb⟩, h.block b hl hb⟩
theorem Fr.slP {s : Prds} {v : Value} (h : Fr F W0 wr) (hs : slP W0 (fun k => ¬ F k) 79 112 v s) : slP wr (fun k => k < W0.heap.size ∧ ¬ F k) 79 112 v s := hs.move fun b hb hl => ⟨⟨hl, hb⟩, h.block b hl hb⟩
theorem slS.on {s : Stps} {v : Value} {A A' : Nat → Prop} (hs : slS w A 79 112 v s) (hb : Below w.heap.size w w') (hA : ∀ k, A k → A' k) : slS w' A' 79 112 v s := hs.move fun b hb' hl => ⟨hA b hb', hb.block b hl⟩
theorem slP.on {s : Prds} {v : Value} {A A' : Nat → Prop} (hs : slP w A 79 112 v s) (hb : Below w.heap.size w w') (hA : ∀ k, A k → A' k) : slP w' A' 79 112 v s := hs.move fun b hb' hl => ⟨hA b hb', hb.block b hl⟩
theorem MkR.fr {v : Value} {ms : List Mk} (h : MkR W0 v ms) (hf : Fr F W0 wr) (ha : ∀ k, v.ownBlock = some k → ¬ F k) : MkR wr v ms := by
  obtain ⟨ai, cap, rfl, hn, hr⟩ := h
  refine ⟨ai, cap, rfl, hn, fun i m hm => ?_⟩
  obtain ⟨g, pi, pn, pc, e, hg, h0, h1, h2⟩ := hr i m hm
  subst e
  have hb := hf.block g hg (ha g rfl)
  have up : ∀ j u, W0.cell? ⟨g, j, none⟩ = some u → wr.cell? ⟨g, j, none⟩ = some u := fun j u hj => (World.cell?_of_block hb).trans hj
  exact ⟨g, pi, pn, pc, rfl, Nat.lt_of_lt_of_le hg hf.size, up _ _ h0, up _ _ h1, up _ _ h2⟩
theorem endN_eq {ms : List Mk} {m : Mk} (h : ms.getLast? = some m) (wh : Bool) : endN ms wh = (ms, wh && (m.2 != [35])) := by unfold endN; rw [h]
end Go.Proofs.YtoahlnmhjinneaaGreatDoor

set_option linter.unusedSimpArgs false
set_option linter.unusedVariables false
namespace Go.Proofs.YtoahlnmhjinneaaGreatDoor
open Go.RowKit Go.Maps Go.Lib
variable {w w' w1 w2 WO wr W W0 : World} {I : Inv} {F : Nat → Prop} {TOT rest t acc : List Np} {fv : Value}
theorem cellsP5 {k : Nat} {x0 x1 x2 x3 x4 : Value} {ty : TypeId} (h : w.heap[k]? = some (.cells #[x0, x1, x2, x3, x4] ty (0, 0))) : w.cell? ⟨k, 0, none⟩ = some x0 ∧ w.cell? ⟨k, 1, none⟩ = some x1 ∧ w.cell? ⟨k, 2, none⟩ = some x2 ∧ w.cell? ⟨k, 3, none⟩ = some x3 ∧ w.cell? ⟨k, 4, none⟩ = some x4 := ⟨cell_of h rfl, cell_of h rfl, cell_of h rfl, cell_of h rfl, cell_of h rfl⟩
abbrev C5 (W : World) (k : Nat) (O : ByteArray) (ki : Option Addr) (nk kc : Nat) (si : Option Addr) (ns sc : Nat) (A X : ByteArray) : Prop := W.cell? ⟨k, 0, none⟩ = some (.string O) ∧ W.cell? ⟨k, 1, none⟩ = some (.slice ki nk kc) ∧ W.cell? ⟨k, 2, none⟩ = some (.slice si ns sc) ∧ W.cell? ⟨k, 3, none⟩ = some (.string A) ∧ W.cell? ⟨k, 4, none⟩ = some (.string X)
theorem along_cond {va : Value} {ahead at_ : List Mk} {pi : Option Addr} {pn pc vn vc i j : Nat} {vi : Option Addr} {p : Prds} {s : Stps} {x : Prd} (hI : InvOK I) (hx : CdOK I fv x) (hT : TOT.length ≤ Nmax) (hm : MkR W0 va ahead) (hap : ∀ k, va.ownBlock = some k → ¬ F k) (hs : slS W0 (fun k => ¬ F k) 79 112 (.slice vi vn vc) s) (hi : i < s.len)
    (hp : slP wr (fun k => k < W0.heap.size ∧ ¬ F k) 79 112 (.slice pi pn pc) p) (hj : p.get j = some x) (hat : at_ = ahead ++ (marksS s).take (i + 1)) (hlen : (bareT at_).length + lP p ≤ 1000) (M : MidN I F TOT W0 wr (oneN at_ x ++ rest)) :
    ∃ g O ki nk kc si ns sc A X, pi = some ⟨g, 0, none⟩ ∧ (wr.cell? ⟨g, j * 5, none⟩ = some (.string O) ∧ wr.cell? ⟨g, j * 5 + 1, none⟩ = some (.slice ki nk kc) ∧ wr.cell? ⟨g, j * 5 + 2, none⟩ = some (.slice si ns sc) ∧ wr.cell? ⟨g, j * 5 + 3, none⟩ = some (.string A) ∧ wr.cell? ⟨g, j * 5 + 4, none⟩ = some (.string X)) ∧
      C5 (wr.alloc (.cells (aP O ki nk kc si ns sc A X) 112)) wr.heap.size O ki nk kc si ns sc A X ∧
      Hid (∀ W m, Below (wr.alloc (.cells (aP O ki nk kc si ns sc A X) 112)).heap.size (wr.alloc (.cells (aP O ki nk kc si ns sc A X) 112)) W → C5 W wr.heap.size O ki nk kc si ns sc A X ∧
        Calls Tryz.prog 48 #[.slice (some ⟨W.heap.size, 0, none⟩) 2 2] ((W.alloc (.cells #[va, .slice vi (i + 1) vc] 52)).drewN m) fun e w' => ∃ ai n cap, e = .returned (.slice ai n cap) ∧ C5 w' wr.heap.size O ki nk kc si ns sc A X ∧ Hid (∀ m, Calls Tryz.prog 47 #[fv, .slice ai n cap, .agg (aP O ki nk kc si ns sc A X)] (w'.drewN m) fun e w' => e = .returned (.tuple #[]) ∧ C5 w' wr.heap.size O ki nk kc si ns sc A X ∧ Hid (MidN I F TOT W0 w' rest))) := by
  obtain ⟨g, e1, hg, -, a0, ⟨k1, a1, r1⟩, ⟨p1, a2, q1⟩, a3, a4⟩ := hp.at hj
  obtain ⟨ki, kc, rfl, _⟩ := r1.len
  obtain ⟨si, sc, rfl, _⟩ := q1.len
  have hB := Below_new wr (.cells (aP (bs x.op) ki x.kids.len kc si x.steps.len sc (bs x.attr) (bs x.text)) 112)
  have hb0 := (Below.refl wr.heap.size wr).alloc (Nat.le_refl _) (.cells (aP (bs x.op) ki x.kids.len kc si x.steps.len sc (bs x.attr) (bs x.text)) 112)
  have hfr := M.fr
  have hlx := lP_get p j x hj
  refine ⟨g, _, ki, _, kc, si, _, sc, _, _, e1, ⟨a0, a1, a2, a3, a4⟩, cellsP5 hB, hide fun W m0 hW => ?_⟩
  have hBW := (hW.block _ (blk_lt hB)).trans hB
  have hbW : Below wr.heap.size wr W := hb0.trans (below_less hW hb0.size)
  have hf : Fr F W0 W := hfr.on hbW
  have hmW := hm.fr hf hap
  have hsW := (hf.slS hs).mkr (i := i + 1) (by omega)
  have hal := bareT_len at_
  have hla : at_.length ≤ 1000 := by omega
  refine ⟨cellsP5 hBW, (concat2 _ _ _ _ W hmW hsW (by rw [hat, List.length_append] at hla; omega) m0).mono ?_⟩
  rintro e w' ⟨ai, n, cap, h1, h2, h3, h4⟩
  have hBw := (h3.block _ (blk_lt hBW)).trans hBW
  refine ⟨ai, n, cap, h1, cellsP5 hBw, hide fun m => ?_⟩
  have hbw : Below wr.heap.size wr (w'.drewN m) := belowN (hbW.trans (below_less h3 hbW.size)) m
  rw [← hat] at h2
  have h2m : MkR (w'.drewN m) (.slice ai n cap) at_ := h2.below (B := 0) (belowN (Below.refl _ _) m)
  have main := M.part hI hbw (f := 47) (args := #[fv, .slice ai n cap, .agg (aP (bs x.op) ki x.kids.len kc si x.steps.len sc (bs x.attr) (bs x.text))]) fun F' acc' k1 k3 k2 k4 => ?_
  · refine main.mono ?_
    rintro e w2 ⟨r1, r2, r3⟩
    have hsz := Nat.lt_of_lt_of_le (blk_lt hBW) h3.size
    exact ⟨r1, cellsP5 ((r3 wr.heap.size (Nat.le_refl _) hsz).trans hBw), r2⟩
  have hA : ∀ k, (k < W0.heap.size ∧ ¬ F k) → ¬ F' k := fun k hk hF => by
    rcases k2 k hF with h | h
    · exact hk.2 h
    · omega
  refine hx F' acc' (w'.drewN m) at_ _ ki _ kc si _ sc k1 h2m (fun k e hF => ?_) (r1.on hbw hA) (q1.on hbw hA) ?_ (by omega) ?_
  · have h5 := h4 k e
    have h6 := k3 k hF
    have h7 := hbW.size
    omega
  · rw [hat]
    intro h0
    have := congrArg List.length h0
    simp [marks_len] at this
    omega
  · exact MidN.len M hT k4
end Go.Proofs.YtoahlnmhjinneaaGreatDoor

set_option linter.unusedSimpArgs false
set_option linter.unusedVariables false
namespace Go.Proofs.YtoahlnmhjinneaaGreatDoor
open Go.RowKit Go.Maps Go.Lib
variable {w w' w1 w2 WO wr W W0 : World} {I : Inv} {F : Nat → Prop} {TOT rest t acc : List Np} {fv : Value}
def TkCall (I : Inv) (F : Nat → Prop) (TOT : List Np) (W0 : World) (fv v : Value) (b : Bool) (w : World) : Prop :=
  (∃ p, fv = .func (.func 16) #[p] #[] ∧ Calls Tryz.prog 16 #[p, v, .bool b] w fun e w' => e = .returned (.tuple #[]) ∧ TkPost I F TOT W0 e w') ∨
  (∃ p q, fv = .func (.func 18) #[] #[p, q] ∧ Calls Tryz.prog 18 #[v, .bool b, p, q] w fun e w' => e = .returned (.tuple #[]) ∧ TkPost I F TOT W0 e w')
theorem TkCall.a {p v : Value} {b : Bool} (h : TkCall I F TOT W0 (.func (.func 16) #[p] #[]) v b w) : Calls Tryz.prog 16 #[p, v, .bool b] w fun e w' => e = .returned (.tuple #[]) ∧ TkPost I F TOT W0 e w' := by
  rcases h with ⟨p', e, h⟩ | ⟨p', q', e, h⟩
  · cases e; exact h
  · cases e
theorem TkCall.b {p q v : Value} {b : Bool} (h : TkCall I F TOT W0 (.func (.func 18) #[] #[p, q]) v b w) : Calls Tryz.prog 18 #[v, .bool b, p, q] w fun e w' => e = .returned (.tuple #[]) ∧ TkPost I F TOT W0 e w' := by
  rcases h with ⟨p', e, h⟩ | ⟨p', q', e, h⟩
  · cases e
  · cases e; exact h
theorem Tkr.val (h : Tkr fv I) : (∃ p, fv = .func (.func 16) #[p] #[]) ∨ ∃ p q, fv = .func (.func 18) #[] #[p, q] := by
  rcases h with ⟨p, e, _⟩ | ⟨p, q, e, _⟩
  · exact Or.inl ⟨p, e⟩
  · exact Or.inr ⟨p, q, e⟩
theorem along_end {va : Value} {ahead : List Mk} {vn vc : Nat} {vi : Option Addr} {s : Stps} {wh : Bool} (hI : InvOK I) (hfv : Tkr fv I) (hT : TOT.length ≤ Nmax) (hm : MkR W0 va ahead) (hap : ∀ k, va.ownBlock = some k → ¬ F k) (hs : slS W0 (fun k => ¬ F k) 79 112 (.slice vi vn vc) s) (hne : ahead ≠ [] ∨ s.len ≠ 0) (hlen : (bareT ahead).length + lS s ≤ 1000) (M : MidN I F TOT W0 wr [endN (ahead ++ marksS s) wh]) :
    Calls Tryz.prog 48 #[.slice (some ⟨wr.heap.size, 0, none⟩) 2 2] (wr.alloc (.cells #[va, .slice vi vn vc] 52)) fun e w' => ∃ g n cap X b, e = .returned (.slice (some ⟨g, 0, none⟩) (n + 1) cap) ∧ (n ≤ 1000 ∧ (n : Int) < (n : Int) + 1 ∧ IntKind.i64.wrap ((n : Int) + 1 - 1) = (n : Int)) ∧ w'.cell? ⟨g, n * 3 + 1, none⟩ = some (.string X) ∧ (X.toList == [35]) = b ∧ Hid (TkCall I F TOT W0 fv (.slice (some ⟨g, 0, none⟩) (n + 1) cap) (wh && !b) w') := by
  have hfr := M.fr
  have hvn : vn = s.len := by obtain ⟨_, _, e, _⟩ := hs.len; cases e; rfl
  have hsW := (hfr.slS hs).mkr (i := s.len) (Nat.le_refl _)
  rw [List.take_of_length_le (by rw [marks_len]; exact Nat.le_refl _), ← hvn] at hsW
  have hbm := bareT_marks s
  have hba := bareT_app ahead (marksS s)
  have hal := bareT_len (ahead ++ marksS s)
  have hla : (ahead ++ marksS s).length ≤ 1000 := by omega
  have hn0 : ahead ++ marksS s ≠ [] := by
    intro h0
    have := congrArg List.length h0
    rw [List.length_append, marks_len] at this
    simp only [List.length_nil] at this
    rcases hne with h | h
    · exact h (List.eq_nil_of_length_eq_zero (by omega))
    · omega
  refine (concat2 _ _ _ _ wr (hm.fr hfr hap) hsW (by rw [List.length_append] at hla; omega) 0).mono ?_
  rintro e w' ⟨ai, n, cap, rfl, h2, h3, h4⟩
  generalize hall : ahead ++ marksS s = all at *
  obtain ⟨n', hn'⟩ : ∃ n', all.length = n' + 1 := ⟨all.length - 1, by have := List.length_pos_iff.2 hn0; omega⟩
  have hh := h2
  obtain ⟨ai', cap', e, hn, hr⟩ := h2
  cases e
  have hgl : all[n']? = some all[n'] := List.getElem?_eq_getElem (by omega)
  obtain ⟨g, pi, pn, pc, rfl, hg, a0, a1, a2⟩ := hr n' _ hgl
  have hlast : all.getLast? = some all[n'] := by rw [List.getLast?_eq_getElem?, show all.length - 1 = n' by omega]; exact hgl
  rw [endN_eq hlast] at M
  generalize all[n'] = m at *
  rw [hn'] at hh ⊢
  have hmb : (m.2 != [35]) = !((bs m.2).toList == [35]) := by rw [bs_toL]; rfl
  rw [hmb] at M
  obtain ⟨F', acc', k1, k2, k3, k4⟩ := M
  have hk1 := hI.below _ _ _ _ k1 h3
  have pre : TkPre I F' acc' w' (.slice (some ⟨g, 0, none⟩) (n' + 1) cap) all := ⟨hk1, hh, fun k e hF => by
      have h5 := h4 k e
      have h6 := hI.lt _ _ _ k k1 hF
      omega, hn0, by omega, by
      have := congrArg List.length k4
      rw [List.length_append, List.length_singleton] at this
      omega⟩
  have post : ∀ (e : Ending) (w2 : World), TkPost I F' (acc' ++ [(all, wh && !((bs m.2).toList == [35]))]) w' e w2 → e = .returned (.tuple #[]) ∧ TkPost I F TOT W0 e w2 := fun e w2 ⟨p1, F2, p2, p3, p4⟩ => by
    refine ⟨p1, p1, F2, by rw [← k4]; exact p2, (k2.on h3).trans p3 fun i hi hf => ?_, fun k hk => ?_⟩
    · rcases k3 i hf with h | h
      · exact h
      · omega
    · rcases p4 k hk with h | h
      · exact k3 k h
      · have := (k2.on h3).size
        exact Or.inr (by omega)
  refine ⟨g, n', cap, bs m.2, _, rfl, ⟨by omega, by omega, by rw [IntKind.wrap_i64]; omega⟩, a1, rfl, hide ?_⟩
  rcases hfv with ⟨p, rfl, hc⟩ | ⟨p, q, rfl, hc⟩
  · exact Or.inl ⟨p, rfl, (hc F' acc' w' _ all _ pre).mono post⟩
  · exact Or.inr ⟨p, q, rfl, (hc F' acc' w' _ all _ pre).mono post⟩
end Go.Proofs.YtoahlnmhjinneaaGreatDoor
