import Derived.Test.YtbjpimnmgonebaaDoorRows
import Derived.Test.YtbjpimnmgonebaaDoorWg
import Derived.WalkKit
import Derived.ProofKit
import Derived.OpenShut
import Derived.SizedLaws
import Derived.Deep.DeepHandedRow
import Derived.Lib.LaidTab
namespace Go.Proofs.YtbjpimnmgonebaaDoor
open Go.ChangeShapes Go.WideShapes Go.ChangeAt Go.RowKit

theorem own : ownKnob Tryd.prog.godebug = none := by kernel_rfl
theorem gTab : Tryd.prog.globalNamed "prune/chars.named" = some 0 := by kernel_rfl
theorem gTabType : (Tryd.prog.globals[0]?).map (·.type) = some 58 := by kernel_rfl
theorem cells58 : Tryd.prog.cellsOf 58 = 10 := by kernel_rfl
theorem cells57 : Tryd.prog.cellsOf 57 = 2 := by kernel_rfl
theorem cells9 : Tryd.prog.cellsOf 9 = 1 := by kernel_rfl
theorem cells21 : Tryd.prog.cellsOf 21 = 1 := by kernel_rfl

/-- A row of the table, by what it reads as. -/
theorem row_of {H : Type} {enc : TypeId × Value → H} {w : World} {base : Nat} {sp : Nat → Bool} {held : Bool} {fuel : Nat} {c0 c1 : Value} {bs : List UInt8} {z : Int} {p : List MemPlace}
    (h : DataW.trod enc Tryd.prog w base sp held fuel 57 [c0, c1] = some (.agg [.lit (.string bs), .lit (.int .i32 z)], p)) : c0 = .string ⟨bs.toArray⟩ ∧ c1 = .int .i32 z := by
  obtain ⟨y0, y1, n, hx, _, h0, h1⟩ := trod_struct2 Tryd.underlying57 h
  simp only [cells9, cells21, List.drop_zero, List.take_succ_cons, List.take_zero, List.drop_succ_cons] at h0 h1
  obtain ⟨s, e0, d0, _⟩ := DataW.trod_string Tryd.underlying9 h0
  obtain ⟨m, e1, d1, _⟩ := DataW.trod_int Tryd.underlying21 h1
  subst d0 d1
  simp only [Prod.mk.injEq, DataW.agg.injEq, List.cons.injEq, DataW.lit.injEq, Lit.string.injEq, Lit.int.injEq, and_true, true_and] at hx
  obtain ⟨⟨hb, hm⟩, _⟩ := hx
  simp only [List.cons.injEq, and_true] at e0 e1
  refine ⟨?_, by rw [e1, hm]⟩
  rw [e0, hb]

theorem five {α : Type} {xs : List α} (h : xs.length = 5) : ∃ a b c d e, xs = [a, b, c, d, e] := by
  match xs, h with
  | [a, b, c, d, e], _ => exact ⟨a, b, c, d, e, rfl⟩
theorem ten {α : Type} {xs : List α} (h : xs.length = 10) : ∃ a b c d e f g i j k, xs = [a, b, c, d, e, f, g, i, j, k] := by
  match xs, h with
  | [a, b, c, d, e, f, g, i, j, k], _ => exact ⟨a, b, c, d, e, f, g, i, j, k, rfl⟩

/-- WHAT THE ROWS' LIST GIVES: the table lies as the walks want it. -/
theorem tab_of_laid {W : World} (h : laidMetH Tryd.prog [("prune/chars.named", Rows.laid_prune_chars_named)] W) : Tab W := by
  have h' : laidMet Tryd.prog [("prune/chars.named", Rows.laid_prune_chars_named)] W := h
  obtain ⟨ps, ⟨g', t', cs, fuel, p, q, hg', ht', hvar, hd, _, _⟩, _⟩ := h'
  obtain rfl := Option.some.inj (gTab.symm.trans hg')
  obtain rfl := Option.some.inj (gTabType.symm.trans ht')
  obtain ⟨xs, m, _, hx, hl, hxl, hi⟩ := DataW.trod_array Tryd.underlying58 hd
  rw [cells58] at hl
  rw [cells57] at hi
  obtain ⟨x0, x1, x2, x3, x4, rfl⟩ := five hxl
  obtain ⟨c0, c1, c2, c3, c4, c5, c6, c7, c8, c9, hc⟩ := ten hl
  rw [hc] at hi
  simp only [Rows.laid_prune_chars_named, Prod.mk.injEq, DataW.agg.injEq, List.map_cons, List.map_nil, List.cons.injEq, and_true] at hx
  obtain ⟨⟨k0, k1, k2, k3, k4⟩, _⟩ := hx
  have i0 := hi 0 (by omega)
  have i1 := hi 1 (by omega)
  have i2 := hi 2 (by omega)
  have i3 := hi 3 (by omega)
  have i4 := hi 4 (by omega)
  obtain ⟨a0, q0⟩ := x0
  obtain ⟨a1, q1⟩ := x1
  obtain ⟨a2, q2⟩ := x2
  obtain ⟨a3, q3⟩ := x3
  obtain ⟨a4, q4⟩ := x4
  simp only at k0 k1 k2 k3 k4
  subst k0 k1 k2 k3 k4
  obtain ⟨rfl, rfl⟩ := row_of i0
  obtain ⟨rfl, rfl⟩ := row_of i1
  obtain ⟨rfl, rfl⟩ := row_of i2
  obtain ⟨rfl, rfl⟩ := row_of i3
  obtain ⟨rfl, rfl⟩ := row_of i4
  have hcs : cs = tab := by
    apply Array.toList_inj.1
    rw [hc]; rfl
  subst hcs
  simp only [World.var?, gTab, Option.bind_some] at hvar
  split at hvar
  · rename_i c t fr hh
    simp only [Option.some.injEq] at hvar
    subst hvar
    exact ⟨t, fr, hh⟩
  · cases hvar

/-- A world for the witnesses: the settled one, the table (block 0) holding what its initialiser lays. -/
noncomputable def laidWorld (os : Os) : World :=
  { World.holding Tryd.prog os ⟨#[], #[], []⟩ with heap := (World.holding Tryd.prog os ⟨#[], #[], []⟩).heap.modify 0 fun
      | .cells _ t frozen => .cells tab t frozen
      | o => o }
end Go.Proofs.YtbjpimnmgonebaaDoor
