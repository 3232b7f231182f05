import Derived.Test.YtoahlnmhjinneaaGreatDoorRows
import Derived.WalkKit
import Derived.ProofKit
import Derived.OpenShut
import Derived.SizedLaws
import Derived.SliceStrings
import Derived.Carry
import Derived.Deep.DeepHandedRow
import Derived.Lib.LaidTab
import Derived.Lib.LaidU8
import Derived.Test.YtoahlnmhjinneaaGreatDoorGbj
set_option linter.unusedVariables false
set_option linter.unusedSimpArgs false
set_option linter.unusedSimpArgs false
set_option linter.unusedVariables false
namespace Go.Proofs.YtoahlnmhjinneaaGreatDoor
open Go.ChangeShapes Go.WideShapes Go.ChangeAt Go.RowKit Go.Lib
theorem own : ownKnob Tryz.prog.godebug = none := by kernel_rfl
theorem gPow : Tryz.prog.globalNamed "internal/strconv.uint64pow10" = some 0 := by kernel_rfl
theorem gPowType : (Tryz.prog.globals[0]?).map (·.type) = some 210 := by kernel_rfl
theorem und210 : Tryz.prog.underlying 210 = some (.array 20 176) := by kernel_rfl
theorem und176 : Tryz.prog.underlying 176 = some (.int .u64) := by kernel_rfl
theorem cells176 : Tryz.prog.cellsOf 176 = 1 := by kernel_rfl
theorem cells210 : Tryz.prog.cellsOf 210 = 20 := by kernel_rfl
theorem pow_data : (Rows.laid_internal_strconv_uint64pow10 : DataW Unit) = tabData .u64 pow10Tab := by rfl
theorem laid_tail {P : Program} {x : String × DataW Unit} {r : List (String × DataW Unit)} {W : World} (h : laidMet P (x :: r) W) : laidMet P r W := by
  obtain ⟨n, d⟩ := x
  obtain ⟨ps, ⟨g, t, cs, f, p, q, _, _, _, _, hq, e⟩, hnd, hrows⟩ := h
  subst e
  exact ⟨q, hq, (List.nodup_append.1 hnd).2.1, fun b off hm => hrows b off (List.mem_append_right _ hm)⟩
theorem tab_of_laid {W : World} (h : laidMetH Tryz.prog Rows.spineMoreUptoRow.laid W) : TabB W.heap.size W := by
  have h' : laidMet Tryz.prog [("math/bits.deBruijn32tab", Rows.laid_math_bits_deBruijn32tab), ("math/bits.deBruijn64tab", Rows.laid_math_bits_deBruijn64tab), ("internal/strconv.uint64pow10", Rows.laid_internal_strconv_uint64pow10), ("unicode/utf8.acceptRanges", Rows.laid_unicode_utf8_acceptRanges), ("unicode/utf8.first", Rows.laid_unicode_utf8_first)] W := h
  have h3 := laid_tail (laid_tail h')
  rw [pow_data] at h3
  exact tabBelow_of_tabIs (tabIs_of_head gPow gPowType und210 und176 cells176 cells210 h3)
theorem bulk_strs {H : Type} (ss : List ByteArray) : ss.length ≤ Rows.uptoBulkAll (strs ss : List (DataW H)) := by
  induction ss with
  | nil => exact Nat.zero_le _
  | cons s ss ih =>
    have e : (strs (s :: ss) : List (DataW H)) = .lit (.string s.data.toList) :: strs ss := rfl
    rw [e, Rows.uptoBulkAll, Rows.uptoBulk, List.length_cons]
    omega
set_option maxRecDepth 100000 in
theorem open_arg {H : Type} {enc : TypeId × Value → H} {W : World} {base : Nat} {v : Value} {d : DataW H} {p : List MemPlace} (hv : Value.okWide Tryz.prog W .any base 22 v) (h : DataW.Trod enc Tryz.prog W 0 (fun _ => true) true 22 v d p) (hb : Rows.uptoBulk d ≤ 1048576) :
    ∃ l : List L, StR W v l ∧ l.length ≤ Rows.uptoBulk d ∧ ∀ k, v.ownBlock = some k → k < W.heap.size := by
  obtain ⟨a0, len, cap, rfl⟩ := okWide_slice Tryz.underlying22 hv
  obtain ⟨fuel, hf⟩ := h
  have hk : ∀ k, (Value.slice a0 len cap).ownBlock = some k → k < W.heap.size := fun k e => by
    cases a0 with
    | none => cases e
    | some a =>
      cases e
      simp only [Value.okWide, Tryz.underlying22, Cell.okWide, Cell.ok] at hv
      obtain ⟨-, -, -, -, row, cells, hs, -⟩ := hv
      unfold World.shape? at hs
      split at hs
      · next hh => exact blk_lt hh
      · cases hs
  rcases open_strings Tryz.underlying22 Tryz.underlying9 cells9 hf with ⟨hcs, hx⟩ | ⟨a, len', cap', ss, hcs, _, hl, hm, hz, hx, hcell, _⟩
  · cases hcs
    exact ⟨[], ⟨none, 0, rfl, ⟨by simp, by simp⟩, fun i x hx => by simp at hx⟩, Nat.zero_le _, hk⟩
  · cases hcs
    simp only [if_true] at hz
    have hd : d = .slice (strs (ss.take len)) (strs (ss.drop len)) := congrArg Prod.fst hx
    have hlen : (ss.take len).length = len := by rw [List.length_take]; omega
    have hbk := bulk_strs (H := H) (ss.take len)
    rw [hlen] at hbk
    have hle : len ≤ Rows.uptoBulk d := by
      rw [hd, Rows.uptoBulk]
      omega
    obtain ⟨b, off, spot⟩ := a
    have hll : ((ss.take len).map fun s => s.data.toList).length = len := by rw [List.length_map, hlen]
    refine ⟨(ss.take len).map fun s => s.data.toList, ⟨_, cap, by rw [hll], ⟨by omega, by omega⟩, fun i x hy => ?_⟩, by rw [hll]; exact hle, hk⟩
    have hi : i < len := by
      have := (List.getElem?_eq_some_iff.1 hy).1
      omega
    have hspot : spot = none := by simpa [Addr.add] using World.cell?_spot (hcell 0 (by omega))
    subst hspot
    refine ⟨b, off, rfl, hk b rfl, ?_⟩
    rw [List.getElem?_map, List.getElem?_take_of_lt hi] at hy
    obtain ⟨s, hs, rfl⟩ := Option.map_eq_some_iff.1 hy
    have h1 := hcell i (by omega)
    have e1 : ss.getD i ByteArray.empty = s := by simp [List.getD, hs]
    rw [e1] at h1
    have e2 : (⟨b, off, none⟩ : Addr).add i = ⟨b, off + i, none⟩ := by
      unfold Addr.add
      split
      · next h0 => rw [h0]; rfl
      · rfl
    rw [e2] at h1
    rw [h1]
    rfl
def firstCs : Array Value := ((List.range 256).map fun c => Value.int .u8 (firstT c : Int)).toArray
def acceptCs : Array Value := ((List.range 16).flatMap fun i => [Value.int .u8 (accLo i : Int), Value.int .u8 (accHi i : Int)]).toArray
def intsOf : DataW Unit → Array Value
  | .agg l => (l.map fun d => match d with | .lit (.int k z) => Value.int k z | _ => .bool false).toArray
  | _ => #[]
noncomputable def laidWorld (os : Os) : World :=
  let w0 := World.holding Tryz.prog os ⟨#[], #[], []⟩
  let put (h : Array Obj) (g : Nat) (cs : Array Value) : Array Obj := h.modify g fun
    | .cells _ t frozen => .cells cs t frozen
    | o => o
  { w0 with heap := put (put (put (put (put w0.heap 0 (intsOf Rows.laid_internal_strconv_uint64pow10)) 1 firstCs) 2 acceptCs) 4 (intsOf Rows.laid_math_bits_deBruijn32tab)) 5 (intsOf Rows.laid_math_bits_deBruijn64tab) }
end Go.Proofs.YtoahlnmhjinneaaGreatDoor
