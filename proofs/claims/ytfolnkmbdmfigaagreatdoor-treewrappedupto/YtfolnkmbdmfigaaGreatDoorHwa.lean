import Derived.Test.YtfolnkmbdmfigaaGreatDoorRows
import Derived.WalkKit
import Derived.ProofKit
import Derived.OpenShut
import Derived.SizedLaws
import Derived.Deep.DeepHandedRow
import Derived.Lib.LaidTab
import Derived.Lib.LaidU8
import Derived.LaidHandle
import Derived.Stop.LaidErr
import Derived.Deep.RegionHeld3
import Derived.Deep.RegionLaw
import Derived.Test.YtfolnkmbdmfigaaGreatDoorGai
import Derived.Test.YtfolnkmbdmfigaaGreatDoorGao
import Derived.Test.YtfolnkmbdmfigaaGreatDoorGal
import Derived.Test.YtfolnkmbdmfigaaGreatDoorGan
set_option linter.unusedVariables false
set_option linter.unusedSimpArgs false
namespace Go.Proofs.YtfolnkmbdmfigaaGreatDoor
open Go.ChangeShapes Go.WideShapes Go.ChangeAt Go.RowKit Go.Lib
theorem own : ownKnob Tryz.prog.godebug = none := by kernel_rfl
theorem gTab : Tryz.prog.globalNamed "prune/chars.named" = some 2 := by kernel_rfl
theorem gTabType : (Tryz.prog.globals[2]?).map (·.type) = some 197 := by kernel_rfl
theorem cells158 : Tryz.prog.cellsOf 197 = 10 := by kernel_rfl
theorem cells157 : Tryz.prog.cellsOf 196 = 2 := by kernel_rfl
theorem cells9 : Tryz.prog.cellsOf 9 = 1 := by kernel_rfl
theorem cells21 : Tryz.prog.cellsOf 21 = 1 := by kernel_rfl
theorem gMore : Tryz.prog.globalNamed "prune/token.errMore" = some 0 := by kernel_rfl
theorem gMoreType : (Tryz.prog.globals[0]?).map (·.type) = some 114 := by kernel_rfl
theorem gEt : Tryz.prog.globalNamed "errors.errorType" = some 1 := by kernel_rfl
theorem rt140 : (Tryz.prog.cutTypes.find? (·.1 == "internal/reflectlite.rtype")).map (·.2) = some 173 := by kernel_rfl
theorem typesSize : Tryz.prog.types.size = 243 := by kernel_rfl
theorem oneRow : ((List.range 243).filter fun t => Tryz.prog.rowNamed t [101, 114, 114, 111, 114]) = [114] := by kernel_rfl
theorem star : "*" ++ "errors.errorString" = "*errors.errorString" := by decide
theorem row170 (u : TypeId) (h : Tryz.prog.typeName? 3 u = some "*errors.errorString") : u = 213 :=
  typeName_ptr_named (nm := "errors.errorString") (by rw [star]; kernel_rfl) (by kernel_rfl) (by decide) u (by rw [star]; exact h)
theorem row_of {H : Type} {enc : TypeId × Value → H} {w : World} {base : Nat} {sp : Nat → Bool} {held : Bool} {fuel : Nat} {c0 c1 : Value} {bs : List UInt8} {z : Int} {p : List MemPlace}
    (h : DataW.trod enc Tryz.prog w base sp held fuel 196 [c0, c1] = some (.agg [.lit (.string bs), .lit (.int .i32 z)], p)) : c0 = .string ⟨bs.toArray⟩ ∧ c1 = .int .i32 z := by
  obtain ⟨y0, y1, n, hx, _, h0, h1⟩ := trod_struct2 Tryz.underlying196 h
  simp only [cells9, cells21, List.drop_zero, List.take_succ_cons, List.take_zero, List.drop_succ_cons] at h0 h1
  obtain ⟨s, e0, d0, _⟩ := DataW.trod_string Tryz.underlying9 h0
  obtain ⟨m, e1, d1, _⟩ := DataW.trod_int Tryz.underlying21 h1
  subst d0 d1
  simp only [Prod.mk.injEq, DataW.agg.injEq, List.cons.injEq, DataW.lit.injEq, Lit.string.injEq, Lit.int.injEq, and_true, true_and] at hx
  obtain ⟨⟨hb, hm⟩, _⟩ := hx
  simp only [List.cons.injEq, and_true] at e0 e1
  refine ⟨?_, by rw [e1, hm]⟩
  rw [e0, hb]
theorem five {α : Type} {xs : List α} (h : xs.length = 5) : ∃ a b c d e, xs = [a, b, c, d, e] := by
  match xs, h with
  | [a, b, c, d, e], _ => exact ⟨a, b, c, d, e, rfl⟩
theorem ten {α : Type} {xs : List α} (h : xs.length = 10) : ∃ a b c d e f g i j k, xs = [a, b, c, d, e, f, g, i, j, k] := by
  match xs, h with
  | [a, b, c, d, e, f, g, i, j, k], _ => exact ⟨a, b, c, d, e, f, g, i, j, k, rfl⟩
theorem tab_of_reads {W : World} (h : VarReads Tryz.prog W "prune/chars.named" Rows.laid_prune_chars_named) : Tab W := by
  obtain ⟨g', t', cs, fuel, p, hg', ht', hvar, hd⟩ := h
  obtain rfl := Option.some.inj (gTab.symm.trans hg')
  obtain rfl := Option.some.inj (gTabType.symm.trans ht')
  obtain ⟨xs, m, _, hx, hl, hxl, hi⟩ := DataW.trod_array Tryz.underlying197 hd
  rw [cells158] at hl
  rw [cells157] at hi
  obtain ⟨x0, x1, x2, x3, x4, rfl⟩ := five hxl
  obtain ⟨c0, c1, c2, c3, c4, c5, c6, c7, c8, c9, hc⟩ := ten hl
  rw [hc] at hi
  simp only [Rows.laid_prune_chars_named, Prod.mk.injEq, DataW.agg.injEq, List.map_cons, List.map_nil, List.cons.injEq, and_true] at hx
  obtain ⟨⟨k0, k1, k2, k3, k4⟩, _⟩ := hx
  have i0 := hi 0 (by omega)
  have i1 := hi 1 (by omega)
  have i2 := hi 2 (by omega)
  have i3 := hi 3 (by omega)
  have i4 := hi 4 (by omega)
  obtain ⟨a0, q0⟩ := x0
  obtain ⟨a1, q1⟩ := x1
  obtain ⟨a2, q2⟩ := x2
  obtain ⟨a3, q3⟩ := x3
  obtain ⟨a4, q4⟩ := x4
  simp only at k0 k1 k2 k3 k4
  subst k0 k1 k2 k3 k4
  obtain ⟨rfl, rfl⟩ := row_of i0
  obtain ⟨rfl, rfl⟩ := row_of i1
  obtain ⟨rfl, rfl⟩ := row_of i2
  obtain ⟨rfl, rfl⟩ := row_of i3
  obtain ⟨rfl, rfl⟩ := row_of i4
  have hcs : cs = tab := by
    apply Array.toList_inj.1
    rw [hc]; rfl
  subst hcs
  simp only [World.var?, gTab, Option.bind_some] at hvar
  split at hvar
  · rename_i c t fr hh
    simp only [Option.some.injEq] at hvar
    subst hvar
    exact ⟨t, fr, hh⟩
  · cases hvar
theorem laid_tail {P : Program} {x : String × DataW Unit} {r : List (String × DataW Unit)} {W : World} (h : laidMet P (x :: r) W) : laidMet P r W := by
  obtain ⟨n, d⟩ := x
  obtain ⟨ps, ⟨g, t, cs, f, p, q, _, _, _, _, hq, e⟩, hnd, hrows⟩ := h
  subst e
  exact ⟨q, hq, (List.nodup_append.1 hnd).2.1, fun b off hm => hrows b off (List.mem_append_right _ hm)⟩
theorem u8extra : U8Extra Tryz.prog Tryz.lays197_ren := ⟨by kernel_rfl, by kernel_rfl, by kernel_rfl, by kernel_rfl, by kernel_rfl, by kernel_rfl, by kernel_rfl⟩
theorem first_data : Rows.laid_unicode_utf8_first = firstData := by kernel_rfl
theorem accept_data : (Rows.laid_unicode_utf8_acceptRanges : DataW Unit) = acceptData := by kernel_rfl
def laid4 : List (String × DataW Unit) := [("unicode/utf8.acceptRanges", Rows.laid_unicode_utf8_acceptRanges), ("prune/chars.named", Rows.laid_prune_chars_named), ("prune/token.errMore", Rows.laid_prune_token_errMore), ("unicode/utf8.first", Rows.laid_unicode_utf8_first)]
def laid5 : List (String × DataW Unit) := [("unicode/utf8.acceptRanges", Rows.laid_unicode_utf8_acceptRanges), ("errors.errorType", Rows.laid_errors_errorType), ("prune/chars.named", Rows.laid_prune_chars_named), ("prune/token.errMore", Rows.laid_prune_token_errMore), ("unicode/utf8.first", Rows.laid_unicode_utf8_first)]
theorem gl_of_laid {W : World} (h : laidMetH Tryz.prog laid5 W) : ∃ a, Gl W a := by
  have h' : laidMet Tryz.prog laid4 W ∧ handlesMet Tryz.prog [("errors.errorType", Rows.laid_errors_errorType)] W := h
  obtain ⟨hd, hh⟩ := h'
  have r1 : VarReads Tryz.prog W "unicode/utf8.acceptRanges" Rows.laid_unicode_utf8_acceptRanges := Go.Lib.laidMet.reads hd (.head _)
  have r2 : VarReads Tryz.prog W "prune/chars.named" Rows.laid_prune_chars_named := Go.Lib.laidMet.reads hd (.tail _ (.head _))
  have r4 : VarReads Tryz.prog W "unicode/utf8.first" Rows.laid_unicode_utf8_first := Go.Lib.laidMet.reads hd (.tail _ (.tail _ (.tail _ (.head _))))
  rw [accept_data] at r1
  rw [first_data] at r4
  have h3 := laid_tail (laid_tail hd)
  obtain ⟨a, s, hv, _⟩ := laid_sentinel h3 gMore gMoreType Tryz.underlying114 row170 Tryz.underlying213 Tryz.underlying231 rfl rfl Tryz.underlying9 (by kernel_rfl) cells9
  have hm : W.cell? ⟨0, 0, none⟩ = some (.iface 213 (.pointer (some a))) := by simpa using World.var?_cell gMore hv 0
  obtain ⟨name, u, ty, e1, e2, e3, e4, e5⟩ := hh _ (List.mem_singleton.2 rfl)
  have en : name = [101, 114, 114, 111, 114] := (Option.some.inj e1).symm
  subst en
  obtain rfl := Option.some.inj (rt140.symm.trans e2)
  have hmm : ty ∈ (List.range 243).filter fun t => Tryz.prog.rowNamed t [101, 114, 114, 111, 114] := List.mem_filter.2 ⟨List.mem_range.2 (by rw [← typesSize]; exact e3), e4⟩
  rw [oneRow] at hmm
  obtain rfl := List.mem_singleton.1 hmm
  have ht : typeHandle Tryz.prog 114 = .pointer (some ⟨6, 114, none⟩) := by kernel_rfl
  rw [ht] at e5
  exact ⟨a, utf8Tabs_of_reads { Tryz.lays197 with } u8extra r4 r1, tab_of_reads r2, hm, by simpa using World.var?_cell gEt e5 0⟩
def moreS : ByteArray := ⟨#[109, 111, 114, 101, 32, 98, 121, 116, 101, 115, 32, 97, 114, 101, 32, 110, 101, 101, 100, 101, 100]⟩
def firstCs : Array Value := ((List.range 256).map fun c => Value.int .u8 (firstT c : Int)).toArray
def acceptCs : Array Value := ((List.range 16).flatMap fun i => [Value.int .u8 (accLo i : Int), Value.int .u8 (accHi i : Int)]).toArray
noncomputable def low : Nat := (World.holding Tryz.prog default ⟨#[], #[], []⟩).heap.size
noncomputable def laidWorld (os : Os) : World :=
  let w0 := World.holding Tryz.prog os ⟨#[.cells #[.string moreS] 231], #[], []⟩
  { w0 with heap := ((((w0.heap.modify 0 fun
      | .cells _ t frozen => .cells #[.iface 213 (.pointer (some ⟨low, 0, none⟩))] t frozen
      | o => o).modify 1 fun
      | .cells _ t frozen => .cells #[.iface 173 (.agg #[.pointer (some ⟨6, 114, none⟩)])] t frozen
      | o => o).modify 2 fun
      | .cells _ t frozen => .cells tab t frozen
      | o => o).modify 3 fun
      | .cells _ t frozen => .cells firstCs t frozen
      | o => o).modify 4 fun
      | .cells _ t frozen => .cells acceptCs t frozen
      | o => o }
end Go.Proofs.YtfolnkmbdmfigaaGreatDoor

set_option linter.unusedSimpArgs false
set_option linter.unusedVariables false
namespace Go.Proofs.YtfolnkmbdmfigaaGreatDoor
open Go.RowKit Go.Lib

structure Nd where
  name : List UInt8
  attrs : Ats
  text : List UInt8
  kids : List Nat
  up : Int
def Nd.kid (n : Nd) (j : Nat) : Nd := { n with kids := n.kids ++ [j] }
def addKid : List Nd → Nat → Nat → List Nd
  | [], _, _ => []
  | n :: l, 0, j => n.kid j :: l
  | n :: l, k + 1, j => n :: addKid l k j
structure Gr where
  nodes : List Nd
  stack : List Nat
def topOf : List Nat → Int
  | [] => -1
  | k :: _ => k
def Gr.put (g : Gr) (n : Nd) : Gr :=
  match g.stack with
  | [] => { g with nodes := g.nodes ++ [{ n with up := -1 }] }
  | k :: _ => { g with nodes := addKid g.nodes k g.nodes.length ++ [{ n with up := (k : Int) }] }
def elemOf (t : Tok) : Nd := ⟨t.name, t.attrs, [], [], 0⟩
def textOf (t : Tok) : Nd := ⟨[], [], t.text, [], 0⟩
def blanksOnly (l : List UInt8) : Bool := l.all fun c => isBlank c.toNat
def Gr.named (g : Gr) (k : Nat) (n : List UInt8) : Bool := match g.nodes[k]? with
  | some m => m.name == n
  | none => false
def Gr.take (g : Gr) (t : Tok) : Int × Gr :=
  if t.kind = 1 then
    if g.stack = [] ∧ g.nodes ≠ [] then (7, g)
    else if 30 ≤ g.stack.length then (8, g)
    else (0, { (g.put (elemOf t)) with stack := g.nodes.length :: g.stack })
  else if t.kind = 2 then
    match g.stack with
    | [] => (6, g)
    | k :: st => if g.named k t.name = true then (0, { g with stack := st }) else (6, g)
  else match g.stack with
    | [] => if blanksOnly t.text = true then (0, g) else (7, g)
    | _ :: _ => (0, g.put (textOf t))
def grow : Gr → List Tok → Int × Int × Gr
  | g, [] => (0, 0, g)
  | g, t :: l => if (g.take t).1 ≠ 0 then ((g.take t).1, t.at_, g) else grow (g.take t).2 l
def Gr.zero : Gr := ⟨[], []⟩
def parseN (s : ByteArray) : List Nd × Int × Int :=
  if (grow Gr.zero ((readS s).l ++ (readS s).last)).1 ≠ 0 then ([], (grow Gr.zero ((readS s).l ++ (readS s).last)).1, (grow Gr.zero ((readS s).l ++ (readS s).last)).2.1)
  else if (readS s).err ≠ 0 then ([], (readS s).err, (readS s).at_)
  else if (grow Gr.zero ((readS s).l ++ (readS s).last)).2.2.stack ≠ [] ∨ (grow Gr.zero ((readS s).l ++ (readS s).last)).2.2.nodes = [] then ([], 3, s.size)
  else ((grow Gr.zero ((readS s).l ++ (readS s).last)).2.2.nodes, 0, 0)

theorem addKid_len : ∀ (l : List Nd) (k j : Nat), (addKid l k j).length = l.length
  | [], _, _ => rfl
  | n :: l, 0, j => rfl
  | n :: l, k + 1, j => by simp only [addKid, List.length_cons, addKid_len l k j]
theorem addKid_at : ∀ (l : List Nd) (k j i : Nat), (addKid l k j)[i]? = if i = k then (l[i]?).map (fun n => n.kid j) else l[i]?
  | [], k, j, i => by simp [addKid]
  | n :: l, 0, j, 0 => by simp [addKid]
  | n :: l, 0, j, i + 1 => by simp [addKid]
  | n :: l, k + 1, j, 0 => by simp [addKid]
  | n :: l, k + 1, j, i + 1 => by simp only [addKid, List.getElem?_cons_succ, addKid_at l k j i, Nat.add_right_cancel_iff]
def UpOk (nodes : List Nd) : List Nat → Prop
  | [] => True
  | k :: st => (∃ n, nodes[k]? = some n ∧ n.up = topOf st) ∧ UpOk nodes st
structure Gr.Wf (g : Gr) : Prop where
  ups : UpOk g.nodes g.stack
  deep : g.stack.length ≤ 30
theorem Gr.Wf.zero : Gr.zero.Wf := ⟨trivial, Nat.zero_le _⟩
theorem UpOk.lt {nodes : List Nd} : ∀ {st : List Nat}, UpOk nodes st → ∀ k ∈ st, k < nodes.length
  | [], _, k, hk => by simp at hk
  | j :: st, h, k, hk => by
    rcases List.mem_cons.1 hk with e | e
    · obtain ⟨⟨n, hn, _⟩, _⟩ := h
      rw [e]; exact (List.getElem?_eq_some_iff.1 hn).1
    · exact UpOk.lt h.2 k e
theorem UpOk.mono {nodes nodes' : List Nd} (hm : ∀ (k : Nat) n, nodes[k]? = some n → ∃ n', nodes'[k]? = some n' ∧ n'.up = n.up) : ∀ {st : List Nat}, UpOk nodes st → UpOk nodes' st
  | [], _ => trivial
  | k :: st, ⟨⟨n, hn, hu⟩, h⟩ => by
    obtain ⟨n', hn', hu'⟩ := hm k n hn
    exact ⟨⟨n', hn', hu'.trans hu⟩, UpOk.mono hm h⟩
theorem keep_add (l : List Nd) (n : Nd) (k : Nat) (m : Nd) (h : l[k]? = some m) : (l ++ [n])[k]? = some m := by
  have := (List.getElem?_eq_some_iff.1 h).1
  rw [List.getElem?_append_left this]; exact h
theorem put_size (g : Gr) (n : Nd) : (g.put n).nodes.length = g.nodes.length + 1 := by
  unfold Gr.put; split <;> simp [addKid_len]
theorem put_stack (g : Gr) (n : Nd) : (g.put n).stack = g.stack := by unfold Gr.put; split <;> simp_all
theorem put_keep (g : Gr) (n : Nd) (k : Nat) (m : Nd) (h : g.nodes[k]? = some m) : ∃ m', (g.put n).nodes[k]? = some m' ∧ m'.up = m.up ∧ m'.name = m.name ∧ m'.attrs = m.attrs ∧ m'.text = m.text := by
  unfold Gr.put
  split
  · exact ⟨m, keep_add _ _ _ _ h, rfl, rfl, rfl, rfl⟩
  · rename_i j st hs
    have e := addKid_at g.nodes j g.nodes.length k
    rw [h] at e
    by_cases hk : k = j
    · rw [if_pos hk] at e
      exact ⟨_, keep_add _ _ _ _ e, rfl, rfl, rfl, rfl⟩
    · rw [if_neg hk] at e
      exact ⟨m, keep_add _ _ _ _ e, rfl, rfl, rfl, rfl⟩
theorem put_last (g : Gr) (n : Nd) : (g.put n).nodes[g.nodes.length]? = some { n with up := topOf g.stack } := by
  unfold Gr.put
  split
  · rename_i hs; rw [hs]; simp [topOf]
  · rename_i j st hs
    rw [hs]
    have := addKid_len g.nodes j g.nodes.length
    rw [List.getElem?_append_right (by omega)]
    simp [this, topOf]
theorem Gr.Wf.put {g : Gr} (h : g.Wf) (n : Nd) : UpOk (g.put n).nodes g.stack :=
  UpOk.mono (fun k m hm => by obtain ⟨m', a, b, _⟩ := put_keep g n k m hm; exact ⟨m', a, b⟩) h.ups
theorem Gr.Wf.take {g : Gr} (h : g.Wf) (t : Tok) : (g.take t).2.Wf := by
  unfold Gr.take
  split
  · split
    · exact h
    · split
      · exact h
      · rename_i _ hd
        refine ⟨⟨⟨_, put_last g _, rfl⟩, h.put _⟩, ?_⟩
        show g.stack.length + 1 ≤ 30
        omega
  · split
    · split
      · exact h
      · rename_i k st hs
        split
        · have hu := h.ups
          have hd := h.deep
          rw [hs] at hu hd
          exact ⟨hu.2, by show st.length ≤ 30; simp only [List.length_cons] at hd; omega⟩
        · exact h
    · split
      · split <;> exact h
      · refine ⟨?_, ?_⟩
        · simp only [put_stack]; exact h.put _
        · simp only [put_stack]; exact h.deep
theorem Gr.Wf.top {g : Gr} (h : g.Wf) {k : Nat} {st : List Nat} (hs : g.stack = k :: st) : ∃ n, g.nodes[k]? = some n ∧ n.up = topOf st ∧ k < g.nodes.length := by
  have hu := h.ups
  rw [hs] at hu
  obtain ⟨⟨n, hn, e⟩, _⟩ := hu
  exact ⟨n, hn, e, (List.getElem?_eq_some_iff.1 hn).1⟩
end Go.Proofs.YtfolnkmbdmfigaaGreatDoor

set_option linter.unusedSimpArgs false
set_option linter.unusedVariables false
namespace Go.Proofs.YtfolnkmbdmfigaaGreatDoor
open Go.RowKit Go.Maps Go.Lib

variable {A K K' : Nat → Prop} {w w' w1 : World} {nv : Value} {l : List Nd} {av kv : Nat → Value} {tN tA : TypeId}
def kidCells (l : List Nat) : List Value := l.map fun (k : Nat) => Value.int .i64 (k : Int)
def nodeRow (n : Nd) (a k : Value) : List Value := [strV n.name, a, strV n.text, k, .int .i64 n.up]
def ndCells (av kv : Nat → Value) : Nat → List Nd → List Value
  | _, [] => []
  | i, n :: l => nodeRow n (av i) (kv i) ++ ndCells av kv (i + 1) l
def upd (f : Nat → Value) (k : Nat) (v : Value) : Nat → Value := fun i => if i = k then v else f i
theorem upd_same (f : Nat → Value) (k : Nat) (v : Value) : upd f k v k = v := by simp [upd]
theorem upd_other (f : Nat → Value) {k i : Nat} (v : Value) (h : i ≠ k) : upd f k v i = f i := by simp [upd, h]
theorem ndCells_at (av kv : Nat → Value) : ∀ (l : List Nd) (i0 i : Nat) (n : Nd) (c : Nat) (u : Value), l[i]? = some n → (nodeRow n (av (i0 + i)) (kv (i0 + i)))[c]? = some u → (ndCells av kv i0 l)[i * 5 + c]? = some u
  | [], _, _, _, _, _, h, _ => by simp at h
  | m :: l, i0, 0, n, c, u, h, hc => by
    obtain rfl : m = n := by simpa using h
    have hl : c < (nodeRow m (av i0) (kv i0)).length := by
      have := (List.getElem?_eq_some_iff.1 hc).1
      simpa using this
    simp only [ndCells, Nat.zero_mul, Nat.zero_add]
    rw [List.getElem?_append_left hl]
    simpa using hc
  | m :: l, i0, i + 1, n, c, u, h, hc => by
    have := ndCells_at av kv l (i0 + 1) i n c u (by simpa using h) (by rw [show i0 + 1 + i = i0 + (i + 1) by omega]; exact hc)
    simp only [ndCells]
    have hl : (nodeRow m (av i0) (kv i0)).length = 5 := rfl
    rw [List.getElem?_append_right (by rw [hl]; omega), hl, show (i + 1) * 5 + c - 5 = i * 5 + c by omega]
    exact this
theorem ndCells_append (av kv : Nat → Value) (l' : List Nd) : ∀ (l : List Nd) (i : Nat), ndCells av kv i (l ++ l') = ndCells av kv i l ++ ndCells av kv (i + l.length) l'
  | [], i => by simp [ndCells]
  | n :: l, i => by
    simp only [List.cons_append, ndCells, List.append_assoc, ndCells_append av kv l' l (i + 1), List.length_cons]
    rw [show i + 1 + l.length = i + (l.length + 1) by omega]
theorem ndCells_congr {av kv av' kv' : Nat → Value} : ∀ (l : List Nd) (i : Nat), (∀ j, i ≤ j → j < i + l.length → av j = av' j ∧ kv j = kv' j) → ndCells av kv i l = ndCells av' kv' i l
  | [], i, _ => rfl
  | n :: l, i, h => by
    have h0 := h i (Nat.le_refl _) (by simp)
    simp only [ndCells, h0.1, h0.2]
    rw [ndCells_congr l (i + 1) fun j a b => h j (by omega) (by simp only [List.length_cons]; omega)]
theorem ndCells_set (av : Nat → Value) (v : Value) (j : Nat) : ∀ (l : List Nd) (kv : Nat → Value) (i k : Nat), k < l.length → (ndCells av kv i l).set (k * 5 + 3) v = ndCells av (upd kv (i + k) v) i (addKid l k j)
  | [], _, _, k, h => by simp at h
  | n :: l, kv, i, 0, _ => by
    simp only [addKid, ndCells, Nat.add_zero, upd_same, Nat.zero_mul, Nat.zero_add]
    rw [ndCells_congr (av := av) (kv := kv) (av' := av) (kv' := upd kv i v) l (i + 1) fun j a b => ⟨rfl, (upd_other _ _ (by omega)).symm⟩]
    rfl
  | n :: l, kv, i, k + 1, h => by
    have ih := ndCells_set av v j l kv (i + 1) k (by simpa using h)
    simp only [addKid, ndCells]
    rw [upd_other kv v (show i ≠ i + (k + 1) by omega), show i + (k + 1) = i + 1 + k by omega, ← ih]
    have hl : (nodeRow n (av i) (kv i)).length = 5 := rfl
    rw [List.set_append, if_neg (by rw [hl]; omega), hl, show (k + 1) * 5 + 3 - 5 = k * 5 + 3 by omega]
structure Nodes (tN tA : TypeId) (A K : Nat → Prop) (w : World) (nv : Value) (l : List Nd) (av kv : Nat → Value) : Prop where
  row : w.ownsRow 0 tN 5 nv l.length (ndCells av kv 0 l)
  rowK : ∀ k, nv.ownBlock = some k → K k
  attr : ∀ i n, l[i]? = some n → w.ownsRow 0 tA 2 (av i) n.attrs.length (attrCells n.attrs)
  attrA : ∀ i k, i < l.length → (av i).ownBlock = some k → A k
  kid : ∀ i n, l[i]? = some n → w.ownsRow 0 3 1 (kv i) n.kids.length (kidCells n.kids)
  kidK : ∀ i k, i < l.length → (kv i).ownBlock = some k → K k ∧ nv.ownBlock ≠ some k
  apart : ∀ i j k, i < l.length → j < l.length → i ≠ j → (kv i).ownBlock = some k → (kv j).ownBlock ≠ some k
  knil : ∀ i n, l[i]? = some n → n.kids = [] → kv i = nilS
theorem Nodes.zero : Nodes tN tA A K w nilS [] (fun _ => nilS) (fun _ => nilS) :=
  ⟨⟨rfl, Or.inl ⟨rfl, rfl⟩⟩, (fun k e => by cases e), (fun i n h => by simp at h), (fun i k h => by simp at h), (fun i n h => by simp at h), (fun i k h => by simp at h), (fun i j k h => by simp at h), (fun i n h => by simp at h)⟩
theorem Nodes.frame (h : Nodes tN tA A K w nv l av kv) (hA : ∀ k, k < w.heap.size → A k → w'.heap[k]? = w.heap[k]?) (hK : ∀ k, k < w.heap.size → K k → w'.heap[k]? = w.heap[k]?) (hK' : ∀ k, k < w'.heap.size → K k → K' k) : Nodes tN tA A K' w' nv l av kv := by
  have lt : ∀ {e s v n xs k}, w.ownsRow 0 e s v n xs → v.ownBlock = some k → k < w.heap.size := fun h e => own_lt h e
  have row : w'.ownsRow 0 tN 5 nv l.length (ndCells av kv 0 l) := owns_of h.row fun k e => hK k (lt h.row e) (h.rowK k e)
  have kid : ∀ i n, l[i]? = some n → w'.ownsRow 0 3 1 (kv i) n.kids.length (kidCells n.kids) := fun i n hi => owns_of (h.kid i n hi) fun k e => hK k (lt (h.kid i n hi) e) (h.kidK i k (List.getElem?_eq_some_iff.1 hi).1 e).1
  refine ⟨row, fun k e => hK' k (own_lt row e) (h.rowK k e), fun i n hi => owns_of (h.attr i n hi) fun k e => hA k (lt (h.attr i n hi) e) (h.attrA i k (List.getElem?_eq_some_iff.1 hi).1 e), h.attrA,
    kid, fun i k hi e => ⟨hK' k (own_lt (kid i _ (List.getElem?_eq_getElem hi)) e) (h.kidK i k hi e).1, (h.kidK i k hi e).2⟩, h.apart, h.knil⟩
theorem owns_set {e : TypeId} {s g n cap i : Nat} {xs : List Value} (h : w.ownsRow 0 e s (.slice (some ⟨g, 0, none⟩) n cap) n xs) (hi : i < n * s) (u : Value) : (w.setCell ⟨g, i, none⟩ u).ownsRow 0 e s (.slice (some ⟨g, 0, none⟩) n cap) n (xs.set i u) := by
  refine ⟨by rw [List.length_set]; exact h.1, ?_⟩
  rcases h.2 with ⟨e1, _⟩ | ⟨g', cap', cur, e1, h0, hg, h1, h2, h3, h4⟩
  · cases e1
  · cases e1
    refine Or.inr ⟨g, cap, cur.setIfInBounds i u, rfl, h0, set_of hg u, h1, h2, by simpa using h3, ?_⟩
    rw [Array.toList_setIfInBounds, List.take_set, h4]
theorem Nodes.cells (h : Nodes tN tA A K w nv l av kv) (k : Nat) (n : Nd) (hk : l[k]? = some n) : ∃ g cap, nv = .slice (some ⟨g, 0, none⟩) l.length cap ∧ l.length ≤ maxLen ∧ K g ∧
    w.cell? ⟨g, k * 5, none⟩ = some (strV n.name) ∧ w.cell? ⟨g, k * 5 + 1, none⟩ = some (av k) ∧ w.cell? ⟨g, k * 5 + 2, none⟩ = some (strV n.text) ∧ w.cell? ⟨g, k * 5 + 3, none⟩ = some (kv k) ∧ w.cell? ⟨g, k * 5 + 4, none⟩ = some (.int .i64 n.up) := by
  have hlt := (List.getElem?_eq_some_iff.1 hk).1
  rcases h.row.2 with ⟨_, e⟩ | ⟨g, cap, cur, e1, h0, hg, h1, h2, h3, h4⟩
  · omega
  · have hc : ∀ c u, (nodeRow n (av k) (kv k))[c]? = some u → w.cell? ⟨g, k * 5 + c, none⟩ = some u := by
      intro c u hu
      have h5 := ndCells_at av kv l 0 k n c u hk (by rw [Nat.zero_add]; exact hu)
      refine cell_of hg ?_
      rw [← h4, List.getElem?_take] at h5
      split at h5
      · simpa using h5
      · cases h5
    exact ⟨g, cap, e1, by omega, h.rowK g (by rw [e1]; rfl), hc 0 _ rfl, hc 1 _ rfl, hc 2 _ rfl, hc 3 _ rfl, hc 4 _ rfl⟩
theorem Nodes.addKid (h : Nodes tN tA A K w nv l av kv) (dis : ∀ k, A k → ¬ K k) (lt : ∀ k, K k → k < w.heap.size) (ltA : ∀ k, A k → k < w.heap.size) {g cap k j : Nat} {n : Nd} {v' : Value} (hv : nv = .slice (some ⟨g, 0, none⟩) l.length cap) (hk : l[k]? = some n)
    (hg : w.grownBy w1 (kv k).ownBlock) (ho : w1.ownsRow 0 3 1 v' (n.kids.length + 1) (kidCells n.kids ++ [.int .i64 j])) (hat : v'.ownBlock = (kv k).ownBlock ∨ v'.ownBlock = some w.heap.size) :
    Nodes tN tA A (fun i => K i ∨ i = w.heap.size) (w1.setCell ⟨g, k * 5 + 3, none⟩ v') nv (addKid l k j) av (upd kv k v') := by
  have hlt := (List.getElem?_eq_some_iff.1 hk).1
  have hgK : K g := h.rowK g (by rw [hv]; rfl)
  have hne : (kv k).ownBlock ≠ some g := fun e => (h.kidK k g hlt e).2 (by rw [hv]; rfl)
  have hv'g : v'.ownBlock ≠ some g := by
    rcases hat with e | e <;> rw [e]
    · exact hne
    · intro x; cases x; exact absurd (lt _ hgK) (by omega)
  -- blocks that are kept
  have keep : ∀ b, b < w.heap.size → b ≠ g → (kv k).ownBlock ≠ some b → (w1.setCell ⟨g, k * 5 + 3, none⟩ v').heap[b]? = w.heap[b]? := fun b hb h1 h2 => by
    rw [Below.heap_setCell _ _ _ _ h1]; exact hg.block b hb (fun e => h2 e.symm)
  have hrow1 : w1.ownsRow 0 tN 5 nv l.length (ndCells av kv 0 l) := owns_of h.row fun b e => hg.block b (own_lt h.row e) (fun x => by rw [hv] at e; cases e; exact hne x.symm)
  have hkd : ∀ i m, (Proofs.YtfolnkmbdmfigaaGreatDoor.addKid l k j)[i]? = some m → (i = k ∧ m = n.kid j) ∨ (i ≠ k ∧ l[i]? = some m) := by
    intro i m hi
    rw [addKid_at] at hi
    by_cases e : i = k
    · subst e
      rw [if_pos rfl, hk] at hi
      simp only [Option.map_some, Option.some.injEq] at hi
      exact Or.inl ⟨rfl, hi.symm⟩
    · rw [if_neg e] at hi
      exact Or.inr ⟨e, hi⟩
  refine ⟨?_, fun b e => Or.inl (h.rowK b e), ?_, fun i b hi e => h.attrA i b (by rwa [addKid_len] at hi) e, ?_, ?_, ?_, ?_⟩
  · rw [addKid_len]
    have := ndCells_set av v' j l kv 0 k hlt
    rw [Nat.zero_add] at this
    rw [← this, hv]
    rw [hv] at hrow1
    exact owns_set hrow1 (by omega) v'
  · intro i m hi
    have key : ∀ m', l[i]? = some m' → m'.attrs = m.attrs → (w1.setCell ⟨g, k * 5 + 3, none⟩ v').ownsRow 0 tA 2 (av i) m.attrs.length (attrCells m.attrs) := by
      intro m' h' ea
      have hat' := h.attr i m' h'
      rw [ea] at hat'
      refine owns_of hat' fun b e => keep b (own_lt hat' e) ?_ ?_
      · rintro rfl; exact dis _ (h.attrA i _ (List.getElem?_eq_some_iff.1 h').1 e) hgK
      · intro e2; exact dis _ (h.attrA i _ (List.getElem?_eq_some_iff.1 h').1 e) (h.kidK k b hlt e2).1
    rcases hkd i m hi with ⟨rfl, rfl⟩ | ⟨_, h'⟩
    · exact key n hk rfl
    · exact key m h' rfl
  · intro i m hi
    rcases hkd i m hi with ⟨rfl, rfl⟩ | ⟨hik, h'⟩
    · rw [upd_same]
      have e1 : (n.kid j).kids = n.kids ++ [j] := rfl
      have e2 : kidCells (n.kids ++ [j]) = kidCells n.kids ++ [.int .i64 j] := by simp [kidCells]
      rw [e1, e2, List.length_append]
      exact owns_of ho fun b e => Below.heap_setCell _ _ _ _ (fun x => hv'g (by rw [e, x]))
    · rw [upd_other _ _ hik]
      have hil := (List.getElem?_eq_some_iff.1 h').1
      refine owns_of (h.kid i m h') fun b e => keep b (own_lt (h.kid i m h') e) (fun x => (h.kidK i b hil e).2 (by rw [hv, x]; rfl)) (h.apart i k b hil hlt hik e)
  · intro i b hi e
    rw [addKid_len] at hi
    by_cases hik : i = k
    · subst hik
      rw [upd_same] at e
      rcases hat with e2 | e2
      · rw [e2] at e; exact ⟨Or.inl (h.kidK i b hi e).1, (h.kidK i b hi e).2⟩
      · rw [e2] at e; cases e
        refine ⟨Or.inr rfl, fun x => ?_⟩
        rw [hv] at x
        have hx : g = w.heap.size := by simpa [Value.ownBlock] using x
        have := lt _ hgK
        omega
    · rw [upd_other _ _ hik] at e
      exact ⟨Or.inl (h.kidK i b hi e).1, (h.kidK i b hi e).2⟩
  · intro i i' b hi hi' hne2 e
    rw [addKid_len] at hi hi'
    by_cases h1 : i = k
    · subst h1
      rw [upd_same] at e
      rw [upd_other _ _ (fun x => hne2 x.symm)]
      rcases hat with e2 | e2
      · rw [e2] at e; exact h.apart i i' b hi hi' hne2 e
      · rw [e2] at e; cases e
        intro x; exact absurd (lt _ (h.kidK i' _ hi' x).1) (by omega)
    · rw [upd_other _ _ h1] at e
      by_cases h2 : i' = k
      · subst h2
        rw [upd_same]
        rcases hat with e2 | e2
        · rw [e2]; exact h.apart i i' b hi hi' hne2 e
        · rw [e2]; intro x; cases x; exact absurd (lt _ (h.kidK i _ hi e).1) (by omega)
      · rw [upd_other _ _ h2]; exact h.apart i i' b hi hi' hne2 e
  · intro i m hi hm
    rcases hkd i m hi with ⟨rfl, rfl⟩ | ⟨hik, h'⟩
    · simp [Nd.kid] at hm
    · rw [upd_other _ _ hik]; exact h.knil i m h' hm
theorem Nodes.push (h : Nodes tN tA A K w nv l av kv) (dis : ∀ k, A k → ¬ K k) (lt : ∀ k, K k → k < w.heap.size) (ltA : ∀ k, A k → k < w.heap.size) {n : Nd} {a v' : Value}
    (ha : w.ownsRow 0 tA 2 a n.attrs.length (attrCells n.attrs)) (haA : ∀ k, a.ownBlock = some k → A k) (hn : n.kids = [])
    (hg : w.grownBy w1 nv.ownBlock) (ho : w1.ownsRow 0 tN 5 v' (l.length + 1) (ndCells av kv 0 l ++ nodeRow n a nilS)) (hat : v'.ownBlock = nv.ownBlock ∨ v'.ownBlock = some w.heap.size) :
    Nodes tN tA A (fun i => K i ∨ i = w.heap.size) w1 v' (l ++ [n]) (upd av l.length a) (upd kv l.length nilS) := by
  have keep : ∀ b, b < w.heap.size → nv.ownBlock ≠ some b → w1.heap[b]? = w.heap[b]? := fun b hb h2 => hg.block b hb (fun e => h2 e.symm)
  have hvK : ∀ b, v'.ownBlock = some b → (K b ∨ b = w.heap.size) := fun b e => by
    rcases hat with e2 | e2
    · rw [e2] at e; exact Or.inl (h.rowK b e)
    · rw [e2] at e; cases e; exact Or.inr rfl
  have hget : ∀ i m, (l ++ [n])[i]? = some m → (i < l.length ∧ l[i]? = some m) ∨ (i = l.length ∧ m = n) := by
    intro i m hi
    by_cases h1 : i < l.length
    · rw [List.getElem?_append_left h1] at hi; exact Or.inl ⟨h1, hi⟩
    · rw [List.getElem?_append_right (by omega)] at hi
      have h2 := (List.getElem?_eq_some_iff.1 hi).1
      simp only [List.length_cons, List.length_nil] at h2
      have h3 : i - l.length = 0 := by omega
      rw [h3] at hi
      exact Or.inr ⟨by omega, by simpa using hi.symm⟩
  refine ⟨?_, hvK, ?_, ?_, ?_, ?_, ?_, ?_⟩
  · rw [List.length_append, ndCells_append]
    have e1 : ndCells (upd av l.length a) (upd kv l.length nilS) 0 l = ndCells av kv 0 l := ndCells_congr l 0 fun j _ b => ⟨upd_other _ _ (by omega), upd_other _ _ (by omega)⟩
    have e2 : ndCells (upd av l.length a) (upd kv l.length nilS) (0 + l.length) [n] = nodeRow n a nilS := by
      simp only [ndCells, Nat.zero_add, upd_same, List.append_nil]
    rw [e1, e2]; exact ho
  · intro i m hi
    rcases hget i m hi with ⟨h1, h2⟩ | ⟨rfl, rfl⟩
    · rw [upd_other _ _ (by omega)]
      exact owns_of (h.attr i m h2) fun b e => keep b (own_lt (h.attr i m h2) e) fun x => dis b (h.attrA i b h1 e) (h.rowK b x)
    · rw [upd_same]
      exact owns_of ha fun b e => keep b (own_lt ha e) fun x => dis b (haA b e) (h.rowK b x)
  · intro i b hi e
    by_cases h1 : i = l.length
    · subst h1; rw [upd_same] at e; exact haA b e
    · rw [upd_other _ _ h1] at e
      exact h.attrA i b (by simp only [List.length_append, List.length_cons, List.length_nil] at hi; omega) e
  · intro i m hi
    rcases hget i m hi with ⟨h1, h2⟩ | ⟨rfl, rfl⟩
    · rw [upd_other _ _ (by omega)]
      exact owns_of (h.kid i m h2) fun b e => keep b (own_lt (h.kid i m h2) e) (h.kidK i b h1 e).2
    · rw [upd_same, hn]; exact ⟨rfl, Or.inl ⟨rfl, rfl⟩⟩
  · intro i b hi e
    by_cases h1 : i = l.length
    · subst h1; rw [upd_same] at e; cases e
    · rw [upd_other _ _ h1] at e
      have hil : i < l.length := by simp only [List.length_append, List.length_cons, List.length_nil] at hi; omega
      have hk := h.kidK i b hil e
      refine ⟨Or.inl hk.1, ?_⟩
      rcases hat with e2 | e2
      · rw [e2]; exact hk.2
      · rw [e2]; intro x; cases x; exact absurd (lt _ hk.1) (by omega)
  · intro i j b hi hj hij e
    simp only [List.length_append, List.length_cons, List.length_nil] at hi hj
    by_cases h1 : i = l.length
    · subst h1; rw [upd_same] at e; cases e
    · rw [upd_other _ _ h1] at e
      by_cases h2 : j = l.length
      · subst h2; rw [upd_same]; intro x; cases x
      · rw [upd_other _ _ h2]; exact h.apart i j b (by omega) (by omega) hij e
  · intro i m hi hm
    rcases hget i m hi with ⟨h1, h2⟩ | ⟨rfl, rfl⟩
    · rw [upd_other _ _ (by omega)]; exact h.knil i m h2 hm
    · rw [upd_same]
end Go.Proofs.YtfolnkmbdmfigaaGreatDoor

set_option linter.unusedSimpArgs false
set_option linter.unusedVariables false
namespace Go.Proofs.YtfolnkmbdmfigaaGreatDoor
open Go.RowKit Go.Maps Go.Lib
variable {A K K' : Nat → Prop} {w w' w1 : World} {nv : Value} {av kv : Nat → Value} {g : Gr} {X : Nat} {sv rv : Value}
structure GRep (A K : Nat → Prop) (X : Nat) (w : World) (g : Gr) (nv : Value) (av kv : Nat → Value) (sv rv : Value) : Prop where
  blk : w.heap[X]? = some (.cells #[sv, rv, nv, .int .i64 (topOf g.stack)] 54 (0, 0))
  nodes : Nodes 42 44 A K w nv g.nodes av kv
  nA : ¬ A X
  nK : ¬ K X
  dis : ∀ k, A k → ¬ K k
  lt : ∀ k, K k → k < w.heap.size
  ltA : ∀ k, A k → k < w.heap.size
theorem GRep.cell (h : GRep A K X w g nv av kv sv rv) (i : Nat) {u : Value} (e : #[sv, rv, nv, .int .i64 (topOf g.stack)][i]? = some u) : w.cell? ⟨X, i, none⟩ = some u := cell_of h.blk e
theorem info42 : (Tryz.prog.info? 42).map (fun i => (i.zero, i.size, i.bytes)) = some (some (.agg #[.string ⟨#[]⟩, .slice none 0 0, .string ⟨#[]⟩, .slice none 0 0, .int .i64 0]), 5, 88) := by kernel_rfl
theorem info3 : (Tryz.prog.info? 3).map (fun i => (i.zero, i.size, i.bytes)) = some (some (.int .i64 0), 1, 8) := by kernel_rfl
theorem nd_news (w : World) (n : Nd) (a k : Value) (t : TypeId) : ∀ j u, (nodeRow n a k)[j]? = some u → (w.alloc (.cells (nodeRow n a k).toArray t)).cell? ((⟨w.heap.size, 0, none⟩ : Addr).add j) = some u := by
  intro j u hu
  rw [Addr.add_lit, Nat.zero_add, cell_of (heap_alloc_new w _) (v := u)]
  rw [List.getElem?_toArray]; exact hu
theorem nd_one (n : Nd) (a k : Value) (ha : a.oneCell' = true) (hk : k.oneCell' = true) : ∀ u ∈ nodeRow n a k, u.oneCell' = true := by
  intro u hu
  simp only [nodeRow, List.mem_cons, List.not_mem_nil, or_false] at hu
  rcases hu with rfl | rfl | rfl | rfl | rfl
  · rfl
  · exact ha
  · rfl
  · exact hk
  · rfl
theorem push_close {u0 w2 : World} {K1 : Nat → Prop} {l1 : List Nd} {n : Nd} {a v' : Value} {d : Value} (hX : u0.heap[X]? = some (.cells #[sv, rv, nv, d] 54 (0, 0))) (hn : Nodes 42 44 A K1 u0 nv l1 av kv) (dis : ∀ k, A k → ¬ K1 k) (lt : ∀ k, K1 k → k < u0.heap.size) (ltA : ∀ k, A k → k < u0.heap.size) (nA : ¬ A X) (nK : ¬ K1 X)
    (ha : u0.ownsRow 0 44 2 a n.attrs.length (attrCells n.attrs)) (haA : ∀ k, a.ownBlock = some k → A k) (hk : n.kids = []) (hg : u0.grownBy w2 nv.ownBlock) (ho : w2.ownsRow 0 42 5 v' (l1.length + 1) (ndCells av kv 0 l1 ++ nodeRow n a nilS)) (hat : v'.ownBlock = nv.ownBlock ∨ v'.ownBlock = some u0.heap.size) :
    Nodes 42 44 A (fun i => K1 i ∨ i = u0.heap.size) (w2.setCell ⟨X, 2, none⟩ v') v' (l1 ++ [n]) (upd av l1.length a) (upd kv l1.length nilS) ∧ (w2.setCell ⟨X, 2, none⟩ v').heap[X]? = some (.cells #[sv, rv, v', d] 54 (0, 0)) ∧
    Frame (fun k => k = X ∨ K1 k) u0 (w2.setCell ⟨X, 2, none⟩ v') := by
  have hXlt : X < u0.heap.size := blk_lt hX
  have hnX : nv.ownBlock ≠ some X := fun e => nK (hn.rowK X e)
  have hX2 : w2.heap[X]? = some (.cells #[sv, rv, nv, d] 54 (0, 0)) := (hg.block X hXlt (fun e => hnX e.symm)).trans hX
  have hp := hn.push dis lt ltA ha haA hk hg ho hat
  refine ⟨hp.frame (fun k _ hA => Below.heap_setCell _ _ _ _ (fun e => nA (by have e' : k = X := e; rw [← e']; exact hA))) (fun k hk2 hK => Below.heap_setCell _ _ _ _ ?_) (fun k _ hK => hK), ?_, ⟨hg.os, hg.tape, hg.output, ?_, ?_⟩⟩
  · rintro rfl
    rcases hK with e | e
    · exact nK e
    · omega
  · rw [set_of hX2]; rfl
  · have := hg.size
    simpa [World.setCell] using this
  · intro k hk2 hf
    rw [Below.heap_setCell _ _ _ _ (fun e => hf (Or.inl e))]
    exact hg.block k hk2 (fun e => hf (Or.inr (hn.rowK k e.symm)))
theorem GRep.next {g' : Gr} {nv' : Value} {av' kv' : Nat → Value} {Kx : Nat → Prop} (h : GRep A K X w g nv av kv sv rv) (fr : Frame (fun k => k = X ∨ K k) w w') (hn : Nodes 42 44 A Kx w' nv' g'.nodes av' kv') (hK : ∀ k, k < w'.heap.size → Kx k → Grow K w w' k)
    (hb : w'.heap[X]? = some (.cells #[sv, rv, nv', .int .i64 (topOf g'.stack)] 54 (0, 0))) : GRep A (Grow K w w') X w' g' nv' av' kv' sv rv := by
  have hXlt := blk_lt h.blk
  refine ⟨hb, hn.frame (fun _ _ _ => rfl) (fun _ _ _ => rfl) hK, h.nA, ?_, ?_, grow_lt h.lt fr.size, fun k hA => Nat.lt_of_lt_of_le (h.ltA k hA) fr.size⟩
  · rintro (e | e)
    · exact h.nK e
    · omega
  · rintro k hA (e | e)
    · exact h.dis k hA e
    · have := h.ltA k hA; omega
theorem Frame.trans' {F : Nat → Prop} {a b c : World} (h : Frame F a b) (k : Frame F b c) : Frame F a c :=
  ⟨k.os.trans h.os, k.tape.trans h.tape, k.output.trans h.output, Nat.le_trans h.size k.size, fun i hi hf => (k.block i (Nat.lt_of_lt_of_le hi h.size) hf).trans (h.block i hi hf)⟩
theorem Frame.alloc' {F : Nat → Prop} (w : World) (o : Obj) : Frame F w (w.alloc o) := ⟨rfl, rfl, rfl, by simp, fun k hk _ => Below.heap_alloc _ _ _ hk⟩
theorem Frame.drew' {F : Nat → Prop} (w : World) : Frame F w w.drew := ⟨rfl, rfl, rfl, Nat.le_refl _, fun _ _ _ => rfl⟩
theorem add_close {n : Nd} {a v' : Value} {o1 o2 : Obj} {w2 : World} (h : GRep A K X w g nv av kv sv rv) (hs : g.stack = []) (ha : w.ownsRow 0 44 2 a n.attrs.length (attrCells n.attrs)) (haA : ∀ k, a.ownBlock = some k → A k) (hn : n.kids = [])
    (hg : ((w.alloc o1).drew.alloc o2).grownBy w2 nv.ownBlock) (ho : w2.ownsRow 0 42 5 v' (g.nodes.length + 1) (ndCells av kv 0 g.nodes ++ nodeRow { n with up := -1 } a nilS)) (hat : v'.ownBlock = nv.ownBlock ∨ v'.ownBlock = some ((w.alloc o1).drew.alloc o2).heap.size) :
    ∃ nv' av' kv', GRep A (Grow K w (w2.setCell ⟨X, 2, none⟩ v')) X (w2.setCell ⟨X, 2, none⟩ v') (g.put n) nv' av' kv' sv rv ∧ Frame (fun k => k = X ∨ K k) w (w2.setCell ⟨X, 2, none⟩ v') := by
  have f1 : ∀ F : Nat → Prop, Frame F w ((w.alloc o1).drew.alloc o2) := fun F => ((Frame.alloc' _ _).trans' (Frame.drew' _)).trans' (Frame.alloc' _ _)
  have hXlt := blk_lt h.blk
  have keep : ∀ k, k < w.heap.size → ((w.alloc o1).drew.alloc o2).heap[k]? = w.heap[k]? := fun k hk => (f1 (fun _ => False)).block k hk (fun x => x)
  have hsz := (f1 (fun _ => False)).size
  obtain ⟨p1, p2, p3⟩ := push_close (n := { n with up := -1 }) (a := a) ((keep X hXlt).trans h.blk) (h.nodes.frame (K' := K) (fun k hk _ => keep k hk) (fun k hk _ => keep k hk) (fun _ _ x => x)) h.dis (fun k x => Nat.lt_of_lt_of_le (h.lt k x) hsz) (fun k x => Nat.lt_of_lt_of_le (h.ltA k x) hsz) h.nA h.nK
    (owns_of ha fun k e => keep k (own_lt ha e)) haA hn hg ho hat
  have fr := (f1 (fun k => k = X ∨ K k)).trans' p3
  have eput : g.put n = ⟨g.nodes ++ [{ n with up := -1 }], g.stack⟩ := by unfold Gr.put; rw [hs]
  rw [eput]
  refine ⟨_, _, _, h.next (g' := ⟨g.nodes ++ [{ n with up := -1 }], g.stack⟩) fr p1 ?_ p2, fr⟩
  rintro k hk (e | e)
  · exact Or.inl e
  · exact Or.inr ⟨by omega, hk⟩
set_option maxHeartbeats 4000000 in
set_option maxRecDepth 100000 in
theorem add_none (h : GRep A K X w g nv av kv sv rv) (hs : g.stack = []) (n : Nd) (a : Value) (z : Int) (ha : w.ownsRow 0 44 2 a n.attrs.length (attrCells n.attrs)) (haA : ∀ k, a.ownBlock = some k → A k) (hn : n.kids = []) (hb : g.nodes.length ≤ 17179869184) :
    Calls Tryz.prog 40 #[.pointer (some ⟨X, 0, none⟩), .agg #[.string ⟨n.name.toArray⟩, a, .string ⟨n.text.toArray⟩, .slice none 0 0, .int .i64 z]] w fun e w' => e = .returned (.int .i64 g.nodes.length) ∧ ∃ nv' av' kv', GRep A (Grow K w w') X w' (g.put n) nv' av' kv' sv rv ∧ Frame (fun k => k = X ∨ K k) w w' := by
  obtain ⟨ai, ac, hav⟩ := slice_len ha
  obtain ⟨ni, nc, hnv⟩ := slice_len h.nodes.row
  subst hav
  subst hnv
  have c0 : w.cell? ⟨X, 2, none⟩ = some (.slice ni g.nodes.length nc) := h.cell 2 rfl
  have c1 : w.cell? ⟨X, 3, none⟩ = some (.int .i64 (-1)) := by have := h.cell 3 rfl; rw [hs] at this; exact this
  have c0a : ∀ o : Obj, (w.alloc o).cell? ⟨X, 2, none⟩ = some (.slice ni g.nodes.length nc) := fun o => cell_alloc o c0
  have c1a : ∀ o : Obj, (w.alloc o).cell? ⟨X, 3, none⟩ = some (.int .i64 (-1)) := fun o => cell_alloc o c1
  have hXlt := blk_lt h.blk
  have hnX : (Value.slice ni g.nodes.length nc).ownBlock ≠ some X := fun e => h.nK (h.nodes.rowK X e)
  obtain ⟨i0, hi, hz0, hz1, hz2⟩ := info_parts info42
  have HR := hide h.nodes.row
  have HA := hide ha
  have HAA := hide haA
  have H := hide h
  clear h ha haA
  go_enter Tryz.func40, Tryz.ntmps40
  go_wp2_with fail
  obtain ⟨W1, hW1⟩ : ∃ W, w.alloc (.cells #[.string ⟨n.name.toArray⟩, .slice ai (List.length n.attrs) ac, .string ⟨n.text.toArray⟩, .slice none 0 0, .int .i64 (-1)] 42) = W := ⟨_, rfl⟩
  rw [hW1]
  have hbox : W1.heap[w.heap.size]? = some (.cells #[.string ⟨n.name.toArray⟩, .slice ai (List.length n.attrs) ac, .string ⟨n.text.toArray⟩, .slice none 0 0, .int .i64 (-1)] 42) := by rw [← hW1]; exact Below_new _ _
  have n0 := cell_of (i := 0) hbox rfl
  have n1 := cell_of (i := 1) hbox rfl
  have n2 := cell_of (i := 2) hbox rfl
  have n3 := cell_of (i := 3) hbox rfl
  have n4 := cell_of (i := 4) hbox rfl
  have x0 : W1.cell? ⟨X, 2, none⟩ = some (.slice ni g.nodes.length nc) := by rw [← hW1]; exact c0a _
  have x0a : ∀ o : Obj, (W1.alloc o).cell? ⟨X, 2, none⟩ = some (.slice ni g.nodes.length nc) := fun o => cell_alloc o x0
  have hXb : W1.heap[X]? = some (.cells #[sv, rv, .slice ni g.nodes.length nc, .int .i64 (topOf g.stack)] 54 (0, 0)) := by rw [← hW1, Below.heap_alloc _ _ _ hXlt]; exact H.out.blk
  have HR1 : Hid (W1.ownsRow 0 42 5 (.slice ni g.nodes.length nc) g.nodes.length (ndCells av kv 0 g.nodes)) := hide (by rw [← hW1]; exact HR.out.alloc _)
  have HXB := hide hXb
  have HW1 := hide hW1
  have f0 := free_of (i := 2) hXb
  clear hW1 hbox c0a c1a c0 c1 hXb
  go_region_law
    (first | (
      refine step_own_at rfl (.tmp 45) (.tmp 47) 22 rfl 42 i0 _ 5 88 Tryz.underlying22 hi hz0 hz1 hz2 rfl (by decide) (.slice ni g.nodes.length nc) g.nodes.length (ndCells av kv 0 g.nodes) (by simp [Act.eval, Act.put]) (HR1.out.drew.alloc _) ⟨W1.heap.size, 0, none⟩ 1 1 (nodeRow { n with up := -1 } (.slice ai (List.length n.attrs) ac) nilS) (by simp [Act.eval, Act.put]) rfl (nd_news _ _ _ _ _) (nd_one _ _ _ rfl rfl) (by unfold maxLen; omega) (by omega) ?_
      intro v' w2 ho hg hat
      obtain ⟨ao', cap', rfl⟩ := slice_len ho
      have hb1 := grown_blk HXB.out hnX hg
      have x0' : w2.cell? ⟨X, 2, none⟩ = some (.slice ni g.nodes.length nc) := cell_of hb1 rfl
      have f0' := free_of (i := 2) hb1
      have HO := hide ho
      have HG := hide hg
      have HAT := hide hat
      clear ho hg hat hb1))
  all_goals
    go_wp2
    go_ret
    have h3 := HW1.out
    subst h3
    exact ⟨rfl, add_close H.out hs HA.out HAA.out hn HG.out HO.out HAT.out⟩
end Go.Proofs.YtfolnkmbdmfigaaGreatDoor

set_option linter.unusedSimpArgs false
set_option linter.unusedVariables false
namespace Go.Proofs.YtfolnkmbdmfigaaGreatDoor
open Go.RowKit Go.Maps Go.Lib
variable {A K K' : Nat → Prop} {w w' w1 : World} {nv : Value} {av kv : Nat → Value} {g : Gr} {X : Nat} {sv rv : Value}
structure More1 (w W : World) : Prop where
  os : W.os = w.os
  tape : W.tape = w.tape
  output : W.output = w.output
  size : w.heap.size ≤ W.heap.size
  keep : ∀ b, b < w.heap.size → W.heap[b]? = w.heap[b]?
theorem More1.frame {F : Nat → Prop} {W : World} (h : More1 w W) : Frame F w W := ⟨h.os, h.tape, h.output, h.size, fun b hb _ => h.keep b hb⟩
theorem More1.nodes {W : World} {l : List Nd} (h : More1 w W) (hn : Nodes 42 44 A K w nv l av kv) : Nodes 42 44 A K W nv l av kv := hn.frame (fun k hk _ => h.keep k hk) (fun k hk _ => h.keep k hk) (fun _ _ x => x)
theorem More1.alloc {W : World} (h : More1 w W) (o : Obj) : More1 w (W.alloc o) := ⟨h.os, h.tape, h.output, by have := h.size; simp; omega, fun b hb => (Below.heap_alloc _ _ _ (Nat.lt_of_lt_of_le hb h.size)).trans (h.keep b hb)⟩
theorem More1.drewN {W : World} (h : More1 w W) (n : Nat) : More1 w (W.drewN n) := ⟨h.os, h.tape, h.output, h.size, h.keep⟩
theorem More1.refl (w : World) : More1 w w := ⟨rfl, rfl, rfl, Nat.le_refl _, fun _ _ => rfl⟩
theorem kid_mid {k : Nat} {st : List Nat} {m : Nd} {W1 w2 : World} {o : Obj} {v' : Value} {gN nc : Nat} (h : GRep A K X w g nv av kv sv rv) (hm : g.nodes[k]? = some m) (hnv : nv = .slice (some ⟨gN, 0, none⟩) g.nodes.length nc) (hW : More1 w W1)
    (hg : (W1.alloc o).grownBy w2 (kv k).ownBlock) (ho : w2.ownsRow 0 3 1 v' (m.kids.length + 1) (kidCells m.kids ++ [.int .i64 g.nodes.length])) (hat : v'.ownBlock = (kv k).ownBlock ∨ v'.ownBlock = some (W1.alloc o).heap.size) :
    Nodes 42 44 A (fun i => K i ∨ i = (W1.alloc o).heap.size) (w2.setCell ⟨gN, k * 5 + 3, none⟩ v') nv (addKid g.nodes k g.nodes.length) av (upd kv k v') ∧
    (∀ b, b < (W1.alloc o).heap.size → ¬ K b → (w2.setCell ⟨gN, k * 5 + 3, none⟩ v').heap[b]? = (W1.alloc o).heap[b]?) ∧ Frame K w (w2.setCell ⟨gN, k * 5 + 3, none⟩ v') ∧ (W1.alloc o).heap.size ≤ (w2.setCell ⟨gN, k * 5 + 3, none⟩ v').heap.size := by
  have hk : k < g.nodes.length := (List.getElem?_eq_some_iff.1 hm).1
  have hgK : K gN := h.nodes.rowK gN (by rw [hnv]; rfl)
  have hM := hW.alloc o
  have hn := (hM.nodes h.nodes).addKid (j := g.nodes.length) h.dis (fun i x => Nat.lt_of_lt_of_le (h.lt i x) hM.size) (fun i x => Nat.lt_of_lt_of_le (h.ltA i x) hM.size) hnv hm hg ho hat
  have hb : ∀ b, b < (W1.alloc o).heap.size → ¬ K b → (w2.setCell ⟨gN, k * 5 + 3, none⟩ v').heap[b]? = (W1.alloc o).heap[b]? := by
    intro b hb hK
    rw [Below.heap_setCell _ _ _ _ (fun e => hK (by have e' : b = gN := e; rw [e']; exact hgK))]
    exact hg.block b hb (fun e => hK (h.nodes.kidK k b hk e.symm).1)
  have hz : (W1.alloc o).heap.size ≤ (w2.setCell ⟨gN, k * 5 + 3, none⟩ v').heap.size := by
    have := hg.size
    simpa [World.setCell] using this
  exact ⟨hn, hb, ⟨hg.os.trans hM.os, hg.tape.trans hM.tape, hg.output.trans hM.output, Nat.le_trans hM.size hz, fun i hi hK => (hb i (Nat.lt_of_lt_of_le hi hM.size) hK).trans (hM.keep i hi)⟩, hz⟩
theorem add_close2 {k : Nat} {st : List Nat} {n : Nd} {a v1 v' : Value} {o2 : Obj} {W3 w4 : World} {Z : Nat} (h : GRep A K X w g nv av kv sv rv) (hs : g.stack = k :: st) (ha : w.ownsRow 0 44 2 a n.attrs.length (attrCells n.attrs)) (haA : ∀ k, a.ownBlock = some k → A k) (hn : n.kids = [])
    (hZ : w.heap.size ≤ Z) (hZ3 : Z ≤ W3.heap.size) (p1 : Nodes 42 44 A (fun i => K i ∨ i = Z) W3 nv (addKid g.nodes k g.nodes.length) av (upd kv k v1)) (p3 : Frame K w W3) (hX : W3.heap[X]? = some (.cells #[sv, rv, nv, .int .i64 (topOf g.stack)] 54 (0, 0)))
    (hg : (W3.drew.alloc o2).grownBy w4 nv.ownBlock) (ho : w4.ownsRow 0 42 5 v' (g.nodes.length + 1) (ndCells av (upd kv k v1) 0 (addKid g.nodes k g.nodes.length) ++ nodeRow { n with up := k } a nilS)) (hat : v'.ownBlock = nv.ownBlock ∨ v'.ownBlock = some (W3.drew.alloc o2).heap.size) :
    ∃ nv' av' kv', GRep A (Grow K w (w4.setCell ⟨X, 2, none⟩ v')) X (w4.setCell ⟨X, 2, none⟩ v') (g.put n) nv' av' kv' sv rv ∧ Frame (fun k => k = X ∨ K k) w (w4.setCell ⟨X, 2, none⟩ v') := by
  have hXlt := blk_lt h.blk
  have hM : More1 W3 (W3.drew.alloc o2) := ((More1.refl W3).drewN 1).alloc o2
  -- what lies at all
  let K1 : Nat → Prop := fun i => (K i ∨ i = Z) ∧ i < W3.heap.size
  have p1' : Nodes 42 44 A K1 W3 nv (addKid g.nodes k g.nodes.length) av (upd kv k v1) := p1.frame (fun _ _ _ => rfl) (fun _ _ _ => rfl) (fun i hi x => ⟨x, hi⟩)
  have q1 : ∀ i, A i → ¬ K1 i := fun i hA x => by
    rcases x.1 with e | e
    · exact h.dis i hA e
    · have := h.ltA i hA; omega
  have q2 : ∀ i, K1 i → i < (W3.drew.alloc o2).heap.size := fun i x => Nat.lt_of_lt_of_le x.2 hM.size
  have q3 : ∀ i, A i → i < (W3.drew.alloc o2).heap.size := fun i x => Nat.lt_of_lt_of_le (h.ltA i x) (Nat.le_trans p3.size hM.size)
  have q4 : ¬ K1 X := fun x => by
    rcases x.1 with e | e
    · exact h.nK e
    · omega
  have hA3 : ∀ i, A i → W3.heap[i]? = w.heap[i]? := fun i hA => p3.block i (h.ltA i hA) (fun x => h.dis i hA x)
  have ha3 : (W3.drew.alloc o2).ownsRow 0 44 2 a n.attrs.length (attrCells n.attrs) := owns_of ha fun i e => (hM.keep i (Nat.lt_of_lt_of_le (own_lt ha e) p3.size)).trans (hA3 i (haA i e))
  obtain ⟨r1, r2, r3⟩ := push_close (n := { n with up := k }) (a := a) ((hM.keep X (Nat.lt_of_lt_of_le hXlt p3.size)).trans hX) (hM.nodes p1') q1 q2 q3 h.nA q4 ha3 haA hn hg (by rw [addKid_len]; exact ho) hat
  have fr : Frame (fun k => k = X ∨ K k) w (w4.setCell ⟨X, 2, none⟩ v') := by
    refine ⟨r3.os.trans (hM.os.trans p3.os), r3.tape.trans (hM.tape.trans p3.tape), r3.output.trans (hM.output.trans p3.output), Nat.le_trans p3.size (Nat.le_trans hM.size r3.size), fun i hi hf => ?_⟩
    rw [r3.block i (Nat.lt_of_lt_of_le hi (Nat.le_trans p3.size hM.size)) (fun x => ?_), hM.keep i (Nat.lt_of_lt_of_le hi p3.size)]
    · exact p3.block i hi (fun x => hf (Or.inr x))
    · rcases x with e | e
      · exact hf (Or.inl e)
      · rcases e.1 with e | e
        · exact hf (Or.inr e)
        · omega
  have eput : g.put n = ⟨addKid g.nodes k g.nodes.length ++ [{ n with up := (k : Int) }], g.stack⟩ := by unfold Gr.put; rw [hs]
  rw [eput]
  refine ⟨_, _, _, h.next (g' := ⟨addKid g.nodes k g.nodes.length ++ [{ n with up := (k : Int) }], g.stack⟩) fr r1 ?_ r2, fr⟩
  rintro i hi (e | e)
  · rcases e.1 with e1 | e1
    · exact Or.inl e1
    · exact Or.inr ⟨by omega, hi⟩
  · exact Or.inr ⟨by have := p3.size; have := hM.size; omega, hi⟩
set_option maxHeartbeats 4000000 in
set_option maxRecDepth 100000 in
theorem add_some (h : GRep A K X w g nv av kv sv rv) (k : Nat) (st : List Nat) (m : Nd) (hs : g.stack = k :: st) (hm : g.nodes[k]? = some m) (n : Nd) (a : Value) (z : Int) (ha : w.ownsRow 0 44 2 a n.attrs.length (attrCells n.attrs)) (haA : ∀ k, a.ownBlock = some k → A k) (hn : n.kids = []) (hb : g.nodes.length ≤ 17179869184) (hb2 : m.kids.length ≤ 17179869184) :
    Calls Tryz.prog 40 #[.pointer (some ⟨X, 0, none⟩), .agg #[.string ⟨n.name.toArray⟩, a, .string ⟨n.text.toArray⟩, .slice none 0 0, .int .i64 z]] w fun e w' => e = .returned (.int .i64 g.nodes.length) ∧ ∃ nv' av' kv', GRep A (Grow K w w') X w' (g.put n) nv' av' kv' sv rv ∧ Frame (fun k => k = X ∨ K k) w w' := by
  obtain ⟨ai, ac, hav⟩ := slice_len ha
  obtain ⟨gN, nc, hnv, hmx, hgK, m0, m1, m2, m3, m4⟩ := h.nodes.cells k m hm
  have hkl : k < g.nodes.length := (List.getElem?_eq_some_iff.1 hm).1
  have hkid := h.nodes.kid k m hm
  obtain ⟨ki, kc, hkv⟩ := slice_len hkid
  rw [hkv] at m3 hkid
  subst hav
  subst hnv
  have c0 : w.cell? ⟨X, 2, none⟩ = some (.slice (some ⟨gN, 0, none⟩) g.nodes.length nc) := h.cell 2 rfl
  have c1 : w.cell? ⟨X, 3, none⟩ = some (.int .i64 k) := by have := h.cell 3 rfl; rw [hs] at this; exact this
  have c0a : ∀ o : Obj, (w.alloc o).cell? ⟨X, 2, none⟩ = some (.slice (some ⟨gN, 0, none⟩) g.nodes.length nc) := fun o => cell_alloc o c0
  have c1a : ∀ o : Obj, (w.alloc o).cell? ⟨X, 3, none⟩ = some (.int .i64 k) := fun o => cell_alloc o c1
  have m3a : ∀ o : Obj, (w.alloc o).cell? ⟨gN, k * 5 + 3, none⟩ = some (.slice ki m.kids.length kc) := fun o => cell_alloc o m3
  have hXlt := blk_lt h.blk
  have hXg : gN ≠ X := fun e => h.nK (e ▸ hgK)
  have hkX : (Value.slice ki m.kids.length kc).ownBlock ≠ some X := fun e => h.nK (h.nodes.kidK k X hkl (by rw [hkv]; exact e)).1
  have hkg : (Value.slice ki m.kids.length kc).ownBlock ≠ some gN := fun e => (h.nodes.kidK k gN hkl (by rw [hkv]; exact e)).2 rfl
  have hkn : ¬ ((k : Int) = -1) := by omega
  have hne : ((k : Int) != -1) = true := by simp
  have hki : (k : Int) < g.nodes.length := by omega
  obtain ⟨i0, hi, hz0, hz1, hz2⟩ := info_parts info42
  obtain ⟨j0, hj, hy0, hy1, hy2⟩ := info_parts info3
  have HR := hide h.nodes.row
  have HKID := hide hkid
  have HA := hide ha
  have HAA := hide haA
  have H := hide h
  clear h ha haA hkid m0 m1 m2 m4
  go_enter Tryz.func40, Tryz.ntmps40
  go_wp2_with fail
  go_quiet (fail)
  obtain ⟨W1, hW1⟩ : ∃ W, (w.alloc (.cells #[.string ⟨n.name.toArray⟩, .slice ai (List.length n.attrs) ac, .string ⟨n.text.toArray⟩, .slice none 0 0, .int .i64 (k : Int)] 42)).drewN nq = W := ⟨_, rfl⟩
  rw [hW1]
  have hM : More1 w W1 := by rw [← hW1]; exact ((More1.refl w).alloc _).drewN _
  have hbox : W1.heap[w.heap.size]? = some (.cells #[.string ⟨n.name.toArray⟩, .slice ai (List.length n.attrs) ac, .string ⟨n.text.toArray⟩, .slice none 0 0, .int .i64 (k : Int)] 42) := by rw [← hW1]; exact Below_new w _
  have hXb : W1.heap[X]? = some (.cells #[sv, rv, .slice (some ⟨gN, 0, none⟩) g.nodes.length nc, .int .i64 (topOf g.stack)] 54 (0, 0)) := (hM.keep X hXlt).trans H.out.blk
  obtain ⟨cur, hcur⟩ := owns_blk HR.out (k := gN) rfl
  have hgl : gN < w.heap.size := blk_lt hcur
  have hcur1 : W1.heap[gN]? = some (.cells cur 42 (0, 0)) := (hM.keep gN hgl).trans hcur
  have k3 : W1.cell? ⟨gN, k * 5 + 3, none⟩ = some (.slice ki m.kids.length kc) := (World.cell?_of_block (hM.keep gN hgl)).trans m3
  have HK1 : Hid (W1.ownsRow 0 3 1 (.slice ki m.kids.length kc) m.kids.length (kidCells m.kids)) := hide (owns_of HKID.out fun b e => hM.keep b (own_lt HKID.out e))
  have HM := hide hM
  have HBOX := hide hbox
  have HXB := hide hXb
  have HCUR := hide hcur1
  have HM3 := hide m3
  clear hW1 hbox c0a c1a c0 c1 hXb hM hcur hcur1 m3a m3
  go_wp2_with (at_builtin; refine wpList_append_own_at _ rfl (.tmp 35) (.tmp 37) 40 rfl 0 3 j0 _ 1 8 Tryz.underlying40 hj hy0 hy1 hy2 rfl (by decide) (.slice ki m.kids.length kc) m.kids.length (kidCells m.kids) rfl (HK1.out.alloc _) ⟨W1.heap.size, 0, none⟩ 1 1 [.int .i64 g.nodes.length] rfl rfl ?c1 ?c2 ?c3 ?c4 (Nat.zero_le _) ?_)
  case c1 =>
    intro j u hj
    match j, hj with
    | 0, hj => simp at hj; subst hj; simp [Addr.add]
    | (j + 1), hj => simp at hj
  case c2 => intro u hu; simp at hu; subst hu; rfl
  case c3 => unfold maxLen; omega
  case c4 => omega
  intro v' w2 ho hg _ hat
  obtain ⟨ao', cap', rfl⟩ := slice_len ho
  have hkv2 := hkv
  rw [← hkv] at hg hat
  obtain ⟨p1, p2, p3, p4⟩ := kid_mid (st := st) H.out hm rfl HM.out hg ho (by simpa using hat)
  have hlW : w.heap.size ≤ W1.heap.size := HM.out.size
  have hbl : w.heap.size < W1.heap.size := blk_lt HBOX.out
  have hcur2 : w2.heap[gN]? = some (.cells cur 42 (0, 0)) := by
    rw [hg.block gN (by simp; omega) (by rw [hkv]; exact fun e => hkg e.symm), Below.heap_alloc _ _ _ (by omega)]; exact HCUR.out
  have k3' : w2.cell? ⟨gN, k * 5 + 3, none⟩ = some (.slice ki m.kids.length kc) := by
    rw [World.cell?_of_block (w := w) (a := ⟨gN, k * 5 + 3, none⟩)]
    · exact HM3.out
    · rw [hcur2, ← HCUR.out]; exact HM.out.keep gN hgl
  have f3' := free_of (i := k * 5 + 3) hcur2
  have P1 := hide p1
  have P2 := hide p2
  have P3 := hide p3
  have P4 := hide p4
  clear p1 p2 p3 p4 hg ho hat hcur2 hkv2 hkv
  go_wp2_with fail
  obtain ⟨W3, hW3⟩ : ∃ W, w2.setCell ⟨gN, k * 5 + 3, none⟩ (.slice ao' (m.kids.length + 1) cap') = W := ⟨_, rfl⟩
  rw [hW3]
  rw [hW3] at P1 P2 P3 P4
  have hXb3 : W3.heap[X]? = some (.cells #[sv, rv, .slice (some ⟨gN, 0, none⟩) g.nodes.length nc, .int .i64 (topOf g.stack)] 54 (0, 0)) := by
    rw [P2.out X (by simp; omega) H.out.nK, Below.heap_alloc _ _ _ (by omega)]; exact HXB.out
  have hbox3 : W3.heap[w.heap.size]? = some (.cells #[.string ⟨n.name.toArray⟩, .slice ai (List.length n.attrs) ac, .string ⟨n.text.toArray⟩, .slice none 0 0, .int .i64 (k : Int)] 42) := by
    rw [P2.out w.heap.size (by simp; omega) (fun x => by have := H.out.lt _ x; omega), Below.heap_alloc _ _ _ hbl]; exact HBOX.out
  have n0 := cell_of (i := 0) hbox3 rfl
  have n1 := cell_of (i := 1) hbox3 rfl
  have n2 := cell_of (i := 2) hbox3 rfl
  have n3 := cell_of (i := 3) hbox3 rfl
  have n4 := cell_of (i := 4) hbox3 rfl
  have x0 : W3.cell? ⟨X, 2, none⟩ = some (.slice (some ⟨gN, 0, none⟩) g.nodes.length nc) := cell_of hXb3 rfl
  have x0a : ∀ o : Obj, (W3.alloc o).cell? ⟨X, 2, none⟩ = some (.slice (some ⟨gN, 0, none⟩) g.nodes.length nc) := fun o => cell_alloc o x0
  have hrow3 := P1.out.row
  rw [addKid_len] at hrow3
  have HR3 := hide hrow3
  have HXB3 := hide hXb3
  have hnX : (Value.slice (some ⟨gN, 0, none⟩) g.nodes.length nc).ownBlock ≠ some X := fun e => hXg (by cases e; rfl)
  have f0 := free_of (i := 2) hXb3
  clear hW3 hbox3 hXb3 hrow3 k3' f3' k3
  go_region_law
    (first | (
      refine step_own_at rfl (.tmp 45) (.tmp 47) 22 rfl 42 i0 _ 5 88 Tryz.underlying22 hi hz0 hz1 hz2 rfl (by decide) (.slice (some ⟨gN, 0, none⟩) g.nodes.length nc) g.nodes.length (ndCells av (upd kv k (.slice ao' (m.kids.length + 1) cap')) 0 (addKid g.nodes k g.nodes.length)) (by simp [Act.eval, Act.put]) (HR3.out.drew.alloc _) ⟨W3.heap.size, 0, none⟩ 1 1 (nodeRow { n with up := k } (.slice ai (List.length n.attrs) ac) nilS) (by simp [Act.eval, Act.put]) rfl (nd_news _ _ _ _ _) (nd_one _ _ _ rfl rfl) (by unfold maxLen; omega) (by omega) ?_
      intro v' w4 ho hg hat
      obtain ⟨ao4, cap4, rfl⟩ := slice_len ho
      have hb1 := grown_blk HXB3.out hnX hg
      have x0' : w4.cell? ⟨X, 2, none⟩ = some (.slice (some ⟨gN, 0, none⟩) g.nodes.length nc) := cell_of hb1 rfl
      have f0' := free_of (i := 2) hb1
      have HO := hide ho
      have HG := hide hg
      have HAT := hide hat
      clear ho hg hat hb1))
  all_goals
    go_wp2
    go_ret
    exact ⟨rfl, add_close2 H.out hs HA.out HAA.out hn (by have := HM.out.size; simp; omega) P4.out P1.out P3.out HXB3.out HG.out HO.out HAT.out⟩
def KidsLe (g : Gr) : Prop := ∀ (i : Nat) (m : Nd), g.nodes[i]? = some m → m.kids.length ≤ g.nodes.length
theorem put_node (h : GRep A K X w g nv av kv sv rv) (wf : g.Wf) (hk : KidsLe g) (n : Nd) (a : Value) (z : Int) (ha : w.ownsRow 0 44 2 a n.attrs.length (attrCells n.attrs)) (haA : ∀ k, a.ownBlock = some k → A k) (hn : n.kids = []) (hb : g.nodes.length ≤ 17179869184) :
    Calls Tryz.prog 40 #[.pointer (some ⟨X, 0, none⟩), .agg #[.string ⟨n.name.toArray⟩, a, .string ⟨n.text.toArray⟩, .slice none 0 0, .int .i64 z]] w fun e w' => e = .returned (.int .i64 g.nodes.length) ∧ ∃ nv' av' kv', GRep A (Grow K w w') X w' (g.put n) nv' av' kv' sv rv ∧ Frame (fun k => k = X ∨ K k) w w' := by
  cases hs : g.stack with
  | nil => exact add_none h hs n a z ha haA hn hb
  | cons k st =>
    obtain ⟨m, hm, _, _⟩ := wf.top hs
    exact add_some h k st m hs hm n a z ha haA hn hb (Nat.le_trans (hk k m hm) hb)
end Go.Proofs.YtfolnkmbdmfigaaGreatDoor
