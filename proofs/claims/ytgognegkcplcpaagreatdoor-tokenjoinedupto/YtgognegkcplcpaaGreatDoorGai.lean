import Derived.Test.YtgognegkcplcpaaGreatDoorRows
import Derived.WalkKit
import Derived.ProofKit
import Derived.OpenShut
import Derived.SizedLaws
import Derived.Deep.DeepHandedRow
import Derived.Lib.LaidTab
import Derived.Lib.LaidU8
import Derived.LaidHandle
import Derived.Stop.LaidErr
import Derived.BigQuiet
import Derived.Deep.QuietTactic
import Derived.Deep.RegionHeld3
import Derived.Deep.RegionLaw
import Derived.Test.YtgognegkcplcpaaGreatDoorGah
set_option linter.unusedVariables false
set_option linter.unusedSimpArgs false
namespace Go.Proofs.YtgognegkcplcpaaGreatDoor
open Go.RowKit Go.Maps Go.Lib
variable {F F' : Nat → Prop} {R : Nat} {w w' w'' : World} {s s' : Src} {p : Ptr} {st : St} {c : Int} {a : Addr} {pt : Part} {v : Value}
structure Gl (w : World) (a : Addr) : Prop where
  tabs : Utf8Tabs 3 4 w
  tab : Tab w
  more : More w (.iface 170 (.pointer (some a)))
  et : w.cell? ⟨1, 0, none⟩ = some (.iface 141 (.agg #[.pointer (some ⟨5, 79, none⟩)]))
def Low (F : Nat → Prop) : Prop := ∀ k, k ≤ 4 → ¬ F k
theorem Gl.size (h : Gl w a) : 4 < w.heap.size := tabs_size h.tabs
theorem Gl.frame (h : Gl w a) (fr : Frame F w w') (hl : Low F) : Gl w' a := by
  have h4 := h.size
  have hb : ∀ k, k ≤ 4 → w'.heap[k]? = w.heap[k]? := fun k hk => fr.block k (by omega) (hl k hk)
  refine ⟨⟨fun c hc => ?_, fun i hi => ⟨?_, ?_⟩⟩, tab_frame h.tab fr (hl 2 (by omega)), ?_, ?_⟩
  · exact (World.cell?_of_block (hb 3 (by omega))).trans (h.tabs.1 c hc)
  · exact (World.cell?_of_block (hb 4 (by omega))).trans (h.tabs.2 i hi).1
  · exact (World.cell?_of_block (hb 4 (by omega))).trans (h.tabs.2 i hi).2
  · exact (World.cell?_of_block (hb 0 (by omega))).trans h.more
  · exact (World.cell?_of_block (hb 1 (by omega))).trans h.et
theorem Low.grow (hl : Low F) (h4 : 4 < w.heap.size) : Low (Grow F w w') := fun k hk h => h.elim (hl k hk) (fun x => by omega)
theorem Low.lt (hl : Low F) (h : F R) : 4 < R := by
  by_cases e : R ≤ 4
  · exact absurd h (hl R e)
  · omega
theorem PartAt.keep (h : PartAt F R w v pt) (hk : ∀ k, F k → k ≠ R → w'.heap[k]? = w.heap[k]?) (hF : ∀ k, F k → F' k) : PartAt F' R w' v pt := by
  have bx : ∀ {b x t}, Box F R w b x t → Box F' R w' b x t := fun h => ⟨(hk _ h.2.1 h.2.2).trans h.1, hF _ h.2.1, h.2.2⟩
  cases pt with
  | plain k => exact h
  | word l k => obtain ⟨b1, b2, e, x1, x2⟩ := h; exact ⟨b1, b2, e, bx x1, bx x2⟩
  | name i k => obtain ⟨b1, b2, b3, e, x1, x2, x3⟩ := h; exact ⟨b1, b2, b3, e, bx x1, bx x2, bx x3⟩
  | ref i k => obtain ⟨b1, b2, b3, e, x1, x2, x3⟩ := h; exact ⟨b1, b2, b3, e, bx x1, bx x2, bx x3⟩
def RG (F : Nat → Prop) (R : Nat) (w : World) (s : Src) (p : Ptr) (st : St) (w' : World) : Prop := Rep (Grow F w w') R w' s p st ∧ Frame F w w'
theorem RG.refl (h : Rep F R w s p st) : RG F R w s p st w := ⟨h.grow0, Frame.refl _ _⟩
theorem RF.rg (h : RF F R w s p st w') : RG F R w s p st w' := ⟨h.1, h.2.1⟩
theorem RG.below (h : RG F R w s p st w') (hb : Below w'.heap.size w' w'') : RG F R w s p st w'' :=
  ⟨(h.1.below hb).join h.2.size hb.size, h.2.trans (Frame.below hb)⟩
theorem RG.on {p' : Ptr} {st' : St} (h : RG F R w s p st w') (k : RG (Grow F w w') R w' s' p' st' w'') : RG F R w s' p' st' w'' :=
  ⟨k.1.join h.2.size k.2.size, h.2.trans k.2⟩
theorem RG.iff (h : RG F R w s p st w') (hF : ∀ k, F k ↔ F' k) : RG F' R w s p st w' := by
  refine ⟨h.1.mono (fun k hk => hk.elim (fun x => Or.inl ((hF k).1 x)) Or.inr) (fun k hk => h.1.lt k (hk.elim (fun x => Or.inl ((hF k).2 x)) Or.inr)), ⟨h.2.os, h.2.tape, h.2.output, h.2.size, fun k hk hf => h.2.block k hk (fun x => hf ((hF k).1 x))⟩⟩
theorem RG.set (h : RG F R w s p st w') (i : Nat) (v : Value) (hc : (cellsOf s p st).setIfInBounds i v = cellsOf s' p st) : RG F R w s' p st (w'.setCell ⟨R, i, none⟩ v) := by
  have hsz : (w'.setCell ⟨R, i, none⟩ v).heap.size = w'.heap.size := by simp [World.setCell]
  have r := h.1.scalar (s' := s') (st' := st) i v hc (fun o => o)
  have hG : ∀ k, Grow F w w' k → Grow F w (w'.setCell ⟨R, i, none⟩ v) k := fun k hk => by unfold Grow at *; rw [hsz]; exact hk
  have hG' : ∀ k, Grow F w (w'.setCell ⟨R, i, none⟩ v) k → Grow F w w' k := fun k hk => by unfold Grow at *; rw [hsz] at hk; exact hk
  refine ⟨r.mono hG (fun k hk => r.lt k (hG' k hk)), ⟨h.2.os, h.2.tape, h.2.output, by rw [hsz]; exact h.2.size, fun k hk hf => ?_⟩⟩
  rw [Below.heap_setCell _ _ _ _ ?_]
  · exact h.2.block k hk hf
  · intro e
    have e' : k = R := e
    subst e'
    rcases h.1.inR with x | x
    · exact hf x
    · omega
theorem PartAt.grow (h : PartAt F R w' v pt) (_hs : w'.heap.size ≤ w''.heap.size) (hk : ∀ k, F k → k ≠ R → w''.heap[k]? = w'.heap[k]?) : PartAt (Grow F w' w'') R w'' v pt :=
  h.keep hk (fun _ x => Or.inl x)
theorem PartAt.func (h : PartAt F R w v pt) : ∃ f cs, v = .func (.func f) #[] cs := by
  cases pt with
  | plain k => exact ⟨_, _, h⟩
  | word l k => obtain ⟨b1, b2, e, _⟩ := h; exact ⟨_, _, e⟩
  | name i k => obtain ⟨b1, b2, b3, e, _⟩ := h; exact ⟨_, _, e⟩
  | ref i k => obtain ⟨b1, b2, b3, e, _⟩ := h; exact ⟨_, _, e⟩
def Src.Ok (s : Src) : Prop := 0 ≤ s.next ∧ s.next + s.rest.size ≤ 1099511627776
def ReadEnd (F : Nat → Prop) (R : Nat) (w : World) (a : Addr) (m : Rd) (e : Ending) (w' : World) : Prop :=
  ∃ v p', RG F R w { m.s with now := v } p' m.st w' ∧
    match m.ret with
    | .more => e = .returned (.iface 170 (.pointer (some a))) ∧ PartAt (Grow F w w') R w' v m.pt
    | .over => e = .returned .nilIface ∧ v = .nilFunc
    | .fail no q => e = .returned (wrongV no q) ∧ v = .nilFunc
def RI (F : Nat → Prop) (R : Nat) (w : World) (m : Rd) (N : Nat) (wr : World) : Prop :=
  ∃ (s' : Src) (p' : Ptr) (st' : St), RG F R w s' p' st' wr ∧
    ((∃ pt n, PartAt (Grow F w wr) R wr s'.now pt ∧ Lim n pt st' ∧ n + s'.rest.size ≤ N ∧ s'.Ok ∧ reads s'.bare pt st' = m) ∨
      (s'.now = .nilFunc ∧ m.s = s'.bare ∧ m.st = st' ∧ m.ret = .over))
def restLen (R : Nat) (w : World) : Nat :=
  (match w.cell? ⟨R, 0, none⟩ with | some (.string b) => 2 * b.size | _ => 0) + (match w.cell? ⟨R, 4, none⟩ with | some .nilFunc => 0 | _ => 1)
theorem restLen_go (h : Rep F R w s p st) {f : Nat} {cs : Array Value} (e : s.now = .func (.func f) #[] cs) : restLen R w = 2 * s.rest.size + 1 := by
  have c0 : w.cell? ⟨R, 0, none⟩ = some (.string s.rest) := h.cell 0 rfl
  have c4 : w.cell? ⟨R, 4, none⟩ = some s.now := h.cell 4 rfl
  simp only [restLen, c0, c4, e]
theorem restLen_nil (h : Rep F R w s p st) (e : s.now = .nilFunc) : restLen R w = 2 * s.rest.size := by
  have c0 : w.cell? ⟨R, 0, none⟩ = some (.string s.rest) := h.cell 0 rfl
  have c4 : w.cell? ⟨R, 4, none⟩ = some s.now := h.cell 4 rfl
  simp only [restLen, c0, c4, e, Nat.add_zero]
theorem took_leg (s : Src) : Leg s.took.2 := by
  unfold Src.took
  split
  · exact Or.inr (Or.inl rfl)
  · split
    · rename_i h
      simp only [Ch.okAt, Bool.and_eq_true] at h
      exact Or.inl h.1
    · exact Or.inr (Or.inr rfl)
theorem took_at (s : Src) : s.took.1.at_ = s.next := by
  unfold Src.took; repeat' split
  all_goals rfl
theorem took_ok (h : s.Ok) : s.took.1.Ok ∧ s.took.1.rest.size ≤ s.rest.size := by
  unfold Src.took Src.Ok at *
  split
  · exact ⟨h, Nat.le_refl _⟩
  · split
    · have := Ch.decode_width s.rest 0 (by omega)
      simp only [ByteArray.size_extract]
      omega
    · exact ⟨h, Nat.le_refl _⟩
theorem took_now (s : Src) : s.took.1.now = s.now := by
  unfold Src.took; repeat' split
  all_goals rfl
theorem reads_more (h : s.more = true) : reads s.bare pt st = ⟨s.bare, pt, st, .more⟩ := by
  unfold reads mrun; rw [more_bare, if_pos h]
theorem reads_step {n : Nat} (hl : Lim n pt st) (h : s.more = false) :
    reads s.bare pt st = match (stepPart pt s.next st s.took.2).res with
      | .go pt' => reads s.took.1.bare pt' (stepPart pt s.next st s.took.2).st
      | .stop => ⟨s.took.1.bare, pt, (stepPart pt s.next st s.took.2).st, .over⟩
      | .fail no q => ⟨s.took.1.bare, pt, (stepPart pt s.next st s.took.2).st, .fail no q⟩ := by
  have ha : s.took.1.bare.at_ = s.next := took_at s
  conv => lhs; unfold reads
  simp only [mrun, more_bare, h, Bool.false_eq_true, if_false, took_bare, ha]
  generalize he : (stepPart pt s.next st s.took.2).res = r
  cases r with
  | go pt' =>
    have hk := took_less hl.sound hl.quote he
    exact mrun_more (s.took.1.rest.size + 1) s.rest.size (n + 1) s.took.1.bare _ _ (hl.step he) (Nat.lt_succ_self _) (by omega)
  | stop => rfl
  | fail no q => rfl
end Go.Proofs.YtgognegkcplcpaaGreatDoor

namespace Go.Proofs.YtgognegkcplcpaaGreatDoor
open Go.ChangeShapes Go.WideShapes Go.ChangeAt Go.RowKit Go.Lib
theorem own : ownKnob Tryz.prog.godebug = none := by kernel_rfl
theorem gTab : Tryz.prog.globalNamed "prune/chars.named" = some 2 := by kernel_rfl
theorem gTabType : (Tryz.prog.globals[2]?).map (·.type) = some 158 := by kernel_rfl
theorem cells158 : Tryz.prog.cellsOf 158 = 10 := by kernel_rfl
theorem cells157 : Tryz.prog.cellsOf 157 = 2 := by kernel_rfl
theorem cells9 : Tryz.prog.cellsOf 9 = 1 := by kernel_rfl
theorem cells21 : Tryz.prog.cellsOf 21 = 1 := by kernel_rfl
theorem gMore : Tryz.prog.globalNamed "prune/token.errMore" = some 0 := by kernel_rfl
theorem gMoreType : (Tryz.prog.globals[0]?).map (·.type) = some 79 := by kernel_rfl
theorem gEt : Tryz.prog.globalNamed "errors.errorType" = some 1 := by kernel_rfl
theorem rt140 : (Tryz.prog.cutTypes.find? (·.1 == "internal/reflectlite.rtype")).map (·.2) = some 141 := by kernel_rfl
theorem typesSize : Tryz.prog.types.size = 200 := by kernel_rfl
theorem oneRow : ((List.range 200).filter fun t => Tryz.prog.rowNamed t [101, 114, 114, 111, 114]) = [79] := by kernel_rfl
theorem star : "*" ++ "errors.errorString" = "*errors.errorString" := by decide
theorem row170 (u : TypeId) (h : Tryz.prog.typeName? 3 u = some "*errors.errorString") : u = 170 :=
  typeName_ptr_named (nm := "errors.errorString") (by rw [star]; kernel_rfl) (by kernel_rfl) (by decide) u (by rw [star]; exact h)
theorem row_of {H : Type} {enc : TypeId × Value → H} {w : World} {base : Nat} {sp : Nat → Bool} {held : Bool} {fuel : Nat} {c0 c1 : Value} {bs : List UInt8} {z : Int} {p : List MemPlace}
    (h : DataW.trod enc Tryz.prog w base sp held fuel 157 [c0, c1] = some (.agg [.lit (.string bs), .lit (.int .i32 z)], p)) : c0 = .string ⟨bs.toArray⟩ ∧ c1 = .int .i32 z := by
  obtain ⟨y0, y1, n, hx, _, h0, h1⟩ := trod_struct2 Tryz.underlying157 h
  simp only [cells9, cells21, List.drop_zero, List.take_succ_cons, List.take_zero, List.drop_succ_cons] at h0 h1
  obtain ⟨s, e0, d0, _⟩ := DataW.trod_string Tryz.underlying9 h0
  obtain ⟨m, e1, d1, _⟩ := DataW.trod_int Tryz.underlying21 h1
  subst d0 d1
  simp only [Prod.mk.injEq, DataW.agg.injEq, List.cons.injEq, DataW.lit.injEq, Lit.string.injEq, Lit.int.injEq, and_true, true_and] at hx
  obtain ⟨⟨hb, hm⟩, _⟩ := hx
  simp only [List.cons.injEq, and_true] at e0 e1
  refine ⟨?_, by rw [e1, hm]⟩
  rw [e0, hb]
theorem five {α : Type} {xs : List α} (h : xs.length = 5) : ∃ a b c d e, xs = [a, b, c, d, e] := by
  match xs, h with
  | [a, b, c, d, e], _ => exact ⟨a, b, c, d, e, rfl⟩
theorem ten {α : Type} {xs : List α} (h : xs.length = 10) : ∃ a b c d e f g i j k, xs = [a, b, c, d, e, f, g, i, j, k] := by
  match xs, h with
  | [a, b, c, d, e, f, g, i, j, k], _ => exact ⟨a, b, c, d, e, f, g, i, j, k, rfl⟩
theorem tab_of_reads {W : World} (h : VarReads Tryz.prog W "prune/chars.named" Rows.laid_prune_chars_named) : Tab W := by
  obtain ⟨g', t', cs, fuel, p, hg', ht', hvar, hd⟩ := h
  obtain rfl := Option.some.inj (gTab.symm.trans hg')
  obtain rfl := Option.some.inj (gTabType.symm.trans ht')
  obtain ⟨xs, m, _, hx, hl, hxl, hi⟩ := DataW.trod_array Tryz.underlying158 hd
  rw [cells158] at hl
  rw [cells157] at hi
  obtain ⟨x0, x1, x2, x3, x4, rfl⟩ := five hxl
  obtain ⟨c0, c1, c2, c3, c4, c5, c6, c7, c8, c9, hc⟩ := ten hl
  rw [hc] at hi
  simp only [Rows.laid_prune_chars_named, Prod.mk.injEq, DataW.agg.injEq, List.map_cons, List.map_nil, List.cons.injEq, and_true] at hx
  obtain ⟨⟨k0, k1, k2, k3, k4⟩, _⟩ := hx
  have i0 := hi 0 (by omega)
  have i1 := hi 1 (by omega)
  have i2 := hi 2 (by omega)
  have i3 := hi 3 (by omega)
  have i4 := hi 4 (by omega)
  obtain ⟨a0, q0⟩ := x0
  obtain ⟨a1, q1⟩ := x1
  obtain ⟨a2, q2⟩ := x2
  obtain ⟨a3, q3⟩ := x3
  obtain ⟨a4, q4⟩ := x4
  simp only at k0 k1 k2 k3 k4
  subst k0 k1 k2 k3 k4
  obtain ⟨rfl, rfl⟩ := row_of i0
  obtain ⟨rfl, rfl⟩ := row_of i1
  obtain ⟨rfl, rfl⟩ := row_of i2
  obtain ⟨rfl, rfl⟩ := row_of i3
  obtain ⟨rfl, rfl⟩ := row_of i4
  have hcs : cs = tab := by
    apply Array.toList_inj.1
    rw [hc]; rfl
  subst hcs
  simp only [World.var?, gTab, Option.bind_some] at hvar
  split at hvar
  · rename_i c t fr hh
    simp only [Option.some.injEq] at hvar
    subst hvar
    exact ⟨t, fr, hh⟩
  · cases hvar
theorem laid_tail {P : Program} {x : String × DataW Unit} {r : List (String × DataW Unit)} {W : World} (h : laidMet P (x :: r) W) : laidMet P r W := by
  obtain ⟨n, d⟩ := x
  obtain ⟨ps, ⟨g, t, cs, f, p, q, _, _, _, _, hq, e⟩, hnd, hrows⟩ := h
  subst e
  exact ⟨q, hq, (List.nodup_append.1 hnd).2.1, fun b off hm => hrows b off (List.mem_append_right _ hm)⟩
theorem u8extra : U8Extra Tryz.prog Tryz.lays197_ren := ⟨by kernel_rfl, by kernel_rfl, by kernel_rfl, by kernel_rfl, by kernel_rfl, by kernel_rfl, by kernel_rfl⟩
theorem first_data : Rows.laid_unicode_utf8_first = firstData := by kernel_rfl
theorem accept_data : (Rows.laid_unicode_utf8_acceptRanges : DataW Unit) = acceptData := by kernel_rfl
def laid4 : List (String × DataW Unit) := [("unicode/utf8.acceptRanges", Rows.laid_unicode_utf8_acceptRanges), ("prune/chars.named", Rows.laid_prune_chars_named), ("prune/token.errMore", Rows.laid_prune_token_errMore), ("unicode/utf8.first", Rows.laid_unicode_utf8_first)]
def laid5 : List (String × DataW Unit) := [("unicode/utf8.acceptRanges", Rows.laid_unicode_utf8_acceptRanges), ("errors.errorType", Rows.laid_errors_errorType), ("prune/chars.named", Rows.laid_prune_chars_named), ("prune/token.errMore", Rows.laid_prune_token_errMore), ("unicode/utf8.first", Rows.laid_unicode_utf8_first)]
theorem gl_of_laid {W : World} (h : laidMetH Tryz.prog laid5 W) : ∃ a, Gl W a := by
  have h' : laidMet Tryz.prog laid4 W ∧ handlesMet Tryz.prog [("errors.errorType", Rows.laid_errors_errorType)] W := h
  obtain ⟨hd, hh⟩ := h'
  have r1 : VarReads Tryz.prog W "unicode/utf8.acceptRanges" Rows.laid_unicode_utf8_acceptRanges := Go.Lib.laidMet.reads hd (.head _)
  have r2 : VarReads Tryz.prog W "prune/chars.named" Rows.laid_prune_chars_named := Go.Lib.laidMet.reads hd (.tail _ (.head _))
  have r4 : VarReads Tryz.prog W "unicode/utf8.first" Rows.laid_unicode_utf8_first := Go.Lib.laidMet.reads hd (.tail _ (.tail _ (.tail _ (.head _))))
  rw [accept_data] at r1
  rw [first_data] at r4
  have h3 := laid_tail (laid_tail hd)
  obtain ⟨a, s, hv, _⟩ := laid_sentinel h3 gMore gMoreType Tryz.underlying79 row170 Tryz.underlying170 Tryz.underlying188 rfl rfl Tryz.underlying9 (by kernel_rfl) cells9
  have hm : W.cell? ⟨0, 0, none⟩ = some (.iface 170 (.pointer (some a))) := by simpa using World.var?_cell gMore hv 0
  obtain ⟨name, u, ty, e1, e2, e3, e4, e5⟩ := hh _ (List.mem_singleton.2 rfl)
  have en : name = [101, 114, 114, 111, 114] := (Option.some.inj e1).symm
  subst en
  obtain rfl := Option.some.inj (rt140.symm.trans e2)
  have hmm : ty ∈ (List.range 200).filter fun t => Tryz.prog.rowNamed t [101, 114, 114, 111, 114] := List.mem_filter.2 ⟨List.mem_range.2 (by rw [← typesSize]; exact e3), e4⟩
  rw [oneRow] at hmm
  obtain rfl := List.mem_singleton.1 hmm
  have ht : typeHandle Tryz.prog 79 = .pointer (some ⟨5, 79, none⟩) := by kernel_rfl
  rw [ht] at e5
  exact ⟨a, utf8Tabs_of_reads { Tryz.lays197 with } u8extra r4 r1, tab_of_reads r2, hm, by simpa using World.var?_cell gEt e5 0⟩
def moreS : ByteArray := ⟨#[109, 111, 114, 101, 32, 98, 121, 116, 101, 115, 32, 97, 114, 101, 32, 110, 101, 101, 100, 101, 100]⟩
def firstCs : Array Value := ((List.range 256).map fun c => Value.int .u8 (firstT c : Int)).toArray
def acceptCs : Array Value := ((List.range 16).flatMap fun i => [Value.int .u8 (accLo i : Int), Value.int .u8 (accHi i : Int)]).toArray
noncomputable def low : Nat := (World.holding Tryz.prog default ⟨#[], #[], []⟩).heap.size
noncomputable def laidWorld (os : Os) : World :=
  let w0 := World.holding Tryz.prog os ⟨#[.cells #[.string moreS] 188], #[], []⟩
  { w0 with heap := ((((w0.heap.modify 0 fun
      | .cells _ t frozen => .cells #[.iface 170 (.pointer (some ⟨low, 0, none⟩))] t frozen
      | o => o).modify 1 fun
      | .cells _ t frozen => .cells #[.iface 141 (.agg #[.pointer (some ⟨5, 79, none⟩)])] t frozen
      | o => o).modify 2 fun
      | .cells _ t frozen => .cells tab t frozen
      | o => o).modify 3 fun
      | .cells _ t frozen => .cells firstCs t frozen
      | o => o).modify 4 fun
      | .cells _ t frozen => .cells acceptCs t frozen
      | o => o }
end Go.Proofs.YtgognegkcplcpaaGreatDoor

namespace Go.Proofs.YtgognegkcplcpaaGreatDoor
open Go.RowKit Go.Maps Go.Lib

structure Sc where
  i : Nat
  l : List Tok
  more : List UInt8
  frm : Int
  err : Int
  at_ : Int
def scCells (s : ByteArray) (lv : Value) (x : Sc) : Array Value := #[.string s, .int .i64 x.i, lv, strV x.more, .int .i64 x.frm, .int .i64 x.err, .int .i64 x.at_]
def SAt (X : Nat) (w : World) (s : ByteArray) (lv : Value) (x : Sc) : Prop := w.heap[X]? = some (.cells (scCells s lv x) 40 (0, 0))
structure But (X : Nat) (w w' : World) : Prop where
  os : w'.os = w.os
  tape : w'.tape = w.tape
  output : w'.output = w.output
  size : w.heap.size ≤ w'.heap.size
  block : ∀ k, k < w.heap.size → k ≠ X → w'.heap[k]? = w.heap[k]?
theorem But.refl (X : Nat) (w : World) : But X w w := ⟨rfl, rfl, rfl, Nat.le_refl _, fun _ _ _ => rfl⟩
theorem But.trans {X : Nat} {a b c : World} (h : But X a b) (k : But X b c) : But X a c :=
  ⟨k.os.trans h.os, k.tape.trans h.tape, k.output.trans h.output, Nat.le_trans h.size k.size, fun i hi hX => (k.block i (Nat.lt_of_lt_of_le hi h.size) hX).trans (h.block i hi hX)⟩
def SE (X : Nat) (w : World) (s : ByteArray) (lv : Value) (x : Sc) (w' : World) : Prop := SAt X w' s lv x ∧ But X w w'
variable {X : Nat} {w w' w'' : World} {s : ByteArray} {lv : Value} {x x' : Sc}
theorem SE.refl (h : SAt X w s lv x) : SE X w s lv x w := ⟨h, But.refl _ _⟩
theorem SE.on (h : SE X w s lv x w') (k : SE X w' s lv x' w'') : SE X w s lv x' w'' := ⟨k.1, h.2.trans k.2⟩
theorem SE.below (h : SE X w s lv x w') (hX : X < w.heap.size) (b : Below w'.heap.size w' w'') : SE X w s lv x w'' :=
  ⟨(b.block X (Nat.lt_of_lt_of_le hX h.2.size)).trans h.1, h.2.trans ⟨b.os, b.tape, b.output, b.size, fun k hk _ => b.block k hk⟩⟩
theorem SE.set (h : SE X w s lv x w') (i : Nat) (v : Value) (hc : (scCells s lv x).setIfInBounds i v = scCells s lv x') : SE X w s lv x' (w'.setCell ⟨X, i, none⟩ v) := by
  refine ⟨?_, h.2.trans ⟨rfl, rfl, rfl, by simp [World.setCell], fun k _ hX => Below.heap_setCell _ _ _ _ hX⟩⟩
  have := set_of (i := i) h.1 v
  rw [hc] at this
  exact this
theorem SAt.cell (h : SAt X w s lv x) (i : Nat) {v : Value} (hi : (scCells s lv x)[i]? = some v) : w.cell? ⟨X, i, none⟩ = some v := cell_of h hi
theorem SAt.free (h : SAt X w s lv x) (i : Nat) : w.frozen? ⟨X, i, none⟩ = false := free_of h
theorem SAt.lt (h : SAt X w s lv x) : X < w.heap.size := (Array.getElem?_eq_some_iff.1 h).1
def Sc.fail (x : Sc) (e a : Int) : Sc := if x.err = 0 then { x with err := e, at_ := a } else x
theorem fail_sc (h : SAt X w s lv x) (e a : Int) : Calls Tryz.prog 49 #[.pointer (some ⟨X, 0, none⟩), .int .i64 e, .int .i64 a] w fun en w' => en = .returned (.tuple #[]) ∧ SE X w s lv (x.fail e a) w' := by
  have c5 : w.cell? ⟨X, 5, none⟩ = some (.int .i64 x.err) := h.cell 5 rfl
  have c6 : w.cell? ⟨X, 6, none⟩ = some (.int .i64 x.at_) := h.cell 6 rfl
  have f5 := h.free 5
  have f6 := h.free 6
  unfold Sc.fail
  by_cases h0 : x.err = 0
  · have e0 : (x.err == 0) = true := by simpa using h0
    rw [if_pos h0]
    have H := hide (((SE.refl h).set (x' := { x with err := e }) 5 (.int .i64 e) rfl).set (x' := { x with err := e, at_ := a }) 6 (.int .i64 a) rfl)
    clear h h0
    go_enter Tryz.func49, Tryz.ntmps49
    go_wp2
    go_end0
    exact ⟨rfl, H.out⟩
  · have e0 : (x.err == 0) = false := by simpa using h0
    rw [if_neg h0]
    have H := hide (SE.refl h)
    clear h h0
    go_enter Tryz.func49, Tryz.ntmps49
    go_wp2
    go_end0
    exact ⟨rfl, H.out⟩
def Sc.wrong (x : Sc) (s : ByteArray) : Sc := if x.i < s.size then (if (Ch.at2 s x.i).2 = 0 then x.fail 2 x.i else x.fail 3 x.i) else x.fail 3 x.i
end Go.Proofs.YtgognegkcplcpaaGreatDoor

namespace Go.Proofs.YtgognegkcplcpaaGreatDoor
open Go.RowKit Go.Maps Go.Lib
variable {X : Nat} {w w' w'' : World} {s : ByteArray} {lv : Value} {x x' : Sc}
theorem SE.drewN (h : SE X w s lv x w') (n : Nat) : SE X w s lv x (w'.drewN n) := ⟨h.1, ⟨h.2.os, h.2.tape, h.2.output, h.2.size, h.2.block⟩⟩
theorem SAt.drewN (h : SAt X w s lv x) (n : Nat) : SAt X (w.drewN n) s lv x := h
set_option maxHeartbeats 2000000 in
theorem wrong_sc (h : SAt X w s lv x) (hs : s.size ≤ 1125899906842624) : Calls Tryz.prog 47 #[.pointer (some ⟨X, 0, none⟩)] w fun en w' => en = .returned (.tuple #[]) ∧ SE X w s lv (x.wrong s) w' := by
  have c0 : w.cell? ⟨X, 0, none⟩ = some (.string s) := h.cell 0 rfl
  have c1 : w.cell? ⟨X, 1, none⟩ = some (.int .i64 x.i) := h.cell 1 rfl
  unfold Sc.wrong
  by_cases hi : x.i < s.size
  · have hat := fun w => At_any s x.i w hs (by omega)
    rw [if_pos hi]
    by_cases hz : (Ch.at2 s x.i).2 = 0
    · have e0 : ((Ch.at2 s x.i).2 == 0) = true := by simpa using hz
      rw [if_pos hz]
      have hf := fun W (b : SE X w s lv x W) => fail_sc b.1 2 x.i
      have HF := hide hf
      have H := hide (SE.refl h)
      clear h hz hf
      generalize (Ch.at2 s x.i).1 = a1 at *
      generalize (Ch.at2 s x.i).2 = a2 at *
      go_enter Tryz.func47, Tryz.ntmps47
      go_wp2_with fail
      go_quiet (fail)
      have d0 : (w.drewN nq).cell? ⟨X, 0, none⟩ = some (.string s) := c0
      have d1 : (w.drewN nq).cell? ⟨X, 1, none⟩ = some (.int .i64 x.i) := c1
      go_wp2_with fail
      go_region_held3 (fun W => W.cell? ⟨X, 0, none⟩ = some (.string s) ∧ W.cell? ⟨X, 1, none⟩ = some (.int .i64 x.i))
        (first | exact ⟨d0, d1⟩)
        (first | (go_at_call 50; refine (hat _).mono ?_; rintro e w3 ⟨rfl, hw3⟩; have hw4 := hw3.symm; clear hw3; subst hw4))
      all_goals
        go_wp2_with fail
        refine (HF.out _ ((H.out.drewN nq).drewN 1)).mono ?_
        rintro e w3 ⟨rfl, r3⟩
        go_wp2
        first | go_end0 | refine bodyPost_ret (results_none rfl _ _ _) rfl ?_
        exact ⟨rfl, ((H.out.drewN nq).drewN 1).on r3⟩
    · have e0 : ((Ch.at2 s x.i).2 == 0) = false := by simpa using hz
      rw [if_neg hz]
      have hf := fun W (b : SE X w s lv x W) => fail_sc b.1 3 x.i
      have HF := hide hf
      have H := hide (SE.refl h)
      clear h hz hf
      generalize (Ch.at2 s x.i).1 = a1 at *
      generalize (Ch.at2 s x.i).2 = a2 at *
      go_enter Tryz.func47, Tryz.ntmps47
      go_wp2_with fail
      go_quiet (fail)
      have d0 : (w.drewN nq).cell? ⟨X, 0, none⟩ = some (.string s) := c0
      have d1 : (w.drewN nq).cell? ⟨X, 1, none⟩ = some (.int .i64 x.i) := c1
      go_wp2_with fail
      go_region_held3 (fun W => W.cell? ⟨X, 0, none⟩ = some (.string s) ∧ W.cell? ⟨X, 1, none⟩ = some (.int .i64 x.i))
        (first | exact ⟨d0, d1⟩)
        (first | (go_at_call 50; refine (hat _).mono ?_; rintro e w3 ⟨rfl, hw3⟩; have hw4 := hw3.symm; clear hw3; subst hw4))
      all_goals
        go_wp2_with fail
        refine (HF.out _ ((H.out.drewN nq).drewN 1)).mono ?_
        rintro e w3 ⟨rfl, r3⟩
        go_wp2
        first | go_end0 | refine bodyPost_ret (results_none rfl _ _ _) rfl ?_
        exact ⟨rfl, ((H.out.drewN nq).drewN 1).on r3⟩
  · rw [if_neg hi]
    have hf := fun W (b : SE X w s lv x W) => fail_sc b.1 3 x.i
    have HF := hide hf
    have H := hide (SE.refl h)
    clear h hf
    go_enter Tryz.func47, Tryz.ntmps47
    go_wp2_with fail
    go_quiet (fail)
    go_wp2_with fail
    refine (HF.out _ (H.out.drewN _)).mono ?_
    rintro e w3 ⟨rfl, r3⟩
    go_wp2
    go_end0
    exact ⟨rfl, (H.out.drewN _).on r3⟩
def Sc.is (x : Sc) (s : ByteArray) (c : Nat) : Bool := x.err == 0 && (decide (x.i < s.size) && (s.get! x.i).toNat == c)
set_option maxHeartbeats 2000000 in
theorem is_sc (h : SAt X w s lv x) (c : Nat) (hc : c < 256) : Calls Tryz.prog 40 #[.pointer (some ⟨X, 0, none⟩), .int .u8 c] w fun en w' => en = .returned (.bool (x.is s c)) ∧ Below w.heap.size w w' := by
  have c0 : w.cell? ⟨X, 0, none⟩ = some (.string s) := h.cell 0 rfl
  have c1 : w.cell? ⟨X, 1, none⟩ = some (.int .i64 x.i) := h.cell 1 rfl
  have c5 : w.cell? ⟨X, 5, none⟩ = some (.int .i64 x.err) := h.cell 5 rfl
  unfold Sc.is
  clear h
  by_cases h0 : x.err = 0
  · have e0 : (x.err == 0) = true := by simpa using h0
    by_cases hi : x.i < s.size
    · have hx : (decide (x.i < s.size)) = true := by simpa using hi
      rw [e0, hx, Bool.true_and, Bool.true_and]
      clear h0
      go_enter Tryz.func40, Tryz.ntmps40
      go_wp2_with fail
      go_quiet (fail)
      go_wp2
      go_ret
      refine ⟨?_, below_drewN (Below.refl _ _) _⟩
      show Ending.returned (.bool ((s[x.i].toNat : Int) == (c : Int))) = _
      have e : s[x.i] = s.get! x.i := (Utf8W.get!_of_lt s x.i hi).symm
      have e2 : ((s[x.i].toNat : Int) == (c : Int)) = ((s.get! x.i).toNat == c) := by rw [e, Bool.eq_iff_iff]; simp only [beq_iff_eq]; omega
      rw [e2]
    · have hx : (decide (x.i < s.size)) = false := by simpa using hi
      rw [e0, hx, Bool.true_and, Bool.false_and]
      clear h0
      go_enter Tryz.func40, Tryz.ntmps40
      go_wp2_with fail
      go_quiet (fail)
      go_wp2
      go_ret
      exact ⟨rfl, below_drewN (Below.refl _ _) _⟩
  · have e0 : (x.err == 0) = false := by simpa using h0
    rw [e0, Bool.false_and]
    clear h0
    go_enter Tryz.func40, Tryz.ntmps40
    go_wp2_with fail
    go_quiet (fail)
    go_wp2
    go_ret
    exact ⟨rfl, below_drewN (Below.refl _ _) _⟩
end Go.Proofs.YtgognegkcplcpaaGreatDoor

namespace Go.Proofs.YtgognegkcplcpaaGreatDoor
open Go.RowKit Go.Maps Go.Lib
variable {X : Nat} {w w' w'' wr : World} {s t : ByteArray} {lv : Value} {x x' : Sc}
def Sc.mustL (s : ByteArray) : List UInt8 → Sc → Sc
  | [], x => x
  | c :: l, x => if x.err = 0 then (if x.is s c.toNat = true then Sc.mustL s l { x with i := x.i + 1 } else Sc.mustL s l (x.wrong s)) else x
theorem mustL_err (s : ByteArray) (l : List UInt8) (h : x.err ≠ 0) : Sc.mustL s l x = x := by
  cases l with
  | nil => rfl
  | cons c l => simp [Sc.mustL, h]
theorem SE.fromBelow (h : SAt X w s lv x) (b : Below w.heap.size w w') : SE X w s lv x w' := (SE.refl h).below h.lt b
def drp (t : ByteArray) (k : Nat) : List UInt8 := t.data.toList.drop k
theorem drp_cons (t : ByteArray) (k : Nat) (h : k < t.size) : drp t k = t.get! k :: drp t (k + 1) := by
  unfold drp
  have h' : k < t.data.toList.length := by simpa using h
  rw [List.drop_eq_getElem_cons h']
  congr 1
  show t.data.toList[k] = t.data[k]!
  rw [getElem!_pos t.data k h, Array.getElem_toList]
theorem drp_nil (t : ByteArray) (k : Nat) (h : ¬ k < t.size) : drp t k = [] := by
  unfold drp
  exact List.drop_eq_nil_of_le (by simpa using h)
theorem fail_i (x : Sc) (e a : Int) : (x.fail e a).i = x.i := by unfold Sc.fail; split <;> rfl
theorem wrong_i (x : Sc) (s : ByteArray) : (x.wrong s).i = x.i := by unfold Sc.wrong; repeat' split
                                                                     all_goals exact fail_i _ _ _
theorem is_lt {c : Nat} (h : x.is s c = true) : x.i < s.size := by
  simp [Sc.is] at h; exact h.2.1
set_option maxHeartbeats 4000000 in
set_option maxRecDepth 10000 in
theorem must_sc (h : SAt X w s lv x) (hs : s.size ≤ 1125899906842624) (hi : x.i ≤ s.size) (t : ByteArray) (ht : t.size ≤ 1125899906842624) : Calls Tryz.prog 41 #[.pointer (some ⟨X, 0, none⟩), .string t] w fun en w' => en = .returned (.tuple #[]) ∧ SE X w s lv (Sc.mustL s (drp t 0) x) w' := by
  have h0 : ∃ (k : Nat) (x' : Sc), (Value.int .i64 0) = .int .i64 k ∧ k ≤ t.size ∧ x'.i ≤ s.size ∧ SE X w s lv x' w ∧ Sc.mustL s (drp t k) x' = Sc.mustL s (drp t 0) x := ⟨0, x, rfl, Nat.zero_le _, hi, SE.refl h, rfl⟩
  generalize Sc.mustL s (drp t 0) x = y at *
  have H0 := hide h0
  clear h h0 hi
  go_enter Tryz.func41, Tryz.ntmps41
  go_wp2_with fail
  go_loopw [4] (fun iv wr => ∃ (k : Nat) (x' : Sc), iv = .int .i64 k ∧ k ≤ t.size ∧ x'.i ≤ s.size ∧ SE X w s lv x' wr ∧ Sc.mustL s (drp t k) x' = y) (fun iv _ => t.size - (RowKit.intOf iv).toNat)
  case atStart => exact H0.out
  case round =>
    obtain ⟨k, x', rfl, hk, hi', se, heq⟩ := hrel
    have c1 : wr.cell? ⟨X, 1, none⟩ = some (.int .i64 x'.i) := se.1.cell 1 rfl
    have c5 : wr.cell? ⟨X, 5, none⟩ = some (.int .i64 x'.err) := se.1.cell 5 rfl
    by_cases hlt : k < t.size
    · rw [drp_cons t k hlt] at heq
      by_cases he : x'.err = 0
      · have e0 : (x'.err == 0) = true := by simpa using he
        have heq0 := heq
        unfold Sc.mustL at heq0
        rw [if_pos he] at heq0
        clear heq
        have heq := heq0
        clear heq0
        have hcall := is_sc se.1 (t.get! k).toNat (UInt8.toNat_lt _)
        have hgt : t[k] = t.get! k := (Utf8W.get!_of_lt t k hlt).symm
        have hlt1 := se.1.lt
        cases hb : x'.is s (t.get! k).toNat
        · rw [hb] at heq hcall
          simp only [Bool.false_eq_true, if_false] at heq
          have SEH := hide se
          have HEQ := hide heq
          have hwr := fun W (b : Below wr.heap.size wr W) => wrong_sc (SE.fromBelow se.1 b).1 hs
          have HWR := hide hwr
          clear se heq hwr hb
          go_wp2_with (first | (go_at_call 40; refine hcall.mono ?_; rintro e w1 ⟨rfl, b1⟩) | (go_at_call 47; refine (HWR.out _ b1).mono ?_; rintro e w2 ⟨rfl, r2⟩))
          go_roundw
          case rel => exact ⟨k + 1, _, by simp, by omega, by rw [wrong_i]; exact hi', (SEH.out.on (SE.fromBelow SEH.out.1 b1)).on r2, HEQ.out⟩
          case measure => simp only [RowKit.intOf]; omega
        · have hil := is_lt hb
          rw [hb] at heq hcall
          simp only [if_true] at heq
          have SEH := hide se
          have HEQ := hide heq
          have hwr : IntKind.i64.wrap ((x'.i : Int) + 1) = (x'.i : Int) + 1 := by rw [IntKind.wrap_i64]; omega
          clear se heq hb
          go_wp2_with (first | (go_at_call 40; refine hcall.mono ?_; rintro e w1 ⟨rfl, b1⟩; have R1 := hide (SEH.out.on (SE.fromBelow SEH.out.1 b1)); have d1 : w1.cell? ⟨X, 1, none⟩ = some (.int .i64 x'.i) := R1.out.1.cell 1 rfl; have g1 := R1.out.1.free 1))
          go_roundw
          case rel => exact ⟨k + 1, { x' with i := x'.i + 1 }, by simp, by omega, by show x'.i + 1 ≤ s.size; omega, R1.out.set 1 _ rfl, HEQ.out⟩
          case measure => simp only [RowKit.intOf]; omega
      · have e0 : (x'.err == 0) = false := by simpa using he
        have hy : y = x' := by rw [← heq]; simp [Sc.mustL, he]
        subst hy
        have SEH := hide se
        clear se heq he
        go_wp2
        go_end0
        exact ⟨rfl, SEH.out⟩
    · rw [drp_nil t k hlt] at heq
      have hy : x' = y := heq
      subst hy
      have SEH := hide se
      clear se heq
      go_wp2
      go_end0
      exact ⟨rfl, SEH.out⟩
end Go.Proofs.YtgognegkcplcpaaGreatDoor

namespace Go.Proofs.YtgognegkcplcpaaGreatDoor
open Go.RowKit Go.Maps Go.Lib
variable {X : Nat} {w w' w'' wr : World} {s t : ByteArray} {lv : Value} {x x' : Sc}
def isBlank (c : Nat) : Bool := c == 32 || c == 9 || c == 10 || c == 13
theorem blankR_any (c : Nat) (hc : c < 256) (w : World) : Calls Tryz.prog 72 #[.int .u8 c] w fun e w' => e = .returned (.bool (isBlank c)) ∧ w' = w := by
  unfold isBlank
  by_cases h1 : c = 32
  · subst h1
    go_enter Tryz.func72, Tryz.ntmps72
    go_wp2
    go_ret
    exact ⟨rfl, rfl⟩
  by_cases h2 : c = 9
  · subst h2
    go_enter Tryz.func72, Tryz.ntmps72
    go_wp2
    go_ret
    exact ⟨rfl, rfl⟩
  by_cases h3 : c = 10
  · subst h3
    go_enter Tryz.func72, Tryz.ntmps72
    go_wp2
    go_ret
    exact ⟨rfl, rfl⟩
  by_cases h4 : c = 13
  · subst h4
    go_enter Tryz.func72, Tryz.ntmps72
    go_wp2
    go_ret
    exact ⟨rfl, rfl⟩
  · have e1 : ((c : Int) == 32) = false := by simp only [beq_eq_false_iff_ne, ne_eq]; omega
    have e2 : ((c : Int) == 9) = false := by simp only [beq_eq_false_iff_ne, ne_eq]; omega
    have e3 : ((c : Int) == 10) = false := by simp only [beq_eq_false_iff_ne, ne_eq]; omega
    have e4 : ((c : Int) == 13) = false := by simp only [beq_eq_false_iff_ne, ne_eq]; omega
    have e5 : (c == 32 || c == 9 || c == 10 || c == 13) = false := by simp [h1, h2, h3, h4]
    rw [e5]
    go_enter Tryz.func72, Tryz.ntmps72
    go_wp2
    go_ret
    exact ⟨rfl, rfl⟩
def skip (s : ByteArray) : Nat → Nat → Nat
  | 0, _ => 0
  | f + 1, i => if i < s.size ∧ isBlank (s.get! i).toNat = true then skip s f (i + 1) + 1 else 0
def Sc.skip (x : Sc) (s : ByteArray) : Nat := if x.err = 0 then Go.Proofs.YtgognegkcplcpaaGreatDoor.skip s (s.size + 1) x.i else 0
def Sc.blanks (x : Sc) (s : ByteArray) : Sc := { x with i := x.i + x.skip s }
set_option maxHeartbeats 4000000 in
set_option maxRecDepth 10000 in
theorem blanks_sc (h : SAt X w s lv x) (hs : s.size ≤ 1125899906842624) (hi : x.err = 0 → x.i ≤ s.size) : Calls Tryz.prog 44 #[.pointer (some ⟨X, 0, none⟩)] w fun en w' => en = .returned (.int .i64 (x.skip s)) ∧ SE X w s lv (x.blanks s) w' := by
  by_cases he : x.err = 0
  · have hi' := hi he
    have hsk : x.skip s = skip s (s.size + 1) x.i := by unfold Sc.skip; rw [if_pos he]
    unfold Sc.blanks
    rw [hsk]
    have h0 : ∃ (k f : Nat), (Value.int .i64 0) = .int .i64 k ∧ x.i + k ≤ s.size ∧ SE X w s lv { x with i := x.i + k } w ∧ k + skip s f (x.i + k) = skip s (s.size + 1) x.i ∧ s.size < x.i + k + f := ⟨0, s.size + 1, rfl, hi', SE.refl h, by simp, by omega⟩
    have H0 := hide h0
    have e0 : (x.err == 0) = true := by simpa using he
    have hbl := blankR_any
    clear h h0 hi hsk
    generalize hm : skip s (s.size + 1) x.i = m at *
    go_enter Tryz.func44, Tryz.ntmps44
    go_wp2_with fail
    go_loopw [3] (fun nv wr => ∃ (k f : Nat), nv = .int .i64 k ∧ x.i + k ≤ s.size ∧ SE X w s lv { x with i := x.i + k } wr ∧ k + skip s f (x.i + k) = m ∧ s.size < x.i + k + f) (fun nv _ => s.size + 1 - (RowKit.intOf nv).toNat)
    case atStart => exact H0.out
    case round =>
      obtain ⟨k, f, rfl, hk, se, heq, hf⟩ := hrel
      have c0 : wr.cell? ⟨X, 0, none⟩ = some (.string s) := se.1.cell 0 rfl
      have c1 : wr.cell? ⟨X, 1, none⟩ = some (.int .i64 ((x.i + k : Nat) : Int)) := se.1.cell 1 rfl
      have c5 : wr.cell? ⟨X, 5, none⟩ = some (.int .i64 x.err) := se.1.cell 5 rfl
      generalize hj : x.i + k = j at *
      obtain ⟨f, rfl⟩ : ∃ g, f = g + 1 := ⟨f - 1, by omega⟩
      unfold skip at heq
      by_cases hlt : j < s.size
      · have hgt : s[j] = s.get! j := (Utf8W.get!_of_lt s j hlt).symm
        cases hb : isBlank (s.get! j).toNat
        · rw [if_neg (by rw [hb]; simp)] at heq
          have hm' : m = k := by omega
          subst hm'
          have hcall := fun w => hbl (s.get! j).toNat (UInt8.toNat_lt _) w
          rw [hb] at hcall
          have SEH := hide se
          clear se heq hbl
          go_wp2_with fail
          go_quiet (first | (go_at_call 72; refine Calls.quiet_of_same (hcall _)))
          go_wp2
          go_ret
          refine ⟨rfl, ?_⟩
          rw [hj]
          exact SEH.out.drewN _
        · rw [if_pos ⟨hlt, hb⟩] at heq
          have hcall := fun w => hbl (s.get! j).toNat (UInt8.toNat_lt _) w
          rw [hb] at hcall
          have hwr : IntKind.i64.wrap ((j : Int) + 1) = (j : Int) + 1 := by rw [IntKind.wrap_i64]; omega
          have hwk : IntKind.i64.wrap ((k : Int) + 1) = (k : Int) + 1 := by rw [IntKind.wrap_i64]; omega
          have f1 := se.1.free 1
          have SEH := hide se
          have HEQ := hide heq
          clear se heq hbl
          go_wp2_with fail
          go_quiet (first | (go_at_call 72; refine Calls.quiet_of_same (hcall _)))
          go_wp2
          go_roundw
          case rel =>
            have e1 : x.i + (k + 1) = j + 1 := by omega
            refine ⟨k + 1, f, by simp, by omega, ?_, by rw [e1]; have := HEQ.out; omega, by omega⟩
            rw [e1]
            have := (SEH.out.drewN nq).set (x' := { x with i := j + 1 }) 1 (.int .i64 ((j + 1 : Nat) : Int)) rfl
            simpa using this
          case measure => simp only [RowKit.intOf]; omega
      · rw [if_neg (by simp [hlt])] at heq
        have hm' : m = k := by omega
        subst hm'
        have SEH := hide se
        clear se heq hbl
        go_wp2_with fail
        go_quiet (fail)
        go_wp2
        go_ret
        refine ⟨rfl, ?_⟩
        rw [hj]
        exact SEH.out.drewN _
  · have hsk : x.skip s = 0 := by unfold Sc.skip; rw [if_neg he]
    unfold Sc.blanks
    rw [hsk]
    have e0 : (x.err == 0) = false := by simpa using he
    have c5 : w.cell? ⟨X, 5, none⟩ = some (.int .i64 x.err) := h.cell 5 rfl
    have H := hide (SE.refl h)
    clear h hi hsk he
    go_enter Tryz.func44, Tryz.ntmps44
    go_wp2_with fail
    refine wp_loop_rounds 1 ?_
    rw [rounds_succ]
    go_wp2_with fail
    go_quiet (fail)
    go_wp2
    go_ret
    exact ⟨rfl, H.out.drewN _⟩
end Go.Proofs.YtgognegkcplcpaaGreatDoor

namespace Go.Proofs.YtgognegkcplcpaaGreatDoor
open Go.RowKit Go.Maps Go.Lib
variable {X : Nat} {w w' w'' wr : World} {s t : ByteArray} {lv : Value} {x x' : Sc}
def Sc.nlen (x : Sc) (s : ByteArray) : Nat := Ch.name (s.extract x.i s.size)
def Sc.name (x : Sc) (s : ByteArray) : Sc × ByteArray :=
  if x.err = 0 then (if x.nlen s = 0 then (x.wrong s, ⟨#[]⟩) else ({ x with i := x.i + x.nlen s }, s.extract x.i (x.i + x.nlen s))) else (x, ⟨#[]⟩)
set_option maxHeartbeats 4000000 in
set_option maxRecDepth 10000 in
theorem name_sc (h : SAt X w s lv x) (hs : s.size ≤ 1125899906842624) (hi : x.err = 0 → x.i ≤ s.size) : Calls Tryz.prog 43 #[.pointer (some ⟨X, 0, none⟩)] w fun en w' => en = .returned (.string (x.name s).2) ∧ SE X w s lv (x.name s).1 w' := by
  have c0 : w.cell? ⟨X, 0, none⟩ = some (.string s) := h.cell 0 rfl
  have c1 : w.cell? ⟨X, 1, none⟩ = some (.int .i64 x.i) := h.cell 1 rfl
  have c5 : w.cell? ⟨X, 5, none⟩ = some (.int .i64 x.err) := h.cell 5 rfl
  have f1 := h.free 1
  unfold Sc.name
  by_cases he : x.err = 0
  · have hi' := hi he
    rw [if_pos he]
    have e0 : (x.err != 0) = false := by simpa using he
    have hnm := fun w => nameR_any (s.extract x.i s.size) w (by simp; omega)
    have hle : x.nlen s ≤ s.size - x.i := by
      have : Ch.name (s.extract x.i s.size) ≤ (s.extract x.i s.size).size := Ch.nameFrom_le _ _ 0 (Nat.zero_le _)
      unfold Sc.nlen
      simp at this
      omega
    have hd : Ch.name (s.extract x.i s.size) = x.nlen s := rfl
    rw [hd] at hnm
    clear hi
    by_cases hn : x.nlen s = 0
    · rw [if_pos hn]
      rw [hn] at hnm
      have hwr := fun W (b : SE X w s lv x W) => wrong_sc b.1 hs
      have H := hide (SE.refl h)
      have HW := hide hwr
      clear h hwr hd hle hn
      go_enter Tryz.func43, Tryz.ntmps43
      go_wp2_with fail
      go_quiet (first | (go_at_call 71; refine Calls.quiet_of_same (hnm _)))
      go_wp2_with fail
      refine (HW.out _ (H.out.drewN _)).mono ?_
      rintro e w3 ⟨rfl, r3⟩
      go_wp2
      go_ret
      exact ⟨rfl, (H.out.drewN _).on r3⟩
    · rw [if_neg hn]
      have e1 : ((x.nlen s : Int) == 0) = false := by simp only [beq_eq_false_iff_ne, ne_eq]; omega
      generalize x.nlen s = n at *
      have hwr : IntKind.i64.wrap ((x.i : Int) + n) = (x.i : Int) + n := by rw [IntKind.wrap_i64]; omega
      have H := hide (SE.refl h)
      clear h hd
      go_enter Tryz.func43, Tryz.ntmps43
      go_wp2_with fail
      go_quiet (first | (go_at_call 71; refine Calls.quiet_of_same (hnm _)))
      have R8 := hide ((H.out.drewN nq).set (x' := { x with i := x.i + n }) 1 (.int .i64 ((x.i : Int) + n)) (by show _ = scCells s lv { x with i := x.i + n }; simp [scCells]))
      have d0 : ((w.drewN nq).setCell ⟨X, 1, none⟩ (.int .i64 ((x.i : Int) + n))).cell? ⟨X, 0, none⟩ = some (.string s) := R8.out.1.cell 0 rfl
      have d1 : ((w.drewN nq).setCell ⟨X, 1, none⟩ (.int .i64 ((x.i : Int) + n))).cell? ⟨X, 1, none⟩ = some (.int .i64 ((x.i : Int) + n)) := by
        have h9 : ((w.drewN nq).setCell ⟨X, 1, none⟩ (.int .i64 ((x.i : Int) + n))).cell? ⟨X, 1, none⟩ = some (.int .i64 ((x.i + n : Nat) : Int)) := R8.out.1.cell 1 rfl
        rw [Int.natCast_add] at h9
        exact h9
      go_wp2_with fail
      go_quiet (fail)
      go_wp2
      go_ret
      exact ⟨rfl, R8.out.drewN _⟩
  · rw [if_neg he]
    have e0 : (x.err != 0) = true := by simpa using he
    have H := hide (SE.refl h)
    clear h hi
    go_enter Tryz.func43, Tryz.ntmps43
    go_wp2
    go_ret
    exact ⟨rfl, H.out⟩
end Go.Proofs.YtgognegkcplcpaaGreatDoor

namespace Go.Proofs.YtgognegkcplcpaaGreatDoor
open Go.RowKit Go.Maps Go.Lib
variable {X : Nat} {w w' w'' wr : World} {s t : ByteArray} {lv : Value} {x x' : Sc}
def Sc.char (x : Sc) (s : ByteArray) (bar : Nat) : Sc × ByteArray :=
  if x.i < s.size then
    if (s.get! x.i).toNat = 60 ∨ (s.get! x.i).toNat = bar then (x.wrong s, ⟨#[]⟩)
    else if (s.get! x.i).toNat = 38 then
      (if (refR s x.i).2 < 0 then (x.fail 4 x.i, ⟨#[]⟩) else ({ x with i := (refR s x.i).2.toNat }, ⟨(refR s x.i).1.toArray⟩))
    else if (Ch.at2 s x.i).2 = 0 then (x.fail 2 x.i, ⟨#[]⟩)
    else ({ x with i := x.i + (Ch.at2 s x.i).2.toNat }, s.extract x.i (x.i + (Ch.at2 s x.i).2.toNat))
  else (x.wrong s, ⟨#[]⟩)
set_option maxHeartbeats 4000000 in
set_option maxRecDepth 10000 in
theorem char_bar (h : SAt X w s lv x) (hs : s.size ≤ 1125899906842624) (bar : Nat) (hc : x.i < s.size → (s.get! x.i).toNat = 60 ∨ (s.get! x.i).toNat = bar) :
    Calls Tryz.prog 27 #[.pointer (some ⟨X, 0, none⟩), .int .u8 bar] w fun en w' => en = .returned (.string ⟨#[]⟩) ∧ SE X w s lv (x.wrong s) w' := by
  have c0 : w.cell? ⟨X, 0, none⟩ = some (.string s) := h.cell 0 rfl
  have c1 : w.cell? ⟨X, 1, none⟩ = some (.int .i64 x.i) := h.cell 1 rfl
  have hwr := fun W (b : SE X w s lv x W) => wrong_sc b.1 hs
  have H := hide (SE.refl h)
  have HW := hide hwr
  clear h hwr
  by_cases hi : x.i < s.size
  · have hgt : s[x.i] = s.get! x.i := (Utf8W.get!_of_lt s x.i hi).symm
    generalize (s.get! x.i) = g at *
    have hlt := UInt8.toNat_lt g
    have hge : ¬ s.size ≤ x.i := by omega
    by_cases h60 : g.toNat = 60
    · clear hc
      go_enter Tryz.func27, Tryz.ntmps27
      go_wp2_with fail
      go_quiet (fail)
      go_wp2_with fail
      refine (HW.out _ (H.out.drewN _)).mono ?_
      rintro e w3 ⟨rfl, r3⟩
      go_wp2
      go_ret
      exact ⟨rfl, (H.out.drewN _).on r3⟩
    · have hbar : g.toNat = bar := (hc hi).resolve_left h60
      have e1 : ((g.toNat : Int) == 60) = false := by simp only [beq_eq_false_iff_ne, ne_eq]; omega
      have e2 : ((g.toNat : Int) == (bar : Int)) = true := by simp only [beq_iff_eq]; omega
      clear hc hbar
      go_enter Tryz.func27, Tryz.ntmps27
      go_wp2_with fail
      go_quiet (fail)
      go_wp2_with fail
      refine (HW.out _ (H.out.drewN _)).mono ?_
      rintro e w3 ⟨rfl, r3⟩
      go_wp2
      go_ret
      exact ⟨rfl, (H.out.drewN _).on r3⟩
  · have hge : s.size ≤ x.i := by omega
    clear hc
    go_enter Tryz.func27, Tryz.ntmps27
    go_wp2_with fail
    go_quiet (fail)
    go_wp2_with fail
    refine (HW.out _ (H.out.drewN _)).mono ?_
    rintro e w3 ⟨rfl, r3⟩
    go_wp2
    go_ret
    exact ⟨rfl, (H.out.drewN _).on r3⟩
set_option maxHeartbeats 4000000 in
set_option maxRecDepth 10000 in
theorem char_one (h : SAt X w s lv x) (hs : s.size ≤ 1125899906842624) (bar : Nat) (hi : x.i < s.size) (h60 : (s.get! x.i).toNat ≠ 60) (hbar : (s.get! x.i).toNat ≠ bar) (h38 : (s.get! x.i).toNat ≠ 38) (hok : (Ch.at2 s x.i).2 ≠ 0) :
    Calls Tryz.prog 27 #[.pointer (some ⟨X, 0, none⟩), .int .u8 bar] w fun en w' => en = .returned (.string (s.extract x.i (x.i + (Ch.at2 s x.i).2.toNat))) ∧ SE X w s lv { x with i := x.i + (Ch.at2 s x.i).2.toNat } w' := by
  have c0 : w.cell? ⟨X, 0, none⟩ = some (.string s) := h.cell 0 rfl
  have c1 : w.cell? ⟨X, 1, none⟩ = some (.int .i64 x.i) := h.cell 1 rfl
  have f1 := h.free 1
  have H := hide (SE.refl h)
  have hat := fun w => At_any s x.i w hs (by omega)
  have hgt : s[x.i] = s.get! x.i := (Utf8W.get!_of_lt s x.i hi).symm
  have hge : ¬ s.size ≤ x.i := by omega
  have hn : ∃ n : Nat, (Ch.at2 s x.i).2 = n ∧ 0 < n ∧ x.i + n ≤ s.size := by
    unfold Ch.at2 at hok ⊢
    have hw := Ch.decode_width s x.i hi
    split
    · exact ⟨_, rfl, by omega, hw.1⟩
    · rename_i hh; rw [if_neg hh] at hok; exact absurd rfl hok
  obtain ⟨n, en, hn0, hnl⟩ := hn
  rw [en, Int.toNat_natCast]
  rw [en] at hat
  generalize (s.get! x.i) = g at *
  have e1 : ((g.toNat : Int) == 60) = false := by simp only [beq_eq_false_iff_ne, ne_eq]; omega
  have e2 : ((g.toNat : Int) == (bar : Int)) = false := by simp only [beq_eq_false_iff_ne, ne_eq]; omega
  have e3 : ((g.toNat : Int) == 38) = false := by simp only [beq_eq_false_iff_ne, ne_eq]; omega
  have e4 : ((n : Int) == 0) = false := by simp only [beq_eq_false_iff_ne, ne_eq]; omega
  have hwr : IntKind.i64.wrap ((x.i : Int) + n) = (x.i : Int) + n := by rw [IntKind.wrap_i64]; omega
  generalize (Ch.at2 s x.i).1 = a1 at *
  have R8 := hide (fun m => (H.out.drewN m).set (x' := { x with i := x.i + n }) 1 (.int .i64 ((x.i : Int) + n)) (by show _ = scCells s lv { x with i := x.i + n }; simp [scCells]))
  have d0 : ∀ m, ((w.drewN m).setCell ⟨X, 1, none⟩ (.int .i64 ((x.i : Int) + n))).cell? ⟨X, 0, none⟩ = some (.string s) := fun m => (R8.out m).1.cell 0 rfl
  have d1 : ∀ m, ((w.drewN m).setCell ⟨X, 1, none⟩ (.int .i64 ((x.i : Int) + n))).cell? ⟨X, 1, none⟩ = some (.int .i64 ((x.i : Int) + n)) := fun m => by
    have h9 : ((w.drewN m).setCell ⟨X, 1, none⟩ (.int .i64 ((x.i : Int) + n))).cell? ⟨X, 1, none⟩ = some (.int .i64 ((x.i + n : Nat) : Int)) := (R8.out m).1.cell 1 rfl
    rw [Int.natCast_add] at h9
    exact h9
  clear h hok en h60 hbar h38
  go_enter Tryz.func27, Tryz.ntmps27
  go_wp2_with fail
  go_quiet (fail)
  go_wp2_with fail
  go_quiet (fail)
  go_wp2_with fail
  go_region_held3 (fun W => W.cell? ⟨X, 0, none⟩ = some (.string s) ∧ W.cell? ⟨X, 1, none⟩ = some (.int .i64 x.i))
    (first | exact ⟨c0, c1⟩)
    (first | (go_at_call 50; refine (hat _).mono ?_; rintro e w3 ⟨rfl, hw3⟩; have hw4 := hw3.symm; clear hw3; subst hw4))
  all_goals
    go_wp2_with fail
    go_quiet (fail)
    go_wp2
    go_ret
    exact ⟨rfl, (R8.out _).drewN _⟩
end Go.Proofs.YtgognegkcplcpaaGreatDoor

namespace Go.Proofs.YtgognegkcplcpaaGreatDoor
open Go.RowKit Go.Maps Go.Lib
variable {X : Nat} {w w' w'' wr : World} {s t : ByteArray} {lv : Value} {x x' : Sc}
set_option maxHeartbeats 4000000 in
set_option maxRecDepth 10000 in
theorem char_bad (h : SAt X w s lv x) (hs : s.size ≤ 1125899906842624) (bar : Nat) (hi : x.i < s.size) (h60 : (s.get! x.i).toNat ≠ 60) (hbar : (s.get! x.i).toNat ≠ bar) (h38 : (s.get! x.i).toNat ≠ 38) (hok : (Ch.at2 s x.i).2 = 0) :
    Calls Tryz.prog 27 #[.pointer (some ⟨X, 0, none⟩), .int .u8 bar] w fun en w' => en = .returned (.string ⟨#[]⟩) ∧ SE X w s lv (x.fail 2 x.i) w' := by
  have c0 : w.cell? ⟨X, 0, none⟩ = some (.string s) := h.cell 0 rfl
  have c1 : w.cell? ⟨X, 1, none⟩ = some (.int .i64 x.i) := h.cell 1 rfl
  have hf := fun m => fail_sc (SAt.drewN h m) 2 x.i
  have H := hide (SE.refl h)
  have hat := fun w => At_any s x.i w hs (by omega)
  have hgt : s[x.i] = s.get! x.i := (Utf8W.get!_of_lt s x.i hi).symm
  have hge : ¬ s.size ≤ x.i := by omega
  rw [hok] at hat
  generalize (s.get! x.i) = g at *
  have e1 : ((g.toNat : Int) == 60) = false := by simp only [beq_eq_false_iff_ne, ne_eq]; omega
  have e2 : ((g.toNat : Int) == (bar : Int)) = false := by simp only [beq_eq_false_iff_ne, ne_eq]; omega
  have e3 : ((g.toNat : Int) == 38) = false := by simp only [beq_eq_false_iff_ne, ne_eq]; omega
  generalize (Ch.at2 s x.i).1 = a1 at *
  have HF := hide hf
  clear h hok h60 hbar h38 hf
  go_enter Tryz.func27, Tryz.ntmps27
  go_wp2_with fail
  go_quiet (fail)
  go_wp2_with fail
  go_quiet (fail)
  go_wp2_with fail
  go_region_held3 (fun W => W.cell? ⟨X, 0, none⟩ = some (.string s) ∧ W.cell? ⟨X, 1, none⟩ = some (.int .i64 x.i))
    (first | exact ⟨c0, c1⟩)
    (first | (go_at_call 50; refine (hat _).mono ?_; rintro e w3 ⟨rfl, hw3⟩; have hw4 := hw3.symm; clear hw3; subst hw4))
  all_goals
    go_wp2_with fail
    refine (HF.out _).mono ?_
    rintro e w4 ⟨rfl, r4⟩
    go_wp2
    go_ret
    exact ⟨rfl, (H.out.drewN _).on r4⟩
set_option maxHeartbeats 4000000 in
set_option maxRecDepth 10000 in
theorem char_ref (h : SAt X w s lv x) (hs : s.size ≤ 1125899906842624) (bar : Nat) (hi : x.i < s.size) (hbar : (s.get! x.i).toNat ≠ bar) (h38 : (s.get! x.i).toNat = 38) :
    Calls Tryz.prog 27 #[.pointer (some ⟨X, 0, none⟩), .int .u8 bar] w fun en w' => en = .returned (.string (x.char s bar).2) ∧ SE X w s lv (x.char s bar).1 w' := by
  have hch : x.char s bar = if (refR s x.i).2 < 0 then (x.fail 4 x.i, ⟨#[]⟩) else ({ x with i := (refR s x.i).2.toNat }, ⟨(refR s x.i).1.toArray⟩) := by
    unfold Sc.char
    rw [if_pos hi, if_neg (by rw [h38]; omega), if_pos h38]
  rw [hch]
  have c0 : w.cell? ⟨X, 0, none⟩ = some (.string s) := h.cell 0 rfl
  have c1 : w.cell? ⟨X, 1, none⟩ = some (.int .i64 x.i) := h.cell 1 rfl
  have f1 := h.free 1
  have hlt := h.lt
  have hrf := fun w => Ref_any s x.i w hs (by omega)
  have hgt : s[x.i] = s.get! x.i := (Utf8W.get!_of_lt s x.i hi).symm
  have hge : ¬ s.size ≤ x.i := by omega
  have H := hide (SE.refl h)
  rw [h38] at hbar
  generalize hg : (s.get! x.i) = g at *
  have e1 : ((g.toNat : Int) == 60) = false := by simp only [beq_eq_false_iff_ne, ne_eq]; omega
  have e2 : ((g.toNat : Int) == (bar : Int)) = false := by simp only [beq_eq_false_iff_ne, ne_eq]; omega
  generalize (refR s x.i).1 = rt at *
  by_cases hn : (refR s x.i).2 < 0
  · rw [if_pos hn]
    have hd : decide ((refR s x.i).2 < 0) = true := by simpa using hn
    have hf := fun W (b : SE X w s lv x W) => fail_sc b.1 4 x.i
    have HF := hide hf
    generalize (refR s x.i).2 = en at *
    clear h hch hf
    go_enter Tryz.func27, Tryz.ntmps27
    go_wp2_with fail
    go_quiet (fail)
    go_wp2_with fail
    go_quiet (fail)
    go_wp2_with fail
    go_region_held3 (fun W => W.cell? ⟨X, 0, none⟩ = some (.string s) ∧ W.cell? ⟨X, 1, none⟩ = some (.int .i64 x.i))
      (first | exact ⟨c0, c1⟩ | exact ⟨k0, k1⟩)
      (first | (go_at_call 48; refine (hrf _).mono ?_; rintro e w3 ⟨rfl, b3⟩; have R3 := hide ((H.out.drewN _).below hlt b3); have k0 : w3.cell? ⟨X, 0, none⟩ = some (.string s) := R3.out.1.cell 0 rfl; have k1 : w3.cell? ⟨X, 1, none⟩ = some (.int .i64 x.i) := R3.out.1.cell 1 rfl))
    all_goals
      go_wp2_with fail
      refine (HF.out _ R3.out).mono ?_
      rintro e w4 ⟨rfl, r4⟩
      go_wp2
      go_ret
      exact ⟨rfl, R3.out.on r4⟩
  · rw [if_neg hn]
    have hd : decide ((refR s x.i).2 < 0) = false := by simpa using hn
    have hen : (((refR s x.i).2.toNat : Nat) : Int) = (refR s x.i).2 := Int.toNat_of_nonneg (by omega)
    generalize (refR s x.i).2.toNat = en at *
    rw [← hen] at hrf hd
    clear h hch hn hen
    go_enter Tryz.func27, Tryz.ntmps27
    go_wp2_with fail
    go_quiet (fail)
    go_wp2_with fail
    go_quiet (fail)
    go_wp2_with fail
    go_region_held3 (fun W => W.cell? ⟨X, 0, none⟩ = some (.string s) ∧ W.cell? ⟨X, 1, none⟩ = some (.int .i64 x.i))
      (first | exact ⟨c0, c1⟩ | exact ⟨k0, k1⟩)
      (first | (go_at_call 48; refine (hrf _).mono ?_; rintro e w3 ⟨rfl, b3⟩; have R3 := hide ((H.out.drewN _).below hlt b3); have k0 : w3.cell? ⟨X, 0, none⟩ = some (.string s) := R3.out.1.cell 0 rfl; have k1 : w3.cell? ⟨X, 1, none⟩ = some (.int .i64 x.i) := R3.out.1.cell 1 rfl; have q1 := R3.out.1.free 1))
    all_goals
      go_wp2
      go_ret
      exact ⟨rfl, R3.out.set 1 _ rfl⟩
theorem char_sc (h : SAt X w s lv x) (hs : s.size ≤ 1125899906842624) (bar : Nat) :
    Calls Tryz.prog 27 #[.pointer (some ⟨X, 0, none⟩), .int .u8 bar] w fun en w' => en = .returned (.string (x.char s bar).2) ∧ SE X w s lv (x.char s bar).1 w' := by
  by_cases hi : x.i < s.size
  · by_cases hb : (s.get! x.i).toNat = 60 ∨ (s.get! x.i).toNat = bar
    · have e : x.char s bar = (x.wrong s, ⟨#[]⟩) := by unfold Sc.char; rw [if_pos hi, if_pos hb]
      rw [e]
      exact char_bar h hs bar (fun _ => hb)
    · have h60 : (s.get! x.i).toNat ≠ 60 := fun e => hb (Or.inl e)
      have hbar : (s.get! x.i).toNat ≠ bar := fun e => hb (Or.inr e)
      by_cases h38 : (s.get! x.i).toNat = 38
      · exact char_ref h hs bar hi hbar h38
      · by_cases hok : (Ch.at2 s x.i).2 = 0
        · have e : x.char s bar = (x.fail 2 x.i, ⟨#[]⟩) := by unfold Sc.char; rw [if_pos hi, if_neg hb, if_neg h38, if_pos hok]
          rw [e]
          exact char_bad h hs bar hi h60 hbar h38 hok
        · have e : x.char s bar = ({ x with i := x.i + (Ch.at2 s x.i).2.toNat }, s.extract x.i (x.i + (Ch.at2 s x.i).2.toNat)) := by unfold Sc.char; rw [if_pos hi, if_neg hb, if_neg h38, if_neg hok]
          rw [e]
          exact char_one h hs bar hi h60 hbar h38 hok
  · have e : x.char s bar = (x.wrong s, ⟨#[]⟩) := by unfold Sc.char; rw [if_neg hi]
    rw [e]
    exact char_bar h hs bar (fun x => absurd x hi)
end Go.Proofs.YtgognegkcplcpaaGreatDoor

namespace Go.Proofs.YtgognegkcplcpaaGreatDoor
open Go.RowKit Go.Maps Go.Lib
variable {X : Nat} {w w' w'' wr : World} {s t : ByteArray} {lv : Value} {x x' : Sc}
def Sc.stands (x : Sc) (s t : ByteArray) : Bool := decide (x.i + t.size ≤ s.size) && ((s.extract x.i (x.i + t.size)).toList == t.toList)
def untilF (s t : ByteArray) (frm : Nat) : Nat → Sc → Sc × ByteArray
  | 0, x => (x, ⟨#[]⟩)
  | f + 1, x => if x.err = 0 then
      (if x.stands s t = true then ({ x with i := x.i + t.size }, s.extract frm x.i)
      else if (Ch.at2 s x.i).2 = 0 then untilF s t frm f (x.wrong s)
      else untilF s t frm f { x with i := x.i + (Ch.at2 s x.i).2.toNat })
    else (x, ⟨#[]⟩)
def Sc.until (x : Sc) (s t : ByteArray) : Sc × ByteArray := untilF s t x.i (s.size + 2) x
def left (X : Nat) (n : Nat) (w : World) : Nat :=
  match w.cell? ⟨X, 5, none⟩, w.cell? ⟨X, 1, none⟩ with
  | some (.int _ e), some (.int _ i) => if e = 0 then n + 1 - i.toNat else 0
  | _, _ => 0
theorem left_eq (h : SAt X w s lv x) (n : Nat) : left X n w = if x.err = 0 then n + 1 - x.i else 0 := by
  have c1 : w.cell? ⟨X, 1, none⟩ = some (.int .i64 x.i) := h.cell 1 rfl
  have c5 : w.cell? ⟨X, 5, none⟩ = some (.int .i64 x.err) := h.cell 5 rfl
  simp only [left, c1, c5, Int.toNat_natCast]
theorem wrong_err (x : Sc) (s : ByteArray) (h : x.err = 0) : (x.wrong s).err ≠ 0 := by
  unfold Sc.wrong Sc.fail
  rw [if_pos h]
  repeat' split
  all_goals simp
structure UI (X : Nat) (w : World) (s t : ByteArray) (lv : Value) (frm : Nat) (y : Sc × ByteArray) (wr : World) (x : Sc) (f : Nat) : Prop where
  se : SE X w s lv x wr
  le : x.err = 0 → x.i ≤ s.size
  ge : frm ≤ x.i
  eq : untilF s t frm f x = y
  fuel : x.err = 0 → s.size + 1 < x.i + f
set_option maxHeartbeats 4000000 in
set_option maxRecDepth 10000 in
theorem until_sc (h : SAt X w s lv x) (hs : s.size ≤ 1125899906842624) (hi : x.err = 0 → x.i ≤ s.size) (t : ByteArray) (ht : t.size ≤ 1024) :
    Calls Tryz.prog 42 #[.pointer (some ⟨X, 0, none⟩), .string t] w fun en w' => en = .returned (.string (x.until s t).2) ∧ SE X w s lv (x.until s t).1 w' := by
  have h0 : UI X w s t lv x.i (x.until s t) w x (s.size + 2) := ⟨SE.refl h, hi, Nat.le_refl _, rfl, fun _ => by omega⟩
  have c1 : w.cell? ⟨X, 1, none⟩ = some (.int .i64 x.i) := h.cell 1 rfl
  generalize x.until s t = y at *
  have H0 := hide h0
  have hat := fun i (hi : i ≤ s.size) w => At_any s i w hs hi
  have hwrg := fun W x' (b : SAt X W s lv x') => wrong_sc b hs
  have HW := hide hwrg
  have HAT := hide hat
  clear h h0 hi hat hwrg
  generalize x.i = frm at *
  go_enter Tryz.func42, Tryz.ntmps42
  go_wp2_with fail
  go_loopw [6, 7] (fun _ _ wr => ∃ x' f, UI X w s t lv frm y wr x' f) (fun _ _ wr => left X s.size wr)
  case atStart => exact ⟨_, _, H0.out⟩
  case round =>
    obtain ⟨x', f, u⟩ := hrel
    have c0 : wr.cell? ⟨X, 0, none⟩ = some (.string s) := u.se.1.cell 0 rfl
    have d1 : wr.cell? ⟨X, 1, none⟩ = some (.int .i64 x'.i) := u.se.1.cell 1 rfl
    have c5 : wr.cell? ⟨X, 5, none⟩ = some (.int .i64 x'.err) := u.se.1.cell 5 rfl
    have f1 := u.se.1.free 1
    have hleft := left_eq u.se.1 s.size
    by_cases he : x'.err = 0
    · have e0 : (x'.err == 0) = true := by simpa using he
      have hle := u.le he
      have hfu := u.fuel he
      obtain ⟨g, rfl⟩ : ∃ g, f = g + 1 := ⟨f - 1, by omega⟩
      have heq := u.eq
      unfold untilF at heq
      rw [if_pos he] at heq
      rw [if_pos he] at hleft
      have hwr : IntKind.i64.wrap ((x'.i : Int) + t.size) = (x'.i : Int) + t.size := by rw [IntKind.wrap_i64]; omega
      cases hst : x'.stands s t
      · rw [hst] at heq
        simp only [Bool.false_eq_true, if_false] at heq
        have hcase : decide ((x'.i : Int) + t.size ≤ s.size) = false ∨ (x'.i + t.size ≤ s.size ∧ decide ((x'.i : Int) + t.size ≤ s.size) = true ∧ ((s.extract x'.i (x'.i + t.size)).toList == t.toList) = false) := by
          by_cases hin : x'.i + t.size ≤ s.size
          · refine Or.inr ⟨hin, by simp only [decide_eq_true_eq]; omega, ?_⟩
            simpa [Sc.stands, hin] using hst
          · exact Or.inl (by simp only [decide_eq_false_iff_not]; omega)
        have hcall := HAT.out x'.i hle
        have U := hide u
        have hxi : ∃ n : Nat, (Ch.at2 s x'.i).2 = n ∧ x'.i + n ≤ s.size := by
          unfold Ch.at2
          split
          · rename_i hh; exact ⟨_, rfl, (Ch.decode_width s x'.i hh.1).1⟩
          · exact ⟨0, rfl, hle⟩
        obtain ⟨n, en, hnl⟩ := hxi
        rw [en] at hcall heq
        generalize (Ch.at2 s x'.i).1 = a1 at *
        clear u en hst
        by_cases hz : n = 0
        · subst hz
          have heq2 : untilF s t frm g (x'.wrong s) = y := by rw [← heq]; simp
          clear heq
          have heq := heq2
          clear heq2
          have hwe := wrong_err x' s he
          clear he
          have hwr0 : IntKind.i64.wrap ((x'.i : Int) + 0) = (x'.i : Int) + 0 := by rw [IntKind.wrap_i64]; omega
          have HEQ := hide heq
          have HWE := hide hwe
          clear heq hwe
          rcases hcase with hA | ⟨hin, hA, hB⟩
          all_goals
            go_wp2_with fail
            go_quiet (fail)
            go_wp2_with fail
            go_region_held3 (fun W => W.cell? ⟨X, 0, none⟩ = some (.string s) ∧ W.cell? ⟨X, 1, none⟩ = some (.int .i64 x'.i))
              (first | exact ⟨c0, d1⟩)
              (first | (go_at_call 50; refine (hcall _).mono ?_; rintro e w3 ⟨rfl, hw3⟩; have hw4 := hw3.symm; clear hw3; subst hw4))
            all_goals
              go_wp2_with fail
              refine (HW.out _ x' (U.out.se.drewN _).1).mono ?_
              rintro e w4 ⟨rfl, r4⟩
              have h9 : w4.cell? ⟨X, 1, none⟩ = some (.int .i64 (x'.wrong s).i) := r4.1.cell 1 rfl
              rw [wrong_i] at h9
              have q1 := r4.1.free 1
              have ex : (x'.i : Int) = ((x'.wrong s).i : Int) := by rw [wrong_i]
              have R9 := hide (((U.out.se.drewN _).on r4).set (x' := x'.wrong s) 1 (.int .i64 x'.i) (by rw [ex]; rfl))
              clear r4 ex
              go_wp2
              go_roundw
              case rel => exact ⟨x'.wrong s, g, R9.out, fun e => absurd e HWE.out, by rw [wrong_i]; exact U.out.ge, HEQ.out, fun e => absurd e HWE.out⟩
              case measure =>
                rw [left_eq R9.out.1 s.size, if_neg HWE.out, hleft]
                omega
        · have heq2 : untilF s t frm g { x' with i := x'.i + n } = y := by
            rw [← heq, if_neg (by omega), Int.toNat_natCast]
          have hn0 : ((n : Int) == 0) = false := by simp only [beq_eq_false_iff_ne, ne_eq]; omega
          have hwrn : IntKind.i64.wrap ((x'.i : Int) + n) = (x'.i : Int) + n := by rw [IntKind.wrap_i64]; omega
          have HEQ := hide heq2
          have HE := hide he
          clear heq heq2 he
          rcases hcase with hA | ⟨hin, hA, hB⟩
          all_goals
            go_wp2_with fail
            go_quiet (fail)
            go_wp2_with fail
            go_region_held3 (fun W => W.cell? ⟨X, 0, none⟩ = some (.string s) ∧ W.cell? ⟨X, 1, none⟩ = some (.int .i64 x'.i))
              (first | exact ⟨c0, d1⟩)
              (first | (go_at_call 50; refine (hcall _).mono ?_; rintro e w3 ⟨rfl, hw3⟩; have hw4 := hw3.symm; clear hw3; subst hw4))
            all_goals
              go_wp2
              go_roundw
              case rel =>
                refine ⟨{ x' with i := x'.i + n }, g, ?_, fun _ => hnl, by have := U.out.ge; show frm ≤ x'.i + n; omega, HEQ.out, fun _ => by show s.size + 1 < x'.i + n + g; omega⟩
                exact (U.out.se.drewN _).set (x' := { x' with i := x'.i + n }) 1 (.int .i64 ((x'.i : Int) + n)) (by show _ = scCells s lv { x' with i := x'.i + n }; simp [scCells])
              case measure =>
                have R9 := (U.out.se.drewN (nq + 1)).set (x' := { x' with i := x'.i + n }) 1 (.int .i64 ((x'.i : Int) + n)) (by show _ = scCells s lv { x' with i := x'.i + n }; simp [scCells])
                rw [left_eq R9.1 s.size, if_pos HE.out, hleft]
                show s.size + 1 - (x'.i + n) < _
                omega
      · rw [hst] at heq
        simp only [if_true] at heq
        simp only [Sc.stands, Bool.and_eq_true, decide_eq_true_eq] at hst
        obtain ⟨hin, hsame⟩ := hst
        have hinI : decide ((x'.i : Int) + t.size ≤ s.size) = true := by simp only [decide_eq_true_eq]; omega
        have U := hide u
        clear u
        subst heq
        have R8 := hide (fun m => (U.out.se.drewN m).set (x' := { x' with i := x'.i + t.size }) 1 (.int .i64 ((x'.i : Int) + t.size)) (by show _ = scCells s lv { x' with i := x'.i + t.size }; simp [scCells]))
        have g0 : ∀ m, ((wr.drewN m).setCell ⟨X, 1, none⟩ (.int .i64 ((x'.i : Int) + t.size))).cell? ⟨X, 0, none⟩ = some (.string s) := fun m => (R8.out m).1.cell 0 rfl
        have g1 : ∀ m, ((wr.drewN m).setCell ⟨X, 1, none⟩ (.int .i64 ((x'.i : Int) + t.size))).cell? ⟨X, 1, none⟩ = some (.int .i64 ((x'.i : Int) + t.size)) := fun m => by
          have h9 : ((wr.drewN m).setCell ⟨X, 1, none⟩ (.int .i64 ((x'.i : Int) + t.size))).cell? ⟨X, 1, none⟩ = some (.int .i64 ((x'.i + t.size : Nat) : Int)) := (R8.out m).1.cell 1 rfl
          rw [Int.natCast_add] at h9
          exact h9
        have hfr := U.out.ge
        clear he
        go_wp2_with fail
        go_quiet (fail)
        go_wp2_with fail
        go_quiet (fail)
        go_wp2
        go_ret
        exact ⟨rfl, (R8.out _).drewN _⟩
    · have e0 : (x'.err == 0) = false := by simpa using he
      have hy : y = (x', ⟨#[]⟩) := by
        rw [← u.eq]
        cases f with
        | zero => rfl
        | succ f => unfold untilF; rw [if_neg he]
      subst hy
      have U := hide u
      clear u
      go_wp2
      go_ret
      exact ⟨rfl, U.out.se⟩
end Go.Proofs.YtgognegkcplcpaaGreatDoor

namespace Go.Proofs.YtgognegkcplcpaaGreatDoor
open Go.RowKit Go.Maps Go.Lib
variable {X : Nat} {w w' w'' wr : World} {s t : ByteArray} {lv : Value} {x x' : Sc}
def Sc.texted (x : Sc) (t : ByteArray) (a : Int) : Sc := { x with more := x.more ++ t.data.toList, frm := if x.more = [] then a else x.frm }
theorem strV_add (l : List UInt8) (t : ByteArray) : (⟨l.toArray⟩ : ByteArray) ++ t = ⟨(l ++ t.data.toList).toArray⟩ := by
  apply ByteArray.ext
  apply Array.ext'
  simp [ByteArray.data_append]
set_option maxHeartbeats 2000000 in
theorem texted_sc (h : SAt X w s lv x) (t : ByteArray) (a : Int) (hz : x.more.length + t.size ≤ 1125899906842624) : Calls Tryz.prog 28 #[.pointer (some ⟨X, 0, none⟩), .string t, .int .i64 a] w fun en w' => en = .returned (.tuple #[]) ∧ SE X w s lv (x.texted t a) w' := by
  have c3 : w.cell? ⟨X, 3, none⟩ = some (.string ⟨x.more.toArray⟩) := h.cell 3 rfl
  have c4 : w.cell? ⟨X, 4, none⟩ = some (.int .i64 x.frm) := h.cell 4 rfl
  have f3 := h.free 3
  have f4 := h.free 4
  have hsz : (⟨x.more.toArray⟩ : ByteArray).size = x.more.length := by show x.more.toArray.size = _; simp
  have hadd := fun w => run_string_add_sum (P := Tryz.prog) w ⟨x.more.toArray⟩ t (by rw [hsz]; omega)
  simp only [strV_add] at hadd
  unfold Sc.texted
  by_cases hm : x.more = []
  · rw [if_pos hm]
    have H := hide (((SE.refl h).set (x' := { x with frm := a }) 4 (.int .i64 a) rfl).set (x' := { x with frm := a, more := x.more ++ t.data.toList }) 3 (.string ⟨(x.more ++ t.data.toList).toArray⟩) rfl)
    have he : x.more.isEmpty = true := by rw [hm]; rfl
    clear h hm
    go_enter Tryz.func28, Tryz.ntmps28
    go_wp2
    go_end0
    exact ⟨rfl, H.out⟩
  · rw [if_neg hm]
    have H := hide ((SE.refl h).set (x' := { x with more := x.more ++ t.data.toList }) 3 (.string ⟨(x.more ++ t.data.toList).toArray⟩) rfl)
    have he : x.more.isEmpty = false := by
      cases hl : x.more with
      | nil => exact absurd hl hm
      | cons a l => rfl
    clear h hm
    go_enter Tryz.func28, Tryz.ntmps28
    go_wp2
    go_end0
    exact ⟨rfl, H.out⟩
def valF (s : ByteArray) (q : Nat) : Nat → Sc → List UInt8 → Sc × List UInt8
  | 0, x, t => (x, t)
  | f + 1, x, t => if x.err = 0 ∧ x.is s q = false then valF s q f (x.char s q).1 (t ++ (x.char s q).2.data.toList) else (x, t)
def Sc.value (x : Sc) (s : ByteArray) : Sc × List UInt8 :=
  if x.is s 34 = true ∨ x.is s 39 = true then
    ({ (valF s (s.get! x.i).toNat (s.size + 2) { x with i := x.i + 1 } []).1 with i := (valF s (s.get! x.i).toNat (s.size + 2) { x with i := x.i + 1 } []).1.i + 1 }, (valF s (s.get! x.i).toNat (s.size + 2) { x with i := x.i + 1 } []).2)
  else (x.wrong s, [])
end Go.Proofs.YtgognegkcplcpaaGreatDoor

namespace Go.Proofs.YtgognegkcplcpaaGreatDoor
open Go.RowKit Go.Maps Go.Lib
variable {X : Nat} {w w' w'' wr : World} {s t : ByteArray} {lv : Value} {x x' : Sc}
theorem fail_err (x : Sc) (e a : Int) (h : x.err = 0) (he : e ≠ 0) : (x.fail e a).err ≠ 0 := by
  unfold Sc.fail; rw [if_pos h]; exact he
theorem char_grow (x : Sc) (s : ByteArray) (bar : Nat) (h : x.err = 0) (hi : x.i ≤ s.size) :
    ((x.char s bar).1.err = 0 → x.i < (x.char s bar).1.i ∧ (x.char s bar).1.i ≤ s.size ∧ (x.char s bar).2.size ≤ (x.char s bar).1.i - x.i) ∧ ((x.char s bar).1.err ≠ 0 → (x.char s bar).2.size = 0 ∧ (x.char s bar).1.i = x.i) := by
  unfold Sc.char
  split
  · rename_i hlt
    split
    · exact ⟨fun e => absurd e (wrong_err x s h), fun _ => ⟨rfl, wrong_i x s⟩⟩
    split
    · split
      · exact ⟨fun e => absurd e (fail_err x _ _ h (by decide)), fun _ => ⟨rfl, fail_i x _ _⟩⟩
      · rename_i hn
        unfold refR at hn ⊢
        by_cases hz : (Ch.refAt s x.i).2 = 0
        · rw [if_pos hz] at hn; simp at hn
        · rw [if_neg hz] at hn ⊢
          have hr := Ch.refAt_spec hz
          refine ⟨fun _ => ?_, fun e => absurd h e⟩
          have := enc_le (Ch.refAt s x.i).1
          have e2 : (⟨(Lib.encodeRune (Ch.refAt s x.i).1).toArray⟩ : ByteArray).size = (Lib.encodeRune (Ch.refAt s x.i).1).length := by show (Lib.encodeRune (Ch.refAt s x.i).1).toArray.size = _; simp
          simp only [e2]
          omega
    · split
      · exact ⟨fun e => absurd e (fail_err x _ _ h (by decide)), fun _ => ⟨rfl, fail_i x _ _⟩⟩
      · rename_i hn
        refine ⟨fun _ => ?_, fun e => absurd h e⟩
        unfold Ch.at2 at hn ⊢
        have hw := Ch.decode_width s x.i hlt
        split
        · simp only [Int.toNat_natCast, ByteArray.size_extract]; omega
        · rename_i hh; rw [if_neg hh] at hn; exact absurd rfl hn
  · exact ⟨fun e => absurd e (wrong_err x s h), fun _ => ⟨rfl, wrong_i x s⟩⟩
structure VI (X : Nat) (w : World) (s : ByteArray) (lv : Value) (q i0 : Nat) (y : Sc × List UInt8) (wr : World) (x : Sc) (t : List UInt8) (f : Nat) : Prop where
  se : SE X w s lv x wr
  le : x.i ≤ s.size
  ge : i0 ≤ x.i
  len : t.length ≤ x.i - i0
  eq : valF s q f x t = y
  fuel : x.err = 0 → s.size + 1 < x.i + f
set_option maxHeartbeats 4000000 in
set_option maxRecDepth 10000 in
theorem value_sc (h : SAt X w s lv x) (hs : s.size ≤ 1125899906842624) (hi : x.i ≤ s.size) :
    Calls Tryz.prog 73 #[.pointer (some ⟨X, 0, none⟩)] w fun en w' => en = .returned (.string ⟨(x.value s).2.toArray⟩) ∧ SE X w s lv (x.value s).1 w' := by
  have c0 : w.cell? ⟨X, 0, none⟩ = some (.string s) := h.cell 0 rfl
  have c1 : w.cell? ⟨X, 1, none⟩ = some (.int .i64 x.i) := h.cell 1 rfl
  have f1 := h.free 1
  have hlt := h.lt
  have i34 := fun W (b : SAt X W s lv x) => is_sc b 34 (by decide)
  have i39 := fun W (b : SAt X W s lv x) => is_sc b 39 (by decide)
  have H := hide (SE.refl h)
  unfold Sc.value
  by_cases hq : x.is s 34 = true ∨ x.is s 39 = true
  · rw [if_pos hq]
    have hil : x.i < s.size := hq.elim is_lt is_lt
    have he0 : x.err = 0 := by
      rcases hq with hq | hq
      · simp [Sc.is] at hq; exact hq.1
      · simp [Sc.is] at hq; exact hq.1
    have hgt : s[x.i] = s.get! x.i := (Utf8W.get!_of_lt s x.i hil).symm
    have hqlt := UInt8.toNat_lt (s.get! x.i)
    generalize hy : valF s (s.get! x.i).toNat (s.size + 2) { x with i := x.i + 1 } [] = y at *
    generalize (s.get! x.i) = qb at *
    have hwr : IntKind.i64.wrap ((x.i : Int) + 1) = (x.i : Int) + 1 := by rw [IntKind.wrap_i64]; omega
    have hisq := fun W x' (b : SAt X W s lv x') => is_sc b qb.toNat hqlt
    have hchr := fun W x' (b : SAt X W s lv x') => char_sc b hs qb.toNat
    have hgrow := fun x' => char_grow x' s qb.toNat
    have HQ := hide hisq
    have HCH := hide hchr
    have HG := hide hgrow
    have HY := hide hy
    have HE0 := hide he0
    have I1 := hide i34
    have I2 := hide i39
    clear hisq hchr hgrow hy he0 h i34 i39
    cases q1 : x.is s 34
    · have q2 : x.is s 39 = true := hq.resolve_left (by rw [q1]; simp)
      rw [q1] at I1
      rw [q2] at I2
      clear hq q1 q2
      go_enter Tryz.func73, Tryz.ntmps73
      go_wp2_with fail
      refine (I1.out _ H.out.1).mono ?_
      rintro e w1 ⟨rfl, b1⟩
      have R1 := hide (H.out.below hlt b1)
      go_wp2_with fail
      refine (I2.out _ R1.out.1).mono ?_
      rintro e w2 ⟨rfl, b2⟩
      have R2 := hide (R1.out.below hlt b2)
      have k0 : w2.cell? ⟨X, 0, none⟩ = some (.string s) := R2.out.1.cell 0 rfl
      have k1 : w2.cell? ⟨X, 1, none⟩ = some (.int .i64 x.i) := R2.out.1.cell 1 rfl
      have kf := R2.out.1.free 1
      clear I1 I2 b1 b2 R1
      go_wp2_with fail
      go_quiet (fail)
      go_wp2_with fail
      go_loopw [4, 5] (fun tv _ wr => ∃ x' t' f, tv = .string ⟨t'.toArray⟩ ∧ VI X w s lv qb.toNat (x.i + 1) y wr x' t' f) (fun _ _ wr => left X s.size wr)
      case atStart =>
        refine ⟨{ x with i := x.i + 1 }, [], s.size + 2, rfl, ?_, by show x.i + 1 ≤ s.size; omega, Nat.le_refl _, Nat.zero_le _, HY.out, fun _ => by show s.size + 1 < x.i + 1 + (s.size + 2); omega⟩
        exact (R2.out.drewN nq).set (x' := { x with i := x.i + 1 }) 1 (.int .i64 ((x.i : Int) + 1)) (by show _ = scCells s lv { x with i := x.i + 1 }; simp [scCells])
      case round =>
        obtain ⟨x', t', f, rfl, u⟩ := hrel
        have d1 : wr.cell? ⟨X, 1, none⟩ = some (.int .i64 x'.i) := u.se.1.cell 1 rfl
        have d5 : wr.cell? ⟨X, 5, none⟩ = some (.int .i64 x'.err) := u.se.1.cell 5 rfl
        have df := u.se.1.free 1
        have hle := u.le
        have hleft := left_eq u.se.1 s.size
        have hwr2 : IntKind.i64.wrap ((x'.i : Int) + 1) = (x'.i : Int) + 1 := by rw [IntKind.wrap_i64]; omega
        by_cases he : x'.err = 0
        · have e0 : (x'.err == 0) = true := by simpa using he
          have hfu := u.fuel he
          rw [if_pos he] at hleft
          obtain ⟨g, rfl⟩ : ∃ g, f = g + 1 := ⟨f - 1, by omega⟩
          have heq := u.eq
          unfold valF at heq
          have hisc := HQ.out wr x' u.se.1
          cases hb : x'.is s qb.toNat
          · rw [if_pos ⟨he, hb⟩] at heq
            rw [hb] at hisc
            have hg := HG.out x' he hle
            have U := hide u
            have HEQ := hide heq
            have HGR := hide hg
            have HE := hide he
            have hlen := u.len
            have hsz : (⟨t'.toArray⟩ : ByteArray).size = t'.length := by show t'.toArray.size = _; simp
            have hcs : (x'.char s qb.toNat).2.size ≤ s.size := by
              by_cases hce : (x'.char s qb.toNat).1.err = 0
              · have := hg.1 hce; omega
              · have := hg.2 hce; omega
            have hadd := fun w => run_string_add_sum (P := Tryz.prog) w ⟨t'.toArray⟩ (x'.char s qb.toNat).2 (by rw [hsz]; omega)
            simp only [strV_add] at hadd
            clear u heq hg he hb
            go_wp2_with fail
            refine hisc.mono ?_
            rintro e w5 ⟨rfl, b5⟩
            have R5 := hide (U.out.se.below hlt b5)
            go_wp2_with fail
            refine (HCH.out _ x' R5.out.1).mono ?_
            rintro e w6 ⟨rfl, r6⟩
            have R6 := hide (R5.out.on r6)
            clear r6
            go_wp2
            go_roundw
            case rel =>
              by_cases hce : (x'.char s qb.toNat).1.err = 0
              · have hx := HGR.out.1 hce
                have := U.out.ge
                refine ⟨_, _, g, rfl, R6.out, hx.2.1, by omega, ?_, HEQ.out, fun _ => by omega⟩
                simp only [List.length_append]
                have e9 : (x'.char s qb.toNat).2.data.toList.length = (x'.char s qb.toNat).2.size := by simp
                omega
              · have hx := HGR.out.2 hce
                have := U.out.ge
                refine ⟨_, _, g, rfl, R6.out, by omega, by omega, ?_, HEQ.out, fun e => absurd e hce⟩
                simp only [List.length_append]
                have e9 : (x'.char s qb.toNat).2.data.toList.length = (x'.char s qb.toNat).2.size := by simp
                omega
            case measure =>
              rw [left_eq R6.out.1 s.size, hleft]
              by_cases hce : (x'.char s qb.toNat).1.err = 0
              · rw [if_pos hce]
                have hx := HGR.out.1 hce
                omega
              · rw [if_neg hce]
                omega
          · rw [if_neg (by rw [hb]; simp)] at heq
            rw [hb] at hisc
            subst heq
            have U := hide u
            clear u he hb
            go_wp2_with fail
            refine hisc.mono ?_
            rintro e w5 ⟨rfl, b5⟩
            have R5 := hide (U.out.se.below hlt b5)
            have m1 : w5.cell? ⟨X, 1, none⟩ = some (.int .i64 x'.i) := R5.out.1.cell 1 rfl
            have mf := R5.out.1.free 1
            go_wp2
            go_ret
            exact ⟨rfl, R5.out.set (x' := { x' with i := x'.i + 1 }) 1 (.int .i64 ((x'.i : Int) + 1)) (by show _ = scCells s lv { x' with i := x'.i + 1 }; simp [scCells])⟩
        · have e0 : (x'.err == 0) = false := by simpa using he
          have hy2 : y = (x', t') := by
            rw [← u.eq]
            cases f with
            | zero => rfl
            | succ f => unfold valF; rw [if_neg (by simp [he])]
          subst hy2
          have U := hide u
          clear u he
          go_wp2
          go_ret
          exact ⟨rfl, U.out.se.set (x' := { x' with i := x'.i + 1 }) 1 (.int .i64 ((x'.i : Int) + 1)) (by show _ = scCells s lv { x' with i := x'.i + 1 }; simp [scCells])⟩
    · rw [q1] at I1
      clear hq q1 I2
      go_enter Tryz.func73, Tryz.ntmps73
      go_wp2_with fail
      refine (I1.out _ H.out.1).mono ?_
      rintro e w2 ⟨rfl, b1⟩
      have R2 := hide (H.out.below hlt b1)
      have k0 : w2.cell? ⟨X, 0, none⟩ = some (.string s) := R2.out.1.cell 0 rfl
      have k1 : w2.cell? ⟨X, 1, none⟩ = some (.int .i64 x.i) := R2.out.1.cell 1 rfl
      have kf := R2.out.1.free 1
      clear I1 b1
      go_wp2_with fail
      go_quiet (fail)
      go_wp2_with fail
      go_loopw [4, 5] (fun tv _ wr => ∃ x' t' f, tv = .string ⟨t'.toArray⟩ ∧ VI X w s lv qb.toNat (x.i + 1) y wr x' t' f) (fun _ _ wr => left X s.size wr)
      case atStart =>
        refine ⟨{ x with i := x.i + 1 }, [], s.size + 2, rfl, ?_, by show x.i + 1 ≤ s.size; omega, Nat.le_refl _, Nat.zero_le _, HY.out, fun _ => by show s.size + 1 < x.i + 1 + (s.size + 2); omega⟩
        exact (R2.out.drewN nq).set (x' := { x with i := x.i + 1 }) 1 (.int .i64 ((x.i : Int) + 1)) (by show _ = scCells s lv { x with i := x.i + 1 }; simp [scCells])
      case round =>
        obtain ⟨x', t', f, rfl, u⟩ := hrel
        have d1 : wr.cell? ⟨X, 1, none⟩ = some (.int .i64 x'.i) := u.se.1.cell 1 rfl
        have d5 : wr.cell? ⟨X, 5, none⟩ = some (.int .i64 x'.err) := u.se.1.cell 5 rfl
        have df := u.se.1.free 1
        have hle := u.le
        have hleft := left_eq u.se.1 s.size
        have hwr2 : IntKind.i64.wrap ((x'.i : Int) + 1) = (x'.i : Int) + 1 := by rw [IntKind.wrap_i64]; omega
        by_cases he : x'.err = 0
        · have e0 : (x'.err == 0) = true := by simpa using he
          have hfu := u.fuel he
          rw [if_pos he] at hleft
          obtain ⟨g, rfl⟩ : ∃ g, f = g + 1 := ⟨f - 1, by omega⟩
          have heq := u.eq
          unfold valF at heq
          have hisc := HQ.out wr x' u.se.1
          cases hb : x'.is s qb.toNat
          · rw [if_pos ⟨he, hb⟩] at heq
            rw [hb] at hisc
            have hg := HG.out x' he hle
            have U := hide u
            have HEQ := hide heq
            have HGR := hide hg
            have HE := hide he
            have hlen := u.len
            have hsz : (⟨t'.toArray⟩ : ByteArray).size = t'.length := by show t'.toArray.size = _; simp
            have hcs : (x'.char s qb.toNat).2.size ≤ s.size := by
              by_cases hce : (x'.char s qb.toNat).1.err = 0
              · have := hg.1 hce; omega
              · have := hg.2 hce; omega
            have hadd := fun w => run_string_add_sum (P := Tryz.prog) w ⟨t'.toArray⟩ (x'.char s qb.toNat).2 (by rw [hsz]; omega)
            simp only [strV_add] at hadd
            clear u heq hg he hb
            go_wp2_with fail
            refine hisc.mono ?_
            rintro e w5 ⟨rfl, b5⟩
            have R5 := hide (U.out.se.below hlt b5)
            go_wp2_with fail
            refine (HCH.out _ x' R5.out.1).mono ?_
            rintro e w6 ⟨rfl, r6⟩
            have R6 := hide (R5.out.on r6)
            clear r6
            go_wp2
            go_roundw
            case rel =>
              by_cases hce : (x'.char s qb.toNat).1.err = 0
              · have hx := HGR.out.1 hce
                have := U.out.ge
                refine ⟨_, _, g, rfl, R6.out, hx.2.1, by omega, ?_, HEQ.out, fun _ => by omega⟩
                simp only [List.length_append]
                have e9 : (x'.char s qb.toNat).2.data.toList.length = (x'.char s qb.toNat).2.size := by simp
                omega
              · have hx := HGR.out.2 hce
                have := U.out.ge
                refine ⟨_, _, g, rfl, R6.out, by omega, by omega, ?_, HEQ.out, fun e => absurd e hce⟩
                simp only [List.length_append]
                have e9 : (x'.char s qb.toNat).2.data.toList.length = (x'.char s qb.toNat).2.size := by simp
                omega
            case measure =>
              rw [left_eq R6.out.1 s.size, hleft]
              by_cases hce : (x'.char s qb.toNat).1.err = 0
              · rw [if_pos hce]
                have hx := HGR.out.1 hce
                omega
              · rw [if_neg hce]
                omega
          · rw [if_neg (by rw [hb]; simp)] at heq
            rw [hb] at hisc
            subst heq
            have U := hide u
            clear u he hb
            go_wp2_with fail
            refine hisc.mono ?_
            rintro e w5 ⟨rfl, b5⟩
            have R5 := hide (U.out.se.below hlt b5)
            have m1 : w5.cell? ⟨X, 1, none⟩ = some (.int .i64 x'.i) := R5.out.1.cell 1 rfl
            have mf := R5.out.1.free 1
            go_wp2
            go_ret
            exact ⟨rfl, R5.out.set (x' := { x' with i := x'.i + 1 }) 1 (.int .i64 ((x'.i : Int) + 1)) (by show _ = scCells s lv { x' with i := x'.i + 1 }; simp [scCells])⟩
        · have e0 : (x'.err == 0) = false := by simpa using he
          have hy2 : y = (x', t') := by
            rw [← u.eq]
            cases f with
            | zero => rfl
            | succ f => unfold valF; rw [if_neg (by simp [he])]
          subst hy2
          have U := hide u
          clear u he
          go_wp2
          go_ret
          exact ⟨rfl, U.out.se.set (x' := { x' with i := x'.i + 1 }) 1 (.int .i64 ((x'.i : Int) + 1)) (by show _ = scCells s lv { x' with i := x'.i + 1 }; simp [scCells])⟩
  · rw [if_neg hq]
    have q1 : x.is s 34 = false := by simpa using (not_or.1 hq).1
    have q2 : x.is s 39 = false := by simpa using (not_or.1 hq).2
    rw [q1] at i34
    rw [q2] at i39
    have hwr := fun W (b : SE X w s lv x W) => wrong_sc b.1 hs
    have HW := hide hwr
    have I1 := hide i34
    have I2 := hide i39
    clear h hq q1 q2 hwr i34 i39
    go_enter Tryz.func73, Tryz.ntmps73
    go_wp2_with fail
    refine (I1.out _ H.out.1).mono ?_
    rintro e w1 ⟨rfl, b1⟩
    have R1 := hide (H.out.below hlt b1)
    go_wp2_with fail
    refine (I2.out _ R1.out.1).mono ?_
    rintro e w2 ⟨rfl, b2⟩
    have R2 := hide (R1.out.below hlt b2)
    go_wp2_with fail
    refine (HW.out _ R2.out).mono ?_
    rintro e w3 ⟨rfl, r3⟩
    go_wp2
    go_ret
    exact ⟨rfl, R2.out.on r3⟩
end Go.Proofs.YtgognegkcplcpaaGreatDoor

namespace Go.Proofs.YtgognegkcplcpaaGreatDoor
open Go.RowKit Go.Maps Go.Lib
variable {X : Nat} {w w' w'' wr : World} {s t : ByteArray} {lv : Value} {x x' : Sc}
theorem info56 : (Tryz.prog.info? 57).map (fun i => (i.zero, i.size, i.bytes)) = some (some (.agg #[.int .i64 0, .string ⟨#[]⟩, .slice none 0 0, .string ⟨#[]⟩, .int .i64 0]), 5, 72) := by kernel_rfl
theorem info75 : (Tryz.prog.info? 76).map (fun i => (i.zero, i.size, i.bytes)) = some (some (.agg #[.string ⟨#[]⟩, .string ⟨#[]⟩]), 2, 32) := by kernel_rfl
theorem rtok_news (w : World) (t : Tok) (v : Value) : ∀ j u, (tokCells t v)[j]? = some u → (w.alloc (.cells (tokCells t v).toArray 57)).cell? ((⟨w.heap.size, 0, none⟩ : Addr).add j) = some u := by
  intro j u hu
  rw [Addr.add_lit, Nat.zero_add, cell_of (heap_alloc_new w _) (v := u)]
  rw [List.getElem?_toArray]; exact hu
set_option maxHeartbeats 4000000 in
set_option maxRecDepth 100000 in
theorem told_tag {cs : List Value} (h : SAt X w s lv x) (hown : w.ownsRow 0 57 5 lv x.l.length cs) (hX : lv.ownBlock ≠ some X) (t : Tok) (ai : Option Addr) (an ac : Nat) (he : x.err = 0) (hm : x.more = []) (hn : x.l.length ≤ 1099511627776) :
    Calls Tryz.prog 45 #[.pointer (some ⟨X, 0, none⟩), .agg #[.int .i64 t.kind, strV t.name, .slice ai an ac, strV t.text, .int .i64 t.at_]] w fun en w' => en = .returned (.tuple #[]) ∧ ∃ v' w1 o1 o2, ((w.alloc o1).drew.alloc o2).grownBy w1 lv.ownBlock ∧ w1.ownsRow 0 57 5 v' (x.l.length + 1) (cs ++ tokCells t (.slice ai an ac)) ∧ (v'.ownBlock = lv.ownBlock ∨ v'.ownBlock = some (w.heap.size + 1 + 1)) ∧ w' = w1.setCell ⟨X, 2, none⟩ v' := by
  obtain ⟨ti, tc, rfl⟩ := slice_len hown
  obtain ⟨i0, hi, hz0, hz1, hz2⟩ := info_parts info56
  have c2 : w.cell? ⟨X, 2, none⟩ = some (.slice ti x.l.length tc) := h.cell 2 rfl
  have c3 : w.cell? ⟨X, 3, none⟩ = some (.string ⟨x.more.toArray⟩) := h.cell 3 rfl
  have c5 : w.cell? ⟨X, 5, none⟩ = some (.int .i64 x.err) := h.cell 5 rfl
  have hlt := h.lt
  have e0 : (x.err != 0) = false := by simpa using he
  have em : x.more.isEmpty = true := by rw [hm]; rfl
  have HO := hide hown
  have HA := hide h
  clear hown h he hm
  generalize x.l.length = n at *
  have d2 : (w.alloc (.cells #[.int .i64 t.kind, strV t.name, .slice ai an ac, strV t.text, .int .i64 t.at_] 57)).cell? ⟨X, 2, none⟩ = some (.slice ti n tc) := cell_alloc _ c2
  have d3 : (w.alloc (.cells #[.int .i64 t.kind, strV t.name, .slice ai an ac, strV t.text, .int .i64 t.at_] 57)).cell? ⟨X, 3, none⟩ = some (.string ⟨x.more.toArray⟩) := cell_alloc _ c3
  have d5 : (w.alloc (.cells #[.int .i64 t.kind, strV t.name, .slice ai an ac, strV t.text, .int .i64 t.at_] 57)).cell? ⟨X, 5, none⟩ = some (.int .i64 x.err) := cell_alloc _ c5
  go_enter Tryz.func45, Tryz.ntmps45
  go_wp2_with fail
  have hnews : ∀ j u, (tokCells t (.slice ai an ac))[j]? = some u → ((w.alloc (.cells #[.int .i64 t.kind, strV t.name, .slice ai an ac, strV t.text, .int .i64 t.at_] 57)).drew.alloc (.cells (tokCells t (.slice ai an ac)).toArray 57)).cell? ((⟨w.heap.size + 1, 0, none⟩ : Addr).add j) = some u := by
    have h9 := rtok_news (w.alloc (.cells #[.int .i64 t.kind, strV t.name, .slice ai an ac, strV t.text, .int .i64 t.at_] 57)).drew t (.slice ai an ac)
    have e9 : (w.alloc (.cells #[.int .i64 t.kind, strV t.name, .slice ai an ac, strV t.text, .int .i64 t.at_] 57)).drew.heap.size = w.heap.size + 1 := by simp [World.drew]
    rw [e9] at h9
    exact h9
  have HNW := hide hnews
  clear hnews
  go_region_law
    (first | (
      refine step_own_at rfl (.tmp 39) (.tmp 41) 26 rfl 57 i0 _ 5 72 Tryz.underlying26 hi hz0 hz1 hz2 rfl (by decide) (.slice ti n tc) n cs (by simp [Act.eval, Act.put]) ((HO.out.alloc _).drew.alloc _) ⟨w.heap.size + 1, 0, none⟩ 1 1 (tokCells t (.slice ai an ac)) (by simp [Act.eval, Act.put]) rfl HNW.out (tok_one _ _ rfl) (by unfold maxLen; omega) (by omega) ?_
      intro v' w1 ho hg hat
      obtain ⟨ao', cap', rfl⟩ := slice_len ho
      have hb1 : w1.heap[X]? = some (.cells (scCells s (.slice ti n tc) x) 40 (0, 0)) := by
        rw [hg.block X (by simp; omega) (fun e => hX e.symm)]
        exact (Below.heap_alloc _ _ X (by simp; omega)).trans ((Below.heap_alloc w _ X hlt).trans HA.out)
      have g2 := cell_of hb1 (i := 2) rfl
      have gf := free_of (i := 2) hb1
      have HOW := hide ho
      have HG := hide hg
      have HAT := hide hat
      clear ho hg hat hb1))
  all_goals
    go_wp2
    go_end0
    exact ⟨rfl, _, _, _, _, HG.out, HOW.out, by simpa using HAT.out, rfl⟩
end Go.Proofs.YtgognegkcplcpaaGreatDoor
