import Derived.Laws.StructEq
import Derived.BigQuiet
import Derived.Deep.RegionHeld3
import Derived.Test.YtgognegkcplcpaaGreatDoorGam
import Derived.Test.YtgognegkcplcpaaGreatDoorGan
set_option linter.unusedVariables false
set_option linter.unusedSimpArgs false
set_option linter.unusedSimpArgs false
set_option linter.unusedVariables false
namespace Go.Proofs.YtgognegkcplcpaaGreatDoor
open Go.RowKit Go.Maps Go.Lib
variable {X : Nat} {w w' w'' wr : World} {s t : ByteArray} {lv : Value} {x x' : Sc} {F : Nat → Prop} {cs : List Value}
def RAns (w : World) (v : Value) (l : List Tok) : Prop := ∃ F X cs, w.ownsRow 0 57 5 v l.length cs ∧ RToks F X w l cs
theorem app_nil26 (b : Option Addr) (n c : Nat) (h : n ≤ c) (w : World) : (Builtin.append_ #[26, 26] 26 #[.slice b n c, .slice none 0 0]).run Tryz.prog w = .ok (.slice b n c) w := by
  cases b <;> simp [Builtin.append_, underlying, Tryz.underlying26, Tryz.sizeOf57, Builtin.lenOf, Builtin.firstCells, h, storeCells, Result.andThen]
set_option maxHeartbeats 4000000 in
set_option maxRecDepth 10000 in
theorem last_ref (h : SAt X w s lv x) : Calls Tryz.prog 19 #[.pointer (some ⟨X, 0, none⟩)] w fun en w' => ∃ v, en = .returned v ∧ Below w.heap.size w w' ∧ ((x.last = [] ∧ v = .slice none 0 0) ∨ (x.last = [txtTok x] ∧ v = .slice (some ⟨w.heap.size, 0, none⟩) 1 1 ∧ w'.heap[w.heap.size]? = some (.cells (tokCells (txtTok x) (.slice none 0 0)).toArray 57))) := by
  have c3 : w.cell? ⟨X, 3, none⟩ = some (.string ⟨x.more.toArray⟩) := h.cell 3 rfl
  have c4 : w.cell? ⟨X, 4, none⟩ = some (.int .i64 x.frm) := h.cell 4 rfl
  have c5 : w.cell? ⟨X, 5, none⟩ = some (.int .i64 x.err) := h.cell 5 rfl
  unfold Sc.last
  clear h
  by_cases he : x.err = 0
  · have e0 : (x.err != 0) = false := by simpa using he
    by_cases hm : x.more = []
    · rw [if_pos (Or.inr hm)]
      have em : x.more.isEmpty = true := by rw [hm]; rfl
      clear he hm
      go_enter Tryz.func19, Tryz.ntmps19
      go_wp2
      go_ret
      exact ⟨_, rfl, Below.refl _ _, Or.inl ⟨trivial, rfl⟩⟩
    · rw [if_neg (by rintro (h | h); exact h he; exact hm h)]
      have em : x.more.isEmpty = false := by simpa using hm
      clear he hm
      go_enter Tryz.func19, Tryz.ntmps19
      go_wp2_with fail
      have d3 : (w.alloc (.cells #[.int .i64 3, .string ⟨#[]⟩, .slice none 0 0, .string ⟨x.more.toArray⟩, .int .i64 x.frm] 57)).cell? ⟨X, 3, none⟩ = some (.string ⟨x.more.toArray⟩) := cell_alloc _ c3
      have d4 : (w.alloc (.cells #[.int .i64 3, .string ⟨#[]⟩, .slice none 0 0, .string ⟨x.more.toArray⟩, .int .i64 x.frm] 57)).cell? ⟨X, 4, none⟩ = some (.int .i64 x.frm) := cell_alloc _ c4
      go_region_held3 (fun W => W.cell? ⟨X, 3, none⟩ = some (.string ⟨x.more.toArray⟩) ∧ W.cell? ⟨X, 4, none⟩ = some (.int .i64 x.frm))
        (first | exact ⟨c3, c4⟩ | exact ⟨d3, d4⟩)
        (fail)
      all_goals
        go_wp2
        go_ret
        exact ⟨_, rfl, ((Below.refl _ _).alloc (Nat.le_refl _) _).drew, Or.inr ⟨trivial, rfl, Below_new _ _⟩⟩
  · have e0 : (x.err != 0) = true := by simpa using he
    rw [if_pos (Or.inl he)]
    clear he
    go_enter Tryz.func19, Tryz.ntmps19
    go_wp2
    go_ret
    exact ⟨_, rfl, Below.refl _ _, Or.inl ⟨trivial, rfl⟩⟩
theorem add_last (h : RS F X w s lv cs x) {w1 : World} (b : Below w.heap.size w w1) (v : Value) (hv : (x.last = [] ∧ v = .slice none 0 0) ∨ (x.last = [txtTok x] ∧ v = .slice (some ⟨w.heap.size, 0, none⟩) 1 1 ∧ w1.heap[w.heap.size]? = some (.cells (tokCells (txtTok x) (.slice none 0 0)).toArray 57))) (hn : x.l.length ≤ 1099511627776) :
    ∃ v' w2, (Builtin.append_ #[26, 26] 26 #[lv, v]).run Tryz.prog w1 = .ok v' w2 ∧ RAns w2 v' (x.l ++ x.last) ∧ w1.grownBy w2 lv.ownBlock := by
  have row1 : w1.ownsRow 0 57 5 lv x.l.length cs := owns_of h.row fun k e => b.block k (h.lt k (h.own k e).1)
  have toks1 : RToks F X w1 x.l cs := h.toks.frame fun k _ _ _ _ _ a _ => ⟨b.block k (h.lt k a), a⟩
  rcases hv with ⟨e1, rfl⟩ | ⟨e1, rfl, hb⟩
  · obtain ⟨ai, ac, rfl, hle⟩ : ∃ ai ac, lv = .slice ai x.l.length ac ∧ x.l.length ≤ ac := by
      rcases row1.2 with ⟨rfl, hn⟩ | ⟨g, cap, cur, rfl, hbb, hg, hc, hm, hcs, htk⟩
      · exact ⟨none, 0, by rw [hn], by omega⟩
      · exact ⟨_, _, rfl, hc⟩
    refine ⟨_, w1, app_nil26 ai _ ac hle w1, ⟨F, X, cs, ?_, ?_⟩, ⟨rfl, rfl, rfl, Nat.le_refl _, fun _ _ _ => rfl⟩⟩
    · rw [e1, List.append_nil]; exact row1
    · rw [e1, List.append_nil]; exact toks1
  · obtain ⟨i0, hi, hz0, hz1, hz2⟩ := info_parts info56
    have hcell : ∀ j u, (tokCells (txtTok x) (.slice none 0 0))[j]? = some u → w1.cell? ((⟨w.heap.size, 0, none⟩ : Addr).add j) = some u := by
      intro j u hj
      rw [Addr.add_mid, Nat.zero_add]
      refine cell_of hb ?_
      simpa using hj
    obtain ⟨v', w2, hr, ho, hgr, _, hat⟩ := run_append_own_at (P := Tryz.prog) w1 0 26 26 57 i0 _ 5 72 Tryz.underlying26 hi hz0 hz1 hz2 rfl (by decide) lv x.l.length cs row1 ⟨w.heap.size, 0, none⟩ 1 1 (tokCells (txtTok x) (.slice none 0 0)) rfl hcell (tok_one _ _ rfl) (by unfold maxLen; omega) (by omega) (Nat.zero_le _)
    refine ⟨v', w2, hr, ⟨F, X, cs ++ tokCells (txtTok x) (.slice none 0 0), ?_, ?_⟩, hgr⟩
    · rw [e1]; simp only [List.length_append, List.length_cons, List.length_nil, Nat.zero_add]; exact ho
    · rw [e1]
      refine (toks1.frame fun k n xs u hu e a c => ⟨?_, a⟩).app ⟨.slice none 0 0, [], by simp, World.ownsRow_nil _ _ _ _, by intro k e; simp [Value.ownBlock] at e, rfl⟩
      exact hgr.block k (own_lt hu e) (fun e2 => tag_ne hu row1 (by decide) e e2.symm)
theorem wpList_app26 {ops : Array Oper} {rest : List Oper} {o : Oper} {a : Act} {w : World} {Q : Exit → Act → World → Prop} (hgd : o.guard = none) (s x : Operand) (ho : o.op = Op.call { callee := Callee.builtin Builtin.append, args := #[s, x], argTypes := #[26, 26] }) (hty : o.type = 26)
    (v1 v2 : Value) (hs : a.eval s = v1) (hx : a.eval x = v2) {v' : Value} {w' : World} (hr : (Builtin.append_ #[26, 26] 26 #[v1, v2]).run Tryz.prog w = .ok v' w') (h : wpList Tryz.prog ops Q rest (a.put o.dst v') w') : wpList Tryz.prog ops Q (o :: rest) a w := by
  refine wpList_plain hgd fun K hK => ?_
  unfold Oper.wp execOp
  simp only [ho, hty, resolve, invoke, builtin, Sem.run_bind, Sem.run_pure, Result.andThen_ok, List.map_toArray, List.map_cons, List.map_nil, hs, hx, hr]
  exact hK _ _ h
theorem read_len (s : ByteArray) : (readS s).l.length ≤ 3 * s.size + 3 := by
  have key : ∀ (f : Nat) (x : Sc), x.err = 0 → x.i ≤ s.size → x.l.length ≤ 3 * x.i → (readF s f x).l.length ≤ 3 * s.size + 3 := by
    intro f
    induction f with
    | zero => intro x he hi hl; show x.l.length ≤ _; omega
    | succ f ih =>
      intro x he hi hl
      simp only [readF]
      split
      · rename_i hc
        rcases done_piece (g := fun _ => []) he hc.1 (rel_any x) with ⟨h1, h2, h3, h4, _⟩ | ⟨h1, h2, _⟩
        · exact ih _ h1 h3 (by have := h4.2.2; omega)
        · rw [readF_err h1, h2]; omega
      · omega
  exact key _ Sc.zero rfl (Nat.zero_le _) (Nat.zero_le _)
set_option maxHeartbeats 4000000 in
set_option maxRecDepth 10000 in
theorem refAll_ok (s : ByteArray) (w : World) (hs : s.size ≤ 2147483648) : Calls Tryz.prog 10 #[.string s] w fun en w' => ∃ v, en = .returned (.tuple #[v, .int .i64 (refAll s).2.1, .int .i64 (refAll s).2.2]) ∧ RAns w' v (refAll s).1 ∧ Below w.heap.size w w' := by
  have hrd := read_ref s w (by omega)
  have hlen := read_len s
  unfold refAll
  by_cases he : (readS s).err = 0
  · rw [if_neg (by simpa using he)]
    have e0 : ((readS s).err != 0) = false := by simpa using he
    clear he
    go_enter Tryz.func10, Tryz.ntmps10
    go_wp2_with fail
    refine hrd.mono ?_
    rintro e w1 ⟨rfl, F, lv, cs, rs, b1, hF⟩
    have c5 : w1.cell? ⟨w.heap.size, 5, none⟩ = some (.int .i64 (readS s).err) := rs.sat.cell 5 rfl
    have hla := last_ref rs.sat
    have RS1 := hide rs
    have B1 := hide b1
    have HF := hide hF
    clear rs b1 hF hrd
    go_wp2_with fail
    refine hla.mono ?_
    rintro e w2 ⟨v, rfl, b2, hv⟩
    have c2 : w2.cell? ⟨w.heap.size, 2, none⟩ = some lv := (b2.cell (RS1.out.lt _ RS1.out.has)).trans (RS1.out.sat.cell 2 rfl)
    obtain ⟨v', w3, hrun, an, gr⟩ := add_last RS1.out b2 v hv (by omega)
    have AN := hide an
    have GR := hide gr
    have B2 := hide b2
    clear an gr b2 hv hla
    go_wp2_with (at_builtin; refine wpList_app26 rfl (.tmp 27) (.tmp 28) rfl rfl _ _ rfl rfl hrun ?_)
    go_ret3
    refine ⟨v', rfl, AN.out, ?_⟩
    have hz := B1.out.size
    have hz2 := B2.out.size
    refine (B1.out.trans (below_less B2.out hz)).trans ⟨GR.out.os, GR.out.tape, GR.out.output, GR.out.size, fun k hk => GR.out.block k (by omega) (fun e => ?_)⟩
    have := HF.out k (RS1.out.own k e.symm).1
    omega
  · rw [if_pos (by simpa using he)]
    have e0 : ((readS s).err != 0) = true := by simpa using he
    clear he
    go_enter Tryz.func10, Tryz.ntmps10
    go_wp2_with fail
    refine hrd.mono ?_
    rintro e w1 ⟨rfl, F, lv, cs, rs, b1, hF⟩
    have c5 : w1.cell? ⟨w.heap.size, 5, none⟩ = some (.int .i64 (readS s).err) := rs.sat.cell 5 rfl
    have c6 : w1.cell? ⟨w.heap.size, 6, none⟩ = some (.int .i64 (readS s).at_) := rs.sat.cell 6 rfl
    have B1 := hide b1
    clear rs b1 hF hrd
    go_wp2_with fail
    go_quiet (fail)
    go_wp2
    go_ret3
    exact ⟨_, rfl, ⟨fun _ => False, 0, [], World.ownsRow_nil _ _ _ _, rfl⟩, below_drewN B1.out _⟩
end Go.Proofs.YtgognegkcplcpaaGreatDoor

namespace Go.Proofs.YtgognegkcplcpaaGreatDoor
open Go.RowKit Go.Maps Go.Lib
variable {F F' G A B : Nat → Prop} {R : Nat} {w w' w'' wr w1 : World} {a : Addr} {v v1 v2 : Value} {N n : Nat} {l l1 l2 : List Tok}
theorem num_ok (n : Int) (w : World) : Calls Tryz.prog 12 #[.int .i64 n] w fun e w' => e = .returned (.int .i64 n) ∧ w' = w := by
  go_enter Tryz.func12, Tryz.ntmps12
  go_wp2
  go_ret
  exact ⟨rfl, rfl⟩
def tokV (t : Tok) (v : Value) : Value := .agg #[.int .i64 t.kind, strV t.name, v, strV t.text, .int .i64 t.at_]
theorem attr_cells {l : List (List UInt8 × List UInt8)} {g cap : Nat} (h : w.ownsRow 0 52 2 (.slice (some ⟨g, 0, none⟩) l.length cap) l.length (attrCells l)) (i : Nat) (hi : i < l.length) :
    w.cell? ⟨g, i * 2, none⟩ = some (strV (l[i]).1) ∧ w.cell? ⟨g, i * 2 + 1, none⟩ = some (strV (l[i]).2) := by
  have hc := h.cells (g := g) rfl
  have key : ∀ (l : List (List UInt8 × List UInt8)) (i : Nat) (hi : i < l.length), (attrCells l)[i * 2]? = some (strV (l[i]).1) ∧ (attrCells l)[i * 2 + 1]? = some (strV (l[i]).2) := by
    intro l
    induction l with
    | nil => intro i hi; cases hi
    | cons x l ih =>
      intro i hi
      cases i with
      | zero => exact ⟨rfl, rfl⟩
      | succ i =>
        have := ih i (by simpa using hi)
        have e1 : (i + 1) * 2 = i * 2 + 2 := by omega
        rw [e1]
        simpa [attrCells] using this
  obtain ⟨k1, k2⟩ := key l i hi
  have h1 := hc _ _ k1
  have h2 := hc _ _ k2
  rw [Addr.add_mid, Nat.zero_add] at h1 h2
  exact ⟨h1, h2⟩
theorem guard52 : Tryz.prog.eqGuardType Tryz.prog.depth 52 = false := by kernel_rfl
theorem equal52 (x y : ByteArray) (w : World) : (Op.equalIn 10000 52 (.agg #[.string x, .string y]) (.agg #[.string x, .string y])).run Tryz.prog w = .ok true w := by
  have u9 := Tryz.underlying9
  have a9 := Tryz.isAgg9
  have z9 := Tryz.sizeOf9
  have hS : Tryz.prog.underlying 52 = some (.struct (Tryz.prog.fieldsOf 52)) := by kernel_rfl
  have hp : Tryz.prog.stoodInHeld 52 = false := by kernel_rfl
  rw [show (10000 : Nat) = 9999 + 1 from rfl, run_equalIn_agg w 9999 52 _ _ hS hp]
  simp only [Program.fieldsOf, Tryz.underlying52]
  go_simp
theorem neq52 (x y : ByteArray) (w : World) : (binOp .neq 52 (.agg #[.string x, .string y]) (.agg #[.string x, .string y])).run Tryz.prog w = .ok (.bool false) w := by
  have h := equal52 x y w
  simp [go_sem, binOp, Op.equal, Op.maxDepth, h]
def boxT (t : Tok) (v : Value) : Obj := .cells #[.int .i64 t.kind, .string ⟨t.name.toArray⟩, v, .string ⟨t.text.toArray⟩, .int .i64 t.at_] 49
set_option maxHeartbeats 4000000 in
set_option maxRecDepth 10000 in
theorem alike_same (t t' : Tok) (va vb : Value) (w : World) (h1 : w.ownsRow 0 52 2 va t.attrs.length (attrCells t.attrs)) (h2 : w.ownsRow 0 52 2 vb t'.attrs.length (attrCells t'.attrs)) (ek : t'.kind = t.kind) (en : t'.name = t.name) (et : t'.text = t.text) (ea : t'.attrs = t.attrs) :
    Calls Tryz.prog 20 #[tokV t va, tokV t' vb] w fun e w' => e = .returned (.bool true) ∧ Below w.heap.size w w' := by
  obtain ⟨k', n', a', x', q'⟩ := t'
  simp only at ek en et ea
  subst ek en et ea
  unfold tokV
  obtain ⟨ao, ca, hva⟩ := slice_len h1
  obtain ⟨bo, cb, hvb⟩ := slice_len h2
  subst hva
  subst hvb
  have hB : Below w.heap.size w ((w.alloc (boxT t (.slice ao t.attrs.length ca))).alloc (boxT ⟨t.kind, t.name, t.attrs, t.text, q'⟩ (.slice bo t.attrs.length cb))) := ((Below.refl _ _).alloc (Nat.le_refl _) _).alloc (by simp) _
  have hx : ((w.alloc (boxT t (.slice ao t.attrs.length ca))).alloc (boxT ⟨t.kind, t.name, t.attrs, t.text, q'⟩ (.slice bo t.attrs.length cb))).heap[w.heap.size]? = some (boxT t (.slice ao t.attrs.length ca)) := by
    rw [Below.heap_alloc _ _ _ (by simp)]; exact Below_new _ _
  have hy : ((w.alloc (boxT t (.slice ao t.attrs.length ca))).alloc (boxT ⟨t.kind, t.name, t.attrs, t.text, q'⟩ (.slice bo t.attrs.length cb))).heap[w.heap.size + 1]? = some (boxT ⟨t.kind, t.name, t.attrs, t.text, q'⟩ (.slice bo t.attrs.length cb)) := by
    have := Below_new (w.alloc (boxT t (.slice ao t.attrs.length ca))) (boxT ⟨t.kind, t.name, t.attrs, t.text, q'⟩ (.slice bo t.attrs.length cb))
    simpa using this
  have hcell : ∀ wr, Below ((w.alloc (boxT t (.slice ao t.attrs.length ca))).alloc (boxT ⟨t.kind, t.name, t.attrs, t.text, q'⟩ (.slice bo t.attrs.length cb))).heap.size ((w.alloc (boxT t (.slice ao t.attrs.length ca))).alloc (boxT ⟨t.kind, t.name, t.attrs, t.text, q'⟩ (.slice bo t.attrs.length cb))) wr →
      wr.cell? ⟨w.heap.size, 2, none⟩ = some (.slice ao t.attrs.length ca) ∧ wr.cell? ⟨w.heap.size + 1, 2, none⟩ = some (.slice bo t.attrs.length cb) ∧ Below w.heap.size w wr := by
    intro wr b
    refine ⟨cell_of ((b.block _ (by first | (simp; done) | (simp; omega))).trans hx) rfl, cell_of ((b.block _ (by first | (simp; done) | (simp; omega))).trans hy) rfl, hB.trans (below_less b (by first | (simp; done) | (simp; omega)))⟩
  have hattr : ∀ wr, Below w.heap.size w wr → ∀ i, i < t.attrs.length → ∃ ga gb, ao = some ⟨ga, 0, none⟩ ∧ bo = some ⟨gb, 0, none⟩ ∧ ∃ x y : ByteArray, wr.cell? ⟨ga, i * 2, none⟩ = some (.string x) ∧ wr.cell? ⟨ga, i * 2 + 1, none⟩ = some (.string y) ∧ wr.cell? ⟨gb, i * 2, none⟩ = some (.string x) ∧ wr.cell? ⟨gb, i * 2 + 1, none⟩ = some (.string y) := by
    intro wr b i hi
    have h1' := h1
    have h2' := h2
    rcases h1'.2 with ⟨e, e0⟩ | ⟨ga, ca', cur, e, _⟩
    · omega
    rcases h2'.2 with ⟨e', e0⟩ | ⟨gb, cb', cur', e', _⟩
    · simp only at e0; omega
    cases e
    cases e'
    have o1 := attr_cells h1 i hi
    have o2 := attr_cells (l := t.attrs) h2 i hi
    have lt1 : ga < w.heap.size := World.block_lt_of_cell? w _ o1.1
    have lt2 : gb < w.heap.size := World.block_lt_of_cell? w _ o2.1
    exact ⟨ga, gb, rfl, rfl, _, _, (b.cell (p := ⟨ga, i * 2, none⟩) lt1).trans o1.1, (b.cell (p := ⟨ga, i * 2 + 1, none⟩) lt1).trans o1.2, (b.cell (p := ⟨gb, i * 2, none⟩) lt2).trans o2.1, (b.cell (p := ⟨gb, i * 2 + 1, none⟩) lt2).trans o2.2⟩
  have hmax : (t.attrs.length : Int) ≤ 9223372036854775807 := by
    rcases h1.2 with ⟨e, e0⟩ | ⟨ga, ca', cur, e, _, _, x1, x2, _⟩
    · omega
    · have : maxLen = 9223372036854775807 := rfl
      omega
  have HC := hide hcell
  have HAT := hide hattr
  have hgd := guard52
  have hne := neq52
  clear hcell hattr hB hx hy h1 h2
  unfold strV
  unfold boxT at HC
  generalize t.attrs.length = n at *
  go_enter Tryz.func20, Tryz.ntmps20
  go_wp2_with fail
  go_loopw [5] (fun i wr => ∃ k : Nat, i = .int .i64 k ∧ k ≤ n ∧ Below ((w.alloc (.cells #[.int .i64 t.kind, .string ⟨t.name.toArray⟩, .slice ao n ca, .string ⟨t.text.toArray⟩, .int .i64 t.at_] 49)).alloc (.cells #[.int .i64 t.kind, .string ⟨t.name.toArray⟩, .slice bo n cb, .string ⟨t.text.toArray⟩, .int .i64 q'] 49)).heap.size ((w.alloc (.cells #[.int .i64 t.kind, .string ⟨t.name.toArray⟩, .slice ao n ca, .string ⟨t.text.toArray⟩, .int .i64 t.at_] 49)).alloc (.cells #[.int .i64 t.kind, .string ⟨t.name.toArray⟩, .slice bo n cb, .string ⟨t.text.toArray⟩, .int .i64 q'] 49)) wr) (fun i _ => n - (RowKit.intOf i).toNat)
  case atStart => exact ⟨0, rfl, Nat.zero_le _, Below.refl _ _⟩
  case round =>
    obtain ⟨k, rfl, hk, hb⟩ := hrel
    obtain ⟨d1, d2, d3⟩ := HC.out _ hb
    by_cases hlt : k < n
    · obtain ⟨ga, gb, rfl, rfl, x, y, g1, g2, g3, g4⟩ := HAT.out _ d3 k hlt
      have hdec : decide ((k : Int) < n) = true := by simp; omega
      have D3 := hide d3
      have HB := hide hb
      clear hb d3
      go_wp2_with fail
      go_quiet (fail)
      go_wp2
      go_roundw
      case rel => exact ⟨k + 1, by simp, by omega, below_drewN HB.out _⟩
      case measure => simp only [RowKit.intOf]; omega
    · have hdec : decide ((k : Int) < n) = false := by simp; omega
      have D3 := hide d3
      clear hb d3
      go_wp2
      go_ret
      exact ⟨rfl, D3.out⟩
end Go.Proofs.YtgognegkcplcpaaGreatDoor

namespace Go.Proofs.YtgognegkcplcpaaGreatDoor
open Go.RowKit Go.Maps Go.Lib
variable {F F' G A B : Nat → Prop} {R : Nat} {w w' w'' wr w1 : World} {a : Addr} {v v1 v2 : Value} {N n : Nat} {l l1 l2 : List Tok}
def aliveText : ByteArray := ⟨#[60, 97, 32, 107, 61, 39, 49, 39, 62, 120, 60, 47, 97, 62]⟩
def aliveToks : List Tok := [⟨1, [97], [([107], [49])], [], 0⟩, ⟨3, [], [], [120], 9⟩, ⟨2, [97], [], [], 10⟩]
theorem alive_all : allP aliveText = (aliveToks, 0, 0) := by kernel_rfl
theorem Ans.at (h : Ans A w v l) (i : Nat) (hi : i < l.length) : ∃ g cap va, v = .slice (some ⟨g, 0, none⟩) l.length cap ∧ w.ownsRow 0 52 2 va (l[i]).attrs.length (attrCells (l[i]).attrs) ∧
    w.cell? ⟨g, i * 5, none⟩ = some (.int .i64 (l[i]).kind) ∧ w.cell? ⟨g, i * 5 + 1, none⟩ = some (strV (l[i]).name) ∧ w.cell? ⟨g, i * 5 + 2, none⟩ = some va ∧ w.cell? ⟨g, i * 5 + 3, none⟩ = some (strV (l[i]).text) ∧ w.cell? ⟨g, i * 5 + 4, none⟩ = some (.int .i64 (l[i]).at_) ∧ l.length ≤ maxLen := by
  obtain ⟨cs, h1, h2, h3⟩ := h
  have h1' := h1
  rcases h1'.2 with ⟨e, e0⟩ | ⟨g, cap, cur, e, _, _, hm1, hm2, _⟩
  · omega
  subst e
  have hc := h1.cells (g := g) rfl
  have key : ∀ (l : List Tok) (cs : List Value), Toks A 0 w nilS l cs → ∀ (i : Nat) (hi : i < l.length), ∃ va, w.ownsRow 0 52 2 va (l[i]).attrs.length (attrCells (l[i]).attrs) ∧ cs[i * 5]? = some (.int .i64 (l[i]).kind) ∧ cs[i * 5 + 1]? = some (strV (l[i]).name) ∧ cs[i * 5 + 2]? = some va ∧ cs[i * 5 + 3]? = some (strV (l[i]).text) ∧ cs[i * 5 + 4]? = some (.int .i64 (l[i]).at_) := by
    intro l cs h
    induction h with
    | nil => intro i hi; cases hi
    | cons t v l cs ho hf hl ih =>
      intro i hi
      cases i with
      | zero => exact ⟨v, ho, rfl, rfl, rfl, rfl, rfl⟩
      | succ i =>
        obtain ⟨va, a0, a1, a2, a3, a4, a5⟩ := ih i (by simpa using hi)
        have e1 : ∀ j, (i + 1) * 5 + j = (tokCells t v).length + (i * 5 + j) := fun j => by show _ = 5 + _; omega
        have e2 : ∀ j, (tokCells t v ++ cs)[(i + 1) * 5 + j]? = cs[i * 5 + j]? := fun j => by rw [e1, List.getElem?_append_right (Nat.le_add_right _ _), Nat.add_sub_cancel_left]
        exact ⟨va, a0, (e2 0).trans a1, (e2 1).trans a2, (e2 2).trans a3, (e2 3).trans a4, (e2 4).trans a5⟩
  obtain ⟨va, a0, a1, a2, a3, a4, a5⟩ := key l cs h2 i hi
  have up : ∀ j u, cs[j]? = some u → w.cell? ⟨g, j, none⟩ = some u := fun j u hj => by
    have := hc j u hj
    rwa [Addr.add_mid, Nat.zero_add] at this
  exact ⟨g, cap, va, rfl, a0, up _ _ a1, up _ _ a2, up _ _ a3, up _ _ a4, up _ _ a5, Nat.le_trans hm1 hm2⟩
set_option maxHeartbeats 4000000 in
set_option maxRecDepth 10000 in
theorem alive_ok (gl : Gl w a) : Calls Tryz.prog 13 #[] w fun e w' => e = .returned (.bool true) ∧ Below w.heap.size w w' := by
  have hall := all_ok aliveText w gl (by decide)
  rw [alive_all] at hall
  have hall2 : Calls Tryz.prog 9 #[.string aliveText] w fun e w' => ∃ g cap ao ca, e = .returned (.tuple #[.slice (some ⟨g, 0, none⟩) 3 cap, .int .i64 0, .int .i64 0]) ∧ w'.cell? ⟨g, 1, none⟩ = some (.string ⟨#[97]⟩) ∧ w'.cell? ⟨g, 2, none⟩ = some (.slice ao 1 ca) ∧ w'.cell? ⟨g, 8, none⟩ = some (.string ⟨#[120]⟩) ∧ Below w.heap.size w w' := by
    refine hall.mono ?_
    rintro e w' ⟨v, A, rfl, an, b, _, _⟩
    obtain ⟨g, cap, va, e1, ow, _, x1, x2, _⟩ := an.at 0 (by decide)
    obtain ⟨g', cap', va', e2, _, _, _, _, y3, _⟩ := an.at 1 (by decide)
    subst e1
    cases e2
    obtain ⟨ao, ca, e3⟩ := slice_len ow
    subst e3
    exact ⟨g, cap, ao, ca, rfl, x1, x2, y3, b⟩
  have hnum := num_ok 0
  unfold aliveText at hall2
  clear hall gl
  go_enter Tryz.func13, Tryz.ntmps13
  go_wp2_with (first | (go_at_call 9; refine hall2.mono ?_; rintro e w2 ⟨g, cap, ao, ca, rfl, x1, x2, x3, b⟩) | (go_at_call 12; refine (hnum _).mono ?_; rintro e w3 ⟨rfl, rfl⟩))
  go_ret
  exact ⟨rfl, b⟩
end Go.Proofs.YtgognegkcplcpaaGreatDoor

namespace Go.Proofs.YtgognegkcplcpaaGreatDoor
open Go.RowKit Go.Maps Go.Lib
variable {F F' G A B : Nat → Prop} {R : Nat} {w w' w'' wr w1 : World} {a : Addr} {v v1 v2 lv : Value} {N n : Nat} {l l1 l2 : List Tok} {r : PR} {b : ByteArray} {i : Nat}
theorem mrun_flags : ∀ (n : Nat) (s : Src) (pt : Part) (st : St), (mrun n s pt st).s.no = s.no ∧ (mrun n s pt st).s.fat = s.fat ∧ (mrun n s pt st).s.closed = s.closed ∧ ∀ no q, (mrun n s pt st).ret = .fail no q → no ≠ 0 := by
  intro n
  induction n with
  | zero => intro s pt st; exact ⟨rfl, rfl, rfl, fun _ _ e => by cases e⟩
  | succ n ih =>
    intro s pt st
    have hf := took_flags s
    have he := stepPart_ends pt s.took.1.at_ st s.took.2
    simp only [mrun]
    split
    · exact ⟨rfl, rfl, rfl, fun _ _ e => by cases e⟩
    · generalize hr : (stepPart pt s.took.1.at_ st s.took.2).res = rr
      cases rr with
      | go pt' =>
        have := ih s.took.1 pt' (stepPart pt s.took.1.at_ st s.took.2).st
        exact ⟨this.1.trans hf.2.1, this.2.1.trans hf.2.2.1, this.2.2.1.trans hf.2.2.2.1, this.2.2.2⟩
      | stop => exact ⟨hf.2.1, hf.2.2.1, hf.2.2.2.1, fun _ _ e => by cases e⟩
      | fail no q =>
        refine ⟨hf.2.1, hf.2.2.1, hf.2.2.2.1, fun _ _ e => ?_⟩
        cases e
        exact he.fail _ _ hr
def Flat (r : PR) : Prop := r.s.no = 0 → r.s.fat = 0
theorem tells_flat {n : Nat} {s : Src} {pt : Part} {st : St} (h : s.no = 0 → s.fat = 0) : Flat (tells (mrun n s pt st)).1 := by
  have hm := mrun_flags n s pt st
  unfold tells Flat
  generalize mrun n s pt st = m at *
  cases hr : m.ret with
  | more => intro h0; exact hm.2.1.trans (h (hm.1.symm.trans h0))
  | over => intro h0; exact hm.2.1.trans (h (hm.1.symm.trans h0))
  | fail no q => intro h0; exact absurd h0 (hm.2.2.2 no q hr)
theorem write_flat (h : Flat r) (b : ByteArray) : Flat (r.write b).1 := by
  unfold PR.write
  split
  · exact h
  · split
    · rename_i pt _
      exact tells_flat (n := (r.s.rest ++ b).size + 1) (s := { r.s with rest := r.s.rest ++ b }.bare) (pt := pt) (st := r.st) (by exact h)
    · exact h
theorem close_flat (h : Flat r) : Flat r.close.1 := by
  unfold PR.close
  split
  · exact h
  split
  · exact h
  · split
    · rename_i pt _
      show Flat (shut (tells (reads { r.s with closed := true, ended := true }.bare pt r.st))).1
      have := tells_flat (n := r.s.rest.size + 1) (s := { r.s with closed := true, ended := true }.bare) (pt := pt) (st := r.st) (by exact h)
      exact this
    · exact h
theorem err_flat (h : Flat r) (h0 : r.err.1 = 0) : r.err.2 = 0 := by
  unfold PR.err at *
  split at h0
  · rename_i hc; rw [if_pos hc]; exact h h0
  · rename_i hc; rw [if_neg hc]
theorem flat_new : Flat PR.new := fun _ => rfl
theorem take_next (b : ByteArray) (i : Nat) (_h : i < b.size) : b.extract 0 (i + 1) = b.extract 0 i ++ b.extract i (i + 1) := by
  apply ByteArray.ext
  apply Array.ext'
  simp only [ByteArray.data_extract, ByteArray.data_append, Array.toList_extract, Array.toList_append, List.extract_eq_take_drop, List.drop_zero, Nat.sub_zero]
  rw [List.take_add, Nat.add_sub_cancel_left]
theorem take_all (b : ByteArray) : b.extract 0 b.size = b := by simp
structure WI (w : World) (b : ByteArray) (wr : World) (lv : Value) (i : Nat) : Prop where
  ex : ∃ F A, Alive F w.heap.size wr (PR.new.write (b.extract 0 i)).1 ∧ Ans A wr lv (PR.new.write (b.extract 0 i)).2 ∧ Below w.heap.size w wr ∧ (∀ k, F k → w.heap.size ≤ k) ∧ (∀ k, A k → w.heap.size ≤ k ∧ k < wr.heap.size ∧ ¬ F k) ∧ w.heap.size < wr.heap.size
theorem Gl.below (gl : Gl w a) {K : Nat} (hK : 4 < K) (h : Below K w w') : Gl w' a :=
  gl.frame (F := fun k => K ≤ k) ⟨h.os, h.tape, h.output, h.size, fun k _ hf => h.block k (by omega)⟩ (fun k hk x => by omega)
theorem WI.start : WI w b (w.alloc (.cells newCells 71)) nilS 0 := by
  have e : b.extract 0 0 = ⟨#[]⟩ := by apply ByteArray.ext; simp
  refine ⟨fun k => k = w.heap.size, fun _ => False, ?_, ?_, (Below.refl _ _).alloc (Nat.le_refl _) _, fun k e => by omega, fun k x => x.elim, by simp⟩
  · rw [e, new_write_none]; exact new_alive w
  · rw [e, new_write_none]; exact ⟨[], owns_nil _ _ _, .nil, fun k e => absurd e (nil_block k)⟩
theorem WI.step (gl : Gl w a) (h : WI w b wr lv i) (hi : i < b.size) (hb : b.size ≤ 2147483648) :
    Calls Tryz.prog 15 #[.pointer (some ⟨w.heap.size, 0, none⟩), .string (b.extract i (i + 1))] wr fun e w2 => ∃ v1, e = .returned v1 ∧ ∃ v' w3, (Builtin.append_ #[22, 22] 22 #[lv, v1]).run Tryz.prog w2 = .ok v' w3 ∧ WI w b w3 v' (i + 1) := by
  obtain ⟨F, A, al, an, bl, hF, hA, hz⟩ := h
  have h4 := gl.size
  have glr := gl.below h4 bl
  have lo : Low F := fun k hk x => by have := hF k x; omega
  have hg : Good (PR.new.write (b.extract 0 i)).1 (0 + (b.extract 0 i).size) := write_good good_new _
  have hs1 : (b.extract 0 i).size = i := by simp; omega
  have hs2 : (b.extract i (i + 1)).size = 1 := by simp; omega
  refine (write_pr al hg glr lo (b.extract i (i + 1)) (by omega)).mono ?_
  rintro e w2 ⟨v1, A1, F1, rfl, an1, al1, fr1, h1, h2⟩
  have hz2 := fr1.size
  have an' : Ans A w2 lv (PR.new.write (b.extract 0 i)).2 := an.old (fun k hk hAk => fr1.block k hk (hA k hAk).2.2) (fun _ _ x => x)
  have hwa := write_append (N := 0) good_new (b.extract 0 i) (b.extract i (i + 1))
  rw [← take_next b i hi] at hwa
  have hbd : (PR.new.write (b.extract 0 i)).2.length + ((PR.new.write (b.extract 0 i)).1.write (b.extract i (i + 1))).2.length ≤ 68719476736 := by
    have t1 := write_told good_new (b.extract 0 i)
    have t2 := write_told hg (b.extract i (i + 1))
    omega
  obtain ⟨v', w3, hrun, an3, gr⟩ := ans_append an' an1 hbd
  refine ⟨v1, rfl, v', w3, hrun, F1, fun k => (A k ∨ A1 k ∨ k = w2.heap.size) ∧ k < w3.heap.size, ?_, ?_, ?_, ?_, ?_, ?_⟩
  · rw [hwa]
    have hr : ∀ k, lv.ownBlock = some k → A k := fun k e => by obtain ⟨cs, _, _, h⟩ := an; exact h k e
    have hlt : ∀ k, F1 k → k < w2.heap.size := fun k hk => by obtain ⟨_, _, rep, _⟩ := al1; exact rep.lt k hk
    refine al1.keep (fun k hk => gr.block k (hlt k hk) (fun e => ?_)) gr.size
    have hAk := hr k e.symm
    exact (h2 k hk).elim (hA k hAk).2.2 (fun x => by have := (hA k hAk).2.1; omega)
  · rw [hwa]
    exact an3.old (fun _ _ _ => rfl) (fun k hk x => ⟨x, hk⟩)
  · refine bl.trans ((fr1.up hF (by omega)).trans (grown_up gr (fun k e => ?_) (by omega)))
    obtain ⟨cs, _, _, h⟩ := an
    exact (hA k (h k e)).1
  · exact fun k hk => (h2 k hk).elim (hF k) (fun x => by omega)
  · rintro k ⟨x | x | x, hk3⟩
    · exact ⟨(hA k x).1, hk3, fun y => (h2 k y).elim (hA k x).2.2 (fun z => by have := (hA k x).2.1; omega)⟩
    · exact ⟨(h1 k x).1.elim (hF k) (fun z => by omega), hk3, (h1 k x).2⟩
    · exact ⟨by omega, hk3, fun y => by obtain ⟨_, _, rep, _⟩ := al1; have := rep.lt k y; omega⟩
  · have := gr.size; omega
theorem WI.close (gl : Gl w a) (h : WI w b wr lv b.size) (hb : b.size ≤ 2147483648) :
    Calls Tryz.prog 18 #[.pointer (some ⟨w.heap.size, 0, none⟩)] wr fun e w2 => ∃ v1, e = .returned v1 ∧ ∃ v' w3 A, (Builtin.append_ #[22, 22] 22 #[lv, v1]).run Tryz.prog w2 = .ok v' w3 ∧ Ans A w3 v' ((PR.new.write b).2 ++ (PR.new.write b).1.close.2) ∧ Below w.heap.size w w3 ∧
      Calls Tryz.prog 17 #[.pointer (some ⟨w.heap.size, 0, none⟩)] w3 fun e w5 => e = .returned (.tuple #[.int .i64 (PR.new.write b).1.close.1.err.1, .int .i64 (PR.new.write b).1.close.1.err.2]) ∧ Below w3.heap.size w3 w5 := by
  obtain ⟨F, A, al, an, bl, hF, hA, hz⟩ := h
  rw [take_all] at al an
  have h4 := gl.size
  have glr := gl.below h4 bl
  have lo : Low F := fun k hk x => by have := hF k x; omega
  have hg : Good (PR.new.write b).1 (0 + b.size) := write_good good_new _
  have t1 := write_told good_new b
  have t2 := close_told hg
  refine (close_pr al hg glr lo (by omega)).mono ?_
  rintro e w2 ⟨v2, A2, F2, rfl, an2, al2, fr2, g1, g2⟩
  obtain ⟨v', w4, A', hrun, an4, al4, b4, hA', hF2⟩ := both_end (x := PR.new.write b) (y := (PR.new.write b).1.close) (K := w.heap.size) (by omega) an hA hF an2 al2 fr2 g1 g2 (by omega)
  exact ⟨v2, rfl, v', w4, A', hrun, an4, bl.trans b4, err_pr al4⟩
end Go.Proofs.YtgognegkcplcpaaGreatDoor

namespace Go.Proofs.YtgognegkcplcpaaGreatDoor
open Go.RowKit Go.Maps Go.Lib
variable {F F' G A B : Nat → Prop} {R : Nat} {w w' w'' wr w1 : World} {a : Addr} {v v1 v2 lv : Value} {N n : Nat} {l l1 l2 : List Tok} {r : PR} {b : ByteArray} {i : Nat}
structure Pair (w5 wr : World) (lv av : Value) (l : List Tok) (k : Nat) : Prop where
  ex : ∃ g cg h ch va vb kd nm tx q, lv = .slice (some ⟨g, 0, none⟩) l.length cg ∧ av = .slice (some ⟨h, 0, none⟩) l.length ch ∧
    (∀ W, Below w5.heap.size w5 W → (W.cell? ⟨g, k * 5, none⟩ = some (.int .i64 kd) ∧ W.cell? ⟨g, k * 5 + 1, none⟩ = some nm ∧ W.cell? ⟨g, k * 5 + 2, none⟩ = some va ∧ W.cell? ⟨g, k * 5 + 3, none⟩ = some tx ∧ W.cell? ⟨g, k * 5 + 4, none⟩ = some (.int .i64 q)) ∧
      (W.cell? ⟨h, k * 5, none⟩ = some (.int .i64 kd) ∧ W.cell? ⟨h, k * 5 + 1, none⟩ = some nm ∧ W.cell? ⟨h, k * 5 + 2, none⟩ = some vb ∧ W.cell? ⟨h, k * 5 + 3, none⟩ = some tx ∧ W.cell? ⟨h, k * 5 + 4, none⟩ = some (.int .i64 q))) ∧
    Calls Tryz.prog 20 #[.agg #[.int .i64 kd, nm, va, tx, .int .i64 q], .agg #[.int .i64 kd, nm, vb, tx, .int .i64 q]] wr.drew fun e w' => e = .returned (.bool true) ∧ Below w5.heap.size w5 w'
theorem pair_of (h1 : Ans A w lv l) (h2 : Ans B w v l) (k : Nat) (hk : k < l.length) (hb : Below w.heap.size w wr) : Pair w wr lv v l k := by
  obtain ⟨g, cg, va, rfl, o1, x0, x1, x2, x3, x4, _⟩ := h1.at k hk
  obtain ⟨h, ch, vb, rfl, o2, y0, y1, y2, y3, y4, _⟩ := h2.at k hk
  have lt1 : g < w.heap.size := World.block_lt_of_cell? w _ x0
  have lt2 : h < w.heap.size := World.block_lt_of_cell? w _ y0
  refine ⟨g, cg, h, ch, va, vb, _, _, _, _, rfl, rfl, fun W bW => ⟨⟨(bW.cell (p := ⟨g, k * 5, none⟩) lt1).trans x0, (bW.cell (p := ⟨g, k * 5 + 1, none⟩) lt1).trans x1, (bW.cell (p := ⟨g, k * 5 + 2, none⟩) lt1).trans x2, (bW.cell (p := ⟨g, k * 5 + 3, none⟩) lt1).trans x3, (bW.cell (p := ⟨g, k * 5 + 4, none⟩) lt1).trans x4⟩, (bW.cell (p := ⟨h, k * 5, none⟩) lt2).trans y0, (bW.cell (p := ⟨h, k * 5 + 1, none⟩) lt2).trans y1, (bW.cell (p := ⟨h, k * 5 + 2, none⟩) lt2).trans y2, (bW.cell (p := ⟨h, k * 5 + 3, none⟩) lt2).trans y3, (bW.cell (p := ⟨h, k * 5 + 4, none⟩) lt2).trans y4⟩, ?_⟩
  have bd : Below w.heap.size w wr.drew := below_drewN hb 1
  have keep : ∀ {vv : Value} {nn : Nat} {xs : List Value}, w.ownsRow 0 52 2 vv nn xs → wr.drew.ownsRow 0 52 2 vv nn xs := fun o => owns_of o fun j e => by
    obtain ⟨cur, hc⟩ := owns_blk o e
    exact bd.block j (blk_lt hc)
  refine (alike_same (l[k]) (l[k]) va vb wr.drew (keep o1) (keep o2) rfl rfl rfl rfl).mono ?_
  rintro e w' ⟨rfl, bw⟩
  exact ⟨rfl, bd.trans (below_less bw bd.size)⟩
theorem slice_of (h : Ans A w v l) : ∃ b c, v = .slice b l.length c ∧ l.length ≤ maxLen := by
  obtain ⟨cs, o, _, _⟩ := h
  rcases o.2 with ⟨rfl, e⟩ | ⟨g, cap, cur, rfl, _, _, h1, h2, _⟩
  · rw [e]; exact ⟨none, 0, rfl, Nat.zero_le _⟩
  · exact ⟨_, _, rfl, Nat.le_trans h1 h2⟩
theorem eql_nils (w : World) : (binOp .eql 22 (.slice none 0 0) (.slice none 0 0)).run Tryz.prog w = .ok (.bool true) w := by kernel_rfl
set_option maxHeartbeats 8000000 in
set_option maxRecDepth 10000 in
theorem whole_ok (b : ByteArray) (w : World) (gl : Gl w a) (hb : b.size ≤ 2147483648) : Calls Tryz.prog 5 #[.string b] w fun e w' => e = .returned (.bool true) ∧ Below w.heap.size w w' := by
  have hnew := new_ok w
  have hst : WI w b (w.alloc (.cells newCells 71)) nilS 0 := WI.start
  have hstep := fun wr lv i (h : WI w b wr lv i) (hi : i < b.size) => WI.step gl h hi hb
  have hclose := fun wr lv (h : WI w b wr lv b.size) => WI.close gl h hb
  have hflat := err_flat (close_flat (write_flat flat_new b))
  have hgl := fun w' (h : Below w.heap.size w w') => gl.below gl.size h
  have hall := fun w' (h : Below w.heap.size w w') => all_ok b w' (hgl w' h) hb
  have hali := fun w' (h : Below w.heap.size w w') => alive_ok (hgl w' h)
  have HS := hide hst
  have HT := hide hstep
  have HC := hide hclose
  have HAL := hide hall
  have HLI := hide hali
  clear hst hstep hclose hgl hall hali gl
  have hnum := num_ok
  have heql := eql_nils
  go_enter Tryz.func5, Tryz.ntmps5
  go_wp2_with (go_at_call 14; refine hnew.mono ?_; rintro e wn ⟨rfl, rfl⟩)
  go_loopw [4, 5] (fun lv iv wr => ∃ i : Nat, iv = .int .i64 i ∧ i ≤ b.size ∧ WI w b wr lv i) (fun _ iv _ => b.size - (RowKit.intOf iv).toNat)
  case atStart => exact ⟨0, rfl, Nat.zero_le _, HS.out⟩
  case round =>
    obtain ⟨i, rfl, hi, hw⟩ := hrel
    by_cases hlt : i < b.size
    · have hdec : decide ((i : Int) < b.size) = true := by simp; omega
      have hcall := HT.out _ _ _ hw hlt
      have HW := hide hw
      clear hw
      go_wp2_with (first | (go_at_call 15; refine hcall.mono ?_; rintro e w2 ⟨v1, rfl, v', w3, hrun, hw3⟩; have HW3 := hide hw3; clear hw3) | (at_builtin; refine wpList_app rfl (.tmp 31) (.tmp 32) rfl rfl _ _ rfl rfl hrun ?_))
      go_roundw
      case rel => exact ⟨i + 1, by simp, by omega, HW3.out⟩
      case measure => simp only [RowKit.intOf]; omega
    · have hdec : decide ((i : Int) < b.size) = false := by simp; omega
      have he : i = b.size := by omega
      subst he
      have hcl := HC.out _ _ hw
      clear hw
      cases hbad : ((PR.new.write b).1.close.1.err.1 != 0)
      · have e1 : (PR.new.write b).1.close.1.err.1 = 0 := by simpa using hbad
        have e2 := hflat e1
        have eall := allP_ok hbad
        rw [e1, e2] at hcl
        clear hbad hflat
        have hall2 : ∀ w', Below w.heap.size w w' → Calls Tryz.prog 9 #[.string b] w' fun e w5 => ∃ av B, e = .returned (.tuple #[av, .int .i64 0, .int .i64 0]) ∧ Ans B w5 av ((PR.new.write b).2 ++ (PR.new.write b).1.close.2) ∧ Below w'.heap.size w' w5 := by
          intro w' bw
          refine (HAL.out w' bw).mono ?_
          rintro e w5 ⟨av, B, rfl, an, b5, _, _⟩
          rw [eall] at an
          refine ⟨av, B, ?_, an, b5⟩
          rw [eall]
        have HA2 := hide hall2
        clear hall2 HAL eall e1 e2
        generalize (PR.new.write b).2 ++ (PR.new.write b).1.close.2 = L at *
        go_wp2_with (first | (go_at_call 18; refine hcl.mono ?_; rintro e w2 ⟨v1, rfl, lv, w3, A, hrun, an3, b3, herr⟩; have AN := hide an3; have B3 := hide b3; clear an3 b3) | (at_builtin; refine wpList_app rfl (.tmp 36) (.tmp 37) rfl rfl _ _ rfl rfl hrun ?_) | (go_at_call 17; refine herr.mono ?_; rintro e w4 ⟨rfl, b4⟩; have B4 := hide (B3.out.trans (below_less b4 B3.out.size)); have AN4 := hide (AN.out.old (w' := w4) (B := A) (fun k hk _ => b4.block k hk) (fun _ _ x => x)); clear b4) | (go_at_call 9; refine (HA2.out _ B4.out).mono ?_; rintro e w5 ⟨av, B, rfl, an5, b5⟩; have B5 := hide (B4.out.trans (below_less b5 B4.out.size)); have AN5 := hide an5; have ANL := hide (AN4.out.old (w' := w5) (B := A) (fun k hk _ => b5.block k hk) (fun _ _ x => x)); obtain ⟨bl, cl, el, hmx⟩ := slice_of ANL.out; obtain ⟨ba, ca, ea, _⟩ := slice_of AN5.out; subst el; subst ea; clear an5 b5) | (go_at_call 12; refine (hnum _ _).mono ?_; rintro e wx ⟨rfl, hwx⟩; have hwy := hwx.symm; clear hwx; subst hwy))
        have bmx : (L.length : Int) ≤ 9223372036854775807 := by have : maxLen = 9223372036854775807 := rfl; omega
        clear hcl
        go_loopw [13, 14] (fun iv _ wr => ∃ k : Nat, iv = .int .i64 k ∧ k ≤ L.length ∧ Below w5.heap.size w5 wr) (fun iv _ _ => L.length - (RowKit.intOf iv).toNat)
        case atStart => exact ⟨0, rfl, Nat.zero_le _, Below.refl _ _⟩
        case round =>
          obtain ⟨k, rfl, hk, hbr⟩ := hrel
          by_cases hkl : k < L.length
          · have hdec2 : decide ((k : Int) < L.length) = true := by simp; omega
            have hpr := pair_of ANL.out AN5.out k hkl hbr
            obtain ⟨g, cg, h, ch, va, vb, kd, nm, tx, q, eg, eh, hcs, hcall⟩ := hpr.ex
            clear hpr
            cases eg
            cases eh
            obtain ⟨⟨x0, x1, x2, x3, x4⟩, y0, y1, y2, y3, y4⟩ := hcs wr hbr
            have HBR := hide hbr
            have HCS := hide hcs
            clear hbr hcs
            go_wp2_with fail
            go_region_held3 (fun W => (W.cell? ⟨g, k * 5, none⟩ = some (.int .i64 kd) ∧ W.cell? ⟨g, k * 5 + 1, none⟩ = some nm ∧ W.cell? ⟨g, k * 5 + 2, none⟩ = some va ∧ W.cell? ⟨g, k * 5 + 3, none⟩ = some tx ∧ W.cell? ⟨g, k * 5 + 4, none⟩ = some (.int .i64 q)) ∧ (W.cell? ⟨h, k * 5, none⟩ = some (.int .i64 kd) ∧ W.cell? ⟨h, k * 5 + 1, none⟩ = some nm ∧ W.cell? ⟨h, k * 5 + 2, none⟩ = some vb ∧ W.cell? ⟨h, k * 5 + 3, none⟩ = some tx ∧ W.cell? ⟨h, k * 5 + 4, none⟩ = some (.int .i64 q)))
              (first | exact ⟨⟨x0, x1, x2, x3, x4⟩, y0, y1, y2, y3, y4⟩ | exact HCS.out _ bw6)
              (first | (go_at_call 20; refine hcall.mono ?_; rintro e w6 ⟨rfl, bw6⟩))
            all_goals
              obtain ⟨⟨_, _, _, _, z4⟩, _, _, _, _, t4⟩ := HCS.out _ bw6
              have BW6 := hide bw6
              clear bw6 hcall x0 x1 x2 x3 x4 y0 y1 y2 y3 y4
              go_wp2_with fail
              go_quiet (fail)
              go_wp2
              go_roundw
              case rel => exact ⟨k + 1, by simp, by omega, below_drewN BW6.out _⟩
              case measure => simp only [RowKit.intOf]; omega
          · have hdec2 : decide ((k : Int) < L.length) = false := by simp; omega
            have B7 := hide (B5.out.trans (below_less hbr B5.out.size))
            clear hbr
            go_wp2_with (go_at_call 13; refine (HLI.out _ B7.out).mono ?_; rintro e w6 ⟨rfl, b6⟩; have B6 := hide (B7.out.trans (below_less b6 B7.out.size)); clear b6)
            go_ret
            exact ⟨rfl, B6.out⟩
      · have hne : (PR.new.write b).1.close.1.err.1 ≠ 0 := by simpa using hbad
        have eall := allP_bad hbad
        have hall2 : ∀ w', Below w.heap.size w w' → Calls Tryz.prog 9 #[.string b] w' fun e w5 => e = .returned (.tuple #[.slice none 0 0, .int .i64 (PR.new.write b).1.close.1.err.1, .int .i64 (PR.new.write b).1.close.1.err.2]) ∧ Below w'.heap.size w' w5 := by
          intro w' bw
          refine (HAL.out w' bw).mono ?_
          rintro e w5 ⟨av, B, rfl, an, b5, _, hx⟩
          rw [eall] at hx
          have := hx hne
          subst this
          refine ⟨?_, b5⟩
          rw [eall]
        have HA2 := hide hall2
        clear hall2 HAL eall hne hflat
        generalize (PR.new.write b).1.close.1.err.1 = er1 at *
        generalize (PR.new.write b).1.close.1.err.2 = er2 at *
        go_wp2_with (first | (go_at_call 18; refine hcl.mono ?_; rintro e w2 ⟨v1, rfl, lv, w3, A, hrun, an3, b3, herr⟩; have B3 := hide b3; clear an3 b3) | (at_builtin; refine wpList_app rfl (.tmp 36) (.tmp 37) rfl rfl _ _ rfl rfl hrun ?_) | (go_at_call 17; refine herr.mono ?_; rintro e w4 ⟨rfl, b4⟩; have B4 := hide (B3.out.trans (below_less b4 B3.out.size)); clear b4) | (go_at_call 9; refine (HA2.out _ B4.out).mono ?_; rintro e w5 ⟨rfl, b5⟩; have B5 := hide (B4.out.trans (below_less b5 B4.out.size)); clear b5) | (go_at_call 12; refine (hnum _ _).mono ?_; rintro e wx ⟨rfl, hwx⟩; have hwy := hwx.symm; clear hwx; subst hwy) | (go_at_call 13; refine (HLI.out _ B5.out).mono ?_; rintro e w6 ⟨rfl, b6⟩; have B6 := hide (B5.out.trans (below_less b6 B5.out.size)); clear b6))
        go_ret
        exact ⟨rfl, B6.out⟩
end Go.Proofs.YtgognegkcplcpaaGreatDoor

set_option linter.unusedSimpArgs false
set_option linter.unusedVariables false
namespace Go.Proofs.YtgognegkcplcpaaGreatDoor
open Go.RowKit Go.Maps Go.Lib
variable {F F' G A B : Nat → Prop} {R : Nat} {w w' w'' wr w1 : World} {a : Addr} {v v1 v2 : Value} {N n : Nat} {l l1 l2 : List Tok}
def boxR (t : Tok) (v : Value) : Obj := .cells #[.int .i64 t.kind, .string ⟨t.name.toArray⟩, v, .string ⟨t.text.toArray⟩, .int .i64 t.at_] 57
set_option maxHeartbeats 4000000 in
set_option maxRecDepth 10000 in
theorem one_same (t : Tok) (va vb : Value) (w : World) (h1 : w.ownsRow 0 52 2 va t.attrs.length (attrCells t.attrs)) (h2 : w.ownsRow 0 76 2 vb t.attrs.length (attrCells t.attrs)) :
    Calls Tryz.prog 22 #[tokV t va, tokV t vb] w fun e w' => e = .returned (.bool true) ∧ Below w.heap.size w w' := by
  unfold tokV
  obtain ⟨ao, ca, hva⟩ := slice_len h1
  obtain ⟨bo, cb, hvb⟩ := slice_len h2
  subst hva
  subst hvb
  have hB : Below w.heap.size w ((w.alloc (boxT t (.slice ao t.attrs.length ca))).alloc (boxR t (.slice bo t.attrs.length cb))) := ((Below.refl _ _).alloc (Nat.le_refl _) _).alloc (by simp) _
  have hx : ((w.alloc (boxT t (.slice ao t.attrs.length ca))).alloc (boxR t (.slice bo t.attrs.length cb))).heap[w.heap.size]? = some (boxT t (.slice ao t.attrs.length ca)) := by
    rw [Below.heap_alloc _ _ _ (by simp)]; exact Below_new _ _
  have hy : ((w.alloc (boxT t (.slice ao t.attrs.length ca))).alloc (boxR t (.slice bo t.attrs.length cb))).heap[w.heap.size + 1]? = some (boxR t (.slice bo t.attrs.length cb)) := by
    have := Below_new (w.alloc (boxT t (.slice ao t.attrs.length ca))) (boxR t (.slice bo t.attrs.length cb))
    simpa using this
  have hcell : ∀ wr, Below ((w.alloc (boxT t (.slice ao t.attrs.length ca))).alloc (boxR t (.slice bo t.attrs.length cb))).heap.size ((w.alloc (boxT t (.slice ao t.attrs.length ca))).alloc (boxR t (.slice bo t.attrs.length cb))) wr →
      wr.cell? ⟨w.heap.size, 2, none⟩ = some (.slice ao t.attrs.length ca) ∧ wr.cell? ⟨w.heap.size + 1, 2, none⟩ = some (.slice bo t.attrs.length cb) ∧ Below w.heap.size w wr := by
    intro wr b
    refine ⟨cell_of ((b.block _ (by first | (simp; done) | (simp; omega))).trans hx) rfl, cell_of ((b.block _ (by first | (simp; done) | (simp; omega))).trans hy) rfl, hB.trans (below_less b (by first | (simp; done) | (simp; omega)))⟩
  have hattr : ∀ wr, Below w.heap.size w wr → ∀ i, i < t.attrs.length → ∃ ga gb, ao = some ⟨ga, 0, none⟩ ∧ bo = some ⟨gb, 0, none⟩ ∧ ∃ x y : ByteArray, wr.cell? ⟨ga, i * 2, none⟩ = some (.string x) ∧ wr.cell? ⟨ga, i * 2 + 1, none⟩ = some (.string y) ∧ wr.cell? ⟨gb, i * 2, none⟩ = some (.string x) ∧ wr.cell? ⟨gb, i * 2 + 1, none⟩ = some (.string y) := by
    intro wr b i hi
    have h1' := h1
    have h2' := h2
    rcases h1'.2 with ⟨e, e0⟩ | ⟨ga, ca', cur, e, _⟩
    · omega
    rcases h2'.2 with ⟨e', e0⟩ | ⟨gb, cb', cur', e', _⟩
    · omega
    cases e
    cases e'
    have o1 := attr_cells h1 i hi
    have o2 := rattr_cells (l := t.attrs) h2 i hi
    have lt1 : ga < w.heap.size := World.block_lt_of_cell? w _ o1.1
    have lt2 : gb < w.heap.size := World.block_lt_of_cell? w _ o2.1
    exact ⟨ga, gb, rfl, rfl, _, _, (b.cell (p := ⟨ga, i * 2, none⟩) lt1).trans o1.1, (b.cell (p := ⟨ga, i * 2 + 1, none⟩) lt1).trans o1.2, (b.cell (p := ⟨gb, i * 2, none⟩) lt2).trans o2.1, (b.cell (p := ⟨gb, i * 2 + 1, none⟩) lt2).trans o2.2⟩
  have hmax : (t.attrs.length : Int) ≤ 9223372036854775807 := by
    rcases h1.2 with ⟨e, e0⟩ | ⟨ga, ca', cur, e, _, _, x1, x2, _⟩
    · omega
    · have : maxLen = 9223372036854775807 := rfl
      omega
  have HC := hide hcell
  have HAT := hide hattr
  clear hcell hattr hB hx hy h1 h2
  unfold strV
  unfold boxT boxR at HC
  generalize t.attrs.length = n at *
  go_enter Tryz.func22, Tryz.ntmps22
  go_wp2_with fail
  go_loopw [5] (fun i wr => ∃ k : Nat, i = .int .i64 k ∧ k ≤ n ∧ Below ((w.alloc (.cells #[.int .i64 t.kind, .string ⟨t.name.toArray⟩, .slice ao n ca, .string ⟨t.text.toArray⟩, .int .i64 t.at_] 49)).alloc (.cells #[.int .i64 t.kind, .string ⟨t.name.toArray⟩, .slice bo n cb, .string ⟨t.text.toArray⟩, .int .i64 t.at_] 57)).heap.size ((w.alloc (.cells #[.int .i64 t.kind, .string ⟨t.name.toArray⟩, .slice ao n ca, .string ⟨t.text.toArray⟩, .int .i64 t.at_] 49)).alloc (.cells #[.int .i64 t.kind, .string ⟨t.name.toArray⟩, .slice bo n cb, .string ⟨t.text.toArray⟩, .int .i64 t.at_] 57)) wr) (fun i _ => n - (RowKit.intOf i).toNat)
  case atStart => exact ⟨0, rfl, Nat.zero_le _, Below.refl _ _⟩
  case round =>
    obtain ⟨k, rfl, hk, hb⟩ := hrel
    obtain ⟨d1, d2, d3⟩ := HC.out _ hb
    by_cases hlt : k < n
    · obtain ⟨ga, gb, rfl, rfl, x, y, g1, g2, g3, g4⟩ := HAT.out _ d3 k hlt
      have hdec : decide ((k : Int) < n) = true := by simp; omega
      have D3 := hide d3
      have HB := hide hb
      clear hb d3
      go_wp2_with fail
      go_quiet (fail)
      go_wp2
      go_roundw
      case rel => exact ⟨k + 1, by simp, by omega, below_drewN HB.out _⟩
      case measure => simp only [RowKit.intOf]; omega
    · have hdec : decide ((k : Int) < n) = false := by simp; omega
      have D3 := hide d3
      clear hb d3
      go_wp2
      go_ret
      exact ⟨rfl, D3.out⟩
end Go.Proofs.YtgognegkcplcpaaGreatDoor

set_option linter.unusedSimpArgs false
set_option linter.unusedVariables false
namespace Go.Proofs.YtgognegkcplcpaaGreatDoor
open Go.RowKit Go.Maps Go.Lib
variable {F F' G A B : Nat → Prop} {R : Nat} {w w' w'' wr w1 : World} {a : Addr} {v v1 v2 lv : Value} {N n : Nat} {l l1 l2 : List Tok}
structure RTokAt (w : World) (h off k : Nat) (t : Tok) (vb : Value) : Prop where
  row : w.ownsRow 0 76 2 vb t.attrs.length (attrCells t.attrs)
  x0 : w.cell? ⟨h, off + k * 5, none⟩ = some (.int .i64 t.kind)
  x1 : w.cell? ⟨h, off + k * 5 + 1, none⟩ = some (strV t.name)
  x2 : w.cell? ⟨h, off + k * 5 + 2, none⟩ = some vb
  x3 : w.cell? ⟨h, off + k * 5 + 3, none⟩ = some (strV t.text)
  x4 : w.cell? ⟨h, off + k * 5 + 4, none⟩ = some (.int .i64 t.at_)
def RView (w : World) (v : Value) (l : List Tok) : Prop :=
  ∃ bo cap, v = .slice bo l.length cap ∧ l.length ≤ maxLen ∧ ∀ k (hk : k < l.length), ∃ h off vb, bo = some ⟨h, off, none⟩ ∧ RTokAt w h off k l[k] vb
theorem RToks.at {X : Nat} : ∀ {l : List Tok} {cs : List Value}, RToks F X w l cs → ∀ (i : Nat) (hi : i < l.length), ∃ va, w.ownsRow 0 76 2 va (l[i]).attrs.length (attrCells (l[i]).attrs) ∧ cs[i * 5]? = some (.int .i64 (l[i]).kind) ∧ cs[i * 5 + 1]? = some (strV (l[i]).name) ∧ cs[i * 5 + 2]? = some va ∧ cs[i * 5 + 3]? = some (strV (l[i]).text) ∧ cs[i * 5 + 4]? = some (.int .i64 (l[i]).at_)
  | [], _, _, i, hi => absurd hi (Nat.not_lt_zero _)
  | t :: l, _, ⟨v, cs, e, ho, hf, hl⟩, i, hi => by
    subst e
    cases i with
    | zero => exact ⟨v, ho, rfl, rfl, rfl, rfl, rfl⟩
    | succ i =>
      obtain ⟨va, a0, a1, a2, a3, a4, a5⟩ := RToks.at hl i (by simpa using hi)
      have e1 : ∀ j, (i + 1) * 5 + j = (tokCells t v).length + (i * 5 + j) := fun j => by show _ = 5 + _; omega
      have e2 : ∀ j, (tokCells t v ++ cs)[(i + 1) * 5 + j]? = cs[i * 5 + j]? := fun j => by rw [e1, List.getElem?_append_right (Nat.le_add_right _ _), Nat.add_sub_cancel_left]
      exact ⟨va, a0, (e2 0).trans a1, (e2 1).trans a2, (e2 2).trans a3, (e2 3).trans a4, (e2 4).trans a5⟩
theorem view_drop {X : Nat} {cs : List Value} {g cap : Nat} (h : w.ownsRow 0 57 5 (.slice (some ⟨g, 0, none⟩) l.length cap) l.length cs) (ht : RToks F X w l cs) (hm : l.length ≤ maxLen) (n : Nat) (hn : n ≤ l.length) (c : Nat) :
    RView w (.slice (some ⟨g, n * 5, none⟩) (l.length - n) c) (l.drop n) := by
  refine ⟨_, _, by rw [List.length_drop], by rw [List.length_drop]; omega, fun k hk => ?_⟩
  have hk' : n + k < l.length := by rw [List.length_drop] at hk; omega
  obtain ⟨va, a0, a1, a2, a3, a4, a5⟩ := ht.at (n + k) hk'
  have hc := h.cells (g := g) rfl
  have up : ∀ j u, cs[j]? = some u → w.cell? ⟨g, j, none⟩ = some u := fun j u hj => by
    have := hc j u hj
    rwa [Addr.add_mid, Nat.zero_add] at this
  have e0 : (l.drop n)[k] = l[n + k] := List.getElem_drop
  rw [e0]
  have e5 : (n + k) * 5 = n * 5 + k * 5 := by omega
  rw [e5] at a1 a2 a3 a4 a5
  exact ⟨g, n * 5, va, rfl, a0, up _ _ a1, up _ _ a2, up _ _ a3, up _ _ a4, up _ _ a5⟩
theorem RAns.view (h : RAns w v l) : RView w v l := by
  obtain ⟨F, X, cs, o, t⟩ := h
  have o' := o
  rcases o'.2 with ⟨rfl, e⟩ | ⟨g, cap, cur, rfl, _, _, h1, h2, _⟩
  · have : l = [] := List.eq_nil_of_length_eq_zero e
    subst this
    exact ⟨none, 0, rfl, Nat.zero_le _, fun k hk => absurd hk (Nat.not_lt_zero _)⟩
  · have := view_drop o t (Nat.le_trans h1 h2) 0 (Nat.zero_le _) cap
    simpa using this
structure RPair (w5 wr : World) (lv av : Value) (l : List Tok) (k : Nat) : Prop where
  ex : ∃ g cg h off ch va vb kd nm tx q, lv = .slice (some ⟨g, 0, none⟩) l.length cg ∧ av = .slice (some ⟨h, off, none⟩) l.length ch ∧
    (∀ W, Below w5.heap.size w5 W → (W.cell? ⟨g, k * 5, none⟩ = some (.int .i64 kd) ∧ W.cell? ⟨g, k * 5 + 1, none⟩ = some nm ∧ W.cell? ⟨g, k * 5 + 2, none⟩ = some va ∧ W.cell? ⟨g, k * 5 + 3, none⟩ = some tx ∧ W.cell? ⟨g, k * 5 + 4, none⟩ = some (.int .i64 q)) ∧
      (W.cell? ⟨h, off + k * 5, none⟩ = some (.int .i64 kd) ∧ W.cell? ⟨h, off + k * 5 + 1, none⟩ = some nm ∧ W.cell? ⟨h, off + k * 5 + 2, none⟩ = some vb ∧ W.cell? ⟨h, off + k * 5 + 3, none⟩ = some tx ∧ W.cell? ⟨h, off + k * 5 + 4, none⟩ = some (.int .i64 q))) ∧
    ∀ W, Below w5.heap.size w5 W → Calls Tryz.prog 22 #[.agg #[.int .i64 kd, nm, va, tx, .int .i64 q], .agg #[.int .i64 kd, nm, vb, tx, .int .i64 q]] W fun e w' => e = .returned (.bool true) ∧ Below w5.heap.size w5 w'
theorem rpair_of (h1 : Ans A w lv l) (h2 : RView w v l) (k : Nat) (hk : k < l.length) : RPair w wr lv v l k := by
  obtain ⟨g, cg, va, rfl, o1, x0, x1, x2, x3, x4, _⟩ := h1.at k hk
  obtain ⟨bo, ch, rfl, hm, hv⟩ := h2
  obtain ⟨h, off, vb, rfl, y⟩ := hv k hk
  obtain ⟨o2, y0, y1, y2, y3, y4⟩ := y
  have lt1 : g < w.heap.size := World.block_lt_of_cell? w _ x0
  have lt2 : h < w.heap.size := World.block_lt_of_cell? w _ y0
  refine ⟨g, cg, h, off, ch, va, vb, _, _, _, _, rfl, rfl, fun W bW => ⟨⟨(bW.cell (p := ⟨g, k * 5, none⟩) lt1).trans x0, (bW.cell (p := ⟨g, k * 5 + 1, none⟩) lt1).trans x1, (bW.cell (p := ⟨g, k * 5 + 2, none⟩) lt1).trans x2, (bW.cell (p := ⟨g, k * 5 + 3, none⟩) lt1).trans x3, (bW.cell (p := ⟨g, k * 5 + 4, none⟩) lt1).trans x4⟩, (bW.cell (p := ⟨h, off + k * 5, none⟩) lt2).trans y0, (bW.cell (p := ⟨h, off + k * 5 + 1, none⟩) lt2).trans y1, (bW.cell (p := ⟨h, off + k * 5 + 2, none⟩) lt2).trans y2, (bW.cell (p := ⟨h, off + k * 5 + 3, none⟩) lt2).trans y3, (bW.cell (p := ⟨h, off + k * 5 + 4, none⟩) lt2).trans y4⟩, ?_⟩
  intro W bd
  have keep : ∀ {vv : Value} {nn : Nat} {xs : List Value}, w.ownsRow 0 52 2 vv nn xs → W.ownsRow 0 52 2 vv nn xs := fun o => owns_of o fun j e => by
    obtain ⟨cur, hc⟩ := owns_blk o e
    exact bd.block j (blk_lt hc)
  have keep2 : ∀ {vv : Value} {nn : Nat} {xs : List Value}, w.ownsRow 0 76 2 vv nn xs → W.ownsRow 0 76 2 vv nn xs := fun o => owns_of o fun j e => by
    obtain ⟨cur, hc⟩ := owns_blk o e
    exact bd.block j (blk_lt hc)
  refine (one_same (l[k]) va vb W (keep o1) (keep2 o2)).mono ?_
  rintro e w' ⟨rfl, bw⟩
  exact ⟨rfl, bd.trans (below_less bw bd.size)⟩
set_option maxHeartbeats 8000000 in
set_option maxRecDepth 10000 in
theorem same_ok (h1 : Ans A w lv l) (h2 : RView w v l) : Calls Tryz.prog 11 #[lv, v] w fun e w' => e = .returned (.bool true) ∧ Below w.heap.size w w' := by
  obtain ⟨bl, cl, rfl, hmx⟩ := slice_of h1
  have hv := h2
  obtain ⟨bo, ch, rfl, hd1, hd2⟩ := hv
  clear hd1 hd2
  have hpair := fun k hk => rpair_of (wr := w) h1 h2 k hk
  have HP := hide hpair
  have bmx : (l.length : Int) ≤ 9223372036854775807 := by have : maxLen = 9223372036854775807 := rfl; omega
  clear hpair h1 h2 hmx
  generalize hL : l.length = L at *
  go_enter Tryz.func11, Tryz.ntmps11
  go_wp2_with fail
  go_loopw [5, 6] (fun iv _ wr => ∃ k : Nat, iv = .int .i64 k ∧ k ≤ L ∧ Below w.heap.size w wr) (fun iv _ _ => L - (RowKit.intOf iv).toNat)
  case atStart => exact ⟨0, rfl, Nat.zero_le _, Below.refl _ _⟩
  case round =>
    obtain ⟨k, rfl, hk, hbr⟩ := hrel
    by_cases hkl : k < L
    · have hdec2 : decide ((k : Int) < L) = true := by simp; omega
      have hpr := HP.out k (by omega)
      obtain ⟨g, cg, h, off, ch', va, vb, kd, nm, tx, q, eg, eh, hcs, hcall⟩ := hpr.ex
      rw [hL] at eg eh
      clear hpr
      cases eg
      cases eh
      obtain ⟨⟨x0, x1, x2, x3, x4⟩, y0, y1, y2, y3, y4⟩ := hcs wr hbr
      have HBR := hide hbr
      have HCS := hide hcs
      have HCL := hide hcall
      clear hbr hcs hcall
      go_wp2_with fail
      go_region_held3 (fun W => (W.cell? ⟨g, k * 5, none⟩ = some (.int .i64 kd) ∧ W.cell? ⟨g, k * 5 + 1, none⟩ = some nm ∧ W.cell? ⟨g, k * 5 + 2, none⟩ = some va ∧ W.cell? ⟨g, k * 5 + 3, none⟩ = some tx ∧ W.cell? ⟨g, k * 5 + 4, none⟩ = some (.int .i64 q)) ∧ (W.cell? ⟨h, off + k * 5, none⟩ = some (.int .i64 kd) ∧ W.cell? ⟨h, off + k * 5 + 1, none⟩ = some nm ∧ W.cell? ⟨h, off + k * 5 + 2, none⟩ = some vb ∧ W.cell? ⟨h, off + k * 5 + 3, none⟩ = some tx ∧ W.cell? ⟨h, off + k * 5 + 4, none⟩ = some (.int .i64 q)))
        (first | exact ⟨⟨x0, x1, x2, x3, x4⟩, y0, y1, y2, y3, y4⟩ | exact HCS.out _ bw6)
        (first | (go_at_call 22; refine (HCL.out _ (below_drewN HBR.out 1)).mono ?_; rintro e w6 ⟨rfl, bw6⟩))
      all_goals
        have BW6 := hide bw6
        clear bw6 x0 x1 x2 x3 x4 y0 y1 y2 y3 y4
        go_wp2
        go_roundw
        case rel => exact ⟨k + 1, by simp, by omega, BW6.out⟩
        case measure => simp only [RowKit.intOf]; omega
    · have hdec2 : decide ((k : Int) < L) = false := by simp; omega
      have B7 := hide hbr
      clear hbr
      go_wp2
      go_ret
      exact ⟨rfl, B7.out⟩
end Go.Proofs.YtgognegkcplcpaaGreatDoor

set_option linter.unusedSimpArgs false
set_option linter.unusedVariables false
namespace Go.Proofs.YtgognegkcplcpaaGreatDoor
open Go.RowKit Go.Maps Go.Lib
variable {F F' G A B : Nat → Prop} {R : Nat} {w w' w'' wr w1 : World} {a : Addr} {v v1 v2 lv : Value} {N n : Nat} {l l1 l2 : List Tok}
theorem Ans.past (h : Ans A w v l) (b : Below w.heap.size w w') : Ans A w' v l := h.old (fun k hk _ => b.block k hk) (fun _ _ x => x)
theorem RView.past (h : RView w v l) (b : Below w.heap.size w w') : RView w' v l := by
  obtain ⟨bo, cap, e, hm, hv⟩ := h
  refine ⟨bo, cap, e, hm, fun k hk => ?_⟩
  obtain ⟨h, off, vb, e2, x⟩ := hv k hk
  have lt : h < w.heap.size := World.block_lt_of_cell? w _ x.x0
  exact ⟨h, off, vb, e2, owns_of x.row fun j e => b.block j (own_lt x.row e), (b.cell (p := ⟨h, _, none⟩) lt).trans x.x0, (b.cell (p := ⟨h, _, none⟩) lt).trans x.x1, (b.cell (p := ⟨h, _, none⟩) lt).trans x.x2, (b.cell (p := ⟨h, _, none⟩) lt).trans x.x3, (b.cell (p := ⟨h, _, none⟩) lt).trans x.x4⟩
set_option maxHeartbeats 8000000 in
set_option maxRecDepth 10000 in
theorem tokenAll_ok (b : ByteArray) (w : World) (gl : Gl w a) (hb : b.size ≤ 2147483648) : Calls Tryz.prog 3 #[.string b] w fun e w' => e = .returned (.bool true) ∧ Below w.heap.size w w' := by
  have hall := all_ok b w gl hb
  rw [all_ref] at hall
  have href := fun w' => refAll_ok b w' hb
  have hgl := fun w' (h : Below w.heap.size w w') => gl.below gl.size h
  have hali := fun w' (h : Below w.heap.size w w') => alive_ok (hgl w' h)
  have HLI := hide hali
  have HR := hide href
  have hnum := num_ok
  have heql := eql_nils
  clear hgl hali href gl
  unfold AllEnd at hall
  generalize refAll b = Z at *
  obtain ⟨T, no, q⟩ := Z
  simp only at hall HR
  by_cases hno : no = 0
  · subst hno
    go_enter Tryz.func3, Tryz.ntmps3
    go_wp2_with fail
    refine hall.mono ?_
    rintro e w1 ⟨lv, A, rfl, an, b1, _, _⟩
    have AN := hide an
    have B1 := hide b1
    clear an b1 hall
    go_wp2_with fail
    refine (HR.out _).mono ?_
    rintro e w2 ⟨rv, rfl, ra, b2⟩
    have AN2 := hide (AN.out.past b2)
    have RA := hide ra.view
    have B2 := hide (B1.out.trans (below_less b2 B1.out.size))
    clear ra b2
    go_wp2_with fail
    refine (same_ok AN2.out RA.out).mono ?_
    rintro e w3 ⟨rfl, b3⟩
    have B3 := hide (B2.out.trans (below_less b3 B2.out.size))
    clear b3
    go_wp2_with (first | (go_at_call 12; refine (hnum _ _).mono ?_; rintro e wx ⟨rfl, hwx⟩; have hwy := hwx.symm; clear hwx; subst hwy) | (go_at_call 13; refine (HLI.out _ B3.out).mono ?_; rintro e w6 ⟨rfl, b6⟩; have B6 := hide (B3.out.trans (below_less b6 B3.out.size)); clear b6))
    go_ret
    exact ⟨rfl, B6.out⟩
  · have e0 : (no == 0) = false := by simpa using hno
    go_enter Tryz.func3, Tryz.ntmps3
    go_wp2_with fail
    refine hall.mono ?_
    rintro e w1 ⟨lv, A, rfl, an, b1, _, hnil⟩
    have hnl := hnil hno
    unfold nilS at hnl
    subst hnl
    have AN := hide an
    have B1 := hide b1
    clear an b1 hall hnil hno
    go_wp2_with fail
    refine (HR.out _).mono ?_
    rintro e w2 ⟨rv, rfl, ra, b2⟩
    have AN2 := hide (AN.out.past b2)
    have RA := hide ra.view
    have B2 := hide (B1.out.trans (below_less b2 B1.out.size))
    clear ra b2
    go_wp2_with fail
    refine (same_ok AN2.out RA.out).mono ?_
    rintro e w3 ⟨rfl, b3⟩
    have B3 := hide (B2.out.trans (below_less b3 B2.out.size))
    clear b3
    go_wp2_with (first | (go_at_call 12; refine (hnum _ _).mono ?_; rintro e wx ⟨rfl, hwx⟩; have hwy := hwx.symm; clear hwx; subst hwy) | (go_at_call 13; refine (HLI.out _ B3.out).mono ?_; rintro e w6 ⟨rfl, b6⟩; have B6 := hide (B3.out.trans (below_less b6 B3.out.size)); clear b6))
    go_ret
    exact ⟨rfl, B6.out⟩
end Go.Proofs.YtgognegkcplcpaaGreatDoor
