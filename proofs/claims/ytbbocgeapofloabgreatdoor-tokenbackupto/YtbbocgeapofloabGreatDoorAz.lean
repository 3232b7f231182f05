import Derived.BigQuiet
import Derived.Deep.RegionHeld3
import Derived.Test.YtbbocgeapofloabGreatDoorAy
import Derived.Test.YtbbocgeapofloabGreatDoorAo
import Derived.Test.YtbbocgeapofloabGreatDoorAv
import Derived.Test.YtbbocgeapofloabGreatDoorAp
set_option linter.unusedVariables false
set_option linter.unusedSimpArgs false
set_option linter.unusedSimpArgs false
set_option linter.unusedVariables false
namespace Go.Proofs.YtbbocgeapofloabGreatDoor
open Go.RowKit Go.Maps Go.Lib

variable {X : Nat} {w w' w'' wr : World} {s t : ByteArray} {lv : Value} {x x' : Sc} {F : Nat → Prop} {cs : List Value}

/-- The document's own tokens in memory, as they are answered. -/
def RAns (w : World) (v : Value) (l : List Tok) : Prop := ∃ F X cs, w.ownsRow 0 56 5 v l.length cs ∧ RToks F X w l cs

theorem app_nil26 (b : Option Addr) (n c : Nat) (h : n ≤ c) (w : World) : (Builtin.append_ #[26, 26] 26 #[.slice b n c, .slice none 0 0]).run Tryz.prog w = .ok (.slice b n c) w := by
  cases b <;> simp [Builtin.append_, underlying, Tryz.underlying26, Tryz.sizeOf56, Builtin.lenOf, Builtin.firstCells, h, storeCells, Result.andThen]

set_option maxHeartbeats 4000000 in
set_option maxRecDepth 10000 in
theorem last_ref (h : SAt X w s lv x) : Calls Tryz.prog 18 #[.pointer (some ⟨X, 0, none⟩)] w fun en w' => ∃ v, en = .returned v ∧ Below w.heap.size w w' ∧ ((x.last = [] ∧ v = .slice none 0 0) ∨ (x.last = [txtTok x] ∧ v = .slice (some ⟨w.heap.size, 0, none⟩) 1 1 ∧ w'.heap[w.heap.size]? = some (.cells (tokCells (txtTok x) (.slice none 0 0)).toArray 56))) := by
  have c3 : w.cell? ⟨X, 3, none⟩ = some (.string ⟨x.more.toArray⟩) := h.cell 3 rfl
  have c4 : w.cell? ⟨X, 4, none⟩ = some (.int .i64 x.frm) := h.cell 4 rfl
  have c5 : w.cell? ⟨X, 5, none⟩ = some (.int .i64 x.err) := h.cell 5 rfl
  unfold Sc.last
  clear h
  by_cases he : x.err = 0
  · have e0 : (x.err != 0) = false := by simpa using he
    by_cases hm : x.more = []
    · rw [if_pos (Or.inr hm)]
      have em : x.more.isEmpty = true := by rw [hm]; rfl
      clear he hm
      go_enter Tryz.func18, Tryz.ntmps18
      go_wp2
      go_ret
      exact ⟨_, rfl, Below.refl _ _, Or.inl ⟨trivial, rfl⟩⟩
    · rw [if_neg (by rintro (h | h); exact h he; exact hm h)]
      have em : x.more.isEmpty = false := by simpa using hm
      clear he hm
      go_enter Tryz.func18, Tryz.ntmps18
      go_wp2_with fail
      have d3 : (w.alloc (.cells #[.int .i64 3, .string ⟨#[]⟩, .slice none 0 0, .string ⟨x.more.toArray⟩, .int .i64 x.frm] 56)).cell? ⟨X, 3, none⟩ = some (.string ⟨x.more.toArray⟩) := cell_alloc _ c3
      have d4 : (w.alloc (.cells #[.int .i64 3, .string ⟨#[]⟩, .slice none 0 0, .string ⟨x.more.toArray⟩, .int .i64 x.frm] 56)).cell? ⟨X, 4, none⟩ = some (.int .i64 x.frm) := cell_alloc _ c4
      go_region_held3 (fun W => W.cell? ⟨X, 3, none⟩ = some (.string ⟨x.more.toArray⟩) ∧ W.cell? ⟨X, 4, none⟩ = some (.int .i64 x.frm))
        (first | exact ⟨c3, c4⟩ | exact ⟨d3, d4⟩)
        (fail)
      all_goals
        go_wp2
        go_ret
        exact ⟨_, rfl, ((Below.refl _ _).alloc (Nat.le_refl _) _).drew, Or.inr ⟨trivial, rfl, Below_new _ _⟩⟩
  · have e0 : (x.err != 0) = true := by simpa using he
    rw [if_pos (Or.inl he)]
    clear he
    go_enter Tryz.func18, Tryz.ntmps18
    go_wp2
    go_ret
    exact ⟨_, rfl, Below.refl _ _, Or.inl ⟨trivial, rfl⟩⟩

/-- The tokens, with the last one. -/
theorem add_last (h : RS F X w s lv cs x) {w1 : World} (b : Below w.heap.size w w1) (v : Value) (hv : (x.last = [] ∧ v = .slice none 0 0) ∨ (x.last = [txtTok x] ∧ v = .slice (some ⟨w.heap.size, 0, none⟩) 1 1 ∧ w1.heap[w.heap.size]? = some (.cells (tokCells (txtTok x) (.slice none 0 0)).toArray 56))) (hn : x.l.length ≤ 1099511627776) :
    ∃ v' w2, (Builtin.append_ #[26, 26] 26 #[lv, v]).run Tryz.prog w1 = .ok v' w2 ∧ RAns w2 v' (x.l ++ x.last) ∧ w1.grownBy w2 lv.ownBlock := by
  have row1 : w1.ownsRow 0 56 5 lv x.l.length cs := owns_of h.row fun k e => b.block k (h.lt k (h.own k e).1)
  have toks1 : RToks F X w1 x.l cs := h.toks.frame fun k _ _ _ _ _ a _ => ⟨b.block k (h.lt k a), a⟩
  rcases hv with ⟨e1, rfl⟩ | ⟨e1, rfl, hb⟩
  · obtain ⟨ai, ac, rfl, hle⟩ : ∃ ai ac, lv = .slice ai x.l.length ac ∧ x.l.length ≤ ac := by
      rcases row1.2 with ⟨rfl, hn⟩ | ⟨g, cap, cur, rfl, hbb, hg, hc, hm, hcs, htk⟩
      · exact ⟨none, 0, by rw [hn], by omega⟩
      · exact ⟨_, _, rfl, hc⟩
    refine ⟨_, w1, app_nil26 ai _ ac hle w1, ⟨F, X, cs, ?_, ?_⟩, ⟨rfl, rfl, rfl, Nat.le_refl _, fun _ _ _ => rfl⟩⟩
    · rw [e1, List.append_nil]; exact row1
    · rw [e1, List.append_nil]; exact toks1
  · obtain ⟨i0, hi, hz0, hz1, hz2⟩ := info_parts info56
    have hcell : ∀ j u, (tokCells (txtTok x) (.slice none 0 0))[j]? = some u → w1.cell? ((⟨w.heap.size, 0, none⟩ : Addr).add j) = some u := by
      intro j u hj
      rw [Addr.add_mid, Nat.zero_add]
      refine cell_of hb ?_
      simpa using hj
    obtain ⟨v', w2, hr, ho, hgr, _, hat⟩ := run_append_own_at (P := Tryz.prog) w1 0 26 26 56 i0 _ 5 72 Tryz.underlying26 hi hz0 hz1 hz2 rfl (by decide) lv x.l.length cs row1 ⟨w.heap.size, 0, none⟩ 1 1 (tokCells (txtTok x) (.slice none 0 0)) rfl hcell (tok_one _ _ rfl) (by unfold maxLen; omega) (by omega) (Nat.zero_le _)
    refine ⟨v', w2, hr, ⟨F, X, cs ++ tokCells (txtTok x) (.slice none 0 0), ?_, ?_⟩, hgr⟩
    · rw [e1]; simp only [List.length_append, List.length_cons, List.length_nil, Nat.zero_add]; exact ho
    · rw [e1]
      refine (toks1.frame fun k n xs u hu e a c => ⟨?_, a⟩).app ⟨.slice none 0 0, [], by simp, World.ownsRow_nil _ _ _ _, by intro k e; simp [Value.ownBlock] at e, rfl⟩
      exact hgr.block k (own_lt hu e) (fun e2 => tag_ne hu row1 (by decide) e e2.symm)

theorem wpList_app26 {ops : Array Oper} {rest : List Oper} {o : Oper} {a : Act} {w : World} {Q : Exit → Act → World → Prop} (hgd : o.guard = none) (s x : Operand) (ho : o.op = Op.call { callee := Callee.builtin Builtin.append, args := #[s, x], argTypes := #[26, 26] }) (hty : o.type = 26)
    (v1 v2 : Value) (hs : a.eval s = v1) (hx : a.eval x = v2) {v' : Value} {w' : World} (hr : (Builtin.append_ #[26, 26] 26 #[v1, v2]).run Tryz.prog w = .ok v' w') (h : wpList Tryz.prog ops Q rest (a.put o.dst v') w') : wpList Tryz.prog ops Q (o :: rest) a w := by
  refine wpList_plain hgd fun K hK => ?_
  unfold Oper.wp execOp
  simp only [ho, hty, resolve, invoke, builtin, Sem.run_bind, Sem.run_pure, Result.andThen_ok, List.map_toArray, List.map_cons, List.map_nil, hs, hx, hr]
  exact hK _ _ h

theorem read_len (s : ByteArray) : (readS s).l.length ≤ 3 * s.size + 3 := by
  have key : ∀ (f : Nat) (x : Sc), x.err = 0 → x.i ≤ s.size → x.l.length ≤ 3 * x.i → (readF s f x).l.length ≤ 3 * s.size + 3 := by
    intro f
    induction f with
    | zero => intro x he hi hl; show x.l.length ≤ _; omega
    | succ f ih =>
      intro x he hi hl
      simp only [readF]
      split
      · rename_i hc
        rcases done_piece (g := fun _ => []) he hc.1 (rel_any x) with ⟨h1, h2, h3, h4, _⟩ | ⟨h1, h2, _⟩
        · exact ih _ h1 h3 (by have := h4.2.2; omega)
        · rw [readF_err h1, h2]; omega
      · omega
  exact key _ Sc.zero rfl (Nat.zero_le _) (Nat.zero_le _)

set_option maxHeartbeats 4000000 in
set_option maxRecDepth 10000 in
/-- The document's own All. -/
theorem refAll_ok (s : ByteArray) (w : World) (hs : s.size ≤ 2147483648) : Calls Tryz.prog 9 #[.string s] w fun en w' => ∃ v, en = .returned (.tuple #[v, .int .i64 (refAll s).2.1, .int .i64 (refAll s).2.2]) ∧ RAns w' v (refAll s).1 ∧ Below w.heap.size w w' := by
  have hrd := read_ref s w (by omega)
  have hlen := read_len s
  unfold refAll
  by_cases he : (readS s).err = 0
  · rw [if_neg (by simpa using he)]
    have e0 : ((readS s).err != 0) = false := by simpa using he
    clear he
    go_enter Tryz.func9, Tryz.ntmps9
    go_wp2_with fail
    refine hrd.mono ?_
    rintro e w1 ⟨rfl, F, lv, cs, rs, b1, hF⟩
    have c5 : w1.cell? ⟨w.heap.size, 5, none⟩ = some (.int .i64 (readS s).err) := rs.sat.cell 5 rfl
    have hla := last_ref rs.sat
    have RS1 := hide rs
    have B1 := hide b1
    have HF := hide hF
    clear rs b1 hF hrd
    go_wp2_with fail
    refine hla.mono ?_
    rintro e w2 ⟨v, rfl, b2, hv⟩
    have c2 : w2.cell? ⟨w.heap.size, 2, none⟩ = some lv := (b2.cell (RS1.out.lt _ RS1.out.has)).trans (RS1.out.sat.cell 2 rfl)
    obtain ⟨v', w3, hrun, an, gr⟩ := add_last RS1.out b2 v hv (by omega)
    have AN := hide an
    have GR := hide gr
    have B2 := hide b2
    clear an gr b2 hv hla
    go_wp2_with (at_builtin; refine wpList_app26 rfl (.tmp 27) (.tmp 28) rfl rfl _ _ rfl rfl hrun ?_)
    go_ret3
    refine ⟨v', rfl, AN.out, ?_⟩
    have hz := B1.out.size
    have hz2 := B2.out.size
    refine (B1.out.trans (below_less B2.out hz)).trans ⟨GR.out.os, GR.out.tape, GR.out.output, GR.out.size, fun k hk => GR.out.block k (by omega) (fun e => ?_)⟩
    have := HF.out k (RS1.out.own k e.symm).1
    omega
  · rw [if_pos (by simpa using he)]
    have e0 : ((readS s).err != 0) = true := by simpa using he
    clear he
    go_enter Tryz.func9, Tryz.ntmps9
    go_wp2_with fail
    refine hrd.mono ?_
    rintro e w1 ⟨rfl, F, lv, cs, rs, b1, hF⟩
    have c5 : w1.cell? ⟨w.heap.size, 5, none⟩ = some (.int .i64 (readS s).err) := rs.sat.cell 5 rfl
    have c6 : w1.cell? ⟨w.heap.size, 6, none⟩ = some (.int .i64 (readS s).at_) := rs.sat.cell 6 rfl
    have B1 := hide b1
    clear rs b1 hF hrd
    go_wp2_with fail
    go_quiet (fail)
    go_wp2
    go_ret3
    exact ⟨_, rfl, ⟨fun _ => False, 0, [], World.ownsRow_nil _ _ _ _, rfl⟩, below_drewN B1.out _⟩
end Go.Proofs.YtbbocgeapofloabGreatDoor
set_option linter.unusedSimpArgs false
set_option linter.unusedVariables false
namespace Go.Proofs.YtbbocgeapofloabGreatDoor
open Go.RowKit Go.Maps Go.Lib

variable {F F' G A B : Nat → Prop} {R : Nat} {w w' w'' wr w1 : World} {a : Addr} {v v1 v2 : Value} {N n : Nat} {l l1 l2 : List Tok}

def boxR (t : Tok) (v : Value) : Obj := .cells #[.int .i64 t.kind, .string ⟨t.name.toArray⟩, v, .string ⟨t.text.toArray⟩, .int .i64 t.at_] 56

set_option maxHeartbeats 4000000 in
set_option maxRecDepth 10000 in
theorem one_same (t : Tok) (va vb : Value) (w : World) (h1 : w.ownsRow 0 52 2 va t.attrs.length (attrCells t.attrs)) (h2 : w.ownsRow 0 75 2 vb t.attrs.length (attrCells t.attrs)) :
    Calls Tryz.prog 21 #[tokV t va, tokV t vb] w fun e w' => e = .returned (.bool true) ∧ Below w.heap.size w w' := by
  unfold tokV
  obtain ⟨ao, ca, hva⟩ := slice_len h1
  obtain ⟨bo, cb, hvb⟩ := slice_len h2
  subst hva
  subst hvb
  have hB : Below w.heap.size w ((w.alloc (boxT t (.slice ao t.attrs.length ca))).alloc (boxR t (.slice bo t.attrs.length cb))) := ((Below.refl _ _).alloc (Nat.le_refl _) _).alloc (by simp) _
  have hx : ((w.alloc (boxT t (.slice ao t.attrs.length ca))).alloc (boxR t (.slice bo t.attrs.length cb))).heap[w.heap.size]? = some (boxT t (.slice ao t.attrs.length ca)) := by
    rw [Below.heap_alloc _ _ _ (by simp)]; exact Below_new _ _
  have hy : ((w.alloc (boxT t (.slice ao t.attrs.length ca))).alloc (boxR t (.slice bo t.attrs.length cb))).heap[w.heap.size + 1]? = some (boxR t (.slice bo t.attrs.length cb)) := by
    have := Below_new (w.alloc (boxT t (.slice ao t.attrs.length ca))) (boxR t (.slice bo t.attrs.length cb))
    simpa using this
  have hcell : ∀ wr, Below ((w.alloc (boxT t (.slice ao t.attrs.length ca))).alloc (boxR t (.slice bo t.attrs.length cb))).heap.size ((w.alloc (boxT t (.slice ao t.attrs.length ca))).alloc (boxR t (.slice bo t.attrs.length cb))) wr →
      wr.cell? ⟨w.heap.size, 2, none⟩ = some (.slice ao t.attrs.length ca) ∧ wr.cell? ⟨w.heap.size + 1, 2, none⟩ = some (.slice bo t.attrs.length cb) ∧ Below w.heap.size w wr := by
    intro wr b
    refine ⟨cell_of ((b.block _ (by first | (simp; done) | (simp; omega))).trans hx) rfl, cell_of ((b.block _ (by first | (simp; done) | (simp; omega))).trans hy) rfl, hB.trans (below_less b (by first | (simp; done) | (simp; omega)))⟩
  have hattr : ∀ wr, Below w.heap.size w wr → ∀ i, i < t.attrs.length → ∃ ga gb, ao = some ⟨ga, 0, none⟩ ∧ bo = some ⟨gb, 0, none⟩ ∧ ∃ x y : ByteArray, wr.cell? ⟨ga, i * 2, none⟩ = some (.string x) ∧ wr.cell? ⟨ga, i * 2 + 1, none⟩ = some (.string y) ∧ wr.cell? ⟨gb, i * 2, none⟩ = some (.string x) ∧ wr.cell? ⟨gb, i * 2 + 1, none⟩ = some (.string y) := by
    intro wr b i hi
    have h1' := h1
    have h2' := h2
    rcases h1'.2 with ⟨e, e0⟩ | ⟨ga, ca', cur, e, _⟩
    · omega
    rcases h2'.2 with ⟨e', e0⟩ | ⟨gb, cb', cur', e', _⟩
    · omega
    cases e
    cases e'
    have o1 := attr_cells h1 i hi
    have o2 := rattr_cells (l := t.attrs) h2 i hi
    have lt1 : ga < w.heap.size := World.block_lt_of_cell? w _ o1.1
    have lt2 : gb < w.heap.size := World.block_lt_of_cell? w _ o2.1
    exact ⟨ga, gb, rfl, rfl, _, _, (b.cell (p := ⟨ga, i * 2, none⟩) lt1).trans o1.1, (b.cell (p := ⟨ga, i * 2 + 1, none⟩) lt1).trans o1.2, (b.cell (p := ⟨gb, i * 2, none⟩) lt2).trans o2.1, (b.cell (p := ⟨gb, i * 2 + 1, none⟩) lt2).trans o2.2⟩
  have hmax : (t.attrs.length : Int) ≤ 9223372036854775807 := by
    rcases h1.2 with ⟨e, e0⟩ | ⟨ga, ca', cur, e, _, _, x1, x2, _⟩
    · omega
    · have : maxLen = 9223372036854775807 := rfl
      omega
  have HC := hide hcell
  have HAT := hide hattr
  clear hcell hattr hB hx hy h1 h2
  unfold strV
  unfold boxT boxR at HC
  generalize t.attrs.length = n at *
  go_enter Tryz.func21, Tryz.ntmps21
  go_wp2_with fail
  go_loopw [5] (fun i wr => ∃ k : Nat, i = .int .i64 k ∧ k ≤ n ∧ Below ((w.alloc (.cells #[.int .i64 t.kind, .string ⟨t.name.toArray⟩, .slice ao n ca, .string ⟨t.text.toArray⟩, .int .i64 t.at_] 49)).alloc (.cells #[.int .i64 t.kind, .string ⟨t.name.toArray⟩, .slice bo n cb, .string ⟨t.text.toArray⟩, .int .i64 t.at_] 56)).heap.size ((w.alloc (.cells #[.int .i64 t.kind, .string ⟨t.name.toArray⟩, .slice ao n ca, .string ⟨t.text.toArray⟩, .int .i64 t.at_] 49)).alloc (.cells #[.int .i64 t.kind, .string ⟨t.name.toArray⟩, .slice bo n cb, .string ⟨t.text.toArray⟩, .int .i64 t.at_] 56)) wr) (fun i _ => n - (RowKit.intOf i).toNat)
  case atStart => exact ⟨0, rfl, Nat.zero_le _, Below.refl _ _⟩
  case round =>
    obtain ⟨k, rfl, hk, hb⟩ := hrel
    obtain ⟨d1, d2, d3⟩ := HC.out _ hb
    by_cases hlt : k < n
    · obtain ⟨ga, gb, rfl, rfl, x, y, g1, g2, g3, g4⟩ := HAT.out _ d3 k hlt
      have hdec : decide ((k : Int) < n) = true := by simp; omega
      have D3 := hide d3
      have HB := hide hb
      clear hb d3
      go_wp2_with fail
      go_quiet (fail)
      go_wp2
      go_roundw
      case rel => exact ⟨k + 1, by simp, by omega, below_drewN HB.out _⟩
      case measure => simp only [RowKit.intOf]; omega
    · have hdec : decide ((k : Int) < n) = false := by simp; omega
      have D3 := hide d3
      clear hb d3
      go_wp2
      go_ret
      exact ⟨rfl, D3.out⟩
end Go.Proofs.YtbbocgeapofloabGreatDoor
set_option linter.unusedSimpArgs false
set_option linter.unusedVariables false
namespace Go.Proofs.YtbbocgeapofloabGreatDoor
open Go.RowKit Go.Maps Go.Lib

variable {F F' G A B : Nat → Prop} {R : Nat} {w w' w'' wr w1 : World} {a : Addr} {v v1 v2 lv : Value} {N n : Nat} {l l1 l2 : List Tok}

/-- The document's own tokens, seen from a place of their row on. -/
structure RTokAt (w : World) (h off k : Nat) (t : Tok) (vb : Value) : Prop where
  row : w.ownsRow 0 75 2 vb t.attrs.length (attrCells t.attrs)
  x0 : w.cell? ⟨h, off + k * 5, none⟩ = some (.int .i64 t.kind)
  x1 : w.cell? ⟨h, off + k * 5 + 1, none⟩ = some (strV t.name)
  x2 : w.cell? ⟨h, off + k * 5 + 2, none⟩ = some vb
  x3 : w.cell? ⟨h, off + k * 5 + 3, none⟩ = some (strV t.text)
  x4 : w.cell? ⟨h, off + k * 5 + 4, none⟩ = some (.int .i64 t.at_)
def RView (w : World) (v : Value) (l : List Tok) : Prop :=
  ∃ bo cap, v = .slice bo l.length cap ∧ l.length ≤ maxLen ∧ ∀ k (hk : k < l.length), ∃ h off vb, bo = some ⟨h, off, none⟩ ∧ RTokAt w h off k l[k] vb

theorem RToks.at {X : Nat} : ∀ {l : List Tok} {cs : List Value}, RToks F X w l cs → ∀ (i : Nat) (hi : i < l.length), ∃ va, w.ownsRow 0 75 2 va (l[i]).attrs.length (attrCells (l[i]).attrs) ∧ cs[i * 5]? = some (.int .i64 (l[i]).kind) ∧ cs[i * 5 + 1]? = some (strV (l[i]).name) ∧ cs[i * 5 + 2]? = some va ∧ cs[i * 5 + 3]? = some (strV (l[i]).text) ∧ cs[i * 5 + 4]? = some (.int .i64 (l[i]).at_)
  | [], _, _, i, hi => absurd hi (Nat.not_lt_zero _)
  | t :: l, _, ⟨v, cs, e, ho, hf, hl⟩, i, hi => by
    subst e
    cases i with
    | zero => exact ⟨v, ho, rfl, rfl, rfl, rfl, rfl⟩
    | succ i =>
      obtain ⟨va, a0, a1, a2, a3, a4, a5⟩ := RToks.at hl i (by simpa using hi)
      have e1 : ∀ j, (i + 1) * 5 + j = (tokCells t v).length + (i * 5 + j) := fun j => by show _ = 5 + _; omega
      have e2 : ∀ j, (tokCells t v ++ cs)[(i + 1) * 5 + j]? = cs[i * 5 + j]? := fun j => by rw [e1, List.getElem?_append_right (Nat.le_add_right _ _), Nat.add_sub_cancel_left]
      exact ⟨va, a0, (e2 0).trans a1, (e2 1).trans a2, (e2 2).trans a3, (e2 3).trans a4, (e2 4).trans a5⟩

/-- From a place on. -/
theorem view_drop {X : Nat} {cs : List Value} {g cap : Nat} (h : w.ownsRow 0 56 5 (.slice (some ⟨g, 0, none⟩) l.length cap) l.length cs) (ht : RToks F X w l cs) (hm : l.length ≤ maxLen) (n : Nat) (hn : n ≤ l.length) (c : Nat) :
    RView w (.slice (some ⟨g, n * 5, none⟩) (l.length - n) c) (l.drop n) := by
  refine ⟨_, _, by rw [List.length_drop], by rw [List.length_drop]; omega, fun k hk => ?_⟩
  have hk' : n + k < l.length := by rw [List.length_drop] at hk; omega
  obtain ⟨va, a0, a1, a2, a3, a4, a5⟩ := ht.at (n + k) hk'
  have hc := h.cells (g := g) rfl
  have up : ∀ j u, cs[j]? = some u → w.cell? ⟨g, j, none⟩ = some u := fun j u hj => by
    have := hc j u hj
    rwa [Addr.add_mid, Nat.zero_add] at this
  have e0 : (l.drop n)[k] = l[n + k] := List.getElem_drop
  rw [e0]
  have e5 : (n + k) * 5 = n * 5 + k * 5 := by omega
  rw [e5] at a1 a2 a3 a4 a5
  exact ⟨g, n * 5, va, rfl, a0, up _ _ a1, up _ _ a2, up _ _ a3, up _ _ a4, up _ _ a5⟩
theorem RAns.view (h : RAns w v l) : RView w v l := by
  obtain ⟨F, X, cs, o, t⟩ := h
  have o' := o
  rcases o'.2 with ⟨rfl, e⟩ | ⟨g, cap, cur, rfl, _, _, h1, h2, _⟩
  · have : l = [] := List.eq_nil_of_length_eq_zero e
    subst this
    exact ⟨none, 0, rfl, Nat.zero_le _, fun k hk => absurd hk (Nat.not_lt_zero _)⟩
  · have := view_drop o t (Nat.le_trans h1 h2) 0 (Nat.zero_le _) cap
    simpa using this

/-- Two answers that hold the same tokens, the k-th ones. -/
structure RPair (w5 wr : World) (lv av : Value) (l : List Tok) (k : Nat) : Prop where
  ex : ∃ g cg h off ch va vb kd nm tx q, lv = .slice (some ⟨g, 0, none⟩) l.length cg ∧ av = .slice (some ⟨h, off, none⟩) l.length ch ∧
    (∀ W, Below w5.heap.size w5 W → (W.cell? ⟨g, k * 5, none⟩ = some (.int .i64 kd) ∧ W.cell? ⟨g, k * 5 + 1, none⟩ = some nm ∧ W.cell? ⟨g, k * 5 + 2, none⟩ = some va ∧ W.cell? ⟨g, k * 5 + 3, none⟩ = some tx ∧ W.cell? ⟨g, k * 5 + 4, none⟩ = some (.int .i64 q)) ∧
      (W.cell? ⟨h, off + k * 5, none⟩ = some (.int .i64 kd) ∧ W.cell? ⟨h, off + k * 5 + 1, none⟩ = some nm ∧ W.cell? ⟨h, off + k * 5 + 2, none⟩ = some vb ∧ W.cell? ⟨h, off + k * 5 + 3, none⟩ = some tx ∧ W.cell? ⟨h, off + k * 5 + 4, none⟩ = some (.int .i64 q))) ∧
    ∀ W, Below w5.heap.size w5 W → Calls Tryz.prog 21 #[.agg #[.int .i64 kd, nm, va, tx, .int .i64 q], .agg #[.int .i64 kd, nm, vb, tx, .int .i64 q]] W fun e w' => e = .returned (.bool true) ∧ Below w5.heap.size w5 w'

theorem rpair_of (h1 : Ans A w lv l) (h2 : RView w v l) (k : Nat) (hk : k < l.length) : RPair w wr lv v l k := by
  obtain ⟨g, cg, va, rfl, o1, x0, x1, x2, x3, x4, _⟩ := h1.at k hk
  obtain ⟨bo, ch, rfl, hm, hv⟩ := h2
  obtain ⟨h, off, vb, rfl, y⟩ := hv k hk
  obtain ⟨o2, y0, y1, y2, y3, y4⟩ := y
  have lt1 : g < w.heap.size := World.block_lt_of_cell? w _ x0
  have lt2 : h < w.heap.size := World.block_lt_of_cell? w _ y0
  refine ⟨g, cg, h, off, ch, va, vb, _, _, _, _, rfl, rfl, fun W bW => ⟨⟨(bW.cell (p := ⟨g, k * 5, none⟩) lt1).trans x0, (bW.cell (p := ⟨g, k * 5 + 1, none⟩) lt1).trans x1, (bW.cell (p := ⟨g, k * 5 + 2, none⟩) lt1).trans x2, (bW.cell (p := ⟨g, k * 5 + 3, none⟩) lt1).trans x3, (bW.cell (p := ⟨g, k * 5 + 4, none⟩) lt1).trans x4⟩, (bW.cell (p := ⟨h, off + k * 5, none⟩) lt2).trans y0, (bW.cell (p := ⟨h, off + k * 5 + 1, none⟩) lt2).trans y1, (bW.cell (p := ⟨h, off + k * 5 + 2, none⟩) lt2).trans y2, (bW.cell (p := ⟨h, off + k * 5 + 3, none⟩) lt2).trans y3, (bW.cell (p := ⟨h, off + k * 5 + 4, none⟩) lt2).trans y4⟩, ?_⟩
  intro W bd
  have keep : ∀ {vv : Value} {nn : Nat} {xs : List Value}, w.ownsRow 0 52 2 vv nn xs → W.ownsRow 0 52 2 vv nn xs := fun o => owns_of o fun j e => by
    obtain ⟨cur, hc⟩ := owns_blk o e
    exact bd.block j (blk_lt hc)
  have keep2 : ∀ {vv : Value} {nn : Nat} {xs : List Value}, w.ownsRow 0 75 2 vv nn xs → W.ownsRow 0 75 2 vv nn xs := fun o => owns_of o fun j e => by
    obtain ⟨cur, hc⟩ := owns_blk o e
    exact bd.block j (blk_lt hc)
  refine (one_same (l[k]) va vb W (keep o1) (keep2 o2)).mono ?_
  rintro e w' ⟨rfl, bw⟩
  exact ⟨rfl, bd.trans (below_less bw bd.size)⟩

set_option maxHeartbeats 8000000 in
set_option maxRecDepth 10000 in
/-- The same tokens are told to be the same. -/
theorem same_ok (h1 : Ans A w lv l) (h2 : RView w v l) : Calls Tryz.prog 10 #[lv, v] w fun e w' => e = .returned (.bool true) ∧ Below w.heap.size w w' := by
  obtain ⟨bl, cl, rfl, hmx⟩ := slice_of h1
  have hv := h2
  obtain ⟨bo, ch, rfl, hd1, hd2⟩ := hv
  clear hd1 hd2
  have hpair := fun k hk => rpair_of (wr := w) h1 h2 k hk
  have HP := hide hpair
  have bmx : (l.length : Int) ≤ 9223372036854775807 := by have : maxLen = 9223372036854775807 := rfl; omega
  clear hpair h1 h2 hmx
  generalize hL : l.length = L at *
  go_enter Tryz.func10, Tryz.ntmps10
  go_wp2_with fail
  go_loopw [5, 6] (fun iv _ wr => ∃ k : Nat, iv = .int .i64 k ∧ k ≤ L ∧ Below w.heap.size w wr) (fun iv _ _ => L - (RowKit.intOf iv).toNat)
  case atStart => exact ⟨0, rfl, Nat.zero_le _, Below.refl _ _⟩
  case round =>
    obtain ⟨k, rfl, hk, hbr⟩ := hrel
    by_cases hkl : k < L
    · have hdec2 : decide ((k : Int) < L) = true := by simp; omega
      have hpr := HP.out k (by omega)
      obtain ⟨g, cg, h, off, ch', va, vb, kd, nm, tx, q, eg, eh, hcs, hcall⟩ := hpr.ex
      rw [hL] at eg eh
      clear hpr
      cases eg
      cases eh
      obtain ⟨⟨x0, x1, x2, x3, x4⟩, y0, y1, y2, y3, y4⟩ := hcs wr hbr
      have HBR := hide hbr
      have HCS := hide hcs
      have HCL := hide hcall
      clear hbr hcs hcall
      go_wp2_with fail
      go_region_held3 (fun W => (W.cell? ⟨g, k * 5, none⟩ = some (.int .i64 kd) ∧ W.cell? ⟨g, k * 5 + 1, none⟩ = some nm ∧ W.cell? ⟨g, k * 5 + 2, none⟩ = some va ∧ W.cell? ⟨g, k * 5 + 3, none⟩ = some tx ∧ W.cell? ⟨g, k * 5 + 4, none⟩ = some (.int .i64 q)) ∧ (W.cell? ⟨h, off + k * 5, none⟩ = some (.int .i64 kd) ∧ W.cell? ⟨h, off + k * 5 + 1, none⟩ = some nm ∧ W.cell? ⟨h, off + k * 5 + 2, none⟩ = some vb ∧ W.cell? ⟨h, off + k * 5 + 3, none⟩ = some tx ∧ W.cell? ⟨h, off + k * 5 + 4, none⟩ = some (.int .i64 q)))
        (first | exact ⟨⟨x0, x1, x2, x3, x4⟩, y0, y1, y2, y3, y4⟩ | exact HCS.out _ bw6)
        (first | (go_at_call 21; refine (HCL.out _ (below_drewN HBR.out 1)).mono ?_; rintro e w6 ⟨rfl, bw6⟩))
      all_goals
        have BW6 := hide bw6
        clear bw6 x0 x1 x2 x3 x4 y0 y1 y2 y3 y4
        go_wp2
        go_roundw
        case rel => exact ⟨k + 1, by simp, by omega, BW6.out⟩
        case measure => simp only [RowKit.intOf]; omega
    · have hdec2 : decide ((k : Int) < L) = false := by simp; omega
      have B7 := hide hbr
      clear hbr
      go_wp2
      go_ret
      exact ⟨rfl, B7.out⟩
end Go.Proofs.YtbbocgeapofloabGreatDoor
set_option linter.unusedSimpArgs false
set_option linter.unusedVariables false
namespace Go.Proofs.YtbbocgeapofloabGreatDoor
open Go.RowKit Go.Maps Go.Lib

variable {F F' G A B : Nat → Prop} {R : Nat} {w w' w'' wr w1 : World} {a : Addr} {v v1 v2 lv : Value} {N n : Nat} {l l1 l2 : List Tok}

theorem Ans.past (h : Ans A w v l) (b : Below w.heap.size w w') : Ans A w' v l := h.old (fun k hk _ => b.block k hk) (fun _ _ x => x)
theorem RView.past (h : RView w v l) (b : Below w.heap.size w w') : RView w' v l := by
  obtain ⟨bo, cap, e, hm, hv⟩ := h
  refine ⟨bo, cap, e, hm, fun k hk => ?_⟩
  obtain ⟨h, off, vb, e2, x⟩ := hv k hk
  have lt : h < w.heap.size := World.block_lt_of_cell? w _ x.x0
  exact ⟨h, off, vb, e2, owns_of x.row fun j e => b.block j (own_lt x.row e), (b.cell (p := ⟨h, _, none⟩) lt).trans x.x0, (b.cell (p := ⟨h, _, none⟩) lt).trans x.x1, (b.cell (p := ⟨h, _, none⟩) lt).trans x.x2, (b.cell (p := ⟨h, _, none⟩) lt).trans x.x3, (b.cell (p := ⟨h, _, none⟩) lt).trans x.x4⟩

set_option maxHeartbeats 8000000 in
set_option maxRecDepth 10000 in
theorem tokenAll_ok (b : ByteArray) (w : World) (gl : Gl w a) (hb : b.size ≤ 2147483648) : Calls Tryz.prog 3 #[.string b] w fun e w' => e = .returned (.bool true) ∧ Below w.heap.size w w' := by
  have hall := all_ok b w gl hb
  rw [all_ref] at hall
  have href := fun w' => refAll_ok b w' hb
  have hgl := fun w' (h : Below w.heap.size w w') => gl.below gl.size h
  have hali := fun w' (h : Below w.heap.size w w') => alive_ok (hgl w' h)
  have HLI := hide hali
  have HR := hide href
  have hnum := num_ok
  have heql := eql_nils
  clear hgl hali href gl
  unfold AllEnd at hall
  generalize refAll b = Z at *
  obtain ⟨T, no, q⟩ := Z
  simp only at hall HR
  by_cases hno : no = 0
  · subst hno
    go_enter Tryz.func3, Tryz.ntmps3
    go_wp2_with fail
    refine hall.mono ?_
    rintro e w1 ⟨lv, A, rfl, an, b1, _, _⟩
    have AN := hide an
    have B1 := hide b1
    clear an b1 hall
    go_wp2_with fail
    refine (HR.out _).mono ?_
    rintro e w2 ⟨rv, rfl, ra, b2⟩
    have AN2 := hide (AN.out.past b2)
    have RA := hide ra.view
    have B2 := hide (B1.out.trans (below_less b2 B1.out.size))
    clear ra b2
    go_wp2_with fail
    refine (same_ok AN2.out RA.out).mono ?_
    rintro e w3 ⟨rfl, b3⟩
    have B3 := hide (B2.out.trans (below_less b3 B2.out.size))
    clear b3
    go_wp2_with (first | (go_at_call 11; refine (hnum _ _).mono ?_; rintro e wx ⟨rfl, hwx⟩; have hwy := hwx.symm; clear hwx; subst hwy) | (go_at_call 12; refine (HLI.out _ B3.out).mono ?_; rintro e w6 ⟨rfl, b6⟩; have B6 := hide (B3.out.trans (below_less b6 B3.out.size)); clear b6))
    go_ret
    exact ⟨rfl, B6.out⟩
  · have e0 : (no == 0) = false := by simpa using hno
    go_enter Tryz.func3, Tryz.ntmps3
    go_wp2_with fail
    refine hall.mono ?_
    rintro e w1 ⟨lv, A, rfl, an, b1, _, hnil⟩
    have hnl := hnil hno
    unfold nilS at hnl
    subst hnl
    have AN := hide an
    have B1 := hide b1
    clear an b1 hall hnil hno
    go_wp2_with fail
    refine (HR.out _).mono ?_
    rintro e w2 ⟨rv, rfl, ra, b2⟩
    have AN2 := hide (AN.out.past b2)
    have RA := hide ra.view
    have B2 := hide (B1.out.trans (below_less b2 B1.out.size))
    clear ra b2
    go_wp2_with fail
    refine (same_ok AN2.out RA.out).mono ?_
    rintro e w3 ⟨rfl, b3⟩
    have B3 := hide (B2.out.trans (below_less b3 B2.out.size))
    clear b3
    go_wp2_with (first | (go_at_call 11; refine (hnum _ _).mono ?_; rintro e wx ⟨rfl, hwx⟩; have hwy := hwx.symm; clear hwx; subst hwy) | (go_at_call 12; refine (HLI.out _ B3.out).mono ?_; rintro e w6 ⟨rfl, b6⟩; have B6 := hide (B3.out.trans (below_less b6 B3.out.size)); clear b6))
    go_ret
    exact ⟨rfl, B6.out⟩
end Go.Proofs.YtbbocgeapofloabGreatDoor
