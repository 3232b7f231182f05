import Derived.Laws.StructEq
import Derived.BigQuiet
import Derived.Deep.RegionHeld3
import Derived.Test.YtbbocgeapofloaiGreatDoorAo
set_option linter.unusedVariables false
set_option linter.unusedSimpArgs false
namespace Go.Proofs.YtbbocgeapofloaiGreatDoor
open Go.RowKit Go.Maps Go.Lib

variable {F F' G A B : Nat → Prop} {R : Nat} {w w' w'' wr w1 : World} {a : Addr} {v v1 v2 : Value} {N n : Nat} {l l1 l2 : List Tok}

theorem num_ok (n : Int) (w : World) : Calls Tryz.prog 6 #[.int .i64 n] w fun e w' => e = .returned (.int .i64 n) ∧ w' = w := by
  go_enter Tryz.func6, Tryz.ntmps6
  go_wp2
  go_ret
  exact ⟨rfl, rfl⟩

/-- A token's value. -/
def tokV (t : Tok) (v : Value) : Value := .agg #[.int .i64 t.kind, strV t.name, v, strV t.text, .int .i64 t.at_]

/-- The attributes of a row, one by one. -/
theorem attr_cells {l : List (List UInt8 × List UInt8)} {g cap : Nat} (h : w.ownsRow 0 48 2 (.slice (some ⟨g, 0, none⟩) l.length cap) l.length (attrCells l)) (i : Nat) (hi : i < l.length) :
    w.cell? ⟨g, i * 2, none⟩ = some (strV (l[i]).1) ∧ w.cell? ⟨g, i * 2 + 1, none⟩ = some (strV (l[i]).2) := by
  have hc := h.cells (g := g) rfl
  have key : ∀ (l : List (List UInt8 × List UInt8)) (i : Nat) (hi : i < l.length), (attrCells l)[i * 2]? = some (strV (l[i]).1) ∧ (attrCells l)[i * 2 + 1]? = some (strV (l[i]).2) := by
    intro l
    induction l with
    | nil => intro i hi; cases hi
    | cons x l ih =>
      intro i hi
      cases i with
      | zero => exact ⟨rfl, rfl⟩
      | succ i =>
        have := ih i (by simpa using hi)
        have e1 : (i + 1) * 2 = i * 2 + 2 := by omega
        rw [e1]
        simpa [attrCells] using this
  obtain ⟨k1, k2⟩ := key l i hi
  have h1 := hc _ _ k1
  have h2 := hc _ _ k2
  rw [Addr.add_mid, Nat.zero_add] at h1 h2
  exact ⟨h1, h2⟩

theorem guard52 : Tryz.prog.eqGuardType Tryz.prog.depth 48 = false := by kernel_rfl
theorem equal52 (x y : ByteArray) (w : World) : (Op.equalIn 10000 48 (.agg #[.string x, .string y]) (.agg #[.string x, .string y])).run Tryz.prog w = .ok true w := by
  have u9 := Tryz.underlying9
  have a9 := Tryz.isAgg9
  have z9 := Tryz.sizeOf9
  have hS : Tryz.prog.underlying 48 = some (.struct (Tryz.prog.fieldsOf 48)) := by kernel_rfl
  have hp : Tryz.prog.stoodInHeld 48 = false := by kernel_rfl
  rw [show (10000 : Nat) = 9999 + 1 from rfl, run_equalIn_agg w 9999 48 _ _ hS hp]
  simp only [Program.fieldsOf, Tryz.underlying48]
  go_simp
theorem neq52 (x y : ByteArray) (w : World) : (binOp .neq 48 (.agg #[.string x, .string y]) (.agg #[.string x, .string y])).run Tryz.prog w = .ok (.bool false) w := by
  have h := equal52 x y w
  simp [go_sem, binOp, Op.equal, Op.maxDepth, h]

/-- A token in a box of its own. -/
def boxT (t : Tok) (v : Value) : Obj := .cells #[.int .i64 t.kind, .string ⟨t.name.toArray⟩, v, .string ⟨t.text.toArray⟩, .int .i64 t.at_] 33

set_option maxHeartbeats 4000000 in
set_option maxRecDepth 10000 in
theorem alike_same (t t' : Tok) (va vb : Value) (w : World) (h1 : w.ownsRow 0 48 2 va t.attrs.length (attrCells t.attrs)) (h2 : w.ownsRow 0 48 2 vb t'.attrs.length (attrCells t'.attrs)) (ek : t'.kind = t.kind) (en : t'.name = t.name) (et : t'.text = t.text) (ea : t'.attrs = t.attrs) :
    Calls Tryz.prog 8 #[tokV t va, tokV t' vb] w fun e w' => e = .returned (.bool true) ∧ Below w.heap.size w w' := by
  obtain ⟨k', n', a', x', q'⟩ := t'
  simp only at ek en et ea
  subst ek en et ea
  unfold tokV
  obtain ⟨ao, ca, hva⟩ := slice_len h1
  obtain ⟨bo, cb, hvb⟩ := slice_len h2
  subst hva
  subst hvb
  have hB : Below w.heap.size w ((w.alloc (boxT t (.slice ao t.attrs.length ca))).alloc (boxT ⟨t.kind, t.name, t.attrs, t.text, q'⟩ (.slice bo t.attrs.length cb))) := ((Below.refl _ _).alloc (Nat.le_refl _) _).alloc (by simp) _
  have hx : ((w.alloc (boxT t (.slice ao t.attrs.length ca))).alloc (boxT ⟨t.kind, t.name, t.attrs, t.text, q'⟩ (.slice bo t.attrs.length cb))).heap[w.heap.size]? = some (boxT t (.slice ao t.attrs.length ca)) := by
    rw [Below.heap_alloc _ _ _ (by simp)]; exact Below_new _ _
  have hy : ((w.alloc (boxT t (.slice ao t.attrs.length ca))).alloc (boxT ⟨t.kind, t.name, t.attrs, t.text, q'⟩ (.slice bo t.attrs.length cb))).heap[w.heap.size + 1]? = some (boxT ⟨t.kind, t.name, t.attrs, t.text, q'⟩ (.slice bo t.attrs.length cb)) := by
    have := Below_new (w.alloc (boxT t (.slice ao t.attrs.length ca))) (boxT ⟨t.kind, t.name, t.attrs, t.text, q'⟩ (.slice bo t.attrs.length cb))
    simpa using this
  have hcell : ∀ wr, Below ((w.alloc (boxT t (.slice ao t.attrs.length ca))).alloc (boxT ⟨t.kind, t.name, t.attrs, t.text, q'⟩ (.slice bo t.attrs.length cb))).heap.size ((w.alloc (boxT t (.slice ao t.attrs.length ca))).alloc (boxT ⟨t.kind, t.name, t.attrs, t.text, q'⟩ (.slice bo t.attrs.length cb))) wr →
      wr.cell? ⟨w.heap.size, 2, none⟩ = some (.slice ao t.attrs.length ca) ∧ wr.cell? ⟨w.heap.size + 1, 2, none⟩ = some (.slice bo t.attrs.length cb) ∧ Below w.heap.size w wr := by
    intro wr b
    refine ⟨cell_of ((b.block _ (by first | (simp; done) | (simp; omega))).trans hx) rfl, cell_of ((b.block _ (by first | (simp; done) | (simp; omega))).trans hy) rfl, hB.trans (below_less b (by first | (simp; done) | (simp; omega)))⟩
  have hattr : ∀ wr, Below w.heap.size w wr → ∀ i, i < t.attrs.length → ∃ ga gb, ao = some ⟨ga, 0, none⟩ ∧ bo = some ⟨gb, 0, none⟩ ∧ ∃ x y : ByteArray, wr.cell? ⟨ga, i * 2, none⟩ = some (.string x) ∧ wr.cell? ⟨ga, i * 2 + 1, none⟩ = some (.string y) ∧ wr.cell? ⟨gb, i * 2, none⟩ = some (.string x) ∧ wr.cell? ⟨gb, i * 2 + 1, none⟩ = some (.string y) := by
    intro wr b i hi
    have h1' := h1
    have h2' := h2
    rcases h1'.2 with ⟨e, e0⟩ | ⟨ga, ca', cur, e, _⟩
    · omega
    rcases h2'.2 with ⟨e', e0⟩ | ⟨gb, cb', cur', e', _⟩
    · simp only at e0; omega
    cases e
    cases e'
    have o1 := attr_cells h1 i hi
    have o2 := attr_cells (l := t.attrs) h2 i hi
    have lt1 : ga < w.heap.size := World.block_lt_of_cell? w _ o1.1
    have lt2 : gb < w.heap.size := World.block_lt_of_cell? w _ o2.1
    exact ⟨ga, gb, rfl, rfl, _, _, (b.cell (p := ⟨ga, i * 2, none⟩) lt1).trans o1.1, (b.cell (p := ⟨ga, i * 2 + 1, none⟩) lt1).trans o1.2, (b.cell (p := ⟨gb, i * 2, none⟩) lt2).trans o2.1, (b.cell (p := ⟨gb, i * 2 + 1, none⟩) lt2).trans o2.2⟩
  have hmax : (t.attrs.length : Int) ≤ 9223372036854775807 := by
    rcases h1.2 with ⟨e, e0⟩ | ⟨ga, ca', cur, e, _, _, x1, x2, _⟩
    · omega
    · have : maxLen = 9223372036854775807 := rfl
      omega
  have HC := hide hcell
  have HAT := hide hattr
  have hgd := guard52
  have hne := neq52
  clear hcell hattr hB hx hy h1 h2
  unfold strV
  unfold boxT at HC
  generalize t.attrs.length = n at *
  go_enter Tryz.func8, Tryz.ntmps8
  go_wp2_with fail
  go_loopw [5] (fun i wr => ∃ k : Nat, i = .int .i64 k ∧ k ≤ n ∧ Below ((w.alloc (.cells #[.int .i64 t.kind, .string ⟨t.name.toArray⟩, .slice ao n ca, .string ⟨t.text.toArray⟩, .int .i64 t.at_] 33)).alloc (.cells #[.int .i64 t.kind, .string ⟨t.name.toArray⟩, .slice bo n cb, .string ⟨t.text.toArray⟩, .int .i64 q'] 33)).heap.size ((w.alloc (.cells #[.int .i64 t.kind, .string ⟨t.name.toArray⟩, .slice ao n ca, .string ⟨t.text.toArray⟩, .int .i64 t.at_] 33)).alloc (.cells #[.int .i64 t.kind, .string ⟨t.name.toArray⟩, .slice bo n cb, .string ⟨t.text.toArray⟩, .int .i64 q'] 33)) wr) (fun i _ => n - (RowKit.intOf i).toNat)
  case atStart => exact ⟨0, rfl, Nat.zero_le _, Below.refl _ _⟩
  case round =>
    obtain ⟨k, rfl, hk, hb⟩ := hrel
    obtain ⟨d1, d2, d3⟩ := HC.out _ hb
    by_cases hlt : k < n
    · obtain ⟨ga, gb, rfl, rfl, x, y, g1, g2, g3, g4⟩ := HAT.out _ d3 k hlt
      have hdec : decide ((k : Int) < n) = true := by simp; omega
      have D3 := hide d3
      have HB := hide hb
      clear hb d3
      go_wp2_with fail
      go_quiet (fail)
      go_wp2
      go_roundw
      case rel => exact ⟨k + 1, by simp, by omega, below_drewN HB.out _⟩
      case measure => simp only [RowKit.intOf]; omega
    · have hdec : decide ((k : Int) < n) = false := by simp; omega
      have D3 := hide d3
      clear hb d3
      go_wp2
      go_ret
      exact ⟨rfl, D3.out⟩
end Go.Proofs.YtbbocgeapofloaiGreatDoor
namespace Go.Proofs.YtbbocgeapofloaiGreatDoor
open Go.RowKit Go.Maps Go.Lib

variable {F F' G A B : Nat → Prop} {R : Nat} {w w' w'' wr w1 : World} {a : Addr} {v v1 v2 : Value} {N n : Nat} {l l1 l2 : List Tok}

def aliveText : ByteArray := ⟨#[60, 97, 32, 107, 61, 39, 49, 39, 62, 120, 60, 47, 97, 62]⟩
def aliveToks : List Tok := [⟨1, [97], [([107], [49])], [], 0⟩, ⟨3, [], [], [120], 9⟩, ⟨2, [97], [], [], 10⟩]
theorem alive_all : allP aliveText = (aliveToks, 0, 0) := by kernel_rfl

/-- The cells of answered tokens, one by one. -/
theorem Ans.at (h : Ans A w v l) (i : Nat) (hi : i < l.length) : ∃ g cap va, v = .slice (some ⟨g, 0, none⟩) l.length cap ∧ w.ownsRow 0 48 2 va (l[i]).attrs.length (attrCells (l[i]).attrs) ∧
    w.cell? ⟨g, i * 5, none⟩ = some (.int .i64 (l[i]).kind) ∧ w.cell? ⟨g, i * 5 + 1, none⟩ = some (strV (l[i]).name) ∧ w.cell? ⟨g, i * 5 + 2, none⟩ = some va ∧ w.cell? ⟨g, i * 5 + 3, none⟩ = some (strV (l[i]).text) ∧ w.cell? ⟨g, i * 5 + 4, none⟩ = some (.int .i64 (l[i]).at_) ∧ l.length ≤ maxLen := by
  obtain ⟨cs, h1, h2, h3⟩ := h
  have h1' := h1
  rcases h1'.2 with ⟨e, e0⟩ | ⟨g, cap, cur, e, _, _, hm1, hm2, _⟩
  · omega
  subst e
  have hc := h1.cells (g := g) rfl
  have key : ∀ (l : List Tok) (cs : List Value), Toks A 0 w nilS l cs → ∀ (i : Nat) (hi : i < l.length), ∃ va, w.ownsRow 0 48 2 va (l[i]).attrs.length (attrCells (l[i]).attrs) ∧ cs[i * 5]? = some (.int .i64 (l[i]).kind) ∧ cs[i * 5 + 1]? = some (strV (l[i]).name) ∧ cs[i * 5 + 2]? = some va ∧ cs[i * 5 + 3]? = some (strV (l[i]).text) ∧ cs[i * 5 + 4]? = some (.int .i64 (l[i]).at_) := by
    intro l cs h
    induction h with
    | nil => intro i hi; cases hi
    | cons t v l cs ho hf hl ih =>
      intro i hi
      cases i with
      | zero => exact ⟨v, ho, rfl, rfl, rfl, rfl, rfl⟩
      | succ i =>
        obtain ⟨va, a0, a1, a2, a3, a4, a5⟩ := ih i (by simpa using hi)
        have e1 : ∀ j, (i + 1) * 5 + j = (tokCells t v).length + (i * 5 + j) := fun j => by show _ = 5 + _; omega
        have e2 : ∀ j, (tokCells t v ++ cs)[(i + 1) * 5 + j]? = cs[i * 5 + j]? := fun j => by rw [e1, List.getElem?_append_right (Nat.le_add_right _ _), Nat.add_sub_cancel_left]
        exact ⟨va, a0, (e2 0).trans a1, (e2 1).trans a2, (e2 2).trans a3, (e2 3).trans a4, (e2 4).trans a5⟩
  obtain ⟨va, a0, a1, a2, a3, a4, a5⟩ := key l cs h2 i hi
  have up : ∀ j u, cs[j]? = some u → w.cell? ⟨g, j, none⟩ = some u := fun j u hj => by
    have := hc j u hj
    rwa [Addr.add_mid, Nat.zero_add] at this
  exact ⟨g, cap, va, rfl, a0, up _ _ a1, up _ _ a2, up _ _ a3, up _ _ a4, up _ _ a5, Nat.le_trans hm1 hm2⟩

set_option maxHeartbeats 4000000 in
set_option maxRecDepth 10000 in
theorem alive_ok (gl : Gl w a) : Calls Tryz.prog 7 #[] w fun e w' => e = .returned (.bool true) ∧ Below w.heap.size w w' := by
  have hall := all_ok aliveText w gl (by decide)
  rw [alive_all] at hall
  have hall2 : Calls Tryz.prog 4 #[.string aliveText] w fun e w' => ∃ g cap ao ca, e = .returned (.tuple #[.slice (some ⟨g, 0, none⟩) 3 cap, .int .i64 0, .int .i64 0]) ∧ w'.cell? ⟨g, 1, none⟩ = some (.string ⟨#[97]⟩) ∧ w'.cell? ⟨g, 2, none⟩ = some (.slice ao 1 ca) ∧ w'.cell? ⟨g, 8, none⟩ = some (.string ⟨#[120]⟩) ∧ Below w.heap.size w w' := by
    refine hall.mono ?_
    rintro e w' ⟨v, A, rfl, an, b, _, _⟩
    obtain ⟨g, cap, va, e1, ow, _, x1, x2, _⟩ := an.at 0 (by decide)
    obtain ⟨g', cap', va', e2, _, _, _, _, y3, _⟩ := an.at 1 (by decide)
    subst e1
    cases e2
    obtain ⟨ao, ca, e3⟩ := slice_len ow
    subst e3
    exact ⟨g, cap, ao, ca, rfl, x1, x2, y3, b⟩
  have hnum := num_ok 0
  unfold aliveText at hall2
  clear hall gl
  go_enter Tryz.func7, Tryz.ntmps7
  go_wp2_with (first | (go_at_call 4; refine hall2.mono ?_; rintro e w2 ⟨g, cap, ao, ca, rfl, x1, x2, x3, b⟩) | (go_at_call 6; refine (hnum _).mono ?_; rintro e w3 ⟨rfl, rfl⟩))
  go_ret
  exact ⟨rfl, b⟩
end Go.Proofs.YtbbocgeapofloaiGreatDoor
namespace Go.Proofs.YtbbocgeapofloaiGreatDoor
open Go.RowKit Go.Maps Go.Lib

variable {F F' G A B : Nat → Prop} {R : Nat} {w w' w'' wr w1 : World} {a : Addr} {v v1 v2 lv : Value} {N n : Nat} {l l1 l2 : List Tok} {r : PR} {b : ByteArray} {i : Nat}

theorem mrun_flags : ∀ (n : Nat) (s : Src) (pt : Part) (st : St), (mrun n s pt st).s.no = s.no ∧ (mrun n s pt st).s.fat = s.fat ∧ (mrun n s pt st).s.closed = s.closed ∧ ∀ no q, (mrun n s pt st).ret = .fail no q → no ≠ 0 := by
  intro n
  induction n with
  | zero => intro s pt st; exact ⟨rfl, rfl, rfl, fun _ _ e => by cases e⟩
  | succ n ih =>
    intro s pt st
    have hf := took_flags s
    have he := stepPart_ends pt s.took.1.at_ st s.took.2
    simp only [mrun]
    split
    · exact ⟨rfl, rfl, rfl, fun _ _ e => by cases e⟩
    · generalize hr : (stepPart pt s.took.1.at_ st s.took.2).res = rr
      cases rr with
      | go pt' =>
        have := ih s.took.1 pt' (stepPart pt s.took.1.at_ st s.took.2).st
        exact ⟨this.1.trans hf.2.1, this.2.1.trans hf.2.2.1, this.2.2.1.trans hf.2.2.2.1, this.2.2.2⟩
      | stop => exact ⟨hf.2.1, hf.2.2.1, hf.2.2.2.1, fun _ _ e => by cases e⟩
      | fail no q =>
        refine ⟨hf.2.1, hf.2.2.1, hf.2.2.2.1, fun _ _ e => ?_⟩
        cases e
        exact he.fail _ _ hr

/-- Where nothing is wrong no place is told. -/
def Flat (r : PR) : Prop := r.s.no = 0 → r.s.fat = 0
theorem tells_flat {n : Nat} {s : Src} {pt : Part} {st : St} (h : s.no = 0 → s.fat = 0) : Flat (tells (mrun n s pt st)).1 := by
  have hm := mrun_flags n s pt st
  unfold tells Flat
  generalize mrun n s pt st = m at *
  cases hr : m.ret with
  | more => intro h0; exact hm.2.1.trans (h (hm.1.symm.trans h0))
  | over => intro h0; exact hm.2.1.trans (h (hm.1.symm.trans h0))
  | fail no q => intro h0; exact absurd h0 (hm.2.2.2 no q hr)
theorem write_flat (h : Flat r) (b : ByteArray) : Flat (r.write b).1 := by
  unfold PR.write
  split
  · exact h
  · split
    · rename_i pt _
      exact tells_flat (n := (r.s.rest ++ b).size + 1) (s := { r.s with rest := r.s.rest ++ b }.bare) (pt := pt) (st := r.st) (by exact h)
    · exact h
theorem close_flat (h : Flat r) : Flat r.close.1 := by
  unfold PR.close
  split
  · exact h
  split
  · exact h
  · split
    · rename_i pt _
      show Flat (shut (tells (reads { r.s with closed := true, ended := true }.bare pt r.st))).1
      have := tells_flat (n := r.s.rest.size + 1) (s := { r.s with closed := true, ended := true }.bare) (pt := pt) (st := r.st) (by exact h)
      exact this
    · exact h
theorem err_flat (h : Flat r) (h0 : r.err.1 = 0) : r.err.2 = 0 := by
  unfold PR.err at *
  split at h0
  · rename_i hc; rw [if_pos hc]; exact h h0
  · rename_i hc; rw [if_neg hc]
theorem flat_new : Flat PR.new := fun _ => rfl

theorem take_next (b : ByteArray) (i : Nat) (_h : i < b.size) : b.extract 0 (i + 1) = b.extract 0 i ++ b.extract i (i + 1) := by
  apply ByteArray.ext
  apply Array.ext'
  simp only [ByteArray.data_extract, ByteArray.data_append, Array.toList_extract, Array.toList_append, List.extract_eq_take_drop, List.drop_zero, Nat.sub_zero]
  rw [List.take_add, Nat.add_sub_cancel_left]
theorem take_all (b : ByteArray) : b.extract 0 b.size = b := by simp

structure WI (w : World) (b : ByteArray) (wr : World) (lv : Value) (i : Nat) : Prop where
  ex : ∃ F A, Alive F w.heap.size wr (PR.new.write (b.extract 0 i)).1 ∧ Ans A wr lv (PR.new.write (b.extract 0 i)).2 ∧ Below w.heap.size w wr ∧ (∀ k, F k → w.heap.size ≤ k) ∧ (∀ k, A k → w.heap.size ≤ k ∧ k < wr.heap.size ∧ ¬ F k) ∧ w.heap.size < wr.heap.size

theorem Gl.below (gl : Gl w a) {K : Nat} (hK : 4 < K) (h : Below K w w') : Gl w' a :=
  gl.frame (F := fun k => K ≤ k) ⟨h.os, h.tape, h.output, h.size, fun k _ hf => h.block k (by omega)⟩ (fun k hk x => by omega)

theorem WI.start : WI w b (w.alloc (.cells newCells 62)) nilS 0 := by
  have e : b.extract 0 0 = ⟨#[]⟩ := by apply ByteArray.ext; simp
  refine ⟨fun k => k = w.heap.size, fun _ => False, ?_, ?_, (Below.refl _ _).alloc (Nat.le_refl _) _, fun k e => by omega, fun k x => x.elim, by simp⟩
  · rw [e, new_write_none]; exact new_alive w
  · rw [e, new_write_none]; exact ⟨[], owns_nil _ _ _, .nil, fun k e => absurd e (nil_block k)⟩

theorem WI.step (gl : Gl w a) (h : WI w b wr lv i) (hi : i < b.size) (hb : b.size ≤ 2147483648) :
    Calls Tryz.prog 10 #[.pointer (some ⟨w.heap.size, 0, none⟩), .string (b.extract i (i + 1))] wr fun e w2 => ∃ v1, e = .returned v1 ∧ ∃ v' w3, (Builtin.append_ #[22, 22] 22 #[lv, v1]).run Tryz.prog w2 = .ok v' w3 ∧ WI w b w3 v' (i + 1) := by
  obtain ⟨F, A, al, an, bl, hF, hA, hz⟩ := h
  have h4 := gl.size
  have glr := gl.below h4 bl
  have lo : Low F := fun k hk x => by have := hF k x; omega
  have hg : Good (PR.new.write (b.extract 0 i)).1 (0 + (b.extract 0 i).size) := write_good good_new _
  have hs1 : (b.extract 0 i).size = i := by simp; omega
  have hs2 : (b.extract i (i + 1)).size = 1 := by simp; omega
  refine (write_pr al hg glr lo (b.extract i (i + 1)) (by omega)).mono ?_
  rintro e w2 ⟨v1, A1, F1, rfl, an1, al1, fr1, h1, h2⟩
  have hz2 := fr1.size
  have an' : Ans A w2 lv (PR.new.write (b.extract 0 i)).2 := an.old (fun k hk hAk => fr1.block k hk (hA k hAk).2.2) (fun _ _ x => x)
  have hwa := write_append (N := 0) good_new (b.extract 0 i) (b.extract i (i + 1))
  rw [← take_next b i hi] at hwa
  have hbd : (PR.new.write (b.extract 0 i)).2.length + ((PR.new.write (b.extract 0 i)).1.write (b.extract i (i + 1))).2.length ≤ 68719476736 := by
    have t1 := write_told good_new (b.extract 0 i)
    have t2 := write_told hg (b.extract i (i + 1))
    omega
  obtain ⟨v', w3, hrun, an3, gr⟩ := ans_append an' an1 hbd
  refine ⟨v1, rfl, v', w3, hrun, F1, fun k => (A k ∨ A1 k ∨ k = w2.heap.size) ∧ k < w3.heap.size, ?_, ?_, ?_, ?_, ?_, ?_⟩
  · rw [hwa]
    have hr : ∀ k, lv.ownBlock = some k → A k := fun k e => by obtain ⟨cs, _, _, h⟩ := an; exact h k e
    have hlt : ∀ k, F1 k → k < w2.heap.size := fun k hk => by obtain ⟨_, _, rep, _⟩ := al1; exact rep.lt k hk
    refine al1.keep (fun k hk => gr.block k (hlt k hk) (fun e => ?_)) gr.size
    have hAk := hr k e.symm
    exact (h2 k hk).elim (hA k hAk).2.2 (fun x => by have := (hA k hAk).2.1; omega)
  · rw [hwa]
    exact an3.old (fun _ _ _ => rfl) (fun k hk x => ⟨x, hk⟩)
  · refine bl.trans ((fr1.up hF (by omega)).trans (grown_up gr (fun k e => ?_) (by omega)))
    obtain ⟨cs, _, _, h⟩ := an
    exact (hA k (h k e)).1
  · exact fun k hk => (h2 k hk).elim (hF k) (fun x => by omega)
  · rintro k ⟨x | x | x, hk3⟩
    · exact ⟨(hA k x).1, hk3, fun y => (h2 k y).elim (hA k x).2.2 (fun z => by have := (hA k x).2.1; omega)⟩
    · exact ⟨(h1 k x).1.elim (hF k) (fun z => by omega), hk3, (h1 k x).2⟩
    · exact ⟨by omega, hk3, fun y => by obtain ⟨_, _, rep, _⟩ := al1; have := rep.lt k y; omega⟩
  · have := gr.size; omega

theorem WI.close (gl : Gl w a) (h : WI w b wr lv b.size) (hb : b.size ≤ 2147483648) :
    Calls Tryz.prog 11 #[.pointer (some ⟨w.heap.size, 0, none⟩)] wr fun e w2 => ∃ v1, e = .returned v1 ∧ ∃ v' w3 A, (Builtin.append_ #[22, 22] 22 #[lv, v1]).run Tryz.prog w2 = .ok v' w3 ∧ Ans A w3 v' ((PR.new.write b).2 ++ (PR.new.write b).1.close.2) ∧ Below w.heap.size w w3 ∧
      Calls Tryz.prog 12 #[.pointer (some ⟨w.heap.size, 0, none⟩)] w3 fun e w5 => e = .returned (.tuple #[.int .i64 (PR.new.write b).1.close.1.err.1, .int .i64 (PR.new.write b).1.close.1.err.2]) ∧ Below w3.heap.size w3 w5 := by
  obtain ⟨F, A, al, an, bl, hF, hA, hz⟩ := h
  rw [take_all] at al an
  have h4 := gl.size
  have glr := gl.below h4 bl
  have lo : Low F := fun k hk x => by have := hF k x; omega
  have hg : Good (PR.new.write b).1 (0 + b.size) := write_good good_new _
  have t1 := write_told good_new b
  have t2 := close_told hg
  refine (close_pr al hg glr lo (by omega)).mono ?_
  rintro e w2 ⟨v2, A2, F2, rfl, an2, al2, fr2, g1, g2⟩
  obtain ⟨v', w4, A', hrun, an4, al4, b4, hA', hF2⟩ := both_end (x := PR.new.write b) (y := (PR.new.write b).1.close) (K := w.heap.size) (by omega) an hA hF an2 al2 fr2 g1 g2 (by omega)
  exact ⟨v2, rfl, v', w4, A', hrun, an4, bl.trans b4, err_pr al4⟩
end Go.Proofs.YtbbocgeapofloaiGreatDoor
namespace Go.Proofs.YtbbocgeapofloaiGreatDoor
open Go.RowKit Go.Maps Go.Lib

variable {F F' G A B : Nat → Prop} {R : Nat} {w w' w'' wr w1 : World} {a : Addr} {v v1 v2 lv : Value} {N n : Nat} {l l1 l2 : List Tok} {r : PR} {b : ByteArray} {i : Nat}

/-- Two answers that hold the same tokens, the k-th ones. -/
structure Pair (w5 wr : World) (lv av : Value) (l : List Tok) (k : Nat) : Prop where
  ex : ∃ g cg h ch va vb kd nm tx q, lv = .slice (some ⟨g, 0, none⟩) l.length cg ∧ av = .slice (some ⟨h, 0, none⟩) l.length ch ∧
    (∀ W, Below w5.heap.size w5 W → (W.cell? ⟨g, k * 5, none⟩ = some (.int .i64 kd) ∧ W.cell? ⟨g, k * 5 + 1, none⟩ = some nm ∧ W.cell? ⟨g, k * 5 + 2, none⟩ = some va ∧ W.cell? ⟨g, k * 5 + 3, none⟩ = some tx ∧ W.cell? ⟨g, k * 5 + 4, none⟩ = some (.int .i64 q)) ∧
      (W.cell? ⟨h, k * 5, none⟩ = some (.int .i64 kd) ∧ W.cell? ⟨h, k * 5 + 1, none⟩ = some nm ∧ W.cell? ⟨h, k * 5 + 2, none⟩ = some vb ∧ W.cell? ⟨h, k * 5 + 3, none⟩ = some tx ∧ W.cell? ⟨h, k * 5 + 4, none⟩ = some (.int .i64 q))) ∧
    Calls Tryz.prog 8 #[.agg #[.int .i64 kd, nm, va, tx, .int .i64 q], .agg #[.int .i64 kd, nm, vb, tx, .int .i64 q]] wr.drew fun e w' => e = .returned (.bool true) ∧ Below w5.heap.size w5 w'

theorem pair_of (h1 : Ans A w lv l) (h2 : Ans B w v l) (k : Nat) (hk : k < l.length) (hb : Below w.heap.size w wr) : Pair w wr lv v l k := by
  obtain ⟨g, cg, va, rfl, o1, x0, x1, x2, x3, x4, _⟩ := h1.at k hk
  obtain ⟨h, ch, vb, rfl, o2, y0, y1, y2, y3, y4, _⟩ := h2.at k hk
  have lt1 : g < w.heap.size := World.block_lt_of_cell? w _ x0
  have lt2 : h < w.heap.size := World.block_lt_of_cell? w _ y0
  refine ⟨g, cg, h, ch, va, vb, _, _, _, _, rfl, rfl, fun W bW => ⟨⟨(bW.cell (p := ⟨g, k * 5, none⟩) lt1).trans x0, (bW.cell (p := ⟨g, k * 5 + 1, none⟩) lt1).trans x1, (bW.cell (p := ⟨g, k * 5 + 2, none⟩) lt1).trans x2, (bW.cell (p := ⟨g, k * 5 + 3, none⟩) lt1).trans x3, (bW.cell (p := ⟨g, k * 5 + 4, none⟩) lt1).trans x4⟩, (bW.cell (p := ⟨h, k * 5, none⟩) lt2).trans y0, (bW.cell (p := ⟨h, k * 5 + 1, none⟩) lt2).trans y1, (bW.cell (p := ⟨h, k * 5 + 2, none⟩) lt2).trans y2, (bW.cell (p := ⟨h, k * 5 + 3, none⟩) lt2).trans y3, (bW.cell (p := ⟨h, k * 5 + 4, none⟩) lt2).trans y4⟩, ?_⟩
  have bd : Below w.heap.size w wr.drew := below_drewN hb 1
  have keep : ∀ {vv : Value} {nn : Nat} {xs : List Value}, w.ownsRow 0 48 2 vv nn xs → wr.drew.ownsRow 0 48 2 vv nn xs := fun o => owns_of o fun j e => by
    obtain ⟨cur, hc⟩ := owns_blk o e
    exact bd.block j (blk_lt hc)
  refine (alike_same (l[k]) (l[k]) va vb wr.drew (keep o1) (keep o2) rfl rfl rfl rfl).mono ?_
  rintro e w' ⟨rfl, bw⟩
  exact ⟨rfl, bd.trans (below_less bw bd.size)⟩

theorem slice_of (h : Ans A w v l) : ∃ b c, v = .slice b l.length c ∧ l.length ≤ maxLen := by
  obtain ⟨cs, o, _, _⟩ := h
  rcases o.2 with ⟨rfl, e⟩ | ⟨g, cap, cur, rfl, _, _, h1, h2, _⟩
  · rw [e]; exact ⟨none, 0, rfl, Nat.zero_le _⟩
  · exact ⟨_, _, rfl, Nat.le_trans h1 h2⟩

theorem eql_nils (w : World) : (binOp .eql 22 (.slice none 0 0) (.slice none 0 0)).run Tryz.prog w = .ok (.bool true) w := by kernel_rfl

end Go.Proofs.YtbbocgeapofloaiGreatDoor
