import Derived.Shelf.Strings.Trim
import Derived.Shelf.Strings.SlTrimAscii
import Derived.Test.YtfolnkmbdmfigaaGreatDoorProg
import Derived.Test.YtfolnkmbdmfigaaGreatDoorHba
set_option linter.unusedVariables false
set_option linter.unusedSimpArgs false
namespace Go.Proofs
open Go.Shelf
def Tryz.lays160_ren : Go.Shelf.Ren := ⟨fun | 160 => 96 | 232 => 128 | 231 => 127 | 227 => 129 | 234 => 131 | 233 => 130 | 236 => 133 | 235 => 132 | 228 => 148 | 271 => 150 | 151 => 149 | 197 => 122 | 120 => 158 | 152 => 157 | 260 => 147 | 137 => 160 | 119 => 161 | 224 => 162 | 225 => 163 | 217 => 165 | 266 => 167 | n => n, fun | 9 => 9 | 4 => 4 | 3 => 3 | 5 => 5 | 117 => 190 | 116 => 189 | 0 => 0 | 124 => 193 | 21 => 21 | 105 => 168 | 46 => 201 | 119 => 202 | 139 => 205 | 138 => 204 | n => n, fun | 3 => 3 | 4 => 4 | n => n⟩
theorem Tryz.lays160 : Go.Proofs.Lays.n160 Tryz.prog Tryz.lays160_ren := {
  mixed := by kernel_rfl
  f119 := Tryz.func161.trans (congrArg some (by kernel_rfl))
  f120 := Tryz.func158.trans (congrArg some (by kernel_rfl))
  f137 := Tryz.func160.trans (congrArg some (by kernel_rfl))
  f151 := Tryz.func149.trans (congrArg some (by kernel_rfl))
  f152 := Tryz.func157.trans (congrArg some (by kernel_rfl))
  f160 := Tryz.func96.trans (congrArg some (by kernel_rfl))
  f197 := Tryz.func122.trans (congrArg some (by kernel_rfl))
  f217 := Tryz.func165.trans (congrArg some (by kernel_rfl))
  f224 := Tryz.func162.trans (congrArg some (by kernel_rfl))
  f225 := Tryz.func163.trans (congrArg some (by kernel_rfl))
  f227 := Tryz.func129.trans (congrArg some (by kernel_rfl))
  f228 := Tryz.func148.trans (congrArg some (by kernel_rfl))
  f231 := Tryz.func127.trans (congrArg some (by kernel_rfl))
  f232 := Tryz.func128.trans (congrArg some (by kernel_rfl))
  f233 := Tryz.func130.trans (congrArg some (by kernel_rfl))
  f234 := Tryz.func131.trans (congrArg some (by kernel_rfl))
  f235 := Tryz.func132.trans (congrArg some (by kernel_rfl))
  f236 := Tryz.func133.trans (congrArg some (by kernel_rfl))
  f260 := Tryz.func147.trans (congrArg some (by kernel_rfl))
  f266 := Tryz.func167.trans (congrArg some (by kernel_rfl))
  f271 := Tryz.func150.trans (congrArg some (by kernel_rfl))
  t0 := Tryz.underlying0
  a0 := Tryz.isAgg0
  z0 := Tryz.sizeOf0
  v0 := Tryz.zeroValue0
  t3 := Tryz.underlying3
  a3 := Tryz.isAgg3
  z3 := Tryz.sizeOf3
  v3 := Tryz.zeroValue3
  t4 := Tryz.underlying4
  a4 := Tryz.isAgg4
  z4 := Tryz.sizeOf4
  v4 := Tryz.zeroValue4
  t5 := Tryz.underlying5
  a5 := Tryz.isAgg5
  z5 := Tryz.sizeOf5
  v5 := Tryz.zeroValue5
  t9 := Tryz.underlying9
  a9 := Tryz.isAgg9
  z9 := Tryz.sizeOf9
  v9 := Tryz.zeroValue9
  t21 := Tryz.underlying21
  a21 := Tryz.isAgg21
  z21 := Tryz.sizeOf21
  v21 := Tryz.zeroValue21
  t46 := Tryz.underlying201
  a46 := Tryz.isAgg201
  z46 := Tryz.sizeOf201
  v46 := Tryz.zeroValue201
  t105 := Tryz.underlying168
  a105 := Tryz.isAgg168
  z105 := Tryz.sizeOf168
  v105 := Tryz.zeroValue168
  t116 := Tryz.underlying189
  a116 := Tryz.isAgg189
  z116 := Tryz.sizeOf189
  t117 := Tryz.underlying190
  a117 := Tryz.isAgg190
  z117 := Tryz.sizeOf190
  v117 := Tryz.zeroValue190
  t119 := Tryz.underlying202
  a119 := Tryz.isAgg202
  z119 := Tryz.sizeOf202
  t124 := Tryz.underlying193
  a124 := Tryz.isAgg193
  z124 := Tryz.sizeOf193
  v124 := Tryz.zeroValue193
  t138 := Tryz.underlying204
  a138 := Tryz.isAgg204
  z138 := Tryz.sizeOf204
  v138 := Tryz.zeroValue204
  t139 := Tryz.underlying205
  a139 := Tryz.isAgg205
  z139 := Tryz.sizeOf205
  v139 := Tryz.zeroValue205
  g3 := by kernel_rfl
  g4 := by kernel_rfl }
open Go.RowKit in
theorem Tryz.strings_Trim_blanks (s : ByteArray) (w : World) (hs : s.size ≤ 9223372036854775807) :
    Calls Tryz.prog 96 #[.string s, .string ⟨#[9, 10, 13, 32]⟩] w fun e w' => e = .returned (.string ⟨(Lib.trimS s.data.toList [9, 10, 13, 32]).toArray⟩) ∧ Below w.heap.size w w' :=
  Any.strings_Trim_laid Tryz.lays160 (by kernel_rfl) s ⟨#[9, 10, 13, 32]⟩ w hs (by decide) (ascii_of_all (by decide))
end Go.Proofs

set_option linter.unusedSimpArgs false
set_option linter.unusedVariables false
namespace Go.Proofs.YtfolnkmbdmfigaaGreatDoor
open Go.RowKit Go.Maps Go.Lib
variable {S : Nat → Prop} {w w' w1 : World} {sv : Value} {X i : Nat} {cs : Array Value} {ty : TypeId} {ns : List (List UInt8)} {r : Bool}

def nameCells (l : List (List UInt8)) : List Value := l.map strV
structure NS (S : Nat → Prop) (X i : Nat) (w : World) (cs : Array Value) (ty : TypeId) (sv : Value) (ns : List (List UInt8)) (r : Bool) : Prop where
  blk : w.heap[X]? = some (.cells cs ty (0, 0))
  c0 : cs[i]? = some sv
  c1 : cs[i + 1]? = some (.bool r)
  row : w.ownsRow 0 9 1 sv ns.length (nameCells ns)
  own : ∀ k, sv.ownBlock = some k → S k
  nX : ¬ S X
  lt : ∀ k, S k → k < w.heap.size
def Oth (i : Nat) (cs cs' : Array Value) : Prop := cs'.size = cs.size ∧ ∀ j, j ≠ i → j ≠ i + 1 → cs'[j]? = cs[j]?
theorem Oth.refl (i : Nat) (cs : Array Value) : Oth i cs cs := ⟨rfl, fun _ _ _ => rfl⟩
theorem Oth.set (i : Nat) (cs : Array Value) (v : Value) : Oth i cs (cs.setIfInBounds i v) := ⟨by simp, fun j h _ => by rw [Array.getElem?_setIfInBounds, if_neg (fun e => h e.symm)]⟩
theorem Oth.set2 (i : Nat) (cs : Array Value) (v u : Value) : Oth i cs ((cs.setIfInBounds i v).setIfInBounds (i + 1) u) := ⟨by simp, fun j h h2 => by rw [Array.getElem?_setIfInBounds, if_neg (fun e => h2 e.symm), Array.getElem?_setIfInBounds, if_neg (fun e => h e.symm)]⟩
theorem NS.cell0 (h : NS S X i w cs ty sv ns r) : w.cell? ⟨X, i, none⟩ = some sv := cell_of h.blk h.c0
theorem NS.cell1 (h : NS S X i w cs ty sv ns r) : w.cell? ⟨X, i + 1, none⟩ = some (.bool r) := cell_of h.blk h.c1
theorem info9 : (Tryz.prog.info? 9).map (fun i => (i.zero, i.size, i.bytes)) = some (some (.string ⟨#[]⟩), 1, 16) := by kernel_rfl
set_option maxHeartbeats 4000000 in
set_option maxRecDepth 100000 in
theorem nest_whole (h : NS S X i w cs ty sv ns r) : Calls Tryz.prog 25 #[.pointer (some ⟨X, i, none⟩)] w fun e w' => e = .returned (.bool (r && decide (ns.length = 0))) ∧ More1 w w' := by
  obtain ⟨ai, ac, hav⟩ := slice_len h.row
  subst hav
  have c0 := h.cell0
  have c1 := h.cell1
  clear h
  cases r with
  | false =>
    go_enter Tryz.func25, Tryz.ntmps25
    go_wp2
    go_ret
    exact ⟨by simp, More1.refl w⟩
  | true =>
    by_cases hz : ns.length = 0
    · rw [hz] at c0 ⊢
      go_enter Tryz.func25, Tryz.ntmps25
      go_wp2
      go_ret
      exact ⟨by simp, More1.refl w⟩
    · have hz1 : ((ns.length : Int) == 0) = false := by rw [beq_eq_false_iff_ne]; omega
      have hz2 : (decide (ns.length = 0)) = false := decide_eq_false hz
      go_enter Tryz.func25, Tryz.ntmps25
      go_wp2
      go_ret
      exact ⟨by rw [hz2]; rfl, More1.refl w⟩
set_option maxHeartbeats 4000000 in
set_option maxRecDepth 100000 in
theorem nest_root (h : NS S X i w cs ty sv [] true) (name : ByteArray) : Calls Tryz.prog 62 #[.pointer (some ⟨X, i, none⟩), .string name] w fun e w' => e = .returned (.int .i64 7) ∧ More1 w w' := by
  have hw := nest_whole h
  clear h
  go_enter Tryz.func62, Tryz.ntmps62
  go_wp2_with (go_at_call 25; refine hw.mono ?_; rintro e w1 ⟨rfl, m1⟩)
  go_ret
  exact ⟨rfl, m1⟩
theorem NS.keep {W : World} (h : NS S X i w cs ty sv ns r) (hM : More1 w W) : NS S X i W cs ty sv ns r :=
  ⟨(hM.keep X (blk_lt h.blk)).trans h.blk, h.c0, h.c1, owns_of h.row fun k e => hM.keep k (own_lt h.row e), h.own, h.nX, fun k x => Nat.lt_of_lt_of_le (h.lt k x) hM.size⟩
set_option maxHeartbeats 4000000 in
set_option maxRecDepth 100000 in
theorem nest_deep (h : NS S X i w cs ty sv ns r) (hn : ns.length = 30) (name : ByteArray) : Calls Tryz.prog 62 #[.pointer (some ⟨X, i, none⟩), .string name] w fun e w' => e = .returned (.int .i64 8) ∧ More1 w w' := by
  have hw : Calls Tryz.prog 25 #[.pointer (some ⟨X, i, none⟩)] w fun e w' => e = .returned (.bool false) ∧ More1 w w' := by
    have := nest_whole h
    rw [hn] at this
    simpa using this
  have hc : ∀ W, More1 w W → ∃ ai ac, W.cell? ⟨X, i, none⟩ = some (.slice ai 30 ac) := fun W hM => by
    have h2 := h.keep hM
    obtain ⟨ai, ac, hav⟩ := slice_len h2.row
    exact ⟨ai, ac, by rw [h2.cell0, hav, hn]⟩
  have HC := hide hc
  clear h hn hc
  go_enter Tryz.func62, Tryz.ntmps62
  go_wp2_with (go_at_call 25; refine hw.mono ?_; rintro e w1 ⟨rfl, m1⟩; obtain ⟨ai, ac, c0⟩ := HC.out _ m1)
  go_ret
  exact ⟨rfl, m1⟩
theorem nest_close {cs : Array Value} {ty : TypeId} {v' : Value} {name : List UInt8} {w2 : World} {o : Obj} (h : NS S X i w cs ty sv ns r) (m1 : More1 w w1) (hg : (w1.alloc o).grownBy w2 sv.ownBlock) (ho : w2.ownsRow 0 9 1 v' (ns.length + 1) (nameCells ns ++ [strV name])) (hat : v'.ownBlock = sv.ownBlock ∨ v'.ownBlock = some (w1.alloc o).heap.size) :
    ∃ cs' sv', NS (Grow S w ((w2.setCell ⟨X, i, none⟩ v').setCell ⟨X, i + 1, none⟩ (.bool true))) X i ((w2.setCell ⟨X, i, none⟩ v').setCell ⟨X, i + 1, none⟩ (.bool true)) cs' ty sv' (ns ++ [name]) true ∧ Oth i cs cs' ∧ Frame (fun k => k = X ∨ S k) w ((w2.setCell ⟨X, i, none⟩ v').setCell ⟨X, i + 1, none⟩ (.bool true)) := by
  have hM := m1.alloc o
  have hXlt := blk_lt h.blk
  have hnX : sv.ownBlock ≠ some X := fun e => h.nX (h.own X e)
  have hX2 : w2.heap[X]? = some (.cells cs ty (0, 0)) := (hg.block X (Nat.lt_of_lt_of_le hXlt hM.size) (fun e => hnX e.symm)).trans ((hM.keep X hXlt).trans h.blk)
  have hvX : v'.ownBlock ≠ some X := by
    rcases hat with e | e <;> rw [e]
    · exact hnX
    · intro x; cases x; exact absurd hXlt (by have := hM.size; omega)
  have hX3 := set_of (i := i + 1) (set_of (i := i) hX2 v') (.bool true)
  have hi0 : i < cs.size := (Array.getElem?_eq_some_iff.1 h.c0).1
  have hi1 : i + 1 < cs.size := (Array.getElem?_eq_some_iff.1 h.c1).1
  have hz : w.heap.size ≤ w2.heap.size := Nat.le_trans hM.size hg.size
  have keep : ∀ b, b ≠ X → ((w2.setCell ⟨X, i, none⟩ v').setCell ⟨X, i + 1, none⟩ (.bool true)).heap[b]? = w2.heap[b]? := fun b hb => by rw [Below.heap_setCell _ _ _ _ hb, Below.heap_setCell _ _ _ _ hb]
  have hs : ((w2.setCell ⟨X, i, none⟩ v').setCell ⟨X, i + 1, none⟩ (.bool true)).heap.size = w2.heap.size := by simp [World.setCell]
  refine ⟨_, v', ⟨hX3, ?_, ?_, ?_, ?_, ?_, ?_⟩, Oth.set2 _ _ _ _, hg.os.trans hM.os, hg.tape.trans hM.tape, hg.output.trans hM.output, by rw [hs]; exact hz, ?_⟩
  · rw [Array.getElem?_setIfInBounds, if_neg (by omega), Array.getElem?_setIfInBounds, if_pos rfl, if_pos hi0]
  · rw [Array.getElem?_setIfInBounds, if_pos rfl, if_pos (by simpa using hi1)]
  · have e : nameCells (ns ++ [name]) = nameCells ns ++ [strV name] := by simp [nameCells]
    rw [e, List.length_append]
    exact owns_of ho fun b e => keep b (fun x => hvX (by rw [e, x]))
  · intro k e
    rcases hat with e2 | e2
    · rw [e2] at e; exact Or.inl (h.own k e)
    · rw [e2] at e; cases e
      refine Or.inr ⟨hM.size, ?_⟩
      rw [hs]
      have h1 := own_lt ho e2
      exact h1
  · rintro (e | e)
    · exact h.nX e
    · omega
  · exact grow_lt h.lt (by rw [hs]; exact hz)
  · intro k hk hf
    rw [keep k (fun e => hf (Or.inl e)), hg.block k (Nat.lt_of_lt_of_le hk hM.size) (fun e => hf (Or.inr (h.own k e.symm)))]
    exact hM.keep k hk
set_option maxHeartbeats 4000000 in
set_option maxRecDepth 100000 in
theorem nest_opened (h : NS S X i w cs ty sv ns r) (hr : ns = [] → r = false) (hn : ns.length < 30) (name : List UInt8) : Calls Tryz.prog 62 #[.pointer (some ⟨X, i, none⟩), .string ⟨name.toArray⟩] w fun e w' => e = .returned (.int .i64 0) ∧ ∃ cs' sv', NS (Grow S w w') X i w' cs' ty sv' (ns ++ [name]) true ∧ Oth i cs cs' ∧ Frame (fun k => k = X ∨ S k) w w' := by
  have hw : Calls Tryz.prog 25 #[.pointer (some ⟨X, i, none⟩)] w fun e w' => e = .returned (.bool false) ∧ More1 w w' := by
    have := nest_whole h
    cases ns with
    | nil => rw [hr rfl] at this; simpa using this
    | cons a l => simpa using this
  have hk : ∀ W, More1 w W → NS S X i W cs ty sv ns r := fun W hM => h.keep hM
  obtain ⟨ai, ac, hav⟩ := slice_len h.row
  subst hav
  have hz1 : ((ns.length : Int) == 30) = false := by rw [beq_eq_false_iff_ne]; omega
  obtain ⟨i0, hi, hz0, hzz, hz2⟩ := info_parts info9
  have H := hide h
  have HK := hide hk
  clear h hk hr
  have hnX : (Value.slice ai ns.length ac).ownBlock ≠ some X := fun e => H.out.nX (H.out.own X e)
  go_enter Tryz.func62, Tryz.ntmps62
  go_wp2_with (first
    | (go_at_call 25; refine hw.mono ?_; rintro e w1 ⟨rfl, m1⟩; have h1 := HK.out _ m1; have c0 := h1.cell0; have c1 := h1.cell1; have R1 := hide h1.row; have B1 := hide h1.blk; have hXl := blk_lt h1.blk; clear h1)
    | (at_builtin; refine wpList_append_own_at _ rfl (.tmp 17) (.tmp 19) 50 rfl 0 9 i0 _ 1 16 Tryz.underlying50 hi hz0 hzz hz2 rfl (by decide) (.slice ai ns.length ac) ns.length (nameCells ns) rfl (R1.out.alloc _) ⟨w1.heap.size, 0, none⟩ 1 1 [strV name] rfl rfl ?c1 ?c2 ?c3 ?c4 (Nat.zero_le _) ?_))
  case c1 =>
    intro j u hj
    match j, hj with
    | 0, hj => simp at hj; subst hj; simp [Addr.add, strV]
    | (j + 1), hj => simp at hj
  case c2 => intro u hu; simp at hu; subst hu; rfl
  case c3 => unfold maxLen; omega
  case c4 => omega
  intro v' w2 ho hg _ hat
  obtain ⟨ao', cap', rfl⟩ := slice_len ho
  have hb1 : w2.heap[X]? = some (.cells cs ty (0, 0)) := (hg.block X (by simp; omega) (fun e => hnX e.symm)).trans ((Below.heap_alloc _ _ _ hXl).trans B1.out)
  have x0 : w2.cell? ⟨X, i, none⟩ = some (.slice ai ns.length ac) := cell_of hb1 H.out.c0
  have x1 : ∀ v, (w2.setCell ⟨X, i, none⟩ v).cell? ⟨X, i + 1, none⟩ = some (.bool r) := fun v => cell_of (set_of hb1 v) (by rw [Array.getElem?_setIfInBounds, if_neg (by omega)]; exact H.out.c1)
  have f0 := free_of (i := i) hb1
  have f1 : ∀ v, (w2.setCell ⟨X, i, none⟩ v).frozen? ⟨X, i + 1, none⟩ = false := fun v => free_of (i := i + 1) (set_of hb1 v)
  have HO := hide ho
  have HG := hide hg
  have HAT := hide hat
  have M1 := hide m1
  clear ho hg hat hb1 m1 c0 c1
  go_wp2
  go_ret
  exact ⟨rfl, nest_close H.out M1.out HG.out HO.out (by simpa using HAT.out)⟩
end Go.Proofs.YtfolnkmbdmfigaaGreatDoor

set_option linter.unusedSimpArgs false
set_option linter.unusedVariables false
namespace Go.Proofs.YtfolnkmbdmfigaaGreatDoor
open Go.RowKit Go.Maps Go.Lib
variable {S : Nat → Prop} {w w' w1 : World} {sv : Value} {X i : Nat} {cs : Array Value} {ty : TypeId} {ns : List (List UInt8)} {r : Bool}
set_option maxHeartbeats 4000000 in
set_option maxRecDepth 100000 in
theorem nest_none (h : NS S X i w cs ty sv [] r) (name : ByteArray) : Calls Tryz.prog 63 #[.pointer (some ⟨X, i, none⟩), .string name] w fun e w' => e = .returned (.int .i64 6) ∧ More1 w w' := by
  obtain ⟨ai, ac, hav⟩ := slice_len h.row
  subst hav
  have c0 := h.cell0
  clear h
  go_enter Tryz.func63, Tryz.ntmps63
  go_wp2
  go_ret
  exact ⟨rfl, More1.refl w⟩
theorem NS.last {nm : List UInt8} {xs : List (List UInt8)} (h : NS S X i w cs ty sv (xs ++ [nm]) r) : ∃ g ac, sv = .slice (some ⟨g, 0, none⟩) (xs.length + 1) ac ∧ w.cell? ⟨g, xs.length, none⟩ = some (strV nm) ∧ xs.length + 1 ≤ ac ∧ ac ≤ maxLen ∧ S g := by
  have ho := h.row
  rw [List.length_append] at ho
  rcases ho.2 with ⟨_, e⟩ | ⟨g, cap, cur, e1, h0, hg, h1, h2, h3, h4⟩
  · simp at e
  · refine ⟨g, cap, e1, cell_of hg ?_, by simpa using h1, h2, h.own g (by rw [e1]; rfl)⟩
    have h5 : (nameCells (xs ++ [nm]))[xs.length]? = some (strV nm) := by simp [nameCells]
    rw [← h4, List.getElem?_take] at h5
    split at h5
    · simpa using h5
    · cases h5
theorem owns_take {e : TypeId} {s g n m cap : Nat} {xs : List Value} (h : w.ownsRow 0 e s (.slice (some ⟨g, 0, none⟩) n cap) n xs) (hm : m ≤ n) : w.ownsRow 0 e s (.slice (some ⟨g, 0, none⟩) m cap) m (xs.take (m * s)) := by
  have hms : m * s ≤ n * s := Nat.mul_le_mul_right s hm
  refine ⟨by rw [List.length_take, h.1]; omega, ?_⟩
  rcases h.2 with ⟨e1, _⟩ | ⟨g', cap', cur, e1, h0, hg, h1, h2, h3, h4⟩
  · cases e1
  · cases e1
    refine Or.inr ⟨g, cap, cur, rfl, h0, hg, by omega, h2, h3, ?_⟩
    rw [← h4, List.take_take, Nat.min_eq_left hms]
set_option maxHeartbeats 4000000 in
set_option maxRecDepth 100000 in
theorem nest_bad {nm : List UInt8} {xs : List (List UInt8)} (h : NS S X i w cs ty sv (xs ++ [nm]) r) (hx : xs.length ≤ 30) (name : List UInt8) (hne : nm ≠ name) : Calls Tryz.prog 63 #[.pointer (some ⟨X, i, none⟩), .string ⟨name.toArray⟩] w fun e w' => e = .returned (.int .i64 6) ∧ More1 w w' := by
  obtain ⟨g, ac, hav, k0, hac, _⟩ := h.last
  unfold strV at k0
  subst hav
  have c0 := h.cell0
  generalize xs.length = n at *
  have hwr : IntKind.i64.wrap (((n + 1 : Nat) : Int) - 1) = (n : Int) := by rw [IntKind.wrap_i64]; omega
  have hlt : decide ((n : Int) < 0) = false := by simp
  have hin : (n : Int) < ((n + 1 : Nat) : Int) := by omega
  have hnm : (nm == name) = false := by simpa using hne
  clear h hne
  go_enter Tryz.func63, Tryz.ntmps63
  go_wp2
  go_ret
  exact ⟨rfl, More1.refl w⟩
theorem nest_shut_close {nm : List UInt8} {xs : List (List UInt8)} {g ac : Nat} (h : NS S X i w cs ty (.slice (some ⟨g, 0, none⟩) (xs.length + 1) ac) (xs ++ [nm]) r) (m1 : More1 w w1) :
    ∃ cs' sv', NS (Grow S w (w1.setCell ⟨X, i, none⟩ (.slice (some ⟨g, 0, none⟩) xs.length ac))) X i (w1.setCell ⟨X, i, none⟩ (.slice (some ⟨g, 0, none⟩) xs.length ac)) cs' ty sv' xs r ∧ Oth i cs cs' ∧ Frame (fun k => k = X ∨ S k) w (w1.setCell ⟨X, i, none⟩ (.slice (some ⟨g, 0, none⟩) xs.length ac)) := by
  have hXlt := blk_lt h.blk
  have hgS : S g := h.own g rfl
  have hgX : g ≠ X := fun e => h.nX (e ▸ hgS)
  have h1 := h.keep m1
  have keep : ∀ b, b ≠ X → (w1.setCell ⟨X, i, none⟩ (.slice (some ⟨g, 0, none⟩) xs.length ac)).heap[b]? = w1.heap[b]? := fun b hb => Below.heap_setCell _ _ _ _ hb
  have hs : (w1.setCell ⟨X, i, none⟩ (.slice (some ⟨g, 0, none⟩) xs.length ac)).heap.size = w1.heap.size := by simp [World.setCell]
  have hi0 : i < cs.size := (Array.getElem?_eq_some_iff.1 h.c0).1
  refine ⟨_, .slice (some ⟨g, 0, none⟩) xs.length ac, ⟨set_of (i := i) h1.blk _, ?_, ?_, ?_, ?_, ?_, ?_⟩, Oth.set _ _ _, m1.os, m1.tape, m1.output, by rw [hs]; exact m1.size, ?_⟩
  · rw [Array.getElem?_setIfInBounds, if_pos rfl, if_pos hi0]
  · rw [Array.getElem?_setIfInBounds, if_neg (by omega)]; exact h.c1
  · have hr := h1.row
    rw [List.length_append] at hr
    have h2 := owns_take (m := xs.length) hr (by simp)
    have e : (nameCells (xs ++ [nm])).take (xs.length * 1) = nameCells xs := by simp [nameCells, List.take_append_of_le_length]
    rw [e] at h2
    exact owns_of h2 fun b e => keep b (fun x => by cases e; exact hgX x)
  · intro k e; cases e; exact Or.inl hgS
  · rintro (e | e)
    · exact h.nX e
    · omega
  · exact grow_lt h.lt (by rw [hs]; exact m1.size)
  · intro k hk hf
    rw [keep k (fun e => hf (Or.inl e))]; exact m1.keep k hk
set_option maxHeartbeats 4000000 in
set_option maxRecDepth 100000 in
theorem nest_shut {nm : List UInt8} {xs : List (List UInt8)} (h : NS S X i w cs ty sv (xs ++ [nm]) r) (hx : xs.length ≤ 30) : Calls Tryz.prog 63 #[.pointer (some ⟨X, i, none⟩), .string ⟨nm.toArray⟩] w fun e w' => e = .returned (.int .i64 0) ∧ ∃ cs' sv', NS (Grow S w w') X i w' cs' ty sv' xs r ∧ Oth i cs cs' ∧ Frame (fun k => k = X ∨ S k) w w' := by
  obtain ⟨g, ac, hav, k0, hac, hmx, _⟩ := h.last
  unfold strV at k0
  subst hav
  have c0 := h.cell0
  have f0 := free_of (i := i) h.blk
  have HE := hide (nest_shut_close h (More1.refl w))
  generalize xs.length = n at *
  have hwr : IntKind.i64.wrap (((n + 1 : Nat) : Int) - 1) = (n : Int) := by rw [IntKind.wrap_i64]; omega
  have hlt : decide ((n : Int) < 0) = false := by simp
  have hin : (n : Int) < ((n + 1 : Nat) : Int) := by omega
  have hnm : (nm == nm) = true := by simp
  have hcap : (n : Int) ≤ (ac : Int) := by omega
  have hcap2 : n ≤ ac := by omega
  clear h
  go_enter Tryz.func63, Tryz.ntmps63
  go_wp2
  go_ret
  exact ⟨rfl, HE.out⟩
theorem dropWhile_twice {α : Type} (p : α → Bool) : ∀ l : List α, (l.dropWhile p).dropWhile p = l.dropWhile p
  | [] => rfl
  | x :: l => by
    by_cases h : p x = true
    · simp only [List.dropWhile_cons, h, if_true]; exact dropWhile_twice p l
    · simp [List.dropWhile_cons, h]
theorem dropWhile_none {α : Type} (p : α → Bool) : ∀ l : List α, l.dropWhile p = [] ↔ l.all p = true
  | [] => by simp
  | x :: l => by
    by_cases h : p x = true
    · simp only [List.dropWhile_cons, h, if_true, List.all_cons, Bool.true_and]; exact dropWhile_none p l
    · simp [List.dropWhile_cons, h]
theorem trim_none (l : List UInt8) : Lib.trimS l [9, 10, 13, 32] = [] ↔ blanksOnly l = true := by
  have hp : ∀ c : UInt8, ([9, 10, 13, 32] : List UInt8).contains c = isBlank c.toNat := by
    intro c
    rw [Bool.eq_iff_iff]
    simp only [List.contains_cons, List.contains_nil, Bool.or_eq_true, beq_iff_eq, Bool.false_eq_true, or_false, isBlank, ← UInt8.toNat_inj]
    have e1 : (9 : UInt8).toNat = 9 := rfl
    have e2 : (10 : UInt8).toNat = 10 := rfl
    have e3 : (13 : UInt8).toNat = 13 := rfl
    have e4 : (32 : UInt8).toNat = 32 := rfl
    omega
  have e : blanksOnly l = l.all (fun c => ([9, 10, 13, 32] : List UInt8).contains c) := by
    unfold blanksOnly
    congr 1
    funext c
    exact (hp c).symm
  rw [e]
  unfold Lib.trimS Lib.trimLeftS Lib.trimRightS
  rw [dropWhile_none, List.all_reverse]
  constructor
  · intro h
    have h1 := (dropWhile_none _ _).2 h
    rw [dropWhile_twice, dropWhile_none, List.all_reverse] at h1
    exact h1
  · intro h
    have h1 := (dropWhile_none (fun c => ([9, 10, 13, 32] : List UInt8).contains c) l.reverse).2 (by rw [List.all_reverse]; exact h)
    rw [h1]; rfl
theorem below_more {W : World} (b : Below w.heap.size w W) : More1 w W := ⟨b.os, b.tape, b.output, b.size, fun k hk => b.block k hk⟩
theorem More1.trans {a b c : World} (h : More1 a b) (k : More1 b c) : More1 a c := ⟨k.os.trans h.os, k.tape.trans h.tape, k.output.trans h.output, Nat.le_trans h.size k.size, fun i hi => (k.keep i (Nat.lt_of_lt_of_le hi h.size)).trans (h.keep i hi)⟩
set_option maxHeartbeats 4000000 in
set_option maxRecDepth 100000 in
theorem nest_text (h : NS S X i w cs ty sv ns r) (hx : ns.length ≤ 30) (t : List UInt8) (hz : t.length ≤ 9223372036854775807) : Calls Tryz.prog 64 #[.pointer (some ⟨X, i, none⟩), .string ⟨t.toArray⟩] w fun e w' => e = .returned (.int .i64 (if ns = [] ∧ blanksOnly t = false then 7 else 0)) ∧ More1 w w' := by
  obtain ⟨ai, ac, hav⟩ := slice_len h.row
  subst hav
  have c0 := h.cell0
  have htr : ∀ W, Calls Tryz.prog 96 #[.string ⟨t.toArray⟩, .string ⟨#[9, 10, 13, 32]⟩] W fun e w' => e = .returned (.string ⟨(Lib.trimS t [9, 10, 13, 32]).toArray⟩) ∧ Below W.heap.size W w' := fun W => by
    have := Tryz.strings_Trim_blanks ⟨t.toArray⟩ W (by simpa [ByteArray.size] using hz)
    simpa using this
  have hn := trim_none t
  generalize Lib.trimS t [9, 10, 13, 32] = R at htr hn
  have HT := hide htr
  clear h htr
  cases ns with
  | cons a l =>
    rw [if_neg (fun e => by cases e.1)]
    have hz1 : (((a :: l).length : Int) == 0) = false := by rw [beq_eq_false_iff_ne]; simp only [List.length_cons]; omega
    generalize (a :: l).length = n at *
    clear hn
    go_enter Tryz.func64, Tryz.ntmps64
    go_wp2
    go_ret
    exact ⟨rfl, More1.refl w⟩
  | nil =>
    by_cases hb : blanksOnly t = true
    · rw [if_neg (fun e => by rw [hb] at e; cases e.2)]
      have hR := hn.2 hb
      subst hR
      clear hn hb
      go_enter Tryz.func64, Tryz.ntmps64
      go_wp2_with (go_at_call 96; refine (HT.out _).mono ?_; rintro e w2 ⟨rfl, b2⟩; have B2 := hide b2; clear b2)
      go_ret
      exact ⟨rfl, below_more B2.out⟩
    · rw [if_pos ⟨rfl, by simpa using hb⟩]
      have hR : (R == []) = false := by
        have : R ≠ [] := fun e => hb (hn.1 e)
        cases R with
        | nil => exact absurd rfl this
        | cons a l => rfl
      clear hn hb
      go_enter Tryz.func64, Tryz.ntmps64
      go_wp2_with (go_at_call 96; refine (HT.out _).mono ?_; rintro e w2 ⟨rfl, b2⟩; have B2 := hide b2; clear b2)
      go_ret
      exact ⟨rfl, below_more B2.out⟩
end Go.Proofs.YtfolnkmbdmfigaaGreatDoor

set_option linter.unusedSimpArgs false
set_option linter.unusedVariables false
namespace Go.Proofs.YtfolnkmbdmfigaaGreatDoor
open Go.RowKit Go.Maps Go.Lib
variable {S : Nat → Prop} {w w' w1 : World} {sv : Value} {X i : Nat} {cs : Array Value} {ty : TypeId} {ns : List (List UInt8)} {r : Bool}
structure Nest where
  names : List (List UInt8)
  rooted : Bool
def Nest.take (n : Nest) (t : Tok) : Int × Nest :=
  if t.kind = 1 then
    if n.rooted = true ∧ n.names = [] then (7, n)
    else if 30 ≤ n.names.length then (8, n)
    else (0, ⟨n.names ++ [t.name], true⟩)
  else if t.kind = 2 then
    if n.names.getLast? = some t.name then (0, ⟨n.names.dropLast, n.rooted⟩) else (6, n)
  else if n.names = [] ∧ blanksOnly t.text = false then (7, n) else (0, n)
def NestEnd (S : Nat → Prop) (X i : Nat) (w : World) (cs : Array Value) (ty : TypeId) (x : Int × Nest) (e : Ending) (w' : World) : Prop :=
  e = .returned (.int .i64 x.1) ∧ ∃ cs' sv', NS (Grow S w w') X i w' cs' ty sv' x.2.names x.2.rooted ∧ Oth i cs cs' ∧ Frame (fun k => k = X ∨ S k) w w'
theorem nest_same {n : Nest} {x : Int} (h : NS S X i w cs ty sv n.names n.rooted) (hM : More1 w w') : NestEnd S X i w cs ty (x, n) (.returned (.int .i64 x)) w' := by
  have h1 := h.keep hM
  exact ⟨rfl, cs, sv, ⟨h1.blk, h1.c0, h1.c1, h1.row, fun k e => Or.inl (h1.own k e), fun e => by
    rcases e with e | e
    · exact h.nX e
    · have := blk_lt h.blk; omega, grow_lt h.lt hM.size⟩, Oth.refl _ _, hM.frame⟩
theorem nest_opening {n : Nest} (h : NS S X i w cs ty sv n.names n.rooted) (hn : n.names.length ≤ 30) (hr : n.names ≠ [] → n.rooted = true) (t : Tok) (hk : t.kind = 1) : Calls Tryz.prog 62 #[.pointer (some ⟨X, i, none⟩), .string ⟨t.name.toArray⟩] w (NestEnd S X i w cs ty (n.take t)) := by
  unfold Nest.take
  rw [if_pos hk]
  by_cases h1 : n.rooted = true ∧ n.names = []
  · rw [if_pos h1]
    have h2 := h
    rw [h1.1, h1.2] at h2
    refine (nest_root h2 _).mono ?_
    rintro e w' ⟨rfl, m⟩
    exact nest_same h m
  · rw [if_neg h1]
    by_cases h3 : 30 ≤ n.names.length
    · rw [if_pos h3]
      refine (nest_deep h (by omega) _).mono ?_
      rintro e w' ⟨rfl, m⟩
      exact nest_same h m
    · rw [if_neg h3]
      refine (nest_opened h (fun e => by cases hrr : n.rooted with | false => rfl | true => exact absurd ⟨hrr, e⟩ h1) (by omega) t.name).mono ?_
      rintro e w' ⟨rfl, hx⟩
      exact ⟨rfl, hx⟩
theorem nest_closing {n : Nest} (h : NS S X i w cs ty sv n.names n.rooted) (hn : n.names.length ≤ 30) (t : Tok) (h1 : t.kind ≠ 1) (hk : t.kind = 2) : Calls Tryz.prog 63 #[.pointer (some ⟨X, i, none⟩), .string ⟨t.name.toArray⟩] w (NestEnd S X i w cs ty (n.take t)) := by
  unfold Nest.take
  rw [if_neg h1, if_pos hk]
  rcases List.eq_nil_or_concat n.names with e0 | ⟨xs, nm, e0⟩
  · rw [e0, if_neg (by simp)]
    have h2 := h
    rw [e0] at h2
    refine (nest_none h2 _).mono ?_
    rintro e w' ⟨rfl, m⟩
    exact nest_same h m
  · have h2 := h
    rw [e0] at h2 hn
    rw [List.concat_eq_append] at e0 h2 hn
    simp only [List.length_append, List.length_cons, List.length_nil] at hn
    by_cases hnm : nm = t.name
    · subst hnm
      rw [e0, if_pos (by simp)]
      refine (nest_shut h2 (by omega)).mono ?_
      rintro e w' ⟨rfl, hx⟩
      rw [List.dropLast_concat]
      exact ⟨rfl, hx⟩
    · rw [e0, if_neg (by simpa using hnm)]
      refine (nest_bad h2 (by omega) t.name hnm).mono ?_
      rintro e w' ⟨rfl, m⟩
      exact nest_same h m
theorem nest_words {n : Nest} (h : NS S X i w cs ty sv n.names n.rooted) (hn : n.names.length ≤ 30) (t : Tok) (hz : t.text.length ≤ 9223372036854775807) (h1 : t.kind ≠ 1) (h2 : t.kind ≠ 2) : Calls Tryz.prog 64 #[.pointer (some ⟨X, i, none⟩), .string ⟨t.text.toArray⟩] w (NestEnd S X i w cs ty (n.take t)) := by
  unfold Nest.take
  rw [if_neg h1, if_neg h2]
  refine (nest_text h hn t.text hz).mono ?_
  rintro e w' ⟨rfl, m⟩
  split
  · exact nest_same h m
  · exact nest_same h m
set_option maxHeartbeats 4000000 in
set_option maxRecDepth 100000 in
theorem nest_take {n : Nest} (h : NS S X i w cs ty sv n.names n.rooted) (hn : n.names.length ≤ 30) (hr : n.names ≠ [] → n.rooted = true) (t : Tok) (ai : Option Addr) (an ac : Nat) (hz : t.text.length ≤ 9223372036854775807) :
    Calls Tryz.prog 39 #[.pointer (some ⟨X, i, none⟩), tokV t (.slice ai an ac)] w (NestEnd S X i w cs ty (n.take t)) := by
  have hM := fun o => (More1.refl w).alloc o
  have k1 := fun hk o => nest_opening (h.keep (hM o)) hn hr t hk
  have k2 := fun h1 hk o => nest_closing (h.keep (hM o)) hn t h1 hk
  have k3 := fun h1 hk o => nest_words (h.keep (hM o)) hn t hz h1 hk
  have lift : ∀ o e w', NestEnd S X i (w.alloc o) cs ty (n.take t) e w' → NestEnd S X i w cs ty (n.take t) e w' := by
    rintro o e w' ⟨rfl, cs', sv', q1, q2, q3⟩
    have hs := (hM o).size
    refine ⟨rfl, cs', sv', ⟨q1.blk, q1.c0, q1.c1, q1.row, fun k e => ?_, fun e => ?_, grow_lt h.lt (Nat.le_trans hs q3.size)⟩, q2, (hM o).frame.trans' q3⟩
    · rcases q1.own k e with a | a
      · exact Or.inl a
      · exact Or.inr ⟨by omega, a.2⟩
    · rcases e with e | e
      · exact h.nX e
      · have := blk_lt h.blk; omega
  unfold tokV strV
  have LI := hide lift
  clear h hn hr hM lift
  generalize n.take t = R at *
  by_cases h1 : t.kind = 1
  · have HK := hide (k1 h1)
    rw [h1] at ⊢
    clear k1 k2 k3 h1
    go_enter Tryz.func39, Tryz.ntmps39
    go_wp2_with (go_at_call 62; refine (HK.out _).mono ?_; rintro e w1 hx; have hy := LI.out _ _ _ hx; obtain ⟨rfl, hz⟩ := hy; have HZ := hide hz; clear hx hz)
    go_ret
    exact ⟨rfl, HZ.out⟩
  · by_cases h2 : t.kind = 2
    · have HK := hide (k2 h1 h2)
      rw [h2] at ⊢
      clear k1 k2 k3 h1 h2
      go_enter Tryz.func39, Tryz.ntmps39
      go_wp2_with (go_at_call 63; refine (HK.out _).mono ?_; rintro e w1 hx; have hy := LI.out _ _ _ hx; obtain ⟨rfl, hz⟩ := hy; have HZ := hide hz; clear hx hz)
      go_ret
      exact ⟨rfl, HZ.out⟩
    · have HK := hide (k3 h1 h2)
      have e1 : (t.kind == 1) = false := by simpa using h1
      have e2 : (t.kind == 2) = false := by simpa using h2
      clear k1 k2 k3 h1 h2
      go_enter Tryz.func39, Tryz.ntmps39
      go_wp2_with (go_at_call 64; refine (HK.out _).mono ?_; rintro e w1 hx; have hy := LI.out _ _ _ hx; obtain ⟨rfl, hz⟩ := hy; have HZ := hide hz; clear hx hz)
      go_ret
      exact ⟨rfl, HZ.out⟩
end Go.Proofs.YtfolnkmbdmfigaaGreatDoor

set_option linter.unusedSimpArgs false
set_option linter.unusedVariables false
namespace Go.Proofs.YtfolnkmbdmfigaaGreatDoor
open Go.RowKit Go.Lib

inductive Fo where
  | nil
  | text (t : List UInt8) (rest : Fo)
  | elem (n : List UInt8) (a : Ats) (kids rest : Fo)
def Fo.size : Fo → Nat
  | .nil => 0
  | .text _ r => 1 + r.size
  | .elem _ _ k r => 1 + k.size + r.size
def Fo.deep : Fo → Nat
  | .nil => 0
  | .text _ r => r.deep
  | .elem _ _ k r => max (1 + k.deep) r.deep
def Fo.tops : Nat → Fo → List Nat
  | _, .nil => []
  | m, .text _ r => m :: r.tops (m + 1)
  | m, .elem _ _ k r => m :: r.tops (m + 1 + k.size)
def Fo.flat : Nat → Int → Fo → List Nd
  | _, _, .nil => []
  | m, u, .text t r => ⟨[], [], t, [], u⟩ :: r.flat (m + 1) u
  | m, u, .elem n a k r => ⟨n, a, [], k.tops (m + 1), u⟩ :: (k.flat (m + 1) m ++ r.flat (m + 1 + k.size) u)
inductive Makes : Fo → List Tok → Prop where
  | nil : Makes .nil []
  | text (t : Tok) (r : Fo) (l : List Tok) (h1 : t.kind ≠ 1) (h2 : t.kind ≠ 2) (h : Makes r l) : Makes (.text t.text r) (t :: l)
  | elem (t c : Tok) (k r : Fo) (lk lr : List Tok) (h1 : t.kind = 1) (h2 : c.kind = 2) (hn : c.name = t.name) (hk : Makes k lk) (hr : Makes r lr) : Makes (.elem t.name t.attrs k r) (t :: (lk ++ c :: lr))
def addKids (l : List Nd) (k : Nat) (js : List Nat) : List Nd := js.foldl (fun l j => addKid l k j) l
theorem addKids_len (k : Nat) : ∀ (js : List Nat) (l : List Nd), (addKids l k js).length = l.length
  | [], l => rfl
  | j :: js, l => by show (addKids (addKid l k j) k js).length = _; rw [addKids_len k js, addKid_len]
theorem addKid_append (m : List Nd) : ∀ (l : List Nd) (k j : Nat), k < l.length → addKid (l ++ m) k j = addKid l k j ++ m
  | [], k, j, h => by simp at h
  | n :: l, 0, j, _ => rfl
  | n :: l, k + 1, j, h => by simp only [List.cons_append, addKid, addKid_append m l k j (by simpa using h)]
theorem addKids_append (m : List Nd) (k : Nat) : ∀ (js : List Nat) (l : List Nd), k < l.length → addKids (l ++ m) k js = addKids l k js ++ m
  | [], l, _ => rfl
  | j :: js, l, h => by
    show addKids (addKid (l ++ m) k j) k js = addKids (addKid l k j) k js ++ m
    rw [addKid_append m l k j h, addKids_append m k js _ (by rw [addKid_len]; exact h)]
theorem addKids_last (n : Nd) : ∀ (js : List Nat) (l : List Nd) (ks : List Nat), addKids (l ++ [{ n with kids := ks }]) l.length js = l ++ [{ n with kids := ks ++ js }]
  | [], l, ks => by simp [addKids]
  | j :: js, l, ks => by
    have e : addKid (l ++ [{ n with kids := ks }]) l.length j = l ++ [{ n with kids := ks ++ [j] }] := by
      induction l with
      | nil => rfl
      | cons x l ih => simp only [List.cons_append, List.length_cons, addKid, ih]
    show addKids (addKid _ _ j) _ js = _
    rw [e, addKids_last n js l (ks ++ [j])]
    simp
theorem flat_len : ∀ (f : Fo) (m : Nat) (u : Int), (f.flat m u).length = f.size
  | .nil, _, _ => rfl
  | .text t r, m, u => by simp only [Fo.flat, List.length_cons, flat_len r, Fo.size]; omega
  | .elem n a k r, m, u => by simp only [Fo.flat, List.length_cons, List.length_append, flat_len k, flat_len r, Fo.size]; omega
theorem grow_makes {f : Fo} {ls : List Tok} (h : Makes f ls) : ∀ (g : Gr) (k : Nat) (st : List Nat) (rest : List Tok), g.stack = k :: st → k < g.nodes.length → st.length + 1 + f.deep ≤ 30 →
    grow g (ls ++ rest) = grow ⟨addKids g.nodes k (f.tops g.nodes.length) ++ f.flat g.nodes.length k, k :: st⟩ rest := by
  induction h with
  | nil =>
    intro g k st rest hs hk hd
    obtain ⟨nodes, stack⟩ := g
    simp only at hs
    subst hs
    simp [Fo.tops, Fo.flat, addKids]
  | text t r l h1 h2 h ih =>
    intro g k st rest hs hk hd
    have et : g.take t = (0, g.put (textOf t)) := by
      unfold Gr.take; rw [if_neg h1, if_neg h2, hs]
    have ep : g.put (textOf t) = ⟨addKid g.nodes k g.nodes.length ++ [⟨[], [], t.text, [], k⟩], k :: st⟩ := by
      unfold Gr.put; rw [hs]; rfl
    rw [List.cons_append]
    show (if (g.take t).1 ≠ 0 then _ else _) = _
    rw [et, if_neg (by simp), ep]
    have hl : (addKid g.nodes k g.nodes.length ++ [(⟨[], [], t.text, [], k⟩ : Nd)]).length = g.nodes.length + 1 := by simp [addKid_len]
    rw [ih ⟨_, _⟩ k st rest rfl (by simp only [hl]; omega) (by simpa [Fo.deep] using hd)]
    simp only [hl]
    rw [addKids_append _ _ _ _ (by rw [addKid_len]; exact hk)]
    simp only [Fo.tops, Fo.flat, addKids, List.foldl_cons, List.append_assoc, List.singleton_append]
  | elem t c kf r lk lr h1 h2 hn hk' hr ihk ihr =>
    intro g k st rest hs hk hd
    have hne : g.nodes ≠ [] := by intro e; rw [e] at hk; simp at hk
    simp only [Fo.deep] at hd
    have et : g.take t = (0, { (g.put (elemOf t)) with stack := g.nodes.length :: g.stack }) := by
      unfold Gr.take; rw [if_pos h1, if_neg (by rw [hs]; simp), if_neg (by rw [hs, List.length_cons]; omega)]
    have ep : (g.put (elemOf t)).nodes = addKid g.nodes k g.nodes.length ++ [⟨t.name, t.attrs, [], [], k⟩] := by
      unfold Gr.put; rw [hs]; rfl
    rw [List.cons_append]
    show (if (g.take t).1 ≠ 0 then _ else _) = _
    rw [et, if_neg (by simp)]
    simp only [ep, hs]
    have hl : (addKid g.nodes k g.nodes.length ++ [(⟨t.name, t.attrs, [], [], k⟩ : Nd)]).length = g.nodes.length + 1 := by simp [addKid_len]
    rw [List.append_assoc, ihk ⟨_, _⟩ g.nodes.length (k :: st) _ rfl (by simp only [hl]; omega) (by simp only [List.length_cons]; omega)]
    simp only [hl]
    have e1 : addKids (addKid g.nodes k g.nodes.length ++ [(⟨t.name, t.attrs, [], [], k⟩ : Nd)]) g.nodes.length (kf.tops (g.nodes.length + 1)) = addKid g.nodes k g.nodes.length ++ [(⟨t.name, t.attrs, [], kf.tops (g.nodes.length + 1), k⟩ : Nd)] := by
      have := addKids_last ⟨t.name, t.attrs, [], [], k⟩ (kf.tops (g.nodes.length + 1)) (addKid g.nodes k g.nodes.length) []
      rw [addKid_len] at this
      simpa using this
    rw [e1]
    -- the closing tag
    rw [List.cons_append]
    have hnm : ∀ x : List Nd, (⟨(addKid g.nodes k g.nodes.length ++ [(⟨t.name, t.attrs, [], kf.tops (g.nodes.length + 1), k⟩ : Nd)]) ++ x, g.nodes.length :: k :: st⟩ : Gr).named g.nodes.length c.name = true := by
      intro x
      unfold Gr.named
      have : ((addKid g.nodes k g.nodes.length ++ [(⟨t.name, t.attrs, [], kf.tops (g.nodes.length + 1), k⟩ : Nd)]) ++ x)[g.nodes.length]? = some ⟨t.name, t.attrs, [], kf.tops (g.nodes.length + 1), k⟩ := by
        rw [List.getElem?_append_left (by simp [addKid_len]), List.getElem?_append_right (by simp [addKid_len])]
        simp [addKid_len]
      simp only [this, hn, beq_self_eq_true]
    have ec : ∀ x : List Nd, (⟨(addKid g.nodes k g.nodes.length ++ [(⟨t.name, t.attrs, [], kf.tops (g.nodes.length + 1), k⟩ : Nd)]) ++ x, g.nodes.length :: k :: st⟩ : Gr).take c = (0, ⟨(addKid g.nodes k g.nodes.length ++ [(⟨t.name, t.attrs, [], kf.tops (g.nodes.length + 1), k⟩ : Nd)]) ++ x, k :: st⟩) := by
      intro x
      unfold Gr.take
      rw [if_neg (by omega), if_pos h2]
      simp only [hnm x, if_true]
    show (if (Gr.take _ c).1 ≠ 0 then _ else _) = _
    rw [ec, if_neg (by simp)]
    have hl2 : ((addKid g.nodes k g.nodes.length ++ [(⟨t.name, t.attrs, [], kf.tops (g.nodes.length + 1), k⟩ : Nd)]) ++ kf.flat (g.nodes.length + 1) g.nodes.length).length = g.nodes.length + 1 + kf.size := by
      simp only [List.length_append, addKid_len, flat_len, List.length_cons, List.length_nil]
    simp only
    rw [ihr ⟨_, _⟩ k st rest rfl (by simp only [hl2]; omega) (by omega)]
    simp only [hl2]
    rw [List.append_assoc (addKid g.nodes k g.nodes.length), addKids_append _ _ _ _ (by rw [addKid_len]; exact hk)]
    simp only [Fo.tops, Fo.flat, addKids, List.foldl_cons, List.append_assoc, List.cons_append, List.nil_append]

theorem addKid_name (l : List Nd) (k j i : Nat) : ((addKid l k j)[i]?).map Nd.name = (l[i]?).map Nd.name := by
  rw [addKid_at]; split
  · cases l[i]? <;> rfl
  · rfl
theorem addKids_name (k i : Nat) : ∀ (js : List Nat) (l : List Nd), ((addKids l k js)[i]?).map Nd.name = (l[i]?).map Nd.name
  | [], l => rfl
  | j :: js, l => by show ((addKids (addKid l k j) k js)[i]?).map _ = _; rw [addKids_name k i js, addKid_name]
theorem named_iff (g : Gr) (k : Nat) (n : List UInt8) : g.named k n = true ↔ (g.nodes[k]?).map Nd.name = some n := by
  unfold Gr.named; cases g.nodes[k]? <;> simp
theorem put_name (g : Gr) (n : Nd) (i : Nat) (hi : i < g.nodes.length) : ((g.put n).nodes[i]?).map Nd.name = (g.nodes[i]?).map Nd.name := by
  unfold Gr.put; split
  · rw [List.getElem?_append_left hi]
  · rename_i k _ _
    rw [List.getElem?_append_left (by rw [addKid_len]; exact hi), addKid_name]
theorem grow_cons {g g' : Gr} {t : Tok} {l : List Tok} {q : Int} (h : grow g (t :: l) = (0, q, g')) : (g.take t).1 = 0 ∧ grow (g.take t).2 l = (0, q, g') := by
  have h' : (if (g.take t).1 ≠ 0 then ((g.take t).1, t.at_, g) else grow (g.take t).2 l) = (0, q, g') := h
  by_cases e : (g.take t).1 = 0
  · rw [if_neg (by simpa using e)] at h'; exact ⟨e, h'⟩
  · rw [if_pos e] at h'; simp only [Prod.mk.injEq] at h'; exact absurd h'.1 e
theorem grow_split (N : Nat) : ∀ (l : List Tok) (g g' : Gr) (k : Nat) (st : List Nat) (q : Int), l.length ≤ N → grow g l = (0, q, g') → g'.stack = [] → g.stack = k :: st → k < g.nodes.length →
    ∃ (f : Fo) (ls : List Tok) (c : Tok) (rest : List Tok), l = ls ++ c :: rest ∧ Makes f ls ∧ c.kind = 2 ∧ g.named k c.name = true ∧ (st.length + 1 ≤ 30 → st.length + 1 + f.deep ≤ 30) := by
  induction N with
  | zero =>
    intro l g g' k st q hl hg he hs hk
    obtain rfl : l = [] := List.eq_nil_of_length_eq_zero (by omega)
    simp only [grow, Prod.mk.injEq] at hg
    rw [hg.2.2] at hs
    rw [he] at hs; cases hs
  | succ N ih =>
    intro l g g' k st q hl hg he hs hk
    cases l with
    | nil =>
      simp only [grow, Prod.mk.injEq] at hg
      rw [hg.2.2] at hs
      rw [he] at hs; cases hs
    | cons t l =>
      simp only [List.length_cons] at hl
      obtain ⟨ht, hg2⟩ := grow_cons hg
      have hne : g.nodes ≠ [] := by intro e; rw [e] at hk; simp at hk
      by_cases h1 : t.kind = 1
      · have hlt : ¬ 30 ≤ g.stack.length := by
          intro hx
          unfold Gr.take at ht
          rw [if_pos h1, if_neg (by rw [hs]; simp), if_pos hx] at ht
          simp at ht
        have et : g.take t = (0, { (g.put (elemOf t)) with stack := g.nodes.length :: g.stack }) := by
          unfold Gr.take; rw [if_pos h1, if_neg (by rw [hs]; simp), if_neg hlt]
        rw [et] at hg2
        have hsl : g.stack.length = st.length + 1 := by rw [hs]; rfl
        obtain ⟨f1, ls1, c1, rest1, e1, mk1, k1, nm1, d1⟩ := ih l _ g' g.nodes.length g.stack q (by omega) hg2 he rfl (by simp only [put_size]; omega)
        have hname : c1.name = t.name := by
          rw [named_iff] at nm1
          simp only [put_last, Option.map_some, Option.some.injEq] at nm1
          exact nm1.symm
        have d1' : g.stack.length + 1 + f1.deep ≤ 30 := d1 (by omega)
        have hmk := grow_makes (.elem t c1 f1 .nil ls1 [] h1 k1 hname mk1 .nil) g k st rest1 hs hk (by simp only [Fo.deep]; omega)
        rw [List.cons_append, List.append_assoc, List.cons_append, List.nil_append, ← e1, hg] at hmk
        have hl1 : rest1.length ≤ N := by rw [e1] at hl; simp only [List.length_append, List.length_cons] at hl; omega
        obtain ⟨f2, ls2, c2, rest2, e2, mk2, k2, nm2, d2⟩ := ih rest1 _ g' k st q hl1 hmk.symm he rfl (by simp only [List.length_append, addKids_len]; omega)
        refine ⟨.elem t.name t.attrs f1 f2, t :: (ls1 ++ c1 :: ls2), c2, rest2, ?_, .elem t c1 f1 f2 ls1 ls2 h1 k1 hname mk1 mk2, k2, ?_, fun hd => ?_⟩
        · rw [e1, e2]; simp
        · rw [named_iff] at nm2 ⊢
          rw [← nm2, List.getElem?_append_left (by rw [addKids_len]; exact hk), addKids_name]
        · have := d2 hd
          simp only [Fo.deep]; omega
      · by_cases h2 : t.kind = 2
        · have hnm : g.named k t.name = true := by
            refine Classical.byContradiction fun hx => ?_
            unfold Gr.take at ht
            rw [if_neg h1, if_pos h2, hs] at ht
            simp [hx] at ht
          exact ⟨.nil, [], t, l, rfl, .nil, h2, hnm, fun hd => by simpa [Fo.deep] using hd⟩
        · have et : g.take t = (0, g.put (textOf t)) := by
            unfold Gr.take; rw [if_neg h1, if_neg h2, hs]
          rw [et] at hg2
          obtain ⟨f, ls, c, rest, e, mk, k2, nm, d⟩ := ih l _ g' k st q (by omega) hg2 he (by rw [put_stack]; exact hs) (by rw [put_size]; omega)
          refine ⟨.text t.text f, t :: ls, c, rest, by rw [e]; rfl, .text t f ls h1 h2 mk, k2, ?_, fun hd => by simpa [Fo.deep] using d hd⟩
          rw [named_iff] at nm ⊢
          rw [← nm, put_name _ _ _ hk]
def Idle (t : Tok) : Prop := t.kind ≠ 1 ∧ t.kind ≠ 2 ∧ blanksOnly t.text = true
theorem grow_idle {g : Gr} (hs : g.stack = []) : ∀ (b l : List Tok), (∀ t ∈ b, Idle t) → grow g (b ++ l) = grow g l
  | [], l, _ => rfl
  | t :: b, l, h => by
    have ht := h t (List.mem_cons_self ..)
    have et : g.take t = (0, g) := by
      unfold Gr.take; rw [if_neg ht.1, if_neg ht.2.1, hs]; simp only [ht.2.2, if_true]
    rw [List.cons_append]
    show (if (g.take t).1 ≠ 0 then _ else _) = _
    rw [et, if_neg (by simp)]
    exact grow_idle hs b l (fun x hx => h x (List.mem_cons_of_mem _ hx))
theorem grow_behind : ∀ (l : List Tok) (g g' : Gr) (q : Int), grow g l = (0, q, g') → g.stack = [] → g.nodes ≠ [] → (∀ t ∈ l, Idle t) ∧ g' = g
  | [], g, g', q, h, _, _ => by
    simp only [grow, Prod.mk.injEq] at h
    exact ⟨fun t ht => by simp at ht, h.2.2.symm⟩
  | t :: l, g, g', q, h, hs, hn => by
    obtain ⟨ht, hg⟩ := grow_cons h
    have h1 : t.kind ≠ 1 := by
      intro e
      unfold Gr.take at ht
      rw [if_pos e, if_pos ⟨hs, hn⟩] at ht
      simp at ht
    have h2 : t.kind ≠ 2 := by
      intro e
      unfold Gr.take at ht
      rw [if_neg h1, if_pos e, hs] at ht
      simp at ht
    have h3 : blanksOnly t.text = true := by
      refine Classical.byContradiction fun hx => ?_
      unfold Gr.take at ht
      rw [if_neg h1, if_neg h2, hs] at ht
      simp [hx] at ht
    have et : g.take t = (0, g) := by
      unfold Gr.take; rw [if_neg h1, if_neg h2, hs]; simp only [h3, if_true]
    rw [et] at hg
    obtain ⟨a, b⟩ := grow_behind l g g' q hg hs hn
    refine ⟨fun x hx => ?_, b⟩
    rcases List.mem_cons.1 hx with e | e
    · rw [e]; exact ⟨h1, h2, h3⟩
    · exact a x e
structure Doc (l : List Tok) (n : List UInt8) (a : Ats) (f : Fo) : Prop where
  ex : ∃ (b1 : List Tok) (t : Tok) (ls : List Tok) (c : Tok) (b2 : List Tok), l = b1 ++ t :: (ls ++ c :: b2) ∧ (∀ x ∈ b1, Idle x) ∧ (∀ x ∈ b2, Idle x) ∧ t.kind = 1 ∧ t.name = n ∧ t.attrs = a ∧ Makes f ls ∧ c.kind = 2 ∧ c.name = n
  deep : 1 + f.deep ≤ 30
theorem grow_root {g : Gr} (hs : g.stack = []) (hn : g.nodes = []) (t c : Tok) (f : Fo) (ls rest : List Tok) (h1 : t.kind = 1) (hm : Makes f ls) (h2 : c.kind = 2) (hc : c.name = t.name) (hd : 1 + f.deep ≤ 30) :
    grow g (t :: (ls ++ c :: rest)) = grow ⟨(Fo.elem t.name t.attrs f .nil).flat 0 (-1), []⟩ rest := by
  obtain ⟨nodes, stack⟩ := g
  simp only at hs hn
  subst hs
  subst hn
  show (if (Gr.take ⟨[], []⟩ t).1 ≠ 0 then _ else _) = _
  have et : Gr.take ⟨[], []⟩ t = (0, ⟨[⟨t.name, t.attrs, [], [], -1⟩], [0]⟩) := by
    unfold Gr.take; rw [if_pos h1, if_neg (by simp), if_neg (by simp)]; rfl
  rw [et, if_neg (by simp)]
  simp only
  rw [grow_makes hm ⟨_, _⟩ 0 [] _ rfl (by simp) (by simpa using hd)]
  simp only [List.length_cons, List.length_nil]
  have e1 : addKids [(⟨t.name, t.attrs, [], [], -1⟩ : Nd)] 0 (f.tops (0 + 1)) = [⟨t.name, t.attrs, [], f.tops 1, -1⟩] := by
    have := addKids_last ⟨t.name, t.attrs, [], [], -1⟩ (f.tops 1) [] []
    simpa using this
  rw [e1]
  have ec : Gr.take ⟨[(⟨t.name, t.attrs, [], f.tops 1, -1⟩ : Nd)] ++ f.flat (0 + 1) ((0 : Nat) : Int), [0]⟩ c = (0, ⟨[(⟨t.name, t.attrs, [], f.tops 1, -1⟩ : Nd)] ++ f.flat (0 + 1) ((0 : Nat) : Int), []⟩) := by
    unfold Gr.take
    rw [if_neg (by omega), if_pos h2]
    simp [Gr.named, hc]
  show (if (Gr.take _ c).1 ≠ 0 then _ else _) = _
  rw [ec, if_neg (by simp)]
  simp [Fo.flat]
theorem grow_doc {l : List Tok} {n : List UInt8} {a : Ats} {f : Fo} (h : Doc l n a f) : grow Gr.zero l = (0, 0, ⟨(Fo.elem n a f .nil).flat 0 (-1), []⟩) := by
  obtain ⟨⟨b1, t, ls, c, b2, rfl, i1, i2, h1, hn, ha, hm, h2, hc⟩, hd⟩ := h
  subst hn
  subst ha
  rw [grow_idle rfl b1 _ i1, grow_root rfl rfl t c f ls b2 h1 hm h2 hc hd]
  have := grow_idle (g := ⟨(Fo.elem t.name t.attrs f .nil).flat 0 (-1), []⟩) rfl b2 [] i2
  rw [List.append_nil] at this
  rw [this]; rfl
theorem doc_of : ∀ (l : List Tok) (g' : Gr) (q : Int), grow Gr.zero l = (0, q, g') → g'.stack = [] → g'.nodes ≠ [] → ∃ n a f, Doc l n a f ∧ g'.nodes = (Fo.elem n a f .nil).flat 0 (-1)
  | [], g', q, h, _, hn => by
    simp only [grow, Prod.mk.injEq] at h
    rw [← h.2.2] at hn
    exact absurd rfl hn
  | t :: l, g', q, h, hs, hn => by
    obtain ⟨ht, hg⟩ := grow_cons h
    by_cases h1 : t.kind = 1
    · have et : Gr.take Gr.zero t = (0, ⟨[⟨t.name, t.attrs, [], [], -1⟩], [0]⟩) := by
        unfold Gr.take; rw [if_pos h1, if_neg (by simp [Gr.zero]), if_neg (by simp [Gr.zero])]; rfl
      rw [et] at hg
      obtain ⟨f, ls, c, rest, e, mk, k2, nm, d⟩ := grow_split l.length l _ g' 0 [] q (Nat.le_refl _) hg hs rfl (by simp)
      have hname : c.name = t.name := by
        rw [named_iff] at nm
        simpa using nm.symm
      have hd : 1 + f.deep ≤ 30 := by simpa using d (by simp)
      subst e
      have hr := grow_root (g := Gr.zero) rfl rfl t c f ls rest h1 mk k2 hname hd
      rw [h] at hr
      obtain ⟨i2, eg⟩ := grow_behind rest _ g' q hr.symm rfl (by simp [Fo.flat])
      refine ⟨t.name, t.attrs, f, ⟨⟨[], t, ls, c, rest, rfl, fun x hx => by simp at hx, i2, h1, rfl, rfl, mk, k2, hname⟩, hd⟩, by rw [eg]⟩
    · have h2 : t.kind ≠ 2 := by
        intro e
        unfold Gr.take at ht
        rw [if_neg h1, if_pos e] at ht
        simp [Gr.zero] at ht
      have h3 : blanksOnly t.text = true := by
        refine Classical.byContradiction fun hx => ?_
        unfold Gr.take at ht
        rw [if_neg h1, if_neg h2] at ht
        simp [Gr.zero, hx] at ht
      have et : Gr.take Gr.zero t = (0, Gr.zero) := by
        unfold Gr.take; rw [if_neg h1, if_neg h2]; simp [Gr.zero, h3]
      rw [et] at hg
      obtain ⟨n, a, f, ⟨⟨b1, t', ls, c, b2, e, i1, r⟩, hd⟩, e2⟩ := doc_of l g' q hg hs hn
      refine ⟨n, a, f, ⟨⟨t :: b1, t', ls, c, b2, by rw [e]; rfl, fun x hx => ?_, r⟩, hd⟩, e2⟩
      rcases List.mem_cons.1 hx with e | e
      · rw [e]; exact ⟨h1, h2, h3⟩
      · exact i1 x e
end Go.Proofs.YtfolnkmbdmfigaaGreatDoor
