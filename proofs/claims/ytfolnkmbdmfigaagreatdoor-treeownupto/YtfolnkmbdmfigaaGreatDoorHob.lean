import Derived.Shelf.Strings.Trim
import Derived.Shelf.Strings.SlTrimAscii
import Derived.Test.YtfolnkmbdmfigaaGreatDoorProg
import Derived.Test.YtfolnkmbdmfigaaGreatDoorHoa
set_option linter.unusedVariables false
set_option linter.unusedSimpArgs false
namespace Go.Proofs
open Go.Shelf
def Tryz.lays160_ren : Go.Shelf.Ren := ⟨fun | 160 => 96 | 232 => 128 | 231 => 127 | 227 => 129 | 234 => 131 | 233 => 130 | 236 => 133 | 235 => 132 | 228 => 148 | 271 => 150 | 151 => 149 | 197 => 122 | 120 => 158 | 152 => 157 | 260 => 147 | 137 => 160 | 119 => 161 | 224 => 162 | 225 => 163 | 217 => 165 | 266 => 167 | n => n, fun | 9 => 9 | 4 => 4 | 3 => 3 | 5 => 5 | 117 => 190 | 116 => 189 | 0 => 0 | 124 => 193 | 21 => 21 | 105 => 168 | 46 => 201 | 119 => 202 | 139 => 205 | 138 => 204 | n => n, fun | 3 => 3 | 4 => 4 | n => n⟩
theorem Tryz.lays160 : Go.Proofs.Lays.n160 Tryz.prog Tryz.lays160_ren := {
  mixed := by kernel_rfl
  f119 := Tryz.func161.trans (congrArg some (by kernel_rfl))
  f120 := Tryz.func158.trans (congrArg some (by kernel_rfl))
  f137 := Tryz.func160.trans (congrArg some (by kernel_rfl))
  f151 := Tryz.func149.trans (congrArg some (by kernel_rfl))
  f152 := Tryz.func157.trans (congrArg some (by kernel_rfl))
  f160 := Tryz.func96.trans (congrArg some (by kernel_rfl))
  f197 := Tryz.func122.trans (congrArg some (by kernel_rfl))
  f217 := Tryz.func165.trans (congrArg some (by kernel_rfl))
  f224 := Tryz.func162.trans (congrArg some (by kernel_rfl))
  f225 := Tryz.func163.trans (congrArg some (by kernel_rfl))
  f227 := Tryz.func129.trans (congrArg some (by kernel_rfl))
  f228 := Tryz.func148.trans (congrArg some (by kernel_rfl))
  f231 := Tryz.func127.trans (congrArg some (by kernel_rfl))
  f232 := Tryz.func128.trans (congrArg some (by kernel_rfl))
  f233 := Tryz.func130.trans (congrArg some (by kernel_rfl))
  f234 := Tryz.func131.trans (congrArg some (by kernel_rfl))
  f235 := Tryz.func132.trans (congrArg some (by kernel_rfl))
  f236 := Tryz.func133.trans (congrArg some (by kernel_rfl))
  f260 := Tryz.func147.trans (congrArg some (by kernel_rfl))
  f266 := Tryz.func167.trans (congrArg some (by kernel_rfl))
  f271 := Tryz.func150.trans (congrArg some (by kernel_rfl))
  t0 := Tryz.underlying0
  a0 := Tryz.isAgg0
  z0 := Tryz.sizeOf0
  v0 := Tryz.zeroValue0
  t3 := Tryz.underlying3
  a3 := Tryz.isAgg3
  z3 := Tryz.sizeOf3
  v3 := Tryz.zeroValue3
  t4 := Tryz.underlying4
  a4 := Tryz.isAgg4
  z4 := Tryz.sizeOf4
  v4 := Tryz.zeroValue4
  t5 := Tryz.underlying5
  a5 := Tryz.isAgg5
  z5 := Tryz.sizeOf5
  v5 := Tryz.zeroValue5
  t9 := Tryz.underlying9
  a9 := Tryz.isAgg9
  z9 := Tryz.sizeOf9
  v9 := Tryz.zeroValue9
  t21 := Tryz.underlying21
  a21 := Tryz.isAgg21
  z21 := Tryz.sizeOf21
  v21 := Tryz.zeroValue21
  t46 := Tryz.underlying201
  a46 := Tryz.isAgg201
  z46 := Tryz.sizeOf201
  v46 := Tryz.zeroValue201
  t105 := Tryz.underlying168
  a105 := Tryz.isAgg168
  z105 := Tryz.sizeOf168
  v105 := Tryz.zeroValue168
  t116 := Tryz.underlying189
  a116 := Tryz.isAgg189
  z116 := Tryz.sizeOf189
  t117 := Tryz.underlying190
  a117 := Tryz.isAgg190
  z117 := Tryz.sizeOf190
  v117 := Tryz.zeroValue190
  t119 := Tryz.underlying202
  a119 := Tryz.isAgg202
  z119 := Tryz.sizeOf202
  t124 := Tryz.underlying193
  a124 := Tryz.isAgg193
  z124 := Tryz.sizeOf193
  v124 := Tryz.zeroValue193
  t138 := Tryz.underlying204
  a138 := Tryz.isAgg204
  z138 := Tryz.sizeOf204
  v138 := Tryz.zeroValue204
  t139 := Tryz.underlying205
  a139 := Tryz.isAgg205
  z139 := Tryz.sizeOf205
  v139 := Tryz.zeroValue205
  g3 := by kernel_rfl
  g4 := by kernel_rfl }
open Go.RowKit in
theorem Tryz.strings_Trim_blanks (s : ByteArray) (w : World) (hs : s.size ≤ 9223372036854775807) :
    Calls Tryz.prog 96 #[.string s, .string ⟨#[9, 10, 13, 32]⟩] w fun e w' => e = .returned (.string ⟨(Lib.trimS s.data.toList [9, 10, 13, 32]).toArray⟩) ∧ Below w.heap.size w w' :=
  Any.strings_Trim_laid Tryz.lays160 (by kernel_rfl) s ⟨#[9, 10, 13, 32]⟩ w hs (by decide) (ascii_of_all (by decide))
end Go.Proofs

set_option linter.unusedSimpArgs false
set_option linter.unusedVariables false
namespace Go.Proofs.YtfolnkmbdmfigaaGreatDoor
open Go.RowKit Go.Maps Go.Lib
variable {S : Nat → Prop} {w w' w1 : World} {sv : Value} {X i : Nat} {cs : Array Value} {ty : TypeId} {ns : List (List UInt8)} {r : Bool}

def nameCells (l : List (List UInt8)) : List Value := l.map strV
structure NS (S : Nat → Prop) (X i : Nat) (w : World) (cs : Array Value) (ty : TypeId) (sv : Value) (ns : List (List UInt8)) (r : Bool) : Prop where
  blk : w.heap[X]? = some (.cells cs ty (0, 0))
  c0 : cs[i]? = some sv
  c1 : cs[i + 1]? = some (.bool r)
  row : w.ownsRow 0 9 1 sv ns.length (nameCells ns)
  own : ∀ k, sv.ownBlock = some k → S k
  nX : ¬ S X
  lt : ∀ k, S k → k < w.heap.size
def Oth (i : Nat) (cs cs' : Array Value) : Prop := cs'.size = cs.size ∧ ∀ j, j ≠ i → j ≠ i + 1 → cs'[j]? = cs[j]?
theorem Oth.refl (i : Nat) (cs : Array Value) : Oth i cs cs := ⟨rfl, fun _ _ _ => rfl⟩
theorem Oth.set (i : Nat) (cs : Array Value) (v : Value) : Oth i cs (cs.setIfInBounds i v) := ⟨by simp, fun j h _ => by rw [Array.getElem?_setIfInBounds, if_neg (fun e => h e.symm)]⟩
theorem Oth.set2 (i : Nat) (cs : Array Value) (v u : Value) : Oth i cs ((cs.setIfInBounds i v).setIfInBounds (i + 1) u) := ⟨by simp, fun j h h2 => by rw [Array.getElem?_setIfInBounds, if_neg (fun e => h2 e.symm), Array.getElem?_setIfInBounds, if_neg (fun e => h e.symm)]⟩
theorem NS.cell0 (h : NS S X i w cs ty sv ns r) : w.cell? ⟨X, i, none⟩ = some sv := cell_of h.blk h.c0
theorem NS.cell1 (h : NS S X i w cs ty sv ns r) : w.cell? ⟨X, i + 1, none⟩ = some (.bool r) := cell_of h.blk h.c1
theorem info9 : (Tryz.prog.info? 9).map (fun i => (i.zero, i.size, i.bytes)) = some (some (.string ⟨#[]⟩), 1, 16) := by kernel_rfl
set_option maxHeartbeats 4000000 in
set_option maxRecDepth 100000 in
theorem nest_whole (h : NS S X i w cs ty sv ns r) : Calls Tryz.prog 25 #[.pointer (some ⟨X, i, none⟩)] w fun e w' => e = .returned (.bool (r && decide (ns.length = 0))) ∧ More1 w w' := by
  obtain ⟨ai, ac, hav⟩ := slice_len h.row
  subst hav
  have c0 := h.cell0
  have c1 := h.cell1
  clear h
  cases r with
  | false =>
    go_enter Tryz.func25, Tryz.ntmps25
    go_wp2
    go_ret
    exact ⟨by simp, More1.refl w⟩
  | true =>
    by_cases hz : ns.length = 0
    · rw [hz] at c0 ⊢
      go_enter Tryz.func25, Tryz.ntmps25
      go_wp2
      go_ret
      exact ⟨by simp, More1.refl w⟩
    · have hz1 : ((ns.length : Int) == 0) = false := by rw [beq_eq_false_iff_ne]; omega
      have hz2 : (decide (ns.length = 0)) = false := decide_eq_false hz
      go_enter Tryz.func25, Tryz.ntmps25
      go_wp2
      go_ret
      exact ⟨by rw [hz2]; rfl, More1.refl w⟩
set_option maxHeartbeats 4000000 in
set_option maxRecDepth 100000 in
theorem nest_root (h : NS S X i w cs ty sv [] true) (name : ByteArray) : Calls Tryz.prog 62 #[.pointer (some ⟨X, i, none⟩), .string name] w fun e w' => e = .returned (.int .i64 7) ∧ More1 w w' := by
  have hw := nest_whole h
  clear h
  go_enter Tryz.func62, Tryz.ntmps62
  go_wp2_with (go_at_call 25; refine hw.mono ?_; rintro e w1 ⟨rfl, m1⟩)
  go_ret
  exact ⟨rfl, m1⟩
theorem NS.keep {W : World} (h : NS S X i w cs ty sv ns r) (hM : More1 w W) : NS S X i W cs ty sv ns r :=
  ⟨(hM.keep X (blk_lt h.blk)).trans h.blk, h.c0, h.c1, owns_of h.row fun k e => hM.keep k (own_lt h.row e), h.own, h.nX, fun k x => Nat.lt_of_lt_of_le (h.lt k x) hM.size⟩
set_option maxHeartbeats 4000000 in
set_option maxRecDepth 100000 in
theorem nest_deep (h : NS S X i w cs ty sv ns r) (hn : ns.length = 30) (name : ByteArray) : Calls Tryz.prog 62 #[.pointer (some ⟨X, i, none⟩), .string name] w fun e w' => e = .returned (.int .i64 8) ∧ More1 w w' := by
  have hw : Calls Tryz.prog 25 #[.pointer (some ⟨X, i, none⟩)] w fun e w' => e = .returned (.bool false) ∧ More1 w w' := by
    have := nest_whole h
    rw [hn] at this
    simpa using this
  have hc : ∀ W, More1 w W → ∃ ai ac, W.cell? ⟨X, i, none⟩ = some (.slice ai 30 ac) := fun W hM => by
    have h2 := h.keep hM
    obtain ⟨ai, ac, hav⟩ := slice_len h2.row
    exact ⟨ai, ac, by rw [h2.cell0, hav, hn]⟩
  have HC := hide hc
  clear h hn hc
  go_enter Tryz.func62, Tryz.ntmps62
  go_wp2_with (go_at_call 25; refine hw.mono ?_; rintro e w1 ⟨rfl, m1⟩; obtain ⟨ai, ac, c0⟩ := HC.out _ m1)
  go_ret
  exact ⟨rfl, m1⟩
theorem nest_close {cs : Array Value} {ty : TypeId} {v' : Value} {name : List UInt8} {w2 : World} {o : Obj} (h : NS S X i w cs ty sv ns r) (m1 : More1 w w1) (hg : (w1.alloc o).grownBy w2 sv.ownBlock) (ho : w2.ownsRow 0 9 1 v' (ns.length + 1) (nameCells ns ++ [strV name])) (hat : v'.ownBlock = sv.ownBlock ∨ v'.ownBlock = some (w1.alloc o).heap.size) :
    ∃ cs' sv', NS (Grow S w ((w2.setCell ⟨X, i, none⟩ v').setCell ⟨X, i + 1, none⟩ (.bool true))) X i ((w2.setCell ⟨X, i, none⟩ v').setCell ⟨X, i + 1, none⟩ (.bool true)) cs' ty sv' (ns ++ [name]) true ∧ Oth i cs cs' ∧ Frame (fun k => k = X ∨ S k) w ((w2.setCell ⟨X, i, none⟩ v').setCell ⟨X, i + 1, none⟩ (.bool true)) := by
  have hM := m1.alloc o
  have hXlt := blk_lt h.blk
  have hnX : sv.ownBlock ≠ some X := fun e => h.nX (h.own X e)
  have hX2 : w2.heap[X]? = some (.cells cs ty (0, 0)) := (hg.block X (Nat.lt_of_lt_of_le hXlt hM.size) (fun e => hnX e.symm)).trans ((hM.keep X hXlt).trans h.blk)
  have hvX : v'.ownBlock ≠ some X := by
    rcases hat with e | e <;> rw [e]
    · exact hnX
    · intro x; cases x; exact absurd hXlt (by have := hM.size; omega)
  have hX3 := set_of (i := i + 1) (set_of (i := i) hX2 v') (.bool true)
  have hi0 : i < cs.size := (Array.getElem?_eq_some_iff.1 h.c0).1
  have hi1 : i + 1 < cs.size := (Array.getElem?_eq_some_iff.1 h.c1).1
  have hz : w.heap.size ≤ w2.heap.size := Nat.le_trans hM.size hg.size
  have keep : ∀ b, b ≠ X → ((w2.setCell ⟨X, i, none⟩ v').setCell ⟨X, i + 1, none⟩ (.bool true)).heap[b]? = w2.heap[b]? := fun b hb => by rw [Below.heap_setCell _ _ _ _ hb, Below.heap_setCell _ _ _ _ hb]
  have hs : ((w2.setCell ⟨X, i, none⟩ v').setCell ⟨X, i + 1, none⟩ (.bool true)).heap.size = w2.heap.size := by simp [World.setCell]
  refine ⟨_, v', ⟨hX3, ?_, ?_, ?_, ?_, ?_, ?_⟩, Oth.set2 _ _ _ _, hg.os.trans hM.os, hg.tape.trans hM.tape, hg.output.trans hM.output, by rw [hs]; exact hz, ?_⟩
  · rw [Array.getElem?_setIfInBounds, if_neg (by omega), Array.getElem?_setIfInBounds, if_pos rfl, if_pos hi0]
  · rw [Array.getElem?_setIfInBounds, if_pos rfl, if_pos (by simpa using hi1)]
  · have e : nameCells (ns ++ [name]) = nameCells ns ++ [strV name] := by simp [nameCells]
    rw [e, List.length_append]
    exact owns_of ho fun b e => keep b (fun x => hvX (by rw [e, x]))
  · intro k e
    rcases hat with e2 | e2
    · rw [e2] at e; exact Or.inl (h.own k e)
    · rw [e2] at e; cases e
      refine Or.inr ⟨hM.size, ?_⟩
      rw [hs]
      have h1 := own_lt ho e2
      exact h1
  · rintro (e | e)
    · exact h.nX e
    · omega
  · exact grow_lt h.lt (by rw [hs]; exact hz)
  · intro k hk hf
    rw [keep k (fun e => hf (Or.inl e)), hg.block k (Nat.lt_of_lt_of_le hk hM.size) (fun e => hf (Or.inr (h.own k e.symm)))]
    exact hM.keep k hk
set_option maxHeartbeats 4000000 in
set_option maxRecDepth 100000 in
theorem nest_opened (h : NS S X i w cs ty sv ns r) (hr : ns = [] → r = false) (hn : ns.length < 30) (name : List UInt8) : Calls Tryz.prog 62 #[.pointer (some ⟨X, i, none⟩), .string ⟨name.toArray⟩] w fun e w' => e = .returned (.int .i64 0) ∧ ∃ cs' sv', NS (Grow S w w') X i w' cs' ty sv' (ns ++ [name]) true ∧ Oth i cs cs' ∧ Frame (fun k => k = X ∨ S k) w w' := by
  have hw : Calls Tryz.prog 25 #[.pointer (some ⟨X, i, none⟩)] w fun e w' => e = .returned (.bool false) ∧ More1 w w' := by
    have := nest_whole h
    cases ns with
    | nil => rw [hr rfl] at this; simpa using this
    | cons a l => simpa using this
  have hk : ∀ W, More1 w W → NS S X i W cs ty sv ns r := fun W hM => h.keep hM
  obtain ⟨ai, ac, hav⟩ := slice_len h.row
  subst hav
  have hz1 : ((ns.length : Int) == 30) = false := by rw [beq_eq_false_iff_ne]; omega
  obtain ⟨i0, hi, hz0, hzz, hz2⟩ := info_parts info9
  have H := hide h
  have HK := hide hk
  clear h hk hr
  have hnX : (Value.slice ai ns.length ac).ownBlock ≠ some X := fun e => H.out.nX (H.out.own X e)
  go_enter Tryz.func62, Tryz.ntmps62
  go_wp2_with (first
    | (go_at_call 25; refine hw.mono ?_; rintro e w1 ⟨rfl, m1⟩; have h1 := HK.out _ m1; have c0 := h1.cell0; have c1 := h1.cell1; have R1 := hide h1.row; have B1 := hide h1.blk; have hXl := blk_lt h1.blk; clear h1)
    | (at_builtin; refine wpList_append_own_at _ rfl (.tmp 17) (.tmp 19) 50 rfl 0 9 i0 _ 1 16 Tryz.underlying50 hi hz0 hzz hz2 rfl (by decide) (.slice ai ns.length ac) ns.length (nameCells ns) rfl (R1.out.alloc _) ⟨w1.heap.size, 0, none⟩ 1 1 [strV name] rfl rfl ?c1 ?c2 ?c3 ?c4 (Nat.zero_le _) ?_))
  case c1 =>
    intro j u hj
    match j, hj with
    | 0, hj => simp at hj; subst hj; simp [Addr.add, strV]
    | (j + 1), hj => simp at hj
  case c2 => intro u hu; simp at hu; subst hu; rfl
  case c3 => unfold maxLen; omega
  case c4 => omega
  intro v' w2 ho hg _ hat
  obtain ⟨ao', cap', rfl⟩ := slice_len ho
  have hb1 : w2.heap[X]? = some (.cells cs ty (0, 0)) := (hg.block X (by simp; omega) (fun e => hnX e.symm)).trans ((Below.heap_alloc _ _ _ hXl).trans B1.out)
  have x0 : w2.cell? ⟨X, i, none⟩ = some (.slice ai ns.length ac) := cell_of hb1 H.out.c0
  have x1 : ∀ v, (w2.setCell ⟨X, i, none⟩ v).cell? ⟨X, i + 1, none⟩ = some (.bool r) := fun v => cell_of (set_of hb1 v) (by rw [Array.getElem?_setIfInBounds, if_neg (by omega)]; exact H.out.c1)
  have f0 := free_of (i := i) hb1
  have f1 : ∀ v, (w2.setCell ⟨X, i, none⟩ v).frozen? ⟨X, i + 1, none⟩ = false := fun v => free_of (i := i + 1) (set_of hb1 v)
  have HO := hide ho
  have HG := hide hg
  have HAT := hide hat
  have M1 := hide m1
  clear ho hg hat hb1 m1 c0 c1
  go_wp2
  go_ret
  exact ⟨rfl, nest_close H.out M1.out HG.out HO.out (by simpa using HAT.out)⟩
end Go.Proofs.YtfolnkmbdmfigaaGreatDoor

set_option linter.unusedSimpArgs false
set_option linter.unusedVariables false
namespace Go.Proofs.YtfolnkmbdmfigaaGreatDoor
open Go.RowKit Go.Maps Go.Lib
variable {S : Nat → Prop} {w w' w1 : World} {sv : Value} {X i : Nat} {cs : Array Value} {ty : TypeId} {ns : List (List UInt8)} {r : Bool}
set_option maxHeartbeats 4000000 in
set_option maxRecDepth 100000 in
theorem nest_none (h : NS S X i w cs ty sv [] r) (name : ByteArray) : Calls Tryz.prog 63 #[.pointer (some ⟨X, i, none⟩), .string name] w fun e w' => e = .returned (.int .i64 6) ∧ More1 w w' := by
  obtain ⟨ai, ac, hav⟩ := slice_len h.row
  subst hav
  have c0 := h.cell0
  clear h
  go_enter Tryz.func63, Tryz.ntmps63
  go_wp2
  go_ret
  exact ⟨rfl, More1.refl w⟩
theorem NS.last {nm : List UInt8} {xs : List (List UInt8)} (h : NS S X i w cs ty sv (xs ++ [nm]) r) : ∃ g ac, sv = .slice (some ⟨g, 0, none⟩) (xs.length + 1) ac ∧ w.cell? ⟨g, xs.length, none⟩ = some (strV nm) ∧ xs.length + 1 ≤ ac ∧ ac ≤ maxLen ∧ S g := by
  have ho := h.row
  rw [List.length_append] at ho
  rcases ho.2 with ⟨_, e⟩ | ⟨g, cap, cur, e1, h0, hg, h1, h2, h3, h4⟩
  · simp at e
  · refine ⟨g, cap, e1, cell_of hg ?_, by simpa using h1, h2, h.own g (by rw [e1]; rfl)⟩
    have h5 : (nameCells (xs ++ [nm]))[xs.length]? = some (strV nm) := by simp [nameCells]
    rw [← h4, List.getElem?_take] at h5
    split at h5
    · simpa using h5
    · cases h5
theorem owns_take {e : TypeId} {s g n m cap : Nat} {xs : List Value} (h : w.ownsRow 0 e s (.slice (some ⟨g, 0, none⟩) n cap) n xs) (hm : m ≤ n) : w.ownsRow 0 e s (.slice (some ⟨g, 0, none⟩) m cap) m (xs.take (m * s)) := by
  have hms : m * s ≤ n * s := Nat.mul_le_mul_right s hm
  refine ⟨by rw [List.length_take, h.1]; omega, ?_⟩
  rcases h.2 with ⟨e1, _⟩ | ⟨g', cap', cur, e1, h0, hg, h1, h2, h3, h4⟩
  · cases e1
  · cases e1
    refine Or.inr ⟨g, cap, cur, rfl, h0, hg, by omega, h2, h3, ?_⟩
    rw [← h4, List.take_take, Nat.min_eq_left hms]
set_option maxHeartbeats 4000000 in
set_option maxRecDepth 100000 in
theorem nest_bad {nm : List UInt8} {xs : List (List UInt8)} (h : NS S X i w cs ty sv (xs ++ [nm]) r) (hx : xs.length ≤ 30) (name : List UInt8) (hne : nm ≠ name) : Calls Tryz.prog 63 #[.pointer (some ⟨X, i, none⟩), .string ⟨name.toArray⟩] w fun e w' => e = .returned (.int .i64 6) ∧ More1 w w' := by
  obtain ⟨g, ac, hav, k0, hac, _⟩ := h.last
  unfold strV at k0
  subst hav
  have c0 := h.cell0
  generalize xs.length = n at *
  have hwr : IntKind.i64.wrap (((n + 1 : Nat) : Int) - 1) = (n : Int) := by rw [IntKind.wrap_i64]; omega
  have hlt : decide ((n : Int) < 0) = false := by simp
  have hin : (n : Int) < ((n + 1 : Nat) : Int) := by omega
  have hnm : (nm == name) = false := by simpa using hne
  clear h hne
  go_enter Tryz.func63, Tryz.ntmps63
  go_wp2
  go_ret
  exact ⟨rfl, More1.refl w⟩
theorem nest_shut_close {nm : List UInt8} {xs : List (List UInt8)} {g ac : Nat} (h : NS S X i w cs ty (.slice (some ⟨g, 0, none⟩) (xs.length + 1) ac) (xs ++ [nm]) r) (m1 : More1 w w1) :
    ∃ cs' sv', NS (Grow S w (w1.setCell ⟨X, i, none⟩ (.slice (some ⟨g, 0, none⟩) xs.length ac))) X i (w1.setCell ⟨X, i, none⟩ (.slice (some ⟨g, 0, none⟩) xs.length ac)) cs' ty sv' xs r ∧ Oth i cs cs' ∧ Frame (fun k => k = X ∨ S k) w (w1.setCell ⟨X, i, none⟩ (.slice (some ⟨g, 0, none⟩) xs.length ac)) := by
  have hXlt := blk_lt h.blk
  have hgS : S g := h.own g rfl
  have hgX : g ≠ X := fun e => h.nX (e ▸ hgS)
  have h1 := h.keep m1
  have keep : ∀ b, b ≠ X → (w1.setCell ⟨X, i, none⟩ (.slice (some ⟨g, 0, none⟩) xs.length ac)).heap[b]? = w1.heap[b]? := fun b hb => Below.heap_setCell _ _ _ _ hb
  have hs : (w1.setCell ⟨X, i, none⟩ (.slice (some ⟨g, 0, none⟩) xs.length ac)).heap.size = w1.heap.size := by simp [World.setCell]
  have hi0 : i < cs.size := (Array.getElem?_eq_some_iff.1 h.c0).1
  refine ⟨_, .slice (some ⟨g, 0, none⟩) xs.length ac, ⟨set_of (i := i) h1.blk _, ?_, ?_, ?_, ?_, ?_, ?_⟩, Oth.set _ _ _, m1.os, m1.tape, m1.output, by rw [hs]; exact m1.size, ?_⟩
  · rw [Array.getElem?_setIfInBounds, if_pos rfl, if_pos hi0]
  · rw [Array.getElem?_setIfInBounds, if_neg (by omega)]; exact h.c1
  · have hr := h1.row
    rw [List.length_append] at hr
    have h2 := owns_take (m := xs.length) hr (by simp)
    have e : (nameCells (xs ++ [nm])).take (xs.length * 1) = nameCells xs := by simp [nameCells, List.take_append_of_le_length]
    rw [e] at h2
    exact owns_of h2 fun b e => keep b (fun x => by cases e; exact hgX x)
  · intro k e; cases e; exact Or.inl hgS
  · rintro (e | e)
    · exact h.nX e
    · omega
  · exact grow_lt h.lt (by rw [hs]; exact m1.size)
  · intro k hk hf
    rw [keep k (fun e => hf (Or.inl e))]; exact m1.keep k hk
set_option maxHeartbeats 4000000 in
set_option maxRecDepth 100000 in
theorem nest_shut {nm : List UInt8} {xs : List (List UInt8)} (h : NS S X i w cs ty sv (xs ++ [nm]) r) (hx : xs.length ≤ 30) : Calls Tryz.prog 63 #[.pointer (some ⟨X, i, none⟩), .string ⟨nm.toArray⟩] w fun e w' => e = .returned (.int .i64 0) ∧ ∃ cs' sv', NS (Grow S w w') X i w' cs' ty sv' xs r ∧ Oth i cs cs' ∧ Frame (fun k => k = X ∨ S k) w w' := by
  obtain ⟨g, ac, hav, k0, hac, hmx, _⟩ := h.last
  unfold strV at k0
  subst hav
  have c0 := h.cell0
  have f0 := free_of (i := i) h.blk
  have HE := hide (nest_shut_close h (More1.refl w))
  generalize xs.length = n at *
  have hwr : IntKind.i64.wrap (((n + 1 : Nat) : Int) - 1) = (n : Int) := by rw [IntKind.wrap_i64]; omega
  have hlt : decide ((n : Int) < 0) = false := by simp
  have hin : (n : Int) < ((n + 1 : Nat) : Int) := by omega
  have hnm : (nm == nm) = true := by simp
  have hcap : (n : Int) ≤ (ac : Int) := by omega
  have hcap2 : n ≤ ac := by omega
  clear h
  go_enter Tryz.func63, Tryz.ntmps63
  go_wp2
  go_ret
  exact ⟨rfl, HE.out⟩
theorem dropWhile_twice {α : Type} (p : α → Bool) : ∀ l : List α, (l.dropWhile p).dropWhile p = l.dropWhile p
  | [] => rfl
  | x :: l => by
    by_cases h : p x = true
    · simp only [List.dropWhile_cons, h, if_true]; exact dropWhile_twice p l
    · simp [List.dropWhile_cons, h]
theorem dropWhile_none {α : Type} (p : α → Bool) : ∀ l : List α, l.dropWhile p = [] ↔ l.all p = true
  | [] => by simp
  | x :: l => by
    by_cases h : p x = true
    · simp only [List.dropWhile_cons, h, if_true, List.all_cons, Bool.true_and]; exact dropWhile_none p l
    · simp [List.dropWhile_cons, h]
theorem trim_none (l : List UInt8) : Lib.trimS l [9, 10, 13, 32] = [] ↔ blanksOnly l = true := by
  have hp : ∀ c : UInt8, ([9, 10, 13, 32] : List UInt8).contains c = isBlank c.toNat := by
    intro c
    rw [Bool.eq_iff_iff]
    simp only [List.contains_cons, List.contains_nil, Bool.or_eq_true, beq_iff_eq, Bool.false_eq_true, or_false, isBlank, ← UInt8.toNat_inj]
    have e1 : (9 : UInt8).toNat = 9 := rfl
    have e2 : (10 : UInt8).toNat = 10 := rfl
    have e3 : (13 : UInt8).toNat = 13 := rfl
    have e4 : (32 : UInt8).toNat = 32 := rfl
    omega
  have e : blanksOnly l = l.all (fun c => ([9, 10, 13, 32] : List UInt8).contains c) := by
    unfold blanksOnly
    congr 1
    funext c
    exact (hp c).symm
  rw [e]
  unfold Lib.trimS Lib.trimLeftS Lib.trimRightS
  rw [dropWhile_none, List.all_reverse]
  constructor
  · intro h
    have h1 := (dropWhile_none _ _).2 h
    rw [dropWhile_twice, dropWhile_none, List.all_reverse] at h1
    exact h1
  · intro h
    have h1 := (dropWhile_none (fun c => ([9, 10, 13, 32] : List UInt8).contains c) l.reverse).2 (by rw [List.all_reverse]; exact h)
    rw [h1]; rfl
theorem below_more {W : World} (b : Below w.heap.size w W) : More1 w W := ⟨b.os, b.tape, b.output, b.size, fun k hk => b.block k hk⟩
theorem More1.trans {a b c : World} (h : More1 a b) (k : More1 b c) : More1 a c := ⟨k.os.trans h.os, k.tape.trans h.tape, k.output.trans h.output, Nat.le_trans h.size k.size, fun i hi => (k.keep i (Nat.lt_of_lt_of_le hi h.size)).trans (h.keep i hi)⟩
set_option maxHeartbeats 4000000 in
set_option maxRecDepth 100000 in
theorem nest_text (h : NS S X i w cs ty sv ns r) (hx : ns.length ≤ 30) (t : List UInt8) (hz : t.length ≤ 9223372036854775807) : Calls Tryz.prog 64 #[.pointer (some ⟨X, i, none⟩), .string ⟨t.toArray⟩] w fun e w' => e = .returned (.int .i64 (if ns = [] ∧ blanksOnly t = false then 7 else 0)) ∧ More1 w w' := by
  obtain ⟨ai, ac, hav⟩ := slice_len h.row
  subst hav
  have c0 := h.cell0
  have htr : ∀ W, Calls Tryz.prog 96 #[.string ⟨t.toArray⟩, .string ⟨#[9, 10, 13, 32]⟩] W fun e w' => e = .returned (.string ⟨(Lib.trimS t [9, 10, 13, 32]).toArray⟩) ∧ Below W.heap.size W w' := fun W => by
    have := Tryz.strings_Trim_blanks ⟨t.toArray⟩ W (by simpa [ByteArray.size] using hz)
    simpa using this
  have hn := trim_none t
  generalize Lib.trimS t [9, 10, 13, 32] = R at htr hn
  have HT := hide htr
  clear h htr
  cases ns with
  | cons a l =>
    rw [if_neg (fun e => by cases e.1)]
    have hz1 : (((a :: l).length : Int) == 0) = false := by rw [beq_eq_false_iff_ne]; simp only [List.length_cons]; omega
    generalize (a :: l).length = n at *
    clear hn
    go_enter Tryz.func64, Tryz.ntmps64
    go_wp2
    go_ret
    exact ⟨rfl, More1.refl w⟩
  | nil =>
    by_cases hb : blanksOnly t = true
    · rw [if_neg (fun e => by rw [hb] at e; cases e.2)]
      have hR := hn.2 hb
      subst hR
      clear hn hb
      go_enter Tryz.func64, Tryz.ntmps64
      go_wp2_with (go_at_call 96; refine (HT.out _).mono ?_; rintro e w2 ⟨rfl, b2⟩; have B2 := hide b2; clear b2)
      go_ret
      exact ⟨rfl, below_more B2.out⟩
    · rw [if_pos ⟨rfl, by simpa using hb⟩]
      have hR : (R == []) = false := by
        have : R ≠ [] := fun e => hb (hn.1 e)
        cases R with
        | nil => exact absurd rfl this
        | cons a l => rfl
      clear hn hb
      go_enter Tryz.func64, Tryz.ntmps64
      go_wp2_with (go_at_call 96; refine (HT.out _).mono ?_; rintro e w2 ⟨rfl, b2⟩; have B2 := hide b2; clear b2)
      go_ret
      exact ⟨rfl, below_more B2.out⟩
end Go.Proofs.YtfolnkmbdmfigaaGreatDoor

set_option linter.unusedSimpArgs false
set_option linter.unusedVariables false
namespace Go.Proofs.YtfolnkmbdmfigaaGreatDoor
open Go.RowKit Go.Maps Go.Lib
variable {S : Nat → Prop} {w w' w1 : World} {sv : Value} {X i : Nat} {cs : Array Value} {ty : TypeId} {ns : List (List UInt8)} {r : Bool}
structure Nest where
  names : List (List UInt8)
  rooted : Bool
def Nest.take (n : Nest) (t : Tok) : Int × Nest :=
  if t.kind = 1 then
    if n.rooted = true ∧ n.names = [] then (7, n)
    else if 30 ≤ n.names.length then (8, n)
    else (0, ⟨n.names ++ [t.name], true⟩)
  else if t.kind = 2 then
    if n.names.getLast? = some t.name then (0, ⟨n.names.dropLast, n.rooted⟩) else (6, n)
  else if n.names = [] ∧ blanksOnly t.text = false then (7, n) else (0, n)
def NestEnd (S : Nat → Prop) (X i : Nat) (w : World) (cs : Array Value) (ty : TypeId) (x : Int × Nest) (e : Ending) (w' : World) : Prop :=
  e = .returned (.int .i64 x.1) ∧ ∃ cs' sv', NS (Grow S w w') X i w' cs' ty sv' x.2.names x.2.rooted ∧ Oth i cs cs' ∧ Frame (fun k => k = X ∨ S k) w w'
theorem nest_same {n : Nest} {x : Int} (h : NS S X i w cs ty sv n.names n.rooted) (hM : More1 w w') : NestEnd S X i w cs ty (x, n) (.returned (.int .i64 x)) w' := by
  have h1 := h.keep hM
  exact ⟨rfl, cs, sv, ⟨h1.blk, h1.c0, h1.c1, h1.row, fun k e => Or.inl (h1.own k e), fun e => by
    rcases e with e | e
    · exact h.nX e
    · have := blk_lt h.blk; omega, grow_lt h.lt hM.size⟩, Oth.refl _ _, hM.frame⟩
theorem nest_opening {n : Nest} (h : NS S X i w cs ty sv n.names n.rooted) (hn : n.names.length ≤ 30) (hr : n.names ≠ [] → n.rooted = true) (t : Tok) (hk : t.kind = 1) : Calls Tryz.prog 62 #[.pointer (some ⟨X, i, none⟩), .string ⟨t.name.toArray⟩] w (NestEnd S X i w cs ty (n.take t)) := by
  unfold Nest.take
  rw [if_pos hk]
  by_cases h1 : n.rooted = true ∧ n.names = []
  · rw [if_pos h1]
    have h2 := h
    rw [h1.1, h1.2] at h2
    refine (nest_root h2 _).mono ?_
    rintro e w' ⟨rfl, m⟩
    exact nest_same h m
  · rw [if_neg h1]
    by_cases h3 : 30 ≤ n.names.length
    · rw [if_pos h3]
      refine (nest_deep h (by omega) _).mono ?_
      rintro e w' ⟨rfl, m⟩
      exact nest_same h m
    · rw [if_neg h3]
      refine (nest_opened h (fun e => by cases hrr : n.rooted with | false => rfl | true => exact absurd ⟨hrr, e⟩ h1) (by omega) t.name).mono ?_
      rintro e w' ⟨rfl, hx⟩
      exact ⟨rfl, hx⟩
theorem nest_closing {n : Nest} (h : NS S X i w cs ty sv n.names n.rooted) (hn : n.names.length ≤ 30) (t : Tok) (h1 : t.kind ≠ 1) (hk : t.kind = 2) : Calls Tryz.prog 63 #[.pointer (some ⟨X, i, none⟩), .string ⟨t.name.toArray⟩] w (NestEnd S X i w cs ty (n.take t)) := by
  unfold Nest.take
  rw [if_neg h1, if_pos hk]
  rcases List.eq_nil_or_concat n.names with e0 | ⟨xs, nm, e0⟩
  · rw [e0, if_neg (by simp)]
    have h2 := h
    rw [e0] at h2
    refine (nest_none h2 _).mono ?_
    rintro e w' ⟨rfl, m⟩
    exact nest_same h m
  · have h2 := h
    rw [e0] at h2 hn
    rw [List.concat_eq_append] at e0 h2 hn
    simp only [List.length_append, List.length_cons, List.length_nil] at hn
    by_cases hnm : nm = t.name
    · subst hnm
      rw [e0, if_pos (by simp)]
      refine (nest_shut h2 (by omega)).mono ?_
      rintro e w' ⟨rfl, hx⟩
      rw [List.dropLast_concat]
      exact ⟨rfl, hx⟩
    · rw [e0, if_neg (by simpa using hnm)]
      refine (nest_bad h2 (by omega) t.name hnm).mono ?_
      rintro e w' ⟨rfl, m⟩
      exact nest_same h m
theorem nest_words {n : Nest} (h : NS S X i w cs ty sv n.names n.rooted) (hn : n.names.length ≤ 30) (t : Tok) (hz : t.text.length ≤ 9223372036854775807) (h1 : t.kind ≠ 1) (h2 : t.kind ≠ 2) : Calls Tryz.prog 64 #[.pointer (some ⟨X, i, none⟩), .string ⟨t.text.toArray⟩] w (NestEnd S X i w cs ty (n.take t)) := by
  unfold Nest.take
  rw [if_neg h1, if_neg h2]
  refine (nest_text h hn t.text hz).mono ?_
  rintro e w' ⟨rfl, m⟩
  split
  · exact nest_same h m
  · exact nest_same h m
set_option maxHeartbeats 4000000 in
set_option maxRecDepth 100000 in
theorem nest_take {n : Nest} (h : NS S X i w cs ty sv n.names n.rooted) (hn : n.names.length ≤ 30) (hr : n.names ≠ [] → n.rooted = true) (t : Tok) (ai : Option Addr) (an ac : Nat) (hz : t.text.length ≤ 9223372036854775807) :
    Calls Tryz.prog 39 #[.pointer (some ⟨X, i, none⟩), tokV t (.slice ai an ac)] w (NestEnd S X i w cs ty (n.take t)) := by
  have hM := fun o => (More1.refl w).alloc o
  have k1 := fun hk o => nest_opening (h.keep (hM o)) hn hr t hk
  have k2 := fun h1 hk o => nest_closing (h.keep (hM o)) hn t h1 hk
  have k3 := fun h1 hk o => nest_words (h.keep (hM o)) hn t hz h1 hk
  have lift : ∀ o e w', NestEnd S X i (w.alloc o) cs ty (n.take t) e w' → NestEnd S X i w cs ty (n.take t) e w' := by
    rintro o e w' ⟨rfl, cs', sv', q1, q2, q3⟩
    have hs := (hM o).size
    refine ⟨rfl, cs', sv', ⟨q1.blk, q1.c0, q1.c1, q1.row, fun k e => ?_, fun e => ?_, grow_lt h.lt (Nat.le_trans hs q3.size)⟩, q2, (hM o).frame.trans' q3⟩
    · rcases q1.own k e with a | a
      · exact Or.inl a
      · exact Or.inr ⟨by omega, a.2⟩
    · rcases e with e | e
      · exact h.nX e
      · have := blk_lt h.blk; omega
  unfold tokV strV
  have LI := hide lift
  clear h hn hr hM lift
  generalize n.take t = R at *
  by_cases h1 : t.kind = 1
  · have HK := hide (k1 h1)
    rw [h1] at ⊢
    clear k1 k2 k3 h1
    go_enter Tryz.func39, Tryz.ntmps39
    go_wp2_with (go_at_call 62; refine (HK.out _).mono ?_; rintro e w1 hx; have hy := LI.out _ _ _ hx; obtain ⟨rfl, hz⟩ := hy; have HZ := hide hz; clear hx hz)
    go_ret
    exact ⟨rfl, HZ.out⟩
  · by_cases h2 : t.kind = 2
    · have HK := hide (k2 h1 h2)
      rw [h2] at ⊢
      clear k1 k2 k3 h1 h2
      go_enter Tryz.func39, Tryz.ntmps39
      go_wp2_with (go_at_call 63; refine (HK.out _).mono ?_; rintro e w1 hx; have hy := LI.out _ _ _ hx; obtain ⟨rfl, hz⟩ := hy; have HZ := hide hz; clear hx hz)
      go_ret
      exact ⟨rfl, HZ.out⟩
    · have HK := hide (k3 h1 h2)
      have e1 : (t.kind == 1) = false := by simpa using h1
      have e2 : (t.kind == 2) = false := by simpa using h2
      clear k1 k2 k3 h1 h2
      go_enter Tryz.func39, Tryz.ntmps39
      go_wp2_with (go_at_call 64; refine (HK.out _).mono ?_; rintro e w1 hx; have hy := LI.out _ _ _ hx; obtain ⟨rfl, hz⟩ := hy; have HZ := hide hz; clear hx hz)
      go_ret
      exact ⟨rfl, HZ.out⟩
end Go.Proofs.YtfolnkmbdmfigaaGreatDoor

set_option linter.unusedSimpArgs false
set_option linter.unusedVariables false
namespace Go.Proofs.YtfolnkmbdmfigaaGreatDoor
open Go.RowKit Go.Lib

inductive Fo where
  | nil
  | text (t : List UInt8) (rest : Fo)
  | elem (n : List UInt8) (a : Ats) (kids rest : Fo)
def Fo.size : Fo → Nat
  | .nil => 0
  | .text _ r => 1 + r.size
  | .elem _ _ k r => 1 + k.size + r.size
def Fo.deep : Fo → Nat
  | .nil => 0
  | .text _ r => r.deep
  | .elem _ _ k r => max (1 + k.deep) r.deep
def Fo.tops : Nat → Fo → List Nat
  | _, .nil => []
  | m, .text _ r => m :: r.tops (m + 1)
  | m, .elem _ _ k r => m :: r.tops (m + 1 + k.size)
def Fo.flat : Nat → Int → Fo → List Nd
  | _, _, .nil => []
  | m, u, .text t r => ⟨[], [], t, [], u⟩ :: r.flat (m + 1) u
  | m, u, .elem n a k r => ⟨n, a, [], k.tops (m + 1), u⟩ :: (k.flat (m + 1) m ++ r.flat (m + 1 + k.size) u)
theorem addKid_append (m : List Nd) : ∀ (l : List Nd) (k j : Nat), k < l.length → addKid (l ++ m) k j = addKid l k j ++ m
  | [], k, j, h => by simp at h
  | n :: l, 0, j, _ => rfl
  | n :: l, k + 1, j, h => by simp only [List.cons_append, addKid, addKid_append m l k j (by simpa using h)]
theorem flat_len : ∀ (f : Fo) (m : Nat) (u : Int), (f.flat m u).length = f.size
  | .nil, _, _ => rfl
  | .text t r, m, u => by simp only [Fo.flat, List.length_cons, flat_len r, Fo.size]; omega
  | .elem n a k r, m, u => by simp only [Fo.flat, List.length_cons, List.length_append, flat_len k, flat_len r, Fo.size]; omega

theorem addKid_name (l : List Nd) (k j i : Nat) : ((addKid l k j)[i]?).map Nd.name = (l[i]?).map Nd.name := by
  rw [addKid_at]; split
  · cases l[i]? <;> rfl
  · rfl
theorem named_iff (g : Gr) (k : Nat) (n : List UInt8) : g.named k n = true ↔ (g.nodes[k]?).map Nd.name = some n := by
  unfold Gr.named; cases g.nodes[k]? <;> simp
theorem put_name (g : Gr) (n : Nd) (i : Nat) (hi : i < g.nodes.length) : ((g.put n).nodes[i]?).map Nd.name = (g.nodes[i]?).map Nd.name := by
  unfold Gr.put; split
  · rw [List.getElem?_append_left hi]
  · rename_i k _ _
    rw [List.getElem?_append_left (by rw [addKid_len]; exact hi), addKid_name]
end Go.Proofs.YtfolnkmbdmfigaaGreatDoor

set_option linter.unusedSimpArgs false
set_option linter.unusedVariables false
namespace Go.Proofs.YtfolnkmbdmfigaaGreatDoor
open Go.RowKit Go.Maps Go.Lib
variable {A K S F : Nat → Prop} {w w0 w' w1 w2 : World} {nv sv rv : Value} {av kv : Nat → Value} {g : Gr} {X : Nat}
def Gr.nameAt (g : Gr) (k : Nat) : List UInt8 := ((g.nodes[k]?).map Nd.name).getD []
def Gr.names (g : Gr) : List (List UInt8) := (g.stack.map g.nameAt).reverse
def Gr.nest (g : Gr) : Nest := ⟨g.names, !g.nodes.isEmpty⟩
theorem names_put (g : Gr) (wf : g.Wf) (n : Nd) : g.stack.map (g.put n).nameAt = g.stack.map g.nameAt := by
  refine List.map_congr_left fun k hk => ?_
  have hlt := wf.ups.lt k hk
  unfold Gr.nameAt
  rw [put_name g n k hlt]
theorem put_some (g : Gr) (n : Nd) : (g.put n).nodes.isEmpty = false := by
  cases h : (g.put n).nodes with
  | nil => have := put_size g n; rw [h] at this; simp at this
  | cons a l => rfl
theorem nest_step (wf : g.Wf) (t : Tok) : g.nest.take t = ((g.take t).1, (g.take t).2.nest) := by
  have hlen : g.names.length = g.stack.length := by simp [Gr.names]
  have hnil : g.names = [] ↔ g.stack = [] := by simp [Gr.names]
  unfold Nest.take Gr.take Gr.nest
  simp only [hnil, hlen]
  by_cases h1 : t.kind = 1
  · rw [if_pos h1, if_pos h1]
    by_cases h2 : g.stack = [] ∧ g.nodes ≠ []
    · rw [if_pos ⟨by cases hg : g.nodes with | nil => exact absurd hg h2.2 | cons a l => rfl, h2.1⟩, if_pos h2]
    · rw [if_neg (fun e => h2 ⟨e.2, fun x => by rw [x] at e; simp at e⟩), if_neg h2]
      by_cases h3 : 30 ≤ g.stack.length
      · rw [if_pos h3, if_pos h3]
      · rw [if_neg h3, if_neg h3]
        have e1 : (g.put (elemOf t)).nodes.isEmpty = false := put_some _ _
        have e2 : Gr.names { (g.put (elemOf t)) with stack := g.nodes.length :: g.stack } = g.names ++ [t.name] := by
          have e3 : (g.put (elemOf t)).nameAt g.nodes.length = t.name := by unfold Gr.nameAt; rw [put_last]; rfl
          have e4 := names_put g wf (elemOf t)
          unfold Gr.names
          have e5 : Gr.nameAt { (g.put (elemOf t)) with stack := g.nodes.length :: g.stack } = (g.put (elemOf t)).nameAt := rfl
          simp only [List.map_cons, List.reverse_cons, e5]
          rw [e3, e4]
        rw [e2]
        simp only [e1]; rfl
  · rw [if_neg h1, if_neg h1]
    by_cases h2 : t.kind = 2
    · rw [if_pos h2, if_pos h2]
      cases hs : g.stack with
      | nil =>
        have e : g.names = [] := hnil.2 hs
        rw [e, if_neg (by simp)]
      | cons k st =>
        obtain ⟨m, hm, _, _⟩ := wf.top hs
        have e : g.names = (st.map g.nameAt).reverse ++ [m.name] := by
          unfold Gr.names; rw [hs]; simp only [List.map_cons, List.reverse_cons]
          have : g.nameAt k = m.name := by unfold Gr.nameAt; rw [hm]; rfl
          rw [this]
        have hnm : g.named k t.name = true ↔ m.name = t.name := by rw [named_iff, hm]; simp
        simp only
        by_cases h3 : m.name = t.name
        · rw [if_pos (by rw [e]; simp [h3]), if_pos (hnm.2 h3), e, List.dropLast_concat]
          rfl
        · rw [if_neg (by rw [e]; simpa using h3), if_neg (fun x => h3 (hnm.1 x))]
    · rw [if_neg h2, if_neg h2]
      cases hs : g.stack with
      | nil =>
        by_cases h3 : blanksOnly t.text = true
        · rw [if_neg (by rw [h3]; simp), if_pos h3]
        · rw [if_pos ⟨rfl, by simpa using h3⟩, if_neg h3]
      | cons k st =>
        rw [if_neg (by simp)]
        have e1 : (g.put (textOf t)).nodes.isEmpty = false := put_some _ _
        have e2 : (g.put (textOf t)).names = g.names := by
          unfold Gr.names; rw [put_stack, names_put g wf]
        obtain ⟨m, hm, _, hlt⟩ := wf.top hs
        have e3 : g.nodes.isEmpty = false := by cases hg : g.nodes with | nil => rw [hg] at hm; simp at hm | cons a l => rfl
        simp only [e1, e2, e3]
theorem nest_root' (wf : g.Wf) : g.nest.names ≠ [] → g.nest.rooted = true := by
  intro h
  cases hs : g.stack with
  | nil => exact absurd (by simp [Gr.nest, Gr.names, hs]) h
  | cons k st =>
    obtain ⟨m, hm, _, _⟩ := wf.top hs
    have : g.nodes.isEmpty = false := by cases hg : g.nodes with | nil => rw [hg] at hm; simp at hm | cons a l => rfl
    simp [Gr.nest, this]
theorem nest_len (wf : g.Wf) : g.nest.names.length ≤ 30 := by
  have := wf.deep
  simpa [Gr.nest, Gr.names] using this
theorem take_bad (t : Tok) (h : (g.take t).1 ≠ 0) : (g.take t).2 = g := by
  unfold Gr.take at h ⊢
  split
  · rename_i h1
    rw [if_pos h1] at h
    split
    · rfl
    · rename_i h2
      rw [if_neg h2] at h
      split
      · rfl
      · rename_i h3
        rw [if_neg h3] at h; exact absurd rfl h
  · rename_i h1
    rw [if_neg h1] at h
    split
    · rename_i h2
      rw [if_pos h2] at h
      split
      · rfl
      · rename_i k st hs
        simp only [hs] at h
        split
        · rename_i h3; rw [if_pos h3] at h; exact absurd rfl h
        · rfl
    · rename_i h2
      rw [if_neg h2] at h
      split
      · split <;> rfl
      · rename_i hs; simp only [hs] at h; exact absurd rfl h

structure GR (A F : Nat → Prop) (X : Nat) (w : World) (g : Gr) : Prop where
  ex : ∃ K S nv av kv sv, GRep A K X w g nv av kv sv (.bool g.nest.rooted) ∧ NS S X 0 w #[sv, .bool g.nest.rooted, nv, .int .i64 (topOf g.stack)] 54 sv g.nest.names g.nest.rooted ∧
    (∀ k, K k → F k) ∧ (∀ k, S k → F k) ∧ (∀ k, A k → ¬ S k) ∧ (∀ k, S k → ¬ K k) ∧ (g.nodes = [] → nv = nilS)
  lt : ∀ k, F k → k < w.heap.size
  nF : ¬ F X
  kids : KidsLe g
  wf : g.Wf
theorem GRep.keep {W : World} (h : GRep A K X w g nv av kv sv rv) (hM : More1 w W) : GRep A K X W g nv av kv sv rv :=
  ⟨(hM.keep X (blk_lt h.blk)).trans h.blk, hM.nodes h.nodes, h.nA, h.nK, h.dis, fun k x => Nat.lt_of_lt_of_le (h.lt k x) hM.size, fun k x => Nat.lt_of_lt_of_le (h.ltA k x) hM.size⟩
theorem GR.keep {W : World} (h : GR A F X w g) (hM : More1 w W) : GR A F X W g := by
  obtain ⟨⟨K, S, nv, av, kv, sv, h1, h2, h3⟩, h4, h5, h6, h7⟩ := h
  exact ⟨⟨K, S, nv, av, kv, sv, h1.keep hM, h2.keep hM, h3⟩, fun k x => Nat.lt_of_lt_of_le (h4 k x) hM.size, h5, h6, h7⟩
theorem GR.blk (h : GR A F X w g) : X < w.heap.size := by
  obtain ⟨⟨K, S, nv, av, kv, sv, h1, _⟩, _⟩ := h
  exact blk_lt h1.blk
theorem cells4 {a b c d a' b' : Value} {cs : Array Value} (h : Oth 0 #[a, b, c, d] cs) (h0 : cs[0]? = some a') (h1 : cs[0 + 1]? = some b') : cs = #[a', b', c, d] := by
  obtain ⟨hs, ho⟩ := h
  have h2 := ho 2 (by decide) (by decide)
  have h3 := ho 3 (by decide) (by decide)
  refine Array.ext_getElem? fun j => ?_
  match j with
  | 0 => exact h0
  | 1 => exact h1
  | 2 => exact h2
  | 3 => exact h3
  | j + 4 =>
    rw [Array.getElem?_eq_none (by rw [hs]; simp), Array.getElem?_eq_none (by simp)]
theorem GRep.nested {cs : Array Value} {sv' : Value} {n : Nest} {r : Bool} (h : GRep A K X w g nv av kv sv (.bool r)) (hSA : ∀ k, A k → ¬ S k) (hSK : ∀ k, S k → ¬ K k) (q : NS (Grow S w w1) X 0 w1 cs 54 sv' n.names n.rooted) (o : Oth 0 #[sv, .bool r, nv, .int .i64 (topOf g.stack)] cs) (fr : Frame (fun k => k = X ∨ S k) w w1) :
    GRep A K X w1 g nv av kv sv' (.bool n.rooted) := by
  have e := cells4 o q.c0 q.c1
  have hb := q.blk
  rw [e] at hb
  refine ⟨hb, h.nodes.frame (fun k hk hA => fr.block k hk ?_) (fun k hk hK => fr.block k hk ?_) (fun _ _ x => x), h.nA, h.nK, h.dis, fun k x => Nat.lt_of_lt_of_le (h.lt k x) fr.size, fun k x => Nat.lt_of_lt_of_le (h.ltA k x) fr.size⟩
  · rintro (x | x)
    · exact h.nA (x ▸ hA)
    · exact hSA k hA x
  · rintro (x | x)
    · exact h.nK (x ▸ hK)
    · exact hSK k x hK
def Took (A F : Nat → Prop) (X : Nat) (w : World) (x : Int × Gr) (e : Ending) (w' : World) : Prop := e = .returned (.int .i64 x.1) ∧ GR A (Grow F w w') X w' x.2 ∧ Frame (fun k => k = X ∨ F k) w w'
theorem GR.made {K S : Nat → Prop} {nv' sv1 : Value} {av' kv' : Nat → Value} {cs : Array Value} {g' : Gr} {n : Nest} (hlt : ∀ k, F k → k < w.heap.size) (hnF : ¬ F X) (hKF : ∀ k, K k → F k) (hSF : ∀ k, S k → F k) (hAS : ∀ k, A k → ¬ S k) (hSK : ∀ k, S k → ¬ K k) (hA : ∀ k, A k → k < w.heap.size) (hX : X < w.heap.size) (m0 : More1 w w0) (q1 : NS (Grow S w0 w1) X 0 w1 cs 54 sv1 n.names n.rooted) (f1 : Frame (fun k => k = X ∨ S k) w0 w1)
    (r2 : GRep A (Grow K w1 w2) X w2 g' nv' av' kv' sv1 (.bool n.rooted)) (f2 : Frame (fun k => k = X ∨ K k) w1 w2) (hn : n = g'.nest) (kids : KidsLe g') (wf : g'.Wf) (hnil : g'.nodes = [] → nv' = nilS) : GR A (Grow F w w2) X w2 g' ∧ Frame (fun k => k = X ∨ F k) w w2 := by
  subst hn
  have s0 := m0.size
  have s1 := f1.size
  have s2 := f2.size
  have fr : Frame (fun k => k = X ∨ F k) w w2 := by
    refine ⟨f2.os.trans (f1.os.trans m0.os), f2.tape.trans (f1.tape.trans m0.tape), f2.output.trans (f1.output.trans m0.output), by omega, fun k hk hf => ?_⟩
    rw [f2.block k (by omega) (fun x => hf (x.imp id (hKF k))), f1.block k (by omega) (fun x => hf (x.imp id (hSF k))), m0.keep k hk]
  refine ⟨⟨⟨_, Grow S w0 w1, nv', av', kv', sv1, r2, ⟨r2.blk, rfl, rfl, owns_of q1.row fun k e => f2.block k (own_lt q1.row e) ?_, q1.own, q1.nX, fun k x => Nat.lt_of_lt_of_le (q1.lt k x) s2⟩, ?_, ?_, ?_, ?_, hnil⟩, grow_lt hlt (by omega), ?_, kids, wf⟩, fr⟩
  · have hS := q1.own k e
    rintro (x | x)
    · exact q1.nX (x ▸ hS)
    · rcases hS with y | y
      · exact hSK k y x
      · have := hlt k (hKF k x); omega
  · rintro k (x | x)
    · exact Or.inl (hKF k x)
    · exact Or.inr ⟨by omega, x.2⟩
  · rintro k (x | x)
    · exact Or.inl (hSF k x)
    · exact Or.inr ⟨by omega, by omega⟩
  · rintro k hk (x | x)
    · exact hAS k hk x
    · have := hA k hk; omega
  · rintro k (x | x) (y | y)
    · exact hSK k x y
    · have := hlt k (hSF k x); omega
    · have := hlt k (hKF k y); omega
    · omega
  · rintro (x | x)
    · exact hnF x
    · omega
theorem GRep.top (h : GRep A K X w g nv av kv sv rv) (st : List Nat) (o : Int) (ho : o = topOf st) : GRep A K X (w.setCell ⟨X, 3, none⟩ (.int .i64 o)) { g with stack := st } nv av kv sv rv := by
  have keep : ∀ b, b ≠ X → (w.setCell ⟨X, 3, none⟩ (.int .i64 o)).heap[b]? = w.heap[b]? := fun b hb => Below.heap_setCell _ _ _ _ hb
  have hz : (w.setCell ⟨X, 3, none⟩ (.int .i64 o)).heap.size = w.heap.size := by simp [World.setCell]
  refine ⟨?_, h.nodes.frame (fun b _ hA => keep b (fun e => h.nA (by rw [← e]; exact hA))) (fun b _ hK => keep b (fun e => h.nK (by rw [← e]; exact hK))) (fun _ _ x => x), h.nA, h.nK, h.dis, fun b hb => by rw [hz]; exact h.lt b hb, fun b hb => by rw [hz]; exact h.ltA b hb⟩
  rw [set_of h.blk _, ho]
  rfl
theorem frame_set1 {P : Nat → Prop} (w1 : World) (i : Nat) (a : Value) : Frame (fun k => k = X ∨ P k) w1 (w1.setCell ⟨X, i, none⟩ a) :=
  ⟨rfl, rfl, rfl, by simp [World.setCell], fun k hk hf => Below.heap_setCell _ _ _ _ (fun e => hf (Or.inl e))⟩
end Go.Proofs.YtfolnkmbdmfigaaGreatDoor

set_option linter.unusedSimpArgs false
set_option linter.unusedVariables false
namespace Go.Proofs.YtfolnkmbdmfigaaGreatDoor
open Go.RowKit Go.Maps Go.Lib
variable {A K S F : Nat → Prop} {w w0 w' w1 w2 : World} {nv sv rv : Value} {av kv : Nat → Value} {g : Gr} {X : Nat}
theorem KidsLe.put (h : KidsLe g) (n : Nd) (hn : n.kids = []) : KidsLe (g.put n) := by
  intro i m hi
  rw [put_size]
  unfold Gr.put at hi
  split at hi
  · by_cases h1 : i < g.nodes.length
    · rw [List.getElem?_append_left h1] at hi
      have := h i m hi; omega
    · rw [List.getElem?_append_right (by omega)] at hi
      have h2 := (List.getElem?_eq_some_iff.1 hi).1
      simp only [List.length_cons, List.length_nil] at h2
      rw [show i - g.nodes.length = 0 by omega] at hi
      obtain rfl : _ = m := by simpa using hi
      show n.kids.length ≤ _
      rw [hn]; simp
  · rename_i k st hs
    by_cases h1 : i < g.nodes.length
    · rw [List.getElem?_append_left (by rw [addKid_len]; exact h1), addKid_at] at hi
      by_cases e : i = k
      · rw [if_pos e] at hi
        obtain ⟨m', h3, h4⟩ := Option.map_eq_some_iff.1 hi
        have := h i m' h3
        rw [← h4]
        simp only [Nd.kid, List.length_append, List.length_cons, List.length_nil]; omega
      · rw [if_neg e] at hi
        have := h i m hi; omega
    · rw [List.getElem?_append_right (by rw [addKid_len]; omega), addKid_len] at hi
      have h2 := (List.getElem?_eq_some_iff.1 hi).1
      simp only [List.length_cons, List.length_nil] at h2
      rw [show i - g.nodes.length = 0 by omega] at hi
      obtain rfl : _ = m := by simpa using hi
      show n.kids.length ≤ _
      rw [hn]; simp
structure GP (A F K S : Nat → Prop) (X : Nat) (w : World) (g : Gr) (nv sv : Value) (av kv : Nat → Value) : Prop where
  rep : GRep A K X w g nv av kv sv (.bool g.nest.rooted)
  nest : NS S X 0 w #[sv, .bool g.nest.rooted, nv, .int .i64 (topOf g.stack)] 54 sv g.nest.names g.nest.rooted
  kF : ∀ k, K k → F k
  sF : ∀ k, S k → F k
  aS : ∀ k, A k → ¬ S k
  sK : ∀ k, S k → ¬ K k
  nil : g.nodes = [] → nv = nilS
  lt : ∀ k, F k → k < w.heap.size
  nF : ¬ F X
  kids : KidsLe g
  wf : g.Wf
theorem GR.parts (h : GR A F X w g) : ∃ K S nv sv av kv, GP A F K S X w g nv sv av kv := by
  obtain ⟨⟨K, S, nv, av, kv, sv, r0, n0, hKF, hSF, hAS, hSK, hnil⟩, hlt, hnF, hk, wf⟩ := h
  exact ⟨K, S, nv, sv, av, kv, r0, n0, hKF, hSF, hAS, hSK, hnil, hlt, hnF, hk, wf⟩
structure GQ (A F K S : Nat → Prop) (X : Nat) (w w0 w1 : World) (g : Gr) (n : Nest) (nv sv1 : Value) (av kv : Nat → Value) : Prop where
  more : More1 w w0
  ns : ∃ cs, NS (Grow S w0 w1) X 0 w1 cs 54 sv1 n.names n.rooted
  fr : Frame (fun k => k = X ∨ S k) w0 w1
  rep : GRep A K X w1 g nv av kv sv1 (.bool n.rooted)
theorem GP.behind {nv sv : Value} {av kv : Nat → Value} {n : Nest} {x : Int} {e : Ending} (h : GP A F K S X w g nv sv av kv) (m0 : More1 w w0) (q : NestEnd S X 0 w0 #[sv, .bool g.nest.rooted, nv, .int .i64 (topOf g.stack)] 54 (x, n) e w1) : e = .returned (.int .i64 x) ∧ ∃ sv1, GQ A F K S X w w0 w1 g n nv sv1 av kv := by
  obtain ⟨rfl, cs, sv1, q1, q2, q3⟩ := q
  exact ⟨rfl, sv1, m0, ⟨cs, q1⟩, q3, (h.rep.keep m0).nested h.aS h.sK q1 q2 q3⟩
theorem GP.ends {nv sv sv1 nv' : Value} {av kv av' kv' : Nat → Value} {g' : Gr} {x : Int} (h : GP A F K S X w g nv sv av kv) (q : GQ A F K S X w w0 w1 g g'.nest nv sv1 av kv)
    (r2 : GRep A (Grow K w1 w2) X w2 g' nv' av' kv' sv1 (.bool g'.nest.rooted)) (f2 : Frame (fun k => k = X ∨ K k) w1 w2) (kids : KidsLe g') (wf : g'.Wf) (hnil : g'.nodes = [] → nv' = nilS) : Took A F X w (x, g') (.returned (.int .i64 x)) w2 := by
  obtain ⟨m0, ⟨cs, q1⟩, f1, r1⟩ := q
  obtain ⟨z1, z2⟩ := GR.made h.lt h.nF h.kF h.sF h.aS h.sK h.rep.ltA (blk_lt h.rep.blk) m0 q1 f1 r2 f2 rfl kids wf hnil
  exact ⟨rfl, z1, z2⟩
theorem GP.same {nv sv sv1 : Value} {av kv : Nat → Value} {x : Int} (h : GP A F K S X w g nv sv av kv) (q : GQ A F K S X w w0 w1 g g.nest nv sv1 av kv) (m2 : More1 w1 w2) : Took A F X w (x, g) (.returned (.int .i64 x)) w2 := by
  have r1 := q.rep
  have r2 := (r1.keep m2)
  exact h.ends q (r1.next m2.frame r2.nodes (fun k _ x => Or.inl x) r2.blk) m2.frame h.kids h.wf h.nil
theorem GQ.box {nv sv1 : Value} {av kv : Nat → Value} {n : Nest} {o : Obj} (h : GQ A F K S X w w0 w1 g n nv sv1 av kv) (hX : X < w.heap.size) (hS : ∀ k, S k → k < w.heap.size) (hb : w0.heap[w.heap.size]? = some o) : w1.heap[w.heap.size]? = some o := by
  rw [h.fr.block w.heap.size (Array.getElem?_eq_some_iff.1 hb).1 (fun x => by
    rcases x with e | e
    · omega
    · have := hS _ e; omega)]
  exact hb
theorem GQ.attr {nv sv sv1 va : Value} {av kv : Nat → Value} {n : Nest} {m : Nat} {xs : List Value} (h : GQ A F K S X w w0 w1 g n nv sv1 av kv) (p : GP A F K S X w g nv sv av kv) (ha : w.ownsRow 0 44 2 va m xs) (haA : ∀ k, va.ownBlock = some k → A k) : w1.ownsRow 0 44 2 va m xs := by
  refine owns_of ha fun b e => (h.fr.block b (Nat.lt_of_lt_of_le (own_lt ha e) h.more.size) ?_).trans (h.more.keep b (own_lt ha e))
  rintro (x | x)
  · exact p.rep.nA (x ▸ haA b e)
  · exact p.aS b (haA b e) x
def tokBox (t : Tok) (va : Value) : Obj := .cells #[.int .i64 t.kind, .string ⟨t.name.toArray⟩, va, .string ⟨t.text.toArray⟩, .int .i64 t.at_] 56
def BoxAt (B : Nat) (k nm va tx at_ : Value) (W : World) : Prop := W.cell? ⟨B, 0, none⟩ = some k ∧ W.cell? ⟨B, 1, none⟩ = some nm ∧ W.cell? ⟨B, 2, none⟩ = some va ∧ W.cell? ⟨B, 3, none⟩ = some tx ∧ W.cell? ⟨B, 4, none⟩ = some at_
theorem boxAt {t : Tok} {va : Value} {W : World} {B : Nat} (h : W.heap[B]? = some (tokBox t va)) : BoxAt B (.int .i64 t.kind) (.string ⟨t.name.toArray⟩) va (.string ⟨t.text.toArray⟩) (.int .i64 t.at_) W :=
  ⟨cell_of h rfl, cell_of h rfl, cell_of h rfl, cell_of h rfl, cell_of h rfl⟩
theorem nest_call {nv sv : Value} {av kv : Nat → Value} (h : GP A F K S X w g nv sv av kv) (t : Tok) (ai : Option Addr) (ac : Nat) (hz : t.text.length ≤ 9223372036854775807) :
    Calls Tryz.prog 39 #[.pointer (some ⟨X, 0, none⟩), tokV t (.slice ai t.attrs.length ac)] (w.alloc (tokBox t (.slice ai t.attrs.length ac))).drew fun e w1 => e = .returned (.int .i64 (g.take t).1) ∧ ∃ sv1, GQ A F K S X w (w.alloc (tokBox t (.slice ai t.attrs.length ac))).drew w1 g (g.take t).2.nest nv sv1 av kv ∧ w1.heap[w.heap.size]? = some (tokBox t (.slice ai t.attrs.length ac)) := by
  have m0 : More1 w (w.alloc (tokBox t (.slice ai t.attrs.length ac))).drew := ((More1.refl w).alloc _).drewN 1
  have := nest_take (h.nest.keep m0) (nest_len h.wf) (nest_root' h.wf) t ai t.attrs.length ac hz
  rw [nest_step h.wf t] at this
  refine this.mono ?_
  intro e w1 q
  obtain ⟨rfl, sv1, gq⟩ := h.behind m0 q
  exact ⟨rfl, sv1, gq, gq.box (blk_lt h.rep.blk) (fun k x => h.lt k (h.sF k x)) (Below_new w _)⟩
set_option maxHeartbeats 8000000 in
set_option maxRecDepth 100000 in
theorem take_wrong {nv sv : Value} {av kv : Nat → Value} (h : GP A F K S X w g nv sv av kv) (t : Tok) (ai : Option Addr) (ac : Nat) (hz : t.text.length ≤ 9223372036854775807) (h0 : (g.take t).1 ≠ 0) :
    Calls Tryz.prog 23 #[.pointer (some ⟨X, 0, none⟩), tokV t (.slice ai t.attrs.length ac)] w (Took A F X w (g.take t)) := by
  have hcall := nest_call h t ai ac hz
  have hx := take_bad t h0
  have hfin : ∀ w1 sv1, GQ A F K S X w (w.alloc (tokBox t (.slice ai t.attrs.length ac))).drew w1 g (g.take t).2.nest nv sv1 av kv → Took A F X w (g.take t) (.returned (.int .i64 (g.take t).1)) w1 := fun w1 sv1 q => by
    rw [hx] at q
    have := h.same (x := (g.take t).1) q (More1.refl w1)
    rw [show g.take t = ((g.take t).1, g) from Prod.ext rfl hx]
    exact this
  have hne : ((g.take t).1 != 0) = true := by simpa using h0
  have hbox : BoxAt w.heap.size (.int .i64 t.kind) (.string ⟨t.name.toArray⟩) (.slice ai t.attrs.length ac) (.string ⟨t.text.toArray⟩) (.int .i64 t.at_) (w.alloc (tokBox t (.slice ai t.attrs.length ac))) := boxAt (Below_new w _)
  obtain ⟨b0, b1, b2, b3, b4⟩ := hbox
  unfold tokV strV at hcall ⊢
  unfold tokBox at *
  have HC := hide hcall
  have HF := hide hfin
  clear hcall hfin h0 hx h
  generalize (g.take t).1 = no at *
  go_enter Tryz.func23, Tryz.ntmps23
  go_wp2_with fail
  go_region_held3 (fun W => W.cell? ⟨w.heap.size, 0, none⟩ = some (.int .i64 t.kind) ∧ W.cell? ⟨w.heap.size, 1, none⟩ = some (.string ⟨t.name.toArray⟩) ∧ W.cell? ⟨w.heap.size, 2, none⟩ = some (.slice ai t.attrs.length ac) ∧ W.cell? ⟨w.heap.size, 3, none⟩ = some (.string ⟨t.text.toArray⟩) ∧ W.cell? ⟨w.heap.size, 4, none⟩ = some (.int .i64 t.at_))
    (first | exact ⟨b0, b1, b2, b3, b4⟩ | exact boxAt hb1)
    (first | (go_at_call 39; refine HC.out.mono ?_; rintro e w1 ⟨rfl, sv1, gq, hb1⟩))
  all_goals
    have GQ1 := hide gq
    clear gq b0 b1 b2 b3 b4 hb1
    go_wp2
    go_ret
    exact HF.out _ _ GQ1.out
set_option maxHeartbeats 8000000 in
set_option maxRecDepth 100000 in
theorem take_open {nv sv : Value} {av kv : Nat → Value} (h : GP A F K S X w g nv sv av kv) (hb : g.nodes.length ≤ 17179869184) (t : Tok) (ai : Option Addr) (ac : Nat) (hz : t.text.length ≤ 9223372036854775807) (ha : w.ownsRow 0 44 2 (.slice ai t.attrs.length ac) t.attrs.length (attrCells t.attrs)) (haA : ∀ k, (Value.slice ai t.attrs.length ac).ownBlock = some k → A k) (h0 : (g.take t).1 = 0) (hk : t.kind = 1) :
    Calls Tryz.prog 23 #[.pointer (some ⟨X, 0, none⟩), tokV t (.slice ai t.attrs.length ac)] w (Took A F X w (g.take t)) := by
  have hcall := nest_call h t ai ac hz
  have hg : g.take t = (0, { (g.put (elemOf t)) with stack := g.nodes.length :: g.stack }) := by
    unfold Gr.take at h0 ⊢
    rw [if_pos hk] at h0 ⊢
    split at h0
    · cases h0
    · rename_i h1
      rw [if_neg h1]
      split at h0
      · cases h0
      · rename_i h2
        rw [if_neg h2]
  have hwf := h.wf.take t
  rw [hg] at hcall hwf ⊢
  have hbox : BoxAt w.heap.size (.int .i64 t.kind) (.string ⟨t.name.toArray⟩) (.slice ai t.attrs.length ac) (.string ⟨t.text.toArray⟩) (.int .i64 t.at_) (w.alloc (tokBox t (.slice ai t.attrs.length ac))) := boxAt (Below_new w _)
  obtain ⟨b0, b1, b2, b3, b4⟩ := hbox
  have hput : ∀ w1 sv1 n, GQ A F K S X w (w.alloc (tokBox t (.slice ai t.attrs.length ac))).drew w1 g n nv sv1 av kv → Calls Tryz.prog 40 #[.pointer (some ⟨X, 0, none⟩), .agg #[.string ⟨t.name.toArray⟩, .slice ai t.attrs.length ac, .string ⟨#[]⟩, .slice none 0 0, .int .i64 0]] w1 fun e w' => e = .returned (.int .i64 g.nodes.length) ∧ ∃ nv' av' kv', GRep A (Grow K w1 w') X w' (g.put (elemOf t)) nv' av' kv' sv1 (.bool n.rooted) ∧ Frame (fun k => k = X ∨ K k) w1 w' := fun w1 sv1 n q =>
    put_node q.rep h.wf h.kids (elemOf t) (.slice ai t.attrs.length ac) 0 (q.attr h ha haA) haA rfl hb
  have hfin : ∀ w1 w2 sv1 nv' av' kv', GQ A F K S X w (w.alloc (tokBox t (.slice ai t.attrs.length ac))).drew w1 g (Gr.nest { (g.put (elemOf t)) with stack := g.nodes.length :: g.stack }) nv sv1 av kv → GRep A (Grow K w1 w2) X w2 (g.put (elemOf t)) nv' av' kv' sv1 (.bool (Gr.nest { (g.put (elemOf t)) with stack := g.nodes.length :: g.stack }).rooted) → Frame (fun k => k = X ∨ K k) w1 w2 →
      Took A F X w (0, { (g.put (elemOf t)) with stack := g.nodes.length :: g.stack }) (.returned (.int .i64 0)) (w2.setCell ⟨X, 3, none⟩ (.int .i64 g.nodes.length)) := fun w1 w2 sv1 nv' av' kv' q r f => by
    have r3 := r.top (g.nodes.length :: g.stack) (g.nodes.length : Int) rfl
    have f3 : Frame (fun k => k = X ∨ K k) w1 (w2.setCell ⟨X, 3, none⟩ (.int .i64 g.nodes.length)) := f.trans' (frame_set1 w2 3 _)
    have hz2 : (w2.setCell ⟨X, 3, none⟩ (.int .i64 g.nodes.length)).heap.size = w2.heap.size := by simp [World.setCell]
    have r4 : GRep A (Grow K w1 (w2.setCell ⟨X, 3, none⟩ (.int .i64 g.nodes.length))) X (w2.setCell ⟨X, 3, none⟩ (.int .i64 g.nodes.length)) { (g.put (elemOf t)) with stack := g.nodes.length :: g.stack } nv' av' kv' sv1 _ :=
      q.rep.next (g' := { (g.put (elemOf t)) with stack := g.nodes.length :: g.stack }) f3 r3.nodes (fun k _ x => x.imp id fun y => ⟨y.1, by rw [hz2]; exact y.2⟩) r3.blk
    refine h.ends q r4 f3 (h.kids.put (elemOf t) rfl) hwf (fun e => ?_)
    have := put_some g (elemOf t)
    have e' : (g.put (elemOf t)).nodes = [] := e
    rw [e'] at this; cases this
  have hcell : ∀ w2 nv' av' kv' sv1 rv1 K2, GRep A K2 X w2 (g.put (elemOf t)) nv' av' kv' sv1 rv1 → (∃ v, w2.cell? ⟨X, 3, none⟩ = some v) ∧ w2.frozen? ⟨X, 3, none⟩ = false := fun w2 nv' av' kv' sv1 rv1 K2 r => ⟨⟨_, r.cell 3 rfl⟩, free_of r.blk⟩
  unfold tokV strV at hcall ⊢
  unfold tokBox at *
  have hk1 : (t.kind == 1) = true := by simpa using hk
  clear hk
  have HC := hide hcall
  have HF := hide hfin
  have HP := hide hput
  have HQ := hide hcell
  clear hcall hfin h0 h hput hcell hg hwf ha haA
  generalize Gr.nest { (g.put (elemOf t)) with stack := g.nodes.length :: g.stack } = nn at *
  go_enter Tryz.func23, Tryz.ntmps23
  go_wp2_with fail
  go_region_held3 (fun W => W.cell? ⟨w.heap.size, 0, none⟩ = some (.int .i64 t.kind) ∧ W.cell? ⟨w.heap.size, 1, none⟩ = some (.string ⟨t.name.toArray⟩) ∧ W.cell? ⟨w.heap.size, 2, none⟩ = some (.slice ai t.attrs.length ac) ∧ W.cell? ⟨w.heap.size, 3, none⟩ = some (.string ⟨t.text.toArray⟩) ∧ W.cell? ⟨w.heap.size, 4, none⟩ = some (.int .i64 t.at_))
    (first | exact ⟨b0, b1, b2, b3, b4⟩ | exact boxAt (t := t) hb1)
    (first | (go_at_call 39; refine HC.out.mono ?_; rintro e w1 ⟨rfl, sv1, gq, hb1⟩))
  all_goals
    have hp := HP.out _ _ _ gq
    have hb2 := boxAt (t := t) (va := .slice ai t.attrs.length ac) hb1
    obtain ⟨d0, d1, d2, d3, d4⟩ := hb2
    have GQ1 := hide gq
    clear gq b0 b1 b2 b3 b4 hb1
    go_wp2_with (go_at_call 40; refine hp.mono ?_; rintro e w2 ⟨rfl, nv', av', kv', r2, f2⟩; obtain ⟨⟨v3, c3⟩, f3⟩ := HQ.out _ _ _ _ _ _ _ r2; have R2 := hide r2; have F2 := hide f2; clear r2 f2)
    go_ret
    exact HF.out _ _ _ _ _ _ GQ1.out R2.out F2.out
end Go.Proofs.YtfolnkmbdmfigaaGreatDoor
