import Derived.Maps.AppendAt
import Derived.WalkKit
import Derived.WalkSpells
import Derived.OneCell
import Derived.Maps.OwnSet
import Derived.Maps.Views
import Derived.Maps.Keyed
import Derived.Test.YtbbocgeapofloaiGreatDoorAb
import Derived.Test.YtbbocgeapofloaiGreatDoorAa
import Derived.Test.YtbbocgeapofloaiGreatDoorAc
set_option linter.unusedVariables false
set_option linter.unusedSimpArgs false
namespace Go.Proofs.YtbbocgeapofloaiGreatDoor
open Go.RowKit

/-- A row of bytes of the reader's own, and where it lies behind an append. -/
def Apd (B : Nat) (v : Value) (n : Nat) (xs news : List Value) (w : World) (e : Ending) (w' : World) : Prop :=
  ∃ v', e = .returned v' ∧ w'.ownsRow B 5 1 v' (n + news.length) (xs ++ news) ∧ (∃ o, (w.alloc o).grownBy w' v.ownBlock) ∧ (v'.ownBlock = v.ownBlock ∨ v'.ownBlock = some (w.heap.size + 1))

set_option maxHeartbeats 4000000 in
set_option maxRecDepth 100000 in
theorem apd_ascii (B : Nat) (v : Value) (n : Nat) (xs : List Value) (r : Int) (h0 : 0 ≤ r) (h1 : r ≤ 127) (w : World) (hown : w.ownsRow B 5 1 v n xs) (hlen : n + 4 ≤ 140737488355328) (hBw : B ≤ w.heap.size) :
    Calls Tryz.prog 50 #[v, .int .i32 r] w (Apd B v n xs [.int .u8 (r)] w) := by
  obtain ⟨i0, hi, hz0, hz1, hz2⟩ := info_parts Tryz.Builder_Extra_242.infoByte
  go_enter Tryz.func50, Tryz.ntmps50
  go_wp2_with (at_builtin; refine wpList_append_own_at _ rfl _ _ 53 rfl B 5 i0 (.int .u8 0) 1 1 Tryz.underlying53 hi hz0 hz1 hz2 rfl (by decide) _ _ _ rfl (hown.alloc _) ⟨w.heap.size, 0, none⟩ 1 1 [.int .u8 (r)] rfl rfl ?c1 ?c2 ?c3 ?c4 ?c5 ?_)
  case c1 =>
    intro j u hj
    match j, hj with
    | 0, hj => simp at hj; subst hj; simp [Addr.add]
    | (j + 1), hj => simp at hj
  case c2 => intro u hu; simp at hu; subst hu; rfl
  case c3 => unfold maxLen; omega
  case c4 => omega
  case c5 => simp; omega
  intro v' w2 hown' hgrow _ hat
  go_wp2
  go_ret
  exact ⟨_, rfl, hown', ⟨_, hgrow⟩, by simpa using hat⟩

set_option maxHeartbeats 4000000 in
set_option maxRecDepth 100000 in
theorem apd_two (B : Nat) (v : Value) (n : Nat) (xs : List Value) (r : Int) (h0 : 128 ≤ r) (h1 : r ≤ 2047) (w : World) (hown : w.ownsRow B 5 1 v n xs) (hlen : n + 4 ≤ 140737488355328) (hBw : B ≤ w.heap.size) :
    Calls Tryz.prog 83 #[v, .int .i32 r] w (Apd B v n xs [.int .u8 (192 + r / 64), .int .u8 (128 + r % 64)] w) := by
  obtain ⟨i0, hi, hz0, hz1, hz2⟩ := info_parts Tryz.Builder_Extra_242.infoByte
  go_enter Tryz.func83, Tryz.ntmps83
  go_wp2_with (at_builtin; refine wpList_append_own_at _ rfl _ _ 53 rfl B 5 i0 (.int .u8 0) 1 1 Tryz.underlying53 hi hz0 hz1 hz2 rfl (by decide) _ _ _ rfl (hown.alloc _) ⟨w.heap.size, 0, none⟩ 2 2 [.int .u8 (192 + r / 64), .int .u8 (128 + r % 64)] rfl rfl ?c1 ?c2 ?c3 ?c4 ?c5 ?_)
  case c1 =>
    intro j u hj
    match j, hj with
    | 0, hj => simp at hj; subst hj; simp [Addr.add]
    | 1, hj => simp at hj; subst hj; simp [Addr.add]
    | (j + 2), hj => simp at hj
  case c2 => intro u hu; simp at hu; rcases hu with rfl | rfl <;> rfl
  case c3 => unfold maxLen; omega
  case c4 => omega
  case c5 => simp; omega
  intro v' w2 hown' hgrow _ hat
  go_wp2
  go_ret
  exact ⟨_, rfl, hown', ⟨_, hgrow⟩, by simpa using hat⟩

set_option maxHeartbeats 4000000 in
set_option maxRecDepth 100000 in
theorem apd_lo (B : Nat) (v : Value) (n : Nat) (xs : List Value) (r : Int) (h0 : 2048 ≤ r) (h1 : r < 55296) (w : World) (hown : w.ownsRow B 5 1 v n xs) (hlen : n + 4 ≤ 140737488355328) (hBw : B ≤ w.heap.size) :
    Calls Tryz.prog 83 #[v, .int .i32 r] w (Apd B v n xs [.int .u8 (224 + r / 4096), .int .u8 (128 + r / 64 % 64), .int .u8 (128 + r % 64)] w) := by
  obtain ⟨i0, hi, hz0, hz1, hz2⟩ := info_parts Tryz.Builder_Extra_242.infoByte
  go_enter Tryz.func83, Tryz.ntmps83
  go_wp2_with (at_builtin; refine wpList_append_own_at _ rfl _ _ 53 rfl B 5 i0 (.int .u8 0) 1 1 Tryz.underlying53 hi hz0 hz1 hz2 rfl (by decide) _ _ _ rfl (hown.alloc _) ⟨w.heap.size, 0, none⟩ 3 3 [.int .u8 (224 + r / 4096), .int .u8 (128 + r / 64 % 64), .int .u8 (128 + r % 64)] rfl rfl ?c1 ?c2 ?c3 ?c4 ?c5 ?_)
  case c1 =>
    intro j u hj
    match j, hj with
    | 0, hj => simp at hj; subst hj; simp [Addr.add]
    | 1, hj => simp at hj; subst hj; simp [Addr.add]
    | 2, hj => simp at hj; subst hj; simp [Addr.add]
    | (j + 3), hj => simp at hj
  case c2 => intro u hu; simp at hu; rcases hu with rfl | rfl | rfl <;> rfl
  case c3 => unfold maxLen; omega
  case c4 => omega
  case c5 => simp; omega
  intro v' w2 hown' hgrow _ hat
  go_wp2
  go_ret
  exact ⟨_, rfl, hown', ⟨_, hgrow⟩, by simpa using hat⟩

set_option maxHeartbeats 4000000 in
set_option maxRecDepth 100000 in
theorem apd_hi (B : Nat) (v : Value) (n : Nat) (xs : List Value) (r : Int) (h0 : 57343 < r) (h1 : r ≤ 65535) (w : World) (hown : w.ownsRow B 5 1 v n xs) (hlen : n + 4 ≤ 140737488355328) (hBw : B ≤ w.heap.size) :
    Calls Tryz.prog 83 #[v, .int .i32 r] w (Apd B v n xs [.int .u8 (224 + r / 4096), .int .u8 (128 + r / 64 % 64), .int .u8 (128 + r % 64)] w) := by
  obtain ⟨i0, hi, hz0, hz1, hz2⟩ := info_parts Tryz.Builder_Extra_242.infoByte
  go_enter Tryz.func83, Tryz.ntmps83
  go_wp2_with (at_builtin; refine wpList_append_own_at _ rfl _ _ 53 rfl B 5 i0 (.int .u8 0) 1 1 Tryz.underlying53 hi hz0 hz1 hz2 rfl (by decide) _ _ _ rfl (hown.alloc _) ⟨w.heap.size, 0, none⟩ 3 3 [.int .u8 (224 + r / 4096), .int .u8 (128 + r / 64 % 64), .int .u8 (128 + r % 64)] rfl rfl ?c1 ?c2 ?c3 ?c4 ?c5 ?_)
  case c1 =>
    intro j u hj
    match j, hj with
    | 0, hj => simp at hj; subst hj; simp [Addr.add]
    | 1, hj => simp at hj; subst hj; simp [Addr.add]
    | 2, hj => simp at hj; subst hj; simp [Addr.add]
    | (j + 3), hj => simp at hj
  case c2 => intro u hu; simp at hu; rcases hu with rfl | rfl | rfl <;> rfl
  case c3 => unfold maxLen; omega
  case c4 => omega
  case c5 => simp; omega
  intro v' w2 hown' hgrow _ hat
  go_wp2
  go_ret
  exact ⟨_, rfl, hown', ⟨_, hgrow⟩, by simpa using hat⟩

set_option maxHeartbeats 4000000 in
set_option maxRecDepth 100000 in
theorem apd_four (B : Nat) (v : Value) (n : Nat) (xs : List Value) (r : Int) (h0 : 65536 ≤ r) (h1 : r ≤ 1114111) (w : World) (hown : w.ownsRow B 5 1 v n xs) (hlen : n + 4 ≤ 140737488355328) (hBw : B ≤ w.heap.size) :
    Calls Tryz.prog 83 #[v, .int .i32 r] w (Apd B v n xs [.int .u8 (240 + r / 262144), .int .u8 (128 + r / 4096 % 64), .int .u8 (128 + r / 64 % 64), .int .u8 (128 + r % 64)] w) := by
  obtain ⟨i0, hi, hz0, hz1, hz2⟩ := info_parts Tryz.Builder_Extra_242.infoByte
  go_enter Tryz.func83, Tryz.ntmps83
  go_wp2_with (at_builtin; refine wpList_append_own_at _ rfl _ _ 53 rfl B 5 i0 (.int .u8 0) 1 1 Tryz.underlying53 hi hz0 hz1 hz2 rfl (by decide) _ _ _ rfl (hown.alloc _) ⟨w.heap.size, 0, none⟩ 4 4 [.int .u8 (240 + r / 262144), .int .u8 (128 + r / 4096 % 64), .int .u8 (128 + r / 64 % 64), .int .u8 (128 + r % 64)] rfl rfl ?c1 ?c2 ?c3 ?c4 ?c5 ?_)
  case c1 =>
    intro j u hj
    match j, hj with
    | 0, hj => simp at hj; subst hj; simp [Addr.add]
    | 1, hj => simp at hj; subst hj; simp [Addr.add]
    | 2, hj => simp at hj; subst hj; simp [Addr.add]
    | 3, hj => simp at hj; subst hj; simp [Addr.add]
    | (j + 4), hj => simp at hj
  case c2 => intro u hu; simp at hu; rcases hu with rfl | rfl | rfl | rfl <;> rfl
  case c3 => unfold maxLen; omega
  case c4 => omega
  case c5 => simp; omega
  intro v' w2 hown' hgrow _ hat
  go_wp2
  go_ret
  exact ⟨_, rfl, hown', ⟨_, hgrow⟩, by simpa using hat⟩

/-- The numbers that are characters' (no surrogates). -/
def Scalar (r : Int) : Prop := (0 ≤ r ∧ r < 55296) ∨ (57343 < r ∧ r ≤ 1114111)

theorem apd_non (B : Nat) (v : Value) (n : Nat) (xs : List Value) (r : Int) (hr : Scalar r) (h0 : 128 ≤ r) (w : World) (hown : w.ownsRow B 5 1 v n xs) (hlen : n + 4 ≤ 140737488355328) (hBw : B ≤ w.heap.size) :
    Calls Tryz.prog 83 #[v, .int .i32 r] w (Apd B v n xs (Lib.runeCells r) w) := by
  unfold Scalar at hr
  by_cases c1 : r ≤ 2047
  · rw [show Lib.runeCells r = [.int .u8 (192 + r / 64), .int .u8 (128 + r % 64)] by simp [Lib.runeCells, Lib.encodeRuneZ_two (by omega) c1]]
    exact apd_two B v n xs r (by omega) c1 w hown hlen hBw
  by_cases c2 : r < 55296
  · rw [show Lib.runeCells r = [.int .u8 (224 + r / 4096), .int .u8 (128 + r / 64 % 64), .int .u8 (128 + r % 64)] by simp [Lib.runeCells, Lib.encodeRuneZ_three (Or.inl ⟨by omega, c2⟩)]]
    exact apd_lo B v n xs r (by omega) c2 w hown hlen hBw
  by_cases c4 : r ≤ 65535
  · rw [show Lib.runeCells r = [.int .u8 (224 + r / 4096), .int .u8 (128 + r / 64 % 64), .int .u8 (128 + r % 64)] by simp [Lib.runeCells, Lib.encodeRuneZ_three (Or.inr ⟨by omega, c4⟩)]]
    exact apd_hi B v n xs r (by omega) c4 w hown hlen hBw
  · rw [show Lib.runeCells r = [.int .u8 (240 + r / 262144), .int .u8 (128 + r / 4096 % 64), .int .u8 (128 + r / 64 % 64), .int .u8 (128 + r % 64)] by simp [Lib.runeCells, Lib.encodeRuneZ_four (show 65536 ≤ r by omega) (show r ≤ 1114111 by omega)]]
    exact apd_four B v n xs r (by omega) (by omega) w hown hlen hBw

set_option maxHeartbeats 4000000 in
set_option maxRecDepth 100000 in
theorem appendRune_at (B : Nat) (v : Value) (n : Nat) (xs : List Value) (r : Int) (hr : Scalar r) (w : World) (hown : w.ownsRow B 5 1 v n xs) (hlen : n + 4 ≤ 140737488355328) (hBw : B ≤ w.heap.size) :
    Calls Tryz.prog 50 #[v, .int .i32 r] w (Apd B v n xs (Lib.runeCells r) w) := by
  by_cases c : r ≤ 127
  · have h0 : 0 ≤ r := by unfold Scalar at hr; omega
    rw [show Lib.runeCells r = [.int .u8 r] by simp [Lib.runeCells, Lib.encodeRuneZ_one h0 c]]
    exact apd_ascii B v n xs r h0 c w hown hlen hBw
  · have hc := apd_non B v n xs r hr (by omega) w hown hlen hBw
    have h1 : 128 ≤ r := by omega
    have h2 : r ≤ 1114111 := by unfold Scalar at hr; omega
    generalize Lib.runeCells r = news at *
    clear hr c
    go_enter Tryz.func50, Tryz.ntmps50
    go_wp2_with (go_at_call 83; refine hc.mono ?_)
    rintro e w1 ⟨v', rfl, h1, h2, h3⟩
    go_wp2
    go_ret
    exact ⟨_, rfl, h1, h2, h3⟩
end Go.Proofs.YtbbocgeapofloaiGreatDoor
namespace Go.Proofs.YtbbocgeapofloaiGreatDoor
open Go.RowKit

/-- All blocks of w but R and 'row' stand in w' as they stood. -/
structure Kept (R : Nat) (row : Option Nat) (w w' : World) : Prop where
  os : w'.os = w.os
  tape : w'.tape = w.tape
  output : w'.output = w.output
  size : w.heap.size ≤ w'.heap.size
  block : ∀ k, k < w.heap.size → k ≠ R → some k ≠ row → w'.heap[k]? = w.heap[k]?

theorem cell_of {w : World} {R i : Nat} {cs : Array Value} {t : TypeId} {v : Value} (h : w.heap[R]? = some (.cells cs t (0, 0))) (hi : cs[i]? = some v) : w.cell? ⟨R, i, none⟩ = some v := by
  simp [World.cell?, h, hi]
theorem free_of {w : World} {R i : Nat} {cs : Array Value} {t : TypeId} (h : w.heap[R]? = some (.cells cs t (0, 0))) : w.frozen? ⟨R, i, none⟩ = false := by
  simp [World.frozen?, h]
theorem set_of {w : World} {R i : Nat} {cs : Array Value} {t : TypeId} (h : w.heap[R]? = some (.cells cs t (0, 0))) (v : Value) : (w.setCell ⟨R, i, none⟩ v).heap[R]? = some (.cells (cs.setIfInBounds i v) t (0, 0)) := by
  rw [setCell_eq_setRow w R i cs t (0, 0) v h]
  exact setRow_heap w R cs _ t _ h

theorem owns_setCell {w : World} {B : Nat} {v : Value} {n : Nat} {xs : List Value} (h : w.ownsRow B 5 1 v n xs) (a : Addr) (u : Value) (hne : v.ownBlock ≠ some a.block) : (w.setCell a u).ownsRow B 5 1 v n xs := by
  refine h.kept (row := some a.block) ⟨rfl, rfl, rfl, by simp [World.setCell], fun k _ hk => Below.heap_setCell _ _ _ _ (fun e => hk (by rw [e]))⟩ ?_
  exact Or.inr hne

theorem owns_ne {w : World} {B : Nat} {v : Value} {n : Nat} {xs : List Value} (h : w.ownsRow B 5 1 v n xs) {R : Nat} {cs : Array Value} {t : TypeId} (hb : w.heap[R]? = some (.cells cs t (0, 0))) (ht : t ≠ 5) : v.ownBlock ≠ some R := by
  intro he
  rcases h.2 with ⟨rfl, _⟩ | ⟨g, cap, cur, rfl, _, hg, _⟩
  · simp [Value.ownBlock] at he
  · simp [Value.ownBlock] at he
    subst he
    rw [hb] at hg
    simp only [Option.some.injEq, Obj.cells.injEq] at hg
    exact ht hg.2.1

theorem slice_len {w : World} {B : Nat} {e : TypeId} {s : Nat} {v : Value} {n : Nat} {xs : List Value} (h : w.ownsRow B e s v n xs) : ∃ ao cap, v = .slice ao n cap := by
  rcases h.2 with ⟨rfl, rfl⟩ | ⟨g, cap, cur, rfl, _⟩
  · exact ⟨_, _, rfl⟩
  · exact ⟨_, _, rfl⟩

/-- What 'put' leaves. -/
def PutEnd (R i B : Nat) (cs : Array Value) (t : TypeId) (v : Value) (n : Nat) (xs news : List Value) (a p : Int) (w : World) (e : Ending) (w' : World) : Prop :=
  e = .returned (.tuple #[]) ∧ ∃ v', w'.ownsRow B 5 1 v' (n + news.length) (xs ++ news) ∧
    w'.heap[R]? = some (.cells ((cs.setIfInBounds (i + 1) (.int .i64 (if n = 0 then p else a))).setIfInBounds i v') t (0, 0)) ∧
    Kept R v.ownBlock w w' ∧ (v'.ownBlock = v.ownBlock ∨ ∃ k, v'.ownBlock = some k ∧ w.heap.size ≤ k)

theorem put_close {R i B : Nat} {cs cs2 : Array Value} {t : TypeId} {v v' : Value} {n : Nat} {xs news : List Value} {a p : Int} {w w0 w1 : World}
    (hcs : cs2 = cs.setIfInBounds (i + 1) (.int .i64 (if n = 0 then p else a)))
    (hb : w0.heap[R]? = some (.cells cs2 t (0, 0))) (ht : t ≠ 5) (hk : Kept R v.ownBlock w w0) (hv : v.ownBlock ≠ some R) (hsz : w0.heap.size = w.heap.size)
    (ho : w1.ownsRow B 5 1 v' (n + news.length) (xs ++ news)) (hg : ∃ o, (w0.alloc o).grownBy w1 v.ownBlock) (hat : v'.ownBlock = v.ownBlock ∨ v'.ownBlock = some (w0.heap.size + 1)) :
    w1.heap[R]? = some (.cells cs2 t (0, 0)) ∧ PutEnd R i B cs t v n xs news a p w (.returned (.tuple #[])) (w1.setCell ⟨R, i, none⟩ v') := by
  obtain ⟨o, hg⟩ := hg
  have hR : R < w0.heap.size := (Array.getElem?_eq_some_iff.1 hb).1
  have hb1 : w1.heap[R]? = some (.cells cs2 t (0, 0)) := by
    rw [hg.block R (by simp; omega) (fun e => hv e.symm), Below.heap_alloc _ _ _ hR]
    exact hb
  refine ⟨hb1, rfl, v', owns_setCell ho _ _ (owns_ne ho hb1 ht), ?_, ?_, ?_⟩
  · rw [← hcs]; exact set_of hb1 _
  · have hs1 : w0.heap.size ≤ w1.heap.size := by have := hg.size; simp at this; omega
    refine ⟨hg.os.trans hk.os, hg.tape.trans hk.tape, hg.output.trans hk.output, ?_, ?_⟩
    · simp [World.setCell]; omega
    · intro k h1 h2 h3
      rw [Below.heap_setCell _ _ _ _ h2, hg.block k (by simp; omega) h3, Below.heap_alloc _ _ _ (by omega)]
      exact hk.block k h1 h2 h3
  · rcases hat with h | h
    · exact Or.inl h
    · exact Or.inr ⟨_, h, by omega⟩

set_option maxHeartbeats 1000000 in
theorem put_first (R i B : Nat) (cs : Array Value) (t : TypeId) (v : Value) (xs : List Value) (a p c : Int) (w : World)
    (hb : w.heap[R]? = some (.cells cs t (0, 0))) (ht : t ≠ 5) (h0 : cs[i]? = some v) (h1 : cs[i + 1]? = some (.int .i64 a)) (hown : w.ownsRow B 5 1 v 0 xs) (hc : Scalar c) (hBw : B ≤ w.heap.size) :
    Calls Tryz.prog 26 #[.pointer (some ⟨R, i, none⟩), .int .i32 c, .int .i64 p] w (PutEnd R i B cs t v 0 xs (Lib.runeCells c) a p w) := by
  obtain ⟨ao, cap, rfl⟩ := slice_len hown
  have c0 := cell_of hb h0
  have c1 := cell_of hb h1
  have f1 := free_of (i := i + 1) hb
  have hne := owns_ne hown hb ht
  have hb0 := set_of (i := i + 1) hb (.int .i64 p)
  have c2 := cell_of (i := i) (v := .slice ao 0 cap) hb0 (by rw [Array.getElem?_setIfInBounds_ne (by omega)]; exact h0)
  have hap := appendRune_at B _ 0 xs c hc (w.setCell ⟨R, i + 1, none⟩ (.int .i64 p)) (owns_setCell hown _ _ hne) (by omega) (by simpa [World.setCell] using hBw)
  have hk : Kept R (Value.ownBlock (.slice ao 0 cap)) w (w.setCell ⟨R, i + 1, none⟩ (.int .i64 p)) := ⟨rfl, rfl, rfl, by simp [World.setCell], fun k _ h2 _ => Below.heap_setCell _ _ _ _ h2⟩
  generalize Lib.runeCells c = news at *
  have H0 := hide h0
  clear hb h0 h1 hown hc hBw
  go_enter Tryz.func26, Tryz.ntmps26
  go_wp2_with (go_at_call 50; refine hap.mono ?_)
  rintro e w1 ⟨v', rfl, ho, hg, hat⟩
  obtain ⟨hb1, hfin⟩ := put_close (cs := cs) (a := a) (p := p) (i := i) (by simp) hb0 ht hk hne (by simp [World.setCell]) ho hg hat
  obtain ⟨ao', cap', rfl⟩ := slice_len ho
  have c3 := cell_of (i := i) (v := .slice ao 0 cap) hb1 (by rw [Array.getElem?_setIfInBounds_ne (by omega)]; exact H0.out)
  have f3 := free_of (i := i) hb1
  clear hap hk hne hb0 hb1 ho hg hat
  go_wp2
  go_end0
  rw [Nat.zero_add] at hfin
  exact hfin

set_option maxHeartbeats 1000000 in
theorem put_more (R i B : Nat) (cs : Array Value) (t : TypeId) (v : Value) (n : Nat) (xs : List Value) (a p c : Int) (w : World)
    (hb : w.heap[R]? = some (.cells cs t (0, 0))) (ht : t ≠ 5) (h0 : cs[i]? = some v) (h1 : cs[i + 1]? = some (.int .i64 a)) (hown : w.ownsRow B 5 1 v n xs) (hc : Scalar c) (hBw : B ≤ w.heap.size) (hn : 0 < n) (hn2 : n + 4 ≤ 140737488355328) :
    Calls Tryz.prog 26 #[.pointer (some ⟨R, i, none⟩), .int .i32 c, .int .i64 p] w (PutEnd R i B cs t v n xs (Lib.runeCells c) a p w) := by
  obtain ⟨ao, cap, rfl⟩ := slice_len hown
  have c0 := cell_of hb h0
  have hne := owns_ne hown hb ht
  have hap := appendRune_at B _ n xs c hc w hown hn2 hBw
  have hk : Kept R (Value.ownBlock (.slice ao n cap)) w w := ⟨rfl, rfl, rfl, Nat.le_refl _, fun k _ h2 _ => rfl⟩
  have hcs : cs = cs.setIfInBounds (i + 1) (.int .i64 (if n = 0 then p else a)) := by
    rw [if_neg (by omega)]
    apply Array.ext_getElem?
    intro j
    rw [Array.getElem?_setIfInBounds]
    split
    · rename_i hj
      subst hj
      obtain ⟨hl, he⟩ := Array.getElem?_eq_some_iff.1 h1
      rw [if_pos hl]; exact h1
    · rfl
  have HCS := hide hcs
  clear hcs
  generalize Lib.runeCells c = news at *
  have HB := hide hb
  have H0 := hide h0
  clear hb h0 h1 hown hc hBw hn2
  have hz : ((n : Int) == 0) = false := by
    have : (n : Int) ≠ 0 := by omega
    simpa using this
  go_enter Tryz.func26, Tryz.ntmps26
  go_wp2_with (go_at_call 50; refine hap.mono ?_)
  rintro e w1 ⟨v', rfl, ho, hg, hat⟩
  obtain ⟨hb1, hfin⟩ := put_close (cs := cs) (a := a) (p := p) (i := i) HCS.out HB.out ht hk hne rfl ho hg hat
  obtain ⟨ao', cap', rfl⟩ := slice_len ho
  have c3 := cell_of (i := i) (v := .slice ao n cap) hb1 H0.out
  have f3 := free_of (i := i) hb1
  clear hap hk hne hb1 ho hg hat
  go_wp2
  go_end0
  exact hfin

theorem put_any (R i B : Nat) (cs : Array Value) (t : TypeId) (v : Value) (n : Nat) (xs : List Value) (a p c : Int) (w : World)
    (hb : w.heap[R]? = some (.cells cs t (0, 0))) (ht : t ≠ 5) (h0 : cs[i]? = some v) (h1 : cs[i + 1]? = some (.int .i64 a)) (hown : w.ownsRow B 5 1 v n xs) (hc : Scalar c) (hBw : B ≤ w.heap.size) (hn2 : n + 4 ≤ 140737488355328) :
    Calls Tryz.prog 26 #[.pointer (some ⟨R, i, none⟩), .int .i32 c, .int .i64 p] w (PutEnd R i B cs t v n xs (Lib.runeCells c) a p w) := by
  rcases Nat.eq_zero_or_pos n with rfl | hn
  · exact put_first R i B cs t v xs a p c w hb ht h0 h1 hown hc hBw
  · exact put_more R i B cs t v n xs a p c w hb ht h0 h1 hown hc hBw hn hn2
end Go.Proofs.YtbbocgeapofloaiGreatDoor
namespace Go.Proofs.YtbbocgeapofloaiGreatDoor
open Go.RowKit

/-- What is handed on: a character that may be, or -1: the text has ended, or -2: no character begins here. -/
def Leg (c : Int) : Prop := Ch.may c = true ∨ c = -1 ∨ c = -2

theorem Leg.lo {c : Int} (h : Leg c) : -2 ≤ c ∧ c ≤ 1114111 := by
  rcases h with h | h | h
  · have := (Ch.may_iff c).1 h; omega
  · omega
  · omega

theorem begins_neg {c : Int} (h : c < 0) : Ch.begins c = false := by
  cases e : Ch.begins c
  · rfl
  · have := (Ch.begins_iff c).1 e; omega
theorem goes_neg {c : Int} (h : c < 0) : Ch.goesOn c = false := by
  cases e : Ch.goesOn c
  · rfl
  · have := (Ch.goesOn_iff c).1 e; omega

theorem enc_le (c : Int) : (Lib.encodeRune c).length ≤ 4 := Ch.encode_le c

theorem dec_lt {n : Nat} {b : Bool} (h : 0 < n ↔ b = true) : (decide (0 < n)) = b := by
  cases b
  · have : ¬ 0 < n := fun x => by simp at h; omega
    simp; omega
  · have := h.2 rfl
    simp; omega
theorem dec_lt1 {n : Nat} {b : Bool} (h : 1 < n ↔ b = true) : (decide (1 < (n : Int))) = b := by
  cases b
  · have : ¬ 1 < n := fun x => by simp at h; omega
    simp; omega
  · have := h.2 rfl
    simp; omega

set_option maxHeartbeats 1000000 in
theorem beginsName_tok (c : Int) (h : Leg c) (w : World) :
    Calls Tryz.prog 68 #[.int .i32 c] w fun e w' => e = .returned (.bool (Ch.begins c)) ∧ Below w.heap.size w w' := by
  by_cases hc : c < 0
  · rw [begins_neg hc]
    go_enter Tryz.func68, Tryz.ntmps68
    go_wp2
    go_ret
    exact ⟨rfl, Below.refl _ _⟩
  · have hm : Ch.may c = true := by rcases h with h | h | h <;> first | exact h | omega
    have hn := nameC_any (Utf8.encode c) w (by rw [Ch.encode_eq (Ch.valid_of_may hm), Ch.txt_size]; have := enc_le c; omega)
    have hb : (decide (0 < Ch.name (Utf8.encode c))) = Ch.begins c := by
      rw [Ch.encode_eq (Ch.valid_of_may hm)]; exact dec_lt (Ch.name_begins hm)
    have HB := hide hb
    clear hb h hm
    go_enter Tryz.func68, Tryz.ntmps68
    go_wp2_with (go_at_call 78; refine hn.mono ?_; rintro e w1 ⟨rfl, b1⟩)
    go_ret
    rw [HB.out]
    exact ⟨rfl, b1⟩

set_option maxHeartbeats 1000000 in
theorem goesOnInName_tok (c : Int) (h : Leg c) (w : World) :
    Calls Tryz.prog 48 #[.int .i32 c] w fun e w' => e = .returned (.bool (Ch.begins c || Ch.goesOn c)) ∧ Below w.heap.size w w' := by
  by_cases hc : c < 0
  · rw [begins_neg hc, goes_neg hc]
    go_enter Tryz.func48, Tryz.ntmps48
    go_wp2
    go_ret
    exact ⟨rfl, Below.refl _ _⟩
  · have hm : Ch.may c = true := by rcases h with h | h | h <;> first | exact h | omega
    have he : (⟨#[95]⟩ ++ Utf8.encode c : ByteArray) = Ch.txt (95 :: Lib.encodeRune c) := by
      rw [Ch.encode_eq (Ch.valid_of_may hm)]
      apply ByteArray.ext
      simp [Ch.txt]
    have hn := nameC_any (⟨#[95]⟩ ++ Utf8.encode c) w (by rw [he, Ch.txt_size]; have := enc_le c; simp; omega)
    have hb : (decide (1 < ((Ch.name (⟨#[95]⟩ ++ Utf8.encode c) : Nat) : Int))) = (Ch.begins c || Ch.goesOn c) := by
      rw [he]; exact dec_lt1 (Ch.name_goes hm)
    have hz : (Utf8.encode c).size ≤ 4 := by rw [Ch.encode_eq (Ch.valid_of_may hm), Ch.txt_size]; exact enc_le c
    have HB := hide hb
    clear hb h hm he
    go_enter Tryz.func48, Tryz.ntmps48
    go_wp2_with (go_at_call 78; refine hn.mono ?_; rintro e w1 ⟨rfl, b1⟩)
    go_ret
    rw [HB.out]
    exact ⟨rfl, b1⟩

def Tk.blank (c : Int) : Bool := c == 32 || c == 9 || c == 10 || c == 13

set_option maxHeartbeats 1000000 in
theorem blank_tok (c : Int) (w : World) :
    Calls Tryz.prog 69 #[.int .i32 c] w fun e w' => e = .returned (.bool (Tk.blank c)) ∧ w' = w := by
  cases h1 : (c == 32) <;> cases h2 : (c == 9) <;> cases h3 : (c == 10) <;> cases h4 : (c == 13)
  all_goals
    unfold Tk.blank
    rw [h1, h2, h3, h4]
    simp only [Bool.or_false, Bool.or_true, Bool.false_or, Bool.true_or]
    go_enter Tryz.func69, Tryz.ntmps69
    go_wp2
    go_ret
    exact ⟨rfl, rfl⟩

/-- What refuse answers. -/
def wrongV (no p : Int) : Value := .iface 60 (.agg #[.int .i64 no, .int .i64 p])
def Tk.why (c : Int) : Int := if c = -2 then 2 else 3

set_option maxHeartbeats 1000000 in
theorem refuse_tok (R : Nat) (c p : Int) (w : World) (hp : w.cell? ⟨R, 2, none⟩ = some (.int .i64 p)) :
    Calls Tryz.prog 25 #[.pointer (some ⟨R, 0, none⟩), .int .i32 c] w fun e w' => e = .returned (wrongV (Tk.why c) p) ∧ w' = w := by
  by_cases hc : c = -2
  · subst hc
    go_enter Tryz.func25, Tryz.ntmps25
    go_wp2
    go_ret
    exact ⟨rfl, rfl⟩
  · have e : Tk.why c = 3 := by simp [Tk.why, hc]
    rw [e]
    have h2 : (c == -2) = false := by simpa using hc
    clear e hc
    go_enter Tryz.func25, Tryz.ntmps25
    go_wp2
    go_ret
    exact ⟨rfl, rfl⟩
end Go.Proofs.YtbbocgeapofloaiGreatDoor
namespace Go.Proofs.YtbbocgeapofloaiGreatDoor
open Go.RowKit Go.Maps

/-! The reader in memory. R: its block. F: the blocks that are its own. -/

inductive Rn | text | name | attr | value | ref
deriving DecidableEq

def Rn.off : Rn → Nat
  | .text => 6 | .name => 9 | .attr => 13 | .value => 15 | .ref => 18

structure Tok where
  kind : Int
  name : List UInt8
  attrs : List (List UInt8 × List UInt8)
  text : List UInt8
  at_ : Int

/-- What has been read of tokens that are not told yet, and what is told and not answered. -/
structure St where
  run : Rn → List UInt8
  runAt : Rn → Int
  tagAt : Int
  attrs : List (List UInt8 × List UInt8)
  names : List (List UInt8)
  quote : Int
  told : List Tok

/-- What the parts do not touch. -/
structure Src where
  rest : ByteArray
  next : Int
  at_ : Int
  ended : Bool
  now : Value
  no : Int
  fat : Int
  closed : Bool

structure Ptr where
  told : Value
  run : Rn → Value
  attrs : Value
  names : Value

def cellsOf (s : Src) (p : Ptr) (st : St) : Array Value :=
  #[.string s.rest, .int .i64 s.next, .int .i64 s.at_, .bool s.ended, s.now, p.told, p.run .text, .int .i64 (st.runAt .text), .int .i64 st.tagAt, p.run .name, .int .i64 (st.runAt .name), p.attrs, p.names, p.run .attr, .int .i64 (st.runAt .attr), p.run .value, .int .i64 (st.runAt .value), .int .i32 st.quote, p.run .ref, .int .i64 (st.runAt .ref), .int .i64 s.no, .int .i64 s.fat, .bool s.closed]

def strV (l : List UInt8) : Value := .string ⟨l.toArray⟩
def attrCells (l : List (List UInt8 × List UInt8)) : List Value := l.flatMap fun a => [strV a.1, strV a.2]
def tokCells (t : Tok) (v : Value) : List Value := [.int .i64 t.kind, strV t.name, v, strV t.text, .int .i64 t.at_]

/-- Tokens in memory; the attributes of none of them lie where 'av' lies. -/
inductive Toks (F : Nat → Prop) (R : Nat) (w : World) (av : Value) : List Tok → List Value → Prop
  | nil : Toks F R w av [] []
  | cons (t : Tok) (v : Value) (l : List Tok) (cs : List Value) (ho : w.ownsRow 0 48 2 v t.attrs.length (attrCells t.attrs)) (hf : ∀ k, v.ownBlock = some k → F k ∧ k ≠ R ∧ av.ownBlock ≠ some k) (hl : Toks F R w av l cs) : Toks F R w av (t :: l) (tokCells t v ++ cs)

def namesD (l : List (List UInt8)) : DataW Unit := setOf (.agg []) (l.map Lit.string)

def Names (F : Nat → Prop) (R : Nat) (w : World) (v : Value) (l : List (List UInt8)) : Prop :=
  (v = .map none ∧ l = []) ∨ ∃ b, v = .map (some b) ∧ F b ∧ b ≠ R ∧ w.ownsMap Tryz.prog 9 unitElem b l.length (namesD l)

structure Own (F : Nat → Prop) (R : Nat) (w : World) (p : Ptr) (st : St) : Prop where
  run : ∀ i, w.ownsRow 0 5 1 (p.run i) (st.run i).length (Lib.byteCells (st.run i))
  runF : ∀ i k, (p.run i).ownBlock = some k → F k ∧ k ≠ R
  apart : ∀ i j k, i ≠ j → (p.run i).ownBlock = some k → (p.run j).ownBlock ≠ some k
  told : ∃ cs, w.ownsRow 0 33 5 p.told st.told.length cs ∧ Toks F R w p.attrs st.told cs
  toldF : ∀ k, p.told.ownBlock = some k → F k ∧ k ≠ R
  attrs : w.ownsRow 0 48 2 p.attrs st.attrs.length (attrCells st.attrs)
  attrsF : ∀ k, p.attrs.ownBlock = some k → F k ∧ k ≠ R
  names : Names F R w p.names st.names

structure Rep (F : Nat → Prop) (R : Nat) (w : World) (s : Src) (p : Ptr) (st : St) : Prop where
  blk : w.heap[R]? = some (.cells (cellsOf s p st) 62 (0, 0))
  inR : F R
  lt : ∀ k, F k → k < w.heap.size
  own : Own F R w p st

/-- The blocks of F, and those that are new. -/
def Grow (F : Nat → Prop) (w w' : World) (k : Nat) : Prop := F k ∨ (w.heap.size ≤ k ∧ k < w'.heap.size)

/-- What a step of the reader leaves of the world: all but F's blocks. -/
structure Frame (F : Nat → Prop) (w w' : World) : Prop where
  os : w'.os = w.os
  tape : w'.tape = w.tape
  output : w'.output = w.output
  size : w.heap.size ≤ w'.heap.size
  block : ∀ k, k < w.heap.size → ¬ F k → w'.heap[k]? = w.heap[k]?

theorem Frame.refl (F : Nat → Prop) (w : World) : Frame F w w := ⟨rfl, rfl, rfl, Nat.le_refl _, fun _ _ _ => rfl⟩
theorem Frame.trans {F : Nat → Prop} {a b c : World} (h : Frame F a b) (k : Frame (Grow F a b) b c) : Frame F a c :=
  ⟨k.os.trans h.os, k.tape.trans h.tape, k.output.trans h.output, Nat.le_trans h.size k.size, fun i hi hf =>
    (k.block i (Nat.lt_of_lt_of_le hi h.size) (fun e => e.elim hf (fun x => by omega))).trans (h.block i hi hf)⟩
theorem Frame.same {F : Nat → Prop} {a b c : World} (h : Frame F a b) (k : Frame F b c) : Frame F a c :=
  ⟨k.os.trans h.os, k.tape.trans h.tape, k.output.trans h.output, Nat.le_trans h.size k.size, fun i hi hf =>
    (k.block i (Nat.lt_of_lt_of_le hi h.size) hf).trans (h.block i hi hf)⟩
theorem Grow.trans {F : Nat → Prop} {a b c : World} (h1 : a.heap.size ≤ b.heap.size) (h2 : b.heap.size ≤ c.heap.size) (k : Nat) : Grow (Grow F a b) b c k ↔ Grow F a c k := by
  unfold Grow; constructor
  · rintro ((h | h) | h)
    · exact Or.inl h
    · exact Or.inr (by omega)
    · exact Or.inr (by omega)
  · rintro (h | h)
    · exact Or.inl (Or.inl h)
    · by_cases hk : k < b.heap.size
      · exact Or.inl (Or.inr (by omega))
      · exact Or.inr (by omega)

theorem owns_of {w w' : World} {e : TypeId} {s : Nat} {v : Value} {n : Nat} {xs : List Value} (h : w.ownsRow 0 e s v n xs) (hk : ∀ k, v.ownBlock = some k → w'.heap[k]? = w.heap[k]?) : w'.ownsRow 0 e s v n xs := by
  refine ⟨h.1, ?_⟩
  rcases h.2 with hn | ⟨g, cap, cur, rfl, hb, hg, rest⟩
  · exact Or.inl hn
  · exact Or.inr ⟨g, cap, cur, rfl, hb, by rw [hk g rfl]; exact hg, rest⟩

theorem owns_blk {w : World} {e : TypeId} {s : Nat} {v : Value} {n : Nat} {xs : List Value} (h : w.ownsRow 0 e s v n xs) {k : Nat} (hk : v.ownBlock = some k) : ∃ cur, w.heap[k]? = some (.cells cur e (0, 0)) := by
  rcases h.2 with ⟨rfl, _⟩ | ⟨g, cap, cur, rfl, hb, hg, rest⟩
  · simp [Value.ownBlock] at hk
  · simp [Value.ownBlock] at hk
    subst hk
    exact ⟨cur, hg⟩

theorem tag_ne {w : World} {e e' : TypeId} {s s' : Nat} {v v' : Value} {n n' : Nat} {xs xs' : List Value} (h : w.ownsRow 0 e s v n xs) (h' : w.ownsRow 0 e' s' v' n' xs') (hne : e ≠ e') {k : Nat} (hk : v.ownBlock = some k) : v'.ownBlock ≠ some k := by
  intro hk'
  obtain ⟨c, hc⟩ := owns_blk h hk
  obtain ⟨c', hc'⟩ := owns_blk h' hk'
  rw [hc] at hc'
  simp only [Option.some.injEq, Obj.cells.injEq] at hc'
  exact hne hc'.2.1

theorem map_ne {w : World} {e : TypeId} {s : Nat} {v : Value} {n : Nat} {xs : List Value} {b m : Nat} {D : DataW Unit} (h : w.ownsRow 0 e s v n xs) (hm : w.ownsMap Tryz.prog 9 unitElem b m D) : v.ownBlock ≠ some b := by
  intro hk
  obtain ⟨c, hc⟩ := owns_blk h hk
  obtain ⟨es, cl, hb, _⟩ := hm
  rw [hc] at hb
  cases hb

theorem map_of {w w' : World} {b m : Nat} {D : DataW Unit} (hm : w.ownsMap Tryz.prog 9 unitElem b m D) (hk : w'.heap[b]? = w.heap[b]?) : w'.ownsMap Tryz.prog 9 unitElem b m D := by
  obtain ⟨es, cl, hb, h⟩ := hm
  exact ⟨es, cl, hk.trans hb, h⟩

theorem Toks.frame {F F' : Nat → Prop} {R : Nat} {w w' : World} {av av' : Value} {l : List Tok} {cs : List Value} (h : Toks F R w av l cs)
    (hk : ∀ k n xs v, w.ownsRow 0 48 2 v n xs → v.ownBlock = some k → F k → k ≠ R → av.ownBlock ≠ some k → w'.heap[k]? = w.heap[k]? ∧ F' k ∧ av'.ownBlock ≠ some k) : Toks F' R w' av' l cs := by
  induction h with
  | nil => exact .nil
  | cons t v l cs ho hf hl ih =>
    refine .cons t v l cs (owns_of ho fun k hv => (hk k _ _ v ho hv (hf k hv).1 (hf k hv).2.1 (hf k hv).2.2).1) ?_ ih
    intro k hv
    obtain ⟨a, b, c⟩ := hf k hv
    obtain ⟨d, e, f⟩ := hk k _ _ v ho hv a b c
    exact ⟨e, b, f⟩

theorem Toks.app {F : Nat → Prop} {R : Nat} {w : World} {av : Value} {l l' : List Tok} {cs cs' : List Value} (h : Toks F R w av l cs) (h' : Toks F R w av l' cs') : Toks F R w av (l ++ l') (cs ++ cs') := by
  induction h with
  | nil => exact h'
  | cons t v l cs ho hf hl ih =>
    rw [List.cons_append, List.append_assoc]
    exact .cons t v _ _ ho hf ih

theorem Toks.length {F : Nat → Prop} {R : Nat} {w : World} {av : Value} {l : List Tok} {cs : List Value} (h : Toks F R w av l cs) : cs.length = l.length * 5 := by
  induction h with
  | nil => rfl
  | cons t v l cs ho hf hl ih => simp [tokCells, ih]; omega

/-- Whatever leaves F's blocks but R alone leaves what is owned. -/
theorem Own.frame {F F' : Nat → Prop} {R : Nat} {w w' : World} {p : Ptr} {st : St} (h : Own F R w p st) (hk : ∀ k, F k → k ≠ R → w'.heap[k]? = w.heap[k]?) (hF : ∀ k, F k → F' k) : Own F' R w' p st := by
  refine ⟨fun i => owns_of (h.run i) fun k e => hk k (h.runF i k e).1 (h.runF i k e).2, fun i k e => ⟨hF k (h.runF i k e).1, (h.runF i k e).2⟩, h.apart, ?_, fun k e => ⟨hF k (h.toldF k e).1, (h.toldF k e).2⟩,
    owns_of h.attrs fun k e => hk k (h.attrsF k e).1 (h.attrsF k e).2, fun k e => ⟨hF k (h.attrsF k e).1, (h.attrsF k e).2⟩, ?_⟩
  · obtain ⟨cs, h1, h2⟩ := h.told
    exact ⟨cs, owns_of h1 fun k e => hk k (h.toldF k e).1 (h.toldF k e).2, h2.frame fun k n xs v ho hv a b c => ⟨hk k a b, hF k a, c⟩⟩
  · rcases h.names with hn | ⟨b, h1, h2, h3, h4⟩
    · exact Or.inl hn
    · exact Or.inr ⟨b, h1, hF b h2, h3, map_of h4 (hk b h2 h3)⟩

/-- A store into R's block alone. -/
theorem Rep.setR {F : Nat → Prop} {R : Nat} {w w' : World} {s s' : Src} {p : Ptr} {st st' : St} (h : Rep F R w s p st) (hk : ∀ k, k ≠ R → w'.heap[k]? = w.heap[k]?) (hs : w'.heap.size = w.heap.size)
    (hb : w'.heap[R]? = some (.cells (cellsOf s' p st') 62 (0, 0))) (ho : Own F R w' p st → Own F R w' p st') : Rep F R w' s' p st' :=
  ⟨hb, h.inR, fun k hf => by rw [hs]; exact h.lt k hf, ho (h.own.frame (fun k _ hr => hk k hr) fun _ x => x)⟩

def Ptr.setRun (p : Ptr) (i : Rn) (v : Value) : Ptr := { p with run := fun j => if j = i then v else p.run j }
def St.setRun (st : St) (i : Rn) (l : List UInt8) (a : Int) : St := { st with run := fun j => if j = i then l else st.run j, runAt := fun j => if j = i then a else st.runAt j }

theorem cells_setRun (s : Src) (p : Ptr) (st : St) (i : Rn) (v : Value) (l : List UInt8) (a : Int) :
    ((cellsOf s p st).setIfInBounds (i.off + 1) (.int .i64 a)).setIfInBounds i.off v = cellsOf s (p.setRun i v) (st.setRun i l a) := by
  cases i <;> rfl
theorem cells_run (s : Src) (p : Ptr) (st : St) (i : Rn) : (cellsOf s p st)[i.off]? = some (p.run i) ∧ (cellsOf s p st)[i.off + 1]? = some (.int .i64 (st.runAt i)) := by
  cases i <;> exact ⟨rfl, rfl⟩

/-- A run of characters that has become another, in its own row or in a new one. -/
theorem Own.turn {F : Nat → Prop} {R : Nat} {w w' : World} {p : Ptr} {st : St} (h : Own F R w p st) (hlt : ∀ k, F k → k < w.heap.size) (hR : F R) (i : Rn) (v : Value) (l : List UInt8) (a : Int)
    (hK : Kept R (p.run i).ownBlock w w') (ho : w'.ownsRow 0 5 1 v l.length (Lib.byteCells l)) (hat : v.ownBlock = (p.run i).ownBlock ∨ ∀ k, v.ownBlock = some k → w.heap.size ≤ k) :
    Own (Grow F w w') R w' (p.setRun i v) (st.setRun i l a) := by
  have hvk : ∀ k, v.ownBlock = some k → k < w'.heap.size := fun k e => by
    obtain ⟨c, hc⟩ := owns_blk ho e
    exact (Array.getElem?_eq_some_iff.1 hc).1
  have keep : ∀ k, F k → k ≠ R → (p.run i).ownBlock ≠ some k → w'.heap[k]? = w.heap[k]? := fun k a b c => hK.block k (hlt k a) b (fun e => c e.symm)
  refine ⟨?_, ?_, ?_, ?_, ?_, ?_, ?_, ?_⟩
  · intro j
    simp only [Ptr.setRun, St.setRun]
    by_cases hj : j = i
    · subst hj; simp only [if_true]; exact ho
    · simp only [hj, if_false]
      exact owns_of (h.run j) fun k e => keep k (h.runF j k e).1 (h.runF j k e).2 (h.apart j i k hj e)
  · intro j k e
    simp only [Ptr.setRun] at e
    by_cases hj : j = i
    · subst hj; simp only [if_true] at e
      rcases hat with e2 | e2
      · rw [e2] at e; exact ⟨Or.inl (h.runF j k e).1, (h.runF j k e).2⟩
      · have := e2 k e
        have := hlt R hR
        exact ⟨Or.inr ⟨by assumption, hvk k e⟩, by omega⟩
    · simp only [hj, if_false] at e
      exact ⟨Or.inl (h.runF j k e).1, (h.runF j k e).2⟩
  · intro j j' k hne e
    simp only [Ptr.setRun] at e ⊢
    by_cases hj : j = i
    · subst hj
      simp only [if_true] at e
      have : ¬ j' = j := fun x => hne x.symm
      simp only [this, if_false]
      rcases hat with e2 | e2
      · rw [e2] at e; exact h.apart j j' k hne e
      · intro e3
        have := hlt k (h.runF j' k e3).1
        have := e2 k e
        omega
    · simp only [hj, if_false] at e
      by_cases hj' : j' = i
      · subst hj'
        simp only [if_true]
        rcases hat with e2 | e2
        · rw [e2]; exact h.apart j j' k hne e
        · intro e3
          have := hlt k (h.runF j k e).1
          have := e2 k e3
          omega
      · simp only [hj', if_false]; exact h.apart j j' k hne e
  · obtain ⟨cs, h1, h2⟩ := h.told
    refine ⟨cs, owns_of h1 fun k e => keep k (h.toldF k e).1 (h.toldF k e).2 (tag_ne h1 (h.run i) (by decide) e), h2.frame ?_⟩
    intro k n xs v' ho' hv a b c
    exact ⟨keep k a b (tag_ne ho' (h.run i) (by decide) hv), Or.inl a, c⟩
  · exact fun k e => ⟨Or.inl (h.toldF k e).1, (h.toldF k e).2⟩
  · exact owns_of h.attrs fun k e => keep k (h.attrsF k e).1 (h.attrsF k e).2 (tag_ne h.attrs (h.run i) (by decide) e)
  · exact fun k e => ⟨Or.inl (h.attrsF k e).1, (h.attrsF k e).2⟩
  · rcases h.names with hn | ⟨b, h1, h2, h3, h4⟩
    · exact Or.inl hn
    · exact Or.inr ⟨b, h1, Or.inl h2, h3, map_of h4 (keep b h2 h3 (map_ne (h.run i) h4))⟩
end Go.Proofs.YtbbocgeapofloaiGreatDoor
namespace Go.Proofs.YtbbocgeapofloaiGreatDoor
open Go.RowKit Go.Maps

/-! The parts, as plain Lean. -/

inductive Pl | between | less | bang | remark | dash | orderName | order | mark | section_ | bracket | brackets | part | blanks | newAttr | attrP | equals | valueP | slash | closing

def Pl.fn : Pl → Nat
  | .between => 15 | .less => 22 | .bang => 45 | .remark => 73 | .dash => 94 | .orderName => 44 | .order => 71 | .mark => 92 | .section_ => 74 | .bracket => 95 | .brackets => 105
  | .part => 46 | .blanks => 75 | .newAttr => 96 | .attrP => 107 | .equals => 112 | .valueP => 113 | .slash => 76 | .closing => 43

def fnV (n : Nat) : Value := .func (.func n) #[] #[]
def Pl.val (p : Pl) : Value := fnV p.fn

inductive Part
  | plain (p : Pl)
  | word (l : List UInt8) (p : Pl)
  | name (i : Rn) (p : Pl)
  | ref (i : Rn) (p : Pl)

inductive Res
  | go (p : Part)
  | stop
  | fail (no at_ : Int)

structure Out where
  st : St
  res : Res

def St.put (st : St) (i : Rn) (c q : Int) : St := st.setRun i (st.run i ++ Lib.encodeRune c) (if (st.run i).length = 0 then q else st.runAt i)
def St.clear (st : St) (i : Rn) : St := st.setRun i [] 0
def St.tellText (st : St) : St := if (st.run .text).length = 0 then st else St.clear { st with told := st.told ++ [⟨3, [], [], st.run .text, st.runAt .text⟩] } .text
def St.tellOpening (st : St) : St := { st.tellText with told := st.tellText.told ++ [⟨1, st.run .name, st.attrs, [], st.tagAt⟩], attrs := [], names := [] }
def St.tellClosing (st : St) : St := { st.tellText with told := st.tellText.told ++ [⟨2, st.run .name, [], [], st.tagAt⟩] }
def St.addAttr (st : St) : St := St.clear { st with attrs := st.attrs ++ [(st.run .attr, st.run .value)] } .value

def stPart (q : Int) (st : St) (c : Int) : Out :=
  if Tk.blank c = true then ⟨st, .go (.plain .blanks)⟩ else if c = 47 then ⟨st, .go (.plain .slash)⟩ else if c = 62 then ⟨st.tellOpening, .go (.plain .between)⟩ else ⟨st, .fail (Tk.why c) q⟩
def stName1 (i : Rn) (k : Pl) (q : Int) (st : St) (c : Int) : Out :=
  if Ch.begins c = true then ⟨st.put i c q, .go (.name i k)⟩ else ⟨st, .fail (Tk.why c) q⟩
def stAttr (q : Int) (st : St) (c : Int) : Out :=
  if Tk.blank c = true then ⟨st, .go (.plain .attrP)⟩ else if c = 61 then ⟨st, .go (.plain .equals)⟩ else ⟨st, .fail (Tk.why c) q⟩
def stRemark (q : Int) (st : St) (c : Int) : Out :=
  if c = 45 then ⟨st, .go (.plain .dash)⟩ else if c < 0 then ⟨st, .fail (Tk.why c) q⟩ else ⟨st, .go (.plain .remark)⟩
def stOrder (q : Int) (st : St) (c : Int) : Out :=
  if c = 63 then ⟨st, .go (.plain .mark)⟩ else if c < 0 then ⟨st, .fail (Tk.why c) q⟩ else ⟨st, .go (.plain .order)⟩
def stSection (q : Int) (st : St) (c : Int) : Out :=
  if c = 93 then ⟨st, .go (.plain .bracket)⟩ else if c < 0 then ⟨st, .fail (Tk.why c) q⟩ else ⟨st.put .text c q, .go (.plain .section_)⟩
def stBracket (q : Int) (st : St) (c : Int) : Out :=
  if c = 93 then ⟨st, .go (.plain .brackets)⟩ else stSection q (st.put .text 93 (q - 1)) c

def step (pl : Pl) (q : Int) (st : St) (c : Int) : Out :=
  match pl with
  | .between => if c = 60 then ⟨{ st with tagAt := q }, .go (.plain .less)⟩ else if c = 38 then ⟨(st.clear .ref).put .ref 38 q, .go (.ref .text .between)⟩ else if c = -1 then ⟨st.tellText, .stop⟩ else if c = -2 then ⟨st, .fail 2 q⟩ else ⟨st.put .text c q, .go (.plain .between)⟩
  | .less => if c = 47 then ⟨st.clear .name, .go (.name .name .closing)⟩ else if c = 63 then ⟨st, .go (.plain .orderName)⟩ else if c = 33 then ⟨st, .go (.plain .bang)⟩ else stName1 .name .part q (st.clear .name) c
  | .bang => if c = 45 then ⟨st, .go (.word [45] .remark)⟩ else if c = 91 then ⟨st, .go (.word [67, 68, 65, 84, 65, 91] .section_)⟩ else ⟨st, .fail (Tk.why c) q⟩
  | .remark => stRemark q st c
  | .dash => if c = 45 then ⟨st, .go (.word [62] .between)⟩ else stRemark q st c
  | .orderName => if Ch.begins c = true then ⟨st, .go (.plain .order)⟩ else ⟨st, .fail (Tk.why c) q⟩
  | .order => stOrder q st c
  | .mark => if c = 62 then ⟨st, .go (.plain .between)⟩ else stOrder q st c
  | .section_ => stSection q st c
  | .bracket => stBracket q st c
  | .brackets => if c = 62 then ⟨st, .go (.plain .between)⟩ else stBracket q (st.put .text 93 (q - 2)) c
  | .part => stPart q st c
  | .blanks => if Ch.begins c = true then stName1 .attr .newAttr q (st.clear .attr) c else stPart q st c
  | .newAttr => if st.names.contains (st.run .attr) = true then ⟨st, .fail 5 (st.runAt .attr)⟩ else stAttr q { st with names := st.names ++ [st.run .attr] } c
  | .attrP => stAttr q st c
  | .equals => if Tk.blank c = true then ⟨st, .go (.plain .equals)⟩ else if c = 34 ∨ c = 39 then ⟨{ st with quote := c }, .go (.plain .valueP)⟩ else ⟨st, .fail (Tk.why c) q⟩
  | .valueP => if c = st.quote then ⟨st.addAttr, .go (.plain .part)⟩ else if c = 38 then ⟨(st.clear .ref).put .ref 38 q, .go (.ref .value .valueP)⟩ else if c = 60 ∨ c < 0 then ⟨st, .fail (Tk.why c) q⟩ else ⟨st.put .value c q, .go (.plain .valueP)⟩
  | .slash => if c = 62 then ⟨st.tellOpening.tellClosing, .go (.plain .between)⟩ else ⟨st, .fail (Tk.why c) q⟩
  | .closing => if Tk.blank c = true then ⟨st, .go (.plain .closing)⟩ else if c = 62 then ⟨st.tellClosing, .go (.plain .between)⟩ else ⟨st, .fail (Tk.why c) q⟩

/-! The parts in memory. -/

def Box (F : Nat → Prop) (R : Nat) (w : World) (b : Nat) (x : Value) (t : TypeId) : Prop := w.heap[b]? = some (.cells #[x] t (0, 0)) ∧ F b ∧ b ≠ R
def ptrV (b : Nat) : Value := .pointer (some ⟨b, 0, none⟩)

def PartAt (F : Nat → Prop) (R : Nat) (w : World) (v : Value) : Part → Prop
  | .plain p => v = p.val
  | .word l p => ∃ b1 b2, v = .func (.func 93) #[] #[ptrV b1, ptrV b2] ∧ Box F R w b1 (strV l) 9 ∧ Box F R w b2 p.val 52
  | .name i p => ∃ b1 b2 b3, v = .func (.func 67) #[] #[ptrV b1, ptrV b2, ptrV b3] ∧ Box F R w b1 (.pointer (some ⟨R, i.off, none⟩)) 73 ∧ Box F R w b2 p.val 52 ∧ Box F R w b3 v 52
  | .ref i p => ∃ b1 b2 b3, v = .func (.func 47) #[] #[ptrV b1, ptrV b2, ptrV b3] ∧ Box F R w b1 v 52 ∧ Box F R w b2 (.pointer (some ⟨R, i.off, none⟩)) 73 ∧ Box F R w b3 p.val 52

def PartEnd (F : Nat → Prop) (R : Nat) (w : World) (s : Src) (o : Out) (e : Ending) (w' : World) : Prop :=
  ∃ p', Rep (Grow F w w') R w' s p' o.st ∧ Frame F w w' ∧
    match o.res with
    | .go part => ∃ v, e = .returned (.tuple #[v, .nilIface]) ∧ PartAt (Grow F w w') R w' v part
    | .stop => e = .returned (.tuple #[.nilFunc, .nilIface])
    | .fail no q => e = .returned (.tuple #[.nilFunc, wrongV no q])

theorem Rep.grow0 {F : Nat → Prop} {R : Nat} {w : World} {s : Src} {p : Ptr} {st : St} (h : Rep F R w s p st) : Rep (Grow F w w) R w s p st :=
  ⟨h.blk, Or.inl h.inR, fun k hk => hk.elim (h.lt k) (fun x => x.2), h.own.frame (fun _ _ _ => rfl) (fun _ x => Or.inl x)⟩

/-- New blocks alone. -/
theorem Rep.below {F : Nat → Prop} {R : Nat} {w w' : World} {s : Src} {p : Ptr} {st : St} (h : Rep F R w s p st) (hb : Below w.heap.size w w') : Rep (Grow F w w') R w' s p st :=
  ⟨(hb.block R (h.lt R h.inR)).trans h.blk, Or.inl h.inR, fun k hk => hk.elim (fun x => Nat.lt_of_lt_of_le (h.lt k x) hb.size) (fun x => x.2), h.own.frame (fun k a _ => hb.block k (h.lt k a)) (fun _ x => Or.inl x)⟩
theorem Frame.below {F : Nat → Prop} {w w' : World} (hb : Below w.heap.size w w') : Frame F w w' := ⟨hb.os, hb.tape, hb.output, hb.size, fun k h _ => hb.block k h⟩

theorem PartEnd.fail0 {F : Nat → Prop} {R : Nat} {w w' : World} {s : Src} {p : Ptr} {st : St} {no q : Int} (h : Rep F R w s p st) (hb : Below w.heap.size w w') : PartEnd F R w s ⟨st, .fail no q⟩ (.returned (.tuple #[.nilFunc, wrongV no q])) w' :=
  ⟨p, h.below hb, Frame.below hb, rfl⟩
theorem PartEnd.go0 {F : Nat → Prop} {R : Nat} {w w' : World} {s : Src} {p : Ptr} {st : St} {pl : Pl} (h : Rep F R w s p st) (hb : Below w.heap.size w w') : PartEnd F R w s ⟨st, .go (.plain pl)⟩ (.returned (.tuple #[pl.val, .nilIface])) w' :=
  ⟨p, h.below hb, Frame.below hb, _, rfl, rfl⟩

theorem Rep.cell {F : Nat → Prop} {R : Nat} {w : World} {s : Src} {p : Ptr} {st : St} (h : Rep F R w s p st) (i : Nat) {v : Value} (hi : (cellsOf s p st)[i]? = some v) : w.cell? ⟨R, i, none⟩ = some v := cell_of h.blk hi
theorem Rep.free {F : Nat → Prop} {R : Nat} {w : World} {s : Src} {p : Ptr} {st : St} (h : Rep F R w s p st) (i : Nat) : w.frozen? ⟨R, i, none⟩ = false := free_of h.blk

theorem enc_cells (l : List UInt8) (c : Int) : Lib.byteCells l ++ Lib.runeCells c = Lib.byteCells (l ++ Lib.encodeRune c) := by
  rw [Lib.byteCells_append, Lib.byteCells_encodeRune]
theorem rune_len (c : Int) : (Lib.runeCells c).length = (Lib.encodeRune c).length := by simp [Lib.runeCells, Lib.encodeRune]

/-- put, at the reader. -/
theorem put_rep {F : Nat → Prop} {R : Nat} {w : World} {s : Src} {p : Ptr} {st : St} (h : Rep F R w s p st) (i : Rn) (c q : Int) (hc : Scalar c) (hn : (st.run i).length + 4 ≤ 140737488355328) :
    Calls Tryz.prog 26 #[.pointer (some ⟨R, i.off, none⟩), .int .i32 c, .int .i64 q] w fun e w' => e = .returned (.tuple #[]) ∧ ∃ v, Rep (Grow F w w') R w' s (p.setRun i v) (st.put i c q) ∧ Kept R (p.run i).ownBlock w w' := by
  refine (put_any R i.off 0 (cellsOf s p st) 62 (p.run i) (st.run i).length _ (st.runAt i) q c w h.blk (by decide) (cells_run s p st i).1 (cells_run s p st i).2 (h.own.run i) hc (Nat.zero_le _) hn).mono ?_
  rintro e w' ⟨rfl, v, ho, hb, hk, hat⟩
  refine ⟨rfl, v, ⟨?_, Or.inl h.inR, fun k hf => hf.elim (fun x => Nat.lt_of_lt_of_le (h.lt k x) hk.size) (fun x => x.2), ?_⟩, hk⟩
  · rw [hb]
    congr 2
    exact cells_setRun s p st i v _ _
  · refine h.own.turn h.lt h.inR i v _ _ hk ?_ ?_
    · rw [enc_cells] at ho
      rw [List.length_append, ← rune_len]
      exact ho
    · rcases hat with e | ⟨k, e, hk⟩
      · exact Or.inl e
      · refine Or.inr fun j hj => ?_
        rw [e] at hj
        cases hj
        exact hk

theorem Rep.frameK {F : Nat → Prop} {R : Nat} {w w' : World} {s : Src} {p : Ptr} {st : St} (h : Rep F R w s p st) {i : Rn} (hk : Kept R (p.run i).ownBlock w w') : Frame F w w' :=
  ⟨hk.os, hk.tape, hk.output, hk.size, fun k hl hf => hk.block k hl (fun e => hf (e ▸ h.inR)) (fun e => hf (h.own.runF i k e.symm).1)⟩

theorem scalar_of {c : Int} (h : Leg c) (h0 : 0 ≤ c) : Scalar c := by
  have hm : Ch.may c = true := by rcases h with h | h | h <;> first | exact h | omega
  have := (Ch.may_iff c).1 hm
  unfold Scalar; omega
end Go.Proofs.YtbbocgeapofloaiGreatDoor
