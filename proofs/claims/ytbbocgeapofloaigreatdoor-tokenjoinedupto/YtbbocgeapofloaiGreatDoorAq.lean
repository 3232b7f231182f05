import Derived.BigQuiet
import Derived.Deep.QuietTactic
import Derived.Deep.RegionHeld3
import Derived.Test.YtbbocgeapofloaiGreatDoorAk
set_option linter.unusedVariables false
set_option linter.unusedSimpArgs false
namespace Go.Proofs.YtbbocgeapofloaiGreatDoor
open Go.RowKit Go.Maps Go.Lib

/-! The document's own reader (a text being read), in memory: one block of seven cells. -/

structure Sc where
  i : Nat
  l : List Tok
  more : List UInt8
  frm : Int
  err : Int
  at_ : Int

def scCells (s : ByteArray) (lv : Value) (x : Sc) : Array Value := #[.string s, .int .i64 x.i, lv, strV x.more, .int .i64 x.frm, .int .i64 x.err, .int .i64 x.at_]
def SAt (X : Nat) (w : World) (s : ByteArray) (lv : Value) (x : Sc) : Prop := w.heap[X]? = some (.cells (scCells s lv x) 45 (0, 0))

/-- All old blocks but X are as they were. -/
structure But (X : Nat) (w w' : World) : Prop where
  os : w'.os = w.os
  tape : w'.tape = w.tape
  output : w'.output = w.output
  size : w.heap.size ≤ w'.heap.size
  block : ∀ k, k < w.heap.size → k ≠ X → w'.heap[k]? = w.heap[k]?
theorem But.refl (X : Nat) (w : World) : But X w w := ⟨rfl, rfl, rfl, Nat.le_refl _, fun _ _ _ => rfl⟩
theorem But.trans {X : Nat} {a b c : World} (h : But X a b) (k : But X b c) : But X a c :=
  ⟨k.os.trans h.os, k.tape.trans h.tape, k.output.trans h.output, Nat.le_trans h.size k.size, fun i hi hX => (k.block i (Nat.lt_of_lt_of_le hi h.size) hX).trans (h.block i hi hX)⟩

def SE (X : Nat) (w : World) (s : ByteArray) (lv : Value) (x : Sc) (w' : World) : Prop := SAt X w' s lv x ∧ But X w w'

variable {X : Nat} {w w' w'' : World} {s : ByteArray} {lv : Value} {x x' : Sc}

theorem SE.refl (h : SAt X w s lv x) : SE X w s lv x w := ⟨h, But.refl _ _⟩
theorem SE.on (h : SE X w s lv x w') (k : SE X w' s lv x' w'') : SE X w s lv x' w'' := ⟨k.1, h.2.trans k.2⟩
theorem SE.below (h : SE X w s lv x w') (hX : X < w.heap.size) (b : Below w'.heap.size w' w'') : SE X w s lv x w'' :=
  ⟨(b.block X (Nat.lt_of_lt_of_le hX h.2.size)).trans h.1, h.2.trans ⟨b.os, b.tape, b.output, b.size, fun k hk _ => b.block k hk⟩⟩
theorem SE.set (h : SE X w s lv x w') (i : Nat) (v : Value) (hc : (scCells s lv x).setIfInBounds i v = scCells s lv x') : SE X w s lv x' (w'.setCell ⟨X, i, none⟩ v) := by
  refine ⟨?_, h.2.trans ⟨rfl, rfl, rfl, by simp [World.setCell], fun k _ hX => Below.heap_setCell _ _ _ _ hX⟩⟩
  have := set_of (i := i) h.1 v
  rw [hc] at this
  exact this
theorem SAt.cell (h : SAt X w s lv x) (i : Nat) {v : Value} (hi : (scCells s lv x)[i]? = some v) : w.cell? ⟨X, i, none⟩ = some v := cell_of h hi
theorem SAt.free (h : SAt X w s lv x) (i : Nat) : w.frozen? ⟨X, i, none⟩ = false := free_of h
theorem SAt.lt (h : SAt X w s lv x) : X < w.heap.size := (Array.getElem?_eq_some_iff.1 h).1

def Sc.fail (x : Sc) (e a : Int) : Sc := if x.err = 0 then { x with err := e, at_ := a } else x

theorem fail_sc (h : SAt X w s lv x) (e a : Int) : Calls Tryz.prog 40 #[.pointer (some ⟨X, 0, none⟩), .int .i64 e, .int .i64 a] w fun en w' => en = .returned (.tuple #[]) ∧ SE X w s lv (x.fail e a) w' := by
  have c5 : w.cell? ⟨X, 5, none⟩ = some (.int .i64 x.err) := h.cell 5 rfl
  have c6 : w.cell? ⟨X, 6, none⟩ = some (.int .i64 x.at_) := h.cell 6 rfl
  have f5 := h.free 5
  have f6 := h.free 6
  unfold Sc.fail
  by_cases h0 : x.err = 0
  · have e0 : (x.err == 0) = true := by simpa using h0
    rw [if_pos h0]
    have H := hide (((SE.refl h).set (x' := { x with err := e }) 5 (.int .i64 e) rfl).set (x' := { x with err := e, at_ := a }) 6 (.int .i64 a) rfl)
    clear h h0
    go_enter Tryz.func40, Tryz.ntmps40
    go_wp2
    go_end0
    exact ⟨rfl, H.out⟩
  · have e0 : (x.err == 0) = false := by simpa using h0
    rw [if_neg h0]
    have H := hide (SE.refl h)
    clear h h0
    go_enter Tryz.func40, Tryz.ntmps40
    go_wp2
    go_end0
    exact ⟨rfl, H.out⟩

def Sc.wrong (x : Sc) (s : ByteArray) : Sc := if x.i < s.size then (if (Ch.at2 s x.i).2 = 0 then x.fail 2 x.i else x.fail 3 x.i) else x.fail 3 x.i
end Go.Proofs.YtbbocgeapofloaiGreatDoor
namespace Go.Proofs.YtbbocgeapofloaiGreatDoor
open Go.RowKit Go.Maps Go.Lib

variable {X : Nat} {w w' w'' : World} {s : ByteArray} {lv : Value} {x x' : Sc}

theorem SE.drewN (h : SE X w s lv x w') (n : Nat) : SE X w s lv x (w'.drewN n) := ⟨h.1, ⟨h.2.os, h.2.tape, h.2.output, h.2.size, h.2.block⟩⟩
theorem SAt.drewN (h : SAt X w s lv x) (n : Nat) : SAt X (w.drewN n) s lv x := h

set_option maxHeartbeats 2000000 in
theorem wrong_sc (h : SAt X w s lv x) (hs : s.size ≤ 1125899906842624) : Calls Tryz.prog 38 #[.pointer (some ⟨X, 0, none⟩)] w fun en w' => en = .returned (.tuple #[]) ∧ SE X w s lv (x.wrong s) w' := by
  have c0 : w.cell? ⟨X, 0, none⟩ = some (.string s) := h.cell 0 rfl
  have c1 : w.cell? ⟨X, 1, none⟩ = some (.int .i64 x.i) := h.cell 1 rfl
  unfold Sc.wrong
  by_cases hi : x.i < s.size
  · have hat := fun w => At_any s x.i w hs (by omega)
    rw [if_pos hi]
    by_cases hz : (Ch.at2 s x.i).2 = 0
    · have e0 : ((Ch.at2 s x.i).2 == 0) = true := by simpa using hz
      rw [if_pos hz]
      have hf := fun W (b : SE X w s lv x W) => fail_sc b.1 2 x.i
      have HF := hide hf
      have H := hide (SE.refl h)
      clear h hz hf
      generalize (Ch.at2 s x.i).1 = a1 at *
      generalize (Ch.at2 s x.i).2 = a2 at *
      go_enter Tryz.func38, Tryz.ntmps38
      go_wp2_with fail
      go_quiet (fail)
      have d0 : (w.drewN nq).cell? ⟨X, 0, none⟩ = some (.string s) := c0
      have d1 : (w.drewN nq).cell? ⟨X, 1, none⟩ = some (.int .i64 x.i) := c1
      go_wp2_with fail
      go_region_held3 (fun W => W.cell? ⟨X, 0, none⟩ = some (.string s) ∧ W.cell? ⟨X, 1, none⟩ = some (.int .i64 x.i))
        (first | exact ⟨d0, d1⟩)
        (first | (go_at_call 41; refine (hat _).mono ?_; rintro e w3 ⟨rfl, hw3⟩; have hw4 := hw3.symm; clear hw3; subst hw4))
      all_goals
        go_wp2_with fail
        refine (HF.out _ ((H.out.drewN nq).drewN 1)).mono ?_
        rintro e w3 ⟨rfl, r3⟩
        go_wp2
        first | go_end0 | refine bodyPost_ret (results_none rfl _ _ _) rfl ?_
        exact ⟨rfl, ((H.out.drewN nq).drewN 1).on r3⟩
    · have e0 : ((Ch.at2 s x.i).2 == 0) = false := by simpa using hz
      rw [if_neg hz]
      have hf := fun W (b : SE X w s lv x W) => fail_sc b.1 3 x.i
      have HF := hide hf
      have H := hide (SE.refl h)
      clear h hz hf
      generalize (Ch.at2 s x.i).1 = a1 at *
      generalize (Ch.at2 s x.i).2 = a2 at *
      go_enter Tryz.func38, Tryz.ntmps38
      go_wp2_with fail
      go_quiet (fail)
      have d0 : (w.drewN nq).cell? ⟨X, 0, none⟩ = some (.string s) := c0
      have d1 : (w.drewN nq).cell? ⟨X, 1, none⟩ = some (.int .i64 x.i) := c1
      go_wp2_with fail
      go_region_held3 (fun W => W.cell? ⟨X, 0, none⟩ = some (.string s) ∧ W.cell? ⟨X, 1, none⟩ = some (.int .i64 x.i))
        (first | exact ⟨d0, d1⟩)
        (first | (go_at_call 41; refine (hat _).mono ?_; rintro e w3 ⟨rfl, hw3⟩; have hw4 := hw3.symm; clear hw3; subst hw4))
      all_goals
        go_wp2_with fail
        refine (HF.out _ ((H.out.drewN nq).drewN 1)).mono ?_
        rintro e w3 ⟨rfl, r3⟩
        go_wp2
        first | go_end0 | refine bodyPost_ret (results_none rfl _ _ _) rfl ?_
        exact ⟨rfl, ((H.out.drewN nq).drewN 1).on r3⟩
  · rw [if_neg hi]
    have hf := fun W (b : SE X w s lv x W) => fail_sc b.1 3 x.i
    have HF := hide hf
    have H := hide (SE.refl h)
    clear h hf
    go_enter Tryz.func38, Tryz.ntmps38
    go_wp2_with fail
    go_quiet (fail)
    go_wp2_with fail
    refine (HF.out _ (H.out.drewN _)).mono ?_
    rintro e w3 ⟨rfl, r3⟩
    go_wp2
    go_end0
    exact ⟨rfl, (H.out.drewN _).on r3⟩

/-- Does that byte stand here? -/
def Sc.is (x : Sc) (s : ByteArray) (c : Nat) : Bool := x.err == 0 && (decide (x.i < s.size) && (s.get! x.i).toNat == c)

set_option maxHeartbeats 2000000 in
theorem is_sc (h : SAt X w s lv x) (c : Nat) (hc : c < 256) : Calls Tryz.prog 31 #[.pointer (some ⟨X, 0, none⟩), .int .u8 c] w fun en w' => en = .returned (.bool (x.is s c)) ∧ Below w.heap.size w w' := by
  have c0 : w.cell? ⟨X, 0, none⟩ = some (.string s) := h.cell 0 rfl
  have c1 : w.cell? ⟨X, 1, none⟩ = some (.int .i64 x.i) := h.cell 1 rfl
  have c5 : w.cell? ⟨X, 5, none⟩ = some (.int .i64 x.err) := h.cell 5 rfl
  unfold Sc.is
  clear h
  by_cases h0 : x.err = 0
  · have e0 : (x.err == 0) = true := by simpa using h0
    by_cases hi : x.i < s.size
    · have hx : (decide (x.i < s.size)) = true := by simpa using hi
      rw [e0, hx, Bool.true_and, Bool.true_and]
      clear h0
      go_enter Tryz.func31, Tryz.ntmps31
      go_wp2_with fail
      go_quiet (fail)
      go_wp2
      go_ret
      refine ⟨?_, below_drewN (Below.refl _ _) _⟩
      show Ending.returned (.bool ((s[x.i].toNat : Int) == (c : Int))) = _
      have e : s[x.i] = s.get! x.i := (Utf8W.get!_of_lt s x.i hi).symm
      have e2 : ((s[x.i].toNat : Int) == (c : Int)) = ((s.get! x.i).toNat == c) := by rw [e, Bool.eq_iff_iff]; simp only [beq_iff_eq]; omega
      rw [e2]
    · have hx : (decide (x.i < s.size)) = false := by simpa using hi
      rw [e0, hx, Bool.true_and, Bool.false_and]
      clear h0
      go_enter Tryz.func31, Tryz.ntmps31
      go_wp2_with fail
      go_quiet (fail)
      go_wp2
      go_ret
      exact ⟨rfl, below_drewN (Below.refl _ _) _⟩
  · have e0 : (x.err == 0) = false := by simpa using h0
    rw [e0, Bool.false_and]
    clear h0
    go_enter Tryz.func31, Tryz.ntmps31
    go_wp2_with fail
    go_quiet (fail)
    go_wp2
    go_ret
    exact ⟨rfl, below_drewN (Below.refl _ _) _⟩
end Go.Proofs.YtbbocgeapofloaiGreatDoor
namespace Go.Proofs.YtbbocgeapofloaiGreatDoor
open Go.RowKit Go.Maps Go.Lib

variable {X : Nat} {w w' w'' wr : World} {s t : ByteArray} {lv : Value} {x x' : Sc}

/-- These bytes, one by one. -/
def Sc.mustL (s : ByteArray) : List UInt8 → Sc → Sc
  | [], x => x
  | c :: l, x => if x.err = 0 then (if x.is s c.toNat = true then Sc.mustL s l { x with i := x.i + 1 } else Sc.mustL s l (x.wrong s)) else x

theorem mustL_err (s : ByteArray) (l : List UInt8) (h : x.err ≠ 0) : Sc.mustL s l x = x := by
  cases l with
  | nil => rfl
  | cons c l => simp [Sc.mustL, h]

theorem SE.fromBelow (h : SAt X w s lv x) (b : Below w.heap.size w w') : SE X w s lv x w' := (SE.refl h).below h.lt b

/-- What stands from place k on. -/
def drp (t : ByteArray) (k : Nat) : List UInt8 := t.data.toList.drop k
theorem drp_cons (t : ByteArray) (k : Nat) (h : k < t.size) : drp t k = t.get! k :: drp t (k + 1) := by
  unfold drp
  have h' : k < t.data.toList.length := by simpa using h
  rw [List.drop_eq_getElem_cons h']
  congr 1
  show t.data.toList[k] = t.data[k]!
  rw [getElem!_pos t.data k h, Array.getElem_toList]
theorem drp_nil (t : ByteArray) (k : Nat) (h : ¬ k < t.size) : drp t k = [] := by
  unfold drp
  exact List.drop_eq_nil_of_le (by simpa using h)

theorem fail_i (x : Sc) (e a : Int) : (x.fail e a).i = x.i := by unfold Sc.fail; split <;> rfl
theorem wrong_i (x : Sc) (s : ByteArray) : (x.wrong s).i = x.i := by unfold Sc.wrong; repeat' split
                                                                     all_goals exact fail_i _ _ _
theorem is_lt {c : Nat} (h : x.is s c = true) : x.i < s.size := by
  simp [Sc.is] at h; exact h.2.1

set_option maxHeartbeats 4000000 in
set_option maxRecDepth 10000 in
theorem must_sc (h : SAt X w s lv x) (hs : s.size ≤ 1125899906842624) (hi : x.i ≤ s.size) (t : ByteArray) (ht : t.size ≤ 1125899906842624) : Calls Tryz.prog 32 #[.pointer (some ⟨X, 0, none⟩), .string t] w fun en w' => en = .returned (.tuple #[]) ∧ SE X w s lv (Sc.mustL s (drp t 0) x) w' := by
  have h0 : ∃ (k : Nat) (x' : Sc), (Value.int .i64 0) = .int .i64 k ∧ k ≤ t.size ∧ x'.i ≤ s.size ∧ SE X w s lv x' w ∧ Sc.mustL s (drp t k) x' = Sc.mustL s (drp t 0) x := ⟨0, x, rfl, Nat.zero_le _, hi, SE.refl h, rfl⟩
  generalize Sc.mustL s (drp t 0) x = y at *
  have H0 := hide h0
  clear h h0 hi
  go_enter Tryz.func32, Tryz.ntmps32
  go_wp2_with fail
  go_loopw [4] (fun iv wr => ∃ (k : Nat) (x' : Sc), iv = .int .i64 k ∧ k ≤ t.size ∧ x'.i ≤ s.size ∧ SE X w s lv x' wr ∧ Sc.mustL s (drp t k) x' = y) (fun iv _ => t.size - (RowKit.intOf iv).toNat)
  case atStart => exact H0.out
  case round =>
    obtain ⟨k, x', rfl, hk, hi', se, heq⟩ := hrel
    have c1 : wr.cell? ⟨X, 1, none⟩ = some (.int .i64 x'.i) := se.1.cell 1 rfl
    have c5 : wr.cell? ⟨X, 5, none⟩ = some (.int .i64 x'.err) := se.1.cell 5 rfl
    by_cases hlt : k < t.size
    · rw [drp_cons t k hlt] at heq
      by_cases he : x'.err = 0
      · have e0 : (x'.err == 0) = true := by simpa using he
        have heq0 := heq
        unfold Sc.mustL at heq0
        rw [if_pos he] at heq0
        clear heq
        have heq := heq0
        clear heq0
        have hcall := is_sc se.1 (t.get! k).toNat (UInt8.toNat_lt _)
        have hgt : t[k] = t.get! k := (Utf8W.get!_of_lt t k hlt).symm
        have hlt1 := se.1.lt
        cases hb : x'.is s (t.get! k).toNat
        · rw [hb] at heq hcall
          simp only [Bool.false_eq_true, if_false] at heq
          have SEH := hide se
          have HEQ := hide heq
          have hwr := fun W (b : Below wr.heap.size wr W) => wrong_sc (SE.fromBelow se.1 b).1 hs
          have HWR := hide hwr
          clear se heq hwr hb
          go_wp2_with (first | (go_at_call 31; refine hcall.mono ?_; rintro e w1 ⟨rfl, b1⟩) | (go_at_call 38; refine (HWR.out _ b1).mono ?_; rintro e w2 ⟨rfl, r2⟩))
          go_roundw
          case rel => exact ⟨k + 1, _, by simp, by omega, by rw [wrong_i]; exact hi', (SEH.out.on (SE.fromBelow SEH.out.1 b1)).on r2, HEQ.out⟩
          case measure => simp only [RowKit.intOf]; omega
        · have hil := is_lt hb
          rw [hb] at heq hcall
          simp only [if_true] at heq
          have SEH := hide se
          have HEQ := hide heq
          have hwr : IntKind.i64.wrap ((x'.i : Int) + 1) = (x'.i : Int) + 1 := by rw [IntKind.wrap_i64]; omega
          clear se heq hb
          go_wp2_with (first | (go_at_call 31; refine hcall.mono ?_; rintro e w1 ⟨rfl, b1⟩; have R1 := hide (SEH.out.on (SE.fromBelow SEH.out.1 b1)); have d1 : w1.cell? ⟨X, 1, none⟩ = some (.int .i64 x'.i) := R1.out.1.cell 1 rfl; have g1 := R1.out.1.free 1))
          go_roundw
          case rel => exact ⟨k + 1, { x' with i := x'.i + 1 }, by simp, by omega, by show x'.i + 1 ≤ s.size; omega, R1.out.set 1 _ rfl, HEQ.out⟩
          case measure => simp only [RowKit.intOf]; omega
      · have e0 : (x'.err == 0) = false := by simpa using he
        have hy : y = x' := by rw [← heq]; simp [Sc.mustL, he]
        subst hy
        have SEH := hide se
        clear se heq he
        go_wp2
        go_end0
        exact ⟨rfl, SEH.out⟩
    · rw [drp_nil t k hlt] at heq
      have hy : x' = y := heq
      subst hy
      have SEH := hide se
      clear se heq
      go_wp2
      go_end0
      exact ⟨rfl, SEH.out⟩
end Go.Proofs.YtbbocgeapofloaiGreatDoor
namespace Go.Proofs.YtbbocgeapofloaiGreatDoor
open Go.RowKit Go.Maps Go.Lib

variable {X : Nat} {w w' w'' wr : World} {s t : ByteArray} {lv : Value} {x x' : Sc}

def isBlank (c : Nat) : Bool := c == 32 || c == 9 || c == 10 || c == 13

theorem blankR_any (c : Nat) (hc : c < 256) (w : World) : Calls Tryz.prog 60 #[.int .u8 c] w fun e w' => e = .returned (.bool (isBlank c)) ∧ w' = w := by
  unfold isBlank
  by_cases h1 : c = 32
  · subst h1
    go_enter Tryz.func60, Tryz.ntmps60
    go_wp2
    go_ret
    exact ⟨rfl, rfl⟩
  by_cases h2 : c = 9
  · subst h2
    go_enter Tryz.func60, Tryz.ntmps60
    go_wp2
    go_ret
    exact ⟨rfl, rfl⟩
  by_cases h3 : c = 10
  · subst h3
    go_enter Tryz.func60, Tryz.ntmps60
    go_wp2
    go_ret
    exact ⟨rfl, rfl⟩
  by_cases h4 : c = 13
  · subst h4
    go_enter Tryz.func60, Tryz.ntmps60
    go_wp2
    go_ret
    exact ⟨rfl, rfl⟩
  · have e1 : ((c : Int) == 32) = false := by simp only [beq_eq_false_iff_ne, ne_eq]; omega
    have e2 : ((c : Int) == 9) = false := by simp only [beq_eq_false_iff_ne, ne_eq]; omega
    have e3 : ((c : Int) == 10) = false := by simp only [beq_eq_false_iff_ne, ne_eq]; omega
    have e4 : ((c : Int) == 13) = false := by simp only [beq_eq_false_iff_ne, ne_eq]; omega
    have e5 : (c == 32 || c == 9 || c == 10 || c == 13) = false := by simp [h1, h2, h3, h4]
    rw [e5]
    go_enter Tryz.func60, Tryz.ntmps60
    go_wp2
    go_ret
    exact ⟨rfl, rfl⟩

/-- How many blanks stand from place i on. -/
def skip (s : ByteArray) : Nat → Nat → Nat
  | 0, _ => 0
  | f + 1, i => if i < s.size ∧ isBlank (s.get! i).toNat = true then skip s f (i + 1) + 1 else 0
def Sc.skip (x : Sc) (s : ByteArray) : Nat := if x.err = 0 then Go.Proofs.YtbbocgeapofloaiGreatDoor.skip s (s.size + 1) x.i else 0
def Sc.blanks (x : Sc) (s : ByteArray) : Sc := { x with i := x.i + x.skip s }

set_option maxHeartbeats 4000000 in
set_option maxRecDepth 10000 in
theorem blanks_sc (h : SAt X w s lv x) (hs : s.size ≤ 1125899906842624) (hi : x.err = 0 → x.i ≤ s.size) : Calls Tryz.prog 35 #[.pointer (some ⟨X, 0, none⟩)] w fun en w' => en = .returned (.int .i64 (x.skip s)) ∧ SE X w s lv (x.blanks s) w' := by
  by_cases he : x.err = 0
  · have hi' := hi he
    have hsk : x.skip s = skip s (s.size + 1) x.i := by unfold Sc.skip; rw [if_pos he]
    unfold Sc.blanks
    rw [hsk]
    have h0 : ∃ (k f : Nat), (Value.int .i64 0) = .int .i64 k ∧ x.i + k ≤ s.size ∧ SE X w s lv { x with i := x.i + k } w ∧ k + skip s f (x.i + k) = skip s (s.size + 1) x.i ∧ s.size < x.i + k + f := ⟨0, s.size + 1, rfl, hi', SE.refl h, by simp, by omega⟩
    have H0 := hide h0
    have e0 : (x.err == 0) = true := by simpa using he
    have hbl := blankR_any
    clear h h0 hi hsk
    generalize hm : skip s (s.size + 1) x.i = m at *
    go_enter Tryz.func35, Tryz.ntmps35
    go_wp2_with fail
    go_loopw [3] (fun nv wr => ∃ (k f : Nat), nv = .int .i64 k ∧ x.i + k ≤ s.size ∧ SE X w s lv { x with i := x.i + k } wr ∧ k + skip s f (x.i + k) = m ∧ s.size < x.i + k + f) (fun nv _ => s.size + 1 - (RowKit.intOf nv).toNat)
    case atStart => exact H0.out
    case round =>
      obtain ⟨k, f, rfl, hk, se, heq, hf⟩ := hrel
      have c0 : wr.cell? ⟨X, 0, none⟩ = some (.string s) := se.1.cell 0 rfl
      have c1 : wr.cell? ⟨X, 1, none⟩ = some (.int .i64 ((x.i + k : Nat) : Int)) := se.1.cell 1 rfl
      have c5 : wr.cell? ⟨X, 5, none⟩ = some (.int .i64 x.err) := se.1.cell 5 rfl
      generalize hj : x.i + k = j at *
      obtain ⟨f, rfl⟩ : ∃ g, f = g + 1 := ⟨f - 1, by omega⟩
      unfold skip at heq
      by_cases hlt : j < s.size
      · have hgt : s[j] = s.get! j := (Utf8W.get!_of_lt s j hlt).symm
        cases hb : isBlank (s.get! j).toNat
        · rw [if_neg (by rw [hb]; simp)] at heq
          have hm' : m = k := by omega
          subst hm'
          have hcall := fun w => hbl (s.get! j).toNat (UInt8.toNat_lt _) w
          rw [hb] at hcall
          have SEH := hide se
          clear se heq hbl
          go_wp2_with fail
          go_quiet (first | (go_at_call 60; refine Calls.quiet_of_same (hcall _)))
          go_wp2
          go_ret
          refine ⟨rfl, ?_⟩
          rw [hj]
          exact SEH.out.drewN _
        · rw [if_pos ⟨hlt, hb⟩] at heq
          have hcall := fun w => hbl (s.get! j).toNat (UInt8.toNat_lt _) w
          rw [hb] at hcall
          have hwr : IntKind.i64.wrap ((j : Int) + 1) = (j : Int) + 1 := by rw [IntKind.wrap_i64]; omega
          have hwk : IntKind.i64.wrap ((k : Int) + 1) = (k : Int) + 1 := by rw [IntKind.wrap_i64]; omega
          have f1 := se.1.free 1
          have SEH := hide se
          have HEQ := hide heq
          clear se heq hbl
          go_wp2_with fail
          go_quiet (first | (go_at_call 60; refine Calls.quiet_of_same (hcall _)))
          go_wp2
          go_roundw
          case rel =>
            have e1 : x.i + (k + 1) = j + 1 := by omega
            refine ⟨k + 1, f, by simp, by omega, ?_, by rw [e1]; have := HEQ.out; omega, by omega⟩
            rw [e1]
            have := (SEH.out.drewN nq).set (x' := { x with i := j + 1 }) 1 (.int .i64 ((j + 1 : Nat) : Int)) rfl
            simpa using this
          case measure => simp only [RowKit.intOf]; omega
      · rw [if_neg (by simp [hlt])] at heq
        have hm' : m = k := by omega
        subst hm'
        have SEH := hide se
        clear se heq hbl
        go_wp2_with fail
        go_quiet (fail)
        go_wp2
        go_ret
        refine ⟨rfl, ?_⟩
        rw [hj]
        exact SEH.out.drewN _
  · have hsk : x.skip s = 0 := by unfold Sc.skip; rw [if_neg he]
    unfold Sc.blanks
    rw [hsk]
    have e0 : (x.err == 0) = false := by simpa using he
    have c5 : w.cell? ⟨X, 5, none⟩ = some (.int .i64 x.err) := h.cell 5 rfl
    have H := hide (SE.refl h)
    clear h hi hsk he
    go_enter Tryz.func35, Tryz.ntmps35
    go_wp2_with fail
    refine wp_loop_rounds 1 ?_
    rw [rounds_succ]
    go_wp2_with fail
    go_quiet (fail)
    go_wp2
    go_ret
    exact ⟨rfl, H.out.drewN _⟩
end Go.Proofs.YtbbocgeapofloaiGreatDoor
namespace Go.Proofs.YtbbocgeapofloaiGreatDoor
open Go.RowKit Go.Maps Go.Lib

variable {X : Nat} {w w' w'' wr : World} {s t : ByteArray} {lv : Value} {x x' : Sc}

/-- How long the name is that stands here. -/
def Sc.nlen (x : Sc) (s : ByteArray) : Nat := Ch.name (s.extract x.i s.size)
def Sc.name (x : Sc) (s : ByteArray) : Sc × ByteArray :=
  if x.err = 0 then (if x.nlen s = 0 then (x.wrong s, ⟨#[]⟩) else ({ x with i := x.i + x.nlen s }, s.extract x.i (x.i + x.nlen s))) else (x, ⟨#[]⟩)

set_option maxHeartbeats 4000000 in
set_option maxRecDepth 10000 in
theorem name_sc (h : SAt X w s lv x) (hs : s.size ≤ 1125899906842624) (hi : x.err = 0 → x.i ≤ s.size) : Calls Tryz.prog 34 #[.pointer (some ⟨X, 0, none⟩)] w fun en w' => en = .returned (.string (x.name s).2) ∧ SE X w s lv (x.name s).1 w' := by
  have c0 : w.cell? ⟨X, 0, none⟩ = some (.string s) := h.cell 0 rfl
  have c1 : w.cell? ⟨X, 1, none⟩ = some (.int .i64 x.i) := h.cell 1 rfl
  have c5 : w.cell? ⟨X, 5, none⟩ = some (.int .i64 x.err) := h.cell 5 rfl
  have f1 := h.free 1
  unfold Sc.name
  by_cases he : x.err = 0
  · have hi' := hi he
    rw [if_pos he]
    have e0 : (x.err != 0) = false := by simpa using he
    have hnm := fun w => nameR_any (s.extract x.i s.size) w (by simp; omega)
    have hle : x.nlen s ≤ s.size - x.i := by
      have : Ch.name (s.extract x.i s.size) ≤ (s.extract x.i s.size).size := Ch.nameFrom_le _ _ 0 (Nat.zero_le _)
      unfold Sc.nlen
      simp at this
      omega
    have hd : Ch.name (s.extract x.i s.size) = x.nlen s := rfl
    rw [hd] at hnm
    clear hi
    by_cases hn : x.nlen s = 0
    · rw [if_pos hn]
      rw [hn] at hnm
      have hwr := fun W (b : SE X w s lv x W) => wrong_sc b.1 hs
      have H := hide (SE.refl h)
      have HW := hide hwr
      clear h hwr hd hle hn
      go_enter Tryz.func34, Tryz.ntmps34
      go_wp2_with fail
      go_quiet (first | (go_at_call 59; refine Calls.quiet_of_same (hnm _)))
      go_wp2_with fail
      refine (HW.out _ (H.out.drewN _)).mono ?_
      rintro e w3 ⟨rfl, r3⟩
      go_wp2
      go_ret
      exact ⟨rfl, (H.out.drewN _).on r3⟩
    · rw [if_neg hn]
      have e1 : ((x.nlen s : Int) == 0) = false := by simp only [beq_eq_false_iff_ne, ne_eq]; omega
      generalize x.nlen s = n at *
      have hwr : IntKind.i64.wrap ((x.i : Int) + n) = (x.i : Int) + n := by rw [IntKind.wrap_i64]; omega
      have H := hide (SE.refl h)
      clear h hd
      go_enter Tryz.func34, Tryz.ntmps34
      go_wp2_with fail
      go_quiet (first | (go_at_call 59; refine Calls.quiet_of_same (hnm _)))
      have R8 := hide ((H.out.drewN nq).set (x' := { x with i := x.i + n }) 1 (.int .i64 ((x.i : Int) + n)) (by show _ = scCells s lv { x with i := x.i + n }; simp [scCells]))
      have d0 : ((w.drewN nq).setCell ⟨X, 1, none⟩ (.int .i64 ((x.i : Int) + n))).cell? ⟨X, 0, none⟩ = some (.string s) := R8.out.1.cell 0 rfl
      have d1 : ((w.drewN nq).setCell ⟨X, 1, none⟩ (.int .i64 ((x.i : Int) + n))).cell? ⟨X, 1, none⟩ = some (.int .i64 ((x.i : Int) + n)) := by
        have h9 : ((w.drewN nq).setCell ⟨X, 1, none⟩ (.int .i64 ((x.i : Int) + n))).cell? ⟨X, 1, none⟩ = some (.int .i64 ((x.i + n : Nat) : Int)) := R8.out.1.cell 1 rfl
        rw [Int.natCast_add] at h9
        exact h9
      go_wp2_with fail
      go_quiet (fail)
      go_wp2
      go_ret
      exact ⟨rfl, R8.out.drewN _⟩
  · rw [if_neg he]
    have e0 : (x.err != 0) = true := by simpa using he
    have H := hide (SE.refl h)
    clear h hi
    go_enter Tryz.func34, Tryz.ntmps34
    go_wp2
    go_ret
    exact ⟨rfl, H.out⟩
end Go.Proofs.YtbbocgeapofloaiGreatDoor
namespace Go.Proofs.YtbbocgeapofloaiGreatDoor
open Go.RowKit Go.Maps Go.Lib

variable {X : Nat} {w w' w'' wr : World} {s t : ByteArray} {lv : Value} {x x' : Sc}

/-- One character, or a reference; what it stands for. -/
def Sc.char (x : Sc) (s : ByteArray) (bar : Nat) : Sc × ByteArray :=
  if x.i < s.size then
    if (s.get! x.i).toNat = 60 ∨ (s.get! x.i).toNat = bar then (x.wrong s, ⟨#[]⟩)
    else if (s.get! x.i).toNat = 38 then
      (if (refR s x.i).2 < 0 then (x.fail 4 x.i, ⟨#[]⟩) else ({ x with i := (refR s x.i).2.toNat }, ⟨(refR s x.i).1.toArray⟩))
    else if (Ch.at2 s x.i).2 = 0 then (x.fail 2 x.i, ⟨#[]⟩)
    else ({ x with i := x.i + (Ch.at2 s x.i).2.toNat }, s.extract x.i (x.i + (Ch.at2 s x.i).2.toNat))
  else (x.wrong s, ⟨#[]⟩)

set_option maxHeartbeats 4000000 in
set_option maxRecDepth 10000 in
/-- Where nothing can stand. -/
theorem char_bar (h : SAt X w s lv x) (hs : s.size ≤ 1125899906842624) (bar : Nat) (hc : x.i < s.size → (s.get! x.i).toNat = 60 ∨ (s.get! x.i).toNat = bar) :
    Calls Tryz.prog 20 #[.pointer (some ⟨X, 0, none⟩), .int .u8 bar] w fun en w' => en = .returned (.string ⟨#[]⟩) ∧ SE X w s lv (x.wrong s) w' := by
  have c0 : w.cell? ⟨X, 0, none⟩ = some (.string s) := h.cell 0 rfl
  have c1 : w.cell? ⟨X, 1, none⟩ = some (.int .i64 x.i) := h.cell 1 rfl
  have hwr := fun W (b : SE X w s lv x W) => wrong_sc b.1 hs
  have H := hide (SE.refl h)
  have HW := hide hwr
  clear h hwr
  by_cases hi : x.i < s.size
  · have hgt : s[x.i] = s.get! x.i := (Utf8W.get!_of_lt s x.i hi).symm
    generalize (s.get! x.i) = g at *
    have hlt := UInt8.toNat_lt g
    have hge : ¬ s.size ≤ x.i := by omega
    by_cases h60 : g.toNat = 60
    · clear hc
      go_enter Tryz.func20, Tryz.ntmps20
      go_wp2_with fail
      go_quiet (fail)
      go_wp2_with fail
      refine (HW.out _ (H.out.drewN _)).mono ?_
      rintro e w3 ⟨rfl, r3⟩
      go_wp2
      go_ret
      exact ⟨rfl, (H.out.drewN _).on r3⟩
    · have hbar : g.toNat = bar := (hc hi).resolve_left h60
      have e1 : ((g.toNat : Int) == 60) = false := by simp only [beq_eq_false_iff_ne, ne_eq]; omega
      have e2 : ((g.toNat : Int) == (bar : Int)) = true := by simp only [beq_iff_eq]; omega
      clear hc hbar
      go_enter Tryz.func20, Tryz.ntmps20
      go_wp2_with fail
      go_quiet (fail)
      go_wp2_with fail
      refine (HW.out _ (H.out.drewN _)).mono ?_
      rintro e w3 ⟨rfl, r3⟩
      go_wp2
      go_ret
      exact ⟨rfl, (H.out.drewN _).on r3⟩
  · have hge : s.size ≤ x.i := by omega
    clear hc
    go_enter Tryz.func20, Tryz.ntmps20
    go_wp2_with fail
    go_quiet (fail)
    go_wp2_with fail
    refine (HW.out _ (H.out.drewN _)).mono ?_
    rintro e w3 ⟨rfl, r3⟩
    go_wp2
    go_ret
    exact ⟨rfl, (H.out.drewN _).on r3⟩

set_option maxHeartbeats 4000000 in
set_option maxRecDepth 10000 in
/-- A character. -/
theorem char_one (h : SAt X w s lv x) (hs : s.size ≤ 1125899906842624) (bar : Nat) (hi : x.i < s.size) (h60 : (s.get! x.i).toNat ≠ 60) (hbar : (s.get! x.i).toNat ≠ bar) (h38 : (s.get! x.i).toNat ≠ 38) (hok : (Ch.at2 s x.i).2 ≠ 0) :
    Calls Tryz.prog 20 #[.pointer (some ⟨X, 0, none⟩), .int .u8 bar] w fun en w' => en = .returned (.string (s.extract x.i (x.i + (Ch.at2 s x.i).2.toNat))) ∧ SE X w s lv { x with i := x.i + (Ch.at2 s x.i).2.toNat } w' := by
  have c0 : w.cell? ⟨X, 0, none⟩ = some (.string s) := h.cell 0 rfl
  have c1 : w.cell? ⟨X, 1, none⟩ = some (.int .i64 x.i) := h.cell 1 rfl
  have f1 := h.free 1
  have H := hide (SE.refl h)
  have hat := fun w => At_any s x.i w hs (by omega)
  have hgt : s[x.i] = s.get! x.i := (Utf8W.get!_of_lt s x.i hi).symm
  have hge : ¬ s.size ≤ x.i := by omega
  have hn : ∃ n : Nat, (Ch.at2 s x.i).2 = n ∧ 0 < n ∧ x.i + n ≤ s.size := by
    unfold Ch.at2 at hok ⊢
    have hw := Ch.decode_width s x.i hi
    split
    · exact ⟨_, rfl, by omega, hw.1⟩
    · rename_i hh; rw [if_neg hh] at hok; exact absurd rfl hok
  obtain ⟨n, en, hn0, hnl⟩ := hn
  rw [en, Int.toNat_natCast]
  rw [en] at hat
  generalize (s.get! x.i) = g at *
  have e1 : ((g.toNat : Int) == 60) = false := by simp only [beq_eq_false_iff_ne, ne_eq]; omega
  have e2 : ((g.toNat : Int) == (bar : Int)) = false := by simp only [beq_eq_false_iff_ne, ne_eq]; omega
  have e3 : ((g.toNat : Int) == 38) = false := by simp only [beq_eq_false_iff_ne, ne_eq]; omega
  have e4 : ((n : Int) == 0) = false := by simp only [beq_eq_false_iff_ne, ne_eq]; omega
  have hwr : IntKind.i64.wrap ((x.i : Int) + n) = (x.i : Int) + n := by rw [IntKind.wrap_i64]; omega
  generalize (Ch.at2 s x.i).1 = a1 at *
  have R8 := hide (fun m => (H.out.drewN m).set (x' := { x with i := x.i + n }) 1 (.int .i64 ((x.i : Int) + n)) (by show _ = scCells s lv { x with i := x.i + n }; simp [scCells]))
  have d0 : ∀ m, ((w.drewN m).setCell ⟨X, 1, none⟩ (.int .i64 ((x.i : Int) + n))).cell? ⟨X, 0, none⟩ = some (.string s) := fun m => (R8.out m).1.cell 0 rfl
  have d1 : ∀ m, ((w.drewN m).setCell ⟨X, 1, none⟩ (.int .i64 ((x.i : Int) + n))).cell? ⟨X, 1, none⟩ = some (.int .i64 ((x.i : Int) + n)) := fun m => by
    have h9 : ((w.drewN m).setCell ⟨X, 1, none⟩ (.int .i64 ((x.i : Int) + n))).cell? ⟨X, 1, none⟩ = some (.int .i64 ((x.i + n : Nat) : Int)) := (R8.out m).1.cell 1 rfl
    rw [Int.natCast_add] at h9
    exact h9
  clear h hok en h60 hbar h38
  go_enter Tryz.func20, Tryz.ntmps20
  go_wp2_with fail
  go_quiet (fail)
  go_wp2_with fail
  go_quiet (fail)
  go_wp2_with fail
  go_region_held3 (fun W => W.cell? ⟨X, 0, none⟩ = some (.string s) ∧ W.cell? ⟨X, 1, none⟩ = some (.int .i64 x.i))
    (first | exact ⟨c0, c1⟩)
    (first | (go_at_call 41; refine (hat _).mono ?_; rintro e w3 ⟨rfl, hw3⟩; have hw4 := hw3.symm; clear hw3; subst hw4))
  all_goals
    go_wp2_with fail
    go_quiet (fail)
    go_wp2
    go_ret
    exact ⟨rfl, (R8.out _).drewN _⟩
end Go.Proofs.YtbbocgeapofloaiGreatDoor
namespace Go.Proofs.YtbbocgeapofloaiGreatDoor
open Go.RowKit Go.Maps Go.Lib

variable {X : Nat} {w w' w'' wr : World} {s t : ByteArray} {lv : Value} {x x' : Sc}

set_option maxHeartbeats 4000000 in
set_option maxRecDepth 10000 in
/-- No character begins here. -/
theorem char_bad (h : SAt X w s lv x) (hs : s.size ≤ 1125899906842624) (bar : Nat) (hi : x.i < s.size) (h60 : (s.get! x.i).toNat ≠ 60) (hbar : (s.get! x.i).toNat ≠ bar) (h38 : (s.get! x.i).toNat ≠ 38) (hok : (Ch.at2 s x.i).2 = 0) :
    Calls Tryz.prog 20 #[.pointer (some ⟨X, 0, none⟩), .int .u8 bar] w fun en w' => en = .returned (.string ⟨#[]⟩) ∧ SE X w s lv (x.fail 2 x.i) w' := by
  have c0 : w.cell? ⟨X, 0, none⟩ = some (.string s) := h.cell 0 rfl
  have c1 : w.cell? ⟨X, 1, none⟩ = some (.int .i64 x.i) := h.cell 1 rfl
  have hf := fun m => fail_sc (SAt.drewN h m) 2 x.i
  have H := hide (SE.refl h)
  have hat := fun w => At_any s x.i w hs (by omega)
  have hgt : s[x.i] = s.get! x.i := (Utf8W.get!_of_lt s x.i hi).symm
  have hge : ¬ s.size ≤ x.i := by omega
  rw [hok] at hat
  generalize (s.get! x.i) = g at *
  have e1 : ((g.toNat : Int) == 60) = false := by simp only [beq_eq_false_iff_ne, ne_eq]; omega
  have e2 : ((g.toNat : Int) == (bar : Int)) = false := by simp only [beq_eq_false_iff_ne, ne_eq]; omega
  have e3 : ((g.toNat : Int) == 38) = false := by simp only [beq_eq_false_iff_ne, ne_eq]; omega
  generalize (Ch.at2 s x.i).1 = a1 at *
  have HF := hide hf
  clear h hok h60 hbar h38 hf
  go_enter Tryz.func20, Tryz.ntmps20
  go_wp2_with fail
  go_quiet (fail)
  go_wp2_with fail
  go_quiet (fail)
  go_wp2_with fail
  go_region_held3 (fun W => W.cell? ⟨X, 0, none⟩ = some (.string s) ∧ W.cell? ⟨X, 1, none⟩ = some (.int .i64 x.i))
    (first | exact ⟨c0, c1⟩)
    (first | (go_at_call 41; refine (hat _).mono ?_; rintro e w3 ⟨rfl, hw3⟩; have hw4 := hw3.symm; clear hw3; subst hw4))
  all_goals
    go_wp2_with fail
    refine (HF.out _).mono ?_
    rintro e w4 ⟨rfl, r4⟩
    go_wp2
    go_ret
    exact ⟨rfl, (H.out.drewN _).on r4⟩

set_option maxHeartbeats 4000000 in
set_option maxRecDepth 10000 in
/-- A reference. -/
theorem char_ref (h : SAt X w s lv x) (hs : s.size ≤ 1125899906842624) (bar : Nat) (hi : x.i < s.size) (hbar : (s.get! x.i).toNat ≠ bar) (h38 : (s.get! x.i).toNat = 38) :
    Calls Tryz.prog 20 #[.pointer (some ⟨X, 0, none⟩), .int .u8 bar] w fun en w' => en = .returned (.string (x.char s bar).2) ∧ SE X w s lv (x.char s bar).1 w' := by
  have hch : x.char s bar = if (refR s x.i).2 < 0 then (x.fail 4 x.i, ⟨#[]⟩) else ({ x with i := (refR s x.i).2.toNat }, ⟨(refR s x.i).1.toArray⟩) := by
    unfold Sc.char
    rw [if_pos hi, if_neg (by rw [h38]; omega), if_pos h38]
  rw [hch]
  have c0 : w.cell? ⟨X, 0, none⟩ = some (.string s) := h.cell 0 rfl
  have c1 : w.cell? ⟨X, 1, none⟩ = some (.int .i64 x.i) := h.cell 1 rfl
  have f1 := h.free 1
  have hlt := h.lt
  have hrf := fun w => Ref_any s x.i w hs (by omega)
  have hgt : s[x.i] = s.get! x.i := (Utf8W.get!_of_lt s x.i hi).symm
  have hge : ¬ s.size ≤ x.i := by omega
  have H := hide (SE.refl h)
  rw [h38] at hbar
  generalize hg : (s.get! x.i) = g at *
  have e1 : ((g.toNat : Int) == 60) = false := by simp only [beq_eq_false_iff_ne, ne_eq]; omega
  have e2 : ((g.toNat : Int) == (bar : Int)) = false := by simp only [beq_eq_false_iff_ne, ne_eq]; omega
  generalize (refR s x.i).1 = rt at *
  by_cases hn : (refR s x.i).2 < 0
  · rw [if_pos hn]
    have hd : decide ((refR s x.i).2 < 0) = true := by simpa using hn
    have hf := fun W (b : SE X w s lv x W) => fail_sc b.1 4 x.i
    have HF := hide hf
    generalize (refR s x.i).2 = en at *
    clear h hch hf
    go_enter Tryz.func20, Tryz.ntmps20
    go_wp2_with fail
    go_quiet (fail)
    go_wp2_with fail
    go_quiet (fail)
    go_wp2_with fail
    go_region_held3 (fun W => W.cell? ⟨X, 0, none⟩ = some (.string s) ∧ W.cell? ⟨X, 1, none⟩ = some (.int .i64 x.i))
      (first | exact ⟨c0, c1⟩ | exact ⟨k0, k1⟩)
      (first | (go_at_call 39; refine (hrf _).mono ?_; rintro e w3 ⟨rfl, b3⟩; have R3 := hide ((H.out.drewN _).below hlt b3); have k0 : w3.cell? ⟨X, 0, none⟩ = some (.string s) := R3.out.1.cell 0 rfl; have k1 : w3.cell? ⟨X, 1, none⟩ = some (.int .i64 x.i) := R3.out.1.cell 1 rfl))
    all_goals
      go_wp2_with fail
      refine (HF.out _ R3.out).mono ?_
      rintro e w4 ⟨rfl, r4⟩
      go_wp2
      go_ret
      exact ⟨rfl, R3.out.on r4⟩
  · rw [if_neg hn]
    have hd : decide ((refR s x.i).2 < 0) = false := by simpa using hn
    have hen : (((refR s x.i).2.toNat : Nat) : Int) = (refR s x.i).2 := Int.toNat_of_nonneg (by omega)
    generalize (refR s x.i).2.toNat = en at *
    rw [← hen] at hrf hd
    clear h hch hn hen
    go_enter Tryz.func20, Tryz.ntmps20
    go_wp2_with fail
    go_quiet (fail)
    go_wp2_with fail
    go_quiet (fail)
    go_wp2_with fail
    go_region_held3 (fun W => W.cell? ⟨X, 0, none⟩ = some (.string s) ∧ W.cell? ⟨X, 1, none⟩ = some (.int .i64 x.i))
      (first | exact ⟨c0, c1⟩ | exact ⟨k0, k1⟩)
      (first | (go_at_call 39; refine (hrf _).mono ?_; rintro e w3 ⟨rfl, b3⟩; have R3 := hide ((H.out.drewN _).below hlt b3); have k0 : w3.cell? ⟨X, 0, none⟩ = some (.string s) := R3.out.1.cell 0 rfl; have k1 : w3.cell? ⟨X, 1, none⟩ = some (.int .i64 x.i) := R3.out.1.cell 1 rfl; have q1 := R3.out.1.free 1))
    all_goals
      go_wp2
      go_ret
      exact ⟨rfl, R3.out.set 1 _ rfl⟩

theorem char_sc (h : SAt X w s lv x) (hs : s.size ≤ 1125899906842624) (bar : Nat) :
    Calls Tryz.prog 20 #[.pointer (some ⟨X, 0, none⟩), .int .u8 bar] w fun en w' => en = .returned (.string (x.char s bar).2) ∧ SE X w s lv (x.char s bar).1 w' := by
  by_cases hi : x.i < s.size
  · by_cases hb : (s.get! x.i).toNat = 60 ∨ (s.get! x.i).toNat = bar
    · have e : x.char s bar = (x.wrong s, ⟨#[]⟩) := by unfold Sc.char; rw [if_pos hi, if_pos hb]
      rw [e]
      exact char_bar h hs bar (fun _ => hb)
    · have h60 : (s.get! x.i).toNat ≠ 60 := fun e => hb (Or.inl e)
      have hbar : (s.get! x.i).toNat ≠ bar := fun e => hb (Or.inr e)
      by_cases h38 : (s.get! x.i).toNat = 38
      · exact char_ref h hs bar hi hbar h38
      · by_cases hok : (Ch.at2 s x.i).2 = 0
        · have e : x.char s bar = (x.fail 2 x.i, ⟨#[]⟩) := by unfold Sc.char; rw [if_pos hi, if_neg hb, if_neg h38, if_pos hok]
          rw [e]
          exact char_bad h hs bar hi h60 hbar h38 hok
        · have e : x.char s bar = ({ x with i := x.i + (Ch.at2 s x.i).2.toNat }, s.extract x.i (x.i + (Ch.at2 s x.i).2.toNat)) := by unfold Sc.char; rw [if_pos hi, if_neg hb, if_neg h38, if_neg hok]
          rw [e]
          exact char_one h hs bar hi h60 hbar h38 hok
  · have e : x.char s bar = (x.wrong s, ⟨#[]⟩) := by unfold Sc.char; rw [if_neg hi]
    rw [e]
    exact char_bar h hs bar (fun x => absurd x hi)
end Go.Proofs.YtbbocgeapofloaiGreatDoor
namespace Go.Proofs.YtbbocgeapofloaiGreatDoor
open Go.RowKit Go.Maps Go.Lib

variable {X : Nat} {w w' w'' wr : World} {s t : ByteArray} {lv : Value} {x x' : Sc}

/-- Do these bytes stand here? -/
def Sc.stands (x : Sc) (s t : ByteArray) : Bool := decide (x.i + t.size ≤ s.size) && ((s.extract x.i (x.i + t.size)).toList == t.toList)
/-- Characters up to these bytes, which are passed. -/
def untilF (s t : ByteArray) (frm : Nat) : Nat → Sc → Sc × ByteArray
  | 0, x => (x, ⟨#[]⟩)
  | f + 1, x => if x.err = 0 then
      (if x.stands s t = true then ({ x with i := x.i + t.size }, s.extract frm x.i)
      else if (Ch.at2 s x.i).2 = 0 then untilF s t frm f (x.wrong s)
      else untilF s t frm f { x with i := x.i + (Ch.at2 s x.i).2.toNat })
    else (x, ⟨#[]⟩)
def Sc.until (x : Sc) (s t : ByteArray) : Sc × ByteArray := untilF s t x.i (s.size + 2) x

def left (X : Nat) (n : Nat) (w : World) : Nat :=
  match w.cell? ⟨X, 5, none⟩, w.cell? ⟨X, 1, none⟩ with
  | some (.int _ e), some (.int _ i) => if e = 0 then n + 1 - i.toNat else 0
  | _, _ => 0
theorem left_eq (h : SAt X w s lv x) (n : Nat) : left X n w = if x.err = 0 then n + 1 - x.i else 0 := by
  have c1 : w.cell? ⟨X, 1, none⟩ = some (.int .i64 x.i) := h.cell 1 rfl
  have c5 : w.cell? ⟨X, 5, none⟩ = some (.int .i64 x.err) := h.cell 5 rfl
  simp only [left, c1, c5, Int.toNat_natCast]

theorem wrong_err (x : Sc) (s : ByteArray) (h : x.err = 0) : (x.wrong s).err ≠ 0 := by
  unfold Sc.wrong Sc.fail
  rw [if_pos h]
  repeat' split
  all_goals simp

structure UI (X : Nat) (w : World) (s t : ByteArray) (lv : Value) (frm : Nat) (y : Sc × ByteArray) (wr : World) (x : Sc) (f : Nat) : Prop where
  se : SE X w s lv x wr
  le : x.err = 0 → x.i ≤ s.size
  ge : frm ≤ x.i
  eq : untilF s t frm f x = y
  fuel : x.err = 0 → s.size + 1 < x.i + f

set_option maxHeartbeats 4000000 in
set_option maxRecDepth 10000 in
theorem until_sc (h : SAt X w s lv x) (hs : s.size ≤ 1125899906842624) (hi : x.err = 0 → x.i ≤ s.size) (t : ByteArray) (ht : t.size ≤ 1024) :
    Calls Tryz.prog 33 #[.pointer (some ⟨X, 0, none⟩), .string t] w fun en w' => en = .returned (.string (x.until s t).2) ∧ SE X w s lv (x.until s t).1 w' := by
  have h0 : UI X w s t lv x.i (x.until s t) w x (s.size + 2) := ⟨SE.refl h, hi, Nat.le_refl _, rfl, fun _ => by omega⟩
  have c1 : w.cell? ⟨X, 1, none⟩ = some (.int .i64 x.i) := h.cell 1 rfl
  generalize x.until s t = y at *
  have H0 := hide h0
  have hat := fun i (hi : i ≤ s.size) w => At_any s i w hs hi
  have hwrg := fun W x' (b : SAt X W s lv x') => wrong_sc b hs
  have HW := hide hwrg
  have HAT := hide hat
  clear h h0 hi hat hwrg
  generalize x.i = frm at *
  go_enter Tryz.func33, Tryz.ntmps33
  go_wp2_with fail
  go_loopw [6, 7] (fun _ _ wr => ∃ x' f, UI X w s t lv frm y wr x' f) (fun _ _ wr => left X s.size wr)
  case atStart => exact ⟨_, _, H0.out⟩
  case round =>
    obtain ⟨x', f, u⟩ := hrel
    have c0 : wr.cell? ⟨X, 0, none⟩ = some (.string s) := u.se.1.cell 0 rfl
    have d1 : wr.cell? ⟨X, 1, none⟩ = some (.int .i64 x'.i) := u.se.1.cell 1 rfl
    have c5 : wr.cell? ⟨X, 5, none⟩ = some (.int .i64 x'.err) := u.se.1.cell 5 rfl
    have f1 := u.se.1.free 1
    have hleft := left_eq u.se.1 s.size
    by_cases he : x'.err = 0
    · have e0 : (x'.err == 0) = true := by simpa using he
      have hle := u.le he
      have hfu := u.fuel he
      obtain ⟨g, rfl⟩ : ∃ g, f = g + 1 := ⟨f - 1, by omega⟩
      have heq := u.eq
      unfold untilF at heq
      rw [if_pos he] at heq
      rw [if_pos he] at hleft
      have hwr : IntKind.i64.wrap ((x'.i : Int) + t.size) = (x'.i : Int) + t.size := by rw [IntKind.wrap_i64]; omega
      cases hst : x'.stands s t
      · rw [hst] at heq
        simp only [Bool.false_eq_true, if_false] at heq
        have hcase : decide ((x'.i : Int) + t.size ≤ s.size) = false ∨ (x'.i + t.size ≤ s.size ∧ decide ((x'.i : Int) + t.size ≤ s.size) = true ∧ ((s.extract x'.i (x'.i + t.size)).toList == t.toList) = false) := by
          by_cases hin : x'.i + t.size ≤ s.size
          · refine Or.inr ⟨hin, by simp only [decide_eq_true_eq]; omega, ?_⟩
            simpa [Sc.stands, hin] using hst
          · exact Or.inl (by simp only [decide_eq_false_iff_not]; omega)
        have hcall := HAT.out x'.i hle
        have U := hide u
        have hxi : ∃ n : Nat, (Ch.at2 s x'.i).2 = n ∧ x'.i + n ≤ s.size := by
          unfold Ch.at2
          split
          · rename_i hh; exact ⟨_, rfl, (Ch.decode_width s x'.i hh.1).1⟩
          · exact ⟨0, rfl, hle⟩
        obtain ⟨n, en, hnl⟩ := hxi
        rw [en] at hcall heq
        generalize (Ch.at2 s x'.i).1 = a1 at *
        clear u en hst
        by_cases hz : n = 0
        · subst hz
          have heq2 : untilF s t frm g (x'.wrong s) = y := by rw [← heq]; simp
          clear heq
          have heq := heq2
          clear heq2
          have hwe := wrong_err x' s he
          clear he
          have hwr0 : IntKind.i64.wrap ((x'.i : Int) + 0) = (x'.i : Int) + 0 := by rw [IntKind.wrap_i64]; omega
          have HEQ := hide heq
          have HWE := hide hwe
          clear heq hwe
          rcases hcase with hA | ⟨hin, hA, hB⟩
          all_goals
            go_wp2_with fail
            go_quiet (fail)
            go_wp2_with fail
            go_region_held3 (fun W => W.cell? ⟨X, 0, none⟩ = some (.string s) ∧ W.cell? ⟨X, 1, none⟩ = some (.int .i64 x'.i))
              (first | exact ⟨c0, d1⟩)
              (first | (go_at_call 41; refine (hcall _).mono ?_; rintro e w3 ⟨rfl, hw3⟩; have hw4 := hw3.symm; clear hw3; subst hw4))
            all_goals
              go_wp2_with fail
              refine (HW.out _ x' (U.out.se.drewN _).1).mono ?_
              rintro e w4 ⟨rfl, r4⟩
              have h9 : w4.cell? ⟨X, 1, none⟩ = some (.int .i64 (x'.wrong s).i) := r4.1.cell 1 rfl
              rw [wrong_i] at h9
              have q1 := r4.1.free 1
              have ex : (x'.i : Int) = ((x'.wrong s).i : Int) := by rw [wrong_i]
              have R9 := hide (((U.out.se.drewN _).on r4).set (x' := x'.wrong s) 1 (.int .i64 x'.i) (by rw [ex]; rfl))
              clear r4 ex
              go_wp2
              go_roundw
              case rel => exact ⟨x'.wrong s, g, R9.out, fun e => absurd e HWE.out, by rw [wrong_i]; exact U.out.ge, HEQ.out, fun e => absurd e HWE.out⟩
              case measure =>
                rw [left_eq R9.out.1 s.size, if_neg HWE.out, hleft]
                omega
        · have heq2 : untilF s t frm g { x' with i := x'.i + n } = y := by
            rw [← heq, if_neg (by omega), Int.toNat_natCast]
          have hn0 : ((n : Int) == 0) = false := by simp only [beq_eq_false_iff_ne, ne_eq]; omega
          have hwrn : IntKind.i64.wrap ((x'.i : Int) + n) = (x'.i : Int) + n := by rw [IntKind.wrap_i64]; omega
          have HEQ := hide heq2
          have HE := hide he
          clear heq heq2 he
          rcases hcase with hA | ⟨hin, hA, hB⟩
          all_goals
            go_wp2_with fail
            go_quiet (fail)
            go_wp2_with fail
            go_region_held3 (fun W => W.cell? ⟨X, 0, none⟩ = some (.string s) ∧ W.cell? ⟨X, 1, none⟩ = some (.int .i64 x'.i))
              (first | exact ⟨c0, d1⟩)
              (first | (go_at_call 41; refine (hcall _).mono ?_; rintro e w3 ⟨rfl, hw3⟩; have hw4 := hw3.symm; clear hw3; subst hw4))
            all_goals
              go_wp2
              go_roundw
              case rel =>
                refine ⟨{ x' with i := x'.i + n }, g, ?_, fun _ => hnl, by have := U.out.ge; show frm ≤ x'.i + n; omega, HEQ.out, fun _ => by show s.size + 1 < x'.i + n + g; omega⟩
                exact (U.out.se.drewN _).set (x' := { x' with i := x'.i + n }) 1 (.int .i64 ((x'.i : Int) + n)) (by show _ = scCells s lv { x' with i := x'.i + n }; simp [scCells])
              case measure =>
                have R9 := (U.out.se.drewN (nq + 1)).set (x' := { x' with i := x'.i + n }) 1 (.int .i64 ((x'.i : Int) + n)) (by show _ = scCells s lv { x' with i := x'.i + n }; simp [scCells])
                rw [left_eq R9.1 s.size, if_pos HE.out, hleft]
                show s.size + 1 - (x'.i + n) < _
                omega
      · rw [hst] at heq
        simp only [if_true] at heq
        simp only [Sc.stands, Bool.and_eq_true, decide_eq_true_eq] at hst
        obtain ⟨hin, hsame⟩ := hst
        have hinI : decide ((x'.i : Int) + t.size ≤ s.size) = true := by simp only [decide_eq_true_eq]; omega
        have U := hide u
        clear u
        subst heq
        have R8 := hide (fun m => (U.out.se.drewN m).set (x' := { x' with i := x'.i + t.size }) 1 (.int .i64 ((x'.i : Int) + t.size)) (by show _ = scCells s lv { x' with i := x'.i + t.size }; simp [scCells]))
        have g0 : ∀ m, ((wr.drewN m).setCell ⟨X, 1, none⟩ (.int .i64 ((x'.i : Int) + t.size))).cell? ⟨X, 0, none⟩ = some (.string s) := fun m => (R8.out m).1.cell 0 rfl
        have g1 : ∀ m, ((wr.drewN m).setCell ⟨X, 1, none⟩ (.int .i64 ((x'.i : Int) + t.size))).cell? ⟨X, 1, none⟩ = some (.int .i64 ((x'.i : Int) + t.size)) := fun m => by
          have h9 : ((wr.drewN m).setCell ⟨X, 1, none⟩ (.int .i64 ((x'.i : Int) + t.size))).cell? ⟨X, 1, none⟩ = some (.int .i64 ((x'.i + t.size : Nat) : Int)) := (R8.out m).1.cell 1 rfl
          rw [Int.natCast_add] at h9
          exact h9
        have hfr := U.out.ge
        clear he
        go_wp2_with fail
        go_quiet (fail)
        go_wp2_with fail
        go_quiet (fail)
        go_wp2
        go_ret
        exact ⟨rfl, (R8.out _).drewN _⟩
    · have e0 : (x'.err == 0) = false := by simpa using he
      have hy : y = (x', ⟨#[]⟩) := by
        rw [← u.eq]
        cases f with
        | zero => rfl
        | succ f => unfold untilF; rw [if_neg he]
      subst hy
      have U := hide u
      clear u
      go_wp2
      go_ret
      exact ⟨rfl, U.out.se⟩
end Go.Proofs.YtbbocgeapofloaiGreatDoor
namespace Go.Proofs.YtbbocgeapofloaiGreatDoor
open Go.RowKit Go.Maps Go.Lib

variable {X : Nat} {w w' w'' wr : World} {s t : ByteArray} {lv : Value} {x x' : Sc}

/-- More text, which begins at. -/
def Sc.texted (x : Sc) (t : ByteArray) (a : Int) : Sc := { x with more := x.more ++ t.data.toList, frm := if x.more = [] then a else x.frm }

theorem strV_add (l : List UInt8) (t : ByteArray) : (⟨l.toArray⟩ : ByteArray) ++ t = ⟨(l ++ t.data.toList).toArray⟩ := by
  apply ByteArray.ext
  apply Array.ext'
  simp [ByteArray.data_append]

set_option maxHeartbeats 2000000 in
theorem texted_sc (h : SAt X w s lv x) (t : ByteArray) (a : Int) (hz : x.more.length + t.size ≤ 1125899906842624) : Calls Tryz.prog 21 #[.pointer (some ⟨X, 0, none⟩), .string t, .int .i64 a] w fun en w' => en = .returned (.tuple #[]) ∧ SE X w s lv (x.texted t a) w' := by
  have c3 : w.cell? ⟨X, 3, none⟩ = some (.string ⟨x.more.toArray⟩) := h.cell 3 rfl
  have c4 : w.cell? ⟨X, 4, none⟩ = some (.int .i64 x.frm) := h.cell 4 rfl
  have f3 := h.free 3
  have f4 := h.free 4
  have hsz : (⟨x.more.toArray⟩ : ByteArray).size = x.more.length := by show x.more.toArray.size = _; simp
  have hadd := fun w => run_string_add_sum (P := Tryz.prog) w ⟨x.more.toArray⟩ t (by rw [hsz]; omega)
  simp only [strV_add] at hadd
  unfold Sc.texted
  by_cases hm : x.more = []
  · rw [if_pos hm]
    have H := hide (((SE.refl h).set (x' := { x with frm := a }) 4 (.int .i64 a) rfl).set (x' := { x with frm := a, more := x.more ++ t.data.toList }) 3 (.string ⟨(x.more ++ t.data.toList).toArray⟩) rfl)
    have he : x.more.isEmpty = true := by rw [hm]; rfl
    clear h hm
    go_enter Tryz.func21, Tryz.ntmps21
    go_wp2
    go_end0
    exact ⟨rfl, H.out⟩
  · rw [if_neg hm]
    have H := hide ((SE.refl h).set (x' := { x with more := x.more ++ t.data.toList }) 3 (.string ⟨(x.more ++ t.data.toList).toArray⟩) rfl)
    have he : x.more.isEmpty = false := by
      cases hl : x.more with
      | nil => exact absurd hl hm
      | cons a l => rfl
    clear h hm
    go_enter Tryz.func21, Tryz.ntmps21
    go_wp2
    go_end0
    exact ⟨rfl, H.out⟩

/-- The characters of a value, up to its quote. -/
def valF (s : ByteArray) (q : Nat) : Nat → Sc → List UInt8 → Sc × List UInt8
  | 0, x, t => (x, t)
  | f + 1, x, t => if x.err = 0 ∧ x.is s q = false then valF s q f (x.char s q).1 (t ++ (x.char s q).2.data.toList) else (x, t)
/-- A value. -/
def Sc.value (x : Sc) (s : ByteArray) : Sc × List UInt8 :=
  if x.is s 34 = true ∨ x.is s 39 = true then
    ({ (valF s (s.get! x.i).toNat (s.size + 2) { x with i := x.i + 1 } []).1 with i := (valF s (s.get! x.i).toNat (s.size + 2) { x with i := x.i + 1 } []).1.i + 1 }, (valF s (s.get! x.i).toNat (s.size + 2) { x with i := x.i + 1 } []).2)
  else (x.wrong s, [])
end Go.Proofs.YtbbocgeapofloaiGreatDoor
