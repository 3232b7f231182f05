import Derived.Laws.StructEq
import Derived.BigQuiet
import Derived.Deep.QuietTactic
import Derived.Deep.RegionHeld3
import Derived.Deep.RegionLaw
import Derived.Test.YtfolnkmbdmfigaaGreatDoorGak
import Derived.Test.YtfolnkmbdmfigaaGreatDoorGah
set_option linter.unusedVariables false
set_option linter.unusedSimpArgs false
namespace Go.Proofs.YtfolnkmbdmfigaaGreatDoor
open Go.RowKit Go.Maps Go.Lib
variable {F F' G A B : Nat → Prop} {R : Nat} {w w' w'' wr w1 : World} {s s' : Src} {p : Ptr} {st : St} {c : Int} {a : Addr} {pt : Part} {v v1 v2 : Value} {m : Rd} {N n : Nat} {r : PR} {l l1 l2 : List Tok}
theorem blk_lt {k : Nat} {o : Obj} (h : w.heap[k]? = some o) : k < w.heap.size := (Array.getElem?_eq_some_iff.1 h).1
theorem Ans.old (h : Ans A w v l) (hk : ∀ k, k < w.heap.size → A k → w'.heap[k]? = w.heap[k]?) (hA : ∀ k, k < w.heap.size → A k → B k) : Ans B w' v l := by
  obtain ⟨cs, h1, h2, h3⟩ := h
  refine ⟨cs, owns_of h1 fun k e => ?_, h2.frame fun k n xs v ho hv a b c => ?_, fun k e => ?_⟩
  · obtain ⟨cur, hc⟩ := owns_blk h1 e
    exact hk k (blk_lt hc) (h3 k e)
  · obtain ⟨cur, hc⟩ := owns_blk ho hv
    exact ⟨hk k (blk_lt hc) a, hA k (blk_lt hc) a, c⟩
  · obtain ⟨cur, hc⟩ := owns_blk h1 e
    exact hA k (blk_lt hc) (h3 k e)
theorem ans_append (h1 : Ans A w v1 l1) (h2 : Ans B w v2 l2) (hb : l1.length + l2.length ≤ 68719476736) :
    ∃ v' w', (Builtin.append_ #[47, 47] 47 #[v1, v2]).run Tryz.prog w = .ok v' w' ∧ Ans (fun k => A k ∨ B k ∨ k = w.heap.size) w' v' (l1 ++ l2) ∧ w.grownBy w' v1.ownBlock := by
  obtain ⟨cs1, o1, t1, a1⟩ := h1
  obtain ⟨cs2, o2, t2, a2⟩ := h2
  have o2' := o2
  rcases o2'.2 with ⟨rfl, hn⟩ | ⟨g, cap, cur, rfl, hbb, hg, hc, hm, hcs, htk⟩
  · have hl : l2 = [] := List.eq_nil_of_length_eq_zero hn
    subst hl
    have hv : ∃ b n c, v1 = .slice b n c ∧ n ≤ c := by
      rcases o1.2 with ⟨rfl, hn⟩ | ⟨g, cap, cur, rfl, hbb, hg, hc, hm, hcs, htk⟩
      · exact ⟨none, 0, 0, rfl, Nat.le_refl _⟩
      · exact ⟨_, _, _, rfl, hc⟩
    obtain ⟨b, n, c, rfl, hnc⟩ := hv
    refine ⟨_, w, app_nil b n c hnc w, ?_, ⟨rfl, rfl, rfl, Nat.le_refl _, fun _ _ _ => rfl⟩⟩
    rw [List.append_nil]
    exact Ans.old ⟨cs1, o1, t1, a1⟩ (fun _ _ _ => rfl) (fun _ _ x => Or.inl x)
  · obtain ⟨i0, hi, hz0, hz1, hz2⟩ := info_parts info49
    have hcell : ∀ j u, cs2[j]? = some u → w.cell? ((⟨g, 0, none⟩ : Addr).add j) = some u := by
      intro j u hj
      rw [Addr.add_mid, Nat.zero_add]
      refine cell_of hg ?_
      rw [← htk, List.getElem?_take] at hj
      split at hj
      · simpa using hj
      · cases hj
    obtain ⟨v', w', hr, ho, hgr, _, hat⟩ := run_append_own_at (P := Tryz.prog) w 0 47 47 56 i0 _ 5 72 Tryz.underlying47 hi hz0 hz1 hz2 rfl (by decide) v1 l1.length cs1 o1 ⟨g, 0, none⟩ l2.length cap cs2 o2.1 hcell t2.one (by unfold maxLen; omega) (by omega) (Nat.zero_le _)
    refine ⟨v', w', hr, ⟨cs1 ++ cs2, ?_, ?_, ?_⟩, hgr⟩
    · rw [List.length_append]; exact ho
    · have keep : ∀ {D : Nat → Prop} {l : List Tok} {cs : List Value}, Toks D 0 w nilS l cs → (∀ k, D k → (A k ∨ B k ∨ k = w.heap.size)) → Toks (fun k => A k ∨ B k ∨ k = w.heap.size) 0 w' nilS l cs := by
        intro D l cs h hD
        refine h.frame fun k n xs v ho' hv a b c => ⟨?_, hD k a, c⟩
        obtain ⟨cur', hc'⟩ := owns_blk ho' hv
        refine hgr.block k (blk_lt hc') (fun e => ?_)
        obtain ⟨cur1, hc1⟩ := owns_blk o1 e.symm
        rw [hc'] at hc1
        simp only [Option.some.injEq, Obj.cells.injEq] at hc1
        exact absurd hc1.2.1 (by decide)
      exact (keep t1 (fun _ x => Or.inl x)).app (keep t2 (fun _ x => Or.inr (Or.inl x)))
    · intro k e
      rcases hat with h | h
      · exact Or.inl (a1 k (h ▸ e))
      · rw [e] at h
        simp only [Option.some.injEq] at h
        exact Or.inr (Or.inr h)
def allP (b : ByteArray) : List Tok × Int × Int :=
  if (PR.new.write b).1.close.1.err.1 ≠ 0 then ([], (PR.new.write b).1.close.1.err.1, (PR.new.write b).1.close.1.err.2)
  else ((PR.new.write b).2 ++ (PR.new.write b).1.close.2, 0, 0)
end Go.Proofs.YtfolnkmbdmfigaaGreatDoor

namespace Go.Proofs.YtfolnkmbdmfigaaGreatDoor
open Go.RowKit Go.Maps Go.Lib
variable {F F' G A B : Nat → Prop} {R : Nat} {w w' w'' wr w1 : World} {s s' : Src} {p : Ptr} {st : St} {c : Int} {a : Addr} {pt : Part} {v v1 v2 : Value} {m : Rd} {N n : Nat} {r : PR} {l l1 l2 : List Tok}
theorem Frame.up {K : Nat} (fr : Frame F w w') (hF : ∀ k, F k → K ≤ k) (hK : K ≤ w.heap.size) : Below K w w' :=
  ⟨fr.os, fr.tape, fr.output, fr.size, fun k hk => fr.block k (by omega) (fun x => by have := hF k x; omega)⟩
theorem grown_up {K : Nat} {row : Option Nat} (g : w.grownBy w' row) (hr : ∀ k, row = some k → K ≤ k) (hK : K ≤ w.heap.size) : Below K w w' :=
  ⟨g.os, g.tape, g.output, g.size, fun k hk => g.block k (by omega) (fun e => by have := hr k e.symm; omega)⟩
theorem below_less {K K' : Nat} (h : Below K w w') (hK : K' ≤ K) : Below K' w w' := ⟨h.os, h.tape, h.output, h.size, fun k hk => h.block k (by omega)⟩
theorem both_end {x y : PR × List Tok} {F1 F2 A1 A2 : Nat → Prop} {K : Nat} {w2 w3 : World} (hK : K ≤ w2.heap.size) (an1 : Ans A1 w2 v1 x.2) (hA1 : ∀ k, A1 k → K ≤ k ∧ k < w2.heap.size ∧ ¬ F1 k) (hF1 : ∀ k, F1 k → K ≤ k)
    (an2 : Ans A2 w3 v2 y.2) (al2 : Alive F2 R w3 y.1) (fr2 : Frame F1 w2 w3) (g1 : ∀ k, A2 k → Grow F1 w2 w3 k ∧ ¬ F2 k) (g2 : ∀ k, F2 k → Grow F1 w2 w3 k) (hb : x.2.length + y.2.length ≤ 68719476736) :
    ∃ v' w4 A, (Builtin.append_ #[47, 47] 47 #[v1, v2]).run Tryz.prog w3 = .ok v' w4 ∧ Ans A w4 v' (x.2 ++ y.2) ∧ Alive F2 R w4 y.1 ∧ Below K w2 w4 ∧ (∀ k, A k → K ≤ k ∧ ¬ F2 k) ∧ (∀ k, F2 k → K ≤ k) := by
  have an1' : Ans A1 w3 v1 x.2 := an1.old (fun k hk hA => fr2.block k hk (hA1 k hA).2.2) (fun _ _ x => x)
  obtain ⟨v', w4, hrun, an4, gr⟩ := ans_append an1' an2 hb
  have hz := fr2.size
  have hF2 : ∀ k, F2 k → K ≤ k := fun k hk => (g2 k hk).elim (hF1 k) (fun x => by omega)
  have hr : ∀ k, v1.ownBlock = some k → A1 k := fun k e => by obtain ⟨cs, _, _, h⟩ := an1'; exact h k e
  have hsep : ∀ k, A1 k → ¬ F2 k := fun k hA hF => (g2 k hF).elim (hA1 k hA).2.2 (fun x => by have := (hA1 k hA).2.1; omega)
  have hlt : ∀ k, F2 k → k < w3.heap.size := fun k hk => by obtain ⟨_, _, rep, _⟩ := al2; exact rep.lt k hk
  refine ⟨v', w4, fun k => A1 k ∨ A2 k ∨ k = w3.heap.size, hrun, an4, al2.keep (fun k hk => gr.block k (hlt k hk) (fun e => hsep k (hr k e.symm) hk)) gr.size, (fr2.up hF1 hK).trans ((grown_up gr (fun k e => (hA1 k (hr k e)).1) (by omega))), ?_, hF2⟩
  rintro k (h | h | h)
  · exact ⟨(hA1 k h).1, hsep k h⟩
  · exact ⟨(g1 k h).1.elim (hF1 k) (fun x => by omega), (g1 k h).2⟩
  · exact ⟨by omega, fun x => by have := hlt k x; omega⟩
theorem gl_alloc (gl : Gl w a) (o : Obj) : Gl (w.alloc o) a := gl.frame (F := fun _ => False) (Frame.below ((Below.refl _ _).alloc (Nat.le_refl _) _)) (fun _ _ x => x)
theorem wpList_app {ops : Array Oper} {rest : List Oper} {o : Oper} {a : Act} {w : World} {Q : Exit → Act → World → Prop} (hgd : o.guard = none) (s x : Operand) (ho : o.op = Op.call { callee := Callee.builtin Builtin.append, args := #[s, x], argTypes := #[47, 47] }) (hty : o.type = 47)
    (v1 v2 : Value) (hs : a.eval s = v1) (hx : a.eval x = v2) {v' : Value} {w' : World} (hr : (Builtin.append_ #[47, 47] 47 #[v1, v2]).run Tryz.prog w = .ok v' w') (h : wpList Tryz.prog ops Q rest (a.put o.dst v') w') : wpList Tryz.prog ops Q (o :: rest) a w := by
  refine wpList_plain hgd fun K hK => ?_
  unfold Oper.wp execOp
  simp only [ho, hty, resolve, invoke, builtin, Sem.run_bind, Sem.run_pure, Result.andThen_ok, List.map_toArray, List.map_cons, List.map_nil, hs, hx, hr]
  exact hK _ _ h
end Go.Proofs.YtfolnkmbdmfigaaGreatDoor

namespace Go.Proofs.YtfolnkmbdmfigaaGreatDoor
open Go.RowKit Go.Maps Go.Lib
variable {F F' G A B : Nat → Prop} {R : Nat} {w w' w'' wr w1 : World} {a : Addr} {v v1 v2 : Value} {N n : Nat} {l l1 l2 : List Tok}
def tokV (t : Tok) (v : Value) : Value := .agg #[.int .i64 t.kind, strV t.name, v, strV t.text, .int .i64 t.at_]
end Go.Proofs.YtfolnkmbdmfigaaGreatDoor

namespace Go.Proofs.YtfolnkmbdmfigaaGreatDoor
open Go.RowKit Go.Maps Go.Lib

structure Sc where
  i : Nat
  l : List Tok
  more : List UInt8
  frm : Int
  err : Int
  at_ : Int
def scCells (s : ByteArray) (lv : Value) (x : Sc) : Array Value := #[.string s, .int .i64 x.i, lv, strV x.more, .int .i64 x.frm, .int .i64 x.err, .int .i64 x.at_]
def SAt (X : Nat) (w : World) (s : ByteArray) (lv : Value) (x : Sc) : Prop := w.heap[X]? = some (.cells (scCells s lv x) 65 (0, 0))
structure But (X : Nat) (w w' : World) : Prop where
  os : w'.os = w.os
  tape : w'.tape = w.tape
  output : w'.output = w.output
  size : w.heap.size ≤ w'.heap.size
  block : ∀ k, k < w.heap.size → k ≠ X → w'.heap[k]? = w.heap[k]?
theorem But.refl (X : Nat) (w : World) : But X w w := ⟨rfl, rfl, rfl, Nat.le_refl _, fun _ _ _ => rfl⟩
theorem But.trans {X : Nat} {a b c : World} (h : But X a b) (k : But X b c) : But X a c :=
  ⟨k.os.trans h.os, k.tape.trans h.tape, k.output.trans h.output, Nat.le_trans h.size k.size, fun i hi hX => (k.block i (Nat.lt_of_lt_of_le hi h.size) hX).trans (h.block i hi hX)⟩
def SE (X : Nat) (w : World) (s : ByteArray) (lv : Value) (x : Sc) (w' : World) : Prop := SAt X w' s lv x ∧ But X w w'
variable {X : Nat} {w w' w'' : World} {s : ByteArray} {lv : Value} {x x' : Sc}
theorem SE.refl (h : SAt X w s lv x) : SE X w s lv x w := ⟨h, But.refl _ _⟩
theorem SE.on (h : SE X w s lv x w') (k : SE X w' s lv x' w'') : SE X w s lv x' w'' := ⟨k.1, h.2.trans k.2⟩
theorem SE.below (h : SE X w s lv x w') (hX : X < w.heap.size) (b : Below w'.heap.size w' w'') : SE X w s lv x w'' :=
  ⟨(b.block X (Nat.lt_of_lt_of_le hX h.2.size)).trans h.1, h.2.trans ⟨b.os, b.tape, b.output, b.size, fun k hk _ => b.block k hk⟩⟩
theorem SE.set (h : SE X w s lv x w') (i : Nat) (v : Value) (hc : (scCells s lv x).setIfInBounds i v = scCells s lv x') : SE X w s lv x' (w'.setCell ⟨X, i, none⟩ v) := by
  refine ⟨?_, h.2.trans ⟨rfl, rfl, rfl, by simp [World.setCell], fun k _ hX => Below.heap_setCell _ _ _ _ hX⟩⟩
  have := set_of (i := i) h.1 v
  rw [hc] at this
  exact this
theorem SAt.cell (h : SAt X w s lv x) (i : Nat) {v : Value} (hi : (scCells s lv x)[i]? = some v) : w.cell? ⟨X, i, none⟩ = some v := cell_of h hi
theorem SAt.free (h : SAt X w s lv x) (i : Nat) : w.frozen? ⟨X, i, none⟩ = false := free_of h
theorem SAt.lt (h : SAt X w s lv x) : X < w.heap.size := (Array.getElem?_eq_some_iff.1 h).1
def Sc.fail (x : Sc) (e a : Int) : Sc := if x.err = 0 then { x with err := e, at_ := a } else x
theorem fail_sc (h : SAt X w s lv x) (e a : Int) : Calls Tryz.prog 74 #[.pointer (some ⟨X, 0, none⟩), .int .i64 e, .int .i64 a] w fun en w' => en = .returned (.tuple #[]) ∧ SE X w s lv (x.fail e a) w' := by
  have c5 : w.cell? ⟨X, 5, none⟩ = some (.int .i64 x.err) := h.cell 5 rfl
  have c6 : w.cell? ⟨X, 6, none⟩ = some (.int .i64 x.at_) := h.cell 6 rfl
  have f5 := h.free 5
  have f6 := h.free 6
  unfold Sc.fail
  by_cases h0 : x.err = 0
  · have e0 : (x.err == 0) = true := by simpa using h0
    rw [if_pos h0]
    have H := hide (((SE.refl h).set (x' := { x with err := e }) 5 (.int .i64 e) rfl).set (x' := { x with err := e, at_ := a }) 6 (.int .i64 a) rfl)
    clear h h0
    go_enter Tryz.func74, Tryz.ntmps74
    go_wp2
    go_end0
    exact ⟨rfl, H.out⟩
  · have e0 : (x.err == 0) = false := by simpa using h0
    rw [if_neg h0]
    have H := hide (SE.refl h)
    clear h h0
    go_enter Tryz.func74, Tryz.ntmps74
    go_wp2
    go_end0
    exact ⟨rfl, H.out⟩
def Sc.wrong (x : Sc) (s : ByteArray) : Sc := if x.i < s.size then (if (Ch.at2 s x.i).2 = 0 then x.fail 2 x.i else x.fail 3 x.i) else x.fail 3 x.i
end Go.Proofs.YtfolnkmbdmfigaaGreatDoor

namespace Go.Proofs.YtfolnkmbdmfigaaGreatDoor
open Go.RowKit Go.Maps Go.Lib
variable {X : Nat} {w w' w'' : World} {s : ByteArray} {lv : Value} {x x' : Sc}
theorem SE.drewN (h : SE X w s lv x w') (n : Nat) : SE X w s lv x (w'.drewN n) := ⟨h.1, ⟨h.2.os, h.2.tape, h.2.output, h.2.size, h.2.block⟩⟩
theorem SAt.drewN (h : SAt X w s lv x) (n : Nat) : SAt X (w.drewN n) s lv x := h
set_option maxHeartbeats 2000000 in
theorem wrong_sc (h : SAt X w s lv x) (hs : s.size ≤ 1125899906842624) : Calls Tryz.prog 72 #[.pointer (some ⟨X, 0, none⟩)] w fun en w' => en = .returned (.tuple #[]) ∧ SE X w s lv (x.wrong s) w' := by
  have c0 : w.cell? ⟨X, 0, none⟩ = some (.string s) := h.cell 0 rfl
  have c1 : w.cell? ⟨X, 1, none⟩ = some (.int .i64 x.i) := h.cell 1 rfl
  unfold Sc.wrong
  by_cases hi : x.i < s.size
  · have hat := fun w => At_any s x.i w hs (by omega)
    rw [if_pos hi]
    by_cases hz : (Ch.at2 s x.i).2 = 0
    · have e0 : ((Ch.at2 s x.i).2 == 0) = true := by simpa using hz
      rw [if_pos hz]
      have hf := fun W (b : SE X w s lv x W) => fail_sc b.1 2 x.i
      have HF := hide hf
      have H := hide (SE.refl h)
      clear h hz hf
      generalize (Ch.at2 s x.i).1 = a1 at *
      generalize (Ch.at2 s x.i).2 = a2 at *
      go_enter Tryz.func72, Tryz.ntmps72
      go_wp2_with fail
      go_quiet (fail)
      have d0 : (w.drewN nq).cell? ⟨X, 0, none⟩ = some (.string s) := c0
      have d1 : (w.drewN nq).cell? ⟨X, 1, none⟩ = some (.int .i64 x.i) := c1
      go_wp2_with fail
      go_region_held3 (fun W => W.cell? ⟨X, 0, none⟩ = some (.string s) ∧ W.cell? ⟨X, 1, none⟩ = some (.int .i64 x.i))
        (first | exact ⟨d0, d1⟩)
        (first | (go_at_call 75; refine (hat _).mono ?_; rintro e w3 ⟨rfl, hw3⟩; have hw4 := hw3.symm; clear hw3; subst hw4))
      all_goals
        go_wp2_with fail
        refine (HF.out _ ((H.out.drewN nq).drewN 1)).mono ?_
        rintro e w3 ⟨rfl, r3⟩
        go_wp2
        first | go_end0 | refine bodyPost_ret (results_none rfl _ _ _) rfl ?_
        exact ⟨rfl, ((H.out.drewN nq).drewN 1).on r3⟩
    · have e0 : ((Ch.at2 s x.i).2 == 0) = false := by simpa using hz
      rw [if_neg hz]
      have hf := fun W (b : SE X w s lv x W) => fail_sc b.1 3 x.i
      have HF := hide hf
      have H := hide (SE.refl h)
      clear h hz hf
      generalize (Ch.at2 s x.i).1 = a1 at *
      generalize (Ch.at2 s x.i).2 = a2 at *
      go_enter Tryz.func72, Tryz.ntmps72
      go_wp2_with fail
      go_quiet (fail)
      have d0 : (w.drewN nq).cell? ⟨X, 0, none⟩ = some (.string s) := c0
      have d1 : (w.drewN nq).cell? ⟨X, 1, none⟩ = some (.int .i64 x.i) := c1
      go_wp2_with fail
      go_region_held3 (fun W => W.cell? ⟨X, 0, none⟩ = some (.string s) ∧ W.cell? ⟨X, 1, none⟩ = some (.int .i64 x.i))
        (first | exact ⟨d0, d1⟩)
        (first | (go_at_call 75; refine (hat _).mono ?_; rintro e w3 ⟨rfl, hw3⟩; have hw4 := hw3.symm; clear hw3; subst hw4))
      all_goals
        go_wp2_with fail
        refine (HF.out _ ((H.out.drewN nq).drewN 1)).mono ?_
        rintro e w3 ⟨rfl, r3⟩
        go_wp2
        first | go_end0 | refine bodyPost_ret (results_none rfl _ _ _) rfl ?_
        exact ⟨rfl, ((H.out.drewN nq).drewN 1).on r3⟩
  · rw [if_neg hi]
    have hf := fun W (b : SE X w s lv x W) => fail_sc b.1 3 x.i
    have HF := hide hf
    have H := hide (SE.refl h)
    clear h hf
    go_enter Tryz.func72, Tryz.ntmps72
    go_wp2_with fail
    go_quiet (fail)
    go_wp2_with fail
    refine (HF.out _ (H.out.drewN _)).mono ?_
    rintro e w3 ⟨rfl, r3⟩
    go_wp2
    go_end0
    exact ⟨rfl, (H.out.drewN _).on r3⟩
def Sc.is (x : Sc) (s : ByteArray) (c : Nat) : Bool := x.err == 0 && (decide (x.i < s.size) && (s.get! x.i).toNat == c)
set_option maxHeartbeats 2000000 in
theorem is_sc (h : SAt X w s lv x) (c : Nat) (hc : c < 256) : Calls Tryz.prog 65 #[.pointer (some ⟨X, 0, none⟩), .int .u8 c] w fun en w' => en = .returned (.bool (x.is s c)) ∧ Below w.heap.size w w' := by
  have c0 : w.cell? ⟨X, 0, none⟩ = some (.string s) := h.cell 0 rfl
  have c1 : w.cell? ⟨X, 1, none⟩ = some (.int .i64 x.i) := h.cell 1 rfl
  have c5 : w.cell? ⟨X, 5, none⟩ = some (.int .i64 x.err) := h.cell 5 rfl
  unfold Sc.is
  clear h
  by_cases h0 : x.err = 0
  · have e0 : (x.err == 0) = true := by simpa using h0
    by_cases hi : x.i < s.size
    · have hx : (decide (x.i < s.size)) = true := by simpa using hi
      rw [e0, hx, Bool.true_and, Bool.true_and]
      clear h0
      go_enter Tryz.func65, Tryz.ntmps65
      go_wp2_with fail
      go_quiet (fail)
      go_wp2
      go_ret
      refine ⟨?_, below_drewN (Below.refl _ _) _⟩
      show Ending.returned (.bool ((s[x.i].toNat : Int) == (c : Int))) = _
      have e : s[x.i] = s.get! x.i := (Utf8W.get!_of_lt s x.i hi).symm
      have e2 : ((s[x.i].toNat : Int) == (c : Int)) = ((s.get! x.i).toNat == c) := by rw [e, Bool.eq_iff_iff]; simp only [beq_iff_eq]; omega
      rw [e2]
    · have hx : (decide (x.i < s.size)) = false := by simpa using hi
      rw [e0, hx, Bool.true_and, Bool.false_and]
      clear h0
      go_enter Tryz.func65, Tryz.ntmps65
      go_wp2_with fail
      go_quiet (fail)
      go_wp2
      go_ret
      exact ⟨rfl, below_drewN (Below.refl _ _) _⟩
  · have e0 : (x.err == 0) = false := by simpa using h0
    rw [e0, Bool.false_and]
    clear h0
    go_enter Tryz.func65, Tryz.ntmps65
    go_wp2_with fail
    go_quiet (fail)
    go_wp2
    go_ret
    exact ⟨rfl, below_drewN (Below.refl _ _) _⟩
end Go.Proofs.YtfolnkmbdmfigaaGreatDoor

namespace Go.Proofs.YtfolnkmbdmfigaaGreatDoor
open Go.RowKit Go.Maps Go.Lib
variable {X : Nat} {w w' w'' wr : World} {s t : ByteArray} {lv : Value} {x x' : Sc}
def Sc.mustL (s : ByteArray) : List UInt8 → Sc → Sc
  | [], x => x
  | c :: l, x => if x.err = 0 then (if x.is s c.toNat = true then Sc.mustL s l { x with i := x.i + 1 } else Sc.mustL s l (x.wrong s)) else x
theorem mustL_err (s : ByteArray) (l : List UInt8) (h : x.err ≠ 0) : Sc.mustL s l x = x := by
  cases l with
  | nil => rfl
  | cons c l => simp [Sc.mustL, h]
theorem SE.fromBelow (h : SAt X w s lv x) (b : Below w.heap.size w w') : SE X w s lv x w' := (SE.refl h).below h.lt b
def drp (t : ByteArray) (k : Nat) : List UInt8 := t.data.toList.drop k
theorem drp_cons (t : ByteArray) (k : Nat) (h : k < t.size) : drp t k = t.get! k :: drp t (k + 1) := by
  unfold drp
  have h' : k < t.data.toList.length := by simpa using h
  rw [List.drop_eq_getElem_cons h']
  congr 1
  show t.data.toList[k] = t.data[k]!
  rw [getElem!_pos t.data k h, Array.getElem_toList]
theorem drp_nil (t : ByteArray) (k : Nat) (h : ¬ k < t.size) : drp t k = [] := by
  unfold drp
  exact List.drop_eq_nil_of_le (by simpa using h)
theorem fail_i (x : Sc) (e a : Int) : (x.fail e a).i = x.i := by unfold Sc.fail; split <;> rfl
theorem wrong_i (x : Sc) (s : ByteArray) : (x.wrong s).i = x.i := by unfold Sc.wrong; repeat' split
                                                                     all_goals exact fail_i _ _ _
theorem is_lt {c : Nat} (h : x.is s c = true) : x.i < s.size := by
  simp [Sc.is] at h; exact h.2.1
set_option maxHeartbeats 4000000 in
set_option maxRecDepth 10000 in
theorem must_sc (h : SAt X w s lv x) (hs : s.size ≤ 1125899906842624) (hi : x.i ≤ s.size) (t : ByteArray) (ht : t.size ≤ 1125899906842624) : Calls Tryz.prog 66 #[.pointer (some ⟨X, 0, none⟩), .string t] w fun en w' => en = .returned (.tuple #[]) ∧ SE X w s lv (Sc.mustL s (drp t 0) x) w' := by
  have h0 : ∃ (k : Nat) (x' : Sc), (Value.int .i64 0) = .int .i64 k ∧ k ≤ t.size ∧ x'.i ≤ s.size ∧ SE X w s lv x' w ∧ Sc.mustL s (drp t k) x' = Sc.mustL s (drp t 0) x := ⟨0, x, rfl, Nat.zero_le _, hi, SE.refl h, rfl⟩
  generalize Sc.mustL s (drp t 0) x = y at *
  have H0 := hide h0
  clear h h0 hi
  go_enter Tryz.func66, Tryz.ntmps66
  go_wp2_with fail
  go_loopw [4] (fun iv wr => ∃ (k : Nat) (x' : Sc), iv = .int .i64 k ∧ k ≤ t.size ∧ x'.i ≤ s.size ∧ SE X w s lv x' wr ∧ Sc.mustL s (drp t k) x' = y) (fun iv _ => t.size - (RowKit.intOf iv).toNat)
  case atStart => exact H0.out
  case round =>
    obtain ⟨k, x', rfl, hk, hi', se, heq⟩ := hrel
    have c1 : wr.cell? ⟨X, 1, none⟩ = some (.int .i64 x'.i) := se.1.cell 1 rfl
    have c5 : wr.cell? ⟨X, 5, none⟩ = some (.int .i64 x'.err) := se.1.cell 5 rfl
    by_cases hlt : k < t.size
    · rw [drp_cons t k hlt] at heq
      by_cases he : x'.err = 0
      · have e0 : (x'.err == 0) = true := by simpa using he
        have heq0 := heq
        unfold Sc.mustL at heq0
        rw [if_pos he] at heq0
        clear heq
        have heq := heq0
        clear heq0
        have hcall := is_sc se.1 (t.get! k).toNat (UInt8.toNat_lt _)
        have hgt : t[k] = t.get! k := (Utf8W.get!_of_lt t k hlt).symm
        have hlt1 := se.1.lt
        cases hb : x'.is s (t.get! k).toNat
        · rw [hb] at heq hcall
          simp only [Bool.false_eq_true, if_false] at heq
          have SEH := hide se
          have HEQ := hide heq
          have hwr := fun W (b : Below wr.heap.size wr W) => wrong_sc (SE.fromBelow se.1 b).1 hs
          have HWR := hide hwr
          clear se heq hwr hb
          go_wp2_with (first | (go_at_call 65; refine hcall.mono ?_; rintro e w1 ⟨rfl, b1⟩) | (go_at_call 72; refine (HWR.out _ b1).mono ?_; rintro e w2 ⟨rfl, r2⟩))
          go_roundw
          case rel => exact ⟨k + 1, _, by simp, by omega, by rw [wrong_i]; exact hi', (SEH.out.on (SE.fromBelow SEH.out.1 b1)).on r2, HEQ.out⟩
          case measure => simp only [RowKit.intOf]; omega
        · have hil := is_lt hb
          rw [hb] at heq hcall
          simp only [if_true] at heq
          have SEH := hide se
          have HEQ := hide heq
          have hwr : IntKind.i64.wrap ((x'.i : Int) + 1) = (x'.i : Int) + 1 := by rw [IntKind.wrap_i64]; omega
          clear se heq hb
          go_wp2_with (first | (go_at_call 65; refine hcall.mono ?_; rintro e w1 ⟨rfl, b1⟩; have R1 := hide (SEH.out.on (SE.fromBelow SEH.out.1 b1)); have d1 : w1.cell? ⟨X, 1, none⟩ = some (.int .i64 x'.i) := R1.out.1.cell 1 rfl; have g1 := R1.out.1.free 1))
          go_roundw
          case rel => exact ⟨k + 1, { x' with i := x'.i + 1 }, by simp, by omega, by show x'.i + 1 ≤ s.size; omega, R1.out.set 1 _ rfl, HEQ.out⟩
          case measure => simp only [RowKit.intOf]; omega
      · have e0 : (x'.err == 0) = false := by simpa using he
        have hy : y = x' := by rw [← heq]; simp [Sc.mustL, he]
        subst hy
        have SEH := hide se
        clear se heq he
        go_wp2
        go_end0
        exact ⟨rfl, SEH.out⟩
    · rw [drp_nil t k hlt] at heq
      have hy : x' = y := heq
      subst hy
      have SEH := hide se
      clear se heq
      go_wp2
      go_end0
      exact ⟨rfl, SEH.out⟩
end Go.Proofs.YtfolnkmbdmfigaaGreatDoor

namespace Go.Proofs.YtfolnkmbdmfigaaGreatDoor
open Go.RowKit Go.Maps Go.Lib
variable {X : Nat} {w w' w'' wr : World} {s t : ByteArray} {lv : Value} {x x' : Sc}
def isBlank (c : Nat) : Bool := c == 32 || c == 9 || c == 10 || c == 13
theorem blankR_any (c : Nat) (hc : c < 256) (w : World) : Calls Tryz.prog 76 #[.int .u8 c] w fun e w' => e = .returned (.bool (isBlank c)) ∧ w' = w := by
  unfold isBlank
  by_cases h1 : c = 32
  · subst h1
    go_enter Tryz.func76, Tryz.ntmps76
    go_wp2
    go_ret
    exact ⟨rfl, rfl⟩
  by_cases h2 : c = 9
  · subst h2
    go_enter Tryz.func76, Tryz.ntmps76
    go_wp2
    go_ret
    exact ⟨rfl, rfl⟩
  by_cases h3 : c = 10
  · subst h3
    go_enter Tryz.func76, Tryz.ntmps76
    go_wp2
    go_ret
    exact ⟨rfl, rfl⟩
  by_cases h4 : c = 13
  · subst h4
    go_enter Tryz.func76, Tryz.ntmps76
    go_wp2
    go_ret
    exact ⟨rfl, rfl⟩
  · have e1 : ((c : Int) == 32) = false := by simp only [beq_eq_false_iff_ne, ne_eq]; omega
    have e2 : ((c : Int) == 9) = false := by simp only [beq_eq_false_iff_ne, ne_eq]; omega
    have e3 : ((c : Int) == 10) = false := by simp only [beq_eq_false_iff_ne, ne_eq]; omega
    have e4 : ((c : Int) == 13) = false := by simp only [beq_eq_false_iff_ne, ne_eq]; omega
    have e5 : (c == 32 || c == 9 || c == 10 || c == 13) = false := by simp [h1, h2, h3, h4]
    rw [e5]
    go_enter Tryz.func76, Tryz.ntmps76
    go_wp2
    go_ret
    exact ⟨rfl, rfl⟩
def skip (s : ByteArray) : Nat → Nat → Nat
  | 0, _ => 0
  | f + 1, i => if i < s.size ∧ isBlank (s.get! i).toNat = true then skip s f (i + 1) + 1 else 0
def Sc.skip (x : Sc) (s : ByteArray) : Nat := if x.err = 0 then Go.Proofs.YtfolnkmbdmfigaaGreatDoor.skip s (s.size + 1) x.i else 0
def Sc.blanks (x : Sc) (s : ByteArray) : Sc := { x with i := x.i + x.skip s }
set_option maxHeartbeats 4000000 in
set_option maxRecDepth 10000 in
theorem blanks_sc (h : SAt X w s lv x) (hs : s.size ≤ 1125899906842624) (hi : x.err = 0 → x.i ≤ s.size) : Calls Tryz.prog 69 #[.pointer (some ⟨X, 0, none⟩)] w fun en w' => en = .returned (.int .i64 (x.skip s)) ∧ SE X w s lv (x.blanks s) w' := by
  by_cases he : x.err = 0
  · have hi' := hi he
    have hsk : x.skip s = skip s (s.size + 1) x.i := by unfold Sc.skip; rw [if_pos he]
    unfold Sc.blanks
    rw [hsk]
    have h0 : ∃ (k f : Nat), (Value.int .i64 0) = .int .i64 k ∧ x.i + k ≤ s.size ∧ SE X w s lv { x with i := x.i + k } w ∧ k + skip s f (x.i + k) = skip s (s.size + 1) x.i ∧ s.size < x.i + k + f := ⟨0, s.size + 1, rfl, hi', SE.refl h, by simp, by omega⟩
    have H0 := hide h0
    have e0 : (x.err == 0) = true := by simpa using he
    have hbl := blankR_any
    clear h h0 hi hsk
    generalize hm : skip s (s.size + 1) x.i = m at *
    go_enter Tryz.func69, Tryz.ntmps69
    go_wp2_with fail
    go_loopw [3] (fun nv wr => ∃ (k f : Nat), nv = .int .i64 k ∧ x.i + k ≤ s.size ∧ SE X w s lv { x with i := x.i + k } wr ∧ k + skip s f (x.i + k) = m ∧ s.size < x.i + k + f) (fun nv _ => s.size + 1 - (RowKit.intOf nv).toNat)
    case atStart => exact H0.out
    case round =>
      obtain ⟨k, f, rfl, hk, se, heq, hf⟩ := hrel
      have c0 : wr.cell? ⟨X, 0, none⟩ = some (.string s) := se.1.cell 0 rfl
      have c1 : wr.cell? ⟨X, 1, none⟩ = some (.int .i64 ((x.i + k : Nat) : Int)) := se.1.cell 1 rfl
      have c5 : wr.cell? ⟨X, 5, none⟩ = some (.int .i64 x.err) := se.1.cell 5 rfl
      generalize hj : x.i + k = j at *
      obtain ⟨f, rfl⟩ : ∃ g, f = g + 1 := ⟨f - 1, by omega⟩
      unfold skip at heq
      by_cases hlt : j < s.size
      · have hgt : s[j] = s.get! j := (Utf8W.get!_of_lt s j hlt).symm
        cases hb : isBlank (s.get! j).toNat
        · rw [if_neg (by rw [hb]; simp)] at heq
          have hm' : m = k := by omega
          subst hm'
          have hcall := fun w => hbl (s.get! j).toNat (UInt8.toNat_lt _) w
          rw [hb] at hcall
          have SEH := hide se
          clear se heq hbl
          go_wp2_with fail
          go_quiet (first | (go_at_call 76; refine Calls.quiet_of_same (hcall _)))
          go_wp2
          go_ret
          refine ⟨rfl, ?_⟩
          rw [hj]
          exact SEH.out.drewN _
        · rw [if_pos ⟨hlt, hb⟩] at heq
          have hcall := fun w => hbl (s.get! j).toNat (UInt8.toNat_lt _) w
          rw [hb] at hcall
          have hwr : IntKind.i64.wrap ((j : Int) + 1) = (j : Int) + 1 := by rw [IntKind.wrap_i64]; omega
          have hwk : IntKind.i64.wrap ((k : Int) + 1) = (k : Int) + 1 := by rw [IntKind.wrap_i64]; omega
          have f1 := se.1.free 1
          have SEH := hide se
          have HEQ := hide heq
          clear se heq hbl
          go_wp2_with fail
          go_quiet (first | (go_at_call 76; refine Calls.quiet_of_same (hcall _)))
          go_wp2
          go_roundw
          case rel =>
            have e1 : x.i + (k + 1) = j + 1 := by omega
            refine ⟨k + 1, f, by simp, by omega, ?_, by rw [e1]; have := HEQ.out; omega, by omega⟩
            rw [e1]
            have := (SEH.out.drewN nq).set (x' := { x with i := j + 1 }) 1 (.int .i64 ((j + 1 : Nat) : Int)) rfl
            simpa using this
          case measure => simp only [RowKit.intOf]; omega
      · rw [if_neg (by simp [hlt])] at heq
        have hm' : m = k := by omega
        subst hm'
        have SEH := hide se
        clear se heq hbl
        go_wp2_with fail
        go_quiet (fail)
        go_wp2
        go_ret
        refine ⟨rfl, ?_⟩
        rw [hj]
        exact SEH.out.drewN _
  · have hsk : x.skip s = 0 := by unfold Sc.skip; rw [if_neg he]
    unfold Sc.blanks
    rw [hsk]
    have e0 : (x.err == 0) = false := by simpa using he
    have c5 : w.cell? ⟨X, 5, none⟩ = some (.int .i64 x.err) := h.cell 5 rfl
    have H := hide (SE.refl h)
    clear h hi hsk he
    go_enter Tryz.func69, Tryz.ntmps69
    go_wp2_with fail
    refine wp_loop_rounds 1 ?_
    rw [rounds_succ]
    go_wp2_with fail
    go_quiet (fail)
    go_wp2
    go_ret
    exact ⟨rfl, H.out.drewN _⟩
end Go.Proofs.YtfolnkmbdmfigaaGreatDoor

namespace Go.Proofs.YtfolnkmbdmfigaaGreatDoor
open Go.RowKit Go.Maps Go.Lib
variable {X : Nat} {w w' w'' wr : World} {s t : ByteArray} {lv : Value} {x x' : Sc}
def Sc.nlen (x : Sc) (s : ByteArray) : Nat := Ch.name (s.extract x.i s.size)
def Sc.name (x : Sc) (s : ByteArray) : Sc × ByteArray :=
  if x.err = 0 then (if x.nlen s = 0 then (x.wrong s, ⟨#[]⟩) else ({ x with i := x.i + x.nlen s }, s.extract x.i (x.i + x.nlen s))) else (x, ⟨#[]⟩)
set_option maxHeartbeats 4000000 in
set_option maxRecDepth 10000 in
theorem name_sc (h : SAt X w s lv x) (hs : s.size ≤ 1125899906842624) (hi : x.err = 0 → x.i ≤ s.size) : Calls Tryz.prog 68 #[.pointer (some ⟨X, 0, none⟩)] w fun en w' => en = .returned (.string (x.name s).2) ∧ SE X w s lv (x.name s).1 w' := by
  have c0 : w.cell? ⟨X, 0, none⟩ = some (.string s) := h.cell 0 rfl
  have c1 : w.cell? ⟨X, 1, none⟩ = some (.int .i64 x.i) := h.cell 1 rfl
  have c5 : w.cell? ⟨X, 5, none⟩ = some (.int .i64 x.err) := h.cell 5 rfl
  have f1 := h.free 1
  unfold Sc.name
  by_cases he : x.err = 0
  · have hi' := hi he
    rw [if_pos he]
    have e0 : (x.err != 0) = false := by simpa using he
    have hnm := fun w => nameR_any (s.extract x.i s.size) w (by simp; omega)
    have hle : x.nlen s ≤ s.size - x.i := by
      have : Ch.name (s.extract x.i s.size) ≤ (s.extract x.i s.size).size := Ch.nameFrom_le _ _ 0 (Nat.zero_le _)
      unfold Sc.nlen
      simp at this
      omega
    have hd : Ch.name (s.extract x.i s.size) = x.nlen s := rfl
    rw [hd] at hnm
    clear hi
    by_cases hn : x.nlen s = 0
    · rw [if_pos hn]
      rw [hn] at hnm
      have hwr := fun W (b : SE X w s lv x W) => wrong_sc b.1 hs
      have H := hide (SE.refl h)
      have HW := hide hwr
      clear h hwr hd hle hn
      go_enter Tryz.func68, Tryz.ntmps68
      go_wp2_with fail
      go_quiet (first | (go_at_call 97; refine Calls.quiet_of_same (hnm _)))
      go_wp2_with fail
      refine (HW.out _ (H.out.drewN _)).mono ?_
      rintro e w3 ⟨rfl, r3⟩
      go_wp2
      go_ret
      exact ⟨rfl, (H.out.drewN _).on r3⟩
    · rw [if_neg hn]
      have e1 : ((x.nlen s : Int) == 0) = false := by simp only [beq_eq_false_iff_ne, ne_eq]; omega
      generalize x.nlen s = n at *
      have hwr : IntKind.i64.wrap ((x.i : Int) + n) = (x.i : Int) + n := by rw [IntKind.wrap_i64]; omega
      have H := hide (SE.refl h)
      clear h hd
      go_enter Tryz.func68, Tryz.ntmps68
      go_wp2_with fail
      go_quiet (first | (go_at_call 97; refine Calls.quiet_of_same (hnm _)))
      have R8 := hide ((H.out.drewN nq).set (x' := { x with i := x.i + n }) 1 (.int .i64 ((x.i : Int) + n)) (by show _ = scCells s lv { x with i := x.i + n }; simp [scCells]))
      have d0 : ((w.drewN nq).setCell ⟨X, 1, none⟩ (.int .i64 ((x.i : Int) + n))).cell? ⟨X, 0, none⟩ = some (.string s) := R8.out.1.cell 0 rfl
      have d1 : ((w.drewN nq).setCell ⟨X, 1, none⟩ (.int .i64 ((x.i : Int) + n))).cell? ⟨X, 1, none⟩ = some (.int .i64 ((x.i : Int) + n)) := by
        have h9 : ((w.drewN nq).setCell ⟨X, 1, none⟩ (.int .i64 ((x.i : Int) + n))).cell? ⟨X, 1, none⟩ = some (.int .i64 ((x.i + n : Nat) : Int)) := R8.out.1.cell 1 rfl
        rw [Int.natCast_add] at h9
        exact h9
      go_wp2_with fail
      go_quiet (fail)
      go_wp2
      go_ret
      exact ⟨rfl, R8.out.drewN _⟩
  · rw [if_neg he]
    have e0 : (x.err != 0) = true := by simpa using he
    have H := hide (SE.refl h)
    clear h hi
    go_enter Tryz.func68, Tryz.ntmps68
    go_wp2
    go_ret
    exact ⟨rfl, H.out⟩
end Go.Proofs.YtfolnkmbdmfigaaGreatDoor

namespace Go.Proofs.YtfolnkmbdmfigaaGreatDoor
open Go.RowKit Go.Maps Go.Lib
variable {X : Nat} {w w' w'' wr : World} {s t : ByteArray} {lv : Value} {x x' : Sc}
def Sc.char (x : Sc) (s : ByteArray) (bar : Nat) : Sc × ByteArray :=
  if x.i < s.size then
    if (s.get! x.i).toNat = 60 ∨ (s.get! x.i).toNat = bar then (x.wrong s, ⟨#[]⟩)
    else if (s.get! x.i).toNat = 38 then
      (if (refR s x.i).2 < 0 then (x.fail 4 x.i, ⟨#[]⟩) else ({ x with i := (refR s x.i).2.toNat }, ⟨(refR s x.i).1.toArray⟩))
    else if (Ch.at2 s x.i).2 = 0 then (x.fail 2 x.i, ⟨#[]⟩)
    else ({ x with i := x.i + (Ch.at2 s x.i).2.toNat }, s.extract x.i (x.i + (Ch.at2 s x.i).2.toNat))
  else (x.wrong s, ⟨#[]⟩)
set_option maxHeartbeats 4000000 in
set_option maxRecDepth 10000 in
theorem char_bar (h : SAt X w s lv x) (hs : s.size ≤ 1125899906842624) (bar : Nat) (hc : x.i < s.size → (s.get! x.i).toNat = 60 ∨ (s.get! x.i).toNat = bar) :
    Calls Tryz.prog 42 #[.pointer (some ⟨X, 0, none⟩), .int .u8 bar] w fun en w' => en = .returned (.string ⟨#[]⟩) ∧ SE X w s lv (x.wrong s) w' := by
  have c0 : w.cell? ⟨X, 0, none⟩ = some (.string s) := h.cell 0 rfl
  have c1 : w.cell? ⟨X, 1, none⟩ = some (.int .i64 x.i) := h.cell 1 rfl
  have hwr := fun W (b : SE X w s lv x W) => wrong_sc b.1 hs
  have H := hide (SE.refl h)
  have HW := hide hwr
  clear h hwr
  by_cases hi : x.i < s.size
  · have hgt : s[x.i] = s.get! x.i := (Utf8W.get!_of_lt s x.i hi).symm
    generalize (s.get! x.i) = g at *
    have hlt := UInt8.toNat_lt g
    have hge : ¬ s.size ≤ x.i := by omega
    by_cases h60 : g.toNat = 60
    · clear hc
      go_enter Tryz.func42, Tryz.ntmps42
      go_wp2_with fail
      go_quiet (fail)
      go_wp2_with fail
      refine (HW.out _ (H.out.drewN _)).mono ?_
      rintro e w3 ⟨rfl, r3⟩
      go_wp2
      go_ret
      exact ⟨rfl, (H.out.drewN _).on r3⟩
    · have hbar : g.toNat = bar := (hc hi).resolve_left h60
      have e1 : ((g.toNat : Int) == 60) = false := by simp only [beq_eq_false_iff_ne, ne_eq]; omega
      have e2 : ((g.toNat : Int) == (bar : Int)) = true := by simp only [beq_iff_eq]; omega
      clear hc hbar
      go_enter Tryz.func42, Tryz.ntmps42
      go_wp2_with fail
      go_quiet (fail)
      go_wp2_with fail
      refine (HW.out _ (H.out.drewN _)).mono ?_
      rintro e w3 ⟨rfl, r3⟩
      go_wp2
      go_ret
      exact ⟨rfl, (H.out.drewN _).on r3⟩
  · have hge : s.size ≤ x.i := by omega
    clear hc
    go_enter Tryz.func42, Tryz.ntmps42
    go_wp2_with fail
    go_quiet (fail)
    go_wp2_with fail
    refine (HW.out _ (H.out.drewN _)).mono ?_
    rintro e w3 ⟨rfl, r3⟩
    go_wp2
    go_ret
    exact ⟨rfl, (H.out.drewN _).on r3⟩
set_option maxHeartbeats 4000000 in
set_option maxRecDepth 10000 in
theorem char_one (h : SAt X w s lv x) (hs : s.size ≤ 1125899906842624) (bar : Nat) (hi : x.i < s.size) (h60 : (s.get! x.i).toNat ≠ 60) (hbar : (s.get! x.i).toNat ≠ bar) (h38 : (s.get! x.i).toNat ≠ 38) (hok : (Ch.at2 s x.i).2 ≠ 0) :
    Calls Tryz.prog 42 #[.pointer (some ⟨X, 0, none⟩), .int .u8 bar] w fun en w' => en = .returned (.string (s.extract x.i (x.i + (Ch.at2 s x.i).2.toNat))) ∧ SE X w s lv { x with i := x.i + (Ch.at2 s x.i).2.toNat } w' := by
  have c0 : w.cell? ⟨X, 0, none⟩ = some (.string s) := h.cell 0 rfl
  have c1 : w.cell? ⟨X, 1, none⟩ = some (.int .i64 x.i) := h.cell 1 rfl
  have f1 := h.free 1
  have H := hide (SE.refl h)
  have hat := fun w => At_any s x.i w hs (by omega)
  have hgt : s[x.i] = s.get! x.i := (Utf8W.get!_of_lt s x.i hi).symm
  have hge : ¬ s.size ≤ x.i := by omega
  have hn : ∃ n : Nat, (Ch.at2 s x.i).2 = n ∧ 0 < n ∧ x.i + n ≤ s.size := by
    unfold Ch.at2 at hok ⊢
    have hw := Ch.decode_width s x.i hi
    split
    · exact ⟨_, rfl, by omega, hw.1⟩
    · rename_i hh; rw [if_neg hh] at hok; exact absurd rfl hok
  obtain ⟨n, en, hn0, hnl⟩ := hn
  rw [en, Int.toNat_natCast]
  rw [en] at hat
  generalize (s.get! x.i) = g at *
  have e1 : ((g.toNat : Int) == 60) = false := by simp only [beq_eq_false_iff_ne, ne_eq]; omega
  have e2 : ((g.toNat : Int) == (bar : Int)) = false := by simp only [beq_eq_false_iff_ne, ne_eq]; omega
  have e3 : ((g.toNat : Int) == 38) = false := by simp only [beq_eq_false_iff_ne, ne_eq]; omega
  have e4 : ((n : Int) == 0) = false := by simp only [beq_eq_false_iff_ne, ne_eq]; omega
  have hwr : IntKind.i64.wrap ((x.i : Int) + n) = (x.i : Int) + n := by rw [IntKind.wrap_i64]; omega
  generalize (Ch.at2 s x.i).1 = a1 at *
  have R8 := hide (fun m => (H.out.drewN m).set (x' := { x with i := x.i + n }) 1 (.int .i64 ((x.i : Int) + n)) (by show _ = scCells s lv { x with i := x.i + n }; simp [scCells]))
  have d0 : ∀ m, ((w.drewN m).setCell ⟨X, 1, none⟩ (.int .i64 ((x.i : Int) + n))).cell? ⟨X, 0, none⟩ = some (.string s) := fun m => (R8.out m).1.cell 0 rfl
  have d1 : ∀ m, ((w.drewN m).setCell ⟨X, 1, none⟩ (.int .i64 ((x.i : Int) + n))).cell? ⟨X, 1, none⟩ = some (.int .i64 ((x.i : Int) + n)) := fun m => by
    have h9 : ((w.drewN m).setCell ⟨X, 1, none⟩ (.int .i64 ((x.i : Int) + n))).cell? ⟨X, 1, none⟩ = some (.int .i64 ((x.i + n : Nat) : Int)) := (R8.out m).1.cell 1 rfl
    rw [Int.natCast_add] at h9
    exact h9
  clear h hok en h60 hbar h38
  go_enter Tryz.func42, Tryz.ntmps42
  go_wp2_with fail
  go_quiet (fail)
  go_wp2_with fail
  go_quiet (fail)
  go_wp2_with fail
  go_region_held3 (fun W => W.cell? ⟨X, 0, none⟩ = some (.string s) ∧ W.cell? ⟨X, 1, none⟩ = some (.int .i64 x.i))
    (first | exact ⟨c0, c1⟩)
    (first | (go_at_call 75; refine (hat _).mono ?_; rintro e w3 ⟨rfl, hw3⟩; have hw4 := hw3.symm; clear hw3; subst hw4))
  all_goals
    go_wp2_with fail
    go_quiet (fail)
    go_wp2
    go_ret
    exact ⟨rfl, (R8.out _).drewN _⟩
end Go.Proofs.YtfolnkmbdmfigaaGreatDoor

namespace Go.Proofs.YtfolnkmbdmfigaaGreatDoor
open Go.RowKit Go.Maps Go.Lib
variable {X : Nat} {w w' w'' wr : World} {s t : ByteArray} {lv : Value} {x x' : Sc}
set_option maxHeartbeats 4000000 in
set_option maxRecDepth 10000 in
theorem char_bad (h : SAt X w s lv x) (hs : s.size ≤ 1125899906842624) (bar : Nat) (hi : x.i < s.size) (h60 : (s.get! x.i).toNat ≠ 60) (hbar : (s.get! x.i).toNat ≠ bar) (h38 : (s.get! x.i).toNat ≠ 38) (hok : (Ch.at2 s x.i).2 = 0) :
    Calls Tryz.prog 42 #[.pointer (some ⟨X, 0, none⟩), .int .u8 bar] w fun en w' => en = .returned (.string ⟨#[]⟩) ∧ SE X w s lv (x.fail 2 x.i) w' := by
  have c0 : w.cell? ⟨X, 0, none⟩ = some (.string s) := h.cell 0 rfl
  have c1 : w.cell? ⟨X, 1, none⟩ = some (.int .i64 x.i) := h.cell 1 rfl
  have hf := fun m => fail_sc (SAt.drewN h m) 2 x.i
  have H := hide (SE.refl h)
  have hat := fun w => At_any s x.i w hs (by omega)
  have hgt : s[x.i] = s.get! x.i := (Utf8W.get!_of_lt s x.i hi).symm
  have hge : ¬ s.size ≤ x.i := by omega
  rw [hok] at hat
  generalize (s.get! x.i) = g at *
  have e1 : ((g.toNat : Int) == 60) = false := by simp only [beq_eq_false_iff_ne, ne_eq]; omega
  have e2 : ((g.toNat : Int) == (bar : Int)) = false := by simp only [beq_eq_false_iff_ne, ne_eq]; omega
  have e3 : ((g.toNat : Int) == 38) = false := by simp only [beq_eq_false_iff_ne, ne_eq]; omega
  generalize (Ch.at2 s x.i).1 = a1 at *
  have HF := hide hf
  clear h hok h60 hbar h38 hf
  go_enter Tryz.func42, Tryz.ntmps42
  go_wp2_with fail
  go_quiet (fail)
  go_wp2_with fail
  go_quiet (fail)
  go_wp2_with fail
  go_region_held3 (fun W => W.cell? ⟨X, 0, none⟩ = some (.string s) ∧ W.cell? ⟨X, 1, none⟩ = some (.int .i64 x.i))
    (first | exact ⟨c0, c1⟩)
    (first | (go_at_call 75; refine (hat _).mono ?_; rintro e w3 ⟨rfl, hw3⟩; have hw4 := hw3.symm; clear hw3; subst hw4))
  all_goals
    go_wp2_with fail
    refine (HF.out _).mono ?_
    rintro e w4 ⟨rfl, r4⟩
    go_wp2
    go_ret
    exact ⟨rfl, (H.out.drewN _).on r4⟩
set_option maxHeartbeats 4000000 in
set_option maxRecDepth 10000 in
theorem char_ref (h : SAt X w s lv x) (hs : s.size ≤ 1125899906842624) (bar : Nat) (hi : x.i < s.size) (hbar : (s.get! x.i).toNat ≠ bar) (h38 : (s.get! x.i).toNat = 38) :
    Calls Tryz.prog 42 #[.pointer (some ⟨X, 0, none⟩), .int .u8 bar] w fun en w' => en = .returned (.string (x.char s bar).2) ∧ SE X w s lv (x.char s bar).1 w' := by
  have hch : x.char s bar = if (refR s x.i).2 < 0 then (x.fail 4 x.i, ⟨#[]⟩) else ({ x with i := (refR s x.i).2.toNat }, ⟨(refR s x.i).1.toArray⟩) := by
    unfold Sc.char
    rw [if_pos hi, if_neg (by rw [h38]; omega), if_pos h38]
  rw [hch]
  have c0 : w.cell? ⟨X, 0, none⟩ = some (.string s) := h.cell 0 rfl
  have c1 : w.cell? ⟨X, 1, none⟩ = some (.int .i64 x.i) := h.cell 1 rfl
  have f1 := h.free 1
  have hlt := h.lt
  have hrf := fun w => Ref_any s x.i w hs (by omega)
  have hgt : s[x.i] = s.get! x.i := (Utf8W.get!_of_lt s x.i hi).symm
  have hge : ¬ s.size ≤ x.i := by omega
  have H := hide (SE.refl h)
  rw [h38] at hbar
  generalize hg : (s.get! x.i) = g at *
  have e1 : ((g.toNat : Int) == 60) = false := by simp only [beq_eq_false_iff_ne, ne_eq]; omega
  have e2 : ((g.toNat : Int) == (bar : Int)) = false := by simp only [beq_eq_false_iff_ne, ne_eq]; omega
  generalize (refR s x.i).1 = rt at *
  by_cases hn : (refR s x.i).2 < 0
  · rw [if_pos hn]
    have hd : decide ((refR s x.i).2 < 0) = true := by simpa using hn
    have hf := fun W (b : SE X w s lv x W) => fail_sc b.1 4 x.i
    have HF := hide hf
    generalize (refR s x.i).2 = en at *
    clear h hch hf
    go_enter Tryz.func42, Tryz.ntmps42
    go_wp2_with fail
    go_quiet (fail)
    go_wp2_with fail
    go_quiet (fail)
    go_wp2_with fail
    go_region_held3 (fun W => W.cell? ⟨X, 0, none⟩ = some (.string s) ∧ W.cell? ⟨X, 1, none⟩ = some (.int .i64 x.i))
      (first | exact ⟨c0, c1⟩ | exact ⟨k0, k1⟩)
      (first | (go_at_call 73; refine (hrf _).mono ?_; rintro e w3 ⟨rfl, b3⟩; have R3 := hide ((H.out.drewN _).below hlt b3); have k0 : w3.cell? ⟨X, 0, none⟩ = some (.string s) := R3.out.1.cell 0 rfl; have k1 : w3.cell? ⟨X, 1, none⟩ = some (.int .i64 x.i) := R3.out.1.cell 1 rfl))
    all_goals
      go_wp2_with fail
      refine (HF.out _ R3.out).mono ?_
      rintro e w4 ⟨rfl, r4⟩
      go_wp2
      go_ret
      exact ⟨rfl, R3.out.on r4⟩
  · rw [if_neg hn]
    have hd : decide ((refR s x.i).2 < 0) = false := by simpa using hn
    have hen : (((refR s x.i).2.toNat : Nat) : Int) = (refR s x.i).2 := Int.toNat_of_nonneg (by omega)
    generalize (refR s x.i).2.toNat = en at *
    rw [← hen] at hrf hd
    clear h hch hn hen
    go_enter Tryz.func42, Tryz.ntmps42
    go_wp2_with fail
    go_quiet (fail)
    go_wp2_with fail
    go_quiet (fail)
    go_wp2_with fail
    go_region_held3 (fun W => W.cell? ⟨X, 0, none⟩ = some (.string s) ∧ W.cell? ⟨X, 1, none⟩ = some (.int .i64 x.i))
      (first | exact ⟨c0, c1⟩ | exact ⟨k0, k1⟩)
      (first | (go_at_call 73; refine (hrf _).mono ?_; rintro e w3 ⟨rfl, b3⟩; have R3 := hide ((H.out.drewN _).below hlt b3); have k0 : w3.cell? ⟨X, 0, none⟩ = some (.string s) := R3.out.1.cell 0 rfl; have k1 : w3.cell? ⟨X, 1, none⟩ = some (.int .i64 x.i) := R3.out.1.cell 1 rfl; have q1 := R3.out.1.free 1))
    all_goals
      go_wp2
      go_ret
      exact ⟨rfl, R3.out.set 1 _ rfl⟩
theorem char_sc (h : SAt X w s lv x) (hs : s.size ≤ 1125899906842624) (bar : Nat) :
    Calls Tryz.prog 42 #[.pointer (some ⟨X, 0, none⟩), .int .u8 bar] w fun en w' => en = .returned (.string (x.char s bar).2) ∧ SE X w s lv (x.char s bar).1 w' := by
  by_cases hi : x.i < s.size
  · by_cases hb : (s.get! x.i).toNat = 60 ∨ (s.get! x.i).toNat = bar
    · have e : x.char s bar = (x.wrong s, ⟨#[]⟩) := by unfold Sc.char; rw [if_pos hi, if_pos hb]
      rw [e]
      exact char_bar h hs bar (fun _ => hb)
    · have h60 : (s.get! x.i).toNat ≠ 60 := fun e => hb (Or.inl e)
      have hbar : (s.get! x.i).toNat ≠ bar := fun e => hb (Or.inr e)
      by_cases h38 : (s.get! x.i).toNat = 38
      · exact char_ref h hs bar hi hbar h38
      · by_cases hok : (Ch.at2 s x.i).2 = 0
        · have e : x.char s bar = (x.fail 2 x.i, ⟨#[]⟩) := by unfold Sc.char; rw [if_pos hi, if_neg hb, if_neg h38, if_pos hok]
          rw [e]
          exact char_bad h hs bar hi h60 hbar h38 hok
        · have e : x.char s bar = ({ x with i := x.i + (Ch.at2 s x.i).2.toNat }, s.extract x.i (x.i + (Ch.at2 s x.i).2.toNat)) := by unfold Sc.char; rw [if_pos hi, if_neg hb, if_neg h38, if_neg hok]
          rw [e]
          exact char_one h hs bar hi h60 hbar h38 hok
  · have e : x.char s bar = (x.wrong s, ⟨#[]⟩) := by unfold Sc.char; rw [if_neg hi]
    rw [e]
    exact char_bar h hs bar (fun x => absurd x hi)
end Go.Proofs.YtfolnkmbdmfigaaGreatDoor

namespace Go.Proofs.YtfolnkmbdmfigaaGreatDoor
open Go.RowKit Go.Maps Go.Lib
variable {X : Nat} {w w' w'' wr : World} {s t : ByteArray} {lv : Value} {x x' : Sc}
def Sc.stands (x : Sc) (s t : ByteArray) : Bool := decide (x.i + t.size ≤ s.size) && ((s.extract x.i (x.i + t.size)).toList == t.toList)
def untilF (s t : ByteArray) (frm : Nat) : Nat → Sc → Sc × ByteArray
  | 0, x => (x, ⟨#[]⟩)
  | f + 1, x => if x.err = 0 then
      (if x.stands s t = true then ({ x with i := x.i + t.size }, s.extract frm x.i)
      else if (Ch.at2 s x.i).2 = 0 then untilF s t frm f (x.wrong s)
      else untilF s t frm f { x with i := x.i + (Ch.at2 s x.i).2.toNat })
    else (x, ⟨#[]⟩)
def Sc.until (x : Sc) (s t : ByteArray) : Sc × ByteArray := untilF s t x.i (s.size + 2) x
def left (X : Nat) (n : Nat) (w : World) : Nat :=
  match w.cell? ⟨X, 5, none⟩, w.cell? ⟨X, 1, none⟩ with
  | some (.int _ e), some (.int _ i) => if e = 0 then n + 1 - i.toNat else 0
  | _, _ => 0
theorem left_eq (h : SAt X w s lv x) (n : Nat) : left X n w = if x.err = 0 then n + 1 - x.i else 0 := by
  have c1 : w.cell? ⟨X, 1, none⟩ = some (.int .i64 x.i) := h.cell 1 rfl
  have c5 : w.cell? ⟨X, 5, none⟩ = some (.int .i64 x.err) := h.cell 5 rfl
  simp only [left, c1, c5, Int.toNat_natCast]
theorem wrong_err (x : Sc) (s : ByteArray) (h : x.err = 0) : (x.wrong s).err ≠ 0 := by
  unfold Sc.wrong Sc.fail
  rw [if_pos h]
  repeat' split
  all_goals simp
structure UI (X : Nat) (w : World) (s t : ByteArray) (lv : Value) (frm : Nat) (y : Sc × ByteArray) (wr : World) (x : Sc) (f : Nat) : Prop where
  se : SE X w s lv x wr
  le : x.err = 0 → x.i ≤ s.size
  ge : frm ≤ x.i
  eq : untilF s t frm f x = y
  fuel : x.err = 0 → s.size + 1 < x.i + f
set_option maxHeartbeats 4000000 in
set_option maxRecDepth 10000 in
theorem until_sc (h : SAt X w s lv x) (hs : s.size ≤ 1125899906842624) (hi : x.err = 0 → x.i ≤ s.size) (t : ByteArray) (ht : t.size ≤ 1024) :
    Calls Tryz.prog 67 #[.pointer (some ⟨X, 0, none⟩), .string t] w fun en w' => en = .returned (.string (x.until s t).2) ∧ SE X w s lv (x.until s t).1 w' := by
  have h0 : UI X w s t lv x.i (x.until s t) w x (s.size + 2) := ⟨SE.refl h, hi, Nat.le_refl _, rfl, fun _ => by omega⟩
  have c1 : w.cell? ⟨X, 1, none⟩ = some (.int .i64 x.i) := h.cell 1 rfl
  generalize x.until s t = y at *
  have H0 := hide h0
  have hat := fun i (hi : i ≤ s.size) w => At_any s i w hs hi
  have hwrg := fun W x' (b : SAt X W s lv x') => wrong_sc b hs
  have HW := hide hwrg
  have HAT := hide hat
  clear h h0 hi hat hwrg
  generalize x.i = frm at *
  go_enter Tryz.func67, Tryz.ntmps67
  go_wp2_with fail
  go_loopw [6, 7] (fun _ _ wr => ∃ x' f, UI X w s t lv frm y wr x' f) (fun _ _ wr => left X s.size wr)
  case atStart => exact ⟨_, _, H0.out⟩
  case round =>
    obtain ⟨x', f, u⟩ := hrel
    have c0 : wr.cell? ⟨X, 0, none⟩ = some (.string s) := u.se.1.cell 0 rfl
    have d1 : wr.cell? ⟨X, 1, none⟩ = some (.int .i64 x'.i) := u.se.1.cell 1 rfl
    have c5 : wr.cell? ⟨X, 5, none⟩ = some (.int .i64 x'.err) := u.se.1.cell 5 rfl
    have f1 := u.se.1.free 1
    have hleft := left_eq u.se.1 s.size
    by_cases he : x'.err = 0
    · have e0 : (x'.err == 0) = true := by simpa using he
      have hle := u.le he
      have hfu := u.fuel he
      obtain ⟨g, rfl⟩ : ∃ g, f = g + 1 := ⟨f - 1, by omega⟩
      have heq := u.eq
      unfold untilF at heq
      rw [if_pos he] at heq
      rw [if_pos he] at hleft
      have hwr : IntKind.i64.wrap ((x'.i : Int) + t.size) = (x'.i : Int) + t.size := by rw [IntKind.wrap_i64]; omega
      cases hst : x'.stands s t
      · rw [hst] at heq
        simp only [Bool.false_eq_true, if_false] at heq
        have hcase : decide ((x'.i : Int) + t.size ≤ s.size) = false ∨ (x'.i + t.size ≤ s.size ∧ decide ((x'.i : Int) + t.size ≤ s.size) = true ∧ ((s.extract x'.i (x'.i + t.size)).toList == t.toList) = false) := by
          by_cases hin : x'.i + t.size ≤ s.size
          · refine Or.inr ⟨hin, by simp only [decide_eq_true_eq]; omega, ?_⟩
            simpa [Sc.stands, hin] using hst
          · exact Or.inl (by simp only [decide_eq_false_iff_not]; omega)
        have hcall := HAT.out x'.i hle
        have U := hide u
        have hxi : ∃ n : Nat, (Ch.at2 s x'.i).2 = n ∧ x'.i + n ≤ s.size := by
          unfold Ch.at2
          split
          · rename_i hh; exact ⟨_, rfl, (Ch.decode_width s x'.i hh.1).1⟩
          · exact ⟨0, rfl, hle⟩
        obtain ⟨n, en, hnl⟩ := hxi
        rw [en] at hcall heq
        generalize (Ch.at2 s x'.i).1 = a1 at *
        clear u en hst
        by_cases hz : n = 0
        · subst hz
          have heq2 : untilF s t frm g (x'.wrong s) = y := by rw [← heq]; simp
          clear heq
          have heq := heq2
          clear heq2
          have hwe := wrong_err x' s he
          clear he
          have hwr0 : IntKind.i64.wrap ((x'.i : Int) + 0) = (x'.i : Int) + 0 := by rw [IntKind.wrap_i64]; omega
          have HEQ := hide heq
          have HWE := hide hwe
          clear heq hwe
          rcases hcase with hA | ⟨hin, hA, hB⟩
          all_goals
            go_wp2_with fail
            go_quiet (fail)
            go_wp2_with fail
            go_region_held3 (fun W => W.cell? ⟨X, 0, none⟩ = some (.string s) ∧ W.cell? ⟨X, 1, none⟩ = some (.int .i64 x'.i))
              (first | exact ⟨c0, d1⟩)
              (first | (go_at_call 75; refine (hcall _).mono ?_; rintro e w3 ⟨rfl, hw3⟩; have hw4 := hw3.symm; clear hw3; subst hw4))
            all_goals
              go_wp2_with fail
              refine (HW.out _ x' (U.out.se.drewN _).1).mono ?_
              rintro e w4 ⟨rfl, r4⟩
              have h9 : w4.cell? ⟨X, 1, none⟩ = some (.int .i64 (x'.wrong s).i) := r4.1.cell 1 rfl
              rw [wrong_i] at h9
              have q1 := r4.1.free 1
              have ex : (x'.i : Int) = ((x'.wrong s).i : Int) := by rw [wrong_i]
              have R9 := hide (((U.out.se.drewN _).on r4).set (x' := x'.wrong s) 1 (.int .i64 x'.i) (by rw [ex]; rfl))
              clear r4 ex
              go_wp2
              go_roundw
              case rel => exact ⟨x'.wrong s, g, R9.out, fun e => absurd e HWE.out, by rw [wrong_i]; exact U.out.ge, HEQ.out, fun e => absurd e HWE.out⟩
              case measure =>
                rw [left_eq R9.out.1 s.size, if_neg HWE.out, hleft]
                omega
        · have heq2 : untilF s t frm g { x' with i := x'.i + n } = y := by
            rw [← heq, if_neg (by omega), Int.toNat_natCast]
          have hn0 : ((n : Int) == 0) = false := by simp only [beq_eq_false_iff_ne, ne_eq]; omega
          have hwrn : IntKind.i64.wrap ((x'.i : Int) + n) = (x'.i : Int) + n := by rw [IntKind.wrap_i64]; omega
          have HEQ := hide heq2
          have HE := hide he
          clear heq heq2 he
          rcases hcase with hA | ⟨hin, hA, hB⟩
          all_goals
            go_wp2_with fail
            go_quiet (fail)
            go_wp2_with fail
            go_region_held3 (fun W => W.cell? ⟨X, 0, none⟩ = some (.string s) ∧ W.cell? ⟨X, 1, none⟩ = some (.int .i64 x'.i))
              (first | exact ⟨c0, d1⟩)
              (first | (go_at_call 75; refine (hcall _).mono ?_; rintro e w3 ⟨rfl, hw3⟩; have hw4 := hw3.symm; clear hw3; subst hw4))
            all_goals
              go_wp2
              go_roundw
              case rel =>
                refine ⟨{ x' with i := x'.i + n }, g, ?_, fun _ => hnl, by have := U.out.ge; show frm ≤ x'.i + n; omega, HEQ.out, fun _ => by show s.size + 1 < x'.i + n + g; omega⟩
                exact (U.out.se.drewN _).set (x' := { x' with i := x'.i + n }) 1 (.int .i64 ((x'.i : Int) + n)) (by show _ = scCells s lv { x' with i := x'.i + n }; simp [scCells])
              case measure =>
                have R9 := (U.out.se.drewN (nq + 1)).set (x' := { x' with i := x'.i + n }) 1 (.int .i64 ((x'.i : Int) + n)) (by show _ = scCells s lv { x' with i := x'.i + n }; simp [scCells])
                rw [left_eq R9.1 s.size, if_pos HE.out, hleft]
                show s.size + 1 - (x'.i + n) < _
                omega
      · rw [hst] at heq
        simp only [if_true] at heq
        simp only [Sc.stands, Bool.and_eq_true, decide_eq_true_eq] at hst
        obtain ⟨hin, hsame⟩ := hst
        have hinI : decide ((x'.i : Int) + t.size ≤ s.size) = true := by simp only [decide_eq_true_eq]; omega
        have U := hide u
        clear u
        subst heq
        have R8 := hide (fun m => (U.out.se.drewN m).set (x' := { x' with i := x'.i + t.size }) 1 (.int .i64 ((x'.i : Int) + t.size)) (by show _ = scCells s lv { x' with i := x'.i + t.size }; simp [scCells]))
        have g0 : ∀ m, ((wr.drewN m).setCell ⟨X, 1, none⟩ (.int .i64 ((x'.i : Int) + t.size))).cell? ⟨X, 0, none⟩ = some (.string s) := fun m => (R8.out m).1.cell 0 rfl
        have g1 : ∀ m, ((wr.drewN m).setCell ⟨X, 1, none⟩ (.int .i64 ((x'.i : Int) + t.size))).cell? ⟨X, 1, none⟩ = some (.int .i64 ((x'.i : Int) + t.size)) := fun m => by
          have h9 : ((wr.drewN m).setCell ⟨X, 1, none⟩ (.int .i64 ((x'.i : Int) + t.size))).cell? ⟨X, 1, none⟩ = some (.int .i64 ((x'.i + t.size : Nat) : Int)) := (R8.out m).1.cell 1 rfl
          rw [Int.natCast_add] at h9
          exact h9
        have hfr := U.out.ge
        clear he
        go_wp2_with fail
        go_quiet (fail)
        go_wp2_with fail
        go_quiet (fail)
        go_wp2
        go_ret
        exact ⟨rfl, (R8.out _).drewN _⟩
    · have e0 : (x'.err == 0) = false := by simpa using he
      have hy : y = (x', ⟨#[]⟩) := by
        rw [← u.eq]
        cases f with
        | zero => rfl
        | succ f => unfold untilF; rw [if_neg he]
      subst hy
      have U := hide u
      clear u
      go_wp2
      go_ret
      exact ⟨rfl, U.out.se⟩
end Go.Proofs.YtfolnkmbdmfigaaGreatDoor

namespace Go.Proofs.YtfolnkmbdmfigaaGreatDoor
open Go.RowKit Go.Maps Go.Lib
variable {X : Nat} {w w' w'' wr : World} {s t : ByteArray} {lv : Value} {x x' : Sc}
def Sc.texted (x : Sc) (t : ByteArray) (a : Int) : Sc := { x with more := x.more ++ t.data.toList, frm := if x.more = [] then a else x.frm }
theorem strV_add (l : List UInt8) (t : ByteArray) : (⟨l.toArray⟩ : ByteArray) ++ t = ⟨(l ++ t.data.toList).toArray⟩ := by
  apply ByteArray.ext
  apply Array.ext'
  simp [ByteArray.data_append]
set_option maxHeartbeats 2000000 in
theorem texted_sc (h : SAt X w s lv x) (t : ByteArray) (a : Int) (hz : x.more.length + t.size ≤ 1125899906842624) : Calls Tryz.prog 43 #[.pointer (some ⟨X, 0, none⟩), .string t, .int .i64 a] w fun en w' => en = .returned (.tuple #[]) ∧ SE X w s lv (x.texted t a) w' := by
  have c3 : w.cell? ⟨X, 3, none⟩ = some (.string ⟨x.more.toArray⟩) := h.cell 3 rfl
  have c4 : w.cell? ⟨X, 4, none⟩ = some (.int .i64 x.frm) := h.cell 4 rfl
  have f3 := h.free 3
  have f4 := h.free 4
  have hsz : (⟨x.more.toArray⟩ : ByteArray).size = x.more.length := by show x.more.toArray.size = _; simp
  have hadd := fun w => run_string_add_sum (P := Tryz.prog) w ⟨x.more.toArray⟩ t (by rw [hsz]; omega)
  simp only [strV_add] at hadd
  unfold Sc.texted
  by_cases hm : x.more = []
  · rw [if_pos hm]
    have H := hide (((SE.refl h).set (x' := { x with frm := a }) 4 (.int .i64 a) rfl).set (x' := { x with frm := a, more := x.more ++ t.data.toList }) 3 (.string ⟨(x.more ++ t.data.toList).toArray⟩) rfl)
    have he : x.more.isEmpty = true := by rw [hm]; rfl
    clear h hm
    go_enter Tryz.func43, Tryz.ntmps43
    go_wp2
    go_end0
    exact ⟨rfl, H.out⟩
  · rw [if_neg hm]
    have H := hide ((SE.refl h).set (x' := { x with more := x.more ++ t.data.toList }) 3 (.string ⟨(x.more ++ t.data.toList).toArray⟩) rfl)
    have he : x.more.isEmpty = false := by
      cases hl : x.more with
      | nil => exact absurd hl hm
      | cons a l => rfl
    clear h hm
    go_enter Tryz.func43, Tryz.ntmps43
    go_wp2
    go_end0
    exact ⟨rfl, H.out⟩
def valF (s : ByteArray) (q : Nat) : Nat → Sc → List UInt8 → Sc × List UInt8
  | 0, x, t => (x, t)
  | f + 1, x, t => if x.err = 0 ∧ x.is s q = false then valF s q f (x.char s q).1 (t ++ (x.char s q).2.data.toList) else (x, t)
def Sc.value (x : Sc) (s : ByteArray) : Sc × List UInt8 :=
  if x.is s 34 = true ∨ x.is s 39 = true then
    ({ (valF s (s.get! x.i).toNat (s.size + 2) { x with i := x.i + 1 } []).1 with i := (valF s (s.get! x.i).toNat (s.size + 2) { x with i := x.i + 1 } []).1.i + 1 }, (valF s (s.get! x.i).toNat (s.size + 2) { x with i := x.i + 1 } []).2)
  else (x.wrong s, [])
end Go.Proofs.YtfolnkmbdmfigaaGreatDoor

namespace Go.Proofs.YtfolnkmbdmfigaaGreatDoor
open Go.RowKit Go.Maps Go.Lib
variable {X : Nat} {w w' w'' wr : World} {s t : ByteArray} {lv : Value} {x x' : Sc}
theorem fail_err (x : Sc) (e a : Int) (h : x.err = 0) (he : e ≠ 0) : (x.fail e a).err ≠ 0 := by
  unfold Sc.fail; rw [if_pos h]; exact he
theorem char_grow (x : Sc) (s : ByteArray) (bar : Nat) (h : x.err = 0) (hi : x.i ≤ s.size) :
    ((x.char s bar).1.err = 0 → x.i < (x.char s bar).1.i ∧ (x.char s bar).1.i ≤ s.size ∧ (x.char s bar).2.size ≤ (x.char s bar).1.i - x.i) ∧ ((x.char s bar).1.err ≠ 0 → (x.char s bar).2.size = 0 ∧ (x.char s bar).1.i = x.i) := by
  unfold Sc.char
  split
  · rename_i hlt
    split
    · exact ⟨fun e => absurd e (wrong_err x s h), fun _ => ⟨rfl, wrong_i x s⟩⟩
    split
    · split
      · exact ⟨fun e => absurd e (fail_err x _ _ h (by decide)), fun _ => ⟨rfl, fail_i x _ _⟩⟩
      · rename_i hn
        unfold refR at hn ⊢
        by_cases hz : (Ch.refAt s x.i).2 = 0
        · rw [if_pos hz] at hn; simp at hn
        · rw [if_neg hz] at hn ⊢
          have hr := Ch.refAt_spec hz
          refine ⟨fun _ => ?_, fun e => absurd h e⟩
          have := enc_le (Ch.refAt s x.i).1
          have e2 : (⟨(Lib.encodeRune (Ch.refAt s x.i).1).toArray⟩ : ByteArray).size = (Lib.encodeRune (Ch.refAt s x.i).1).length := by show (Lib.encodeRune (Ch.refAt s x.i).1).toArray.size = _; simp
          simp only [e2]
          omega
    · split
      · exact ⟨fun e => absurd e (fail_err x _ _ h (by decide)), fun _ => ⟨rfl, fail_i x _ _⟩⟩
      · rename_i hn
        refine ⟨fun _ => ?_, fun e => absurd h e⟩
        unfold Ch.at2 at hn ⊢
        have hw := Ch.decode_width s x.i hlt
        split
        · simp only [Int.toNat_natCast, ByteArray.size_extract]; omega
        · rename_i hh; rw [if_neg hh] at hn; exact absurd rfl hn
  · exact ⟨fun e => absurd e (wrong_err x s h), fun _ => ⟨rfl, wrong_i x s⟩⟩
structure VI (X : Nat) (w : World) (s : ByteArray) (lv : Value) (q i0 : Nat) (y : Sc × List UInt8) (wr : World) (x : Sc) (t : List UInt8) (f : Nat) : Prop where
  se : SE X w s lv x wr
  le : x.i ≤ s.size
  ge : i0 ≤ x.i
  len : t.length ≤ x.i - i0
  eq : valF s q f x t = y
  fuel : x.err = 0 → s.size + 1 < x.i + f
set_option maxHeartbeats 4000000 in
set_option maxRecDepth 10000 in
theorem value_sc (h : SAt X w s lv x) (hs : s.size ≤ 1125899906842624) (hi : x.i ≤ s.size) :
    Calls Tryz.prog 98 #[.pointer (some ⟨X, 0, none⟩)] w fun en w' => en = .returned (.string ⟨(x.value s).2.toArray⟩) ∧ SE X w s lv (x.value s).1 w' := by
  have c0 : w.cell? ⟨X, 0, none⟩ = some (.string s) := h.cell 0 rfl
  have c1 : w.cell? ⟨X, 1, none⟩ = some (.int .i64 x.i) := h.cell 1 rfl
  have f1 := h.free 1
  have hlt := h.lt
  have i34 := fun W (b : SAt X W s lv x) => is_sc b 34 (by decide)
  have i39 := fun W (b : SAt X W s lv x) => is_sc b 39 (by decide)
  have H := hide (SE.refl h)
  unfold Sc.value
  by_cases hq : x.is s 34 = true ∨ x.is s 39 = true
  · rw [if_pos hq]
    have hil : x.i < s.size := hq.elim is_lt is_lt
    have he0 : x.err = 0 := by
      rcases hq with hq | hq
      · simp [Sc.is] at hq; exact hq.1
      · simp [Sc.is] at hq; exact hq.1
    have hgt : s[x.i] = s.get! x.i := (Utf8W.get!_of_lt s x.i hil).symm
    have hqlt := UInt8.toNat_lt (s.get! x.i)
    generalize hy : valF s (s.get! x.i).toNat (s.size + 2) { x with i := x.i + 1 } [] = y at *
    generalize (s.get! x.i) = qb at *
    have hwr : IntKind.i64.wrap ((x.i : Int) + 1) = (x.i : Int) + 1 := by rw [IntKind.wrap_i64]; omega
    have hisq := fun W x' (b : SAt X W s lv x') => is_sc b qb.toNat hqlt
    have hchr := fun W x' (b : SAt X W s lv x') => char_sc b hs qb.toNat
    have hgrow := fun x' => char_grow x' s qb.toNat
    have HQ := hide hisq
    have HCH := hide hchr
    have HG := hide hgrow
    have HY := hide hy
    have HE0 := hide he0
    have I1 := hide i34
    have I2 := hide i39
    clear hisq hchr hgrow hy he0 h i34 i39
    cases q1 : x.is s 34
    · have q2 : x.is s 39 = true := hq.resolve_left (by rw [q1]; simp)
      rw [q1] at I1
      rw [q2] at I2
      clear hq q1 q2
      go_enter Tryz.func98, Tryz.ntmps98
      go_wp2_with fail
      refine (I1.out _ H.out.1).mono ?_
      rintro e w1 ⟨rfl, b1⟩
      have R1 := hide (H.out.below hlt b1)
      go_wp2_with fail
      refine (I2.out _ R1.out.1).mono ?_
      rintro e w2 ⟨rfl, b2⟩
      have R2 := hide (R1.out.below hlt b2)
      have k0 : w2.cell? ⟨X, 0, none⟩ = some (.string s) := R2.out.1.cell 0 rfl
      have k1 : w2.cell? ⟨X, 1, none⟩ = some (.int .i64 x.i) := R2.out.1.cell 1 rfl
      have kf := R2.out.1.free 1
      clear I1 I2 b1 b2 R1
      go_wp2_with fail
      go_quiet (fail)
      go_wp2_with fail
      go_loopw [4, 5] (fun tv _ wr => ∃ x' t' f, tv = .string ⟨t'.toArray⟩ ∧ VI X w s lv qb.toNat (x.i + 1) y wr x' t' f) (fun _ _ wr => left X s.size wr)
      case atStart =>
        refine ⟨{ x with i := x.i + 1 }, [], s.size + 2, rfl, ?_, by show x.i + 1 ≤ s.size; omega, Nat.le_refl _, Nat.zero_le _, HY.out, fun _ => by show s.size + 1 < x.i + 1 + (s.size + 2); omega⟩
        exact (R2.out.drewN nq).set (x' := { x with i := x.i + 1 }) 1 (.int .i64 ((x.i : Int) + 1)) (by show _ = scCells s lv { x with i := x.i + 1 }; simp [scCells])
      case round =>
        obtain ⟨x', t', f, rfl, u⟩ := hrel
        have d1 : wr.cell? ⟨X, 1, none⟩ = some (.int .i64 x'.i) := u.se.1.cell 1 rfl
        have d5 : wr.cell? ⟨X, 5, none⟩ = some (.int .i64 x'.err) := u.se.1.cell 5 rfl
        have df := u.se.1.free 1
        have hle := u.le
        have hleft := left_eq u.se.1 s.size
        have hwr2 : IntKind.i64.wrap ((x'.i : Int) + 1) = (x'.i : Int) + 1 := by rw [IntKind.wrap_i64]; omega
        by_cases he : x'.err = 0
        · have e0 : (x'.err == 0) = true := by simpa using he
          have hfu := u.fuel he
          rw [if_pos he] at hleft
          obtain ⟨g, rfl⟩ : ∃ g, f = g + 1 := ⟨f - 1, by omega⟩
          have heq := u.eq
          unfold valF at heq
          have hisc := HQ.out wr x' u.se.1
          cases hb : x'.is s qb.toNat
          · rw [if_pos ⟨he, hb⟩] at heq
            rw [hb] at hisc
            have hg := HG.out x' he hle
            have U := hide u
            have HEQ := hide heq
            have HGR := hide hg
            have HE := hide he
            have hlen := u.len
            have hsz : (⟨t'.toArray⟩ : ByteArray).size = t'.length := by show t'.toArray.size = _; simp
            have hcs : (x'.char s qb.toNat).2.size ≤ s.size := by
              by_cases hce : (x'.char s qb.toNat).1.err = 0
              · have := hg.1 hce; omega
              · have := hg.2 hce; omega
            have hadd := fun w => run_string_add_sum (P := Tryz.prog) w ⟨t'.toArray⟩ (x'.char s qb.toNat).2 (by rw [hsz]; omega)
            simp only [strV_add] at hadd
            clear u heq hg he hb
            go_wp2_with fail
            refine hisc.mono ?_
            rintro e w5 ⟨rfl, b5⟩
            have R5 := hide (U.out.se.below hlt b5)
            go_wp2_with fail
            refine (HCH.out _ x' R5.out.1).mono ?_
            rintro e w6 ⟨rfl, r6⟩
            have R6 := hide (R5.out.on r6)
            clear r6
            go_wp2
            go_roundw
            case rel =>
              by_cases hce : (x'.char s qb.toNat).1.err = 0
              · have hx := HGR.out.1 hce
                have := U.out.ge
                refine ⟨_, _, g, rfl, R6.out, hx.2.1, by omega, ?_, HEQ.out, fun _ => by omega⟩
                simp only [List.length_append]
                have e9 : (x'.char s qb.toNat).2.data.toList.length = (x'.char s qb.toNat).2.size := by simp
                omega
              · have hx := HGR.out.2 hce
                have := U.out.ge
                refine ⟨_, _, g, rfl, R6.out, by omega, by omega, ?_, HEQ.out, fun e => absurd e hce⟩
                simp only [List.length_append]
                have e9 : (x'.char s qb.toNat).2.data.toList.length = (x'.char s qb.toNat).2.size := by simp
                omega
            case measure =>
              rw [left_eq R6.out.1 s.size, hleft]
              by_cases hce : (x'.char s qb.toNat).1.err = 0
              · rw [if_pos hce]
                have hx := HGR.out.1 hce
                omega
              · rw [if_neg hce]
                omega
          · rw [if_neg (by rw [hb]; simp)] at heq
            rw [hb] at hisc
            subst heq
            have U := hide u
            clear u he hb
            go_wp2_with fail
            refine hisc.mono ?_
            rintro e w5 ⟨rfl, b5⟩
            have R5 := hide (U.out.se.below hlt b5)
            have m1 : w5.cell? ⟨X, 1, none⟩ = some (.int .i64 x'.i) := R5.out.1.cell 1 rfl
            have mf := R5.out.1.free 1
            go_wp2
            go_ret
            exact ⟨rfl, R5.out.set (x' := { x' with i := x'.i + 1 }) 1 (.int .i64 ((x'.i : Int) + 1)) (by show _ = scCells s lv { x' with i := x'.i + 1 }; simp [scCells])⟩
        · have e0 : (x'.err == 0) = false := by simpa using he
          have hy2 : y = (x', t') := by
            rw [← u.eq]
            cases f with
            | zero => rfl
            | succ f => unfold valF; rw [if_neg (by simp [he])]
          subst hy2
          have U := hide u
          clear u he
          go_wp2
          go_ret
          exact ⟨rfl, U.out.se.set (x' := { x' with i := x'.i + 1 }) 1 (.int .i64 ((x'.i : Int) + 1)) (by show _ = scCells s lv { x' with i := x'.i + 1 }; simp [scCells])⟩
    · rw [q1] at I1
      clear hq q1 I2
      go_enter Tryz.func98, Tryz.ntmps98
      go_wp2_with fail
      refine (I1.out _ H.out.1).mono ?_
      rintro e w2 ⟨rfl, b1⟩
      have R2 := hide (H.out.below hlt b1)
      have k0 : w2.cell? ⟨X, 0, none⟩ = some (.string s) := R2.out.1.cell 0 rfl
      have k1 : w2.cell? ⟨X, 1, none⟩ = some (.int .i64 x.i) := R2.out.1.cell 1 rfl
      have kf := R2.out.1.free 1
      clear I1 b1
      go_wp2_with fail
      go_quiet (fail)
      go_wp2_with fail
      go_loopw [4, 5] (fun tv _ wr => ∃ x' t' f, tv = .string ⟨t'.toArray⟩ ∧ VI X w s lv qb.toNat (x.i + 1) y wr x' t' f) (fun _ _ wr => left X s.size wr)
      case atStart =>
        refine ⟨{ x with i := x.i + 1 }, [], s.size + 2, rfl, ?_, by show x.i + 1 ≤ s.size; omega, Nat.le_refl _, Nat.zero_le _, HY.out, fun _ => by show s.size + 1 < x.i + 1 + (s.size + 2); omega⟩
        exact (R2.out.drewN nq).set (x' := { x with i := x.i + 1 }) 1 (.int .i64 ((x.i : Int) + 1)) (by show _ = scCells s lv { x with i := x.i + 1 }; simp [scCells])
      case round =>
        obtain ⟨x', t', f, rfl, u⟩ := hrel
        have d1 : wr.cell? ⟨X, 1, none⟩ = some (.int .i64 x'.i) := u.se.1.cell 1 rfl
        have d5 : wr.cell? ⟨X, 5, none⟩ = some (.int .i64 x'.err) := u.se.1.cell 5 rfl
        have df := u.se.1.free 1
        have hle := u.le
        have hleft := left_eq u.se.1 s.size
        have hwr2 : IntKind.i64.wrap ((x'.i : Int) + 1) = (x'.i : Int) + 1 := by rw [IntKind.wrap_i64]; omega
        by_cases he : x'.err = 0
        · have e0 : (x'.err == 0) = true := by simpa using he
          have hfu := u.fuel he
          rw [if_pos he] at hleft
          obtain ⟨g, rfl⟩ : ∃ g, f = g + 1 := ⟨f - 1, by omega⟩
          have heq := u.eq
          unfold valF at heq
          have hisc := HQ.out wr x' u.se.1
          cases hb : x'.is s qb.toNat
          · rw [if_pos ⟨he, hb⟩] at heq
            rw [hb] at hisc
            have hg := HG.out x' he hle
            have U := hide u
            have HEQ := hide heq
            have HGR := hide hg
            have HE := hide he
            have hlen := u.len
            have hsz : (⟨t'.toArray⟩ : ByteArray).size = t'.length := by show t'.toArray.size = _; simp
            have hcs : (x'.char s qb.toNat).2.size ≤ s.size := by
              by_cases hce : (x'.char s qb.toNat).1.err = 0
              · have := hg.1 hce; omega
              · have := hg.2 hce; omega
            have hadd := fun w => run_string_add_sum (P := Tryz.prog) w ⟨t'.toArray⟩ (x'.char s qb.toNat).2 (by rw [hsz]; omega)
            simp only [strV_add] at hadd
            clear u heq hg he hb
            go_wp2_with fail
            refine hisc.mono ?_
            rintro e w5 ⟨rfl, b5⟩
            have R5 := hide (U.out.se.below hlt b5)
            go_wp2_with fail
            refine (HCH.out _ x' R5.out.1).mono ?_
            rintro e w6 ⟨rfl, r6⟩
            have R6 := hide (R5.out.on r6)
            clear r6
            go_wp2
            go_roundw
            case rel =>
              by_cases hce : (x'.char s qb.toNat).1.err = 0
              · have hx := HGR.out.1 hce
                have := U.out.ge
                refine ⟨_, _, g, rfl, R6.out, hx.2.1, by omega, ?_, HEQ.out, fun _ => by omega⟩
                simp only [List.length_append]
                have e9 : (x'.char s qb.toNat).2.data.toList.length = (x'.char s qb.toNat).2.size := by simp
                omega
              · have hx := HGR.out.2 hce
                have := U.out.ge
                refine ⟨_, _, g, rfl, R6.out, by omega, by omega, ?_, HEQ.out, fun e => absurd e hce⟩
                simp only [List.length_append]
                have e9 : (x'.char s qb.toNat).2.data.toList.length = (x'.char s qb.toNat).2.size := by simp
                omega
            case measure =>
              rw [left_eq R6.out.1 s.size, hleft]
              by_cases hce : (x'.char s qb.toNat).1.err = 0
              · rw [if_pos hce]
                have hx := HGR.out.1 hce
                omega
              · rw [if_neg hce]
                omega
          · rw [if_neg (by rw [hb]; simp)] at heq
            rw [hb] at hisc
            subst heq
            have U := hide u
            clear u he hb
            go_wp2_with fail
            refine hisc.mono ?_
            rintro e w5 ⟨rfl, b5⟩
            have R5 := hide (U.out.se.below hlt b5)
            have m1 : w5.cell? ⟨X, 1, none⟩ = some (.int .i64 x'.i) := R5.out.1.cell 1 rfl
            have mf := R5.out.1.free 1
            go_wp2
            go_ret
            exact ⟨rfl, R5.out.set (x' := { x' with i := x'.i + 1 }) 1 (.int .i64 ((x'.i : Int) + 1)) (by show _ = scCells s lv { x' with i := x'.i + 1 }; simp [scCells])⟩
        · have e0 : (x'.err == 0) = false := by simpa using he
          have hy2 : y = (x', t') := by
            rw [← u.eq]
            cases f with
            | zero => rfl
            | succ f => unfold valF; rw [if_neg (by simp [he])]
          subst hy2
          have U := hide u
          clear u he
          go_wp2
          go_ret
          exact ⟨rfl, U.out.se.set (x' := { x' with i := x'.i + 1 }) 1 (.int .i64 ((x'.i : Int) + 1)) (by show _ = scCells s lv { x' with i := x'.i + 1 }; simp [scCells])⟩
  · rw [if_neg hq]
    have q1 : x.is s 34 = false := by simpa using (not_or.1 hq).1
    have q2 : x.is s 39 = false := by simpa using (not_or.1 hq).2
    rw [q1] at i34
    rw [q2] at i39
    have hwr := fun W (b : SE X w s lv x W) => wrong_sc b.1 hs
    have HW := hide hwr
    have I1 := hide i34
    have I2 := hide i39
    clear h hq q1 q2 hwr i34 i39
    go_enter Tryz.func98, Tryz.ntmps98
    go_wp2_with fail
    refine (I1.out _ H.out.1).mono ?_
    rintro e w1 ⟨rfl, b1⟩
    have R1 := hide (H.out.below hlt b1)
    go_wp2_with fail
    refine (I2.out _ R1.out.1).mono ?_
    rintro e w2 ⟨rfl, b2⟩
    have R2 := hide (R1.out.below hlt b2)
    go_wp2_with fail
    refine (HW.out _ R2.out).mono ?_
    rintro e w3 ⟨rfl, r3⟩
    go_wp2
    go_ret
    exact ⟨rfl, R2.out.on r3⟩
end Go.Proofs.YtfolnkmbdmfigaaGreatDoor

namespace Go.Proofs.YtfolnkmbdmfigaaGreatDoor
open Go.RowKit Go.Maps Go.Lib
variable {X : Nat} {w w' w'' wr : World} {s t : ByteArray} {lv : Value} {x x' : Sc}
theorem info56 : (Tryz.prog.info? 72).map (fun i => (i.zero, i.size, i.bytes)) = some (some (.agg #[.int .i64 0, .string ⟨#[]⟩, .slice none 0 0, .string ⟨#[]⟩, .int .i64 0]), 5, 72) := by kernel_rfl
theorem info75 : (Tryz.prog.info? 82).map (fun i => (i.zero, i.size, i.bytes)) = some (some (.agg #[.string ⟨#[]⟩, .string ⟨#[]⟩]), 2, 32) := by kernel_rfl
theorem rtok_news (w : World) (t : Tok) (v : Value) : ∀ j u, (tokCells t v)[j]? = some u → (w.alloc (.cells (tokCells t v).toArray 72)).cell? ((⟨w.heap.size, 0, none⟩ : Addr).add j) = some u := by
  intro j u hu
  rw [Addr.add_lit, Nat.zero_add, cell_of (heap_alloc_new w _) (v := u)]
  rw [List.getElem?_toArray]; exact hu
set_option maxHeartbeats 4000000 in
set_option maxRecDepth 100000 in
theorem told_tag {cs : List Value} (h : SAt X w s lv x) (hown : w.ownsRow 0 72 5 lv x.l.length cs) (hX : lv.ownBlock ≠ some X) (t : Tok) (ai : Option Addr) (an ac : Nat) (he : x.err = 0) (hm : x.more = []) (hn : x.l.length ≤ 1099511627776) :
    Calls Tryz.prog 70 #[.pointer (some ⟨X, 0, none⟩), .agg #[.int .i64 t.kind, strV t.name, .slice ai an ac, strV t.text, .int .i64 t.at_]] w fun en w' => en = .returned (.tuple #[]) ∧ ∃ v' w1 o1 o2, ((w.alloc o1).drew.alloc o2).grownBy w1 lv.ownBlock ∧ w1.ownsRow 0 72 5 v' (x.l.length + 1) (cs ++ tokCells t (.slice ai an ac)) ∧ (v'.ownBlock = lv.ownBlock ∨ v'.ownBlock = some (w.heap.size + 1 + 1)) ∧ w' = w1.setCell ⟨X, 2, none⟩ v' := by
  obtain ⟨ti, tc, rfl⟩ := slice_len hown
  obtain ⟨i0, hi, hz0, hz1, hz2⟩ := info_parts info56
  have c2 : w.cell? ⟨X, 2, none⟩ = some (.slice ti x.l.length tc) := h.cell 2 rfl
  have c3 : w.cell? ⟨X, 3, none⟩ = some (.string ⟨x.more.toArray⟩) := h.cell 3 rfl
  have c5 : w.cell? ⟨X, 5, none⟩ = some (.int .i64 x.err) := h.cell 5 rfl
  have hlt := h.lt
  have e0 : (x.err != 0) = false := by simpa using he
  have em : x.more.isEmpty = true := by rw [hm]; rfl
  have HO := hide hown
  have HA := hide h
  clear hown h he hm
  generalize x.l.length = n at *
  have d2 : (w.alloc (.cells #[.int .i64 t.kind, strV t.name, .slice ai an ac, strV t.text, .int .i64 t.at_] 72)).cell? ⟨X, 2, none⟩ = some (.slice ti n tc) := cell_alloc _ c2
  have d3 : (w.alloc (.cells #[.int .i64 t.kind, strV t.name, .slice ai an ac, strV t.text, .int .i64 t.at_] 72)).cell? ⟨X, 3, none⟩ = some (.string ⟨x.more.toArray⟩) := cell_alloc _ c3
  have d5 : (w.alloc (.cells #[.int .i64 t.kind, strV t.name, .slice ai an ac, strV t.text, .int .i64 t.at_] 72)).cell? ⟨X, 5, none⟩ = some (.int .i64 x.err) := cell_alloc _ c5
  go_enter Tryz.func70, Tryz.ntmps70
  go_wp2_with fail
  have hnews : ∀ j u, (tokCells t (.slice ai an ac))[j]? = some u → ((w.alloc (.cells #[.int .i64 t.kind, strV t.name, .slice ai an ac, strV t.text, .int .i64 t.at_] 72)).drew.alloc (.cells (tokCells t (.slice ai an ac)).toArray 72)).cell? ((⟨w.heap.size + 1, 0, none⟩ : Addr).add j) = some u := by
    have h9 := rtok_news (w.alloc (.cells #[.int .i64 t.kind, strV t.name, .slice ai an ac, strV t.text, .int .i64 t.at_] 72)).drew t (.slice ai an ac)
    have e9 : (w.alloc (.cells #[.int .i64 t.kind, strV t.name, .slice ai an ac, strV t.text, .int .i64 t.at_] 72)).drew.heap.size = w.heap.size + 1 := by simp [World.drew]
    rw [e9] at h9
    exact h9
  have HNW := hide hnews
  clear hnews
  go_region_law
    (first | (
      refine step_own_at rfl (.tmp 39) (.tmp 41) 62 rfl 72 i0 _ 5 72 Tryz.underlying62 hi hz0 hz1 hz2 rfl (by decide) (.slice ti n tc) n cs (by simp [Act.eval, Act.put]) ((HO.out.alloc _).drew.alloc _) ⟨w.heap.size + 1, 0, none⟩ 1 1 (tokCells t (.slice ai an ac)) (by simp [Act.eval, Act.put]) rfl HNW.out (tok_one _ _ rfl) (by unfold maxLen; omega) (by omega) ?_
      intro v' w1 ho hg hat
      obtain ⟨ao', cap', rfl⟩ := slice_len ho
      have hb1 : w1.heap[X]? = some (.cells (scCells s (.slice ti n tc) x) 65 (0, 0)) := by
        rw [hg.block X (by simp; omega) (fun e => hX e.symm)]
        exact (Below.heap_alloc _ _ X (by simp; omega)).trans ((Below.heap_alloc w _ X hlt).trans HA.out)
      have g2 := cell_of hb1 (i := 2) rfl
      have gf := free_of (i := 2) hb1
      have HOW := hide ho
      have HG := hide hg
      have HAT := hide hat
      clear ho hg hat hb1))
  all_goals
    go_wp2
    go_end0
    exact ⟨rfl, _, _, _, _, HG.out, HOW.out, by simpa using HAT.out, rfl⟩
end Go.Proofs.YtfolnkmbdmfigaaGreatDoor
