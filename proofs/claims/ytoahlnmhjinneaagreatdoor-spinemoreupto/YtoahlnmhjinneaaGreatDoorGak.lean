import Derived.Test.YtoahlnmhjinneaaGreatDoorGai
import Derived.Test.YtoahlnmhjinneaaGreatDoorGaj
set_option linter.unusedVariables false
set_option linter.unusedSimpArgs false
set_option linter.unusedSimpArgs false
set_option linter.unusedVariables false
namespace Go.Proofs.YtoahlnmhjinneaaGreatDoor
open Go.RowKit Go.Maps Go.Lib
variable {w w' w1 w2 W0 W1 W2 W3 W4 WO wr W W5 : World} {A A' F G : Nat → Prop} {X lo : Nat} {q l l' : L} {s s' : RS} {v v' vp : Value}
structure XR (X : Nat) (q : L) (w : World) (s : RS) : Prop where
  blk : w.heap[X]? = some (.cells #[.string (bs q), .int .i64 ((q.length - s.l.length : Nat) : Int), .int .i64 s.nest, .int .i64 s.err, .int .i64 s.at_] 89 (0, 0))
  suf : s.l <:+ q
  q5 : q.length ≤ 500
theorem XR.lt (h : XR X q w s) : X < w.heap.size := blk_lt h.blk
theorem XR.fr (h : XR X q w s) (f : Fr F w w') (hX : ¬ F X) : XR X q w' s := ⟨(f.block X h.lt hX).trans h.blk, h.suf, h.q5⟩
theorem XR.below (h : XR X q w s) (b : Below w.heap.size w w') : XR X q w' s := ⟨(b.block X h.lt).trans h.blk, h.suf, h.q5⟩
theorem XR.le (h : XR X q w s) : s.l.length ≤ q.length := h.suf.length_le
theorem XR.cells (h : XR X q w s) : w.cell? ⟨X, 0, none⟩ = some (.string (bs q)) ∧ w.cell? ⟨X, 1, none⟩ = some (.int .i64 ((q.length - s.l.length : Nat) : Int)) ∧ w.cell? ⟨X, 2, none⟩ = some (.int .i64 s.nest) ∧ w.cell? ⟨X, 3, none⟩ = some (.int .i64 s.err) ∧ w.cell? ⟨X, 4, none⟩ = some (.int .i64 s.at_) :=
  ⟨cell_of h.blk rfl, cell_of h.blk rfl, cell_of h.blk rfl, cell_of h.blk rfl, cell_of h.blk rfl⟩
theorem XR.setL (h : XR X q w s) (hl : l <:+ q) : XR X q (w.setCell ⟨X, 1, none⟩ (.int .i64 ((q.length - l.length : Nat) : Int))) { s with l := l } := ⟨set_of h.blk _, hl, h.q5⟩
theorem XR.setN (h : XR X q w s) (m : Int) : XR X q (w.setCell ⟨X, 2, none⟩ (.int .i64 m)) { s with nest := m } := ⟨set_of h.blk _, h.suf, h.q5⟩
theorem fr_set (w : World) (X i : Nat) (u : Value) : Fr (fun k => k = X) w (w.setCell ⟨X, i, none⟩ u) := (Fr.refl (fun k => k = X) w).set ⟨X, i, none⟩ u (fun _ => rfl)
abbrev XE (X : Nat) (q : L) (w : World) (s : RS) (e : Ending) (w' : World) : Prop := e = .returned (.tuple #[]) ∧ XR X q w' s ∧ Fr (fun k => k = X) w w'
set_option maxHeartbeats 2000000 in
theorem failR_ok (h : XR X q w s) (e : Nat) : Calls Tryz.prog 57 #[ptr X, .int .i64 e, .int .i64 ((q.length - s.l.length : Nat) : Int)] w (XE X q w (s.fail q e)) := by
  obtain ⟨c0, c1, c2, c3, c4⟩ := h.cells
  unfold RS.fail
  by_cases he : s.err = 0
  · rw [if_pos he]
    rw [he] at c3
    have c3 : w.cell? ⟨X, 3, none⟩ = some (.int .i64 0) := c3
    have f3 := free_of (i := 3) h.blk
    have b1 : (w.setCell ⟨X, 3, none⟩ (.int .i64 e)).heap[X]? = _ := set_of h.blk _
    have d4 := cell_of (i := 4) b1 rfl
    have f4 := free_of (i := 4) b1
    have HE : Hid (XR X q ((w.setCell ⟨X, 3, none⟩ (.int .i64 e)).setCell ⟨X, 4, none⟩ (.int .i64 ((q.length - s.l.length : Nat) : Int))) { s with err := e, at_ := q.length - s.l.length } ∧ Fr (fun k => k = X) w ((w.setCell ⟨X, 3, none⟩ (.int .i64 e)).setCell ⟨X, 4, none⟩ (.int .i64 ((q.length - s.l.length : Nat) : Int)))) := ⟨⟨set_of b1 _, h.suf, h.q5⟩, (fr_set _ _ _ _).same (fr_set _ _ _ _)⟩
    clear h b1 he c1 c2 c4 c0
    go_enter Tryz.func57, Tryz.ntmps57
    go_wp2
    go_end0
    exact ⟨rfl, HE.out.1, HE.out.2⟩
  · rw [if_neg he]
    have hb : ((s.err : Int) == 0) = false := by simp; omega
    have hb2 : (s.err == 0) = false := by simpa using he
    have H := hide h
    clear h he c0 c1 c2 c4
    go_enter Tryz.func57, Tryz.ntmps57
    go_wp2
    go_end0
    exact ⟨rfl, H.out, Fr.refl _ _⟩
theorem blankR_any (c : UInt8) (w : World) : Calls Tryz.prog 55 #[.int .u8 (c.toNat : Int)] w fun e w' => e = .returned (.bool ([9, 10, 13, 32].contains c)) ∧ w' = w := by
  have h1 : ([9, 10, 13, 32].contains c) = ((c.toNat : Int) == 32 || (c.toNat : Int) == 9 || (c.toNat : Int) == 10 || (c.toNat : Int) == 13) := by
    have e : ∀ k : UInt8, ((c.toNat : Int) == (k.toNat : Int)) = (c == k) := fun k => by
      rw [Bool.eq_iff_iff, beq_iff_eq, beq_iff_eq]
      constructor
      · intro h; exact UInt8.toNat_inj.1 (by omega)
      · intro h; rw [h]
    have e1 : ((c.toNat : Int) == 32) = (c == 32) := e 32
    have e2 : ((c.toNat : Int) == 9) = (c == 9) := e 9
    have e3 : ((c.toNat : Int) == 10) = (c == 10) := e 10
    have e4 : ((c.toNat : Int) == 13) = (c == 13) := e 13
    rw [e1, e2, e3, e4]
    simp only [List.contains_cons, List.contains_nil, Bool.or_false]
    cases (c == 9) <;> cases (c == 10) <;> cases (c == 13) <;> cases (c == 32) <;> rfl
  rw [h1]
  clear h1
  generalize (c.toNat : Int) = k
  go_enter Tryz.func55, Tryz.ntmps55
  go_wp2
  all_goals go_ret
  all_goals refine ⟨ret_bool ?_, rfl⟩
  all_goals try simp only [beq_iff_eq, beq_eq_false_iff_ne, ne_eq] at *
  all_goals rw [Bool.eq_iff_iff]
  all_goals try simp only [Bool.or_eq_true, beq_iff_eq]
  all_goals first | omega | (simp_all; done) | (simp_all; omega)
theorem index_run {b : UInt8} {r : L} (h : (b :: r) <:+ q) (w : World) : (Instr.index 9 (.string (bs q)) (.int .i64 ((q.length - (b :: r).length : Nat) : Int))).run Tryz.prog w = .ok (.int .u8 (b.toNat : Int)) w := by
  have hd := suf_drop h
  have hle := h.length_le
  simp only [List.length_cons] at hle hd ⊢
  generalize hk : q.length - (r.length + 1) = k at *
  have hkl : k < q.length := by omega
  have hq : q[k]? = some b := by have := congrArg (·[0]?) hd; simpa using this
  have hi : 0 ≤ (k : Int) ∧ (k : Int) < (bs q).size := ⟨by omega, by rw [bs_size]; omega⟩
  rw [run_index_string _ _ _ _ _ Tryz.underlying9, dif_pos hi]
  have hb : (bs q)[(k : Int).toNat]'(by rw [bs_size]; omega) = b := by
    have h2 : q[k] = b := by rw [List.getElem?_eq_getElem hkl] at hq; exact Option.some.inj hq
    simp [bs, ByteArray.getElem_eq_getElem_data, h2]
  rw [hb]
end Go.Proofs.YtoahlnmhjinneaaGreatDoor

set_option linter.unusedSimpArgs false
set_option linter.unusedVariables false
namespace Go.Proofs.YtoahlnmhjinneaaGreatDoor
open Go.RowKit Go.Maps Go.Lib
variable {w w' w1 w2 W0 W1 W2 W3 W4 WO wr W W5 : World} {A A' F G : Nat → Prop} {X lo : Nat} {q l l' : L} {s s' : RS} {v v' vp : Value}
def meaX (X : Nat) (q : L) (W : World) : Nat := q.length - (RowKit.intOf ((W.cell? ⟨X, 1, none⟩).getD (.int .i64 0))).toNat
theorem XR.mea (h : XR X q w s) : meaX X q w = s.l.length := by
  obtain ⟨_, c1, _⟩ := h.cells
  have := h.le
  unfold meaX
  rw [c1]
  simp [RowKit.intOf]
  omega
theorem skip_cons (b : UInt8) (r : L) : skip (b :: r) = if [9, 10, 13, 32].contains b = true then skip r else b :: r := by
  simp only [skip, Lib.trimLeftS, List.dropWhile_cons]
theorem skip_nil : skip [] = [] := rfl
theorem skip_skip (l : L) : skip (skip l) = skip l := by
  induction l with
  | nil => rfl
  | cons b r ih =>
    rw [skip_cons]
    split
    · exact ih
    · next h => rw [skip_cons, if_neg h]
set_option maxHeartbeats 4000000 in
set_option maxRecDepth 100000 in
theorem blanksR_ok (h : XR X q w s) : Calls Tryz.prog 34 #[ptr X] w (XE X q w s.bl) := by
  unfold RS.bl
  by_cases he : s.err = 0
  · rw [if_pos he]
    have HR : Hid (XR X q w { s with l := s.l } ∧ skip s.l = skip s.l) := ⟨h, rfl⟩
    have H0 := hide h
    obtain ⟨lz, nest, err, at_⟩ := s
    simp only at he
    subst he
    clear h
    go_enter Tryz.func34, Tryz.ntmps34
    go_wp2_with fail
    go_loopw [2, 3, 4, 5, 6, 7, 8, 9, 10, 11, 12, 13, 14, 15, 16, 17, 18, 19, 20, 21, 22, 23, 24, 25, 26, 27, 28, 29, 30, 31, 32, 33, 34, 35, 36, 37] (fun _ _ _ _ _ _ _ _ _ _ _ _ _ _ _ _ _ _ _ _ _ _ _ _ _ _ _ _ _ _ _ _ _ _ _ _ wr => ∃ l', XR X q wr ⟨l', nest, 0, at_⟩ ∧ skip l' = skip lz ∧ Fr (fun k => k = X) w wr) (fun _ _ _ _ _ _ _ _ _ _ _ _ _ _ _ _ _ _ _ _ _ _ _ _ _ _ _ _ _ _ _ _ _ _ _ _ wr => meaX X q wr)
    case atStart => exact ⟨lz, H0.out, rfl, Fr.refl _ _⟩
    case round =>
      rename World => WO
      obtain ⟨l', hx, hs, hfr⟩ := hrel
      obtain ⟨c0, c1, c2, c3, c4⟩ := hx.cells
      have hmea := hx.mea
      have HX := hide hx
      have HS := hide hs
      have HF := hide hfr
      have hz := bs_size q
      have hle := hx.le
      cases l' with
      | nil =>
        have e0 : decide ((q.length - ([] : L).length : Nat) < q.length) = false := by simp
        have e1 : decide ((((q.length - ([] : L).length : Nat)) : Int) < (q.length : Int)) = false := by simp
        simp only at c1 c3
        clear hx hs hfr hmea hle c2 c4
        generalize q.length - ([] : L).length = K at *
        go_wp2_with fail
        go_quiet (fail)
        go_wp2
        go_end0
        refine ⟨rfl, ?_, HF.out.drewN _⟩
        rw [← HS.out]
        exact HX.out.fr (F := fun _ => False) ((Fr.refl _ WO).drewN _) (fun x => x)
      | cons b r =>
        have e0 : decide (q.length - (b :: r).length < q.length) = true := by simp at hle ⊢; omega
        have e1 : decide (((q.length - (b :: r).length : Nat) : Int) < (q.length : Int)) = true := by simp at hle ⊢; omega
        have hidx := index_run (q := q) (b := b) (r := r) hx.suf
        have hbl := blankR_any b
        have HBL := hide hbl
        obtain ⟨bb, hbb⟩ : ∃ x, [9, 10, 13, 32].contains b = x := ⟨_, rfl⟩
        rw [hbb] at HBL
        simp only at c1 c3
        cases bb with
        | false =>
          have hsk : skip lz = b :: r := by rw [← hs, skip_cons, hbb]; simp
          clear hx hs hfr hmea hle c2 c4 hbl hbb
          generalize q.length - (b :: r).length = K at *
          go_wp2_with fail
          go_quiet (first | (go_at_call 55; refine Calls.quiet_of_same (HBL.out _)))
          go_wp2
          go_end0
          refine ⟨rfl, ?_, HF.out.drewN _⟩
          rw [hsk]
          exact HX.out.fr (F := fun _ => False) ((Fr.refl _ WO).drewN _) (fun x => x)
        | true =>
          have hsr : r <:+ q := (List.suffix_cons b r).trans hx.suf
          have hlr : r.length + 1 ≤ q.length := by simpa using hle
          have hnx : (q.length - (b :: r).length) + 1 = q.length - r.length := by simp; omega
          have hwr : IntKind.i64.wrap (((q.length - (b :: r).length : Nat) : Int) + 1) = ((q.length - r.length : Nat) : Int) := by rw [← hnx]; have := hx.q5; rw [IntKind.wrap_i64]; simp; omega
          have f1 := free_of (i := 1) hx.blk
          have HN : Hid (∀ m, XR X q ((WO.drewN m).setCell ⟨X, 1, none⟩ (.int .i64 ((q.length - r.length : Nat) : Int))) ⟨r, nest, 0, at_⟩ ∧ Fr (fun k => k = X) w ((WO.drewN m).setCell ⟨X, 1, none⟩ (.int .i64 ((q.length - r.length : Nat) : Int)))) := fun m => by
            have hx' : XR X q (WO.drewN m) ⟨b :: r, nest, 0, at_⟩ := hx.fr (F := fun _ => False) ((Fr.refl _ WO).drewN m) (fun x => x)
            exact ⟨hx'.setL hsr, (hfr.drewN m).same (fr_set _ _ _ _)⟩
          have hsk : skip r = skip lz := by rw [← hs, skip_cons, hbb]; simp
          have hmr : (b :: r).length = r.length + 1 := rfl
          clear hx hs hfr hle c2 c4 hbl hbb hnx hsr
          generalize q.length - (b :: r).length = K at *
          go_wp2_with fail
          go_quiet (first | (go_at_call 55; refine Calls.quiet_of_same (HBL.out _)))
          go_wp2
          obtain ⟨n1, n2⟩ := HN.out nq
          exact ⟨⟨r, n1, hsk, n2⟩, by rw [n1.mea, hmea]; simp⟩
  · rw [if_neg he]
    have hb : ((s.err : Int) == 0) = false := by simp; omega
    have hb2 : (s.err == 0) = false := by simpa using he
    have H0 := hide h
    clear h he
    go_enter Tryz.func34, Tryz.ntmps34
    go_wp2_with fail
    go_loopw [2, 3, 4, 5, 6, 7, 8, 9, 10, 11, 12, 13, 14, 15, 16, 17, 18, 19, 20, 21, 22, 23, 24, 25, 26, 27, 28, 29, 30, 31, 32, 33, 34, 35, 36, 37] (fun _ _ _ _ _ _ _ _ _ _ _ _ _ _ _ _ _ _ _ _ _ _ _ _ _ _ _ _ _ _ _ _ _ _ _ _ wr => wr = w) (fun _ _ _ _ _ _ _ _ _ _ _ _ _ _ _ _ _ _ _ _ _ _ _ _ _ _ _ _ _ _ _ _ _ _ _ _ _ => 0)
    case atStart => rfl
    case round =>
      rename World => WO
      subst hrel
      obtain ⟨c0, c1, c2, c3, c4⟩ := H0.out.cells
      go_wp2_with fail
      go_quiet (fail)
      go_wp2
      go_end0
      exact ⟨rfl, H0.out.fr (F := fun _ => False) ((Fr.refl _ _).drewN _) (fun x => x), (Fr.refl _ _).drewN _⟩
end Go.Proofs.YtoahlnmhjinneaaGreatDoor

set_option linter.unusedSimpArgs false
set_option linter.unusedVariables false
namespace Go.Proofs.YtoahlnmhjinneaaGreatDoor
open Go.RowKit Go.Maps Go.Lib
variable {w w' w1 w2 W0 W1 W2 W3 W4 WO wr W W5 : World} {A A' F G : Nat → Prop} {X lo : Nat} {q l l' : L} {s s' : RS} {v v' vp : Value}
theorem XR.drewN (h : XR X q w s) (n : Nat) : XR X q (w.drewN n) s := h.fr (F := fun _ => False) ((Fr.refl _ w).drewN n) (fun x => x)
theorem at2_nonneg (S : ByteArray) (i : Nat) : 0 ≤ (Ch.at2 S i).2 := by unfold Ch.at2; split <;> simp
set_option maxHeartbeats 4000000 in
set_option maxRecDepth 100000 in
theorem wrongR_ok (h : XR X q w s) : Calls Tryz.prog 35 #[ptr X] w (XE X q w (s.wrong q)) := by
  have HB := hide (blanksR_ok h)
  have hq5 := h.q5
  clear h
  unfold RS.wrong
  generalize s.bl = s1 at *
  have hz := bs_size q
  by_cases hl : s1.l = []
  · rw [if_neg (fun x => x.1 hl)]
    have e0 : decide ((q.length - s1.l.length : Nat) < q.length) = false := by rw [hl]; simp
    have e1 : decide (((q.length - s1.l.length : Nat) : Int) < (q.length : Int)) = false := by rw [hl]; simp
    have HC : Hid (∀ W, XR X q W s1 → W.cell? ⟨X, 0, none⟩ = some (.string (bs q)) ∧ W.cell? ⟨X, 1, none⟩ = some (.int .i64 ((q.length - s1.l.length : Nat) : Int)) ∧ ∀ m, (Calls Tryz.prog 57 #[ptr X, .int .i64 3, .int .i64 ((q.length - s1.l.length : Nat) : Int)] (W.drewN m) (XE X q (W.drewN m) (s1.fail q 3)))) := fun W hW => ⟨hW.cells.1, hW.cells.2.1, fun m => failR_ok (hW.drewN m) 3⟩
    generalize q.length - s1.l.length = K at *
    clear hl
    go_enter Tryz.func35, Tryz.ntmps35
    go_wp2_with (first | (go_at_call 34; refine HB.out.mono ?_; rintro e w2 ⟨rfl, hx, fr⟩; obtain ⟨c0, c1, hf⟩ := HC.out _ hx; have HF := hide hf; clear hf))
    go_quiet (fail)
    go_wp2_with (first | (go_at_call 57; refine (HF.out _).mono ?_; rintro e w3 ⟨rfl, hx3, fr3⟩))
    go_end0
    exact ⟨rfl, hx3, (fr.drewN _).same fr3⟩
  · have hle : ∀ W, XR X q W s1 → q.length - s1.l.length ≤ q.length := fun W hW => Nat.sub_le _ _
    have HA : Hid (∀ W, Calls Tryz.prog 56 #[.string (bs q), .int .i64 ((q.length - s1.l.length : Nat) : Int)] W fun e w' => e = .returned (.tuple #[.int .i64 (Ch.at2 (bs q) (q.length - s1.l.length)).1, .int .i64 (Ch.at2 (bs q) (q.length - s1.l.length)).2]) ∧ w' = W) := fun W => At_any (bs q) (q.length - s1.l.length) W (by rw [hz]; omega) (by rw [hz]; omega)
    have hnn := at2_nonneg (bs q) (q.length - s1.l.length)
    obtain ⟨bz, hbz⟩ : ∃ b, ((Ch.at2 (bs q) (q.length - s1.l.length)).2 == 0) = b := ⟨_, rfl⟩
    have hno : (if s1.l ≠ [] ∧ okw q s1.l = 0 then 2 else 3) = (if bz = true then 2 else 3) := by
      have : (okw q s1.l = 0) ↔ bz = true := by
        rw [← hbz, beq_iff_eq]; unfold okw; omega
      simp only [ne_eq, hl, not_false_eq_true, true_and, this]
    rw [hno]
    have HC : Hid (∀ W, XR X q W s1 → (W.cell? ⟨X, 0, none⟩ = some (.string (bs q)) ∧ W.cell? ⟨X, 1, none⟩ = some (.int .i64 ((q.length - s1.l.length : Nat) : Int))) ∧ decide (q.length - s1.l.length < q.length) = true ∧ decide (((q.length - s1.l.length : Nat) : Int) < (q.length : Int)) = true ∧ ∀ n : Nat, (Calls Tryz.prog 57 #[ptr X, .int .i64 n, .int .i64 ((q.length - s1.l.length : Nat) : Int)] W (XE X q W (s1.fail q n)))) := fun W hW => by
      have h1 := hW.le
      have h2 : 0 < s1.l.length := List.length_pos_iff.2 hl
      exact ⟨⟨hW.cells.1, hW.cells.2.1⟩, by simp; omega, by simp; omega, fun n => failR_ok hW n⟩
    generalize q.length - s1.l.length = K at *
    generalize (Ch.at2 (bs q) K).1 = a1 at *
    generalize (Ch.at2 (bs q) K).2 = a2 at *
    clear hl hno hle hnn
    cases bz with
    | true =>
      simp only [if_true]
      go_enter Tryz.func35, Tryz.ntmps35
      go_wp2_with (first | (go_at_call 34; refine HB.out.mono ?_; rintro e w2 ⟨rfl, hx, fr⟩; obtain ⟨⟨c0, c1⟩, d1, d2, -⟩ := HC.out _ hx))
      go_quiet (fail)
      go_wp2_with fail
      obtain ⟨⟨g0, g1⟩, -, -, -⟩ := HC.out _ (hx.drewN nq)
      go_region_held3 (fun W => W.cell? ⟨X, 0, none⟩ = some (.string (bs q)) ∧ W.cell? ⟨X, 1, none⟩ = some (.int .i64 (K : Int)))
        (first | exact ⟨g0, g1⟩)
        (first | (go_at_call 56; refine (HA.out _).mono ?_; rintro e w3 ⟨rfl, hw3⟩; have hw4 := hw3.symm; clear hw3; subst hw4))
      all_goals
        have hx5 : XR X q (w2.drewN nq).drew s1 := (hx.drewN nq).drewN 1
        have hf := (HC.out _ hx5).2.2.2 2
        have HF : Hid (Calls Tryz.prog 57 #[ptr X, .int .i64 2, .int .i64 (K : Int)] (w2.drewN nq).drew (XE X q (w2.drewN nq).drew (s1.fail q 2))) := hf
        clear hf
        go_wp2_with (first | (go_at_call 57; refine HF.out.mono ?_; rintro e w6 ⟨rfl, hx6, fr6⟩))
        first | go_end0 | refine bodyPost_ret (results_none rfl _ _ _) rfl ?_
        exact ⟨rfl, hx6, ((fr.drewN nq).drewN 1).same fr6⟩
    | false =>
      simp only [Bool.false_eq_true, if_false]
      go_enter Tryz.func35, Tryz.ntmps35
      go_wp2_with (first | (go_at_call 34; refine HB.out.mono ?_; rintro e w2 ⟨rfl, hx, fr⟩; obtain ⟨⟨c0, c1⟩, d1, d2, -⟩ := HC.out _ hx))
      go_quiet (fail)
      go_wp2_with fail
      obtain ⟨⟨g0, g1⟩, -, -, -⟩ := HC.out _ (hx.drewN nq)
      go_region_held3 (fun W => W.cell? ⟨X, 0, none⟩ = some (.string (bs q)) ∧ W.cell? ⟨X, 1, none⟩ = some (.int .i64 (K : Int)))
        (first | exact ⟨g0, g1⟩)
        (first | (go_at_call 56; refine (HA.out _).mono ?_; rintro e w3 ⟨rfl, hw3⟩; have hw4 := hw3.symm; clear hw3; subst hw4))
      all_goals
        have hx5 : XR X q (w2.drewN nq).drew s1 := (hx.drewN nq).drewN 1
        have hf := (HC.out _ hx5).2.2.2 3
        have HF : Hid (Calls Tryz.prog 57 #[ptr X, .int .i64 3, .int .i64 (K : Int)] (w2.drewN nq).drew (XE X q (w2.drewN nq).drew (s1.fail q 3))) := hf
        clear hf
        go_wp2_with (first | (go_at_call 57; refine HF.out.mono ?_; rintro e w6 ⟨rfl, hx6, fr6⟩))
        first | go_end0 | refine bodyPost_ret (results_none rfl _ _ _) rfl ?_
        exact ⟨rfl, hx6, ((fr.drewN nq).drewN 1).same fr6⟩
end Go.Proofs.YtoahlnmhjinneaaGreatDoor

set_option linter.unusedSimpArgs false
set_option linter.unusedVariables false
namespace Go.Proofs.YtoahlnmhjinneaaGreatDoor
open Go.RowKit Go.Maps Go.Lib
variable {w w' w1 w2 W0 W1 W2 W3 W4 WO wr W W5 : World} {A A' F G : Nat → Prop} {X lo : Nat} {q l l' p : L} {s s' : RS} {v v' vp : Value}
theorem pre_take (l p : L) : Lib.hasPrefix l p = (l.take p.length == p) := by
  induction p generalizing l with
  | nil => simp [Lib.hasPrefix]
  | cons b p ih =>
    cases l with
    | nil => simp [Lib.hasPrefix, List.isPrefixOf]
    | cons c l =>
      have := ih l
      simp only [Lib.hasPrefix] at this
      simp only [Lib.hasPrefix, List.isPrefixOf, List.length_cons, List.take_succ_cons, this]
      rw [Bool.eq_iff_iff]
      simp only [Bool.and_eq_true, beq_iff_eq, List.cons.injEq]
      constructor
      · rintro ⟨rfl, h⟩; exact ⟨rfl, h⟩
      · rintro ⟨rfl, h⟩; exact ⟨rfl, h⟩
theorem bl_err (s : RS) : s.bl.err = s.err := by unfold RS.bl; split <;> rfl
theorem bl_bl (s : RS) : s.bl.bl = s.bl := by
  unfold RS.bl
  by_cases h : s.err = 0
  · simp only [h, if_true, skip_skip]
  · simp only [h, if_false]
theorem is_eq (s : RS) (p : L) : s.is p = (decide (s.bl.err = 0) && ((s.bl.l.take p.length == p) && (p != [47] || !(Lib.hasPrefix (s.bl.l.drop 1) [47])))) := by
  unfold RS.is isB; rw [bl_err, pre_take]
abbrev XB (X : Nat) (q : L) (w : World) (b : Bool) (s : RS) (e : Ending) (w' : World) : Prop := e = .returned (.bool b) ∧ XR X q w' s ∧ Fr (fun k => k = X) w w'
set_option maxHeartbeats 8000000 in
set_option maxRecDepth 100000 in
theorem isR_ok (h : XR X q w s) (hp : 1 ≤ p.length) (hp2 : p.length ≤ 16) : Calls Tryz.prog 76 #[ptr X, .string ⟨p.toArray⟩] w (XB X q w (s.is p) s.bl) := by
  have HB := hide (blanksR_ok h)
  have hq5 := h.q5
  rw [is_eq]
  clear h
  generalize s.bl = s1 at *
  obtain ⟨l, nest, err, at_⟩ := s1
  simp only
  have hz := bs_size q
  have hzp : (⟨p.toArray⟩ : ByteArray).size = p.length := bs_size p
  have HC : Hid (∀ W, XR X q W ⟨l, nest, err, at_⟩ → W.cell? ⟨X, 0, none⟩ = some (.string (bs q)) ∧ W.cell? ⟨X, 1, none⟩ = some (.int .i64 ((q.length - l.length : Nat) : Int)) ∧ W.cell? ⟨X, 3, none⟩ = some (.int .i64 err) ∧ l.length ≤ q.length ∧ l <:+ q) := fun W hW => ⟨hW.cells.1, hW.cells.2.1, hW.cells.2.2.2.1, hW.le, hW.suf⟩
  by_cases he : err = 0
  · subst he
    simp only [decide_true, Bool.true_and]
    by_cases hlen : l.length < p.length
    · have hf : (l.take p.length == p) = false := by
        rw [beq_eq_false_iff_ne]; intro e; have := congrArg List.length e; rw [List.length_take] at this; omega
      rw [hf]
      simp only [Bool.false_and]
      clear hf
      go_enter Tryz.func76, Tryz.ntmps76
      go_wp2_with (first | (go_at_call 34; refine HB.out.mono ?_; rintro e w2 ⟨rfl, hx, fr⟩; obtain ⟨c0, c1, c3, hle, hsuf⟩ := HC.out _ hx))
      have g1 : decide (q.length < (q.length - l.length) + p.length) = true := by simp; omega
      have g2 : decide ((q.length : Int) < ((q.length - l.length : Nat) : Int) + p.length) = true := by simp; omega
      have g3 : IntKind.i64.wrap (((q.length - l.length : Nat) : Int) + p.length) = ((q.length - l.length : Nat) : Int) + p.length := by rw [IntKind.wrap_i64]; omega
      have H := hide hx
      clear hx hle hsuf hlen
      generalize q.length - l.length = K at *
      generalize p.length = P at *
      generalize (⟨p.toArray⟩ : ByteArray) = PB at *
      go_quiet (fail)
      go_wp2
      go_ret
      exact ⟨rfl, H.out.drewN _, fr.drewN _⟩
    · by_cases htk : l.take p.length = p
      · have hf : (l.take p.length == p) = true := by simpa using htk
        rw [hf]
        simp only [Bool.true_and]
        by_cases h47 : p = [47]
        · subst h47
          simp only [bne_self_eq_false, Bool.false_or]
          match l, hlen, htk with
          | [], hlen, htk => simp at hlen
          | [a], hlen, htk =>
            have ha : a = 47 := by simpa using htk
            subst ha
            have hfin : (!(Lib.hasPrefix (([47] : L).drop 1) [47])) = true := rfl
            rw [hfin]
            have hpl : ([47] : L).length = 1 := rfl
            rw [hpl] at hzp
            go_enter Tryz.func76, Tryz.ntmps76
            go_wp2_with (first | (go_at_call 34; refine HB.out.mono ?_; rintro e w2 ⟨rfl, hx, fr⟩; obtain ⟨c0, c1, c3, hle, hsuf⟩ := HC.out _ hx))
            have hq1 : 1 ≤ q.length := by simpa using hle
            have g1 : decide (q.length < (q.length - ([47] : L).length) + 1) = false := by simp; omega
            have g2 : decide ((q.length : Int) < ((q.length - ([47] : L).length : Nat) : Int) + 1) = false := by simp; omega
            have g3 : IntKind.i64.wrap (((q.length - ([47] : L).length : Nat) : Int) + 1) = ((q.length - ([47] : L).length : Nat) : Int) + 1 := by rw [IntKind.wrap_i64]; omega
            have g4 : decide ((q.length : Int) ≤ ((q.length - ([47] : L).length : Nat) : Int) + 1) = true := by simp; omega
            have g5 : decide (q.length ≤ q.length - ([47] : L).length + 1) = true := by simp; omega
            have gs : ∀ W, (Instr.slice 9 (.string (bs q)) (some (.int .i64 ((q.length - ([47] : L).length : Nat) : Int))) (some (.int .i64 (((q.length - ([47] : L).length : Nat) : Int) + 1))) none).run Tryz.prog W = .ok (.string (bs [47])) W := slice_run (t := q) hsuf 1 (by simp)
            have ge : ((bs [47]).toList == [47]) = true := by rw [bs_toL]; rfl
            have H := hide hx
            clear hx hle hsuf hlen htk hf hfin
            generalize q.length - ([47] : L).length = K at *
            go_quiet (fail)
            go_wp2_with fail
            go_quiet (fail)
            go_wp2
            go_ret
            exact ⟨rfl, (H.out.drewN _).drewN _, (fr.drewN _).drewN _⟩
          | a :: b :: r, hlen, htk =>
            have ha : a = 47 := by simpa using htk
            subst ha
            have hfin : (!(Lib.hasPrefix ((47 :: b :: r : L).drop 1) [47])) = !(b == 47) := by
              show (!(Lib.hasPrefix (b :: r) [47])) = !(b == 47)
              rw [pre_take]
              congr 1
              rw [Bool.eq_iff_iff]; simp
            rw [hfin]
            obtain ⟨bb, hbb⟩ : ∃ x, (b == 47) = x := ⟨_, rfl⟩
            rw [hbb]
            have hcb : ((b.toNat : Int) == 47) = bb := by
              rw [← hbb, Bool.eq_iff_iff, beq_iff_eq, beq_iff_eq]
              constructor
              · intro h; exact UInt8.toNat_inj.1 (by rw [show (47 : UInt8).toNat = 47 from rfl]; omega)
              · intro h; rw [h]; rfl
            have hcb2 : (b.toNat == 47) = bb := by rw [← hcb, Bool.eq_iff_iff, beq_iff_eq, beq_iff_eq]; omega
            have hpl : ([47] : L).length = 1 := rfl
            rw [hpl] at hzp
            go_enter Tryz.func76, Tryz.ntmps76
            go_wp2_with (first | (go_at_call 34; refine HB.out.mono ?_; rintro e w2 ⟨rfl, hx, fr⟩; obtain ⟨c0, c1, c3, hle, hsuf⟩ := HC.out _ hx))
            have hq1 : r.length + 2 ≤ q.length := by simpa using hle
            have g1 : decide (q.length < (q.length - (47 :: b :: r : L).length) + 1) = false := by simp; omega
            have g2 : decide ((q.length : Int) < ((q.length - (47 :: b :: r : L).length : Nat) : Int) + 1) = false := by simp; omega
            have g3 : IntKind.i64.wrap (((q.length - (47 :: b :: r : L).length : Nat) : Int) + 1) = ((q.length - (47 :: b :: r : L).length : Nat) : Int) + 1 := by rw [IntKind.wrap_i64]; omega
            have g4 : decide ((q.length : Int) ≤ ((q.length - (47 :: b :: r : L).length : Nat) : Int) + 1) = false := by simp; omega
            have g5 : decide (q.length ≤ q.length - (47 :: b :: r : L).length + 1) = false := by simp; omega
            have gs : ∀ W, (Instr.slice 9 (.string (bs q)) (some (.int .i64 ((q.length - (47 :: b :: r : L).length : Nat) : Int))) (some (.int .i64 (((q.length - (47 :: b :: r : L).length : Nat) : Int) + 1))) none).run Tryz.prog W = .ok (.string (bs [47])) W := slice_run (t := q) hsuf 1 (by simp)
            have ge : ((bs [47]).toList == [47]) = true := by rw [bs_toL]; rfl
            have gi : ∀ W, (Instr.index 9 (.string (bs q)) (.int .i64 (((q.length - (47 :: b :: r : L).length : Nat) : Int) + 1))).run Tryz.prog W = .ok (.int .u8 (b.toNat : Int)) W := fun W => by
              have := index_run (q := q) (b := b) (r := r) ((List.suffix_cons 47 (b :: r)).trans hsuf) W
              rw [show (((q.length - (47 :: b :: r : L).length : Nat) : Int) + 1) = ((q.length - (b :: r : L).length : Nat) : Int) by simp; omega]
              exact this
            have H := hide hx
            clear hx hle hsuf hlen htk hf hfin hbb
            generalize q.length - (47 :: b :: r : L).length = K at *
            go_quiet (fail)
            go_wp2_with fail
            go_quiet (fail)
            go_wp2
            go_ret
            refine ⟨ret_bool ?_, (H.out.drewN _).drewN _, (fr.drewN _).drewN _⟩
            first | (show ((b.toNat : Int) != 47) = !bb; rw [bne, hcb]) | rfl
        · have hb : (p != [47]) = true := by simpa using h47
          rw [hb]
          simp only [Bool.true_or]
          go_enter Tryz.func76, Tryz.ntmps76
          go_wp2_with (first | (go_at_call 34; refine HB.out.mono ?_; rintro e w2 ⟨rfl, hx, fr⟩; obtain ⟨c0, c1, c3, hle, hsuf⟩ := HC.out _ hx))
          have g1 : decide (q.length < (q.length - l.length) + p.length) = false := by simp; omega
          have g2 : decide ((q.length : Int) < ((q.length - l.length : Nat) : Int) + p.length) = false := by simp; omega
          have g3 : IntKind.i64.wrap (((q.length - l.length : Nat) : Int) + p.length) = ((q.length - l.length : Nat) : Int) + p.length := by rw [IntKind.wrap_i64]; omega
          have gs := slice_run (t := q) hsuf p.length (by omega)
          rw [htk] at gs
          have ge : ((bs p).toList == p) = true := by rw [bs_toL]; simp
          have ge2 : ((⟨p.toArray⟩ : ByteArray).toList == [47]) = false := by have := bs_toL p; unfold bs at this; rw [this]; simpa using h47
          have ge3 : (p == [47]) = false := by simpa using h47
          have H := hide hx
          clear hx hle hsuf hlen htk hf hb h47
          generalize q.length - l.length = K at *
          generalize p.length = P at *
          go_quiet (fail)
          go_wp2_with fail
          go_quiet (fail)
          go_wp2
          go_ret
          exact ⟨rfl, (H.out.drewN _).drewN _, (fr.drewN _).drewN _⟩
      · have hf : (l.take p.length == p) = false := by simpa using htk
        rw [hf]
        simp only [Bool.false_and]
        go_enter Tryz.func76, Tryz.ntmps76
        go_wp2_with (first | (go_at_call 34; refine HB.out.mono ?_; rintro e w2 ⟨rfl, hx, fr⟩; obtain ⟨c0, c1, c3, hle, hsuf⟩ := HC.out _ hx))
        have g1 : decide (q.length < (q.length - l.length) + p.length) = false := by simp; omega
        have g2 : decide ((q.length : Int) < ((q.length - l.length : Nat) : Int) + p.length) = false := by simp; omega
        have g3 : IntKind.i64.wrap (((q.length - l.length : Nat) : Int) + p.length) = ((q.length - l.length : Nat) : Int) + p.length := by rw [IntKind.wrap_i64]; omega
        have gs := slice_run (t := q) hsuf p.length (by omega)
        have ge : ((bs (l.take p.length)).toList == p) = false := by rw [bs_toL]; exact hf
        have H := hide hx
        clear hx hle hsuf hlen htk hf
        generalize bs (l.take p.length) = TB at *
        generalize q.length - l.length = K at *
        generalize p.length = P at *
        go_quiet (fail)
        go_wp2
        go_ret
        exact ⟨rfl, H.out.drewN _, fr.drewN _⟩
  · have hb : ((err : Int) == 0) = false := by simp; omega
    have hb2 : (err == 0) = false := by simpa using he
    have hb3 : ((err : Int) != 0) = true := by simp; omega
    have hb4 : (err != 0) = true := by simpa using he
    simp only [he, decide_false, Bool.false_and]
    clear he
    go_enter Tryz.func76, Tryz.ntmps76
    go_wp2_with (first | (go_at_call 34; refine HB.out.mono ?_; rintro e w2 ⟨rfl, hx, fr⟩; obtain ⟨c0, c1, c3, -, -⟩ := HC.out _ hx))
    go_quiet (fail)
    go_wp2
    go_ret
    exact ⟨rfl, hx.drewN _, fr.drewN _⟩
end Go.Proofs.YtoahlnmhjinneaaGreatDoor

set_option linter.unusedSimpArgs false
set_option linter.unusedVariables false
namespace Go.Proofs.YtoahlnmhjinneaaGreatDoor
open Go.RowKit Go.Maps Go.Lib
variable {w w' w1 w2 W0 W1 W2 W3 W4 WO wr W W5 : World} {A A' F G : Nat → Prop} {X lo : Nat} {q l l' p : L} {s s' : RS} {v v' vp : Value}
theorem is_pre (h : s.is p = true) : s.err = 0 ∧ p.length ≤ s.bl.l.length ∧ s.bl.l.take p.length = p := by
  rw [is_eq] at h
  simp only [Bool.and_eq_true, decide_eq_true_eq, beq_iff_eq] at h
  obtain ⟨h1, h2, _⟩ := h
  refine ⟨by rw [← bl_err]; exact h1, ?_, h2⟩
  have := congrArg List.length h2
  rw [List.length_take] at this
  omega
theorem drop_suf {m : Nat} (h : l <:+ q) : l.drop m <:+ q := (List.drop_suffix _ _).trans h
theorem XR.adv (h : XR X q w s) (m : Nat) (hm : m ≤ s.l.length) : IntKind.i64.wrap (((q.length - s.l.length : Nat) : Int) + m) = ((q.length - (s.l.drop m).length : Nat) : Int) ∧ w.frozen? ⟨X, 1, none⟩ = false ∧ XR X q (w.setCell ⟨X, 1, none⟩ (.int .i64 ((q.length - (s.l.drop m).length : Nat) : Int))) { s with l := s.l.drop m } ∧ Fr (fun k => k = X) w (w.setCell ⟨X, 1, none⟩ (.int .i64 ((q.length - (s.l.drop m).length : Nat) : Int))) := by
  have h1 := h.le
  have h2 := h.q5
  refine ⟨?_, free_of h.blk, h.setL (drop_suf h.suf), fr_set _ _ _ _⟩
  rw [List.length_drop, IntKind.wrap_i64]; omega
set_option maxHeartbeats 4000000 in
set_option maxRecDepth 100000 in
theorem hasR_ok (h : XR X q w s) (hp : 1 ≤ p.length) (hp2 : p.length ≤ 16) : Calls Tryz.prog 54 #[ptr X, .string ⟨p.toArray⟩] w (XB X q w (s.is p) (s.has p)) := by
  have HI := hide (isR_ok (p := p) h hp hp2)
  have hzp : (⟨p.toArray⟩ : ByteArray).size = p.length := bs_size p
  unfold RS.has
  cases hb : s.is p with
  | false =>
    rw [hb] at HI
    simp only [Bool.false_eq_true, if_false]
    clear hb h
    go_enter Tryz.func54, Tryz.ntmps54
    go_wp2_with (first | (go_at_call 76; refine HI.out.mono ?_; rintro e w2 ⟨rfl, hx, fr⟩))
    go_ret
    exact ⟨rfl, hx, fr⟩
  | true =>
    rw [hb] at HI
    simp only [if_true]
    have HA : Hid (∀ W, XR X q W s.bl → W.cell? ⟨X, 1, none⟩ = some (.int .i64 ((q.length - s.bl.l.length : Nat) : Int)) ∧ IntKind.i64.wrap (((q.length - s.bl.l.length : Nat) : Int) + p.length) = ((q.length - (s.bl.l.drop p.length).length : Nat) : Int) ∧ W.frozen? ⟨X, 1, none⟩ = false ∧ XR X q (W.setCell ⟨X, 1, none⟩ (.int .i64 ((q.length - (s.bl.l.drop p.length).length : Nat) : Int))) { s.bl with l := s.bl.l.drop p.length } ∧ Fr (fun k => k = X) W (W.setCell ⟨X, 1, none⟩ (.int .i64 ((q.length - (s.bl.l.drop p.length).length : Nat) : Int)))) := fun W hW => ⟨hW.cells.2.1, hW.adv p.length (is_pre hb).2.1⟩
    generalize q.length - s.bl.l.length = K at *
    generalize hK2 : q.length - (s.bl.l.drop p.length).length = K2 at *
    generalize p.length = P at *
    clear hb h hK2
    go_enter Tryz.func54, Tryz.ntmps54
    go_wp2_with (first | (go_at_call 76; refine HI.out.mono ?_; rintro e w2 ⟨rfl, hx, fr⟩; obtain ⟨c1, g1, f1, hx2, fr2⟩ := HA.out _ hx))
    go_ret
    exact ⟨rfl, hx2, fr.same fr2⟩
set_option maxHeartbeats 4000000 in
set_option maxRecDepth 100000 in
theorem mustR_ok (h : XR X q w s) (hp : 1 ≤ p.length) (hp2 : p.length ≤ 16) : Calls Tryz.prog 124 #[ptr X, .string ⟨p.toArray⟩] w (XE X q w (s.must q p)) := by
  have HI := hide (hasR_ok (p := p) h hp hp2)
  unfold RS.must
  cases hb : s.is p with
  | true =>
    rw [hb] at HI
    simp only [if_true]
    clear hb h
    go_enter Tryz.func124, Tryz.ntmps124
    go_wp2_with (first | (go_at_call 54; refine HI.out.mono ?_; rintro e w2 ⟨rfl, hx, fr⟩))
    go_end0
    exact ⟨rfl, hx, fr⟩
  | false =>
    rw [hb] at HI
    simp only [Bool.false_eq_true, if_false]
    have HW : Hid (∀ W, XR X q W (s.has p) → Calls Tryz.prog 35 #[ptr X] W (XE X q W ((s.has p).wrong q))) := fun W hW => wrongR_ok hW
    clear hb h
    go_enter Tryz.func124, Tryz.ntmps124
    go_wp2_with (first | (go_at_call 54; refine HI.out.mono ?_; rintro e w2 ⟨rfl, hx, fr⟩) | (go_at_call 35; refine (HW.out _ hx).mono ?_; rintro e w3 ⟨rfl, hx3, fr3⟩))
    go_end0
    exact ⟨rfl, hx3, fr.same fr3⟩
abbrev XS (X : Nat) (q : L) (w : World) (x : L) (s : RS) (e : Ending) (w' : World) : Prop := e = .returned (.string (bs x)) ∧ XR X q w' s ∧ Fr (fun k => k = X) w w'
set_option maxHeartbeats 4000000 in
set_option maxRecDepth 100000 in
theorem peekR_ok (h : XR X q w s) : Calls Tryz.prog 144 #[ptr X] w (XS X q w s.peek s.bl) := by
  have HB := hide (blanksR_ok h)
  have hq5 := h.q5
  unfold RS.peek
  rw [← bl_err]
  clear h
  generalize s.bl = s1 at *
  obtain ⟨l, nest, err, at_⟩ := s1
  simp only
  by_cases he : err = 0
  · subst he
    simp only [if_true]
    have HC : Hid (∀ W, XR X q W ⟨l, nest, 0, at_⟩ → (W.cell? ⟨X, 0, none⟩ = some (.string (bs q)) ∧ W.cell? ⟨X, 1, none⟩ = some (.int .i64 ((q.length - l.length : Nat) : Int)) ∧ W.cell? ⟨X, 3, none⟩ = some (.int .i64 0)) ∧ (∀ W, (Instr.slice 9 (.string (bs q)) (some (.int .i64 ((q.length - l.length : Nat) : Int))) none none).run Tryz.prog W = .ok (.string (bs l)) W) ∧ (∀ W, (Instr.slice 9 (.string (bs q)) (some (.int .i64 ((q.length - l.length : Nat) : Int))) (some (.int .i64 (((q.length - l.length : Nat) : Int) + nm l))) none).run Tryz.prog W = .ok (.string (bs (l.take (nm l)))) W) ∧ IntKind.i64.wrap (((q.length - l.length : Nat) : Int) + nm l) = ((q.length - l.length : Nat) : Int) + nm l) := fun W hW => by
      have h1 := hW.le
      have h2 := nm_le l
      refine ⟨⟨hW.cells.1, hW.cells.2.1, hW.cells.2.2.2.1⟩, fun W => ?_, fun W => slice_run (t := q) hW.suf (nm l) h2 W, by simp only at h1; rw [IntKind.wrap_i64]; omega⟩
      have := rest_run (t := q) hW.suf W
      exact this
    have HN : Hid (∀ W, l.length ≤ 500 → Calls Tryz.prog 155 #[.string (bs l)] W fun e w' => e = .returned (.int .i64 (nm l)) ∧ w' = W) := fun W hl => nameR_any (bs l) W (by rw [bs_size]; omega)
    have HLL : Hid (∀ W, XR X q W ⟨l, nest, 0, at_⟩ → l.length ≤ 500) := fun W hW => Nat.le_trans hW.le hq5
    generalize q.length - l.length = K at *
    generalize nm l = N at *
    generalize l.take N = T at *
    go_enter Tryz.func144, Tryz.ntmps144
    go_wp2_with (first | (go_at_call 34; refine HB.out.mono ?_; rintro e w2 ⟨rfl, hx, fr⟩; obtain ⟨⟨c0, c1, c3⟩, g1, g2, g3⟩ := HC.out _ hx; have hl5 := HLL.out _ hx))
    go_quiet (first | (go_at_call 155; refine Calls.quiet_of_same (HN.out _ hl5)))
    go_wp2_with fail
    go_quiet (fail)
    go_wp2
    go_ret
    exact ⟨rfl, (hx.drewN _).drewN _, (fr.drewN _).drewN _⟩
  · simp only [he, if_false]
    have hb3 : ((err : Int) != 0) = true := by simp; omega
    have hb4 : (err != 0) = true := by simpa using he
    have HC : Hid (∀ W, XR X q W ⟨l, nest, err, at_⟩ → W.cell? ⟨X, 3, none⟩ = some (.int .i64 err)) := fun W hW => hW.cells.2.2.2.1
    clear he
    go_enter Tryz.func144, Tryz.ntmps144
    go_wp2_with (first | (go_at_call 34; refine HB.out.mono ?_; rintro e w2 ⟨rfl, hx, fr⟩; have c3 := HC.out _ hx))
    go_ret
    exact ⟨rfl, hx, fr⟩
theorem peek_len (s : RS) : s.peek.length ≤ s.bl.l.length := by
  unfold RS.peek; split
  · exact List.length_take_le' _ _
  · simp
theorem peekE (h : s.peek = []) : (bs s.peek).toList.isEmpty = true ∧ s.peek.length = 0 := by rw [h]; exact ⟨by rw [bs_toL]; rfl, rfl⟩
set_option maxHeartbeats 4000000 in
set_option maxRecDepth 100000 in
theorem nameRd_ok (h : XR X q w s) : Calls Tryz.prog 123 #[ptr X] w (XS X q w s.peek (s.name q)) := by
  have HP := hide (peekR_ok h)
  have hzp := bs_size s.peek
  unfold RS.name
  by_cases hpk : s.peek = []
  · rw [if_pos hpk]
    obtain ⟨he2, hPL⟩ := peekE hpk
    have HW : Hid (∀ W, XR X q W s.bl → Calls Tryz.prog 35 #[ptr X] W (XE X q W (s.bl.wrong q))) := fun W hW => wrongR_ok hW
    have HA : Hid (∀ W, XR X q W (s.bl.wrong q) → W.cell? ⟨X, 1, none⟩ = some (.int .i64 ((q.length - (s.bl.wrong q).l.length : Nat) : Int)) ∧ IntKind.i64.wrap (((q.length - (s.bl.wrong q).l.length : Nat) : Int) + s.peek.length) = ((q.length - (s.bl.wrong q).l.length : Nat) : Int) ∧ W.frozen? ⟨X, 1, none⟩ = false ∧ XR X q (W.setCell ⟨X, 1, none⟩ (.int .i64 ((q.length - (s.bl.wrong q).l.length : Nat) : Int))) (s.bl.wrong q) ∧ Fr (fun k => k = X) W (W.setCell ⟨X, 1, none⟩ (.int .i64 ((q.length - (s.bl.wrong q).l.length : Nat) : Int)))) := fun W hW => by
      have h2 := hW.q5
      exact ⟨hW.cells.2.1, by rw [IntKind.wrap_i64]; omega, free_of hW.blk, hW.setL hW.suf, fr_set _ _ _ _⟩
    generalize q.length - (s.bl.wrong q).l.length = K at *
    generalize s.peek.length = PL at *
    generalize s.peek = P at *
    clear h hpk hPL
    go_enter Tryz.func123, Tryz.ntmps123
    go_wp2_with (first | (go_at_call 144; refine HP.out.mono ?_; rintro e w2 ⟨rfl, hx, fr⟩) | (go_at_call 35; refine (HW.out _ hx).mono ?_; rintro e w3 ⟨rfl, hx3, fr3⟩; obtain ⟨c1, g2, f1, hx4, fr4⟩ := HA.out _ hx3))
    go_ret
    exact ⟨rfl, hx4, (fr.same fr3).same fr4⟩
  · rw [if_neg hpk]
    have HA : Hid (∀ W, XR X q W s.bl → W.cell? ⟨X, 1, none⟩ = some (.int .i64 ((q.length - s.bl.l.length : Nat) : Int)) ∧ IntKind.i64.wrap (((q.length - s.bl.l.length : Nat) : Int) + s.peek.length) = ((q.length - (s.bl.l.drop s.peek.length).length : Nat) : Int) ∧ W.frozen? ⟨X, 1, none⟩ = false ∧ XR X q (W.setCell ⟨X, 1, none⟩ (.int .i64 ((q.length - (s.bl.l.drop s.peek.length).length : Nat) : Int))) { s.bl with l := s.bl.l.drop s.peek.length } ∧ Fr (fun k => k = X) W (W.setCell ⟨X, 1, none⟩ (.int .i64 ((q.length - (s.bl.l.drop s.peek.length).length : Nat) : Int)))) := fun W hW => ⟨hW.cells.2.1, hW.adv s.peek.length (peek_len s)⟩
    have he2 : (bs s.peek).toList.isEmpty = false := by rw [bs_toL]; cases hh : s.peek; exact absurd hh hpk; rfl
    generalize q.length - s.bl.l.length = K at *
    generalize hK2 : q.length - (s.bl.l.drop s.peek.length).length = K2 at *
    generalize hD : s.bl.l.drop s.peek.length = D at *
    generalize hPL : s.peek.length = PL at *
    generalize s.peek = P at *
    clear h hpk hK2 hPL hD
    go_enter Tryz.func123, Tryz.ntmps123
    go_wp2_with (first | (go_at_call 144; refine HP.out.mono ?_; rintro e w2 ⟨rfl, hx, fr⟩; obtain ⟨c1, g1, f1, hx2, fr2⟩ := HA.out _ hx))
    go_ret
    exact ⟨rfl, hx2, fr.same fr2⟩
set_option maxHeartbeats 4000000 in
set_option maxRecDepth 100000 in
theorem calledR_ok (h : XR X q w s) : Calls Tryz.prog 122 #[ptr X, .string ⟨p.toArray⟩] w (XB X q w (s.called p) s.bl) := by
  have HP := hide (peekR_ok h)
  have hzp := bs_size s.peek
  unfold RS.called
  by_cases hpk : s.peek = p
  · have hf : (s.peek == p) = true := by simpa using hpk
    rw [hf]
    simp only [Bool.true_and]
    have HA : Hid (∀ W, XR X q W s.bl → W.cell? ⟨X, 1, none⟩ = some (.int .i64 ((q.length - s.bl.l.length : Nat) : Int)) ∧ IntKind.i64.wrap (((q.length - s.bl.l.length : Nat) : Int) + s.peek.length) = ((q.length - (s.bl.l.drop s.peek.length).length : Nat) : Int) ∧ W.frozen? ⟨X, 1, none⟩ = false ∧ XR X q (W.setCell ⟨X, 1, none⟩ (.int .i64 ((q.length - (s.bl.l.drop s.peek.length).length : Nat) : Int))) { s.bl with l := s.bl.l.drop s.peek.length } ∧ Fr (fun k => k = X) W (W.setCell ⟨X, 1, none⟩ (.int .i64 ((q.length - (s.bl.l.drop s.peek.length).length : Nat) : Int)))) := fun W hW => ⟨hW.cells.2.1, hW.adv s.peek.length (peek_len s)⟩
    have HI : Hid (∀ W, XR X q W { s.bl with l := s.bl.l.drop s.peek.length } → Calls Tryz.prog 76 #[ptr X, .string ⟨#[40]⟩] W (XB X q W (RS.is [40] { s.bl with l := s.bl.l.drop s.peek.length }) (RS.bl { s.bl with l := s.bl.l.drop s.peek.length }))) := fun W hW => isR_ok (p := [40]) hW (by decide) (by decide)
    have HR : Hid (∀ W0 W, XR X q W0 s.bl → XR X q W (RS.bl { s.bl with l := s.bl.l.drop s.peek.length }) → W.cell? ⟨X, 1, none⟩ = some (.int .i64 ((q.length - (RS.bl { s.bl with l := s.bl.l.drop s.peek.length }).l.length : Nat) : Int)) ∧ W.frozen? ⟨X, 1, none⟩ = false ∧ XR X q (W.setCell ⟨X, 1, none⟩ (.int .i64 ((q.length - s.bl.l.length : Nat) : Int))) s.bl ∧ Fr (fun k => k = X) W (W.setCell ⟨X, 1, none⟩ (.int .i64 ((q.length - s.bl.l.length : Nat) : Int)))) := fun W0 W h0 hW => by
      have hx := hW.setL h0.suf
      refine ⟨hW.cells.2.1, free_of hW.blk, ?_, fr_set _ _ _ _⟩
      have e : ({ RS.bl { s.bl with l := s.bl.l.drop s.peek.length } with l := s.bl.l } : RS) = s.bl := by
        rw [RS.bl]; split <;> rfl
      rw [← e]; exact hx
    have he : ((bs s.peek).toList == p) = true := by rw [bs_toL]; exact hf
    generalize (RS.is [40] { s.bl with l := s.bl.l.drop s.peek.length }) = bb at *
    generalize RS.bl { s.bl with l := s.bl.l.drop s.peek.length } = s3 at *
    generalize q.length - s3.l.length = K3 at *
    generalize q.length - s.bl.l.length = K at *
    generalize hK2 : q.length - (s.bl.l.drop s.peek.length).length = K2 at *
    generalize hD : s.bl.l.drop s.peek.length = D at *
    generalize hPL : s.peek.length = PL at *
    generalize s.peek = P at *
    clear h hpk hK2 hPL hf hD
    go_enter Tryz.func122, Tryz.ntmps122
    go_wp2_with (first | (go_at_call 144; refine HP.out.mono ?_; rintro e w2 ⟨rfl, hx, fr⟩; obtain ⟨c1, g1, f1, hx2, fr2⟩ := HA.out _ hx) | (go_at_call 76; refine (HI.out _ hx2).mono ?_; rintro e w3 ⟨rfl, hx3, fr3⟩; obtain ⟨c4, f4, hx4, fr4⟩ := HR.out _ _ hx hx3))
    all_goals go_ret
    all_goals exact ⟨rfl, hx4, ((fr.same fr2).same fr3).same fr4⟩
  · have hf : (s.peek == p) = false := by simpa using hpk
    rw [hf]
    simp only [Bool.false_and]
    have he : ((bs s.peek).toList == p) = false := by rw [bs_toL]; exact hf
    generalize s.peek = P at *
    clear h hpk hf
    go_enter Tryz.func122, Tryz.ntmps122
    go_wp2_with (first | (go_at_call 144; refine HP.out.mono ?_; rintro e w2 ⟨rfl, hx, fr⟩))
    go_ret
    exact ⟨rfl, hx, fr⟩
end Go.Proofs.YtoahlnmhjinneaaGreatDoor

set_option linter.unusedSimpArgs false
set_option linter.unusedVariables false
namespace Go.Proofs.YtoahlnmhjinneaaGreatDoor
open Go.RowKit Go.Maps Go.Lib
variable {w w' w1 w2 W0 W1 W2 W3 W4 WO wr W W5 : World} {A A' F G : Nat → Prop} {X lo : Nat} {q l l' p : L} {s s' : RS} {v v' vp : Value}
theorem bl_nest (s : RS) : s.bl.nest = s.nest := by unfold RS.bl; split <;> rfl
theorem fail_l (e : Nat) : (s.fail q e).l = s.l := by unfold RS.fail; split <;> rfl
theorem fail_nest (e : Nat) : (s.fail q e).nest = s.nest := by unfold RS.fail; split <;> rfl
theorem XR.opn (h : XR X q w s) (hl : 1 ≤ s.l.length) : ∃ (N K K2 : Int), N = IntKind.i64.wrap (s.nest + 1) ∧ IntKind.i64.wrap (s.nest + 1) = N ∧ IntKind.i64.wrap (K + 1) = K2 ∧ (w.cell? ⟨X, 2, none⟩ = some (.int .i64 s.nest) ∧ w.frozen? ⟨X, 2, none⟩ = false) ∧ (w.setCell ⟨X, 2, none⟩ (.int .i64 N)).cell? ⟨X, 1, none⟩ = some (.int .i64 K) ∧ (w.setCell ⟨X, 2, none⟩ (.int .i64 N)).frozen? ⟨X, 1, none⟩ = false ∧ XR X q ((w.setCell ⟨X, 2, none⟩ (.int .i64 N)).setCell ⟨X, 1, none⟩ (.int .i64 K2)) { s with nest := N, l := s.l.drop 1 } ∧ Fr (fun k => k = X) w ((w.setCell ⟨X, 2, none⟩ (.int .i64 N)).setCell ⟨X, 1, none⟩ (.int .i64 K2)) := by
  have h1 := h.setN (IntKind.i64.wrap (s.nest + 1))
  have h2 := h1.adv 1 hl
  exact ⟨_, _, _, rfl, rfl, h2.1, ⟨h.cells.2.2.1, free_of h.blk⟩, h1.cells.2.1, h2.2.1, h2.2.2.1, (fr_set _ _ _ _).same h2.2.2.2⟩
set_option maxHeartbeats 4000000 in
set_option maxRecDepth 100000 in
theorem openR_ok (h : XR X q w s) (hp : 1 ≤ p.length) (hp2 : p.length ≤ 16) : Calls Tryz.prog 125 #[ptr X, .string ⟨p.toArray⟩] w (XE X q w (s.opn q p)) := by
  have HI := hide (isR_ok (p := p) h hp hp2)
  unfold RS.opn
  cases hb : s.is p with
  | false =>
    rw [hb] at HI
    simp only [Bool.false_eq_true, if_false]
    have HW : Hid (∀ W, XR X q W s.bl → Calls Tryz.prog 35 #[ptr X] W (XE X q W (s.bl.wrong q))) := fun W hW => wrongR_ok hW
    clear hb h
    go_enter Tryz.func125, Tryz.ntmps125
    go_wp2_with (first | (go_at_call 76; refine HI.out.mono ?_; rintro e w2 ⟨rfl, hx, fr⟩) | (go_at_call 35; refine (HW.out _ hx).mono ?_; rintro e w3 ⟨rfl, hx3, fr3⟩))
    first | go_end0 | refine bodyPost_ret (results_none rfl _ _ _) rfl ?_
    exact ⟨rfl, hx3, fr.same fr3⟩
  | true =>
    rw [hb] at HI
    simp only [if_true]
    have hl1 : 1 ≤ s.bl.l.length := Nat.le_trans hp (is_pre hb).2.1
    rw [← bl_nest]
    clear hb h
    generalize s.bl = s1 at *
    by_cases hn : s1.nest = 8
    · rw [if_pos hn]
      have hnb : (s1.nest == 8) = true := by simpa using hn
      have HF : Hid (∀ W, XR X q W s1 → (W.cell? ⟨X, 1, none⟩ = some (.int .i64 ((q.length - s1.l.length : Nat) : Int)) ∧ W.cell? ⟨X, 2, none⟩ = some (.int .i64 s1.nest)) ∧ (Calls Tryz.prog 57 #[ptr X, .int .i64 8, .int .i64 ((q.length - s1.l.length : Nat) : Int)] W (XE X q W (s1.fail q 8)))) := fun W hW => ⟨⟨hW.cells.2.1, hW.cells.2.2.1⟩, failR_ok hW 8⟩
      have HO : Hid (∀ W, XR X q W (s1.fail q 8) → _) := fun W hW => hW.opn (by rw [fail_l]; exact hl1)
      clear hn
      go_enter Tryz.func125, Tryz.ntmps125
      go_wp2_with (first | (go_at_call 76; refine HI.out.mono ?_; rintro e w2 ⟨rfl, hx, fr⟩; obtain ⟨⟨c1, c2⟩, hf⟩ := HF.out _ hx; have HF2 := hide hf; clear hf) | (go_at_call 57; refine (HF2.out).mono ?_; rintro e w3 ⟨rfl, hx3, fr3⟩; obtain ⟨N, K, K2, hN, g1, g2, ⟨d2, f2⟩, d1, f1, hx4, fr4⟩ := HO.out _ hx3; have HN := hide hN; clear hN))
      go_end0
      rw [← HN.out]
      exact ⟨rfl, hx4, (fr.same fr3).same fr4⟩
    · rw [if_neg hn]
      have hnb : (s1.nest == 8) = false := by simpa using hn
      have HO : Hid (∀ W, XR X q W s1 → _) := fun W hW => hW.opn hl1
      clear hn
      go_enter Tryz.func125, Tryz.ntmps125
      go_wp2_with (first | (go_at_call 76; refine HI.out.mono ?_; rintro e w2 ⟨rfl, hx, fr⟩; obtain ⟨N, K, K2, hN, g1, g2, ⟨d2, f2⟩, d1, f1, hx4, fr4⟩ := HO.out _ hx; have HN := hide hN; clear hN))
      go_end0
      rw [← HN.out]
      exact ⟨rfl, hx4, fr.same fr4⟩
set_option maxHeartbeats 4000000 in
set_option maxRecDepth 100000 in
theorem shutR_ok (h : XR X q w s) (hp : 1 ≤ p.length) (hp2 : p.length ≤ 16) : Calls Tryz.prog 127 #[ptr X, .string ⟨p.toArray⟩] w (XE X q w (s.shut q p)) := by
  have HI := hide (mustR_ok (p := p) h hp hp2)
  unfold RS.shut
  generalize s.must q p = s1 at *
  have HO : Hid (∀ W, XR X q W s1 → W.cell? ⟨X, 2, none⟩ = some (.int .i64 s1.nest) ∧ W.frozen? ⟨X, 2, none⟩ = false ∧ XR X q (W.setCell ⟨X, 2, none⟩ (.int .i64 (IntKind.i64.wrap (s1.nest - 1)))) { s1 with nest := IntKind.i64.wrap (s1.nest - 1) } ∧ Fr (fun k => k = X) W (W.setCell ⟨X, 2, none⟩ (.int .i64 (IntKind.i64.wrap (s1.nest - 1))))) := fun W hW => ⟨hW.cells.2.2.1, free_of hW.blk, hW.setN _, fr_set _ _ _ _⟩
  generalize hN : IntKind.i64.wrap (s1.nest - 1) = N at *
  clear h
  go_enter Tryz.func127, Tryz.ntmps127
  go_wp2_with (first | (go_at_call 124; refine HI.out.mono ?_; rintro e w2 ⟨rfl, hx, fr⟩; obtain ⟨d2, f2, hx4, fr4⟩ := HO.out _ hx))
  go_end0
  exact ⟨rfl, hx4, fr.same fr4⟩
end Go.Proofs.YtoahlnmhjinneaaGreatDoor
