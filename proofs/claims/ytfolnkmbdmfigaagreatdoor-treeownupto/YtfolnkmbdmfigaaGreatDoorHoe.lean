import Derived.Test.YtfolnkmbdmfigaaGreatDoorGaw
import Derived.Test.YtfolnkmbdmfigaaGreatDoorGav
import Derived.Test.YtfolnkmbdmfigaaGreatDoorHod
import Derived.Test.YtfolnkmbdmfigaaGreatDoorHob
import Derived.Test.YtfolnkmbdmfigaaGreatDoorGao
set_option linter.unusedVariables false
set_option linter.unusedSimpArgs false
set_option linter.unusedSimpArgs false
set_option linter.unusedVariables false
namespace Go.Proofs.YtfolnkmbdmfigaaGreatDoor
open Go.RowKit Go.Lib
variable {s : ByteArray}

theorem readF_stop (f : Nat) (x : Sc) (h : x.err ≠ 0) : readF s f x = x := by
  cases f with
  | zero => rfl
  | succ f => simp only [readF]; rw [if_neg (fun e => h e.2)]
theorem readF_cost : ∀ (f : Nat) (x : Sc) (st : St), x.err = 0 → Paid x → x.i ≤ s.size → Rel x st → cost (readF s f x).l ≤ 64 * s.size ∧ ((readF s f x).err = 0 → (readF s f x).i ≤ s.size ∧ Paid (readF s f x)) := by
  intro f
  induction f with
  | zero =>
    intro x st he hp hi _
    refine ⟨?_, fun _ => ⟨hi, hp⟩⟩
    have := hp he
    unfold bill at this
    show cost x.l ≤ _
    omega
  | succ f ih =>
    intro x st he hp hi hr
    simp only [readF]
    by_cases hc : x.i < s.size ∧ x.err = 0
    · rw [if_pos hc]
      rcases done_piece (g := fun _ => []) he hc.1 hr with ⟨h1, h2, h3, _, st', h5, _⟩ | ⟨h1, h2, _⟩
      · exact ih _ st' h1 (piece_paid hp he) h3 h5
      · rw [readF_stop f _ h1]
        refine ⟨?_, fun e => absurd e h1⟩
        rw [h2]
        have := hp he
        unfold bill at this
        omega
    · rw [if_neg hc]
      refine ⟨?_, fun _ => ⟨hi, hp⟩⟩
      have := hp he
      unfold bill at this
      omega
theorem readS_cost (s : ByteArray) : cost ((readS s).l ++ (readS s).last) ≤ 64 * s.size := by
  obtain ⟨h1, h2⟩ := readF_cost (s := s) (s.size + 1) Sc.zero _ rfl (fun _ => by simp [bill, cost, Sc.zero]) (Nat.zero_le _) Rel.zero
  have h1' : cost (readS s).l ≤ 64 * s.size := h1
  by_cases he : (readS s).err = 0
  · have := cost_all s
    unfold refAll at this
    rw [if_neg (by simpa using he)] at this
    exact this
  · have : (readS s).last = [] := by unfold Sc.last; rw [if_pos (Or.inl he)]
    rw [this, List.append_nil]; exact h1'
theorem cost_mem : ∀ {l : List Tok} {t : Tok}, t ∈ l → (showT t).length ≤ cost l
  | [], t, h => by simp at h
  | x :: l, t, h => by
    have e : cost (x :: l) = (showT x).length + cost l := by simp [cost]
    rw [e]
    rcases List.mem_cons.1 h with rfl | h
    · omega
    · have := cost_mem h; omega
theorem show_pos (t : Tok) : 1 ≤ (showT t).length := by
  unfold showT
  split
  · simp
  · split
    · simp
    · have : marks.length = 27 := rfl
      rw [List.length_append]; omega
theorem cost_len : ∀ (l : List Tok), l.length ≤ cost l
  | [] => Nat.zero_le _
  | x :: l => by
    have e : cost (x :: l) = (showT x).length + cost l := by simp [cost]
    have := cost_len l
    have := show_pos x
    rw [e, List.length_cons]; omega
theorem readS_inv (s : ByteArray) : Chain false ((readS s).l ++ (readS s).last) := by
  by_cases he : (readS s).err = 0
  · have := refAll_chain s
    unfold refAll at this
    rw [if_neg (by simpa using he)] at this
    exact this
  · have h0 : (readS s).last = [] := by unfold Sc.last; rw [if_pos (Or.inl he)]
    have hi : Inv (readS s) := readF_inv _ _ ⟨TextOf.nil, trivial, rfl⟩
    rw [h0, List.append_nil]
    exact hi.2.1
theorem chain_mem : ∀ {l : List Tok} {b : Bool} {t : Tok}, Chain b l → t ∈ l → TokOk t
  | [], _, t, _, h => by simp at h
  | x :: l, b, t, hc, h => by
    rcases List.mem_cons.1 h with rfl | h
    · exact hc.1
    · exact chain_mem hc.2.2 h
theorem readS_text (s : ByteArray) (t : Tok) (h : t ∈ (readS s).l ++ (readS s).last) : t.text.length ≤ 64 * s.size := by
  have h1 := cost_mem h
  have h2 := readS_cost s
  rcases chain_mem (readS_inv s) h with ⟨_, _, _, _, e⟩ | ⟨_, _, _, e⟩ | ⟨k, _⟩
  · rw [e]; simp
  · rw [e]; simp
  · have h3 : showT t = Ch.escL false t.text ++ marks := by unfold showT; rw [if_neg (by omega), if_neg (by omega)]
    have h7 := Ch.escL_ge false t.text
    rw [h3, List.length_append] at h1
    omega
theorem readS_len (s : ByteArray) : ((readS s).l ++ (readS s).last).length ≤ 64 * s.size := Nat.le_trans (cost_len _) (readS_cost s)
end Go.Proofs.YtfolnkmbdmfigaaGreatDoor

set_option linter.unusedSimpArgs false
set_option linter.unusedVariables false
namespace Go.Proofs.YtfolnkmbdmfigaaGreatDoor
open Go.RowKit Go.Maps Go.Lib
variable {A K K' F : Nat → Prop} {w w' w1 w2 w4 wr : World} {nv ov a v : Value} {av kv : Nat → Value} {g : Gr} {X Y : Nat} {er q : Int} {l T : List Tok}
theorem RToks.at : ∀ {l : List Tok} {cs : List Value}, RToks F X w l cs → ∀ (i : Nat) (hi : i < l.length), ∃ va, w.ownsRow 0 82 2 va (l[i]).attrs.length (attrCells (l[i]).attrs) ∧ cs[i * 5]? = some (.int .i64 (l[i]).kind) ∧ cs[i * 5 + 1]? = some (strV (l[i]).name) ∧ cs[i * 5 + 2]? = some va ∧ cs[i * 5 + 3]? = some (strV (l[i]).text) ∧ cs[i * 5 + 4]? = some (.int .i64 (l[i]).at_)
  | [], _, _, i, hi => absurd hi (Nat.not_lt_zero _)
  | t :: l, _, ⟨v, cs, e, ho, hf, hl⟩, i, hi => by
    subst e
    cases i with
    | zero => exact ⟨v, ho, rfl, rfl, rfl, rfl, rfl⟩
    | succ i =>
      obtain ⟨va, a0, a1, a2, a3, a4, a5⟩ := RToks.at hl i (by simpa using hi)
      have e1 : ∀ j, (i + 1) * 5 + j = (tokCells t v).length + (i * 5 + j) := fun j => by show _ = 5 + _; omega
      have e2 : ∀ j, (tokCells t v ++ cs)[(i + 1) * 5 + j]? = cs[i * 5 + j]? := fun j => by rw [e1, List.getElem?_append_right (Nat.le_add_right _ _), Nat.add_sub_cancel_left]
      exact ⟨va, a0, (e2 0).trans a1, (e2 1).trans a2, (e2 2).trans a3, (e2 3).trans a4, (e2 4).trans a5⟩
theorem RAns.at (h : RAns w v l) (i : Nat) (hi : i < l.length) : ∃ g cap va, v = .slice (some ⟨g, 0, none⟩) l.length cap ∧ w.ownsRow 0 82 2 va (l[i]).attrs.length (attrCells (l[i]).attrs) ∧
    w.cell? ⟨g, i * 5, none⟩ = some (.int .i64 (l[i]).kind) ∧ w.cell? ⟨g, i * 5 + 1, none⟩ = some (strV (l[i]).name) ∧ w.cell? ⟨g, i * 5 + 2, none⟩ = some va ∧ w.cell? ⟨g, i * 5 + 3, none⟩ = some (strV (l[i]).text) ∧ w.cell? ⟨g, i * 5 + 4, none⟩ = some (.int .i64 (l[i]).at_) ∧ l.length ≤ maxLen := by
  obtain ⟨F, X, cs, h1, h2⟩ := h
  rcases h1.2 with ⟨e, e0⟩ | ⟨g, cap, cur, e, _, _, hm1, hm2, _⟩
  · omega
  subst e
  have hc := h1.cells (g := g) rfl
  obtain ⟨va, a0, a1, a2, a3, a4, a5⟩ := h2.at i hi
  have up : ∀ j u, cs[j]? = some u → w.cell? ⟨g, j, none⟩ = some u := fun j u hj => by
    have := hc j u hj
    rwa [Addr.add_mid, Nat.zero_add] at this
  exact ⟨g, cap, va, rfl, a0, up _ _ a1, up _ _ a2, up _ _ a3, up _ _ a4, up _ _ a5, Nat.le_trans hm1 hm2⟩
theorem rslice_of (h : RAns w v l) : ∃ b c, v = .slice b l.length c ∧ l.length ≤ maxLen := by
  obtain ⟨F, X, cs, o, _⟩ := h
  rcases o.2 with ⟨rfl, e⟩ | ⟨g, cap, cur, rfl, _, _, h1, h2, _⟩
  · rw [e]; exact ⟨none, 0, rfl, Nat.zero_le _⟩
  · exact ⟨_, _, rfl, Nat.le_trans h1 h2⟩
def bsteps : Gr × Int × Int → List Tok → Gr × Int × Int
  | x, [] => x
  | x, t :: l => bsteps (bstep x.1 x.2.1 x.2.2 t) l
theorem bsteps_err : ∀ (l : List Tok) (g : Gr) (er q : Int), er ≠ 0 → bsteps (g, er, q) l = (g, er, q)
  | [], _, _, _, _ => rfl
  | t :: l, g, er, q, h => by
    simp only [bsteps]
    have : bstep g er q t = (g, er, q) := by unfold bstep; rw [if_pos h]
    rw [this]; exact bsteps_err l g er q h
theorem bsteps_grow : ∀ (l : List Tok) (g : Gr) (q : Int), bsteps (g, 0, q) l = if (grow g l).1 ≠ 0 then ((grow g l).2.2, (grow g l).1, (grow g l).2.1) else ((grow g l).2.2, 0, q)
  | [], g, q => by simp [bsteps, grow]
  | t :: l, g, q => by
    simp only [bsteps]
    by_cases h : (g.take t).1 = 0
    · have e : bstep g 0 q t = ((g.take t).2, 0, q) := by unfold bstep; rw [if_neg (by simp), if_neg (by simpa using h)]
      have eg : grow g (t :: l) = grow (g.take t).2 l := by simp only [grow]; rw [if_neg (by simpa using h)]
      rw [e, bsteps_grow l, eg]
    · have e : bstep g 0 q t = (g, (g.take t).1, t.at_) := by unfold bstep; rw [if_neg (by simp), if_pos h]
      have eg : grow g (t :: l) = ((g.take t).1, t.at_, g) := by simp only [grow]; rw [if_pos h]
      rw [e, bsteps_err _ _ _ _ h, eg, if_pos h]
structure BI (w4 : World) (T : List Tok) (wr : World) (k : Nat) : Prop where
  ex : ∃ g er q Kx, BR (fun j => j < w4.heap.size) Kx w4.heap.size wr g er q ∧ (∀ j, Kx j → w4.heap.size ≤ j) ∧ bsteps (Gr.zero, 0, 0) T = bsteps (g, er, q) (T.drop k) ∧ g.nodes.length ≤ k
  more : More1 w4 wr
theorem BI.start : BI w4 T (w4.alloc (.cells #[.slice none 0 0, .slice none 0 0, .int .i64 0, .int .i64 0] 68)) 0 := by
  refine ⟨⟨Gr.zero, 0, 0, fun _ => False, ⟨⟨nilS, nilS, _, _, ⟨Below_new w4 _, Nodes.zero, ⟨rfl, Or.inl ⟨rfl, rfl⟩⟩, (fun k e => by cases e), (fun x => absurd x (Nat.lt_irrefl _)), (fun x => x), (fun _ _ x => x), (fun _ x => x.elim), (fun k x => by have x' : k < w4.heap.size := x; simp; omega)⟩⟩, (fun i m hi => by simp [Gr.zero] at hi), Gr.Wf.zero⟩, fun _ x => x.elim, by simp, by simp [Gr.zero]⟩, (More1.refl w4).alloc _⟩
theorem bstep_len (g : Gr) (er q : Int) (t : Tok) : (bstep g er q t).1.nodes.length ≤ g.nodes.length + 1 := by
  have : (g.take t).2.nodes.length ≤ g.nodes.length + 1 := by
    unfold Gr.take
    split
    · split
      · simp
      · split
        · simp
        · simp only [put_size]; omega
    · split
      · split
        · simp
        · split <;> simp
      · split
        · split <;> simp
        · rw [put_size]; omega
  unfold bstep
  split
  · simp
  · split
    · simp
    · exact this
theorem BI.call {k : Nat} (h : BI w4 T wr k) (hk : k < T.length) (hb : T.length ≤ 17179869184) (va : Value) (hz : (T[k]).text.length ≤ 9223372036854775807) (ha : w4.ownsRow 0 82 2 va (T[k]).attrs.length (attrCells (T[k]).attrs)) (W : World) (hW : More1 wr W) :
    Calls Tryz.prog 28 #[.pointer (some ⟨w4.heap.size, 0, none⟩), tokV (T[k]) va] W fun e w' => e = .returned (.tuple #[]) ∧ BI w4 T w' (k + 1) := by
  obtain ⟨⟨g, er, q, Kx, hg, hKx, hgr, hlen⟩, hM⟩ := h
  have hM2 := hM.trans hW
  have hdrop : T.drop k = T[k] :: T.drop (k + 1) := (List.drop_eq_getElem_cons hk)
  refine (btake_ok (hg.keep hW) (by omega) (T[k]) va hz (owns_of ha fun b e => hM2.keep b (own_lt ha e)) (fun b e => own_lt ha e)).mono ?_
  rintro e w' ⟨rfl, r, fr⟩
  have hM3 : More1 w4 w' := ⟨fr.os.trans hM2.os, fr.tape.trans hM2.tape, fr.output.trans hM2.output, Nat.le_trans hM2.size fr.size, fun b hb2 => by
    rw [fr.block b (Nat.lt_of_lt_of_le hb2 hM2.size) (fun x => by
      rcases x with e | e
      · omega
      · have := hKx b e; omega)]
    exact hM2.keep b hb2⟩
  refine ⟨rfl, ⟨_, _, _, _, r, ?_, ?_, ?_⟩, hM3⟩
  · rintro j (e | e)
    · exact hKx j e
    · have := e.1; have := hM2.size; omega
  · rw [hgr, hdrop]; rfl
  · have := bstep_len g er q (T[k]); omega
theorem BI.over (h : BI w4 T wr T.length) : ∃ g er q Kx, BR (fun j => j < w4.heap.size) Kx w4.heap.size wr g er q ∧ (∀ j, Kx j → w4.heap.size ≤ j) ∧ bsteps (Gr.zero, 0, 0) T = (g, er, q) := by
  obtain ⟨⟨g, er, q, Kx, h1, h2, h3, _⟩, _⟩ := h
  refine ⟨g, er, q, Kx, h1, h2, ?_⟩
  rw [h3, List.drop_length]; rfl
end Go.Proofs.YtfolnkmbdmfigaaGreatDoor

set_option linter.unusedSimpArgs false
set_option linter.unusedVariables false
namespace Go.Proofs.YtfolnkmbdmfigaaGreatDoor
open Go.RowKit Go.Maps Go.Lib
variable {A K S F : Nat → Prop} {w w0 w' w1 w2 : World} {nv sv rv : Value} {av kv : Nat → Value} {g : Gr} {X : Nat}
set_option maxHeartbeats 8000000 in
set_option maxRecDepth 100000 in
theorem take_shut {nv sv : Value} {av kv : Nat → Value} (h : GP A F K S X w g nv sv av kv) (t : Tok) (ai : Option Addr) (ac : Nat) (hz : t.text.length ≤ 9223372036854775807) (h0 : (g.take t).1 = 0) (hk : t.kind = 2) :
    Calls Tryz.prog 23 #[.pointer (some ⟨X, 0, none⟩), tokV t (.slice ai t.attrs.length ac)] w (Took A F X w (g.take t)) := by
  have hcall := nest_call h t ai ac hz
  obtain ⟨k, st, m, hs, hm, hup, hg⟩ : ∃ k st m, g.stack = k :: st ∧ g.nodes[k]? = some m ∧ m.up = topOf st ∧ g.take t = (0, { g with stack := st }) := by
    unfold Gr.take at h0 ⊢
    rw [if_neg (by omega), if_pos hk] at h0 ⊢
    cases hs : g.stack with
    | nil => simp only [hs] at h0; cases h0
    | cons k st =>
      obtain ⟨m, hm, hup, _⟩ := h.wf.top hs
      simp only [hs] at h0 ⊢
      split at h0
      · rename_i h1
        exact ⟨k, st, m, rfl, hm, hup, by rw [if_pos h1]⟩
      · cases h0
  have hwf := h.wf.take t
  rw [hg] at hcall hwf ⊢
  have hkl : k < g.nodes.length := (List.getElem?_eq_some_iff.1 hm).1
  have hbox : BoxAt w.heap.size (.int .i64 t.kind) (.string ⟨t.name.toArray⟩) (.slice ai t.attrs.length ac) (.string ⟨t.text.toArray⟩) (.int .i64 t.at_) (w.alloc (tokBox t (.slice ai t.attrs.length ac))) := boxAt (Below_new w _)
  obtain ⟨b0, b1, b2, b3, b4⟩ := hbox
  have hcells : ∀ w1 sv1 n, GQ A F K S X w (w.alloc (tokBox t (.slice ai t.attrs.length ac))).drew w1 g n nv sv1 av kv → ∃ gN nc, w1.cell? ⟨X, 2, none⟩ = some (.slice (some ⟨gN, 0, none⟩) g.nodes.length nc) ∧ w1.cell? ⟨X, 3, none⟩ = some (.int .i64 k) ∧ w1.cell? ⟨gN, k * 5 + 4, none⟩ = some (.int .i64 m.up) ∧ w1.frozen? ⟨X, 3, none⟩ = false ∧ gN ≠ X := fun w1 sv1 n q => by
    obtain ⟨gN, nc, hnv, hmx, hgK, m0, m1, m2, m3, m4⟩ := q.rep.nodes.cells k m hm
    refine ⟨gN, nc, (q.rep.cell (u := nv) 2 rfl).trans (by rw [hnv]), by rw [q.rep.cell 3 rfl, hs]; rfl, m4, free_of q.rep.blk, fun e => q.rep.nK (e ▸ hgK)⟩
  have hfin : ∀ w1 sv1, GQ A F K S X w (w.alloc (tokBox t (.slice ai t.attrs.length ac))).drew w1 g (Gr.nest { g with stack := st }) nv sv1 av kv →
      Took A F X w (0, { g with stack := st }) (.returned (.int .i64 0)) (w1.setCell ⟨X, 3, none⟩ (.int .i64 m.up)).drew := fun w1 sv1 q => by
    have r3 := (q.rep.top st m.up hup).keep ((More1.refl _).drewN 1)
    have f3 : Frame (fun k => k = X ∨ K k) w1 (w1.setCell ⟨X, 3, none⟩ (.int .i64 m.up)).drew := (frame_set1 w1 3 _).trans' (Frame.drew' _)
    have r4 := q.rep.next (g' := { g with stack := st }) f3 r3.nodes (fun k _ x => Or.inl x) r3.blk
    refine h.ends q r4 f3 h.kids hwf (fun e => ?_)
    have e' : g.nodes = [] := e
    rw [e'] at hm; simp at hm
  unfold tokV strV at hcall ⊢
  unfold tokBox at *
  have hk1 : (t.kind == 1) = false := by rw [hk]; rfl
  have hk2 : (t.kind == 2) = true := by simpa using hk
  have hki : (k : Int) < g.nodes.length := by omega
  have HC := hide hcall
  have HF := hide hfin
  have HQ := hide hcells
  clear hcall hfin h0 h hcells hg hwf hs hk hup
  generalize Gr.nest { g with stack := st } = nn at *
  go_enter Tryz.func23, Tryz.ntmps23
  go_wp2_with fail
  go_region_held3 (fun W => W.cell? ⟨w.heap.size, 0, none⟩ = some (.int .i64 t.kind) ∧ W.cell? ⟨w.heap.size, 1, none⟩ = some (.string ⟨t.name.toArray⟩) ∧ W.cell? ⟨w.heap.size, 2, none⟩ = some (.slice ai t.attrs.length ac) ∧ W.cell? ⟨w.heap.size, 3, none⟩ = some (.string ⟨t.text.toArray⟩) ∧ W.cell? ⟨w.heap.size, 4, none⟩ = some (.int .i64 t.at_))
    (first | exact ⟨b0, b1, b2, b3, b4⟩ | exact boxAt (t := t) hb1)
    (first | (go_at_call 39; refine HC.out.mono ?_; rintro e w1 ⟨rfl, sv1, gq, hb1⟩))
  all_goals
    have hb2 := boxAt (t := t) (va := .slice ai t.attrs.length ac) hb1
    obtain ⟨d0, d1, d2, d3, d4⟩ := hb2
    obtain ⟨gN, nc, c2, c3, c4, f3, hgX⟩ := HQ.out _ _ _ gq
    have GQ1 := hide gq
    clear gq b0 b1 b2 b3 b4 hb1
    go_wp2_with fail
    go_region_law (fail)
    all_goals
      go_wp2
      go_ret
      exact HF.out _ _ GQ1.out
set_option maxHeartbeats 8000000 in
set_option maxRecDepth 100000 in
theorem take_text {nv sv : Value} {av kv : Nat → Value} (h : GP A F K S X w g nv sv av kv) (hb : g.nodes.length ≤ 17179869184) (t : Tok) (ai : Option Addr) (ac : Nat) (hz : t.text.length ≤ 9223372036854775807) (h0 : (g.take t).1 = 0) (hk1 : t.kind ≠ 1) (hk2 : t.kind ≠ 2) (k : Nat) (st : List Nat) (hs : g.stack = k :: st) :
    Calls Tryz.prog 23 #[.pointer (some ⟨X, 0, none⟩), tokV t (.slice ai t.attrs.length ac)] w (Took A F X w (g.take t)) := by
  have hcall := nest_call h t ai ac hz
  have hg : g.take t = (0, g.put (textOf t)) := by
    unfold Gr.take
    rw [if_neg hk1, if_neg hk2]
    simp only [hs]
  have hwf := h.wf.take t
  rw [hg] at hcall hwf ⊢
  have hbox : BoxAt w.heap.size (.int .i64 t.kind) (.string ⟨t.name.toArray⟩) (.slice ai t.attrs.length ac) (.string ⟨t.text.toArray⟩) (.int .i64 t.at_) (w.alloc (tokBox t (.slice ai t.attrs.length ac))) := boxAt (Below_new w _)
  obtain ⟨b0, b1, b2, b3, b4⟩ := hbox
  have hput : ∀ w1 sv1 n, GQ A F K S X w (w.alloc (tokBox t (.slice ai t.attrs.length ac))).drew w1 g n nv sv1 av kv → Calls Tryz.prog 40 #[.pointer (some ⟨X, 0, none⟩), .agg #[.string ⟨#[]⟩, .slice none 0 0, .string ⟨t.text.toArray⟩, .slice none 0 0, .int .i64 0]] w1 fun e w' => e = .returned (.int .i64 g.nodes.length) ∧ ∃ nv' av' kv', GRep A (Grow K w1 w') X w' (g.put (textOf t)) nv' av' kv' sv1 (.bool n.rooted) ∧ Frame (fun k => k = X ∨ K k) w1 w' := fun w1 sv1 n q =>
    put_node q.rep h.wf h.kids (textOf t) (.slice none 0 0) 0 ⟨rfl, Or.inl ⟨rfl, rfl⟩⟩ (fun k e => by cases e) rfl hb
  have hcells : ∀ w1 sv1 n, GQ A F K S X w (w.alloc (tokBox t (.slice ai t.attrs.length ac))).drew w1 g n nv sv1 av kv → w1.cell? ⟨X, 3, none⟩ = some (.int .i64 k) := fun w1 sv1 n q => by rw [q.rep.cell 3 rfl, hs]; rfl
  have hfin : ∀ w1 w2 sv1 nv' av' kv', GQ A F K S X w (w.alloc (tokBox t (.slice ai t.attrs.length ac))).drew w1 g (g.put (textOf t)).nest nv sv1 av kv → GRep A (Grow K w1 w2) X w2 (g.put (textOf t)) nv' av' kv' sv1 (.bool (g.put (textOf t)).nest.rooted) → Frame (fun k => k = X ∨ K k) w1 w2 →
      Took A F X w (0, g.put (textOf t)) (.returned (.int .i64 0)) w2 := fun w1 w2 sv1 nv' av' kv' q r f => by
    refine h.ends q r f (h.kids.put (textOf t) rfl) hwf (fun e => ?_)
    have := put_some g (textOf t)
    rw [e] at this; cases this
  unfold tokV strV at hcall ⊢
  unfold tokBox at *
  have e1 : (t.kind == 1) = false := by simpa using hk1
  have e2 : (t.kind == 2) = false := by simpa using hk2
  have hkn : ((k : Int) != -1) = true := by simp
  have HC := hide hcall
  have HF := hide hfin
  have HP := hide hput
  have HQ := hide hcells
  clear hcall hfin h0 h hput hcells hg hwf hs hk1 hk2
  generalize (g.put (textOf t)).nest = nn at *
  go_enter Tryz.func23, Tryz.ntmps23
  go_wp2_with fail
  go_region_held3 (fun W => W.cell? ⟨w.heap.size, 0, none⟩ = some (.int .i64 t.kind) ∧ W.cell? ⟨w.heap.size, 1, none⟩ = some (.string ⟨t.name.toArray⟩) ∧ W.cell? ⟨w.heap.size, 2, none⟩ = some (.slice ai t.attrs.length ac) ∧ W.cell? ⟨w.heap.size, 3, none⟩ = some (.string ⟨t.text.toArray⟩) ∧ W.cell? ⟨w.heap.size, 4, none⟩ = some (.int .i64 t.at_))
    (first | exact ⟨b0, b1, b2, b3, b4⟩ | exact boxAt (t := t) hb1)
    (first | (go_at_call 39; refine HC.out.mono ?_; rintro e w1 ⟨rfl, sv1, gq, hb1⟩))
  all_goals
    have hp := HP.out _ _ _ gq
    have hb2 := boxAt (t := t) (va := .slice ai t.attrs.length ac) hb1
    obtain ⟨d0, d1, d2, d3, d4⟩ := hb2
    have c3 := HQ.out _ _ _ gq
    have GQ1 := hide gq
    clear gq b0 b1 b2 b3 b4 hb1
    go_wp2_with (go_at_call 40; refine hp.mono ?_; rintro e w2 ⟨rfl, nv', av', kv', r2, f2⟩; have R2 := hide r2; have F2 := hide f2; clear r2 f2)
    go_ret
    exact HF.out _ _ _ _ _ _ GQ1.out R2.out F2.out
set_option maxHeartbeats 8000000 in
set_option maxRecDepth 100000 in
theorem take_blank {nv sv : Value} {av kv : Nat → Value} (h : GP A F K S X w g nv sv av kv) (t : Tok) (ai : Option Addr) (ac : Nat) (hz : t.text.length ≤ 9223372036854775807) (h0 : (g.take t).1 = 0) (hk1 : t.kind ≠ 1) (hk2 : t.kind ≠ 2) (hs : g.stack = []) :
    Calls Tryz.prog 23 #[.pointer (some ⟨X, 0, none⟩), tokV t (.slice ai t.attrs.length ac)] w (Took A F X w (g.take t)) := by
  have hcall := nest_call h t ai ac hz
  have hg : g.take t = (0, g) := by
    unfold Gr.take at h0 ⊢
    rw [if_neg hk1, if_neg hk2] at h0 ⊢
    simp only [hs] at h0 ⊢
    split at h0
    · rename_i h1; rw [if_pos h1]
    · cases h0
  rw [hg] at hcall ⊢
  have hbox : BoxAt w.heap.size (.int .i64 t.kind) (.string ⟨t.name.toArray⟩) (.slice ai t.attrs.length ac) (.string ⟨t.text.toArray⟩) (.int .i64 t.at_) (w.alloc (tokBox t (.slice ai t.attrs.length ac))) := boxAt (Below_new w _)
  obtain ⟨b0, b1, b2, b3, b4⟩ := hbox
  have hcells : ∀ w1 sv1 n, GQ A F K S X w (w.alloc (tokBox t (.slice ai t.attrs.length ac))).drew w1 g n nv sv1 av kv → w1.cell? ⟨X, 3, none⟩ = some (.int .i64 (-1)) := fun w1 sv1 n q => by rw [q.rep.cell 3 rfl, hs]; rfl
  have hfin : ∀ w1 sv1, GQ A F K S X w (w.alloc (tokBox t (.slice ai t.attrs.length ac))).drew w1 g g.nest nv sv1 av kv → Took A F X w (0, g) (.returned (.int .i64 0)) w1 := fun w1 sv1 q => h.same q (More1.refl w1)
  unfold tokV strV at hcall ⊢
  unfold tokBox at *
  have e1 : (t.kind == 1) = false := by simpa using hk1
  have e2 : (t.kind == 2) = false := by simpa using hk2
  have HC := hide hcall
  have HF := hide hfin
  have HQ := hide hcells
  clear hcall hfin h0 h hcells hg hs hk1 hk2
  generalize g.nest = nn at *
  go_enter Tryz.func23, Tryz.ntmps23
  go_wp2_with fail
  go_region_held3 (fun W => W.cell? ⟨w.heap.size, 0, none⟩ = some (.int .i64 t.kind) ∧ W.cell? ⟨w.heap.size, 1, none⟩ = some (.string ⟨t.name.toArray⟩) ∧ W.cell? ⟨w.heap.size, 2, none⟩ = some (.slice ai t.attrs.length ac) ∧ W.cell? ⟨w.heap.size, 3, none⟩ = some (.string ⟨t.text.toArray⟩) ∧ W.cell? ⟨w.heap.size, 4, none⟩ = some (.int .i64 t.at_))
    (first | exact ⟨b0, b1, b2, b3, b4⟩ | exact boxAt (t := t) hb1)
    (first | (go_at_call 39; refine HC.out.mono ?_; rintro e w1 ⟨rfl, sv1, gq, hb1⟩))
  all_goals
    have hb2 := boxAt (t := t) (va := .slice ai t.attrs.length ac) hb1
    obtain ⟨d0, d1, d2, d3, d4⟩ := hb2
    have c3 := HQ.out _ _ _ gq
    have GQ1 := hide gq
    clear gq b0 b1 b2 b3 b4 hb1
    go_wp2
    go_ret
    exact HF.out _ _ GQ1.out
theorem take_node (h : GR A F X w g) (hb : g.nodes.length ≤ 17179869184) (t : Tok) (va : Value) (hz : t.text.length ≤ 9223372036854775807) (ha : w.ownsRow 0 44 2 va t.attrs.length (attrCells t.attrs)) (haA : ∀ k, va.ownBlock = some k → A k) :
    Calls Tryz.prog 23 #[.pointer (some ⟨X, 0, none⟩), tokV t va] w (Took A F X w (g.take t)) := by
  obtain ⟨K, S, nv, sv, av, kv, p⟩ := h.parts
  obtain ⟨ai, ac, rfl⟩ := slice_len ha
  by_cases h0 : (g.take t).1 = 0
  · by_cases hk1 : t.kind = 1
    · exact take_open p hb t ai ac hz ha haA h0 hk1
    · by_cases hk2 : t.kind = 2
      · exact take_shut p t ai ac hz h0 hk2
      · cases hs : g.stack with
        | nil => exact take_blank p t ai ac hz h0 hk1 hk2 hs
        | cons k st => exact take_text p hb t ai ac hz h0 hk1 hk2 k st hs
  · exact take_wrong p t ai ac hz h0
end Go.Proofs.YtfolnkmbdmfigaaGreatDoor

set_option linter.unusedSimpArgs false
set_option linter.unusedVariables false
namespace Go.Proofs.YtfolnkmbdmfigaaGreatDoor
open Go.RowKit Go.Maps Go.Lib
variable {A K K' : Nat → Prop} {w w' w1 : World} {nv v : Value} {av kv : Nat → Value} {g : Gr} {X : Nat} {a : Addr} {l : List Tok}
theorem Ans.atA (h : Ans A w v l) (i : Nat) (hi : i < l.length) : ∃ g cap va, v = .slice (some ⟨g, 0, none⟩) l.length cap ∧ w.ownsRow 0 44 2 va (l[i]).attrs.length (attrCells (l[i]).attrs) ∧ (∀ k, va.ownBlock = some k → A k) ∧
    w.cell? ⟨g, i * 5, none⟩ = some (.int .i64 (l[i]).kind) ∧ w.cell? ⟨g, i * 5 + 1, none⟩ = some (strV (l[i]).name) ∧ w.cell? ⟨g, i * 5 + 2, none⟩ = some va ∧ w.cell? ⟨g, i * 5 + 3, none⟩ = some (strV (l[i]).text) ∧ w.cell? ⟨g, i * 5 + 4, none⟩ = some (.int .i64 (l[i]).at_) ∧ l.length ≤ maxLen := by
  obtain ⟨cs, h1, h2, h3⟩ := h
  have h1' := h1
  rcases h1'.2 with ⟨e, e0⟩ | ⟨g, cap, cur, e, _, _, hm1, hm2, _⟩
  · omega
  subst e
  have hc := h1.cells (g := g) rfl
  have key : ∀ (l : List Tok) (cs : List Value), Toks A 0 w nilS l cs → ∀ (i : Nat) (hi : i < l.length), ∃ va, w.ownsRow 0 44 2 va (l[i]).attrs.length (attrCells (l[i]).attrs) ∧ (∀ k, va.ownBlock = some k → A k) ∧ cs[i * 5]? = some (.int .i64 (l[i]).kind) ∧ cs[i * 5 + 1]? = some (strV (l[i]).name) ∧ cs[i * 5 + 2]? = some va ∧ cs[i * 5 + 3]? = some (strV (l[i]).text) ∧ cs[i * 5 + 4]? = some (.int .i64 (l[i]).at_) := by
    intro l cs h
    induction h with
    | nil => intro i hi; cases hi
    | cons t v l cs ho hf hl ih =>
      intro i hi
      cases i with
      | zero => exact ⟨v, ho, fun k e => (hf k e).1, rfl, rfl, rfl, rfl, rfl⟩
      | succ i =>
        obtain ⟨va, a0, b0, a1, a2, a3, a4, a5⟩ := ih i (by simpa using hi)
        have e1 : ∀ j, (i + 1) * 5 + j = (tokCells t v).length + (i * 5 + j) := fun j => by show _ = 5 + _; omega
        have e2 : ∀ j, (tokCells t v ++ cs)[(i + 1) * 5 + j]? = cs[i * 5 + j]? := fun j => by rw [e1, List.getElem?_append_right (Nat.le_add_right _ _), Nat.add_sub_cancel_left]
        exact ⟨va, a0, b0, (e2 0).trans a1, (e2 1).trans a2, (e2 2).trans a3, (e2 3).trans a4, (e2 4).trans a5⟩
  obtain ⟨va, a0, b0, a1, a2, a3, a4, a5⟩ := key l cs h2 i hi
  have up : ∀ j u, cs[j]? = some u → w.cell? ⟨g, j, none⟩ = some u := fun j u hj => by
    have := hc j u hj
    rwa [Addr.add_mid, Nat.zero_add] at this
  exact ⟨g, cap, va, rfl, a0, b0, up _ _ a1, up _ _ a2, up _ _ a3, up _ _ a4, up _ _ a5, Nat.le_trans hm1 hm2⟩
theorem slice_of (h : Ans A w v l) : ∃ b c, v = .slice b l.length c ∧ l.length ≤ maxLen := by
  obtain ⟨cs, o, _, _⟩ := h
  rcases o.2 with ⟨rfl, e⟩ | ⟨g, cap, cur, rfl, _, _, h1, h2, _⟩
  · rw [e]; exact ⟨none, 0, rfl, Nat.zero_le _⟩
  · exact ⟨_, _, rfl, Nat.le_trans h1 h2⟩
def NAns (B : Nat) (w : World) (v : Value) (l : List Nd) : Prop := ∃ A K av kv, Nodes 42 44 A K w v l av kv ∧ (∀ k, A k → B ≤ k) ∧ (∀ k, K k → B ≤ k) ∧ (∀ k, A k → ¬ K k)
def ParseEnd (w : World) (x : List Nd × Int × Int) (e : Ending) (w' : World) : Prop := ∃ v, e = .returned (.tuple #[v, .int .i64 x.2.1, .int .i64 x.2.2]) ∧ NAns w.heap.size w' v x.1 ∧ Below w.heap.size w w' ∧ (x.2.1 ≠ 0 → v = nilS)
structure Start (w : World) (b : ByteArray) (v' : Value) (w4 : World) : Prop where
  ex : ∃ A, Ans A w4 v' ((readS b).l ++ (readS b).last) ∧ (∀ k, A k → w.heap.size ≤ k)
  below : Below w.heap.size w w4
  err : ∀ W, More1 w4 W → Calls Tryz.prog 24 #[.pointer (some ⟨w.heap.size, 0, none⟩)] W fun e w5 => e = .returned (.tuple #[.int .i64 (readS b).err, .int .i64 (readS b).at_]) ∧ Below W.heap.size W w5
theorem start_ok (b : ByteArray) (w : World) (gl : Gl w a) (hb : b.size ≤ 2147483648) :
    Calls Tryz.prog 21 #[.pointer (some ⟨w.heap.size, 0, none⟩), .string b] (w.alloc (.cells newCells 96)) fun e w2 => ∃ v1, e = .returned v1 ∧
      Calls Tryz.prog 22 #[.pointer (some ⟨w.heap.size, 0, none⟩)] w2 fun e w3 => ∃ v2, e = .returned v2 ∧ ∃ v' w4, (Builtin.append_ #[47, 47] 47 #[v1, v2]).run Tryz.prog w3 = .ok v' w4 ∧ Start w b v' w4 := by
  have hsz := gl.size
  have gl1 := gl_alloc gl (.cells newCells 96)
  have lo0 : Low (fun k => k = w.heap.size) := fun k hk e => by omega
  have hw := write_pr (new_alive w) good_new gl1 lo0 b (by omega)
  have hg := write_good good_new b
  have ht1 := write_told good_new b
  have ht2 := close_told hg
  obtain ⟨cr1, cr2, _⟩ := close_ref b
  refine hw.mono ?_
  rintro e w2 ⟨v1, A1, F1, rfl, an1, al1, fr1, h1, h2⟩
  have hz1 : w.heap.size + 1 ≤ w2.heap.size := by have := fr1.size; simp at this; omega
  have hF1 : ∀ k, F1 k → w.heap.size ≤ k := fun k hk => (h2 k hk).elim (fun e => by omega) (fun x => by have := x.1; simp at this; omega)
  have lo1 : Low F1 := fun k hk x => by have := hF1 k x; omega
  refine ⟨v1, rfl, (close_pr al1 hg (gl1.frame fr1 lo0) lo1 (by omega)).mono ?_⟩
  rintro e w3 ⟨v2, A2, F2, rfl, an2, al2, fr2, g1, g2⟩
  obtain ⟨v', w4, A, hrun, an4, al4, b4, hA, hF2⟩ := both_end (x := PR.new.write b) (y := (PR.new.write b).1.close) (K := w.heap.size) (by omega) an1 (fun k hA => ⟨(h1 k hA).1.elim (fun e => by omega) (fun x => by have := x.1; simp at this; omega), (h1 k hA).1.elim (fun e => by omega) (fun x => x.2), (h1 k hA).2⟩) hF1 an2 al2 fr2 g1 g2 (by omega)
  have b1 : Below w.heap.size w (w.alloc (.cells newCells 96)) := (Below.refl _ _).alloc (Nat.le_refl _) _
  have b2 : Below w.heap.size (w.alloc (.cells newCells 96)) w2 := fr1.up (fun k e => by omega) (by simp)
  rw [write_ref, cr1] at an4
  refine ⟨v2, rfl, v', w4, hrun, ⟨A, an4, fun k hk => (hA k hk).1⟩, (b1.trans b2).trans b4, fun W hM => ?_⟩
  have hlt : ∀ k, F2 k → k < w4.heap.size := fun k hk => by obtain ⟨_, _, rep, _⟩ := al4; exact rep.lt k hk
  have := err_pr (al4.keep (fun k hk => hM.keep k (hlt k hk)) hM.size)
  rw [cr2] at this
  exact this
end Go.Proofs.YtfolnkmbdmfigaaGreatDoor

set_option linter.unusedSimpArgs false
set_option linter.unusedVariables false
namespace Go.Proofs.YtfolnkmbdmfigaaGreatDoor
open Go.RowKit Go.Maps Go.Lib
variable {A K K' : Nat → Prop} {w w' w1 w4 wr : World} {nv v : Value} {av kv : Nat → Value} {g : Gr} {X : Nat} {a : Addr} {l T : List Tok}
structure PI (w4 : World) (A : Nat → Prop) (T : List Tok) (wr : World) (k : Nat) : Prop where
  ex : ∃ g Kx, GR A Kx w4.heap.size wr g ∧ (∀ j, Kx j → w4.heap.size ≤ j) ∧ grow Gr.zero T = grow g (T.drop k) ∧ g.nodes.length ≤ k
  more : More1 w4 wr
theorem PI.start (hA : ∀ k, A k → k < w4.heap.size) : PI w4 A T (w4.alloc (.cells #[.slice none 0 0, .bool false, .slice none 0 0, .int .i64 (-1)] 54)) 0 := by
  refine ⟨⟨Gr.zero, fun _ => False, ⟨⟨fun _ => False, fun _ => False, nilS, _, _, nilS, ⟨Below_new w4 _, Nodes.zero, fun x => by have := hA _ x; omega, fun x => x, fun _ _ x => x, fun _ x => x.elim, fun k x => by have := hA k x; simp; omega⟩, ⟨Below_new w4 _, rfl, rfl, ⟨rfl, Or.inl ⟨rfl, rfl⟩⟩, (fun k e => by cases e), fun x => x, fun _ x => x.elim⟩, fun _ x => x, fun _ x => x, fun _ _ x => x, fun _ x => x.elim, fun _ => rfl⟩, fun _ x => x.elim, fun x => x, fun i m hi => by simp [Gr.zero] at hi, Gr.Wf.zero⟩, fun _ x => x.elim, by simp, by simp [Gr.zero]⟩, (More1.refl w4).alloc _⟩
theorem PI.call {k : Nat} (h : PI w4 A T wr k) (hk : k < T.length) (hb : T.length ≤ 17179869184) (hA : ∀ k, A k → k < w4.heap.size) (va : Value) (hz : (T[k]).text.length ≤ 9223372036854775807) (ha : w4.ownsRow 0 44 2 va (T[k]).attrs.length (attrCells (T[k]).attrs)) (haA : ∀ k, va.ownBlock = some k → A k) (o : Obj) :
    Calls Tryz.prog 23 #[.pointer (some ⟨w4.heap.size, 0, none⟩), tokV (T[k]) va] (wr.alloc o) fun e w' => ∃ no, e = .returned (.int .i64 no) ∧ More1 w4 w' ∧ w'.heap[wr.heap.size]? = some o ∧ (no = 0 → PI w4 A T w' (k + 1)) ∧ (no ≠ 0 → (grow Gr.zero T).1 = no ∧ (grow Gr.zero T).2.1 = (T[k]).at_) := by
  obtain ⟨⟨g, Kx, hg, hKx, hgr, hlen⟩, hM⟩ := h
  have hM1 : More1 wr (wr.alloc o) := (More1.refl wr).alloc o
  have hM2 := hM.alloc o
  have hXr : w4.heap.size < wr.heap.size := hg.blk
  have hdrop : T.drop k = T[k] :: T.drop (k + 1) := (List.drop_eq_getElem_cons hk)
  refine (take_node (hg.keep hM1) (by omega) (T[k]) va hz (owns_of ha fun b e => hM2.keep b (own_lt ha e)) haA).mono ?_
  rintro e w' ⟨rfl, r, fr⟩
  have hM3 : More1 w4 w' := ⟨fr.os.trans hM2.os, fr.tape.trans hM2.tape, fr.output.trans hM2.output, Nat.le_trans hM2.size fr.size, fun b hb2 => by
    rw [fr.block b (Nat.lt_of_lt_of_le hb2 hM2.size) (fun x => by
      rcases x with e | e
      · omega
      · have := hKx b e; omega)]
    exact hM2.keep b hb2⟩
  have hKlt : ∀ j, Kx j → j < wr.heap.size := hg.lt
  refine ⟨_, rfl, hM3, ?_, fun h0 => ?_, fun hn => ?_⟩
  · rw [fr.block wr.heap.size (by simp) (fun x => by
      rcases x with e | e
      · omega
      · have := hKlt _ e; omega)]
    exact Below_new wr o
  · refine ⟨⟨_, _, r, ?_, ?_, ?_⟩, hM3⟩
    · rintro j (e | e)
      · exact hKx j e
      · have := e.1; simp at this; omega
    · rw [hgr, hdrop]
      simp only [grow]
      rw [if_neg (by simpa using h0)]
    · have : (g.take (T[k])).2.nodes.length ≤ g.nodes.length + 1 := by
        unfold Gr.take
        split
        · split
          · simp
          · split
            · simp
            · simp only [put_size]; omega
        · split
          · split
            · simp
            · split <;> simp
          · split
            · split <;> simp
            · rw [put_size]; omega
      omega
  · rw [hgr, hdrop]
    simp only [grow]
    rw [if_pos hn]
    exact ⟨rfl, rfl⟩
end Go.Proofs.YtfolnkmbdmfigaaGreatDoor

set_option linter.unusedSimpArgs false
set_option linter.unusedVariables false
namespace Go.Proofs.YtfolnkmbdmfigaaGreatDoor
open Go.RowKit Go.Maps Go.Lib
variable {A K K' : Nat → Prop} {w w' w1 w4 wr : World} {nv v : Value} {av kv : Nat → Value} {g : Gr} {X : Nat} {a : Addr} {l T : List Tok}
theorem PI.over (h : PI w4 A T wr T.length) : ∃ g Kx, GR A Kx w4.heap.size wr g ∧ (∀ j, Kx j → w4.heap.size ≤ j) ∧ grow Gr.zero T = (0, 0, g) := by
  obtain ⟨⟨g, Kx, h1, h2, h3, _⟩, _⟩ := h
  refine ⟨g, Kx, h1, h2, ?_⟩
  rw [h3, List.drop_length]; rfl
theorem ends_bad {no q : Int} (b4 : Below w.heap.size w w4) (hM : More1 w4 w') (hn : no ≠ 0) : ParseEnd w ([], no, q) (.returned (.tuple #[.slice none 0 0, .int .i64 no, .int .i64 q])) w' :=
  ⟨nilS, rfl, ⟨fun _ => False, fun _ => False, _, _, Nodes.zero, fun _ x => x.elim, fun _ x => x.elim, fun _ x => x.elim⟩, b4.trans ⟨hM.os, hM.tape, hM.output, hM.size, fun k hk => hM.keep k (Nat.lt_of_lt_of_le hk b4.size)⟩, fun _ => rfl⟩
structure Says (b : ByteArray) (T : List Tok) (er1 er2 : Int) : Prop where
  tok : (grow Gr.zero T).1 ≠ 0 → parseN b = ([], (grow Gr.zero T).1, (grow Gr.zero T).2.1)
  err : (grow Gr.zero T).1 = 0 → er1 ≠ 0 → parseN b = ([], er1, er2)
  form : (grow Gr.zero T).1 = 0 → er1 = 0 → ((grow Gr.zero T).2.2.stack ≠ [] ∨ (grow Gr.zero T).2.2.nodes = []) → parseN b = ([], 3, (b.size : Int))
  ok : (grow Gr.zero T).1 = 0 → er1 = 0 → (grow Gr.zero T).2.2.stack = [] → (grow Gr.zero T).2.2.nodes ≠ [] → parseN b = ((grow Gr.zero T).2.2.nodes, 0, 0)
theorem says (b : ByteArray) : Says b ((readS b).l ++ (readS b).last) (readS b).err (readS b).at_ := by
  refine ⟨fun h => ?_, fun h h2 => ?_, fun h h2 h3 => ?_, fun h h2 h3 h4 => ?_⟩
  · unfold parseN; rw [if_pos h]
  · unfold parseN; rw [if_neg (by simpa using h), if_pos h2]
  · unfold parseN; rw [if_neg (by simpa using h), if_neg (by simpa using h2), if_pos h3]
  · unfold parseN; rw [if_neg (by simpa using h), if_neg (by simpa using h2), if_neg (by rintro (e | e); exact e h3; exact h4 e)]
set_option maxHeartbeats 8000000 in
set_option maxRecDepth 100000 in
theorem parse_walk (b : ByteArray) (w : World) (gl : Gl w a) (hb : b.size ≤ 2147483648) (hlen : ((readS b).l ++ (readS b).last).length ≤ 17179869184) (htx : ∀ t ∈ (readS b).l ++ (readS b).last, t.text.length ≤ 9223372036854775807) : Calls Tryz.prog 9 #[.string b] w (ParseEnd w (parseN b)) := by
  have hst := start_ok b w gl hb
  have hnew := new_ok w
  have hsay := says b
  have HST := hide hst
  have HSAY := hide hsay
  have HLEN := hide hlen
  have HTX := hide htx
  clear hst gl hsay hlen htx
  go_enter Tryz.func9, Tryz.ntmps9
  go_wp2_with (first | (go_at_call 20; refine hnew.mono ?_; rintro e wn ⟨rfl, rfl⟩) | (go_at_call 21; refine HST.out.mono ?_; rintro e w2 ⟨v1, rfl, hcl⟩) | (go_at_call 22; refine hcl.mono ?_; rintro e w3 ⟨v2, rfl, v', w4, hrun, hs4⟩; have herr := hs4.err; have hb4 := hs4.below; obtain ⟨A4, an4, hA4⟩ := hs4.ex; generalize (readS b).l ++ (readS b).last = T at *; generalize (readS b).err = er1 at *; generalize (readS b).at_ = er2 at *; obtain ⟨bl, cl, el, hmx⟩ := slice_of an4; subst el; have AN4 := hide an4; have HA4 := hide hA4; have HMX := hide hmx; have HER := hide herr; have B4 := hide hb4; clear hs4 an4 hA4 hmx herr hb4 hcl HST) | (at_builtin; refine wpList_app rfl (.tmp 16) (.tmp 18) rfl rfl _ _ rfl rfl hrun ?_))
  go_loopw [9, 10, 23] (fun _ _ iv wr => ∃ k : Nat, iv = .int .i64 k ∧ k ≤ T.length ∧ PI w4 (fun j => A4 j ∧ j < w4.heap.size) T wr k) (fun _ _ iv _ => T.length - (RowKit.intOf iv).toNat)
  case atStart => exact ⟨0, rfl, Nat.zero_le _, PI.start (fun k x => x.2)⟩
  case round =>
    obtain ⟨k, rfl, hk, hpi⟩ := hrel
    by_cases hkl : k < T.length
    · have hdec : decide ((k : Int) < T.length) = true := by simp; omega
      have hdecn : decide (k < T.length) = true := by simp; omega
      have hki : (k : Int) < T.length := by omega
      have hmi : (T.length : Int) ≤ 9223372036854775807 := by have := HMX.out; have : maxLen = 9223372036854775807 := rfl; omega
      obtain ⟨gT, cT, va, eT, oa, oA, x0, x1, x2, x3, x4, _⟩ := AN4.out.atA k hkl
      have hcall := fun o => hpi.call hkl HLEN.out (fun j x => x.2) va (HTX.out _ (List.getElem_mem hkl)) oa (fun j e => ⟨oA j e, own_lt oa e⟩) o
      obtain ⟨ai, ac, hav⟩ := slice_len oa
      cases eT
      have hlt : gT < w4.heap.size := World.block_lt_of_cell? w4 _ x0
      subst hav
      unfold strV at x1 x3
      unfold tokV strV at hcall
      have y0 := (World.cell?_of_block (a := ⟨gT, k * 5, none⟩) (hpi.more.keep gT hlt)).trans x0
      have y1 := (World.cell?_of_block (a := ⟨gT, k * 5 + 1, none⟩) (hpi.more.keep gT hlt)).trans x1
      have y2 := (World.cell?_of_block (a := ⟨gT, k * 5 + 2, none⟩) (hpi.more.keep gT hlt)).trans x2
      have y3 := (World.cell?_of_block (a := ⟨gT, k * 5 + 3, none⟩) (hpi.more.keep gT hlt)).trans x3
      have y4 := (World.cell?_of_block (a := ⟨gT, k * 5 + 4, none⟩) (hpi.more.keep gT hlt)).trans x4
      have HC := hide hcall
      have HPI := hide hpi
      clear hcall hpi oa oA x0 x1 x2 x3 x4
      generalize T[k] = t at *
      go_wp2_with fail
      refine (HC.out _).mono ?_
      rintro e w5 ⟨no, rfl, hM5, hbox, hok, hbad⟩
      by_cases h0 : no = 0
      · have hp5 := hok h0
        subst h0
        have HP5 := hide hp5
        clear hok hbad hbox hM5 hp5
        go_wp2
        go_roundw
        case rel => exact ⟨k + 1, by simp, by omega, HP5.out⟩
        case measure => simp only [RowKit.intOf]; omega
      · have hne : (no != 0) = true := by simpa using h0
        have z4 := cell_of (i := 4) hbox rfl
        have HB := hide (hbad h0)
        have HM5 := hide hM5
        have H0 := hide h0
        clear hok hbad hbox hM5 h0
        go_wp2_with fail
        go_quiet (fail)
        go_wp2
        go_ret3
        have hq := HB.out
        have hsy := HSAY.out.tok (by rw [hq.1]; exact H0.out)
        rw [hsy, hq.1, hq.2]
        exact ends_bad B4.out (HM5.out.drewN _) H0.out
    · have hdec : decide ((k : Int) < T.length) = false := by simp; omega
      have hdecn : decide (k < T.length) = false := by simp; omega
      have he : k = T.length := by omega
      subst he
      have hM := hpi.more
      obtain ⟨g, Kx, hg, hKx, hgr⟩ := hpi.over
      have h10 : (grow Gr.zero T).1 = 0 := by rw [hgr]
      have H10 := hide h10
      have HG := hide hg
      have HGR := hide hgr
      have HKX := hide hKx
      have HMM := hide hM
      clear hpi hg hgr hKx hM h10
      by_cases h0 : er1 = 0
      · subst h0
        obtain ⟨Kg, Sg, nv, sv, av, kv, p⟩ := HG.out.parts
        have hall : ∀ W, More1 wr W → ∃ A' K', Nodes 42 44 A' K' W nv g.nodes av kv ∧ (∀ j, A' j → w.heap.size ≤ j) ∧ (∀ j, K' j → w.heap.size ≤ j) ∧ (∀ j, A' j → ¬ K' j) := fun W hW => ⟨_, _, hW.nodes p.rep.nodes, fun j x => HA4.out j x.1, fun j x => Nat.le_trans B4.out.size (HKX.out j (p.kF j x)), p.rep.dis⟩
        have hwhole : ∀ W, More1 wr W → Calls Tryz.prog 25 #[.pointer (some ⟨w4.heap.size, 0, none⟩)] W fun e w' => e = .returned (.bool (g.nest.rooted && decide (g.nest.names.length = 0))) ∧ More1 W w' := fun W hW => nest_whole (p.nest.keep hW)
        have hnodes : ∀ W, More1 wr W → W.cell? ⟨w4.heap.size, 2, none⟩ = some nv := fun W hW => (p.rep.keep hW).cell 2 rfl
        have hwb : (g.nest.rooted && decide (g.nest.names.length = 0)) = true ↔ (g.stack = [] ∧ g.nodes ≠ []) := by
          simp [Gr.nest, Gr.names, and_comm]
        have HALL := hide hall
        have HWH := hide hwhole
        have HND := hide hnodes
        clear hall hwhole hnodes p
        generalize (g.nest.rooted && decide (g.nest.names.length = 0)) = wb at *
        cases wb with
        | false =>
          have hsy := HSAY.out.form H10.out rfl (by
            rw [HGR.out]
            by_cases e : g.stack = []
            · exact Or.inr (Classical.byContradiction fun e2 => by simpa using hwb.2 ⟨e, e2⟩)
            · exact Or.inl e)
          clear hwb
          go_wp2_with fail
          refine (HER.out _ HMM.out).mono ?_
          rintro e w5 ⟨rfl, b5⟩
          have hw5 := HWH.out w5 (below_more b5)
          have B5 := hide b5
          clear b5
          go_wp2_with (go_at_call 25; refine hw5.mono ?_; rintro e w6 ⟨rfl, m6⟩; have M6 := hide m6; clear m6)
          go_ret3
          rw [hsy]
          exact ends_bad B4.out ((HMM.out.trans (below_more B5.out)).trans M6.out) (by decide)
        | true =>
          obtain ⟨hs, hnn⟩ := hwb.1 rfl
          have hsy := HSAY.out.ok H10.out rfl (by rw [HGR.out]; exact hs) (by rw [HGR.out]; exact hnn)
          rw [HGR.out] at hsy
          have HSY := hide hsy
          clear hwb hs hnn hsy
          go_wp2_with fail
          refine (HER.out _ HMM.out).mono ?_
          rintro e w5 ⟨rfl, b5⟩
          have hw5 := HWH.out w5 (below_more b5)
          have B5 := hide b5
          clear b5
          go_wp2_with (go_at_call 25; refine hw5.mono ?_; rintro e w6 ⟨rfl, m6⟩; have c0 := HND.out w6 ((below_more B5.out).trans m6); have M6 := hide m6; clear m6)
          go_ret3
          rw [HSY.out]
          have hM6 := (below_more B5.out).trans M6.out
          obtain ⟨A', K', q1, q2, q3, q4⟩ := HALL.out w6 hM6
          have hM7 := HMM.out.trans hM6
          have hb5 : Below w.heap.size w w6 := B4.out.trans ⟨hM7.os, hM7.tape, hM7.output, hM7.size, fun j hj => hM7.keep j (Nat.lt_of_lt_of_le hj B4.out.size)⟩
          exact ⟨_, rfl, ⟨A', K', av, kv, q1, q2, q3, q4⟩, hb5, fun h => absurd rfl h⟩
      · have hne : (er1 != 0) = true := by simpa using h0
        have H0 := hide h0
        clear h0
        go_wp2_with fail
        refine (HER.out _ HMM.out).mono ?_
        rintro e w5 ⟨rfl, b5⟩
        have B5 := hide b5
        clear b5
        go_wp2_with fail
        go_ret3
        rw [HSAY.out.err H10.out H0.out]
        exact ends_bad B4.out (HMM.out.trans (below_more B5.out)) H0.out
end Go.Proofs.YtfolnkmbdmfigaaGreatDoor
