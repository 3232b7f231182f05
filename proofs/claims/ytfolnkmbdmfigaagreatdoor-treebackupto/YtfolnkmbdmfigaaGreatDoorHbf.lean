import Derived.Test.YtfolnkmbdmfigaaGreatDoorHbc
import Derived.Test.YtfolnkmbdmfigaaGreatDoorGao
import Derived.Test.YtfolnkmbdmfigaaGreatDoorHbe
set_option linter.unusedVariables false
set_option linter.unusedSimpArgs false
set_option linter.unusedSimpArgs false
set_option linter.unusedVariables false
namespace Go.Proofs.YtfolnkmbdmfigaaGreatDoor
open Go.RowKit Go.Maps Go.Lib
variable {A K S F : Nat → Prop} {w w0 w' w1 w2 : World} {nv sv rv : Value} {av kv : Nat → Value} {g : Gr} {X : Nat}
set_option maxHeartbeats 8000000 in
set_option maxRecDepth 100000 in
theorem take_shut {nv sv : Value} {av kv : Nat → Value} (h : GP A F K S X w g nv sv av kv) (t : Tok) (ai : Option Addr) (ac : Nat) (hz : t.text.length ≤ 9223372036854775807) (h0 : (g.take t).1 = 0) (hk : t.kind = 2) :
    Calls Tryz.prog 23 #[.pointer (some ⟨X, 0, none⟩), tokV t (.slice ai t.attrs.length ac)] w (Took A F X w (g.take t)) := by
  have hcall := nest_call h t ai ac hz
  obtain ⟨k, st, m, hs, hm, hup, hg⟩ : ∃ k st m, g.stack = k :: st ∧ g.nodes[k]? = some m ∧ m.up = topOf st ∧ g.take t = (0, { g with stack := st }) := by
    unfold Gr.take at h0 ⊢
    rw [if_neg (by omega), if_pos hk] at h0 ⊢
    cases hs : g.stack with
    | nil => simp only [hs] at h0; cases h0
    | cons k st =>
      obtain ⟨m, hm, hup, _⟩ := h.wf.top hs
      simp only [hs] at h0 ⊢
      split at h0
      · rename_i h1
        exact ⟨k, st, m, rfl, hm, hup, by rw [if_pos h1]⟩
      · cases h0
  have hwf := h.wf.take t
  rw [hg] at hcall hwf ⊢
  have hkl : k < g.nodes.length := (List.getElem?_eq_some_iff.1 hm).1
  have hbox : BoxAt w.heap.size (.int .i64 t.kind) (.string ⟨t.name.toArray⟩) (.slice ai t.attrs.length ac) (.string ⟨t.text.toArray⟩) (.int .i64 t.at_) (w.alloc (tokBox t (.slice ai t.attrs.length ac))) := boxAt (Below_new w _)
  obtain ⟨b0, b1, b2, b3, b4⟩ := hbox
  have hcells : ∀ w1 sv1 n, GQ A F K S X w (w.alloc (tokBox t (.slice ai t.attrs.length ac))).drew w1 g n nv sv1 av kv → ∃ gN nc, w1.cell? ⟨X, 2, none⟩ = some (.slice (some ⟨gN, 0, none⟩) g.nodes.length nc) ∧ w1.cell? ⟨X, 3, none⟩ = some (.int .i64 k) ∧ w1.cell? ⟨gN, k * 5 + 4, none⟩ = some (.int .i64 m.up) ∧ w1.frozen? ⟨X, 3, none⟩ = false ∧ gN ≠ X := fun w1 sv1 n q => by
    obtain ⟨gN, nc, hnv, hmx, hgK, m0, m1, m2, m3, m4⟩ := q.rep.nodes.cells k m hm
    refine ⟨gN, nc, (q.rep.cell (u := nv) 2 rfl).trans (by rw [hnv]), by rw [q.rep.cell 3 rfl, hs]; rfl, m4, free_of q.rep.blk, fun e => q.rep.nK (e ▸ hgK)⟩
  have hfin : ∀ w1 sv1, GQ A F K S X w (w.alloc (tokBox t (.slice ai t.attrs.length ac))).drew w1 g (Gr.nest { g with stack := st }) nv sv1 av kv →
      Took A F X w (0, { g with stack := st }) (.returned (.int .i64 0)) (w1.setCell ⟨X, 3, none⟩ (.int .i64 m.up)).drew := fun w1 sv1 q => by
    have r3 := (q.rep.top st m.up hup).keep ((More1.refl _).drewN 1)
    have f3 : Frame (fun k => k = X ∨ K k) w1 (w1.setCell ⟨X, 3, none⟩ (.int .i64 m.up)).drew := (frame_set1 w1 3 _).trans' (Frame.drew' _)
    have r4 := q.rep.next (g' := { g with stack := st }) f3 r3.nodes (fun k _ x => Or.inl x) r3.blk
    refine h.ends q r4 f3 h.kids hwf (fun e => ?_)
    have e' : g.nodes = [] := e
    rw [e'] at hm; simp at hm
  unfold tokV strV at hcall ⊢
  unfold tokBox at *
  have hk1 : (t.kind == 1) = false := by rw [hk]; rfl
  have hk2 : (t.kind == 2) = true := by simpa using hk
  have hki : (k : Int) < g.nodes.length := by omega
  have HC := hide hcall
  have HF := hide hfin
  have HQ := hide hcells
  clear hcall hfin h0 h hcells hg hwf hs hk hup
  generalize Gr.nest { g with stack := st } = nn at *
  go_enter Tryz.func23, Tryz.ntmps23
  go_wp2_with fail
  go_region_held3 (fun W => W.cell? ⟨w.heap.size, 0, none⟩ = some (.int .i64 t.kind) ∧ W.cell? ⟨w.heap.size, 1, none⟩ = some (.string ⟨t.name.toArray⟩) ∧ W.cell? ⟨w.heap.size, 2, none⟩ = some (.slice ai t.attrs.length ac) ∧ W.cell? ⟨w.heap.size, 3, none⟩ = some (.string ⟨t.text.toArray⟩) ∧ W.cell? ⟨w.heap.size, 4, none⟩ = some (.int .i64 t.at_))
    (first | exact ⟨b0, b1, b2, b3, b4⟩ | exact boxAt (t := t) hb1)
    (first | (go_at_call 39; refine HC.out.mono ?_; rintro e w1 ⟨rfl, sv1, gq, hb1⟩))
  all_goals
    have hb2 := boxAt (t := t) (va := .slice ai t.attrs.length ac) hb1
    obtain ⟨d0, d1, d2, d3, d4⟩ := hb2
    obtain ⟨gN, nc, c2, c3, c4, f3, hgX⟩ := HQ.out _ _ _ gq
    have GQ1 := hide gq
    clear gq b0 b1 b2 b3 b4 hb1
    go_wp2_with fail
    go_region_law (fail)
    all_goals
      go_wp2
      go_ret
      exact HF.out _ _ GQ1.out
set_option maxHeartbeats 8000000 in
set_option maxRecDepth 100000 in
theorem take_text {nv sv : Value} {av kv : Nat → Value} (h : GP A F K S X w g nv sv av kv) (hb : g.nodes.length ≤ 17179869184) (t : Tok) (ai : Option Addr) (ac : Nat) (hz : t.text.length ≤ 9223372036854775807) (h0 : (g.take t).1 = 0) (hk1 : t.kind ≠ 1) (hk2 : t.kind ≠ 2) (k : Nat) (st : List Nat) (hs : g.stack = k :: st) :
    Calls Tryz.prog 23 #[.pointer (some ⟨X, 0, none⟩), tokV t (.slice ai t.attrs.length ac)] w (Took A F X w (g.take t)) := by
  have hcall := nest_call h t ai ac hz
  have hg : g.take t = (0, g.put (textOf t)) := by
    unfold Gr.take
    rw [if_neg hk1, if_neg hk2]
    simp only [hs]
  have hwf := h.wf.take t
  rw [hg] at hcall hwf ⊢
  have hbox : BoxAt w.heap.size (.int .i64 t.kind) (.string ⟨t.name.toArray⟩) (.slice ai t.attrs.length ac) (.string ⟨t.text.toArray⟩) (.int .i64 t.at_) (w.alloc (tokBox t (.slice ai t.attrs.length ac))) := boxAt (Below_new w _)
  obtain ⟨b0, b1, b2, b3, b4⟩ := hbox
  have hput : ∀ w1 sv1 n, GQ A F K S X w (w.alloc (tokBox t (.slice ai t.attrs.length ac))).drew w1 g n nv sv1 av kv → Calls Tryz.prog 40 #[.pointer (some ⟨X, 0, none⟩), .agg #[.string ⟨#[]⟩, .slice none 0 0, .string ⟨t.text.toArray⟩, .slice none 0 0, .int .i64 0]] w1 fun e w' => e = .returned (.int .i64 g.nodes.length) ∧ ∃ nv' av' kv', GRep A (Grow K w1 w') X w' (g.put (textOf t)) nv' av' kv' sv1 (.bool n.rooted) ∧ Frame (fun k => k = X ∨ K k) w1 w' := fun w1 sv1 n q =>
    put_node q.rep h.wf h.kids (textOf t) (.slice none 0 0) 0 ⟨rfl, Or.inl ⟨rfl, rfl⟩⟩ (fun k e => by cases e) rfl hb
  have hcells : ∀ w1 sv1 n, GQ A F K S X w (w.alloc (tokBox t (.slice ai t.attrs.length ac))).drew w1 g n nv sv1 av kv → w1.cell? ⟨X, 3, none⟩ = some (.int .i64 k) := fun w1 sv1 n q => by rw [q.rep.cell 3 rfl, hs]; rfl
  have hfin : ∀ w1 w2 sv1 nv' av' kv', GQ A F K S X w (w.alloc (tokBox t (.slice ai t.attrs.length ac))).drew w1 g (g.put (textOf t)).nest nv sv1 av kv → GRep A (Grow K w1 w2) X w2 (g.put (textOf t)) nv' av' kv' sv1 (.bool (g.put (textOf t)).nest.rooted) → Frame (fun k => k = X ∨ K k) w1 w2 →
      Took A F X w (0, g.put (textOf t)) (.returned (.int .i64 0)) w2 := fun w1 w2 sv1 nv' av' kv' q r f => by
    refine h.ends q r f (h.kids.put (textOf t) rfl) hwf (fun e => ?_)
    have := put_some g (textOf t)
    rw [e] at this; cases this
  unfold tokV strV at hcall ⊢
  unfold tokBox at *
  have e1 : (t.kind == 1) = false := by simpa using hk1
  have e2 : (t.kind == 2) = false := by simpa using hk2
  have hkn : ((k : Int) != -1) = true := by simp
  have HC := hide hcall
  have HF := hide hfin
  have HP := hide hput
  have HQ := hide hcells
  clear hcall hfin h0 h hput hcells hg hwf hs hk1 hk2
  generalize (g.put (textOf t)).nest = nn at *
  go_enter Tryz.func23, Tryz.ntmps23
  go_wp2_with fail
  go_region_held3 (fun W => W.cell? ⟨w.heap.size, 0, none⟩ = some (.int .i64 t.kind) ∧ W.cell? ⟨w.heap.size, 1, none⟩ = some (.string ⟨t.name.toArray⟩) ∧ W.cell? ⟨w.heap.size, 2, none⟩ = some (.slice ai t.attrs.length ac) ∧ W.cell? ⟨w.heap.size, 3, none⟩ = some (.string ⟨t.text.toArray⟩) ∧ W.cell? ⟨w.heap.size, 4, none⟩ = some (.int .i64 t.at_))
    (first | exact ⟨b0, b1, b2, b3, b4⟩ | exact boxAt (t := t) hb1)
    (first | (go_at_call 39; refine HC.out.mono ?_; rintro e w1 ⟨rfl, sv1, gq, hb1⟩))
  all_goals
    have hp := HP.out _ _ _ gq
    have hb2 := boxAt (t := t) (va := .slice ai t.attrs.length ac) hb1
    obtain ⟨d0, d1, d2, d3, d4⟩ := hb2
    have c3 := HQ.out _ _ _ gq
    have GQ1 := hide gq
    clear gq b0 b1 b2 b3 b4 hb1
    go_wp2_with (go_at_call 40; refine hp.mono ?_; rintro e w2 ⟨rfl, nv', av', kv', r2, f2⟩; have R2 := hide r2; have F2 := hide f2; clear r2 f2)
    go_ret
    exact HF.out _ _ _ _ _ _ GQ1.out R2.out F2.out
set_option maxHeartbeats 8000000 in
set_option maxRecDepth 100000 in
theorem take_blank {nv sv : Value} {av kv : Nat → Value} (h : GP A F K S X w g nv sv av kv) (t : Tok) (ai : Option Addr) (ac : Nat) (hz : t.text.length ≤ 9223372036854775807) (h0 : (g.take t).1 = 0) (hk1 : t.kind ≠ 1) (hk2 : t.kind ≠ 2) (hs : g.stack = []) :
    Calls Tryz.prog 23 #[.pointer (some ⟨X, 0, none⟩), tokV t (.slice ai t.attrs.length ac)] w (Took A F X w (g.take t)) := by
  have hcall := nest_call h t ai ac hz
  have hg : g.take t = (0, g) := by
    unfold Gr.take at h0 ⊢
    rw [if_neg hk1, if_neg hk2] at h0 ⊢
    simp only [hs] at h0 ⊢
    split at h0
    · rename_i h1; rw [if_pos h1]
    · cases h0
  rw [hg] at hcall ⊢
  have hbox : BoxAt w.heap.size (.int .i64 t.kind) (.string ⟨t.name.toArray⟩) (.slice ai t.attrs.length ac) (.string ⟨t.text.toArray⟩) (.int .i64 t.at_) (w.alloc (tokBox t (.slice ai t.attrs.length ac))) := boxAt (Below_new w _)
  obtain ⟨b0, b1, b2, b3, b4⟩ := hbox
  have hcells : ∀ w1 sv1 n, GQ A F K S X w (w.alloc (tokBox t (.slice ai t.attrs.length ac))).drew w1 g n nv sv1 av kv → w1.cell? ⟨X, 3, none⟩ = some (.int .i64 (-1)) := fun w1 sv1 n q => by rw [q.rep.cell 3 rfl, hs]; rfl
  have hfin : ∀ w1 sv1, GQ A F K S X w (w.alloc (tokBox t (.slice ai t.attrs.length ac))).drew w1 g g.nest nv sv1 av kv → Took A F X w (0, g) (.returned (.int .i64 0)) w1 := fun w1 sv1 q => h.same q (More1.refl w1)
  unfold tokV strV at hcall ⊢
  unfold tokBox at *
  have e1 : (t.kind == 1) = false := by simpa using hk1
  have e2 : (t.kind == 2) = false := by simpa using hk2
  have HC := hide hcall
  have HF := hide hfin
  have HQ := hide hcells
  clear hcall hfin h0 h hcells hg hs hk1 hk2
  generalize g.nest = nn at *
  go_enter Tryz.func23, Tryz.ntmps23
  go_wp2_with fail
  go_region_held3 (fun W => W.cell? ⟨w.heap.size, 0, none⟩ = some (.int .i64 t.kind) ∧ W.cell? ⟨w.heap.size, 1, none⟩ = some (.string ⟨t.name.toArray⟩) ∧ W.cell? ⟨w.heap.size, 2, none⟩ = some (.slice ai t.attrs.length ac) ∧ W.cell? ⟨w.heap.size, 3, none⟩ = some (.string ⟨t.text.toArray⟩) ∧ W.cell? ⟨w.heap.size, 4, none⟩ = some (.int .i64 t.at_))
    (first | exact ⟨b0, b1, b2, b3, b4⟩ | exact boxAt (t := t) hb1)
    (first | (go_at_call 39; refine HC.out.mono ?_; rintro e w1 ⟨rfl, sv1, gq, hb1⟩))
  all_goals
    have hb2 := boxAt (t := t) (va := .slice ai t.attrs.length ac) hb1
    obtain ⟨d0, d1, d2, d3, d4⟩ := hb2
    have c3 := HQ.out _ _ _ gq
    have GQ1 := hide gq
    clear gq b0 b1 b2 b3 b4 hb1
    go_wp2
    go_ret
    exact HF.out _ _ GQ1.out
theorem take_node (h : GR A F X w g) (hb : g.nodes.length ≤ 17179869184) (t : Tok) (va : Value) (hz : t.text.length ≤ 9223372036854775807) (ha : w.ownsRow 0 44 2 va t.attrs.length (attrCells t.attrs)) (haA : ∀ k, va.ownBlock = some k → A k) :
    Calls Tryz.prog 23 #[.pointer (some ⟨X, 0, none⟩), tokV t va] w (Took A F X w (g.take t)) := by
  obtain ⟨K, S, nv, sv, av, kv, p⟩ := h.parts
  obtain ⟨ai, ac, rfl⟩ := slice_len ha
  by_cases h0 : (g.take t).1 = 0
  · by_cases hk1 : t.kind = 1
    · exact take_open p hb t ai ac hz ha haA h0 hk1
    · by_cases hk2 : t.kind = 2
      · exact take_shut p t ai ac hz h0 hk2
      · cases hs : g.stack with
        | nil => exact take_blank p t ai ac hz h0 hk1 hk2 hs
        | cons k st => exact take_text p hb t ai ac hz h0 hk1 hk2 k st hs
  · exact take_wrong p t ai ac hz h0
end Go.Proofs.YtfolnkmbdmfigaaGreatDoor

set_option linter.unusedSimpArgs false
set_option linter.unusedVariables false
namespace Go.Proofs.YtfolnkmbdmfigaaGreatDoor
open Go.RowKit Go.Maps Go.Lib
variable {A K K' : Nat → Prop} {w w' w1 : World} {nv v : Value} {av kv : Nat → Value} {g : Gr} {X : Nat} {a : Addr} {l : List Tok}
theorem Ans.atA (h : Ans A w v l) (i : Nat) (hi : i < l.length) : ∃ g cap va, v = .slice (some ⟨g, 0, none⟩) l.length cap ∧ w.ownsRow 0 44 2 va (l[i]).attrs.length (attrCells (l[i]).attrs) ∧ (∀ k, va.ownBlock = some k → A k) ∧
    w.cell? ⟨g, i * 5, none⟩ = some (.int .i64 (l[i]).kind) ∧ w.cell? ⟨g, i * 5 + 1, none⟩ = some (strV (l[i]).name) ∧ w.cell? ⟨g, i * 5 + 2, none⟩ = some va ∧ w.cell? ⟨g, i * 5 + 3, none⟩ = some (strV (l[i]).text) ∧ w.cell? ⟨g, i * 5 + 4, none⟩ = some (.int .i64 (l[i]).at_) ∧ l.length ≤ maxLen := by
  obtain ⟨cs, h1, h2, h3⟩ := h
  have h1' := h1
  rcases h1'.2 with ⟨e, e0⟩ | ⟨g, cap, cur, e, _, _, hm1, hm2, _⟩
  · omega
  subst e
  have hc := h1.cells (g := g) rfl
  have key : ∀ (l : List Tok) (cs : List Value), Toks A 0 w nilS l cs → ∀ (i : Nat) (hi : i < l.length), ∃ va, w.ownsRow 0 44 2 va (l[i]).attrs.length (attrCells (l[i]).attrs) ∧ (∀ k, va.ownBlock = some k → A k) ∧ cs[i * 5]? = some (.int .i64 (l[i]).kind) ∧ cs[i * 5 + 1]? = some (strV (l[i]).name) ∧ cs[i * 5 + 2]? = some va ∧ cs[i * 5 + 3]? = some (strV (l[i]).text) ∧ cs[i * 5 + 4]? = some (.int .i64 (l[i]).at_) := by
    intro l cs h
    induction h with
    | nil => intro i hi; cases hi
    | cons t v l cs ho hf hl ih =>
      intro i hi
      cases i with
      | zero => exact ⟨v, ho, fun k e => (hf k e).1, rfl, rfl, rfl, rfl, rfl⟩
      | succ i =>
        obtain ⟨va, a0, b0, a1, a2, a3, a4, a5⟩ := ih i (by simpa using hi)
        have e1 : ∀ j, (i + 1) * 5 + j = (tokCells t v).length + (i * 5 + j) := fun j => by show _ = 5 + _; omega
        have e2 : ∀ j, (tokCells t v ++ cs)[(i + 1) * 5 + j]? = cs[i * 5 + j]? := fun j => by rw [e1, List.getElem?_append_right (Nat.le_add_right _ _), Nat.add_sub_cancel_left]
        exact ⟨va, a0, b0, (e2 0).trans a1, (e2 1).trans a2, (e2 2).trans a3, (e2 3).trans a4, (e2 4).trans a5⟩
  obtain ⟨va, a0, b0, a1, a2, a3, a4, a5⟩ := key l cs h2 i hi
  have up : ∀ j u, cs[j]? = some u → w.cell? ⟨g, j, none⟩ = some u := fun j u hj => by
    have := hc j u hj
    rwa [Addr.add_mid, Nat.zero_add] at this
  exact ⟨g, cap, va, rfl, a0, b0, up _ _ a1, up _ _ a2, up _ _ a3, up _ _ a4, up _ _ a5, Nat.le_trans hm1 hm2⟩
theorem slice_of (h : Ans A w v l) : ∃ b c, v = .slice b l.length c ∧ l.length ≤ maxLen := by
  obtain ⟨cs, o, _, _⟩ := h
  rcases o.2 with ⟨rfl, e⟩ | ⟨g, cap, cur, rfl, _, _, h1, h2, _⟩
  · rw [e]; exact ⟨none, 0, rfl, Nat.zero_le _⟩
  · exact ⟨_, _, rfl, Nat.le_trans h1 h2⟩
def NAns (B : Nat) (w : World) (v : Value) (l : List Nd) : Prop := ∃ A K av kv, Nodes 42 44 A K w v l av kv ∧ (∀ k, A k → B ≤ k) ∧ (∀ k, K k → B ≤ k) ∧ (∀ k, A k → ¬ K k)
def ParseEnd (w : World) (x : List Nd × Int × Int) (e : Ending) (w' : World) : Prop := ∃ v, e = .returned (.tuple #[v, .int .i64 x.2.1, .int .i64 x.2.2]) ∧ NAns w.heap.size w' v x.1 ∧ Below w.heap.size w w' ∧ (x.2.1 ≠ 0 → v = nilS)
structure Start (w : World) (b : ByteArray) (v' : Value) (w4 : World) : Prop where
  ex : ∃ A, Ans A w4 v' ((readS b).l ++ (readS b).last) ∧ (∀ k, A k → w.heap.size ≤ k)
  below : Below w.heap.size w w4
  err : ∀ W, More1 w4 W → Calls Tryz.prog 24 #[.pointer (some ⟨w.heap.size, 0, none⟩)] W fun e w5 => e = .returned (.tuple #[.int .i64 (readS b).err, .int .i64 (readS b).at_]) ∧ Below W.heap.size W w5
theorem start_ok (b : ByteArray) (w : World) (gl : Gl w a) (hb : b.size ≤ 2147483648) :
    Calls Tryz.prog 21 #[.pointer (some ⟨w.heap.size, 0, none⟩), .string b] (w.alloc (.cells newCells 96)) fun e w2 => ∃ v1, e = .returned v1 ∧
      Calls Tryz.prog 22 #[.pointer (some ⟨w.heap.size, 0, none⟩)] w2 fun e w3 => ∃ v2, e = .returned v2 ∧ ∃ v' w4, (Builtin.append_ #[47, 47] 47 #[v1, v2]).run Tryz.prog w3 = .ok v' w4 ∧ Start w b v' w4 := by
  have hsz := gl.size
  have gl1 := gl_alloc gl (.cells newCells 96)
  have lo0 : Low (fun k => k = w.heap.size) := fun k hk e => by omega
  have hw := write_pr (new_alive w) good_new gl1 lo0 b (by omega)
  have hg := write_good good_new b
  have ht1 := write_told good_new b
  have ht2 := close_told hg
  obtain ⟨cr1, cr2, _⟩ := close_ref b
  refine hw.mono ?_
  rintro e w2 ⟨v1, A1, F1, rfl, an1, al1, fr1, h1, h2⟩
  have hz1 : w.heap.size + 1 ≤ w2.heap.size := by have := fr1.size; simp at this; omega
  have hF1 : ∀ k, F1 k → w.heap.size ≤ k := fun k hk => (h2 k hk).elim (fun e => by omega) (fun x => by have := x.1; simp at this; omega)
  have lo1 : Low F1 := fun k hk x => by have := hF1 k x; omega
  refine ⟨v1, rfl, (close_pr al1 hg (gl1.frame fr1 lo0) lo1 (by omega)).mono ?_⟩
  rintro e w3 ⟨v2, A2, F2, rfl, an2, al2, fr2, g1, g2⟩
  obtain ⟨v', w4, A, hrun, an4, al4, b4, hA, hF2⟩ := both_end (x := PR.new.write b) (y := (PR.new.write b).1.close) (K := w.heap.size) (by omega) an1 (fun k hA => ⟨(h1 k hA).1.elim (fun e => by omega) (fun x => by have := x.1; simp at this; omega), (h1 k hA).1.elim (fun e => by omega) (fun x => x.2), (h1 k hA).2⟩) hF1 an2 al2 fr2 g1 g2 (by omega)
  have b1 : Below w.heap.size w (w.alloc (.cells newCells 96)) := (Below.refl _ _).alloc (Nat.le_refl _) _
  have b2 : Below w.heap.size (w.alloc (.cells newCells 96)) w2 := fr1.up (fun k e => by omega) (by simp)
  rw [write_ref, cr1] at an4
  refine ⟨v2, rfl, v', w4, hrun, ⟨A, an4, fun k hk => (hA k hk).1⟩, (b1.trans b2).trans b4, fun W hM => ?_⟩
  have hlt : ∀ k, F2 k → k < w4.heap.size := fun k hk => by obtain ⟨_, _, rep, _⟩ := al4; exact rep.lt k hk
  have := err_pr (al4.keep (fun k hk => hM.keep k (hlt k hk)) hM.size)
  rw [cr2] at this
  exact this
end Go.Proofs.YtfolnkmbdmfigaaGreatDoor

set_option linter.unusedSimpArgs false
set_option linter.unusedVariables false
namespace Go.Proofs.YtfolnkmbdmfigaaGreatDoor
open Go.RowKit Go.Maps Go.Lib
variable {A K K' : Nat → Prop} {w w' w1 w4 wr : World} {nv v : Value} {av kv : Nat → Value} {g : Gr} {X : Nat} {a : Addr} {l T : List Tok}
structure PI (w4 : World) (A : Nat → Prop) (T : List Tok) (wr : World) (k : Nat) : Prop where
  ex : ∃ g Kx, GR A Kx w4.heap.size wr g ∧ (∀ j, Kx j → w4.heap.size ≤ j) ∧ grow Gr.zero T = grow g (T.drop k) ∧ g.nodes.length ≤ k
  more : More1 w4 wr
theorem PI.start (hA : ∀ k, A k → k < w4.heap.size) : PI w4 A T (w4.alloc (.cells #[.slice none 0 0, .bool false, .slice none 0 0, .int .i64 (-1)] 54)) 0 := by
  refine ⟨⟨Gr.zero, fun _ => False, ⟨⟨fun _ => False, fun _ => False, nilS, _, _, nilS, ⟨Below_new w4 _, Nodes.zero, fun x => by have := hA _ x; omega, fun x => x, fun _ _ x => x, fun _ x => x.elim, fun k x => by have := hA k x; simp; omega⟩, ⟨Below_new w4 _, rfl, rfl, ⟨rfl, Or.inl ⟨rfl, rfl⟩⟩, (fun k e => by cases e), fun x => x, fun _ x => x.elim⟩, fun _ x => x, fun _ x => x, fun _ _ x => x, fun _ x => x.elim, fun _ => rfl⟩, fun _ x => x.elim, fun x => x, fun i m hi => by simp [Gr.zero] at hi, Gr.Wf.zero⟩, fun _ x => x.elim, by simp, by simp [Gr.zero]⟩, (More1.refl w4).alloc _⟩
theorem PI.call {k : Nat} (h : PI w4 A T wr k) (hk : k < T.length) (hb : T.length ≤ 17179869184) (hA : ∀ k, A k → k < w4.heap.size) (va : Value) (hz : (T[k]).text.length ≤ 9223372036854775807) (ha : w4.ownsRow 0 44 2 va (T[k]).attrs.length (attrCells (T[k]).attrs)) (haA : ∀ k, va.ownBlock = some k → A k) (o : Obj) :
    Calls Tryz.prog 23 #[.pointer (some ⟨w4.heap.size, 0, none⟩), tokV (T[k]) va] (wr.alloc o) fun e w' => ∃ no, e = .returned (.int .i64 no) ∧ More1 w4 w' ∧ w'.heap[wr.heap.size]? = some o ∧ (no = 0 → PI w4 A T w' (k + 1)) ∧ (no ≠ 0 → (grow Gr.zero T).1 = no ∧ (grow Gr.zero T).2.1 = (T[k]).at_) := by
  obtain ⟨⟨g, Kx, hg, hKx, hgr, hlen⟩, hM⟩ := h
  have hM1 : More1 wr (wr.alloc o) := (More1.refl wr).alloc o
  have hM2 := hM.alloc o
  have hXr : w4.heap.size < wr.heap.size := hg.blk
  have hdrop : T.drop k = T[k] :: T.drop (k + 1) := (List.drop_eq_getElem_cons hk)
  refine (take_node (hg.keep hM1) (by omega) (T[k]) va hz (owns_of ha fun b e => hM2.keep b (own_lt ha e)) haA).mono ?_
  rintro e w' ⟨rfl, r, fr⟩
  have hM3 : More1 w4 w' := ⟨fr.os.trans hM2.os, fr.tape.trans hM2.tape, fr.output.trans hM2.output, Nat.le_trans hM2.size fr.size, fun b hb2 => by
    rw [fr.block b (Nat.lt_of_lt_of_le hb2 hM2.size) (fun x => by
      rcases x with e | e
      · omega
      · have := hKx b e; omega)]
    exact hM2.keep b hb2⟩
  have hKlt : ∀ j, Kx j → j < wr.heap.size := hg.lt
  refine ⟨_, rfl, hM3, ?_, fun h0 => ?_, fun hn => ?_⟩
  · rw [fr.block wr.heap.size (by simp) (fun x => by
      rcases x with e | e
      · omega
      · have := hKlt _ e; omega)]
    exact Below_new wr o
  · refine ⟨⟨_, _, r, ?_, ?_, ?_⟩, hM3⟩
    · rintro j (e | e)
      · exact hKx j e
      · have := e.1; simp at this; omega
    · rw [hgr, hdrop]
      simp only [grow]
      rw [if_neg (by simpa using h0)]
    · have : (g.take (T[k])).2.nodes.length ≤ g.nodes.length + 1 := by
        unfold Gr.take
        split
        · split
          · simp
          · split
            · simp
            · simp only [put_size]; omega
        · split
          · split
            · simp
            · split <;> simp
          · split
            · split <;> simp
            · rw [put_size]; omega
      omega
  · rw [hgr, hdrop]
    simp only [grow]
    rw [if_pos hn]
    exact ⟨rfl, rfl⟩
end Go.Proofs.YtfolnkmbdmfigaaGreatDoor

set_option linter.unusedSimpArgs false
set_option linter.unusedVariables false
namespace Go.Proofs.YtfolnkmbdmfigaaGreatDoor
open Go.RowKit Go.Maps Go.Lib
variable {A K K' : Nat → Prop} {w w' w1 w4 wr : World} {nv v : Value} {av kv : Nat → Value} {g : Gr} {X : Nat} {a : Addr} {l T : List Tok}
theorem PI.over (h : PI w4 A T wr T.length) : ∃ g Kx, GR A Kx w4.heap.size wr g ∧ (∀ j, Kx j → w4.heap.size ≤ j) ∧ grow Gr.zero T = (0, 0, g) := by
  obtain ⟨⟨g, Kx, h1, h2, h3, _⟩, _⟩ := h
  refine ⟨g, Kx, h1, h2, ?_⟩
  rw [h3, List.drop_length]; rfl
theorem ends_bad {no q : Int} (b4 : Below w.heap.size w w4) (hM : More1 w4 w') (hn : no ≠ 0) : ParseEnd w ([], no, q) (.returned (.tuple #[.slice none 0 0, .int .i64 no, .int .i64 q])) w' :=
  ⟨nilS, rfl, ⟨fun _ => False, fun _ => False, _, _, Nodes.zero, fun _ x => x.elim, fun _ x => x.elim, fun _ x => x.elim⟩, b4.trans ⟨hM.os, hM.tape, hM.output, hM.size, fun k hk => hM.keep k (Nat.lt_of_lt_of_le hk b4.size)⟩, fun _ => rfl⟩
structure Says (b : ByteArray) (T : List Tok) (er1 er2 : Int) : Prop where
  tok : (grow Gr.zero T).1 ≠ 0 → parseN b = ([], (grow Gr.zero T).1, (grow Gr.zero T).2.1)
  err : (grow Gr.zero T).1 = 0 → er1 ≠ 0 → parseN b = ([], er1, er2)
  form : (grow Gr.zero T).1 = 0 → er1 = 0 → ((grow Gr.zero T).2.2.stack ≠ [] ∨ (grow Gr.zero T).2.2.nodes = []) → parseN b = ([], 3, (b.size : Int))
  ok : (grow Gr.zero T).1 = 0 → er1 = 0 → (grow Gr.zero T).2.2.stack = [] → (grow Gr.zero T).2.2.nodes ≠ [] → parseN b = ((grow Gr.zero T).2.2.nodes, 0, 0)
theorem says (b : ByteArray) : Says b ((readS b).l ++ (readS b).last) (readS b).err (readS b).at_ := by
  refine ⟨fun h => ?_, fun h h2 => ?_, fun h h2 h3 => ?_, fun h h2 h3 h4 => ?_⟩
  · unfold parseN; rw [if_pos h]
  · unfold parseN; rw [if_neg (by simpa using h), if_pos h2]
  · unfold parseN; rw [if_neg (by simpa using h), if_neg (by simpa using h2), if_pos h3]
  · unfold parseN; rw [if_neg (by simpa using h), if_neg (by simpa using h2), if_neg (by rintro (e | e); exact e h3; exact h4 e)]
set_option maxHeartbeats 8000000 in
set_option maxRecDepth 100000 in
theorem parse_walk (b : ByteArray) (w : World) (gl : Gl w a) (hb : b.size ≤ 2147483648) (hlen : ((readS b).l ++ (readS b).last).length ≤ 17179869184) (htx : ∀ t ∈ (readS b).l ++ (readS b).last, t.text.length ≤ 9223372036854775807) : Calls Tryz.prog 9 #[.string b] w (ParseEnd w (parseN b)) := by
  have hst := start_ok b w gl hb
  have hnew := new_ok w
  have hsay := says b
  have HST := hide hst
  have HSAY := hide hsay
  have HLEN := hide hlen
  have HTX := hide htx
  clear hst gl hsay hlen htx
  go_enter Tryz.func9, Tryz.ntmps9
  go_wp2_with (first | (go_at_call 20; refine hnew.mono ?_; rintro e wn ⟨rfl, rfl⟩) | (go_at_call 21; refine HST.out.mono ?_; rintro e w2 ⟨v1, rfl, hcl⟩) | (go_at_call 22; refine hcl.mono ?_; rintro e w3 ⟨v2, rfl, v', w4, hrun, hs4⟩; have herr := hs4.err; have hb4 := hs4.below; obtain ⟨A4, an4, hA4⟩ := hs4.ex; generalize (readS b).l ++ (readS b).last = T at *; generalize (readS b).err = er1 at *; generalize (readS b).at_ = er2 at *; obtain ⟨bl, cl, el, hmx⟩ := slice_of an4; subst el; have AN4 := hide an4; have HA4 := hide hA4; have HMX := hide hmx; have HER := hide herr; have B4 := hide hb4; clear hs4 an4 hA4 hmx herr hb4 hcl HST) | (at_builtin; refine wpList_app rfl (.tmp 16) (.tmp 18) rfl rfl _ _ rfl rfl hrun ?_))
  go_loopw [9, 10, 23] (fun _ _ iv wr => ∃ k : Nat, iv = .int .i64 k ∧ k ≤ T.length ∧ PI w4 (fun j => A4 j ∧ j < w4.heap.size) T wr k) (fun _ _ iv _ => T.length - (RowKit.intOf iv).toNat)
  case atStart => exact ⟨0, rfl, Nat.zero_le _, PI.start (fun k x => x.2)⟩
  case round =>
    obtain ⟨k, rfl, hk, hpi⟩ := hrel
    by_cases hkl : k < T.length
    · have hdec : decide ((k : Int) < T.length) = true := by simp; omega
      have hdecn : decide (k < T.length) = true := by simp; omega
      have hki : (k : Int) < T.length := by omega
      have hmi : (T.length : Int) ≤ 9223372036854775807 := by have := HMX.out; have : maxLen = 9223372036854775807 := rfl; omega
      obtain ⟨gT, cT, va, eT, oa, oA, x0, x1, x2, x3, x4, _⟩ := AN4.out.atA k hkl
      have hcall := fun o => hpi.call hkl HLEN.out (fun j x => x.2) va (HTX.out _ (List.getElem_mem hkl)) oa (fun j e => ⟨oA j e, own_lt oa e⟩) o
      obtain ⟨ai, ac, hav⟩ := slice_len oa
      cases eT
      have hlt : gT < w4.heap.size := World.block_lt_of_cell? w4 _ x0
      subst hav
      unfold strV at x1 x3
      unfold tokV strV at hcall
      have y0 := (World.cell?_of_block (a := ⟨gT, k * 5, none⟩) (hpi.more.keep gT hlt)).trans x0
      have y1 := (World.cell?_of_block (a := ⟨gT, k * 5 + 1, none⟩) (hpi.more.keep gT hlt)).trans x1
      have y2 := (World.cell?_of_block (a := ⟨gT, k * 5 + 2, none⟩) (hpi.more.keep gT hlt)).trans x2
      have y3 := (World.cell?_of_block (a := ⟨gT, k * 5 + 3, none⟩) (hpi.more.keep gT hlt)).trans x3
      have y4 := (World.cell?_of_block (a := ⟨gT, k * 5 + 4, none⟩) (hpi.more.keep gT hlt)).trans x4
      have HC := hide hcall
      have HPI := hide hpi
      clear hcall hpi oa oA x0 x1 x2 x3 x4
      generalize T[k] = t at *
      go_wp2_with fail
      refine (HC.out _).mono ?_
      rintro e w5 ⟨no, rfl, hM5, hbox, hok, hbad⟩
      by_cases h0 : no = 0
      · have hp5 := hok h0
        subst h0
        have HP5 := hide hp5
        clear hok hbad hbox hM5 hp5
        go_wp2
        go_roundw
        case rel => exact ⟨k + 1, by simp, by omega, HP5.out⟩
        case measure => simp only [RowKit.intOf]; omega
      · have hne : (no != 0) = true := by simpa using h0
        have z4 := cell_of (i := 4) hbox rfl
        have HB := hide (hbad h0)
        have HM5 := hide hM5
        have H0 := hide h0
        clear hok hbad hbox hM5 h0
        go_wp2_with fail
        go_quiet (fail)
        go_wp2
        go_ret3
        have hq := HB.out
        have hsy := HSAY.out.tok (by rw [hq.1]; exact H0.out)
        rw [hsy, hq.1, hq.2]
        exact ends_bad B4.out (HM5.out.drewN _) H0.out
    · have hdec : decide ((k : Int) < T.length) = false := by simp; omega
      have hdecn : decide (k < T.length) = false := by simp; omega
      have he : k = T.length := by omega
      subst he
      have hM := hpi.more
      obtain ⟨g, Kx, hg, hKx, hgr⟩ := hpi.over
      have h10 : (grow Gr.zero T).1 = 0 := by rw [hgr]
      have H10 := hide h10
      have HG := hide hg
      have HGR := hide hgr
      have HKX := hide hKx
      have HMM := hide hM
      clear hpi hg hgr hKx hM h10
      by_cases h0 : er1 = 0
      · subst h0
        obtain ⟨Kg, Sg, nv, sv, av, kv, p⟩ := HG.out.parts
        have hall : ∀ W, More1 wr W → ∃ A' K', Nodes 42 44 A' K' W nv g.nodes av kv ∧ (∀ j, A' j → w.heap.size ≤ j) ∧ (∀ j, K' j → w.heap.size ≤ j) ∧ (∀ j, A' j → ¬ K' j) := fun W hW => ⟨_, _, hW.nodes p.rep.nodes, fun j x => HA4.out j x.1, fun j x => Nat.le_trans B4.out.size (HKX.out j (p.kF j x)), p.rep.dis⟩
        have hwhole : ∀ W, More1 wr W → Calls Tryz.prog 25 #[.pointer (some ⟨w4.heap.size, 0, none⟩)] W fun e w' => e = .returned (.bool (g.nest.rooted && decide (g.nest.names.length = 0))) ∧ More1 W w' := fun W hW => nest_whole (p.nest.keep hW)
        have hnodes : ∀ W, More1 wr W → W.cell? ⟨w4.heap.size, 2, none⟩ = some nv := fun W hW => (p.rep.keep hW).cell 2 rfl
        have hwb : (g.nest.rooted && decide (g.nest.names.length = 0)) = true ↔ (g.stack = [] ∧ g.nodes ≠ []) := by
          simp [Gr.nest, Gr.names, and_comm]
        have HALL := hide hall
        have HWH := hide hwhole
        have HND := hide hnodes
        clear hall hwhole hnodes p
        generalize (g.nest.rooted && decide (g.nest.names.length = 0)) = wb at *
        cases wb with
        | false =>
          have hsy := HSAY.out.form H10.out rfl (by
            rw [HGR.out]
            by_cases e : g.stack = []
            · exact Or.inr (Classical.byContradiction fun e2 => by simpa using hwb.2 ⟨e, e2⟩)
            · exact Or.inl e)
          clear hwb
          go_wp2_with fail
          refine (HER.out _ HMM.out).mono ?_
          rintro e w5 ⟨rfl, b5⟩
          have hw5 := HWH.out w5 (below_more b5)
          have B5 := hide b5
          clear b5
          go_wp2_with (go_at_call 25; refine hw5.mono ?_; rintro e w6 ⟨rfl, m6⟩; have M6 := hide m6; clear m6)
          go_ret3
          rw [hsy]
          exact ends_bad B4.out ((HMM.out.trans (below_more B5.out)).trans M6.out) (by decide)
        | true =>
          obtain ⟨hs, hnn⟩ := hwb.1 rfl
          have hsy := HSAY.out.ok H10.out rfl (by rw [HGR.out]; exact hs) (by rw [HGR.out]; exact hnn)
          rw [HGR.out] at hsy
          have HSY := hide hsy
          clear hwb hs hnn hsy
          go_wp2_with fail
          refine (HER.out _ HMM.out).mono ?_
          rintro e w5 ⟨rfl, b5⟩
          have hw5 := HWH.out w5 (below_more b5)
          have B5 := hide b5
          clear b5
          go_wp2_with (go_at_call 25; refine hw5.mono ?_; rintro e w6 ⟨rfl, m6⟩; have c0 := HND.out w6 ((below_more B5.out).trans m6); have M6 := hide m6; clear m6)
          go_ret3
          rw [HSY.out]
          have hM6 := (below_more B5.out).trans M6.out
          obtain ⟨A', K', q1, q2, q3, q4⟩ := HALL.out w6 hM6
          have hM7 := HMM.out.trans hM6
          have hb5 : Below w.heap.size w w6 := B4.out.trans ⟨hM7.os, hM7.tape, hM7.output, hM7.size, fun j hj => hM7.keep j (Nat.lt_of_lt_of_le hj B4.out.size)⟩
          exact ⟨_, rfl, ⟨A', K', av, kv, q1, q2, q3, q4⟩, hb5, fun h => absurd rfl h⟩
      · have hne : (er1 != 0) = true := by simpa using h0
        have H0 := hide h0
        clear h0
        go_wp2_with fail
        refine (HER.out _ HMM.out).mono ?_
        rintro e w5 ⟨rfl, b5⟩
        have B5 := hide b5
        clear b5
        go_wp2_with fail
        go_ret3
        rw [HSAY.out.err H10.out H0.out]
        exact ends_bad B4.out (HMM.out.trans (below_more B5.out)) H0.out
end Go.Proofs.YtfolnkmbdmfigaaGreatDoor

set_option linter.unusedSimpArgs false
set_option linter.unusedVariables false
namespace Go.Proofs.YtfolnkmbdmfigaaGreatDoor
open Go.RowKit Go.Maps Go.Lib
variable {A K K' F : Nat → Prop} {w w' w1 w2 w4 wr : World} {nv ov a v : Value} {av kv : Nat → Value} {g : Gr} {X Y : Nat} {er q : Int} {l T : List Tok}
def RParseEnd (w : World) (x : List Nd × Int × Int) (e : Ending) (w' : World) : Prop := ∃ v, e = .returned (.tuple #[v, .int .i64 x.2.1, .int .i64 x.2.2]) ∧ (∃ A K av kv, Nodes 76 82 A K w' v x.1 av kv) ∧ Below w.heap.size w w'
structure RStart (w : World) (s : ByteArray) (v : Value) (w4 : World) : Prop where
  ans : RAns w4 v ((readS s).l ++ (readS s).last)
  below : Below w.heap.size w w4
  err : w4.cell? ⟨w.heap.size, 5, none⟩ = some (.int .i64 (readS s).err)
  at_ : w4.cell? ⟨w.heap.size, 6, none⟩ = some (.int .i64 (readS s).at_)
theorem rstart_ok (s : ByteArray) (w : World) (hs : s.size ≤ 268435456) :
    Calls Tryz.prog 26 #[.string s] w fun e w1 => e = .returned (.pointer (some ⟨w.heap.size, 0, none⟩)) ∧ ∃ lv, (∃ o n c, lv = .slice o n c) ∧ Calls Tryz.prog 27 #[.pointer (some ⟨w.heap.size, 0, none⟩)] w1 fun e w2 => ∃ v2, e = .returned v2 ∧ w2.cell? ⟨w.heap.size, 2, none⟩ = some lv ∧ ∃ v' w4, (Builtin.append_ #[62, 62] 62 #[lv, v2]).run Tryz.prog w2 = .ok v' w4 ∧ RStart w s v' w4 := by
  have hlen := read_len s
  refine (read_ref s w (by omega)).mono ?_
  rintro e w1 ⟨rfl, F, lv, cs, rs, b1, hF⟩
  refine ⟨rfl, lv, ?_, (last_ref rs.sat).mono ?_⟩
  · obtain ⟨o, c, e⟩ := slice_len rs.row
    exact ⟨o, _, c, e⟩
  rintro e w2 ⟨v2, rfl, b2, hv⟩
  have hXlt : w.heap.size < w1.heap.size := rs.lt _ rs.has
  have hblk2 : w2.heap[w.heap.size]? = w1.heap[w.heap.size]? := b2.block _ hXlt
  have c2 : w1.cell? ⟨w.heap.size, 2, none⟩ = some lv := rs.sat.cell 2 rfl
  have c5 : w1.cell? ⟨w.heap.size, 5, none⟩ = some (.int .i64 (readS s).err) := rs.sat.cell 5 rfl
  have c6 : w1.cell? ⟨w.heap.size, 6, none⟩ = some (.int .i64 (readS s).at_) := rs.sat.cell 6 rfl
  obtain ⟨v', w4, hrun, hans, hgr⟩ := add_last rs b2 v2 hv (by omega)
  have hlvX : lv.ownBlock ≠ some w.heap.size := rs.ne
  have hz2 := b2.size
  have hblk4 : w4.heap[w.heap.size]? = w1.heap[w.heap.size]? := (hgr.block _ (by omega) (fun e => hlvX e.symm)).trans hblk2
  have hb4 : Below w.heap.size w w4 := by
    refine (b1.trans (below_less b2 b1.size)).trans ⟨hgr.os, hgr.tape, hgr.output, hgr.size, fun k hk => hgr.block k (by omega) (fun e => ?_)⟩
    have := hF k (rs.own k e.symm).1
    omega
  exact ⟨v2, rfl, (World.cell?_of_block (a := ⟨w.heap.size, 2, none⟩) hblk2).trans c2, v', w4, hrun, ⟨hans, hb4, (World.cell?_of_block (a := ⟨w.heap.size, 5, none⟩) hblk4).trans c5, (World.cell?_of_block (a := ⟨w.heap.size, 6, none⟩) hblk4).trans c6⟩⟩
theorem rgrow_ok {T : List Tok} {g : Gr} {q : Int} (h : (if (grow Gr.zero T).1 ≠ 0 then ((grow Gr.zero T).2.2, (grow Gr.zero T).1, (grow Gr.zero T).2.1) else ((grow Gr.zero T).2.2, 0, 0)) = (g, 0, q)) : (grow Gr.zero T).1 = 0 ∧ (grow Gr.zero T).2.2 = g := by
  by_cases hx : (grow Gr.zero T).1 = 0
  · rw [if_neg (by simpa using hx)] at h
    simp only [Prod.mk.injEq] at h
    exact ⟨hx, h.1⟩
  · rw [if_pos hx] at h
    simp only [Prod.mk.injEq] at h
    exact absurd h.2.1 hx
theorem rgrow_bad {T : List Tok} {g : Gr} {er q : Int} (he : er ≠ 0) (h : (if (grow Gr.zero T).1 ≠ 0 then ((grow Gr.zero T).2.2, (grow Gr.zero T).1, (grow Gr.zero T).2.1) else ((grow Gr.zero T).2.2, 0, 0)) = (g, er, q)) : (grow Gr.zero T).1 ≠ 0 ∧ (grow Gr.zero T).1 = er ∧ (grow Gr.zero T).2.1 = q := by
  by_cases hx : (grow Gr.zero T).1 = 0
  · rw [if_neg (by simpa using hx)] at h
    simp only [Prod.mk.injEq] at h
    exact absurd h.2.1.symm he
  · rw [if_pos hx] at h
    simp only [Prod.mk.injEq] at h
    exact ⟨hx, h.2.1, h.2.2⟩
theorem rends_below (b4 : Below w.heap.size w w4) (hM : More1 w4 w') : Below w.heap.size w w' := b4.trans ⟨hM.os, hM.tape, hM.output, hM.size, fun k hk => hM.keep k (Nat.lt_of_lt_of_le hk b4.size)⟩
theorem frame_drew {F : Nat → Prop} {n : Nat} (f : Frame F w w') : Frame F w (w'.drewN n) := ⟨f.os, f.tape, f.output, f.size, f.block⟩
theorem rends_bad {no p : Int} (b4 : Below w.heap.size w w4) (hM : More1 w4 wr) (f : More1 wr w' ∨ Frame (fun k => k = w4.heap.size) wr w') : RParseEnd w ([], no, p) (.returned (.tuple #[.slice none 0 0, .int .i64 no, .int .i64 p])) w' := by
  have hM2 : More1 w4 w' := by
    rcases f with f | f
    · exact hM.trans f
    · exact ⟨f.os.trans hM.os, f.tape.trans hM.tape, f.output.trans hM.output, Nat.le_trans hM.size f.size, fun b hb => (f.block b (Nat.lt_of_lt_of_le hb hM.size) (by omega)).trans (hM.keep b hb)⟩
  exact ⟨nilS, rfl, ⟨fun _ => False, fun _ => False, _, _, Nodes.zero⟩, rends_below b4 hM2⟩
set_option maxHeartbeats 8000000 in
set_option maxRecDepth 10000 in
theorem rparse_ok (s : ByteArray) (w : World) (hs : s.size ≤ 268435456) : Calls Tryz.prog 10 #[.string s] w (RParseEnd w (parseN s)) := by
  have hst := rstart_ok s w hs
  have hsay := says s
  have hlen := readS_len s
  have htx := readS_text s
  have HST := hide hst
  have HSAY := hide hsay
  have HLEN := hide hlen
  have HTX := hide htx
  clear hst hsay hlen htx
  go_enter Tryz.func10, Tryz.ntmps10
  go_wp2_with fail
  refine HST.out.mono ?_
  rintro e w1 ⟨rfl, lv, ⟨lo, ln, lc, rfl⟩, hcl⟩
  go_wp2_with fail
  refine hcl.mono ?_
  rintro e w2 ⟨v2, rfl, c2, v', w4, hrun, hs4⟩
  have hans := hs4.ans
  have hb4 := hs4.below
  have he4 := hs4.err
  have ha4 := hs4.at_
  generalize (readS s).l ++ (readS s).last = T at *
  generalize (readS s).err = er1 at *
  generalize (readS s).at_ = er2 at *
  obtain ⟨bl, cl, el, hmx⟩ := rslice_of hans
  subst el
  have AN4 := hide hans
  have B4 := hide hb4
  have E4 := hide he4
  have T4 := hide ha4
  have HMX := hide hmx
  clear hs4 hans hb4 he4 ha4 hmx hcl HST
  go_wp2_with (at_builtin; refine wpList_app26 rfl (.tmp 17) (.tmp 18) rfl rfl _ _ rfl rfl hrun ?_)
  have hwlt : w.heap.size < w4.heap.size := World.block_lt_of_cell? w4 _ E4.out
  go_loopw [9] (fun iv wr => ∃ k : Nat, iv = .int .i64 k ∧ k ≤ T.length ∧ BI w4 T wr k) (fun iv _ => T.length - (RowKit.intOf iv).toNat)
  case atStart => exact ⟨0, rfl, Nat.zero_le _, BI.start⟩
  case round =>
    obtain ⟨k, rfl, hk, hbi⟩ := hrel
    by_cases hkl : k < T.length
    · have hdec : decide ((k : Int) < T.length) = true := by simp; omega
      have hdecn : decide (k < T.length) = true := by simp; omega
      have hki : (k : Int) < T.length := by omega
      have hmi : (T.length : Int) ≤ 9223372036854775807 := by have := HMX.out; have : maxLen = 9223372036854775807 := rfl; omega
      obtain ⟨gT, cT, va, eT, oa, x0, x1, x2, x3, x4, _⟩ := AN4.out.at k hkl
      have hl1 := HLEN.out
      have hcall := hbi.call hkl (by omega) va (by have := HTX.out _ (List.getElem_mem hkl); omega) oa wr (More1.refl wr)
      obtain ⟨ai, ac, hav⟩ := slice_len oa
      cases eT
      have hlt : gT < w4.heap.size := World.block_lt_of_cell? w4 _ x0
      subst hav
      unfold strV at x1 x3
      unfold tokV strV at hcall
      have y0 := (World.cell?_of_block (a := ⟨gT, k * 5, none⟩) (hbi.more.keep gT hlt)).trans x0
      have y1 := (World.cell?_of_block (a := ⟨gT, k * 5 + 1, none⟩) (hbi.more.keep gT hlt)).trans x1
      have y2 := (World.cell?_of_block (a := ⟨gT, k * 5 + 2, none⟩) (hbi.more.keep gT hlt)).trans x2
      have y3 := (World.cell?_of_block (a := ⟨gT, k * 5 + 3, none⟩) (hbi.more.keep gT hlt)).trans x3
      have y4 := (World.cell?_of_block (a := ⟨gT, k * 5 + 4, none⟩) (hbi.more.keep gT hlt)).trans x4
      have HC := hide hcall
      clear hcall hbi oa x0 x1 x2 x3 x4 hl1
      generalize T[k] = t at *
      go_wp2_with fail
      refine HC.out.mono ?_
      rintro e w5 ⟨rfl, hb5⟩
      have HB5 := hide hb5
      clear hb5
      go_wp2
      go_roundw
      case rel => exact ⟨k + 1, by simp, by omega, HB5.out⟩
      case measure => simp only [RowKit.intOf]; omega
    · have hdec : decide ((k : Int) < T.length) = false := by simp; omega
      have hdecn : decide (k < T.length) = false := by simp; omega
      have he : k = T.length := by omega
      subst he
      have hM := hbi.more
      obtain ⟨g, er, q, Kx, ⟨⟨nv, ov, av, kv, hr⟩, _, _⟩, hKx, hgr⟩ := hbi.over
      rw [bsteps_grow] at hgr
      obtain ⟨ni, nc, hnv⟩ := slice_len hr.nodes.row
      obtain ⟨oi, oc, hov⟩ := slice_len hr.opens
      subst hnv
      subst hov
      have e5 : wr.cell? ⟨w.heap.size, 5, none⟩ = some (.int .i64 er1) := (World.cell?_of_block (hM.keep _ hwlt)).trans E4.out
      have e6 : wr.cell? ⟨w.heap.size, 6, none⟩ = some (.int .i64 er2) := (World.cell?_of_block (hM.keep _ hwlt)).trans T4.out
      have HGR := hide hgr
      have HR := hide hr
      have HMM := hide hM
      clear hbi hgr hr hM hKx
      have hsz : (s.size : Int) ≤ 9223372036854775807 := by omega
      by_cases h0 : er = 0
      · subst h0
        have hg0 : (grow Gr.zero T).1 = 0 ∧ (grow Gr.zero T).2.2 = g := rgrow_ok HGR.out
        by_cases h1 : er1 = 0
        · subst h1
          by_cases hsn : g.stack = []
          · have hse := hsn
            by_cases hne0 : g.nodes = []
            · have hpar := HSAY.out.form hg0.1 rfl (Or.inr (by rw [hg0.2]; exact hne0))
              have hc1 : decide (0 < g.stack.length) = false := by rw [hse]; rfl
              have hc2 : (g.nodes.length == 0) = true := by rw [hne0]; rfl
              have hc3 : decide (g.nodes.length = 0) = true := by rw [hne0]; rfl
              clear hg0
              clear hse hsn hne0
              have y0 := HR.out.cell 0 rfl
              have y1 := HR.out.cell 1 rfl
              have y2 := HR.out.cell 2 rfl
              have y3 := HR.out.cell 3 rfl
              go_wp2_with fail
              refine (bfail_ok HR.out _ _).mono ?_
              rintro e w6 ⟨rfl, r6, f6⟩
              simp only [if_true] at r6
              have R6 := hide r6
              have F6 := hide f6
              clear r6 f6
              have y0 := R6.out.cell 0 rfl
              have y1 := R6.out.cell 1 rfl
              have y2 := R6.out.cell 2 rfl
              have y3 := R6.out.cell 3 rfl
              go_wp2_with fail
              go_quiet (fail)
              go_wp2
              go_ret3
              rw [hpar]
              exact rends_bad B4.out HMM.out (Or.inr (frame_drew F6.out))
            · have hpar := HSAY.out.ok hg0.1 rfl (by rw [hg0.2]; exact hse) (by rw [hg0.2]; exact hne0)
              rw [hg0.2] at hpar
              have hc1 : decide (0 < g.stack.length) = false := by rw [hse]; rfl
              have hc2 : (g.nodes.length == 0) = false := by
                cases hg : g.nodes with
                | nil => exact absurd hg hne0
                | cons a l => rfl
              have hc3 : decide (g.nodes.length = 0) = false := by simpa using hne0
              clear hg0
              clear hse hsn hne0
              have y0 := HR.out.cell 0 rfl
              have y1 := HR.out.cell 1 rfl
              have y2 := HR.out.cell 2 rfl
              have y3 := HR.out.cell 3 rfl
              go_wp2_with fail
              go_ret3
              rw [hpar]
              exact ⟨_, rfl, ⟨_, _, _, _, HR.out.nodes⟩, rends_below B4.out HMM.out⟩
          · have hpar := HSAY.out.form hg0.1 rfl (Or.inl (by rw [hg0.2]; exact hsn))
            have hc1 : decide (0 < g.stack.length) = true := by
              cases hg : g.stack with
              | nil => exact absurd hg hsn
              | cons a l => simp
            clear hg0
            clear hsn
            have y0 := HR.out.cell 0 rfl
            have y1 := HR.out.cell 1 rfl
            have y2 := HR.out.cell 2 rfl
            have y3 := HR.out.cell 3 rfl
            go_wp2_with fail
            refine (bfail_ok HR.out _ _).mono ?_
            rintro e w6 ⟨rfl, r6, f6⟩
            simp only [if_true] at r6
            have R6 := hide r6
            have F6 := hide f6
            clear r6 f6
            have y0 := R6.out.cell 0 rfl
            have y1 := R6.out.cell 1 rfl
            have y2 := R6.out.cell 2 rfl
            have y3 := R6.out.cell 3 rfl
            go_wp2_with fail
            go_quiet (fail)
            go_wp2
            go_ret3
            rw [hpar]
            exact rends_bad B4.out HMM.out (Or.inr (frame_drew F6.out))
        · have hpar := HSAY.out.err hg0.1 h1
          have hn1 : (er1 != 0) = true := by simpa using h1
          have H1 := hide h1
          clear hg0 h1
          have y0 := HR.out.cell 0 rfl
          have y1 := HR.out.cell 1 rfl
          have y2 := HR.out.cell 2 rfl
          have y3 := HR.out.cell 3 rfl
          have hfl := bfail_ok (HR.out.keep (W := wr.drew) ((More1.refl wr).drewN 1)) er1 er2
          simp only [if_true] at hfl
          have HFL := hide hfl
          clear hfl
          have hwr4 : w4.heap.size ≤ wr.heap.size := HMM.out.size
          go_wp2_with fail
          go_region_held3 (fun W => W.cell? ⟨w.heap.size, 5, none⟩ = some (.int .i64 er1) ∧ W.cell? ⟨w.heap.size, 6, none⟩ = some (.int .i64 er2))
            (first | exact ⟨e5, e6⟩ | exact ⟨k5, k6⟩)
            (first | (go_at_call 29; refine HFL.out.mono ?_; rintro e w6 ⟨rfl, r6, f6⟩; have k5 : w6.cell? ⟨w.heap.size, 5, none⟩ = some (.int .i64 er1) := (World.cell?_of_block (f6.block w.heap.size (show w.heap.size < wr.heap.size by omega) (by omega))).trans e5; have k6 : w6.cell? ⟨w.heap.size, 6, none⟩ = some (.int .i64 er2) := (World.cell?_of_block (f6.block w.heap.size (show w.heap.size < wr.heap.size by omega) (by omega))).trans e6; have R6 := hide r6; have F6 : Hid (Frame (fun k => k = w4.heap.size) wr w6) := hide ⟨f6.os, f6.tape, f6.output, f6.size, f6.block⟩; clear r6 f6))
          all_goals
            clear e5 e6 k5 k6 y0 y1 y2 y3
            have y0 := R6.out.cell 0 rfl
            have y1 := R6.out.cell 1 rfl
            have y2 := R6.out.cell 2 rfl
            have y3 := R6.out.cell 3 rfl
            by_cases hsn : g.stack = []
            · have hse := hsn
              by_cases hne0 : g.nodes = []
              · have hc1 : decide (0 < g.stack.length) = false := by rw [hse]; rfl
                have hc2 : (g.nodes.length == 0) = true := by rw [hne0]; rfl
                have hc3 : decide (g.nodes.length = 0) = true := by rw [hne0]; rfl
                clear hse hsn hne0
                go_wp2_with fail
                refine (bfail_ok R6.out _ _).mono ?_
                rintro e w7 ⟨rfl, r7, f7⟩
                rw [if_neg H1.out, if_neg H1.out] at r7
                have R7 := hide r7
                have F7 := hide f7
                clear r7 f7
                have y0 := R7.out.cell 0 rfl
                have y1 := R7.out.cell 1 rfl
                have y2 := R7.out.cell 2 rfl
                have y3 := R7.out.cell 3 rfl
                go_wp2_with fail
                go_quiet (fail)
                go_wp2
                go_ret3
                rw [hpar]
                exact rends_bad B4.out HMM.out (Or.inr (frame_drew (F6.out.trans' F7.out)))
              · have hc1 : decide (0 < g.stack.length) = false := by rw [hse]; rfl
                have hc2 : (g.nodes.length == 0) = false := by
                  cases hg : g.nodes with
                  | nil => exact absurd hg hne0
                  | cons a l => rfl
                have hc3 : decide (g.nodes.length = 0) = false := by simpa using hne0
                clear hse hsn hne0
                go_wp2_with fail
                go_quiet (fail)
                go_wp2
                go_ret3
                rw [hpar]
                exact rends_bad B4.out HMM.out (Or.inr (frame_drew F6.out))
            · have hc1 : decide (0 < g.stack.length) = true := by
                cases hg : g.stack with
                | nil => exact absurd hg hsn
                | cons a l => simp
              clear hsn
              go_wp2_with fail
              refine (bfail_ok R6.out _ _).mono ?_
              rintro e w7 ⟨rfl, r7, f7⟩
              rw [if_neg H1.out, if_neg H1.out] at r7
              have R7 := hide r7
              have F7 := hide f7
              clear r7 f7
              have y0 := R7.out.cell 0 rfl
              have y1 := R7.out.cell 1 rfl
              have y2 := R7.out.cell 2 rfl
              have y3 := R7.out.cell 3 rfl
              go_wp2_with fail
              go_quiet (fail)
              go_wp2
              go_ret3
              rw [hpar]
              exact rends_bad B4.out HMM.out (Or.inr (frame_drew (F6.out.trans' F7.out)))
      · have hb0 := rgrow_bad h0 HGR.out
        have hpar := HSAY.out.tok hb0.1
        rw [hb0.2.1, hb0.2.2] at hpar
        have hn0 : (er != 0) = true := by simpa using h0
        have H0 := hide h0
        clear hb0 h0
        by_cases h1 : er1 = 0
        · subst h1
          have y0 := HR.out.cell 0 rfl
          have y1 := HR.out.cell 1 rfl
          have y2 := HR.out.cell 2 rfl
          have y3 := HR.out.cell 3 rfl
          by_cases hsn : g.stack = []
          · have hse := hsn
            by_cases hne0 : g.nodes = []
            · have hc1 : decide (0 < g.stack.length) = false := by rw [hse]; rfl
              have hc2 : (g.nodes.length == 0) = true := by rw [hne0]; rfl
              have hc3 : decide (g.nodes.length = 0) = true := by rw [hne0]; rfl
              clear hse hsn hne0
              go_wp2_with fail
              refine (bfail_ok HR.out _ _).mono ?_
              rintro e w7 ⟨rfl, r7, f7⟩
              rw [if_neg H0.out, if_neg H0.out] at r7
              have R7 := hide r7
              have F7 := hide f7
              clear r7 f7
              have y0 := R7.out.cell 0 rfl
              have y1 := R7.out.cell 1 rfl
              have y2 := R7.out.cell 2 rfl
              have y3 := R7.out.cell 3 rfl
              go_wp2_with fail
              go_quiet (fail)
              go_wp2
              go_ret3
              rw [hpar]
              exact rends_bad B4.out HMM.out (Or.inr (frame_drew F7.out))
            · have hc1 : decide (0 < g.stack.length) = false := by rw [hse]; rfl
              have hc2 : (g.nodes.length == 0) = false := by
                cases hg : g.nodes with
                | nil => exact absurd hg hne0
                | cons a l => rfl
              have hc3 : decide (g.nodes.length = 0) = false := by simpa using hne0
              clear hse hsn hne0
              go_wp2_with fail
              go_quiet (fail)
              go_wp2
              go_ret3
              rw [hpar]
              exact rends_bad B4.out HMM.out (Or.inl ((More1.refl wr).drewN _))
          · have hc1 : decide (0 < g.stack.length) = true := by
              cases hg : g.stack with
              | nil => exact absurd hg hsn
              | cons a l => simp
            clear hsn
            go_wp2_with fail
            refine (bfail_ok HR.out _ _).mono ?_
            rintro e w7 ⟨rfl, r7, f7⟩
            rw [if_neg H0.out, if_neg H0.out] at r7
            have R7 := hide r7
            have F7 := hide f7
            clear r7 f7
            have y0 := R7.out.cell 0 rfl
            have y1 := R7.out.cell 1 rfl
            have y2 := R7.out.cell 2 rfl
            have y3 := R7.out.cell 3 rfl
            go_wp2_with fail
            go_quiet (fail)
            go_wp2
            go_ret3
            rw [hpar]
            exact rends_bad B4.out HMM.out (Or.inr (frame_drew F7.out))
        · have hn1 : (er1 != 0) = true := by simpa using h1
          clear h1
          have y0 := HR.out.cell 0 rfl
          have y1 := HR.out.cell 1 rfl
          have y2 := HR.out.cell 2 rfl
          have y3 := HR.out.cell 3 rfl
          have hfl := bfail_ok (HR.out.keep (W := wr.drew) ((More1.refl wr).drewN 1)) er1 er2
          rw [if_neg H0.out, if_neg H0.out] at hfl
          have HFL := hide hfl
          clear hfl
          have hwr4 : w4.heap.size ≤ wr.heap.size := HMM.out.size
          go_wp2_with fail
          go_region_held3 (fun W => W.cell? ⟨w.heap.size, 5, none⟩ = some (.int .i64 er1) ∧ W.cell? ⟨w.heap.size, 6, none⟩ = some (.int .i64 er2))
            (first | exact ⟨e5, e6⟩ | exact ⟨k5, k6⟩)
            (first | (go_at_call 29; refine HFL.out.mono ?_; rintro e w6 ⟨rfl, r6, f6⟩; have k5 : w6.cell? ⟨w.heap.size, 5, none⟩ = some (.int .i64 er1) := (World.cell?_of_block (f6.block w.heap.size (show w.heap.size < wr.heap.size by omega) (by omega))).trans e5; have k6 : w6.cell? ⟨w.heap.size, 6, none⟩ = some (.int .i64 er2) := (World.cell?_of_block (f6.block w.heap.size (show w.heap.size < wr.heap.size by omega) (by omega))).trans e6; have R6 := hide r6; have F6 : Hid (Frame (fun k => k = w4.heap.size) wr w6) := hide ⟨f6.os, f6.tape, f6.output, f6.size, f6.block⟩; clear r6 f6))
          all_goals
            clear e5 e6 k5 k6 y0 y1 y2 y3
            have y0 := R6.out.cell 0 rfl
            have y1 := R6.out.cell 1 rfl
            have y2 := R6.out.cell 2 rfl
            have y3 := R6.out.cell 3 rfl
            by_cases hsn : g.stack = []
            · have hse := hsn
              by_cases hne0 : g.nodes = []
              · have hc1 : decide (0 < g.stack.length) = false := by rw [hse]; rfl
                have hc2 : (g.nodes.length == 0) = true := by rw [hne0]; rfl
                have hc3 : decide (g.nodes.length = 0) = true := by rw [hne0]; rfl
                clear hse hsn hne0
                go_wp2_with fail
                refine (bfail_ok R6.out _ _).mono ?_
                rintro e w7 ⟨rfl, r7, f7⟩
                rw [if_neg H0.out, if_neg H0.out] at r7
                have R7 := hide r7
                have F7 := hide f7
                clear r7 f7
                have y0 := R7.out.cell 0 rfl
                have y1 := R7.out.cell 1 rfl
                have y2 := R7.out.cell 2 rfl
                have y3 := R7.out.cell 3 rfl
                go_wp2_with fail
                go_quiet (fail)
                go_wp2
                go_ret3
                rw [hpar]
                exact rends_bad B4.out HMM.out (Or.inr (frame_drew (F6.out.trans' F7.out)))
              · have hc1 : decide (0 < g.stack.length) = false := by rw [hse]; rfl
                have hc2 : (g.nodes.length == 0) = false := by
                  cases hg : g.nodes with
                  | nil => exact absurd hg hne0
                  | cons a l => rfl
                have hc3 : decide (g.nodes.length = 0) = false := by simpa using hne0
                clear hse hsn hne0
                go_wp2_with fail
                go_quiet (fail)
                go_wp2
                go_ret3
                rw [hpar]
                exact rends_bad B4.out HMM.out (Or.inr (frame_drew F6.out))
            · have hc1 : decide (0 < g.stack.length) = true := by
                cases hg : g.stack with
                | nil => exact absurd hg hsn
                | cons a l => simp
              clear hsn
              go_wp2_with fail
              refine (bfail_ok R6.out _ _).mono ?_
              rintro e w7 ⟨rfl, r7, f7⟩
              rw [if_neg H0.out, if_neg H0.out] at r7
              have R7 := hide r7
              have F7 := hide f7
              clear r7 f7
              have y0 := R7.out.cell 0 rfl
              have y1 := R7.out.cell 1 rfl
              have y2 := R7.out.cell 2 rfl
              have y3 := R7.out.cell 3 rfl
              go_wp2_with fail
              go_quiet (fail)
              go_wp2
              go_ret3
              rw [hpar]
              exact rends_bad B4.out HMM.out (Or.inr (frame_drew (F6.out.trans' F7.out)))
end Go.Proofs.YtfolnkmbdmfigaaGreatDoor

namespace Go.Proofs.YtfolnkmbdmfigaaGreatDoor
open Go.RowKit Go.Lib
theorem parse_ok {a : Addr} (b : ByteArray) (w : World) (gl : Gl w a) (hb : b.size ≤ 268435456) : Calls Tryz.prog 9 #[.string b] w (ParseEnd w (parseN b)) :=
  parse_walk b w gl (by omega) (by have := readS_len b; omega) (fun t h => by have := readS_text b t h; omega)
end Go.Proofs.YtfolnkmbdmfigaaGreatDoor

set_option linter.unusedSimpArgs false
set_option linter.unusedVariables false
namespace Go.Proofs.YtfolnkmbdmfigaaGreatDoor
open Go.RowKit Go.Maps Go.Lib
variable {A K B : Nat → Prop} {w w' w1 wr : World} {v va vb : Value} {av kv : Nat → Value} {l : List Nat}
theorem kid_cell {n : Nat} (h : w.ownsRow 0 3 1 v l.length (kidCells l)) (i : Nat) (hi : i < l.length) : ∃ g c, v = .slice (some ⟨g, 0, none⟩) l.length c ∧ w.cell? ⟨g, i, none⟩ = some (.int .i64 (l[i] : Int)) ∧ l.length ≤ maxLen := by
  rcases h.2 with ⟨_, e⟩ | ⟨g, c, cur, e, _, hg, h1, h2, h3, h4⟩
  · omega
  · refine ⟨g, c, e, cell_of hg ?_, Nat.le_trans h1 h2⟩
    have h5 : (kidCells l)[i]? = some (.int .i64 (l[i] : Int)) := by
      unfold kidCells; rw [List.getElem?_map, List.getElem?_eq_getElem hi]; rfl
    rw [← h4, List.getElem?_take] at h5
    split at h5
    · simpa using h5
    · cases h5
end Go.Proofs.YtfolnkmbdmfigaaGreatDoor
