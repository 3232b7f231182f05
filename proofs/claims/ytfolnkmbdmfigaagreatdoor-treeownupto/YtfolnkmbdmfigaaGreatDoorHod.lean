import Derived.Test.YtfolnkmbdmfigaaGreatDoorHoc
import Derived.Test.YtfolnkmbdmfigaaGreatDoorHob
set_option linter.unusedVariables false
set_option linter.unusedSimpArgs false
set_option linter.unusedSimpArgs false
set_option linter.unusedVariables false
namespace Go.Proofs.YtfolnkmbdmfigaaGreatDoor
open Go.RowKit Go.Maps Go.Lib
variable {A K K' : Nat → Prop} {w w' w1 w2 W1 : World} {nv ov v' a : Value} {av kv : Nat → Value} {g : Gr} {Y : Nat} {er q : Int} {n : Nd}
structure BR (A K : Nat → Prop) (Y : Nat) (w : World) (g : Gr) (er q : Int) : Prop where
  ex : ∃ nv ov av kv, BRep A K Y w g er q nv ov av kv
  kids : KidsLe g
  wf : g.Wf
theorem BR.keep {W : World} (h : BR A K Y w g er q) (hM : More1 w W) : BR A K Y W g er q := by
  obtain ⟨⟨nv, ov, av, kv, h1⟩, h3, h4⟩ := h
  exact ⟨⟨nv, ov, av, kv, h1.keep hM⟩, h3, h4⟩
def bstep (g : Gr) (er q : Int) (t : Tok) : Gr × Int × Int := if er ≠ 0 then (g, er, q) else if (g.take t).1 ≠ 0 then (g, (g.take t).1, t.at_) else ((g.take t).2, 0, q)
def BTook (A K : Nat → Prop) (Y : Nat) (w : World) (x : Gr × Int × Int) (e : Ending) (w' : World) : Prop := e = .returned (.tuple #[]) ∧ BR A (Grow K w w') Y w' x.1 x.2.1 x.2.2 ∧ Frame (fun k => k = Y ∨ K k) w w'
set_option maxHeartbeats 4000000 in
set_option maxRecDepth 100000 in
theorem btake_err (h : BRep A K Y w g er q nv ov av kv) (he : er ≠ 0) (t : Tok) (ai : Option Addr) (an ac : Nat) :
    Calls Tryz.prog 28 #[.pointer (some ⟨Y, 0, none⟩), .agg #[.int .i64 t.kind, .string ⟨t.name.toArray⟩, .slice ai an ac, .string ⟨t.text.toArray⟩, .int .i64 t.at_]] w fun e w' => e = .returned (.tuple #[]) ∧ More1 w w' := by
  have c2 : ∀ o : Obj, (w.alloc o).cell? ⟨Y, 2, none⟩ = some (.int .i64 er) := fun o => cell_alloc o (h.cell 2 rfl)
  have e0 : (er != 0) = true := by simpa using he
  clear h he
  go_enter Tryz.func28, Tryz.ntmps28
  go_wp2
  (try simp only [Exit.inBlock, Exit.then])
  first
  | (refine bodyPost_end (results_none rfl _ _ _) rfl ?_)
  | (refine bodyPost_ret (results_none rfl _ _ _) rfl ?_)
  exact ⟨rfl, (More1.refl w).alloc _⟩
theorem frame_more {F : Nat → Prop} (hM : More1 w w1) (fr : Frame F w1 w2) : Frame F w w2 := hM.frame.trans' fr
set_option maxHeartbeats 4000000 in
set_option maxRecDepth 100000 in
theorem btake_root (h : BRep A K Y w g 0 q nv ov av kv) (t : Tok) (hs : g.stack = []) (hn : g.nodes ≠ []) (ai : Option Addr) (an ac : Nat) : Calls Tryz.prog 28 #[.pointer (some ⟨Y, 0, none⟩), .agg #[.int .i64 1, .string ⟨t.name.toArray⟩, .slice ai an ac, .string ⟨t.text.toArray⟩, .int .i64 t.at_]] w fun e w' => e = .returned (.tuple #[]) ∧ BRep A K Y w' g 7 t.at_ nv ov av kv ∧ Frame (fun k => k = Y) w w' := by
  obtain ⟨ni, nc, hnv⟩ := slice_len h.nodes.row
  obtain ⟨oi, oc, hov⟩ := slice_len h.opens
  subst hnv
  subst hov
  have htop : topOf g.stack = -1 := by rw [hs]; rfl
  have hl : decide (0 < g.nodes.length) = true := by
    cases hg : g.nodes with
    | nil => exact absurd hg hn
    | cons a l => simp
  clear hs hn
  have hup : ∀ o : Obj, Calls Tryz.prog 44 #[.pointer (some ⟨Y, 0, none⟩)] (w.alloc o) fun en w' => en = .returned (.int .i64 (-1)) ∧ More1 (w.alloc o) w' := fun o => by
    have := bup_ok (h.keep ((More1.refl w).alloc o))
    rw [htop] at this
    exact this
  have c2 : ∀ o : Obj, (w.alloc o).cell? ⟨Y, 2, none⟩ = some (.int .i64 0) := fun o => cell_alloc o (h.cell 2 rfl)
  have HUP := hide hup
  have H := hide h
  clear hup h htop
  go_enter Tryz.func28, Tryz.ntmps28
  go_wp2_with fail
  refine (HUP.out _).mono ?_
  rintro e w1 ⟨rfl, m1⟩
  have hM : More1 w w1 := ((More1.refl w).alloc _).trans m1
  have hbox : w1.heap[w.heap.size]? = some (.cells #[.int .i64 1, .string ⟨t.name.toArray⟩, .slice ai an ac, .string ⟨t.text.toArray⟩, .int .i64 t.at_] 72) := (m1.keep w.heap.size (by simp)).trans (Below_new w _)
  have r1 := H.out.keep hM
  have d0 : w1.cell? ⟨Y, 0, none⟩ = some (.slice ni g.nodes.length nc) := r1.cell 0 rfl
  have d1 : w1.cell? ⟨Y, 1, none⟩ = some (.slice oi g.stack.length oc) := r1.cell 1 rfl
  have b0 := cell_of (i := 0) hbox rfl
  have b1 := cell_of (i := 1) hbox rfl
  have b2 := cell_of (i := 2) hbox rfl
  have b3 := cell_of (i := 3) hbox rfl
  have b4 := cell_of (i := 4) hbox rfl
  have HM := hide hM
  have HBOX := hide hbox
  have R1 := hide r1
  clear r1 hM hbox m1
  have hfail := fun e p => bfail_ok R1.out e p
  have HF := hide hfail
  clear hfail
  go_wp2_with (first | (go_at_call 29; refine (HF.out _ _).mono ?_; rintro e w2 ⟨rfl, r2, f2⟩; have R2 := hide r2; have F2 := hide f2; clear r2 f2))
  (try simp only [Exit.inBlock, Exit.then])
  first
  | (refine bodyPost_end (results_none rfl _ _ _) rfl ?_)
  | (refine bodyPost_ret (results_none rfl _ _ _) rfl ?_)
  exact ⟨rfl, R2.out, frame_more (by first | exact HM.out | exact HM.out.drewN _) F2.out⟩
set_option maxHeartbeats 4000000 in
set_option maxRecDepth 100000 in
theorem btake_deep (h : BRep A K Y w g 0 q nv ov av kv) (t : Tok) (k : Nat) (st : List Nat) (hs : g.stack = k :: st) (hd : 30 ≤ g.stack.length) (ai : Option Addr) (an ac : Nat) : Calls Tryz.prog 28 #[.pointer (some ⟨Y, 0, none⟩), .agg #[.int .i64 1, .string ⟨t.name.toArray⟩, .slice ai an ac, .string ⟨t.text.toArray⟩, .int .i64 t.at_]] w fun e w' => e = .returned (.tuple #[]) ∧ BRep A K Y w' g 8 t.at_ nv ov av kv ∧ Frame (fun k => k = Y) w w' := by
  obtain ⟨ni, nc, hnv⟩ := slice_len h.nodes.row
  obtain ⟨oi, oc, hov⟩ := slice_len h.opens
  subst hnv
  subst hov
  have htop : topOf g.stack = (k : Int) := by rw [hs]; rfl
  have hd1 : decide (30 ≤ g.stack.length) = true := by simp; omega
  have hd2 : ¬ ((g.stack.length : Int) < 30) := by omega
  have hd3 : (30 : Int) ≤ (g.stack.length : Int) := by omega
  have hk0 : ¬ ((k : Int) < 0) := by omega
  clear hs hd
  have hup : ∀ o : Obj, Calls Tryz.prog 44 #[.pointer (some ⟨Y, 0, none⟩)] (w.alloc o) fun en w' => en = .returned (.int .i64 ((k : Int))) ∧ More1 (w.alloc o) w' := fun o => by
    have := bup_ok (h.keep ((More1.refl w).alloc o))
    rw [htop] at this
    exact this
  have c2 : ∀ o : Obj, (w.alloc o).cell? ⟨Y, 2, none⟩ = some (.int .i64 0) := fun o => cell_alloc o (h.cell 2 rfl)
  have HUP := hide hup
  have H := hide h
  clear hup h htop
  go_enter Tryz.func28, Tryz.ntmps28
  go_wp2_with fail
  refine (HUP.out _).mono ?_
  rintro e w1 ⟨rfl, m1⟩
  have hM : More1 w w1 := ((More1.refl w).alloc _).trans m1
  have hbox : w1.heap[w.heap.size]? = some (.cells #[.int .i64 1, .string ⟨t.name.toArray⟩, .slice ai an ac, .string ⟨t.text.toArray⟩, .int .i64 t.at_] 72) := (m1.keep w.heap.size (by simp)).trans (Below_new w _)
  have r1 := H.out.keep hM
  have d0 : w1.cell? ⟨Y, 0, none⟩ = some (.slice ni g.nodes.length nc) := r1.cell 0 rfl
  have d1 : w1.cell? ⟨Y, 1, none⟩ = some (.slice oi g.stack.length oc) := r1.cell 1 rfl
  have b0 := cell_of (i := 0) hbox rfl
  have b1 := cell_of (i := 1) hbox rfl
  have b2 := cell_of (i := 2) hbox rfl
  have b3 := cell_of (i := 3) hbox rfl
  have b4 := cell_of (i := 4) hbox rfl
  have HM := hide hM
  have HBOX := hide hbox
  have R1 := hide r1
  clear r1 hM hbox m1
  have hfail := fun e p => bfail_ok R1.out e p
  have HF := hide hfail
  clear hfail
  go_wp2_with (first | (go_at_call 29; refine (HF.out _ _).mono ?_; rintro e w2 ⟨rfl, r2, f2⟩; have R2 := hide r2; have F2 := hide f2; clear r2 f2))
  (try simp only [Exit.inBlock, Exit.then])
  first
  | (refine bodyPost_end (results_none rfl _ _ _) rfl ?_)
  | (refine bodyPost_ret (results_none rfl _ _ _) rfl ?_)
  exact ⟨rfl, R2.out, frame_more (by first | exact HM.out | exact HM.out.drewN _) F2.out⟩
set_option maxHeartbeats 4000000 in
set_option maxRecDepth 100000 in
theorem btake_none (h : BRep A K Y w g 0 q nv ov av kv) (t : Tok) (hs : g.stack = []) (ai : Option Addr) (an ac : Nat) : Calls Tryz.prog 28 #[.pointer (some ⟨Y, 0, none⟩), .agg #[.int .i64 2, .string ⟨t.name.toArray⟩, .slice ai an ac, .string ⟨t.text.toArray⟩, .int .i64 t.at_]] w fun e w' => e = .returned (.tuple #[]) ∧ BRep A K Y w' g 6 t.at_ nv ov av kv ∧ Frame (fun k => k = Y) w w' := by
  obtain ⟨ni, nc, hnv⟩ := slice_len h.nodes.row
  obtain ⟨oi, oc, hov⟩ := slice_len h.opens
  subst hnv
  subst hov
  have htop : topOf g.stack = -1 := by rw [hs]; rfl
  clear hs
  have hup : ∀ o : Obj, Calls Tryz.prog 44 #[.pointer (some ⟨Y, 0, none⟩)] (w.alloc o) fun en w' => en = .returned (.int .i64 (-1)) ∧ More1 (w.alloc o) w' := fun o => by
    have := bup_ok (h.keep ((More1.refl w).alloc o))
    rw [htop] at this
    exact this
  have c2 : ∀ o : Obj, (w.alloc o).cell? ⟨Y, 2, none⟩ = some (.int .i64 0) := fun o => cell_alloc o (h.cell 2 rfl)
  have HUP := hide hup
  have H := hide h
  clear hup h htop
  go_enter Tryz.func28, Tryz.ntmps28
  go_wp2_with fail
  refine (HUP.out _).mono ?_
  rintro e w1 ⟨rfl, m1⟩
  have hM : More1 w w1 := ((More1.refl w).alloc _).trans m1
  have hbox : w1.heap[w.heap.size]? = some (.cells #[.int .i64 2, .string ⟨t.name.toArray⟩, .slice ai an ac, .string ⟨t.text.toArray⟩, .int .i64 t.at_] 72) := (m1.keep w.heap.size (by simp)).trans (Below_new w _)
  have r1 := H.out.keep hM
  have d0 : w1.cell? ⟨Y, 0, none⟩ = some (.slice ni g.nodes.length nc) := r1.cell 0 rfl
  have d1 : w1.cell? ⟨Y, 1, none⟩ = some (.slice oi g.stack.length oc) := r1.cell 1 rfl
  have b0 := cell_of (i := 0) hbox rfl
  have b1 := cell_of (i := 1) hbox rfl
  have b2 := cell_of (i := 2) hbox rfl
  have b3 := cell_of (i := 3) hbox rfl
  have b4 := cell_of (i := 4) hbox rfl
  have HM := hide hM
  have HBOX := hide hbox
  have R1 := hide r1
  clear r1 hM hbox m1
  have hfail := fun nq e p => bfail_ok (R1.out.keep ((More1.refl w1).drewN nq)) e p
  have HF := hide hfail
  clear hfail
  go_wp2_with fail
  go_quiet (fail)
  go_wp2_with (first | (go_at_call 29; refine (HF.out _ _ _).mono ?_; rintro e w2 ⟨rfl, r2, f2⟩; have R2 := hide r2; have F2 := hide f2; clear r2 f2))
  (try simp only [Exit.inBlock, Exit.then])
  first
  | (refine bodyPost_end (results_none rfl _ _ _) rfl ?_)
  | (refine bodyPost_ret (results_none rfl _ _ _) rfl ?_)
  exact ⟨rfl, R2.out, frame_more (HM.out.drewN _) F2.out⟩
set_option maxHeartbeats 4000000 in
set_option maxRecDepth 100000 in
theorem btake_other (h : BRep A K Y w g 0 q nv ov av kv) (t : Tok) (k : Nat) (st : List Nat) (m : Nd) (hs : g.stack = k :: st) (hm : g.nodes[k]? = some m) (hne : m.name ≠ t.name) (ai : Option Addr) (an ac : Nat) : Calls Tryz.prog 28 #[.pointer (some ⟨Y, 0, none⟩), .agg #[.int .i64 2, .string ⟨t.name.toArray⟩, .slice ai an ac, .string ⟨t.text.toArray⟩, .int .i64 t.at_]] w fun e w' => e = .returned (.tuple #[]) ∧ BRep A K Y w' g 6 t.at_ nv ov av kv ∧ Frame (fun k => k = Y) w w' := by
  obtain ⟨gN, nc, hnv, hmx, hgK, m0, _⟩ := h.nodes.cells k m hm
  obtain ⟨oi, oc, hov⟩ := slice_len h.opens
  subst hnv
  subst hov
  have htop : topOf g.stack = (k : Int) := by rw [hs]; rfl
  have hkl : k < g.nodes.length := (List.getElem?_eq_some_iff.1 hm).1
  have hki : (k : Int) < g.nodes.length := by omega
  have hk0 : ¬ ((k : Int) < 0) := by omega
  have hnm : (m.name == t.name) = false := by simpa using hne
  have hgl : gN < w.heap.size := World.block_lt_of_cell? w _ m0
  have M0 := hide m0
  clear hs hm hne m0
  have hup : ∀ o : Obj, Calls Tryz.prog 44 #[.pointer (some ⟨Y, 0, none⟩)] (w.alloc o) fun en w' => en = .returned (.int .i64 ((k : Int))) ∧ More1 (w.alloc o) w' := fun o => by
    have := bup_ok (h.keep ((More1.refl w).alloc o))
    rw [htop] at this
    exact this
  have c2 : ∀ o : Obj, (w.alloc o).cell? ⟨Y, 2, none⟩ = some (.int .i64 0) := fun o => cell_alloc o (h.cell 2 rfl)
  have HUP := hide hup
  have H := hide h
  clear hup h htop
  go_enter Tryz.func28, Tryz.ntmps28
  go_wp2_with fail
  refine (HUP.out _).mono ?_
  rintro e w1 ⟨rfl, m1⟩
  have hM : More1 w w1 := ((More1.refl w).alloc _).trans m1
  have hbox : w1.heap[w.heap.size]? = some (.cells #[.int .i64 2, .string ⟨t.name.toArray⟩, .slice ai an ac, .string ⟨t.text.toArray⟩, .int .i64 t.at_] 72) := (m1.keep w.heap.size (by simp)).trans (Below_new w _)
  have r1 := H.out.keep hM
  have d0 : w1.cell? ⟨Y, 0, none⟩ = some (.slice (some ⟨gN, 0, none⟩) g.nodes.length nc) := r1.cell 0 rfl
  have d1 : w1.cell? ⟨Y, 1, none⟩ = some (.slice oi g.stack.length oc) := r1.cell 1 rfl
  have b0 := cell_of (i := 0) hbox rfl
  have b1 := cell_of (i := 1) hbox rfl
  have b2 := cell_of (i := 2) hbox rfl
  have b3 := cell_of (i := 3) hbox rfl
  have b4 := cell_of (i := 4) hbox rfl
  have HM := hide hM
  have HBOX := hide hbox
  have R1 := hide r1
  clear r1 hM hbox m1
  have e0 : w1.cell? ⟨gN, k * 5, none⟩ = some (.string ⟨m.name.toArray⟩) := (World.cell?_of_block (HM.out.keep gN hgl)).trans M0.out
  have hfail := fun nq e p => bfail_ok (R1.out.keep ((More1.refl w1).drewN nq)) e p
  have HF := hide hfail
  clear hfail
  go_wp2_with fail
  go_quiet (fail)
  go_wp2_with (first | (go_at_call 29; refine (HF.out _ _ _).mono ?_; rintro e w2 ⟨rfl, r2, f2⟩; have R2 := hide r2; have F2 := hide f2; clear r2 f2))
  (try simp only [Exit.inBlock, Exit.then])
  first
  | (refine bodyPost_end (results_none rfl _ _ _) rfl ?_)
  | (refine bodyPost_ret (results_none rfl _ _ _) rfl ?_)
  exact ⟨rfl, R2.out, frame_more (HM.out.drewN _) F2.out⟩
set_option maxHeartbeats 4000000 in
set_option maxRecDepth 100000 in
theorem btake_out_blank (h : BRep A K Y w g 0 q nv ov av kv) (t : Tok) (hk1 : t.kind ≠ 1) (hk2 : t.kind ≠ 2) (hs : g.stack = []) (hbl : blanksOnly t.text = true) (hz : t.text.length ≤ 9223372036854775807) (ai : Option Addr) (an ac : Nat) : Calls Tryz.prog 28 #[.pointer (some ⟨Y, 0, none⟩), .agg #[.int .i64 t.kind, .string ⟨t.name.toArray⟩, .slice ai an ac, .string ⟨t.text.toArray⟩, .int .i64 t.at_]] w fun e w' => e = .returned (.tuple #[]) ∧ More1 w w' := by
  obtain ⟨ni, nc, hnv⟩ := slice_len h.nodes.row
  obtain ⟨oi, oc, hov⟩ := slice_len h.opens
  subst hnv
  subst hov
  have htop : topOf g.stack = -1 := by rw [hs]; rfl
  have hbv : ∀ W, Calls Tryz.prog 46 #[.string ⟨t.text.toArray⟩] W fun en w' => en = .returned (.bool true) ∧ w' = W := fun W => by
    have h1 := bblank_ok ⟨t.text.toArray⟩ W (by simpa [ByteArray.size] using hz)
    have h2 : ((⟨t.text.toArray⟩ : ByteArray).data.toList.all fun c => isBlank c.toNat) = true := by
      have h3 : (⟨t.text.toArray⟩ : ByteArray).data.toList = t.text := by simp
      rw [h3]; unfold blanksOnly at hbl; simpa using hbl
    rw [h2] at h1
    exact h1
  have HBV := hide hbv
  have e1 : (t.kind == 1) = false := by simpa using hk1
  have e2 : (t.kind == 2) = false := by simpa using hk2
  clear hs hbl hbv hk1 hk2 hz
  have hup : ∀ o : Obj, Calls Tryz.prog 44 #[.pointer (some ⟨Y, 0, none⟩)] (w.alloc o) fun en w' => en = .returned (.int .i64 (-1)) ∧ More1 (w.alloc o) w' := fun o => by
    have := bup_ok (h.keep ((More1.refl w).alloc o))
    rw [htop] at this
    exact this
  have c2 : ∀ o : Obj, (w.alloc o).cell? ⟨Y, 2, none⟩ = some (.int .i64 0) := fun o => cell_alloc o (h.cell 2 rfl)
  have HUP := hide hup
  have H := hide h
  clear hup h htop
  go_enter Tryz.func28, Tryz.ntmps28
  go_wp2_with fail
  refine (HUP.out _).mono ?_
  rintro e w1 ⟨rfl, m1⟩
  have hM : More1 w w1 := ((More1.refl w).alloc _).trans m1
  have hbox : w1.heap[w.heap.size]? = some (.cells #[.int .i64 t.kind, .string ⟨t.name.toArray⟩, .slice ai an ac, .string ⟨t.text.toArray⟩, .int .i64 t.at_] 72) := (m1.keep w.heap.size (by simp)).trans (Below_new w _)
  have r1 := H.out.keep hM
  have d0 : w1.cell? ⟨Y, 0, none⟩ = some (.slice ni g.nodes.length nc) := r1.cell 0 rfl
  have d1 : w1.cell? ⟨Y, 1, none⟩ = some (.slice oi g.stack.length oc) := r1.cell 1 rfl
  have b0 := cell_of (i := 0) hbox rfl
  have b1 := cell_of (i := 1) hbox rfl
  have b2 := cell_of (i := 2) hbox rfl
  have b3 := cell_of (i := 3) hbox rfl
  have b4 := cell_of (i := 4) hbox rfl
  have HM := hide hM
  have HBOX := hide hbox
  have R1 := hide r1
  clear r1 hM hbox m1
  go_wp2_with (first | (go_at_call 46; refine (HBV.out _).mono ?_; rintro e wx ⟨rfl, hwx⟩; have hwy := hwx.symm; clear hwx; subst hwy))
  (try simp only [Exit.inBlock, Exit.then])
  first
  | (refine bodyPost_end (results_none rfl _ _ _) rfl ?_)
  | (refine bodyPost_ret (results_none rfl _ _ _) rfl ?_)
  exact ⟨rfl, HM.out⟩
set_option maxHeartbeats 4000000 in
set_option maxRecDepth 100000 in
theorem btake_out_bad (h : BRep A K Y w g 0 q nv ov av kv) (t : Tok) (hk1 : t.kind ≠ 1) (hk2 : t.kind ≠ 2) (hs : g.stack = []) (hbl : ¬ blanksOnly t.text = true) (hz : t.text.length ≤ 9223372036854775807) (ai : Option Addr) (an ac : Nat) : Calls Tryz.prog 28 #[.pointer (some ⟨Y, 0, none⟩), .agg #[.int .i64 t.kind, .string ⟨t.name.toArray⟩, .slice ai an ac, .string ⟨t.text.toArray⟩, .int .i64 t.at_]] w fun e w' => e = .returned (.tuple #[]) ∧ BRep A K Y w' g 7 t.at_ nv ov av kv ∧ Frame (fun k => k = Y) w w' := by
  obtain ⟨ni, nc, hnv⟩ := slice_len h.nodes.row
  obtain ⟨oi, oc, hov⟩ := slice_len h.opens
  subst hnv
  subst hov
  have htop : topOf g.stack = -1 := by rw [hs]; rfl
  have hbv : ∀ W, Calls Tryz.prog 46 #[.string ⟨t.text.toArray⟩] W fun en w' => en = .returned (.bool false) ∧ w' = W := fun W => by
    have h1 := bblank_ok ⟨t.text.toArray⟩ W (by simpa [ByteArray.size] using hz)
    have h2 : ((⟨t.text.toArray⟩ : ByteArray).data.toList.all fun c => isBlank c.toNat) = false := by
      have h3 : (⟨t.text.toArray⟩ : ByteArray).data.toList = t.text := by simp
      rw [h3]; unfold blanksOnly at hbl; simpa using hbl
    rw [h2] at h1
    exact h1
  have HBV := hide hbv
  have e1 : (t.kind == 1) = false := by simpa using hk1
  have e2 : (t.kind == 2) = false := by simpa using hk2
  clear hs hbl hbv hk1 hk2 hz
  have hup : ∀ o : Obj, Calls Tryz.prog 44 #[.pointer (some ⟨Y, 0, none⟩)] (w.alloc o) fun en w' => en = .returned (.int .i64 (-1)) ∧ More1 (w.alloc o) w' := fun o => by
    have := bup_ok (h.keep ((More1.refl w).alloc o))
    rw [htop] at this
    exact this
  have c2 : ∀ o : Obj, (w.alloc o).cell? ⟨Y, 2, none⟩ = some (.int .i64 0) := fun o => cell_alloc o (h.cell 2 rfl)
  have HUP := hide hup
  have H := hide h
  clear hup h htop
  go_enter Tryz.func28, Tryz.ntmps28
  go_wp2_with fail
  refine (HUP.out _).mono ?_
  rintro e w1 ⟨rfl, m1⟩
  have hM : More1 w w1 := ((More1.refl w).alloc _).trans m1
  have hbox : w1.heap[w.heap.size]? = some (.cells #[.int .i64 t.kind, .string ⟨t.name.toArray⟩, .slice ai an ac, .string ⟨t.text.toArray⟩, .int .i64 t.at_] 72) := (m1.keep w.heap.size (by simp)).trans (Below_new w _)
  have r1 := H.out.keep hM
  have d0 : w1.cell? ⟨Y, 0, none⟩ = some (.slice ni g.nodes.length nc) := r1.cell 0 rfl
  have d1 : w1.cell? ⟨Y, 1, none⟩ = some (.slice oi g.stack.length oc) := r1.cell 1 rfl
  have b0 := cell_of (i := 0) hbox rfl
  have b1 := cell_of (i := 1) hbox rfl
  have b2 := cell_of (i := 2) hbox rfl
  have b3 := cell_of (i := 3) hbox rfl
  have b4 := cell_of (i := 4) hbox rfl
  have HM := hide hM
  have HBOX := hide hbox
  have R1 := hide r1
  clear r1 hM hbox m1
  have hfail := fun e p => bfail_ok R1.out e p
  have HF := hide hfail
  clear hfail
  go_wp2_with (first | (go_at_call 29; refine (HF.out _ _).mono ?_; rintro e w2 ⟨rfl, r2, f2⟩; have R2 := hide r2; have F2 := hide f2; clear r2 f2) | (go_at_call 46; refine (HBV.out _).mono ?_; rintro e wx ⟨rfl, hwx⟩; have hwy := hwx.symm; clear hwx; subst hwy))
  (try simp only [Exit.inBlock, Exit.then])
  first
  | (refine bodyPost_end (results_none rfl _ _ _) rfl ?_)
  | (refine bodyPost_ret (results_none rfl _ _ _) rfl ?_)
  exact ⟨rfl, R2.out, frame_more (by first | exact HM.out | exact HM.out.drewN _) F2.out⟩
end Go.Proofs.YtfolnkmbdmfigaaGreatDoor

set_option linter.unusedSimpArgs false
set_option linter.unusedVariables false
namespace Go.Proofs.YtfolnkmbdmfigaaGreatDoor
open Go.RowKit Go.Maps Go.Lib
variable {A K K' : Nat → Prop} {w w' w1 w2 W1 : World} {nv ov v' a : Value} {av kv : Nat → Value} {g : Gr} {Y : Nat} {er q : Int} {n : Nd}
theorem BRep.lift {g' : Gr} {nv' ov' : Value} {av' kv' : Nat → Value} {er' q' : Int} (h : BRep A K Y w g er q nv ov av kv) (hM : More1 w w1) (r : BRep A (Grow K w1 w2) Y w2 g' er' q' nv' ov' av' kv') (fr : Frame (fun k => k = Y ∨ K k) w1 w2) :
    BRep A (Grow K w w2) Y w2 g' er' q' nv' ov' av' kv' ∧ Frame (fun k => k = Y ∨ K k) w w2 := by
  have hz := hM.size
  have hz2 := fr.size
  have hYlt := blk_lt h.blk
  refine ⟨r.widen (fun k hk x => ?_) ?_ ?_ (grow_lt h.lt (by omega)), hM.frame.trans' fr⟩
  · rcases x with x | x
    · exact Or.inl x
    · exact Or.inr ⟨by omega, hk⟩
  · rintro (x | x)
    · exact h.nK x
    · omega
  · rintro k hA (x | x)
    · exact h.dis k hA x
    · have := h.ltA k hA; omega
set_option maxHeartbeats 4000000 in
set_option maxRecDepth 100000 in
theorem btake_in (h : BRep A K Y w g 0 q nv ov av kv) (wf : g.Wf) (hkd : KidsLe g) (hb : g.nodes.length ≤ 17179869184) (t : Tok) (hk1 : t.kind ≠ 1) (hk2 : t.kind ≠ 2) (k : Nat) (st : List Nat) (hs : g.stack = k :: st) (hz : t.text.length ≤ 9223372036854775807) (ai : Option Addr) (an ac : Nat) :
    Calls Tryz.prog 28 #[.pointer (some ⟨Y, 0, none⟩), .agg #[.int .i64 t.kind, .string ⟨t.name.toArray⟩, .slice ai an ac, .string ⟨t.text.toArray⟩, .int .i64 t.at_]] w fun e w' => e = .returned (.tuple #[]) ∧ ∃ nv' av' kv', BRep A (Grow K w w') Y w' (g.put (textOf t)) 0 q nv' ov av' kv' ∧ Frame (fun k => k = Y ∨ K k) w w' := by
  have htop : topOf g.stack = (k : Int) := by rw [hs]; rfl
  have hup : ∀ o : Obj, Calls Tryz.prog 44 #[.pointer (some ⟨Y, 0, none⟩)] (w.alloc o) fun en w' => en = .returned (.int .i64 (k : Int)) ∧ More1 (w.alloc o) w' := fun o => by
    have := bup_ok (h.keep ((More1.refl w).alloc o))
    rw [htop] at this
    exact this
  have hbv : ∀ W, ∃ bb, Calls Tryz.prog 46 #[.string ⟨t.text.toArray⟩] W fun en w' => en = .returned (.bool bb) ∧ w' = W := fun W => ⟨_, bblank_ok ⟨t.text.toArray⟩ W (by simpa [ByteArray.size] using hz)⟩
  have c2 : ∀ o : Obj, (w.alloc o).cell? ⟨Y, 2, none⟩ = some (.int .i64 0) := fun o => cell_alloc o (h.cell 2 rfl)
  have e1 : (t.kind == 1) = false := by simpa using hk1
  have e2 : (t.kind == 2) = false := by simpa using hk2
  have hk0 : ¬ ((k : Int) < 0) := by omega
  have HUP := hide hup
  have HBV := hide hbv
  have HWF := hide wf
  have HKD := hide hkd
  have H := hide h
  clear hup h htop hbv hk1 hk2 hs wf hkd
  go_enter Tryz.func28, Tryz.ntmps28
  go_wp2_with fail
  refine (HUP.out _).mono ?_
  rintro e w1 ⟨rfl, m1⟩
  have hM : More1 w w1 := ((More1.refl w).alloc _).trans m1
  have hbox : w1.heap[w.heap.size]? = some (.cells #[.int .i64 t.kind, .string ⟨t.name.toArray⟩, .slice ai an ac, .string ⟨t.text.toArray⟩, .int .i64 t.at_] 72) := (m1.keep w.heap.size (by simp)).trans (Below_new w _)
  have b0 := cell_of (i := 0) hbox rfl
  have b3 := cell_of (i := 3) hbox rfl
  have hput := bput_ok (H.out.keep hM) HWF.out HKD.out (textOf t) (.slice none 0 0) 0 ⟨rfl, Or.inl ⟨rfl, rfl⟩⟩ (fun k e => by cases e) rfl hb
  obtain ⟨bb, hbl⟩ := HBV.out w1
  have HP := hide hput
  have HM := hide hM
  have HBL := hide hbl
  clear hM hbox m1 hput hbl
  cases bb
  all_goals
    go_wp2_with (first | (go_at_call 46; refine HBL.out.mono ?_; rintro e wx ⟨rfl, hwx⟩; have hwy := hwx.symm; clear hwx; subst hwy) | (go_at_call 45; refine HP.out.mono ?_; rintro e w2 ⟨rfl, nv', av', kv', r2, f2⟩; have R2 := hide r2; have F2 := hide f2; clear r2 f2))
    (try simp only [Exit.inBlock, Exit.then])
    first
    | (refine bodyPost_end (results_none rfl _ _ _) rfl ?_)
    | (refine bodyPost_ret (results_none rfl _ _ _) rfl ?_)
    obtain ⟨q1, q2⟩ := H.out.lift HM.out R2.out F2.out
    first | exact ⟨rfl, nv', av', kv', q1, q2⟩ | exact ⟨rfl, ⟨nv', av', kv', q1⟩, q2⟩
theorem owns_pop {gO n c : Nat} {xs : List Value} (h : w.ownsRow 0 3 1 (.slice (some ⟨gO, 0, none⟩) (n + 1) c) (n + 1) xs) : w.ownsRow 0 3 1 (.slice (some ⟨gO, 0, none⟩) n c) n (xs.take n) := by
  rcases h.2 with ⟨e, _⟩ | ⟨g', c', cur, e, h0, hg, h1, h2, h3, h4⟩
  · cases e
  · cases e
    refine ⟨?_, Or.inr ⟨gO, c, cur, rfl, h0, hg, by omega, h2, h3, ?_⟩⟩
    · have := h.1; rw [List.length_take]; omega
    · rw [← h4, List.take_take]; congr 1; omega
theorem BRep.reopen (h : BRep A K Y w g er q nv ov av kv) (ov' : Value) (st : List Nat) (ho : w.ownsRow 0 3 1 ov' st.length (kidCells st.reverse)) (hK : ∀ k, ov'.ownBlock = some k → K k ∧ nv.ownBlock ≠ some k ∧ ∀ i, i < g.nodes.length → (kv i).ownBlock ≠ some k) :
    BRep A K Y (w.setCell ⟨Y, 1, none⟩ ov') ⟨g.nodes, st⟩ er q nv ov' av kv ∧ Frame (fun k => k = Y) w (w.setCell ⟨Y, 1, none⟩ ov') := by
  have keep : ∀ b, b ≠ Y → (w.setCell ⟨Y, 1, none⟩ ov').heap[b]? = w.heap[b]? := fun b hb => Below.heap_setCell _ _ _ _ hb
  have hz : (w.setCell ⟨Y, 1, none⟩ ov').heap.size = w.heap.size := by simp [World.setCell]
  refine ⟨⟨?_, h.nodes.frame (fun b _ hA => keep b (fun e => h.nA (by rw [← e]; exact hA))) (fun b _ hK => keep b (fun e => h.nK (by rw [← e]; exact hK))) (fun _ _ x => x), owns_of ho fun k e => keep k (fun x => h.nK (by rw [← x]; exact (hK k e).1)), hK, h.nA, h.nK, h.dis, fun b hb => by rw [hz]; exact h.lt b hb, fun b hb => by rw [hz]; exact h.ltA b hb⟩, ⟨rfl, rfl, rfl, by rw [hz]; exact Nat.le_refl _, fun b _ hb => keep b hb⟩⟩
  rw [set_of h.blk]
  rfl
theorem shut_nums (L M cO : Nat) (hM : L + 1 = M) (hc : L + 1 ≤ cO) (hm : (L : Int) + 1 ≤ 9223372036854775807) : IntKind.i64.wrap ((M : Int) - 1) = (L : Int) ∧ wrap64 (L : Int) = (L : Int) ∧ (L : Int) ≤ cO ∧ L ≤ cO := by
  refine ⟨by rw [IntKind.wrap_i64]; omega, by unfold wrap64; omega, by omega, by omega⟩
set_option maxHeartbeats 4000000 in
set_option maxRecDepth 10000 in
theorem btake_shut (h : BRep A K Y w g 0 q nv ov av kv) (t : Tok) (k : Nat) (st : List Nat) (m : Nd) (hs : g.stack = k :: st) (hm : g.nodes[k]? = some m) (hne : m.name = t.name) (ai : Option Addr) (an ac : Nat) :
    Calls Tryz.prog 28 #[.pointer (some ⟨Y, 0, none⟩), .agg #[.int .i64 2, .string ⟨t.name.toArray⟩, .slice ai an ac, .string ⟨t.text.toArray⟩, .int .i64 t.at_]] w fun e w' => e = .returned (.tuple #[]) ∧ ∃ ov', BRep A K Y w' ⟨g.nodes, st⟩ 0 q nv ov' av kv ∧ Frame (fun k => k = Y) w w' := by
  obtain ⟨gN, nc, hnv, hmx, hgK, m0, _⟩ := h.nodes.cells k m hm
  obtain ⟨gO, cO, hov, _, hmo⟩ := h.top hs
  have hop := h.opens
  rw [hs, hov] at hop
  have hop2 := owns_pop hop
  have hcap : st.length + 1 ≤ cO := by
    rcases hop.2 with ⟨e, _⟩ | ⟨g', c', cur, e, h0, hg, h1, h2, h3, h4⟩
    · cases e
    · cases e; exact h1
  subst hnv
  have htop : topOf g.stack = (k : Int) := by rw [hs]; rfl
  have hkl : k < g.nodes.length := (List.getElem?_eq_some_iff.1 hm).1
  have hki : (k : Int) < g.nodes.length := by omega
  have hk0 : ¬ ((k : Int) < 0) := by omega
  have hkd0 : decide ((k : Int) < 0) = false := by simp
  have hnm : (m.name == t.name) = true := by simpa using hne
  have hgl : gN < w.heap.size := World.block_lt_of_cell? w _ m0
  have hup : ∀ o : Obj, Calls Tryz.prog 44 #[.pointer (some ⟨Y, 0, none⟩)] (w.alloc o) fun en w' => en = .returned (.int .i64 (k : Int)) ∧ More1 (w.alloc o) w' := fun o => by
    have := bup_ok (h.keep ((More1.refl w).alloc o))
    rw [htop] at this
    exact this
  have c2 : ∀ o : Obj, (w.alloc o).cell? ⟨Y, 2, none⟩ = some (.int .i64 0) := fun o => cell_alloc o (h.cell 2 rfl)
  have hmi : (st.length : Int) + 1 ≤ 9223372036854775807 := by have : maxLen = 9223372036854775807 := rfl; omega
  have HUP := hide hup
  have H := hide h
  have M0 := hide m0
  have HOV := hide hov
  clear hup h htop m0 hne hm hov hop
  go_enter Tryz.func28, Tryz.ntmps28
  go_wp2_with fail
  refine (HUP.out _).mono ?_
  rintro e w1 ⟨rfl, m1⟩
  have hM : More1 w w1 := ((More1.refl w).alloc _).trans m1
  have hbox : w1.heap[w.heap.size]? = some (.cells #[.int .i64 2, .string ⟨t.name.toArray⟩, .slice ai an ac, .string ⟨t.text.toArray⟩, .int .i64 t.at_] 72) := (m1.keep w.heap.size (by simp)).trans (Below_new w _)
  have r1 := H.out.keep hM
  have d0 : w1.cell? ⟨Y, 0, none⟩ = some (.slice (some ⟨gN, 0, none⟩) g.nodes.length nc) := r1.cell 0 rfl
  have d1 : w1.cell? ⟨Y, 1, none⟩ = some (.slice (some ⟨gO, 0, none⟩) (st.length + 1) cO) := by rw [← HOV.out]; exact r1.cell 1 rfl
  have b0 := cell_of (i := 0) hbox rfl
  have b1 := cell_of (i := 1) hbox rfl
  have e0 : w1.cell? ⟨gN, k * 5, none⟩ = some (.string ⟨m.name.toArray⟩) := (World.cell?_of_block (hM.keep gN hgl)).trans M0.out
  have f1 := free_of (i := 1) r1.blk
  generalize hMM : st.length + 1 = M at d1
  obtain ⟨hw, hw64, hLc, hLn⟩ := shut_nums st.length M cO hMM hcap hmi
  have HMM := hide hMM
  have HOP := hide hop2
  have HCAP := hide hcap
  have HM := hide hM
  have HBOX := hide hbox
  have R1 := hide r1
  clear r1 hM hbox m1 hMM hop2 hcap
  generalize hLL : st.length = L at hw hw64 hLc hLn
  have HLL := hide hLL
  clear hLL
  go_wp2_with fail
  go_quiet (fail)
  go_wp2_with fail
  obtain ⟨W2, hW2⟩ : ∃ W, w1.drewN nq = W := ⟨_, rfl⟩
  rw [hW2]
  have hM2 : More1 w1 W2 := by rw [← hW2]; exact (More1.refl w1).drewN _
  have r2 := R1.out.keep hM2
  have g1 : W2.cell? ⟨Y, 1, none⟩ = some (.slice (some ⟨gO, 0, none⟩) M cO) := by rw [← hW2]; exact d1
  have f1' := free_of (i := 1) r2.blk
  have R2 := hide r2
  have HM2 := hide hM2
  clear r2 hM2 hW2 d0 d1 e0 b0 b1 f1
  go_region_law (fail)
  all_goals
    go_wp2
    (try simp only [Exit.inBlock, Exit.then])
    first
    | (refine bodyPost_end (results_none rfl _ _ _) rfl ?_)
    | (refine bodyPost_ret (results_none rfl _ _ _) rfl ?_)
    have hL := HLL.out
    subst hL
    have hcells : (kidCells (k :: st).reverse).take st.length = kidCells st.reverse := by
      rw [List.reverse_cons]
      unfold kidCells
      rw [List.map_append, List.take_append_of_le_length (by simp), List.take_of_length_le (by simp)]
    have hM12 : More1 w W2 := HM.out.trans HM2.out
    have hop3 : W2.ownsRow 0 3 1 (.slice (some ⟨gO, 0, none⟩) st.length cO) st.length (kidCells st.reverse) := by
      rw [← hcells]
      exact owns_of HOP.out fun b e => hM12.keep b (own_lt HOP.out e)
    obtain ⟨s1, s2⟩ := R2.out.reopen (.slice (some ⟨gO, 0, none⟩) st.length cO) st hop3 (fun b e => H.out.openK b (by rw [HOV.out]; exact e))
    have hD : More1 (W2.setCell ⟨Y, 1, none⟩ (.slice (some ⟨gO, 0, none⟩) st.length cO)) (W2.setCell ⟨Y, 1, none⟩ (.slice (some ⟨gO, 0, none⟩) st.length cO)).drew := (More1.refl _).drewN 1
    exact ⟨rfl, _, s1.keep hD, (hM12.frame.trans' s2).trans' hD.frame⟩
end Go.Proofs.YtfolnkmbdmfigaaGreatDoor

set_option linter.unusedSimpArgs false
set_option linter.unusedVariables false
namespace Go.Proofs.YtfolnkmbdmfigaaGreatDoor
open Go.RowKit Go.Maps Go.Lib
variable {A K K' : Nat → Prop} {w w' w1 w2 w3 W1 : World} {nv ov v' a : Value} {av kv : Nat → Value} {g : Gr} {Y : Nat} {er q : Int} {n : Nd}
theorem open_nums (l : Nat) (M : Nat) (hM : M = l + 1) (hb : l ≤ 17179869184) : IntKind.i64.wrap ((M : Int) - 1) = (l : Int) ∧ wrap64 (l : Int) = (l : Int) := by
  refine ⟨by rw [IntKind.wrap_i64]; omega, by unfold wrap64; omega⟩
theorem bopen_close {o : Obj} {k : Nat} (h : BRep A K Y w g er q nv ov av kv) (hg : (w.drew.alloc o).grownBy w2 ov.ownBlock) (ho : w2.ownsRow 0 3 1 v' (g.stack.length + 1) (kidCells g.stack.reverse ++ [.int .i64 k])) (hat : v'.ownBlock = ov.ownBlock ∨ v'.ownBlock = some (w.drew.alloc o).heap.size) :
    BRep A (Grow K w (w2.setCell ⟨Y, 1, none⟩ v')) Y (w2.setCell ⟨Y, 1, none⟩ v') ⟨g.nodes, k :: g.stack⟩ er q nv v' av kv ∧ Frame (fun k => k = Y ∨ K k) w (w2.setCell ⟨Y, 1, none⟩ v') := by
  have hYlt := blk_lt h.blk
  have hM : More1 w (w.drew.alloc o) := ((More1.refl w).drewN 1).alloc o
  have hz : (w.drew.alloc o).heap.size = w.heap.size + 1 := by simp
  have hgs := hg.size
  have hoY : ov.ownBlock ≠ some Y := fun e => h.nK (h.openK Y e).1
  -- all but the row of open elements is kept
  have keep : ∀ b, b < w.heap.size → ov.ownBlock ≠ some b → w2.heap[b]? = w.heap[b]? := fun b hb hne => (hg.block b (by omega) (fun e => hne e.symm)).trans (hM.keep b hb)
  have hvb : ∀ b, v'.ownBlock = some b → (K b ∨ b = w.heap.size + 1) ∧ nv.ownBlock ≠ some b ∧ ∀ i, i < g.nodes.length → (kv i).ownBlock ≠ some b := by
    intro b e
    rcases hat with e2 | e2
    · rw [e2] at e
      exact ⟨Or.inl (h.openK b e).1, (h.openK b e).2⟩
    · rw [e2] at e
      have eb : b = w.heap.size + 1 := by simp only [Option.some.injEq] at e; omega
      refine ⟨Or.inr eb, fun x => ?_, fun i hi x => ?_⟩
      · have := h.lt b (h.nodes.rowK b x); omega
      · have := h.lt b (h.nodes.kidK i b hi x).1; omega
  have h2 : BRep A (Grow K w w2) Y w2 ⟨g.nodes, k :: g.stack⟩ er q nv v' av kv → True := fun _ => trivial
  have hn2 : Nodes 76 82 A (Grow K w w2) w2 nv g.nodes av kv := by
    have row : w2.ownsRow 0 76 5 nv g.nodes.length (ndCells av kv 0 g.nodes) := owns_of h.nodes.row fun b e => keep b (own_lt h.nodes.row e) (fun x => (h.openK b x).2.1 e)
    refine ⟨row, fun b e => Or.inl (h.nodes.rowK b e), fun i m hi => owns_of (h.nodes.attr i m hi) fun b e => keep b (own_lt (h.nodes.attr i m hi) e) (fun x => h.dis b (h.nodes.attrA i b (List.getElem?_eq_some_iff.1 hi).1 e) (h.openK b x).1), h.nodes.attrA,
      fun i m hi => owns_of (h.nodes.kid i m hi) fun b e => keep b (own_lt (h.nodes.kid i m hi) e) (fun x => (h.openK b x).2.2 i (List.getElem?_eq_some_iff.1 hi).1 e), fun i b hi e => ⟨Or.inl (h.nodes.kidK i b hi e).1, (h.nodes.kidK i b hi e).2⟩, h.nodes.apart, h.nodes.knil⟩
  have hset : ∀ b, b ≠ Y → (w2.setCell ⟨Y, 1, none⟩ v').heap[b]? = w2.heap[b]? := fun b hb => Below.heap_setCell _ _ _ _ hb
  have hzz : (w2.setCell ⟨Y, 1, none⟩ v').heap.size = w2.heap.size := by simp [World.setCell]
  have hnK2 : ¬ Grow K w w2 Y := by
    rintro (x | x)
    · exact h.nK x
    · omega
  have hKK : ∀ b, Grow K w w2 b → Grow K w (w2.setCell ⟨Y, 1, none⟩ v') b := fun b x => x.elim Or.inl (fun y => Or.inr ⟨y.1, by rw [hzz]; exact y.2⟩)
  refine ⟨⟨?_, hn2.frame (fun b _ x => hset b (fun e => h.nA (by rw [← e]; exact x))) (fun b _ x => hset b (fun e => hnK2 (by rw [← e]; exact x))) (fun b _ x => hKK b x), ?_, ?_, h.nA, ?_, ?_, ?_, fun b x => by have := h.ltA b x; omega⟩, ⟨hg.os.trans hM.os, hg.tape.trans hM.tape, hg.output.trans hM.output, by omega, fun b hb hf => ?_⟩⟩
  · rw [set_of ((keep Y hYlt hoY).trans h.blk)]; rfl
  · have e1 : kidCells (k :: g.stack).reverse = kidCells g.stack.reverse ++ [.int .i64 k] := by simp [kidCells]
    rw [e1]
    refine owns_of ho fun b e => hset b (fun x => ?_)
    rcases (hvb b e).1 with y | y
    · exact h.nK (by rw [← x]; exact y)
    · omega
  · intro b e
    refine ⟨?_, (hvb b e).2⟩
    rcases (hvb b e).1 with y | y
    · exact Or.inl y
    · refine Or.inr ⟨by omega, ?_⟩
      have := own_lt ho e
      omega
  · rintro (x | x)
    · exact h.nK x
    · omega
  · rintro b hA (x | x)
    · exact h.dis b hA x
    · have := h.ltA b hA; omega
  · rintro b (x | x)
    · have := h.lt b x; omega
    · exact x.2
  · rw [hset b (fun e => hf (Or.inl e))]
    exact keep b hb (fun e => hf (Or.inr (h.openK b e).1))
set_option maxHeartbeats 8000000 in
set_option maxRecDepth 10000 in
theorem btake_openA (h : BRep A K Y w g 0 q nv ov av kv) (wf : g.Wf) (hkd : KidsLe g) (hb : g.nodes.length ≤ 17179869184) (t : Tok) (va : Value) (ha : w.ownsRow 0 82 2 va t.attrs.length (attrCells t.attrs)) (haA : ∀ k, va.ownBlock = some k → A k) (hs : g.stack = []) (hn : g.nodes = []) (hd : g.stack.length < 30) :
    Calls Tryz.prog 28 #[.pointer (some ⟨Y, 0, none⟩), .agg #[.int .i64 1, .string ⟨t.name.toArray⟩, va, .string ⟨t.text.toArray⟩, .int .i64 t.at_]] w fun e w' => e = .returned (.tuple #[]) ∧ ∃ nv' ov' av' kv', BRep A (Grow K w w') Y w' { (g.put (elemOf t)) with stack := g.nodes.length :: g.stack } 0 q nv' ov' av' kv' ∧ Frame (fun k => k = Y ∨ K k) w w' := by
  obtain ⟨ai, ac, hav⟩ := slice_len ha
  obtain ⟨ni, nc, hnv⟩ := slice_len h.nodes.row
  obtain ⟨oi, oc, hov⟩ := slice_len h.opens
  subst hav
  subst hnv
  subst hov
  have htop : topOf g.stack = -1 := by rw [hs]; rfl
  have hl0 : decide (0 < g.nodes.length) = false := by rw [hn]; rfl
  clear hn hs
  have hup : ∀ o : Obj, Calls Tryz.prog 44 #[.pointer (some ⟨Y, 0, none⟩)] (w.alloc o) fun en w' => en = .returned (.int .i64 (-1)) ∧ More1 (w.alloc o) w' := fun o => by
    have := bup_ok (h.keep ((More1.refl w).alloc o))
    rw [htop] at this
    exact this
  have c2 : ∀ o : Obj, (w.alloc o).cell? ⟨Y, 2, none⟩ = some (.int .i64 0) := fun o => cell_alloc o (h.cell 2 rfl)
  have hd1 : decide (30 ≤ g.stack.length) = false := by simp; omega
  have hd2 : (g.stack.length : Int) < 30 := by omega
  obtain ⟨j0, hj, hy0, hy1, hy2⟩ := info_parts info3
  have HUP := hide hup
  have HWF := hide wf
  have HKD := hide hkd
  have HA := hide ha
  have HAA := hide haA
  have H := hide h
  clear hup h htop wf hkd ha haA
  go_enter Tryz.func28, Tryz.ntmps28
  go_wp2_with fail
  refine (HUP.out _).mono ?_
  rintro e w1 ⟨rfl, m1⟩
  have hM : More1 w w1 := ((More1.refl w).alloc _).trans m1
  have hbox : w1.heap[w.heap.size]? = some (.cells #[.int .i64 1, .string ⟨t.name.toArray⟩, .slice ai (List.length t.attrs) ac, .string ⟨t.text.toArray⟩, .int .i64 t.at_] 72) := (m1.keep w.heap.size (by simp)).trans (Below_new w _)
  have r1 := H.out.keep hM
  have d0 : w1.cell? ⟨Y, 0, none⟩ = some (.slice ni g.nodes.length nc) := r1.cell 0 rfl
  have d1 : w1.cell? ⟨Y, 1, none⟩ = some (.slice oi g.stack.length oc) := r1.cell 1 rfl
  have b0 := cell_of (i := 0) hbox rfl
  have b1 := cell_of (i := 1) hbox rfl
  have b2 := cell_of (i := 2) hbox rfl
  have hput := bput_ok r1 HWF.out HKD.out (elemOf t) (.slice ai (List.length t.attrs) ac) 0 (owns_of HA.out fun b e => hM.keep b (own_lt HA.out e)) HAA.out rfl hb
  have HP := hide hput
  have HM := hide hM
  clear r1 hM hbox m1 hput
  go_wp2_with (first | (go_at_call 45; refine HP.out.mono ?_; rintro e w2 ⟨rfl, nv2, av2, kv2, r2, f2⟩; obtain ⟨n2, c2', hnv2⟩ := slice_len r2.nodes.row; subst hnv2; have y0 := r2.cell 0 rfl; have y1 := r2.cell 1 rfl; have R2 := hide r2; have F2 := hide f2; clear r2 f2 d0 d1 b0 b1 b2))
  have hst : (g.put (elemOf t)).stack = g.stack := put_stack _ _
  obtain ⟨hw, hw64⟩ := open_nums g.nodes.length (g.put (elemOf t)).nodes.length (put_size _ _) hb
  have hop := R2.out.opens
  rw [hst] at hop
  have HOP := hide hop
  have HYB := hide R2.out.blk
  have hoY : (Value.slice oi g.stack.length oc).ownBlock ≠ some Y := fun e => R2.out.nK (R2.out.openK Y e).1
  have y0a : ∀ o : Obj, (w2.alloc o).cell? ⟨Y, 0, none⟩ = some (.slice n2 (g.put (elemOf t)).nodes.length c2') := fun o => cell_alloc o y0
  have y1a : ∀ o : Obj, (w2.alloc o).cell? ⟨Y, 1, none⟩ = some (.slice oi g.stack.length oc) := fun o => cell_alloc o y1
  have f1 := free_of (i := 1) R2.out.blk
  have HST := hide hst
  clear hop hst c2
  generalize hMM : (g.put (elemOf t)).nodes.length = M at *
  have HMM := hide hMM
  clear hMM
  go_region_law
    (first | (
      refine step_own_at rfl (.tmp 74) (.tmp 81) 40 rfl 3 j0 _ 1 8 Tryz.underlying40 hj hy0 hy1 hy2 rfl (by decide) (.slice oi g.stack.length oc) g.stack.length (kidCells g.stack.reverse) (by simp [Act.eval, Act.put]) (HOP.out.drew.alloc _) ⟨w2.heap.size, 0, none⟩ 1 1 [.int .i64 g.nodes.length] (by simp [Act.eval, Act.put]) rfl (int_news _ _) (int_one _) (by unfold maxLen; omega) (by omega) ?_
      intro v' w3 ho hg hat
      obtain ⟨ao3, cap3, rfl⟩ := slice_len ho
      have hy3 := grown_blk HYB.out hoY hg
      have y1' : w3.cell? ⟨Y, 1, none⟩ = some (.slice oi g.stack.length oc) := cell_of hy3 rfl
      have f1' := free_of (i := 1) hy3
      have HO3 := hide ho
      have HG3 := hide hg
      have HAT3 := hide hat
      clear ho hg hat hy3))
  all_goals
    go_wp2
    (try simp only [Exit.inBlock, Exit.then])
    first
    | (refine bodyPost_end (results_none rfl _ _ _) rfl ?_)
    | (refine bodyPost_ret (results_none rfl _ _ _) rfl ?_)
    have hM2 := HMM.out
    subst hM2
    obtain ⟨s1, s2⟩ := bopen_close (k := g.nodes.length) R2.out HG3.out (by rw [HST.out]; exact HO3.out) HAT3.out
    have e4 : ({ (g.put (elemOf t)) with stack := g.nodes.length :: g.stack } : Gr) = ⟨(g.put (elemOf t)).nodes, g.nodes.length :: (g.put (elemOf t)).stack⟩ := by rw [HST.out]
    have fr2 : Frame (fun k => k = Y ∨ K k) w1 (w3.setCell ⟨Y, 1, none⟩ (.slice ao3 (g.stack.length + 1) cap3)) := by
      refine ⟨s2.os.trans F2.out.os, s2.tape.trans F2.out.tape, s2.output.trans F2.out.output, Nat.le_trans F2.out.size s2.size, fun b hb2 hf => ?_⟩
      rw [s2.block b (Nat.lt_of_lt_of_le hb2 F2.out.size) (fun x => by
        rcases x with x | x | x
        · exact hf (Or.inl x)
        · exact hf (Or.inr x)
        · omega)]
      exact F2.out.block b hb2 hf
    have s3 : BRep A (Grow K w1 (w3.setCell ⟨Y, 1, none⟩ (.slice ao3 (g.stack.length + 1) cap3))) Y (w3.setCell ⟨Y, 1, none⟩ (.slice ao3 (g.stack.length + 1) cap3)) ⟨(g.put (elemOf t)).nodes, g.nodes.length :: (g.put (elemOf t)).stack⟩ 0 q (.slice n2 (g.put (elemOf t)).nodes.length c2') (.slice ao3 (g.stack.length + 1) cap3) av2 kv2 := by
      have r1 := H.out.keep HM.out
      have hYlt := blk_lt r1.blk
      have z1 := F2.out.size
      refine s1.widen (fun b hb2 x => ?_) ?_ ?_ (grow_lt r1.lt fr2.size)
      · rcases x with (x | x) | x
        · exact Or.inl x
        · exact Or.inr ⟨x.1, hb2⟩
        · exact Or.inr ⟨by omega, hb2⟩
      · rintro (x | x)
        · exact r1.nK x
        · omega
      · rintro b hA (x | x)
        · exact r1.dis b hA x
        · have := r1.ltA b hA; omega
    obtain ⟨q1, q2⟩ := H.out.lift HM.out s3 fr2
    rw [e4]
    first | exact ⟨rfl, _, _, _, _, q1, q2⟩ | exact ⟨rfl, ⟨_, _, _, _, q1⟩, q2⟩
set_option maxHeartbeats 8000000 in
set_option maxRecDepth 10000 in
theorem btake_openB (h : BRep A K Y w g 0 q nv ov av kv) (wf : g.Wf) (hkd : KidsLe g) (hb : g.nodes.length ≤ 17179869184) (t : Tok) (va : Value) (ha : w.ownsRow 0 82 2 va t.attrs.length (attrCells t.attrs)) (haA : ∀ k, va.ownBlock = some k → A k) (k : Nat) (st : List Nat) (hs : g.stack = k :: st) (hd : g.stack.length < 30) :
    Calls Tryz.prog 28 #[.pointer (some ⟨Y, 0, none⟩), .agg #[.int .i64 1, .string ⟨t.name.toArray⟩, va, .string ⟨t.text.toArray⟩, .int .i64 t.at_]] w fun e w' => e = .returned (.tuple #[]) ∧ ∃ nv' ov' av' kv', BRep A (Grow K w w') Y w' { (g.put (elemOf t)) with stack := g.nodes.length :: g.stack } 0 q nv' ov' av' kv' ∧ Frame (fun k => k = Y ∨ K k) w w' := by
  obtain ⟨ai, ac, hav⟩ := slice_len ha
  obtain ⟨ni, nc, hnv⟩ := slice_len h.nodes.row
  obtain ⟨oi, oc, hov⟩ := slice_len h.opens
  subst hav
  subst hnv
  subst hov
  have htop : topOf g.stack = (k : Int) := by rw [hs]; rfl
  have hk0 : decide ((k : Int) < 0) = false := by simp
  have hk1 : ¬ ((k : Int) < 0) := by omega
  clear hs
  have hup : ∀ o : Obj, Calls Tryz.prog 44 #[.pointer (some ⟨Y, 0, none⟩)] (w.alloc o) fun en w' => en = .returned (.int .i64 ((k : Int))) ∧ More1 (w.alloc o) w' := fun o => by
    have := bup_ok (h.keep ((More1.refl w).alloc o))
    rw [htop] at this
    exact this
  have c2 : ∀ o : Obj, (w.alloc o).cell? ⟨Y, 2, none⟩ = some (.int .i64 0) := fun o => cell_alloc o (h.cell 2 rfl)
  have hd1 : decide (30 ≤ g.stack.length) = false := by simp; omega
  have hd2 : (g.stack.length : Int) < 30 := by omega
  obtain ⟨j0, hj, hy0, hy1, hy2⟩ := info_parts info3
  have HUP := hide hup
  have HWF := hide wf
  have HKD := hide hkd
  have HA := hide ha
  have HAA := hide haA
  have H := hide h
  clear hup h htop wf hkd ha haA
  go_enter Tryz.func28, Tryz.ntmps28
  go_wp2_with fail
  refine (HUP.out _).mono ?_
  rintro e w1 ⟨rfl, m1⟩
  have hM : More1 w w1 := ((More1.refl w).alloc _).trans m1
  have hbox : w1.heap[w.heap.size]? = some (.cells #[.int .i64 1, .string ⟨t.name.toArray⟩, .slice ai (List.length t.attrs) ac, .string ⟨t.text.toArray⟩, .int .i64 t.at_] 72) := (m1.keep w.heap.size (by simp)).trans (Below_new w _)
  have r1 := H.out.keep hM
  have d0 : w1.cell? ⟨Y, 0, none⟩ = some (.slice ni g.nodes.length nc) := r1.cell 0 rfl
  have d1 : w1.cell? ⟨Y, 1, none⟩ = some (.slice oi g.stack.length oc) := r1.cell 1 rfl
  have b0 := cell_of (i := 0) hbox rfl
  have b1 := cell_of (i := 1) hbox rfl
  have b2 := cell_of (i := 2) hbox rfl
  have hput := bput_ok r1 HWF.out HKD.out (elemOf t) (.slice ai (List.length t.attrs) ac) 0 (owns_of HA.out fun b e => hM.keep b (own_lt HA.out e)) HAA.out rfl hb
  have HP := hide hput
  have HM := hide hM
  clear r1 hM hbox m1 hput
  go_wp2_with (first | (go_at_call 45; refine HP.out.mono ?_; rintro e w2 ⟨rfl, nv2, av2, kv2, r2, f2⟩; obtain ⟨n2, c2', hnv2⟩ := slice_len r2.nodes.row; subst hnv2; have y0 := r2.cell 0 rfl; have y1 := r2.cell 1 rfl; have R2 := hide r2; have F2 := hide f2; clear r2 f2 d0 d1 b0 b1 b2))
  have hst : (g.put (elemOf t)).stack = g.stack := put_stack _ _
  obtain ⟨hw, hw64⟩ := open_nums g.nodes.length (g.put (elemOf t)).nodes.length (put_size _ _) hb
  have hop := R2.out.opens
  rw [hst] at hop
  have HOP := hide hop
  have HYB := hide R2.out.blk
  have hoY : (Value.slice oi g.stack.length oc).ownBlock ≠ some Y := fun e => R2.out.nK (R2.out.openK Y e).1
  have y0a : ∀ o : Obj, (w2.alloc o).cell? ⟨Y, 0, none⟩ = some (.slice n2 (g.put (elemOf t)).nodes.length c2') := fun o => cell_alloc o y0
  have y1a : ∀ o : Obj, (w2.alloc o).cell? ⟨Y, 1, none⟩ = some (.slice oi g.stack.length oc) := fun o => cell_alloc o y1
  have f1 := free_of (i := 1) R2.out.blk
  have HST := hide hst
  clear hop hst c2
  generalize hMM : (g.put (elemOf t)).nodes.length = M at *
  have HMM := hide hMM
  clear hMM
  go_region_law
    (first | (
      refine step_own_at rfl (.tmp 74) (.tmp 81) 40 rfl 3 j0 _ 1 8 Tryz.underlying40 hj hy0 hy1 hy2 rfl (by decide) (.slice oi g.stack.length oc) g.stack.length (kidCells g.stack.reverse) (by simp [Act.eval, Act.put]) (HOP.out.drew.alloc _) ⟨w2.heap.size, 0, none⟩ 1 1 [.int .i64 g.nodes.length] (by simp [Act.eval, Act.put]) rfl (int_news _ _) (int_one _) (by unfold maxLen; omega) (by omega) ?_
      intro v' w3 ho hg hat
      obtain ⟨ao3, cap3, rfl⟩ := slice_len ho
      have hy3 := grown_blk HYB.out hoY hg
      have y1' : w3.cell? ⟨Y, 1, none⟩ = some (.slice oi g.stack.length oc) := cell_of hy3 rfl
      have f1' := free_of (i := 1) hy3
      have HO3 := hide ho
      have HG3 := hide hg
      have HAT3 := hide hat
      clear ho hg hat hy3))
  all_goals
    go_wp2
    (try simp only [Exit.inBlock, Exit.then])
    first
    | (refine bodyPost_end (results_none rfl _ _ _) rfl ?_)
    | (refine bodyPost_ret (results_none rfl _ _ _) rfl ?_)
    have hM2 := HMM.out
    subst hM2
    obtain ⟨s1, s2⟩ := bopen_close (k := g.nodes.length) R2.out HG3.out (by rw [HST.out]; exact HO3.out) HAT3.out
    have e4 : ({ (g.put (elemOf t)) with stack := g.nodes.length :: g.stack } : Gr) = ⟨(g.put (elemOf t)).nodes, g.nodes.length :: (g.put (elemOf t)).stack⟩ := by rw [HST.out]
    have fr2 : Frame (fun k => k = Y ∨ K k) w1 (w3.setCell ⟨Y, 1, none⟩ (.slice ao3 (g.stack.length + 1) cap3)) := by
      refine ⟨s2.os.trans F2.out.os, s2.tape.trans F2.out.tape, s2.output.trans F2.out.output, Nat.le_trans F2.out.size s2.size, fun b hb2 hf => ?_⟩
      rw [s2.block b (Nat.lt_of_lt_of_le hb2 F2.out.size) (fun x => by
        rcases x with x | x | x
        · exact hf (Or.inl x)
        · exact hf (Or.inr x)
        · omega)]
      exact F2.out.block b hb2 hf
    have s3 : BRep A (Grow K w1 (w3.setCell ⟨Y, 1, none⟩ (.slice ao3 (g.stack.length + 1) cap3))) Y (w3.setCell ⟨Y, 1, none⟩ (.slice ao3 (g.stack.length + 1) cap3)) ⟨(g.put (elemOf t)).nodes, g.nodes.length :: (g.put (elemOf t)).stack⟩ 0 q (.slice n2 (g.put (elemOf t)).nodes.length c2') (.slice ao3 (g.stack.length + 1) cap3) av2 kv2 := by
      have r1 := H.out.keep HM.out
      have hYlt := blk_lt r1.blk
      have z1 := F2.out.size
      refine s1.widen (fun b hb2 x => ?_) ?_ ?_ (grow_lt r1.lt fr2.size)
      · rcases x with (x | x) | x
        · exact Or.inl x
        · exact Or.inr ⟨x.1, hb2⟩
        · exact Or.inr ⟨by omega, hb2⟩
      · rintro (x | x)
        · exact r1.nK x
        · omega
      · rintro b hA (x | x)
        · exact r1.dis b hA x
        · have := r1.ltA b hA; omega
    obtain ⟨q1, q2⟩ := H.out.lift HM.out s3 fr2
    rw [e4]
    first | exact ⟨rfl, _, _, _, _, q1, q2⟩ | exact ⟨rfl, ⟨_, _, _, _, q1⟩, q2⟩
end Go.Proofs.YtfolnkmbdmfigaaGreatDoor

set_option linter.unusedSimpArgs false
set_option linter.unusedVariables false
namespace Go.Proofs.YtfolnkmbdmfigaaGreatDoor
open Go.RowKit Go.Maps Go.Lib
variable {A K K' : Nat → Prop} {w w' w1 w2 : World} {nv ov a : Value} {av kv : Nat → Value} {g : Gr} {Y : Nat} {er q : Int}
theorem BRep.more {g' : Gr} {er' q' : Int} {nv' ov' : Value} {av' kv' : Nat → Value} (h : BRep A K Y w g er q nv ov av kv) (hz : w.heap.size ≤ w'.heap.size) (r : BRep A K Y w' g' er' q' nv' ov' av' kv') : BRep A (Grow K w w') Y w' g' er' q' nv' ov' av' kv' := by
  have hYlt := blk_lt h.blk
  refine r.widen (fun k _ x => Or.inl x) ?_ ?_ (grow_lt h.lt hz)
  · rintro (x | x)
    · exact h.nK x
    · omega
  · rintro k hA (x | x)
    · exact h.dis k hA x
    · have := h.ltA k hA; omega
theorem frame_one (fr : Frame (fun k => k = Y) w w') : Frame (fun k => k = Y ∨ K k) w w' := ⟨fr.os, fr.tape, fr.output, fr.size, fun k hk hf => fr.block k hk (fun e => hf (Or.inl e))⟩
theorem btake_ok (h : BR A K Y w g er q) (hb : g.nodes.length ≤ 17179869184) (t : Tok) (va : Value) (hz : t.text.length ≤ 9223372036854775807) (ha : w.ownsRow 0 82 2 va t.attrs.length (attrCells t.attrs)) (haA : ∀ k, va.ownBlock = some k → A k) :
    Calls Tryz.prog 28 #[.pointer (some ⟨Y, 0, none⟩), tokV t va] w (BTook A K Y w (bstep g er q t)) := by
  obtain ⟨⟨nv, ov, av, kv, hr⟩, hk, wf⟩ := h
  have wf2 := wf.take t
  have hav := slice_len ha
  obtain ⟨ai, ac, hav⟩ := hav
  unfold bstep
  by_cases h0 : er ≠ 0
  · rw [if_pos h0]
    subst hav
    refine (btake_err hr h0 t ai _ ac).mono ?_
    rintro e w' ⟨rfl, m⟩
    exact ⟨rfl, ⟨⟨nv, ov, av, kv, hr.more m.size (hr.keep m)⟩, hk, wf⟩, m.frame⟩
  · rw [if_neg h0]
    obtain rfl : er = 0 := by simpa using h0
    -- what a refusal leaves
    have bad : ∀ (no : Int) (w' : World), BRep A K Y w' g no t.at_ nv ov av kv → Frame (fun k => k = Y) w w' → BTook A K Y w (g, no, t.at_) (.returned (.tuple #[])) w' := fun no w' r f => ⟨rfl, ⟨⟨nv, ov, av, kv, hr.more f.size r⟩, hk, wf⟩, frame_one f⟩
    have same : ∀ w', More1 w w' → BTook A K Y w (g, 0, q) (.returned (.tuple #[])) w' := fun w' m => ⟨rfl, ⟨⟨nv, ov, av, kv, hr.more m.size (hr.keep m)⟩, hk, wf⟩, m.frame⟩
    by_cases hk1 : t.kind = 1
    · by_cases h1 : g.stack = [] ∧ g.nodes ≠ []
      · have e : g.take t = (7, g) := by unfold Gr.take; rw [if_pos hk1, if_pos h1]
        rw [e, if_pos (by simp)]
        subst hav
        unfold tokV
        rw [hk1]
        refine (btake_root hr t h1.1 h1.2 ai _ ac).mono ?_
        rintro e w' ⟨rfl, r, f⟩
        exact bad 7 w' r f
      · by_cases h2 : 30 ≤ g.stack.length
        · have e : g.take t = (8, g) := by unfold Gr.take; rw [if_pos hk1, if_neg h1, if_pos h2]
          rw [e, if_pos (by simp)]
          cases hs : g.stack with
          | nil => rw [hs] at h2; simp at h2
          | cons k st =>
            subst hav
            unfold tokV
            rw [hk1]
            refine (btake_deep hr t k st hs h2 ai _ ac).mono ?_
            rintro e w' ⟨rfl, r, f⟩
            exact bad 8 w' r f
        · have e : g.take t = (0, { (g.put (elemOf t)) with stack := g.nodes.length :: g.stack }) := by unfold Gr.take; rw [if_pos hk1, if_neg h1, if_neg h2]
          rw [e] at wf2 ⊢
          rw [if_neg (by simp)]
          have fin : ∀ w' nv' ov' av' kv', BRep A (Grow K w w') Y w' { (g.put (elemOf t)) with stack := g.nodes.length :: g.stack } 0 q nv' ov' av' kv' → Frame (fun k => k = Y ∨ K k) w w' → BTook A K Y w ({ (g.put (elemOf t)) with stack := g.nodes.length :: g.stack }, 0, q) (.returned (.tuple #[])) w' := fun w' nv' ov' av' kv' r f => ⟨rfl, ⟨⟨nv', ov', av', kv', r⟩, hk.put (elemOf t) rfl, wf2⟩, f⟩
          unfold tokV
          rw [hk1]
          cases hs : g.stack with
          | nil =>
            have hn : g.nodes = [] := Classical.byContradiction fun x => h1 ⟨hs, x⟩
            refine (btake_openA hr wf hk hb t va ha haA hs hn (by omega)).mono ?_
            rintro e w' ⟨rfl, nv', ov', av', kv', r, f⟩
            rw [hs] at r fin
            exact fin w' nv' ov' av' kv' r f
          | cons k st =>
            refine (btake_openB hr wf hk hb t va ha haA k st hs (by omega)).mono ?_
            rintro e w' ⟨rfl, nv', ov', av', kv', r, f⟩
            rw [hs] at r fin
            exact fin w' nv' ov' av' kv' r f
    · by_cases hk2 : t.kind = 2
      · cases hs : g.stack with
        | nil =>
          have e : g.take t = (6, g) := by unfold Gr.take; rw [if_neg hk1, if_pos hk2, hs]
          rw [e, if_pos (by simp)]
          subst hav
          unfold tokV
          rw [hk2]
          refine (btake_none hr t hs ai _ ac).mono ?_
          rintro e w' ⟨rfl, r, f⟩
          exact bad 6 w' r f
        | cons k st =>
          obtain ⟨m, hm, hup, _⟩ := wf.top hs
          by_cases hnm : g.named k t.name = true
          · have e : g.take t = (0, { g with stack := st }) := by unfold Gr.take; rw [if_neg hk1, if_pos hk2, hs]; simp only [hnm, if_true]
            rw [e] at wf2 ⊢
            rw [if_neg (by simp)]
            have hname : m.name = t.name := by
              have := (named_iff g k t.name).1 hnm
              rw [hm] at this
              simpa using this
            subst hav
            unfold tokV
            rw [hk2]
            refine (btake_shut hr t k st m hs hm hname ai _ ac).mono ?_
            rintro e w' ⟨rfl, ov', r, f⟩
            exact ⟨rfl, ⟨⟨nv, ov', av, kv, hr.more f.size r⟩, hk, wf2⟩, frame_one f⟩
          · have e : g.take t = (6, g) := by unfold Gr.take; rw [if_neg hk1, if_pos hk2, hs]; simp only [hnm, if_false, Bool.false_eq_true]
            rw [e, if_pos (by simp)]
            have hname : m.name ≠ t.name := fun e => hnm ((named_iff g k t.name).2 (by rw [hm]; simp [e]))
            subst hav
            unfold tokV
            rw [hk2]
            refine (btake_other hr t k st m hs hm hname ai _ ac).mono ?_
            rintro e w' ⟨rfl, r, f⟩
            exact bad 6 w' r f
      · cases hs : g.stack with
        | nil =>
          by_cases hbl : blanksOnly t.text = true
          · have e : g.take t = (0, g) := by unfold Gr.take; rw [if_neg hk1, if_neg hk2, hs]; simp only [hbl, if_true]
            rw [e, if_neg (by simp)]
            subst hav
            refine (btake_out_blank hr t hk1 hk2 hs hbl hz ai _ ac).mono ?_
            rintro e w' ⟨rfl, m⟩
            exact same w' m
          · have e : g.take t = (7, g) := by unfold Gr.take; rw [if_neg hk1, if_neg hk2, hs]; simp only [hbl, if_false, Bool.false_eq_true]
            rw [e, if_pos (by simp)]
            subst hav
            refine (btake_out_bad hr t hk1 hk2 hs hbl hz ai _ ac).mono ?_
            rintro e w' ⟨rfl, r, f⟩
            exact bad 7 w' r f
        | cons k st =>
          have e : g.take t = (0, g.put (textOf t)) := by unfold Gr.take; rw [if_neg hk1, if_neg hk2, hs]
          rw [e] at wf2 ⊢
          rw [if_neg (by simp)]
          subst hav
          refine (btake_in hr wf hk hb t hk1 hk2 k st hs hz ai _ ac).mono ?_
          rintro e w' ⟨rfl, nv', av', kv', r, f⟩
          exact ⟨rfl, ⟨⟨nv', ov, av', kv', r⟩, hk.put (textOf t) rfl, wf2⟩, f⟩
end Go.Proofs.YtfolnkmbdmfigaaGreatDoor
