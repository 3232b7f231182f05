import Derived.Test.YtfolnkmbdmfigaaGreatDoorHsc
import Derived.Test.YtfolnkmbdmfigaaGreatDoorHsb
import Derived.Test.YtfolnkmbdmfigaaGreatDoorGal
set_option linter.unusedVariables false
set_option linter.unusedSimpArgs false
set_option linter.unusedSimpArgs false
set_option linter.unusedVariables false
namespace Go.Proofs.YtfolnkmbdmfigaaGreatDoor
open Go.RowKit Go.Maps Go.Lib
variable {A K K' : Nat → Prop} {w w' w1 w2 W1 : World} {nv ov v' a : Value} {av kv : Nat → Value} {g : Gr} {Y : Nat} {er q : Int} {n : Nd}
theorem int_news (w : World) (v : Value) : ∀ j u, [v][j]? = some u → (w.alloc (.cells #[v] 3)).cell? ((⟨w.heap.size, 0, none⟩ : Addr).add j) = some u := by
  intro j u hu
  rw [Addr.add_lit, Nat.zero_add, cell_of (heap_alloc_new w _) (v := u)]
  rw [← hu]; simp
theorem int_one (z : Int) : ∀ u ∈ [Value.int .i64 z], u.oneCell' = true := by
  intro u hu
  simp only [List.mem_cons, List.not_mem_nil, or_false] at hu
  subst hu; rfl
theorem bput_end {k : Nat} {st : List Nat} {m : Nd} {W3 w5 : World} {o : Obj} {ki : Option Addr} {kc gN nc2 : Nat} {v5 : Value} {avx : Nat → Value} (h : BRep A K Y w g er q nv ov av kv) (hs : g.stack = k :: st) (hm : g.nodes[k]? = some m)
    (p1 : BRep A (Grow K w W3) Y W3 ⟨g.nodes ++ [{ n with up := (k : Int) }], g.stack⟩ er q (.slice (some ⟨gN, 0, none⟩) (g.nodes.length + 1) nc2) ov avx (upd kv g.nodes.length nilS)) (p2 : Frame (fun k => k = Y ∨ K k) w W3) (hmm : (g.nodes ++ [{ n with up := (k : Int) }])[k]? = some m) (hkv : kv k = .slice ki m.kids.length kc)
    (hg : (W3.drew.alloc o).grownBy w5 (Value.slice ki m.kids.length kc).ownBlock) (ho : w5.ownsRow 0 3 1 v5 (m.kids.length + 1) (kidCells m.kids ++ [.int .i64 g.nodes.length])) (hat : v5.ownBlock = (Value.slice ki m.kids.length kc).ownBlock ∨ v5.ownBlock = some (W3.drew.alloc o).heap.size) :
    Ending.returned (.tuple #[]) = Ending.returned (.tuple #[]) ∧ ∃ nv' av' kv', BRep A (Grow K w (w5.setCell ⟨gN, k * 5 + 3, none⟩ v5)) Y (w5.setCell ⟨gN, k * 5 + 3, none⟩ v5) (g.put n) er q nv' ov av' kv' ∧ Frame (fun k => k = Y ∨ K k) w (w5.setCell ⟨gN, k * 5 + 3, none⟩ v5) := by
  have hkl : k < g.nodes.length := (List.getElem?_eq_some_iff.1 hm).1
  have hku : (upd kv g.nodes.length nilS) k = .slice ki m.kids.length kc := by rw [upd_other _ _ (by omega)]; exact hkv
  have hYlt := blk_lt h.blk
  obtain ⟨r1, r2⟩ := bkid_close (j := g.nodes.length) (gN := gN) (nc := nc2) p1 ((More1.refl W3).drewN 1) hmm (by simp) (by rw [hku]; exact hg) ho (by rw [hku]; exact hat)
  have hsz2 := p2.size
  have hsz3 := r2.size
  have fr : Frame (fun k => k = Y ∨ K k) w (w5.setCell ⟨gN, k * 5 + 3, none⟩ v5) := ⟨r2.os.trans p2.os, r2.tape.trans p2.tape, r2.output.trans p2.output, by omega, fun b hb hf => by
    rw [r2.block b (by omega) (fun x => by
      rcases x with x | x
      · exact hf (Or.inr x)
      · omega)]
    exact p2.block b hb hf⟩
  have eput : g.put n = ⟨addKid (g.nodes ++ [{ n with up := (k : Int) }]) k g.nodes.length, g.stack⟩ := by
    unfold Gr.put; rw [hs]; simp only; rw [addKid_append _ _ _ _ hkl]
  rw [eput]
  refine ⟨rfl, _, _, _, r1.widen (fun b hb x => ?_) ?_ ?_ (grow_lt h.lt fr.size), fr⟩
  · rcases x with (x | x) | x
    · exact Or.inl x
    · exact Or.inr ⟨x.1, hb⟩
    · exact Or.inr ⟨by omega, hb⟩
  · rintro (x | x)
    · exact h.nK x
    · omega
  · rintro b hA (x | x)
    · exact h.dis b hA x
    · have := h.ltA b hA; omega
set_option maxHeartbeats 8000000 in
set_option maxRecDepth 100000 in
theorem bput_none (h : BRep A K Y w g er q nv ov av kv) (hs : g.stack = []) (n : Nd) (a : Value) (z : Int) (ha : w.ownsRow 0 82 2 a n.attrs.length (attrCells n.attrs)) (haA : ∀ k, a.ownBlock = some k → A k) (hn : n.kids = []) (hb : g.nodes.length ≤ 17179869184) :
    Calls Tryz.prog 45 #[.pointer (some ⟨Y, 0, none⟩), .agg #[.string ⟨n.name.toArray⟩, a, .string ⟨n.text.toArray⟩, .slice none 0 0, .int .i64 z]] w fun en w' => en = .returned (.tuple #[]) ∧ ∃ nv' av' kv', BRep A (Grow K w w') Y w' (g.put n) er q nv' ov av' kv' ∧ Frame (fun k => k = Y ∨ K k) w w' := by
  obtain ⟨ai, ac, hav⟩ := slice_len ha
  obtain ⟨ni, nc, hnv⟩ := slice_len h.nodes.row
  subst hav
  subst hnv
  have hup : ∀ o : Obj, Calls Tryz.prog 44 #[.pointer (some ⟨Y, 0, none⟩)] (w.alloc o) fun en w' => en = .returned (.int .i64 (-1)) ∧ More1 (w.alloc o) w' := fun o => by
    have := bup_ok (h.keep ((More1.refl w).alloc o))
    rw [hs] at this
    exact this
  have hYlt := blk_lt h.blk
  have hnY : (Value.slice ni g.nodes.length nc).ownBlock ≠ some Y := fun e => h.nK (h.nodes.rowK Y e)
  have hnB : (Value.slice ni g.nodes.length nc).ownBlock ≠ some w.heap.size := fun e => by have := h.lt _ (h.nodes.rowK _ e); omega
  obtain ⟨i0, hi, hz0, hz1, hz2⟩ := info_parts info73
  have HUP := hide hup
  have HA := hide ha
  have HAA := hide haA
  have H := hide h
  clear hup h ha haA
  go_enter Tryz.func45, Tryz.ntmps45
  go_wp2_with fail
  refine (HUP.out _).mono ?_
  rintro e w1 ⟨rfl, m1⟩
  have hbox0 : w1.heap[w.heap.size]? = some (.cells #[.string ⟨n.name.toArray⟩, .slice ai (List.length n.attrs) ac, .string ⟨n.text.toArray⟩, .slice none 0 0, .int .i64 z] 76) := (m1.keep w.heap.size (by simp)).trans (Below_new w _)
  have b4 := cell_of (i := 4) hbox0 rfl
  have f4 := free_of (i := 4) hbox0
  have hset := set_of (i := 4) hbox0 (.int .i64 (-1))
  have hM0 : More1 w w1 := ((More1.refl w).alloc _).trans m1
  have hM : More1 w (w1.setCell ⟨w.heap.size, 4, none⟩ (.int .i64 (-1))) := ⟨hM0.os, hM0.tape, hM0.output, by have := hM0.size; simpa [World.setCell] using this, fun b hb => by rw [Below.heap_setCell _ _ _ _ (show b ≠ w.heap.size by omega)]; exact hM0.keep b hb⟩
  have y0 : (w1.setCell ⟨w.heap.size, 4, none⟩ (.int .i64 (-1))).cell? ⟨Y, 0, none⟩ = some (.slice ni g.nodes.length nc) := (H.out.keep hM).cell 0 rfl
  have HM := hide hM
  have HSET := hide hset
  clear m1 hM0 hM hset
  go_wp2_with fail
  clear b4 f4 y0
  generalize w1.setCell ⟨w.heap.size, 4, none⟩ (.int .i64 (-1)) = W1 at *
  have hbox : W1.heap[w.heap.size]? = some (.cells #[.string ⟨n.name.toArray⟩, .slice ai (List.length n.attrs) ac, .string ⟨n.text.toArray⟩, .slice none 0 0, .int .i64 (-1)] 76) := HSET.out
  have hr1 := H.out.keep HM.out
  have n0 := cell_of (i := 0) hbox rfl
  have n1 := cell_of (i := 1) hbox rfl
  have n2 := cell_of (i := 2) hbox rfl
  have n3 := cell_of (i := 3) hbox rfl
  have n4 := cell_of (i := 4) hbox rfl
  have x0 : W1.cell? ⟨Y, 0, none⟩ = some (.slice ni g.nodes.length nc) := hr1.cell 0 rfl
  have x0a : ∀ o : Obj, (W1.alloc o).cell? ⟨Y, 0, none⟩ = some (.slice ni g.nodes.length nc) := fun o => cell_alloc o x0
  have hbl : w.heap.size < W1.heap.size := blk_lt hbox
  have HYB := hide hr1.blk
  have HR1 := hide hr1.nodes.row
  have HBOX := hide hbox
  have f0 := free_of (i := 0) hr1.blk
  clear hbox hr1 hbox0
  go_region_law
    (first | (
      refine step_own_at rfl (.tmp 17) (.tmp 19) 26 rfl 76 i0 _ 5 88 Tryz.underlying26 hi hz0 hz1 hz2 rfl (by decide) (.slice ni g.nodes.length nc) g.nodes.length (ndCells av kv 0 g.nodes) (by simp [Act.eval, Act.put]) (HR1.out.drew.alloc _) ⟨W1.heap.size, 0, none⟩ 1 1 (nodeRow { n with up := -1 } (.slice ai (List.length n.attrs) ac) nilS) (by simp [Act.eval, Act.put]) rfl (nd_news _ _ _ _ _) (nd_one _ _ _ rfl rfl) (by unfold maxLen; omega) (by omega) ?_
      intro v' w2 ho hg hat
      obtain ⟨ao', cap', rfl⟩ := slice_len ho
      have hb1 := grown_blk HYB.out hnY hg
      have x0' : w2.cell? ⟨Y, 0, none⟩ = some (.slice ni g.nodes.length nc) := cell_of hb1 rfl
      have f0' := free_of (i := 0) hb1
      have HO := hide ho
      have HG := hide hg
      have HAT := hide hat
      clear ho hg hat hb1))
  all_goals
    obtain ⟨p1, p2, p3⟩ := bpush_close (n := { n with up := -1 }) H.out HM.out HA.out HAA.out hn HG.out HO.out HAT.out
    have hbx : (w2.setCell ⟨Y, 0, none⟩ (.slice ao' (g.nodes.length + 1) cap')).heap[w.heap.size]? = some (.cells #[.string ⟨n.name.toArray⟩, .slice ai (List.length n.attrs) ac, .string ⟨n.text.toArray⟩, .slice none 0 0, .int .i64 (-1)] 76) := (p3 w.heap.size (Nat.le_refl _) hbl).trans HBOX.out
    have z4 := cell_of (i := 4) hbx rfl
    have P1 := hide p1
    have P2 := hide p2
    have HBX := hide hbx
    clear p1 p2 p3 hbx x0' f0' n0 n1 n2 n3 n4 x0 x0a f0
    go_wp2
    (try simp only [Exit.inBlock, Exit.then])
    first
    | (refine bodyPost_end (results_none rfl _ _ _) rfl ?_)
    | (refine bodyPost_ret (results_none rfl _ _ _) rfl ?_)
    have eput : g.put n = ⟨g.nodes ++ [{ n with up := -1 }], g.stack⟩ := by unfold Gr.put; rw [hs]
    rw [eput]
    exact ⟨rfl, _, _, _, P1.out, P2.out⟩
set_option maxHeartbeats 8000000 in
set_option maxRecDepth 100000 in
theorem bput_some (h : BRep A K Y w g er q nv ov av kv) (k : Nat) (st : List Nat) (m : Nd) (hs : g.stack = k :: st) (hm : g.nodes[k]? = some m) (hb2 : m.kids.length ≤ 17179869184) (n : Nd) (a : Value) (z : Int) (ha : w.ownsRow 0 82 2 a n.attrs.length (attrCells n.attrs)) (haA : ∀ k, a.ownBlock = some k → A k) (hn : n.kids = []) (hb : g.nodes.length ≤ 17179869184) :
    Calls Tryz.prog 45 #[.pointer (some ⟨Y, 0, none⟩), .agg #[.string ⟨n.name.toArray⟩, a, .string ⟨n.text.toArray⟩, .slice none 0 0, .int .i64 z]] w fun en w' => en = .returned (.tuple #[]) ∧ ∃ nv' av' kv', BRep A (Grow K w w') Y w' (g.put n) er q nv' ov av' kv' ∧ Frame (fun k => k = Y ∨ K k) w w' := by
  obtain ⟨ai, ac, hav⟩ := slice_len ha
  obtain ⟨ni, nc, hnv⟩ := slice_len h.nodes.row
  subst hav
  subst hnv
  have hup : ∀ o : Obj, Calls Tryz.prog 44 #[.pointer (some ⟨Y, 0, none⟩)] (w.alloc o) fun en w' => en = .returned (.int .i64 ((k : Int))) ∧ More1 (w.alloc o) w' := fun o => by
    have := bup_ok (h.keep ((More1.refl w).alloc o))
    rw [hs] at this
    exact this
  have hkl : k < g.nodes.length := (List.getElem?_eq_some_iff.1 hm).1
  obtain ⟨j0, hj, hy0, hy1, hy2⟩ := info_parts info3
  have hYlt := blk_lt h.blk
  have hnY : (Value.slice ni g.nodes.length nc).ownBlock ≠ some Y := fun e => h.nK (h.nodes.rowK Y e)
  have hnB : (Value.slice ni g.nodes.length nc).ownBlock ≠ some w.heap.size := fun e => by have := h.lt _ (h.nodes.rowK _ e); omega
  obtain ⟨i0, hi, hz0, hz1, hz2⟩ := info_parts info73
  have HUP := hide hup
  have HA := hide ha
  have HAA := hide haA
  have H := hide h
  clear hup h ha haA
  go_enter Tryz.func45, Tryz.ntmps45
  go_wp2_with fail
  refine (HUP.out _).mono ?_
  rintro e w1 ⟨rfl, m1⟩
  have hbox0 : w1.heap[w.heap.size]? = some (.cells #[.string ⟨n.name.toArray⟩, .slice ai (List.length n.attrs) ac, .string ⟨n.text.toArray⟩, .slice none 0 0, .int .i64 z] 76) := (m1.keep w.heap.size (by simp)).trans (Below_new w _)
  have b4 := cell_of (i := 4) hbox0 rfl
  have f4 := free_of (i := 4) hbox0
  have hset := set_of (i := 4) hbox0 (.int .i64 ((k : Int)))
  have hM0 : More1 w w1 := ((More1.refl w).alloc _).trans m1
  have hM : More1 w (w1.setCell ⟨w.heap.size, 4, none⟩ (.int .i64 ((k : Int)))) := ⟨hM0.os, hM0.tape, hM0.output, by have := hM0.size; simpa [World.setCell] using this, fun b hb => by rw [Below.heap_setCell _ _ _ _ (show b ≠ w.heap.size by omega)]; exact hM0.keep b hb⟩
  have y0 : (w1.setCell ⟨w.heap.size, 4, none⟩ (.int .i64 ((k : Int)))).cell? ⟨Y, 0, none⟩ = some (.slice ni g.nodes.length nc) := (H.out.keep hM).cell 0 rfl
  have HM := hide hM
  have HSET := hide hset
  clear m1 hM0 hM hset
  go_wp2_with fail
  clear b4 f4 y0
  generalize w1.setCell ⟨w.heap.size, 4, none⟩ (.int .i64 ((k : Int))) = W1 at *
  have hbox : W1.heap[w.heap.size]? = some (.cells #[.string ⟨n.name.toArray⟩, .slice ai (List.length n.attrs) ac, .string ⟨n.text.toArray⟩, .slice none 0 0, .int .i64 ((k : Int))] 76) := HSET.out
  have hr1 := H.out.keep HM.out
  have n0 := cell_of (i := 0) hbox rfl
  have n1 := cell_of (i := 1) hbox rfl
  have n2 := cell_of (i := 2) hbox rfl
  have n3 := cell_of (i := 3) hbox rfl
  have n4 := cell_of (i := 4) hbox rfl
  have x0 : W1.cell? ⟨Y, 0, none⟩ = some (.slice ni g.nodes.length nc) := hr1.cell 0 rfl
  have x0a : ∀ o : Obj, (W1.alloc o).cell? ⟨Y, 0, none⟩ = some (.slice ni g.nodes.length nc) := fun o => cell_alloc o x0
  have hbl : w.heap.size < W1.heap.size := blk_lt hbox
  have HYB := hide hr1.blk
  have HR1 := hide hr1.nodes.row
  have HBOX := hide hbox
  have f0 := free_of (i := 0) hr1.blk
  clear hbox hr1 hbox0
  go_region_law
    (first | (
      refine step_own_at rfl (.tmp 17) (.tmp 19) 26 rfl 76 i0 _ 5 88 Tryz.underlying26 hi hz0 hz1 hz2 rfl (by decide) (.slice ni g.nodes.length nc) g.nodes.length (ndCells av kv 0 g.nodes) (by simp [Act.eval, Act.put]) (HR1.out.drew.alloc _) ⟨W1.heap.size, 0, none⟩ 1 1 (nodeRow { n with up := (k : Int) } (.slice ai (List.length n.attrs) ac) nilS) (by simp [Act.eval, Act.put]) rfl (nd_news _ _ _ _ _) (nd_one _ _ _ rfl rfl) (by unfold maxLen; omega) (by omega) ?_
      intro v' w2 ho hg hat
      obtain ⟨ao', cap', rfl⟩ := slice_len ho
      have hb1 := grown_blk HYB.out hnY hg
      have x0' : w2.cell? ⟨Y, 0, none⟩ = some (.slice ni g.nodes.length nc) := cell_of hb1 rfl
      have f0' := free_of (i := 0) hb1
      have HO := hide ho
      have HG := hide hg
      have HAT := hide hat
      clear ho hg hat hb1))
  all_goals
    obtain ⟨p1, p2, p3⟩ := bpush_close (n := { n with up := (k : Int) }) H.out HM.out HA.out HAA.out hn HG.out HO.out HAT.out
    have hbx : (w2.setCell ⟨Y, 0, none⟩ (.slice ao' (g.nodes.length + 1) cap')).heap[w.heap.size]? = some (.cells #[.string ⟨n.name.toArray⟩, .slice ai (List.length n.attrs) ac, .string ⟨n.text.toArray⟩, .slice none 0 0, .int .i64 ((k : Int))] 76) := (p3 w.heap.size (Nat.le_refl _) hbl).trans HBOX.out
    have z4 := cell_of (i := 4) hbx rfl
    have P1 := hide p1
    have P2 := hide p2
    have HBX := hide hbx
    clear p1 p2 p3 hbx x0' f0' n0 n1 n2 n3 n4 x0 x0a f0
    go_wp2_with fail
    generalize w2.setCell ⟨Y, 0, none⟩ (.slice ao' (g.nodes.length + 1) cap') = W3 at *
    have hmm : (g.nodes ++ [{ n with up := (k : Int) }])[k]? = some m := by rw [List.getElem?_append_left hkl]; exact hm
    have hkid := P1.out.nodes.kid k m hmm
    obtain ⟨gN, nc2, hv3, _, hgK, _, _, _, m3, _⟩ := P1.out.nodes.cells k m hmm
    rw [upd_other _ _ (by omega)] at m3 hkid
    obtain ⟨ki, kc, hkv⟩ := slice_len hkid
    rw [hkv] at m3 hkid
    simp only [List.length_append, List.length_cons, List.length_nil, Nat.zero_add] at hv3
    obtain ⟨hao, hnc⟩ : ao' = some ⟨gN, 0, none⟩ ∧ cap' = nc2 := by simpa using hv3
    subst hao
    subst hnc
    have y0 : W3.cell? ⟨Y, 0, none⟩ = some (.slice (some ⟨gN, 0, none⟩) (g.nodes.length + 1) cap') := P1.out.cell 0 rfl
    have y0a : ∀ o : Obj, (W3.alloc o).cell? ⟨Y, 0, none⟩ = some (.slice (some ⟨gN, 0, none⟩) (g.nodes.length + 1) cap') := fun o => cell_alloc o y0
    have z4a : ∀ o : Obj, (W3.alloc o).cell? ⟨w.heap.size, 4, none⟩ = some (.int .i64 k) := fun o => cell_alloc o z4
    have m3a : ∀ o : Obj, (W3.alloc o).cell? ⟨gN, k * 5 + 3, none⟩ = some (.slice ki m.kids.length kc) := fun o => cell_alloc o m3
    have hki : (k : Int) < ((g.nodes.length + 1 : Nat) : Int) := by omega
    have hki2 : (k : Int) < (g.nodes.length : Int) + 1 := by omega
    have hkY : (Value.slice ki m.kids.length kc).ownBlock ≠ some Y := fun e => P1.out.nK (P1.out.nodes.kidK k Y (by simp only [List.length_append]; omega) (by rw [upd_other _ _ (by omega), hkv]; exact e)).1
    have hkg : (Value.slice ki m.kids.length kc).ownBlock ≠ some gN := fun e => (P1.out.nodes.kidK k gN (by simp only [List.length_append]; omega) (by rw [upd_other _ _ (by omega), hkv]; exact e)).2 rfl
    have hkB : (Value.slice ki m.kids.length kc).ownBlock ≠ some w.heap.size := fun e => by
      have h1 := H.out.nodes.kidK k w.heap.size hkl (by rw [hkv]; exact e)
      have := H.out.lt _ h1.1
      omega
    obtain ⟨cur, hcur⟩ := owns_blk P1.out.nodes.row (k := gN) rfl
    have hgY : gN ≠ Y := fun e => P1.out.nK (e ▸ hgK)
    have hgB : gN ≠ w.heap.size := fun e => by
      rcases HAT.out with x | x
      · exact hnB (by rw [← x, ← e]; rfl)
      · have x' : gN = W1.heap.size + 1 := by simpa [Value.ownBlock] using x
        omega
    have HK3 := hide hkid
    have HCUR := hide hcur
    have HYB3 := hide P1.out.blk
    have HKV := hide hkv
    have HMM := hide hmm
    clear hkid hcur hkv hmm hv3
    refine wp_region_held_drew (S := (fun W => W.cell? ⟨Y, 0, none⟩ = some (.slice (some ⟨gN, 0, none⟩) (g.nodes.length + 1) cap') ∧ W.cell? ⟨w.heap.size, 4, none⟩ = some (.int .i64 k))) (by kernel_rfl) ⟨y0, z4⟩ (fun hHeld => ?_)
    refine wpAnyH_take (i := 0) (v := ?_) rfl (by kernel_rfl) (by kernel_rfl) (by kernel_rfl) (fun _ _ _ h => h) (Or.inl ⟨by rfl, ?_⟩) (by assumption) ?_
    rotate_left
    · (intro w hSw; (try dsimp only at hSw); go_simp; (try with_reducible rfl))
    (try simp only [Act.put, List.setIfInBounds_toArray, List.set_cons_zero, List.set_cons_succ])
    refine wpAnyH_take (i := 1) (v := ?_) rfl (by kernel_rfl) (by kernel_rfl) (by kernel_rfl) (fun _ _ _ h => h) (Or.inl ⟨by rfl, ?_⟩) (by assumption) ?_
    rotate_left
    · (intro w hSw; (try dsimp only at hSw); go_simp; (try with_reducible rfl))
    (try simp only [Act.put, List.setIfInBounds_toArray, List.set_cons_zero, List.set_cons_succ])
    refine wpAnyH_take (i := 2) (v := ?_) rfl (by kernel_rfl) (by kernel_rfl) (by kernel_rfl) (fun _ _ _ h => h) (Or.inl ⟨by rfl, ?_⟩) (by assumption) ?_
    rotate_left
    · (intro w hSw; (try dsimp only at hSw); go_simp; (try with_reducible rfl))
    (try simp only [Act.put, List.setIfInBounds_toArray, List.set_cons_zero, List.set_cons_succ])
    refine wpAnyH_take (i := 3) (v := ?_) rfl (by kernel_rfl) (by kernel_rfl) (by kernel_rfl) (fun _ _ _ h => h) (Or.inl ⟨by rfl, ?_⟩) (by assumption) ?_
    rotate_left
    · (intro w hSw; (try dsimp only at hSw); go_simp; (try with_reducible rfl))
    (try simp only [Act.put, List.setIfInBounds_toArray, List.set_cons_zero, List.set_cons_succ])
    refine wpAnyH_take (i := 4) (v := ?_) rfl (by kernel_rfl) (by kernel_rfl) (by kernel_rfl) (fun _ _ _ h => h) (Or.inl ⟨by rfl, ?_⟩) (by assumption) ?_
    rotate_left
    · (intro w hSw; (try dsimp only at hSw); go_simp; (try with_reducible rfl))
    (try simp only [Act.put, List.setIfInBounds_toArray, List.set_cons_zero, List.set_cons_succ])
    refine wpAnyH_take (i := 5) (v := ?_) rfl (by kernel_rfl) (by kernel_rfl) (by kernel_rfl) (fun _ _ _ h => h) (Or.inl ⟨by rfl, ?_⟩) (by assumption) ?_
    rotate_left
    · (intro w hSw; (try dsimp only at hSw); go_simp; (try with_reducible rfl))
    (try simp only [Act.put, List.setIfInBounds_toArray, List.set_cons_zero, List.set_cons_succ])
    refine wpAnyH_take (i := 6) (v := ?_) rfl (by kernel_rfl) (by kernel_rfl) (by kernel_rfl) (fun _ _ _ h => h) (Or.inl ⟨by rfl, ?_⟩) (by assumption) ?_
    rotate_left
    · (intro w hSw; (try dsimp only at hSw); go_simp; (try with_reducible rfl))
    (try simp only [Act.put, List.setIfInBounds_toArray, List.set_cons_zero, List.set_cons_succ])
    refine wpAnyH_take (i := 7) (v := ?_) rfl (by kernel_rfl) (by kernel_rfl) (by kernel_rfl) (fun _ _ _ h => h) (Or.inl ⟨by rfl, ?_⟩) (by assumption) ?_
    rotate_left
    · (intro w hSw; (try dsimp only at hSw); go_simp; (try with_reducible rfl))
    (try simp only [Act.put, List.setIfInBounds_toArray, List.set_cons_zero, List.set_cons_succ])
    refine wpAnyH_take (i := 8) (v := ?_) rfl (by kernel_rfl) (by kernel_rfl) (by kernel_rfl) (fun _ _ _ h => h) (Or.inl ⟨by rfl, ?_⟩) (by assumption) ?_
    rotate_left
    · (intro w hSw; (try dsimp only at hSw); go_simp; (try with_reducible rfl))
    (try simp only [Act.put, List.setIfInBounds_toArray, List.set_cons_zero, List.set_cons_succ])
    refine wpAnyH_take (i := 9) (v := ?_) rfl (by kernel_rfl) (by kernel_rfl) (by kernel_rfl) (fun _ _ _ h => h) (Or.inl ⟨by rfl, ?_⟩) (by assumption) ?_
    rotate_left
    · (intro w hSw; (try dsimp only at hSw); go_simp; (try with_reducible rfl))
    (try simp only [Act.put, List.setIfInBounds_toArray, List.set_cons_zero, List.set_cons_succ])
    refine wpAnyH_take (i := 10) (v := ?_) rfl (by kernel_rfl) (by kernel_rfl) (by kernel_rfl) (fun _ _ _ h => h) (Or.inl ⟨by rfl, ?_⟩) (by assumption) ?_
    rotate_left
    · (intro w hSw; (try dsimp only at hSw); go_simp; (try with_reducible rfl))
    (try simp only [Act.put, List.setIfInBounds_toArray, List.set_cons_zero, List.set_cons_succ])
    refine wpAnyH_take (i := 11) (v := ?_) rfl (by kernel_rfl) (by kernel_rfl) (by kernel_rfl) (fun _ _ _ h => h) (Or.inl ⟨by rfl, ?_⟩) (by assumption) ?_
    rotate_left
    · (intro w hSw; (try dsimp only at hSw); go_simp; (try with_reducible rfl))
    (try simp only [Act.put, List.setIfInBounds_toArray, List.set_cons_zero, List.set_cons_succ])
    refine wpAnyH_take (i := 12) (v := ?_) rfl (by kernel_rfl) (by kernel_rfl) (by kernel_rfl) (fun _ _ _ h => h) (Or.inl ⟨by rfl, ?_⟩) (by assumption) ?_
    rotate_left
    · (intro w hSw; (try dsimp only at hSw); go_simp; (try with_reducible rfl))
    (try simp only [Act.put, List.setIfInBounds_toArray, List.set_cons_zero, List.set_cons_succ])
    refine wpAnyH_take (i := 13) (v := ?_) rfl (by kernel_rfl) (by kernel_rfl) (by kernel_rfl) (fun _ _ _ h => h) (Or.inl ⟨by rfl, ?_⟩) (by assumption) ?_
    rotate_left
    · (intro w hSw; (try dsimp only at hSw); go_simp; (try with_reducible rfl))
    (try simp only [Act.put, List.setIfInBounds_toArray, List.set_cons_zero, List.set_cons_succ])
    refine wpAnyH_take (i := 15) (v := ?_) rfl (by kernel_rfl) (by kernel_rfl) (by kernel_rfl) (fun _ _ _ h => h) (Or.inl ⟨by rfl, ?_⟩) (by assumption) ?_
    rotate_left
    · (intro w hSw; (try dsimp only at hSw); go_simp; (try with_reducible rfl))
    (try simp only [Act.put, List.setIfInBounds_toArray, List.set_cons_zero, List.set_cons_succ])
    refine wpAnyH_ready (rs := [14, 16]) (by kernel_rfl) (by simp) ?_
    refine AllReadyH.cons rfl (fun K hK => ?_) (AllReadyH.cons rfl (fun K hK => ?_) AllReadyH.nil)
    · go_simp
      refine hK.out _ _ ⟨y0, z4⟩ (fun hHeld => ?_)
      clear hK K
      (try simp only [Act.put, List.setIfInBounds_toArray, List.set_cons_zero, List.set_cons_succ])
      refine wpAnyH_ready (rs := [16]) (by kernel_rfl) (by simp) ?_
      refine AllReadyH.cons rfl (fun K hK => ?_) AllReadyH.nil
      go_simp
      refine hK.out _ _ ⟨y0a _, z4a _⟩ (fun hHeld => ?_)
      clear hK K
      (try simp only [Act.put, List.setIfInBounds_toArray, List.set_cons_zero, List.set_cons_succ])
      refine wpAnyH_ready (rs := [17]) (by kernel_rfl) (by simp) ?_
      refine AllReadyH.cons rfl (fun K hK => ?_) AllReadyH.nil
      refine step_own_at rfl (.tmp 40) (.tmp 42) 40 rfl 3 j0 _ 1 8 Tryz.underlying40 hj hy0 hy1 hy2 rfl (by decide) (.slice ki m.kids.length kc) m.kids.length (kidCells m.kids) (by simp [Act.eval, Act.put]) (HK3.out.drew.alloc _) ⟨W3.heap.size, 0, none⟩ 1 1 [.int .i64 g.nodes.length] (by simp [Act.eval, Act.put]) rfl (int_news _ _) (int_one _) (by unfold maxLen; omega) (by omega) ?_
      intro v' w5 ho hg hat
      obtain ⟨ao5, cap5, rfl⟩ := slice_len ho
      have hy5 := grown_blk HYB3.out hkY hg
      have hb5 := grown_blk HBX.out hkB hg
      have hc5 := grown_blk HCUR.out hkg hg
      have y0' : w5.cell? ⟨Y, 0, none⟩ = some (.slice (some ⟨gN, 0, none⟩) (g.nodes.length + 1) cap') := cell_of hy5 rfl
      have z4' : w5.cell? ⟨w.heap.size, 4, none⟩ = some (.int .i64 k) := cell_of hb5 rfl
      have y0s : ∀ u, (w5.setCell ⟨gN, k * 5 + 3, none⟩ u).cell? ⟨Y, 0, none⟩ = some (.slice (some ⟨gN, 0, none⟩) (g.nodes.length + 1) cap') := fun u => (World.cell?_of_block (Below.heap_setCell _ _ _ _ (fun e => hgY e.symm))).trans y0'
      have z4s : ∀ u, (w5.setCell ⟨gN, k * 5 + 3, none⟩ u).cell? ⟨w.heap.size, 4, none⟩ = some (.int .i64 k) := fun u => (World.cell?_of_block (Below.heap_setCell _ _ _ _ (fun e => hgB e.symm))).trans z4'
      have m3' : w5.cell? ⟨gN, k * 5 + 3, none⟩ = some (.slice ki m.kids.length kc) := (World.cell?_of_block (by rw [hc5, HCUR.out])).trans m3
      have f3' := free_of (i := k * 5 + 3) hc5
      have HO5 := hide ho
      have HG5 := hide hg
      have HAT5 := hide hat
      clear ho hg hat hy5 hb5 hc5
      refine hK.out _ _ ⟨y0', z4'⟩ (fun hHeld => ?_)
      clear hK K
      (try simp only [Act.put, List.setIfInBounds_toArray, List.set_cons_zero, List.set_cons_succ])
      refine wpAnyH_take (i := 18) (v := ?_) rfl (by kernel_rfl) (by kernel_rfl) (by kernel_rfl) (fun _ _ _ h => h) (Or.inl ⟨by rfl, ?_⟩) (by assumption) ?_
      rotate_left
      · (intro w hSw; (try dsimp only at hSw); go_simp; (try with_reducible rfl))
      (try simp only [Act.put, List.setIfInBounds_toArray, List.set_cons_zero, List.set_cons_succ])
      refine wpAnyH_take (i := 19) (v := ?_) rfl (by kernel_rfl) (by kernel_rfl) (by kernel_rfl) (fun _ _ _ h => h) (Or.inl ⟨by rfl, ?_⟩) (by assumption) ?_
      rotate_left
      · (intro w hSw; (try dsimp only at hSw); go_simp; (try with_reducible rfl))
      (try simp only [Act.put, List.setIfInBounds_toArray, List.set_cons_zero, List.set_cons_succ])
      refine wpAnyH_ready (rs := [20]) (by kernel_rfl) (by simp) ?_
      refine AllReadyH.cons rfl (fun K hK => ?_) AllReadyH.nil
      go_simp
      refine hK.out _ _ ⟨y0s _, z4s _⟩ (fun hHeld => ?_)
      clear hK K
      (try simp only [Act.put, List.setIfInBounds_toArray, List.set_cons_zero, List.set_cons_succ])
      refine wpAnyH_done (by kernel_rfl) ?_ _
      go_wp2
      (try simp only [Exit.inBlock, Exit.then])
      first
      | (refine bodyPost_end (results_none rfl _ _ _) rfl ?_)
      | (refine bodyPost_ret (results_none rfl _ _ _) rfl ?_)
      obtain ⟨q1, q2, q3, q4, q5, q6⟩ := bput_end H.out hs hm P1.out P2.out HMM.out HKV.out HG5.out HO5.out HAT5.out
      first | exact ⟨q1, q2, q3, q4, q5, q6⟩ | exact ⟨q1, ⟨q2, q3, q4, q5⟩, q6⟩
    · go_simp
      refine hK.out _ _ ⟨y0a _, z4a _⟩ (fun hHeld => ?_)
      clear hK K
      (try simp only [Act.put, List.setIfInBounds_toArray, List.set_cons_zero, List.set_cons_succ])
      refine wpAnyH_ready (rs := [14]) (by kernel_rfl) (by simp) ?_
      refine AllReadyH.cons rfl (fun K hK => ?_) AllReadyH.nil
      go_simp
      refine hK.out _ _ ⟨y0a _, z4a _⟩ (fun hHeld => ?_)
      clear hK K
      (try simp only [Act.put, List.setIfInBounds_toArray, List.set_cons_zero, List.set_cons_succ])
      refine wpAnyH_ready (rs := [17]) (by kernel_rfl) (by simp) ?_
      refine AllReadyH.cons rfl (fun K hK => ?_) AllReadyH.nil
      refine step_own_at rfl (.tmp 40) (.tmp 42) 40 rfl 3 j0 _ 1 8 Tryz.underlying40 hj hy0 hy1 hy2 rfl (by decide) (.slice ki m.kids.length kc) m.kids.length (kidCells m.kids) (by simp [Act.eval, Act.put]) (HK3.out.drew.alloc _) ⟨W3.heap.size, 0, none⟩ 1 1 [.int .i64 g.nodes.length] (by simp [Act.eval, Act.put]) rfl (int_news _ _) (int_one _) (by unfold maxLen; omega) (by omega) ?_
      intro v' w5 ho hg hat
      obtain ⟨ao5, cap5, rfl⟩ := slice_len ho
      have hy5 := grown_blk HYB3.out hkY hg
      have hb5 := grown_blk HBX.out hkB hg
      have hc5 := grown_blk HCUR.out hkg hg
      have y0' : w5.cell? ⟨Y, 0, none⟩ = some (.slice (some ⟨gN, 0, none⟩) (g.nodes.length + 1) cap') := cell_of hy5 rfl
      have z4' : w5.cell? ⟨w.heap.size, 4, none⟩ = some (.int .i64 k) := cell_of hb5 rfl
      have y0s : ∀ u, (w5.setCell ⟨gN, k * 5 + 3, none⟩ u).cell? ⟨Y, 0, none⟩ = some (.slice (some ⟨gN, 0, none⟩) (g.nodes.length + 1) cap') := fun u => (World.cell?_of_block (Below.heap_setCell _ _ _ _ (fun e => hgY e.symm))).trans y0'
      have z4s : ∀ u, (w5.setCell ⟨gN, k * 5 + 3, none⟩ u).cell? ⟨w.heap.size, 4, none⟩ = some (.int .i64 k) := fun u => (World.cell?_of_block (Below.heap_setCell _ _ _ _ (fun e => hgB e.symm))).trans z4'
      have m3' : w5.cell? ⟨gN, k * 5 + 3, none⟩ = some (.slice ki m.kids.length kc) := (World.cell?_of_block (by rw [hc5, HCUR.out])).trans m3
      have f3' := free_of (i := k * 5 + 3) hc5
      have HO5 := hide ho
      have HG5 := hide hg
      have HAT5 := hide hat
      clear ho hg hat hy5 hb5 hc5
      refine hK.out _ _ ⟨y0', z4'⟩ (fun hHeld => ?_)
      clear hK K
      (try simp only [Act.put, List.setIfInBounds_toArray, List.set_cons_zero, List.set_cons_succ])
      refine wpAnyH_take (i := 18) (v := ?_) rfl (by kernel_rfl) (by kernel_rfl) (by kernel_rfl) (fun _ _ _ h => h) (Or.inl ⟨by rfl, ?_⟩) (by assumption) ?_
      rotate_left
      · (intro w hSw; (try dsimp only at hSw); go_simp; (try with_reducible rfl))
      (try simp only [Act.put, List.setIfInBounds_toArray, List.set_cons_zero, List.set_cons_succ])
      refine wpAnyH_take (i := 19) (v := ?_) rfl (by kernel_rfl) (by kernel_rfl) (by kernel_rfl) (fun _ _ _ h => h) (Or.inl ⟨by rfl, ?_⟩) (by assumption) ?_
      rotate_left
      · (intro w hSw; (try dsimp only at hSw); go_simp; (try with_reducible rfl))
      (try simp only [Act.put, List.setIfInBounds_toArray, List.set_cons_zero, List.set_cons_succ])
      refine wpAnyH_ready (rs := [20]) (by kernel_rfl) (by simp) ?_
      refine AllReadyH.cons rfl (fun K hK => ?_) AllReadyH.nil
      go_simp
      refine hK.out _ _ ⟨y0s _, z4s _⟩ (fun hHeld => ?_)
      clear hK K
      (try simp only [Act.put, List.setIfInBounds_toArray, List.set_cons_zero, List.set_cons_succ])
      refine wpAnyH_done (by kernel_rfl) ?_ _
      go_wp2
      (try simp only [Exit.inBlock, Exit.then])
      first
      | (refine bodyPost_end (results_none rfl _ _ _) rfl ?_)
      | (refine bodyPost_ret (results_none rfl _ _ _) rfl ?_)
      obtain ⟨q1, q2, q3, q4, q5, q6⟩ := bput_end H.out hs hm P1.out P2.out HMM.out HKV.out HG5.out HO5.out HAT5.out
      first | exact ⟨q1, q2, q3, q4, q5, q6⟩ | exact ⟨q1, ⟨q2, q3, q4, q5⟩, q6⟩
end Go.Proofs.YtfolnkmbdmfigaaGreatDoor

set_option linter.unusedSimpArgs false
set_option linter.unusedVariables false
namespace Go.Proofs.YtfolnkmbdmfigaaGreatDoor
open Go.RowKit Go.Maps Go.Lib
variable {A K K' : Nat → Prop} {w w' w1 w2 W1 : World} {nv ov v' a : Value} {av kv : Nat → Value} {g : Gr} {Y : Nat} {er q : Int} {n : Nd}
theorem bput_ok (h : BRep A K Y w g er q nv ov av kv) (wf : g.Wf) (hk : KidsLe g) (n : Nd) (a : Value) (z : Int) (ha : w.ownsRow 0 82 2 a n.attrs.length (attrCells n.attrs)) (haA : ∀ k, a.ownBlock = some k → A k) (hn : n.kids = []) (hb : g.nodes.length ≤ 17179869184) :
    Calls Tryz.prog 45 #[.pointer (some ⟨Y, 0, none⟩), .agg #[.string ⟨n.name.toArray⟩, a, .string ⟨n.text.toArray⟩, .slice none 0 0, .int .i64 z]] w fun en w' => en = .returned (.tuple #[]) ∧ ∃ nv' av' kv', BRep A (Grow K w w') Y w' (g.put n) er q nv' ov av' kv' ∧ Frame (fun k => k = Y ∨ K k) w w' := by
  cases hs : g.stack with
  | nil => exact bput_none h hs n a z ha haA hn hb
  | cons k st =>
    obtain ⟨m, hm, _, _⟩ := wf.top hs
    exact bput_some h k st m hs hm (Nat.le_trans (hk k m hm) hb) n a z ha haA hn hb
set_option maxHeartbeats 4000000 in
set_option maxRecDepth 100000 in
theorem bblank_ok (s : ByteArray) (w : World) (hz : s.size ≤ 9223372036854775807) : Calls Tryz.prog 46 #[.string s] w fun en w' => en = .returned (.bool (s.data.toList.all fun c => isBlank c.toNat)) ∧ w' = w := by
  go_enter Tryz.func46, Tryz.ntmps46
  go_wp2_with fail
  go_loopw [3] (fun iv wr => ∃ i : Nat, iv = .int .i64 i ∧ i ≤ s.size ∧ wr = w ∧ ((s.data.toList.take i).all fun c => isBlank c.toNat) = true) (fun iv _ => s.size - (RowKit.intOf iv).toNat)
  case atStart => exact ⟨0, rfl, Nat.zero_le _, rfl, rfl⟩
  case round =>
    obtain ⟨i, rfl, hi, hwr, hall⟩ := hrel
    have hwr' := hwr.symm
    clear hwr
    subst hwr'
    by_cases hlt : i < s.size
    · have hdec : decide ((i : Int) < s.size) = true := by simp; omega
      have hdecn : decide (i < s.size) = true := by simp; omega
      have hii : (i : Int) < s.size := by omega
      have hl : s.data.toList.length = s.size := by simp
      have hget : s.data.toList[i]'(by omega) = s[i] := by simp [ByteArray.getElem_eq_getElem_data]
      have hbl := blankR_any (s[i]).toNat (UInt8.toNat_lt _) w
      have htake : s.data.toList.take (i + 1) = s.data.toList.take i ++ [s[i]] := by rw [← hget]; exact List.take_succ_eq_append_getElem (by omega)
      cases hbv : isBlank (s[i]).toNat
      · have hfalse : (s.data.toList.all fun c => isBlank c.toNat) = false := by
          rw [Bool.eq_false_iff]
          intro h
          have h2 := List.all_eq_true.1 h (s[i]) (by rw [← hget]; exact List.getElem_mem _)
          rw [hbv] at h2; cases h2
        rw [hbv] at hbl
        have HF := hide hfalse
        have HBL := hide hbl
        clear hfalse hbl htake hget hall
        go_wp2_with fail
        refine HBL.out.mono ?_
        rintro e wx ⟨rfl, hwx⟩
        have hwy := hwx.symm
        clear hwx
        subst hwy
        go_wp2
        go_ret
        exact ⟨by rw [HF.out]; rfl, rfl⟩
      · have hnext : ((s.data.toList.take (i + 1)).all fun c => isBlank c.toNat) = true := by
          rw [htake, List.all_append, hall]
          simp [hbv]
        rw [hbv] at hbl
        have HN := hide hnext
        have HBL := hide hbl
        clear hnext hbl htake hget hall
        go_wp2_with fail
        refine HBL.out.mono ?_
        rintro e wx ⟨rfl, hwx⟩
        have hwy := hwx.symm
        clear hwx
        subst hwy
        go_wp2
        go_roundw
        case rel => exact ⟨i + 1, by simp, by omega, by first | rfl | trivial, HN.out⟩
        case measure => simp only [RowKit.intOf]; omega
    · have hdec : decide ((i : Int) < s.size) = false := by simp; omega
      have hdecn : decide (i < s.size) = false := by simp; omega
      have he : i = s.size := by omega
      have hl : s.data.toList.length = s.size := by simp
      rw [he, ← hl, List.take_length] at hall
      have HALL := hide hall
      clear hall
      go_wp2
      go_ret
      exact ⟨by rw [HALL.out]; rfl, rfl⟩
end Go.Proofs.YtfolnkmbdmfigaaGreatDoor

set_option linter.unusedSimpArgs false
set_option linter.unusedVariables false
namespace Go.Proofs.YtfolnkmbdmfigaaGreatDoor
open Go.RowKit Go.Maps Go.Lib
variable {A K K' : Nat → Prop} {w w' w1 w2 W1 : World} {nv ov v' a : Value} {av kv : Nat → Value} {g : Gr} {Y : Nat} {er q : Int} {n : Nd}
structure BR (A K : Nat → Prop) (Y : Nat) (w : World) (g : Gr) (er q : Int) : Prop where
  ex : ∃ nv ov av kv, BRep A K Y w g er q nv ov av kv
  kids : KidsLe g
  wf : g.Wf
theorem BR.keep {W : World} (h : BR A K Y w g er q) (hM : More1 w W) : BR A K Y W g er q := by
  obtain ⟨⟨nv, ov, av, kv, h1⟩, h3, h4⟩ := h
  exact ⟨⟨nv, ov, av, kv, h1.keep hM⟩, h3, h4⟩
def bstep (g : Gr) (er q : Int) (t : Tok) : Gr × Int × Int := if er ≠ 0 then (g, er, q) else if (g.take t).1 ≠ 0 then (g, (g.take t).1, t.at_) else ((g.take t).2, 0, q)
def BTook (A K : Nat → Prop) (Y : Nat) (w : World) (x : Gr × Int × Int) (e : Ending) (w' : World) : Prop := e = .returned (.tuple #[]) ∧ BR A (Grow K w w') Y w' x.1 x.2.1 x.2.2 ∧ Frame (fun k => k = Y ∨ K k) w w'
set_option maxHeartbeats 4000000 in
set_option maxRecDepth 100000 in
theorem btake_err (h : BRep A K Y w g er q nv ov av kv) (he : er ≠ 0) (t : Tok) (ai : Option Addr) (an ac : Nat) :
    Calls Tryz.prog 28 #[.pointer (some ⟨Y, 0, none⟩), .agg #[.int .i64 t.kind, .string ⟨t.name.toArray⟩, .slice ai an ac, .string ⟨t.text.toArray⟩, .int .i64 t.at_]] w fun e w' => e = .returned (.tuple #[]) ∧ More1 w w' := by
  have c2 : ∀ o : Obj, (w.alloc o).cell? ⟨Y, 2, none⟩ = some (.int .i64 er) := fun o => cell_alloc o (h.cell 2 rfl)
  have e0 : (er != 0) = true := by simpa using he
  clear h he
  go_enter Tryz.func28, Tryz.ntmps28
  go_wp2
  (try simp only [Exit.inBlock, Exit.then])
  first
  | (refine bodyPost_end (results_none rfl _ _ _) rfl ?_)
  | (refine bodyPost_ret (results_none rfl _ _ _) rfl ?_)
  exact ⟨rfl, (More1.refl w).alloc _⟩
theorem frame_more {F : Nat → Prop} (hM : More1 w w1) (fr : Frame F w1 w2) : Frame F w w2 := hM.frame.trans' fr
set_option maxHeartbeats 4000000 in
set_option maxRecDepth 100000 in
theorem btake_root (h : BRep A K Y w g 0 q nv ov av kv) (t : Tok) (hs : g.stack = []) (hn : g.nodes ≠ []) (ai : Option Addr) (an ac : Nat) : Calls Tryz.prog 28 #[.pointer (some ⟨Y, 0, none⟩), .agg #[.int .i64 1, .string ⟨t.name.toArray⟩, .slice ai an ac, .string ⟨t.text.toArray⟩, .int .i64 t.at_]] w fun e w' => e = .returned (.tuple #[]) ∧ BRep A K Y w' g 7 t.at_ nv ov av kv ∧ Frame (fun k => k = Y) w w' := by
  obtain ⟨ni, nc, hnv⟩ := slice_len h.nodes.row
  obtain ⟨oi, oc, hov⟩ := slice_len h.opens
  subst hnv
  subst hov
  have htop : topOf g.stack = -1 := by rw [hs]; rfl
  have hl : decide (0 < g.nodes.length) = true := by
    cases hg : g.nodes with
    | nil => exact absurd hg hn
    | cons a l => simp
  clear hs hn
  have hup : ∀ o : Obj, Calls Tryz.prog 44 #[.pointer (some ⟨Y, 0, none⟩)] (w.alloc o) fun en w' => en = .returned (.int .i64 (-1)) ∧ More1 (w.alloc o) w' := fun o => by
    have := bup_ok (h.keep ((More1.refl w).alloc o))
    rw [htop] at this
    exact this
  have c2 : ∀ o : Obj, (w.alloc o).cell? ⟨Y, 2, none⟩ = some (.int .i64 0) := fun o => cell_alloc o (h.cell 2 rfl)
  have HUP := hide hup
  have H := hide h
  clear hup h htop
  go_enter Tryz.func28, Tryz.ntmps28
  go_wp2_with fail
  refine (HUP.out _).mono ?_
  rintro e w1 ⟨rfl, m1⟩
  have hM : More1 w w1 := ((More1.refl w).alloc _).trans m1
  have hbox : w1.heap[w.heap.size]? = some (.cells #[.int .i64 1, .string ⟨t.name.toArray⟩, .slice ai an ac, .string ⟨t.text.toArray⟩, .int .i64 t.at_] 72) := (m1.keep w.heap.size (by simp)).trans (Below_new w _)
  have r1 := H.out.keep hM
  have d0 : w1.cell? ⟨Y, 0, none⟩ = some (.slice ni g.nodes.length nc) := r1.cell 0 rfl
  have d1 : w1.cell? ⟨Y, 1, none⟩ = some (.slice oi g.stack.length oc) := r1.cell 1 rfl
  have b0 := cell_of (i := 0) hbox rfl
  have b1 := cell_of (i := 1) hbox rfl
  have b2 := cell_of (i := 2) hbox rfl
  have b3 := cell_of (i := 3) hbox rfl
  have b4 := cell_of (i := 4) hbox rfl
  have HM := hide hM
  have HBOX := hide hbox
  have R1 := hide r1
  clear r1 hM hbox m1
  have hfail := fun e p => bfail_ok R1.out e p
  have HF := hide hfail
  clear hfail
  go_wp2_with (first | (go_at_call 29; refine (HF.out _ _).mono ?_; rintro e w2 ⟨rfl, r2, f2⟩; have R2 := hide r2; have F2 := hide f2; clear r2 f2))
  (try simp only [Exit.inBlock, Exit.then])
  first
  | (refine bodyPost_end (results_none rfl _ _ _) rfl ?_)
  | (refine bodyPost_ret (results_none rfl _ _ _) rfl ?_)
  exact ⟨rfl, R2.out, frame_more (by first | exact HM.out | exact HM.out.drewN _) F2.out⟩
set_option maxHeartbeats 4000000 in
set_option maxRecDepth 100000 in
theorem btake_deep (h : BRep A K Y w g 0 q nv ov av kv) (t : Tok) (k : Nat) (st : List Nat) (hs : g.stack = k :: st) (hd : 30 ≤ g.stack.length) (ai : Option Addr) (an ac : Nat) : Calls Tryz.prog 28 #[.pointer (some ⟨Y, 0, none⟩), .agg #[.int .i64 1, .string ⟨t.name.toArray⟩, .slice ai an ac, .string ⟨t.text.toArray⟩, .int .i64 t.at_]] w fun e w' => e = .returned (.tuple #[]) ∧ BRep A K Y w' g 8 t.at_ nv ov av kv ∧ Frame (fun k => k = Y) w w' := by
  obtain ⟨ni, nc, hnv⟩ := slice_len h.nodes.row
  obtain ⟨oi, oc, hov⟩ := slice_len h.opens
  subst hnv
  subst hov
  have htop : topOf g.stack = (k : Int) := by rw [hs]; rfl
  have hd1 : decide (30 ≤ g.stack.length) = true := by simp; omega
  have hd2 : ¬ ((g.stack.length : Int) < 30) := by omega
  have hd3 : (30 : Int) ≤ (g.stack.length : Int) := by omega
  have hk0 : ¬ ((k : Int) < 0) := by omega
  clear hs hd
  have hup : ∀ o : Obj, Calls Tryz.prog 44 #[.pointer (some ⟨Y, 0, none⟩)] (w.alloc o) fun en w' => en = .returned (.int .i64 ((k : Int))) ∧ More1 (w.alloc o) w' := fun o => by
    have := bup_ok (h.keep ((More1.refl w).alloc o))
    rw [htop] at this
    exact this
  have c2 : ∀ o : Obj, (w.alloc o).cell? ⟨Y, 2, none⟩ = some (.int .i64 0) := fun o => cell_alloc o (h.cell 2 rfl)
  have HUP := hide hup
  have H := hide h
  clear hup h htop
  go_enter Tryz.func28, Tryz.ntmps28
  go_wp2_with fail
  refine (HUP.out _).mono ?_
  rintro e w1 ⟨rfl, m1⟩
  have hM : More1 w w1 := ((More1.refl w).alloc _).trans m1
  have hbox : w1.heap[w.heap.size]? = some (.cells #[.int .i64 1, .string ⟨t.name.toArray⟩, .slice ai an ac, .string ⟨t.text.toArray⟩, .int .i64 t.at_] 72) := (m1.keep w.heap.size (by simp)).trans (Below_new w _)
  have r1 := H.out.keep hM
  have d0 : w1.cell? ⟨Y, 0, none⟩ = some (.slice ni g.nodes.length nc) := r1.cell 0 rfl
  have d1 : w1.cell? ⟨Y, 1, none⟩ = some (.slice oi g.stack.length oc) := r1.cell 1 rfl
  have b0 := cell_of (i := 0) hbox rfl
  have b1 := cell_of (i := 1) hbox rfl
  have b2 := cell_of (i := 2) hbox rfl
  have b3 := cell_of (i := 3) hbox rfl
  have b4 := cell_of (i := 4) hbox rfl
  have HM := hide hM
  have HBOX := hide hbox
  have R1 := hide r1
  clear r1 hM hbox m1
  have hfail := fun e p => bfail_ok R1.out e p
  have HF := hide hfail
  clear hfail
  go_wp2_with (first | (go_at_call 29; refine (HF.out _ _).mono ?_; rintro e w2 ⟨rfl, r2, f2⟩; have R2 := hide r2; have F2 := hide f2; clear r2 f2))
  (try simp only [Exit.inBlock, Exit.then])
  first
  | (refine bodyPost_end (results_none rfl _ _ _) rfl ?_)
  | (refine bodyPost_ret (results_none rfl _ _ _) rfl ?_)
  exact ⟨rfl, R2.out, frame_more (by first | exact HM.out | exact HM.out.drewN _) F2.out⟩
set_option maxHeartbeats 4000000 in
set_option maxRecDepth 100000 in
theorem btake_none (h : BRep A K Y w g 0 q nv ov av kv) (t : Tok) (hs : g.stack = []) (ai : Option Addr) (an ac : Nat) : Calls Tryz.prog 28 #[.pointer (some ⟨Y, 0, none⟩), .agg #[.int .i64 2, .string ⟨t.name.toArray⟩, .slice ai an ac, .string ⟨t.text.toArray⟩, .int .i64 t.at_]] w fun e w' => e = .returned (.tuple #[]) ∧ BRep A K Y w' g 6 t.at_ nv ov av kv ∧ Frame (fun k => k = Y) w w' := by
  obtain ⟨ni, nc, hnv⟩ := slice_len h.nodes.row
  obtain ⟨oi, oc, hov⟩ := slice_len h.opens
  subst hnv
  subst hov
  have htop : topOf g.stack = -1 := by rw [hs]; rfl
  clear hs
  have hup : ∀ o : Obj, Calls Tryz.prog 44 #[.pointer (some ⟨Y, 0, none⟩)] (w.alloc o) fun en w' => en = .returned (.int .i64 (-1)) ∧ More1 (w.alloc o) w' := fun o => by
    have := bup_ok (h.keep ((More1.refl w).alloc o))
    rw [htop] at this
    exact this
  have c2 : ∀ o : Obj, (w.alloc o).cell? ⟨Y, 2, none⟩ = some (.int .i64 0) := fun o => cell_alloc o (h.cell 2 rfl)
  have HUP := hide hup
  have H := hide h
  clear hup h htop
  go_enter Tryz.func28, Tryz.ntmps28
  go_wp2_with fail
  refine (HUP.out _).mono ?_
  rintro e w1 ⟨rfl, m1⟩
  have hM : More1 w w1 := ((More1.refl w).alloc _).trans m1
  have hbox : w1.heap[w.heap.size]? = some (.cells #[.int .i64 2, .string ⟨t.name.toArray⟩, .slice ai an ac, .string ⟨t.text.toArray⟩, .int .i64 t.at_] 72) := (m1.keep w.heap.size (by simp)).trans (Below_new w _)
  have r1 := H.out.keep hM
  have d0 : w1.cell? ⟨Y, 0, none⟩ = some (.slice ni g.nodes.length nc) := r1.cell 0 rfl
  have d1 : w1.cell? ⟨Y, 1, none⟩ = some (.slice oi g.stack.length oc) := r1.cell 1 rfl
  have b0 := cell_of (i := 0) hbox rfl
  have b1 := cell_of (i := 1) hbox rfl
  have b2 := cell_of (i := 2) hbox rfl
  have b3 := cell_of (i := 3) hbox rfl
  have b4 := cell_of (i := 4) hbox rfl
  have HM := hide hM
  have HBOX := hide hbox
  have R1 := hide r1
  clear r1 hM hbox m1
  have hfail := fun nq e p => bfail_ok (R1.out.keep ((More1.refl w1).drewN nq)) e p
  have HF := hide hfail
  clear hfail
  go_wp2_with fail
  go_quiet (fail)
  go_wp2_with (first | (go_at_call 29; refine (HF.out _ _ _).mono ?_; rintro e w2 ⟨rfl, r2, f2⟩; have R2 := hide r2; have F2 := hide f2; clear r2 f2))
  (try simp only [Exit.inBlock, Exit.then])
  first
  | (refine bodyPost_end (results_none rfl _ _ _) rfl ?_)
  | (refine bodyPost_ret (results_none rfl _ _ _) rfl ?_)
  exact ⟨rfl, R2.out, frame_more (HM.out.drewN _) F2.out⟩
set_option maxHeartbeats 4000000 in
set_option maxRecDepth 100000 in
theorem btake_other (h : BRep A K Y w g 0 q nv ov av kv) (t : Tok) (k : Nat) (st : List Nat) (m : Nd) (hs : g.stack = k :: st) (hm : g.nodes[k]? = some m) (hne : m.name ≠ t.name) (ai : Option Addr) (an ac : Nat) : Calls Tryz.prog 28 #[.pointer (some ⟨Y, 0, none⟩), .agg #[.int .i64 2, .string ⟨t.name.toArray⟩, .slice ai an ac, .string ⟨t.text.toArray⟩, .int .i64 t.at_]] w fun e w' => e = .returned (.tuple #[]) ∧ BRep A K Y w' g 6 t.at_ nv ov av kv ∧ Frame (fun k => k = Y) w w' := by
  obtain ⟨gN, nc, hnv, hmx, hgK, m0, _⟩ := h.nodes.cells k m hm
  obtain ⟨oi, oc, hov⟩ := slice_len h.opens
  subst hnv
  subst hov
  have htop : topOf g.stack = (k : Int) := by rw [hs]; rfl
  have hkl : k < g.nodes.length := (List.getElem?_eq_some_iff.1 hm).1
  have hki : (k : Int) < g.nodes.length := by omega
  have hk0 : ¬ ((k : Int) < 0) := by omega
  have hnm : (m.name == t.name) = false := by simpa using hne
  have hgl : gN < w.heap.size := World.block_lt_of_cell? w _ m0
  have M0 := hide m0
  clear hs hm hne m0
  have hup : ∀ o : Obj, Calls Tryz.prog 44 #[.pointer (some ⟨Y, 0, none⟩)] (w.alloc o) fun en w' => en = .returned (.int .i64 ((k : Int))) ∧ More1 (w.alloc o) w' := fun o => by
    have := bup_ok (h.keep ((More1.refl w).alloc o))
    rw [htop] at this
    exact this
  have c2 : ∀ o : Obj, (w.alloc o).cell? ⟨Y, 2, none⟩ = some (.int .i64 0) := fun o => cell_alloc o (h.cell 2 rfl)
  have HUP := hide hup
  have H := hide h
  clear hup h htop
  go_enter Tryz.func28, Tryz.ntmps28
  go_wp2_with fail
  refine (HUP.out _).mono ?_
  rintro e w1 ⟨rfl, m1⟩
  have hM : More1 w w1 := ((More1.refl w).alloc _).trans m1
  have hbox : w1.heap[w.heap.size]? = some (.cells #[.int .i64 2, .string ⟨t.name.toArray⟩, .slice ai an ac, .string ⟨t.text.toArray⟩, .int .i64 t.at_] 72) := (m1.keep w.heap.size (by simp)).trans (Below_new w _)
  have r1 := H.out.keep hM
  have d0 : w1.cell? ⟨Y, 0, none⟩ = some (.slice (some ⟨gN, 0, none⟩) g.nodes.length nc) := r1.cell 0 rfl
  have d1 : w1.cell? ⟨Y, 1, none⟩ = some (.slice oi g.stack.length oc) := r1.cell 1 rfl
  have b0 := cell_of (i := 0) hbox rfl
  have b1 := cell_of (i := 1) hbox rfl
  have b2 := cell_of (i := 2) hbox rfl
  have b3 := cell_of (i := 3) hbox rfl
  have b4 := cell_of (i := 4) hbox rfl
  have HM := hide hM
  have HBOX := hide hbox
  have R1 := hide r1
  clear r1 hM hbox m1
  have e0 : w1.cell? ⟨gN, k * 5, none⟩ = some (.string ⟨m.name.toArray⟩) := (World.cell?_of_block (HM.out.keep gN hgl)).trans M0.out
  have hfail := fun nq e p => bfail_ok (R1.out.keep ((More1.refl w1).drewN nq)) e p
  have HF := hide hfail
  clear hfail
  go_wp2_with fail
  go_quiet (fail)
  go_wp2_with (first | (go_at_call 29; refine (HF.out _ _ _).mono ?_; rintro e w2 ⟨rfl, r2, f2⟩; have R2 := hide r2; have F2 := hide f2; clear r2 f2))
  (try simp only [Exit.inBlock, Exit.then])
  first
  | (refine bodyPost_end (results_none rfl _ _ _) rfl ?_)
  | (refine bodyPost_ret (results_none rfl _ _ _) rfl ?_)
  exact ⟨rfl, R2.out, frame_more (HM.out.drewN _) F2.out⟩
set_option maxHeartbeats 4000000 in
set_option maxRecDepth 100000 in
theorem btake_out_blank (h : BRep A K Y w g 0 q nv ov av kv) (t : Tok) (hk1 : t.kind ≠ 1) (hk2 : t.kind ≠ 2) (hs : g.stack = []) (hbl : blanksOnly t.text = true) (hz : t.text.length ≤ 9223372036854775807) (ai : Option Addr) (an ac : Nat) : Calls Tryz.prog 28 #[.pointer (some ⟨Y, 0, none⟩), .agg #[.int .i64 t.kind, .string ⟨t.name.toArray⟩, .slice ai an ac, .string ⟨t.text.toArray⟩, .int .i64 t.at_]] w fun e w' => e = .returned (.tuple #[]) ∧ More1 w w' := by
  obtain ⟨ni, nc, hnv⟩ := slice_len h.nodes.row
  obtain ⟨oi, oc, hov⟩ := slice_len h.opens
  subst hnv
  subst hov
  have htop : topOf g.stack = -1 := by rw [hs]; rfl
  have hbv : ∀ W, Calls Tryz.prog 46 #[.string ⟨t.text.toArray⟩] W fun en w' => en = .returned (.bool true) ∧ w' = W := fun W => by
    have h1 := bblank_ok ⟨t.text.toArray⟩ W (by simpa [ByteArray.size] using hz)
    have h2 : ((⟨t.text.toArray⟩ : ByteArray).data.toList.all fun c => isBlank c.toNat) = true := by
      have h3 : (⟨t.text.toArray⟩ : ByteArray).data.toList = t.text := by simp
      rw [h3]; unfold blanksOnly at hbl; simpa using hbl
    rw [h2] at h1
    exact h1
  have HBV := hide hbv
  have e1 : (t.kind == 1) = false := by simpa using hk1
  have e2 : (t.kind == 2) = false := by simpa using hk2
  clear hs hbl hbv hk1 hk2 hz
  have hup : ∀ o : Obj, Calls Tryz.prog 44 #[.pointer (some ⟨Y, 0, none⟩)] (w.alloc o) fun en w' => en = .returned (.int .i64 (-1)) ∧ More1 (w.alloc o) w' := fun o => by
    have := bup_ok (h.keep ((More1.refl w).alloc o))
    rw [htop] at this
    exact this
  have c2 : ∀ o : Obj, (w.alloc o).cell? ⟨Y, 2, none⟩ = some (.int .i64 0) := fun o => cell_alloc o (h.cell 2 rfl)
  have HUP := hide hup
  have H := hide h
  clear hup h htop
  go_enter Tryz.func28, Tryz.ntmps28
  go_wp2_with fail
  refine (HUP.out _).mono ?_
  rintro e w1 ⟨rfl, m1⟩
  have hM : More1 w w1 := ((More1.refl w).alloc _).trans m1
  have hbox : w1.heap[w.heap.size]? = some (.cells #[.int .i64 t.kind, .string ⟨t.name.toArray⟩, .slice ai an ac, .string ⟨t.text.toArray⟩, .int .i64 t.at_] 72) := (m1.keep w.heap.size (by simp)).trans (Below_new w _)
  have r1 := H.out.keep hM
  have d0 : w1.cell? ⟨Y, 0, none⟩ = some (.slice ni g.nodes.length nc) := r1.cell 0 rfl
  have d1 : w1.cell? ⟨Y, 1, none⟩ = some (.slice oi g.stack.length oc) := r1.cell 1 rfl
  have b0 := cell_of (i := 0) hbox rfl
  have b1 := cell_of (i := 1) hbox rfl
  have b2 := cell_of (i := 2) hbox rfl
  have b3 := cell_of (i := 3) hbox rfl
  have b4 := cell_of (i := 4) hbox rfl
  have HM := hide hM
  have HBOX := hide hbox
  have R1 := hide r1
  clear r1 hM hbox m1
  go_wp2_with (first | (go_at_call 46; refine (HBV.out _).mono ?_; rintro e wx ⟨rfl, hwx⟩; have hwy := hwx.symm; clear hwx; subst hwy))
  (try simp only [Exit.inBlock, Exit.then])
  first
  | (refine bodyPost_end (results_none rfl _ _ _) rfl ?_)
  | (refine bodyPost_ret (results_none rfl _ _ _) rfl ?_)
  exact ⟨rfl, HM.out⟩
set_option maxHeartbeats 4000000 in
set_option maxRecDepth 100000 in
theorem btake_out_bad (h : BRep A K Y w g 0 q nv ov av kv) (t : Tok) (hk1 : t.kind ≠ 1) (hk2 : t.kind ≠ 2) (hs : g.stack = []) (hbl : ¬ blanksOnly t.text = true) (hz : t.text.length ≤ 9223372036854775807) (ai : Option Addr) (an ac : Nat) : Calls Tryz.prog 28 #[.pointer (some ⟨Y, 0, none⟩), .agg #[.int .i64 t.kind, .string ⟨t.name.toArray⟩, .slice ai an ac, .string ⟨t.text.toArray⟩, .int .i64 t.at_]] w fun e w' => e = .returned (.tuple #[]) ∧ BRep A K Y w' g 7 t.at_ nv ov av kv ∧ Frame (fun k => k = Y) w w' := by
  obtain ⟨ni, nc, hnv⟩ := slice_len h.nodes.row
  obtain ⟨oi, oc, hov⟩ := slice_len h.opens
  subst hnv
  subst hov
  have htop : topOf g.stack = -1 := by rw [hs]; rfl
  have hbv : ∀ W, Calls Tryz.prog 46 #[.string ⟨t.text.toArray⟩] W fun en w' => en = .returned (.bool false) ∧ w' = W := fun W => by
    have h1 := bblank_ok ⟨t.text.toArray⟩ W (by simpa [ByteArray.size] using hz)
    have h2 : ((⟨t.text.toArray⟩ : ByteArray).data.toList.all fun c => isBlank c.toNat) = false := by
      have h3 : (⟨t.text.toArray⟩ : ByteArray).data.toList = t.text := by simp
      rw [h3]; unfold blanksOnly at hbl; simpa using hbl
    rw [h2] at h1
    exact h1
  have HBV := hide hbv
  have e1 : (t.kind == 1) = false := by simpa using hk1
  have e2 : (t.kind == 2) = false := by simpa using hk2
  clear hs hbl hbv hk1 hk2 hz
  have hup : ∀ o : Obj, Calls Tryz.prog 44 #[.pointer (some ⟨Y, 0, none⟩)] (w.alloc o) fun en w' => en = .returned (.int .i64 (-1)) ∧ More1 (w.alloc o) w' := fun o => by
    have := bup_ok (h.keep ((More1.refl w).alloc o))
    rw [htop] at this
    exact this
  have c2 : ∀ o : Obj, (w.alloc o).cell? ⟨Y, 2, none⟩ = some (.int .i64 0) := fun o => cell_alloc o (h.cell 2 rfl)
  have HUP := hide hup
  have H := hide h
  clear hup h htop
  go_enter Tryz.func28, Tryz.ntmps28
  go_wp2_with fail
  refine (HUP.out _).mono ?_
  rintro e w1 ⟨rfl, m1⟩
  have hM : More1 w w1 := ((More1.refl w).alloc _).trans m1
  have hbox : w1.heap[w.heap.size]? = some (.cells #[.int .i64 t.kind, .string ⟨t.name.toArray⟩, .slice ai an ac, .string ⟨t.text.toArray⟩, .int .i64 t.at_] 72) := (m1.keep w.heap.size (by simp)).trans (Below_new w _)
  have r1 := H.out.keep hM
  have d0 : w1.cell? ⟨Y, 0, none⟩ = some (.slice ni g.nodes.length nc) := r1.cell 0 rfl
  have d1 : w1.cell? ⟨Y, 1, none⟩ = some (.slice oi g.stack.length oc) := r1.cell 1 rfl
  have b0 := cell_of (i := 0) hbox rfl
  have b1 := cell_of (i := 1) hbox rfl
  have b2 := cell_of (i := 2) hbox rfl
  have b3 := cell_of (i := 3) hbox rfl
  have b4 := cell_of (i := 4) hbox rfl
  have HM := hide hM
  have HBOX := hide hbox
  have R1 := hide r1
  clear r1 hM hbox m1
  have hfail := fun e p => bfail_ok R1.out e p
  have HF := hide hfail
  clear hfail
  go_wp2_with (first | (go_at_call 29; refine (HF.out _ _).mono ?_; rintro e w2 ⟨rfl, r2, f2⟩; have R2 := hide r2; have F2 := hide f2; clear r2 f2) | (go_at_call 46; refine (HBV.out _).mono ?_; rintro e wx ⟨rfl, hwx⟩; have hwy := hwx.symm; clear hwx; subst hwy))
  (try simp only [Exit.inBlock, Exit.then])
  first
  | (refine bodyPost_end (results_none rfl _ _ _) rfl ?_)
  | (refine bodyPost_ret (results_none rfl _ _ _) rfl ?_)
  exact ⟨rfl, R2.out, frame_more (by first | exact HM.out | exact HM.out.drewN _) F2.out⟩
end Go.Proofs.YtfolnkmbdmfigaaGreatDoor
