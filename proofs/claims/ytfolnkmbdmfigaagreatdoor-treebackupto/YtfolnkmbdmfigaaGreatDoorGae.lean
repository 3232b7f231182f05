import Derived.Deep.RegionLaw
import Derived.Test.YtfolnkmbdmfigaaGreatDoorGad
set_option linter.unusedVariables false
set_option linter.unusedSimpArgs false
namespace Go.Proofs.YtfolnkmbdmfigaaGreatDoor
open Go.RowKit Go.Maps
variable {F : Nat → Prop} {R : Nat} {w w' : World} {s : Src} {p : Ptr} {st : St} {c : Int}
theorem Own.attrMore (h : Own F R w p st) (hlt : ∀ k, F k → k < w.heap.size) (hR : F R)
    (hK : Kept R p.attrs.ownBlock w w') (v : Value) (a : List UInt8 × List UInt8) (ho : w'.ownsRow 0 44 2 v (st.attrs.length + 1) (attrCells st.attrs ++ [strV a.1, strV a.2])) (hat : v.ownBlock = p.attrs.ownBlock ∨ ∀ k, v.ownBlock = some k → w.heap.size ≤ k) :
    Own (Grow F w w') R w' { p with attrs := v } { st with attrs := st.attrs ++ [a] } := by
  have keep : ∀ k, F k → k ≠ R → p.attrs.ownBlock ≠ some k → w'.heap[k]? = w.heap[k]? := fun k a b c => hK.block k (hlt k a) b (fun e => c e.symm)
  obtain ⟨cs, hc, hT⟩ := h.told
  refine ⟨fun i => owns_of (h.run i) fun k e => keep k (h.runF i k e).1 (h.runF i k e).2 (tag_ne (h.run i) h.attrs (by decide) e), fun i k e => ⟨Or.inl (h.runF i k e).1, (h.runF i k e).2⟩, h.apart,
    ⟨cs, owns_of hc fun k e => keep k (h.toldF k e).1 (h.toldF k e).2 (tag_ne hc h.attrs (by decide) e), ?_⟩, fun k e => ⟨Or.inl (h.toldF k e).1, (h.toldF k e).2⟩, ?_, ?_, ?_⟩
  · refine hT.frame fun k n xs v' ho' hv a b c => ⟨keep k a b c, Or.inl a, ?_⟩
    rcases hat with e2 | e2
    · show v.ownBlock ≠ some k
      rw [e2]; exact c
    · intro e
      have h1 := e2 k e
      have h2 := hlt k a
      omega
  · rw [List.length_append]
    have : attrCells (st.attrs ++ [a]) = attrCells st.attrs ++ [strV a.1, strV a.2] := by simp [attrCells]
    show w'.ownsRow 0 44 2 v (st.attrs.length + 1) (attrCells (st.attrs ++ [a]))
    rw [this]
    exact ho
  · intro k e
    rcases hat with e2 | e2
    · have e3 : p.attrs.ownBlock = some k := by rw [← e2]; exact e
      exact ⟨Or.inl (h.attrsF k e3).1, (h.attrsF k e3).2⟩
    · have h1 := e2 k e
      have h2 := hlt R hR
      obtain ⟨c, hc⟩ := owns_blk ho e
      exact ⟨Or.inr ⟨h1, (Array.getElem?_eq_some_iff.1 hc).1⟩, by omega⟩
  · rcases h.names with hn | ⟨b, h1, h2, h3, h4⟩
    · exact Or.inl hn
    · exact Or.inr ⟨b, h1, Or.inl h2, h3, map_of h4 (keep b h2 h3 (map_ne h.attrs h4))⟩
def TA (R : Nat) (ao : Option Addr) (n cap : Nat) (bo : Option Addr) (m bap : Nat) (l k : List UInt8) (W : World) : Prop :=
  W.cell? ⟨R, 13, none⟩ = some (.slice ao n cap) ∧ W.cell? ⟨R, 15, none⟩ = some (.slice bo m bap) ∧ W.ownsRow 0 5 1 (.slice ao n cap) l.length (Lib.byteCells l) ∧ W.ownsRow 0 5 1 (.slice bo m bap) k.length (Lib.byteCells k)
theorem cell_set11 {w : World} {R i : Nat} {v : Value} (u : Value) (h : w.cell? ⟨R, i, none⟩ = some v) (hi : i ≠ 11) : (w.setCell ⟨R, 11, none⟩ u).cell? ⟨R, i, none⟩ = some v := by
  rw [World.cell?_setCell_other]
  · exact h
  · simp [hi]
theorem ta_alloc {ao bo : Option Addr} {n cap m bap : Nat} {l k : List UInt8} {W : World} (h : TA R ao n cap bo m bap l k W) (o : Obj) : TA R ao n cap bo m bap l k (W.alloc o) :=
  ⟨cell_alloc o h.1, cell_alloc o h.2.1, h.2.2.1.alloc o, h.2.2.2.alloc o⟩
theorem ta_set {ao bo : Option Addr} {n cap m bap : Nat} {l k : List UInt8} {W : World} (hR : (Value.slice ao n cap).ownBlock ≠ some R) (hR2 : (Value.slice bo m bap).ownBlock ≠ some R) (h : TA R ao n cap bo m bap l k W) (u : Value) : TA R ao n cap bo m bap l k (W.setCell ⟨R, 11, none⟩ u) :=
  ⟨cell_set11 u h.1 (by decide), cell_set11 u h.2.1 (by decide), owns_setCell h.2.2.1 _ _ hR, owns_setCell h.2.2.2 _ _ hR2⟩
theorem attr_news (w : World) (a b : List UInt8) : ∀ j u, [strV a, strV b][j]? = some u → (w.alloc (.cells #[strV a, strV b] 44)).cell? ((⟨w.heap.size, 0, none⟩ : Addr).add j) = some u := by
  intro j u hu
  rw [Addr.add_lit, Nat.zero_add, cell_of (heap_alloc_new w _) (v := u)]
  show ([strV a, strV b].toArray)[j]? = some u
  rw [List.getElem?_toArray]
  exact hu
theorem attr_one (a b : List UInt8) : ∀ u ∈ [strV a, strV b], u.oneCell' = true := by
  intro u hu
  simp only [List.mem_cons, List.not_mem_nil, or_false] at hu
  rcases hu with rfl | rfl <;> rfl
theorem attrs_ne (h : Own F R w p st) (hR : R < w.heap.size) {v : Value} (hat : v.ownBlock = p.attrs.ownBlock ∨ v.ownBlock = some (w.heap.size + 1)) : ∀ k, v.ownBlock = some k → k ≠ R := by
  intro k e
  rcases hat with e2 | e2
  · rw [e2] at e; exact (h.attrsF k e).2
  · rw [e2] at e; cases e; omega
theorem attrs_at {v : Value} (hat : v.ownBlock = p.attrs.ownBlock ∨ v.ownBlock = some (w.heap.size + 1)) : v.ownBlock = p.attrs.ownBlock ∨ ∀ k, v.ownBlock = some k → w.heap.size ≤ k := by
  rcases hat with e2 | e2
  · exact Or.inl e2
  · exact Or.inr fun k e => by rw [e2] at e; cases e; omega
theorem Kept.frameA (h : Kept R p.attrs.ownBlock w w') (ho : Own F R w p st) (hR : F R) : Frame F w w' :=
  ⟨h.os, h.tape, h.output, h.size, fun k hl hf => h.block k hl (fun e => hf (e ▸ hR)) (fun e => hf (ho.attrsF k e.symm).1)⟩
theorem addAttr_close {w1 o} {v' : Value} (h : Rep F R w s p st)
    (hg : (w.drew.alloc o).grownBy w1 p.attrs.ownBlock) (ho : w1.ownsRow 0 44 2 v' (st.attrs.length + 1) (attrCells st.attrs ++ [strV (st.run .attr), strV (st.run .value)])) (hat : v'.ownBlock = p.attrs.ownBlock ∨ v'.ownBlock = some (w.heap.size + 1)) :
    ∃ p', Rep (Grow F w (((w1.setCell ⟨R, 11, none⟩ v').setCell ⟨R, 15, none⟩ (.slice none 0 0)).setCell ⟨R, 16, none⟩ (.int .i64 0))) R (((w1.setCell ⟨R, 11, none⟩ v').setCell ⟨R, 15, none⟩ (.slice none 0 0)).setCell ⟨R, 16, none⟩ (.int .i64 0)) s p' st.addAttr ∧ Frame F w (((w1.setCell ⟨R, 11, none⟩ v').setCell ⟨R, 15, none⟩ (.slice none 0 0)).setCell ⟨R, 16, none⟩ (.int .i64 0)) := by
  have hR := h.lt R h.inR
  obtain ⟨hk, hsz⟩ := heap3 (R := R) w1 11 15 16 v' (.slice none 0 0) (.int .i64 0)
  have hb1 := grown_blk h.blk (fun e => (h.own.attrsF R e).2 rfl) hg
  have hb := set_of (i := 16) (set_of (i := 15) (set_of (i := 11) hb1 v') (.slice none 0 0)) (.int .i64 0)
  have hK : Kept R p.attrs.ownBlock w _ := kept_of (R := R) hg hsz hk rfl rfl rfl
  have hne : ∀ k, v'.ownBlock = some k → k ≠ R := attrs_ne h.own hR hat
  generalize ((w1.setCell ⟨R, 11, none⟩ v').setCell ⟨R, 15, none⟩ (.slice none 0 0)).setCell ⟨R, 16, none⟩ (.int .i64 0) = w' at *
  have o1 := h.own.attrMore h.lt h.inR hK v' (st.run .attr, st.run .value) (owns_of ho fun k e => hk k (hne k e)) (attrs_at hat)
  have hlt' : ∀ k, Grow F w w' k → k < w'.heap.size := grow_lt h.lt hK.size
  refine ⟨_, ⟨?_, Or.inl h.inR, hlt', o1.clear hlt' (Or.inl h.inR) .value⟩, hK.frameA h.own h.inR⟩
  rw [hb]
  rfl
set_option maxHeartbeats 4000000 in
set_option maxRecDepth 100000 in
theorem addAttr_rep (h : Rep F R w s p st) (hs : st.attrs.length ≤ 1099511627780) :
    Calls Tryz.prog 166 #[.pointer (some ⟨R, 0, none⟩)] w fun e w' => e = .returned (.tuple #[]) ∧ ∃ p', Rep (Grow F w w') R w' s p' st.addAttr ∧ Frame F w w' := by
  obtain ⟨i0, hi, hz0, hz1, hz2⟩ := info_parts info52
  obtain ⟨ao, cap, hv⟩ := slice_len (h.own.run .attr)
  obtain ⟨bo, bap, hw⟩ := slice_len (h.own.run .value)
  obtain ⟨ti, tc, htv⟩ := slice_len h.own.attrs
  have hl1 : w.ownsRow 0 5 1 (.slice ao (st.run .attr).length cap) (st.run .attr).length (Lib.byteCells (st.run .attr)) := by rw [← hv]; exact h.own.run .attr
  have hl2 : w.ownsRow 0 5 1 (.slice bo (st.run .value).length bap) (st.run .value).length (Lib.byteCells (st.run .value)) := by rw [← hw]; exact h.own.run .value
  have hR2 : (Value.slice ao (st.run .attr).length cap).ownBlock ≠ some R := by rw [← hv]; exact fun e => (h.own.runF .attr R e).2 rfl
  have hR3 : (Value.slice bo (st.run .value).length bap).ownBlock ≠ some R := by rw [← hw]; exact fun e => (h.own.runF .value R e).2 rfl
  have hRt : (Value.slice ti st.attrs.length tc).ownBlock ≠ some R := by rw [← htv]; exact fun e => (h.own.attrsF R e).2 rfl
  have c11 : w.cell? ⟨R, 11, none⟩ = some (.slice ti st.attrs.length tc) := by rw [← htv]; exact h.cell 11 rfl
  have c13 : w.cell? ⟨R, 13, none⟩ = some (.slice ao (st.run .attr).length cap) := by rw [← hv]; exact h.cell 13 rfl
  have c15 : w.cell? ⟨R, 15, none⟩ = some (.slice bo (st.run .value).length bap) := by rw [← hw]; exact h.cell 15 rfl
  have hcv : ∀ W : World, W.ownsRow 0 5 1 (.slice ao (st.run .attr).length cap) (st.run .attr).length (Lib.byteCells (st.run .attr)) → (convert 87 9 (.slice ao (st.run .attr).length cap)).run Tryz.prog W = .ok (.string ⟨(st.run .attr).toArray⟩) W := fun W h => conv_own h
  have hcv2 : ∀ W : World, W.ownsRow 0 5 1 (.slice bo (st.run .value).length bap) (st.run .value).length (Lib.byteCells (st.run .value)) → (convert 87 9 (.slice bo (st.run .value).length bap)).run Tryz.prog W = .ok (.string ⟨(st.run .value).toArray⟩) W := fun W h => conv_own h
  have HT : Hid (w.ownsRow 0 44 2 (.slice ti st.attrs.length tc) st.attrs.length (attrCells st.attrs)) := by rw [← htv]; exact h.own.attrs
  have HL := hide hl1
  have HM := hide hl2
  have T0 : Hid (TA R ao (st.run .attr).length cap bo (st.run .value).length bap (st.run .attr) (st.run .value) w.drew) := ⟨c13, c15, HL.out.drew, HM.out.drew⟩
  have T1 : Hid (∀ o, TA R ao (st.run .attr).length cap bo (st.run .value).length bap (st.run .attr) (st.run .value) (w.drew.alloc o)) := fun o => ta_alloc T0.out o
  have hlt := h.lt R h.inR
  have H1 := hide h
  have HV := hide htv
  clear h hl1 hl2 hv hw htv
  have hcv1 := hcv w.drew HL.out.drew
  have hcv3 := hcv2 w.drew HM.out.drew
  go_enter Tryz.func166, Tryz.ntmps166
  go_wp2_with fail
  go_region_law
    (first | (
      refine step_own_at rfl (.tmp 6) (.tmp 20) 39 rfl 44 i0 _ 2 32 Tryz.underlying39 hi hz0 hz1 hz2 rfl (by decide) (.slice ti st.attrs.length tc) st.attrs.length (attrCells st.attrs) (by simp [Act.eval, Act.put]) (HT.out.drew.alloc _) ⟨w.heap.size, 0, none⟩ 1 1 [strV (st.run .attr), strV (st.run .value)] (by simp [Act.eval, Act.put]) rfl (attr_news _ _ _) (attr_one _ _) (by unfold maxLen; omega) (by omega) ?_
      intro v' w2 ho hg hat
      obtain ⟨ao', cap', rfl⟩ := slice_len ho
      have hb1 := grown_blk H1.out.blk hRt hg
      have c11' : w2.cell? ⟨R, 11, none⟩ = some (p.attrs) := cell_of hb1 rfl
      have c13' : w2.cell? ⟨R, 13, none⟩ = some (.slice ao (st.run .attr).length cap) := (cell_of hb1 rfl).trans ((H1.out.cell 13 rfl).symm.trans c13)
      have c15' : w2.cell? ⟨R, 15, none⟩ = some (.slice bo (st.run .value).length bap) := (cell_of hb1 rfl).trans ((H1.out.cell 15 rfl).symm.trans c15)
      have c16' : w2.cell? ⟨R, 16, none⟩ = some (.int .i64 (st.runAt .value)) := cell_of hb1 rfl
      have f11' := free_of (i := 11) hb1
      have f15' := free_of (i := 15) hb1
      have f16' := free_of (i := 16) hb1
      have T2 : Hid (TA R ao (st.run .attr).length cap bo (st.run .value).length bap (st.run .attr) (st.run .value) w2) := ⟨c13', c15', own_grown (HL.out.drew.alloc _) (HT.out.drew.alloc _) (by decide) hg, own_grown (HM.out.drew.alloc _) (HT.out.drew.alloc _) (by decide) hg⟩
      have T3 : Hid (∀ v, TA R ao (st.run .attr).length cap bo (st.run .value).length bap (st.run .attr) (st.run .value) (w2.setCell ⟨R, 11, none⟩ v)) := fun v => ta_set hR2 hR3 T2.out v
      have HO := hide ho
      have HG := hide hg
      have HA := hide hat
      clear ho hg hat hb1))
  all_goals
    go_wp2
    go_end0
    obtain ⟨p2, r2, f2⟩ := addAttr_close H1.out (by rw [HV.out]; exact HG.out) HO.out (by rw [HV.out]; simpa using HA.out)
    exact ⟨rfl, p2, r2, f2⟩
end Go.Proofs.YtfolnkmbdmfigaaGreatDoor
