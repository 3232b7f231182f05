import Derived.Deep.RegionLaw
import Derived.Test.YtfolnkmbdmfigaaGreatDoorGad
set_option linter.unusedVariables false
set_option linter.unusedSimpArgs false
namespace Go.Proofs.YtfolnkmbdmfigaaGreatDoor
open Go.RowKit Go.Maps
variable {F : Nat → Prop} {R : Nat} {w w' : World} {s : Src} {p : Ptr} {st : St} {c : Int}
def TO (R : Nat) (ao : Option Addr) (n cap : Nat) (q : Int) (l : List UInt8) (ai : Option Addr) (an ac : Nat) (W : World) : Prop :=
  W.cell? ⟨R, 9, none⟩ = some (.slice ao n cap) ∧ W.cell? ⟨R, 8, none⟩ = some (.int .i64 q) ∧ W.cell? ⟨R, 11, none⟩ = some (.slice ai an ac) ∧ W.ownsRow 0 5 1 (.slice ao n cap) l.length (Lib.byteCells l)
theorem to_alloc {ao : Option Addr} {n cap : Nat} {q : Int} {l : List UInt8} {ai : Option Addr} {an ac : Nat} {W : World} (h : TO R ao n cap q l ai an ac W) (o : Obj) : TO R ao n cap q l ai an ac (W.alloc o) :=
  ⟨cell_alloc o h.1, cell_alloc o h.2.1, cell_alloc o h.2.2.1, h.2.2.2.alloc o⟩
theorem to_set {ao : Option Addr} {n cap : Nat} {q : Int} {l : List UInt8} {ai : Option Addr} {an ac : Nat} {W : World} (hR : (Value.slice ao n cap).ownBlock ≠ some R) (h : TO R ao n cap q l ai an ac W) (u : Value) : TO R ao n cap q l ai an ac (W.setCell ⟨R, 5, none⟩ u) :=
  ⟨cell_set5 u h.1 (by decide), cell_set5 u h.2.1 (by decide), cell_set5 u h.2.2.1 (by decide), owns_setCell h.2.2.2 _ _ hR⟩
theorem tellOpening_close {w1 o} {v' : Value} (h : Rep F R w s p st) {cs : List Value} (hc : w.ownsRow 0 56 5 p.told st.told.length cs) (hT : Toks F R w p.attrs st.told cs)
    (hg : (w.drew.alloc o).grownBy w1 p.told.ownBlock) (ho : w1.ownsRow 0 56 5 v' (st.told.length + 1) (cs ++ tokCells ⟨1, st.run .name, st.attrs, [], st.tagAt⟩ p.attrs)) (hat : v'.ownBlock = p.told.ownBlock ∨ v'.ownBlock = some (w.heap.size + 1)) :
    ∃ p', Rep (Grow F w (((w1.setCell ⟨R, 5, none⟩ v').setCell ⟨R, 11, none⟩ (.slice none 0 0)).setCell ⟨R, 12, none⟩ (.map none))) R (((w1.setCell ⟨R, 5, none⟩ v').setCell ⟨R, 11, none⟩ (.slice none 0 0)).setCell ⟨R, 12, none⟩ (.map none)) s p' { st with told := st.told ++ [⟨1, st.run .name, st.attrs, [], st.tagAt⟩], attrs := [], names := [] } ∧ Frame F w (((w1.setCell ⟨R, 5, none⟩ v').setCell ⟨R, 11, none⟩ (.slice none 0 0)).setCell ⟨R, 12, none⟩ (.map none)) := by
  have hR := h.lt R h.inR
  obtain ⟨hk, hsz⟩ := heap3 (R := R) w1 5 11 12 v' (.slice none 0 0) (.map none)
  have hb1 := grown_blk h.blk (fun e => (h.own.toldF R e).2 rfl) hg
  have hb := set_of (i := 12) (set_of (i := 11) (set_of (i := 5) hb1 v') (.slice none 0 0)) (.map none)
  have hK : Kept R p.told.ownBlock w _ := kept_of (R := R) hg hsz hk rfl rfl rfl
  have hne : ∀ k, v'.ownBlock = some k → k ≠ R := told_ne h.own hR hat
  generalize ((w1.setCell ⟨R, 5, none⟩ v').setCell ⟨R, 11, none⟩ (.slice none 0 0)).setCell ⟨R, 12, none⟩ (.map none) = w' at *
  have o1 := h.own.tellOpen h.lt h.inR hc hT hK v' ⟨1, st.run .name, st.attrs, [], st.tagAt⟩ rfl (owns_of ho fun k e => hk k (hne k e)) (told_at hat)
  have hlt' : ∀ k, Grow F w w' k → k < w'.heap.size := grow_lt h.lt hK.size
  refine ⟨_, ⟨?_, Or.inl h.inR, hlt', o1⟩, hK.frame h.own h.inR⟩
  rw [hb]
  rfl
set_option maxHeartbeats 4000000 in
set_option maxRecDepth 100000 in
theorem tellOpening_rep (h : Rep F R w s p st) (hs : st.told.length ≤ 1099511627780) :
    Calls Tryz.prog 115 #[.pointer (some ⟨R, 0, none⟩)] w fun e w' => e = .returned (.tuple #[]) ∧ ∃ p', Rep (Grow F w w') R w' s p' st.tellOpening ∧ Frame F w w' := by
  have hcall := tellText_rep h (by omega)
  have hsl : st.tellText.told.length ≤ 1099511627790 := by unfold St.tellText; split <;> first | omega | (simp [St.clear, St.setRun]; omega)
  have hst : st.tellOpening = { st.tellText with told := st.tellText.told ++ [⟨1, st.tellText.run .name, st.tellText.attrs, [], st.tellText.tagAt⟩], attrs := [], names := [] } := by
    unfold St.tellOpening St.tellText
    split <;> rfl
  have HST := hide hst
  generalize st.tellText = st1 at *
  clear hst
  obtain ⟨i0, hi, hz0, hz1, hz2⟩ := info_parts info49
  have H := hide h
  clear h
  go_enter Tryz.func115, Tryz.ntmps115
  go_wp2_with (go_at_call 55; refine hcall.mono ?_; rintro e w1 ⟨rfl, p1, h1, fr1, en1, en2⟩; clear en1 en2)
  clear hcall
  obtain ⟨ao, cap, hv⟩ := slice_len (h1.own.run .name)
  have hl1 : w1.ownsRow 0 5 1 (.slice ao (st1.run .name).length cap) (st1.run .name).length (Lib.byteCells (st1.run .name)) := by rw [← hv]; exact h1.own.run .name
  have hR2 : (Value.slice ao (st1.run .name).length cap).ownBlock ≠ some R := by rw [← hv]; exact fun e => (h1.own.runF .name R e).2 rfl
  obtain ⟨ai, ac, hav⟩ := slice_len h1.own.attrs
  obtain ⟨cs, hc, hT⟩ := h1.own.told
  obtain ⟨ti, tc, htv⟩ := slice_len hc
  have hRt : (Value.slice ti st1.told.length tc).ownBlock ≠ some R := by rw [← htv]; exact fun e => (h1.own.toldF R e).2 rfl
  have c5 : w1.cell? ⟨R, 5, none⟩ = some (.slice ti st1.told.length tc) := by rw [← htv]; exact h1.cell 5 rfl
  have c9 : w1.cell? ⟨R, 9, none⟩ = some (.slice ao (st1.run .name).length cap) := by rw [← hv]; exact h1.cell 9 rfl
  have c8 : w1.cell? ⟨R, 8, none⟩ = some (.int .i64 st1.tagAt) := h1.cell 8 rfl
  have c11 : w1.cell? ⟨R, 11, none⟩ = some (.slice ai st1.attrs.length ac) := by rw [← hav]; exact h1.cell 11 rfl
  have hcv : ∀ W : World, W.ownsRow 0 5 1 (.slice ao (st1.run .name).length cap) (st1.run .name).length (Lib.byteCells (st1.run .name)) → (convert 87 9 (.slice ao (st1.run .name).length cap)).run Tryz.prog W = .ok (.string ⟨(st1.run .name).toArray⟩) W := fun W h => conv_own h
  have HT : Hid (w1.ownsRow 0 56 5 (.slice ti st1.told.length tc) st1.told.length cs) := by rw [← htv]; exact hc
  have HL := hide hl1
  have T0 : Hid (TO R ao (st1.run .name).length cap st1.tagAt (st1.run .name) ai st1.attrs.length ac w1.drew) := ⟨c9, c8, c11, HL.out.drew⟩
  have T1 : Hid (∀ o, TO R ao (st1.run .name).length cap st1.tagAt (st1.run .name) ai st1.attrs.length ac (w1.drew.alloc o)) := fun o => to_alloc T0.out o
  have hlt := h1.lt R h1.inR
  have H1 := hide h1
  have HC := hide hc
  have HTT := hide hT
  have HV := hide htv
  have HAV := hide hav
  clear h1 hc hT hl1 hv htv hav
  have hcv1 := hcv w1.drew HL.out.drew
  go_region_law
    (first | (
      refine step_own_at rfl (.tmp 8) (.tmp 24) 47 rfl 56 i0 _ 5 72 Tryz.underlying47 hi hz0 hz1 hz2 rfl (by decide) (.slice ti st1.told.length tc) st1.told.length cs (by simp [Act.eval, Act.put]) (HT.out.drew.alloc _) ⟨w1.heap.size, 0, none⟩ 1 1 (tokCells ⟨1, st1.run .name, st1.attrs, [], st1.tagAt⟩ (.slice ai st1.attrs.length ac)) (by simp [Act.eval, Act.put]) rfl (tok_news _ _ _) (tok_one _ _ rfl) (by unfold maxLen; omega) (by omega) ?_
      intro v' w2 ho hg hat
      obtain ⟨ao', cap', rfl⟩ := slice_len ho
      have hb1 := grown_blk H1.out.blk hRt hg
      have c5' : w2.cell? ⟨R, 5, none⟩ = some (p1.told) := cell_of hb1 rfl
      have c9' : w2.cell? ⟨R, 9, none⟩ = some (.slice ao (st1.run .name).length cap) := (cell_of hb1 rfl).trans ((H1.out.cell 9 rfl).symm.trans c9)
      have c11' : w2.cell? ⟨R, 11, none⟩ = some (.slice ai st1.attrs.length ac) := (cell_of hb1 rfl).trans ((H1.out.cell 11 rfl).symm.trans c11)
      have c8' : w2.cell? ⟨R, 8, none⟩ = some (.int .i64 st1.tagAt) := cell_of hb1 rfl
      have c12' : w2.cell? ⟨R, 12, none⟩ = some p1.names := cell_of hb1 rfl
      have f5' := free_of (i := 5) hb1
      have f11' := free_of (i := 11) hb1
      have f12' := free_of (i := 12) hb1
      have T2 : Hid (TO R ao (st1.run .name).length cap st1.tagAt (st1.run .name) ai st1.attrs.length ac w2) := ⟨c9', c8', c11', own_grown (HL.out.drew.alloc _) (HT.out.drew.alloc _) (by decide) hg⟩
      have T3 : Hid (∀ v, TO R ao (st1.run .name).length cap st1.tagAt (st1.run .name) ai st1.attrs.length ac (w2.setCell ⟨R, 5, none⟩ v)) := fun v => to_set hR2 T2.out v
      have HO := hide ho
      have HG := hide hg
      have HA := hide hat
      clear ho hg hat hb1))
  all_goals
    go_wp2
    go_end0
    obtain ⟨p2, r2, f2⟩ := tellOpening_close H1.out HC.out HTT.out (by rw [HV.out]; exact HG.out) (by rw [HAV.out]; exact HO.out) (by rw [HV.out]; simpa using HA.out)
    rw [HST.out]
    exact ⟨rfl, p2, r2.join fr1.size f2.size, fr1.trans f2⟩
end Go.Proofs.YtfolnkmbdmfigaaGreatDoor
