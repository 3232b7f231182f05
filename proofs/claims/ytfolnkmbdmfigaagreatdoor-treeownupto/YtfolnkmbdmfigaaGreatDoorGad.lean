import Derived.Deep.RegionLaw
import Derived.Test.YtfolnkmbdmfigaaGreatDoorGac
set_option linter.unusedVariables false
set_option linter.unusedSimpArgs false
namespace Go.Proofs.YtfolnkmbdmfigaaGreatDoor
open Go.RowKit Go.Maps
variable {F : Nat → Prop} {R : Nat} {w w' : World} {s : Src} {p : Ptr} {st : St} {c : Int}
theorem Rep.mono {F' : Nat → Prop} (h : Rep F R w s p st) (h1 : ∀ k, F k → F' k) (h2 : ∀ k, F' k → k < w.heap.size) : Rep F' R w s p st :=
  ⟨h.blk, h1 R h.inR, h2, h.own.frame (fun _ _ _ => rfl) h1⟩
theorem Rep.join {a b : World} (h : Rep (Grow (Grow F a b) b w) R w s p st) (h1 : a.heap.size ≤ b.heap.size) (h2 : b.heap.size ≤ w.heap.size) : Rep (Grow F a w) R w s p st :=
  h.mono (fun k hk => (Grow.trans h1 h2 k).1 hk) (fun k hk => h.lt k ((Grow.trans h1 h2 k).2 hk))
def TG (R : Nat) (ao : Option Addr) (n cap : Nat) (q : Int) (l : List UInt8) (W : World) : Prop :=
  W.cell? ⟨R, 9, none⟩ = some (.slice ao n cap) ∧ W.cell? ⟨R, 8, none⟩ = some (.int .i64 q) ∧ W.ownsRow 0 5 1 (.slice ao n cap) l.length (Lib.byteCells l)
theorem tg_alloc {ao : Option Addr} {n cap : Nat} {q : Int} {l : List UInt8} {W : World} (h : TG R ao n cap q l W) (o : Obj) : TG R ao n cap q l (W.alloc o) :=
  ⟨cell_alloc o h.1, cell_alloc o h.2.1, h.2.2.alloc o⟩
theorem tg_set {ao : Option Addr} {n cap : Nat} {q : Int} {l : List UInt8} {W : World} (hR : (Value.slice ao n cap).ownBlock ≠ some R) (h : TG R ao n cap q l W) (u : Value) : TG R ao n cap q l (W.setCell ⟨R, 5, none⟩ u) :=
  ⟨cell_set5 u h.1 (by decide), cell_set5 u h.2.1 (by decide), owns_setCell h.2.2 _ _ hR⟩
theorem heap1 (w1 : World) (i : Nat) (a : Value) : (∀ x, x ≠ R → (w1.setCell ⟨R, i, none⟩ a).heap[x]? = w1.heap[x]?) ∧ (w1.setCell ⟨R, i, none⟩ a).heap.size = w1.heap.size :=
  ⟨fun x hx => Below.heap_setCell _ _ _ _ hx, by simp [World.setCell]⟩
theorem tellClosing_close {w1 o} {v' : Value} (h : Rep F R w s p st) {cs : List Value} (hc : w.ownsRow 0 56 5 p.told st.told.length cs) (hT : Toks F R w p.attrs st.told cs)
    (hg : (w.drew.alloc o).grownBy w1 p.told.ownBlock) (ho : w1.ownsRow 0 56 5 v' (st.told.length + 1) (cs ++ tokCells ⟨2, st.run .name, [], [], st.tagAt⟩ (.slice none 0 0))) (hat : v'.ownBlock = p.told.ownBlock ∨ v'.ownBlock = some (w.heap.size + 1)) :
    ∃ p', Rep (Grow F w (w1.setCell ⟨R, 5, none⟩ v')) R (w1.setCell ⟨R, 5, none⟩ v') s p' { st with told := st.told ++ [⟨2, st.run .name, [], [], st.tagAt⟩] } ∧ Frame F w (w1.setCell ⟨R, 5, none⟩ v') := by
  have hR := h.lt R h.inR
  obtain ⟨hk, hsz⟩ := heap1 (R := R) w1 5 v'
  have hb1 := grown_blk h.blk (fun e => (h.own.toldF R e).2 rfl) hg
  have hb := set_of (i := 5) hb1 v'
  have hK : Kept R p.told.ownBlock w _ := kept_of (R := R) hg hsz hk rfl rfl rfl
  have hne : ∀ k, v'.ownBlock = some k → k ≠ R := told_ne h.own hR hat
  generalize w1.setCell ⟨R, 5, none⟩ v' = w' at *
  have o1 := h.own.tell h.lt h.inR hc hT hK v' ⟨2, st.run .name, [], [], st.tagAt⟩ rfl (owns_of ho fun k e => hk k (hne k e)) (told_at hat)
  have hlt' : ∀ k, Grow F w w' k → k < w'.heap.size := grow_lt h.lt hK.size
  refine ⟨_, ⟨?_, Or.inl h.inR, hlt', o1⟩, hK.frame h.own h.inR⟩
  rw [hb]
  rfl
set_option maxHeartbeats 4000000 in
set_option maxRecDepth 100000 in
theorem tellClosing_rep (h : Rep F R w s p st) (hs : st.told.length ≤ 1099511627780) :
    Calls Tryz.prog 108 #[.pointer (some ⟨R, 0, none⟩)] w fun e w' => e = .returned (.tuple #[]) ∧ ∃ p', Rep (Grow F w w') R w' s p' st.tellClosing ∧ Frame F w w' := by
  have hcall := tellText_rep h (by omega)
  have hsl : st.tellText.told.length ≤ 1099511627790 := by unfold St.tellText; split <;> first | omega | (simp [St.clear, St.setRun]; omega)
  have hst : st.tellClosing = { st.tellText with told := st.tellText.told ++ [⟨2, st.tellText.run .name, [], [], st.tellText.tagAt⟩] } := by
    unfold St.tellClosing St.tellText
    split <;> rfl
  have HST := hide hst
  generalize st.tellText = st1 at *
  clear hst
  obtain ⟨i0, hi, hz0, hz1, hz2⟩ := info_parts info49
  have H := hide h
  clear h
  go_enter Tryz.func108, Tryz.ntmps108
  go_wp2_with (go_at_call 55; refine hcall.mono ?_; rintro e w1 ⟨rfl, p1, h1, fr1, en1, en2⟩; clear en1 en2)
  clear hcall
  obtain ⟨ao, cap, hv⟩ := slice_len (h1.own.run .name)
  have hl1 : w1.ownsRow 0 5 1 (.slice ao (st1.run .name).length cap) (st1.run .name).length (Lib.byteCells (st1.run .name)) := by rw [← hv]; exact h1.own.run .name
  have hR2 : (Value.slice ao (st1.run .name).length cap).ownBlock ≠ some R := by rw [← hv]; exact fun e => (h1.own.runF .name R e).2 rfl
  obtain ⟨cs, hc, hT⟩ := h1.own.told
  obtain ⟨ti, tc, htv⟩ := slice_len hc
  have hRt : (Value.slice ti st1.told.length tc).ownBlock ≠ some R := by rw [← htv]; exact fun e => (h1.own.toldF R e).2 rfl
  have c5 : w1.cell? ⟨R, 5, none⟩ = some (.slice ti st1.told.length tc) := by rw [← htv]; exact h1.cell 5 rfl
  have c9 : w1.cell? ⟨R, 9, none⟩ = some (.slice ao (st1.run .name).length cap) := by rw [← hv]; exact h1.cell 9 rfl
  have c8 : w1.cell? ⟨R, 8, none⟩ = some (.int .i64 st1.tagAt) := h1.cell 8 rfl
  have hcv : ∀ W : World, W.ownsRow 0 5 1 (.slice ao (st1.run .name).length cap) (st1.run .name).length (Lib.byteCells (st1.run .name)) → (convert 87 9 (.slice ao (st1.run .name).length cap)).run Tryz.prog W = .ok (.string ⟨(st1.run .name).toArray⟩) W := fun W h => conv_own h
  have HT : Hid (w1.ownsRow 0 56 5 (.slice ti st1.told.length tc) st1.told.length cs) := by rw [← htv]; exact hc
  have HL := hide hl1
  have T0 : Hid (TG R ao (st1.run .name).length cap st1.tagAt (st1.run .name) w1.drew) := ⟨c9, c8, HL.out.drew⟩
  have T1 : Hid (∀ o, TG R ao (st1.run .name).length cap st1.tagAt (st1.run .name) (w1.drew.alloc o)) := fun o => tg_alloc T0.out o
  have hlt := h1.lt R h1.inR
  have H1 := hide h1
  have HC := hide hc
  have HTT := hide hT
  have HV := hide htv
  clear h1 hc hT hl1 hv htv
  have hcv1 := hcv w1.drew HL.out.drew
  go_region_law
    (first | (
      refine step_own_at rfl (.tmp 8) (.tmp 20) 47 rfl 56 i0 _ 5 72 Tryz.underlying47 hi hz0 hz1 hz2 rfl (by decide) (.slice ti st1.told.length tc) st1.told.length cs (by simp [Act.eval, Act.put]) (HT.out.drew.alloc _) ⟨w1.heap.size, 0, none⟩ 1 1 (tokCells ⟨2, st1.run .name, [], [], st1.tagAt⟩ (.slice none 0 0)) (by simp [Act.eval, Act.put]) rfl (tok_news _ _ _) (tok_one _ _ rfl) (by unfold maxLen; omega) (by omega) ?_
      intro v' w2 ho hg hat
      obtain ⟨ao', cap', rfl⟩ := slice_len ho
      have hb1 := grown_blk H1.out.blk hRt hg
      have c5' : w2.cell? ⟨R, 5, none⟩ = some (p1.told) := cell_of hb1 rfl
      have c9' : w2.cell? ⟨R, 9, none⟩ = some (.slice ao (st1.run .name).length cap) := (cell_of hb1 rfl).trans ((H1.out.cell 9 rfl).symm.trans c9)
      have c8' : w2.cell? ⟨R, 8, none⟩ = some (.int .i64 st1.tagAt) := cell_of hb1 rfl
      have f5' := free_of (i := 5) hb1
      have T2 : Hid (TG R ao (st1.run .name).length cap st1.tagAt (st1.run .name) w2) := ⟨c9', c8', own_grown (HL.out.drew.alloc _) (HT.out.drew.alloc _) (by decide) hg⟩
      have T3 : Hid (∀ v, TG R ao (st1.run .name).length cap st1.tagAt (st1.run .name) (w2.setCell ⟨R, 5, none⟩ v)) := fun v => tg_set hR2 T2.out v
      have HO := hide ho
      have HG := hide hg
      have HA := hide hat
      clear ho hg hat hb1))
  all_goals
    go_wp2
    go_end0
    obtain ⟨p2, r2, f2⟩ := tellClosing_close H1.out HC.out HTT.out (by rw [HV.out]; exact HG.out) HO.out (by rw [HV.out]; simpa using HA.out)
    rw [HST.out]
    exact ⟨rfl, p2, r2.join fr1.size f2.size, fr1.trans f2⟩
end Go.Proofs.YtfolnkmbdmfigaaGreatDoor
