import Derived.Test.YtfolnkmbdmfigaaGreatDoorGal
set_option linter.unusedVariables false
set_option linter.unusedSimpArgs false
set_option linter.unusedSimpArgs false
set_option linter.unusedVariables false
namespace Go.Proofs.YtfolnkmbdmfigaaGreatDoor
open Go.RowKit Go.Maps Go.Lib
variable {X : Nat} {w w' w'' wr : World} {s t : ByteArray} {lv : Value} {x x' : Sc}
def txtTok (x : Sc) : Tok := ⟨3, [], [], x.more, x.frm⟩
theorem own_lt {e : TypeId} {sz n : Nat} {v : Value} {xs : List Value} (h : w.ownsRow 0 e sz v n xs) {k : Nat} (hk : v.ownBlock = some k) : k < w.heap.size := by
  obtain ⟨cur, hc⟩ := owns_blk h hk
  exact (Array.getElem?_eq_some_iff.1 hc).1
theorem text_mid {cs : List Value} {w w1 W : World} {s : ByteArray} {x : Sc} {X n : Nat} {ti : Option Addr} {tc : Nat} {t : Tok} {ai : Option Addr} {an ac : Nat} {o2 : Obj} {ao' : Option Addr} {cap' : Nat} (hlt : X < w.heap.size) (hX : (Value.slice ti n tc).ownBlock ≠ some X)
    (hol : ∀ k, (Value.slice ti n tc).ownBlock = some k → k < w.heap.size)
    (hb : w1.heap[X]? = some (.cells (scCells s (.slice ti n tc) x) 65 (0, 0)))
    (ho : w1.ownsRow 0 72 5 (.slice ao' (n + 1) cap') (n + 1) cs)
    (hg : ((w.alloc (.cells #[.int .i64 t.kind, strV t.name, .slice ai an ac, strV t.text, .int .i64 t.at_] 72)).drew.alloc o2).grownBy w1 (Value.slice ti n tc).ownBlock)
    (hat : (Value.slice ao' (n + 1) cap').ownBlock = (Value.slice ti n tc).ownBlock ∨ (Value.slice ao' (n + 1) cap').ownBlock = some (w.heap.size + 1 + 1))
    (hW : W = (w1.setCell ⟨X, 2, none⟩ (.slice ao' (n + 1) cap')).setCell ⟨X, 3, none⟩ (.string ⟨#[]⟩)) :
    W.heap[X]? = some (.cells (((scCells s (.slice ti n tc) x).setIfInBounds 2 (.slice ao' (n + 1) cap')).setIfInBounds 3 (.string ⟨#[]⟩)) 65 (0, 0)) ∧
    W.ownsRow 0 72 5 (.slice ao' (n + 1) cap') (n + 1) cs ∧ W.heap[w.heap.size]? = some (.cells #[.int .i64 t.kind, strV t.name, .slice ai an ac, strV t.text, .int .i64 t.at_] 72 (0, 0)) ∧ W.heap.size = w1.heap.size ∧ (X < W.heap.size ∧ (Value.slice ao' (n + 1) cap').ownBlock ≠ some X) := by
  have hne : (Value.slice ao' (n + 1) cap').ownBlock ≠ some X := by
    rcases hat with e | e
    · rw [e]; exact hX
    · rw [e]; intro h9; simp at h9; omega
  have hs : W.heap.size = w1.heap.size := by rw [hW]; simp [World.setCell]
  have hko : ∀ k, k ≠ X → W.heap[k]? = w1.heap[k]? := fun k hk => by
    rw [hW, Below.heap_setCell _ _ _ _ hk, Below.heap_setCell _ _ _ _ hk]
  refine ⟨?_, ?_, ?_, hs, ?_, hne⟩
  · rw [hW]; exact set_of (set_of hb _) _
  · exact owns_of ho (fun k hk => hko k (fun e => hne (by rw [hk, e])))
  · rw [hko _ (by omega), hg.block w.heap.size (by simp [World.drew]; omega) (fun e => by have := hol _ e.symm; omega)]
    exact (Below.heap_alloc _ _ _ (by simp [World.drew])).trans (heap_alloc_new w _)
  · rw [hs]; exact (Array.getElem?_eq_some_iff.1 hb).1
set_option maxHeartbeats 4000000 in
set_option maxRecDepth 100000 in
theorem told_text {cs : List Value} (h : SAt X w s lv x) (hown : w.ownsRow 0 72 5 lv x.l.length cs) (hX : lv.ownBlock ≠ some X) (t : Tok) (ai : Option Addr) (an ac : Nat) (he : x.err = 0) (hm : x.more ≠ []) (hn : x.l.length ≤ 1099511627776) :
    Calls Tryz.prog 70 #[.pointer (some ⟨X, 0, none⟩), .agg #[.int .i64 t.kind, strV t.name, .slice ai an ac, strV t.text, .int .i64 t.at_]] w fun en w' => en = .returned (.tuple #[]) ∧ ∃ v1 w1 o1 o2 v2 w2 o3, ((w.alloc o1).drew.alloc o2).grownBy w1 lv.ownBlock ∧ (v1.ownBlock = lv.ownBlock ∨ v1.ownBlock = some (w.heap.size + 1 + 1)) ∧ w1.ownsRow 0 72 5 v1 (x.l.length + 1) (cs ++ tokCells (txtTok x) (.slice none 0 0)) ∧
      ((((w1.setCell ⟨X, 2, none⟩ v1).setCell ⟨X, 3, none⟩ (.string ⟨#[]⟩)).drew.alloc o3)).grownBy w2 v1.ownBlock ∧ w2.ownsRow 0 72 5 v2 (x.l.length + 1 + 1) (cs ++ tokCells (txtTok x) (.slice none 0 0) ++ tokCells t (.slice ai an ac)) ∧ (v2.ownBlock = v1.ownBlock ∨ v2.ownBlock = some (w1.heap.size + 1)) ∧ w' = w2.setCell ⟨X, 2, none⟩ v2 := by
  obtain ⟨ti, tc, rfl⟩ := slice_len hown
  obtain ⟨i0, hi, hz0, hz1, hz2⟩ := info_parts info56
  have c2 : w.cell? ⟨X, 2, none⟩ = some (.slice ti x.l.length tc) := h.cell 2 rfl
  have c3 : w.cell? ⟨X, 3, none⟩ = some (.string ⟨x.more.toArray⟩) := h.cell 3 rfl
  have c4 : w.cell? ⟨X, 4, none⟩ = some (.int .i64 x.frm) := h.cell 4 rfl
  have c5 : w.cell? ⟨X, 5, none⟩ = some (.int .i64 x.err) := h.cell 5 rfl
  have hlt := h.lt
  have hol : ∀ k, (Value.slice ti x.l.length tc).ownBlock = some k → k < w.heap.size := fun k e => own_lt hown e
  have e0 : (x.err != 0) = false := by simpa using he
  have em : x.more.isEmpty = false := by
    cases hl : x.more with
    | nil => exact absurd hl hm
    | cons a l => rfl
  have HO := hide hown
  have HA := hide h
  have HOL := hide hol
  clear hown h he hm hol
  generalize x.l.length = n at *
  have d2 : (w.alloc (.cells #[.int .i64 t.kind, strV t.name, .slice ai an ac, strV t.text, .int .i64 t.at_] 72)).cell? ⟨X, 2, none⟩ = some (.slice ti n tc) := cell_alloc _ c2
  have d3 : (w.alloc (.cells #[.int .i64 t.kind, strV t.name, .slice ai an ac, strV t.text, .int .i64 t.at_] 72)).cell? ⟨X, 3, none⟩ = some (.string ⟨x.more.toArray⟩) := cell_alloc _ c3
  have d4 : (w.alloc (.cells #[.int .i64 t.kind, strV t.name, .slice ai an ac, strV t.text, .int .i64 t.at_] 72)).cell? ⟨X, 4, none⟩ = some (.int .i64 x.frm) := cell_alloc _ c4
  have d5 : (w.alloc (.cells #[.int .i64 t.kind, strV t.name, .slice ai an ac, strV t.text, .int .i64 t.at_] 72)).cell? ⟨X, 5, none⟩ = some (.int .i64 x.err) := cell_alloc _ c5
  have hnews : ∀ j u, (tokCells (txtTok x) (.slice none 0 0))[j]? = some u → ((w.alloc (.cells #[.int .i64 t.kind, strV t.name, .slice ai an ac, strV t.text, .int .i64 t.at_] 72)).drew.alloc (.cells (tokCells (txtTok x) (.slice none 0 0)).toArray 72)).cell? ((⟨w.heap.size + 1, 0, none⟩ : Addr).add j) = some u := by
    have h9 := rtok_news (w.alloc (.cells #[.int .i64 t.kind, strV t.name, .slice ai an ac, strV t.text, .int .i64 t.at_] 72)).drew (txtTok x) (.slice none 0 0)
    have e9 : (w.alloc (.cells #[.int .i64 t.kind, strV t.name, .slice ai an ac, strV t.text, .int .i64 t.at_] 72)).drew.heap.size = w.heap.size + 1 := by simp [World.drew]
    rw [e9] at h9
    exact h9
  have HNW := hide hnews
  clear hnews
  go_enter Tryz.func70, Tryz.ntmps70
  go_wp2_with fail
  go_region_law
    (first | (
      refine step_own_at rfl (.tmp 18) (.tmp 28) 62 rfl 72 i0 _ 5 72 Tryz.underlying62 hi hz0 hz1 hz2 rfl (by decide) (.slice ti n tc) n cs (by simp [Act.eval, Act.put]) ((HO.out.alloc _).drew.alloc _) ⟨w.heap.size + 1, 0, none⟩ 1 1 (tokCells (txtTok x) (.slice none 0 0)) (by simp [Act.eval, Act.put]) rfl HNW.out (tok_one _ _ rfl) (by unfold maxLen; omega) (by omega) ?_
      intro v' w1 ho hg hat
      obtain ⟨ao', cap', rfl⟩ := slice_len ho
      have hb1 : w1.heap[X]? = some (.cells (scCells s (.slice ti n tc) x) 65 (0, 0)) := by
        rw [hg.block X (by simp; omega) (fun e => hX e.symm)]
        exact (Below.heap_alloc _ _ X (by simp; omega)).trans ((Below.heap_alloc w _ X hlt).trans HA.out)
      have g2 := cell_of hb1 (i := 2) rfl
      have g3 := cell_of hb1 (i := 3) rfl
      have gf := free_of (i := 2) hb1
      have gf3 := free_of (i := 3) hb1
      have HB := hide hb1
      have HOW := hide ho
      have HG := hide hg
      have HAT := hide hat
      clear ho hg hat hb1))
  all_goals
    go_wp2_with fail
    obtain ⟨W, hW⟩ : ∃ W, W = (w1.setCell ⟨X, 2, none⟩ (.slice ao' (n + 1) cap')).setCell ⟨X, 3, none⟩ (.string ⟨#[]⟩) := ⟨_, rfl⟩
    obtain ⟨kX, kO, kB, kS, kL⟩ := text_mid (ai := ai) (an := an) (ac := ac) (t := t) hlt hX HOL.out HB.out HOW.out HG.out (by simpa using HAT.out) hW
    rw [← hW]
    have k2 : W.cell? ⟨X, 2, none⟩ = some (.slice ao' (n + 1) cap') := cell_of kX rfl
    have q0 : W.cell? ⟨w.heap.size, 0, none⟩ = some (.int .i64 t.kind) := cell_of kB rfl
    have q1 : W.cell? ⟨w.heap.size, 1, none⟩ = some (strV t.name) := cell_of kB rfl
    have q2 : W.cell? ⟨w.heap.size, 2, none⟩ = some (.slice ai an ac) := cell_of kB rfl
    have q3 : W.cell? ⟨w.heap.size, 3, none⟩ = some (strV t.text) := cell_of kB rfl
    have q4 : W.cell? ⟨w.heap.size, 4, none⟩ = some (.int .i64 t.at_) := cell_of kB rfl
    have HN2 := hide (rtok_news W.drew t (.slice ai an ac))
    have HKX := hide kX
    have HKO := hide kO
    have HW := hide hW
    have HKS := hide kS
    clear kX kO kB hW kS g2 g3 gf gf3 c2 c3 c4 c5 d2 d3 d4 d5
    go_region_law
      (first | (
        refine step_own_at rfl (.tmp 39) (.tmp 41) 62 rfl 72 i0 _ 5 72 Tryz.underlying62 hi hz0 hz1 hz2 rfl (by decide) (.slice ao' (n + 1) cap') (n + 1) (cs ++ tokCells (txtTok x) (.slice none 0 0)) (by simp [Act.eval, Act.put]) (HKO.out.drew.alloc _) ⟨W.heap.size, 0, none⟩ 1 1 (tokCells t (.slice ai an ac)) (by simp [Act.eval, Act.put]) rfl HN2.out (tok_one _ _ rfl) (by unfold maxLen; omega) (by omega) ?_
        intro v' w2 ho hg hat
        obtain ⟨ao2, cap2, rfl⟩ := slice_len ho
        have hb2 : w2.heap[X]? = some (.cells (((scCells s (.slice ti n tc) x).setIfInBounds 2 (.slice ao' (n + 1) cap')).setIfInBounds 3 (.string ⟨#[]⟩)) 65 (0, 0)) := by
          rw [hg.block X (by simp; omega) (fun e => kL.2 e.symm)]
          exact (Below.heap_alloc _ _ X kL.1).trans HKX.out
        have r2 := cell_of hb2 (i := 2) rfl
        have rf := free_of (i := 2) hb2
        have HOW2 := hide ho
        have HG2 := hide hg
        have HAT2 := hide hat
        clear ho hg hat hb2))
    all_goals
      go_wp2
      go_end0
      have e5 := HW.out
      have e6 := HG2.out
      have e7 := HAT2.out
      rw [e5] at e6
      refine ⟨rfl, _, _, _, _, _, _, _, HG.out, by simpa using HAT.out, HOW.out, e6, HOW2.out, ?_, rfl⟩
      simpa [HKS.out] using e7
end Go.Proofs.YtfolnkmbdmfigaaGreatDoor
