import Derived.Test.YtigpjemceodjcaaGreatDoorGas
set_option linter.unusedVariables false
set_option linter.unusedSimpArgs false
set_option linter.unusedSimpArgs false
set_option linter.unusedVariables false
namespace Go.Proofs.YtigpjemceodjcaaGreatDoor
open Go.RowKit Go.Maps Go.Lib
variable {w w' w1 W : World} {b : Nat} {o : L}
abbrev wkd (op : L) (x : Prd) : L := wKid op x.op x.kids x.steps x.attr x.text
def wK (op : L) (k : Prds) (i : Nat) : L := if i = 0 then wKids op k else wMore op (k.dp i)
theorem wK_one (op : L) (k : Prds) (i : Nat) : wK op k (i + 1) = wMore op (k.dp (i + 1)) := by unfold wK; rw [if_neg (by omega)]
theorem wK_zero {op : L} {k : Prds} {x : Prd} (h : k.get 0 = some x) : wK op k 0 = wkd op x ++ wK op k 1 := by
  have e := k.dp_get 0 x h
  rw [k.dp_zero] at e
  rw [wK_one, wK, if_pos rfl]
  rw [e, wKids]
  have e2 : (Prds.cons x.op x.kids x.steps x.attr x.text (k.dp (0 + 1))).dp (0 + 1) = k.dp (0 + 1) := by rw [Prds.dp, Prds.dp_zero]
  rw [e2]
theorem wK_get {op : L} {k : Prds} {i : Nat} {x : Prd} (h : k.get i = some x) (hi : i ≠ 0) : wK op k i = ([32] ++ op ++ [32]) ++ (wkd op x ++ wK op k (i + 1)) := by
  rw [wK_one]; unfold wK; rw [if_neg hi, k.dp_get i x h, wMore]; simp
theorem wK_end (op : L) (k : Prds) : wK op k k.len = [] := by
  unfold wK
  split
  · next h =>
    have : k = .nil := by cases k with | nil => rfl | cons o k' s a t m => simp [Prds.len] at h
    subst this
    simp [wKids]
  · rw [Prds.dp_len, wMore]
def kf (b1 b2 b3 : Bool) : FuncId := if (b1 || (b2 && b3)) = true then 52 else 38
theorem kid_ok (op : L) (x : Prd) (hx : CallP 38 b x (wc x)) : CallP (kf (x.op == wOr) (x.op == wAnd) (op == wAnd)) b x (wkd op x) := by
  unfold kf wkd wKid
  by_cases h : x.op = wOr ∨ (x.op = wAnd ∧ op = wAnd)
  · rw [if_pos h, if_pos (by simpa using h)]
    exact brk_ok x _ hx
  · rw [if_neg h, if_neg (by simpa using h)]
    exact hx
abbrev HK (b : Nat) (OO : L) (W0 : World) (rest : L) (F : FuncId) (a : Array Value) (w' : World) : Prop := Calls Tryz.prog F #[.pointer (some ⟨b, 0, none⟩), .agg a] w' fun e w'' => e = .returned (.tuple #[]) ∧ Hid (Mid b OO W0 w'' rest)
set_option maxHeartbeats 32000000 in
set_option maxRecDepth 100000 in
theorem kidsW_ok (p : Prd) (hk : ∀ i x, p.kids.get i = some x → CallP 38 b x (wc x)) : CallP 51 b p (wKids p.op p.kids) := by
  intro w o ki nk kc si ns sc hw hv hl
  have hO : (o ++ wKids p.op p.kids).length ≤ 1000000 := by rw [List.length_append]; exact hl
  have hvk := hv.1
  have hnk : nk = p.kids.len := by obtain ⟨ai, cap, e, hn⟩ := hvk.len; cases e; rfl
  have hvlen : nk ≤ 1000 := by obtain ⟨ai, cap, e, hn⟩ := hvk.len; cases e; exact hn
  have hB := Below_new w (.cells (aP (bs p.op) ki nk kc si ns sc (bs p.attr) (bs p.text)) 86)
  have hne : w.heap.size ≠ b := by have := hw.lt; omega
  have hlt0 := hw.lt
  have hOl : p.kids.len ≠ 0 → True := fun _ => trivial
  obtain ⟨wa, wb⟩ := wr_alloc hw (.cells (aP (bs p.op) ki nk kc si ns sc (bs p.attr) (bs p.text)) 86)
  have M0 : Hid (Mid b (o ++ wKids p.op p.kids) (w.alloc (.cells (aP (bs p.op) ki nk kc si ns sc (bs p.attr) (bs p.text)) 86)) (w.alloc (.cells (aP (bs p.op) ki nk kc si ns sc (bs p.attr) (bs p.text)) 86)) (wK p.op p.kids 0)) := hide (Mid.start (T := wKids p.op p.kids) wb)
  have HFIN : Hid (∀ wr, Mid b (o ++ wKids p.op p.kids) (w.alloc (.cells (aP (bs p.op) ki nk kc si ns sc (bs p.attr) (bs p.text)) 86)) wr (wK p.op p.kids p.kids.len) → WG b o (wKids p.op p.kids) w (.returned (.tuple #[])) wr) := fun wr m => by
    rw [wK_end] at m
    obtain ⟨h1, h2, h3⟩ := m.fin
    exact ⟨h1, h2, wa.trans h3⟩
  have hvk0 := wa.slP hvk
  obtain ⟨OO, hOO⟩ : ∃ OO, o ++ wKids p.op p.kids = OO := ⟨_, rfl⟩
  rw [hOO] at hO M0 HFIN
  clear hOO
  generalize wKids p.op p.kids = TT at HFIN hl ⊢
  have HR : Hid (∀ wr i, i < p.kids.len → Mid b OO (w.alloc (.cells (aP (bs p.op) ki nk kc si ns sc (bs p.attr) (bs p.text)) 86)) wr (wK p.op p.kids i) → ∃ g O2 A2 X2 ki2 nk2 kc2 si2 ns2 sc2 b1 b2, ki = some ⟨g, 0, none⟩ ∧ (wr.cell? ⟨g, i * 5, none⟩ = some (.string O2) ∧ wr.cell? ⟨g, i * 5 + 1, none⟩ = some (.slice ki2 nk2 kc2) ∧ wr.cell? ⟨g, i * 5 + 2, none⟩ = some (.slice si2 ns2 sc2) ∧ wr.cell? ⟨g, i * 5 + 3, none⟩ = some (.string A2) ∧ wr.cell? ⟨g, i * 5 + 4, none⟩ = some (.string X2)) ∧
      (O2.toList == [111, 114]) = b1 ∧ (O2.toList == [97, 110, 100]) = b2 ∧ (wr.alloc (.cells (aP O2 ki2 nk2 kc2 si2 ns2 sc2 A2 X2) 86)).cell? ⟨w.heap.size, 0, none⟩ = some (.string (bs p.op)) ∧ (wr.alloc (.cells (aP O2 ki2 nk2 kc2 si2 ns2 sc2 A2 X2) 86)).heap[wr.heap.size]? = some (.cells (aP O2 ki2 nk2 kc2 si2 ns2 sc2 A2 X2) 86 (0, 0)) ∧
      Hid (i = 0 → HK b OO (w.alloc (.cells (aP (bs p.op) ki nk kc si ns sc (bs p.attr) (bs p.text)) 86)) (wK p.op p.kids (i + 1)) (kf b1 b2 (p.op == wAnd)) (aP O2 ki2 nk2 kc2 si2 ns2 sc2 A2 X2) (wr.alloc (.cells (aP O2 ki2 nk2 kc2 si2 ns2 sc2 A2 X2) 86))) ∧
      Hid (i ≠ 0 → ∀ W, Below (wr.alloc (.cells (aP O2 ki2 nk2 kc2 si2 ns2 sc2 A2 X2) 86)).heap.size (wr.alloc (.cells (aP O2 ki2 nk2 kc2 si2 ns2 sc2 A2 X2) 86)) W → W.cell? ⟨w.heap.size, 0, none⟩ = some (.string (bs p.op)) ∧ Calls Tryz.prog 22 #[.pointer (some ⟨b, 0, none⟩), .string (bs ([32] ++ p.op ++ [32]))] W fun e w' => e = .returned (.tuple #[.int .i64 (([32] ++ p.op ++ [32]).length : Nat), .nilIface]) ∧ w'.cell? ⟨w.heap.size, 0, none⟩ = some (.string (bs p.op)) ∧ Hid (w'.heap[wr.heap.size]? = some (.cells (aP O2 ki2 nk2 kc2 si2 ns2 sc2 A2 X2) 86 (0, 0)) ∧ HK b OO (w.alloc (.cells (aP (bs p.op) ki nk kc si ns sc (bs p.attr) (bs p.text)) 86)) (wK p.op p.kids (i + 1)) (kf b1 b2 (p.op == wAnd)) (aP O2 ki2 nk2 kc2 si2 ns2 sc2 A2 X2) w'))) := fun wr i hi m => by
    obtain ⟨x, hx⟩ := p.kids.get_lt i hi
    obtain ⟨g, e1, -, -, a0, ⟨k1, a1, r1⟩, ⟨p1, a2, q1⟩, a3, a4⟩ := (m.wr.slP hvk0).at hx
    obtain ⟨ki2, kc2, rfl, _⟩ := r1.len
    obtain ⟨si2, sc2, rfl, _⟩ := q1.len
    have hB1 := Below_new wr (.cells (aP (bs x.op) ki2 x.kids.len kc2 si2 x.steps.len sc2 (bs x.attr) (bs x.text)) 86)
    have hlt := m.lt
    obtain ⟨wa1, -⟩ := wr_alloc (Classical.choose_spec m).1 (.cells (aP (bs x.op) ki2 x.kids.len kc2 si2 x.steps.len sc2 (bs x.attr) (bs x.text)) 86)
    have hsz := m.wr.below.size
    have hBp := wa1.box (m.wr.box hB hne (by decide)) hne (by decide)
    have pb : PB (wr.alloc (.cells (aP (bs x.op) ki2 x.kids.len kc2 si2 x.steps.len sc2 (bs x.attr) (bs x.text)) 86)) b (.slice ki2 x.kids.len kc2) (.slice si2 x.steps.len sc2) x := ⟨wa1.slP r1, wa1.slS q1⟩
    have ma := m.alloc (.cells (aP (bs x.op) ki2 x.kids.len kc2 si2 x.steps.len sc2 (bs x.attr) (bs x.text)) 86)
    refine ⟨g, _, _, _, ki2, _, kc2, si2, _, sc2, (x.op == wOr), (x.op == wAnd), e1, ⟨a0, a1, a2, a3, a4⟩, by rw [bs_toL], by rw [bs_toL], (cells5 hBp).1.1, hB1, hide ?_, hide ?_⟩
    · intro h0
      subst h0
      rw [wK_zero hx] at ma
      refine (ma.part hO (fun o' hw' hl' => kid_ok p.op x (hk 0 x hx) _ o' ki2 x.kids.len kc2 si2 x.steps.len sc2 hw' pb hl')).mono ?_
      rintro e w2 ⟨h, k⟩
      exact ⟨h, hide k.out.1⟩
    · intro h0 W hW
      rw [wK_get hx h0] at ma
      have hBW := (hW.block _ (blk_lt hBp)).trans hBp
      have hIW := (hW.block _ (blk_lt hB1)).trans hB1
      refine ⟨(cells5 hBW).1.1, ((ma.below hW).put hO).mono ?_⟩
      rintro e w' ⟨h, k⟩
      refine ⟨h, (cells5 (k.out.2.box hBW hne (by decide))).1.1, hide ⟨k.out.2.box hIW (by omega) (by decide), ?_⟩⟩
      have hWr := (Wr.past (by have := ma.lt; omega) hW : Wr b _ W).trans k.out.2
      refine (k.out.1.part hO (fun o' hw' hl' => kid_ok p.op x (hk i x hx) _ o' ki2 x.kids.len kc2 si2 x.steps.len sc2 hw' (hWr.pb pb) hl')).mono ?_
      rintro e w2 ⟨h, k⟩
      exact ⟨h, hide k.out.1⟩
  have p1 : ∀ W, p.op.length ≤ 1000000 → (Op.stringOp .add ⟨#[32]⟩ (bs p.op)).run Tryz.prog W = .ok (.string (bs ([32] ++ p.op))) W := fun W h => add_rows3 [32] p.op _ rfl (by simp; omega) W
  have p2 : ∀ W, p.op.length ≤ 1000000 → (Op.stringOp .add (bs ([32] ++ p.op)) ⟨#[32]⟩).run Tryz.prog W = .ok (.string (bs ([32] ++ p.op ++ [32]))) W := fun W h => add_rows3 ([32] ++ p.op) [32] _ rfl (by simp; omega) W
  have HOP : Hid (∀ wr i, i < p.kids.len → i ≠ 0 → Mid b OO (w.alloc (.cells (aP (bs p.op) ki nk kc si ns sc (bs p.attr) (bs p.text)) 86)) wr (wK p.op p.kids i) → p.op.length ≤ 1000000) := fun wr i hi h0 m => by
    obtain ⟨x, hx⟩ := p.kids.get_lt i hi
    rw [wK_get hx h0] at m
    obtain ⟨o', h1, h2, h3⟩ := m
    have := congrArg List.length h3
    simp only [List.length_append] at this
    omega
  have P1 := hide p1
  have P2 := hide p2
  have hpa : ((bs p.op).toList == [97, 110, 100]) = (p.op == wAnd) := by rw [bs_toL]
  obtain ⟨b3, hb3⟩ : ∃ b3, (p.op == wAnd) = b3 := ⟨_, rfl⟩
  rw [hb3] at hpa HR
  obtain ⟨⟨c0, c1, c2, c3, c4⟩, -⟩ := cells5 hB
  clear p1 p2 hb3 hB hvk0 hvk hv hw wa wb hk hO hl hlt0 hOl hne
  generalize bs ([32] ++ p.op ++ [32]) = S2 at *
  generalize bs ([32] ++ p.op) = S1 at *
  generalize ([32] ++ p.op ++ [32]).length = N2 at *
  rw [← hnk] at HFIN HR HOP
  have hn1 : nk ≤ 1000000 := by have := hvlen; omega
  clear hnk
  generalize bs p.op = O at *
  generalize bs p.attr = A at *
  generalize bs p.text = X at *
  go_enter Tryz.func51, Tryz.ntmps51
  go_wp2_with fail
  clear c0 c1 c2 c3 c4
  generalize (w.alloc (.cells (aP O ki nk kc si ns sc A X) 86)) = W0 at *
  go_loopw [4, 5, 9, 10, 11, 12, 13, 14, 15, 16, 17, 18, 19, 20, 21, 22, 23, 24, 25, 26, 27, 28, 29, 30, 31, 32, 33, 34, 35, 36, 37, 38, 39, 40, 41, 42, 43] (fun _ _ u9 _ _ _ _ _ _ _ _ _ _ _ _ _ _ _ _ _ _ _ _ _ _ _ _ _ _ _ _ _ _ _ _ _ _ wr => ∃ i : Nat, u9 = .int .i64 i ∧ i ≤ nk ∧ Hid (Mid b OO W0 wr (wK p.op p.kids i))) (fun _ _ u9 _ _ _ _ _ _ _ _ _ _ _ _ _ _ _ _ _ _ _ _ _ _ _ _ _ _ _ _ _ _ _ _ _ _ _ => nk - (RowKit.intOf u9).toNat)
  case atStart => exact ⟨0, rfl, Nat.zero_le _, M0⟩
  case round =>
    rename World => WO
    obtain ⟨i, rfl, hi, HM⟩ := hrel
    by_cases hlt : i < nk
    · obtain ⟨g, O2, A2, X2, ki2, nk2, kc2, si2, ns2, sc2, b1, b2, rfl, ⟨a0, a1, a2, a3, a4⟩, hb1, hb2, co, hb, HA, HB⟩ := HR.out _ i hlt HM.out
      have hdec : decide ((i : Int) < nk) = true := by simp; omega
      have hii : (i : Int) < nk := by omega
      obtain ⟨⟨c0, c1, c2, c3, c4⟩, -⟩ := cells5 hb
      clear hb
      by_cases h0 : i = 0
      · have HZ := hide h0
        have HC := hide (HA.out h0)
        clear HA HB HR HFIN HM M0 HOP P1 P2 h0
        cases b1 <;> cases b2 <;> cases b3 <;>
        · go_wp2_with (first | (go_at_call 52; refine HC.out.mono ?_; rintro e w7 ⟨rfl, h7⟩; clear HC c0 c1 c2 c3 c4 co) | (go_at_call 38; refine HC.out.mono ?_; rintro e w7 ⟨rfl, h7⟩; clear HC c0 c1 c2 c3 c4 co))
          all_goals first
            | (exfalso; have := HZ.out; omega)
            | exact ⟨⟨i + 1, by have := HZ.out; subst this; rfl, by omega, h7⟩, by simp only [RowKit.intOf]; omega⟩
      · have HL := HOP.out _ i hlt h0 HM.out
        have p1 := fun W => P1.out W HL
        have p2 := fun W => P2.out W HL
        have HD := hide (HB.out h0)
        clear HA HB HR HFIN HM M0 HOP P1 P2 HL
        go_wp2_with fail
        go_region_held3 (fun W => W.cell? ⟨w.heap.size, 0, none⟩ = some (.string O))
          (first | exact d3 | exact co | exact (HD.out _ (belowN (Below.refl _ _) _)).1)
          ((go_at_call 22; (first | refine (HD.out _ (belowN (Below.refl _ _) _)).2.mono ?_ | refine (HD.out _ (Below.refl _ _)).2.mono ?_); rintro e w6 ⟨rfl, d3, h6⟩))
        all_goals
          obtain ⟨hb6, h7⟩ := h6.out
          have H7 := hide h7
          clear h7 h6 HD p1 p2 c0 c1 c2 c3 c4 co
          obtain ⟨⟨c0, c1, c2, c3, c4⟩, -⟩ := cells5 hb6
          clear hb6
          cases b1 <;> cases b2 <;> cases b3 <;>
          · go_wp2_with (first | (go_at_call 52; refine H7.out.mono ?_; rintro e w8 ⟨rfl, h8⟩; clear H7 c0 c1 c2 c3 c4 d3) | (go_at_call 38; refine H7.out.mono ?_; rintro e w8 ⟨rfl, h8⟩; clear H7 c0 c1 c2 c3 c4 d3))
            exact ⟨⟨i + 1, by simp, by omega, h8⟩, by simp only [RowKit.intOf]; omega⟩
    · have hdec : decide ((i : Int) < nk) = false := by simp; omega
      obtain rfl : i = nk := by omega
      go_wp2
      go_end0
      exact HFIN.out _ HM.out
end Go.Proofs.YtigpjemceodjcaaGreatDoor
