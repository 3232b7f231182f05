import Derived.Test.YtigpjemceodjcaaGreatDoorGar
set_option linter.unusedVariables false
set_option linter.unusedSimpArgs false
set_option linter.unusedSimpArgs false
set_option linter.unusedVariables false
namespace Go.Proofs.YtigpjemceodjcaaGreatDoor
open Go.RowKit Go.Maps Go.Lib
variable {w w' w1 W : World} {b : Nat} {o : L}
theorem add_rows3 (x y z : L) (e : x ++ y = z) (h : x.length + y.length ≤ 9223372036854775807) (w : World) : (Op.stringOp .add (bs x) (bs y)).run Tryz.prog w = .ok (.string (bs z)) w := by
  unfold bs
  rw [run_string_add_sum w _ _ (by simpa [ByteArray.size] using h), ByteArray.mk_append_mk, e]
theorem belowN {B : Nat} (h : Below B w W) (n : Nat) : Below B w (W.drewN n) := ⟨h.os, h.tape, h.output, h.size, h.block⟩
set_option maxHeartbeats 4000000 in
set_option maxRecDepth 100000 in
theorem index84_ok (l : L) (c : UInt8) (w : World) : Calls Tryz.prog 84 #[.string (bs l), .string (bs [c])] w fun e w' => e = .returned (.int .i64 (Lib.indexByte l c)) ∧ w' = w := by
  have HI := hide (index_ok l c w)
  generalize Lib.indexByte l c = n at *
  generalize bs [c] = C at *
  generalize bs l = S at *
  go_enter Tryz.func84, Tryz.ntmps84
  go_wp2_with (go_at_call 91; refine HI.out.mono ?_; rintro e w1 ⟨rfl, rfl⟩)
  go_ret
  exact ⟨rfl, rfl⟩
set_option maxHeartbeats 4000000 in
set_option maxRecDepth 100000 in
theorem contains_ok (l : L) (c : UInt8) (w : World) : Calls Tryz.prog 68 #[.string (bs l), .string (bs [c])] w fun e w' => e = .returned (.bool (l.contains c)) ∧ w' = w := by
  have HI := hide (index84_ok l c w)
  rw [index_take] at HI
  cases hc : l.contains c with
  | true =>
    rw [hc, if_pos rfl] at HI
    clear hc
    generalize (l.takeWhile (· != c)).length = n at *
    generalize bs [c] = C at *
    generalize bs l = S at *
    have hd : decide ((n : Int) ≥ 0) = true := by simp
    have hd2 : decide (0 ≤ (n : Int)) = true := by simp
    go_enter Tryz.func68, Tryz.ntmps68
    go_wp2_with (go_at_call 84; refine HI.out.mono ?_; rintro e w1 ⟨rfl, rfl⟩)
    go_ret
    first | exact ⟨rfl, rfl⟩ | exact ⟨by simp, rfl⟩
  | false =>
    rw [hc, if_neg (by simp)] at HI
    clear hc
    generalize bs [c] = C at *
    generalize bs l = S at *
    go_enter Tryz.func68, Tryz.ntmps68
    go_wp2_with (go_at_call 84; refine HI.out.mono ?_; rintro e w1 ⟨rfl, rfl⟩)
    go_ret
    first | exact ⟨rfl, rfl⟩ | exact ⟨by simp, rfl⟩
theorem box_put (hw : WB b o w) (O A X : ByteArray) (ki : Option Addr) (nk kc : Nat) (si : Option Addr) (ns sc : Nat) (T : L) (hl : o.length + T.length ≤ 1000000) : ∀ W, Below (w.alloc (.cells (aP O ki nk kc si ns sc A X) 86)).heap.size (w.alloc (.cells (aP O ki nk kc si ns sc A X) 86)) W →
    (W.cell? ⟨w.heap.size, 0, none⟩ = some (.string O) ∧ W.cell? ⟨w.heap.size, 3, none⟩ = some (.string A) ∧ W.cell? ⟨w.heap.size, 4, none⟩ = some (.string X)) ∧ Calls Tryz.prog 22 #[.pointer (some ⟨b, 0, none⟩), .string (bs T)] W fun e w' => e = .returned (.tuple #[.int .i64 (T.length : Nat), .nilIface]) ∧ (w'.cell? ⟨w.heap.size, 0, none⟩ = some (.string O) ∧ w'.cell? ⟨w.heap.size, 3, none⟩ = some (.string A) ∧ w'.cell? ⟨w.heap.size, 4, none⟩ = some (.string X)) ∧ Hid (WG b o T w (.returned (.tuple #[])) w') := fun W hW => by
  have hB := Below_new w (.cells (aP O ki nk kc si ns sc A X) 86)
  obtain ⟨wa, wb⟩ := wr_alloc hw (.cells (aP O ki nk kc si ns sc A X) 86)
  have hne : w.heap.size ≠ b := by have := hw.lt; omega
  have r0 := wa.trans (Wr.past (by have := wb.lt; omega) hW)
  have hBW := (hW.block _ (blk_lt hB)).trans hB
  obtain ⟨⟨c0, c1, c2, c3, c4⟩, -⟩ := cells5 hBW
  refine ⟨⟨c0, c3, c4⟩, (put1 (wb.below hW) _ hl).mono ?_⟩
  rintro e w' ⟨h, k⟩
  obtain ⟨⟨c0, c1, c2, c3, c4⟩, -⟩ := cells5 (k.out.2.box hBW hne (by decide))
  exact ⟨h, ⟨c0, c3, c4⟩, hide ⟨rfl, k.out.1, r0.trans k.out.2⟩⟩
set_option maxHeartbeats 8000000 in
set_option maxRecDepth 100000 in
theorem cmp_ok (p : Prd) : CallP 54 b p (cmpOf p.op p.text) := by
  intro w o ki nk kc si ns sc hw hv hl
  have hB := Below_new w (.cells (aP (bs p.op) ki nk kc si ns sc (bs p.attr) (bs p.text)) 86)
  obtain ⟨⟨c0, c1, c2, c3, c4⟩, -⟩ := cells5 hB
  clear hB
  by_cases hh : p.op = wHas
  · have HG : Hid (WG b o (cmpOf p.op p.text) w (.returned (.tuple #[])) (w.alloc (.cells (aP (bs p.op) ki nk kc si ns sc (bs p.attr) (bs p.text)) 86))) := by
      obtain ⟨wa, wb⟩ := wr_alloc hw (.cells (aP (bs p.op) ki nk kc si ns sc (bs p.attr) (bs p.text)) 86)
      refine hide ⟨rfl, ?_, wa⟩
      unfold cmpOf
      rw [if_pos hh, List.append_nil]
      exact wb
    have hb : ((bs p.op).toList == [104, 97, 115]) = true := by rw [bs_toL, hh]; rfl
    clear hh hl hw hv
    generalize cmpOf p.op p.text = T at *
    generalize bs p.op = O at *
    generalize bs p.attr = A at *
    generalize bs p.text = X at *
    go_enter Tryz.func54, Tryz.ntmps54
    go_wp2
    first | go_ret | go_ret2 | go_end0
    exact HG.out
  · have hb : ((bs p.op).toList == [104, 97, 115]) = false := by
      rw [bs_toL]
      have : ¬ p.op = [104, 97, 115] := hh
      simpa using this
    unfold cmpOf at hl ⊢
    rw [if_neg hh] at hl ⊢
    simp only [List.length_cons, List.length_append, List.length_nil] at hl
    have HC := hide (fun W => contains_ok p.text 34 W)
    cases hq : p.text.contains 34 with
    | true =>
      rw [hq] at HC
      have e0 : quoteFor p.text = 39 := by unfold quoteFor; rw [if_pos hq]
      rw [e0]
      have p1 : ∀ W, (Op.stringOp .add (bs p.op) ⟨#[39]⟩).run Tryz.prog W = .ok (.string (bs (p.op ++ [39]))) W := add_rows3 p.op [39] _ rfl (by simp; omega)
      have p2 := add_rows3 (p.op ++ [39]) p.text _ rfl (by simp; omega)
      have p3 : ∀ W, (Op.stringOp .add (bs (p.op ++ [39] ++ p.text)) ⟨#[39]⟩).run Tryz.prog W = .ok (.string (bs (p.op ++ [39] ++ p.text ++ [39]))) W := add_rows3 (p.op ++ [39] ++ p.text) [39] _ rfl (by simp; omega)
      have eT : p.op ++ 39 :: (p.text ++ [39]) = p.op ++ [39] ++ p.text ++ [39] := by simp
      rw [eT]
      have HWT := hide (box_put hw (bs p.op) (bs p.attr) (bs p.text) ki nk kc si ns sc (p.op ++ [39] ++ p.text ++ [39]) (by simp; omega))
      clear hl hw hv eT e0 hq hh
      generalize bs (p.op ++ [39] ++ p.text ++ [39]) = S3 at *
      generalize bs (p.op ++ [39] ++ p.text) = S2 at *
      generalize bs (p.op ++ [39]) = S1 at *
      generalize p.op ++ [39] ++ p.text ++ [39] = T at *
      generalize bs p.op = O at *
      generalize bs p.attr = A at *
      generalize bs p.text = X at *
      go_enter Tryz.func54, Tryz.ntmps54
      go_wp2_with (go_at_call 68; refine (HC.out _).mono ?_; rintro e w1 ⟨rfl, rfl⟩)
      go_region_held3 (fun W => W.cell? ⟨w.heap.size, 0, none⟩ = some (.string O) ∧ W.cell? ⟨w.heap.size, 3, none⟩ = some (.string A) ∧ W.cell? ⟨w.heap.size, 4, none⟩ = some (.string X))
        (first | exact d3 | exact ⟨c0, c3, c4⟩ | exact (HWT.out _ (belowN (Below.refl _ _) _)).1)
        ((go_at_call 22; (first | refine (HWT.out _ (belowN (Below.refl _ _) _)).2.mono ?_ | refine (HWT.out _ (Below.refl _ _)).2.mono ?_); rintro e w3 ⟨rfl, d3, h3⟩))
      all_goals (go_wp2; go_end0; exact h3.out)
    | false =>
      rw [hq] at HC
      have e0 : quoteFor p.text = 34 := by unfold quoteFor; rw [hq]; rfl
      rw [e0]
      have p1 : ∀ W, (Op.stringOp .add (bs p.op) ⟨#[34]⟩).run Tryz.prog W = .ok (.string (bs (p.op ++ [34]))) W := add_rows3 p.op [34] _ rfl (by simp; omega)
      have p2 := add_rows3 (p.op ++ [34]) p.text _ rfl (by simp; omega)
      have p3 : ∀ W, (Op.stringOp .add (bs (p.op ++ [34] ++ p.text)) ⟨#[34]⟩).run Tryz.prog W = .ok (.string (bs (p.op ++ [34] ++ p.text ++ [34]))) W := add_rows3 (p.op ++ [34] ++ p.text) [34] _ rfl (by simp; omega)
      have eT : p.op ++ 34 :: (p.text ++ [34]) = p.op ++ [34] ++ p.text ++ [34] := by simp
      rw [eT]
      have HWT := hide (box_put hw (bs p.op) (bs p.attr) (bs p.text) ki nk kc si ns sc (p.op ++ [34] ++ p.text ++ [34]) (by simp; omega))
      clear hl hw hv eT e0 hq hh
      generalize bs (p.op ++ [34] ++ p.text ++ [34]) = S3 at *
      generalize bs (p.op ++ [34] ++ p.text) = S2 at *
      generalize bs (p.op ++ [34]) = S1 at *
      generalize p.op ++ [34] ++ p.text ++ [34] = T at *
      generalize bs p.op = O at *
      generalize bs p.attr = A at *
      generalize bs p.text = X at *
      go_enter Tryz.func54, Tryz.ntmps54
      go_wp2_with (go_at_call 68; refine (HC.out _).mono ?_; rintro e w1 ⟨rfl, rfl⟩)
      go_region_held3 (fun W => W.cell? ⟨w.heap.size, 0, none⟩ = some (.string O) ∧ W.cell? ⟨w.heap.size, 3, none⟩ = some (.string A) ∧ W.cell? ⟨w.heap.size, 4, none⟩ = some (.string X))
        (first | exact d3 | exact ⟨c0, c3, c4⟩ | exact (HWT.out _ (belowN (Below.refl _ _) _)).1)
        ((go_at_call 22; (first | refine (HWT.out _ (belowN (Below.refl _ _) _)).2.mono ?_ | refine (HWT.out _ (Below.refl _ _)).2.mono ?_); rintro e w3 ⟨rfl, d3, h3⟩))
      all_goals (go_wp2; go_end0; exact h3.out)
end Go.Proofs.YtigpjemceodjcaaGreatDoor

set_option linter.unusedSimpArgs false
set_option linter.unusedVariables false
namespace Go.Proofs.YtigpjemceodjcaaGreatDoor
open Go.RowKit Go.Maps Go.Lib
variable {w w' w1 W : World} {b : Nat} {o : L}
def Prds.dp : Prds → Nat → Prds
  | p, 0 => p
  | .nil, _ + 1 => .nil
  | .cons _ _ _ _ _ m, i + 1 => m.dp i
def Stps.dp : Stps → Nat → Stps
  | p, 0 => p
  | .nil, _ + 1 => .nil
  | .cons _ _ _ m, i + 1 => m.dp i
theorem Prds.dp_zero (p : Prds) : p.dp 0 = p := by cases p <;> rfl
theorem Stps.dp_zero (p : Stps) : p.dp 0 = p := by cases p <;> rfl
theorem Prds.dp_get : ∀ (p : Prds) (i : Nat) (x : Prd), p.get i = some x → p.dp i = .cons x.op x.kids x.steps x.attr x.text (p.dp (i + 1))
  | .nil, i, x, h => by simp [Prds.get] at h
  | .cons o k s a t m, 0, x, h => by simp only [Prds.get, Option.some.injEq] at h; subst h; simp [Prds.dp]
  | .cons o k s a t m, i + 1, x, h => by simp only [Prds.dp]; exact Prds.dp_get m i x h
theorem Stps.dp_get : ∀ (p : Stps) (i : Nat) (x : Stp), p.get i = some x → p.dp i = .cons x.deep x.test x.preds (p.dp (i + 1))
  | .nil, i, x, h => by simp [Stps.get] at h
  | .cons d t q m, 0, x, h => by simp only [Stps.get, Option.some.injEq] at h; subst h; simp [Stps.dp]
  | .cons d t q m, i + 1, x, h => by simp only [Stps.dp]; exact Stps.dp_get m i x h
theorem Prds.dp_len : ∀ (p : Prds), p.dp p.len = .nil
  | .nil => rfl
  | .cons o k s a t m => by simp only [Prds.len, Prds.dp]; exact Prds.dp_len m
theorem Stps.dp_len : ∀ (p : Stps), p.dp p.len = .nil
  | .nil => rfl
  | .cons d t q m => by simp only [Stps.len, Stps.dp]; exact Stps.dp_len m
abbrev wc (x : Prd) : L := wCond x.op x.kids x.steps x.attr x.text
def CallS (f : FuncId) (b : Nat) (s : Stp) (T : L) : Prop := ∀ w o vi vn vc, WB b o w → slP w (fun k => k < b) 51 86 (.slice vi vn vc) s.preds → o.length + T.length ≤ 1000000 →
  Calls Tryz.prog f #[.pointer (some ⟨b, 0, none⟩), .agg (aS s.deep (bs s.test) (.slice vi vn vc))] w (WG b o T w)
def Mid (b : Nat) (O : L) (w wr : World) (rest : L) : Prop := ∃ o', WB b o' wr ∧ Wr b w wr ∧ o' ++ rest = O
theorem wPreds_get {p : Prds} {i : Nat} {x : Prd} (h : p.get i = some x) : wPreds (p.dp i) = [91] ++ (wc x ++ ([93] ++ wPreds (p.dp (i + 1)))) := by
  rw [p.dp_get i x h, wPreds]; simp
theorem Mid.alloc {O rest : L} {wr : World} (h : Mid b O w wr rest) (x : Obj) : Mid b O w (wr.alloc x) rest := by
  obtain ⟨o', h1, h2, h3⟩ := h
  obtain ⟨wa, wb⟩ := wr_alloc h1 x
  exact ⟨o', wb, h2.trans wa, h3⟩
theorem Mid.put {O rest t : L} {wr : World} (h : Mid b O w wr (t ++ rest)) (hO : O.length ≤ 1000000) : Calls Tryz.prog 22 #[.pointer (some ⟨b, 0, none⟩), .string (bs t)] wr fun e w' => e = .returned (.tuple #[.int .i64 t.length, .nilIface]) ∧ Hid (Mid b O w w' rest ∧ Wr b wr w') := by
  obtain ⟨o', h1, h2, h3⟩ := h
  have hl := congrArg List.length h3
  simp only [List.length_append] at hl
  refine (put_ok h1 t (by omega)).mono ?_
  rintro e w' ⟨h, k, r⟩
  exact ⟨h, hide ⟨⟨_, k, h2.trans r, by rw [List.append_assoc]; exact h3⟩, r⟩⟩
theorem Mid.part {f : FuncId} {args : Array Value} {O rest t : L} {wr : World} (h : Mid b O w wr (t ++ rest)) (hO : O.length ≤ 1000000) (hc : ∀ o', WB b o' wr → o'.length + t.length ≤ 1000000 → Calls Tryz.prog f args wr (WG b o' t wr)) : Calls Tryz.prog f args wr fun e w' => e = .returned (.tuple #[]) ∧ Hid (Mid b O w w' rest ∧ Wr b wr w') := by
  obtain ⟨o', h1, h2, h3⟩ := h
  have hl := congrArg List.length h3
  simp only [List.length_append] at hl
  refine (hc o' h1 (by omega)).mono ?_
  rintro e w' ⟨h, k, r⟩
  exact ⟨h, hide ⟨⟨_, k, h2.trans r, by rw [List.append_assoc]; exact h3⟩, r⟩⟩
theorem Mid.start {T : L} (h : WB b o w) : Mid b (o ++ T) w w T := ⟨o, h, Wr.refl b w, rfl⟩
theorem Mid.fin {T : L} {wr : World} (h : Mid b (o ++ T) w wr []) : WG b o T w (.returned (.tuple #[])) wr := by
  obtain ⟨o', h1, h2, h3⟩ := h
  rw [List.append_nil] at h3
  subst h3
  exact ⟨rfl, h1, h2⟩
theorem Mid.below {O rest : L} {wr wr' : World} (h : Mid b O w wr rest) (hb : Below wr.heap.size wr wr') : Mid b O w wr' rest := by
  obtain ⟨o', h1, h2, h3⟩ := h
  exact ⟨o', h1.below hb, h2.trans (Wr.past (Nat.le_of_lt h1.lt) hb), h3⟩
theorem Mid.lt {O rest : L} {wr : World} (h : Mid b O w wr rest) : b < wr.heap.size := by
  obtain ⟨o', h1, h2, h3⟩ := h
  exact h1.lt
theorem Mid.wr {O rest : L} {wr : World} (h : Mid b O w wr rest) : Wr b w wr := by
  obtain ⟨o', h1, h2, h3⟩ := h
  exact h2
theorem testW2 (d : Bool) (t : L) (vp : Value) (w : World) : Calls Tryz.prog 37 #[.agg (aS d (bs t) vp)] w fun e w' => e = .returned (.string (bs (testOf t))) ∧ Below w.heap.size w w' := (testW_ok d t vp w).mono fun e w' ⟨h1, h2⟩ => ⟨h1, by rw [h2]; exact (Below.refl _ w).alloc (Nat.le_refl _) _⟩
theorem slashW2 (d : Bool) (t : L) (vp : Value) (w : World) : Calls Tryz.prog 23 #[.agg (aS d (bs t) vp)] w fun e w' => e = .returned (.string (bs (slashOf d))) ∧ Below w.heap.size w w' := (slashW_ok d t vp w).mono fun e w' ⟨h1, h2⟩ => ⟨h1, by rw [h2]; exact (Below.refl _ w).alloc (Nat.le_refl _) _⟩
theorem cells3 {k : Nat} {x0 x1 x2 : Value} {ty : TypeId} (h : w.heap[k]? = some (.cells #[x0, x1, x2] ty (0, 0))) : w.cell? ⟨k, 0, none⟩ = some x0 ∧ w.cell? ⟨k, 1, none⟩ = some x1 ∧ w.cell? ⟨k, 2, none⟩ = some x2 := ⟨cell_of h rfl, cell_of h rfl, cell_of h rfl⟩
theorem Mid.box {O rest t : L} {w0 : World} (m0 : Mid b O w w0 (t ++ rest)) (hO : O.length ≤ 1000000) (k : Nat) (hk : k ≠ b) (x0 x1 x2 : Value) (hB : w0.heap[k]? = some (.cells #[x0, x1, x2] 51 (0, 0))) : ∀ W, Below w0.heap.size w0 W →
    (W.cell? ⟨k, 0, none⟩ = some x0 ∧ W.cell? ⟨k, 1, none⟩ = some x1 ∧ W.cell? ⟨k, 2, none⟩ = some x2) ∧ Calls Tryz.prog 22 #[.pointer (some ⟨b, 0, none⟩), .string (bs t)] W fun e w' => e = .returned (.tuple #[.int .i64 (t.length : Nat), .nilIface]) ∧ (w'.cell? ⟨k, 0, none⟩ = some x0 ∧ w'.cell? ⟨k, 1, none⟩ = some x1 ∧ w'.cell? ⟨k, 2, none⟩ = some x2) ∧ Hid (Mid b O w w' rest ∧ Wr b w0 w') := fun W hW => by
  have hBW := (hW.block _ (blk_lt hB)).trans hB
  refine ⟨cells3 hBW, ((m0.below hW).put hO).mono ?_⟩
  rintro e w' ⟨h, k⟩
  exact ⟨h, cells3 (k.out.2.box hBW hk (by decide)), hide ⟨k.out.1, (Wr.past (Nat.le_of_lt m0.lt) hW).trans k.out.2⟩⟩
set_option maxHeartbeats 16000000 in
set_option maxRecDepth 100000 in
theorem stepW_ok (s : Stp) (hp : ∀ i x, s.preds.get i = some x → CallP 38 b x (wc x)) : CallS 24 b s (testOf s.test ++ wPreds s.preds) := by
  intro w o vi vn vc hw hv hl
  have hO : (o ++ (testOf s.test ++ wPreds s.preds)).length ≤ 1000000 := by rw [List.length_append]; exact hl
  obtain ⟨ai, cap, e, hn⟩ := hv.len
  cases e
  have hB := Below_new w (.cells (aS s.deep (bs s.test) (.slice vi s.preds.len vc)) 51)
  have hne : w.heap.size ≠ b := by have := hw.lt; omega
  have m0 := Mid.start (T := testOf s.test ++ wPreds s.preds) hw
  have HFIN : Hid (∀ wr, Mid b (o ++ (testOf s.test ++ wPreds s.preds)) w wr (wPreds (s.preds.dp s.preds.len)) → WG b o (testOf s.test ++ wPreds s.preds) w (.returned (.tuple #[])) wr) := fun wr m => by
    rw [Prds.dp_len, wPreds] at m
    exact m.fin
  obtain ⟨OO, hOO⟩ : ∃ OO, (o ++ (testOf s.test ++ wPreds s.preds)) = OO := ⟨_, rfl⟩
  rw [hOO] at hO m0 HFIN
  clear hOO
  generalize testOf s.test ++ wPreds s.preds = TT at HFIN hl ⊢
  have HT := hide (fun W => testW2 s.deep s.test (.slice vi s.preds.len vc) W)
  have HWT := hide ((m0.alloc (.cells (aS s.deep (bs s.test) (.slice vi s.preds.len vc)) 51)).box hO w.heap.size hne _ _ _ hB)
  have HR : Hid (∀ wr i, i < s.preds.len → Mid b OO w wr (wPreds (s.preds.dp i)) → ∃ g O A X ki nk kc si ns sc, vi = some ⟨g, 0, none⟩ ∧ (wr.cell? ⟨g, i * 5, none⟩ = some (.string O) ∧ wr.cell? ⟨g, i * 5 + 1, none⟩ = some (.slice ki nk kc) ∧ wr.cell? ⟨g, i * 5 + 2, none⟩ = some (.slice si ns sc) ∧ wr.cell? ⟨g, i * 5 + 3, none⟩ = some (.string A) ∧ wr.cell? ⟨g, i * 5 + 4, none⟩ = some (.string X)) ∧ Hid (Calls Tryz.prog 22 #[.pointer (some ⟨b, 0, none⟩), .string (bs [91])] (wr.alloc (.cells (aP O ki nk kc si ns sc A X) 86)) fun e w1 => e = .returned (.tuple #[.int .i64 1, .nilIface]) ∧ w1.heap[wr.heap.size]? = some (.cells (aP O ki nk kc si ns sc A X) 86 (0, 0)) ∧ Hid (Calls Tryz.prog 38 #[.pointer (some ⟨b, 0, none⟩), .agg (aP O ki nk kc si ns sc A X)] w1 fun e w2 => e = .returned (.tuple #[]) ∧ Hid (Calls Tryz.prog 22 #[.pointer (some ⟨b, 0, none⟩), .string (bs [93])] w2 fun e w3 => e = .returned (.tuple #[.int .i64 1, .nilIface]) ∧ Hid (Mid b OO w w3 (wPreds (s.preds.dp (i + 1)))))))) := fun wr i hi m => by
    obtain ⟨x, hx⟩ := s.preds.get_lt i hi
    obtain ⟨g, e1, -, -, a0, ⟨k1, a1, r1⟩, ⟨p1, a2, q1⟩, a3, a4⟩ := (m.wr.slP hv).at hx
    obtain ⟨ki, kc, rfl, _⟩ := r1.len
    obtain ⟨si, sc, rfl, _⟩ := q1.len
    rw [wPreds_get hx] at m
    refine ⟨g, _, _, _, ki, _, kc, si, _, sc, e1, ⟨a0, a1, a2, a3, a4⟩, hide ?_⟩
    have hB1 := Below_new wr (.cells (aP (bs x.op) ki x.kids.len kc si x.steps.len sc (bs x.attr) (bs x.text)) 86)
    have hlt := m.lt
    refine ((m.alloc _).put hO).mono ?_
    rintro e w1 ⟨h1, k1⟩
    have hW1 := k1.out.1.wr
    refine ⟨h1, k1.out.2.box hB1 (by omega) (by decide), hide ?_⟩
    refine (k1.out.1.part hO (fun o' hw' hl' => hp i x hx w1 o' ki x.kids.len kc si x.steps.len sc hw' ?_ hl')).mono ?_
    · have pb := (m.wr.slP hv).at hx
      have hm := (wr_alloc (Classical.choose_spec m).1 (.cells (aP (bs x.op) ki x.kids.len kc si x.steps.len sc (bs x.attr) (bs x.text)) 86)).1.trans k1.out.2
      exact ⟨hm.slP r1, hm.slS q1⟩
    · rintro e w2 ⟨h2, k2⟩
      refine ⟨h2, hide ?_⟩
      refine (k2.out.1.put hO).mono ?_
      rintro e w3 ⟨h3, k3⟩
      exact ⟨h3, hide k3.out.1⟩
  obtain ⟨c0, c1, c2⟩ := cells3 hB
  clear hw hv hl hB m0 hne hO hp
  generalize (testOf s.test) = TE at *
  generalize s.deep = d at *
  generalize bs s.test = ST at *
  go_enter Tryz.func24, Tryz.ntmps24
  go_wp2_with fail
  go_region_held3 (fun W => W.cell? ⟨w.heap.size, 0, none⟩ = some (.bool d) ∧ W.cell? ⟨w.heap.size, 1, none⟩ = some (.string ST) ∧ W.cell? ⟨w.heap.size, 2, none⟩ = some (.slice vi s.preds.len vc))
        (first | exact d3 | exact ⟨c0, c1, c2⟩ | exact (HWT.out _ (belowN b2 _)).1 | exact (HWT.out _ b2).1)
        ((first | (go_at_call 37; refine (HT.out _).mono ?_; rintro e w2 ⟨rfl, b2'⟩; have b2 := (belowN (Below.refl _ _) _).trans b2'; clear b2') | (go_at_call 22; (first | refine (HWT.out _ b2).2.mono ?_ | refine (HWT.out _ (belowN b2 _)).2.mono ?_); rintro e w3 ⟨rfl, d3, h3⟩)))
  all_goals
    obtain ⟨d0, d1, d2⟩ := d3
    have M3 : Hid (Mid b OO w w3 (wPreds (s.preds.dp 0))) := by rw [Prds.dp_zero]; exact hide h3.out.1
    clear h3 b2 c0 c1 c2 HT HWT
    generalize s.preds.len = n at *
    go_wp2_with fail
    clear d0 d1 d2
    go_loopw [5, 15, 16, 17, 18, 19, 20, 21, 22, 23, 24, 25, 26, 27, 28, 29, 30] (fun _ u15 _ _ _ _ _ _ _ _ _ _ _ _ _ _ _ wr => ∃ i : Nat, u15 = .int .i64 i ∧ i ≤ n ∧ Hid (Mid b OO w wr (wPreds (s.preds.dp i)))) (fun _ u15 _ _ _ _ _ _ _ _ _ _ _ _ _ _ _ _ => n - (RowKit.intOf u15).toNat)
    case atStart => exact ⟨0, rfl, Nat.zero_le _, M3⟩
    case round =>
      rename World => WO
      obtain ⟨i, rfl, hi, HM⟩ := hrel
      by_cases hlt : i < n
      · obtain ⟨g, O, A, X, ki, nk, kc, si, ns, sc, rfl, ⟨a0, a1, a2, a3, a4⟩, HC⟩ := HR.out _ i hlt HM.out
        have hdec : decide ((i : Int) < n) = true := by simp; omega
        have hii : (i : Int) < n := by omega
        clear HR HFIN HM M3
        go_wp2_with (first | (go_at_call 22; refine HC.out.mono ?_; rintro e w4 ⟨rfl, hb4, hc4⟩; obtain ⟨⟨c0, c1, c2, c3, c4⟩, -⟩ := cells5 hb4; clear hb4 HC) | (go_at_call 38; refine hc4.out.mono ?_; rintro e w5 ⟨rfl, h5⟩; clear hc4 c0 c1 c2 c3 c4) | (go_at_call 22; refine h5.out.mono ?_; rintro e w6 ⟨rfl, h6⟩; clear h5))
        exact ⟨⟨i + 1, by simp, by omega, h6⟩, by simp only [RowKit.intOf]; omega⟩
      · have hdec : decide ((i : Int) < n) = false := by simp; omega
        obtain rfl : i = n := by omega
        go_wp2
        go_end0
        exact HFIN.out _ HM.out
end Go.Proofs.YtigpjemceodjcaaGreatDoor

set_option linter.unusedSimpArgs false
set_option linter.unusedVariables false
namespace Go.Proofs.YtigpjemceodjcaaGreatDoor
open Go.RowKit Go.Maps Go.Lib
variable {w w' w1 W : World} {b : Nat} {o : L}
abbrev wt (x : Stp) : L := testOf x.test ++ wPreds x.preds
theorem Mid.step {x : Stp} {O rest : L} {w0 : World} {vi : Option Addr} {vn vc : Nat} (m : Mid b O w w0 (wt x ++ rest)) (hO : O.length ≤ 1000000) (hx : CallS 24 b x (wt x)) (sp : slP w0 (fun k => k < b) 51 86 (.slice vi vn vc) x.preds) :
    Calls Tryz.prog 24 #[.pointer (some ⟨b, 0, none⟩), .agg (aS x.deep (bs x.test) (.slice vi vn vc))] w0 fun e w' => e = .returned (.tuple #[]) ∧ Hid (Mid b O w w' rest) := by
  refine (m.part hO (fun o' hw' hl' => hx w0 o' vi vn vc hw' sp hl')).mono ?_
  rintro e w' ⟨h, k⟩
  exact ⟨h, hide k.out.1⟩
def DW (b : Nat) (O : L) (w : World) (rest : L) (k : Nat) (d : Bool) (X : ByteArray) (vp : Value) (S : ByteArray) (N : Int) (w0 : World) : Prop := ∀ W, Below w0.heap.size w0 W →
    (W.cell? ⟨k, 0, none⟩ = some (.bool d) ∧ W.cell? ⟨k, 1, none⟩ = some (.string X) ∧ W.cell? ⟨k, 2, none⟩ = some vp) ∧ Calls Tryz.prog 22 #[.pointer (some ⟨b, 0, none⟩), .string S] W fun e w' => e = .returned (.tuple #[.int .i64 N, .nilIface]) ∧ (w'.cell? ⟨k, 0, none⟩ = some (.bool d) ∧ w'.cell? ⟨k, 1, none⟩ = some (.string X) ∧ w'.cell? ⟨k, 2, none⟩ = some vp) ∧
    Hid (Calls Tryz.prog 24 #[.pointer (some ⟨b, 0, none⟩), .agg (aS d X vp)] w' fun e w'' => e = .returned (.tuple #[]) ∧ Hid (Mid b O w w'' rest))
theorem dw_ok {x : Stp} {O rest : L} {w0 : World} {vi : Option Addr} {vn vc k : Nat} (m : Mid b O w w0 (slashOf x.deep ++ (wt x ++ rest))) (hO : O.length ≤ 1000000) (hx : CallS 24 b x (wt x)) (hk : k ≠ b) (hB : w0.heap[k]? = some (.cells (aS x.deep (bs x.test) (.slice vi vn vc)) 51 (0, 0))) (sp : slP w0 (fun k => k < b) 51 86 (.slice vi vn vc) x.preds) : DW b O w rest k x.deep (bs x.test) (.slice vi vn vc) (bs (slashOf x.deep)) ((slashOf x.deep).length : Nat) w0 := by
  intro W hW
  obtain ⟨h1, h2⟩ := m.box hO k hk _ _ _ hB W hW
  refine ⟨h1, h2.mono ?_⟩
  rintro e w' ⟨h, c, r⟩
  exact ⟨h, c, hide (r.out.1.step hO hx (r.out.2.slP sp))⟩
def wIn (s : Stps) (i : Nat) : L := if i = 0 then wInner s else wSteps (s.dp i)
theorem wIn_one (s : Stps) (i : Nat) : wIn s (i + 1) = wSteps (s.dp (i + 1)) := by unfold wIn; rw [if_neg (by omega)]
theorem wSteps_get {s : Stps} {i : Nat} {x : Stp} (h : s.get i = some x) : wSteps (s.dp i) = slashOf x.deep ++ (wt x ++ wSteps (s.dp (i + 1))) := by
  rw [s.dp_get i x h, wSteps]; simp
theorem wIn_get {s : Stps} {i : Nat} {x : Stp} (h : s.get i = some x) (hi : i ≠ 0) : wIn s i = slashOf x.deep ++ (wt x ++ wIn s (i + 1)) := by
  rw [wIn_one, ← wSteps_get h]; unfold wIn; rw [if_neg hi]
theorem wIn_zero {s : Stps} {x : Stp} (h : s.get 0 = some x) : wIn s 0 = (if x.deep = true then [46] ++ ([47, 47] ++ (wt x ++ wIn s 1)) else wt x ++ wIn s 1) := by
  have e := s.dp_get 0 x h
  rw [s.dp_zero] at e
  rw [wIn_one, wIn, if_pos rfl]
  rw [e, wInner]
  have e2 : (Stps.cons x.deep x.test x.preds (s.dp (0 + 1))).dp (0 + 1) = s.dp (0 + 1) := by rw [Stps.dp, Stps.dp_zero]
  rw [e2]
  cases x.deep <;> simp
theorem wIn_end (s : Stps) : wIn s s.len = [] := by
  unfold wIn
  split
  · next h =>
    have : s = .nil := by cases s with | nil => rfl | cons d t p m => simp [Stps.len] at h
    subst this
    simp [wInner]
  · rw [Stps.dp_len, wSteps]
def CallR (f : FuncId) (b : Nat) (s : Stps) (T : L) : Prop := ∀ w o vi vn vc, WB b o w → slS w (fun k => k < b) 51 86 (.slice vi vn vc) s → o.length + T.length ≤ 1000000 →
  Calls Tryz.prog f #[.pointer (some ⟨b, 0, none⟩), .slice vi vn vc] w (WG b o T w)
set_option maxHeartbeats 16000000 in
set_option maxRecDepth 100000 in
theorem inner_ok (s : Stps) (hs : ∀ i x, s.get i = some x → CallS 24 b x (wt x)) : CallR 67 b s (wInner s) := by
  intro w o vi vn vc hw hv hl
  have hO : (o ++ wInner s).length ≤ 1000000 := by rw [List.length_append]; exact hl
  obtain ⟨ai, cap, e, hn⟩ := hv.len
  cases e
  have m0 := Mid.start (T := wInner s) hw
  have HFIN : Hid (∀ wr, Mid b (o ++ wInner s) w wr (wIn s s.len) → WG b o (wInner s) w (.returned (.tuple #[])) wr) := fun wr m => by
    rw [wIn_end] at m
    exact m.fin
  have M0 : Hid (Mid b (o ++ wInner s) w w (wIn s 0)) := hide m0
  obtain ⟨OO, hOO⟩ : ∃ OO, (o ++ wInner s) = OO := ⟨_, rfl⟩
  rw [hOO] at hO M0 HFIN
  clear hOO m0
  generalize wInner s = TT at HFIN hl ⊢
  have HR : Hid (∀ wr i, i < s.len → Mid b OO w wr (wIn s i) → ∃ g d X pi pn pc, vi = some ⟨g, 0, none⟩ ∧ (wr.cell? ⟨g, i * 3, none⟩ = some (.bool d) ∧ wr.cell? ⟨g, i * 3 + 1, none⟩ = some (.string X) ∧ wr.cell? ⟨g, i * 3 + 2, none⟩ = some (.slice pi pn pc)) ∧ ((wr.alloc (.cells (aS d X (.slice pi pn pc)) 51)).cell? ⟨wr.heap.size, 0, none⟩ = some (.bool d) ∧ (wr.alloc (.cells (aS d X (.slice pi pn pc)) 51)).cell? ⟨wr.heap.size, 1, none⟩ = some (.string X) ∧ (wr.alloc (.cells (aS d X (.slice pi pn pc)) 51)).cell? ⟨wr.heap.size, 2, none⟩ = some (.slice pi pn pc)) ∧
      Hid (i ≠ 0 → DW b OO w (wIn s (i + 1)) wr.heap.size d X (.slice pi pn pc) (bs (slashOf d)) ((slashOf d).length : Nat) (wr.alloc (.cells (aS d X (.slice pi pn pc)) 51))) ∧
      Hid (i = 0 → d = false → Calls Tryz.prog 24 #[.pointer (some ⟨b, 0, none⟩), .agg (aS d X (.slice pi pn pc))] (wr.alloc (.cells (aS d X (.slice pi pn pc)) 51)) fun e w'' => e = .returned (.tuple #[]) ∧ Hid (Mid b OO w w'' (wIn s (i + 1)))) ∧
      Hid (i = 0 → d = true → Calls Tryz.prog 22 #[.pointer (some ⟨b, 0, none⟩), .string (bs [46])] (wr.alloc (.cells (aS d X (.slice pi pn pc)) 51)) fun e w2 => e = .returned (.tuple #[.int .i64 1, .nilIface]) ∧ (w2.cell? ⟨wr.heap.size, 0, none⟩ = some (.bool d) ∧ w2.cell? ⟨wr.heap.size, 1, none⟩ = some (.string X) ∧ w2.cell? ⟨wr.heap.size, 2, none⟩ = some (.slice pi pn pc)) ∧ Hid (DW b OO w (wIn s (i + 1)) wr.heap.size d X (.slice pi pn pc) (bs (slashOf d)) ((slashOf d).length : Nat) w2))) := fun wr i hi m => by
    obtain ⟨x, hx⟩ := s.get_lt i hi
    obtain ⟨g, e1, -, -, a0, a1, p1, a2, q1⟩ := (m.wr.slS hv).at hx
    obtain ⟨pi, pc, rfl, _⟩ := q1.len
    have hB1 := Below_new wr (.cells (aS x.deep (bs x.test) (.slice pi x.preds.len pc)) 51)
    have hlt := m.lt
    have ma := m.alloc (.cells (aS x.deep (bs x.test) (.slice pi x.preds.len pc)) 51)
    have hq := (wr_alloc (Classical.choose_spec m).1 (.cells (aS x.deep (bs x.test) (.slice pi x.preds.len pc)) 51)).1.slP q1
    refine ⟨g, _, _, pi, _, pc, e1, ⟨a0, a1, a2⟩, cells3 hB1, hide ?_, hide ?_, hide ?_⟩
    · intro h0
      rw [wIn_get hx h0] at ma
      exact dw_ok ma hO (hs i x hx) (by omega) hB1 hq
    · intro h0 hd
      subst h0
      rw [wIn_zero hx, if_neg (by rw [hd]; simp)] at ma
      exact ma.step hO (hs 0 x hx) hq
    · intro h0 hd
      subst h0
      rw [wIn_zero hx, if_pos hd] at ma
      refine (ma.put hO).mono ?_
      rintro e w2 ⟨h, k⟩
      have hB2 := k.out.2.box hB1 (by omega) (by decide)
      refine ⟨h, cells3 hB2, hide ?_⟩
      have es : [47, 47] = slashOf x.deep := by rw [hd]; rfl
      have k1 := k.out.1
      rw [es] at k1
      exact dw_ok k1 hO (hs 0 x hx) (by omega) hB2 (k.out.2.slP hq)
  have HT := hide (fun (d : Bool) (X : ByteArray) (pi : Option Addr) (pn pc : Nat) (W : World) => slashW2 d X.data.toList (.slice pi pn pc) W)
  have hbb : ∀ X : ByteArray, bs X.data.toList = X := fun X => by cases X; unfold bs; simp
  simp only [hbb] at HT
  clear hw hv hl hO hs hbb
  generalize s.len = n at *
  go_enter Tryz.func67, Tryz.ntmps67
  go_wp2_with fail
  go_loopw [4, 5, 8, 9, 10, 11, 12, 13, 14, 15, 16, 17, 18, 19, 20, 21, 22, 23, 24, 25, 26, 27, 28, 29, 30, 31, 32, 33, 34, 35, 36, 37, 38] (fun _ _ u8 _ _ _ _ _ _ _ _ _ _ _ _ _ _ _ _ _ _ _ _ _ _ _ _ _ _ _ _ _ _ wr => ∃ i : Nat, u8 = .int .i64 i ∧ i ≤ n ∧ Hid (Mid b OO w wr (wIn s i))) (fun _ _ u8 _ _ _ _ _ _ _ _ _ _ _ _ _ _ _ _ _ _ _ _ _ _ _ _ _ _ _ _ _ _ _ => n - (RowKit.intOf u8).toNat)
  case atStart => exact ⟨0, rfl, Nat.zero_le _, M0⟩
  case round =>
    rename World => WO
    obtain ⟨i, rfl, hi, HM⟩ := hrel
    by_cases hlt : i < n
    · obtain ⟨g, d, X, pi, pn, pc, rfl, ⟨a0, a1, a2⟩, ⟨c0, c1, c2⟩, HA, HB, HC⟩ := HR.out _ i hlt HM.out
      have hdec : decide ((i : Int) < n) = true := by simp; omega
      have hii : (i : Int) < n := by omega
      clear HR HFIN HM M0
      have HT1 := hide (fun W => HT.out d X pi pn pc W)
      clear HT
      by_cases h0 : i = 0
      · have he : ((i : Int) == 0) = true := by simp; omega
        have hgt : decide ((i : Int) > 0) = false := by simp; omega
        have hgt2 : decide (0 < (i : Int)) = false := by simp; omega
        cases d with
        | false =>
          have H1 := hide (HB.out h0 rfl)
          have HZ := hide h0
          clear HA HB HC h0 HT1
          go_wp2_with (go_at_call 24; refine H1.out.mono ?_; rintro e w7 ⟨rfl, h7⟩; clear H1 c0 c1 c2)
          all_goals first
            | (exfalso; have := HZ.out; omega)
            | exact ⟨⟨i + 1, by have := HZ.out; subst this; rfl, by omega, h7⟩, by simp only [RowKit.intOf]; omega⟩
        | true =>
          have H1 := hide (HC.out h0 rfl)
          have HZ := hide h0
          clear HA HB HC h0
          go_wp2_with (go_at_call 22; refine H1.out.mono ?_; rintro e w4 ⟨rfl, k4, HD⟩; clear H1 c0 c1 c2; obtain ⟨c0, c1, c2⟩ := k4)
          all_goals try (exfalso; have := HZ.out; omega)
          go_region_held3 (fun W => W.cell? ⟨WO.heap.size, 0, none⟩ = some (.bool true) ∧ W.cell? ⟨WO.heap.size, 1, none⟩ = some (.string X) ∧ W.cell? ⟨WO.heap.size, 2, none⟩ = some (.slice pi pn pc))
            (first | exact d3 | exact ⟨c0, c1, c2⟩ | exact (HD.out _ (belowN b2 _)).1 | exact (HD.out _ b2).1)
            ((first | (go_at_call 23; refine (HT1.out _).mono ?_; rintro e w5 ⟨rfl, b2'⟩; have b2 := (belowN (Below.refl _ _) _).trans b2'; clear b2') | (go_at_call 22; (first | refine (HD.out _ b2).2.mono ?_ | refine (HD.out _ (belowN b2 _)).2.mono ?_); rintro e w6 ⟨rfl, d3, h6⟩)))
          all_goals
            obtain ⟨e0, e1, e2⟩ := d3
            clear b2 c0 c1 c2 HT1 HD
            go_wp2_with (go_at_call 24; refine h6.out.mono ?_; rintro e w7 ⟨rfl, h7⟩; clear h6 e0 e1 e2)
            exact ⟨⟨i + 1, by have := HZ.out; subst this; rfl, by omega, h7⟩, by simp only [RowKit.intOf]; omega⟩
      · have he : ((i : Int) == 0) = false := by simp; omega
        have hgt : decide ((i : Int) > 0) = true := by simp; omega
        have hgt2 : decide (0 < (i : Int)) = true := by simp; omega
        have HD := hide (HA.out h0)
        clear HA HB HC
        go_wp2_with fail
        go_region_held3 (fun W => W.cell? ⟨WO.heap.size, 0, none⟩ = some (.bool d) ∧ W.cell? ⟨WO.heap.size, 1, none⟩ = some (.string X) ∧ W.cell? ⟨WO.heap.size, 2, none⟩ = some (.slice pi pn pc))
          (first | exact d3 | exact ⟨c0, c1, c2⟩ | exact (HD.out _ (belowN b2 _)).1 | exact (HD.out _ b2).1)
          ((first | (go_at_call 23; refine (HT1.out _).mono ?_; rintro e w5 ⟨rfl, b2'⟩; have b2 := (belowN (Below.refl _ _) _).trans b2'; clear b2') | (go_at_call 22; (first | refine (HD.out _ b2).2.mono ?_ | refine (HD.out _ (belowN b2 _)).2.mono ?_); rintro e w6 ⟨rfl, d3, h6⟩)))
        all_goals
          obtain ⟨e0, e1, e2⟩ := d3
          clear b2 c0 c1 c2 HT1 HD
          go_wp2_with (go_at_call 24; refine h6.out.mono ?_; rintro e w7 ⟨rfl, h7⟩; clear h6 e0 e1 e2)
          exact ⟨⟨i + 1, by simp, by omega, h7⟩, by simp only [RowKit.intOf]; omega⟩
    · have hdec : decide ((i : Int) < n) = false := by simp; omega
      obtain rfl : i = n := by omega
      go_wp2
      go_end0
      exact HFIN.out _ HM.out
end Go.Proofs.YtigpjemceodjcaaGreatDoor

set_option linter.unusedSimpArgs false
set_option linter.unusedVariables false
namespace Go.Proofs.YtigpjemceodjcaaGreatDoor
open Go.RowKit Go.Maps Go.Lib
variable {w w' w1 W : World} {b : Nat} {o : L}
theorem eqlS_nil (W : World) : (binOp .eql 36 (.slice none 0 0) (.slice none 0 0)).run Tryz.prog W = .ok (.bool true) W := by kernel_rfl
theorem eqlS_row (a : Addr) (n c : Nat) (W : World) : (binOp .eql 36 (.slice (some a) n c) (.slice none 0 0)).run Tryz.prog W = .ok (.bool false) W := by kernel_rfl
theorem Mid.box5 {O A X : ByteArray} {ki si : Option Addr} {nk kc ns sc : Nat} {OO rest t : L} {w0 : World} (m0 : Mid b OO w w0 (t ++ rest)) (hO : OO.length ≤ 1000000) (k : Nat) (hk : k ≠ b) (hB : w0.heap[k]? = some (.cells (aP O ki nk kc si ns sc A X) 86 (0, 0))) : ∀ W, Below w0.heap.size w0 W →
    (W.cell? ⟨k, 0, none⟩ = some (.string O) ∧ W.cell? ⟨k, 3, none⟩ = some (.string A)) ∧ Calls Tryz.prog 22 #[.pointer (some ⟨b, 0, none⟩), .string (bs t)] W fun e w' => e = .returned (.tuple #[.int .i64 (t.length : Nat), .nilIface]) ∧ (w'.cell? ⟨k, 0, none⟩ = some (.string O) ∧ w'.cell? ⟨k, 3, none⟩ = some (.string A)) ∧ Hid (Mid b OO w w' rest ∧ Wr b w0 w') := fun W hW => by
  have hBW := (hW.block _ (blk_lt hB)).trans hB
  obtain ⟨⟨c0, c1, c2, c3, c4⟩, -⟩ := cells5 hBW
  refine ⟨⟨c0, c3⟩, ((m0.below hW).put hO).mono ?_⟩
  rintro e w' ⟨h, k⟩
  obtain ⟨⟨c0, c1, c2, c3, c4⟩, -⟩ := cells5 (k.out.2.box hBW hk (by decide))
  exact ⟨h, ⟨c0, c3⟩, hide ⟨k.out.1, (Wr.past (Nat.le_of_lt m0.lt) hW).trans k.out.2⟩⟩
theorem sl_nil {v : Value} {s : Stps} {A : Nat → Prop} (h : slS w A 51 86 v s) : (s = .nil ∧ v = .slice none 0 0) ∨ (s ≠ .nil ∧ ∃ a n c, v = .slice (some a) n c) := by
  rcases h with ⟨h, rfl⟩ | ⟨g, cap, cur, rfl, _, _, hn, h0, _⟩
  · refine Or.inl ⟨?_, rfl⟩
    cases s with
    | nil => rfl
    | cons d t p m => simp [Stps.len] at h
  · refine Or.inr ⟨?_, _, _, _, rfl⟩
    rintro rfl
    simp [Stps.len] at h0
def BX (b : Nat) (OO : L) (w : World) (O A S : ByteArray) (N : Int) (w0 : World) : Prop := ∀ W, Below w0.heap.size w0 W → (W.cell? ⟨w.heap.size, 0, none⟩ = some (.string O) ∧ W.cell? ⟨w.heap.size, 3, none⟩ = some (.string A)) ∧ Calls Tryz.prog 22 #[.pointer (some ⟨b, 0, none⟩), .string S] W fun e w' => e = .returned (.tuple #[.int .i64 N, .nilIface]) ∧ (w'.cell? ⟨w.heap.size, 0, none⟩ = some (.string O) ∧ w'.cell? ⟨w.heap.size, 3, none⟩ = some (.string A)) ∧ Hid (Mid b OO w w' [])
theorem bx_ok {O A X : ByteArray} {ki si : Option Addr} {nk kc ns sc : Nat} {OO t : L} {w0 : World} (m0 : Mid b OO w w0 t) (hO : OO.length ≤ 1000000) (hk : w.heap.size ≠ b) (hB : w0.heap[w.heap.size]? = some (.cells (aP O ki nk kc si ns sc A X) 86 (0, 0))) : BX b OO w O A (bs t) (t.length : Nat) w0 := by
  intro W hW
  obtain ⟨h1, h2⟩ := Mid.box5 (rest := []) (by rw [List.append_nil]; exact m0) hO w.heap.size hk hB W hW
  refine ⟨h1, h2.mono ?_⟩
  rintro e w' ⟨h, c, k⟩
  exact ⟨h, c, hide k.out.1⟩
set_option maxHeartbeats 16000000 in
set_option maxRecDepth 100000 in
theorem valueW_ok (p : Prd) (hs : ∀ i x, p.steps.get i = some x → CallS 24 b x (wt x)) : CallP 53 b p (wInner p.steps ++ attrOf p.steps p.attr) := by
  intro w o ki nk kc si ns sc hw hv hl
  have hO : (o ++ (wInner p.steps ++ attrOf p.steps p.attr)).length ≤ 1000000 := by rw [List.length_append]; exact hl
  have hB := Below_new w (.cells (aP (bs p.op) ki nk kc si ns sc (bs p.attr) (bs p.text)) 86)
  have hne : w.heap.size ≠ b := by have := hw.lt; omega
  have m0 := (Mid.start (T := wInner p.steps ++ attrOf p.steps p.attr) hw).alloc (.cells (aP (bs p.op) ki nk kc si ns sc (bs p.attr) (bs p.text)) 86)
  have hvs := hv.2
  have hal : p.attr.length ≤ 1000000 := by
    have : p.attr.length ≤ (attrOf p.steps p.attr).length := by
      unfold attrOf
      split <;> split <;> simp_all <;> omega
    simp only [List.length_append] at hl
    omega
  have HFIN : Hid (∀ wr, Mid b (o ++ (wInner p.steps ++ attrOf p.steps p.attr)) w wr [] → WG b o (wInner p.steps ++ attrOf p.steps p.attr) w (.returned (.tuple #[])) wr) := fun wr m => m.fin
  obtain ⟨OO, hOO⟩ : ∃ OO, o ++ (wInner p.steps ++ attrOf p.steps p.attr) = OO := ⟨_, rfl⟩
  rw [hOO] at hO m0 HFIN
  clear hOO
  have HI : Hid (Calls Tryz.prog 67 #[.pointer (some ⟨b, 0, none⟩), .slice si ns sc] (w.alloc (.cells (aP (bs p.op) ki nk kc si ns sc (bs p.attr) (bs p.text)) 86)) fun e w1 => e = .returned (.tuple #[]) ∧ w1.heap[w.heap.size]? = some (.cells (aP (bs p.op) ki nk kc si ns sc (bs p.attr) (bs p.text)) 86 (0, 0)) ∧ Hid (Mid b OO w w1 (attrOf p.steps p.attr))) := by
    refine hide ((m0.part hO (fun o' hw' hl' => inner_ok p.steps hs _ o' si ns sc hw' ((wr_alloc hw _).1.slS hvs) hl')).mono ?_)
    rintro e w1 ⟨h, k⟩
    exact ⟨h, k.out.2.box hB hne (by decide), hide k.out.1⟩
  obtain ⟨⟨c0, c1, c2, c3, c4⟩, -⟩ := cells5 hB
  generalize wInner p.steps ++ attrOf p.steps p.attr = TT at HFIN hl ⊢
  clear m0 hB hl hs hw hv
  generalize bs p.op = O at *
  generalize bs p.text = X at *
  have hnl := sl_nil hvs
  clear hvs
  have en := eqlS_nil
  have er := eqlS_row
  by_cases ha : p.attr = []
  · have hb : ((bs p.attr).toList == []) = true := by rw [bs_toL, ha]; rfl
    have hb2 : ((bs p.attr).toList != []) = false := by rw [bs_toL, ha]; rfl
    rcases hnl with ⟨hn, he⟩ | ⟨hn, a', n', c', he⟩
    · cases he
      have HD : Hid (∀ w1, Mid b OO w w1 (attrOf p.steps p.attr) → Calls Tryz.prog 22 #[.pointer (some ⟨b, 0, none⟩), .string (bs [46])] w1 fun e w2 => e = .returned (.tuple #[.int .i64 1, .nilIface]) ∧ Hid (Mid b OO w w2 [])) := fun w1 m => by
        rw [hn, attrOf, if_pos ha] at m
        refine (Mid.put (t := [46]) (rest := []) m hO).mono ?_
        rintro e w' ⟨h, k⟩
        exact ⟨h, hide k.out.1⟩
      clear hO ha hn
      generalize bs p.attr = A at *
      go_enter Tryz.func53, Tryz.ntmps53
      go_wp2_with (first | (go_at_call 67; refine HI.out.mono ?_; rintro e w1 ⟨rfl, hb1, m1⟩; have H2 := hide (HD.out _ m1.out); clear c0 c1 c2 c3 c4 HD HI; obtain ⟨⟨c0, c1, c2, c3, c4⟩, -⟩ := cells5 hb1; clear hb1 m1) | (go_at_call 22; refine H2.out.mono ?_; rintro e w2 ⟨rfl, h2⟩; clear H2))
      go_end0
      exact HFIN.out _ h2.out
    · cases he
      have HD : Hid (∀ w1, Mid b OO w w1 (attrOf p.steps p.attr) → Mid b OO w w1 []) := fun w1 m => by
        cases hc : p.steps with
        | nil => exact absurd hc hn
        | cons d t q m' => rw [hc, attrOf, if_pos ha] at m; exact m
      clear hO ha hn
      generalize bs p.attr = A at *
      go_enter Tryz.func53, Tryz.ntmps53
      go_wp2_with (first | (go_at_call 67; refine HI.out.mono ?_; rintro e w1 ⟨rfl, hb1, m1⟩; have H2 := hide (HD.out _ m1.out); clear c0 c1 c2 c3 c4 HD HI; obtain ⟨⟨c0, c1, c2, c3, c4⟩, -⟩ := cells5 hb1; clear hb1 m1))
      go_end0
      exact HFIN.out _ H2.out
  · have hb : ((bs p.attr).toList == []) = false := by rw [bs_toL]; simpa using ha
    have hb2 : ((bs p.attr).toList != []) = true := by rw [bs_toL]; simpa using ha
    rcases hnl with ⟨hn, he⟩ | ⟨hn, a', n', c', he⟩
    · cases he
      have p1 : ∀ W, (Op.stringOp .add ⟨#[64]⟩ (bs p.attr)).run Tryz.prog W = .ok (.string (bs (64 :: p.attr))) W := add_rows3 [64] p.attr _ rfl (by simp; omega)
      have HD : Hid (∀ w1, Mid b OO w w1 (attrOf p.steps p.attr) → w1.heap[w.heap.size]? = some (.cells (aP O ki nk kc none 0 0 (bs p.attr) X) 86 (0, 0)) → BX b OO w O (bs p.attr) (bs (64 :: p.attr)) ((64 :: p.attr).length : Nat) w1) := fun w1 m hB1 => by
        rw [hn, attrOf, if_neg ha] at m
        exact bx_ok (t := 64 :: p.attr) m hO hne hB1
      clear hO ha hn
      generalize bs (64 :: p.attr) = S at *
      generalize ((64 :: p.attr).length : Int) = N at *
      generalize bs p.attr = A at *
      go_enter Tryz.func53, Tryz.ntmps53
      go_wp2_with (first | (go_at_call 67; refine HI.out.mono ?_; rintro e w1 ⟨rfl, hb1, m1⟩; have H2 := hide (HD.out _ m1.out hb1); clear c0 c1 c2 c3 c4 HD HI; obtain ⟨⟨c0, c1, c2, c3, c4⟩, -⟩ := cells5 hb1; clear hb1 m1))
      go_region_held3 (fun W => W.cell? ⟨w.heap.size, 0, none⟩ = some (.string O) ∧ W.cell? ⟨w.heap.size, 3, none⟩ = some (.string A))
        (first | exact d3 | exact ⟨c0, c3⟩ | exact (H2.out _ (belowN (Below.refl _ _) _)).1)
        ((go_at_call 22; (first | refine (H2.out _ (belowN (Below.refl _ _) _)).2.mono ?_ | refine (H2.out _ (Below.refl _ _)).2.mono ?_); rintro e w3 ⟨rfl, d3, h3⟩))
      all_goals (go_wp2; go_end0; exact HFIN.out _ h3.out)
    · cases he
      have p1 : ∀ W, (Op.stringOp .add ⟨#[47, 64]⟩ (bs p.attr)).run Tryz.prog W = .ok (.string (bs (47 :: 64 :: p.attr))) W := add_rows3 [47, 64] p.attr _ rfl (by simp; omega)
      have HD : Hid (∀ w1, Mid b OO w w1 (attrOf p.steps p.attr) → w1.heap[w.heap.size]? = some (.cells (aP O ki nk kc (some a') ns sc (bs p.attr) X) 86 (0, 0)) → BX b OO w O (bs p.attr) (bs (47 :: 64 :: p.attr)) ((47 :: 64 :: p.attr).length : Nat) w1) := fun w1 m hB1 => by
        have e : attrOf p.steps p.attr = 47 :: 64 :: p.attr := by
          cases hc : p.steps with
          | nil => exact absurd hc hn
          | cons d t q m' => rw [attrOf, if_neg ha]
        rw [e] at m
        exact bx_ok (t := 47 :: 64 :: p.attr) m hO hne hB1
      clear hO ha hn
      generalize bs (47 :: 64 :: p.attr) = S at *
      generalize ((47 :: 64 :: p.attr).length : Int) = N at *
      generalize bs p.attr = A at *
      go_enter Tryz.func53, Tryz.ntmps53
      go_wp2_with (first | (go_at_call 67; refine HI.out.mono ?_; rintro e w1 ⟨rfl, hb1, m1⟩; have H2 := hide (HD.out _ m1.out hb1); clear c0 c1 c2 c3 c4 HD HI; obtain ⟨⟨c0, c1, c2, c3, c4⟩, -⟩ := cells5 hb1; clear hb1 m1))
      go_region_held3 (fun W => W.cell? ⟨w.heap.size, 0, none⟩ = some (.string O) ∧ W.cell? ⟨w.heap.size, 3, none⟩ = some (.string A))
        (first | exact d3 | exact ⟨c0, c3⟩ | exact (H2.out _ (belowN (Below.refl _ _) _)).1)
        ((go_at_call 22; (first | refine (H2.out _ (belowN (Below.refl _ _) _)).2.mono ?_ | refine (H2.out _ (Below.refl _ _)).2.mono ?_); rintro e w3 ⟨rfl, d3, h3⟩))
      all_goals (go_wp2; go_end0; exact HFIN.out _ h3.out)
end Go.Proofs.YtigpjemceodjcaaGreatDoor
