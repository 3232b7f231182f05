import Derived.Test.YtoahlnmhjinneaaGreatDoorGag
set_option linter.unusedVariables false
set_option linter.unusedSimpArgs false
set_option linter.unusedSimpArgs false
set_option linter.unusedVariables false
namespace Go.Proofs.YtoahlnmhjinneaaGreatDoor
open Go.RowKit Go.Maps Go.Lib
variable {w w' w1 w2 W0 W1 W2 W3 W4 WO wr W W5 : World} {A F G : Nat → Prop} {R lo Bp : Nat} {t l l' : L} {wh n : Nat} {inn : Option (L → Rs Prd)} {v v' vp vk vs : Value} {X : Rs Prd} {p : Prd}
theorem ret_fin (hR : R < w.heap.size) (pv : PV (fun b => w.heap.size + 1 ≤ b) 79 112 W v p) (rd : RD R t wh n W l) (fr : Fr (fun k => k = R ∨ w.heap.size ≤ k) w W) (f5 : Fr (fun k => k = w.heap.size) W W5) : PV (fun b => w.heap.size ≤ b) 79 112 W5 v p ∧ RD R t wh n W5 l ∧ Fr (fun k => k = R) w W5 :=
  ⟨pv.move fun b hb hl => ⟨by omega, f5.block b hl (by omega)⟩, rd.fr f5 (by omega), (fr.trans f5 (fun i hi x => by omega)).restrict (fun k hk x => by omega)⟩
structure Box1 (R : Nat) (t : L) (wh n : Nat) (w W : World) (l : L) : Prop where
  rd : RD R t wh n W l
  bq : W.heap[w.heap.size]? = some (.cells zero5 112 (0, 0))
  fr : Fr (fun k => k = R ∨ w.heap.size ≤ k) w W
  sz : w.heap.size + 1 ≤ W.heap.size
  lt : R < w.heap.size
theorem Box1.start (h : RD R t wh n w l) : Box1 R t wh n w (w.alloc (.cells zero5 112)) l :=
  ⟨h.fr ((Fr.refl (fun _ => False) w).alloc _) (fun x => x), Below_new _ _, ((Fr.refl (fun _ => False) w).alloc _).mono (fun _ x => x.elim), by simp, h.lt⟩
theorem Box1.on (h : Box1 R t wh n w W l) (f : Fr (fun k => k = R) W W1) (rd : RD R t wh n W1 l') : Box1 R t wh n w W1 l' := by
  have := h.lt
  exact ⟨rd, (f.block _ (blk_lt h.bq) (by omega)).trans h.bq, h.fr.trans f (fun _ _ x => Or.inl x), Nat.le_trans h.sz f.size, h.lt⟩
theorem Box1.thr (h : Box1 R t wh n w W l) (f : Fr (fun k => k = R) W W1) : Fr (fun k => k = R) w W1 := by
  have := h.lt
  exact (h.fr.trans f (fun _ _ x => Or.inl x)).restrict (fun k hk x => by omega)
theorem Box1.fin (h : Box1 R t wh n w W l) (f : Fr (fun k => k = R) W W1) (rd : RD R t wh n W1 l') (pv : PV (fun b => W.heap.size ≤ b) 79 112 W1 v p) : ∃ ki nk kc si ns sc, v = .agg #[.string (bs p.op), .slice ki nk kc, .slice si ns sc, .string (bs p.attr), .string (bs p.text)] ∧ W1.heap[w.heap.size]? = some (.cells zero5 112 (0, 0)) ∧ ∀ W5, Fr (fun k => k = w.heap.size) W1 W5 → PV (fun b => w.heap.size ≤ b) 79 112 W5 (.agg #[.string (bs p.op), .slice ki nk kc, .slice si ns sc, .string (bs p.attr), .string (bs p.text)]) p ∧ RD R t wh n W5 l' ∧ Fr (fun k => k = R) w W5 := by
  have h1 := h.on f rd
  have pv1 : PV (fun b => w.heap.size + 1 ≤ b) 79 112 W1 v p := pv.move fun b hb _ => ⟨Nat.le_trans h.sz hb, rfl⟩
  obtain ⟨ki, nk, kc, si, ns, sc, rfl, a1, a2⟩ := pv1.shape
  exact ⟨ki, nk, kc, si, ns, sc, rfl, h1.bq, fun W5 f5 => ret_fin h.lt pv1 rd h1.fr f5⟩
set_option maxHeartbeats 8000000 in
set_option maxRecDepth 100000 in
theorem dot_ok (hi : InOK R t wh n inn) (h : RD R t wh n w l) : Calls Tryz.prog 175 #[ptr R] w (Ends R t wh n (PV (fun b => w.heap.size ≤ b) 79 112) w (dot (cutB t wh) inn l)) := by
  have B0 := hide (Box1.start h)
  generalize hW0 : w.alloc (.cells zero5 112) = W0 at *
  unfold dot
  cases hx : want (cutB t wh) [46] l with
  | error y =>
    have HW := hide (want_er hx B0.out.rd)
    simp only [wnt]
    clear hx h
    go_enter Tryz.func175, Tryz.ntmps175
    go_wp2_with (first | (go_at_call 120; (try rw [hW0]); refine HW.out.mono ?_; rintro e w2 ⟨rfl, fr⟩))
    exact ⟨rfl, rfl, B0.out.thr fr⟩
  | ok l1 =>
    have HW := hide (want_to hx B0.out.rd)
    simp only [wnt]
    clear hx h
    obtain ⟨b, hb⟩ : ∃ b, decide (part l1 = [47, 47]) = b := ⟨_, rfl⟩
    have HT : Hid (∀ W, RD R t wh n W l1 → Calls Tryz.prog 72 #[ptr R, .string ⟨#[47, 47]⟩] W fun e w' => e = .returned (.bool b) ∧ RD R t wh n w' (if b = true then pass 2 l1 else l1) ∧ Fr (fun k => k = R) W w') := fun W hW => take_ok [47, 47] hW b hb
    cases b with
    | false =>
      rw [if_neg (by simpa using hb)]
      simp only [Bool.false_eq_true, if_false] at HT
      clear hb
      have HF : Hid (∀ W1 W2, Fr (fun k => k = R) W0 W1 → Fr (fun k => k = R) W1 W2 → RD R t wh n W2 l1 → W2.heap[w.heap.size]? = some (.cells zero5 112 (0, 0)) ∧ ∀ W5, Fr (fun k => k = w.heap.size) W2 W5 → PV (fun b => w.heap.size ≤ b) 79 112 W5 (.agg #[.string ⟨#[]⟩, .slice none 0 0, .slice none 0 0, .string ⟨#[]⟩, .string ⟨#[]⟩]) ⟨[], .nil, .nil, [], []⟩ ∧ RD R t wh n W5 l1 ∧ Fr (fun k => k = R) w W5) := fun W1 W2 f1 f2 rd => by
        have h1 := B0.out.on (f1.same f2) rd
        exact ⟨h1.bq, fun W5 f5 => ret_fin h1.lt ⟨_, _, rfl, Or.inl ⟨rfl, rfl⟩, Or.inl ⟨rfl, rfl⟩⟩ rd h1.fr f5⟩
      go_enter Tryz.func175, Tryz.ntmps175
      go_wp2_with (first | (go_at_call 120; (try rw [hW0]); refine HW.out.mono ?_; rintro e w2 ⟨rfl, rd, fr⟩) | (go_at_call 72; refine (HT.out _ rd).mono ?_; rintro e w3 ⟨rfl, rd3, fr3⟩; obtain ⟨bq3, hf⟩ := HF.out _ _ fr fr3 rd3; have HFN := hide hf; clear hf; obtain ⟨⟨y0, y1, y2, y3, y4⟩, z0, z1, z2, z3, z4⟩ := cells5 bq3))
      obtain ⟨W5, hW5, r5, fr5q⟩ := box5 (.string ⟨#[]⟩) (.slice none 0 0) (.slice none 0 0) (.string ⟨#[]⟩) (.string ⟨#[]⟩) bq3
      rw [hW5]
      clear hW5 y0 y1 y2 y3 y4 z0 z1 z2 z3 z4
      obtain ⟨⟨k0, k1, k2, k3, k4⟩, -⟩ := cells5 r5
      obtain ⟨q1, q2, q3⟩ := HFN.out _ fr5q
      refine bodyPost_ret (v := .agg #[.string ⟨#[]⟩, .slice none 0 0, .slice none 0 0, .string ⟨#[]⟩, .string ⟨#[]⟩]) (by simp [results, Tryz.results175, go_sem, k0, k1, k2, k3, k4]) rfl ⟨_, rfl, q1, q2, q3⟩
    | true =>
      rw [if_pos (by simpa using hb)]
      simp only [if_true] at HT
      clear hb
      have HV : Hid (∀ W, RD R t wh n W (pass 2 l1) → Calls Tryz.prog 177 #[ptr R, .bool true] W (Ends R t wh n (PV (fun b => W.heap.size ≤ b) 79 112) W (vsteps (cutB t wh) inn true (pass 2 l1)))) := fun W hW => vsteps_ok true hi hW
      cases hy : vsteps (cutB t wh) inn true (pass 2 l1) with
      | error y =>
        rw [hy] at HV
        clear hy
        go_enter Tryz.func175, Tryz.ntmps175
        go_wp2_with (first | (go_at_call 120; (try rw [hW0]); refine HW.out.mono ?_; rintro e w2 ⟨rfl, rd, fr⟩) | (go_at_call 72; refine (HT.out _ rd).mono ?_; rintro e w3 ⟨rfl, rd3, fr3⟩) | (go_at_call 177; refine (HV.out _ rd3).mono ?_; rintro e w4 ⟨rfl, fr4⟩))
        exact ⟨rfl, rfl, B0.out.thr ((fr.same fr3).same fr4)⟩
      | ok z =>
        obtain ⟨p, l2⟩ := z
        rw [hy] at HV
        clear hy
        have HF : Hid (∀ W1 W2 W3 v, Fr (fun k => k = R) W0 W1 → Fr (fun k => k = R) W1 W2 → RD R t wh n W2 (pass 2 l1) → Fr (fun k => k = R) W2 W3 → RD R t wh n W3 l2 → PV (fun b => W2.heap.size ≤ b) 79 112 W3 v p → _) := fun W1 W2 W3 v f1 f2 rd f3 rd3 pv => (B0.out.on (f1.same f2) rd).fin f3 rd3 pv
        go_enter Tryz.func175, Tryz.ntmps175
        go_wp2_with (first | (go_at_call 120; (try rw [hW0]); refine HW.out.mono ?_; rintro e w2 ⟨rfl, rd, fr⟩) | (go_at_call 72; refine (HT.out _ rd).mono ?_; rintro e w3 ⟨rfl, rd3, fr3⟩) | (go_at_call 177; refine (HV.out _ rd3).mono ?_; rintro e w4 ⟨v4, rfl, pv4, rd4, fr4⟩; obtain ⟨ki, nk, kc, si, ns, sc, rfl, bq3, hf⟩ := HF.out _ _ _ _ fr fr3 rd3 fr4 rd4 pv4; have HFN := hide hf; clear hf pv4; obtain ⟨⟨y0, y1, y2, y3, y4⟩, z0, z1, z2, z3, z4⟩ := cells5 bq3))
        obtain ⟨W5, hW5, r5, fr5q⟩ := box5 (.string (bs p.op)) (.slice ki nk kc) (.slice si ns sc) (.string (bs p.attr)) (.string (bs p.text)) bq3
        rw [hW5]
        clear hW5 y0 y1 y2 y3 y4 z0 z1 z2 z3 z4
        obtain ⟨⟨k0, k1, k2, k3, k4⟩, -⟩ := cells5 r5
        obtain ⟨q1, q2, q3⟩ := HFN.out _ fr5q
        refine bodyPost_ret (v := .agg #[.string (bs p.op), .slice ki nk kc, .slice si ns sc, .string (bs p.attr), .string (bs p.text)]) (by simp [results, Tryz.results175, go_sem, k0, k1, k2, k3, k4]) rfl ⟨_, rfl, q1, q2, q3⟩
end Go.Proofs.YtoahlnmhjinneaaGreatDoor

set_option linter.unusedSimpArgs false
set_option linter.unusedVariables false
namespace Go.Proofs.YtoahlnmhjinneaaGreatDoor
open Go.RowKit Go.Maps Go.Lib
variable {w w' w1 w2 W0 W1 W2 W3 W4 WO wr W W5 : World} {A F G : Nat → Prop} {R lo Bp : Nat} {t l l' : L} {wh n : Nat} {inn : Option (L → Rs Prd)} {v v' vp vk vs : Value} {X : Rs Prd} {p : Prd}
set_option maxHeartbeats 8000000 in
set_option maxRecDepth 100000 in
theorem value_ok (hi : InOK R t wh n inn) (h : RD R t wh n w l) : Calls Tryz.prog 167 #[ptr R] w (Ends R t wh n (PV (fun b => w.heap.size ≤ b) 79 112) w (value (cutB t wh) inn l)) := by
  have B0 := hide (Box1.start h)
  generalize hW0 : w.alloc (.cells zero5 112) = W0 at *
  have HP := hide (part_ok B0.out.rd)
  have HB1 : Hid (∀ W, Below W0.heap.size W0 W → Box1 R t wh n w W l) := fun W hW => B0.out.on (Fr.below hW) (B0.out.rd.below hW)
  unfold value
  by_cases h1 : part l = [46]
  · rw [if_pos h1]
    have e1 : ((bs (part l)).toList == [46]) = true := by rw [bs_toL, h1]; rfl
    generalize bs (part l) = S at *
    have HD : Hid (∀ W, RD R t wh n W l → Calls Tryz.prog 175 #[ptr R] W (Ends R t wh n (PV (fun b => W.heap.size ≤ b) 79 112) W (dot (cutB t wh) inn l))) := fun W hW => dot_ok hi hW
    clear h h1
    cases hy : dot (cutB t wh) inn l with
    | error y =>
      rw [hy] at HD
      clear hy
      go_enter Tryz.func167, Tryz.ntmps167
      go_wp2_with (first | (go_at_call 94; (try rw [hW0]); refine HP.out.mono ?_; rintro e w2 ⟨rfl, hb⟩; have B1 := HB1.out _ hb) | (go_at_call 175; refine (HD.out _ B1.rd).mono ?_; rintro e w4 ⟨rfl, fr4⟩))
      exact ⟨rfl, rfl, B1.thr fr4⟩
    | ok z =>
      obtain ⟨p, l2⟩ := z
      rw [hy] at HD
      clear hy
      go_enter Tryz.func167, Tryz.ntmps167
      go_wp2_with (first | (go_at_call 94; (try rw [hW0]); refine HP.out.mono ?_; rintro e w2 ⟨rfl, hb⟩; have B1 := HB1.out _ hb) | (go_at_call 175; refine (HD.out _ B1.rd).mono ?_; rintro e w4 ⟨v4, rfl, pv4, rd4, fr4⟩; obtain ⟨ki, nk, kc, si, ns, sc, rfl, bq3, hf⟩ := B1.fin fr4 rd4 pv4; clear pv4; have HFN := hide hf; clear hf; obtain ⟨⟨y0, y1, y2, y3, y4⟩, z0, z1, z2, z3, z4⟩ := cells5 bq3))
      obtain ⟨W5, hW5, r5, fr5q⟩ := box5 (.string (bs p.op)) (.slice ki nk kc) (.slice si ns sc) (.string (bs p.attr)) (.string (bs p.text)) bq3
      rw [hW5]
      clear hW5 y0 y1 y2 y3 y4 z0 z1 z2 z3 z4
      obtain ⟨⟨k0, k1, k2, k3, k4⟩, -⟩ := cells5 r5
      obtain ⟨q1, q2, q3⟩ := HFN.out _ fr5q
      refine bodyPost_ret (v := .agg #[.string (bs p.op), .slice ki nk kc, .slice si ns sc, .string (bs p.attr), .string (bs p.text)]) (by simp [results, Tryz.results167, go_sem, k0, k1, k2, k3, k4]) rfl ⟨_, rfl, q1, q2, q3⟩
  · rw [if_neg h1]
    have e1 : ((bs (part l)).toList == [46]) = false := by rw [bs_toL]; simpa using h1
    by_cases h2 : part l = [64]
    · rw [if_pos h2]
      have e2 : ((bs (part l)).toList == [64]) = true := by rw [bs_toL, h2]; rfl
      generalize bs (part l) = S at *
      have HD : Hid (∀ W, RD R t wh n W l → Calls Tryz.prog 176 #[ptr R] W (Ends R t wh n VS W (attr (cutB t wh) l))) := fun W hW => attr_ok hW
      clear h h1 h2
      cases hy : attr (cutB t wh) l with
      | error y =>
        rw [hy] at HD
        clear hy
        simp only [thn_er]
        go_enter Tryz.func167, Tryz.ntmps167
        go_wp2_with (first | (go_at_call 94; (try rw [hW0]); refine HP.out.mono ?_; rintro e w2 ⟨rfl, hb⟩; have B1 := HB1.out _ hb) | (go_at_call 176; refine (HD.out _ B1.rd).mono ?_; rintro e w4 ⟨rfl, fr4⟩))
        exact ⟨rfl, rfl, B1.thr fr4⟩
      | ok z =>
        obtain ⟨a, l2⟩ := z
        rw [hy] at HD
        clear hy
        simp only [thn_ok]
        have HF : Hid (∀ W1 W2, Box1 R t wh n w W1 l → Fr (fun k => k = R) W1 W2 → RD R t wh n W2 l2 → W2.heap[w.heap.size]? = some (.cells zero5 112 (0, 0)) ∧ ∀ W5, Fr (fun k => k = w.heap.size) W2 W5 → PV (fun b => w.heap.size ≤ b) 79 112 W5 (.agg #[.string ⟨#[]⟩, .slice none 0 0, .slice none 0 0, .string (bs a), .string ⟨#[]⟩]) ⟨[], .nil, .nil, a, []⟩ ∧ RD R t wh n W5 l2 ∧ Fr (fun k => k = R) w W5) := fun W1 W2 b1 f2 rd => by
          have h1 := b1.on f2 rd
          exact ⟨h1.bq, fun W5 f5 => ret_fin h1.lt ⟨_, _, rfl, Or.inl ⟨rfl, rfl⟩, Or.inl ⟨rfl, rfl⟩⟩ rd h1.fr f5⟩
        go_enter Tryz.func167, Tryz.ntmps167
        go_wp2_with (first | (go_at_call 94; (try rw [hW0]); refine HP.out.mono ?_; rintro e w2 ⟨rfl, hb⟩; have B1 := HB1.out _ hb) | (go_at_call 176; refine (HD.out _ B1.rd).mono ?_; rintro e w4 ⟨v4, rfl, rfl, rd4, fr4⟩; obtain ⟨bq3, hf⟩ := HF.out _ _ B1 fr4 rd4; have HFN := hide hf; clear hf; obtain ⟨⟨y0, y1, y2, y3, y4⟩, z0, z1, z2, z3, z4⟩ := cells5 bq3))
        obtain ⟨W5, hW5, r5, fr5q⟩ := box5 (.string ⟨#[]⟩) (.slice none 0 0) (.slice none 0 0) (.string (bs a)) (.string ⟨#[]⟩) bq3
        rw [hW5]
        clear hW5 y0 y1 y2 y3 y4 z0 z1 z2 z3 z4
        obtain ⟨⟨k0, k1, k2, k3, k4⟩, -⟩ := cells5 r5
        obtain ⟨q1, q2, q3⟩ := HFN.out _ fr5q
        refine bodyPost_ret (v := .agg #[.string ⟨#[]⟩, .slice none 0 0, .slice none 0 0, .string (bs a), .string ⟨#[]⟩]) (by simp [results, Tryz.results167, go_sem, k0, k1, k2, k3, k4]) rfl ⟨_, rfl, q1, q2, q3⟩
    · rw [if_neg h2]
      have e2 : ((bs (part l)).toList == [64]) = false := by rw [bs_toL]; simpa using h2
      generalize bs (part l) = S at *
      have HD : Hid (∀ W, RD R t wh n W l → Calls Tryz.prog 177 #[ptr R, .bool false] W (Ends R t wh n (PV (fun b => W.heap.size ≤ b) 79 112) W (vsteps (cutB t wh) inn false l))) := fun W hW => vsteps_ok false hi hW
      clear h h1 h2
      cases hy : vsteps (cutB t wh) inn false l with
      | error y =>
        rw [hy] at HD
        clear hy
        go_enter Tryz.func167, Tryz.ntmps167
        go_wp2_with (first | (go_at_call 94; (try rw [hW0]); refine HP.out.mono ?_; rintro e w2 ⟨rfl, hb⟩; have B1 := HB1.out _ hb) | (go_at_call 177; refine (HD.out _ B1.rd).mono ?_; rintro e w4 ⟨rfl, fr4⟩))
        exact ⟨rfl, rfl, B1.thr fr4⟩
      | ok z =>
        obtain ⟨p, l2⟩ := z
        rw [hy] at HD
        clear hy
        go_enter Tryz.func167, Tryz.ntmps167
        go_wp2_with (first | (go_at_call 94; (try rw [hW0]); refine HP.out.mono ?_; rintro e w2 ⟨rfl, hb⟩; have B1 := HB1.out _ hb) | (go_at_call 177; refine (HD.out _ B1.rd).mono ?_; rintro e w4 ⟨v4, rfl, pv4, rd4, fr4⟩; obtain ⟨ki, nk, kc, si, ns, sc, rfl, bq3, hf⟩ := B1.fin fr4 rd4 pv4; clear pv4; have HFN := hide hf; clear hf; obtain ⟨⟨y0, y1, y2, y3, y4⟩, z0, z1, z2, z3, z4⟩ := cells5 bq3))
        obtain ⟨W5, hW5, r5, fr5q⟩ := box5 (.string (bs p.op)) (.slice ki nk kc) (.slice si ns sc) (.string (bs p.attr)) (.string (bs p.text)) bq3
        rw [hW5]
        clear hW5 y0 y1 y2 y3 y4 z0 z1 z2 z3 z4
        obtain ⟨⟨k0, k1, k2, k3, k4⟩, -⟩ := cells5 r5
        obtain ⟨q1, q2, q3⟩ := HFN.out _ fr5q
        refine bodyPost_ret (v := .agg #[.string (bs p.op), .slice ki nk kc, .slice si ns sc, .string (bs p.attr), .string (bs p.text)]) (by simp [results, Tryz.results167, go_sem, k0, k1, k2, k3, k4]) rfl ⟨_, rfl, q1, q2, q3⟩
structure CI (R : Nat) (t : L) (wh n : Nat) (w wr : World) (p : Prd) (vk vs : Value) (l : L) (i : Nat) : Prop where
  rd : RD R t wh n wr l
  bv : wr.heap[w.heap.size]? = some (.cells #[.string ⟨#[104, 97, 115]⟩, vk, vs, .string (bs p.attr), .string (bs p.text)] 112 (0, 0))
  bq : wr.heap[w.heap.size + 1]? = some (.cells zero5 112 (0, 0))
  bo : wr.heap[w.heap.size + 2]? = some (.cells #[.string ⟨#[61]⟩, .string ⟨#[33, 61]⟩] 9 (0, 0))
  fr : Fr (fun k => k = R ∨ w.heap.size ≤ k) w wr
  n1 : 1 ≤ i → part l ≠ [61]
  n2 : 2 ≤ i → part l ≠ [33, 61]
  lt : R < w.heap.size
theorem CI.on {i j : Nat} (h : CI R t wh n w wr p vk vs l i) (f : Fr (fun k => k = R) wr W) (rd : RD R t wh n W l) (n1 : 1 ≤ j → part l ≠ [61]) (n2 : 2 ≤ j → part l ≠ [33, 61]) : CI R t wh n w W p vk vs l j := by
  have := h.lt
  exact ⟨rd, (f.block _ (blk_lt h.bv) (by omega)).trans h.bv, (f.block _ (blk_lt h.bq) (by omega)).trans h.bq, (f.block _ (blk_lt h.bo) (by omega)).trans h.bo, h.fr.trans f (fun _ _ x => Or.inl x), n1, n2, h.lt⟩
theorem ci_fin {p' : Prd} {l1 : L} (hR : R < w.heap.size) (hA : ¬ A R) (hv : slP w A 79 112 vk p'.kids ∧ slS w A 79 112 vs p'.steps) (rd : RD R t wh n W l1) (fr : Fr (fun k => k = R ∨ w.heap.size ≤ k) w W) (f5 : Fr (fun k => w.heap.size ≤ k) W W5) : PV A 79 112 W5 (.agg #[.string (bs p'.op), vk, vs, .string (bs p'.attr), .string (bs p'.text)]) p' ∧ RD R t wh n W5 l1 ∧ Fr (fun k => k = R) w W5 := by
  have f : Fr (fun k => k = R) w W5 := (fr.trans f5 (fun i hi x => Or.inr x)).restrict (fun k hk x => by omega)
  have hm : Move A A w W5 := fun b hb hl => ⟨hb, f.block b hl (fun e => hA (e ▸ hb))⟩
  exact ⟨⟨_, _, rfl, hv.1.move hm, hv.2.move hm⟩, rd.fr f5 (by omega), f⟩
set_option maxHeartbeats 8000000 in
set_option maxRecDepth 100000 in
theorem compared_ok {ki si : Option Addr} {nk kc ns sc : Nat} (hA : ¬ A R) (h : RD R t wh n w l) (hv : slP w A 79 112 (.slice ki nk kc) p.kids ∧ slS w A 79 112 (.slice si ns sc) p.steps) :
    Calls Tryz.prog 166 #[ptr R, .agg #[.string (bs p.op), .slice ki nk kc, .slice si ns sc, .string (bs p.attr), .string (bs p.text)]] w (Ends R t wh n (PV A 79 112) w (compared (cutB t wh) p l)) := by
  have hR := h.lt
  have HC0 : Hid (CI R t wh n w (((w.alloc (.cells #[.string ⟨#[104, 97, 115]⟩, .slice ki nk kc, .slice si ns sc, .string (bs p.attr), .string (bs p.text)] 112)).alloc (.cells zero5 112)).alloc (.cells #[.string ⟨#[61]⟩, .string ⟨#[33, 61]⟩] 9)) p (.slice ki nk kc) (.slice si ns sc) l 0) := by
    have f : Fr (fun _ => False) w (((w.alloc (.cells #[.string ⟨#[104, 97, 115]⟩, .slice ki nk kc, .slice si ns sc, .string (bs p.attr), .string (bs p.text)] 112)).alloc (.cells zero5 112)).alloc (.cells #[.string ⟨#[61]⟩, .string ⟨#[33, 61]⟩] 9)) := (((Fr.refl _ w).alloc _).alloc _).alloc _
    refine ⟨h.fr f (fun x => x), ?_, ?_, ?_, f.mono (fun _ x => x.elim), fun e => by omega, fun e => by omega, hR⟩
    · rw [Below.heap_alloc _ _ _ (by simp; omega), Below.heap_alloc _ _ _ (by simp)]; exact Below_new _ _
    · rw [Below.heap_alloc _ _ _ (by simp)]
      have := Below_new (w.alloc (.cells #[.string ⟨#[104, 97, 115]⟩, .slice ki nk kc, .slice si ns sc, .string (bs p.attr), .string (bs p.text)] 112)) (.cells zero5 112)
      simpa using this
    · have := Below_new ((w.alloc (.cells #[.string ⟨#[104, 97, 115]⟩, .slice ki nk kc, .slice si ns sc, .string (bs p.attr), .string (bs p.text)] 112)).alloc (.cells zero5 112)) (.cells #[.string ⟨#[61]⟩, .string ⟨#[33, 61]⟩] 9)
      simpa using this
  have HV := hide hv
  have HAA := hide hA
  obtain ⟨Y, hY⟩ : ∃ Y, compared (cutB t wh) p l = Y := ⟨_, rfl⟩
  rw [hY]
  have HY := hide hY
  clear hY hv h hA
  go_enter Tryz.func166, Tryz.ntmps166
  go_wp2_with fail
  generalize (World.alloc (World.alloc (World.alloc w _) _) _) = WS at *
  go_loopw [6, 10, 11, 12, 13, 14, 15, 16, 17, 18, 19, 20, 21, 22] (fun _ u10 _ _ _ _ _ _ _ _ _ _ _ _ wr => ∃ i : Nat, u10 = .int .i64 i ∧ i ≤ 2 ∧ CI R t wh n w wr p (.slice ki nk kc) (.slice si ns sc) l i) (fun _ u10 _ _ _ _ _ _ _ _ _ _ _ _ _ => 2 - (RowKit.intOf u10).toNat)
  case atStart => exact ⟨0, rfl, by omega, HC0.out⟩
  case round =>
    rename World => WO
    obtain ⟨i, rfl, hi2, hC⟩ := hrel
    have HC1 := hide hC
    have o0 : WO.cell? ⟨w.heap.size + 1 + 1, 0, none⟩ = some (.string ⟨#[61]⟩) := cell_of hC.bo rfl
    have o1 : WO.cell? ⟨w.heap.size + 1 + 1, 1, none⟩ = some (.string ⟨#[33, 61]⟩) := cell_of hC.bo rfl
    match i, hi2, hC, HC1 with
    | 0, _, hC, HC1 =>
      obtain ⟨b, hb⟩ : ∃ b, decide (part l = [61]) = b := ⟨_, rfl⟩
      have HT := hide (take_ok [61] hC.rd b hb)
      cases b with
      | true =>
        have hp : part l = [61] := by simpa using hb
        simp only [if_true] at HT
        have hY := HY.out
        rw [compared, if_pos hp] at hY
        have HQ : Hid (∀ W, RD R t wh n W (pass 1 l) → Calls Tryz.prog 174 #[ptr R] W (Ends R t wh n VS W (quoted (cutB t wh) (pass 1 l)))) := fun W hW => quoted_ok hW
        clear hb hp hC
        cases hq : quoted (cutB t wh) (pass 1 l) with
        | error y =>
          rw [hq] at HQ hY
          simp only [thn_er] at hY
          subst hY
          clear hq
          go_wp2_with (first | (go_at_call 72; refine HT.out.mono ?_; rintro e w4 ⟨rfl, rd4, fr4⟩) | (go_at_call 174; refine (HQ.out _ rd4).mono ?_; rintro e w5 ⟨rfl, fr5⟩))
          exact ⟨rfl, rfl, (HC1.out.fr.trans (fr4.same fr5) (fun i hi x => Or.inl x)).restrict (fun k hk x => by omega)⟩
        | ok z =>
          obtain ⟨tx, l2⟩ := z
          rw [hq] at HQ hY
          simp only [thn_ok] at hY
          subst hY
          clear hq
          have HS : Hid (∀ W4 W5, Fr (fun k => k = R) WO W4 → Fr (fun k => k = R) W4 W5 → RD R t wh n W5 l2 → W5.heap[w.heap.size]? = some (.cells #[.string ⟨#[104, 97, 115]⟩, .slice ki nk kc, .slice si ns sc, .string (bs p.attr), .string (bs p.text)] 112 (0, 0)) ∧ ∃ W6, (W5.setCell ⟨w.heap.size, 0, none⟩ (.string ⟨#[61]⟩)).setCell ⟨w.heap.size, 4, none⟩ (.string (bs tx)) = W6 ∧ W6.heap[w.heap.size]? = some (.cells #[.string ⟨#[61]⟩, .slice ki nk kc, .slice si ns sc, .string (bs p.attr), .string (bs tx)] 112 (0, 0)) ∧ (W5.setCell ⟨w.heap.size, 0, none⟩ (.string ⟨#[61]⟩)).heap[w.heap.size]? = some (.cells #[.string ⟨#[61]⟩, .slice ki nk kc, .slice si ns sc, .string (bs p.attr), .string (bs p.text)] 112 (0, 0)) ∧ W6.heap[w.heap.size + 1]? = some (.cells zero5 112 (0, 0)) ∧ ∀ W7, Fr (fun k => k = w.heap.size + 1) W6 W7 → PV A 79 112 W7 (.agg #[.string ⟨#[61]⟩, .slice ki nk kc, .slice si ns sc, .string (bs p.attr), .string (bs tx)]) ⟨[61], p.kids, p.steps, p.attr, tx⟩ ∧ RD R t wh n W7 l2 ∧ Fr (fun k => k = R) w W7) := fun W4 W5 f4 f5 rd => by
            have q := HC1.out
            have f := f4.same f5
            have b5 := (f.block _ (blk_lt q.bv) (by omega)).trans q.bv
            have b5q := (f.block _ (blk_lt q.bq) (by omega)).trans q.bq
            have fs : Fr (fun k => w.heap.size ≤ k) W5 ((W5.setCell ⟨w.heap.size, 0, none⟩ (.string ⟨#[61]⟩)).setCell ⟨w.heap.size, 4, none⟩ (.string (bs tx))) := ((Fr.refl (fun k => w.heap.size ≤ k) W5).set ⟨w.heap.size, 0, none⟩ (.string ⟨#[61]⟩) (fun _ => Nat.le_refl _)).set ⟨w.heap.size, 4, none⟩ (.string (bs tx)) (fun _ => Nat.le_refl _)
            refine ⟨b5, _, rfl, set_of (i := 4) (set_of (i := 0) b5 _) _, set_of (i := 0) b5 _, ?_, fun W7 f7 => ?_⟩
            · rw [Below.heap_setCell _ _ _ _ (show w.heap.size + 1 ≠ w.heap.size by omega), Below.heap_setCell _ _ _ _ (show w.heap.size + 1 ≠ w.heap.size by omega)]; exact b5q
            · exact ci_fin (p' := ⟨[61], p.kids, p.steps, p.attr, tx⟩) hR HAA.out HV.out rd (q.fr.trans f (fun _ _ x => Or.inl x)) (fs.same (f7.mono fun k e => by omega))
          go_wp2_with (first | (go_at_call 72; refine HT.out.mono ?_; rintro e w4 ⟨rfl, rd4, fr4⟩) | (go_at_call 174; refine (HQ.out _ rd4).mono ?_; rintro e w5 ⟨v5, rfl, rfl, rd5, fr5⟩; obtain ⟨bv5, W6, hW6, bv6, bv5b, bq3, hf⟩ := HS.out _ _ fr4 fr5 rd5; have HFN := hide hf; clear hf; obtain ⟨⟨a0, a1, a2, a3, a4⟩, b0, b1, b2, b3, b4⟩ := cells5 bv5; obtain ⟨⟨a0', a1', a2', a3', a4'⟩, b0', b1', b2', b3', b4'⟩ := cells5 bv5b; obtain ⟨⟨g0, g1, g2, g3, g4⟩, -⟩ := cells5 bv6; obtain ⟨⟨y0, y1, y2, y3, y4⟩, z0, z1, z2, z3, z4⟩ := cells5 bq3))
          obtain ⟨W5, hW5, r5, fr5q⟩ := box5 (.string ⟨#[61]⟩) (.slice ki nk kc) (.slice si ns sc) (.string (bs p.attr)) (.string (bs tx)) bq3
          rw [hW5]
          clear hW5 y0 y1 y2 y3 y4 z0 z1 z2 z3 z4
          obtain ⟨⟨k0, k1, k2, k3, k4⟩, -⟩ := cells5 r5
          obtain ⟨q1, q2, q3⟩ := HFN.out _ fr5q
          refine bodyPost_ret (v := .agg #[.string ⟨#[61]⟩, .slice ki nk kc, .slice si ns sc, .string (bs p.attr), .string (bs tx)]) (by simp [results, Tryz.results166, go_sem, k0, k1, k2, k3, k4]) rfl ⟨_, rfl, q1, q2, q3⟩
      | false =>
        have hp : part l ≠ [61] := by simpa using hb
        simp only [Bool.false_eq_true, if_false] at HT
        have HN : Hid (∀ W, Fr (fun k => k = R) WO W → RD R t wh n W l → CI R t wh n w W p (.slice ki nk kc) (.slice si ns sc) l 1) := fun W f rd => HC1.out.on f rd (fun _ => hp) (fun e => by omega)
        clear hb hp hC
        go_wp2_with (first | (go_at_call 72; refine HT.out.mono ?_; rintro e w4 ⟨rfl, rd4, fr4⟩; have hN := HN.out _ fr4 rd4))
        exact ⟨⟨1, by first | rfl | decide, by omega, hN⟩, by simp [RowKit.intOf]⟩
    | 1, _, hC, HC1 =>
      obtain ⟨b, hb⟩ : ∃ b, decide (part l = [33, 61]) = b := ⟨_, rfl⟩
      have HT := hide (take_ok [33, 61] hC.rd b hb)
      cases b with
      | true =>
        have hp : part l = [33, 61] := by simpa using hb
        simp only [if_true] at HT
        have hY := HY.out
        rw [compared, if_neg (hC.n1 (by omega)), if_pos hp] at hY
        have HQ : Hid (∀ W, RD R t wh n W (pass 2 l) → Calls Tryz.prog 174 #[ptr R] W (Ends R t wh n VS W (quoted (cutB t wh) (pass 2 l)))) := fun W hW => quoted_ok hW
        clear hb hp hC
        cases hq : quoted (cutB t wh) (pass 2 l) with
        | error y =>
          rw [hq] at HQ hY
          simp only [thn_er] at hY
          subst hY
          clear hq
          go_wp2_with (first | (go_at_call 72; refine HT.out.mono ?_; rintro e w4 ⟨rfl, rd4, fr4⟩) | (go_at_call 174; refine (HQ.out _ rd4).mono ?_; rintro e w5 ⟨rfl, fr5⟩))
          exact ⟨rfl, rfl, (HC1.out.fr.trans (fr4.same fr5) (fun i hi x => Or.inl x)).restrict (fun k hk x => by omega)⟩
        | ok z =>
          obtain ⟨tx, l2⟩ := z
          rw [hq] at HQ hY
          simp only [thn_ok] at hY
          subst hY
          clear hq
          have HS : Hid (∀ W4 W5, Fr (fun k => k = R) WO W4 → Fr (fun k => k = R) W4 W5 → RD R t wh n W5 l2 → W5.heap[w.heap.size]? = some (.cells #[.string ⟨#[104, 97, 115]⟩, .slice ki nk kc, .slice si ns sc, .string (bs p.attr), .string (bs p.text)] 112 (0, 0)) ∧ ∃ W6, (W5.setCell ⟨w.heap.size, 0, none⟩ (.string ⟨#[33, 61]⟩)).setCell ⟨w.heap.size, 4, none⟩ (.string (bs tx)) = W6 ∧ W6.heap[w.heap.size]? = some (.cells #[.string ⟨#[33, 61]⟩, .slice ki nk kc, .slice si ns sc, .string (bs p.attr), .string (bs tx)] 112 (0, 0)) ∧ (W5.setCell ⟨w.heap.size, 0, none⟩ (.string ⟨#[33, 61]⟩)).heap[w.heap.size]? = some (.cells #[.string ⟨#[33, 61]⟩, .slice ki nk kc, .slice si ns sc, .string (bs p.attr), .string (bs p.text)] 112 (0, 0)) ∧ W6.heap[w.heap.size + 1]? = some (.cells zero5 112 (0, 0)) ∧ ∀ W7, Fr (fun k => k = w.heap.size + 1) W6 W7 → PV A 79 112 W7 (.agg #[.string ⟨#[33, 61]⟩, .slice ki nk kc, .slice si ns sc, .string (bs p.attr), .string (bs tx)]) ⟨[33, 61], p.kids, p.steps, p.attr, tx⟩ ∧ RD R t wh n W7 l2 ∧ Fr (fun k => k = R) w W7) := fun W4 W5 f4 f5 rd => by
            have q := HC1.out
            have f := f4.same f5
            have b5 := (f.block _ (blk_lt q.bv) (by omega)).trans q.bv
            have b5q := (f.block _ (blk_lt q.bq) (by omega)).trans q.bq
            have fs : Fr (fun k => w.heap.size ≤ k) W5 ((W5.setCell ⟨w.heap.size, 0, none⟩ (.string ⟨#[33, 61]⟩)).setCell ⟨w.heap.size, 4, none⟩ (.string (bs tx))) := ((Fr.refl (fun k => w.heap.size ≤ k) W5).set ⟨w.heap.size, 0, none⟩ (.string ⟨#[33, 61]⟩) (fun _ => Nat.le_refl _)).set ⟨w.heap.size, 4, none⟩ (.string (bs tx)) (fun _ => Nat.le_refl _)
            refine ⟨b5, _, rfl, set_of (i := 4) (set_of (i := 0) b5 _) _, set_of (i := 0) b5 _, ?_, fun W7 f7 => ?_⟩
            · rw [Below.heap_setCell _ _ _ _ (show w.heap.size + 1 ≠ w.heap.size by omega), Below.heap_setCell _ _ _ _ (show w.heap.size + 1 ≠ w.heap.size by omega)]; exact b5q
            · exact ci_fin (p' := ⟨[33, 61], p.kids, p.steps, p.attr, tx⟩) hR HAA.out HV.out rd (q.fr.trans f (fun _ _ x => Or.inl x)) (fs.same (f7.mono fun k e => by omega))
          go_wp2_with (first | (go_at_call 72; refine HT.out.mono ?_; rintro e w4 ⟨rfl, rd4, fr4⟩) | (go_at_call 174; refine (HQ.out _ rd4).mono ?_; rintro e w5 ⟨v5, rfl, rfl, rd5, fr5⟩; obtain ⟨bv5, W6, hW6, bv6, bv5b, bq3, hf⟩ := HS.out _ _ fr4 fr5 rd5; have HFN := hide hf; clear hf; obtain ⟨⟨a0, a1, a2, a3, a4⟩, b0, b1, b2, b3, b4⟩ := cells5 bv5; obtain ⟨⟨a0', a1', a2', a3', a4'⟩, b0', b1', b2', b3', b4'⟩ := cells5 bv5b; obtain ⟨⟨g0, g1, g2, g3, g4⟩, -⟩ := cells5 bv6; obtain ⟨⟨y0, y1, y2, y3, y4⟩, z0, z1, z2, z3, z4⟩ := cells5 bq3))
          obtain ⟨W5, hW5, r5, fr5q⟩ := box5 (.string ⟨#[33, 61]⟩) (.slice ki nk kc) (.slice si ns sc) (.string (bs p.attr)) (.string (bs tx)) bq3
          rw [hW5]
          clear hW5 y0 y1 y2 y3 y4 z0 z1 z2 z3 z4
          obtain ⟨⟨k0, k1, k2, k3, k4⟩, -⟩ := cells5 r5
          obtain ⟨q1, q2, q3⟩ := HFN.out _ fr5q
          refine bodyPost_ret (v := .agg #[.string ⟨#[33, 61]⟩, .slice ki nk kc, .slice si ns sc, .string (bs p.attr), .string (bs tx)]) (by simp [results, Tryz.results166, go_sem, k0, k1, k2, k3, k4]) rfl ⟨_, rfl, q1, q2, q3⟩
      | false =>
        have hp : part l ≠ [33, 61] := by simpa using hb
        simp only [Bool.false_eq_true, if_false] at HT
        have HN : Hid (∀ W, Fr (fun k => k = R) WO W → RD R t wh n W l → CI R t wh n w W p (.slice ki nk kc) (.slice si ns sc) l 2) := fun W f rd => HC1.out.on f rd (fun _ => HC1.out.n1 (by omega)) (fun _ => hp)
        clear hb hp hC
        go_wp2_with (first | (go_at_call 72; refine HT.out.mono ?_; rintro e w4 ⟨rfl, rd4, fr4⟩; have hN := HN.out _ fr4 rd4))
        exact ⟨⟨2, by first | rfl | decide, by omega, hN⟩, by simp [RowKit.intOf]⟩
    | 2, _, hC, HC1 =>
      have hY := HY.out
      rw [compared, if_neg (hC.n1 (by omega)), if_neg (hC.n2 (by omega))] at hY
      subst hY
      obtain ⟨⟨a0, a1, a2, a3, a4⟩, -⟩ := cells5 hC.bv
      have bq3 := hC.bq
      obtain ⟨⟨y0, y1, y2, y3, y4⟩, z0, z1, z2, z3, z4⟩ := cells5 bq3
      have HFN : Hid (∀ W7, Fr (fun k => k = w.heap.size + 1) WO W7 → PV A 79 112 W7 (.agg #[.string ⟨#[104, 97, 115]⟩, .slice ki nk kc, .slice si ns sc, .string (bs p.attr), .string (bs p.text)]) ⟨wHas, p.kids, p.steps, p.attr, p.text⟩ ∧ RD R t wh n W7 l ∧ Fr (fun k => k = R) w W7) := fun W7 f7 => ci_fin (p' := ⟨wHas, p.kids, p.steps, p.attr, p.text⟩) hR HAA.out HV.out HC1.out.rd HC1.out.fr (f7.mono fun k e => by omega)
      clear hC
      go_wp2_with fail
      obtain ⟨W5, hW5, r5, fr5q⟩ := box5 (.string ⟨#[104, 97, 115]⟩) (.slice ki nk kc) (.slice si ns sc) (.string (bs p.attr)) (.string (bs p.text)) bq3
      rw [hW5]
      clear hW5 y0 y1 y2 y3 y4 z0 z1 z2 z3 z4
      obtain ⟨⟨k0, k1, k2, k3, k4⟩, -⟩ := cells5 r5
      obtain ⟨q1, q2, q3⟩ := HFN.out _ fr5q
      refine bodyPost_ret (v := .agg #[.string ⟨#[104, 97, 115]⟩, .slice ki nk kc, .slice si ns sc, .string (bs p.attr), .string (bs p.text)]) (by simp [results, Tryz.results166, go_sem, k0, k1, k2, k3, k4]) rfl ⟨_, rfl, q1, q2, q3⟩
end Go.Proofs.YtoahlnmhjinneaaGreatDoor

set_option linter.unusedSimpArgs false
set_option linter.unusedVariables false
namespace Go.Proofs.YtoahlnmhjinneaaGreatDoor
open Go.RowKit Go.Maps Go.Lib
variable {w w' w1 w2 W0 W1 W2 W3 W4 WO wr W W5 : World} {A F G : Nat → Prop} {R lo Bp Br : Nat} {t l l' : L} {wh n : Nat} {inn : Option (L → Rs Prd)} {v v' vp vk vs : Value} {X : Rs Prd} {p : Prd}
def Put (lo Bp : Nat) (w : World) (p : Prd) : Prop := ∃ ki nk kc si ns sc, w.heap[Bp]? = some (.cells #[.string (bs p.op), .slice ki nk kc, .slice si ns sc, .string (bs p.attr), .string (bs p.text)] 112 (0, 0)) ∧ slP w (fun b => lo ≤ b) 79 112 (.slice ki nk kc) p.kids ∧ slS w (fun b => lo ≤ b) 79 112 (.slice si ns sc) p.steps
theorem Put.fr (h : Put lo Bp w p) (f : Fr F w w') (h1 : ¬ F Bp) (h2 : ∀ k, F k → k < lo) : Put lo Bp w' p := by
  obtain ⟨ki, nk, kc, si, ns, sc, a1, a2, a3⟩ := h
  have hm : Move (fun b => lo ≤ b) (fun b => lo ≤ b) w w' := fun b hb hl => ⟨hb, f.block b hl (fun x => by have := h2 b x; omega)⟩
  exact ⟨ki, nk, kc, si, ns, sc, (f.block _ (blk_lt a1) h1).trans a1, a2.move hm, a3.move hm⟩
set_option maxHeartbeats 4000000 in
set_option maxRecDepth 100000 in
theorem one1_ok {x0 x1 x2 x3 x4 : Value} {f : L → Rs Prd} (hc : CondOK R t wh n f) (h : RD R t wh n w l) (hr : w.heap[Br]? = some (.cells #[ptr R] 142 (0, 0))) (hb : w.heap[Bp]? = some (.cells #[x0, x1, x2, x3, x4] 112 (0, 0))) (hRp : R ≠ Bp) (hlo : lo ≤ w.heap.size) (hp : Bp < lo) :
    Calls Tryz.prog 165 #[ptr Br, ptr Bp] w (Lays R t wh n (fun k => k = R ∨ k = Bp) (Put lo Bp) w (f l)) := by
  have HC := hide (hc w l h)
  have c0 : w.cell? ⟨Br, 0, none⟩ = some (ptr R) := cell_of hr rfl
  cases hf : f l with
  | error y =>
    rw [hf] at HC
    clear hc h hr hb hf
    go_enter Tryz.func165, Tryz.ntmps165
    go_wp2_with (first | (go_at_call 119; refine HC.out.mono ?_; rintro e w2 ⟨rfl, fr⟩))
    exact ⟨rfl, rfl, fr.mono fun k e => Or.inl e⟩
  | ok z =>
    obtain ⟨p, l2⟩ := z
    rw [hf] at HC
    have HE : Hid (∀ W v, Fr (fun k => k = R) w W → RD R t wh n W l2 → PV (fun b => w.heap.size ≤ b) 79 112 W v p → ∃ ki nk kc si ns sc, v = .agg #[.string (bs p.op), .slice ki nk kc, .slice si ns sc, .string (bs p.attr), .string (bs p.text)] ∧ W.heap[Bp]? = some (.cells #[x0, x1, x2, x3, x4] 112 (0, 0)) ∧ ∀ W5, Fr (fun k => k = Bp) W W5 → W5.heap[Bp]? = some (.cells #[.string (bs p.op), .slice ki nk kc, .slice si ns sc, .string (bs p.attr), .string (bs p.text)] 112 (0, 0)) → RD R t wh n W5 l2 ∧ Put lo Bp W5 p ∧ Fr (fun k => k = R ∨ k = Bp) w W5) := fun W v fr rd pv => by
      obtain ⟨ki, nk, kc, si, ns, sc, rfl, a1, a2⟩ := pv.shape
      refine ⟨ki, nk, kc, si, ns, sc, rfl, (fr.block _ (blk_lt hb) (fun e => hRp e.symm)).trans hb, fun W5 f5 r5 => ?_⟩
      have hm : Move (fun b => w.heap.size ≤ b) (fun b => lo ≤ b) W W5 := fun b hb hl => ⟨by omega, f5.block b hl (by omega)⟩
      exact ⟨rd.fr f5 hRp, ⟨ki, nk, kc, si, ns, sc, r5, a1.move hm, a2.move hm⟩, (fr.mono fun k e => Or.inl e).same (f5.mono fun k e => Or.inr e)⟩
    clear hc h hr hb hf
    go_enter Tryz.func165, Tryz.ntmps165
    go_wp2_with (first | (go_at_call 119; refine HC.out.mono ?_; rintro e w2 ⟨v2, rfl, pv2, rd2, fr2⟩; obtain ⟨ki, nk, kc, si, ns, sc, rfl, bp2, hf⟩ := HE.out _ _ fr2 rd2 pv2; have HF := hide hf; clear hf pv2; obtain ⟨⟨y0, y1, y2, y3, y4⟩, z0, z1, z2, z3, z4⟩ := cells5 bp2))
    obtain ⟨W5, hW5, r5, f5⟩ := box5 (.string (bs p.op)) (.slice ki nk kc) (.slice si ns sc) (.string (bs p.attr)) (.string (bs p.text)) bp2
    rw [hW5]
    obtain ⟨q1, q2, q3⟩ := HF.out _ f5 r5
    go_end0
    exact ⟨rfl, q1, q2, q3⟩
theorem enters83 : ∀ args w, (callFunc 165 args).run Tryz.prog w = .ok (.enter 165 args) w := enters_of Tryz.func165 (by kernel_rfl) rfl
theorem within_one {x0 x1 x2 x3 x4 : Value} (hi : InOK R t wh n inn) (h : RD R t wh n w l) (hr : w.heap[Br]? = some (.cells #[ptr R] 142 (0, 0))) (hb : w.heap[Bp]? = some (.cells #[x0, x1, x2, x3, x4] 112 (0, 0))) (hRp : R ≠ Bp) (hRr : R ≠ Br) (hRl : R < lo) (hlo : lo ≤ w.heap.size) (hp : Bp < lo) :
    Calls Tryz.prog 117 #[ptr R, .string ⟨#[40]⟩, .string ⟨#[41]⟩, .func (.func 165) #[] #[ptr Br, ptr Bp]] w (Lays R t wh n (fun k => k = R ∨ k = Bp) (Put lo Bp) w (within (cutB t wh) inn [40] [41] l)) := by
  rcases hi with ⟨rfl, rfl⟩ | ⟨f, rfl, hn8, hsf, hc⟩
  · exact (within_deep (o := [40]) (s := [41]) h).mono fun e w' x => ⟨x.1, x.2.mono fun k e => Or.inl e⟩
  · refine within_ok (o := [40]) (s := [41]) (k := 165) h hn8 (Or.inl rfl) enters83 (fun W l1 _ rd fr => ?_) (fun W W' p hx fr => hx.fr fr (fun e => hRp e.symm) (fun k e => by omega))
    have hr' := (fr.block Br (blk_lt hr) (fun e => hRr e.symm)).trans hr
    have hb' := (fr.block Bp (blk_lt hb) (fun e => hRp e.symm)).trans hb
    refine (one1_ok (lo := lo) hc rd hr' hb' hRp (Nat.le_trans hlo fr.size) hp).mono fun e w' x => ?_
    have fr' : Fr (fun k => k = R ∨ k = Bp) w W := fr.mono fun k e => Or.inl e
    cases hf : f l1 with
    | error y => rw [hf] at x; exact ⟨x.1, fr'.same x.2⟩
    | ok z => rw [hf] at x; exact ⟨x.1, x.2.1, x.2.2.1, fr'.same x.2.2.2⟩
structure OI (R : Nat) (t : L) (wh n : Nat) (w W : World) (l : L) : Prop where
  rd : RD R t wh n W l
  br : W.heap[w.heap.size]? = some (.cells #[ptr R] 142 (0, 0))
  bq : W.heap[w.heap.size + 1]? = some (.cells zero5 112 (0, 0))
  bp : W.heap[w.heap.size + 1 + 1]? = some (.cells zero5 112 (0, 0))
  fr : Fr (fun k => k = R ∨ w.heap.size ≤ k) w W
  sz : w.heap.size + 3 ≤ W.heap.size
  lt : R < w.heap.size
theorem OI.start (h : RD R t wh n w l) : OI R t wh n w (((w.alloc (.cells #[ptr R] 142)).alloc (.cells zero5 112)).alloc (.cells zero5 112)) l := by
  have f : Fr (fun _ => False) w (((w.alloc (.cells #[ptr R] 142)).alloc (.cells zero5 112)).alloc (.cells zero5 112)) := (((Fr.refl _ w).alloc _).alloc _).alloc _
  refine ⟨h.fr f (fun x => x), ?_, ?_, ?_, f.mono (fun _ x => x.elim), by simp, h.lt⟩
  · rw [Below.heap_alloc _ _ _ (by simp; omega), Below.heap_alloc _ _ _ (by simp)]; exact Below_new _ _
  · rw [Below.heap_alloc _ _ _ (by simp)]
    have := Below_new (w.alloc (.cells #[ptr R] 142)) (.cells zero5 112)
    simpa using this
  · have := Below_new ((w.alloc (.cells #[ptr R] 142)).alloc (.cells zero5 112)) (.cells zero5 112)
    simpa using this
theorem OI.on (h : OI R t wh n w W l) (f : Fr (fun k => k = R) W W1) (rd : RD R t wh n W1 l') : OI R t wh n w W1 l' := by
  have := h.lt
  exact ⟨rd, (f.block _ (blk_lt h.br) (by omega)).trans h.br, (f.block _ (blk_lt h.bq) (by omega)).trans h.bq, (f.block _ (blk_lt h.bp) (by omega)).trans h.bp, h.fr.trans f (fun _ _ x => Or.inl x), Nat.le_trans h.sz f.size, h.lt⟩
theorem OI.below (h : OI R t wh n w W l) (b : Below W.heap.size W W1) : OI R t wh n w W1 l := h.on (Fr.below b) (h.rd.below b)
theorem OI.c0 (h : OI R t wh n w W l) : W.cell? ⟨w.heap.size, 0, none⟩ = some (ptr R) := cell_of h.br rfl
theorem OI.thr (h : OI R t wh n w W l) (f : Fr (fun k => k = R ∨ k = w.heap.size + 1 + 1) W W1) : Fr (fun k => k = R) w W1 := by
  have := h.lt
  exact (h.fr.trans f (fun _ _ x => by omega)).restrict (fun k hk x => by omega)
theorem OI.put (h : OI R t wh n w W l) (f : Fr (fun k => k = R ∨ k = w.heap.size + 1 + 1) W W1) (rd : RD R t wh n W1 l') (hp : Put (w.heap.size + 3) (w.heap.size + 1 + 1) W1 p) : ∃ ki nk kc si ns sc, W1.heap[w.heap.size + 1 + 1]? = some (.cells #[.string (bs p.op), .slice ki nk kc, .slice si ns sc, .string (bs p.attr), .string (bs p.text)] 112 (0, 0)) ∧ W1.heap[w.heap.size + 1]? = some (.cells zero5 112 (0, 0)) ∧
    (∀ W5, Fr (fun k => k = w.heap.size + 1) W1 W5 → PV (fun b => w.heap.size ≤ b) 79 112 W5 (.agg #[.string (bs p.op), .slice ki nk kc, .slice si ns sc, .string (bs p.attr), .string (bs p.text)]) p ∧ RD R t wh n W5 l' ∧ Fr (fun k => k = R) w W5) ∧
    ((W1.alloc (.cells #[.string (bs p.op), .slice ki nk kc, .slice si ns sc, .string (bs p.attr), .string (bs p.text)] 112)).heap[w.heap.size + 1]? = some (.cells zero5 112 (0, 0)) ∧ ∀ W5, Fr (fun k => k = w.heap.size + 1) (W1.alloc (.cells #[.string (bs p.op), .slice ki nk kc, .slice si ns sc, .string (bs p.attr), .string (bs p.text)] 112)) W5 → PV (fun b => w.heap.size ≤ b) 79 112 W5 (.agg #[.string ⟨#[110, 111, 116]⟩, .slice (some ⟨W1.heap.size, 0, none⟩) 1 1, .slice none 0 0, .string ⟨#[]⟩, .string ⟨#[]⟩]) ⟨wNot, Prds.of [p], .nil, [], []⟩ ∧ RD R t wh n W5 l' ∧ Fr (fun k => k = R) w W5) := by
  obtain ⟨ki, nk, kc, si, ns, sc, a1, a2, a3⟩ := hp
  have hlt := h.lt
  have bq1 := (f.block _ (blk_lt h.bq) (by omega)).trans h.bq
  have f1 : Fr (fun k => k = R ∨ w.heap.size ≤ k) w W1 := h.fr.trans f (fun _ _ x => by omega)
  have hz1 : w.heap.size + 3 ≤ W1.heap.size := Nat.le_trans h.sz f.size
  refine ⟨ki, nk, kc, si, ns, sc, a1, bq1, fun W5 f5 => ?_, ?_, fun W5 f5 => ?_⟩
  · have hm : Move (fun b => w.heap.size + 3 ≤ b) (fun b => w.heap.size ≤ b) W1 W5 := fun b hb hl => ⟨by omega, f5.block b hl (by omega)⟩
    exact ⟨⟨_, _, rfl, a2.move hm, a3.move hm⟩, rd.fr f5 (by omega), (f1.trans f5 (fun i hi x => by omega)).restrict (fun k hk x => by omega)⟩
  · exact (Below.heap_alloc _ _ _ (blk_lt bq1)).trans bq1
  · have fa : Fr (fun _ => False) W1 (W1.alloc (.cells #[.string (bs p.op), .slice ki nk kc, .slice si ns sc, .string (bs p.attr), .string (bs p.text)] 112)) := (Fr.refl _ W1).alloc _
    have g := ((GP.first (lo := w.heap.size + 3) (s := p) hz1 ⟨a2, a3⟩).fr f5 (fun k e _ => by omega)).done (by simp) (fun e => by simp at e)
    exact ⟨⟨_, _, rfl, g.move fun b hb _ => ⟨by omega, rfl⟩, Or.inl ⟨rfl, rfl⟩⟩, (rd.fr fa (fun x => x)).fr f5 (by omega), ((f1.trans fa (fun _ _ x => x.elim)).trans f5 (fun i hi x => by omega)).restrict (fun k hk x => by omega)⟩
set_option maxHeartbeats 16000000 in
set_option maxRecDepth 100000 in
theorem one_ok (hi : InOK R t wh n inn) (h : RD R t wh n w l) : Calls Tryz.prog 154 #[ptr R] w (Ends R t wh n (PV (fun b => w.heap.size ≤ b) 79 112) w (one (cutB t wh) inn l)) := by
  have B0 := hide (OI.start h)
  have hR := h.lt
  have hmf : ∀ (fn : Fn) (first cap : Array Value) (w : World), (Instr.makeFunc fn first cap).run Tryz.prog w = .ok (.func fn first cap) w := fun _ _ _ _ => rfl
  generalize hW0 : ((w.alloc (.cells #[ptr R] 142)).alloc (.cells zero5 112)).alloc (.cells zero5 112) = W0 at *
  have c0 := B0.out.c0
  obtain ⟨bn, hbn⟩ : ∃ b, calls wNot l = b := ⟨_, rfl⟩
  have HCN : Hid (Calls Tryz.prog 138 #[ptr R, .string ⟨#[110, 111, 116]⟩] W0 fun e w' => e = .returned (.bool bn) ∧ Below W0.heap.size W0 w') := by have := calls_ok wNot B0.out.rd; rw [hbn] at this; exact this
  have HWI : Hid (∀ W l, OI R t wh n w W l → Calls Tryz.prog 117 #[ptr R, .string ⟨#[40]⟩, .string ⟨#[41]⟩, .func (.func 165) #[] #[ptr w.heap.size, ptr (w.heap.size + 1 + 1)]] W (Lays R t wh n (fun k => k = R ∨ k = w.heap.size + 1 + 1) (Put (w.heap.size + 3) (w.heap.size + 1 + 1)) W (within (cutB t wh) inn [40] [41] l))) := fun W l hW => within_one hi hW.rd hW.br hW.bp (by omega) (by omega) (by omega) hW.sz (by omega)
  have HI := hide hi
  clear hi h
  unfold one
  cases bn with
  | true =>
    rw [if_pos hbn]
    have HW : Hid (∀ W, RD R t wh n W l → Calls Tryz.prog 120 #[ptr R, .string ⟨#[110, 111, 116]⟩] W fun e w' => match want (cutB t wh) wNot l with
      | .ok l' => e = .returned (.tuple #[]) ∧ RD R t wh n w' l' ∧ Fr (fun k => k = R) W w'
      | .error y => Threw R t y W e w') := fun W hW => want_ok wNot hW
    clear hbn
    cases hx : want (cutB t wh) wNot l with
    | error y =>
      simp only [hx] at HW
      simp only [wnt]
      clear hx
      go_enter Tryz.func154, Tryz.ntmps154
      go_wp2_with (first | (go_at_call 138; (try rw [hW0]); refine HCN.out.mono ?_; rintro e w2 ⟨rfl, hb2⟩; have O2 := B0.out.below hb2; have c2 := O2.c0) | (go_at_call 120; refine (HW.out _ O2.rd).mono ?_; rintro e w3 ⟨rfl, fr3⟩))
      exact ⟨rfl, rfl, O2.thr (fr3.mono fun k e => Or.inl e)⟩
    | ok l1 =>
      simp only [hx] at HW
      simp only [wnt]
      clear hx
      have HWI := HWI.out
      cases hy : within (cutB t wh) inn [40] [41] l1 with
      | error y =>
        have HW1 : Hid (∀ W, OI R t wh n w W l1 → _) := fun W hW => HWI W l1 hW
        rw [hy] at HW1
        simp only [thn_er]
        clear hy HWI
        go_enter Tryz.func154, Tryz.ntmps154
        go_wp2_with (first | (go_at_call 138; (try rw [hW0]); refine HCN.out.mono ?_; rintro e w2 ⟨rfl, hb2⟩; have O2 := B0.out.below hb2; have c2 := O2.c0) | (go_at_call 120; refine (HW.out _ O2.rd).mono ?_; rintro e w3 ⟨rfl, rd3, fr3⟩; have O3 := O2.on fr3 rd3; have c3 := O3.c0) | (go_at_call 117; refine (HW1.out _ O3).mono ?_; rintro e w4 ⟨rfl, fr4⟩))
        exact ⟨rfl, rfl, O3.thr fr4⟩
      | ok z =>
        obtain ⟨p, l2⟩ := z
        have HW1 : Hid (∀ W, OI R t wh n w W l1 → _) := fun W hW => HWI W l1 hW
        rw [hy] at HW1
        simp only [thn_ok]
        clear hy HWI
        go_enter Tryz.func154, Tryz.ntmps154
        go_wp2_with (first | (go_at_call 138; (try rw [hW0]); refine HCN.out.mono ?_; rintro e w2 ⟨rfl, hb2⟩; have O2 := B0.out.below hb2; have c2 := O2.c0) | (go_at_call 120; refine (HW.out _ O2.rd).mono ?_; rintro e w3 ⟨rfl, rd3, fr3⟩; have O3 := O2.on fr3 rd3; have c3 := O3.c0) | (go_at_call 117; refine (HW1.out _ O3).mono ?_; rintro e w4 ⟨rfl, rd4, hp4, fr4⟩; obtain ⟨ki, nk, kc, si, ns, sc, bp4, bq4, -, bq3, hf⟩ := O3.put fr4 rd4 hp4; have HFN := hide hf; clear hf hp4; obtain ⟨⟨a0, a1, a2, a3, a4⟩, -⟩ := cells5 bp4; obtain ⟨⟨y0, y1, y2, y3, y4⟩, z0, z1, z2, z3, z4⟩ := cells5 bq3))
        obtain ⟨W5, hW5, r5, fr5q⟩ := box5 (.string ⟨#[110, 111, 116]⟩) (.slice (some ⟨w4.heap.size, 0, none⟩) 1 1) (.slice none 0 0) (.string ⟨#[]⟩) (.string ⟨#[]⟩) bq3
        rw [hW5]
        clear hW5 y0 y1 y2 y3 y4 z0 z1 z2 z3 z4
        obtain ⟨⟨k0, k1, k2, k3, k4⟩, -⟩ := cells5 r5
        obtain ⟨q1, q2, q3⟩ := HFN.out _ fr5q
        refine bodyPost_ret (v := .agg #[.string ⟨#[110, 111, 116]⟩, .slice (some ⟨w4.heap.size, 0, none⟩) 1 1, .slice none 0 0, .string ⟨#[]⟩, .string ⟨#[]⟩]) (by simp [results, Tryz.results154, go_sem, k0, k1, k2, k3, k4]) rfl ⟨_, rfl, q1, q2, q3⟩
  | false =>
    rw [if_neg (by rw [hbn]; simp)]
    have HPT : Hid (∀ W, RD R t wh n W l → Calls Tryz.prog 94 #[ptr R] W fun e w' => e = .returned (.string (bs (part l))) ∧ Below W.heap.size W w') := fun W hW => part_ok hW
    clear hbn
    by_cases hp : part l = [40]
    · rw [if_pos hp]
      have hq : ((bs (part l)).toList == [40]) = true := by rw [bs_toL, hp]; rfl
      generalize bs (part l) = S at *
      have HWI := HWI.out
      clear hp
      cases hy : within (cutB t wh) inn [40] [41] l with
      | error y =>
        have HW1 : Hid (∀ W, OI R t wh n w W l → _) := fun W hW => HWI W l hW
        rw [hy] at HW1
        clear hy HWI
        go_enter Tryz.func154, Tryz.ntmps154
        go_wp2_with (first | (go_at_call 138; (try rw [hW0]); refine HCN.out.mono ?_; rintro e w2 ⟨rfl, hb2⟩; have O2 := B0.out.below hb2; have c2 := O2.c0) | (go_at_call 94; refine (HPT.out _ O2.rd).mono ?_; rintro e w3 ⟨rfl, hb3⟩; have O3 := O2.below hb3; have c3 := O3.c0) | (go_at_call 117; refine (HW1.out _ O3).mono ?_; rintro e w4 ⟨rfl, fr4⟩))
        exact ⟨rfl, rfl, O3.thr fr4⟩
      | ok z =>
        obtain ⟨p, l2⟩ := z
        have HW1 : Hid (∀ W, OI R t wh n w W l → _) := fun W hW => HWI W l hW
        rw [hy] at HW1
        clear hy HWI
        go_enter Tryz.func154, Tryz.ntmps154
        go_wp2_with (first | (go_at_call 138; (try rw [hW0]); refine HCN.out.mono ?_; rintro e w2 ⟨rfl, hb2⟩; have O2 := B0.out.below hb2; have c2 := O2.c0) | (go_at_call 94; refine (HPT.out _ O2.rd).mono ?_; rintro e w3 ⟨rfl, hb3⟩; have O3 := O2.below hb3; have c3 := O3.c0) | (go_at_call 117; refine (HW1.out _ O3).mono ?_; rintro e w4 ⟨rfl, rd4, hp4, fr4⟩; obtain ⟨ki, nk, kc, si, ns, sc, bp4, bq3, hf, -⟩ := O3.put fr4 rd4 hp4; have HFN := hide hf; clear hf hp4; obtain ⟨⟨a0, a1, a2, a3, a4⟩, -⟩ := cells5 bp4; obtain ⟨⟨y0, y1, y2, y3, y4⟩, z0, z1, z2, z3, z4⟩ := cells5 bq3))
        obtain ⟨W5, hW5, r5, fr5q⟩ := box5 (.string (bs p.op)) (.slice ki nk kc) (.slice si ns sc) (.string (bs p.attr)) (.string (bs p.text)) bq3
        rw [hW5]
        clear hW5 y0 y1 y2 y3 y4 z0 z1 z2 z3 z4
        obtain ⟨⟨k0, k1, k2, k3, k4⟩, -⟩ := cells5 r5
        obtain ⟨q1, q2, q3⟩ := HFN.out _ fr5q
        refine bodyPost_ret (v := .agg #[.string (bs p.op), .slice ki nk kc, .slice si ns sc, .string (bs p.attr), .string (bs p.text)]) (by simp [results, Tryz.results154, go_sem, k0, k1, k2, k3, k4]) rfl ⟨_, rfl, q1, q2, q3⟩
    · rw [if_neg hp]
      have hq : ((bs (part l)).toList == [40]) = false := by rw [bs_toL]; simpa using hp
      generalize bs (part l) = S at *
      clear hp HWI
      have HVA : Hid (∀ W, RD R t wh n W l → Calls Tryz.prog 167 #[ptr R] W (Ends R t wh n (PV (fun b => W.heap.size ≤ b) 79 112) W (value (cutB t wh) inn l))) := fun W hW => value_ok HI.out hW
      cases hy : value (cutB t wh) inn l with
      | error y =>
        rw [hy] at HVA
        simp only [thn_er]
        clear hy
        go_enter Tryz.func154, Tryz.ntmps154
        go_wp2_with (first | (go_at_call 138; (try rw [hW0]); refine HCN.out.mono ?_; rintro e w2 ⟨rfl, hb2⟩; have O2 := B0.out.below hb2; have c2 := O2.c0) | (go_at_call 94; refine (HPT.out _ O2.rd).mono ?_; rintro e w3 ⟨rfl, hb3⟩; have O3 := O2.below hb3; have c3 := O3.c0))
        have hv := HVA.out w3.drew (O3.rd.fr (F := fun _ => False) ((Fr.refl _ w3).drewN 1) (fun x => x))
        refine wp_region_held_drew (S := fun W => W.cell? ⟨w.heap.size, 0, none⟩ = some (ptr R)) (by kernel_rfl) c3 (fun hHeld => ?_)
        refine wpAnyH_take (i := 0) (v := ?_) rfl (by kernel_rfl) (by kernel_rfl) (by kernel_rfl) (fun _ _ _ h => h) (Or.inl ⟨by rfl, ?_⟩) (by assumption) ?_
        rotate_left
        · (intro w hSw; (try dsimp only at hSw); go_simp; (try with_reducible rfl))
        (try simp only [Act.put, List.setIfInBounds_toArray, List.set_cons_zero, List.set_cons_succ])
        refine wpAnyH_take (i := 1) (v := ?_) rfl (by kernel_rfl) (by kernel_rfl) (by kernel_rfl) (fun _ _ _ h => h) (Or.inl ⟨by rfl, ?_⟩) (by assumption) ?_
        rotate_left
        · (intro w hSw; (try dsimp only at hSw); go_simp; (try with_reducible rfl))
        (try simp only [Act.put, List.setIfInBounds_toArray, List.set_cons_zero, List.set_cons_succ])
        refine wpAnyH_ready (rs := [2]) (by kernel_rfl) (by simp) ?_
        refine AllReadyH.cons rfl (fun K hK => ?_) AllReadyH.nil
        go_simp
        refine hv.mono ?_
        rintro e w4 ⟨rfl, fr4⟩
        exact ⟨rfl, rfl, O3.thr (Fr.mono ⟨fr4.os, fr4.tape, fr4.output, fr4.size, fr4.block⟩ fun k e => Or.inl e)⟩
      | ok z =>
        obtain ⟨p, l2⟩ := z
        rw [hy] at HVA
        simp only [thn_ok]
        clear hy
        have HCO : Hid (∀ W0 W ki nk kc si ns sc, OI R t wh n w W0 l → Fr (fun k => k = R) W0 W → RD R t wh n W l2 → slP W (fun b => W0.heap.size ≤ b) 79 112 (.slice ki nk kc) p.kids ∧ slS W (fun b => W0.heap.size ≤ b) 79 112 (.slice si ns sc) p.steps → Calls Tryz.prog 166 #[ptr R, .agg #[.string (bs p.op), .slice ki nk kc, .slice si ns sc, .string (bs p.attr), .string (bs p.text)]] W (Ends R t wh n (PV (fun b => W0.heap.size ≤ b) 79 112) W (compared (cutB t wh) p l2))) := fun W0 W ki nk kc si ns sc h0 f rd hv => compared_ok (by have := h0.rd.lt; omega) rd hv
        cases hz : compared (cutB t wh) p l2 with
        | error y =>
          rw [hz] at HCO
          clear hz
          go_enter Tryz.func154, Tryz.ntmps154
          go_wp2_with (first | (go_at_call 138; (try rw [hW0]); refine HCN.out.mono ?_; rintro e w2 ⟨rfl, hb2⟩; have O2 := B0.out.below hb2; have c2 := O2.c0) | (go_at_call 94; refine (HPT.out _ O2.rd).mono ?_; rintro e w3 ⟨rfl, hb3⟩; have O3 := O2.below hb3; have c3 := O3.c0))
          have O3d : OI R t wh n w w3.drew l := O3.on ((Fr.refl (fun k => k = R) w3).drewN 1) (O3.rd.fr (F := fun _ => False) ((Fr.refl _ w3).drewN 1) (fun x => x))
          refine wp_region_held_drew (S := fun W => W.cell? ⟨w.heap.size, 0, none⟩ = some (ptr R)) (by kernel_rfl) c3 (fun hHeld => ?_)
          generalize w3.drew = W3 at *
          refine wpAnyH_take (i := 0) (v := ?_) rfl (by kernel_rfl) (by kernel_rfl) (by kernel_rfl) (fun _ _ _ h => h) (Or.inl ⟨by rfl, ?_⟩) (by assumption) ?_
          rotate_left
          · (intro w hSw; (try dsimp only at hSw); go_simp; (try with_reducible rfl))
          (try simp only [Act.put, List.setIfInBounds_toArray, List.set_cons_zero, List.set_cons_succ])
          refine wpAnyH_take (i := 1) (v := ?_) rfl (by kernel_rfl) (by kernel_rfl) (by kernel_rfl) (fun _ _ _ h => h) (Or.inl ⟨by rfl, ?_⟩) (by assumption) ?_
          rotate_left
          · (intro w hSw; (try dsimp only at hSw); go_simp; (try with_reducible rfl))
          (try simp only [Act.put, List.setIfInBounds_toArray, List.set_cons_zero, List.set_cons_succ])
          refine wpAnyH_ready (rs := [2]) (by kernel_rfl) (by simp) ?_
          refine AllReadyH.cons rfl (fun K hK => ?_) AllReadyH.nil
          have hv := HVA.out _ O3d.rd
          go_simp
          refine hv.mono ?_
          clear hv
          rintro e w4 ⟨v4, rfl, pv4, rd4, fr4⟩
          obtain ⟨ki, nk, kc, si, ns, sc, rfl, sv4⟩ := pv4.shape
          refine hK.out _ _ (O3d.on fr4 rd4).c0 (fun hHeld => ?_)
          clear hK K pv4
          (try simp only [Act.put, List.setIfInBounds_toArray, List.set_cons_zero, List.set_cons_succ])
          refine wpAnyH_ready (rs := [3]) (by kernel_rfl) (by simp) ?_
          refine AllReadyH.cons rfl (fun K hK => ?_) AllReadyH.nil
          have hc := HCO.out _ _ _ _ _ _ _ _ O3d fr4 rd4 sv4
          clear sv4
          go_simp
          refine hc.mono ?_
          clear hc
          rintro e w5 ⟨rfl, fr5⟩
          exact ⟨rfl, rfl, O3d.thr ((fr4.same fr5).mono fun k e => Or.inl e)⟩
        | ok z =>
          obtain ⟨p2, l3⟩ := z
          rw [hz] at HCO
          clear hz
          have HFI : Hid (∀ W0 W v, OI R t wh n w W0 l → Fr (fun k => k = R) W0 W → RD R t wh n W l3 → PV (fun b => W0.heap.size ≤ b) 79 112 W v p2 → ∃ ki nk kc si ns sc, v = .agg #[.string (bs p2.op), .slice ki nk kc, .slice si ns sc, .string (bs p2.attr), .string (bs p2.text)] ∧ W.heap[w.heap.size]? = some (.cells #[ptr R] 142 (0, 0)) ∧ W.heap[w.heap.size + 1]? = some (.cells zero5 112 (0, 0)) ∧ ∀ W5, Fr (fun k => k = w.heap.size + 1) W W5 → PV (fun b => w.heap.size ≤ b) 79 112 W5 (.agg #[.string (bs p2.op), .slice ki nk kc, .slice si ns sc, .string (bs p2.attr), .string (bs p2.text)]) p2 ∧ RD R t wh n W5 l3 ∧ Fr (fun k => k = R) w W5) := fun W0 W v h0 f rd pv => by
            obtain ⟨ki, nk, kc, si, ns, sc, rfl, a1, a2⟩ := pv.shape
            have h1 := h0.on f rd
            have hsz := h0.sz
            refine ⟨ki, nk, kc, si, ns, sc, rfl, h1.br, h1.bq, fun W5 f5 => ?_⟩
            have hm : Move (fun b => W0.heap.size ≤ b) (fun b => w.heap.size ≤ b) W W5 := fun b hb hl => ⟨by omega, f5.block b hl (by omega)⟩
            exact ⟨⟨_, _, rfl, a1.move hm, a2.move hm⟩, rd.fr f5 (by omega), (h1.fr.trans f5 (fun i hi x => by omega)).restrict (fun k hk x => by omega)⟩
          go_enter Tryz.func154, Tryz.ntmps154
          go_wp2_with (first | (go_at_call 138; (try rw [hW0]); refine HCN.out.mono ?_; rintro e w2 ⟨rfl, hb2⟩; have O2 := B0.out.below hb2; have c2 := O2.c0) | (go_at_call 94; refine (HPT.out _ O2.rd).mono ?_; rintro e w3 ⟨rfl, hb3⟩; have O3 := O2.below hb3; have c3 := O3.c0))
          have O3d : OI R t wh n w w3.drew l := O3.on ((Fr.refl (fun k => k = R) w3).drewN 1) (O3.rd.fr (F := fun _ => False) ((Fr.refl _ w3).drewN 1) (fun x => x))
          refine wp_region_held_drew (S := fun W => W.cell? ⟨w.heap.size, 0, none⟩ = some (ptr R)) (by kernel_rfl) c3 (fun hHeld => ?_)
          generalize w3.drew = W3 at *
          refine wpAnyH_take (i := 0) (v := ?_) rfl (by kernel_rfl) (by kernel_rfl) (by kernel_rfl) (fun _ _ _ h => h) (Or.inl ⟨by rfl, ?_⟩) (by assumption) ?_
          rotate_left
          · (intro w hSw; (try dsimp only at hSw); go_simp; (try with_reducible rfl))
          (try simp only [Act.put, List.setIfInBounds_toArray, List.set_cons_zero, List.set_cons_succ])
          refine wpAnyH_take (i := 1) (v := ?_) rfl (by kernel_rfl) (by kernel_rfl) (by kernel_rfl) (fun _ _ _ h => h) (Or.inl ⟨by rfl, ?_⟩) (by assumption) ?_
          rotate_left
          · (intro w hSw; (try dsimp only at hSw); go_simp; (try with_reducible rfl))
          (try simp only [Act.put, List.setIfInBounds_toArray, List.set_cons_zero, List.set_cons_succ])
          refine wpAnyH_ready (rs := [2]) (by kernel_rfl) (by simp) ?_
          refine AllReadyH.cons rfl (fun K hK => ?_) AllReadyH.nil
          have hv := HVA.out _ O3d.rd
          go_simp
          refine hv.mono ?_
          clear hv
          rintro e w4 ⟨v4, rfl, pv4, rd4, fr4⟩
          obtain ⟨ki, nk, kc, si, ns, sc, rfl, sv4⟩ := pv4.shape
          refine hK.out _ _ (O3d.on fr4 rd4).c0 (fun hHeld => ?_)
          clear hK K pv4
          (try simp only [Act.put, List.setIfInBounds_toArray, List.set_cons_zero, List.set_cons_succ])
          refine wpAnyH_ready (rs := [3]) (by kernel_rfl) (by simp) ?_
          refine AllReadyH.cons rfl (fun K hK => ?_) AllReadyH.nil
          have hc := HCO.out _ _ _ _ _ _ _ _ O3d fr4 rd4 sv4
          clear sv4
          go_simp
          refine hc.mono ?_
          clear hc
          rintro e w5 ⟨v5, rfl, pv5, rd5, fr5⟩
          obtain ⟨ki2, nk2, kc2, si2, ns2, sc2, rfl, br5, bq5, hf⟩ := HFI.out _ _ _ O3d (fr4.same fr5) rd5 pv5
          have HFN := hide hf
          clear hf pv5
          refine hK.out _ _ (cell_of br5 rfl) (fun hHeld => ?_)
          clear hK K
          (try simp only [Act.put, List.setIfInBounds_toArray, List.set_cons_zero, List.set_cons_succ])
          refine wpAnyH_ready (rs := [4]) (by kernel_rfl) (by simp) ?_
          refine AllReadyH.cons rfl (fun K hK => ?_) AllReadyH.nil
          obtain ⟨⟨y0, y1, y2, y3, y4⟩, z0, z1, z2, z3, z4⟩ := cells5 bq5
          go_simp
          obtain ⟨W5, hW5, r5, fr5q⟩ := box5 (.string (bs p2.op)) (.slice ki2 nk2 kc2) (.slice si2 ns2 sc2) (.string (bs p2.attr)) (.string (bs p2.text)) bq5
          rw [hW5]
          clear hW5 y0 y1 y2 y3 y4 z0 z1 z2 z3 z4
          have br6 := (fr5q.block _ (blk_lt br5) (by omega)).trans br5
          refine hK.out _ _ (cell_of br6 rfl) (fun hHeld => ?_)
          clear hK K
          refine wpAnyH_done (by kernel_rfl) ?_ _
          obtain ⟨⟨k0, k1, k2, k3, k4⟩, -⟩ := cells5 r5
          obtain ⟨q1, q2, q3⟩ := HFN.out _ fr5q
          go_wp2
          refine bodyPost_ret (v := .agg #[.string (bs p2.op), .slice ki2 nk2 kc2, .slice si2 ns2 sc2, .string (bs p2.attr), .string (bs p2.text)]) (by simp [results, Tryz.results154, go_sem, k0, k1, k2, k3, k4]) rfl ⟨_, rfl, q1, q2, q3⟩
end Go.Proofs.YtoahlnmhjinneaaGreatDoor
