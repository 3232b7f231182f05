import Derived.Test.YtoahlnmhjinneaaGreatDoorGaf
set_option linter.unusedVariables false
set_option linter.unusedSimpArgs false
set_option linter.unusedSimpArgs false
set_option linter.unusedVariables false
namespace Go.Proofs.YtoahlnmhjinneaaGreatDoor
open Go.RowKit Go.Maps Go.Lib
variable {w w' w1 w2 W0 W1 W2 W3 W4 WO wr W : World} {F G : Nat → Prop} {R lo Bp : Nat} {t l l' : L} {wh n : Nat} {inn : Option (L → Rs Prd)} {v v' vp vk vs : Value} {X : Rs Prd}
theorem three_one (d : Bool) (te : ByteArray) (vi : Option Addr) (vn vc : Nat) : ∀ u ∈ [Value.bool d, .string te, .slice vi vn vc], u.oneCell' = true := by
  intro u hu
  simp only [List.mem_cons, List.not_mem_nil, or_false] at hu
  rcases hu with rfl | rfl | rfl <;> rfl
def Lie (w : World) (Bp b : Nat) : Prop := w.heap.size + 1 ≤ b ∧ b ≠ Bp
abbrev vbox (v : Value) (a : ByteArray) : Array Value := #[.string ⟨#[]⟩, .slice none 0 0, v, .string a, .string ⟨#[]⟩]
structure VI (R : Nat) (t : L) (wh n : Nat) (inn : Option (L → Rs Prd)) (w : World) (Bp : Nat) (X : Rs Prd) (wr : World) (v : Value) (ls : List Stp) (s : Stp) (lc : L) : Prop where
  rd : RD R t wh n wr lc
  bp : wr.heap[Bp]? = some (.cells (vbox v ⟨#[]⟩) 112 (0, 0))
  bq : wr.heap[w.heap.size]? = some (.cells zero5 112 (0, 0))
  gx : GX (Lie w Bp) 79 112 wr v (ls ++ [s])
  fr : Fr (fun k => k = R ∨ w.heap.size ≤ k) w wr
  eq : ∃ fu, lc.length < fu ∧ X = thn (valMore (cutB t wh) inn fu s lc) fun x l => .ok (⟨[], .nil, Stps.of (ls ++ s :: x.1), x.2, []⟩, l)
  sm : ls.length + 1 + lc.length ≤ 501
  lt : R < w.heap.size
  lp : w.heap.size < Bp
variable {ls : List Stp} {s : Stp} {lc : L}
theorem VI.stop (h : VI R t wh n inn w Bp X wr v ls s lc) (hg : goesOn s lc = false) : X = .ok (⟨[], .nil, Stps.of (ls ++ [s]), [], []⟩, lc) := by
  obtain ⟨fu, e1, e2⟩ := h.eq
  rw [e2]
  cases fu with
  | zero => omega
  | succ fu => rw [valMore, if_neg (by rw [hg]; simp)]; rfl
theorem VI.go (h : VI R t wh n inn w Bp X wr v ls s lc) (hg : goesOn s lc = true) :
    (∀ y, slash (cutB t wh) lc = .error y → X = .error y) ∧ ∀ d l1, slash (cutB t wh) lc = .ok (d, l1) → l1.length < lc.length ∧
      (d = false ∧ part l1 = [64] → (∀ y, attr (cutB t wh) l1 = .error y → X = .error y) ∧ ∀ a l2, attr (cutB t wh) l1 = .ok (a, l2) → X = .ok (⟨[], .nil, Stps.of (ls ++ [s]), a, []⟩, l2)) ∧
      (¬ (d = false ∧ part l1 = [64]) → (∀ y, step (cutB t wh) inn d l1 = .error y → X = .error y) ∧
      ∀ s' l2, step (cutB t wh) inn d l1 = .ok (s', l2) → l2 <:+ l1 → ∃ fu, l2.length < fu ∧ X = thn (valMore (cutB t wh) inn fu s' l2) fun x l => .ok (⟨[], .nil, Stps.of ((ls ++ [s]) ++ s' :: x.1), x.2, []⟩, l)) := by
  obtain ⟨fu, e1, e2⟩ := h.eq
  cases fu with
  | zero => omega
  | succ fu =>
    rw [valMore, if_pos hg] at e2
    refine ⟨fun y hy => by rw [e2, hy]; rfl, fun d l1 hy => ⟨slash_lt hy, fun hc => ?_, fun hc => ?_⟩⟩
    · rw [hy] at e2
      simp only [thn_ok] at e2
      rw [if_pos hc] at e2
      exact ⟨fun y hz => by rw [e2, hz]; rfl, fun a l2 hz => by rw [e2, hz]; rfl⟩
    · rw [hy] at e2
      simp only [thn_ok] at e2
      rw [if_neg hc] at e2
      refine ⟨fun y hz => by rw [e2, hz]; rfl, fun s' l2 hz hs => ⟨fu, by have := hs.length_le; have := slash_lt hy; omega, ?_⟩⟩
      rw [e2, hz]; simp only [thn_ok]
      cases valMore (cutB t wh) inn fu s' l2 with
      | error y => rfl
      | ok z => obtain ⟨⟨za, zb⟩, zc⟩ := z; simp only [thn_ok, List.append_assoc, List.cons_append, List.nil_append]
theorem VI.parts (h : VI R t wh n inn w Bp X wr v ls s lc) (f : Fr (fun k => k = R) wr W) {l1 : L} (rd : RD R t wh n W l1) : RD R t wh n W l1 ∧ W.heap[Bp]? = some (.cells (vbox v ⟨#[]⟩) 112 (0, 0)) ∧ W.heap[w.heap.size]? = some (.cells zero5 112 (0, 0)) ∧ GX (Lie w Bp) 79 112 W v (ls ++ [s]) ∧ Fr (fun k => k = R ∨ w.heap.size ≤ k) w W := by
  have hlt := h.lt; have hlp := h.lp
  exact ⟨rd, (f.block _ (blk_lt h.bp) (by omega)).trans h.bp, (f.block _ (blk_lt h.bq) (by omega)).trans h.bq, h.gx.fr f (fun k e x => by unfold Lie at x; omega), h.fr.trans f (fun _ _ x => Or.inl x)⟩
theorem vi_next {W5 : World} {g cap : Nat} {s' : Stp} {l4 : L} {vi : Option Addr} {vc : Nat} (h0 : VI R t wh n inn w Bp X wr (.slice (some ⟨g, 0, none⟩) (ls.length + 1) cap) ls s lc) (hR : R < w.heap.size) (f1 : Fr (fun _ => False) W5 W1) (f3 : Fr (fun k => k = R) W1 W3) (rd : RD R t wh n W3 l4) (sp : slP W3 (fun b => W1.heap.size ≤ b) 79 112 (.slice vi s'.preds.len vc) s'.preds)
    (bp5 : W5.heap[Bp]? = some (.cells (vbox (.slice (some ⟨g, 0, none⟩) (ls.length + 1) cap) ⟨#[]⟩) 112 (0, 0))) (bq5 : W5.heap[w.heap.size]? = some (.cells zero5 112 (0, 0))) (gx5 : GX (Lie w Bp) 79 112 W5 (.slice (some ⟨g, 0, none⟩) (ls.length + 1) cap) (ls ++ [s])) (fr5 : Fr (fun k => k = R ∨ w.heap.size ≤ k) w W5)
    (hnx : ∃ fu, l4.length < fu ∧ X = thn (valMore (cutB t wh) inn fu s' l4) fun x l => .ok (⟨[], .nil, Stps.of ((ls ++ [s]) ++ s' :: x.1), x.2, []⟩, l)) (hlt : l4.length < lc.length) :
    ∃ xs, (W3.alloc (.cells #[.bool s'.deep, .string (bs s'.test), .slice vi s'.preds.len vc] 79)).ownsRow 0 79 3 (.slice (some ⟨g, 0, none⟩) (ls.length + 1) cap) (ls.length + 1) (sCells xs) ∧ ∀ v' W4, W4.ownsRow 0 79 3 v' (ls.length + 1 + 1) (sCells xs ++ [.bool s'.deep, .string (bs s'.test), .slice vi s'.preds.len vc]) → (W3.alloc (.cells #[.bool s'.deep, .string (bs s'.test), .slice vi s'.preds.len vc] 79)).grownBy W4 (Value.slice (some ⟨g, 0, none⟩) (ls.length + 1) cap).ownBlock → (v'.ownBlock = (Value.slice (some ⟨g, 0, none⟩) (ls.length + 1) cap).ownBlock ∨ v'.ownBlock = some (W3.heap.size + 1)) → W4.heap[Bp]? = some (.cells (vbox (.slice (some ⟨g, 0, none⟩) (ls.length + 1) cap) ⟨#[]⟩) 112 (0, 0)) ∧ VI R t wh n inn w Bp X (W4.setCell ⟨Bp, 2, none⟩ v') v' (ls ++ [s]) s' l4 := by
  have hlp := h0.lp
  have hBl := blk_lt bp5
  have bp1 := (f1.block _ hBl (fun x => x)).trans bp5
  have bq1 := (f1.block _ (blk_lt bq5) (fun x => x)).trans bq5
  have hB1 := blk_lt bp1
  have gx1 := gx5.fr f1 (fun _ x => x.elim)
  obtain ⟨xs, x1, x2⟩ := gx1.prep f3 (by unfold Lie; omega) (fun b hb => by unfold Lie; omega) sp (.cells #[.bool s'.deep, .string (bs s'.test), .slice vi s'.preds.len vc] 79)
  rw [List.length_append] at x1 x2
  refine ⟨xs, x1, fun v' W4 ho hg hat => ?_⟩
  obtain ⟨g1, g2, g3⟩ := x2 v' W4 ho hg (by simpa using hat)
  have bp4 := (g2.block _ hB1 (by unfold Lie; omega)).trans bp1
  have bq4 := (g2.block _ (blk_lt bq1) (by unfold Lie; omega)).trans bq1
  refine ⟨bp4, ?_⟩
  have f5 : Fr (fun k => k = Bp) W4 (W4.setCell ⟨Bp, 2, none⟩ v') := (Fr.refl (fun k => k = Bp) W4).set ⟨Bp, 2, none⟩ v' (fun _ => rfl)
  exact ⟨(rd.fr g3 (by unfold Lie; omega)).fr f5 (by omega), set_of bp4 _, (f5.block _ (blk_lt bq4) (by omega)).trans bq4, g1.fr f5 (fun k e x => x.2 e), ((fr5.trans f1 (fun _ _ x => x.elim)).trans g2 (fun i hi x => by unfold Lie at x; omega)).trans f5 (fun i hi x => by omega), hnx, by have := h0.sm; simp; omega, hR, hlp⟩
theorem vi_fin {a : L} {l1 : L} {W5 : World} (hR : R < w.heap.size) (hlp : w.heap.size < Bp) (hsm : ls.length ≤ 500) (rd : RD R t wh n W l1) (gx : GX (Lie w Bp) 79 112 W v (ls ++ [s])) (fr : Fr (fun k => k = R ∨ w.heap.size ≤ k) w W) (f5 : Fr (fun k => k = w.heap.size ∨ k = Bp) W W5) :
    PV (fun b => w.heap.size ≤ b) 79 112 W5 (.agg #[.string ⟨#[]⟩, .slice none 0 0, v, .string (bs a), .string ⟨#[]⟩]) ⟨[], .nil, Stps.of (ls ++ [s]), a, []⟩ ∧ RD R t wh n W5 l1 ∧ Fr (fun k => k = R) w W5 := by
  have g := (gx.fr f5 (fun k e x => by unfold Lie at x; omega)).done (by simp; omega) (fun e => by simp at e)
  exact ⟨⟨_, _, rfl, Or.inl ⟨rfl, rfl⟩, g.move fun b hb _ => ⟨by unfold Lie at hb; omega, rfl⟩⟩, rd.fr f5 (by omega), (fr.trans f5 (fun i hi x => by omega)).restrict (fun k hk x => by omega)⟩
theorem VI.at_start (h : VI R t wh n inn w Bp X wr v [] s lc) : ∃ g cap ls s lc, VI R t wh n inn w Bp X wr (.slice (some ⟨g, 0, none⟩) (List.length ls + 1) cap) ls s lc := by
  obtain ⟨g, cap, rfl, _⟩ := h.gx.last
  exact ⟨g, cap, [], s, lc, h⟩
set_option maxHeartbeats 16000000 in
set_option maxRecDepth 100000 in
theorem vsteps_ok (d : Bool) (hi : InOK R t wh n inn) (h : RD R t wh n w l) : Calls Tryz.prog 177 #[ptr R, .bool d] w (Ends R t wh n (PV (fun b => w.heap.size ≤ b) 79 112) w (vsteps (cutB t wh) inn d l)) := by
  have hR := h.lt
  have h5 : l.length ≤ 500 := by have := h.le; have := h.tw; have := h.wh5; omega
  have f0 : Fr (fun _ => False) w (w.alloc (.cells zero5 112)) := (Fr.refl _ w).alloc _
  have HST := hide (step_ok d hi (h.fr f0 (fun x => x)))
  have HZ : Hid ((w.alloc (.cells zero5 112)).heap[w.heap.size]? = some (.cells zero5 112 (0, 0))) := Below_new _ _
  have hsz : (w.alloc (.cells zero5 112)).heap.size = w.heap.size + 1 := by simp
  unfold vsteps
  cases hx : step (cutB t wh) inn d l with
  | error y =>
    rw [hx] at HST
    simp only [thn_er]
    clear hx h
    go_enter Tryz.func177, Tryz.ntmps177
    go_wp2_with (first | (go_at_call 91; refine HST.out.mono ?_; rintro e w2 ⟨rfl, fr⟩))
    exact ⟨rfl, rfl, (f0.mono fun _ x => x.elim).same fr⟩
  | ok z =>
    obtain ⟨s0, l1⟩ := z
    rw [hx] at HST
    have hl1 := (step_suf hi.suf d l s0 l1 hx).length_le
    simp only [thn_ok]
    clear hx h
    obtain ⟨X, hX⟩ : ∃ X, (thn (valMore (cutB t wh) inn (l1.length + 1) s0 l1) fun x l => (.ok (⟨[], .nil, Stps.of (s0 :: x.1), x.2, []⟩, l) : Rs Prd)) = X := ⟨_, rfl⟩
    rw [hX]
    have HV0 : Hid (∀ W1 v, Fr (fun k => k = R) (w.alloc (.cells zero5 112)) W1 → RD R t wh n W1 l1 → SV (fun b => (w.alloc (.cells zero5 112)).heap.size ≤ b) 79 112 W1 v s0 → ∃ te vi vn vc, v = .agg #[.bool s0.deep, .string te, .slice vi vn vc] ∧ VI R t wh n inn w (W1.heap.size + 1) X ((W1.alloc (.cells #[.bool s0.deep, .string te, .slice vi vn vc] 79)).alloc (.cells (vbox (.slice (some ⟨W1.heap.size, 0, none⟩) 1 1) ⟨#[]⟩) 112)) (.slice (some ⟨W1.heap.size, 0, none⟩) 1 1) [] s0 l1) := fun W1 v f1 rd sv => by
      obtain ⟨vp, rfl, sp⟩ := sv
      obtain ⟨vi, vc, rfl⟩ := sl.shape sp
      refine ⟨_, vi, _, vc, rfl, ?_⟩
      have hz1 := f1.size
      rw [hsz] at hz1
      rw [hsz] at sp
      have g1 := (f1.block w.heap.size (by rw [hsz]; omega) (by omega)).trans HZ.out
      have gs := GS.first (lo := w.heap.size + 1) (s := s0) hz1 sp
      have fa : Fr (fun _ => False) W1 (W1.alloc (.cells #[.bool s0.deep, .string (bs s0.test), .slice vi s0.preds.len vc] 79)) := (Fr.refl _ W1).alloc _
      have fb := fa.alloc (.cells (vbox (.slice (some ⟨W1.heap.size, 0, none⟩) 1 1) ⟨#[]⟩) 112)
      have fb2 : Fr (fun _ => False) (W1.alloc (.cells #[.bool s0.deep, .string (bs s0.test), .slice vi s0.preds.len vc] 79)) ((W1.alloc (.cells #[.bool s0.deep, .string (bs s0.test), .slice vi s0.preds.len vc] 79)).alloc (.cells (vbox (.slice (some ⟨W1.heap.size, 0, none⟩) 1 1) ⟨#[]⟩) 112)) := (Fr.refl _ _).alloc _
      have gx := (gs.toX (P := Lie w (W1.heap.size + 1)) (fun b hb hl => ⟨hb, by simp at hl; omega⟩)).fr fb2 (fun _ x => x.elim)
      have nb := Below_new (W1.alloc (.cells #[.bool s0.deep, .string (bs s0.test), .slice vi s0.preds.len vc] 79)) (.cells (vbox (.slice (some ⟨W1.heap.size, 0, none⟩) 1 1) ⟨#[]⟩) 112)
      exact ⟨rd.fr fb (fun x => x), by simpa using nb, (fb.block _ (blk_lt g1) (fun x => x)).trans g1, gx, ((f0.mono fun _ x => x.elim).same (f1.mono (G := fun k => k = R ∨ w.heap.size ≤ k) fun _ x => Or.inl x)).trans fb (fun _ _ x => x.elim), ⟨l1.length + 1, by omega, by rw [← hX]; rfl⟩, by simp; omega, hR, by omega⟩
    have HI := hide hi
    clear hX hi
    obtain ⟨i0, hi, hz0, hz1, hz2⟩ := info_parts info53
    have hmf : ∀ (x : Bool) (w : World), (Op.unary .not (.bool x)).run Tryz.prog w = .ok (.bool (!x)) w := fun _ _ => rfl
    go_enter Tryz.func177, Tryz.ntmps177
    go_wp2_with (first | (go_at_call 91; refine HST.out.mono ?_; rintro e w2 ⟨v2, rfl, sv2, rd2, fr2⟩; obtain ⟨te, vi, vn, vc, rfl, hV⟩ := HV0.out _ _ fr2 rd2 sv2; have HV := hide hV; clear hV sv2))
    clear rd2 fr2
    generalize hBp : w2.heap.size + 1 = Bp at *
    generalize (Value.slice (some ⟨w2.heap.size, 0, none⟩) 1 1) = V0 at *
    generalize (World.alloc (World.alloc w2 _) _) = WS at *
    go_loopw [6, 12, 13, 14, 15, 16, 17, 18, 19, 20, 21, 22, 23, 24, 25, 26, 27, 28, 29, 30, 31, 32, 33, 34, 35] (fun _ _ _ _ _ _ _ _ _ _ _ _ _ _ _ _ _ _ _ _ _ _ _ _ _ wr => ∃ g cap ls s lc, VI R t wh n inn w Bp X wr (.slice (some ⟨g, 0, none⟩) (List.length ls + 1) cap) ls s lc) (fun _ _ _ _ _ _ _ _ _ _ _ _ _ _ _ _ _ _ _ _ _ _ _ _ _ wr => mea R t wr)
    case atStart => exact HV.out.at_start
    case round =>
      rename World => WO
      obtain ⟨g, cap, ls, s, lc, hV⟩ := hrel
      have hmea : mea R t WO = lc.length := hV.rd.mea
      have HV1 := hide hV
      have hsm := hV.sm
      have hlp := hV.lp
      have c0 := cell_of (i := 2) hV.bp rfl
      obtain ⟨g1, cap1, hv1, hc1⟩ := hV.gx.last
      obtain ⟨hg1, hcap1⟩ : g = g1 ∧ cap = cap1 := by simpa using hv1
      subst hg1
      subst hcap1
      have HG := hide (goesOn_at (cap := cap) hV.rd hc1 (by omega))
      obtain ⟨bg, hbg⟩ : ∃ b, goesOn s lc = b := ⟨_, rfl⟩
      rw [hbg] at HG
      clear hv1 hc1
      cases bg with
      | false =>
        have hX := hV.stop hbg
        subst hX
        clear hV hbg
        have HE : Hid (∀ W, Below WO.heap.size WO W → RD R t wh n W lc ∧ W.heap[Bp]? = some (.cells (vbox (.slice (some ⟨g, 0, none⟩) (ls.length + 1) cap) ⟨#[]⟩) 112 (0, 0)) ∧ W.heap[w.heap.size]? = some (.cells zero5 112 (0, 0)) ∧ GX (Lie w Bp) 79 112 W (.slice (some ⟨g, 0, none⟩) (ls.length + 1) cap) (ls ++ [s]) ∧ Fr (fun k => k = R ∨ w.heap.size ≤ k) w W) := fun W hW => HV1.out.parts (Fr.below hW) (HV1.out.rd.below hW)
        go_wp2_with (first | (go_at_call 93; refine HG.out.mono ?_; rintro e w4 ⟨rfl, hb4⟩; obtain ⟨rd4, bp4, bq5, gx4, fr4⟩ := HE.out _ hb4; obtain ⟨⟨x0, x1, x2, x3, x4⟩, -⟩ := cells5 bp4; obtain ⟨⟨y0, y1, y2, y3, y4⟩, z0, z1, z2, z3, z4⟩ := cells5 bq5))
        have HFN : Hid (∀ W5, Fr (fun k => k = w.heap.size) w4 W5 → PV (fun b => w.heap.size ≤ b) 79 112 W5 (.agg #[.string ⟨#[]⟩, .slice none 0 0, .slice (some ⟨g, 0, none⟩) (ls.length + 1) cap, .string ⟨#[]⟩, .string ⟨#[]⟩]) ⟨[], .nil, Stps.of (ls ++ [s]), [], []⟩ ∧ RD R t wh n W5 lc ∧ Fr (fun k => k = R) w W5) := fun W5 f => vi_fin (a := []) hR hlp (by omega) rd4 gx4 fr4 (f.mono fun k e => Or.inl e)
        clear x0 x1 x2 x3 x4 y0 y1 y2 y3 y4 z0 z1 z2 z3 z4
        obtain ⟨W5, hW5, r5, fr5q⟩ := box5 (.string ⟨#[]⟩) (.slice none 0 0) (.slice (some ⟨g, 0, none⟩) (ls.length + 1) cap) (.string ⟨#[]⟩) (.string ⟨#[]⟩) bq5
        rw [hW5]
        clear hW5
        obtain ⟨⟨k0, k1, k2, k3, k4⟩, -⟩ := cells5 r5
        obtain ⟨q1, q2, q3⟩ := HFN.out _ fr5q
        refine bodyPost_ret (v := .agg #[.string ⟨#[]⟩, .slice none 0 0, .slice (some ⟨g, 0, none⟩) (ls.length + 1) cap, .string ⟨#[]⟩, .string ⟨#[]⟩]) (by simp [results, Tryz.results177, go_sem, k0, k1, k2, k3, k4]) rfl ⟨_, rfl, q1, q2, q3⟩
      | true =>
        have hgo := hV.go hbg
        have HSL2 : Hid (∀ W, RD R t wh n W lc → Calls Tryz.prog 92 #[ptr R] W (Ends R t wh n VB W (slash (cutB t wh) lc))) := fun W hW => slash_ok hW
        clear hV hbg
        cases hs1 : slash (cutB t wh) lc with
        | error y =>
          have hX := hgo.1 y hs1
          subst hX
          rw [hs1] at HSL2
          clear hs1 hgo
          go_wp2_with (first | (go_at_call 93; refine HG.out.mono ?_; rintro e w4 ⟨rfl, hb4⟩; have rd4 := HV1.out.rd.below hb4) | (go_at_call 92; refine (HSL2.out _ rd4).mono ?_; rintro e w5 ⟨rfl, fr5⟩))
          exact ⟨rfl, rfl, ((HV1.out.fr.on hb4).trans fr5 (fun i hi x => Or.inl x)).restrict (fun k hk x => by omega)⟩
        | ok z =>
          obtain ⟨d1, l3⟩ := z
          obtain ⟨hlt3, hgA, hgB⟩ := hgo.2 d1 l3 hs1
          rw [hs1] at HSL2
          clear hs1 hgo
          have HS5 : Hid (∀ W4 W5, Below WO.heap.size WO W4 → Fr (fun k => k = R) W4 W5 → RD R t wh n W5 l3 → RD R t wh n W5 l3 ∧ W5.heap[Bp]? = some (.cells (vbox (.slice (some ⟨g, 0, none⟩) (ls.length + 1) cap) ⟨#[]⟩) 112 (0, 0)) ∧ W5.heap[w.heap.size]? = some (.cells zero5 112 (0, 0)) ∧ GX (Lie w Bp) 79 112 W5 (.slice (some ⟨g, 0, none⟩) (ls.length + 1) cap) (ls ++ [s]) ∧ Fr (fun k => k = R ∨ w.heap.size ≤ k) w W5) := fun W4 W5 b4 f5 rd => HV1.out.parts ((Fr.below b4).same f5) rd
          have HS6 : Hid (∀ W5 W6, (RD R t wh n W5 l3 ∧ W5.heap[Bp]? = some (.cells (vbox (.slice (some ⟨g, 0, none⟩) (ls.length + 1) cap) ⟨#[]⟩) 112 (0, 0)) ∧ W5.heap[w.heap.size]? = some (.cells zero5 112 (0, 0)) ∧ GX (Lie w Bp) 79 112 W5 (.slice (some ⟨g, 0, none⟩) (ls.length + 1) cap) (ls ++ [s]) ∧ Fr (fun k => k = R ∨ w.heap.size ≤ k) w W5) → Below W5.heap.size W5 W6 → RD R t wh n W6 l3 ∧ W6.heap[Bp]? = some (.cells (vbox (.slice (some ⟨g, 0, none⟩) (ls.length + 1) cap) ⟨#[]⟩) 112 (0, 0)) ∧ W6.heap[w.heap.size]? = some (.cells zero5 112 (0, 0)) ∧ GX (Lie w Bp) 79 112 W6 (.slice (some ⟨g, 0, none⟩) (ls.length + 1) cap) (ls ++ [s]) ∧ Fr (fun k => k = R ∨ w.heap.size ≤ k) w W6) := fun W5 W6 h b => ⟨h.1.below b, (b.block _ (blk_lt h.2.1)).trans h.2.1, (b.block _ (blk_lt h.2.2.1)).trans h.2.2.1, h.2.2.2.1.fr (Fr.below (F := fun _ => False) b) (fun _ x => x.elim), h.2.2.2.2.on b⟩
          have HPT : Hid (∀ W, RD R t wh n W l3 → Calls Tryz.prog 94 #[ptr R] W fun e w' => e = .returned (.string (bs (part l3))) ∧ Below W.heap.size W w') := fun W hW => part_ok hW
          by_cases hat : d1 = false ∧ part l3 = [64]
          · obtain ⟨hA1, hA2⟩ := hgA hat
            have hq : ((bs (part l3)).toList == [64]) = true := by rw [bs_toL, hat.2]; rfl
            have hd1 := hat.1
            subst hd1
            generalize bs (part l3) = S at *
            clear hgA hgB hat
            have HAT : Hid (∀ W, RD R t wh n W l3 → Calls Tryz.prog 176 #[ptr R] W (Ends R t wh n VS W (attr (cutB t wh) l3))) := fun W hW => attr_ok hW
            cases ha : attr (cutB t wh) l3 with
            | error y =>
              have hX := hA1 y ha
              subst hX
              rw [ha] at HAT
              clear ha hA1 hA2
              go_wp2_with (first | (go_at_call 93; refine HG.out.mono ?_; rintro e w4 ⟨rfl, hb4⟩; have rd4 := HV1.out.rd.below hb4) | (go_at_call 92; refine (HSL2.out _ rd4).mono ?_; rintro e w5 ⟨v5, rfl, rfl, rd5, fr5⟩; have hs5 := HS5.out _ _ hb4 fr5 rd5) | (go_at_call 94; refine (HPT.out _ hs5.1).mono ?_; rintro e w5b ⟨rfl, hb5⟩; have hs6 := HS6.out _ _ hs5 hb5) | (go_at_call 176; refine (HAT.out _ hs6.1).mono ?_; rintro e w7 ⟨rfl, fr7⟩))
              exact ⟨rfl, rfl, (hs6.2.2.2.2.trans fr7 (fun i hi x => Or.inl x)).restrict (fun k hk x => by omega)⟩
            | ok z =>
              obtain ⟨a, l4⟩ := z
              have hX := hA2 a l4 ha
              subst hX
              rw [ha] at HAT
              clear ha hA1 hA2
              have HS7 : Hid (∀ W6 W7, (RD R t wh n W6 l3 ∧ W6.heap[Bp]? = some (.cells (vbox (.slice (some ⟨g, 0, none⟩) (ls.length + 1) cap) ⟨#[]⟩) 112 (0, 0)) ∧ W6.heap[w.heap.size]? = some (.cells zero5 112 (0, 0)) ∧ GX (Lie w Bp) 79 112 W6 (.slice (some ⟨g, 0, none⟩) (ls.length + 1) cap) (ls ++ [s]) ∧ Fr (fun k => k = R ∨ w.heap.size ≤ k) w W6) → Fr (fun k => k = R) W6 W7 → RD R t wh n W7 l4 → W7.heap[Bp]? = some (.cells (vbox (.slice (some ⟨g, 0, none⟩) (ls.length + 1) cap) ⟨#[]⟩) 112 (0, 0)) ∧ W7.heap[w.heap.size]? = some (.cells zero5 112 (0, 0)) ∧ (W7.setCell ⟨Bp, 3, none⟩ (.string (bs a))).heap[Bp]? = some (.cells (vbox (.slice (some ⟨g, 0, none⟩) (ls.length + 1) cap) (bs a)) 112 (0, 0)) ∧ (W7.setCell ⟨Bp, 3, none⟩ (.string (bs a))).heap[w.heap.size]? = some (.cells zero5 112 (0, 0)) ∧ ∀ W8, Fr (fun k => k = w.heap.size) (W7.setCell ⟨Bp, 3, none⟩ (.string (bs a))) W8 → PV (fun b => w.heap.size ≤ b) 79 112 W8 (.agg #[.string ⟨#[]⟩, .slice none 0 0, .slice (some ⟨g, 0, none⟩) (ls.length + 1) cap, .string (bs a), .string ⟨#[]⟩]) ⟨[], .nil, Stps.of (ls ++ [s]), a, []⟩ ∧ RD R t wh n W8 l4 ∧ Fr (fun k => k = R) w W8) := fun W6 W7 h6 f7 rd7 => by
                have b7 := (f7.block _ (blk_lt h6.2.1) (by omega)).trans h6.2.1
                have q7 := (f7.block _ (blk_lt h6.2.2.1) (by omega)).trans h6.2.2.1
                have fs : Fr (fun k => k = w.heap.size ∨ k = Bp) W7 (W7.setCell ⟨Bp, 3, none⟩ (.string (bs a))) := (Fr.refl (fun k => k = w.heap.size ∨ k = Bp) W7).set ⟨Bp, 3, none⟩ (.string (bs a)) (fun _ => Or.inr rfl)
                refine ⟨b7, q7, set_of b7 _, (Below.heap_setCell W7 ⟨Bp, 3, none⟩ (.string (bs a)) w.heap.size (show w.heap.size ≠ Bp by omega)).trans q7, fun W8 f8 => ?_⟩
                exact vi_fin hR hlp (by omega) rd7 (h6.2.2.2.1.fr f7 (fun k e x => by unfold Lie at x; omega)) (h6.2.2.2.2.trans f7 (fun _ _ x => Or.inl x)) (fs.same (f8.mono fun k e => Or.inl e))
              go_wp2_with (first | (go_at_call 93; refine HG.out.mono ?_; rintro e w4 ⟨rfl, hb4⟩; have rd4 := HV1.out.rd.below hb4) | (go_at_call 92; refine (HSL2.out _ rd4).mono ?_; rintro e w5 ⟨v5, rfl, rfl, rd5, fr5⟩; have hs5 := HS5.out _ _ hb4 fr5 rd5) | (go_at_call 94; refine (HPT.out _ hs5.1).mono ?_; rintro e w5b ⟨rfl, hb5⟩; have hs6 := HS6.out _ _ hs5 hb5) | (go_at_call 176; refine (HAT.out _ hs6.1).mono ?_; rintro e w7 ⟨v7, rfl, rfl, rd7, fr7⟩; obtain ⟨bp7, bq7, bp8, bq5, hfn⟩ := HS7.out _ _ hs6 fr7 rd7; have HFN := hide hfn; clear hfn; obtain ⟨⟨x0, x1, x2, x3, x4⟩, u0, u1, u2, u3, u4⟩ := cells5 bp7; obtain ⟨⟨a0, a1, a2, a3, a4⟩, -⟩ := cells5 bp8; obtain ⟨⟨y0, y1, y2, y3, y4⟩, z0, z1, z2, z3, z4⟩ := cells5 bq5))
              clear x0 x1 x2 x3 x4 y0 y1 y2 y3 y4 z0 z1 z2 z3 z4 u0 u1 u2 u3 u4 a0 a1 a2 a3 a4
              obtain ⟨W5, hW5, r5, fr5q⟩ := box5 (.string ⟨#[]⟩) (.slice none 0 0) (.slice (some ⟨g, 0, none⟩) (ls.length + 1) cap) (.string (bs a)) (.string ⟨#[]⟩) bq5
              rw [hW5]
              clear hW5
              obtain ⟨⟨k0, k1, k2, k3, k4⟩, -⟩ := cells5 r5
              obtain ⟨q1, q2, q3⟩ := HFN.out _ fr5q
              refine bodyPost_ret (v := .agg #[.string ⟨#[]⟩, .slice none 0 0, .slice (some ⟨g, 0, none⟩) (ls.length + 1) cap, .string (bs a), .string ⟨#[]⟩]) (by simp [results, Tryz.results177, go_sem, k0, k1, k2, k3, k4]) rfl ⟨_, rfl, q1, q2, q3⟩
          · obtain ⟨hgo2, hgo3⟩ := hgB hat
            clear hgA hgB
            cases d1 with
            | true =>
              clear hat HPT
              cases hs2 : step (cutB t wh) inn true l3 with
              | error y =>
                have hX := hgo2 y hs2
                subst hX
                clear hgo2 hgo3
                go_wp2_with (first | (go_at_call 93; refine HG.out.mono ?_; rintro e w4 ⟨rfl, hb4⟩; have rd4 := HV1.out.rd.below hb4) | (go_at_call 92; refine (HSL2.out _ rd4).mono ?_; rintro e w5 ⟨v5, rfl, rfl, rd5, fr5⟩; have hs5 := HS5.out _ _ hb4 fr5 rd5))
                obtain ⟨rd5', bp5, bq5, gx5, fr5'⟩ := hs5
                have HB2 : Hid (∀ W, Fr (fun _ => False) w5 W → W.cell? ⟨Bp, 2, none⟩ = some (.slice (some ⟨g, 0, none⟩) (ls.length + 1) cap)) := fun W hW => cell_of ((hW.block Bp (blk_lt bp5) (fun x => x)).trans bp5) rfl
                have HST2 : Hid (∀ W, Fr (fun _ => False) w5 W → Calls Tryz.prog 91 #[ptr R, .bool true] W (Ends R t wh n (SV (fun b => W.heap.size ≤ b) 79 112) W (.error y))) := fun W hW => by rw [← hs2]; exact step_ok true HI.out (rd5'.fr hW (fun x => x))
                have HFE : Hid (∀ W W', Fr (fun _ => False) w5 W → Fr (fun k => k = R) W W' → Fr (fun k => k = R) w W') := fun W W' f1 f2 => ((fr5'.trans f1 (fun _ _ x => x.elim)).trans f2 (fun _ _ x => Or.inl x)).restrict (fun k hk x => by omega)
                clear hs2 rd5' bp5 bq5 gx5 fr5'
                generalize w5 = W5 at *
                have hfr0 : Fr (fun _ => False) W5 W5.drew := (Fr.refl _ W5).drewN 1
                refine wp_region_held_drew (S := fun _ => True) (by kernel_rfl) trivial (fun hHeld => ?_)
                generalize W5.drew = W5d at *
                have fr := hfr0
                clear hfr0
                refine wpAnyH_take (i := 0) (v := ?_) rfl (by kernel_rfl) (by kernel_rfl) (by kernel_rfl) (fun _ _ _ h => h) (Or.inl ⟨by rfl, ?_⟩) (by assumption) ?_
                rotate_left
                · (intro w hSw; (try dsimp only at hSw); go_simp; (try with_reducible rfl))
                (try simp only [Act.put, List.setIfInBounds_toArray, List.set_cons_zero, List.set_cons_succ])
                refine wpAnyH_take (i := 2) (v := ?_) rfl (by kernel_rfl) (by kernel_rfl) (by kernel_rfl) (fun _ _ _ h => h) (Or.inl ⟨by rfl, ?_⟩) (by assumption) ?_
                rotate_left
                · (intro w hSw; (try dsimp only at hSw); go_simp; (try with_reducible rfl))
                (try simp only [Act.put, List.setIfInBounds_toArray, List.set_cons_zero, List.set_cons_succ])
                refine wpAnyH_take (i := 3) (v := ?_) rfl (by kernel_rfl) (by kernel_rfl) (by kernel_rfl) (fun _ _ _ h => h) (Or.inl ⟨by rfl, ?_⟩) (by assumption) ?_
                rotate_left
                · (intro w hSw; (try dsimp only at hSw); go_simp; (try with_reducible rfl))
                (try simp only [Act.put, List.setIfInBounds_toArray, List.set_cons_zero, List.set_cons_succ])
                refine wpAnyH_ready (rs := [1, 4]) (by kernel_rfl) (by simp) ?_
                refine AllReadyH.cons rfl (fun K hK => ?_) (AllReadyH.cons rfl (fun K hK => ?_) AllReadyH.nil)
                have c2x := HB2.out _ fr
                go_simp
                refine hK.out _ _ trivial (fun hHeld => ?_)
                clear hK K c2x
                (try simp only [Act.put, List.setIfInBounds_toArray, List.set_cons_zero, List.set_cons_succ])
                refine wpAnyH_ready (rs := [4]) (by kernel_rfl) (by simp) ?_
                refine AllReadyH.cons rfl (fun K hK => ?_) AllReadyH.nil
                have hcc := HST2.out _ fr
                go_simp
                refine hcc.mono ?_
                rintro e w6 ⟨rfl, fr6⟩
                exact ⟨rfl, rfl, HFE.out _ _ fr fr6⟩
                have hcc := HST2.out _ fr
                go_simp
                refine hcc.mono ?_
                rintro e w6 ⟨rfl, fr6⟩
                exact ⟨rfl, rfl, HFE.out _ _ fr fr6⟩
              | ok z =>
                obtain ⟨s', l4⟩ := z
                have hsf := step_suf HI.out.suf true l3 s' l4 hs2
                have hl4 := hsf.length_le
                have HNX := hide (hgo3 s' l4 hs2 hsf)
                clear hgo2 hgo3
                go_wp2_with (first | (go_at_call 93; refine HG.out.mono ?_; rintro e w4 ⟨rfl, hb4⟩; have rd4 := HV1.out.rd.below hb4) | (go_at_call 92; refine (HSL2.out _ rd4).mono ?_; rintro e w5 ⟨v5, rfl, rfl, rd5, fr5⟩; have hs5 := HS5.out _ _ hb4 fr5 rd5))
                obtain ⟨rd5', bp5, bq5, gx5, fr5'⟩ := hs5
                have HB2 : Hid (∀ W, Fr (fun k => k = R) w5 W → W.cell? ⟨Bp, 2, none⟩ = some (.slice (some ⟨g, 0, none⟩) (ls.length + 1) cap)) := fun W hW => cell_of ((hW.block Bp (blk_lt bp5) (by omega)).trans bp5) rfl
                have HST2 : Hid (∀ W, Fr (fun _ => False) w5 W → Calls Tryz.prog 91 #[ptr R, .bool true] W (Ends R t wh n (SV (fun b => W.heap.size ≤ b) 79 112) W (.ok (s', l4)))) := fun W hW => by rw [← hs2]; exact step_ok true HI.out (rd5'.fr hW (fun x => x))
                have HPREP : Hid (∀ W1 W3 v, Fr (fun _ => False) w5 W1 → Fr (fun k => k = R) W1 W3 → RD R t wh n W3 l4 → SV (fun b => W1.heap.size ≤ b) 79 112 W3 v s' → ∃ te vi vn vc, v = .agg #[.bool s'.deep, .string te, .slice vi vn vc] ∧ Hid (∃ xs, (W3.alloc (.cells #[.bool s'.deep, .string te, .slice vi vn vc] 79)).ownsRow 0 79 3 (.slice (some ⟨g, 0, none⟩) (ls.length + 1) cap) (ls.length + 1) (sCells xs) ∧ ∀ v' W4, W4.ownsRow 0 79 3 v' (ls.length + 1 + 1) (sCells xs ++ [.bool s'.deep, .string te, .slice vi vn vc]) → (W3.alloc (.cells #[.bool s'.deep, .string te, .slice vi vn vc] 79)).grownBy W4 (Value.slice (some ⟨g, 0, none⟩) (ls.length + 1) cap).ownBlock → (v'.ownBlock = (Value.slice (some ⟨g, 0, none⟩) (ls.length + 1) cap).ownBlock ∨ v'.ownBlock = some (W3.heap.size + 1)) → W4.heap[Bp]? = some (.cells #[.string ⟨#[]⟩, .slice none 0 0, .slice (some ⟨g, 0, none⟩) (ls.length + 1) cap, .string ⟨#[]⟩, .string ⟨#[]⟩] 112 (0, 0)) ∧ VI R t wh n inn w Bp X (W4.setCell ⟨Bp, 2, none⟩ v') v' (ls ++ [s]) s' l4)) := fun W1 W3 v f1 f3 rd sv => by
                  obtain ⟨vp, rfl, sp⟩ := sv
                  obtain ⟨vi, vc, rfl⟩ := sl.shape sp
                  refine ⟨_, vi, _, vc, rfl, ?_⟩
                  exact vi_next HV1.out hR f1 f3 rd sp bp5 bq5 gx5 fr5' HNX.out (by omega)
                clear hs2 rd5' bp5 bq5 gx5 fr5'
                generalize w5 = W5 at *
                have hfr0 : Fr (fun _ => False) W5 W5.drew := (Fr.refl _ W5).drewN 1
                refine wp_region_held_drew (S := fun _ => True) (by kernel_rfl) trivial (fun hHeld => ?_)
                generalize W5.drew = W5d at *
                have fr := hfr0
                clear hfr0
                refine wpAnyH_take (i := 0) (v := ?_) rfl (by kernel_rfl) (by kernel_rfl) (by kernel_rfl) (fun _ _ _ h => h) (Or.inl ⟨by rfl, ?_⟩) (by assumption) ?_
                rotate_left
                · (intro w hSw; (try dsimp only at hSw); go_simp; (try with_reducible rfl))
                (try simp only [Act.put, List.setIfInBounds_toArray, List.set_cons_zero, List.set_cons_succ])
                refine wpAnyH_take (i := 2) (v := ?_) rfl (by kernel_rfl) (by kernel_rfl) (by kernel_rfl) (fun _ _ _ h => h) (Or.inl ⟨by rfl, ?_⟩) (by assumption) ?_
                rotate_left
                · (intro w hSw; (try dsimp only at hSw); go_simp; (try with_reducible rfl))
                (try simp only [Act.put, List.setIfInBounds_toArray, List.set_cons_zero, List.set_cons_succ])
                refine wpAnyH_take (i := 3) (v := ?_) rfl (by kernel_rfl) (by kernel_rfl) (by kernel_rfl) (fun _ _ _ h => h) (Or.inl ⟨by rfl, ?_⟩) (by assumption) ?_
                rotate_left
                · (intro w hSw; (try dsimp only at hSw); go_simp; (try with_reducible rfl))
                (try simp only [Act.put, List.setIfInBounds_toArray, List.set_cons_zero, List.set_cons_succ])
                refine wpAnyH_ready (rs := [1, 4]) (by kernel_rfl) (by simp) ?_
                refine AllReadyH.cons rfl (fun K hK => ?_) (AllReadyH.cons rfl (fun K hK => ?_) AllReadyH.nil)
                have c2x := HB2.out _ (by first | exact fr | exact fr.mono fun _ x => x.elim)
                go_simp
                refine hK.out _ _ trivial (fun hHeld => ?_)
                clear hK K c2x
                (try simp only [Act.put, List.setIfInBounds_toArray, List.set_cons_zero, List.set_cons_succ])
                refine wpAnyH_ready (rs := [4]) (by kernel_rfl) (by simp) ?_
                refine AllReadyH.cons rfl (fun K hK => ?_) AllReadyH.nil
                have hcc := HST2.out _ fr
                go_simp
                refine hcc.mono ?_
                clear hcc
                rintro e w6 ⟨v6, rfl, sv6, rd6, fr6⟩
                obtain ⟨te6, vi6, vn6, vc6, rfl, HN6⟩ := HPREP.out _ _ _ fr fr6 rd6 sv6
                clear sv6
                have fr : Fr (fun k => k = R) W5 w6 := (fr.mono (fun _ x => x.elim)).same fr6
                refine hK.out _ _ trivial (fun hHeld => ?_)
                clear hK K
                (try simp only [Act.put, List.setIfInBounds_toArray, List.set_cons_zero, List.set_cons_succ])
                refine wpAnyH_ready (rs := [5]) (by kernel_rfl) (by simp) ?_
                refine AllReadyH.cons rfl (fun K hK => ?_) AllReadyH.nil
                go_simp
                refine hK.out _ _ trivial (fun hHeld => ?_)
                clear hK K
                (try simp only [Act.put, List.setIfInBounds_toArray, List.set_cons_zero, List.set_cons_succ])
                have fr := fr.alloc (.cells #[.bool s'.deep, .string te6, .slice vi6 vn6 vc6] 79)
                rotate_left 1
                have hcc := HST2.out _ fr
                go_simp
                refine hcc.mono ?_
                clear hcc
                rintro e w6 ⟨v6, rfl, sv6, rd6, fr6⟩
                obtain ⟨te6, vi6, vn6, vc6, rfl, HN6⟩ := HPREP.out _ _ _ fr fr6 rd6 sv6
                clear sv6
                have fr : Fr (fun k => k = R) W5 w6 := (fr.mono (fun _ x => x.elim)).same fr6
                refine hK.out _ _ trivial (fun hHeld => ?_)
                clear hK K
                (try simp only [Act.put, List.setIfInBounds_toArray, List.set_cons_zero, List.set_cons_succ])
                refine wpAnyH_ready (rs := [1, 5]) (by kernel_rfl) (by simp) ?_
                refine AllReadyH.cons rfl (fun K hK => ?_) (AllReadyH.cons rfl (fun K hK => ?_) AllReadyH.nil)
                have c2x := HB2.out _ (by first | exact fr | exact fr.mono fun _ x => x.elim)
                go_simp
                refine hK.out _ _ trivial (fun hHeld => ?_)
                clear hK K c2x
                (try simp only [Act.put, List.setIfInBounds_toArray, List.set_cons_zero, List.set_cons_succ])
                refine wpAnyH_ready (rs := [5]) (by kernel_rfl) (by simp) ?_
                refine AllReadyH.cons rfl (fun K hK => ?_) AllReadyH.nil
                go_simp
                refine hK.out _ _ trivial (fun hHeld => ?_)
                clear hK K
                (try simp only [Act.put, List.setIfInBounds_toArray, List.set_cons_zero, List.set_cons_succ])
                have fr := fr.alloc (.cells #[.bool s'.deep, .string te6, .slice vi6 vn6 vc6] 79)
                rotate_left 1
                go_simp
                refine hK.out _ _ trivial (fun hHeld => ?_)
                clear hK K
                (try simp only [Act.put, List.setIfInBounds_toArray, List.set_cons_zero, List.set_cons_succ])
                have fr := fr.alloc (.cells #[.bool s'.deep, .string te6, .slice vi6 vn6 vc6] 79)
                refine wpAnyH_ready (rs := [1]) (by kernel_rfl) (by simp) ?_
                refine AllReadyH.cons rfl (fun K hK => ?_) AllReadyH.nil
                have c2x := HB2.out _ (by first | exact fr | exact fr.mono fun _ x => x.elim)
                go_simp
                refine hK.out _ _ trivial (fun hHeld => ?_)
                clear hK K c2x
                (try simp only [Act.put, List.setIfInBounds_toArray, List.set_cons_zero, List.set_cons_succ])
                rotate_left 1
                all_goals
                  obtain ⟨xs, hx1, HX2⟩ := HN6.out
                  have HX2 := hide HX2
                  refine wpAnyH_ready (rs := [6]) (by kernel_rfl) (by simp) ?_
                  refine AllReadyH.cons rfl (fun K hK => ?_) AllReadyH.nil
                  refine step_own_at rfl (.tmp 29) (.tmp 33) 52 rfl 79 i0 _ 3 48 Tryz.underlying52 hi hz0 hz1 hz2 rfl (by decide) (.slice (some ⟨g, 0, none⟩) (ls.length + 1) cap) (ls.length + 1) (sCells xs) (by simp [Act.eval]) hx1 ⟨w6.heap.size, 0, none⟩ 1 1 [.bool s'.deep, .string te6, .slice vi6 vn6 vc6] (by simp [Act.eval]) rfl (news_of _ _ _) (three_one _ _ _ _ _) (by unfold maxLen; omega) (by omega) ?_
                  intro v' w7 ho hg hat
                  obtain ⟨g', cap', rfl⟩ := own_some ho
                  obtain ⟨b7, hVI⟩ := HX2.out _ w7 ho hg (by simpa using hat)
                  have HVI := hide hVI
                  have c7 := cell_of (i := 2) b7 rfl
                  have f7 := free_of (i := 2) b7
                  clear hVI ho hg hat
                  refine hK.out _ _ trivial (fun hHeld => ?_)
                  clear hK K
                  (try simp only [Act.put, List.setIfInBounds_toArray, List.set_cons_zero, List.set_cons_succ])
                  refine wpAnyH_take (i := 7) (v := ?_) rfl (by kernel_rfl) (by kernel_rfl) (by kernel_rfl) (fun _ _ _ h => h) (Or.inl ⟨by rfl, ?_⟩) (by assumption) ?_
                  rotate_left
                  · (intro w hSw; (try dsimp only at hSw); go_simp; (try with_reducible rfl))
                  (try simp only [Act.put, List.setIfInBounds_toArray, List.set_cons_zero, List.set_cons_succ])
                  refine wpAnyH_ready (rs := [8]) (by kernel_rfl) (by simp) ?_
                  refine AllReadyH.cons rfl (fun K hK => ?_) AllReadyH.nil
                  go_simp
                  refine hK.out _ _ trivial (fun hHeld => ?_)
                  clear hK K
                  refine wpAnyH_done (by kernel_rfl) ?_ _
                  have hV := HVI.out
                  simp only [Exit.then, Exit.inBlock]
                  have hm : mea R t (w7.setCell ⟨Bp, 2, none⟩ (.slice (some ⟨g', 0, none⟩) (ls.length + 1 + 1) cap')) < mea R t WO := by rw [hV.rd.mea, hmea]; omega
                  have hE : ∃ g2 cap2 ls2 s2 lc2, VI R t wh n inn w Bp X (w7.setCell ⟨Bp, 2, none⟩ (.slice (some ⟨g', 0, none⟩) (ls.length + 1 + 1) cap')) (.slice (some ⟨g2, 0, none⟩) (List.length ls2 + 1) cap2) ls2 s2 lc2 := ⟨g', cap', ls ++ [s], s', l4, by simpa using hV⟩
                  exact ⟨⟨_, _, _, _, _, _, _, _, _, _, _, _, _, _, _, _, _, _, _, _, _, _, _, _, _, hE, rfl⟩, hm⟩
            | false =>
              have hq : ((bs (part l3)).toList == [64]) = false := by rw [bs_toL]; simpa using hat
              generalize bs (part l3) = S at *
              clear hat
              cases hs2 : step (cutB t wh) inn false l3 with
              | error y =>
                have hX := hgo2 y hs2
                subst hX
                clear hgo2 hgo3
                go_wp2_with (first | (go_at_call 93; refine HG.out.mono ?_; rintro e w4 ⟨rfl, hb4⟩; have rd4 := HV1.out.rd.below hb4) | (go_at_call 92; refine (HSL2.out _ rd4).mono ?_; rintro e w5 ⟨v5, rfl, rfl, rd5, fr5⟩; have hs5 := HS5.out _ _ hb4 fr5 rd5) | (go_at_call 94; refine (HPT.out _ hs5.1).mono ?_; rintro e w5b ⟨rfl, hb5⟩; have hs6 := HS6.out _ _ hs5 hb5))
                obtain ⟨rd5', bp5, bq5, gx5, fr5'⟩ := hs6
                have HB2 : Hid (∀ W, Fr (fun _ => False) w5b W → W.cell? ⟨Bp, 2, none⟩ = some (.slice (some ⟨g, 0, none⟩) (ls.length + 1) cap)) := fun W hW => cell_of ((hW.block Bp (blk_lt bp5) (fun x => x)).trans bp5) rfl
                have HST2 : Hid (∀ W, Fr (fun _ => False) w5b W → Calls Tryz.prog 91 #[ptr R, .bool false] W (Ends R t wh n (SV (fun b => W.heap.size ≤ b) 79 112) W (.error y))) := fun W hW => by rw [← hs2]; exact step_ok false HI.out (rd5'.fr hW (fun x => x))
                have HFE : Hid (∀ W W', Fr (fun _ => False) w5b W → Fr (fun k => k = R) W W' → Fr (fun k => k = R) w W') := fun W W' f1 f2 => ((fr5'.trans f1 (fun _ _ x => x.elim)).trans f2 (fun _ _ x => Or.inl x)).restrict (fun k hk x => by omega)
                clear hs2 rd5' bp5 bq5 gx5 fr5'
                generalize w5b = W5 at *
                have hfr0 : Fr (fun _ => False) W5 W5.drew := (Fr.refl _ W5).drewN 1
                refine wp_region_held_drew (S := fun _ => True) (by kernel_rfl) trivial (fun hHeld => ?_)
                generalize W5.drew = W5d at *
                have fr := hfr0
                clear hfr0
                refine wpAnyH_take (i := 0) (v := ?_) rfl (by kernel_rfl) (by kernel_rfl) (by kernel_rfl) (fun _ _ _ h => h) (Or.inl ⟨by rfl, ?_⟩) (by assumption) ?_
                rotate_left
                · (intro w hSw; (try dsimp only at hSw); go_simp; (try with_reducible rfl))
                (try simp only [Act.put, List.setIfInBounds_toArray, List.set_cons_zero, List.set_cons_succ])
                refine wpAnyH_take (i := 2) (v := ?_) rfl (by kernel_rfl) (by kernel_rfl) (by kernel_rfl) (fun _ _ _ h => h) (Or.inl ⟨by rfl, ?_⟩) (by assumption) ?_
                rotate_left
                · (intro w hSw; (try dsimp only at hSw); go_simp; (try with_reducible rfl))
                (try simp only [Act.put, List.setIfInBounds_toArray, List.set_cons_zero, List.set_cons_succ])
                refine wpAnyH_take (i := 3) (v := ?_) rfl (by kernel_rfl) (by kernel_rfl) (by kernel_rfl) (fun _ _ _ h => h) (Or.inl ⟨by rfl, ?_⟩) (by assumption) ?_
                rotate_left
                · (intro w hSw; (try dsimp only at hSw); go_simp; (try with_reducible rfl))
                (try simp only [Act.put, List.setIfInBounds_toArray, List.set_cons_zero, List.set_cons_succ])
                refine wpAnyH_ready (rs := [1, 4]) (by kernel_rfl) (by simp) ?_
                refine AllReadyH.cons rfl (fun K hK => ?_) (AllReadyH.cons rfl (fun K hK => ?_) AllReadyH.nil)
                have c2x := HB2.out _ fr
                go_simp
                refine hK.out _ _ trivial (fun hHeld => ?_)
                clear hK K c2x
                (try simp only [Act.put, List.setIfInBounds_toArray, List.set_cons_zero, List.set_cons_succ])
                refine wpAnyH_ready (rs := [4]) (by kernel_rfl) (by simp) ?_
                refine AllReadyH.cons rfl (fun K hK => ?_) AllReadyH.nil
                have hcc := HST2.out _ fr
                go_simp
                refine hcc.mono ?_
                rintro e w6 ⟨rfl, fr6⟩
                exact ⟨rfl, rfl, HFE.out _ _ fr fr6⟩
                have hcc := HST2.out _ fr
                go_simp
                refine hcc.mono ?_
                rintro e w6 ⟨rfl, fr6⟩
                exact ⟨rfl, rfl, HFE.out _ _ fr fr6⟩
              | ok z =>
                obtain ⟨s', l4⟩ := z
                have hsf := step_suf HI.out.suf false l3 s' l4 hs2
                have hl4 := hsf.length_le
                have HNX := hide (hgo3 s' l4 hs2 hsf)
                clear hgo2 hgo3
                go_wp2_with (first | (go_at_call 93; refine HG.out.mono ?_; rintro e w4 ⟨rfl, hb4⟩; have rd4 := HV1.out.rd.below hb4) | (go_at_call 92; refine (HSL2.out _ rd4).mono ?_; rintro e w5 ⟨v5, rfl, rfl, rd5, fr5⟩; have hs5 := HS5.out _ _ hb4 fr5 rd5) | (go_at_call 94; refine (HPT.out _ hs5.1).mono ?_; rintro e w5b ⟨rfl, hb5⟩; have hs6 := HS6.out _ _ hs5 hb5))
                obtain ⟨rd5', bp5, bq5, gx5, fr5'⟩ := hs6
                have HB2 : Hid (∀ W, Fr (fun k => k = R) w5b W → W.cell? ⟨Bp, 2, none⟩ = some (.slice (some ⟨g, 0, none⟩) (ls.length + 1) cap)) := fun W hW => cell_of ((hW.block Bp (blk_lt bp5) (by omega)).trans bp5) rfl
                have HST2 : Hid (∀ W, Fr (fun _ => False) w5b W → Calls Tryz.prog 91 #[ptr R, .bool false] W (Ends R t wh n (SV (fun b => W.heap.size ≤ b) 79 112) W (.ok (s', l4)))) := fun W hW => by rw [← hs2]; exact step_ok false HI.out (rd5'.fr hW (fun x => x))
                have HPREP : Hid (∀ W1 W3 v, Fr (fun _ => False) w5b W1 → Fr (fun k => k = R) W1 W3 → RD R t wh n W3 l4 → SV (fun b => W1.heap.size ≤ b) 79 112 W3 v s' → ∃ te vi vn vc, v = .agg #[.bool s'.deep, .string te, .slice vi vn vc] ∧ Hid (∃ xs, (W3.alloc (.cells #[.bool s'.deep, .string te, .slice vi vn vc] 79)).ownsRow 0 79 3 (.slice (some ⟨g, 0, none⟩) (ls.length + 1) cap) (ls.length + 1) (sCells xs) ∧ ∀ v' W4, W4.ownsRow 0 79 3 v' (ls.length + 1 + 1) (sCells xs ++ [.bool s'.deep, .string te, .slice vi vn vc]) → (W3.alloc (.cells #[.bool s'.deep, .string te, .slice vi vn vc] 79)).grownBy W4 (Value.slice (some ⟨g, 0, none⟩) (ls.length + 1) cap).ownBlock → (v'.ownBlock = (Value.slice (some ⟨g, 0, none⟩) (ls.length + 1) cap).ownBlock ∨ v'.ownBlock = some (W3.heap.size + 1)) → W4.heap[Bp]? = some (.cells #[.string ⟨#[]⟩, .slice none 0 0, .slice (some ⟨g, 0, none⟩) (ls.length + 1) cap, .string ⟨#[]⟩, .string ⟨#[]⟩] 112 (0, 0)) ∧ VI R t wh n inn w Bp X (W4.setCell ⟨Bp, 2, none⟩ v') v' (ls ++ [s]) s' l4)) := fun W1 W3 v f1 f3 rd sv => by
                  obtain ⟨vp, rfl, sp⟩ := sv
                  obtain ⟨vi, vc, rfl⟩ := sl.shape sp
                  refine ⟨_, vi, _, vc, rfl, ?_⟩
                  exact vi_next HV1.out hR f1 f3 rd sp bp5 bq5 gx5 fr5' HNX.out (by omega)
                clear hs2 rd5' bp5 bq5 gx5 fr5'
                generalize w5b = W5 at *
                have hfr0 : Fr (fun _ => False) W5 W5.drew := (Fr.refl _ W5).drewN 1
                refine wp_region_held_drew (S := fun _ => True) (by kernel_rfl) trivial (fun hHeld => ?_)
                generalize W5.drew = W5d at *
                have fr := hfr0
                clear hfr0
                refine wpAnyH_take (i := 0) (v := ?_) rfl (by kernel_rfl) (by kernel_rfl) (by kernel_rfl) (fun _ _ _ h => h) (Or.inl ⟨by rfl, ?_⟩) (by assumption) ?_
                rotate_left
                · (intro w hSw; (try dsimp only at hSw); go_simp; (try with_reducible rfl))
                (try simp only [Act.put, List.setIfInBounds_toArray, List.set_cons_zero, List.set_cons_succ])
                refine wpAnyH_take (i := 2) (v := ?_) rfl (by kernel_rfl) (by kernel_rfl) (by kernel_rfl) (fun _ _ _ h => h) (Or.inl ⟨by rfl, ?_⟩) (by assumption) ?_
                rotate_left
                · (intro w hSw; (try dsimp only at hSw); go_simp; (try with_reducible rfl))
                (try simp only [Act.put, List.setIfInBounds_toArray, List.set_cons_zero, List.set_cons_succ])
                refine wpAnyH_take (i := 3) (v := ?_) rfl (by kernel_rfl) (by kernel_rfl) (by kernel_rfl) (fun _ _ _ h => h) (Or.inl ⟨by rfl, ?_⟩) (by assumption) ?_
                rotate_left
                · (intro w hSw; (try dsimp only at hSw); go_simp; (try with_reducible rfl))
                (try simp only [Act.put, List.setIfInBounds_toArray, List.set_cons_zero, List.set_cons_succ])
                refine wpAnyH_ready (rs := [1, 4]) (by kernel_rfl) (by simp) ?_
                refine AllReadyH.cons rfl (fun K hK => ?_) (AllReadyH.cons rfl (fun K hK => ?_) AllReadyH.nil)
                have c2x := HB2.out _ (by first | exact fr | exact fr.mono fun _ x => x.elim)
                go_simp
                refine hK.out _ _ trivial (fun hHeld => ?_)
                clear hK K c2x
                (try simp only [Act.put, List.setIfInBounds_toArray, List.set_cons_zero, List.set_cons_succ])
                refine wpAnyH_ready (rs := [4]) (by kernel_rfl) (by simp) ?_
                refine AllReadyH.cons rfl (fun K hK => ?_) AllReadyH.nil
                have hcc := HST2.out _ fr
                go_simp
                refine hcc.mono ?_
                clear hcc
                rintro e w6 ⟨v6, rfl, sv6, rd6, fr6⟩
                obtain ⟨te6, vi6, vn6, vc6, rfl, HN6⟩ := HPREP.out _ _ _ fr fr6 rd6 sv6
                clear sv6
                have fr : Fr (fun k => k = R) W5 w6 := (fr.mono (fun _ x => x.elim)).same fr6
                refine hK.out _ _ trivial (fun hHeld => ?_)
                clear hK K
                (try simp only [Act.put, List.setIfInBounds_toArray, List.set_cons_zero, List.set_cons_succ])
                refine wpAnyH_ready (rs := [5]) (by kernel_rfl) (by simp) ?_
                refine AllReadyH.cons rfl (fun K hK => ?_) AllReadyH.nil
                go_simp
                refine hK.out _ _ trivial (fun hHeld => ?_)
                clear hK K
                (try simp only [Act.put, List.setIfInBounds_toArray, List.set_cons_zero, List.set_cons_succ])
                have fr := fr.alloc (.cells #[.bool s'.deep, .string te6, .slice vi6 vn6 vc6] 79)
                rotate_left 1
                have hcc := HST2.out _ fr
                go_simp
                refine hcc.mono ?_
                clear hcc
                rintro e w6 ⟨v6, rfl, sv6, rd6, fr6⟩
                obtain ⟨te6, vi6, vn6, vc6, rfl, HN6⟩ := HPREP.out _ _ _ fr fr6 rd6 sv6
                clear sv6
                have fr : Fr (fun k => k = R) W5 w6 := (fr.mono (fun _ x => x.elim)).same fr6
                refine hK.out _ _ trivial (fun hHeld => ?_)
                clear hK K
                (try simp only [Act.put, List.setIfInBounds_toArray, List.set_cons_zero, List.set_cons_succ])
                refine wpAnyH_ready (rs := [1, 5]) (by kernel_rfl) (by simp) ?_
                refine AllReadyH.cons rfl (fun K hK => ?_) (AllReadyH.cons rfl (fun K hK => ?_) AllReadyH.nil)
                have c2x := HB2.out _ (by first | exact fr | exact fr.mono fun _ x => x.elim)
                go_simp
                refine hK.out _ _ trivial (fun hHeld => ?_)
                clear hK K c2x
                (try simp only [Act.put, List.setIfInBounds_toArray, List.set_cons_zero, List.set_cons_succ])
                refine wpAnyH_ready (rs := [5]) (by kernel_rfl) (by simp) ?_
                refine AllReadyH.cons rfl (fun K hK => ?_) AllReadyH.nil
                go_simp
                refine hK.out _ _ trivial (fun hHeld => ?_)
                clear hK K
                (try simp only [Act.put, List.setIfInBounds_toArray, List.set_cons_zero, List.set_cons_succ])
                have fr := fr.alloc (.cells #[.bool s'.deep, .string te6, .slice vi6 vn6 vc6] 79)
                rotate_left 1
                go_simp
                refine hK.out _ _ trivial (fun hHeld => ?_)
                clear hK K
                (try simp only [Act.put, List.setIfInBounds_toArray, List.set_cons_zero, List.set_cons_succ])
                have fr := fr.alloc (.cells #[.bool s'.deep, .string te6, .slice vi6 vn6 vc6] 79)
                refine wpAnyH_ready (rs := [1]) (by kernel_rfl) (by simp) ?_
                refine AllReadyH.cons rfl (fun K hK => ?_) AllReadyH.nil
                have c2x := HB2.out _ (by first | exact fr | exact fr.mono fun _ x => x.elim)
                go_simp
                refine hK.out _ _ trivial (fun hHeld => ?_)
                clear hK K c2x
                (try simp only [Act.put, List.setIfInBounds_toArray, List.set_cons_zero, List.set_cons_succ])
                rotate_left 1
                all_goals
                  obtain ⟨xs, hx1, HX2⟩ := HN6.out
                  have HX2 := hide HX2
                  refine wpAnyH_ready (rs := [6]) (by kernel_rfl) (by simp) ?_
                  refine AllReadyH.cons rfl (fun K hK => ?_) AllReadyH.nil
                  refine step_own_at rfl (.tmp 29) (.tmp 33) 52 rfl 79 i0 _ 3 48 Tryz.underlying52 hi hz0 hz1 hz2 rfl (by decide) (.slice (some ⟨g, 0, none⟩) (ls.length + 1) cap) (ls.length + 1) (sCells xs) (by simp [Act.eval]) hx1 ⟨w6.heap.size, 0, none⟩ 1 1 [.bool s'.deep, .string te6, .slice vi6 vn6 vc6] (by simp [Act.eval]) rfl (news_of _ _ _) (three_one _ _ _ _ _) (by unfold maxLen; omega) (by omega) ?_
                  intro v' w7 ho hg hat
                  obtain ⟨g', cap', rfl⟩ := own_some ho
                  obtain ⟨b7, hVI⟩ := HX2.out _ w7 ho hg (by simpa using hat)
                  have HVI := hide hVI
                  have c7 := cell_of (i := 2) b7 rfl
                  have f7 := free_of (i := 2) b7
                  clear hVI ho hg hat
                  refine hK.out _ _ trivial (fun hHeld => ?_)
                  clear hK K
                  (try simp only [Act.put, List.setIfInBounds_toArray, List.set_cons_zero, List.set_cons_succ])
                  refine wpAnyH_take (i := 7) (v := ?_) rfl (by kernel_rfl) (by kernel_rfl) (by kernel_rfl) (fun _ _ _ h => h) (Or.inl ⟨by rfl, ?_⟩) (by assumption) ?_
                  rotate_left
                  · (intro w hSw; (try dsimp only at hSw); go_simp; (try with_reducible rfl))
                  (try simp only [Act.put, List.setIfInBounds_toArray, List.set_cons_zero, List.set_cons_succ])
                  refine wpAnyH_ready (rs := [8]) (by kernel_rfl) (by simp) ?_
                  refine AllReadyH.cons rfl (fun K hK => ?_) AllReadyH.nil
                  go_simp
                  refine hK.out _ _ trivial (fun hHeld => ?_)
                  clear hK K
                  refine wpAnyH_done (by kernel_rfl) ?_ _
                  have hV := HVI.out
                  simp only [Exit.then, Exit.inBlock]
                  have hm : mea R t (w7.setCell ⟨Bp, 2, none⟩ (.slice (some ⟨g', 0, none⟩) (ls.length + 1 + 1) cap')) < mea R t WO := by rw [hV.rd.mea, hmea]; omega
                  have hE : ∃ g2 cap2 ls2 s2 lc2, VI R t wh n inn w Bp X (w7.setCell ⟨Bp, 2, none⟩ (.slice (some ⟨g', 0, none⟩) (ls.length + 1 + 1) cap')) (.slice (some ⟨g2, 0, none⟩) (List.length ls2 + 1) cap2) ls2 s2 lc2 := ⟨g', cap', ls ++ [s], s', l4, by simpa using hV⟩
                  exact ⟨⟨_, _, _, _, _, _, _, _, _, _, _, _, _, _, _, _, _, _, _, _, _, _, _, _, _, hE, rfl⟩, hm⟩
end Go.Proofs.YtoahlnmhjinneaaGreatDoor
