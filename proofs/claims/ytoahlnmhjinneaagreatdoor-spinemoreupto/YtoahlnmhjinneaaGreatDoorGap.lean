import Derived.Test.YtoahlnmhjinneaaGreatDoorGao
set_option linter.unusedVariables false
set_option linter.unusedSimpArgs false
set_option linter.unusedSimpArgs false
set_option linter.unusedVariables false
namespace Go.Proofs.YtoahlnmhjinneaaGreatDoor
open Go.RowKit Go.Maps Go.Lib
variable {w w' w1 w2 w5 w6 w7 W0 W1 W2 W3 W4 WO wr W W5 W6 W8 WR : World} {A A' F G : Nat → Prop} {X lo n Bp : Nat} {q l l' word : L} {s s' s3 s5 s7 : RS} {v v' v5 vp : Value} {inner read : RS → Prd × RS} {p : Prd} {ki si : Option Addr} {nk kc ns sn : Nat} {o t : ByteArray}
abbrev cel (o : ByteArray) (ki : Option Addr) (nk kc : Nat) (si : Option Addr) (ns sn : Nat) (a t : ByteArray) : Array Value := #[.string o, .slice ki nk kc, .slice si ns sn, .string a, .string t]
structure OX (X : Nat) (w w6 : World) (Bp : Nat) (p : Prd) (ki : Option Addr) (nk kc : Nat) (si : Option Addr) (ns sn : Nat) (o t : ByteArray) : Prop where
  lt : X < w.heap.size
  lb : w.heap.size < Bp
  bq : w6.heap[w.heap.size]? = some (.cells zero5 97 (0, 0))
  bp : w6.heap[Bp]? = some (.cells (cel o ki nk kc si ns sn (bs p.attr) t) 97 (0, 0))
  sv : slP w6 (fun b => w.heap.size ≤ b ∧ b ≠ w.heap.size ∧ b ≠ Bp) 94 97 (.slice ki nk kc) p.kids ∧ slS w6 (fun b => w.heap.size ≤ b ∧ b ≠ w.heap.size ∧ b ≠ Bp) 94 97 (.slice si ns sn) p.steps
  fr : Fr (fun k => k = X) w w6
theorem OX.start (lt : X < w.heap.size) (f3 : Fr (fun k => k = X) (w.alloc (.cells zero5 97)) W3) (f5 : Fr (fun k => k = X) W3 w5) (sv : slP w5 (fun b => W3.heap.size ≤ b) 94 97 (.slice ki nk kc) p.kids ∧ slS w5 (fun b => W3.heap.size ≤ b) 94 97 (.slice si ns sn) p.steps) (o t : ByteArray) : OX X w (w5.alloc (.cells (cel o ki nk kc si ns sn (bs p.attr) t) 97)) w5.heap.size p ki nk kc si ns sn o t := by
  have f0 : Fr (fun _ => False) w (w.alloc (.cells zero5 97)) := (Fr.refl _ w).alloc _
  have hz := f3.size
  have hz5 := f5.size
  rw [show (w.alloc (.cells zero5 97)).heap.size = w.heap.size + 1 by simp] at hz
  have f35 := f3.same f5
  have bq5 : w5.heap[w.heap.size]? = some (.cells zero5 97 (0, 0)) := by rw [f35.block _ (by simp) (by omega)]; exact Below_new _ _
  have fA : Fr (fun _ => False) w5 (w5.alloc (.cells (cel o ki nk kc si ns sn (bs p.attr) t) 97)) := (Fr.refl _ w5).alloc _
  have hm : Move (fun b => W3.heap.size ≤ b) (fun b => w.heap.size ≤ b ∧ b ≠ w.heap.size ∧ b ≠ w5.heap.size) w5 (w5.alloc (.cells (cel o ki nk kc si ns sn (bs p.attr) t) 97)) := fun b hb hl => ⟨⟨by omega, by omega, by omega⟩, Below.heap_alloc _ _ _ hl⟩
  refine ⟨lt, by omega, (fA.block _ (blk_lt bq5) (fun x => x)).trans bq5, Below_new _ _, ⟨sv.1.move hm, sv.2.move hm⟩, ?_⟩
  exact ((f0.mono fun _ x => x.elim).same f35).same (fA.mono fun _ x => x.elim)
theorem OX.on (h : OX X w w6 Bp p ki nk kc si ns sn o t) (f : Fr (fun k => k = X) w6 w7) : OX X w w7 Bp p ki nk kc si ns sn o t := by
  have hlt := h.lt
  have hlb := h.lb
  have hm : Move (fun b => w.heap.size ≤ b ∧ b ≠ w.heap.size ∧ b ≠ Bp) (fun b => w.heap.size ≤ b ∧ b ≠ w.heap.size ∧ b ≠ Bp) w6 w7 := fun b hb hl => ⟨hb, f.block b hl (by omega)⟩
  exact ⟨h.lt, h.lb, (f.block _ (blk_lt h.bq) (by omega)).trans h.bq, (f.block _ (blk_lt h.bp) (by omega)).trans h.bp, ⟨h.sv.1.move hm, h.sv.2.move hm⟩, h.fr.same f⟩
theorem OX.put (h : OX X w w6 Bp p ki nk kc si ns sn o t) (f : Fr (fun k => k = Bp) w6 w7) {o' t' : ByteArray} (hb : w7.heap[Bp]? = some (.cells (cel o' ki nk kc si ns sn (bs p.attr) t') 97 (0, 0))) : OX X w w7 Bp p ki nk kc si ns sn o' t' := by
  have hlt := h.lt
  have hlb := h.lb
  have hm : Move (fun b => w.heap.size ≤ b ∧ b ≠ w.heap.size ∧ b ≠ Bp) (fun b => w.heap.size ≤ b ∧ b ≠ w.heap.size ∧ b ≠ Bp) w6 w7 := fun b hb hl => ⟨hb, f.block b hl (by omega)⟩
  exact ⟨h.lt, h.lb, (f.block _ (blk_lt h.bq) (by omega)).trans h.bq, hb, ⟨h.sv.1.move hm, h.sv.2.move hm⟩, h.fr.trans f (fun i hi x => by omega)⟩
theorem OX.setO (h : OX X w w6 Bp p ki nk kc si ns sn o t) (o' : ByteArray) : ∃ W, w6.setCell ⟨Bp, 0, none⟩ (.string o') = W ∧ OX X w W Bp p ki nk kc si ns sn o' t ∧ ∀ q s, XR X q w6 s → XR X q W s := by
  have f := fr_set w6 Bp 0 (.string o')
  have hlt := h.lt
  have hlb := h.lb
  exact ⟨_, rfl, h.put f (set_of h.bp _), fun q s x => x.fr f (by omega)⟩
theorem OX.setT (h : OX X w w6 Bp p ki nk kc si ns sn o t) (t' : ByteArray) : ∃ W, w6.setCell ⟨Bp, 4, none⟩ (.string t') = W ∧ OX X w W Bp p ki nk kc si ns sn o t' ∧ ∀ q s, XR X q w6 s → XR X q W s := by
  have f := fr_set w6 Bp 4 (.string t')
  have hlt := h.lt
  have hlb := h.lb
  exact ⟨_, rfl, h.put f (set_of h.bp _), fun q s x => x.fr f (by omega)⟩
theorem OX.fin {o' t' : L} (h : OX X w w6 Bp p ki nk kc si ns sn (bs o') (bs t')) (x6 : XR X q w6 s) (f : Fr (fun k => k = w.heap.size) w6 w7) : PV (fun b => w.heap.size ≤ b) 94 97 w7 (.agg (cel (bs o') ki nk kc si ns sn (bs p.attr) (bs t'))) ⟨o', p.kids, p.steps, p.attr, t'⟩ ∧ XR X q w7 s ∧ Fr (fun k => k = X) w w7 := by
  have hlt := h.lt
  have hlb := h.lb
  have hm : Move (fun b => w.heap.size ≤ b ∧ b ≠ w.heap.size ∧ b ≠ Bp) (fun b => w.heap.size ≤ b) w6 w7 := fun b hb hl => ⟨hb.1, f.block b hl (by omega)⟩
  exact ⟨⟨_, _, rfl, h.sv.1.move hm, h.sv.2.move hm⟩, x6.fr f (by omega), h.fr.trans f (fun i hi x => by omega)⟩
theorem OX.neg {o' t' : L} (h : OX X w w6 Bp p ki nk kc si ns sn (bs o') (bs t')) (x6 : XR X q w6 s) : (w6.alloc (.cells (cel (bs o') ki nk kc si ns sn (bs p.attr) (bs t')) 97)).heap[w.heap.size]? = some (.cells zero5 97 (0, 0)) ∧ ∀ w7, Fr (fun k => k = w.heap.size) (w6.alloc (.cells (cel (bs o') ki nk kc si ns sn (bs p.attr) (bs t')) 97)) w7 → PV (fun b => w.heap.size ≤ b) 94 97 w7 (.agg #[.string ⟨#[110, 111, 116]⟩, .slice (some ⟨w6.heap.size, 0, none⟩) 1 1, .slice none 0 0, .string ⟨#[]⟩, .string ⟨#[]⟩]) ⟨wNot, Prds.of [⟨o', p.kids, p.steps, p.attr, t'⟩], .nil, [], []⟩ ∧ XR X q w7 s ∧ Fr (fun k => k = X) w w7 := by
  have hlt := h.lt
  have hlb := h.lb
  have hb6 := blk_lt h.bp
  have fA : Fr (fun _ => False) w6 (w6.alloc (.cells (cel (bs o') ki nk kc si ns sn (bs p.attr) (bs t')) 97)) := (Fr.refl _ w6).alloc _
  refine ⟨(fA.block _ (blk_lt h.bq) (fun x => x)).trans h.bq, fun w7 f => ?_⟩
  have hm : Move (fun b => w.heap.size ≤ b ∧ b ≠ w.heap.size ∧ b ≠ Bp) (fun b => w.heap.size + 1 ≤ b) w6 w6 := fun b hb hl => ⟨by omega, rfl⟩
  have hg := GY.first (P := fun b => w.heap.size + 1 ≤ b) (tS := 94) (tP := 97) (w := w6) (s := ⟨o', p.kids, p.steps, p.attr, t'⟩) (by omega) ⟨h.sv.1.move hm, h.sv.2.move hm⟩
  have hp := (hg.fr f (fun k e => by omega)).toP (lo := w.heap.size) (fun b hb => by omega)
  refine ⟨⟨_, _, rfl, hp.done (by simp) (fun e => by simp at e), Or.inl ⟨rfl, rfl⟩⟩, (x6.fr fA (fun x => x)).fr f (by omega), (h.fr.trans fA (fun _ _ x => x.elim)).trans f (fun i hi x => by omega)⟩
theorem opn_in (n8 : n ≤ 9) (hn : s.err = 0 → s.nest = n ∧ n ≤ 8) : (s.opn q [40]).err = 0 → (s.opn q [40]).nest = (n + 1 : Nat) ∧ n + 1 ≤ 8 := fun e => by
  cases hb : s.is [40] with
  | true =>
    rw [← opn_bl] at e ⊢
    obtain ⟨a, b, c⟩ := (opn_facts (q := q) hb (by decide)).2.2 e
    obtain ⟨h1, h2⟩ := hn a
    rw [c, h1, wrap_up n h2]
    rw [h1] at b
    exact ⟨by simp, by omega⟩
  | false =>
    have e2 : s.opn q [40] = s.bl.wrong q := by unfold RS.opn; rw [hb]; rfl
    rw [e2] at e
    exact absurd e wrong_err
theorem InRK.go (hi : InRK X q (n + 1) inner) (n8 : n ≤ 9) (hn : s.err = 0 → s.nest = n ∧ n ≤ 8) (hl : n ≤ 8) (hW : XR X q W (s.opn q [40])) : Calls Tryz.prog 126 #[ptr X] W (XV X q (PV (fun b => W.heap.size ≤ b) 94 97) W (inner (s.opn q [40]))) := hi.calls (by omega) W _ hW (opn_in n8 hn)
set_option maxHeartbeats 8000000 in
set_option maxRecDepth 100000 in
theorem oneR1_ok (hi : InRK X q (n + 1) inner) (h : XR X q w s) (n8 : n ≤ 9) (hn : s.err = 0 → s.nest = n ∧ n ≤ 8) (hb : s.called wNot = true) : Calls Tryz.prog 156 #[ptr X] w (XV X q (PV (fun b => w.heap.size ≤ b) 94 97) w (⟨wNot, Prds.of [(inner ((s.bl.name q).opn q [40])).1], .nil, [], []⟩, (inner ((s.bl.name q).opn q [40])).2.shut q [41])) := by
  have hX := h.lt
  have he : s.err = 0 := by
    by_cases he : s.err = 0
    · exact he
    · rw [dead_called he (by decide)] at hb; cases hb
  have h9 := (hn he).2
  have f0 : Fr (fun _ => False) w (w.alloc (.cells zero5 97)) := (Fr.refl _ w).alloc _
  have HC := hide (calledR_ok (p := wNot) (h.fr f0 (fun x => x)))
  rw [hb] at HC
  have HN : Hid (∀ W, XR X q W s.bl → Calls Tryz.prog 123 #[ptr X] W (XS X q W s.bl.peek (s.bl.name q))) := fun W hW => nameRd_ok hW
  have HO : Hid (∀ W, XR X q W (s.bl.name q) → Calls Tryz.prog 125 #[ptr X, .string ⟨#[40]⟩] W (XE X q W ((s.bl.name q).opn q [40]))) := fun W hW => openR_ok (p := [40]) hW (by decide) (by decide)
  have hns := keepsN ((keeps_bl s).trans (keeps_name (q := q) s.bl)) n8 hn
  have HI : Hid (∀ W, XR X q W ((s.bl.name q).opn q [40]) → Calls Tryz.prog 126 #[ptr X] W (XV X q (PV (fun b => W.heap.size ≤ b) 94 97) W (inner ((s.bl.name q).opn q [40])))) := fun W hW => hi.go n8 hns h9 hW
  have HS : Hid (∀ W s, XR X q W s → Calls Tryz.prog 127 #[ptr X, .string ⟨#[41]⟩] W (XE X q W (s.shut q [41]))) := fun W s hW => shutR_ok (p := [41]) hW (by decide) (by decide)
  have HST := hide (fun W3 w5 (p : Prd) ki nk kc si ns sn f3 f5 sv o t => OX.start (W3 := W3) (w5 := w5) (p := p) (ki := ki) (nk := nk) (kc := kc) (si := si) (ns := ns) (sn := sn) hX f3 f5 sv o t)
  clear h hb f0 hns hi hn he h9 n8
  generalize inner ((s.bl.name q).opn q [40]) = Y at *
  obtain ⟨p, s5⟩ := Y
  simp only
  generalize (s.bl.name q).opn q [40] = s4 at *
  generalize s.bl.name q = s3 at *
  generalize s.bl.peek = P3 at *
  generalize s.bl = s2 at *
  go_enter Tryz.func156, Tryz.ntmps156
  go_wp2_with (first | (go_at_call 127; refine (HS.out _ _ HX5.out).mono ?_; rintro e w6 ⟨rfl, hx6, fr6⟩; have hO6 := HO5.out.on fr6; have HO6 := hide hO6; obtain ⟨⟨y0, y1, y2, y3, y4⟩, -⟩ := cells5 hO6.bp; obtain ⟨bq6, hneg⟩ := hO6.neg hx6; have HNE := hide hneg; have HBQ := hide bq6; obtain ⟨⟨x0, x1, x2, x3, x4⟩, z0, z1, z2, z3, z4⟩ := cells5 bq6; clear hO6 bq6 hneg) | (go_at_call 126; refine (HI.out _ hx4).mono ?_; rintro e w5 ⟨v5, rfl, pv5, hx5, fr5⟩; obtain ⟨ki5, nk5, kc5, si5, ns5, sn5, rfl, sv5⟩ := pv5.shape; have hO5 := HST.out _ _ _ _ _ _ _ _ _ ((fr2.same fr3).same fr4) fr5 sv5 (bs p.op) (bs p.text); have HO5 := hide hO5; have HX5 := hide (hx5.fr ((Fr.refl (fun _ => False) w5).alloc (.cells (cel (bs p.op) ki5 nk5 kc5 si5 ns5 sn5 (bs p.attr) (bs p.text)) 97)) (fun x => x)); clear hO5 pv5 sv5) | (go_at_call 125; refine (HO.out _ hx3).mono ?_; rintro e w4 ⟨rfl, hx4, fr4⟩) | (go_at_call 123; refine (HN.out _ hx2).mono ?_; rintro e w3 ⟨rfl, hx3, fr3⟩) | (go_at_call 122; refine HC.out.mono ?_; rintro e w2 ⟨rfl, hx2, fr2⟩))
  obtain ⟨W7, hW7, r7, fr7⟩ := box5 (.string ⟨#[110, 111, 116]⟩) (.slice (some ⟨w6.heap.size, 0, none⟩) 1 1) (.slice none 0 0) (.string ⟨#[]⟩) (.string ⟨#[]⟩) HBQ.out
  rw [hW7]
  clear hW7
  obtain ⟨⟨k0, k1, k2, k3, k4⟩, -⟩ := cells5 r7
  refine bodyPost_ret (v := .agg #[.string ⟨#[110, 111, 116]⟩, .slice (some ⟨w6.heap.size, 0, none⟩) 1 1, .slice none 0 0, .string ⟨#[]⟩, .string ⟨#[]⟩]) (by simp [results, Tryz.results156, go_sem, k0, k1, k2, k3, k4]) rfl ⟨_, rfl, HNE.out _ fr7⟩
set_option maxHeartbeats 8000000 in
set_option maxRecDepth 100000 in
theorem oneR2_ok (hi : InRK X q (n + 1) inner) (h : XR X q w s) (n8 : n ≤ 9) (hn : s.err = 0 → s.nest = n ∧ n ≤ 8) (hb : s.called wNot = false) (hb2 : s.bl.is [40] = true) : Calls Tryz.prog 156 #[ptr X] w (XV X q (PV (fun b => w.heap.size ≤ b) 94 97) w ((inner (s.bl.bl.opn q [40])).1, (inner (s.bl.bl.opn q [40])).2.shut q [41])) := by
  have hX := h.lt
  have he : s.err = 0 := by have := (is_pre hb2).1; rwa [bl_err] at this
  have h9 := (hn he).2
  have f0 : Fr (fun _ => False) w (w.alloc (.cells zero5 97)) := (Fr.refl _ w).alloc _
  have HC := hide (calledR_ok (p := wNot) (h.fr f0 (fun x => x)))
  rw [hb] at HC
  have HIS : Hid (∀ W, XR X q W s.bl → Calls Tryz.prog 76 #[ptr X, .string ⟨#[40]⟩] W (XB X q W true s.bl.bl)) := fun W hW => by have := isR_ok (p := [40]) hW (by decide) (by decide); rw [hb2] at this; exact this
  have HO : Hid (∀ W, XR X q W s.bl.bl → Calls Tryz.prog 125 #[ptr X, .string ⟨#[40]⟩] W (XE X q W (s.bl.bl.opn q [40]))) := fun W hW => openR_ok (p := [40]) hW (by decide) (by decide)
  have hns := keepsN ((keeps_bl s).trans (keeps_bl s.bl)) n8 hn
  have HI : Hid (∀ W, XR X q W (s.bl.bl.opn q [40]) → Calls Tryz.prog 126 #[ptr X] W (XV X q (PV (fun b => W.heap.size ≤ b) 94 97) W (inner (s.bl.bl.opn q [40])))) := fun W hW => hi.go n8 hns h9 hW
  have HS : Hid (∀ W s, XR X q W s → Calls Tryz.prog 127 #[ptr X, .string ⟨#[41]⟩] W (XE X q W (s.shut q [41]))) := fun W s hW => shutR_ok (p := [41]) hW (by decide) (by decide)
  have HST := hide (fun W3 w5 (p : Prd) ki nk kc si ns sn f3 f5 sv o t => OX.start (W3 := W3) (w5 := w5) (p := p) (ki := ki) (nk := nk) (kc := kc) (si := si) (ns := ns) (sn := sn) hX f3 f5 sv o t)
  clear h hb hb2 f0 hns hi hn he h9 n8
  generalize inner (s.bl.bl.opn q [40]) = Y at *
  obtain ⟨p, s5⟩ := Y
  simp only
  generalize s.bl.bl.opn q [40] = s4 at *
  generalize s.bl.bl = s3 at *
  generalize s.bl = s2 at *
  go_enter Tryz.func156, Tryz.ntmps156
  go_wp2_with (first | (go_at_call 127; refine (HS.out _ _ HX5.out).mono ?_; rintro e w6 ⟨rfl, hx6, fr6⟩; have hO6 := HO5.out.on fr6; have HO6 := hide hO6; obtain ⟨⟨y0, y1, y2, y3, y4⟩, -⟩ := cells5 hO6.bp; obtain ⟨⟨x0, x1, x2, x3, x4⟩, z0, z1, z2, z3, z4⟩ := cells5 hO6.bq; clear hO6) | (go_at_call 126; refine (HI.out _ hx4).mono ?_; rintro e w5 ⟨v5, rfl, pv5, hx5, fr5⟩; obtain ⟨ki5, nk5, kc5, si5, ns5, sn5, rfl, sv5⟩ := pv5.shape; have hO5 := HST.out _ _ _ _ _ _ _ _ _ ((fr2.same fr3).same fr4) fr5 sv5 (bs p.op) (bs p.text); have HO5 := hide hO5; have HX5 := hide (hx5.fr ((Fr.refl (fun _ => False) w5).alloc (.cells (cel (bs p.op) ki5 nk5 kc5 si5 ns5 sn5 (bs p.attr) (bs p.text)) 97)) (fun x => x)); clear hO5 pv5 sv5) | (go_at_call 125; refine (HO.out _ hx3).mono ?_; rintro e w4 ⟨rfl, hx4, fr4⟩) | (go_at_call 76; refine (HIS.out _ hx2).mono ?_; rintro e w3 ⟨rfl, hx3, fr3⟩) | (go_at_call 122; refine HC.out.mono ?_; rintro e w2 ⟨rfl, hx2, fr2⟩))
  obtain ⟨W7, hW7, r7, fr7⟩ := box5 (.string (bs p.op)) (.slice ki5 nk5 kc5) (.slice si5 ns5 sn5) (.string (bs p.attr)) (.string (bs p.text)) HO6.out.bq
  rw [hW7]
  clear hW7
  obtain ⟨⟨k0, k1, k2, k3, k4⟩, -⟩ := cells5 r7
  refine bodyPost_ret (v := .agg (cel (bs p.op) ki5 nk5 kc5 si5 ns5 sn5 (bs p.attr) (bs p.text))) (by simp [results, Tryz.results156, go_sem, k0, k1, k2, k3, k4]) rfl ⟨_, rfl, HO6.out.fin hx6 fr7⟩
set_option maxHeartbeats 8000000 in
set_option maxRecDepth 100000 in
theorem oneR3_ok (hi : InRK X q (n + 1) inner) (h : XR X q w s) (n8 : n ≤ 9) (hn : s.err = 0 → s.nest = n ∧ n ≤ 8) (hb : s.called wNot = false) (hb2 : s.bl.is [40] = false) {s5 : RS} (hY : valueR q inner s.bl.bl = (p, s5)) (hb3 : s5.is [33, 61] = false) (hb4 : s5.bl.is [61] = false) : Calls Tryz.prog 156 #[ptr X] w (XV X q (PV (fun b => w.heap.size ≤ b) 94 97) w (⟨wHas, p.kids, p.steps, p.attr, p.text⟩, s5.bl.bl)) := by
  have hX := h.lt
  have f0 : Fr (fun _ => False) w (w.alloc (.cells zero5 97)) := (Fr.refl _ w).alloc _
  have HC := hide (calledR_ok (p := wNot) (h.fr f0 (fun x => x)))
  rw [hb] at HC
  have HIS : Hid (∀ W, XR X q W s.bl → Calls Tryz.prog 76 #[ptr X, .string ⟨#[40]⟩] W (XB X q W false s.bl.bl)) := fun W hW => by have := isR_ok (p := [40]) hW (by decide) (by decide); rw [hb2] at this; exact this
  have hns := keepsN ((keeps_bl s).trans (keeps_bl s.bl)) n8 hn
  have HI : Hid (∀ W, XR X q W s.bl.bl → Calls Tryz.prog 169 #[ptr X] W (XV X q (PV (fun b => W.heap.size ≤ b) 94 97) W (p, s5))) := fun W hW => by rw [← hY]; exact valueR_ok hi hW n8 hns
  have HA : Hid (∀ W, XR X q W s5 → Calls Tryz.prog 54 #[ptr X, .string ⟨#[33, 61]⟩] W (XB X q W false s5.bl)) := fun W hW => by have := hasR_ok (p := [33, 61]) hW (by decide) (by decide); rw [hb3, has_no hb3] at this; exact this
  have HB : Hid (∀ W, XR X q W s5.bl → Calls Tryz.prog 54 #[ptr X, .string ⟨#[61]⟩] W (XB X q W false s5.bl.bl)) := fun W hW => by have := hasR_ok (p := [61]) hW (by decide) (by decide); rw [hb4, has_no hb4] at this; exact this
  have HST := hide (fun W3 w5 (p : Prd) ki nk kc si ns sn f3 f5 sv o t => OX.start (W3 := W3) (w5 := w5) (p := p) (ki := ki) (nk := nk) (kc := kc) (si := si) (ns := ns) (sn := sn) hX f3 f5 sv o t)
  clear h hb hb2 f0 hns hi hn n8 hY hb3 hb4
  generalize s5.bl.bl = s7 at *
  generalize s5.bl = s6 at *
  generalize s.bl.bl = s3 at *
  generalize s.bl = s2 at *
  go_enter Tryz.func156, Tryz.ntmps156
  go_wp2_with (first | (go_at_call 54; refine (HB.out _ hx6).mono ?_; rintro e w7 ⟨rfl, hx7, fr7⟩; have hO := HO5.out.on (fr6.same fr7); obtain ⟨⟨y0, y1, y2, y3, y4⟩, -⟩ := cells5 hO.bp; obtain ⟨⟨x0, x1, x2, x3, x4⟩, z0, z1, z2, z3, z4⟩ := cells5 hO.bq; have HOF := hide hO; clear hO) | (go_at_call 54; refine (HA.out _ HX5.out).mono ?_; rintro e w6 ⟨rfl, hx6, fr6⟩) | (go_at_call 169; refine (HI.out _ hx3).mono ?_; rintro e w5 ⟨v5, rfl, pv5, hx5, fr5⟩; obtain ⟨ki5, nk5, kc5, si5, ns5, sn5, rfl, sv5⟩ := pv5.shape; have hO5 := HST.out _ _ _ _ _ _ _ _ _ (fr2.same fr3) fr5 sv5 (⟨#[104, 97, 115]⟩) (bs p.text); have HO5 := hide hO5; have HX5 := hide (hx5.fr ((Fr.refl (fun _ => False) w5).alloc (.cells (cel (⟨#[104, 97, 115]⟩) ki5 nk5 kc5 si5 ns5 sn5 (bs p.attr) (bs p.text)) 97)) (fun x => x)); clear hO5 pv5 sv5) | (go_at_call 76; refine (HIS.out _ hx2).mono ?_; rintro e w3 ⟨rfl, hx3, fr3⟩) | (go_at_call 122; refine HC.out.mono ?_; rintro e w2 ⟨rfl, hx2, fr2⟩))
  obtain ⟨WZ, hWZ, rZ, frZ⟩ := box5 (.string ⟨#[104, 97, 115]⟩) (.slice ki5 nk5 kc5) (.slice si5 ns5 sn5) (.string (bs p.attr)) (.string (bs p.text)) HOF.out.bq
  rw [hWZ]
  clear hWZ
  obtain ⟨⟨k0, k1, k2, k3, k4⟩, -⟩ := cells5 rZ
  refine bodyPost_ret (v := .agg #[.string ⟨#[104, 97, 115]⟩, .slice ki5 nk5 kc5, .slice si5 ns5 sn5, .string (bs p.attr), .string (bs p.text)]) (by simp [results, Tryz.results156, go_sem, k0, k1, k2, k3, k4]) rfl ⟨_, rfl, OX.fin (o' := wHas) (t' := p.text) HOF.out hx7 frZ⟩
set_option maxHeartbeats 8000000 in
set_option maxRecDepth 100000 in
theorem oneR4_ok (hi : InRK X q (n + 1) inner) (h : XR X q w s) (n8 : n ≤ 9) (hn : s.err = 0 → s.nest = n ∧ n ≤ 8) (hb : s.called wNot = false) (hb2 : s.bl.is [40] = false) {s5 : RS} (hY : valueR q inner s.bl.bl = (p, s5)) (hb3 : s5.is [33, 61] = true) : Calls Tryz.prog 156 #[ptr X] w (XV X q (PV (fun b => w.heap.size ≤ b) 94 97) w (⟨[33, 61], p.kids, p.steps, p.attr, (quotedR q (s5.has [33, 61])).1⟩, (quotedR q (s5.has [33, 61])).2)) := by
  have hX := h.lt
  have f0 : Fr (fun _ => False) w (w.alloc (.cells zero5 97)) := (Fr.refl _ w).alloc _
  have HC := hide (calledR_ok (p := wNot) (h.fr f0 (fun x => x)))
  rw [hb] at HC
  have HIS : Hid (∀ W, XR X q W s.bl → Calls Tryz.prog 76 #[ptr X, .string ⟨#[40]⟩] W (XB X q W false s.bl.bl)) := fun W hW => by have := isR_ok (p := [40]) hW (by decide) (by decide); rw [hb2] at this; exact this
  have hns := keepsN ((keeps_bl s).trans (keeps_bl s.bl)) n8 hn
  have HI : Hid (∀ W, XR X q W s.bl.bl → Calls Tryz.prog 169 #[ptr X] W (XV X q (PV (fun b => W.heap.size ≤ b) 94 97) W (p, s5))) := fun W hW => by rw [← hY]; exact valueR_ok hi hW n8 hns
  have HA : Hid (∀ W, XR X q W s5 → Calls Tryz.prog 54 #[ptr X, .string ⟨#[33, 61]⟩] W (XB X q W true (s5.has [33, 61]))) := fun W hW => by have := hasR_ok (p := [33, 61]) hW (by decide) (by decide); rw [hb3] at this; exact this
  have HQ : Hid (∀ W, XR X q W (s5.has [33, 61]) → Calls Tryz.prog 170 #[ptr X] W (XS X q W (quotedR q (s5.has [33, 61])).1 (quotedR q (s5.has [33, 61])).2)) := fun W hW => quotedR_ok hW
  have HST := hide (fun W3 w5 (p : Prd) ki nk kc si ns sn f3 f5 sv o t => OX.start (W3 := W3) (w5 := w5) (p := p) (ki := ki) (nk := nk) (kc := kc) (si := si) (ns := ns) (sn := sn) hX f3 f5 sv o t)
  clear h hb hb2 f0 hns hi hn n8 hY hb3
  generalize quotedR q (s5.has [33, 61]) = Z at *
  obtain ⟨tx, s8⟩ := Z
  simp only at HQ ⊢
  generalize s5.has [33, 61] = s6 at *
  generalize s.bl.bl = s3 at *
  generalize s.bl = s2 at *
  go_enter Tryz.func156, Tryz.ntmps156
  go_wp2_with (first | (go_at_call 170; refine (HQ.out _ hx7').mono ?_; rintro e w8 ⟨rfl, hx8, fr8⟩; have hO8 := HO7.out.on fr8; obtain ⟨⟨-, -, -, -, j4⟩, -, -, -, -, i4⟩ := cells5 hO8.bp; obtain ⟨W9, hW9, hO, hxg⟩ := hO8.setT (bs tx); have hx9 := hxg _ _ hx8; clear hO8 hxg; obtain ⟨⟨y0, y1, y2, y3, y4⟩, -⟩ := cells5 hO.bp; obtain ⟨⟨x0, x1, x2, x3, x4⟩, z0, z1, z2, z3, z4⟩ := cells5 hO.bq; have HOF := hide hO; clear hO) | (go_at_call 54; refine (HA.out _ HX5.out).mono ?_; rintro e w6 ⟨rfl, hx6, fr6⟩; have hO6 := HO5.out.on fr6; obtain ⟨⟨m0, -, -, -, -⟩, n0, -⟩ := cells5 hO6.bp; obtain ⟨W7, hW7, hO7, hxf⟩ := hO6.setO ⟨#[33, 61]⟩; have hx7' := hxf _ _ hx6; have HO7 := hide hO7; obtain ⟨⟨g0, -, -, -, -⟩, -⟩ := cells5 hO7.bp; clear hO6 hO7 hxf) | (go_at_call 169; refine (HI.out _ hx3).mono ?_; rintro e w5 ⟨v5, rfl, pv5, hx5, fr5⟩; obtain ⟨ki5, nk5, kc5, si5, ns5, sn5, rfl, sv5⟩ := pv5.shape; have hO5 := HST.out _ _ _ _ _ _ _ _ _ (fr2.same fr3) fr5 sv5 (⟨#[104, 97, 115]⟩) (bs p.text); have HO5 := hide hO5; have HX5 := hide (hx5.fr ((Fr.refl (fun _ => False) w5).alloc (.cells (cel (⟨#[104, 97, 115]⟩) ki5 nk5 kc5 si5 ns5 sn5 (bs p.attr) (bs p.text)) 97)) (fun x => x)); clear hO5 pv5 sv5) | (go_at_call 76; refine (HIS.out _ hx2).mono ?_; rintro e w3 ⟨rfl, hx3, fr3⟩) | (go_at_call 122; refine HC.out.mono ?_; rintro e w2 ⟨rfl, hx2, fr2⟩))
  obtain ⟨WZ, hWZ, rZ, frZ⟩ := box5 (.string ⟨#[33, 61]⟩) (.slice ki5 nk5 kc5) (.slice si5 ns5 sn5) (.string (bs p.attr)) (.string (bs tx)) HOF.out.bq
  rw [hWZ]
  clear hWZ
  obtain ⟨⟨k0, k1, k2, k3, k4⟩, -⟩ := cells5 rZ
  refine bodyPost_ret (v := .agg #[.string ⟨#[33, 61]⟩, .slice ki5 nk5 kc5, .slice si5 ns5 sn5, .string (bs p.attr), .string (bs tx)]) (by simp [results, Tryz.results156, go_sem, k0, k1, k2, k3, k4]) rfl ⟨_, rfl, OX.fin (o' := [33, 61]) (t' := tx) HOF.out hx9 frZ⟩
set_option maxHeartbeats 8000000 in
set_option maxRecDepth 100000 in
theorem oneR5_ok (hi : InRK X q (n + 1) inner) (h : XR X q w s) (n8 : n ≤ 9) (hn : s.err = 0 → s.nest = n ∧ n ≤ 8) (hb : s.called wNot = false) (hb2 : s.bl.is [40] = false) {s5 : RS} (hY : valueR q inner s.bl.bl = (p, s5)) (hb3 : s5.is [33, 61] = false) (hb4 : s5.bl.is [61] = true) : Calls Tryz.prog 156 #[ptr X] w (XV X q (PV (fun b => w.heap.size ≤ b) 94 97) w (⟨[61], p.kids, p.steps, p.attr, (quotedR q (s5.bl.has [61])).1⟩, (quotedR q (s5.bl.has [61])).2)) := by
  have hX := h.lt
  have f0 : Fr (fun _ => False) w (w.alloc (.cells zero5 97)) := (Fr.refl _ w).alloc _
  have HC := hide (calledR_ok (p := wNot) (h.fr f0 (fun x => x)))
  rw [hb] at HC
  have HIS : Hid (∀ W, XR X q W s.bl → Calls Tryz.prog 76 #[ptr X, .string ⟨#[40]⟩] W (XB X q W false s.bl.bl)) := fun W hW => by have := isR_ok (p := [40]) hW (by decide) (by decide); rw [hb2] at this; exact this
  have hns := keepsN ((keeps_bl s).trans (keeps_bl s.bl)) n8 hn
  have HI : Hid (∀ W, XR X q W s.bl.bl → Calls Tryz.prog 169 #[ptr X] W (XV X q (PV (fun b => W.heap.size ≤ b) 94 97) W (p, s5))) := fun W hW => by rw [← hY]; exact valueR_ok hi hW n8 hns
  have HA : Hid (∀ W, XR X q W s5 → Calls Tryz.prog 54 #[ptr X, .string ⟨#[33, 61]⟩] W (XB X q W false s5.bl)) := fun W hW => by have := hasR_ok (p := [33, 61]) hW (by decide) (by decide); rw [hb3, has_no hb3] at this; exact this
  have HB : Hid (∀ W, XR X q W s5.bl → Calls Tryz.prog 54 #[ptr X, .string ⟨#[61]⟩] W (XB X q W true (s5.bl.has [61]))) := fun W hW => by have := hasR_ok (p := [61]) hW (by decide) (by decide); rw [hb4] at this; exact this
  have HQ : Hid (∀ W, XR X q W (s5.bl.has [61]) → Calls Tryz.prog 170 #[ptr X] W (XS X q W (quotedR q (s5.bl.has [61])).1 (quotedR q (s5.bl.has [61])).2)) := fun W hW => quotedR_ok hW
  have HST := hide (fun W3 w5 (p : Prd) ki nk kc si ns sn f3 f5 sv o t => OX.start (W3 := W3) (w5 := w5) (p := p) (ki := ki) (nk := nk) (kc := kc) (si := si) (ns := ns) (sn := sn) hX f3 f5 sv o t)
  clear h hb hb2 f0 hns hi hn n8 hY hb3 hb4
  generalize quotedR q (s5.bl.has [61]) = Z at *
  obtain ⟨tx, s8⟩ := Z
  simp only at HQ ⊢
  generalize s5.bl.has [61] = s7 at *
  generalize s5.bl = s6 at *
  generalize s.bl.bl = s3 at *
  generalize s.bl = s2 at *
  go_enter Tryz.func156, Tryz.ntmps156
  go_wp2_with (first | (go_at_call 170; refine (HQ.out _ hx7').mono ?_; rintro e w8 ⟨rfl, hx8, fr8⟩; have hO8 := HO7.out.on fr8; obtain ⟨⟨-, -, -, -, j4⟩, -, -, -, -, i4⟩ := cells5 hO8.bp; obtain ⟨W9, hW9, hO, hxg⟩ := hO8.setT (bs tx); have hx9 := hxg _ _ hx8; clear hO8 hxg; obtain ⟨⟨y0, y1, y2, y3, y4⟩, -⟩ := cells5 hO.bp; obtain ⟨⟨x0, x1, x2, x3, x4⟩, z0, z1, z2, z3, z4⟩ := cells5 hO.bq; have HOF := hide hO; clear hO) | (go_at_call 54; refine (HB.out _ hx6).mono ?_; rintro e w7 ⟨rfl, hx7, fr7⟩; have hO6 := HO5.out.on (fr6.same fr7); obtain ⟨⟨m0, -, -, -, -⟩, n0, -⟩ := cells5 hO6.bp; obtain ⟨W7, hW7, hO7, hxf⟩ := hO6.setO ⟨#[61]⟩; have hx7' := hxf _ _ hx7; have HO7 := hide hO7; obtain ⟨⟨g0, -, -, -, -⟩, -⟩ := cells5 hO7.bp; clear hO6 hO7 hxf) | (go_at_call 54; refine (HA.out _ HX5.out).mono ?_; rintro e w6 ⟨rfl, hx6, fr6⟩) | (go_at_call 169; refine (HI.out _ hx3).mono ?_; rintro e w5 ⟨v5, rfl, pv5, hx5, fr5⟩; obtain ⟨ki5, nk5, kc5, si5, ns5, sn5, rfl, sv5⟩ := pv5.shape; have hO5 := HST.out _ _ _ _ _ _ _ _ _ (fr2.same fr3) fr5 sv5 (⟨#[104, 97, 115]⟩) (bs p.text); have HO5 := hide hO5; have HX5 := hide (hx5.fr ((Fr.refl (fun _ => False) w5).alloc (.cells (cel (⟨#[104, 97, 115]⟩) ki5 nk5 kc5 si5 ns5 sn5 (bs p.attr) (bs p.text)) 97)) (fun x => x)); clear hO5 pv5 sv5) | (go_at_call 76; refine (HIS.out _ hx2).mono ?_; rintro e w3 ⟨rfl, hx3, fr3⟩) | (go_at_call 122; refine HC.out.mono ?_; rintro e w2 ⟨rfl, hx2, fr2⟩))
  obtain ⟨WZ, hWZ, rZ, frZ⟩ := box5 (.string ⟨#[61]⟩) (.slice ki5 nk5 kc5) (.slice si5 ns5 sn5) (.string (bs p.attr)) (.string (bs tx)) HOF.out.bq
  rw [hWZ]
  clear hWZ
  obtain ⟨⟨k0, k1, k2, k3, k4⟩, -⟩ := cells5 rZ
  refine bodyPost_ret (v := .agg #[.string ⟨#[61]⟩, .slice ki5 nk5 kc5, .slice si5 ns5 sn5, .string (bs p.attr), .string (bs tx)]) (by simp [results, Tryz.results156, go_sem, k0, k1, k2, k3, k4]) rfl ⟨_, rfl, OX.fin (o' := [61]) (t' := tx) HOF.out hx9 frZ⟩
theorem oneR_ok (hi : InRK X q (n + 1) inner) (h : XR X q w s) (n8 : n ≤ 9) (hn : s.err = 0 → s.nest = n ∧ n ≤ 8) : Calls Tryz.prog 156 #[ptr X] w (XV X q (PV (fun b => w.heap.size ≤ b) 94 97) w (oneR q inner s)) := by
  unfold oneR
  cases hb : s.called wNot with
  | true => simp only [if_true]; exact oneR1_ok hi h n8 hn hb
  | false =>
    simp only [Bool.false_eq_true, if_false]
    cases hb2 : s.bl.is [40] with
    | true => simp only [if_true]; exact oneR2_ok hi h n8 hn hb hb2
    | false =>
      simp only [Bool.false_eq_true, if_false]
      obtain ⟨p, s5, hY⟩ : ∃ p s5, valueR q inner s.bl.bl = (p, s5) := ⟨_, _, rfl⟩
      rw [hY]
      simp only
      cases hb3 : s5.is [33, 61] with
      | true => simp only [if_true]; exact oneR4_ok hi h n8 hn hb hb2 hY hb3
      | false =>
        simp only [Bool.false_eq_true, if_false]
        cases hb4 : s5.bl.is [61] with
        | true => simp only [if_true]; exact oneR5_ok hi h n8 hn hb hb2 hY hb3 hb4
        | false => simp only [Bool.false_eq_true, if_false]; exact oneR3_ok hi h n8 hn hb hb2 hY hb3 hb4
theorem rd87 (hi : InRK X q (n + 1) inner) (n8 : n ≤ 9) : RdK X q n 156 (oneR q inner) := ⟨fun w s h hn => oneR_ok hi h n8 hn, fun s => keeps_one hi.keeps s⟩
theorem rd77 (hi : InRK X q (n + 1) inner) (n8 : n ≤ 9) : RdK X q n 145 (bothR q inner) := ⟨fun w s h hn => bothR_ok (rd87 hi n8) h n8 hn, fun s => keeps_join (rd87 hi n8).keeps s⟩
theorem cond_in (hi : InRK X q (n + 1) inner) (h : XR X q w s) (n8 : n ≤ 9) (hn : s.err = 0 → s.nest = n ∧ n ≤ 8) : Calls Tryz.prog 126 #[ptr X] w (XV X q (PV (fun b => w.heap.size ≤ b) 94 97) w (condR q inner s)) := condR_ok (rd77 hi n8) h n8 hn
theorem in_at (X : Nat) (q : L) : ∀ (d n : Nat), n + d = 9 → InRK X q n (inRAt q d)
  | 0, n, h => by
    have h10 : InRK X q (n + 1) (inRAt q 0) := ⟨fun h => by omega, fun s => keeps_inAt 0 s⟩
    refine ⟨fun _ w s hx hn => ?_, fun s => keeps_inAt 0 s⟩
    have he : s.err ≠ 0 := fun e => by have := (hn e).2; omega
    have := cond_in h10 hx (by omega) hn
    rw [dead_cond he] at this
    rw [dead_in he]; exact this
  | d + 1, n, h => by
    have ih := in_at X q d (n + 1) (by omega)
    refine ⟨fun _ w s hx hn => ?_, fun s => keeps_inAt _ s⟩
    show Calls _ _ _ _ (XV X q _ w (condRAt q d s))
    rw [condRAt_eq]
    exact cond_in ih hx (by omega) hn
theorem pathR_in (h : XR X q w s) (hn : s.err = 0 → s.nest = 0) : Calls Tryz.prog 53 #[ptr X] w (MR X q w w.heap.size (pathR q (inRAt q 8) s)) := pathR_ok (n := 0) (in_at X q 8 1 rfl) h (by omega) (fun e => ⟨hn e, by omega⟩)
end Go.Proofs.YtoahlnmhjinneaaGreatDoor

set_option linter.unusedSimpArgs false
set_option linter.unusedVariables false
namespace Go.Proofs.YtoahlnmhjinneaaGreatDoor
open Go.RowKit Go.Maps Go.Lib
variable {w w' w1 w2 w5 w6 w7 W0 W1 W2 W3 W4 WO wr W W5 W6 W8 WR : World} {A A' F G : Nat → Prop} {X lo n Bp : Nat} {q l l' word : L} {s s' s3 s5 s7 sc : RS} {v v' v5 vp : Value}
theorem info50 : (Tryz.prog.info? 59).map (fun i => (i.zero, i.size, i.bytes)) = some (some (.slice none 0 0), 1, 24) := by kernel_rfl
structure QX (X : Nat) (q : L) (w : World) (Y : List (List Stp) × RS) (wr : World) (v : Value) (ls : List (List Stp)) (sc : RS) : Prop where
  xr : XR X q wr sc
  gq : GQ w.heap.size 59 94 97 wr v ls
  fr : Fr (fun k => k = X ∨ w.heap.size ≤ k) w wr
  eq : ∃ f, sc.l.length < f ∧ Y = (ls ++ (pathsR q f sc).1, (pathsR q f sc).2)
  sm : ls.length + sc.l.length ≤ 501
  ne : ls ≠ []
  ns : sc.err = 0 → sc.nest = 0
  lt : X < w.heap.size
variable {Y : List (List Stp) × RS} {ls : List (List Stp)} {p : List Stp}
theorem QX.stop (h : QX X q w Y wr v ls sc) (hb : sc.is [124] = false) : Y = (ls, sc.bl) := by
  obtain ⟨f, e1, e2⟩ := h.eq
  cases f with
  | zero => omega
  | succ f => rw [e2, pathsR, if_neg (by rw [hb]; simp)]; simp
theorem nest0 (h : Keeps s s') (hn : s.err = 0 → s.nest = 0) : s'.err = 0 → s'.nest = 0 := fun e => by
  have h1 := hn (h.err e)
  rw [h.nest e (by omega), h1]
theorem QX.go (h : QX X q w Y wr v ls sc) (hb : sc.is [124] = true) {s6 : RS} (hs : pathR q (inRAt q 8) (sc.has [124]) = (p, s6)) : s6.l.length < sc.l.length ∧ (s6.err = 0 → s6.nest = 0) ∧ ∃ f, s6.l.length < f ∧ Y = ((ls ++ [p]) ++ (pathsR q f s6).1, (pathsR q f s6).2) := by
  have hk := keeps_path (q := q) (inner := inRAt q 8) (fun s => keeps_inAt 8 s) (sc.has [124])
  rw [hs] at hk
  have h1 := has_lt hb
  have h2 := hk.suf.length_le
  simp only [List.length_singleton] at h1 h2
  refine ⟨by omega, nest0 ((keeps_has sc [124]).trans hk) h.ns, ?_⟩
  obtain ⟨f, e1, e2⟩ := h.eq
  cases f with
  | zero => omega
  | succ f => exact ⟨f, by omega, by rw [e2, pathsR, if_pos hb, hs]; simp⟩
theorem MR.path {e : Ending} {s6 : RS} (h : MR X q w w.heap.size (p, s6) e w') : ∃ vi vn vc, e = .returned (.slice vi vn vc) ∧ slS w' (fun b => w.heap.size ≤ b) 94 97 (.slice vi vn vc) (Stps.of p) ∧ XR X q w' s6 ∧ Fr (fun k => k = X) w w' := by
  obtain ⟨v', rfl, g, a, b, c, f2, z⟩ := h
  have hs := g.done (by simp only at b ⊢; omega) a
  obtain ⟨vi, vc, rfl⟩ := sl.shape hs
  exact ⟨vi, _, vc, rfl, hs, c, f2.restrict (fun k hk x => by omega)⟩
set_option maxHeartbeats 8000000 in
set_option maxRecDepth 100000 in
theorem queryR_ok (h : XR X q w s) (hn : s.err = 0 → s.nest = 0) : Calls Tryz.prog 33 #[ptr X] w (XV X q (fun w' v ls => QS w' (fun b => w.heap.size ≤ b) 59 94 97 v ls) w (queryR q s)) := by
  have hX := h.lt
  have HP0 := hide (pathR_in h hn)
  unfold queryR
  have hk := keeps_path (q := q) (inner := inRAt q 8) (fun s => keeps_inAt 8 s) s
  have hle := h.le
  have hq5 := h.q5
  obtain ⟨p1, s1, h1⟩ : ∃ p1 s1, pathR q (inRAt q 8) s = (p1, s1) := ⟨_, _, rfl⟩
  rw [h1] at HP0 hk ⊢
  have hn1 := nest0 hk hn
  have hl1 := hk.suf.length_le
  simp only at hn1 hl1 ⊢
  obtain ⟨Y, hY⟩ : ∃ Y, (p1 :: (pathsR q (s1.l.length + 1) s1).1, (pathsR q (s1.l.length + 1) s1).2) = Y := ⟨_, rfl⟩
  rw [hY]
  have HQ0 : Hid (∀ W2 vi vn vc, Fr (fun k => k = X) w W2 → XR X q W2 s1 → slS W2 (fun b => w.heap.size ≤ b) 94 97 (.slice vi vn vc) (Stps.of p1) → QX X q w Y (W2.alloc (.cells #[.slice vi vn vc] 59)) (.slice (some ⟨W2.heap.size, 0, none⟩) 1 1) [p1] s1) := fun W2 vi vn vc f1 xr sv => by
    have fa : Fr (fun _ => False) W2 (W2.alloc (.cells #[.slice vi vn vc] 59)) := (Fr.refl _ W2).alloc _
    exact ⟨xr.fr fa (fun x => x), GQ.first f1.size sv, (f1.mono (fun _ x => Or.inl x)).trans fa (fun _ _ x => x.elim), ⟨s1.l.length + 1, by omega, by rw [← hY]; rfl⟩, by simp; omega, by simp, hn1, hX⟩
  clear h hn h1 hY hk hn1 hl1 hle hq5
  obtain ⟨i0, hi, hz0, hz1, hz2⟩ := info_parts info50
  go_enter Tryz.func33, Tryz.ntmps33
  go_wp2_with (first | (go_at_call 53; refine HP0.out.mono ?_; rintro e w2 hm; obtain ⟨vi, vn, vc, rfl, sv2, hx2, fr2⟩ := hm.path; have hQ := HQ0.out _ _ _ _ fr2 hx2 sv2; have HQ := hide hQ; clear hQ sv2 hx2 fr2 hm))
  generalize (World.alloc w2 _) = WS at *
  generalize (Value.slice (some ⟨w2.heap.size, 0, none⟩) 1 1) = V0 at *
  go_loopw [3, 4, 9, 10, 11, 12, 13, 14, 15, 16] (fun _ u4 _ _ _ _ _ _ _ _ wr => ∃ ls sc, QX X q w Y wr u4 ls sc) (fun _ _ _ _ _ _ _ _ _ _ wr => meaX X q wr)
  case atStart => exact ⟨_, _, HQ.out⟩
  case round =>
    rename World => WO
    obtain ⟨ls, sc, hQ⟩ := hrel
    have hmea : meaX X q WO = sc.l.length := hQ.xr.mea
    have HQ1 := hide hQ
    have HH := hide (hasR_ok (p := [124]) hQ.xr (by decide) (by decide))
    cases hb : sc.is [124] with
    | true =>
      rw [hb] at HH
      obtain ⟨p6, s6, hs6⟩ : ∃ p6 s6, pathR q (inRAt q 8) (sc.has [124]) = (p6, s6) := ⟨_, _, rfl⟩
      have hgo := hQ.go hb hs6
      have hns1 := nest0 (keeps_has sc [124]) hQ.ns
      have HP2 : Hid (∀ W, XR X q W (sc.has [124]) → Calls Tryz.prog 53 #[ptr X] W (MR X q W W.heap.size (p6, s6))) := fun W hW => by rw [← hs6]; exact pathR_in hW hns1
      have HLT := hide hgo.1
      have HPREP : Hid (∀ W1 W2 vi vn vc, Fr (fun k => k = X) WO W1 → Fr (fun k => k = X) W1 W2 → XR X q W2 s6 → slS W2 (fun b => W1.heap.size ≤ b) 94 97 (.slice vi vn vc) (Stps.of p6) → ∃ xs, (W2.alloc (.cells #[.slice vi vn vc] 59)).ownsRow 0 59 1 u4 ls.length xs ∧ ∀ v' W4, W4.ownsRow 0 59 1 v' (ls.length + 1) (xs ++ [.slice vi vn vc]) → (W2.alloc (.cells #[.slice vi vn vc] 59)).grownBy W4 u4.ownBlock → (v'.ownBlock = u4.ownBlock ∨ v'.ownBlock = some (W2.heap.size + 1)) → QX X q w Y W4 v' (ls ++ [p6]) s6) := fun W1 W2 vi vn vc f1 f2 xr sv => by
        have z := HQ1.out
        have hz := z.fr.size
        obtain ⟨xs, x1, x2⟩ := (z.gq.fr f1 (fun k e _ => by omega)).prep f2 hX (Nat.le_trans hz f1.size) sv (.cells #[.slice vi vn vc] 59)
        refine ⟨xs, x1, fun v' W4 ho hg hat => ?_⟩
        obtain ⟨g1, g2, g3⟩ := x2 v' W4 ho hg (by simpa using hat)
        exact ⟨xr.fr g3 (by omega), g1, (z.fr.trans f1 (fun i hi x => Or.inl x)).trans g2 (fun i hi x => by omega), hgo.2.2, by have := z.sm; have := hgo.1; simp; omega, by simp, hgo.2.1, hX⟩
      clear hb hQ hs6 hgo hns1
      generalize sc.has [124] = s5 at *
      go_wp2_with (first | (at_builtin; refine wpList_append_own_at _ rfl (.tmp 13) (.tmp 15) 55 rfl 0 59 i0 _ 1 24 Tryz.underlying55 hi hz0 hz1 hz2 rfl (by decide) u4 ls.length xs rfl hx1 ⟨w6.heap.size, 0, none⟩ 1 1 [.slice vi6 vn6 vc6] rfl rfl (news_of _ _ _) ?c2 ?c3 ?c4 (Nat.zero_le _) ?_) | (go_at_call 53; refine (HP2.out _ hx5).mono ?_; rintro e w6 hm; obtain ⟨vi6, vn6, vc6, rfl, sv6, hx6, fr6⟩ := hm.path; obtain ⟨xs, hx1, hx2⟩ := HPREP.out _ _ _ _ _ fr5 fr6 hx6 sv6; have HX2 := hide hx2; clear hx2 sv6 hm) | (go_at_call 54; refine HH.out.mono ?_; rintro e w5 ⟨rfl, hx5, fr5⟩))
      case c2 => intro u hu; simp only [List.mem_cons, List.not_mem_nil, or_false] at hu; subst hu; rfl
      case c3 => have := HQ1.out.sm; unfold maxLen; omega
      case c4 => have := HQ1.out.sm; omega
      intro v' w7 ho hg _ hat
      have hQ7 := HX2.out v' w7 ho hg (by simpa using hat)
      go_wp2
      exact ⟨⟨_, _, hQ7⟩, by rw [hQ7.xr.mea, hmea]; exact HLT.out⟩
    | false =>
      rw [hb] at HH
      have hY := hQ.stop hb
      rw [has_no hb] at HH
      subst hY
      clear hb hQ
      go_wp2_with (first | (go_at_call 54; refine HH.out.mono ?_; rintro e w5 ⟨rfl, hx5, fr5⟩))
      go_ret
      have z := HQ1.out
      exact ⟨_, rfl, (z.gq.fr fr5 (fun k e _ => by omega)).done (by have := z.sm; omega) z.ne, hx5, (z.fr.trans fr5 (fun i hi x => Or.inl x)).restrict (fun k hk x => by omega)⟩
end Go.Proofs.YtoahlnmhjinneaaGreatDoor

set_option linter.unusedSimpArgs false
set_option linter.unusedVariables false
namespace Go.Proofs.YtoahlnmhjinneaaGreatDoor
open Go.RowKit Go.Maps Go.Lib
variable {w w' w1 w2 w5 w6 w7 W0 W1 W2 W3 W4 WO wr W W5 W6 W8 WR : World} {A A' F G : Nat → Prop} {X lo n Bp : Nat} {q l l' word : L} {s s' s3 s5 s7 sc : RS} {v v' v5 vp : Value}
def PR (w : World) (x : Except (Nat × Nat) (List (List Stp))) (e : Ending) (w' : World) : Prop := Below w.heap.size w w' ∧ match x with
  | .ok ls => ∃ v, e = .returned (.tuple #[v, .int .i64 0, .int .i64 0]) ∧ QS w' (fun b => w.heap.size ≤ b) 59 94 97 v ls
  | .error y => e = .returned (.tuple #[.slice none 0 0, .int .i64 y.1, .int .i64 y.2])
theorem xr_start (q : L) (w : World) (h5 : q.length ≤ 500) : XR w.heap.size q (w.alloc (.cells #[.string (bs q), .int .i64 0, .int .i64 0, .int .i64 0, .int .i64 0] 89)) (RS.start q) := by
  refine ⟨?_, List.suffix_refl _, h5⟩
  have := Below_new w (.cells #[.string (bs q), .int .i64 0, .int .i64 0, .int .i64 0, .int .i64 0] 89)
  simpa [RS.start] using this
theorem start_below (f : Fr (fun k => k = w.heap.size) (w.alloc (.cells #[.string (bs q), .int .i64 0, .int .i64 0, .int .i64 0, .int .i64 0] 89)) w') : Below w.heap.size w w' :=
  (((Fr.refl (fun k => k = w.heap.size) w).alloc _).same f).up (fun k e => by omega) (Nat.le_refl _)
set_option maxHeartbeats 8000000 in
set_option maxRecDepth 100000 in
theorem parseR_ok (q : L) (w : World) : Calls Tryz.prog 20 #[.string (bs q)] w (PR w (parseR q)) := by
  have hz := bs_size q
  unfold parseR
  by_cases h5 : 500 < q.length
  · rw [if_pos h5]
    have hd : decide ((500 : Int) < (q.length : Int)) = true := by simp; omega
    have hd2 : decide (500 < q.length) = true := by simpa using h5
    clear h5
    generalize bs q = S at *
    generalize q.length = N at *
    go_enter Tryz.func20, Tryz.ntmps20
    go_wp2
    exact bodyPost_ret (v := .tuple #[.slice none 0 0, .int .i64 1, .int .i64 0]) (by simp [results, Tryz.results20, go_sem]) rfl ⟨Below.refl _ _, rfl⟩
  · rw [if_neg h5]
    have hd : decide ((500 : Int) < (q.length : Int)) = false := by simp; omega
    have hd2 : decide (500 < q.length) = false := by simpa using h5
    have HQ := hide (queryR_ok (xr_start q w (by omega)) (fun _ => rfl))
    have HB : Hid (∀ W s, XR w.heap.size q W s → Calls Tryz.prog 34 #[ptr w.heap.size] W (XE w.heap.size q W s.bl)) := fun W s hW => blanksR_ok hW
    have HW : Hid (∀ W s, XR w.heap.size q W s → Calls Tryz.prog 35 #[ptr w.heap.size] W (XE w.heap.size q W (s.wrong q))) := fun W s hW => wrongR_ok hW
    have HBE : Hid (∀ w', Fr (fun k => k = w.heap.size) (w.alloc (.cells #[.string (bs q), .int .i64 0, .int .i64 0, .int .i64 0, .int .i64 0] 89)) w' → Below w.heap.size w w') := fun w' f => start_below f
    have hsz : (w.alloc (.cells #[.string (bs q), .int .i64 0, .int .i64 0, .int .i64 0, .int .i64 0] 89)).heap.size = w.heap.size + 1 := by simp
    rw [hsz] at HQ
    simp only
    generalize queryR q (RS.start q) = x at *
    obtain ⟨ls, s1⟩ := x
    simp only
    have HCC : Hid (∀ W s, XR w.heap.size q W s → W.cell? ⟨w.heap.size, 1, none⟩ = some (.int .i64 ((q.length - s.l.length : Nat) : Int)) ∧ W.cell? ⟨w.heap.size, 3, none⟩ = some (.int .i64 s.err) ∧ W.cell? ⟨w.heap.size, 4, none⟩ = some (.int .i64 s.at_)) := fun W s hW => by
      obtain ⟨-, c1, -, c3, c4⟩ := hW.cells
      exact ⟨c1, c3, c4⟩
    by_cases he : s1.bl.err = 0
    · by_cases hl : s1.bl.l = []
      · have hp : ¬ (s1.bl.err = 0 ∧ s1.bl.l ≠ []) := fun x => x.2 hl
        rw [if_neg hp, if_pos he]
        have HC2 : Hid (∀ W, XR w.heap.size q W s1.bl → W.cell? ⟨w.heap.size, 1, none⟩ = some (.int .i64 (q.length : Int)) ∧ W.cell? ⟨w.heap.size, 3, none⟩ = some (.int .i64 0)) := fun W hW => by
          obtain ⟨c1, c3, -⟩ := HCC.out _ _ hW
          rw [hl] at c1
          rw [he] at c3
          exact ⟨c1, c3⟩
        clear he hl h5 hp HCC
        have hlt : decide ((q.length : Int) < (q.length : Int)) = false := by simp
        generalize bs q = S at *
        generalize q.length = N at *
        go_enter Tryz.func20, Tryz.ntmps20
        go_wp2_with (first | (go_at_call 34; refine (HB.out _ _ hx2).mono ?_; rintro e w3 ⟨rfl, hx3, fr3⟩; obtain ⟨c1, c3⟩ := HC2.out _ hx3) | (go_at_call 33; refine HQ.out.mono ?_; rintro e w2 ⟨v2, rfl, qs2, hx2, fr2⟩; have HQS := hide qs2; clear qs2))
        refine bodyPost_ret (v := .tuple #[v2, .int .i64 0, .int .i64 0]) (by simp [results, Tryz.results20, go_sem]) rfl ⟨HBE.out _ (fr2.same fr3), v2, rfl, HQS.out.move fun b hb hl => ⟨by omega, fr3.block b hl (by omega)⟩⟩
      · have hp : s1.bl.err = 0 ∧ s1.bl.l ≠ [] := ⟨he, hl⟩
        rw [if_pos hp, if_neg wrong_err]
        have HC2 : Hid (∀ W, XR w.heap.size q W s1.bl → W.cell? ⟨w.heap.size, 1, none⟩ = some (.int .i64 ((q.length - s1.bl.l.length : Nat) : Int)) ∧ W.cell? ⟨w.heap.size, 3, none⟩ = some (.int .i64 0) ∧ q.length - s1.bl.l.length < q.length) := fun W hW => by
          obtain ⟨c1, c3, -⟩ := HCC.out _ _ hW
          rw [he] at c3
          have := hW.le
          have : 0 < s1.bl.l.length := List.length_pos_iff.2 hl
          exact ⟨c1, c3, by omega⟩
        have hwe : (((s1.bl.wrong q).err : Int) == 0) = false := by have := wrong_err (q := q) (s := s1.bl); simp; omega
        have hwe2 : ((s1.bl.wrong q).err == 0) = false := by have := wrong_err (q := q) (s := s1.bl); simpa using this
        have HC3 : Hid (∀ W, XR w.heap.size q W (s1.bl.wrong q) → W.cell? ⟨w.heap.size, 3, none⟩ = some (.int .i64 (s1.bl.wrong q).err) ∧ W.cell? ⟨w.heap.size, 4, none⟩ = some (.int .i64 (s1.bl.wrong q).at_)) := fun W hW => (HCC.out _ _ hW).2
        have HW : Hid (∀ W, XR w.heap.size q W s1.bl → Calls Tryz.prog 35 #[ptr w.heap.size] W (XE w.heap.size q W (s1.bl.wrong q))) := fun W hW => wrongR_ok hW
        clear he hl h5 hp HCC
        generalize s1.bl.wrong q = s3 at *
        generalize q.length - s1.bl.l.length = K at *
        generalize bs q = S at *
        generalize q.length = N at *
        go_enter Tryz.func20, Tryz.ntmps20
        go_wp2_with (first | (go_at_call 35; refine (HW.out _ hx3).mono ?_; rintro e w4 ⟨rfl, hx4, fr4⟩; obtain ⟨d3, d4⟩ := HC3.out _ hx4) | (go_at_call 34; refine (HB.out _ _ hx2).mono ?_; rintro e w3 ⟨rfl, hx3, fr3⟩; obtain ⟨c1, c3, hKN⟩ := HC2.out _ hx3; have hlt : decide ((K : Int) < (N : Int)) = true := by simp; omega) | (go_at_call 33; refine HQ.out.mono ?_; rintro e w2 ⟨v2, rfl, qs2, hx2, fr2⟩; have HQS := hide qs2; clear qs2))
        go_quiet (fail)
        go_wp2
        refine bodyPost_ret (v := .tuple #[.slice none 0 0, .int .i64 s3.err, .int .i64 s3.at_]) (by simp [results, Tryz.results20, go_sem]) rfl ⟨HBE.out _ (((fr2.same fr3).same fr4).drewN nq), rfl⟩
    · have hp : ¬ (s1.bl.err = 0 ∧ s1.bl.l ≠ []) := fun x => he x.1
      rw [if_neg hp, if_neg he]
      have hwe : ((s1.bl.err : Int) == 0) = false := by simp; omega
      have hwe2 : (s1.bl.err == 0) = false := by simpa using he
      have HC2 : Hid (∀ W, XR w.heap.size q W s1.bl → W.cell? ⟨w.heap.size, 3, none⟩ = some (.int .i64 s1.bl.err) ∧ W.cell? ⟨w.heap.size, 4, none⟩ = some (.int .i64 s1.bl.at_)) := fun W hW => (HCC.out _ _ hW).2
      have HB : Hid (∀ W, XR w.heap.size q W s1 → Calls Tryz.prog 34 #[ptr w.heap.size] W (XE w.heap.size q W s1.bl)) := fun W hW => blanksR_ok hW
      clear he h5 hp HCC
      generalize s1.bl = s3 at *
      generalize bs q = S at *
      generalize q.length = N at *
      go_enter Tryz.func20, Tryz.ntmps20
      go_wp2_with (first | (go_at_call 34; refine (HB.out _ hx2).mono ?_; rintro e w3 ⟨rfl, hx3, fr3⟩; obtain ⟨d3, d4⟩ := HC2.out _ hx3) | (go_at_call 33; refine HQ.out.mono ?_; rintro e w2 ⟨v2, rfl, qs2, hx2, fr2⟩; have HQS := hide qs2; clear qs2))
      go_quiet (fail)
      go_wp2
      refine bodyPost_ret (v := .tuple #[.slice none 0 0, .int .i64 s3.err, .int .i64 s3.at_]) (by simp [results, Tryz.results20, go_sem]) rfl ⟨HBE.out _ ((fr2.same fr3).drewN nq), rfl⟩
end Go.Proofs.YtoahlnmhjinneaaGreatDoor
