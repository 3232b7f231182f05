import Derived.Test.YtoahlnmhjinneaaGreatDoorGal
set_option linter.unusedVariables false
set_option linter.unusedSimpArgs false
set_option linter.unusedSimpArgs false
set_option linter.unusedVariables false
namespace Go.Proofs.YtoahlnmhjinneaaGreatDoor
open Go.RowKit Go.Maps Go.Lib
variable {w w' w1 w2 W0 W1 W2 W3 W4 WO wr W W5 : World} {A A' F G : Nat → Prop} {X lo n : Nat} {q l l' p : L} {s s' : RS} {v v' vp : Value} {inner : RS → Prd × RS} {d : Bool}
theorem news_on (cs : List Value) (ty : TypeId) (w : World) (o : Obj) : ∀ j u, cs[j]? = some u → ((w.alloc o).alloc (.cells cs.toArray ty)).cell? ((⟨w.heap.size + 1, 0, none⟩ : Addr).add j) = some u := by
  have := news_of cs ty (w.alloc o)
  rw [show (w.alloc o).heap.size = w.heap.size + 1 by simp] at this
  exact this
theorem keepsN {s1 : RS} (h : Keeps s s1) (n8 : n ≤ 9) (hn : s.err = 0 → s.nest = n ∧ n ≤ 8) : s1.err = 0 → s1.nest = n ∧ n ≤ 8 := fun e => by
  obtain ⟨h1, h2⟩ := hn (h.err e)
  exact ⟨(h.nest e (by omega)).trans h1, h2⟩
set_option maxHeartbeats 8000000 in
set_option maxRecDepth 100000 in
theorem step1_ok (hi : InRK X q (n + 1) inner) (h : XR X q w s) (n8 : n ≤ 9) (hn : s.err = 0 → s.nest = n ∧ n ≤ 8) (hb : s.is [42] = true) {Y : List Prd × RS} (hY : predsR q inner ((s.has [42]).l.length + 1) (s.has [42]) = Y) : Calls Tryz.prog 96 #[ptr X, .bool d] w (XV X q (SV (fun b => w.heap.size ≤ b) 94 97) w (⟨d, [42], Prds.of Y.1⟩, Y.2)) := by
  have hX := h.lt
  have f0 : Fr (fun _ => False) w ((w.alloc (.cells z3 94)).alloc (.cells (d3 d) 94)) := ((Fr.refl _ w).alloc _).alloc _
  have HH := hide (hasR_ok (p := [42]) (h.fr f0 (fun x => x)) (by decide) (by decide))
  rw [hb] at HH
  have hns := keepsN (keeps_has s [42]) n8 hn
  have HST : Hid (∀ w2, Fr (fun k => k = X) ((w.alloc (.cells z3 94)).alloc (.cells (d3 d) 94)) w2 → XR X q w2 (s.has [42]) → _) := fun w2 fr xr => LX.start (inner := inner) hX fr xr n8 hns [42]
  have HIN := hide hi
  generalize s.has [42] = s1 at *
  have HX := hide hY
  clear h hb hY hi hn
  go_enter Tryz.func96, Tryz.ntmps96
  go_wp2_with (first | (go_at_call 54; refine HH.out.mono ?_; rintro e w2 ⟨rfl, hx2, fr2⟩; obtain ⟨c1, fz1, hl0⟩ := HST.out _ fr2 hx2; have HL0 := hide hl0; clear hl0))
  clear hx2 fr2 c1 fz1
  go_loopw [6, 24, 25, 26, 27, 28, 29, 30, 31, 32, 33, 34, 35, 36, 37] (fun _ _ _ _ _ _ _ _ _ _ _ _ _ _ _ wr => ∃ ps sc pi pc, LX X q inner n w d [42] s1 wr ps sc pi pc) (fun _ _ _ _ _ _ _ _ _ _ _ _ _ _ _ wr => meaX X q wr)
  case atStart => exact ⟨_, _, _, _, HL0.out⟩
  case round =>
    rename World => WO
    obtain ⟨ps, sc, pi, pc, hL⟩ := hrel
    have hmea : meaX X q WO = sc.l.length := hL.xr.mea
    have HL := hide hL
    have HI := hide (isR_ok (p := [91]) hL.xr (by decide) (by decide))
    cases hb : sc.is [91] with
    | false =>
      have hX := HX.out
      rw [hL.stop hb] at hX
      subst hX
      rw [hb] at HI
      have HC : Hid (∀ W, Fr (fun k => k = X) WO W → (W.cell? ⟨w.heap.size + 1, 0, none⟩ = some (.bool d) ∧ W.cell? ⟨w.heap.size + 1, 1, none⟩ = some (.string (bs [42])) ∧ W.cell? ⟨w.heap.size + 1, 2, none⟩ = some (.slice pi ps.length pc)) ∧ (W.cell? ⟨w.heap.size, 0, none⟩ = some (.bool false) ∧ W.cell? ⟨w.heap.size, 1, none⟩ = some (.string ⟨#[]⟩) ∧ W.cell? ⟨w.heap.size, 2, none⟩ = some (.slice none 0 0)) ∧ (W.frozen? ⟨w.heap.size, 0, none⟩ = false ∧ W.frozen? ⟨w.heap.size, 1, none⟩ = false ∧ W.frozen? ⟨w.heap.size, 2, none⟩ = false)) := fun W hW => by
        obtain ⟨k1, k2⟩ := hL.kept hW
        exact ⟨⟨cell_of k1 rfl, cell_of k1 rfl, cell_of k1 rfl⟩, ⟨cell_of k2 rfl, cell_of k2 rfl, cell_of k2 rfl⟩, free_of k2, free_of k2, free_of k2⟩
      clear hb hL hmea
      go_wp2_with (first | (go_at_call 76; refine HI.out.mono ?_; rintro e w3 ⟨rfl, hx3, fr3⟩; obtain ⟨⟨x0, x1, x2⟩, ⟨y0, y1, y2⟩, z0, z1, z2⟩ := HC.out _ fr3))
      obtain ⟨W5, hW5, r5, fr5⟩ := box3 (.bool d) (.string (bs [42])) (.slice pi ps.length pc) (HL.out.kept fr3).2
      rw [hW5]
      clear hW5 x0 x1 x2 y0 y1 y2 z0 z1 z2
      have k0 := cell_of (i := 0) r5 rfl
      have k1 := cell_of (i := 1) r5 rfl
      have k2 := cell_of (i := 2) r5 rfl
      obtain ⟨sv, xr5, fr6⟩ := HL.out.last fr3 hx3 fr5
      refine bodyPost_ret (v := .agg #[.bool d, .string (bs [42]), .slice pi ps.length pc]) (by simp [results, Tryz.results96, go_sem, k0, k1, k2]) rfl ⟨_, rfl, sv, xr5, fr6⟩
    | true =>
      rw [hb] at HI
      have HO : Hid (∀ W, XR X q W sc.bl → Calls Tryz.prog 125 #[ptr X, .string ⟨#[91]⟩] W (XE X q W (sc.bl.opn q [91]))) := fun W hW => openR_ok (p := [91]) hW (by decide) (by decide)
      have HCC : Hid (∀ W, XR X q W (sc.bl.opn q [91]) → Calls Tryz.prog 126 #[ptr X] W (XV X q (PV (fun b => W.heap.size ≤ b) 94 97) W (inner (sc.bl.opn q [91])))) := fun W hW => HIN.out.calls (by have := (hL.ns (is_pre hb).1).2; omega) W _ hW (hL.inn hb)
      obtain ⟨p5, s5, hp5⟩ : ∃ p5 s5, inner (sc.bl.opn q [91]) = (p5, s5) := ⟨_, _, rfl⟩
      have HN := hide (fun w4 w5 f4 f5 x5 ki si nk kc ns sc' sv o1 o2 => LX.next HIN.out hL hb hp5 (w4 := w4) (w5 := w5) f4 f5 x5 (ki := ki) (si := si) (nk := nk) (kc := kc) (ns := ns) (sc' := sc') sv o1 o2)
      have HS : Hid (∀ W, XR X q W s5 → Calls Tryz.prog 127 #[ptr X, .string ⟨#[93]⟩] W (XE X q W (s5.shut q [93]))) := fun W hW => shutR_ok (p := [93]) hW (by decide) (by decide)
      rw [hp5] at HCC
      have HSM := hide hL.sm
      clear hb hL hp5
      generalize s5.shut q [93] = s6 at *
      generalize sc.bl.opn q [91] = s4 at *
      obtain ⟨i0, hi, hz0, hz1, hz2⟩ := info_parts info80
      go_wp2_with (first | (at_builtin; refine wpList_append_own_at _ rfl (.tmp 31) (.tmp 33) 92 rfl 0 97 i0 _ 5 96 Tryz.underlying92 hi hz0 hz1 hz2 rfl (by decide) (.slice pi ps.length pc) ps.length (pCells xs) rfl hx1 ⟨w5.heap.size + 1, 0, none⟩ 1 1 [.string (bs p5.op), .slice ki5 nk5 kc5, .slice si5 ns5 sc5, .string (bs p5.attr), .string (bs p5.text)] rfl rfl HNW.out ?c2 ?c3 ?c4 (Nat.zero_le _) ?_) | (go_at_call 126; refine (HCC.out _ hx4).mono ?_; rintro e w5 ⟨v5, rfl, pv5, hx5, fr5⟩; obtain ⟨ki5, nk5, kc5, si5, ns5, sc5, rfl, sv5⟩ := pv5.shape; have hn := HN.out _ _ (fr3.same fr4) fr5 hx5 _ _ _ _ _ _ sv5 (.cells #[.string (bs p5.op), .slice ki5 nk5 kc5, .slice si5 ns5 sc5, .string (bs p5.attr), .string (bs p5.text)] 97) (.cells #[.string (bs p5.op), .slice ki5 nk5 kc5, .slice si5 ns5 sc5, .string (bs p5.attr), .string (bs p5.text)] 97); obtain ⟨hbB, xs, hx1, hx2⟩ := hn; have HX2 := hide hx2; clear hx2 sv5 pv5; have hc2 := cell_of (i := 2) hbB rfl; clear hbB; obtain ⟨⟨e0, e1, e2, e3, e4⟩, -⟩ := cells5 (Below_new w5 (.cells #[.string (bs p5.op), .slice ki5 nk5 kc5, .slice si5 ns5 sc5, .string (bs p5.attr), .string (bs p5.text)] 97)); have hnw := news_on [.string (bs p5.op), .slice ki5 nk5 kc5, .slice si5 ns5 sc5, .string (bs p5.attr), .string (bs p5.text)] 97 w5 (.cells #[.string (bs p5.op), .slice ki5 nk5 kc5, .slice si5 ns5 sc5, .string (bs p5.attr), .string (bs p5.text)] 97); have HNW := hide hnw; clear hnw) | (go_at_call 125; refine (HO.out _ hx3).mono ?_; rintro e w4 ⟨rfl, hx4, fr4⟩) | (go_at_call 76; refine HI.out.mono ?_; rintro e w3 ⟨rfl, hx3, fr3⟩))
      case c2 =>
        intro u hu
        simp only [List.mem_cons, List.not_mem_nil, or_false] at hu
        rcases hu with rfl | rfl | rfl | rfl | rfl <;> rfl
      case c3 => have := HSM.out; unfold maxLen; omega
      case c4 => have := HSM.out; omega
      intro v' w7 ho hg _ hat
      obtain ⟨vi, vc, rfl⟩ : ∃ ai cap, v' = .slice ai (ps.length + 1) cap := slice_len ho
      obtain ⟨⟨cB, fB⟩, x7, hfin⟩ := HX2.out _ w7 ho hg (by simpa using hat)
      have HF := hide hfin
      clear hfin ho hg hat
      go_wp2_with (first | (go_at_call 127; refine (HS.out _ x7).mono ?_; rintro e w8 ⟨rfl, hx8, fr8⟩))
      obtain ⟨⟨pi8, pc8, hL8⟩, hlt⟩ := HF.out _ hx8 fr8
      exact ⟨⟨_, _, _, _, hL8⟩, by rw [hL8.xr.mea, hmea]; exact hlt⟩
set_option maxHeartbeats 8000000 in
set_option maxRecDepth 100000 in
theorem step2_ok (hi : InRK X q (n + 1) inner) (h : XR X q w s) (n8 : n ≤ 9) (hn : s.err = 0 → s.nest = n ∧ n ≤ 8) (hb : s.is [42] = false) (hc : s.bl.called wText = true) {s1 : RS} (hs1 : ((s.bl.bl.name q).must q [40]).must q [41] = s1) {Y : List Prd × RS} (hY : predsR q inner (s1.l.length + 1) s1 = Y) : Calls Tryz.prog 96 #[ptr X, .bool d] w (XV X q (SV (fun b => w.heap.size ≤ b) 94 97) w (⟨d, [35], Prds.of Y.1⟩, Y.2)) := by
  have hX := h.lt
  have f0 : Fr (fun _ => False) w ((w.alloc (.cells z3 94)).alloc (.cells (d3 d) 94)) := ((Fr.refl _ w).alloc _).alloc _
  have HH := hide (hasR_ok (p := [42]) (h.fr f0 (fun x => x)) (by decide) (by decide))
  rw [hb, show s.has [42] = s.bl by unfold RS.has; rw [hb]; rfl] at HH
  have HCA : Hid (∀ W, XR X q W s.bl → Calls Tryz.prog 122 #[ptr X, .string ⟨#[116, 101, 120, 116]⟩] W (XB X q W true s.bl.bl)) := fun W hW => by have := calledR_ok (p := wText) hW; rw [hc] at this; exact this
  have HNA : Hid (∀ W, XR X q W s.bl.bl → Calls Tryz.prog 123 #[ptr X] W (XS X q W s.bl.bl.peek (s.bl.bl.name q))) := fun W hW => nameRd_ok hW
  have HM1 : Hid (∀ W, XR X q W (s.bl.bl.name q) → Calls Tryz.prog 124 #[ptr X, .string ⟨#[40]⟩] W (XE X q W ((s.bl.bl.name q).must q [40]))) := fun W hW => mustR_ok (p := [40]) hW (by decide) (by decide)
  have HM2 : Hid (∀ W, XR X q W ((s.bl.bl.name q).must q [40]) → Calls Tryz.prog 124 #[ptr X, .string ⟨#[41]⟩] W (XE X q W s1)) := fun W hW => by rw [← hs1]; exact mustR_ok (p := [41]) hW (by decide) (by decide)
  have hns : s1.err = 0 → s1.nest = n ∧ n ≤ 8 := by rw [← hs1]; exact keepsN (((((keeps_bl s).trans (keeps_bl _)).trans (keeps_name _)).trans (keeps_must _ _)).trans (keeps_must _ _)) n8 hn
  have HST : Hid (∀ w2, Fr (fun k => k = X) ((w.alloc (.cells z3 94)).alloc (.cells (d3 d) 94)) w2 → XR X q w2 s1 → _) := fun w2 fr xr => LX.start (inner := inner) hX fr xr n8 hns [35]
  have HIN := hide hi
  have HX := hide hY
  clear h hb hY hi hn hc hs1
  generalize (s.bl.bl.name q).must q [40] = s7 at *
  generalize s.bl.bl.name q = s6' at *
  generalize s.bl.bl.peek = P at *
  generalize s.bl.bl = s5' at *
  go_enter Tryz.func96, Tryz.ntmps96
  go_wp2_with (first | (go_at_call 124; refine (HM2.out _ hxd).mono ?_; rintro e we ⟨rfl, hxe, fre⟩; obtain ⟨c1, fz1, hl0⟩ := HST.out _ ((((fra.same frb).same frc).same frd).same fre) hxe; have HL0 := hide hl0; clear hl0) | (go_at_call 124; refine (HM1.out _ hxc).mono ?_; rintro e wd ⟨rfl, hxd, frd⟩) | (go_at_call 123; refine (HNA.out _ hxb).mono ?_; rintro e wc ⟨rfl, hxc, frc⟩) | (go_at_call 122; refine (HCA.out _ hxa).mono ?_; rintro e wb ⟨rfl, hxb, frb⟩) | (go_at_call 54; refine HH.out.mono ?_; rintro e wa ⟨rfl, hxa, fra⟩))
  clear hxa hxb hxc hxd hxe fra frb frc frd fre c1 fz1
  go_loopw [6, 24, 25, 26, 27, 28, 29, 30, 31, 32, 33, 34, 35, 36, 37] (fun _ _ _ _ _ _ _ _ _ _ _ _ _ _ _ wr => ∃ ps sc pi pc, LX X q inner n w d [35] s1 wr ps sc pi pc) (fun _ _ _ _ _ _ _ _ _ _ _ _ _ _ _ wr => meaX X q wr)
  case atStart => exact ⟨_, _, _, _, HL0.out⟩
  case round =>
    rename World => WO
    obtain ⟨ps, sc, pi, pc, hL⟩ := hrel
    have hmea : meaX X q WO = sc.l.length := hL.xr.mea
    have HL := hide hL
    have HI := hide (isR_ok (p := [91]) hL.xr (by decide) (by decide))
    cases hb : sc.is [91] with
    | false =>
      have hX := HX.out
      rw [hL.stop hb] at hX
      subst hX
      rw [hb] at HI
      have HC : Hid (∀ W, Fr (fun k => k = X) WO W → (W.cell? ⟨w.heap.size + 1, 0, none⟩ = some (.bool d) ∧ W.cell? ⟨w.heap.size + 1, 1, none⟩ = some (.string (bs [35])) ∧ W.cell? ⟨w.heap.size + 1, 2, none⟩ = some (.slice pi ps.length pc)) ∧ (W.cell? ⟨w.heap.size, 0, none⟩ = some (.bool false) ∧ W.cell? ⟨w.heap.size, 1, none⟩ = some (.string ⟨#[]⟩) ∧ W.cell? ⟨w.heap.size, 2, none⟩ = some (.slice none 0 0)) ∧ (W.frozen? ⟨w.heap.size, 0, none⟩ = false ∧ W.frozen? ⟨w.heap.size, 1, none⟩ = false ∧ W.frozen? ⟨w.heap.size, 2, none⟩ = false)) := fun W hW => by
        obtain ⟨k1, k2⟩ := hL.kept hW
        exact ⟨⟨cell_of k1 rfl, cell_of k1 rfl, cell_of k1 rfl⟩, ⟨cell_of k2 rfl, cell_of k2 rfl, cell_of k2 rfl⟩, free_of k2, free_of k2, free_of k2⟩
      clear hb hL hmea
      go_wp2_with (first | (go_at_call 76; refine HI.out.mono ?_; rintro e w3 ⟨rfl, hx3, fr3⟩; obtain ⟨⟨x0, x1, x2⟩, ⟨y0, y1, y2⟩, z0, z1, z2⟩ := HC.out _ fr3))
      obtain ⟨W5, hW5, r5, fr5⟩ := box3 (.bool d) (.string (bs [35])) (.slice pi ps.length pc) (HL.out.kept fr3).2
      rw [hW5]
      clear hW5 x0 x1 x2 y0 y1 y2 z0 z1 z2
      have k0 := cell_of (i := 0) r5 rfl
      have k1 := cell_of (i := 1) r5 rfl
      have k2 := cell_of (i := 2) r5 rfl
      obtain ⟨sv, xr5, fr6⟩ := HL.out.last fr3 hx3 fr5
      refine bodyPost_ret (v := .agg #[.bool d, .string (bs [35]), .slice pi ps.length pc]) (by simp [results, Tryz.results96, go_sem, k0, k1, k2]) rfl ⟨_, rfl, sv, xr5, fr6⟩
    | true =>
      rw [hb] at HI
      have HO : Hid (∀ W, XR X q W sc.bl → Calls Tryz.prog 125 #[ptr X, .string ⟨#[91]⟩] W (XE X q W (sc.bl.opn q [91]))) := fun W hW => openR_ok (p := [91]) hW (by decide) (by decide)
      have HCC : Hid (∀ W, XR X q W (sc.bl.opn q [91]) → Calls Tryz.prog 126 #[ptr X] W (XV X q (PV (fun b => W.heap.size ≤ b) 94 97) W (inner (sc.bl.opn q [91])))) := fun W hW => HIN.out.calls (by have := (hL.ns (is_pre hb).1).2; omega) W _ hW (hL.inn hb)
      obtain ⟨p5, s5, hp5⟩ : ∃ p5 s5, inner (sc.bl.opn q [91]) = (p5, s5) := ⟨_, _, rfl⟩
      have HN := hide (fun w4 w5 f4 f5 x5 ki si nk kc ns sc' sv o1 o2 => LX.next HIN.out hL hb hp5 (w4 := w4) (w5 := w5) f4 f5 x5 (ki := ki) (si := si) (nk := nk) (kc := kc) (ns := ns) (sc' := sc') sv o1 o2)
      have HS : Hid (∀ W, XR X q W s5 → Calls Tryz.prog 127 #[ptr X, .string ⟨#[93]⟩] W (XE X q W (s5.shut q [93]))) := fun W hW => shutR_ok (p := [93]) hW (by decide) (by decide)
      rw [hp5] at HCC
      have HSM := hide hL.sm
      clear hb hL hp5
      generalize s5.shut q [93] = s6 at *
      generalize sc.bl.opn q [91] = s4 at *
      obtain ⟨i0, hi, hz0, hz1, hz2⟩ := info_parts info80
      go_wp2_with (first | (at_builtin; refine wpList_append_own_at _ rfl (.tmp 31) (.tmp 33) 92 rfl 0 97 i0 _ 5 96 Tryz.underlying92 hi hz0 hz1 hz2 rfl (by decide) (.slice pi ps.length pc) ps.length (pCells xs) rfl hx1 ⟨w5.heap.size + 1, 0, none⟩ 1 1 [.string (bs p5.op), .slice ki5 nk5 kc5, .slice si5 ns5 sc5, .string (bs p5.attr), .string (bs p5.text)] rfl rfl HNW.out ?c2 ?c3 ?c4 (Nat.zero_le _) ?_) | (go_at_call 126; refine (HCC.out _ hx4).mono ?_; rintro e w5 ⟨v5, rfl, pv5, hx5, fr5⟩; obtain ⟨ki5, nk5, kc5, si5, ns5, sc5, rfl, sv5⟩ := pv5.shape; have hn := HN.out _ _ (fr3.same fr4) fr5 hx5 _ _ _ _ _ _ sv5 (.cells #[.string (bs p5.op), .slice ki5 nk5 kc5, .slice si5 ns5 sc5, .string (bs p5.attr), .string (bs p5.text)] 97) (.cells #[.string (bs p5.op), .slice ki5 nk5 kc5, .slice si5 ns5 sc5, .string (bs p5.attr), .string (bs p5.text)] 97); obtain ⟨hbB, xs, hx1, hx2⟩ := hn; have HX2 := hide hx2; clear hx2 sv5 pv5; have hc2 := cell_of (i := 2) hbB rfl; clear hbB; obtain ⟨⟨e0, e1, e2, e3, e4⟩, -⟩ := cells5 (Below_new w5 (.cells #[.string (bs p5.op), .slice ki5 nk5 kc5, .slice si5 ns5 sc5, .string (bs p5.attr), .string (bs p5.text)] 97)); have hnw := news_on [.string (bs p5.op), .slice ki5 nk5 kc5, .slice si5 ns5 sc5, .string (bs p5.attr), .string (bs p5.text)] 97 w5 (.cells #[.string (bs p5.op), .slice ki5 nk5 kc5, .slice si5 ns5 sc5, .string (bs p5.attr), .string (bs p5.text)] 97); have HNW := hide hnw; clear hnw) | (go_at_call 125; refine (HO.out _ hx3).mono ?_; rintro e w4 ⟨rfl, hx4, fr4⟩) | (go_at_call 76; refine HI.out.mono ?_; rintro e w3 ⟨rfl, hx3, fr3⟩))
      case c2 =>
        intro u hu
        simp only [List.mem_cons, List.not_mem_nil, or_false] at hu
        rcases hu with rfl | rfl | rfl | rfl | rfl <;> rfl
      case c3 => have := HSM.out; unfold maxLen; omega
      case c4 => have := HSM.out; omega
      intro v' w7 ho hg _ hat
      obtain ⟨vi, vc, rfl⟩ : ∃ ai cap, v' = .slice ai (ps.length + 1) cap := slice_len ho
      obtain ⟨⟨cB, fB⟩, x7, hfin⟩ := HX2.out _ w7 ho hg (by simpa using hat)
      have HF := hide hfin
      clear hfin ho hg hat
      go_wp2_with (first | (go_at_call 127; refine (HS.out _ x7).mono ?_; rintro e w8 ⟨rfl, hx8, fr8⟩))
      obtain ⟨⟨pi8, pc8, hL8⟩, hlt⟩ := HF.out _ hx8 fr8
      exact ⟨⟨_, _, _, _, hL8⟩, by rw [hL8.xr.mea, hmea]; exact hlt⟩
set_option maxHeartbeats 8000000 in
set_option maxRecDepth 100000 in
theorem step3_ok (hi : InRK X q (n + 1) inner) (h : XR X q w s) (n8 : n ≤ 9) (hn : s.err = 0 → s.nest = n ∧ n ≤ 8) (hb : s.is [42] = false) (hc : s.bl.called wText = false) {s1 : RS} (hs1 : s.bl.bl.name q = s1) {te : L} (hte : s.bl.bl.peek = te) {Y : List Prd × RS} (hY : predsR q inner (s1.l.length + 1) s1 = Y) : Calls Tryz.prog 96 #[ptr X, .bool d] w (XV X q (SV (fun b => w.heap.size ≤ b) 94 97) w (⟨d, te, Prds.of Y.1⟩, Y.2)) := by
  have hX := h.lt
  have f0 : Fr (fun _ => False) w ((w.alloc (.cells z3 94)).alloc (.cells (d3 d) 94)) := ((Fr.refl _ w).alloc _).alloc _
  have HH := hide (hasR_ok (p := [42]) (h.fr f0 (fun x => x)) (by decide) (by decide))
  rw [hb, show s.has [42] = s.bl by unfold RS.has; rw [hb]; rfl] at HH
  have HCA : Hid (∀ W, XR X q W s.bl → Calls Tryz.prog 122 #[ptr X, .string ⟨#[116, 101, 120, 116]⟩] W (XB X q W false s.bl.bl)) := fun W hW => by have := calledR_ok (p := wText) hW; rw [hc] at this; exact this
  have HNA : Hid (∀ W, XR X q W s.bl.bl → Calls Tryz.prog 123 #[ptr X] W (XS X q W te s1)) := fun W hW => by rw [← hs1, ← hte]; exact nameRd_ok hW
  have hns : s1.err = 0 → s1.nest = n ∧ n ≤ 8 := by rw [← hs1]; exact keepsN (((keeps_bl s).trans (keeps_bl _)).trans (keeps_name _)) n8 hn
  have HST : Hid (∀ w2, Fr (fun k => k = X) ((w.alloc (.cells z3 94)).alloc (.cells (d3 d) 94)) w2 → XR X q w2 s1 → _) := fun w2 fr xr => LX.start (inner := inner) hX fr xr n8 hns te
  have HIN := hide hi
  have HX := hide hY
  clear h hb hY hi hn hc hs1 hte
  generalize s.bl.bl = s5' at *
  go_enter Tryz.func96, Tryz.ntmps96
  go_wp2_with (first | (go_at_call 123; refine (HNA.out _ hxb).mono ?_; rintro e wc ⟨rfl, hxc, frc⟩; obtain ⟨c1, fz1, hl0⟩ := HST.out _ ((fra.same frb).same frc) hxc; have HL0 := hide hl0; clear hl0) | (go_at_call 122; refine (HCA.out _ hxa).mono ?_; rintro e wb ⟨rfl, hxb, frb⟩) | (go_at_call 54; refine HH.out.mono ?_; rintro e wa ⟨rfl, hxa, fra⟩))
  clear hxa hxb hxc fra frb frc c1 fz1
  go_loopw [6, 24, 25, 26, 27, 28, 29, 30, 31, 32, 33, 34, 35, 36, 37] (fun _ _ _ _ _ _ _ _ _ _ _ _ _ _ _ wr => ∃ ps sc pi pc, LX X q inner n w d te s1 wr ps sc pi pc) (fun _ _ _ _ _ _ _ _ _ _ _ _ _ _ _ wr => meaX X q wr)
  case atStart => exact ⟨_, _, _, _, HL0.out⟩
  case round =>
    rename World => WO
    obtain ⟨ps, sc, pi, pc, hL⟩ := hrel
    have hmea : meaX X q WO = sc.l.length := hL.xr.mea
    have HL := hide hL
    have HI := hide (isR_ok (p := [91]) hL.xr (by decide) (by decide))
    cases hb : sc.is [91] with
    | false =>
      have hX := HX.out
      rw [hL.stop hb] at hX
      subst hX
      rw [hb] at HI
      have HC : Hid (∀ W, Fr (fun k => k = X) WO W → (W.cell? ⟨w.heap.size + 1, 0, none⟩ = some (.bool d) ∧ W.cell? ⟨w.heap.size + 1, 1, none⟩ = some (.string (bs te)) ∧ W.cell? ⟨w.heap.size + 1, 2, none⟩ = some (.slice pi ps.length pc)) ∧ (W.cell? ⟨w.heap.size, 0, none⟩ = some (.bool false) ∧ W.cell? ⟨w.heap.size, 1, none⟩ = some (.string ⟨#[]⟩) ∧ W.cell? ⟨w.heap.size, 2, none⟩ = some (.slice none 0 0)) ∧ (W.frozen? ⟨w.heap.size, 0, none⟩ = false ∧ W.frozen? ⟨w.heap.size, 1, none⟩ = false ∧ W.frozen? ⟨w.heap.size, 2, none⟩ = false)) := fun W hW => by
        obtain ⟨k1, k2⟩ := hL.kept hW
        exact ⟨⟨cell_of k1 rfl, cell_of k1 rfl, cell_of k1 rfl⟩, ⟨cell_of k2 rfl, cell_of k2 rfl, cell_of k2 rfl⟩, free_of k2, free_of k2, free_of k2⟩
      clear hb hL hmea
      go_wp2_with (first | (go_at_call 76; refine HI.out.mono ?_; rintro e w3 ⟨rfl, hx3, fr3⟩; obtain ⟨⟨x0, x1, x2⟩, ⟨y0, y1, y2⟩, z0, z1, z2⟩ := HC.out _ fr3))
      obtain ⟨W5, hW5, r5, fr5⟩ := box3 (.bool d) (.string (bs te)) (.slice pi ps.length pc) (HL.out.kept fr3).2
      rw [hW5]
      clear hW5 x0 x1 x2 y0 y1 y2 z0 z1 z2
      have k0 := cell_of (i := 0) r5 rfl
      have k1 := cell_of (i := 1) r5 rfl
      have k2 := cell_of (i := 2) r5 rfl
      obtain ⟨sv, xr5, fr6⟩ := HL.out.last fr3 hx3 fr5
      refine bodyPost_ret (v := .agg #[.bool d, .string (bs te), .slice pi ps.length pc]) (by simp [results, Tryz.results96, go_sem, k0, k1, k2]) rfl ⟨_, rfl, sv, xr5, fr6⟩
    | true =>
      rw [hb] at HI
      have HO : Hid (∀ W, XR X q W sc.bl → Calls Tryz.prog 125 #[ptr X, .string ⟨#[91]⟩] W (XE X q W (sc.bl.opn q [91]))) := fun W hW => openR_ok (p := [91]) hW (by decide) (by decide)
      have HCC : Hid (∀ W, XR X q W (sc.bl.opn q [91]) → Calls Tryz.prog 126 #[ptr X] W (XV X q (PV (fun b => W.heap.size ≤ b) 94 97) W (inner (sc.bl.opn q [91])))) := fun W hW => HIN.out.calls (by have := (hL.ns (is_pre hb).1).2; omega) W _ hW (hL.inn hb)
      obtain ⟨p5, s5, hp5⟩ : ∃ p5 s5, inner (sc.bl.opn q [91]) = (p5, s5) := ⟨_, _, rfl⟩
      have HN := hide (fun w4 w5 f4 f5 x5 ki si nk kc ns sc' sv o1 o2 => LX.next HIN.out hL hb hp5 (w4 := w4) (w5 := w5) f4 f5 x5 (ki := ki) (si := si) (nk := nk) (kc := kc) (ns := ns) (sc' := sc') sv o1 o2)
      have HS : Hid (∀ W, XR X q W s5 → Calls Tryz.prog 127 #[ptr X, .string ⟨#[93]⟩] W (XE X q W (s5.shut q [93]))) := fun W hW => shutR_ok (p := [93]) hW (by decide) (by decide)
      rw [hp5] at HCC
      have HSM := hide hL.sm
      clear hb hL hp5
      generalize s5.shut q [93] = s6 at *
      generalize sc.bl.opn q [91] = s4 at *
      obtain ⟨i0, hi, hz0, hz1, hz2⟩ := info_parts info80
      go_wp2_with (first | (at_builtin; refine wpList_append_own_at _ rfl (.tmp 31) (.tmp 33) 92 rfl 0 97 i0 _ 5 96 Tryz.underlying92 hi hz0 hz1 hz2 rfl (by decide) (.slice pi ps.length pc) ps.length (pCells xs) rfl hx1 ⟨w5.heap.size + 1, 0, none⟩ 1 1 [.string (bs p5.op), .slice ki5 nk5 kc5, .slice si5 ns5 sc5, .string (bs p5.attr), .string (bs p5.text)] rfl rfl HNW.out ?c2 ?c3 ?c4 (Nat.zero_le _) ?_) | (go_at_call 126; refine (HCC.out _ hx4).mono ?_; rintro e w5 ⟨v5, rfl, pv5, hx5, fr5⟩; obtain ⟨ki5, nk5, kc5, si5, ns5, sc5, rfl, sv5⟩ := pv5.shape; have hn := HN.out _ _ (fr3.same fr4) fr5 hx5 _ _ _ _ _ _ sv5 (.cells #[.string (bs p5.op), .slice ki5 nk5 kc5, .slice si5 ns5 sc5, .string (bs p5.attr), .string (bs p5.text)] 97) (.cells #[.string (bs p5.op), .slice ki5 nk5 kc5, .slice si5 ns5 sc5, .string (bs p5.attr), .string (bs p5.text)] 97); obtain ⟨hbB, xs, hx1, hx2⟩ := hn; have HX2 := hide hx2; clear hx2 sv5 pv5; have hc2 := cell_of (i := 2) hbB rfl; clear hbB; obtain ⟨⟨e0, e1, e2, e3, e4⟩, -⟩ := cells5 (Below_new w5 (.cells #[.string (bs p5.op), .slice ki5 nk5 kc5, .slice si5 ns5 sc5, .string (bs p5.attr), .string (bs p5.text)] 97)); have hnw := news_on [.string (bs p5.op), .slice ki5 nk5 kc5, .slice si5 ns5 sc5, .string (bs p5.attr), .string (bs p5.text)] 97 w5 (.cells #[.string (bs p5.op), .slice ki5 nk5 kc5, .slice si5 ns5 sc5, .string (bs p5.attr), .string (bs p5.text)] 97); have HNW := hide hnw; clear hnw) | (go_at_call 125; refine (HO.out _ hx3).mono ?_; rintro e w4 ⟨rfl, hx4, fr4⟩) | (go_at_call 76; refine HI.out.mono ?_; rintro e w3 ⟨rfl, hx3, fr3⟩))
      case c2 =>
        intro u hu
        simp only [List.mem_cons, List.not_mem_nil, or_false] at hu
        rcases hu with rfl | rfl | rfl | rfl | rfl <;> rfl
      case c3 => have := HSM.out; unfold maxLen; omega
      case c4 => have := HSM.out; omega
      intro v' w7 ho hg _ hat
      obtain ⟨vi, vc, rfl⟩ : ∃ ai cap, v' = .slice ai (ps.length + 1) cap := slice_len ho
      obtain ⟨⟨cB, fB⟩, x7, hfin⟩ := HX2.out _ w7 ho hg (by simpa using hat)
      have HF := hide hfin
      clear hfin ho hg hat
      go_wp2_with (first | (go_at_call 127; refine (HS.out _ x7).mono ?_; rintro e w8 ⟨rfl, hx8, fr8⟩))
      obtain ⟨⟨pi8, pc8, hL8⟩, hlt⟩ := HF.out _ hx8 fr8
      exact ⟨⟨_, _, _, _, hL8⟩, by rw [hL8.xr.mea, hmea]; exact hlt⟩
theorem stepR_ok (hi : InRK X q (n + 1) inner) (h : XR X q w s) (n8 : n ≤ 9) (hn : s.err = 0 → s.nest = n ∧ n ≤ 8) : Calls Tryz.prog 96 #[ptr X, .bool d] w (XV X q (SV (fun b => w.heap.size ≤ b) 94 97) w (stepR q inner d s)) := by
  unfold stepR testR
  cases hb : s.is [42] with
  | true => simp only [if_true]; exact step1_ok hi h n8 hn hb rfl
  | false =>
    simp only [Bool.false_eq_true, if_false]
    cases hc : s.bl.called wText with
    | true => simp only [if_true]; exact step2_ok hi h n8 hn hb hc rfl rfl
    | false => simp only [Bool.false_eq_true, if_false]; exact step3_ok hi h n8 hn hb hc rfl rfl rfl
end Go.Proofs.YtoahlnmhjinneaaGreatDoor

set_option linter.unusedSimpArgs false
set_option linter.unusedVariables false
namespace Go.Proofs.YtoahlnmhjinneaaGreatDoor
open Go.RowKit Go.Maps Go.Lib
variable {w w' w1 w2 W0 W1 W2 W3 W4 WO wr W W5 : World} {A A' F G : Nat → Prop} {X lo n : Nat} {q l l' p : L} {s s' : RS} {v v' vp : Value} {inner : RS → Prd × RS} {d may : Bool}
theorem has_lt (hb : s.is p = true) : (s.has p).l.length + p.length ≤ s.l.length := by
  have h1 := (is_pre hb).2.1
  have h2 := (bl_suf s).length_le
  unfold RS.has
  rw [if_pos hb]
  simp only [List.length_drop]
  omega
theorem has_no (hb : s.is p = false) : s.has p = s.bl := by unfold RS.has; rw [hb]; rfl
theorem lastText_app (ls : List Stp) (st : Stp) : lastText (ls ++ [st]) = (st.test == [35]) := by unfold lastText; simp
structure MX (X : Nat) (q : L) (inner : RS → Prd × RS) (n : Nat) (may : Bool) (w : World) (lo : Nat) (Y : List Stp × RS) (wr : World) (v : Value) (ls : List Stp) (sc : RS) : Prop where
  xr : XR X q wr sc
  gs : GS lo 94 97 wr v ls
  fr : Fr (fun k => k = X ∨ lo ≤ k) w wr
  eq : ∃ f, sc.l.length < f ∧ Y = moreR q inner may f ls sc
  sm : ls.length + sc.l.length ≤ 501
  nl : ls = [] → v = nilS
  ns : sc.err = 0 → sc.nest = n ∧ n ≤ 8
  n8 : n ≤ 9
  lt : X < lo
  lz : lo ≤ wr.heap.size
abbrev MR (X : Nat) (q : L) (w : World) (lo : Nat) (Y : List Stp × RS) (e : Ending) (w' : World) : Prop := ∃ v', e = .returned v' ∧ GS lo 94 97 w' v' Y.1 ∧ (Y.1 = [] → v' = nilS) ∧ Y.1.length ≤ 501 ∧ XR X q w' Y.2 ∧ Fr (fun k => k = X ∨ lo ≤ k) w w' ∧ lo ≤ w'.heap.size
variable {Y : List Stp × RS} {ls : List Stp} {sc : RS}
theorem MX.ends (h : MX X q inner n may w lo Y wr v ls sc) {s2 : RS} (hY : Y = (ls, s2)) (f2 : Fr (fun k => k = X) wr w2) (x2 : XR X q w2 s2) : MR X q w lo Y (.returned v) w2 := by
  subst hY
  have hlt := h.lt
  exact ⟨_, rfl, h.gs.fr f2 (fun k e _ => by omega), h.nl, by have := h.sm; simp only; omega, x2, h.fr.trans f2 (fun _ _ e => Or.inl e), Nat.le_trans h.lz f2.size⟩
theorem MX.dead (h : MX X q inner n may w lo Y wr v ls sc) (he : sc.err ≠ 0) : Y = (ls, sc) := by
  obtain ⟨f, e1, e2⟩ := h.eq
  cases f with
  | zero => omega
  | succ f => rw [e2, moreR, if_pos he]
theorem MX.text (h : MX X q inner n may w lo Y wr v ls sc) (ht : lastText ls = true) : Y = (ls, sc) := by
  obtain ⟨f, e1, e2⟩ := h.eq
  cases f with
  | zero => omega
  | succ f => rw [e2, moreR]; split; rfl; first | rfl | rw [if_pos ht]
theorem MX.two (hk : ∀ s, Keeps s (inner s).2) (h : MX X q inner n may w lo Y wr v ls sc) (he : sc.err = 0) (ht : lastText ls = false) (hb : sc.is [47, 47] = true) {st : Stp} {s6 : RS} (hs : stepR q inner true (sc.has [47, 47]) = (st, s6)) : s6.l.length < sc.l.length ∧ (s6.err = 0 → s6.nest = n ∧ n ≤ 8) ∧ ∃ f, s6.l.length < f ∧ Y = moreR q inner may f (ls ++ [st]) s6 := by
  have hkp := (keeps_has sc [47, 47]).trans (keeps_step (q := q) hk true (sc.has [47, 47]))
  have h2 := (keeps_step (q := q) hk true (sc.has [47, 47])).suf.length_le
  rw [hs] at hkp h2
  have h1 := has_lt hb
  simp only [List.length_cons, List.length_nil] at h1 h2
  refine ⟨by omega, keepsN hkp h.n8 h.ns, ?_⟩
  obtain ⟨f, e1, e2⟩ := h.eq
  cases f with
  | zero => omega
  | succ f => exact ⟨f, by omega, by rw [e2, moreR, if_neg (by simpa using he), if_neg (by rw [ht]; simp), if_pos hb, hs]⟩
theorem MX.none (h : MX X q inner n may w lo Y wr v ls sc) (he : sc.err = 0) (ht : lastText ls = false) (hb : sc.is [47, 47] = false) (hb2 : sc.bl.is [47] = false) : Y = (ls, sc.bl) := by
  obtain ⟨f, e1, e2⟩ := h.eq
  cases f with
  | zero => omega
  | succ f => rw [e2, moreR, if_neg (by simpa using he), if_neg (by rw [ht]; simp), if_neg (by rw [hb]; simp), if_neg (by rw [hb2]; simp)]
theorem MX.attr (h : MX X q inner n true w lo Y wr v ls sc) (he : sc.err = 0) (ht : lastText ls = false) (hb : sc.is [47, 47] = false) (hb2 : sc.bl.is [47] = true) (hb3 : (sc.bl.has [47]).is [64] = true) : Y = (ls, { (sc.bl.has [47]).bl with l := sc.l }) := by
  obtain ⟨f, e1, e2⟩ := h.eq
  cases f with
  | zero => omega
  | succ f => rw [e2, moreR, if_neg (by simpa using he), if_neg (by rw [ht]; simp), if_neg (by rw [hb]; simp), if_pos hb2, if_pos ⟨rfl, hb3⟩]
theorem MX.one (hk : ∀ s, Keeps s (inner s).2) (h : MX X q inner n may w lo Y wr v ls sc) (he : sc.err = 0) (ht : lastText ls = false) (hb : sc.is [47, 47] = false) (hb2 : sc.bl.is [47] = true) (hb3 : may = true → (sc.bl.has [47]).is [64] = false) {s3 : RS} (h3 : (if may = true then (sc.bl.has [47]).bl else sc.bl.has [47]) = s3) {st : Stp} {s6 : RS} (hs : stepR q inner false s3 = (st, s6)) : s6.l.length < sc.l.length ∧ (s6.err = 0 → s6.nest = n ∧ n ≤ 8) ∧ ∃ f, s6.l.length < f ∧ Y = moreR q inner may f (ls ++ [st]) s6 := by
  have k3 : Keeps (sc.bl.has [47]) s3 := by rw [← h3]; split; exact keeps_bl _; exact Keeps.refl
  have hk6 := keeps_step (q := q) hk false s3
  rw [hs] at hk6
  have hkp := (((keeps_bl sc).trans (keeps_has sc.bl [47])).trans k3).trans hk6
  have h1 := has_lt hb2
  have h2 := (k3.trans hk6).suf.length_le
  have h4 := (bl_suf sc).length_le
  simp only [List.length_cons, List.length_nil] at h1 h2
  refine ⟨by omega, keepsN hkp h.n8 h.ns, ?_⟩
  obtain ⟨f, e1, e2⟩ := h.eq
  cases f with
  | zero => omega
  | succ f => exact ⟨f, by omega, by
      rw [e2, moreR, if_neg (by simpa using he), if_neg (by rw [ht]; simp), if_neg (by rw [hb]; simp), if_pos hb2, if_neg (fun x => by rw [hb3 x.1] at x; exact absurd x.2 (by simp)), h3, hs]⟩
theorem MX.push (h : MX X q inner n may w lo Y wr v ls sc) {st : Stp} {s6 : RS} (hx : s6.l.length < sc.l.length ∧ (s6.err = 0 → s6.nest = n ∧ n ≤ 8) ∧ ∃ f, s6.l.length < f ∧ Y = moreR q inner may f (ls ++ [st]) s6) {wS w6 : World} (fS : Fr (fun k => k = X) wr wS) (f6 : Fr (fun k => k = X) wS w6) (x6 : XR X q w6 s6) (sp : slP w6 (fun b => wS.heap.size ≤ b) 94 97 vp st.preds) (o1 o2 : Obj) :
    ∃ xs, ((w6.alloc o1).alloc o2).ownsRow 0 94 3 v ls.length (sCells xs) ∧ ∀ v' W7, W7.ownsRow 0 94 3 v' (ls.length + 1) (sCells xs ++ [.bool st.deep, .string (bs st.test), vp]) → ((w6.alloc o1).alloc o2).grownBy W7 v.ownBlock → (v'.ownBlock = v.ownBlock ∨ v'.ownBlock = some ((w6.alloc o1).alloc o2).heap.size) → MX X q inner n may w lo Y W7 v' (ls ++ [st]) s6 := by
  have hlt := h.lt
  have hlz := h.lz
  have hzS := fS.size
  have fo : Fr (fun _ => False) w6 (w6.alloc o1) := (Fr.refl _ w6).alloc o1
  have f6o : Fr (fun k => k = X) wS (w6.alloc o1) := f6.same (fo.mono fun _ x => x.elim)
  have hm : Move (fun b => wS.heap.size ≤ b) (fun b => wS.heap.size ≤ b) w6 (w6.alloc o1) := fun b ha hl => ⟨ha, Below.heap_alloc _ _ _ hl⟩
  have gS := h.gs.fr fS (fun k e _ => by omega)
  obtain ⟨xs, x1, x2⟩ := gS.prep (s := st) f6o (by omega) (by omega) (sp.move hm) o2
  refine ⟨xs, x1, fun v' W7 ho hg hat => ?_⟩
  obtain ⟨g1, g2, g3⟩ := x2 v' W7 ho hg hat
  exact ⟨(x6.fr fo (fun x => x)).fr g3 (by omega), g1, (h.fr.trans fS (fun _ _ e => Or.inl e)).trans g2 (fun _ _ e => e), hx.2.2, by have := h.sm; have := hx.1; simp; omega, fun e => by simp at e, hx.2.1, h.n8, h.lt, by have := g2.size; omega⟩
theorem SV.shape {A : Nat → Prop} {tS tP : TypeId} {st : Stp} (h : SV A tS tP w v st) : ∃ vi vn vc, v = .agg #[.bool st.deep, .string (bs st.test), .slice vi vn vc] ∧ slP w A tS tP (.slice vi vn vc) st.preds := by
  obtain ⟨vp, rfl, h2⟩ := h
  obtain ⟨ai, cap, rfl⟩ := sl.shape h2
  exact ⟨_, _, _, rfl, h2⟩
set_option maxHeartbeats 16000000 in
set_option maxRecDepth 100000 in
theorem moreR_ok {f : Nat} (hf : s.l.length < f) (hi : InRK X q (n + 1) inner) (h : XR X q w s) (n8 : n ≤ 9) (hn : s.err = 0 → s.nest = n ∧ n ≤ 8) (hlo : X < lo) (hlz : lo ≤ w.heap.size) {l : List Stp} (g : GS lo 94 97 w v l) (hl : l.length ≤ 1) (hnl : l = [] → v = nilS) : Calls Tryz.prog 77 #[ptr X, v, .bool may] w (MR X q w lo (moreR q inner may f l s)) := by
  obtain ⟨Y, hY⟩ : ∃ Y, moreR q inner may f l s = Y := ⟨_, rfl⟩
  rw [hY]
  have HM0 : Hid (MX X q inner n may w lo Y w v l s) := ⟨h, g, Fr.refl _ _, ⟨_, hf, hY.symm⟩, by have := h.le; have := h.q5; omega, hnl, hn, n8, hlo, hlz⟩
  have HIN := hide hi
  clear h g hY hi hn hlo hlz hl hnl n8 hf
  obtain ⟨i0, hi, hz0, hz1, hz2⟩ := info_parts info69
  go_enter Tryz.func77, Tryz.ntmps77
  go_wp2_with fail
  go_loopw [1, 7, 8, 9, 10, 11, 12, 13, 14, 15, 16, 17, 18, 19, 20, 21, 22, 23, 24, 25, 26, 27, 28, 29, 30, 31, 32, 33, 34, 35, 36, 37, 38, 39, 40, 41, 42, 43, 44, 45, 46, 47, 48, 49, 50, 51, 52, 53, 54, 55, 56, 57, 58, 59] (fun u1 _ _ _ _ _ _ _ _ _ _ _ _ _ _ _ _ _ _ _ _ _ _ _ _ _ _ _ _ _ _ _ _ _ _ _ _ _ _ _ _ _ _ _ _ _ _ _ _ _ _ _ _ _ wr => ∃ ls sc, MX X q inner n may w lo Y wr u1 ls sc) (fun _ _ _ _ _ _ _ _ _ _ _ _ _ _ _ _ _ _ _ _ _ _ _ _ _ _ _ _ _ _ _ _ _ _ _ _ _ _ _ _ _ _ _ _ _ _ _ _ _ _ _ _ _ _ wr => meaX X q wr)
  case atStart => exact ⟨_, _, HM0.out⟩
  case round =>
    rename World => WO
    obtain ⟨ls, sc, hM⟩ := hrel
    have hmea : meaX X q WO = sc.l.length := hM.xr.mea
    have HM := hide hM
    obtain ⟨c0, c1, c2, c3, c4⟩ := hM.xr.cells
    clear c0 c2 c4
    by_cases he : sc.err = 0
    · rw [he] at c3
      have c3 : WO.cell? ⟨X, 3, none⟩ = some (.int .i64 0) := c3
      rcases List.eq_nil_or_concat ls with rfl | ⟨ls', st', rfl⟩
      · have hv := hM.nl rfl
        subst hv
        have ht : lastText [] = false := rfl
        clear hM
        have hls : ([] : List Stp) = [] := rfl
        generalize hgl : ([] : List Stp) = ls at *
        have HHH := hide (hasR_ok (p := [47, 47]) HM.out.xr (by decide) (by decide))
        cases hb : sc.is [47, 47] with
        | true =>
          rw [hb] at HHH
          obtain ⟨st, s6, hs6⟩ : ∃ st s6, stepR q inner true (sc.has [47, 47]) = (st, s6) := ⟨_, _, rfl⟩
          have htwo := HM.out.two HIN.out.keeps he ht hb hs6
          have HLT := hide htwo.1
          have HPU := hide (fun wS w6 (vp : Value) fS f6 x6 sp o1 o2 => HM.out.push htwo (wS := wS) (w6 := w6) (vp := vp) fS f6 x6 sp o1 o2)
          have HSP : Hid (∀ W, XR X q W (sc.has [47, 47]) → Calls Tryz.prog 96 #[ptr X, .bool true] W (XV X q (SV (fun b => W.heap.size ≤ b) 94 97) W (st, s6))) := fun W hW => by rw [← hs6]; exact stepR_ok HIN.out hW HM.out.n8 (keepsN (keeps_has sc [47, 47]) HM.out.n8 HM.out.ns)
          clear hb htwo hs6 ht he
          go_wp2_with (first | (at_builtin; refine wpList_append_own_at _ rfl (.tmp 56) (.tmp 58) 59 rfl 0 94 i0 _ 3 48 Tryz.underlying59 hi hz0 hz1 hz2 rfl (by decide) nilS ls.length (sCells xs) rfl hx1 ⟨w6.heap.size + 1, 0, none⟩ 1 1 [.bool st.deep, .string (bs st.test), .slice vi6 vn6 vc6] rfl rfl HNW.out ?c2 ?c3 ?c4 (Nat.zero_le _) ?_) | (go_at_call 96; refine (HSP.out _ hx3).mono ?_; rintro e w6 ⟨v6, rfl, sv6, hx6, fr6⟩; obtain ⟨vi6, vn6, vc6, rfl, sp6⟩ := sv6.shape; obtain ⟨xs, hx1, hx2⟩ := HPU.out _ _ _ fr3 fr6 hx6 sp6 (.cells #[.bool st.deep, .string (bs st.test), .slice vi6 vn6 vc6] 94) (.cells #[.bool st.deep, .string (bs st.test), .slice vi6 vn6 vc6] 94); have HX2 := hide hx2; clear hx2 sp6 sv6; have hq3 := Below_new w6 (.cells #[.bool st.deep, .string (bs st.test), .slice vi6 vn6 vc6] 94); have e0 := cell_of (i := 0) hq3 rfl; have e1 := cell_of (i := 1) hq3 rfl; have e2 := cell_of (i := 2) hq3 rfl; clear hq3; have hnw := news_on [.bool st.deep, .string (bs st.test), .slice vi6 vn6 vc6] 94 w6 (.cells #[.bool st.deep, .string (bs st.test), .slice vi6 vn6 vc6] 94); have HNW := hide hnw; clear hnw) | (go_at_call 54; refine HHH.out.mono ?_; rintro e w3 ⟨rfl, hx3, fr3⟩))
          case c2 => exact three_one _ _ _ _ _
          case c3 => have := HM.out.sm; unfold maxLen; omega
          case c4 => have := HM.out.sm; omega
          intro v' w7 ho hg _ hat
          obtain ⟨vi, vc, rfl⟩ : ∃ ai cap, v' = .slice ai (ls.length + 1) cap := slice_len ho
          have hM7 := HX2.out _ w7 ho hg (by simpa using hat)
          go_wp2
          exact ⟨⟨_, _, hM7⟩, by rw [hM7.xr.mea, hmea]; exact HLT.out⟩
        | false =>
          rw [hb, has_no hb] at HHH
          cases hb2 : sc.bl.is [47] with
          | false =>
            have hY := HM.out.none he ht hb hb2
            have HH2 : Hid (∀ W, XR X q W sc.bl → Calls Tryz.prog 54 #[ptr X, .string ⟨#[47]⟩] W (XB X q W false sc.bl.bl)) := fun W hW => by have := hasR_ok (p := [47]) hW (by decide) (by decide); rw [hb2, has_no hb2] at this; exact this
            rw [bl_bl] at HH2
            have HEN := hide (fun w2 f2 x2 => HM.out.ends hY (w2 := w2) f2 x2)
            clear hb hb2 hY ht he
            go_wp2_with (first | (go_at_call 54; refine (HH2.out _ hx3).mono ?_; rintro e w4 ⟨rfl, hx4, fr4⟩) | (go_at_call 54; refine HHH.out.mono ?_; rintro e w3 ⟨rfl, hx3, fr3⟩))
            go_ret
            exact HEN.out _ (fr3.same fr4) hx4
          | true =>
            have HH2 : Hid (∀ W, XR X q W sc.bl → Calls Tryz.prog 54 #[ptr X, .string ⟨#[47]⟩] W (XB X q W true (sc.bl.has [47]))) := fun W hW => by have := hasR_ok (p := [47]) hW (by decide) (by decide); rw [hb2] at this; exact this
            cases may with
            | false =>
              obtain ⟨st, s6, hs6⟩ : ∃ st s6, stepR q inner false (sc.bl.has [47]) = (st, s6) := ⟨_, _, rfl⟩
              have htwo := HM.out.one HIN.out.keeps he ht hb hb2 (fun x => by cases x) (s3 := sc.bl.has [47]) rfl hs6
              have HLT := hide htwo.1
              have HPU := hide (fun wS w6 (vp : Value) fS f6 x6 sp o1 o2 => HM.out.push htwo (wS := wS) (w6 := w6) (vp := vp) fS f6 x6 sp o1 o2)
              have HSP : Hid (∀ W, XR X q W (sc.bl.has [47]) → Calls Tryz.prog 96 #[ptr X, .bool false] W (XV X q (SV (fun b => W.heap.size ≤ b) 94 97) W (st, s6))) := fun W hW => by rw [← hs6]; exact stepR_ok HIN.out hW HM.out.n8 (keepsN ((keeps_bl sc).trans (keeps_has sc.bl [47])) HM.out.n8 HM.out.ns)
              clear hb htwo hs6 hb2 ht he
              go_wp2_with (first | (at_builtin; refine wpList_append_own_at _ rfl (.tmp 56) (.tmp 58) 59 rfl 0 94 i0 _ 3 48 Tryz.underlying59 hi hz0 hz1 hz2 rfl (by decide) nilS ls.length (sCells xs) rfl hx1 ⟨w6.heap.size + 1, 0, none⟩ 1 1 [.bool st.deep, .string (bs st.test), .slice vi6 vn6 vc6] rfl rfl HNW.out ?c2 ?c3 ?c4 (Nat.zero_le _) ?_) | (go_at_call 96; refine (HSP.out _ hx4).mono ?_; rintro e w6 ⟨v6, rfl, sv6, hx6, fr6⟩; obtain ⟨vi6, vn6, vc6, rfl, sp6⟩ := sv6.shape; obtain ⟨xs, hx1, hx2⟩ := HPU.out _ _ _ (fr3.same fr4) fr6 hx6 sp6 (.cells #[.bool st.deep, .string (bs st.test), .slice vi6 vn6 vc6] 94) (.cells #[.bool st.deep, .string (bs st.test), .slice vi6 vn6 vc6] 94); have HX2 := hide hx2; clear hx2 sp6 sv6; have hq3 := Below_new w6 (.cells #[.bool st.deep, .string (bs st.test), .slice vi6 vn6 vc6] 94); have e0 := cell_of (i := 0) hq3 rfl; have e1 := cell_of (i := 1) hq3 rfl; have e2 := cell_of (i := 2) hq3 rfl; clear hq3; have hnw := news_on [.bool st.deep, .string (bs st.test), .slice vi6 vn6 vc6] 94 w6 (.cells #[.bool st.deep, .string (bs st.test), .slice vi6 vn6 vc6] 94); have HNW := hide hnw; clear hnw) | (go_at_call 54; refine (HH2.out _ hx3).mono ?_; rintro e w4 ⟨rfl, hx4, fr4⟩) | (go_at_call 54; refine HHH.out.mono ?_; rintro e w3 ⟨rfl, hx3, fr3⟩))
              case c2 => exact three_one _ _ _ _ _
              case c3 => have := HM.out.sm; unfold maxLen; omega
              case c4 => have := HM.out.sm; omega
              intro v' w7 ho hg _ hat
              obtain ⟨vi, vc, rfl⟩ : ∃ ai cap, v' = .slice ai (ls.length + 1) cap := slice_len ho
              have hM7 := HX2.out _ w7 ho hg (by simpa using hat)
              go_wp2
              exact ⟨⟨_, _, hM7⟩, by rw [hM7.xr.mea, hmea]; exact HLT.out⟩
            | true =>
              have HI3 : Hid (∀ W, XR X q W (sc.bl.has [47]) → Calls Tryz.prog 76 #[ptr X, .string ⟨#[64]⟩] W (XB X q W ((sc.bl.has [47]).is [64]) (sc.bl.has [47]).bl)) := fun W hW => isR_ok (p := [64]) hW (by decide) (by decide)
              cases hb3 : (sc.bl.has [47]).is [64] with
              | true =>
                rw [hb3] at HI3
                have hY := HM.out.attr he ht hb hb2 hb3
                have HST : Hid (∀ W, XR X q W (sc.bl.has [47]).bl → W.cell? ⟨X, 1, none⟩ = some (.int .i64 ((q.length - (sc.bl.has [47]).bl.l.length : Nat) : Int)) ∧ W.frozen? ⟨X, 1, none⟩ = false ∧ XR X q (W.setCell ⟨X, 1, none⟩ (.int .i64 ((q.length - sc.l.length : Nat) : Int))) { (sc.bl.has [47]).bl with l := sc.l } ∧ Fr (fun k => k = X) W (W.setCell ⟨X, 1, none⟩ (.int .i64 ((q.length - sc.l.length : Nat) : Int)))) := fun W hW => ⟨hW.cells.2.1, free_of hW.blk, hW.setL HM.out.xr.suf, fr_set _ _ _ _⟩
                have HEN := hide (fun w2 f2 x2 => HM.out.ends hY (w2 := w2) f2 x2)
                clear hb hb2 hb3 hY ht he
                generalize q.length - sc.l.length = K at *
                go_wp2_with (first | (go_at_call 76; refine (HI3.out _ hx4).mono ?_; rintro e w5 ⟨rfl, hx5, fr5⟩; obtain ⟨c5, f5, hx8, fr8⟩ := HST.out _ hx5) | (go_at_call 54; refine (HH2.out _ hx3).mono ?_; rintro e w4 ⟨rfl, hx4, fr4⟩) | (go_at_call 54; refine HHH.out.mono ?_; rintro e w3 ⟨rfl, hx3, fr3⟩))
                go_ret
                exact HEN.out _ (((fr3.same fr4).same fr5).same fr8) hx8
              | false =>
                rw [hb3] at HI3
                obtain ⟨st, s6, hs6⟩ : ∃ st s6, stepR q inner false (sc.bl.has [47]).bl = (st, s6) := ⟨_, _, rfl⟩
                have htwo := HM.out.one HIN.out.keeps he ht hb hb2 (fun _ => hb3) (s3 := (sc.bl.has [47]).bl) rfl hs6
                have HLT := hide htwo.1
                have HPU := hide (fun wS w6 (vp : Value) fS f6 x6 sp o1 o2 => HM.out.push htwo (wS := wS) (w6 := w6) (vp := vp) fS f6 x6 sp o1 o2)
                have HSP : Hid (∀ W, XR X q W (sc.bl.has [47]).bl → Calls Tryz.prog 96 #[ptr X, .bool false] W (XV X q (SV (fun b => W.heap.size ≤ b) 94 97) W (st, s6))) := fun W hW => by rw [← hs6]; exact stepR_ok HIN.out hW HM.out.n8 (keepsN (((keeps_bl sc).trans (keeps_has sc.bl [47])).trans (keeps_bl _)) HM.out.n8 HM.out.ns)
                clear hb htwo hs6 hb2 hb3 ht he
                go_wp2_with (first | (at_builtin; refine wpList_append_own_at _ rfl (.tmp 56) (.tmp 58) 59 rfl 0 94 i0 _ 3 48 Tryz.underlying59 hi hz0 hz1 hz2 rfl (by decide) nilS ls.length (sCells xs) rfl hx1 ⟨w6.heap.size + 1, 0, none⟩ 1 1 [.bool st.deep, .string (bs st.test), .slice vi6 vn6 vc6] rfl rfl HNW.out ?c2 ?c3 ?c4 (Nat.zero_le _) ?_) | (go_at_call 96; refine (HSP.out _ hx5).mono ?_; rintro e w6 ⟨v6, rfl, sv6, hx6, fr6⟩; obtain ⟨vi6, vn6, vc6, rfl, sp6⟩ := sv6.shape; obtain ⟨xs, hx1, hx2⟩ := HPU.out _ _ _ ((fr3.same fr4).same fr5) fr6 hx6 sp6 (.cells #[.bool st.deep, .string (bs st.test), .slice vi6 vn6 vc6] 94) (.cells #[.bool st.deep, .string (bs st.test), .slice vi6 vn6 vc6] 94); have HX2 := hide hx2; clear hx2 sp6 sv6; have hq3 := Below_new w6 (.cells #[.bool st.deep, .string (bs st.test), .slice vi6 vn6 vc6] 94); have e0 := cell_of (i := 0) hq3 rfl; have e1 := cell_of (i := 1) hq3 rfl; have e2 := cell_of (i := 2) hq3 rfl; clear hq3; have hnw := news_on [.bool st.deep, .string (bs st.test), .slice vi6 vn6 vc6] 94 w6 (.cells #[.bool st.deep, .string (bs st.test), .slice vi6 vn6 vc6] 94); have HNW := hide hnw; clear hnw) | (go_at_call 76; refine (HI3.out _ hx4).mono ?_; rintro e w5 ⟨rfl, hx5, fr5⟩) | (go_at_call 54; refine (HH2.out _ hx3).mono ?_; rintro e w4 ⟨rfl, hx4, fr4⟩) | (go_at_call 54; refine HHH.out.mono ?_; rintro e w3 ⟨rfl, hx3, fr3⟩))
                case c2 => exact three_one _ _ _ _ _
                case c3 => have := HM.out.sm; unfold maxLen; omega
                case c4 => have := HM.out.sm; omega
                intro v' w7 ho hg _ hat
                obtain ⟨vi, vc, rfl⟩ : ∃ ai cap, v' = .slice ai (ls.length + 1) cap := slice_len ho
                have hM7 := HX2.out _ w7 ho hg (by simpa using hat)
                go_wp2
                exact ⟨⟨_, _, hM7⟩, by rw [hM7.xr.mea, hmea]; exact HLT.out⟩
      · rw [List.concat_eq_append] at *
        obtain ⟨g, cap, hv, hcl⟩ := hM.gs.last
        have hsm := hM.sm
        have htt := lastText_app ls' st'
        obtain ⟨b0, hb0⟩ : ∃ b, (st'.test == [35]) = b := ⟨_, rfl⟩
        rw [hb0] at htt
        have e0 : ((bs st'.test).toList == [35]) = b0 := by rw [bs_toL]; exact hb0
        generalize bs st'.test = TT at *
        have hlen : (ls' ++ [st']).length = ls'.length + 1 := by simp
        rw [← hlen] at hv
        generalize ls' ++ [st'] = ls at *
        generalize ls'.length = k at *
        subst hv
        have hw1 : IntKind.i64.wrap ((ls.length : Int) - 1) = (k : Int) := by rw [IntKind.wrap_i64]; omega
        have hk1 : (k : Int) < (ls.length : Int) := by omega
        have hk2 : 0 < ls.length := by omega
        have hk3 : k < ls.length := by omega
        clear hb0 hsm
        cases b0 with
        | true =>
          have hY := hM.text htt
          have HEN := hide (fun w2 f2 x2 => hM.ends hY (w2 := w2) f2 x2)
          have HXR := hide hM.xr
          clear hM he hY htt hlen
          go_wp2_with fail
          go_ret
          exact HEN.out _ (Fr.refl _ _) HXR.out
        | false =>
          have ht := htt
          clear hM htt hlen
          have HHH := hide (hasR_ok (p := [47, 47]) HM.out.xr (by decide) (by decide))
          cases hb : sc.is [47, 47] with
          | true =>
            rw [hb] at HHH
            obtain ⟨st, s6, hs6⟩ : ∃ st s6, stepR q inner true (sc.has [47, 47]) = (st, s6) := ⟨_, _, rfl⟩
            have htwo := HM.out.two HIN.out.keeps he ht hb hs6
            have HLT := hide htwo.1
            have HPU := hide (fun wS w6 (vp : Value) fS f6 x6 sp o1 o2 => HM.out.push htwo (wS := wS) (w6 := w6) (vp := vp) fS f6 x6 sp o1 o2)
            have HSP : Hid (∀ W, XR X q W (sc.has [47, 47]) → Calls Tryz.prog 96 #[ptr X, .bool true] W (XV X q (SV (fun b => W.heap.size ≤ b) 94 97) W (st, s6))) := fun W hW => by rw [← hs6]; exact stepR_ok HIN.out hW HM.out.n8 (keepsN (keeps_has sc [47, 47]) HM.out.n8 HM.out.ns)
            clear hb htwo hs6 ht he
            go_wp2_with (first | (at_builtin; refine wpList_append_own_at _ rfl (.tmp 56) (.tmp 58) 59 rfl 0 94 i0 _ 3 48 Tryz.underlying59 hi hz0 hz1 hz2 rfl (by decide) (.slice (some ⟨g, 0, none⟩) ls.length cap) ls.length (sCells xs) rfl hx1 ⟨w6.heap.size + 1, 0, none⟩ 1 1 [.bool st.deep, .string (bs st.test), .slice vi6 vn6 vc6] rfl rfl HNW.out ?c2 ?c3 ?c4 (Nat.zero_le _) ?_) | (go_at_call 96; refine (HSP.out _ hx3).mono ?_; rintro e w6 ⟨v6, rfl, sv6, hx6, fr6⟩; obtain ⟨vi6, vn6, vc6, rfl, sp6⟩ := sv6.shape; obtain ⟨xs, hx1, hx2⟩ := HPU.out _ _ _ fr3 fr6 hx6 sp6 (.cells #[.bool st.deep, .string (bs st.test), .slice vi6 vn6 vc6] 94) (.cells #[.bool st.deep, .string (bs st.test), .slice vi6 vn6 vc6] 94); have HX2 := hide hx2; clear hx2 sp6 sv6; have hq3 := Below_new w6 (.cells #[.bool st.deep, .string (bs st.test), .slice vi6 vn6 vc6] 94); have e0 := cell_of (i := 0) hq3 rfl; have e1 := cell_of (i := 1) hq3 rfl; have e2 := cell_of (i := 2) hq3 rfl; clear hq3; have hnw := news_on [.bool st.deep, .string (bs st.test), .slice vi6 vn6 vc6] 94 w6 (.cells #[.bool st.deep, .string (bs st.test), .slice vi6 vn6 vc6] 94); have HNW := hide hnw; clear hnw) | (go_at_call 54; refine HHH.out.mono ?_; rintro e w3 ⟨rfl, hx3, fr3⟩))
            case c2 => exact three_one _ _ _ _ _
            case c3 => have := HM.out.sm; unfold maxLen; omega
            case c4 => have := HM.out.sm; omega
            intro v' w7 ho hg _ hat
            obtain ⟨vi, vc, rfl⟩ : ∃ ai cap, v' = .slice ai (ls.length + 1) cap := slice_len ho
            have hM7 := HX2.out _ w7 ho hg (by simpa using hat)
            go_wp2
            exact ⟨⟨_, _, hM7⟩, by rw [hM7.xr.mea, hmea]; exact HLT.out⟩
          | false =>
            rw [hb, has_no hb] at HHH
            cases hb2 : sc.bl.is [47] with
            | false =>
              have hY := HM.out.none he ht hb hb2
              have HH2 : Hid (∀ W, XR X q W sc.bl → Calls Tryz.prog 54 #[ptr X, .string ⟨#[47]⟩] W (XB X q W false sc.bl.bl)) := fun W hW => by have := hasR_ok (p := [47]) hW (by decide) (by decide); rw [hb2, has_no hb2] at this; exact this
              rw [bl_bl] at HH2
              have HEN := hide (fun w2 f2 x2 => HM.out.ends hY (w2 := w2) f2 x2)
              clear hb hb2 hY ht he
              go_wp2_with (first | (go_at_call 54; refine (HH2.out _ hx3).mono ?_; rintro e w4 ⟨rfl, hx4, fr4⟩) | (go_at_call 54; refine HHH.out.mono ?_; rintro e w3 ⟨rfl, hx3, fr3⟩))
              go_ret
              exact HEN.out _ (fr3.same fr4) hx4
            | true =>
              have HH2 : Hid (∀ W, XR X q W sc.bl → Calls Tryz.prog 54 #[ptr X, .string ⟨#[47]⟩] W (XB X q W true (sc.bl.has [47]))) := fun W hW => by have := hasR_ok (p := [47]) hW (by decide) (by decide); rw [hb2] at this; exact this
              cases may with
              | false =>
                obtain ⟨st, s6, hs6⟩ : ∃ st s6, stepR q inner false (sc.bl.has [47]) = (st, s6) := ⟨_, _, rfl⟩
                have htwo := HM.out.one HIN.out.keeps he ht hb hb2 (fun x => by cases x) (s3 := sc.bl.has [47]) rfl hs6
                have HLT := hide htwo.1
                have HPU := hide (fun wS w6 (vp : Value) fS f6 x6 sp o1 o2 => HM.out.push htwo (wS := wS) (w6 := w6) (vp := vp) fS f6 x6 sp o1 o2)
                have HSP : Hid (∀ W, XR X q W (sc.bl.has [47]) → Calls Tryz.prog 96 #[ptr X, .bool false] W (XV X q (SV (fun b => W.heap.size ≤ b) 94 97) W (st, s6))) := fun W hW => by rw [← hs6]; exact stepR_ok HIN.out hW HM.out.n8 (keepsN ((keeps_bl sc).trans (keeps_has sc.bl [47])) HM.out.n8 HM.out.ns)
                clear hb htwo hs6 hb2 ht he
                go_wp2_with (first | (at_builtin; refine wpList_append_own_at _ rfl (.tmp 56) (.tmp 58) 59 rfl 0 94 i0 _ 3 48 Tryz.underlying59 hi hz0 hz1 hz2 rfl (by decide) (.slice (some ⟨g, 0, none⟩) ls.length cap) ls.length (sCells xs) rfl hx1 ⟨w6.heap.size + 1, 0, none⟩ 1 1 [.bool st.deep, .string (bs st.test), .slice vi6 vn6 vc6] rfl rfl HNW.out ?c2 ?c3 ?c4 (Nat.zero_le _) ?_) | (go_at_call 96; refine (HSP.out _ hx4).mono ?_; rintro e w6 ⟨v6, rfl, sv6, hx6, fr6⟩; obtain ⟨vi6, vn6, vc6, rfl, sp6⟩ := sv6.shape; obtain ⟨xs, hx1, hx2⟩ := HPU.out _ _ _ (fr3.same fr4) fr6 hx6 sp6 (.cells #[.bool st.deep, .string (bs st.test), .slice vi6 vn6 vc6] 94) (.cells #[.bool st.deep, .string (bs st.test), .slice vi6 vn6 vc6] 94); have HX2 := hide hx2; clear hx2 sp6 sv6; have hq3 := Below_new w6 (.cells #[.bool st.deep, .string (bs st.test), .slice vi6 vn6 vc6] 94); have e0 := cell_of (i := 0) hq3 rfl; have e1 := cell_of (i := 1) hq3 rfl; have e2 := cell_of (i := 2) hq3 rfl; clear hq3; have hnw := news_on [.bool st.deep, .string (bs st.test), .slice vi6 vn6 vc6] 94 w6 (.cells #[.bool st.deep, .string (bs st.test), .slice vi6 vn6 vc6] 94); have HNW := hide hnw; clear hnw) | (go_at_call 54; refine (HH2.out _ hx3).mono ?_; rintro e w4 ⟨rfl, hx4, fr4⟩) | (go_at_call 54; refine HHH.out.mono ?_; rintro e w3 ⟨rfl, hx3, fr3⟩))
                case c2 => exact three_one _ _ _ _ _
                case c3 => have := HM.out.sm; unfold maxLen; omega
                case c4 => have := HM.out.sm; omega
                intro v' w7 ho hg _ hat
                obtain ⟨vi, vc, rfl⟩ : ∃ ai cap, v' = .slice ai (ls.length + 1) cap := slice_len ho
                have hM7 := HX2.out _ w7 ho hg (by simpa using hat)
                go_wp2
                exact ⟨⟨_, _, hM7⟩, by rw [hM7.xr.mea, hmea]; exact HLT.out⟩
              | true =>
                have HI3 : Hid (∀ W, XR X q W (sc.bl.has [47]) → Calls Tryz.prog 76 #[ptr X, .string ⟨#[64]⟩] W (XB X q W ((sc.bl.has [47]).is [64]) (sc.bl.has [47]).bl)) := fun W hW => isR_ok (p := [64]) hW (by decide) (by decide)
                cases hb3 : (sc.bl.has [47]).is [64] with
                | true =>
                  rw [hb3] at HI3
                  have hY := HM.out.attr he ht hb hb2 hb3
                  have HST : Hid (∀ W, XR X q W (sc.bl.has [47]).bl → W.cell? ⟨X, 1, none⟩ = some (.int .i64 ((q.length - (sc.bl.has [47]).bl.l.length : Nat) : Int)) ∧ W.frozen? ⟨X, 1, none⟩ = false ∧ XR X q (W.setCell ⟨X, 1, none⟩ (.int .i64 ((q.length - sc.l.length : Nat) : Int))) { (sc.bl.has [47]).bl with l := sc.l } ∧ Fr (fun k => k = X) W (W.setCell ⟨X, 1, none⟩ (.int .i64 ((q.length - sc.l.length : Nat) : Int)))) := fun W hW => ⟨hW.cells.2.1, free_of hW.blk, hW.setL HM.out.xr.suf, fr_set _ _ _ _⟩
                  have HEN := hide (fun w2 f2 x2 => HM.out.ends hY (w2 := w2) f2 x2)
                  clear hb hb2 hb3 hY ht he
                  generalize q.length - sc.l.length = K at *
                  go_wp2_with (first | (go_at_call 76; refine (HI3.out _ hx4).mono ?_; rintro e w5 ⟨rfl, hx5, fr5⟩; obtain ⟨c5, f5, hx8, fr8⟩ := HST.out _ hx5) | (go_at_call 54; refine (HH2.out _ hx3).mono ?_; rintro e w4 ⟨rfl, hx4, fr4⟩) | (go_at_call 54; refine HHH.out.mono ?_; rintro e w3 ⟨rfl, hx3, fr3⟩))
                  go_ret
                  exact HEN.out _ (((fr3.same fr4).same fr5).same fr8) hx8
                | false =>
                  rw [hb3] at HI3
                  obtain ⟨st, s6, hs6⟩ : ∃ st s6, stepR q inner false (sc.bl.has [47]).bl = (st, s6) := ⟨_, _, rfl⟩
                  have htwo := HM.out.one HIN.out.keeps he ht hb hb2 (fun _ => hb3) (s3 := (sc.bl.has [47]).bl) rfl hs6
                  have HLT := hide htwo.1
                  have HPU := hide (fun wS w6 (vp : Value) fS f6 x6 sp o1 o2 => HM.out.push htwo (wS := wS) (w6 := w6) (vp := vp) fS f6 x6 sp o1 o2)
                  have HSP : Hid (∀ W, XR X q W (sc.bl.has [47]).bl → Calls Tryz.prog 96 #[ptr X, .bool false] W (XV X q (SV (fun b => W.heap.size ≤ b) 94 97) W (st, s6))) := fun W hW => by rw [← hs6]; exact stepR_ok HIN.out hW HM.out.n8 (keepsN (((keeps_bl sc).trans (keeps_has sc.bl [47])).trans (keeps_bl _)) HM.out.n8 HM.out.ns)
                  clear hb htwo hs6 hb2 hb3 ht he
                  go_wp2_with (first | (at_builtin; refine wpList_append_own_at _ rfl (.tmp 56) (.tmp 58) 59 rfl 0 94 i0 _ 3 48 Tryz.underlying59 hi hz0 hz1 hz2 rfl (by decide) (.slice (some ⟨g, 0, none⟩) ls.length cap) ls.length (sCells xs) rfl hx1 ⟨w6.heap.size + 1, 0, none⟩ 1 1 [.bool st.deep, .string (bs st.test), .slice vi6 vn6 vc6] rfl rfl HNW.out ?c2 ?c3 ?c4 (Nat.zero_le _) ?_) | (go_at_call 96; refine (HSP.out _ hx5).mono ?_; rintro e w6 ⟨v6, rfl, sv6, hx6, fr6⟩; obtain ⟨vi6, vn6, vc6, rfl, sp6⟩ := sv6.shape; obtain ⟨xs, hx1, hx2⟩ := HPU.out _ _ _ ((fr3.same fr4).same fr5) fr6 hx6 sp6 (.cells #[.bool st.deep, .string (bs st.test), .slice vi6 vn6 vc6] 94) (.cells #[.bool st.deep, .string (bs st.test), .slice vi6 vn6 vc6] 94); have HX2 := hide hx2; clear hx2 sp6 sv6; have hq3 := Below_new w6 (.cells #[.bool st.deep, .string (bs st.test), .slice vi6 vn6 vc6] 94); have e0 := cell_of (i := 0) hq3 rfl; have e1 := cell_of (i := 1) hq3 rfl; have e2 := cell_of (i := 2) hq3 rfl; clear hq3; have hnw := news_on [.bool st.deep, .string (bs st.test), .slice vi6 vn6 vc6] 94 w6 (.cells #[.bool st.deep, .string (bs st.test), .slice vi6 vn6 vc6] 94); have HNW := hide hnw; clear hnw) | (go_at_call 76; refine (HI3.out _ hx4).mono ?_; rintro e w5 ⟨rfl, hx5, fr5⟩) | (go_at_call 54; refine (HH2.out _ hx3).mono ?_; rintro e w4 ⟨rfl, hx4, fr4⟩) | (go_at_call 54; refine HHH.out.mono ?_; rintro e w3 ⟨rfl, hx3, fr3⟩))
                  case c2 => exact three_one _ _ _ _ _
                  case c3 => have := HM.out.sm; unfold maxLen; omega
                  case c4 => have := HM.out.sm; omega
                  intro v' w7 ho hg _ hat
                  obtain ⟨vi, vc, rfl⟩ : ∃ ai cap, v' = .slice ai (ls.length + 1) cap := slice_len ho
                  have hM7 := HX2.out _ w7 ho hg (by simpa using hat)
                  go_wp2
                  exact ⟨⟨_, _, hM7⟩, by rw [hM7.xr.mea, hmea]; exact HLT.out⟩
    · have hY := hM.dead he
      have hb : ((sc.err : Int) == 0) = false := by simp; omega
      have hb2 : (sc.err == 0) = false := by simpa using he
      have HEN := hide (fun w2 f2 x2 => hM.ends hY (w2 := w2) f2 x2)
      have HXR := hide hM.xr
      clear hM he hY
      go_wp2_with fail
      go_ret
      exact HEN.out _ (Fr.refl _ _) HXR.out
end Go.Proofs.YtoahlnmhjinneaaGreatDoor
