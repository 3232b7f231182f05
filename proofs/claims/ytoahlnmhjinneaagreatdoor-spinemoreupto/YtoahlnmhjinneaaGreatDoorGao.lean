import Derived.Test.YtoahlnmhjinneaaGreatDoorGan
set_option linter.unusedVariables false
set_option linter.unusedSimpArgs false
set_option linter.unusedSimpArgs false
set_option linter.unusedVariables false
namespace Go.Proofs.YtoahlnmhjinneaaGreatDoor
open Go.RowKit Go.Maps Go.Lib
variable {w w' w1 w2 w5 w7 W0 W1 W2 W3 W4 WO wr W W5 W8 WR : World} {A A' F G : Nat → Prop} {X lo n Bp : Nat} {q l l' p word : L} {s s' s5 s7 : RS} {v v' v5 vp : Value} {inner read : RS → Prd × RS} {ls : List Stp} {Y : List Stp × RS}
theorem VT.of (hX : X < w.heap.size) (f : Fr (fun k => k = X) (w.alloc (.cells zero5 97)) WR) (hlo : w.heap.size + 1 ≤ lo) (ne : Y.1 ≠ []) (m : MR X q WR lo Y (.returned v5) W5) : VT X q w W5 v5 Y.1 Y.2 := by
  obtain ⟨v', e, g, a, b, c, f2, z⟩ := m
  cases e
  have bq := (zbox f hX).1
  have f0 : Fr (fun _ => False) w (w.alloc (.cells zero5 97)) := (Fr.refl _ w).alloc _
  exact ⟨c, (f2.block _ (blk_lt bq) (by omega)).trans bq, g.wider hlo, ne, b, (((f0.mono fun _ x => x.elim).same f).mono fun _ e => Or.inl e).trans f2 (fun i hi x => by rcases x with x | x; exact Or.inl x; exact Or.inr (by omega)), hX⟩
theorem VT.last (h : VT X q w w5 v5 ls s5) : ∃ g cap k TT, v5 = .slice (some ⟨g, 0, none⟩) ls.length cap ∧ ls.length = k + 1 ∧ k ≤ 500 ∧ (TT.toList == [35]) = lastText ls ∧ ∀ o, (w5.alloc o).cell? ⟨g, k * 3 + 1, none⟩ = some (.string TT) := by
  rcases List.eq_nil_or_concat ls with e | ⟨ls', st', rfl⟩
  · exact absurd e h.ne
  · have hg := h.gs
    rw [List.concat_eq_append] at hg
    obtain ⟨g, cap, hv, hcl⟩ := hg.last
    have hsm := h.sm
    refine ⟨g, cap, ls'.length, bs st'.test, by rw [hv]; simp, by simp, by simp at hsm; omega, by rw [bs_toL, List.concat_eq_append, lastText_app], fun o => ?_⟩
    exact (World.cell?_of_block (Below.heap_alloc _ _ _ (World.block_lt_of_cell? w5 _ hcl))).trans hcl
theorem VT.errc (h : VT X q w w5 v5 ls s5) (o : Obj) : (w5.alloc o).cell? ⟨X, 3, none⟩ = some (.int .i64 s5.err) := by
  exact ((h.xr.fr ((Fr.refl (fun _ => False) w5).alloc o) (fun x => x)).cells).2.2.2.1
end Go.Proofs.YtoahlnmhjinneaaGreatDoor

set_option linter.unusedSimpArgs false
set_option linter.unusedVariables false
namespace Go.Proofs.YtoahlnmhjinneaaGreatDoor
open Go.RowKit Go.Maps Go.Lib
variable {w w' w1 w2 w5 w7 W0 W1 W2 W3 W4 WO wr W W5 W8 WR : World} {A A' F G : Nat → Prop} {X lo n Bp : Nat} {q l l' p word : L} {s s' s5 s7 : RS} {v v' v5 vp : Value} {inner read : RS → Prd × RS} {ls : List Stp}
theorem last_nums {k m : Nat} (h : m = k + 1) (hk : k ≤ 500) : IntKind.i64.wrap ((m : Int) - 1) = (k : Int) ∧ (k : Int) < (m : Int) ∧ k < m ∧ 0 < m := by
  refine ⟨?_, by omega, by omega, by omega⟩
  rw [IntKind.wrap_i64]; omega
theorem VT.set (h : VT X q w w5 v5 ls s5) (f : Fr (fun k => k = X) (w5.alloc (.cells (pbox v5 ⟨#[]⟩) 97)) w7) (a : L) : ∃ W9, w7.setCell ⟨w5.heap.size, 3, none⟩ (.string (bs a)) = W9 ∧ W9.heap[w.heap.size]? = some (.cells zero5 97 (0, 0)) ∧ W9.heap[w5.heap.size]? = some (.cells (pbox v5 (bs a)) 97 (0, 0)) ∧ Fr (fun k => k = X ∨ k = w5.heap.size) (w5.alloc (.cells (pbox v5 ⟨#[]⟩) 97)) W9 ∧ (∀ s7, XR X q w7 s7 → XR X q W9 s7) := by
  obtain ⟨b1, b2⟩ := h.boxes f
  have hz := blk_lt h.bq
  have hX := h.xr.lt
  have fs : Fr (fun k => k = w5.heap.size) w7 (w7.setCell ⟨w5.heap.size, 3, none⟩ (.string (bs a))) := fr_set _ _ _ _
  exact ⟨_, rfl, (fs.block _ (blk_lt b1) (by omega)).trans b1, set_of b2 _, (f.mono fun _ e => Or.inl e).same (fs.mono fun _ e => Or.inr e), fun s7 x => x.fr fs (by omega)⟩
set_option maxHeartbeats 8000000 in
set_option maxRecDepth 100000 in
theorem value3_ok (hi : InRK X q (n + 1) inner) (h : XR X q w s) (n8 : n ≤ 9) (hn : s.err = 0 → s.nest = n ∧ n ≤ 8) (hb : s.is [64] = false) (hb2 : s.bl.is [46] = true) (hb3 : (s.bl.has [46]).is [47, 47] = true) (hY : moreR q inner true ((s.bl.has [46]).l.length + 1) [] (s.bl.has [46]).bl = (ls, s5)) : Calls Tryz.prog 169 #[ptr X] w (XV X q (PV (fun b => w.heap.size ≤ b) 94 97) w (attrR q s5 ls)) := by
  have hX := h.lt
  have f0 : Fr (fun _ => False) w (w.alloc (.cells zero5 97)) := (Fr.refl _ w).alloc _
  have HH := hide (hasR_ok (p := [64]) (h.fr f0 (fun x => x)) (by decide) (by decide))
  rw [hb, has_no hb] at HH
  have HH2 : Hid (∀ W, XR X q W s.bl → Calls Tryz.prog 54 #[ptr X, .string ⟨#[46]⟩] W (XB X q W true (s.bl.has [46]))) := fun W hW => by have := hasR_ok (p := [46]) hW (by decide) (by decide); rw [hb2] at this; exact this
  have HI : Hid (∀ W, XR X q W (s.bl.has [46]) → Calls Tryz.prog 76 #[ptr X, .string ⟨#[47, 47]⟩] W (XB X q W true (s.bl.has [46]).bl)) := fun W hW => by have := isR_ok (p := [47, 47]) hW (by decide) (by decide); rw [hb3] at this; exact this
  have hns := keepsN (((keeps_bl s).trans (keeps_has s.bl [46])).trans (keeps_bl _)) n8 hn
  have hlen : (s.bl.has [46]).bl.l.length < (s.bl.has [46]).l.length + 1 := by have := (bl_suf (s.bl.has [46])).length_le; omega
  have hne : ls ≠ [] := by
    have := more_some (q := q) (inner := inner) true (f := (s.bl.has [46]).l.length) (s := (s.bl.has [46]).bl) (by rw [is_bl]; exact hb3)
    rw [hY] at this; exact this
  have HMO : Hid (∀ W, XR X q W (s.bl.has [46]).bl → Calls Tryz.prog 77 #[ptr X, .slice none 0 0, .bool true] W (MR X q W W.heap.size (ls, s5))) := fun W hW => by
    rw [← hY]; exact moreR_ok hlen hi hW n8 hns hW.lt (Nat.le_refl _) (GS.zero (lo := W.heap.size)) (by simp) (fun _ => rfl)
  have HV : Hid (∀ W4 e W5, Fr (fun k => k = X) (w.alloc (.cells zero5 97)) W4 → MR X q W4 W4.heap.size (ls, s5) e W5 → ∃ v5, e = .returned v5 ∧ VT X q w W5 v5 ls s5) := fun W4 e W5 f m => by
    obtain ⟨v', rfl, m2⟩ := m
    exact ⟨v', rfl, VT.of (Y := (ls, s5)) hX f (by have := f.size; simp at this; omega) hne ⟨v', rfl, m2⟩⟩
  clear hb hb2 hb3 hY hns hlen hne hn hi h f0
  generalize (s.bl.has [46]).bl = s3 at *
  generalize s.bl.has [46] = s2 at *
  by_cases he : s5.err = 0
  · have HE := hide he
    cases ht : lastText ls with
    | true =>
      have hA : attrR q s5 ls = (⟨[], .nil, Stps.of ls, [], []⟩, s5) := by unfold attrR; rw [ht]; simp
      rw [hA]
      have HT := hide ht
      clear he ht hA
      go_enter Tryz.func169, Tryz.ntmps169
      go_wp2_with (first | (go_at_call 77; refine (HMO.out _ hx4).mono ?_; rintro e w5 hm; obtain ⟨v5, rfl, hvt⟩ := HV.out _ _ _ ((fr2.same fr3).same fr4) hm; clear hm; have HVT := hide hvt; obtain ⟨g, cap, k, TT, rfl, hlen, hk5, hTT, hcl⟩ := hvt.last; have c3 := hvt.errc (.cells (pbox (.slice (some ⟨g, 0, none⟩) ls.length cap) ⟨#[]⟩) 97); have hcl2 := hcl (.cells (pbox (.slice (some ⟨g, 0, none⟩) ls.length cap) ⟨#[]⟩) 97); obtain ⟨hw1, hk1, hk2, hk3⟩ := last_nums hlen hk5; clear hlen hk5 hcl; have c3' := c3; rw [HE.out] at c3'; clear c3; have c3 : World.cell? _ _ = some (.int .i64 0) := c3'; clear c3'; rw [HT.out] at hTT; obtain ⟨bA, bB⟩ := HVT.out.boxes (Fr.refl (fun k => k = X) _); have HBA := hide bA; obtain ⟨⟨y0, y1, y2, y3, y4⟩, z0, z1, z2, z3, z4⟩ := cells5 bA; obtain ⟨⟨p0, p1, p2, p3, p4⟩, -⟩ := cells5 bB; clear bA bB; clear hvt) | (go_at_call 76; refine (HI.out _ hx3).mono ?_; rintro e w4 ⟨rfl, hx4, fr4⟩) | (go_at_call 54; refine (HH2.out _ hx2).mono ?_; rintro e w3 ⟨rfl, hx3, fr3⟩) | (go_at_call 54; refine HH.out.mono ?_; rintro e w2 ⟨rfl, hx2, fr2⟩))
      obtain ⟨W8, hW8, r8, fr8⟩ := box5 (.string ⟨#[]⟩) (.slice none 0 0) (.slice (some ⟨g, 0, none⟩) ls.length cap) (.string ⟨#[]⟩) (.string ⟨#[]⟩) HBA.out
      rw [hW8]
      clear hW8
      obtain ⟨⟨k0, k1, k2, k3, k4⟩, -⟩ := cells5 r8
      refine bodyPost_ret (v := .agg #[.string ⟨#[]⟩, .slice none 0 0, .slice (some ⟨g, 0, none⟩) ls.length cap, .string ⟨#[]⟩, .string ⟨#[]⟩]) (by simp [results, Tryz.results169, go_sem, k0, k1, k2, k3, k4]) rfl ⟨_, rfl, HVT.out.fin (Fr.refl _ _) (HVT.out.xr.fr ((Fr.refl (fun _ => False) w5).alloc _) (fun x => x)) fr8 []⟩
    | false =>
      have HT := hide ht
      have HH3 := hide (fun W hW => hasR_ok (X := X) (q := q) (w := W) (s := s5) (p := [47]) hW (by decide) (by decide))
      cases hbs : s5.is [47] with
      | false =>
        rw [hbs] at HH3
        have hA : attrR q s5 ls = (⟨[], .nil, Stps.of ls, [], []⟩, s5.bl) := by unfold attrR; rw [ht, hbs, he]; simp
        rw [hA]
        rw [has_no hbs] at HH3
        clear he ht hA hbs
        go_enter Tryz.func169, Tryz.ntmps169
        go_wp2_with (first | (go_at_call 54; refine (HH3.out _ hx5).mono ?_; rintro e w6 ⟨rfl, hx6, fr6⟩; obtain ⟨bA, bB⟩ := HVT.out.boxes fr6; have HBA := hide bA; obtain ⟨⟨y0, y1, y2, y3, y4⟩, z0, z1, z2, z3, z4⟩ := cells5 bA; obtain ⟨⟨p0, p1, p2, p3, p4⟩, -⟩ := cells5 bB; clear bA bB) | (go_at_call 77; refine (HMO.out _ hx4).mono ?_; rintro e w5 hm; obtain ⟨v5, rfl, hvt⟩ := HV.out _ _ _ ((fr2.same fr3).same fr4) hm; clear hm; have HVT := hide hvt; obtain ⟨g, cap, k, TT, rfl, hlen, hk5, hTT, hcl⟩ := hvt.last; have c3 := hvt.errc (.cells (pbox (.slice (some ⟨g, 0, none⟩) ls.length cap) ⟨#[]⟩) 97); have hcl2 := hcl (.cells (pbox (.slice (some ⟨g, 0, none⟩) ls.length cap) ⟨#[]⟩) 97); obtain ⟨hw1, hk1, hk2, hk3⟩ := last_nums hlen hk5; clear hlen hk5 hcl; have c3' := c3; rw [HE.out] at c3'; clear c3; have c3 : World.cell? _ _ = some (.int .i64 0) := c3'; clear c3'; rw [HT.out] at hTT; have hx5 := HVT.out.xr.fr ((Fr.refl (fun _ => False) w5).alloc (.cells (pbox (.slice (some ⟨g, 0, none⟩) ls.length cap) ⟨#[]⟩) 97)) (fun x => x); clear hvt) | (go_at_call 76; refine (HI.out _ hx3).mono ?_; rintro e w4 ⟨rfl, hx4, fr4⟩) | (go_at_call 54; refine (HH2.out _ hx2).mono ?_; rintro e w3 ⟨rfl, hx3, fr3⟩) | (go_at_call 54; refine HH.out.mono ?_; rintro e w2 ⟨rfl, hx2, fr2⟩))
        obtain ⟨W8, hW8, r8, fr8⟩ := box5 (.string ⟨#[]⟩) (.slice none 0 0) (.slice (some ⟨g, 0, none⟩) ls.length cap) (.string ⟨#[]⟩) (.string ⟨#[]⟩) HBA.out
        rw [hW8]
        clear hW8
        obtain ⟨⟨k0, k1, k2, k3, k4⟩, -⟩ := cells5 r8
        refine bodyPost_ret (v := .agg #[.string ⟨#[]⟩, .slice none 0 0, .slice (some ⟨g, 0, none⟩) ls.length cap, .string ⟨#[]⟩, .string ⟨#[]⟩]) (by simp [results, Tryz.results169, go_sem, k0, k1, k2, k3, k4]) rfl ⟨_, rfl, HVT.out.fin (fr6.mono fun _ e => Or.inl e) hx6 fr8 []⟩
      | true =>
        rw [hbs] at HH3
        have hA : attrR q s5 ls = (⟨[], .nil, Stps.of ls, ((s5.has [47]).must q [64]).peek, []⟩, ((s5.has [47]).must q [64]).name q) := by unfold attrR; rw [if_pos ⟨he, ht, hbs⟩]
        rw [hA]
        have HM3 : Hid (∀ W, XR X q W (s5.has [47]) → Calls Tryz.prog 124 #[ptr X, .string ⟨#[64]⟩] W (XE X q W ((s5.has [47]).must q [64]))) := fun W hW => mustR_ok (p := [64]) hW (by decide) (by decide)
        have HN3 : Hid (∀ W, XR X q W ((s5.has [47]).must q [64]) → Calls Tryz.prog 123 #[ptr X] W (XS X q W ((s5.has [47]).must q [64]).peek (((s5.has [47]).must q [64]).name q))) := fun W hW => nameRd_ok hW
        clear he ht hA hbs
        generalize ((s5.has [47]).must q [64]).name q = s8 at *
        generalize ((s5.has [47]).must q [64]).peek = P8 at *
        generalize (s5.has [47]).must q [64] = s7 at *
        generalize s5.has [47] = s6 at *
        go_enter Tryz.func169, Tryz.ntmps169
        go_wp2_with (first | (go_at_call 123; refine (HN3.out _ hx7).mono ?_; rintro e w8 ⟨rfl, hx8, fr8'⟩; obtain ⟨-, bC⟩ := HVT.out.boxes ((fr6.same fr7).same fr8'); obtain ⟨⟨-, -, -, v3, -⟩, -, -, -, u3, -⟩ := cells5 bC; clear bC; obtain ⟨W9, hW9, bA, bB, fr9, hx9⟩ := HVT.out.set ((fr6.same fr7).same fr8') P8; have hx9 := hx9 _ hx8; have HBA := hide bA; obtain ⟨⟨y0, y1, y2, y3, y4⟩, z0, z1, z2, z3, z4⟩ := cells5 bA; obtain ⟨⟨p0, p1, p2, p3, p4⟩, -⟩ := cells5 bB; clear bA bB) | (go_at_call 124; refine (HM3.out _ hx6).mono ?_; rintro e w7 ⟨rfl, hx7, fr7⟩) | (go_at_call 54; refine (HH3.out _ hx5).mono ?_; rintro e w6 ⟨rfl, hx6, fr6⟩) | (go_at_call 77; refine (HMO.out _ hx4).mono ?_; rintro e w5 hm; obtain ⟨v5, rfl, hvt⟩ := HV.out _ _ _ ((fr2.same fr3).same fr4) hm; clear hm; have HVT := hide hvt; obtain ⟨g, cap, k, TT, rfl, hlen, hk5, hTT, hcl⟩ := hvt.last; have c3 := hvt.errc (.cells (pbox (.slice (some ⟨g, 0, none⟩) ls.length cap) ⟨#[]⟩) 97); have hcl2 := hcl (.cells (pbox (.slice (some ⟨g, 0, none⟩) ls.length cap) ⟨#[]⟩) 97); obtain ⟨hw1, hk1, hk2, hk3⟩ := last_nums hlen hk5; clear hlen hk5 hcl; have c3' := c3; rw [HE.out] at c3'; clear c3; have c3 : World.cell? _ _ = some (.int .i64 0) := c3'; clear c3'; rw [HT.out] at hTT; have hx5 := HVT.out.xr.fr ((Fr.refl (fun _ => False) w5).alloc (.cells (pbox (.slice (some ⟨g, 0, none⟩) ls.length cap) ⟨#[]⟩) 97)) (fun x => x); clear hvt) | (go_at_call 76; refine (HI.out _ hx3).mono ?_; rintro e w4 ⟨rfl, hx4, fr4⟩) | (go_at_call 54; refine (HH2.out _ hx2).mono ?_; rintro e w3 ⟨rfl, hx3, fr3⟩) | (go_at_call 54; refine HH.out.mono ?_; rintro e w2 ⟨rfl, hx2, fr2⟩))
        obtain ⟨W8, hW8, r8, fr8⟩ := box5 (.string ⟨#[]⟩) (.slice none 0 0) (.slice (some ⟨g, 0, none⟩) ls.length cap) (.string (bs P8)) (.string ⟨#[]⟩) HBA.out
        rw [hW8]
        clear hW8
        obtain ⟨⟨k0, k1, k2, k3, k4⟩, -⟩ := cells5 r8
        refine bodyPost_ret (v := .agg #[.string ⟨#[]⟩, .slice none 0 0, .slice (some ⟨g, 0, none⟩) ls.length cap, .string (bs P8), .string ⟨#[]⟩]) (by simp [results, Tryz.results169, go_sem, k0, k1, k2, k3, k4]) rfl ⟨_, rfl, HVT.out.fin fr9 hx9 fr8 P8⟩
  · rw [dead_attr he]
    have hb : ((s5.err : Int) == 0) = false := by simp; omega
    have hb2 : (s5.err == 0) = false := by simpa using he
    clear he
    go_enter Tryz.func169, Tryz.ntmps169
    go_wp2_with (first | (go_at_call 77; refine (HMO.out _ hx4).mono ?_; rintro e w5 hm; obtain ⟨v5, rfl, hvt⟩ := HV.out _ _ _ ((fr2.same fr3).same fr4) hm; clear hm; have HVT := hide hvt; obtain ⟨g, cap, k, TT, rfl, hlen, hk5, hTT, hcl⟩ := hvt.last; have c3 := hvt.errc (.cells (pbox (.slice (some ⟨g, 0, none⟩) ls.length cap) ⟨#[]⟩) 97); have hcl2 := hcl (.cells (pbox (.slice (some ⟨g, 0, none⟩) ls.length cap) ⟨#[]⟩) 97); obtain ⟨hw1, hk1, hk2, hk3⟩ := last_nums hlen hk5; clear hlen hk5 hcl; obtain ⟨bA, bB⟩ := HVT.out.boxes (Fr.refl (fun k => k = X) _); have HBA := hide bA; obtain ⟨⟨y0, y1, y2, y3, y4⟩, z0, z1, z2, z3, z4⟩ := cells5 bA; obtain ⟨⟨p0, p1, p2, p3, p4⟩, -⟩ := cells5 bB; clear bA bB; clear hvt) | (go_at_call 76; refine (HI.out _ hx3).mono ?_; rintro e w4 ⟨rfl, hx4, fr4⟩) | (go_at_call 54; refine (HH2.out _ hx2).mono ?_; rintro e w3 ⟨rfl, hx3, fr3⟩) | (go_at_call 54; refine HH.out.mono ?_; rintro e w2 ⟨rfl, hx2, fr2⟩))
    obtain ⟨W8, hW8, r8, fr8⟩ := box5 (.string ⟨#[]⟩) (.slice none 0 0) (.slice (some ⟨g, 0, none⟩) ls.length cap) (.string ⟨#[]⟩) (.string ⟨#[]⟩) HBA.out
    rw [hW8]
    clear hW8
    obtain ⟨⟨k0, k1, k2, k3, k4⟩, -⟩ := cells5 r8
    refine bodyPost_ret (v := .agg #[.string ⟨#[]⟩, .slice none 0 0, .slice (some ⟨g, 0, none⟩) ls.length cap, .string ⟨#[]⟩, .string ⟨#[]⟩]) (by simp [results, Tryz.results169, go_sem, k0, k1, k2, k3, k4]) rfl ⟨_, rfl, HVT.out.fin (Fr.refl _ _) (HVT.out.xr.fr ((Fr.refl (fun _ => False) w5).alloc _) (fun x => x)) fr8 []⟩
end Go.Proofs.YtoahlnmhjinneaaGreatDoor

set_option linter.unusedSimpArgs false
set_option linter.unusedVariables false
namespace Go.Proofs.YtoahlnmhjinneaaGreatDoor
open Go.RowKit Go.Maps Go.Lib
variable {w w' w1 w2 w5 w7 W0 W1 W2 W3 W4 WO wr W W5 W6 W8 WR : World} {A A' F G : Nat → Prop} {X lo n Bp : Nat} {q l l' p word : L} {s s' s3 s5 s7 : RS} {v v' v5 vp : Value} {inner read : RS → Prd × RS} {ls : List Stp} {st : Stp}
theorem row_one {vi : Option Addr} {vn vc : Nat} (hX : X < w.heap.size) (f : Fr (fun k => k = X) (w.alloc (.cells zero5 97)) W3) (f6 : Fr (fun k => k = X) W3 W6) (x6 : XR X q W6 s3) (sp : slP W6 (fun b => W3.heap.size ≤ b) 94 97 (.slice vi vn vc) st.preds) : Fr (fun k => k = X) (w.alloc (.cells zero5 97)) ((W6.alloc (.cells #[.bool st.deep, .string (bs st.test), .slice vi vn vc] 94)).alloc (.cells #[.bool st.deep, .string (bs st.test), .slice vi vn vc] 94)) ∧ XR X q ((W6.alloc (.cells #[.bool st.deep, .string (bs st.test), .slice vi vn vc] 94)).alloc (.cells #[.bool st.deep, .string (bs st.test), .slice vi vn vc] 94)) s3 ∧ GS (w.heap.size + 1) 94 97 ((W6.alloc (.cells #[.bool st.deep, .string (bs st.test), .slice vi vn vc] 94)).alloc (.cells #[.bool st.deep, .string (bs st.test), .slice vi vn vc] 94)) (.slice (some ⟨W6.heap.size + 1, 0, none⟩) 1 1) [st] := by
  have hz := f.size
  have hz6 := f6.size
  rw [show (w.alloc (.cells zero5 97)).heap.size = w.heap.size + 1 by simp] at hz
  generalize hC : (Obj.cells #[.bool st.deep, .string (bs st.test), .slice vi vn vc] 94 (0, 0)) = C
  have fA : Fr (fun _ => False) W6 (W6.alloc C) := (Fr.refl _ W6).alloc _
  have fB : Fr (fun _ => False) (W6.alloc C) ((W6.alloc C).alloc C) := (Fr.refl _ _).alloc _
  have hsz2 : (W6.alloc C).heap.size = W6.heap.size + 1 := by simp
  refine ⟨((f.same f6).same (fA.mono fun _ x => x.elim)).same (fB.mono fun _ x => x.elim), (x6.fr fA (fun x => x)).fr fB (fun x => x), ?_⟩
  have := GS.first (lo := w.heap.size + 1) (tS := 94) (tP := 97) (w := W6.alloc C) (s := st) (vp := .slice vi vn vc) (by rw [hsz2]; omega) (sp.move fun b hb hl => ⟨by omega, Below.heap_alloc _ _ _ hl⟩)
  rw [hC, hsz2] at this
  exact this
set_option maxHeartbeats 8000000 in
set_option maxRecDepth 100000 in
theorem value4_ok (hi : InRK X q (n + 1) inner) (h : XR X q w s) (n8 : n ≤ 9) (hn : s.err = 0 → s.nest = n ∧ n ≤ 8) (hb : s.is [64] = false) (hb2 : s.bl.is [46] = false) (hst : stepR q inner false s.bl.bl = (st, s3)) (hY : moreR q inner true (s3.l.length + 1) [st] s3 = (ls, s5)) : Calls Tryz.prog 169 #[ptr X] w (XV X q (PV (fun b => w.heap.size ≤ b) 94 97) w (attrR q s5 ls)) := by
  have hX := h.lt
  have f0 : Fr (fun _ => False) w (w.alloc (.cells zero5 97)) := (Fr.refl _ w).alloc _
  have HH := hide (hasR_ok (p := [64]) (h.fr f0 (fun x => x)) (by decide) (by decide))
  rw [hb, has_no hb] at HH
  have HH2 : Hid (∀ W, XR X q W s.bl → Calls Tryz.prog 54 #[ptr X, .string ⟨#[46]⟩] W (XB X q W false s.bl.bl)) := fun W hW => by have := hasR_ok (p := [46]) hW (by decide) (by decide); rw [hb2, has_no hb2] at this; exact this
  have hns1 := keepsN ((keeps_bl s).trans (keeps_bl _)) n8 hn
  have HSP : Hid (∀ W, XR X q W s.bl.bl → Calls Tryz.prog 96 #[ptr X, .bool false] W (XV X q (SV (fun b => W.heap.size ≤ b) 94 97) W (st, s3))) := fun W hW => by rw [← hst]; exact stepR_ok hi hW n8 hns1
  have hns : s3.err = 0 → s3.nest = n ∧ n ≤ 8 := by have := keepsN (keeps_step (q := q) hi.keeps false s.bl.bl) n8 hns1; rw [hst] at this; exact this
  have hne : ls ≠ [] := by
    have := more_grow (q := q) (inner := inner) true (s3.l.length + 1) [st] s3
    rw [hY] at this
    intro e; rw [e] at this; simp at this
  have HMO : Hid (∀ W3 W6 vi vn vc, Fr (fun k => k = X) (w.alloc (.cells zero5 97)) W3 → Fr (fun k => k = X) W3 W6 → XR X q W6 s3 → slP W6 (fun b => W3.heap.size ≤ b) 94 97 (.slice vi vn vc) st.preds → Fr (fun k => k = X) (w.alloc (.cells zero5 97)) ((W6.alloc (.cells #[.bool st.deep, .string (bs st.test), .slice vi vn vc] 94)).alloc (.cells #[.bool st.deep, .string (bs st.test), .slice vi vn vc] 94)) ∧ Calls Tryz.prog 77 #[ptr X, .slice (some ⟨W6.heap.size + 1, 0, none⟩) 1 1, .bool true] ((W6.alloc (.cells #[.bool st.deep, .string (bs st.test), .slice vi vn vc] 94)).alloc (.cells #[.bool st.deep, .string (bs st.test), .slice vi vn vc] 94)) (MR X q ((W6.alloc (.cells #[.bool st.deep, .string (bs st.test), .slice vi vn vc] 94)).alloc (.cells #[.bool st.deep, .string (bs st.test), .slice vi vn vc] 94)) (w.heap.size + 1) (ls, s5))) := fun W3 W6 vi vn vc f f6 x6 sp => by
    obtain ⟨a, b, c⟩ := row_one hX f f6 x6 sp
    refine ⟨a, ?_⟩
    rw [← hY]
    exact moreR_ok (Nat.lt_succ_self _) hi b n8 hns (by omega) (by have := a.size; rw [show (w.alloc (.cells zero5 97)).heap.size = w.heap.size + 1 by simp] at this; exact this) c (by simp) (fun e => by simp at e)
  have HV : Hid (∀ W4 e W5, Fr (fun k => k = X) (w.alloc (.cells zero5 97)) W4 → MR X q W4 (w.heap.size + 1) (ls, s5) e W5 → ∃ v5, e = .returned v5 ∧ VT X q w W5 v5 ls s5) := fun W4 e W5 f m => by
    obtain ⟨v', rfl, m2⟩ := m
    exact ⟨v', rfl, VT.of (Y := (ls, s5)) hX f (Nat.le_refl _) hne ⟨v', rfl, m2⟩⟩
  clear hb hb2 hY hns hns1 hne hn hi h f0 hst
  by_cases he : s5.err = 0
  · have HE := hide he
    cases ht : lastText ls with
    | true =>
      have hA : attrR q s5 ls = (⟨[], .nil, Stps.of ls, [], []⟩, s5) := by unfold attrR; rw [ht]; simp
      rw [hA]
      have HT := hide ht
      clear he ht hA
      go_enter Tryz.func169, Tryz.ntmps169
      go_wp2_with (first | (go_at_call 77; refine HM1.out.mono ?_; rintro e w5 hm; obtain ⟨v5, rfl, hvt⟩ := HV.out _ _ _ frR hm; clear hm; have HVT := hide hvt; obtain ⟨g, cap, k, TT, rfl, hlen, hk5, hTT, hcl⟩ := hvt.last; have c3 := hvt.errc (.cells (pbox (.slice (some ⟨g, 0, none⟩) ls.length cap) ⟨#[]⟩) 97); have hcl2 := hcl (.cells (pbox (.slice (some ⟨g, 0, none⟩) ls.length cap) ⟨#[]⟩) 97); obtain ⟨hw1, hk1, hk2, hk3⟩ := last_nums hlen hk5; clear hlen hk5 hcl; have c3' := c3; rw [HE.out] at c3'; clear c3; have c3 : World.cell? _ _ = some (.int .i64 0) := c3'; clear c3'; rw [HT.out] at hTT; obtain ⟨bA, bB⟩ := HVT.out.boxes (Fr.refl (fun k => k = X) _); have HBA := hide bA; obtain ⟨⟨y0, y1, y2, y3, y4⟩, z0, z1, z2, z3, z4⟩ := cells5 bA; obtain ⟨⟨p0, p1, p2, p3, p4⟩, -⟩ := cells5 bB; clear bA bB; clear hvt) | (go_at_call 96; refine (HSP.out _ hx3).mono ?_; rintro e wS ⟨vS, rfl, svS, hxS, frS⟩; obtain ⟨vi6, vn6, vc6, rfl, sp6⟩ := svS.shape; obtain ⟨frR, hmo⟩ := HMO.out _ _ _ _ _ (fr2.same fr3) frS hxS sp6; have HM1 := hide hmo; clear hmo sp6 svS; have hq3 := Below_new wS (.cells #[.bool st.deep, .string (bs st.test), .slice vi6 vn6 vc6] 94); have e0 := cell_of (i := 0) hq3 rfl; have e1 := cell_of (i := 1) hq3 rfl; have e2 := cell_of (i := 2) hq3 rfl; clear hq3) | (go_at_call 54; refine (HH2.out _ hx2).mono ?_; rintro e w3 ⟨rfl, hx3, fr3⟩) | (go_at_call 54; refine HH.out.mono ?_; rintro e w2 ⟨rfl, hx2, fr2⟩))
      obtain ⟨W8, hW8, r8, fr8⟩ := box5 (.string ⟨#[]⟩) (.slice none 0 0) (.slice (some ⟨g, 0, none⟩) ls.length cap) (.string ⟨#[]⟩) (.string ⟨#[]⟩) HBA.out
      rw [hW8]
      clear hW8
      obtain ⟨⟨k0, k1, k2, k3, k4⟩, -⟩ := cells5 r8
      refine bodyPost_ret (v := .agg #[.string ⟨#[]⟩, .slice none 0 0, .slice (some ⟨g, 0, none⟩) ls.length cap, .string ⟨#[]⟩, .string ⟨#[]⟩]) (by simp [results, Tryz.results169, go_sem, k0, k1, k2, k3, k4]) rfl ⟨_, rfl, HVT.out.fin (Fr.refl _ _) (HVT.out.xr.fr ((Fr.refl (fun _ => False) w5).alloc _) (fun x => x)) fr8 []⟩
    | false =>
      have HT := hide ht
      have HH3 := hide (fun W hW => hasR_ok (X := X) (q := q) (w := W) (s := s5) (p := [47]) hW (by decide) (by decide))
      cases hbs : s5.is [47] with
      | false =>
        rw [hbs] at HH3
        have hA : attrR q s5 ls = (⟨[], .nil, Stps.of ls, [], []⟩, s5.bl) := by unfold attrR; rw [ht, hbs, he]; simp
        rw [hA]
        rw [has_no hbs] at HH3
        clear he ht hA hbs
        go_enter Tryz.func169, Tryz.ntmps169
        go_wp2_with (first | (go_at_call 54; refine (HH3.out _ hx5).mono ?_; rintro e w6 ⟨rfl, hx6, fr6⟩; obtain ⟨bA, bB⟩ := HVT.out.boxes fr6; have HBA := hide bA; obtain ⟨⟨y0, y1, y2, y3, y4⟩, z0, z1, z2, z3, z4⟩ := cells5 bA; obtain ⟨⟨p0, p1, p2, p3, p4⟩, -⟩ := cells5 bB; clear bA bB) | (go_at_call 77; refine HM1.out.mono ?_; rintro e w5 hm; obtain ⟨v5, rfl, hvt⟩ := HV.out _ _ _ frR hm; clear hm; have HVT := hide hvt; obtain ⟨g, cap, k, TT, rfl, hlen, hk5, hTT, hcl⟩ := hvt.last; have c3 := hvt.errc (.cells (pbox (.slice (some ⟨g, 0, none⟩) ls.length cap) ⟨#[]⟩) 97); have hcl2 := hcl (.cells (pbox (.slice (some ⟨g, 0, none⟩) ls.length cap) ⟨#[]⟩) 97); obtain ⟨hw1, hk1, hk2, hk3⟩ := last_nums hlen hk5; clear hlen hk5 hcl; have c3' := c3; rw [HE.out] at c3'; clear c3; have c3 : World.cell? _ _ = some (.int .i64 0) := c3'; clear c3'; rw [HT.out] at hTT; have hx5 := HVT.out.xr.fr ((Fr.refl (fun _ => False) w5).alloc (.cells (pbox (.slice (some ⟨g, 0, none⟩) ls.length cap) ⟨#[]⟩) 97)) (fun x => x); clear hvt) | (go_at_call 96; refine (HSP.out _ hx3).mono ?_; rintro e wS ⟨vS, rfl, svS, hxS, frS⟩; obtain ⟨vi6, vn6, vc6, rfl, sp6⟩ := svS.shape; obtain ⟨frR, hmo⟩ := HMO.out _ _ _ _ _ (fr2.same fr3) frS hxS sp6; have HM1 := hide hmo; clear hmo sp6 svS; have hq3 := Below_new wS (.cells #[.bool st.deep, .string (bs st.test), .slice vi6 vn6 vc6] 94); have e0 := cell_of (i := 0) hq3 rfl; have e1 := cell_of (i := 1) hq3 rfl; have e2 := cell_of (i := 2) hq3 rfl; clear hq3) | (go_at_call 54; refine (HH2.out _ hx2).mono ?_; rintro e w3 ⟨rfl, hx3, fr3⟩) | (go_at_call 54; refine HH.out.mono ?_; rintro e w2 ⟨rfl, hx2, fr2⟩))
        obtain ⟨W8, hW8, r8, fr8⟩ := box5 (.string ⟨#[]⟩) (.slice none 0 0) (.slice (some ⟨g, 0, none⟩) ls.length cap) (.string ⟨#[]⟩) (.string ⟨#[]⟩) HBA.out
        rw [hW8]
        clear hW8
        obtain ⟨⟨k0, k1, k2, k3, k4⟩, -⟩ := cells5 r8
        refine bodyPost_ret (v := .agg #[.string ⟨#[]⟩, .slice none 0 0, .slice (some ⟨g, 0, none⟩) ls.length cap, .string ⟨#[]⟩, .string ⟨#[]⟩]) (by simp [results, Tryz.results169, go_sem, k0, k1, k2, k3, k4]) rfl ⟨_, rfl, HVT.out.fin (fr6.mono fun _ e => Or.inl e) hx6 fr8 []⟩
      | true =>
        rw [hbs] at HH3
        have hA : attrR q s5 ls = (⟨[], .nil, Stps.of ls, ((s5.has [47]).must q [64]).peek, []⟩, ((s5.has [47]).must q [64]).name q) := by unfold attrR; rw [if_pos ⟨he, ht, hbs⟩]
        rw [hA]
        have HM3 : Hid (∀ W, XR X q W (s5.has [47]) → Calls Tryz.prog 124 #[ptr X, .string ⟨#[64]⟩] W (XE X q W ((s5.has [47]).must q [64]))) := fun W hW => mustR_ok (p := [64]) hW (by decide) (by decide)
        have HN3 : Hid (∀ W, XR X q W ((s5.has [47]).must q [64]) → Calls Tryz.prog 123 #[ptr X] W (XS X q W ((s5.has [47]).must q [64]).peek (((s5.has [47]).must q [64]).name q))) := fun W hW => nameRd_ok hW
        clear he ht hA hbs
        generalize ((s5.has [47]).must q [64]).name q = s8 at *
        generalize ((s5.has [47]).must q [64]).peek = P8 at *
        generalize (s5.has [47]).must q [64] = s7 at *
        generalize s5.has [47] = s6 at *
        go_enter Tryz.func169, Tryz.ntmps169
        go_wp2_with (first | (go_at_call 123; refine (HN3.out _ hx7).mono ?_; rintro e w8 ⟨rfl, hx8, fr8'⟩; obtain ⟨-, bC⟩ := HVT.out.boxes ((fr6.same fr7).same fr8'); obtain ⟨⟨-, -, -, v3, -⟩, -, -, -, u3, -⟩ := cells5 bC; clear bC; obtain ⟨W9, hW9, bA, bB, fr9, hx9⟩ := HVT.out.set ((fr6.same fr7).same fr8') P8; have hx9 := hx9 _ hx8; have HBA := hide bA; obtain ⟨⟨y0, y1, y2, y3, y4⟩, z0, z1, z2, z3, z4⟩ := cells5 bA; obtain ⟨⟨p0, p1, p2, p3, p4⟩, -⟩ := cells5 bB; clear bA bB) | (go_at_call 124; refine (HM3.out _ hx6).mono ?_; rintro e w7 ⟨rfl, hx7, fr7⟩) | (go_at_call 54; refine (HH3.out _ hx5).mono ?_; rintro e w6 ⟨rfl, hx6, fr6⟩) | (go_at_call 77; refine HM1.out.mono ?_; rintro e w5 hm; obtain ⟨v5, rfl, hvt⟩ := HV.out _ _ _ frR hm; clear hm; have HVT := hide hvt; obtain ⟨g, cap, k, TT, rfl, hlen, hk5, hTT, hcl⟩ := hvt.last; have c3 := hvt.errc (.cells (pbox (.slice (some ⟨g, 0, none⟩) ls.length cap) ⟨#[]⟩) 97); have hcl2 := hcl (.cells (pbox (.slice (some ⟨g, 0, none⟩) ls.length cap) ⟨#[]⟩) 97); obtain ⟨hw1, hk1, hk2, hk3⟩ := last_nums hlen hk5; clear hlen hk5 hcl; have c3' := c3; rw [HE.out] at c3'; clear c3; have c3 : World.cell? _ _ = some (.int .i64 0) := c3'; clear c3'; rw [HT.out] at hTT; have hx5 := HVT.out.xr.fr ((Fr.refl (fun _ => False) w5).alloc (.cells (pbox (.slice (some ⟨g, 0, none⟩) ls.length cap) ⟨#[]⟩) 97)) (fun x => x); clear hvt) | (go_at_call 96; refine (HSP.out _ hx3).mono ?_; rintro e wS ⟨vS, rfl, svS, hxS, frS⟩; obtain ⟨vi6, vn6, vc6, rfl, sp6⟩ := svS.shape; obtain ⟨frR, hmo⟩ := HMO.out _ _ _ _ _ (fr2.same fr3) frS hxS sp6; have HM1 := hide hmo; clear hmo sp6 svS; have hq3 := Below_new wS (.cells #[.bool st.deep, .string (bs st.test), .slice vi6 vn6 vc6] 94); have e0 := cell_of (i := 0) hq3 rfl; have e1 := cell_of (i := 1) hq3 rfl; have e2 := cell_of (i := 2) hq3 rfl; clear hq3) | (go_at_call 54; refine (HH2.out _ hx2).mono ?_; rintro e w3 ⟨rfl, hx3, fr3⟩) | (go_at_call 54; refine HH.out.mono ?_; rintro e w2 ⟨rfl, hx2, fr2⟩))
        obtain ⟨W8, hW8, r8, fr8⟩ := box5 (.string ⟨#[]⟩) (.slice none 0 0) (.slice (some ⟨g, 0, none⟩) ls.length cap) (.string (bs P8)) (.string ⟨#[]⟩) HBA.out
        rw [hW8]
        clear hW8
        obtain ⟨⟨k0, k1, k2, k3, k4⟩, -⟩ := cells5 r8
        refine bodyPost_ret (v := .agg #[.string ⟨#[]⟩, .slice none 0 0, .slice (some ⟨g, 0, none⟩) ls.length cap, .string (bs P8), .string ⟨#[]⟩]) (by simp [results, Tryz.results169, go_sem, k0, k1, k2, k3, k4]) rfl ⟨_, rfl, HVT.out.fin fr9 hx9 fr8 P8⟩
  · rw [dead_attr he]
    have hb : ((s5.err : Int) == 0) = false := by simp; omega
    have hb2 : (s5.err == 0) = false := by simpa using he
    clear he
    go_enter Tryz.func169, Tryz.ntmps169
    go_wp2_with (first | (go_at_call 77; refine HM1.out.mono ?_; rintro e w5 hm; obtain ⟨v5, rfl, hvt⟩ := HV.out _ _ _ frR hm; clear hm; have HVT := hide hvt; obtain ⟨g, cap, k, TT, rfl, hlen, hk5, hTT, hcl⟩ := hvt.last; have c3 := hvt.errc (.cells (pbox (.slice (some ⟨g, 0, none⟩) ls.length cap) ⟨#[]⟩) 97); have hcl2 := hcl (.cells (pbox (.slice (some ⟨g, 0, none⟩) ls.length cap) ⟨#[]⟩) 97); obtain ⟨hw1, hk1, hk2, hk3⟩ := last_nums hlen hk5; clear hlen hk5 hcl; obtain ⟨bA, bB⟩ := HVT.out.boxes (Fr.refl (fun k => k = X) _); have HBA := hide bA; obtain ⟨⟨y0, y1, y2, y3, y4⟩, z0, z1, z2, z3, z4⟩ := cells5 bA; obtain ⟨⟨p0, p1, p2, p3, p4⟩, -⟩ := cells5 bB; clear bA bB; clear hvt) | (go_at_call 96; refine (HSP.out _ hx3).mono ?_; rintro e wS ⟨vS, rfl, svS, hxS, frS⟩; obtain ⟨vi6, vn6, vc6, rfl, sp6⟩ := svS.shape; obtain ⟨frR, hmo⟩ := HMO.out _ _ _ _ _ (fr2.same fr3) frS hxS sp6; have HM1 := hide hmo; clear hmo sp6 svS; have hq3 := Below_new wS (.cells #[.bool st.deep, .string (bs st.test), .slice vi6 vn6 vc6] 94); have e0 := cell_of (i := 0) hq3 rfl; have e1 := cell_of (i := 1) hq3 rfl; have e2 := cell_of (i := 2) hq3 rfl; clear hq3) | (go_at_call 54; refine (HH2.out _ hx2).mono ?_; rintro e w3 ⟨rfl, hx3, fr3⟩) | (go_at_call 54; refine HH.out.mono ?_; rintro e w2 ⟨rfl, hx2, fr2⟩))
    obtain ⟨W8, hW8, r8, fr8⟩ := box5 (.string ⟨#[]⟩) (.slice none 0 0) (.slice (some ⟨g, 0, none⟩) ls.length cap) (.string ⟨#[]⟩) (.string ⟨#[]⟩) HBA.out
    rw [hW8]
    clear hW8
    obtain ⟨⟨k0, k1, k2, k3, k4⟩, -⟩ := cells5 r8
    refine bodyPost_ret (v := .agg #[.string ⟨#[]⟩, .slice none 0 0, .slice (some ⟨g, 0, none⟩) ls.length cap, .string ⟨#[]⟩, .string ⟨#[]⟩]) (by simp [results, Tryz.results169, go_sem, k0, k1, k2, k3, k4]) rfl ⟨_, rfl, HVT.out.fin (Fr.refl _ _) (HVT.out.xr.fr ((Fr.refl (fun _ => False) w5).alloc _) (fun x => x)) fr8 []⟩
theorem valueR_ok (hi : InRK X q (n + 1) inner) (h : XR X q w s) (n8 : n ≤ 9) (hn : s.err = 0 → s.nest = n ∧ n ≤ 8) : Calls Tryz.prog 169 #[ptr X] w (XV X q (PV (fun b => w.heap.size ≤ b) 94 97) w (valueR q inner s)) := by
  unfold valueR
  cases hb : s.is [64] with
  | true => simp only [if_true]; exact value1_ok h hb
  | false =>
    simp only [Bool.false_eq_true, if_false]
    cases hb2 : s.bl.is [46] with
    | true =>
      simp only [if_true]
      cases hb3 : (s.bl.has [46]).is [47, 47] with
      | true => simp only [if_true]; exact value3_ok hi h n8 hn hb hb2 hb3 rfl
      | false => simp only [Bool.false_eq_true, if_false]; exact value2_ok h hb hb2 hb3
    | false => simp only [Bool.false_eq_true, if_false]; exact value4_ok hi h n8 hn hb hb2 rfl rfl
end Go.Proofs.YtoahlnmhjinneaaGreatDoor
