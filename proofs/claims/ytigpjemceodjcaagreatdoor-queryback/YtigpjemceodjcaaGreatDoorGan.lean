import Derived.Test.YtigpjemceodjcaaGreatDoorGam
import Derived.Test.YtigpjemceodjcaaGreatDoorGai
set_option linter.unusedVariables false
set_option linter.unusedSimpArgs false
set_option linter.unusedSimpArgs false
set_option linter.unusedVariables false
namespace Go.Proofs.YtigpjemceodjcaaGreatDoor
open Go.RowKit Go.Maps Go.Lib
variable {w w' w1 w2 w5 w7 W0 W1 W2 W3 W4 WO wr W W5 W8 WR : World} {A A' F G : Nat → Prop} {X lo n Bp : Nat} {q l l' p word : L} {s s' s5 s7 : RS} {v v' v5 vp : Value} {inner read : RS → Prd × RS} {ls : List Stp} {Y : List Stp × RS}
theorem VT.of (hX : X < w.heap.size) (f : Fr (fun k => k = X) (w.alloc (.cells zero5 80)) WR) (hlo : w.heap.size + 1 ≤ lo) (ne : Y.1 ≠ []) (m : MR X q WR lo Y (.returned v5) W5) : VT X q w W5 v5 Y.1 Y.2 := by
  obtain ⟨v', e, g, a, b, c, f2, z⟩ := m
  cases e
  have bq := (zbox f hX).1
  have f0 : Fr (fun _ => False) w (w.alloc (.cells zero5 80)) := (Fr.refl _ w).alloc _
  exact ⟨c, (f2.block _ (blk_lt bq) (by omega)).trans bq, g.wider hlo, ne, b, (((f0.mono fun _ x => x.elim).same f).mono fun _ e => Or.inl e).trans f2 (fun i hi x => by rcases x with x | x; exact Or.inl x; exact Or.inr (by omega)), hX⟩
theorem VT.last (h : VT X q w w5 v5 ls s5) : ∃ g cap k TT, v5 = .slice (some ⟨g, 0, none⟩) ls.length cap ∧ ls.length = k + 1 ∧ k ≤ 500 ∧ (TT.toList == [35]) = lastText ls ∧ ∀ o, (w5.alloc o).cell? ⟨g, k * 3 + 1, none⟩ = some (.string TT) := by
  rcases List.eq_nil_or_concat ls with e | ⟨ls', st', rfl⟩
  · exact absurd e h.ne
  · have hg := h.gs
    rw [List.concat_eq_append] at hg
    obtain ⟨g, cap, hv, hcl⟩ := hg.last
    have hsm := h.sm
    refine ⟨g, cap, ls'.length, bs st'.test, by rw [hv]; simp, by simp, by simp at hsm; omega, by rw [bs_toL, List.concat_eq_append, lastText_app], fun o => ?_⟩
    exact (World.cell?_of_block (Below.heap_alloc _ _ _ (World.block_lt_of_cell? w5 _ hcl))).trans hcl
theorem VT.errc (h : VT X q w w5 v5 ls s5) (o : Obj) : (w5.alloc o).cell? ⟨X, 3, none⟩ = some (.int .i64 s5.err) := by
  exact ((h.xr.fr ((Fr.refl (fun _ => False) w5).alloc o) (fun x => x)).cells).2.2.2.1
end Go.Proofs.YtigpjemceodjcaaGreatDoor

set_option linter.unusedSimpArgs false
set_option linter.unusedVariables false
namespace Go.Proofs.YtigpjemceodjcaaGreatDoor
open Go.RowKit Go.Maps Go.Lib
variable {w w' w1 w2 w5 w7 W0 W1 W2 W3 W4 WO wr W W5 W8 WR : World} {A A' F G : Nat → Prop} {X lo n Bp : Nat} {q l l' p word : L} {s s' s5 s7 : RS} {v v' v5 vp : Value} {inner read : RS → Prd × RS} {ls : List Stp}
theorem last_nums {k m : Nat} (h : m = k + 1) (hk : k ≤ 500) : IntKind.i64.wrap ((m : Int) - 1) = (k : Int) ∧ (k : Int) < (m : Int) ∧ k < m ∧ 0 < m := by
  refine ⟨?_, by omega, by omega, by omega⟩
  rw [IntKind.wrap_i64]; omega
theorem VT.set (h : VT X q w w5 v5 ls s5) (f : Fr (fun k => k = X) (w5.alloc (.cells (pbox v5 ⟨#[]⟩) 80)) w7) (a : L) : ∃ W9, w7.setCell ⟨w5.heap.size, 3, none⟩ (.string (bs a)) = W9 ∧ W9.heap[w.heap.size]? = some (.cells zero5 80 (0, 0)) ∧ W9.heap[w5.heap.size]? = some (.cells (pbox v5 (bs a)) 80 (0, 0)) ∧ Fr (fun k => k = X ∨ k = w5.heap.size) (w5.alloc (.cells (pbox v5 ⟨#[]⟩) 80)) W9 ∧ (∀ s7, XR X q w7 s7 → XR X q W9 s7) := by
  obtain ⟨b1, b2⟩ := h.boxes f
  have hz := blk_lt h.bq
  have hX := h.xr.lt
  have fs : Fr (fun k => k = w5.heap.size) w7 (w7.setCell ⟨w5.heap.size, 3, none⟩ (.string (bs a))) := fr_set _ _ _ _
  exact ⟨_, rfl, (fs.block _ (blk_lt b1) (by omega)).trans b1, set_of b2 _, (f.mono fun _ e => Or.inl e).same (fs.mono fun _ e => Or.inr e), fun s7 x => x.fr fs (by omega)⟩
set_option maxHeartbeats 8000000 in
set_option maxRecDepth 100000 in
theorem value3_ok (hi : InRK X q (n + 1) inner) (h : XR X q w s) (n8 : n ≤ 9) (hn : s.err = 0 → s.nest = n ∧ n ≤ 8) (hb : s.is [64] = false) (hb2 : s.bl.is [46] = true) (hb3 : (s.bl.has [46]).is [47, 47] = true) (hY : moreR q inner true ((s.bl.has [46]).l.length + 1) [] (s.bl.has [46]).bl = (ls, s5)) : Calls Tryz.prog 104 #[ptr X] w (XV X q (PV (fun b => w.heap.size ≤ b) 77 80) w (attrR q s5 ls)) := by
  have hX := h.lt
  have f0 : Fr (fun _ => False) w (w.alloc (.cells zero5 80)) := (Fr.refl _ w).alloc _
  have HH := hide (hasR_ok (p := [64]) (h.fr f0 (fun x => x)) (by decide) (by decide))
  rw [hb, has_no hb] at HH
  have HH2 : Hid (∀ W, XR X q W s.bl → Calls Tryz.prog 26 #[ptr X, .string ⟨#[46]⟩] W (XB X q W true (s.bl.has [46]))) := fun W hW => by have := hasR_ok (p := [46]) hW (by decide) (by decide); rw [hb2] at this; exact this
  have HI : Hid (∀ W, XR X q W (s.bl.has [46]) → Calls Tryz.prog 39 #[ptr X, .string ⟨#[47, 47]⟩] W (XB X q W true (s.bl.has [46]).bl)) := fun W hW => by have := isR_ok (p := [47, 47]) hW (by decide) (by decide); rw [hb3] at this; exact this
  have hns := keepsN (((keeps_bl s).trans (keeps_has s.bl [46])).trans (keeps_bl _)) n8 hn
  have hlen : (s.bl.has [46]).bl.l.length < (s.bl.has [46]).l.length + 1 := by have := (bl_suf (s.bl.has [46])).length_le; omega
  have hne : ls ≠ [] := by
    have := more_some (q := q) (inner := inner) true (f := (s.bl.has [46]).l.length) (s := (s.bl.has [46]).bl) (by rw [is_bl]; exact hb3)
    rw [hY] at this; exact this
  have HMO : Hid (∀ W, XR X q W (s.bl.has [46]).bl → Calls Tryz.prog 40 #[ptr X, .slice none 0 0, .bool true] W (MR X q W W.heap.size (ls, s5))) := fun W hW => by
    rw [← hY]; exact moreR_ok hlen hi hW n8 hns hW.lt (Nat.le_refl _) (GS.zero (lo := W.heap.size)) (by simp) (fun _ => rfl)
  have HV : Hid (∀ W4 e W5, Fr (fun k => k = X) (w.alloc (.cells zero5 80)) W4 → MR X q W4 W4.heap.size (ls, s5) e W5 → ∃ v5, e = .returned v5 ∧ VT X q w W5 v5 ls s5) := fun W4 e W5 f m => by
    obtain ⟨v', rfl, m2⟩ := m
    exact ⟨v', rfl, VT.of (Y := (ls, s5)) hX f (by have := f.size; simp at this; omega) hne ⟨v', rfl, m2⟩⟩
  clear hb hb2 hb3 hY hns hlen hne hn hi h f0
  generalize (s.bl.has [46]).bl = s3 at *
  generalize s.bl.has [46] = s2 at *
  by_cases he : s5.err = 0
  · have HE := hide he
    cases ht : lastText ls with
    | true =>
      have hA : attrR q s5 ls = (⟨[], .nil, Stps.of ls, [], []⟩, s5) := by unfold attrR; rw [ht]; simp
      rw [hA]
      have HT := hide ht
      clear he ht hA
      go_enter Tryz.func104, Tryz.ntmps104
      go_wp2_with (first | (go_at_call 40; refine (HMO.out _ hx4).mono ?_; rintro e w5 hm; obtain ⟨v5, rfl, hvt⟩ := HV.out _ _ _ ((fr2.same fr3).same fr4) hm; clear hm; have HVT := hide hvt; obtain ⟨g, cap, k, TT, rfl, hlen, hk5, hTT, hcl⟩ := hvt.last; have c3 := hvt.errc (.cells (pbox (.slice (some ⟨g, 0, none⟩) ls.length cap) ⟨#[]⟩) 80); have hcl2 := hcl (.cells (pbox (.slice (some ⟨g, 0, none⟩) ls.length cap) ⟨#[]⟩) 80); obtain ⟨hw1, hk1, hk2, hk3⟩ := last_nums hlen hk5; clear hlen hk5 hcl; have c3' := c3; rw [HE.out] at c3'; clear c3; have c3 : World.cell? _ _ = some (.int .i64 0) := c3'; clear c3'; rw [HT.out] at hTT; obtain ⟨bA, bB⟩ := HVT.out.boxes (Fr.refl (fun k => k = X) _); have HBA := hide bA; obtain ⟨⟨y0, y1, y2, y3, y4⟩, z0, z1, z2, z3, z4⟩ := cells5 bA; obtain ⟨⟨p0, p1, p2, p3, p4⟩, -⟩ := cells5 bB; clear bA bB; clear hvt) | (go_at_call 39; refine (HI.out _ hx3).mono ?_; rintro e w4 ⟨rfl, hx4, fr4⟩) | (go_at_call 26; refine (HH2.out _ hx2).mono ?_; rintro e w3 ⟨rfl, hx3, fr3⟩) | (go_at_call 26; refine HH.out.mono ?_; rintro e w2 ⟨rfl, hx2, fr2⟩))
      obtain ⟨W8, hW8, r8, fr8⟩ := box5 (.string ⟨#[]⟩) (.slice none 0 0) (.slice (some ⟨g, 0, none⟩) ls.length cap) (.string ⟨#[]⟩) (.string ⟨#[]⟩) HBA.out
      rw [hW8]
      clear hW8
      obtain ⟨⟨k0, k1, k2, k3, k4⟩, -⟩ := cells5 r8
      refine bodyPost_ret (v := .agg #[.string ⟨#[]⟩, .slice none 0 0, .slice (some ⟨g, 0, none⟩) ls.length cap, .string ⟨#[]⟩, .string ⟨#[]⟩]) (by simp [results, Tryz.results104, go_sem, k0, k1, k2, k3, k4]) rfl ⟨_, rfl, HVT.out.fin (Fr.refl _ _) (HVT.out.xr.fr ((Fr.refl (fun _ => False) w5).alloc _) (fun x => x)) fr8 []⟩
    | false =>
      have HT := hide ht
      have HH3 := hide (fun W hW => hasR_ok (X := X) (q := q) (w := W) (s := s5) (p := [47]) hW (by decide) (by decide))
      cases hbs : s5.is [47] with
      | false =>
        rw [hbs] at HH3
        have hA : attrR q s5 ls = (⟨[], .nil, Stps.of ls, [], []⟩, s5.bl) := by unfold attrR; rw [ht, hbs, he]; simp
        rw [hA]
        rw [has_no hbs] at HH3
        clear he ht hA hbs
        go_enter Tryz.func104, Tryz.ntmps104
        go_wp2_with (first | (go_at_call 26; refine (HH3.out _ hx5).mono ?_; rintro e w6 ⟨rfl, hx6, fr6⟩; obtain ⟨bA, bB⟩ := HVT.out.boxes fr6; have HBA := hide bA; obtain ⟨⟨y0, y1, y2, y3, y4⟩, z0, z1, z2, z3, z4⟩ := cells5 bA; obtain ⟨⟨p0, p1, p2, p3, p4⟩, -⟩ := cells5 bB; clear bA bB) | (go_at_call 40; refine (HMO.out _ hx4).mono ?_; rintro e w5 hm; obtain ⟨v5, rfl, hvt⟩ := HV.out _ _ _ ((fr2.same fr3).same fr4) hm; clear hm; have HVT := hide hvt; obtain ⟨g, cap, k, TT, rfl, hlen, hk5, hTT, hcl⟩ := hvt.last; have c3 := hvt.errc (.cells (pbox (.slice (some ⟨g, 0, none⟩) ls.length cap) ⟨#[]⟩) 80); have hcl2 := hcl (.cells (pbox (.slice (some ⟨g, 0, none⟩) ls.length cap) ⟨#[]⟩) 80); obtain ⟨hw1, hk1, hk2, hk3⟩ := last_nums hlen hk5; clear hlen hk5 hcl; have c3' := c3; rw [HE.out] at c3'; clear c3; have c3 : World.cell? _ _ = some (.int .i64 0) := c3'; clear c3'; rw [HT.out] at hTT; have hx5 := HVT.out.xr.fr ((Fr.refl (fun _ => False) w5).alloc (.cells (pbox (.slice (some ⟨g, 0, none⟩) ls.length cap) ⟨#[]⟩) 80)) (fun x => x); clear hvt) | (go_at_call 39; refine (HI.out _ hx3).mono ?_; rintro e w4 ⟨rfl, hx4, fr4⟩) | (go_at_call 26; refine (HH2.out _ hx2).mono ?_; rintro e w3 ⟨rfl, hx3, fr3⟩) | (go_at_call 26; refine HH.out.mono ?_; rintro e w2 ⟨rfl, hx2, fr2⟩))
        obtain ⟨W8, hW8, r8, fr8⟩ := box5 (.string ⟨#[]⟩) (.slice none 0 0) (.slice (some ⟨g, 0, none⟩) ls.length cap) (.string ⟨#[]⟩) (.string ⟨#[]⟩) HBA.out
        rw [hW8]
        clear hW8
        obtain ⟨⟨k0, k1, k2, k3, k4⟩, -⟩ := cells5 r8
        refine bodyPost_ret (v := .agg #[.string ⟨#[]⟩, .slice none 0 0, .slice (some ⟨g, 0, none⟩) ls.length cap, .string ⟨#[]⟩, .string ⟨#[]⟩]) (by simp [results, Tryz.results104, go_sem, k0, k1, k2, k3, k4]) rfl ⟨_, rfl, HVT.out.fin (fr6.mono fun _ e => Or.inl e) hx6 fr8 []⟩
      | true =>
        rw [hbs] at HH3
        have hA : attrR q s5 ls = (⟨[], .nil, Stps.of ls, ((s5.has [47]).must q [64]).peek, []⟩, ((s5.has [47]).must q [64]).name q) := by unfold attrR; rw [if_pos ⟨he, ht, hbs⟩]
        rw [hA]
        have HM3 : Hid (∀ W, XR X q W (s5.has [47]) → Calls Tryz.prog 71 #[ptr X, .string ⟨#[64]⟩] W (XE X q W ((s5.has [47]).must q [64]))) := fun W hW => mustR_ok (p := [64]) hW (by decide) (by decide)
        have HN3 : Hid (∀ W, XR X q W ((s5.has [47]).must q [64]) → Calls Tryz.prog 70 #[ptr X] W (XS X q W ((s5.has [47]).must q [64]).peek (((s5.has [47]).must q [64]).name q))) := fun W hW => nameRd_ok hW
        clear he ht hA hbs
        generalize ((s5.has [47]).must q [64]).name q = s8 at *
        generalize ((s5.has [47]).must q [64]).peek = P8 at *
        generalize (s5.has [47]).must q [64] = s7 at *
        generalize s5.has [47] = s6 at *
        go_enter Tryz.func104, Tryz.ntmps104
        go_wp2_with (first | (go_at_call 70; refine (HN3.out _ hx7).mono ?_; rintro e w8 ⟨rfl, hx8, fr8'⟩; obtain ⟨-, bC⟩ := HVT.out.boxes ((fr6.same fr7).same fr8'); obtain ⟨⟨-, -, -, v3, -⟩, -, -, -, u3, -⟩ := cells5 bC; clear bC; obtain ⟨W9, hW9, bA, bB, fr9, hx9⟩ := HVT.out.set ((fr6.same fr7).same fr8') P8; have hx9 := hx9 _ hx8; have HBA := hide bA; obtain ⟨⟨y0, y1, y2, y3, y4⟩, z0, z1, z2, z3, z4⟩ := cells5 bA; obtain ⟨⟨p0, p1, p2, p3, p4⟩, -⟩ := cells5 bB; clear bA bB) | (go_at_call 71; refine (HM3.out _ hx6).mono ?_; rintro e w7 ⟨rfl, hx7, fr7⟩) | (go_at_call 26; refine (HH3.out _ hx5).mono ?_; rintro e w6 ⟨rfl, hx6, fr6⟩) | (go_at_call 40; refine (HMO.out _ hx4).mono ?_; rintro e w5 hm; obtain ⟨v5, rfl, hvt⟩ := HV.out _ _ _ ((fr2.same fr3).same fr4) hm; clear hm; have HVT := hide hvt; obtain ⟨g, cap, k, TT, rfl, hlen, hk5, hTT, hcl⟩ := hvt.last; have c3 := hvt.errc (.cells (pbox (.slice (some ⟨g, 0, none⟩) ls.length cap) ⟨#[]⟩) 80); have hcl2 := hcl (.cells (pbox (.slice (some ⟨g, 0, none⟩) ls.length cap) ⟨#[]⟩) 80); obtain ⟨hw1, hk1, hk2, hk3⟩ := last_nums hlen hk5; clear hlen hk5 hcl; have c3' := c3; rw [HE.out] at c3'; clear c3; have c3 : World.cell? _ _ = some (.int .i64 0) := c3'; clear c3'; rw [HT.out] at hTT; have hx5 := HVT.out.xr.fr ((Fr.refl (fun _ => False) w5).alloc (.cells (pbox (.slice (some ⟨g, 0, none⟩) ls.length cap) ⟨#[]⟩) 80)) (fun x => x); clear hvt) | (go_at_call 39; refine (HI.out _ hx3).mono ?_; rintro e w4 ⟨rfl, hx4, fr4⟩) | (go_at_call 26; refine (HH2.out _ hx2).mono ?_; rintro e w3 ⟨rfl, hx3, fr3⟩) | (go_at_call 26; refine HH.out.mono ?_; rintro e w2 ⟨rfl, hx2, fr2⟩))
        obtain ⟨W8, hW8, r8, fr8⟩ := box5 (.string ⟨#[]⟩) (.slice none 0 0) (.slice (some ⟨g, 0, none⟩) ls.length cap) (.string (bs P8)) (.string ⟨#[]⟩) HBA.out
        rw [hW8]
        clear hW8
        obtain ⟨⟨k0, k1, k2, k3, k4⟩, -⟩ := cells5 r8
        refine bodyPost_ret (v := .agg #[.string ⟨#[]⟩, .slice none 0 0, .slice (some ⟨g, 0, none⟩) ls.length cap, .string (bs P8), .string ⟨#[]⟩]) (by simp [results, Tryz.results104, go_sem, k0, k1, k2, k3, k4]) rfl ⟨_, rfl, HVT.out.fin fr9 hx9 fr8 P8⟩
  · rw [dead_attr he]
    have hb : ((s5.err : Int) == 0) = false := by simp; omega
    have hb2 : (s5.err == 0) = false := by simpa using he
    clear he
    go_enter Tryz.func104, Tryz.ntmps104
    go_wp2_with (first | (go_at_call 40; refine (HMO.out _ hx4).mono ?_; rintro e w5 hm; obtain ⟨v5, rfl, hvt⟩ := HV.out _ _ _ ((fr2.same fr3).same fr4) hm; clear hm; have HVT := hide hvt; obtain ⟨g, cap, k, TT, rfl, hlen, hk5, hTT, hcl⟩ := hvt.last; have c3 := hvt.errc (.cells (pbox (.slice (some ⟨g, 0, none⟩) ls.length cap) ⟨#[]⟩) 80); have hcl2 := hcl (.cells (pbox (.slice (some ⟨g, 0, none⟩) ls.length cap) ⟨#[]⟩) 80); obtain ⟨hw1, hk1, hk2, hk3⟩ := last_nums hlen hk5; clear hlen hk5 hcl; obtain ⟨bA, bB⟩ := HVT.out.boxes (Fr.refl (fun k => k = X) _); have HBA := hide bA; obtain ⟨⟨y0, y1, y2, y3, y4⟩, z0, z1, z2, z3, z4⟩ := cells5 bA; obtain ⟨⟨p0, p1, p2, p3, p4⟩, -⟩ := cells5 bB; clear bA bB; clear hvt) | (go_at_call 39; refine (HI.out _ hx3).mono ?_; rintro e w4 ⟨rfl, hx4, fr4⟩) | (go_at_call 26; refine (HH2.out _ hx2).mono ?_; rintro e w3 ⟨rfl, hx3, fr3⟩) | (go_at_call 26; refine HH.out.mono ?_; rintro e w2 ⟨rfl, hx2, fr2⟩))
    obtain ⟨W8, hW8, r8, fr8⟩ := box5 (.string ⟨#[]⟩) (.slice none 0 0) (.slice (some ⟨g, 0, none⟩) ls.length cap) (.string ⟨#[]⟩) (.string ⟨#[]⟩) HBA.out
    rw [hW8]
    clear hW8
    obtain ⟨⟨k0, k1, k2, k3, k4⟩, -⟩ := cells5 r8
    refine bodyPost_ret (v := .agg #[.string ⟨#[]⟩, .slice none 0 0, .slice (some ⟨g, 0, none⟩) ls.length cap, .string ⟨#[]⟩, .string ⟨#[]⟩]) (by simp [results, Tryz.results104, go_sem, k0, k1, k2, k3, k4]) rfl ⟨_, rfl, HVT.out.fin (Fr.refl _ _) (HVT.out.xr.fr ((Fr.refl (fun _ => False) w5).alloc _) (fun x => x)) fr8 []⟩
end Go.Proofs.YtigpjemceodjcaaGreatDoor

set_option linter.unusedSimpArgs false
set_option linter.unusedVariables false
namespace Go.Proofs.YtigpjemceodjcaaGreatDoor
open Go.RowKit Go.Maps Go.Lib
variable {w w' w1 w2 w5 w7 W0 W1 W2 W3 W4 WO wr W W5 W6 W8 WR : World} {A A' F G : Nat → Prop} {X lo n Bp : Nat} {q l l' p word : L} {s s' s3 s5 s7 : RS} {v v' v5 vp : Value} {inner read : RS → Prd × RS} {ls : List Stp} {st : Stp}
theorem row_one {vi : Option Addr} {vn vc : Nat} (hX : X < w.heap.size) (f : Fr (fun k => k = X) (w.alloc (.cells zero5 80)) W3) (f6 : Fr (fun k => k = X) W3 W6) (x6 : XR X q W6 s3) (sp : slP W6 (fun b => W3.heap.size ≤ b) 77 80 (.slice vi vn vc) st.preds) : Fr (fun k => k = X) (w.alloc (.cells zero5 80)) ((W6.alloc (.cells #[.bool st.deep, .string (bs st.test), .slice vi vn vc] 77)).alloc (.cells #[.bool st.deep, .string (bs st.test), .slice vi vn vc] 77)) ∧ XR X q ((W6.alloc (.cells #[.bool st.deep, .string (bs st.test), .slice vi vn vc] 77)).alloc (.cells #[.bool st.deep, .string (bs st.test), .slice vi vn vc] 77)) s3 ∧ GS (w.heap.size + 1) 77 80 ((W6.alloc (.cells #[.bool st.deep, .string (bs st.test), .slice vi vn vc] 77)).alloc (.cells #[.bool st.deep, .string (bs st.test), .slice vi vn vc] 77)) (.slice (some ⟨W6.heap.size + 1, 0, none⟩) 1 1) [st] := by
  have hz := f.size
  have hz6 := f6.size
  rw [show (w.alloc (.cells zero5 80)).heap.size = w.heap.size + 1 by simp] at hz
  generalize hC : (Obj.cells #[.bool st.deep, .string (bs st.test), .slice vi vn vc] 77 (0, 0)) = C
  have fA : Fr (fun _ => False) W6 (W6.alloc C) := (Fr.refl _ W6).alloc _
  have fB : Fr (fun _ => False) (W6.alloc C) ((W6.alloc C).alloc C) := (Fr.refl _ _).alloc _
  have hsz2 : (W6.alloc C).heap.size = W6.heap.size + 1 := by simp
  refine ⟨((f.same f6).same (fA.mono fun _ x => x.elim)).same (fB.mono fun _ x => x.elim), (x6.fr fA (fun x => x)).fr fB (fun x => x), ?_⟩
  have := GS.first (lo := w.heap.size + 1) (tS := 77) (tP := 80) (w := W6.alloc C) (s := st) (vp := .slice vi vn vc) (by rw [hsz2]; omega) (sp.move fun b hb hl => ⟨by omega, Below.heap_alloc _ _ _ hl⟩)
  rw [hC, hsz2] at this
  exact this
set_option maxHeartbeats 8000000 in
set_option maxRecDepth 100000 in
theorem value4_ok (hi : InRK X q (n + 1) inner) (h : XR X q w s) (n8 : n ≤ 9) (hn : s.err = 0 → s.nest = n ∧ n ≤ 8) (hb : s.is [64] = false) (hb2 : s.bl.is [46] = false) (hst : stepR q inner false s.bl.bl = (st, s3)) (hY : moreR q inner true (s3.l.length + 1) [st] s3 = (ls, s5)) : Calls Tryz.prog 104 #[ptr X] w (XV X q (PV (fun b => w.heap.size ≤ b) 77 80) w (attrR q s5 ls)) := by
  have hX := h.lt
  have f0 : Fr (fun _ => False) w (w.alloc (.cells zero5 80)) := (Fr.refl _ w).alloc _
  have HH := hide (hasR_ok (p := [64]) (h.fr f0 (fun x => x)) (by decide) (by decide))
  rw [hb, has_no hb] at HH
  have HH2 : Hid (∀ W, XR X q W s.bl → Calls Tryz.prog 26 #[ptr X, .string ⟨#[46]⟩] W (XB X q W false s.bl.bl)) := fun W hW => by have := hasR_ok (p := [46]) hW (by decide) (by decide); rw [hb2, has_no hb2] at this; exact this
  have hns1 := keepsN ((keeps_bl s).trans (keeps_bl _)) n8 hn
  have HSP : Hid (∀ W, XR X q W s.bl.bl → Calls Tryz.prog 55 #[ptr X, .bool false] W (XV X q (SV (fun b => W.heap.size ≤ b) 77 80) W (st, s3))) := fun W hW => by rw [← hst]; exact stepR_ok hi hW n8 hns1
  have hns : s3.err = 0 → s3.nest = n ∧ n ≤ 8 := by have := keepsN (keeps_step (q := q) hi.keeps false s.bl.bl) n8 hns1; rw [hst] at this; exact this
  have hne : ls ≠ [] := by
    have := more_grow (q := q) (inner := inner) true (s3.l.length + 1) [st] s3
    rw [hY] at this
    intro e; rw [e] at this; simp at this
  have HMO : Hid (∀ W3 W6 vi vn vc, Fr (fun k => k = X) (w.alloc (.cells zero5 80)) W3 → Fr (fun k => k = X) W3 W6 → XR X q W6 s3 → slP W6 (fun b => W3.heap.size ≤ b) 77 80 (.slice vi vn vc) st.preds → Fr (fun k => k = X) (w.alloc (.cells zero5 80)) ((W6.alloc (.cells #[.bool st.deep, .string (bs st.test), .slice vi vn vc] 77)).alloc (.cells #[.bool st.deep, .string (bs st.test), .slice vi vn vc] 77)) ∧ Calls Tryz.prog 40 #[ptr X, .slice (some ⟨W6.heap.size + 1, 0, none⟩) 1 1, .bool true] ((W6.alloc (.cells #[.bool st.deep, .string (bs st.test), .slice vi vn vc] 77)).alloc (.cells #[.bool st.deep, .string (bs st.test), .slice vi vn vc] 77)) (MR X q ((W6.alloc (.cells #[.bool st.deep, .string (bs st.test), .slice vi vn vc] 77)).alloc (.cells #[.bool st.deep, .string (bs st.test), .slice vi vn vc] 77)) (w.heap.size + 1) (ls, s5))) := fun W3 W6 vi vn vc f f6 x6 sp => by
    obtain ⟨a, b, c⟩ := row_one hX f f6 x6 sp
    refine ⟨a, ?_⟩
    rw [← hY]
    exact moreR_ok (Nat.lt_succ_self _) hi b n8 hns (by omega) (by have := a.size; rw [show (w.alloc (.cells zero5 80)).heap.size = w.heap.size + 1 by simp] at this; exact this) c (by simp) (fun e => by simp at e)
  have HV : Hid (∀ W4 e W5, Fr (fun k => k = X) (w.alloc (.cells zero5 80)) W4 → MR X q W4 (w.heap.size + 1) (ls, s5) e W5 → ∃ v5, e = .returned v5 ∧ VT X q w W5 v5 ls s5) := fun W4 e W5 f m => by
    obtain ⟨v', rfl, m2⟩ := m
    exact ⟨v', rfl, VT.of (Y := (ls, s5)) hX f (Nat.le_refl _) hne ⟨v', rfl, m2⟩⟩
  clear hb hb2 hY hns hns1 hne hn hi h f0 hst
  by_cases he : s5.err = 0
  · have HE := hide he
    cases ht : lastText ls with
    | true =>
      have hA : attrR q s5 ls = (⟨[], .nil, Stps.of ls, [], []⟩, s5) := by unfold attrR; rw [ht]; simp
      rw [hA]
      have HT := hide ht
      clear he ht hA
      go_enter Tryz.func104, Tryz.ntmps104
      go_wp2_with (first | (go_at_call 40; refine HM1.out.mono ?_; rintro e w5 hm; obtain ⟨v5, rfl, hvt⟩ := HV.out _ _ _ frR hm; clear hm; have HVT := hide hvt; obtain ⟨g, cap, k, TT, rfl, hlen, hk5, hTT, hcl⟩ := hvt.last; have c3 := hvt.errc (.cells (pbox (.slice (some ⟨g, 0, none⟩) ls.length cap) ⟨#[]⟩) 80); have hcl2 := hcl (.cells (pbox (.slice (some ⟨g, 0, none⟩) ls.length cap) ⟨#[]⟩) 80); obtain ⟨hw1, hk1, hk2, hk3⟩ := last_nums hlen hk5; clear hlen hk5 hcl; have c3' := c3; rw [HE.out] at c3'; clear c3; have c3 : World.cell? _ _ = some (.int .i64 0) := c3'; clear c3'; rw [HT.out] at hTT; obtain ⟨bA, bB⟩ := HVT.out.boxes (Fr.refl (fun k => k = X) _); have HBA := hide bA; obtain ⟨⟨y0, y1, y2, y3, y4⟩, z0, z1, z2, z3, z4⟩ := cells5 bA; obtain ⟨⟨p0, p1, p2, p3, p4⟩, -⟩ := cells5 bB; clear bA bB; clear hvt) | (go_at_call 55; refine (HSP.out _ hx3).mono ?_; rintro e wS ⟨vS, rfl, svS, hxS, frS⟩; obtain ⟨vi6, vn6, vc6, rfl, sp6⟩ := svS.shape; obtain ⟨frR, hmo⟩ := HMO.out _ _ _ _ _ (fr2.same fr3) frS hxS sp6; have HM1 := hide hmo; clear hmo sp6 svS; have hq3 := Below_new wS (.cells #[.bool st.deep, .string (bs st.test), .slice vi6 vn6 vc6] 77); have e0 := cell_of (i := 0) hq3 rfl; have e1 := cell_of (i := 1) hq3 rfl; have e2 := cell_of (i := 2) hq3 rfl; clear hq3) | (go_at_call 26; refine (HH2.out _ hx2).mono ?_; rintro e w3 ⟨rfl, hx3, fr3⟩) | (go_at_call 26; refine HH.out.mono ?_; rintro e w2 ⟨rfl, hx2, fr2⟩))
      obtain ⟨W8, hW8, r8, fr8⟩ := box5 (.string ⟨#[]⟩) (.slice none 0 0) (.slice (some ⟨g, 0, none⟩) ls.length cap) (.string ⟨#[]⟩) (.string ⟨#[]⟩) HBA.out
      rw [hW8]
      clear hW8
      obtain ⟨⟨k0, k1, k2, k3, k4⟩, -⟩ := cells5 r8
      refine bodyPost_ret (v := .agg #[.string ⟨#[]⟩, .slice none 0 0, .slice (some ⟨g, 0, none⟩) ls.length cap, .string ⟨#[]⟩, .string ⟨#[]⟩]) (by simp [results, Tryz.results104, go_sem, k0, k1, k2, k3, k4]) rfl ⟨_, rfl, HVT.out.fin (Fr.refl _ _) (HVT.out.xr.fr ((Fr.refl (fun _ => False) w5).alloc _) (fun x => x)) fr8 []⟩
    | false =>
      have HT := hide ht
      have HH3 := hide (fun W hW => hasR_ok (X := X) (q := q) (w := W) (s := s5) (p := [47]) hW (by decide) (by decide))
      cases hbs : s5.is [47] with
      | false =>
        rw [hbs] at HH3
        have hA : attrR q s5 ls = (⟨[], .nil, Stps.of ls, [], []⟩, s5.bl) := by unfold attrR; rw [ht, hbs, he]; simp
        rw [hA]
        rw [has_no hbs] at HH3
        clear he ht hA hbs
        go_enter Tryz.func104, Tryz.ntmps104
        go_wp2_with (first | (go_at_call 26; refine (HH3.out _ hx5).mono ?_; rintro e w6 ⟨rfl, hx6, fr6⟩; obtain ⟨bA, bB⟩ := HVT.out.boxes fr6; have HBA := hide bA; obtain ⟨⟨y0, y1, y2, y3, y4⟩, z0, z1, z2, z3, z4⟩ := cells5 bA; obtain ⟨⟨p0, p1, p2, p3, p4⟩, -⟩ := cells5 bB; clear bA bB) | (go_at_call 40; refine HM1.out.mono ?_; rintro e w5 hm; obtain ⟨v5, rfl, hvt⟩ := HV.out _ _ _ frR hm; clear hm; have HVT := hide hvt; obtain ⟨g, cap, k, TT, rfl, hlen, hk5, hTT, hcl⟩ := hvt.last; have c3 := hvt.errc (.cells (pbox (.slice (some ⟨g, 0, none⟩) ls.length cap) ⟨#[]⟩) 80); have hcl2 := hcl (.cells (pbox (.slice (some ⟨g, 0, none⟩) ls.length cap) ⟨#[]⟩) 80); obtain ⟨hw1, hk1, hk2, hk3⟩ := last_nums hlen hk5; clear hlen hk5 hcl; have c3' := c3; rw [HE.out] at c3'; clear c3; have c3 : World.cell? _ _ = some (.int .i64 0) := c3'; clear c3'; rw [HT.out] at hTT; have hx5 := HVT.out.xr.fr ((Fr.refl (fun _ => False) w5).alloc (.cells (pbox (.slice (some ⟨g, 0, none⟩) ls.length cap) ⟨#[]⟩) 80)) (fun x => x); clear hvt) | (go_at_call 55; refine (HSP.out _ hx3).mono ?_; rintro e wS ⟨vS, rfl, svS, hxS, frS⟩; obtain ⟨vi6, vn6, vc6, rfl, sp6⟩ := svS.shape; obtain ⟨frR, hmo⟩ := HMO.out _ _ _ _ _ (fr2.same fr3) frS hxS sp6; have HM1 := hide hmo; clear hmo sp6 svS; have hq3 := Below_new wS (.cells #[.bool st.deep, .string (bs st.test), .slice vi6 vn6 vc6] 77); have e0 := cell_of (i := 0) hq3 rfl; have e1 := cell_of (i := 1) hq3 rfl; have e2 := cell_of (i := 2) hq3 rfl; clear hq3) | (go_at_call 26; refine (HH2.out _ hx2).mono ?_; rintro e w3 ⟨rfl, hx3, fr3⟩) | (go_at_call 26; refine HH.out.mono ?_; rintro e w2 ⟨rfl, hx2, fr2⟩))
        obtain ⟨W8, hW8, r8, fr8⟩ := box5 (.string ⟨#[]⟩) (.slice none 0 0) (.slice (some ⟨g, 0, none⟩) ls.length cap) (.string ⟨#[]⟩) (.string ⟨#[]⟩) HBA.out
        rw [hW8]
        clear hW8
        obtain ⟨⟨k0, k1, k2, k3, k4⟩, -⟩ := cells5 r8
        refine bodyPost_ret (v := .agg #[.string ⟨#[]⟩, .slice none 0 0, .slice (some ⟨g, 0, none⟩) ls.length cap, .string ⟨#[]⟩, .string ⟨#[]⟩]) (by simp [results, Tryz.results104, go_sem, k0, k1, k2, k3, k4]) rfl ⟨_, rfl, HVT.out.fin (fr6.mono fun _ e => Or.inl e) hx6 fr8 []⟩
      | true =>
        rw [hbs] at HH3
        have hA : attrR q s5 ls = (⟨[], .nil, Stps.of ls, ((s5.has [47]).must q [64]).peek, []⟩, ((s5.has [47]).must q [64]).name q) := by unfold attrR; rw [if_pos ⟨he, ht, hbs⟩]
        rw [hA]
        have HM3 : Hid (∀ W, XR X q W (s5.has [47]) → Calls Tryz.prog 71 #[ptr X, .string ⟨#[64]⟩] W (XE X q W ((s5.has [47]).must q [64]))) := fun W hW => mustR_ok (p := [64]) hW (by decide) (by decide)
        have HN3 : Hid (∀ W, XR X q W ((s5.has [47]).must q [64]) → Calls Tryz.prog 70 #[ptr X] W (XS X q W ((s5.has [47]).must q [64]).peek (((s5.has [47]).must q [64]).name q))) := fun W hW => nameRd_ok hW
        clear he ht hA hbs
        generalize ((s5.has [47]).must q [64]).name q = s8 at *
        generalize ((s5.has [47]).must q [64]).peek = P8 at *
        generalize (s5.has [47]).must q [64] = s7 at *
        generalize s5.has [47] = s6 at *
        go_enter Tryz.func104, Tryz.ntmps104
        go_wp2_with (first | (go_at_call 70; refine (HN3.out _ hx7).mono ?_; rintro e w8 ⟨rfl, hx8, fr8'⟩; obtain ⟨-, bC⟩ := HVT.out.boxes ((fr6.same fr7).same fr8'); obtain ⟨⟨-, -, -, v3, -⟩, -, -, -, u3, -⟩ := cells5 bC; clear bC; obtain ⟨W9, hW9, bA, bB, fr9, hx9⟩ := HVT.out.set ((fr6.same fr7).same fr8') P8; have hx9 := hx9 _ hx8; have HBA := hide bA; obtain ⟨⟨y0, y1, y2, y3, y4⟩, z0, z1, z2, z3, z4⟩ := cells5 bA; obtain ⟨⟨p0, p1, p2, p3, p4⟩, -⟩ := cells5 bB; clear bA bB) | (go_at_call 71; refine (HM3.out _ hx6).mono ?_; rintro e w7 ⟨rfl, hx7, fr7⟩) | (go_at_call 26; refine (HH3.out _ hx5).mono ?_; rintro e w6 ⟨rfl, hx6, fr6⟩) | (go_at_call 40; refine HM1.out.mono ?_; rintro e w5 hm; obtain ⟨v5, rfl, hvt⟩ := HV.out _ _ _ frR hm; clear hm; have HVT := hide hvt; obtain ⟨g, cap, k, TT, rfl, hlen, hk5, hTT, hcl⟩ := hvt.last; have c3 := hvt.errc (.cells (pbox (.slice (some ⟨g, 0, none⟩) ls.length cap) ⟨#[]⟩) 80); have hcl2 := hcl (.cells (pbox (.slice (some ⟨g, 0, none⟩) ls.length cap) ⟨#[]⟩) 80); obtain ⟨hw1, hk1, hk2, hk3⟩ := last_nums hlen hk5; clear hlen hk5 hcl; have c3' := c3; rw [HE.out] at c3'; clear c3; have c3 : World.cell? _ _ = some (.int .i64 0) := c3'; clear c3'; rw [HT.out] at hTT; have hx5 := HVT.out.xr.fr ((Fr.refl (fun _ => False) w5).alloc (.cells (pbox (.slice (some ⟨g, 0, none⟩) ls.length cap) ⟨#[]⟩) 80)) (fun x => x); clear hvt) | (go_at_call 55; refine (HSP.out _ hx3).mono ?_; rintro e wS ⟨vS, rfl, svS, hxS, frS⟩; obtain ⟨vi6, vn6, vc6, rfl, sp6⟩ := svS.shape; obtain ⟨frR, hmo⟩ := HMO.out _ _ _ _ _ (fr2.same fr3) frS hxS sp6; have HM1 := hide hmo; clear hmo sp6 svS; have hq3 := Below_new wS (.cells #[.bool st.deep, .string (bs st.test), .slice vi6 vn6 vc6] 77); have e0 := cell_of (i := 0) hq3 rfl; have e1 := cell_of (i := 1) hq3 rfl; have e2 := cell_of (i := 2) hq3 rfl; clear hq3) | (go_at_call 26; refine (HH2.out _ hx2).mono ?_; rintro e w3 ⟨rfl, hx3, fr3⟩) | (go_at_call 26; refine HH.out.mono ?_; rintro e w2 ⟨rfl, hx2, fr2⟩))
        obtain ⟨W8, hW8, r8, fr8⟩ := box5 (.string ⟨#[]⟩) (.slice none 0 0) (.slice (some ⟨g, 0, none⟩) ls.length cap) (.string (bs P8)) (.string ⟨#[]⟩) HBA.out
        rw [hW8]
        clear hW8
        obtain ⟨⟨k0, k1, k2, k3, k4⟩, -⟩ := cells5 r8
        refine bodyPost_ret (v := .agg #[.string ⟨#[]⟩, .slice none 0 0, .slice (some ⟨g, 0, none⟩) ls.length cap, .string (bs P8), .string ⟨#[]⟩]) (by simp [results, Tryz.results104, go_sem, k0, k1, k2, k3, k4]) rfl ⟨_, rfl, HVT.out.fin fr9 hx9 fr8 P8⟩
  · rw [dead_attr he]
    have hb : ((s5.err : Int) == 0) = false := by simp; omega
    have hb2 : (s5.err == 0) = false := by simpa using he
    clear he
    go_enter Tryz.func104, Tryz.ntmps104
    go_wp2_with (first | (go_at_call 40; refine HM1.out.mono ?_; rintro e w5 hm; obtain ⟨v5, rfl, hvt⟩ := HV.out _ _ _ frR hm; clear hm; have HVT := hide hvt; obtain ⟨g, cap, k, TT, rfl, hlen, hk5, hTT, hcl⟩ := hvt.last; have c3 := hvt.errc (.cells (pbox (.slice (some ⟨g, 0, none⟩) ls.length cap) ⟨#[]⟩) 80); have hcl2 := hcl (.cells (pbox (.slice (some ⟨g, 0, none⟩) ls.length cap) ⟨#[]⟩) 80); obtain ⟨hw1, hk1, hk2, hk3⟩ := last_nums hlen hk5; clear hlen hk5 hcl; obtain ⟨bA, bB⟩ := HVT.out.boxes (Fr.refl (fun k => k = X) _); have HBA := hide bA; obtain ⟨⟨y0, y1, y2, y3, y4⟩, z0, z1, z2, z3, z4⟩ := cells5 bA; obtain ⟨⟨p0, p1, p2, p3, p4⟩, -⟩ := cells5 bB; clear bA bB; clear hvt) | (go_at_call 55; refine (HSP.out _ hx3).mono ?_; rintro e wS ⟨vS, rfl, svS, hxS, frS⟩; obtain ⟨vi6, vn6, vc6, rfl, sp6⟩ := svS.shape; obtain ⟨frR, hmo⟩ := HMO.out _ _ _ _ _ (fr2.same fr3) frS hxS sp6; have HM1 := hide hmo; clear hmo sp6 svS; have hq3 := Below_new wS (.cells #[.bool st.deep, .string (bs st.test), .slice vi6 vn6 vc6] 77); have e0 := cell_of (i := 0) hq3 rfl; have e1 := cell_of (i := 1) hq3 rfl; have e2 := cell_of (i := 2) hq3 rfl; clear hq3) | (go_at_call 26; refine (HH2.out _ hx2).mono ?_; rintro e w3 ⟨rfl, hx3, fr3⟩) | (go_at_call 26; refine HH.out.mono ?_; rintro e w2 ⟨rfl, hx2, fr2⟩))
    obtain ⟨W8, hW8, r8, fr8⟩ := box5 (.string ⟨#[]⟩) (.slice none 0 0) (.slice (some ⟨g, 0, none⟩) ls.length cap) (.string ⟨#[]⟩) (.string ⟨#[]⟩) HBA.out
    rw [hW8]
    clear hW8
    obtain ⟨⟨k0, k1, k2, k3, k4⟩, -⟩ := cells5 r8
    refine bodyPost_ret (v := .agg #[.string ⟨#[]⟩, .slice none 0 0, .slice (some ⟨g, 0, none⟩) ls.length cap, .string ⟨#[]⟩, .string ⟨#[]⟩]) (by simp [results, Tryz.results104, go_sem, k0, k1, k2, k3, k4]) rfl ⟨_, rfl, HVT.out.fin (Fr.refl _ _) (HVT.out.xr.fr ((Fr.refl (fun _ => False) w5).alloc _) (fun x => x)) fr8 []⟩
theorem valueR_ok (hi : InRK X q (n + 1) inner) (h : XR X q w s) (n8 : n ≤ 9) (hn : s.err = 0 → s.nest = n ∧ n ≤ 8) : Calls Tryz.prog 104 #[ptr X] w (XV X q (PV (fun b => w.heap.size ≤ b) 77 80) w (valueR q inner s)) := by
  unfold valueR
  cases hb : s.is [64] with
  | true => simp only [if_true]; exact value1_ok h hb
  | false =>
    simp only [Bool.false_eq_true, if_false]
    cases hb2 : s.bl.is [46] with
    | true =>
      simp only [if_true]
      cases hb3 : (s.bl.has [46]).is [47, 47] with
      | true => simp only [if_true]; exact value3_ok hi h n8 hn hb hb2 hb3 rfl
      | false => simp only [Bool.false_eq_true, if_false]; exact value2_ok h hb hb2 hb3
    | false => simp only [Bool.false_eq_true, if_false]; exact value4_ok hi h n8 hn hb hb2 rfl rfl
end Go.Proofs.YtigpjemceodjcaaGreatDoor

set_option linter.unusedSimpArgs false
set_option linter.unusedVariables false
namespace Go.Proofs.YtigpjemceodjcaaGreatDoor
open Go

variable {q l r T p w : L} {c : UInt8} {s : RS} {cut : Bool}
structure Cx (T : L) (cut : Bool) : Prop where
  st : T = [] ∨ Ch.okAt (bs T) 0 = false
  ct : cut = true ↔ T ≠ []
structure At (q T l : L) (s : RS) : Prop where
  err : s.err = 0
  eq : s.bl.l = l ++ T
  gd : Gd l
  suf : s.l <:+ q
theorem ok_ascii (hc : c.toNat < 128) (r : L) : Ch.okAt (bs (c :: r)) 0 = Ch.may (c.toNat : Int) := by
  unfold Ch.okAt
  rw [dec_ascii hc]
  have : ((c.toNat : Int) != 65533) = true := by simp; omega
  simp only [this]
  simp
  intro _; omega
theorem Cx.head (h : Cx T cut) (hc : c.toNat < 128) (hm : Ch.may (c.toNat : Int) = true) (t : L) : T ≠ c :: t := by
  rintro rfl
  rcases h.st with h | h
  · cases h
  · rw [ok_ascii hc, hm] at h; cases h
theorem Cx.stop (h : Cx T cut) : Stop T := h.st.elim Or.inl fun h => Or.inr (Or.inl h)
theorem Cx.skip (h : Cx T cut) : skip T = T := by
  cases T with
  | nil => rfl
  | cons c t =>
    rw [skip_cons, if_neg]
    intro hc
    refine h.head (c := c) ?_ ?_ t rfl
    · simp at hc; rcases hc with rfl | rfl | rfl | rfl <;> decide
    · simp at hc; rcases hc with rfl | rfl | rfl | rfl <;> decide
theorem skip_app (h : skip T = T) (a : L) : skip (a ++ T) = skip a ++ T := by
  induction a with
  | nil => rw [skip_nil]; exact h
  | cons c a ih =>
    rw [List.cons_append, skip_cons, skip_cons]
    split
    · exact ih
    · rfl
theorem part_pre (l : L) : part l <+: l := by
  unfold part
  split
  · exact List.take_prefix _ _
  · split
    · exact List.take_prefix _ _
    · exact List.take_prefix _ _
theorem part_cons (c : UInt8) (r : L) : ∃ t, part (c :: r) = c :: t := by
  unfold part
  split
  · next h => obtain ⟨k, hk⟩ : ∃ k, nm (c :: r) = k + 1 := ⟨nm (c :: r) - 1, by omega⟩; rw [hk]; exact ⟨_, rfl⟩
  · split
    · exact ⟨_, rfl⟩
    · exact ⟨_, rfl⟩
theorem pre_cons (c d : UInt8) (a b : L) : Lib.hasPrefix (c :: a) (d :: b) = (d == c && Lib.hasPrefix a b) := rfl
theorem pre_nil (a : L) : Lib.hasPrefix a [] = true := by cases a <;> rfl
structure Sg1 (d : UInt8) : Prop where
  lt : d.toNat < 128
  nb : Ch.begins (d.toNat : Int) = false
  my : Ch.may (d.toNat : Int) = true
  n47 : d ≠ 47
  n33 : d ≠ 33
theorem Cx.pre (h : Cx T cut) (hc : c.toNat < 128) (hm : Ch.may (c.toNat : Int) = true) (a b : L) : Lib.hasPrefix (a ++ T) (c :: b) = match a with
    | [] => false
    | d :: a => c == d && Lib.hasPrefix (a ++ T) b := by
  cases a with
  | nil =>
    cases hT : T with
    | nil => rfl
    | cons e t =>
      rw [List.nil_append, pre_cons]
      have : (c == e) = false := by
        simp only [beq_eq_false_iff_ne]
        rintro rfl
        exact h.head hc hm t hT
      rw [this]; rfl
  | cons d a => rw [List.cons_append, pre_cons]
theorem part_one {d : UInt8} (hd : Sg1 d) (r : L) : part (d :: r) = [d] := by
  unfold part
  rw [nm_sign hd.lt hd.nb, pre_cons, pre_cons]
  have h1 : (47 == d) = false := by simp; exact fun e => hd.n47 e.symm
  have h2 : (33 == d) = false := by simp; exact fun e => hd.n33 e.symm
  rw [h1, h2]
  simp
theorem sign1 (h : Cx T cut) {d : UInt8} (hd : Sg1 d) (l : L) : isB [d] (l ++ T) = (part l == [d]) := by
  unfold isB
  have h47 : (([d] : L) != [47]) = true := by simp; exact hd.n47
  rw [h47, h.pre hd.lt hd.my]
  cases l with
  | nil => rw [part_nil]; rfl
  | cons c r =>
    simp only [pre_nil, Bool.and_true, Bool.true_or]
    cases hdc : d == c with
    | true =>
      have e : d = c := by simpa using hdc
      subst e
      rw [part_one hd]; simp
    | false =>
      obtain ⟨t, ht⟩ := part_cons c r
      rw [ht]
      have : d ≠ c := by simpa using hdc
      symm
      simp
      intro e; exact absurd e.symm this
theorem b47 : (47 : UInt8).toNat < 128 ∧ Ch.begins ((47 : UInt8).toNat : Int) = false ∧ Ch.may ((47 : UInt8).toNat : Int) = true := by decide
theorem b33 : (33 : UInt8).toNat < 128 ∧ Ch.begins ((33 : UInt8).toNat : Int) = false ∧ Ch.may ((33 : UInt8).toNat : Int) = true := by decide
theorem b61 : (61 : UInt8).toNat < 128 ∧ Ch.begins ((61 : UInt8).toNat : Int) = false ∧ Ch.may ((61 : UInt8).toNat : Int) = true := by decide
theorem part47 (r : L) : part (47 :: r) = if Lib.hasPrefix r [47] = true then 47 :: r.take 1 else [47] := by
  unfold part
  rw [nm_sign b47.1 b47.2.1, pre_cons, pre_cons]
  simp
theorem part33 (r : L) : part (33 :: r) = if Lib.hasPrefix r [61] = true then 33 :: r.take 1 else [33] := by
  unfold part
  rw [nm_sign b33.1 b33.2.1, pre_cons, pre_cons]
  simp
theorem pre_one (d : UInt8) (r : L) : Lib.hasPrefix r [d] = (r.take 1 == [d]) := by
  cases r with
  | nil => rfl
  | cons c r => rw [pre_cons, pre_nil]; simp; rw [Bool.beq_comm]
theorem sign47 (h : Cx T cut) (l : L) : isB [47] (l ++ T) = (part l == [47]) := by
  unfold isB
  rw [h.pre b47.1 b47.2.2]
  cases l with
  | nil => rw [part_nil]; rfl
  | cons c r =>
    simp only [pre_nil, Bool.and_true]
    cases hdc : (47 : UInt8) == c with
    | true =>
      have e : 47 = c := by simpa using hdc
      subst e
      have e2 : Lib.hasPrefix (((47 : UInt8) :: r ++ T).drop 1) [47] = Lib.hasPrefix r [47] := by
        show Lib.hasPrefix (r ++ T) [47] = _
        rw [h.pre b47.1 b47.2.2]
        cases r with
        | nil => rfl
        | cons d r => simp only [pre_nil]; rw [pre_cons, pre_nil]
      rw [e2, part47]
      cases hp : Lib.hasPrefix r [47] with
      | true => rw [pre_one] at hp; simp at hp; rw [hp]; rfl
      | false => rfl
    | false =>
      obtain ⟨t, ht⟩ := part_cons c r
      rw [ht]
      have : 47 ≠ c := by simpa using hdc
      symm
      simp
      intro e; exact absurd e.symm this
theorem sign4747 (h : Cx T cut) (l : L) : isB [47, 47] (l ++ T) = (part l == [47, 47]) := by
  unfold isB
  rw [h.pre b47.1 b47.2.2]
  cases l with
  | nil => rw [part_nil]; rfl
  | cons c r =>
    simp only
    cases hdc : (47 : UInt8) == c with
    | true =>
      have e : 47 = c := by simpa using hdc
      subst e
      rw [h.pre b47.1 b47.2.2, part47]
      cases r with
      | nil => rfl
      | cons d r =>
        simp only [pre_nil, pre_cons]
        cases hd : (47 : UInt8) == d with
        | true => have e : 47 = d := by simpa using hd
                  subst e; rfl
        | false => rfl
    | false =>
      obtain ⟨t, ht⟩ := part_cons c r
      rw [ht]
      have : 47 ≠ c := by simpa using hdc
      symm
      simp
      intro e; exact absurd e.symm this
theorem sign3361 (h : Cx T cut) (l : L) : isB [33, 61] (l ++ T) = (part l == [33, 61]) := by
  unfold isB
  rw [h.pre b33.1 b33.2.2]
  cases l with
  | nil => rw [part_nil]; rfl
  | cons c r =>
    simp only
    cases hdc : (33 : UInt8) == c with
    | true =>
      have e : 33 = c := by simpa using hdc
      subst e
      rw [h.pre b61.1 b61.2.2, part33]
      cases r with
      | nil => rfl
      | cons d r =>
        simp only [pre_nil, pre_cons]
        cases hd : (61 : UInt8) == d with
        | true => have e : 61 = d := by simpa using hd
                  subst e; rfl
        | false => rfl
    | false =>
      obtain ⟨t, ht⟩ := part_cons c r
      rw [ht]
      have : 33 ≠ c := by simpa using hdc
      symm
      simp
      intro e; exact absurd e.symm this
structure Sg (p : L) : Prop where
  is : ∀ T cut, Cx T cut → ∀ l, isB p (l ++ T) = (part l == p)
  asc : ∀ c ∈ p, c.toNat < 128
  ne : p ≠ []
theorem Sg.of1 {d : UInt8} (hd : Sg1 d) : Sg [d] := ⟨fun T cut h l => sign1 h hd l, fun c hc => by simp at hc; subst hc; exact hd.lt, by simp⟩
theorem sg40 : Sg [40] := Sg.of1 ⟨by decide, by decide, by decide, by decide, by decide⟩
theorem sg41 : Sg [41] := Sg.of1 ⟨by decide, by decide, by decide, by decide, by decide⟩
theorem sg91 : Sg [91] := Sg.of1 ⟨by decide, by decide, by decide, by decide, by decide⟩
theorem sg93 : Sg [93] := Sg.of1 ⟨by decide, by decide, by decide, by decide, by decide⟩
theorem sg42 : Sg [42] := Sg.of1 ⟨by decide, by decide, by decide, by decide, by decide⟩
theorem sg64 : Sg [64] := Sg.of1 ⟨by decide, by decide, by decide, by decide, by decide⟩
theorem sg46 : Sg [46] := Sg.of1 ⟨by decide, by decide, by decide, by decide, by decide⟩
theorem sg61 : Sg [61] := Sg.of1 ⟨by decide, by decide, by decide, by decide, by decide⟩
theorem sg124 : Sg [124] := Sg.of1 ⟨by decide, by decide, by decide, by decide, by decide⟩
theorem sg34 : Sg [34] := Sg.of1 ⟨by decide, by decide, by decide, by decide, by decide⟩
theorem sg39 : Sg [39] := Sg.of1 ⟨by decide, by decide, by decide, by decide, by decide⟩
theorem sg47 : Sg [47] := ⟨fun T cut h l => sign47 h l, by decide, by decide⟩
theorem sg4747 : Sg [47, 47] := ⟨fun T cut h l => sign4747 h l, by decide, by decide⟩
theorem sg3361 : Sg [33, 61] := ⟨fun T cut h l => sign3361 h l, by decide, by decide⟩
theorem gd_asc : ∀ {p r : L}, (∀ c ∈ p, c.toNat < 128) → Gd (p ++ r) → Gd r
  | [], r, _, h => h
  | c :: p, r, ha, h => gd_asc (fun d hd => ha d (List.mem_cons_of_mem _ hd)) (gd_cons h (ha c (List.mem_cons_self)))
theorem part_app (h : part l = p) : l = p ++ l.drop p.length := by
  obtain ⟨t, ht⟩ := part_pre l
  rw [h] at ht
  rw [← ht]; simp
theorem At.bl (h : At q T l s) : At q T l s.bl := ⟨by rw [bl_err]; exact h.err, by rw [bl_bl]; exact h.eq, h.gd, (bl_suf s).trans h.suf⟩
theorem At.is (hx : Cx T cut) (h : At q T l s) (hp : Sg p) : s.is p = (part l == p) := by
  unfold RS.is
  rw [h.eq, hp.is T cut hx l]
  simp [h.err]
theorem At.drop (hx : Cx T cut) (h : At q T l s) {m : Nat} (hm : m ≤ l.length) (hg : Gd (l.drop m)) : At q T (pass m l) { s.bl with l := s.bl.l.drop m } := by
  refine ⟨by simp only [bl_err]; exact h.err, ?_, gd_skip hg, (List.drop_suffix _ _).trans ((bl_suf s).trans h.suf)⟩
  unfold RS.bl
  have e : s.bl.err = 0 := by rw [bl_err]; exact h.err
  change (if s.bl.err = 0 then _ else _ : RS).l = _
  rw [if_pos e]
  show Go.Proofs.YtigpjemceodjcaaGreatDoor.skip (s.bl.l.drop m) = _
  rw [h.eq, List.drop_append_of_le_length hm, skip_app hx.skip]
  rfl
theorem At.has (hx : Cx T cut) (h : At q T l s) (hp : Sg p) (hb : part l = p) : At q T (pass p.length l) (s.has p) := by
  have : s.is p = true := by rw [h.is hx hp, hb]; simp
  unfold RS.has
  rw [if_pos this]
  have hl := part_app hb
  have hle : p.length ≤ l.length := by rw [hl]; simp
  refine h.drop hx hle ?_
  have hg := h.gd
  rw [hl] at hg
  have := gd_asc hp.asc hg
  exact this
theorem At.okwS (hx : Cx T cut) (h : At q T l s) : (s.bl.l ≠ [] ∧ okw q s.bl.l = 0) ↔ (l = [] ∧ cut = true) := by
  have hs := (bl_suf s).trans h.suf
  rw [h.eq] at hs ⊢
  constructor
  · rintro ⟨h1, h2⟩
    rw [okw_eq hs h1] at h2
    cases l with
    | nil => exact ⟨rfl, hx.ct.2 (by simpa using h1)⟩
    | cons c r =>
      obtain ⟨g1, g2, g3, -⟩ := gd_step h.gd (by simp)
      have hd := Ch.join_ok (jn (c :: r) T) (p := 0) (by rw [bsz]; simp) g1
      rw [if_pos (by rw [Ch.okSame hd]; exact g1)] at h2
      unfold wd at h2 g2
      rw [hd] at h2
      omega
  · rintro ⟨rfl, h2⟩
    have hT := hx.ct.1 h2
    refine ⟨by simpa using hT, ?_⟩
    rw [okw_eq hs (by simpa using hT)]
    rcases hx.st with h3 | h3
    · exact absurd h3 hT
    · rw [List.nil_append, h3]; rfl
theorem At.wrong (hx : Cx T cut) (h : At q T l s) : (s.wrong q).err = (bad cut l).1 ∧ (bad cut l).1 ≠ 0 := by
  have e : s.bl.err = 0 := by rw [bl_err]; exact h.err
  unfold RS.wrong RS.fail
  rw [if_pos e]
  simp only [h.okwS hx, bad]
  refine ⟨trivial, ?_⟩
  split <;> decide
theorem At.peek (hx : Cx T cut) (h : At q T l s) : s.peek = l.take (nm l) := by
  unfold RS.peek
  rw [if_pos h.err, h.eq, nm_app h.gd hx.stop, List.take_append_of_le_length (nmq_le l)]
theorem At.namd (hx : Cx T cut) (h : At q T l s) (hn : nm l ≠ 0) : At q T (pass (nm l) l) (s.name q) := by
  have hle := nmq_le l
  have hp := h.peek hx
  have hlen : s.peek.length = nm l := by rw [hp, List.length_take]; omega
  unfold RS.name
  rw [if_neg (by intro e; rw [e] at hlen; exact hn hlen.symm), hlen]
  exact h.drop hx hle (gd_name h.gd)
theorem At.noname (hx : Cx T cut) (h : At q T l s) (hn : nm l = 0) : (s.name q).err = (bad cut l).1 := by
  unfold RS.name
  rw [if_pos (by rw [h.peek hx, hn]; rfl)]
  exact (h.bl.wrong hx).1
end Go.Proofs.YtigpjemceodjcaaGreatDoor

set_option linter.unusedSimpArgs false
set_option linter.unusedVariables false
namespace Go.Proofs.YtigpjemceodjcaaGreatDoor
open Go
variable {q l l' r T p w : L} {c : UInt8} {s s' : RS} {cut : Bool} {α : Type} {e : Nat}
structure Wd (w : L) : Prop where
  two : 2 ≤ w.length
  n47 : w.head? ≠ some 47
  n33 : w.head? ≠ some 33
theorem wdOr : Wd wOr := ⟨by decide, by decide, by decide⟩
theorem wdAnd : Wd wAnd := ⟨by decide, by decide, by decide⟩
theorem wdNot : Wd wNot := ⟨by decide, by decide, by decide⟩
theorem wdText : Wd wText := ⟨by decide, by decide, by decide⟩
theorem part_word (hw : Wd w) (l : L) : part l = w ↔ l.take (nm l) = w := by
  unfold part
  split
  · exact Iff.rfl
  · next h =>
    have h0 : nm l = 0 := by omega
    rw [h0]
    have hne : ¬ (l.take 0 = w) := by intro x; have := hw.two; rw [← x] at this; simp at this
    refine ⟨fun x => ?_, fun x => absurd x hne⟩
    exfalso
    split at x
    · next hp =>
      cases l with
      | nil => have := hw.two; rw [← x] at this; simp at this
      | cons a r =>
        have h47 := hw.n47
        have h33 := hw.n33
        rw [← x] at h47 h33
        rw [pre_cons, pre_cons] at hp
        simp at h47 h33 hp
        rcases hp with hp | hp
        · exact h47 hp.1.symm
        · exact h33 hp.1.symm
    · have := hw.two; rw [← x, List.length_take] at this; omega
theorem word_nm (hw : Wd w) (h : part l = w) : nm l = w.length ∧ nm l ≠ 0 := by
  have h1 := (part_word hw l).1 h
  have h2 := nmq_le l
  have h3 : (l.take (nm l)).length = nm l := by rw [List.length_take]; omega
  rw [h1] at h3
  have := hw.two
  omega
theorem cx0 : Cx [] false := ⟨Or.inl rfl, by simp⟩
theorem pre40 (l : L) : Lib.hasPrefix l [40] = (part l == [40]) := by
  have := sg40.is [] false cx0 l
  rw [List.append_nil] at this
  rw [← this]; unfold isB; simp
theorem At.word (hx : Cx T cut) (h : At q T l s) (hw : Wd w) : s.peek = w ↔ part l = w := by rw [h.peek hx, part_word hw]
theorem At.wname (hx : Cx T cut) (h : At q T l s) (hw : Wd w) (hp : part l = w) : At q T (pass w.length l) (s.name q) := by
  have h1 := word_nm hw hp
  have := h.namd hx h1.2
  rwa [h1.1] at this
theorem At.called (hx : Cx T cut) (h : At q T l s) (hw : Wd w) : s.called w = calls w l := by
  unfold RS.called calls
  by_cases hp : part l = w
  · have h1 := word_nm hw hp
    have h2 := (h.word hx hw).2 hp
    have h3 := h.drop hx (m := w.length) (by rw [← h1.1]; exact nmq_le l) (by rw [← h1.1]; exact gd_name h.gd)
    rw [h2, hp, h3.is hx sg40, pre40]
    rfl
  · have h2 : s.peek ≠ w := fun x => hp ((h.word hx hw).1 x)
    have e1 : (s.peek == w) = false := by simpa using h2
    have e2 : (part l == w) = false := by simpa using hp
    rw [e1, e2]; rfl
def Doom (q : L) (s : RS) : Prop := s.err = 0 ∧ ∃ r, s.bl.l = 40 :: r ∧ okw q s.bl.l ≠ 0
def Bd (q : L) (e : Nat) (s : RS) : Prop := (e ≠ 0 ∧ s.err = e) ∨ (e = 3 ∧ Doom q s)
def Sm (q T : L) (x : Rs α) (y : α × RS) : Prop := match x with
  | .ok (a, l) => y.1 = a ∧ At q T l y.2
  | .error e => Bd q e.1 y.2
theorem Bd.bl (h : Bd q e s) : Bd q e s.bl := by
  rcases h with ⟨h1, h2⟩ | ⟨h1, h2, h3⟩
  · exact Or.inl ⟨h1, by rw [bl_err]; exact h2⟩
  · exact Or.inr ⟨h1, by rw [bl_err]; exact h2, by rw [bl_bl]; exact h3⟩
theorem Bd.ne (h : Bd q e s) : e ≠ 0 := by rcases h with h | h; exact h.1; rw [h.1]; decide
theorem Bd.is (h : Bd q e s) {t : L} (hc : c ≠ 40) : s.is (c :: t) = false := by
  rcases h with ⟨h1, h2⟩ | ⟨h1, h2, r, h3, h4⟩
  · exact dead_is (by rw [h2]; exact h1)
  · unfold RS.is isB
    rw [h3, pre_cons]
    have : (c == 40) = false := by simpa using hc
    rw [this]; simp
theorem Bd.has (h : Bd q e s) {t : L} (hc : c ≠ 40) : s.has (c :: t) = s.bl := has_no (h.is hc)
theorem Bd.wrong (h : Bd q e s) : (s.wrong q).err = e := by
  rcases h with ⟨h1, h2⟩ | ⟨h1, h2, r, h3, h4⟩
  · rw [dead_wrong (by rw [h2]; exact h1)]; exact h2
  · have e0 : s.bl.err = 0 := by rw [bl_err]; exact h2
    unfold RS.wrong RS.fail
    rw [if_pos e0, if_neg (fun x => h4 x.2), h1]
theorem Bd.dead (h : e ≠ 0) (h2 : s.err = e) : Bd q e s := Or.inl ⟨h, h2⟩
theorem Bd.must (h : Bd q e s) {t : L} (hc : c ≠ 40) : (s.must q (c :: t)).err = e := by
  unfold RS.must
  rw [if_neg (by rw [h.is hc]; simp), h.has hc]
  exact h.bl.wrong
theorem Bd.shut (h : Bd q e s) {t : L} (hc : c ≠ 40) : Bd q e (s.shut q (c :: t)) := Or.inl ⟨h.ne, h.must hc⟩
theorem Bd.peek (h : Bd q e s) : s.peek = [] := by
  rcases h with ⟨h1, h2⟩ | ⟨h1, h2, r, h3, h4⟩
  · exact dead_peek (by rw [h2]; exact h1)
  · unfold RS.peek
    rw [if_pos h2, h3, nm_sign (by decide) (by decide)]; rfl
variable {inner read : RS → Prd × RS}
theorem Bd.preds (h : Bd q e s) (f : Nat) : Bd q e (predsR q inner f s).2 := by
  cases f with
  | zero => exact h
  | succ f => rw [predsR, if_neg (by rw [h.is (by decide)]; simp)]; exact h.bl
theorem Bd.more (h : Bd q e s) (may : Bool) (f : Nat) (ls : List Stp) : Bd q e (moreR q inner may f ls s).2 := by
  cases f with
  | zero => exact h
  | succ f =>
    rw [moreR]
    split
    · exact h
    · split
      · exact h
      · rw [if_neg (by rw [h.is (by decide)]; simp), if_neg (by rw [h.bl.is (by decide)]; simp)]; exact h.bl
theorem Bd.attr (h : Bd q e s) (ls : List Stp) : Bd q e (attrR q s ls).2 := by
  unfold attrR
  rw [if_neg (fun x => by rw [h.is (by decide)] at x; simp at x)]
  simp only
  split
  · exact h.bl
  · exact h
theorem Bd.loop (h : Bd q e s) {word : L} (hw : word ≠ []) (f : Nat) : Bd q e (loopR q word read f s).2 := by
  cases f with
  | zero => exact h
  | succ f =>
    rw [loopR]
    split
    · exact h
    · rw [if_neg (by rw [h.peek]; exact fun x => hw x.symm)]; exact h.bl
theorem Bd.paths (h : Bd q e s) (f : Nat) : Bd q e (pathsR q f s).2 := by
  cases f with
  | zero => exact h
  | succ f => rw [pathsR, if_neg (by rw [h.is (by decide)]; simp)]; exact h.bl
theorem At.mustS (hx : Cx T cut) (h : At q T l s) (hp : Sg p) : match want cut p l with
    | .ok l' => At q T l' (s.must q p)
    | .error e => (s.must q p).err = e.1 ∧ e.1 ≠ 0 := by
  unfold want RS.must
  rw [h.is hx hp]
  by_cases hb : part l = p
  · rw [if_pos hb, if_pos (by simpa using hb)]
    exact h.has hx hp hb
  · have hno : s.is p = false := by rw [h.is hx hp]; simpa using hb
    rw [if_neg hb, if_neg (by simpa using hb), has_no hno]
    exact h.bl.wrong hx
theorem At.nestS (h : At q T l s) (m : Int) : At q T l { s with nest := m } := by
  refine ⟨h.err, ?_, h.gd, h.suf⟩
  have := h.eq
  unfold RS.bl at this ⊢
  simp only [h.err, if_true] at this ⊢
  exact this
theorem At.shutS (hx : Cx T cut) (h : At q T l s) (hp : Sg p) : match want cut p l with
    | .ok l' => At q T l' (s.shut q p)
    | .error e => (s.shut q p).err = e.1 ∧ e.1 ≠ 0 := by
  have := h.mustS hx hp
  split at this
  · exact this.nestS _
  · exact this
theorem At.nameS (hx : Cx T cut) (h : At q T l s) : Sm q T (name cut l) (s.peek, s.name q) := by
  unfold name
  by_cases h0 : nm l = 0
  · rw [if_pos (Or.inl h0)]
    exact Or.inl ⟨(h.wrong hx).2, h.noname hx h0⟩
  · have hc : calls wNot l = true ∨ calls wText l = true → Bd q 3 (s.name q) := fun hc => by
      obtain ⟨w, hw, hcw⟩ : ∃ w, Wd w ∧ calls w l = true := hc.elim (fun x => ⟨_, wdNot, x⟩) (fun x => ⟨_, wdText, x⟩)
      unfold calls at hcw
      simp only [Bool.and_eq_true, beq_iff_eq] at hcw
      obtain ⟨h1, h2⟩ := hcw
      have ha := h.wname hx hw h1
      refine Or.inr ⟨rfl, ha.err, ?_⟩
      change Lib.hasPrefix (pass w.length l) [40] = true at h2
      obtain ⟨r, hr⟩ : ∃ r, pass w.length l = 40 :: r := by
        cases hps : pass w.length l with
        | nil => rw [hps] at h2; cases h2
        | cons d r => rw [hps, pre_cons] at h2; simp at h2; exact ⟨r, by rw [← h2.1]⟩
      refine ⟨r ++ T, by rw [ha.eq, hr]; rfl, fun hz => ?_⟩
      have := (ha.okwS hx).1 ⟨by rw [ha.eq, hr]; simp, hz⟩
      rw [hr] at this
      cases this.1
    by_cases hcc : calls wNot l = true ∨ calls wText l = true
    · rw [if_pos (Or.inr hcc)]
      have : (bad cut l).1 = 3 := by unfold bad; rw [if_neg]; rintro ⟨x, -⟩; rw [x] at h0; exact h0 rfl
      show Bd q (bad cut l).1 _
      rw [this]; exact hc hcc
    · rw [if_neg (by rintro (x | x); exact h0 x; exact hcc x)]
      exact ⟨h.peek hx, h.namd hx h0⟩
theorem At.testS (hx : Cx T cut) (h : At q T l s) : Sm q T (test cut l) (testR q s) := by
  unfold test testR
  rw [h.is hx sg42]
  by_cases hb : part l = [42]
  · rw [if_pos hb, if_pos (by simpa using hb)]
    exact ⟨rfl, h.has hx sg42 hb⟩
  · have hb' : ¬ (part l == [42]) = true := by simpa using hb
    rw [if_neg hb, if_neg hb', h.bl.called hx wdText]
    by_cases hc : calls wText l = true
    · rw [if_pos hc, if_pos hc]
      have hp : part l = wText := by unfold calls at hc; simp at hc; exact hc.1
      have h1 := h.bl.bl.wname hx wdText hp
      have e1 : want cut wText l = .ok (pass wText.length l) := by unfold want; rw [if_pos hp]
      rw [e1]
      simp only [wnt]
      have h2 := h1.mustS hx sg40
      cases hw2 : want cut [40] (pass wText.length l) with
      | error y =>
        rw [hw2] at h2
        refine Or.inl ⟨h2.2, ?_⟩
        exact (Bd.dead (q := q) h2.2 h2.1).must (by decide)
      | ok l2 =>
        rw [hw2] at h2
        have h3 := h2.mustS hx sg41
        simp only
        cases hw3 : want cut [41] l2 with
        | error y => rw [hw3] at h3; exact Or.inl ⟨h3.2, h3.1⟩
        | ok l3 => rw [hw3] at h3; exact ⟨rfl, h3⟩
    · rw [if_neg hc, if_neg hc]
      exact h.bl.bl.nameS hx
end Go.Proofs.YtigpjemceodjcaaGreatDoor
