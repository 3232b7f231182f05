import Derived.Test.YtoahlnmhjinneaaGreatDoorGam
set_option linter.unusedVariables false
set_option linter.unusedSimpArgs false
set_option linter.unusedSimpArgs false
set_option linter.unusedVariables false
namespace Go.Proofs.YtoahlnmhjinneaaGreatDoor
open Go.RowKit Go.Maps Go.Lib
variable {w w' w1 w2 W0 W1 W2 W3 W4 WO wr W W5 : World} {A A' F G : Nat → Prop} {X lo n : Nat} {q l l' p : L} {s s' : RS} {v v' vp : Value} {inner : RS → Prd × RS} {d may : Bool}
theorem MR.on {Y : List Stp × RS} {e : Ending} (h : MR X q w1 w1.heap.size Y e w2) (f : Fr (fun k => k = X) w w1) : MR X q w w.heap.size Y e w2 := by
  obtain ⟨v', rfl, g, a, b, c, f2, z⟩ := h
  have hz := f.size
  obtain ⟨xs, h1, h2, h3⟩ := g.ex
  exact ⟨v', rfl, ⟨⟨xs, h1, h2, fun x hx => (h3 x hx).move fun b hb _ => ⟨⟨by omega, hb.2⟩, rfl⟩⟩, fun k e => by have := g.own k e; omega⟩, a, b, c, (f.mono fun k e => Or.inl e).trans f2 (fun i hi x => by rcases x with x | x; exact Or.inl x; exact Or.inr (by omega)), by omega⟩
set_option maxHeartbeats 8000000 in
set_option maxRecDepth 100000 in
theorem pathR_ok (hi : InRK X q (n + 1) inner) (h : XR X q w s) (n8 : n ≤ 9) (hn : s.err = 0 → s.nest = n ∧ n ≤ 8) : Calls Tryz.prog 53 #[ptr X] w (MR X q w w.heap.size (pathR q inner s)) := by
  have HI := hide (isR_ok (p := [47, 47]) h (by decide) (by decide))
  have HI2 : Hid (∀ W, XR X q W s.bl → Calls Tryz.prog 76 #[ptr X, .string ⟨#[47]⟩] W (XB X q W (s.bl.is [47]) s.bl)) := fun W hW => by have := isR_ok (p := [47]) hW (by decide) (by decide); rw [bl_bl] at this; exact this
  have hns := keepsN (keeps_bl s) n8 hn
  have hlen : s.bl.l.length < s.l.length + 1 := by have := (bl_suf s).length_le; omega
  have HMO : Hid (∀ W, XR X q W s.bl → Calls Tryz.prog 77 #[ptr X, .slice none 0 0, .bool false] W (MR X q W W.heap.size (moreR q inner false (s.l.length + 1) [] s.bl))) := fun W hW => moreR_ok hlen hi hW n8 hns hW.lt (Nat.le_refl _) (GS.zero (lo := W.heap.size)) (by simp) (fun _ => rfl)
  have HON : Hid (∀ W1 Y e W2, MR X q W1 W1.heap.size Y e W2 → Fr (fun k => k = X) w W1 → MR X q w w.heap.size Y e W2) := fun W1 Y e W2 hm f => hm.on f
  have HW : Hid (∀ W, XR X q W s.bl → Calls Tryz.prog 35 #[ptr X] W (XE X q W (s.bl.wrong q))) := fun W hW => wrongR_ok hW
  unfold pathR
  cases hb : s.is [47, 47] with
  | true =>
    rw [if_pos (Or.inl rfl)]
    rw [hb] at HI
    generalize moreR q inner false (s.l.length + 1) [] s.bl = Y at *
    clear h hb hns hlen hn hi
    go_enter Tryz.func53, Tryz.ntmps53
    go_wp2_with (first | (go_at_call 77; refine (HMO.out _ hx2).mono ?_; rintro e w3 hm; have hm2 := HON.out _ _ _ _ hm fr2; clear hm; obtain ⟨v3, rfl, hm2⟩ := hm2; have HM2 := hide hm2; clear hm2) | (go_at_call 76; refine HI.out.mono ?_; rintro e w2 ⟨rfl, hx2, fr2⟩))
    go_ret
    exact ⟨_, rfl, HM2.out⟩
  | false =>
    rw [hb] at HI
    cases hb2 : s.bl.is [47] with
    | true =>
      rw [if_pos (Or.inr rfl)]
      rw [hb2] at HI2
      generalize moreR q inner false (s.l.length + 1) [] s.bl = Y at *
      clear h hb hb2 hns hlen hn hi
      go_enter Tryz.func53, Tryz.ntmps53
      go_wp2_with (first | (go_at_call 77; refine (HMO.out _ hx3).mono ?_; rintro e w4 hm; have hm2 := HON.out _ _ _ _ hm (fr2.same fr3); clear hm; obtain ⟨v3, rfl, hm2⟩ := hm2; have HM2 := hide hm2; clear hm2) | (go_at_call 76; refine (HI2.out _ hx2).mono ?_; rintro e w3 ⟨rfl, hx3, fr3⟩) | (go_at_call 76; refine HI.out.mono ?_; rintro e w2 ⟨rfl, hx2, fr2⟩))
      go_ret
      exact ⟨_, rfl, HM2.out⟩
    | false =>
      rw [if_neg (by simp)]
      rw [hb2] at HI2
      have HZ : Hid (∀ W, XR X q W (s.bl.wrong q) → Fr (fun k => k = X) w W → MR X q w w.heap.size ([], s.bl.wrong q) (.returned nilS) W) := fun W hW f => ⟨_, rfl, GS.zero, fun _ => rfl, by simp, hW, f.mono fun _ e => Or.inl e, f.size⟩
      clear h hb hb2 hns hlen hn hi
      go_enter Tryz.func53, Tryz.ntmps53
      go_wp2_with (first | (go_at_call 35; refine (HW.out _ hx3).mono ?_; rintro e w4 ⟨rfl, hx4, fr4⟩) | (go_at_call 76; refine (HI2.out _ hx2).mono ?_; rintro e w3 ⟨rfl, hx3, fr3⟩) | (go_at_call 76; refine HI.out.mono ?_; rintro e w2 ⟨rfl, hx2, fr2⟩))
      go_ret
      exact HZ.out _ hx4 ((fr2.same fr3).same fr4)
end Go.Proofs.YtoahlnmhjinneaaGreatDoor

set_option linter.unusedSimpArgs false
set_option linter.unusedVariables false
namespace Go.Proofs.YtoahlnmhjinneaaGreatDoor
open Go.RowKit Go.Maps Go.Lib
variable {w w' w1 w2 W0 W1 W2 W3 W4 WO wr W W5 : World} {A A' F G : Nat → Prop} {X lo n : Nat} {q l l' p : L} {s s' : RS} {v v' vp : Value} {inner : RS → Prd × RS} {d may : Bool}
set_option maxHeartbeats 8000000 in
set_option maxRecDepth 100000 in
theorem several_ok {ps : List Prd} {op : L} (g : GP lo 94 97 w v ps) (hz : lo ≤ w.heap.size) (hne : ps ≠ []) (hsm : ps.length ≤ 502) : Calls Tryz.prog 146 #[.string ⟨op.toArray⟩, v] w fun e w' => ∃ u, e = .returned u ∧ PV (fun b => lo ≤ b) 94 97 w' u (severalR op ps) ∧ Fr (fun _ => False) w w' := by
  have hb0 : (w.alloc (.cells zero5 97)).heap[w.heap.size]? = some (.cells zero5 97 (0, 0)) := Below_new _ _
  have fA : Fr (fun _ => False) w (w.alloc (.cells zero5 97)) := (Fr.refl _ w).alloc _
  by_cases hl : ps.length = 1
  · obtain ⟨xs, h1, h2, h3⟩ := g.ex
    obtain ⟨p, rfl⟩ : ∃ p, ps = [p] := List.length_eq_one_iff.1 hl
    obtain ⟨⟨x, vk, vs⟩, rfl⟩ : ∃ x, xs = [x] := List.length_eq_one_iff.1 (by have := congrArg List.length h1; simpa using this)
    obtain rfl : x = p := by simpa using h1
    obtain ⟨g0, cap, hv⟩ := own_some (k := 0) h2
    subst hv
    obtain ⟨hk, hs⟩ := h3 _ (List.mem_singleton.2 rfl)
    obtain ⟨ki, kc, hvk⟩ := sl.shape hk
    obtain ⟨si, sc, hvs⟩ := sl.shape hs
    simp only at hvk hvs
    subst hvk hvs
    have up : ∀ i u, w.cell? ⟨g0, i, none⟩ = some u → (w.alloc (.cells zero5 97)).cell? ⟨g0, i, none⟩ = some u := fun i u hu => (World.cell?_of_block (fA.block g0 (World.block_lt_of_cell? w _ hu) (fun x => x))).trans hu
    have c0 := up _ _ (own_cell h2 (pCells_at _ 0 _ 0 _ rfl rfl))
    have c1 := up _ _ (own_cell h2 (pCells_at _ 0 _ 1 _ rfl rfl))
    have c2 := up _ _ (own_cell h2 (pCells_at _ 0 _ 2 _ rfl rfl))
    have c3 := up _ _ (own_cell h2 (pCells_at _ 0 _ 3 _ rfl rfl))
    have c4 := up _ _ (own_cell h2 (pCells_at _ 0 _ 4 _ rfl rfl))
    simp only [Nat.zero_mul, Nat.zero_add] at c0 c1 c2 c3 c4
    have HS : Hid (∀ o W5, W5 = World.alloc w o → PV (fun b => lo ≤ b) 94 97 W5 (.agg #[.string (bs x.op), .slice ki x.kids.len kc, .slice si x.steps.len sc, .string (bs x.attr), .string (bs x.text)]) x ∧ Fr (fun _ => False) w W5) := fun o W5 f5 => by
      have f6 : Fr (fun _ => False) w W5 := f5 ▸ (Fr.refl _ w).alloc o
      have hm : Move (fun b => lo ≤ b ∧ some b ≠ (Value.slice (some ⟨g0, 0, none⟩) (0 + 1) cap).ownBlock) (fun b => lo ≤ b) w W5 := fun b hb hl => ⟨hb.1, f6.block b hl (fun x => x)⟩
      exact ⟨⟨_, _, rfl, hk.move hm, hs.move hm⟩, f6⟩
    have hsev : severalR op [x] = x := rfl
    rw [hsev]
    clear h1 h2 h3 hk hs g hl hne hsm up hz fA hb0 hsev
    generalize x.kids.len = nk at *
    generalize x.steps.len = ns at *
    go_enter Tryz.func146, Tryz.ntmps146
    go_wp2_with fail
    have r5 := Below_new w (.cells #[.string (bs x.op), .slice ki nk kc, .slice si ns sc, .string (bs x.attr), .string (bs x.text)] 97)
    obtain ⟨⟨k0, k1, k2, k3, k4⟩, -⟩ := cells5 r5
    refine bodyPost_ret (v := .agg #[.string (bs x.op), .slice ki nk kc, .slice si ns sc, .string (bs x.attr), .string (bs x.text)]) (by simp [results, Tryz.results146, go_sem, k0, k1, k2, k3, k4]) rfl ⟨_, rfl, HS.out _ _ rfl⟩
  · have hdone := g.done (by omega) (fun e => absurd e hne)
    obtain ⟨ai, cap, hv⟩ : ∃ ai cap, v = .slice ai ps.length cap := by obtain ⟨xs, _, h2, _⟩ := g.ex; exact slice_len h2
    subst hv
    have hsev : severalR op ps = ⟨op, Prds.of ps, .nil, [], []⟩ := by
      unfold severalR
      split
      · next p => exact absurd rfl hl
      · rfl
    rw [hsev]
    have hb1 : ((ps.length : Int) == 1) = false := by simp; omega
    have hb2 : (ps.length == 1) = false := by simpa using hl
    have HS : Hid (∀ o W5, W5 = World.alloc w o → PV (fun b => lo ≤ b) 94 97 W5 (.agg #[.string ⟨op.toArray⟩, .slice ai ps.length cap, .slice none 0 0, .string ⟨#[]⟩, .string ⟨#[]⟩]) ⟨op, Prds.of ps, .nil, [], []⟩ ∧ Fr (fun _ => False) w W5) := fun o W5 f5 => by
      have f6 : Fr (fun _ => False) w W5 := f5 ▸ (Fr.refl _ w).alloc o
      exact ⟨⟨_, _, rfl, hdone.move fun b hb hl => ⟨hb, f6.block b hl (fun x => x)⟩, Or.inl ⟨rfl, rfl⟩⟩, f6⟩
    clear g hl hne hsm hz fA hb0 hsev hdone
    go_enter Tryz.func146, Tryz.ntmps146
    go_wp2_with fail
    have r5 := Below_new w (.cells #[.string ⟨op.toArray⟩, .slice ai ps.length cap, .slice none 0 0, .string ⟨#[]⟩, .string ⟨#[]⟩] 97)
    obtain ⟨⟨k0, k1, k2, k3, k4⟩, -⟩ := cells5 r5
    refine bodyPost_ret (v := .agg #[.string ⟨op.toArray⟩, .slice ai ps.length cap, .slice none 0 0, .string ⟨#[]⟩, .string ⟨#[]⟩]) (by simp [results, Tryz.results146, go_sem, k0, k1, k2, k3, k4]) rfl ⟨_, rfl, HS.out _ _ rfl⟩
end Go.Proofs.YtoahlnmhjinneaaGreatDoor

set_option linter.unusedSimpArgs false
set_option linter.unusedVariables false
namespace Go.Proofs.YtoahlnmhjinneaaGreatDoor
open Go.RowKit Go.Maps Go.Lib
variable {w w' w1 w2 W0 W2 W4 : World} {F G P : Nat → Prop} {R lo : Nat} {v v' vp vk vs : Value} {tS tP : TypeId}
structure GY (P : Nat → Prop) (tS tP : TypeId) (w : World) (v : Value) (l : List Prd) : Prop where
  ex : ∃ xs : List (Prd × Value × Value), xs.map (·.1) = l ∧ w.ownsRow 0 tP 5 v l.length (pCells xs) ∧ ∀ x ∈ xs, slP w (fun b => P b ∧ some b ≠ v.ownBlock) tS tP x.2.1 x.1.kids ∧ slS w (fun b => P b ∧ some b ≠ v.ownBlock) tS tP x.2.2 x.1.steps
  own : ∀ k, v.ownBlock = some k → P k
theorem GY.toP {ls : List Prd} (h : GY P tS tP w v ls) (hP : ∀ b, P b → lo ≤ b) : GP lo tS tP w v ls := by
  obtain ⟨xs, h1, h2, h3⟩ := h.ex
  exact ⟨⟨xs, h1, h2, fun x hx => ⟨(h3 x hx).1.move fun b ha hl => ⟨⟨hP b ha.1, ha.2⟩, rfl⟩, (h3 x hx).2.move fun b ha hl => ⟨⟨hP b ha.1, ha.2⟩, rfl⟩⟩⟩, fun k e => hP k (h.own k e)⟩
theorem GY.lt {ls : List Prd} (h : GY P tS tP w v ls) {k : Nat} (e : v.ownBlock = some k) : k < w.heap.size := by obtain ⟨xs, _, h2, _⟩ := h.ex; exact own_lt h2 e
theorem GY.fr {ls : List Prd} (h : GY P tS tP w v ls) (hf : Fr F w w') (hF : ∀ k, F k → ¬ P k) : GY P tS tP w' v ls := by
  obtain ⟨xs, h1, h2, h3⟩ := h.ex
  have hb : ∀ b, P b → b < w.heap.size → w'.heap[b]? = w.heap[b]? := fun b h1 h2 => hf.block b h2 (fun x => hF b x h1)
  exact ⟨⟨xs, h1, owns_of h2 fun k e => hb k (h.own k e) (own_lt h2 e), fun x hx => ⟨(h3 x hx).1.move fun b ha hl => ⟨ha, hb b ha.1 hl⟩, (h3 x hx).2.move fun b ha hl => ⟨ha, hb b ha.1 hl⟩⟩⟩, h.own⟩
theorem GY.first {s : Prd} (hP : P w.heap.size) (sv : slP w P tS tP vk s.kids ∧ slS w P tS tP vs s.steps) : GY P tS tP (w.alloc (.cells #[.string (bs s.op), vk, vs, .string (bs s.attr), .string (bs s.text)] tP)) (.slice (some ⟨w.heap.size, 0, none⟩) 1 1) [s] := by
  have hm : Move P (fun b => P b ∧ some b ≠ (Value.slice (some ⟨w.heap.size, 0, none⟩) 1 1).ownBlock) w (w.alloc (.cells #[.string (bs s.op), vk, vs, .string (bs s.attr), .string (bs s.text)] tP)) := fun b hb hl => ⟨⟨hb, fun e => by have : b = w.heap.size := Option.some.inj e; omega⟩, Below.heap_alloc _ _ _ hl⟩
  exact ⟨⟨[(s, vk, vs)], rfl, owns_new [.string (bs s.op), vk, vs, .string (bs s.attr), .string (bs s.text)] tP 5 w rfl (by decide), fun x hx => by
    obtain rfl : x = (s, vk, vs) := by simpa using hx
    exact ⟨sv.1.move hm, sv.2.move hm⟩⟩, fun k e => by have : w.heap.size = k := Option.some.inj e; exact this ▸ hP⟩
theorem GY.prep {ls : List Prd} {s : Prd} (h : GY P tS tP W0 v ls) (fr : Fr F W0 W2) (hF : ∀ k, F k → ¬ P k) (hP : ∀ b, W0.heap.size ≤ b → P b) (sv : slP W2 (fun b => W0.heap.size ≤ b) tS tP vk s.kids ∧ slS W2 (fun b => W0.heap.size ≤ b) tS tP vs s.steps) (o : Obj) :
    ∃ xs, (W2.alloc o).ownsRow 0 tP 5 v ls.length (pCells xs) ∧ ∀ v' W4, W4.ownsRow 0 tP 5 v' (ls.length + 1) (pCells xs ++ [.string (bs s.op), vk, vs, .string (bs s.attr), .string (bs s.text)]) → (W2.alloc o).grownBy W4 v.ownBlock → (v'.ownBlock = v.ownBlock ∨ v'.ownBlock = some (W2.alloc o).heap.size) → GY P tS tP W4 v' (ls ++ [s]) ∧ Fr P W2 W4 := by
  have g3 := h.fr (fr.alloc o) hF
  obtain ⟨xs, x1, x2, x3⟩ := g3.ex
  refine ⟨xs, x2, fun v' W4 ho hg hat => ⟨⟨⟨xs ++ [(s, vk, vs)], by rw [List.map_append, x1]; rfl, by rw [List.length_append, pCells_app]; exact ho, fun x hx => ?_⟩, fun k e => ?_⟩, ?_⟩⟩
  · have hz := fr.size
    have hm : Move (fun b => P b ∧ some b ≠ v.ownBlock) (fun b => P b ∧ some b ≠ v'.ownBlock) (W2.alloc o) W4 := fun b ha hl => ⟨⟨ha.1, by rcases hat with e | e <;> rw [e]; exact ha.2; intro x; cases x; omega⟩, hg.block b hl ha.2⟩
    rcases List.mem_append.1 hx with hx | hx
    · exact ⟨(x3 x hx).1.move hm, (x3 x hx).2.move hm⟩
    · obtain rfl : x = (s, vk, vs) := by simpa using hx
      have hm2 : Move (fun b => W0.heap.size ≤ b) (fun b => P b ∧ some b ≠ v.ownBlock) W2 (W2.alloc o) := fun b hb hl => ⟨⟨hP b hb, fun e => by have := h.lt e.symm; omega⟩, Below.heap_alloc _ _ _ hl⟩
      exact ⟨(sv.1.move hm2).move hm, (sv.2.move hm2).move hm⟩
  · rcases hat with x | x
    · exact h.own k (x ▸ e)
    · rw [x] at e; cases e; exact hP _ (by have := fr.size; simp; omega)
  · exact ((Fr.refl _ W2).alloc o).same ⟨hg.os, hg.tape, hg.output, hg.size, fun k hk hf => hg.block k hk (fun e => hf (h.own k e.symm))⟩
end Go.Proofs.YtoahlnmhjinneaaGreatDoor

set_option linter.unusedSimpArgs false
set_option linter.unusedVariables false
namespace Go.Proofs.YtoahlnmhjinneaaGreatDoor
open Go.RowKit Go.Maps Go.Lib
variable {w w' w1 w2 W0 W1 W2 W3 W4 WO wr W W5 : World} {A A' F G : Nat → Prop} {X lo n Bp : Nat} {q l l' p word : L} {s s' : RS} {v v' vp : Value} {inner read : RS → Prd × RS}
theorem peek_bl (s : RS) : s.bl.peek = s.peek := by unfold RS.peek; rw [bl_bl, bl_err]
theorem name_lt (hp : s.peek ≠ []) : (s.bl.name q).l.length < s.l.length := by
  have h1 := peek_len s
  have h2 := (bl_suf s).length_le
  have h3 : 0 < s.peek.length := List.length_pos_iff.2 hp
  unfold RS.name
  rw [peek_bl, if_neg hp, bl_bl]
  simp only [List.length_drop]
  omega
structure RdK (X : Nat) (q : L) (n : Nat) (k : FuncId) (read : RS → Prd × RS) : Prop where
  calls : ∀ w s, XR X q w s → (s.err = 0 → s.nest = n ∧ n ≤ 8) → Calls Tryz.prog k #[ptr X] w (XV X q (PV (fun b => w.heap.size ≤ b) 94 97) w (read s))
  keeps : ∀ s, Keeps s (read s).2
structure JX (X : Nat) (q word : L) (read : RS → Prd × RS) (n : Nat) (w : World) (Bp : Nat) (Y : Prd × RS) (wr : World) (v : Value) (ps : List Prd) (sc : RS) : Prop where
  xr : XR X q wr sc
  bp : ∃ a ki nk kc si ns sn b c, wr.heap[Bp]? = some (.cells #[.string a, .slice ki nk kc, .slice si ns sn, .string b, .string c] 97 (0, 0))
  bq : wr.heap[w.heap.size]? = some (.cells zero5 97 (0, 0))
  gy : GY (fun b => w.heap.size + 1 ≤ b ∧ b ≠ Bp) 94 97 wr v ps
  fr : Fr (fun k => k = X ∨ w.heap.size ≤ k) w wr
  eq : ∃ f, sc.l.length < f ∧ Y = (severalR word (ps ++ (loopR q word read f sc).1), (loopR q word read f sc).2)
  sm : ps.length + sc.l.length ≤ 501
  ne : ps ≠ []
  ns : sc.err = 0 → sc.nest = n ∧ n ≤ 8
  n8 : n ≤ 9
  lt : X < w.heap.size
  lb : w.heap.size < Bp
variable {Y : Prd × RS} {ps : List Prd} {sc : RS}
theorem JX.dead (h : JX X q word read n w Bp Y wr v ps sc) (he : sc.err ≠ 0) : Y = (severalR word ps, sc) := by
  obtain ⟨f, e1, e2⟩ := h.eq
  cases f with
  | zero => omega
  | succ f => rw [e2, loopR, if_pos he]; simp
theorem JX.stop (h : JX X q word read n w Bp Y wr v ps sc) (he : sc.err = 0) (hp : sc.peek ≠ word) : Y = (severalR word ps, sc.bl) := by
  obtain ⟨f, e1, e2⟩ := h.eq
  cases f with
  | zero => omega
  | succ f => rw [e2, loopR, if_neg (by simpa using he), if_neg hp]; simp
theorem JX.fin (h : JX X q word read n w Bp Y wr v ps sc) {s2 : RS} (f3 : Fr (fun k => k = X) wr W3) (x3 : XR X q W3 s2) (f4 : Fr (fun _ => False) W3 W4) {pr : Prd} (pv : PV (fun b => w.heap.size + 1 ≤ b) 94 97 W4 v' pr) : W4.heap[w.heap.size]? = some (.cells zero5 97 (0, 0)) ∧ ∀ W5, Fr (fun k => k = w.heap.size) W4 W5 → PV (fun b => w.heap.size ≤ b) 94 97 W5 v' pr ∧ XR X q W5 s2 ∧ Fr (fun k => k = X) w W5 := by
  have hlt := h.lt
  have b3 := (f3.block _ (blk_lt h.bq) (by omega)).trans h.bq
  have b4 := (f4.block _ (blk_lt b3) (fun x => x)).trans b3
  refine ⟨b4, fun W5 f5 => ⟨pv.move fun b hb hl => ⟨by omega, f5.block b hl (by omega)⟩, (x3.fr f4 (fun x => x)).fr f5 (by omega), ?_⟩⟩
  exact (((h.fr.trans f3 (fun _ _ x => Or.inl x)).trans f4 (fun _ _ x => x.elim)).trans f5 (fun _ _ x => Or.inr (by omega))).restrict (fun k hk x => by omega)
theorem JX.several (h : JX X q word read n w Bp Y wr v ps sc) (f3 : Fr (fun k => k = X) wr W3) : Calls Tryz.prog 146 #[.string ⟨word.toArray⟩, v] W3 fun e w' => ∃ u, e = .returned u ∧ PV (fun b => w.heap.size + 1 ≤ b) 94 97 w' u (severalR word ps) ∧ Fr (fun _ => False) W3 w' := by
  have hlt := h.lt
  refine several_ok ((h.gy.fr f3 (fun k e => by omega)).toP fun b hb => hb.1) ?_ h.ne (by have := h.sm; omega)
  have := f3.size
  obtain ⟨_, _, _, _, _, _, _, _, _, hb⟩ := h.bp
  have := blk_lt hb
  have := h.lb
  omega
theorem JX.go (hr : ∀ s, Keeps s (read s).2) (h : JX X q word read n w Bp Y wr v ps sc) (he : sc.err = 0) (hw : word ≠ []) (hp : sc.peek = word) {p2 : Prd} {s6 : RS} (hs : read (sc.bl.name q) = (p2, s6)) : s6.l.length < sc.l.length ∧ (s6.err = 0 → s6.nest = n ∧ n ≤ 8) ∧ ∃ f, s6.l.length < f ∧ Y = (severalR word ((ps ++ [p2]) ++ (loopR q word read f s6).1), (loopR q word read f s6).2) := by
  have hk := hr (sc.bl.name q)
  rw [hs] at hk
  have h1 := name_lt (q := q) (s := sc) (by rw [hp]; exact hw)
  have h2 := hk.suf.length_le
  simp only at h2
  have hkp := ((keeps_bl sc).trans (keeps_name (q := q) sc.bl)).trans hk
  refine ⟨by omega, keepsN hkp h.n8 h.ns, ?_⟩
  obtain ⟨f, e1, e2⟩ := h.eq
  cases f with
  | zero => omega
  | succ f => exact ⟨f, by omega, by rw [e2, loopR, if_neg (by simpa using he), if_pos hp, hs]; simp⟩
theorem JX.push (h : JX X q word read n w Bp Y wr v ps sc) {p2 : Prd} {s6 : RS} (hx : s6.l.length < sc.l.length ∧ (s6.err = 0 → s6.nest = n ∧ n ≤ 8) ∧ ∃ f, s6.l.length < f ∧ Y = (severalR word ((ps ++ [p2]) ++ (loopR q word read f s6).1), (loopR q word read f s6).2)) {wS w6 : World} (fS : Fr (fun k => k = X) wr wS) (f6 : Fr (fun k => k = X) wS w6) (x6 : XR X q w6 s6) {ki si : Option Addr} {nk kc ns sn : Nat} (sv : slP w6 (fun b => wS.heap.size ≤ b) 94 97 (.slice ki nk kc) p2.kids ∧ slS w6 (fun b => wS.heap.size ≤ b) 94 97 (.slice si ns sn) p2.steps) (o2 : Obj) :
    (∃ a ki nk kc si ns sn b c, w6.heap[Bp]? = some (.cells #[.string a, .slice ki nk kc, .slice si ns sn, .string b, .string c] 97 (0, 0))) ∧
    ∀ W7, Fr (fun k => k = Bp) w6 W7 → W7.heap[Bp]? = some (.cells #[.string (bs p2.op), .slice ki nk kc, .slice si ns sn, .string (bs p2.attr), .string (bs p2.text)] 97 (0, 0)) →
    ∃ xs, (W7.alloc o2).ownsRow 0 97 5 v ps.length (pCells xs) ∧ ∀ v' W8, W8.ownsRow 0 97 5 v' (ps.length + 1) (pCells xs ++ [.string (bs p2.op), .slice ki nk kc, .slice si ns sn, .string (bs p2.attr), .string (bs p2.text)]) → (W7.alloc o2).grownBy W8 v.ownBlock → (v'.ownBlock = v.ownBlock ∨ v'.ownBlock = some (W7.alloc o2).heap.size) → JX X q word read n w Bp Y W8 v' (ps ++ [p2]) s6 := by
  have hlt := h.lt
  have hlb := h.lb
  obtain ⟨a, ki0, nk0, kc0, si0, ns0, sn0, b, c, hB⟩ := h.bp
  have fS6 := fS.same f6
  have hBl := blk_lt hB
  have hB6 := (fS6.block _ hBl (by omega)).trans hB
  have hq6 := (fS6.block _ (blk_lt h.bq) (by omega)).trans h.bq
  refine ⟨⟨_, _, _, _, _, _, _, _, _, hB6⟩, fun W7 f7 hb7 => ?_⟩
  have f67 : Fr (fun k => k = X ∨ k = Bp) wS W7 := (f6.mono fun _ e => Or.inl e).same (f7.mono fun _ e => Or.inr e)
  have hBS := fS.size
  have hm : Move (fun b => wS.heap.size ≤ b) (fun b => wS.heap.size ≤ b) w6 W7 := fun b hb hl => ⟨hb, f7.block b hl (by omega)⟩
  obtain ⟨xs, x1, x2⟩ := (h.gy.fr fS (fun k e => by omega)).prep (s := p2) f67 (fun k e => by omega) (fun b hb => by omega) ⟨sv.1.move hm, sv.2.move hm⟩ o2
  refine ⟨xs, x1, fun v' W8 ho hg hat => ?_⟩
  obtain ⟨g1, g2⟩ := x2 v' W8 ho hg hat
  have hq7 := (f7.block _ (blk_lt hq6) (by omega)).trans hq6
  refine ⟨(x6.fr f7 (by omega)).fr g2 (by omega), ⟨_, _, _, _, _, _, _, _, _, (g2.block _ (blk_lt hb7) (by omega)).trans hb7⟩, (g2.block _ (blk_lt hq7) (by omega)).trans hq7, g1, ?_, hx.2.2, by have := h.sm; have := hx.1; simp; omega, by simp, hx.2.1, h.n8, h.lt, h.lb⟩
  exact ((h.fr.trans fS6 (fun _ _ e => Or.inl e)).trans f7 (fun _ _ e => Or.inr (by omega))).trans g2 (fun _ _ e => Or.inr (by omega))
theorem JX.start (hX : X < w.heap.size) (n8 : n ≤ 9) {pp : Prd} {s1 : RS} {ki si : Option Addr} {nk kc ns sn : Nat} (hn : s1.err = 0 → s1.nest = n ∧ n ≤ 8) (hY : Y = (severalR word (pp :: (loopR q word read (s1.l.length + 1) s1).1), (loopR q word read (s1.l.length + 1) s1).2)) (f1 : Fr (fun k => k = X) (w.alloc (.cells zero5 97)) w2) (x1 : XR X q w2 s1) (sv : slP w2 (fun b => (w.alloc (.cells zero5 97)).heap.size ≤ b) 94 97 (.slice ki nk kc) pp.kids ∧ slS w2 (fun b => (w.alloc (.cells zero5 97)).heap.size ≤ b) 94 97 (.slice si ns sn) pp.steps) :
    JX X q word read n w w2.heap.size Y ((w2.alloc (.cells #[.string (bs pp.op), .slice ki nk kc, .slice si ns sn, .string (bs pp.attr), .string (bs pp.text)] 97)).alloc (.cells #[.string (bs pp.op), .slice ki nk kc, .slice si ns sn, .string (bs pp.attr), .string (bs pp.text)] 97)) (.slice (some ⟨w2.heap.size + 1, 0, none⟩) 1 1) [pp] s1 := by
  have f0 : Fr (fun _ => False) w (w.alloc (.cells zero5 97)) := (Fr.refl _ w).alloc _
  have hsz : (w.alloc (.cells zero5 97)).heap.size = w.heap.size + 1 := by simp
  have hz := f1.size
  rw [hsz] at hz
  generalize hC : (Obj.cells #[.string (bs pp.op), .slice ki nk kc, .slice si ns sn, .string (bs pp.attr), .string (bs pp.text)] 97 (0, 0)) = C
  have fA : Fr (fun _ => False) w2 (w2.alloc C) := (Fr.refl _ w2).alloc _
  have fB : Fr (fun _ => False) (w2.alloc C) ((w2.alloc C).alloc C) := (Fr.refl _ _).alloc _
  have hsz2 : (w2.alloc C).heap.size = w2.heap.size + 1 := by simp
  have bq2 : w2.heap[w.heap.size]? = some (.cells zero5 97 (0, 0)) := by rw [f1.block _ (by rw [hsz]; omega) (by omega)]; exact Below_new _ _
  have hb : (w2.alloc C).heap[w2.heap.size]? = some C := Below_new _ _
  have bqA := (fA.block _ (blk_lt bq2) (fun x => x)).trans bq2
  refine ⟨(x1.fr fA (fun x => x)).fr fB (fun x => x), ⟨bs pp.op, ki, nk, kc, si, ns, sn, bs pp.attr, bs pp.text, ?_⟩, (fB.block _ (blk_lt bqA) (fun x => x)).trans bqA, ?_, ?_, ⟨s1.l.length + 1, by omega, by rw [hY]; rfl⟩, by have := x1.le; have := x1.q5; simp; omega, by simp, hn, n8, hX, by omega⟩
  · rw [hC]; exact (fB.block _ (blk_lt hb) (fun x => x)).trans hb
  · have hm : Move (fun b => (w.alloc (.cells zero5 97)).heap.size ≤ b) (fun b => w.heap.size + 1 ≤ b ∧ b ≠ w2.heap.size) w2 (w2.alloc C) := fun b hb hl => ⟨⟨by rw [hsz] at hb; exact hb, by omega⟩, Below.heap_alloc _ _ _ hl⟩
    have := GY.first (P := fun b => w.heap.size + 1 ≤ b ∧ b ≠ w2.heap.size) (tS := 94) (tP := 97) (w := w2.alloc C) (s := pp) (by rw [hsz2]; omega) ⟨sv.1.move hm, sv.2.move hm⟩
    rw [hC, hsz2] at this
    exact this
  · exact (((f0.mono fun _ x => x.elim).same (f1.mono (G := fun k => k = X ∨ w.heap.size ≤ k) fun _ e => Or.inl e)).trans fA (fun _ _ x => x.elim)).trans fB (fun _ _ x => x.elim)
end Go.Proofs.YtoahlnmhjinneaaGreatDoor

set_option linter.unusedSimpArgs false
set_option linter.unusedVariables false
namespace Go.Proofs.YtoahlnmhjinneaaGreatDoor
open Go.RowKit Go.Maps Go.Lib
variable {w w' w1 w2 W0 W1 W2 W3 W4 WO wr W W5 : World} {A A' F G : Nat → Prop} {X lo n Bp : Nat} {q l l' p word : L} {s s' : RS} {v v' vp : Value} {inner read : RS → Prd × RS}
set_option maxHeartbeats 8000000 in
set_option maxRecDepth 100000 in
theorem bothR_ok (hr : RdK X q n 156 read) (h : XR X q w s) (n8 : n ≤ 9) (hn : s.err = 0 → s.nest = n ∧ n ≤ 8) : Calls Tryz.prog 145 #[ptr X] w (XV X q (PV (fun b => w.heap.size ≤ b) 94 97) w (joinR q wAnd read s)) := by
  have hX := h.lt
  have f0 : Fr (fun _ => False) w (w.alloc (.cells zero5 97)) := (Fr.refl _ w).alloc _
  have HR0 := hide (hr.calls (w.alloc (.cells zero5 97)) s (h.fr f0 (fun x => x)) hn)
  unfold joinR
  have hk0 := keepsN (hr.keeps s) n8 hn
  obtain ⟨p1, s1, h1⟩ : ∃ p1 s1, read s = (p1, s1) := ⟨_, _, rfl⟩
  rw [h1] at HR0 hk0 ⊢
  simp only at hk0
  obtain ⟨Y, hY⟩ : ∃ Y, (severalR wAnd (p1 :: (loopR q wAnd read (s1.l.length + 1) s1).1), (loopR q wAnd read (s1.l.length + 1) s1).2) = Y := ⟨_, rfl⟩
  simp only
  rw [hY]
  have HST := hide (fun w2 ki si nk kc ns sn f1 x1 sv => JX.start (w2 := w2) (ki := ki) (si := si) (nk := nk) (kc := kc) (ns := ns) (sn := sn) hX n8 hk0 hY.symm f1 x1 sv)
  have HRD := hide hr
  clear h hn hr h1 hY hk0 f0
  obtain ⟨i0, hi, hz0, hz1, hz2⟩ := info_parts info80
  go_enter Tryz.func145, Tryz.ntmps145
  go_wp2_with (first | (go_at_call 156; refine HR0.out.mono ?_; rintro e w2 ⟨v2, rfl, pv2, hx2, fr2⟩; obtain ⟨ki2, nk2, kc2, si2, ns2, sn2, rfl, sv2⟩ := pv2.shape; have hj := HST.out _ _ _ _ _ _ _ fr2 hx2 sv2; have HJ0 := hide hj; clear hj pv2 sv2 hx2 fr2; obtain ⟨⟨y0, y1, y2, y3, y4⟩, -⟩ := cells5 (Below_new w2 (.cells #[.string (bs p1.op), .slice ki2 nk2 kc2, .slice si2 ns2 sn2, .string (bs p1.attr), .string (bs p1.text)] 97))))
  clear y0 y1 y2 y3 y4
  generalize (World.alloc (World.alloc w2 _) _) = WL at *
  generalize hBp : w2.heap.size = Bp at *
  clear hBp
  generalize (Value.slice (some ⟨Bp + 1, 0, none⟩) 1 1) = V0 at *
  go_loopw [4, 9, 10, 11, 12, 13, 14, 15, 16, 17, 18, 19, 20, 21, 22, 23, 24, 25, 26] (fun u4 _ _ _ _ _ _ _ _ _ _ _ _ _ _ _ _ _ _ wr => ∃ ps sc, JX X q wAnd read n w Bp Y wr u4 ps sc) (fun _ _ _ _ _ _ _ _ _ _ _ _ _ _ _ _ _ _ _ wr => meaX X q wr)
  case atStart => exact ⟨_, _, HJ0.out⟩
  case round =>
    rename World => WO
    obtain ⟨ps, sc, hJ⟩ := hrel
    have hmea : meaX X q WO = sc.l.length := hJ.xr.mea
    have HJ := hide hJ
    obtain ⟨c0, c1, c2, c3, c4⟩ := hJ.xr.cells
    clear c0 c1 c2 c4
    have HSE := hide (fun W3 f3 => hJ.several (W3 := W3) f3)
    by_cases he : sc.err = 0
    · rw [he] at c3
      have c3 : WO.cell? ⟨X, 3, none⟩ = some (.int .i64 0) := c3
      have HP := hide (peekR_ok hJ.xr)
      by_cases hp : sc.peek = wAnd
      · have hpb : ((bs sc.peek).toList == [97, 110, 100]) = true := by rw [bs_toL, hp]; rfl
        obtain ⟨p6, s6, hs6⟩ : ∃ p6 s6, read (sc.bl.name q) = (p6, s6) := ⟨_, _, rfl⟩
        have hgo := hJ.go HRD.out.keeps he (by decide) hp hs6
        have HLT := hide hgo.1
        have HPU := hide (fun wS w6 fS f6 x6 ki si nk kc ns sn sv o2 => hJ.push hgo (wS := wS) (w6 := w6) fS f6 x6 (ki := ki) (si := si) (nk := nk) (kc := kc) (ns := ns) (sn := sn) sv o2)
        have HNA : Hid (∀ W, XR X q W sc.bl → Calls Tryz.prog 123 #[ptr X] W (XS X q W sc.bl.peek (sc.bl.name q))) := fun W hW => nameRd_ok hW
        have HR1 : Hid (∀ W, XR X q W (sc.bl.name q) → Calls Tryz.prog 156 #[ptr X] W (XV X q (PV (fun b => W.heap.size ≤ b) 94 97) W (p6, s6))) := fun W hW => by
          rw [← hs6]; exact HRD.out.calls W _ hW (keepsN ((keeps_bl sc).trans (keeps_name sc.bl)) hJ.n8 hJ.ns)
        clear hgo hs6 hp he hJ
        generalize sc.bl.name q = s5 at *
        generalize sc.bl.peek = P5 at *
        generalize sc.peek = P at *
        go_wp2_with (first | (at_builtin; refine wpList_append_own_at _ rfl (.tmp 23) (.tmp 25) 92 rfl 0 97 i0 _ 5 96 Tryz.underlying92 hi hz0 hz1 hz2 rfl (by decide) u4 ps.length (pCells xs) rfl hx1 ⟨W7.heap.size, 0, none⟩ 1 1 [.string (bs p6.op), .slice ki6 nk6 kc6, .slice si6 ns6 sn6, .string (bs p6.attr), .string (bs p6.text)] rfl rfl HNW.out ?c2 ?c3 ?c4 (Nat.zero_le _) ?_) | (go_at_call 156; refine (HR1.out _ hx4).mono ?_; rintro e w6 ⟨v6, rfl, pv6, hx6, fr6⟩; obtain ⟨ki6, nk6, kc6, si6, ns6, sn6, rfl, sv6⟩ := pv6.shape; obtain ⟨⟨a0, ki0, nk0, kc0, si0, ns0, sn0, b0, d0, hB6⟩, hpu⟩ := HPU.out _ _ (fr3.same fr4) fr6 hx6 _ _ _ _ _ _ sv6 (.cells #[.string (bs p6.op), .slice ki6 nk6 kc6, .slice si6 ns6 sn6, .string (bs p6.attr), .string (bs p6.text)] 97); have HPU2 := hide hpu; clear hpu sv6 pv6; have HB6 := hide hB6; obtain ⟨⟨y0, y1, y2, y3, y4⟩, z0, z1, z2, z3, z4⟩ := cells5 hB6; clear hB6; obtain ⟨W7, hW7, r7, fr7⟩ := box5 (.string (bs p6.op)) (.slice ki6 nk6 kc6) (.slice si6 ns6 sn6) (.string (bs p6.attr)) (.string (bs p6.text)) HB6.out; obtain ⟨⟨k0, k1, k2, k3, k4⟩, -⟩ := cells5 r7; obtain ⟨xs, hx1, hx2⟩ := HPU2.out W7 fr7 r7; have HX2 := hide hx2; clear hx2 r7 fr7; have hnw := news_of [.string (bs p6.op), .slice ki6 nk6 kc6, .slice si6 ns6 sn6, .string (bs p6.attr), .string (bs p6.text)] 97 W7; have HNW := hide hnw; clear hnw) | (go_at_call 123; refine (HNA.out _ hx3).mono ?_; rintro e w4 ⟨rfl, hx4, fr4⟩) | (go_at_call 144; refine HP.out.mono ?_; rintro e w3 ⟨rfl, hx3, fr3⟩))
        case c2 =>
          intro u hu
          simp only [List.mem_cons, List.not_mem_nil, or_false] at hu
          rcases hu with rfl | rfl | rfl | rfl | rfl <;> rfl
        case c3 => have := HJ.out.sm; unfold maxLen; omega
        case c4 => have := HJ.out.sm; omega
        intro v' w8 ho hg _ hat
        have hJ8 := HX2.out _ w8 ho hg (by simpa using hat)
        go_wp2
        exact ⟨⟨_, _, hJ8⟩, by rw [hJ8.xr.mea, hmea]; exact HLT.out⟩
      · have hpb : ((bs sc.peek).toList == [97, 110, 100]) = false := by rw [bs_toL]; simpa using hp
        have hY := hJ.stop he hp
        have HFI := hide (fun W3 W4 (v' : Value) f3 x3 f4 pv => hJ.fin (W3 := W3) (W4 := W4) (v' := v') (s2 := sc.bl) (pr := severalR wAnd ps) f3 x3 f4 pv)
        subst hY
        clear hJ he hp
        generalize sc.peek = P at *
        go_wp2_with (first | (go_at_call 146; refine (HSE.out _ fr3).mono ?_; rintro e w4 ⟨u, rfl, pv4, fr4⟩; obtain ⟨bq4, hfin⟩ := HFI.out _ _ _ fr3 hx3 fr4 pv4; have HFN := hide hfin; obtain ⟨ki4, nk4, kc4, si4, ns4, sn4, rfl, sv4⟩ := pv4.shape; clear hfin pv4 sv4; obtain ⟨⟨y0, y1, y2, y3, y4⟩, z0, z1, z2, z3, z4⟩ := cells5 bq4; have HB4 := hide bq4; clear bq4) | (go_at_call 144; refine HP.out.mono ?_; rintro e w3 ⟨rfl, hx3, fr3⟩))
        obtain ⟨W5, hW5, r5, fr5⟩ := box5 (.string (bs (severalR wAnd ps).op)) (.slice ki4 nk4 kc4) (.slice si4 ns4 sn4) (.string (bs (severalR wAnd ps).attr)) (.string (bs (severalR wAnd ps).text)) HB4.out
        rw [hW5]
        clear hW5 y0 y1 y2 y3 y4 z0 z1 z2 z3 z4
        obtain ⟨⟨k0, k1, k2, k3, k4⟩, -⟩ := cells5 r5
        refine bodyPost_ret (v := .agg #[.string (bs (severalR wAnd ps).op), .slice ki4 nk4 kc4, .slice si4 ns4 sn4, .string (bs (severalR wAnd ps).attr), .string (bs (severalR wAnd ps).text)]) (by simp [results, Tryz.results145, go_sem, k0, k1, k2, k3, k4]) rfl ⟨_, rfl, HFN.out _ fr5⟩
    · have hb : ((sc.err : Int) == 0) = false := by simp; omega
      have hb2 : (sc.err == 0) = false := by simpa using he
      have hY := hJ.dead he
      have HFI := hide (fun W3 W4 (v' : Value) f3 x3 f4 pv => hJ.fin (W3 := W3) (W4 := W4) (v' := v') (s2 := sc) (pr := severalR wAnd ps) f3 x3 f4 pv)
      have HXR := hide hJ.xr
      subst hY
      clear hJ he
      go_wp2_with (first | (go_at_call 146; refine (HSE.out _ (Fr.refl _ _)).mono ?_; rintro e w4 ⟨u, rfl, pv4, fr4⟩; obtain ⟨bq4, hfin⟩ := HFI.out _ _ _ (Fr.refl _ _) HXR.out fr4 pv4; have HFN := hide hfin; obtain ⟨ki4, nk4, kc4, si4, ns4, sn4, rfl, sv4⟩ := pv4.shape; clear hfin pv4 sv4; obtain ⟨⟨y0, y1, y2, y3, y4⟩, z0, z1, z2, z3, z4⟩ := cells5 bq4; have HB4 := hide bq4; clear bq4))
      obtain ⟨W5, hW5, r5, fr5⟩ := box5 (.string (bs (severalR wAnd ps).op)) (.slice ki4 nk4 kc4) (.slice si4 ns4 sn4) (.string (bs (severalR wAnd ps).attr)) (.string (bs (severalR wAnd ps).text)) HB4.out
      rw [hW5]
      clear hW5 y0 y1 y2 y3 y4 z0 z1 z2 z3 z4
      obtain ⟨⟨k0, k1, k2, k3, k4⟩, -⟩ := cells5 r5
      refine bodyPost_ret (v := .agg #[.string (bs (severalR wAnd ps).op), .slice ki4 nk4 kc4, .slice si4 ns4 sn4, .string (bs (severalR wAnd ps).attr), .string (bs (severalR wAnd ps).text)]) (by simp [results, Tryz.results145, go_sem, k0, k1, k2, k3, k4]) rfl ⟨_, rfl, HFN.out _ fr5⟩
set_option maxHeartbeats 8000000 in
set_option maxRecDepth 100000 in
theorem condR_ok (hr : RdK X q n 145 read) (h : XR X q w s) (n8 : n ≤ 9) (hn : s.err = 0 → s.nest = n ∧ n ≤ 8) : Calls Tryz.prog 126 #[ptr X] w (XV X q (PV (fun b => w.heap.size ≤ b) 94 97) w (joinR q wOr read s)) := by
  have hX := h.lt
  have f0 : Fr (fun _ => False) w (w.alloc (.cells zero5 97)) := (Fr.refl _ w).alloc _
  have HR0 := hide (hr.calls (w.alloc (.cells zero5 97)) s (h.fr f0 (fun x => x)) hn)
  unfold joinR
  have hk0 := keepsN (hr.keeps s) n8 hn
  obtain ⟨p1, s1, h1⟩ : ∃ p1 s1, read s = (p1, s1) := ⟨_, _, rfl⟩
  rw [h1] at HR0 hk0 ⊢
  simp only at hk0
  obtain ⟨Y, hY⟩ : ∃ Y, (severalR wOr (p1 :: (loopR q wOr read (s1.l.length + 1) s1).1), (loopR q wOr read (s1.l.length + 1) s1).2) = Y := ⟨_, rfl⟩
  simp only
  rw [hY]
  have HST := hide (fun w2 ki si nk kc ns sn f1 x1 sv => JX.start (w2 := w2) (ki := ki) (si := si) (nk := nk) (kc := kc) (ns := ns) (sn := sn) hX n8 hk0 hY.symm f1 x1 sv)
  have HRD := hide hr
  clear h hn hr h1 hY hk0 f0
  obtain ⟨i0, hi, hz0, hz1, hz2⟩ := info_parts info80
  go_enter Tryz.func126, Tryz.ntmps126
  go_wp2_with (first | (go_at_call 145; refine HR0.out.mono ?_; rintro e w2 ⟨v2, rfl, pv2, hx2, fr2⟩; obtain ⟨ki2, nk2, kc2, si2, ns2, sn2, rfl, sv2⟩ := pv2.shape; have hj := HST.out _ _ _ _ _ _ _ fr2 hx2 sv2; have HJ0 := hide hj; clear hj pv2 sv2 hx2 fr2; obtain ⟨⟨y0, y1, y2, y3, y4⟩, -⟩ := cells5 (Below_new w2 (.cells #[.string (bs p1.op), .slice ki2 nk2 kc2, .slice si2 ns2 sn2, .string (bs p1.attr), .string (bs p1.text)] 97))))
  clear y0 y1 y2 y3 y4
  generalize (World.alloc (World.alloc w2 _) _) = WL at *
  generalize hBp : w2.heap.size = Bp at *
  clear hBp
  generalize (Value.slice (some ⟨Bp + 1, 0, none⟩) 1 1) = V0 at *
  go_loopw [4, 9, 10, 11, 12, 13, 14, 15, 16, 17, 18, 19, 20, 21, 22, 23, 24, 25, 26] (fun u4 _ _ _ _ _ _ _ _ _ _ _ _ _ _ _ _ _ _ wr => ∃ ps sc, JX X q wOr read n w Bp Y wr u4 ps sc) (fun _ _ _ _ _ _ _ _ _ _ _ _ _ _ _ _ _ _ _ wr => meaX X q wr)
  case atStart => exact ⟨_, _, HJ0.out⟩
  case round =>
    rename World => WO
    obtain ⟨ps, sc, hJ⟩ := hrel
    have hmea : meaX X q WO = sc.l.length := hJ.xr.mea
    have HJ := hide hJ
    obtain ⟨c0, c1, c2, c3, c4⟩ := hJ.xr.cells
    clear c0 c1 c2 c4
    have HSE := hide (fun W3 f3 => hJ.several (W3 := W3) f3)
    by_cases he : sc.err = 0
    · rw [he] at c3
      have c3 : WO.cell? ⟨X, 3, none⟩ = some (.int .i64 0) := c3
      have HP := hide (peekR_ok hJ.xr)
      by_cases hp : sc.peek = wOr
      · have hpb : ((bs sc.peek).toList == [111, 114]) = true := by rw [bs_toL, hp]; rfl
        obtain ⟨p6, s6, hs6⟩ : ∃ p6 s6, read (sc.bl.name q) = (p6, s6) := ⟨_, _, rfl⟩
        have hgo := hJ.go HRD.out.keeps he (by decide) hp hs6
        have HLT := hide hgo.1
        have HPU := hide (fun wS w6 fS f6 x6 ki si nk kc ns sn sv o2 => hJ.push hgo (wS := wS) (w6 := w6) fS f6 x6 (ki := ki) (si := si) (nk := nk) (kc := kc) (ns := ns) (sn := sn) sv o2)
        have HNA : Hid (∀ W, XR X q W sc.bl → Calls Tryz.prog 123 #[ptr X] W (XS X q W sc.bl.peek (sc.bl.name q))) := fun W hW => nameRd_ok hW
        have HR1 : Hid (∀ W, XR X q W (sc.bl.name q) → Calls Tryz.prog 145 #[ptr X] W (XV X q (PV (fun b => W.heap.size ≤ b) 94 97) W (p6, s6))) := fun W hW => by
          rw [← hs6]; exact HRD.out.calls W _ hW (keepsN ((keeps_bl sc).trans (keeps_name sc.bl)) hJ.n8 hJ.ns)
        clear hgo hs6 hp he hJ
        generalize sc.bl.name q = s5 at *
        generalize sc.bl.peek = P5 at *
        generalize sc.peek = P at *
        go_wp2_with (first | (at_builtin; refine wpList_append_own_at _ rfl (.tmp 23) (.tmp 25) 92 rfl 0 97 i0 _ 5 96 Tryz.underlying92 hi hz0 hz1 hz2 rfl (by decide) u4 ps.length (pCells xs) rfl hx1 ⟨W7.heap.size, 0, none⟩ 1 1 [.string (bs p6.op), .slice ki6 nk6 kc6, .slice si6 ns6 sn6, .string (bs p6.attr), .string (bs p6.text)] rfl rfl HNW.out ?c2 ?c3 ?c4 (Nat.zero_le _) ?_) | (go_at_call 145; refine (HR1.out _ hx4).mono ?_; rintro e w6 ⟨v6, rfl, pv6, hx6, fr6⟩; obtain ⟨ki6, nk6, kc6, si6, ns6, sn6, rfl, sv6⟩ := pv6.shape; obtain ⟨⟨a0, ki0, nk0, kc0, si0, ns0, sn0, b0, d0, hB6⟩, hpu⟩ := HPU.out _ _ (fr3.same fr4) fr6 hx6 _ _ _ _ _ _ sv6 (.cells #[.string (bs p6.op), .slice ki6 nk6 kc6, .slice si6 ns6 sn6, .string (bs p6.attr), .string (bs p6.text)] 97); have HPU2 := hide hpu; clear hpu sv6 pv6; have HB6 := hide hB6; obtain ⟨⟨y0, y1, y2, y3, y4⟩, z0, z1, z2, z3, z4⟩ := cells5 hB6; clear hB6; obtain ⟨W7, hW7, r7, fr7⟩ := box5 (.string (bs p6.op)) (.slice ki6 nk6 kc6) (.slice si6 ns6 sn6) (.string (bs p6.attr)) (.string (bs p6.text)) HB6.out; obtain ⟨⟨k0, k1, k2, k3, k4⟩, -⟩ := cells5 r7; obtain ⟨xs, hx1, hx2⟩ := HPU2.out W7 fr7 r7; have HX2 := hide hx2; clear hx2 r7 fr7; have hnw := news_of [.string (bs p6.op), .slice ki6 nk6 kc6, .slice si6 ns6 sn6, .string (bs p6.attr), .string (bs p6.text)] 97 W7; have HNW := hide hnw; clear hnw) | (go_at_call 123; refine (HNA.out _ hx3).mono ?_; rintro e w4 ⟨rfl, hx4, fr4⟩) | (go_at_call 144; refine HP.out.mono ?_; rintro e w3 ⟨rfl, hx3, fr3⟩))
        case c2 =>
          intro u hu
          simp only [List.mem_cons, List.not_mem_nil, or_false] at hu
          rcases hu with rfl | rfl | rfl | rfl | rfl <;> rfl
        case c3 => have := HJ.out.sm; unfold maxLen; omega
        case c4 => have := HJ.out.sm; omega
        intro v' w8 ho hg _ hat
        have hJ8 := HX2.out _ w8 ho hg (by simpa using hat)
        go_wp2
        exact ⟨⟨_, _, hJ8⟩, by rw [hJ8.xr.mea, hmea]; exact HLT.out⟩
      · have hpb : ((bs sc.peek).toList == [111, 114]) = false := by rw [bs_toL]; simpa using hp
        have hY := hJ.stop he hp
        have HFI := hide (fun W3 W4 (v' : Value) f3 x3 f4 pv => hJ.fin (W3 := W3) (W4 := W4) (v' := v') (s2 := sc.bl) (pr := severalR wOr ps) f3 x3 f4 pv)
        subst hY
        clear hJ he hp
        generalize sc.peek = P at *
        go_wp2_with (first | (go_at_call 146; refine (HSE.out _ fr3).mono ?_; rintro e w4 ⟨u, rfl, pv4, fr4⟩; obtain ⟨bq4, hfin⟩ := HFI.out _ _ _ fr3 hx3 fr4 pv4; have HFN := hide hfin; obtain ⟨ki4, nk4, kc4, si4, ns4, sn4, rfl, sv4⟩ := pv4.shape; clear hfin pv4 sv4; obtain ⟨⟨y0, y1, y2, y3, y4⟩, z0, z1, z2, z3, z4⟩ := cells5 bq4; have HB4 := hide bq4; clear bq4) | (go_at_call 144; refine HP.out.mono ?_; rintro e w3 ⟨rfl, hx3, fr3⟩))
        obtain ⟨W5, hW5, r5, fr5⟩ := box5 (.string (bs (severalR wOr ps).op)) (.slice ki4 nk4 kc4) (.slice si4 ns4 sn4) (.string (bs (severalR wOr ps).attr)) (.string (bs (severalR wOr ps).text)) HB4.out
        rw [hW5]
        clear hW5 y0 y1 y2 y3 y4 z0 z1 z2 z3 z4
        obtain ⟨⟨k0, k1, k2, k3, k4⟩, -⟩ := cells5 r5
        refine bodyPost_ret (v := .agg #[.string (bs (severalR wOr ps).op), .slice ki4 nk4 kc4, .slice si4 ns4 sn4, .string (bs (severalR wOr ps).attr), .string (bs (severalR wOr ps).text)]) (by simp [results, Tryz.results126, go_sem, k0, k1, k2, k3, k4]) rfl ⟨_, rfl, HFN.out _ fr5⟩
    · have hb : ((sc.err : Int) == 0) = false := by simp; omega
      have hb2 : (sc.err == 0) = false := by simpa using he
      have hY := hJ.dead he
      have HFI := hide (fun W3 W4 (v' : Value) f3 x3 f4 pv => hJ.fin (W3 := W3) (W4 := W4) (v' := v') (s2 := sc) (pr := severalR wOr ps) f3 x3 f4 pv)
      have HXR := hide hJ.xr
      subst hY
      clear hJ he
      go_wp2_with (first | (go_at_call 146; refine (HSE.out _ (Fr.refl _ _)).mono ?_; rintro e w4 ⟨u, rfl, pv4, fr4⟩; obtain ⟨bq4, hfin⟩ := HFI.out _ _ _ (Fr.refl _ _) HXR.out fr4 pv4; have HFN := hide hfin; obtain ⟨ki4, nk4, kc4, si4, ns4, sn4, rfl, sv4⟩ := pv4.shape; clear hfin pv4 sv4; obtain ⟨⟨y0, y1, y2, y3, y4⟩, z0, z1, z2, z3, z4⟩ := cells5 bq4; have HB4 := hide bq4; clear bq4))
      obtain ⟨W5, hW5, r5, fr5⟩ := box5 (.string (bs (severalR wOr ps).op)) (.slice ki4 nk4 kc4) (.slice si4 ns4 sn4) (.string (bs (severalR wOr ps).attr)) (.string (bs (severalR wOr ps).text)) HB4.out
      rw [hW5]
      clear hW5 y0 y1 y2 y3 y4 z0 z1 z2 z3 z4
      obtain ⟨⟨k0, k1, k2, k3, k4⟩, -⟩ := cells5 r5
      refine bodyPost_ret (v := .agg #[.string (bs (severalR wOr ps).op), .slice ki4 nk4 kc4, .slice si4 ns4 sn4, .string (bs (severalR wOr ps).attr), .string (bs (severalR wOr ps).text)]) (by simp [results, Tryz.results126, go_sem, k0, k1, k2, k3, k4]) rfl ⟨_, rfl, HFN.out _ fr5⟩
end Go.Proofs.YtoahlnmhjinneaaGreatDoor

set_option linter.unusedSimpArgs false
set_option linter.unusedVariables false
namespace Go.Proofs.YtoahlnmhjinneaaGreatDoor
open Go
variable {q l : L} {s s' : RS} {inner read : RS → Prd × RS}
theorem keeps_fail {e : Nat} (he : e ≠ 0) : Keeps s (s.fail q e) := ⟨by rw [fail_l]; exact List.suffix_refl _, fun x => absurd x (fail_err he), fun _ _ => fail_nest e⟩
theorem scan_suf (c : UInt8) : ∀ (f : Nat) (l : L), (scan q c f l).1 <:+ l
  | 0, l => List.suffix_refl _
  | f + 1, l => by
    unfold scan
    split
    · exact List.suffix_refl _
    · split
      · exact List.suffix_refl _
      · split
        · exact List.suffix_refl _
        · exact (scan_suf c f _).trans (List.drop_suffix _ _)
theorem keeps_quote (c : UInt8) (s : RS) : Keeps s (quoteR q c s).2 := by
  unfold quoteR
  have h := scan_suf (q := q) c (s.l.length + 1) s.l
  simp only
  split
  · exact ⟨(List.drop_suffix _ _).trans h, id, fun _ _ => rfl⟩
  · next hx => exact (⟨h, id, fun _ _ => rfl⟩ : Keeps s { s with l := (scan q c (s.l.length + 1) s.l).1 }).trans (keeps_fail hx)
theorem keeps_quoted (s : RS) : Keeps s (quotedR q s).2 := by
  unfold quotedR
  split
  · exact (keeps_has s [34]).trans (keeps_quote 34 _)
  · split
    · exact ((keeps_bl s).trans (keeps_has s.bl [39])).trans (keeps_quote 39 _)
    · exact ((keeps_bl s).trans (keeps_has s.bl [39])).trans keeps_wrong
theorem keeps_back {s2 : RS} (h : Keeps s s2) : Keeps s { s2 with l := s.l } := ⟨List.suffix_refl _, h.err, h.nest⟩
theorem keeps_more (hk : ∀ s, Keeps s (inner s).2) (may : Bool) : ∀ (f : Nat) (ls : List Stp) (s : RS), Keeps s (moreR q inner may f ls s).2
  | 0, ls, s => Keeps.refl
  | f + 1, ls, s => by
    rw [moreR]
    split
    · exact Keeps.refl
    · split
      · exact Keeps.refl
      · split
        · exact ((keeps_has s [47, 47]).trans (keeps_step hk true _)).trans (keeps_more hk may f _ _)
        · split
          · have h1 := (keeps_bl s).trans (keeps_has s.bl [47])
            split
            · exact keeps_back (h1.trans (keeps_bl _))
            · refine Keeps.trans (Keeps.trans ?_ (keeps_step hk false _)) (keeps_more hk may f _ _)
              split
              · exact h1.trans (keeps_bl _)
              · exact h1
          · exact keeps_bl s
theorem keeps_path (hk : ∀ s, Keeps s (inner s).2) (s : RS) : Keeps s (pathR q inner s).2 := by
  unfold pathR
  split
  · exact (keeps_bl s).trans (keeps_more hk _ _ _ _)
  · exact (keeps_bl s).trans keeps_wrong
theorem keeps_attr (s : RS) (ls : List Stp) : Keeps s (attrR q s ls).2 := by
  unfold attrR
  split
  · exact ((keeps_has s [47]).trans (keeps_must _ [64])).trans (keeps_name _)
  · simp only
    split
    · exact keeps_bl s
    · exact Keeps.refl
theorem keeps_value (hk : ∀ s, Keeps s (inner s).2) (s : RS) : Keeps s (valueR q inner s).2 := by
  unfold valueR
  split
  · exact (keeps_has s [64]).trans (keeps_name _)
  · split
    · have h1 := (keeps_bl s).trans (keeps_has s.bl [46])
      split
      · exact ((h1.trans (keeps_bl _)).trans (keeps_more hk _ _ _ _)).trans (keeps_attr _ _)
      · exact h1.trans (keeps_bl _)
    · exact ((((keeps_bl s).trans (keeps_bl _)).trans (keeps_step hk false _)).trans (keeps_more hk _ _ _ _)).trans (keeps_attr _ _)
theorem keeps_loop {word : L} (hk : ∀ s, Keeps s (read s).2) : ∀ (f : Nat) (s : RS), Keeps s (loopR q word read f s).2
  | 0, s => Keeps.refl
  | f + 1, s => by
    rw [loopR]
    split
    · exact Keeps.refl
    · split
      · exact (((keeps_bl s).trans (keeps_name _)).trans (hk _)).trans (keeps_loop hk f _)
      · exact keeps_bl s
theorem opn_bl (p : L) : s.bl.opn q p = s.opn q p := by unfold RS.opn; rw [is_bl, bl_bl, bl_nest]
theorem keeps_br {p p' : L} {s5 : RS} (hp : 1 ≤ p.length) (h : Keeps (s.opn q p) s5) : Keeps s (s5.shut q p') := by
  cases hb : s.is p with
  | true => rw [← opn_bl] at h; exact (keeps_within hb hp h).1
  | false =>
    have e : s.opn q p = s.bl.wrong q := by unfold RS.opn; rw [hb]; rfl
    rw [e] at h
    obtain ⟨h1, h2⟩ := shut_keeps (q := q) s5 p'
    have hk := (keeps_bl s).trans ((keeps_wrong (q := q)).trans h)
    exact ⟨h1.trans hk.suf, fun x => hk.err (h2 x).1, fun x _ => absurd (h.err (h2 x).1) wrong_err⟩
theorem keeps_one (hk : ∀ s, Keeps s (inner s).2) (s : RS) : Keeps s (oneR q inner s).2 := by
  unfold oneR
  split
  · exact ((keeps_bl s).trans (keeps_name _)).trans (keeps_br (by decide) (hk _))
  · split
    · exact ((keeps_bl s).trans (keeps_bl _)).trans (keeps_br (by decide) (hk _))
    · have h1 := ((keeps_bl s).trans (keeps_bl _)).trans (keeps_value (q := q) hk s.bl.bl)
      simp only
      split
      · exact (h1.trans (keeps_has _ [33, 61])).trans (keeps_quoted _)
      · split
        · exact ((h1.trans (keeps_bl _)).trans (keeps_has _ [61])).trans (keeps_quoted _)
        · exact (h1.trans (keeps_bl _)).trans (keeps_bl _)
theorem keeps_join {word : L} (hk : ∀ s, Keeps s (read s).2) (s : RS) : Keeps s (joinR q word read s).2 := (hk s).trans (keeps_loop hk _ _)
theorem keeps_cond (hk : ∀ s, Keeps s (inner s).2) (s : RS) : Keeps s (condR q inner s).2 := keeps_join (fun s => keeps_join (fun s => keeps_one hk s) s) s
theorem keeps_condAt : ∀ (d : Nat) (s : RS), Keeps s (condRAt q d s).2
  | 0, s => keeps_cond (fun _ => Keeps.refl) s
  | d + 1, s => keeps_cond (fun s => keeps_condAt d s) s
theorem keeps_inAt : ∀ (d : Nat) (s : RS), Keeps s (inRAt q d s).2
  | 0, s => Keeps.refl
  | d + 1, s => keeps_condAt d s
end Go.Proofs.YtoahlnmhjinneaaGreatDoor

set_option linter.unusedSimpArgs false
set_option linter.unusedVariables false
namespace Go.Proofs.YtoahlnmhjinneaaGreatDoor
open Go
variable {q l p : L} {s s' : RS} {inner read : RS → Prd × RS}
theorem dead_bl (he : s.err ≠ 0) : s.bl = s := by unfold RS.bl; rw [if_neg he]
theorem dead_is (he : s.err ≠ 0) : s.is p = false := by unfold RS.is; simp [he]
theorem dead_fail {e : Nat} (he : s.err ≠ 0) : s.fail q e = s := by unfold RS.fail; rw [if_neg he]
theorem dead_wrong (he : s.err ≠ 0) : s.wrong q = s := by unfold RS.wrong; rw [dead_bl he, dead_fail he]
theorem dead_peek (he : s.err ≠ 0) : s.peek = [] := by unfold RS.peek; rw [if_neg he]
theorem dead_name (he : s.err ≠ 0) : s.name q = s := by unfold RS.name; rw [if_pos (dead_peek he), dead_bl he, dead_wrong he]
theorem dead_called (he : s.err ≠ 0) (hp : p ≠ []) : s.called p = false := by
  unfold RS.called; rw [dead_peek he]
  cases p with
  | nil => exact absurd rfl hp
  | cons a b => rfl
theorem dead_step (he : s.err ≠ 0) (d : Bool) : stepR q inner d s = (⟨d, [], .nil⟩, s) := by
  unfold stepR testR
  rw [dead_bl he, dead_bl he, dead_is he, dead_called he (by decide), dead_peek he, dead_name he]
  simp only [Bool.false_eq_true, if_false]
  rw [predsR, dead_is he, dead_bl he]
  simp only [Bool.false_eq_true, if_false]
  rfl
theorem dead_more (he : s.err ≠ 0) (may : Bool) (f : Nat) (ls : List Stp) : moreR q inner may f ls s = (ls, s) := by
  cases f with
  | zero => rfl
  | succ f => rw [moreR, if_pos he]
theorem dead_attr (he : s.err ≠ 0) (ls : List Stp) : attrR q s ls = (⟨[], .nil, Stps.of ls, [], []⟩, s) := by
  unfold attrR
  rw [if_neg (fun x => he x.1), if_neg (fun x => he x.1)]
theorem dead_value (he : s.err ≠ 0) : valueR q inner s = (⟨[], .nil, Stps.of [⟨false, [], .nil⟩], [], []⟩, s) := by
  unfold valueR
  rw [dead_bl he, dead_bl he, dead_is he, dead_is he]
  simp only [Bool.false_eq_true, if_false]
  rw [dead_step he]
  simp only
  rw [dead_more he]
  simp only
  rw [dead_attr he]
theorem dead_one (he : s.err ≠ 0) : oneR q inner s = (junk, s) := by
  unfold oneR
  rw [dead_called he (by decide), dead_bl he, dead_bl he, dead_is he]
  simp only [Bool.false_eq_true, if_false]
  rw [dead_value he]
  simp only
  rw [dead_is he, dead_bl he, dead_is he, dead_bl he]
  simp only [Bool.false_eq_true, if_false]
  rfl
theorem dead_loop {word : L} (he : s.err ≠ 0) (f : Nat) : loopR q word read f s = ([], s) := by
  cases f with
  | zero => rfl
  | succ f => rw [loopR, if_pos he]
theorem dead_join {word : L} {p1 : Prd} (he : s.err ≠ 0) (h : read s = (p1, s)) : joinR q word read s = (p1, s) := by
  unfold joinR
  rw [h]
  simp only
  rw [dead_loop he]
  rfl
theorem dead_cond (he : s.err ≠ 0) : condR q inner s = (junk, s) := dead_join he (dead_join he (dead_one he))
theorem dead_in (he : s.err ≠ 0) (d : Nat) : inRAt q d s = (junk, s) := by
  cases d with
  | zero => rfl
  | succ d => show condRAt q d s = _; rw [condRAt_eq]; exact dead_cond he
end Go.Proofs.YtoahlnmhjinneaaGreatDoor

set_option linter.unusedSimpArgs false
set_option linter.unusedVariables false
namespace Go.Proofs.YtoahlnmhjinneaaGreatDoor
open Go.RowKit Go.Maps Go.Lib
variable {w w' w1 w2 W0 W1 W2 W3 W4 WO wr W W5 : World} {A A' F G : Nat → Prop} {X lo n Bp : Nat} {q l l' p word : L} {s s' : RS} {v v' vp : Value} {inner read : RS → Prd × RS}
theorem more_grow (may : Bool) : ∀ (f : Nat) (ls : List Stp) (s : RS), ls.length ≤ (moreR q inner may f ls s).1.length
  | 0, ls, s => Nat.le_refl _
  | f + 1, ls, s => by
    rw [moreR]
    split
    · exact Nat.le_refl _
    · split
      · exact Nat.le_refl _
      · split
        · exact Nat.le_trans (by simp) (more_grow may f _ _)
        · split
          · split
            · exact Nat.le_refl _
            · exact Nat.le_trans (by simp) (more_grow may f _ _)
          · exact Nat.le_refl _
theorem more_some (may : Bool) {f : Nat} (hb : s.is [47, 47] = true) : (moreR q inner may (f + 1) [] s).1 ≠ [] := by
  have he := (is_pre hb).1
  rw [moreR, if_neg (by simpa using he), if_neg (by simp [lastText]), if_pos hb]
  intro e
  have := more_grow (q := q) (inner := inner) may f [(stepR q inner true (s.has [47, 47])).1] (stepR q inner true (s.has [47, 47])).2
  simp only [List.nil_append] at e
  rw [e] at this
  simp at this
theorem zbox (f : Fr (fun k => k = X) (w.alloc (.cells zero5 97)) w2) (hX : X < w.heap.size) : w2.heap[w.heap.size]? = some (.cells zero5 97 (0, 0)) ∧ ∀ W5, Fr (fun k => k = w.heap.size) w2 W5 → Fr (fun k => k = X) w W5 := by
  have f0 : Fr (fun _ => False) w (w.alloc (.cells zero5 97)) := (Fr.refl _ w).alloc _
  refine ⟨by rw [f.block _ (by simp) (by omega)]; exact Below_new _ _, fun W5 f5 => ?_⟩
  exact ((f0.mono fun _ x => x.elim).same f).trans f5 (fun i hi e => by omega)
set_option maxHeartbeats 8000000 in
set_option maxRecDepth 100000 in
theorem value1_ok (h : XR X q w s) (hb : s.is [64] = true) : Calls Tryz.prog 169 #[ptr X] w (XV X q (PV (fun b => w.heap.size ≤ b) 94 97) w (⟨[], .nil, .nil, (s.has [64]).peek, []⟩, (s.has [64]).name q)) := by
  have hX := h.lt
  have f0 : Fr (fun _ => False) w (w.alloc (.cells zero5 97)) := (Fr.refl _ w).alloc _
  have HH := hide (hasR_ok (p := [64]) (h.fr f0 (fun x => x)) (by decide) (by decide))
  rw [hb] at HH
  have HN : Hid (∀ W, XR X q W (s.has [64]) → Calls Tryz.prog 123 #[ptr X] W (XS X q W (s.has [64]).peek ((s.has [64]).name q))) := fun W hW => nameRd_ok hW
  have HZ := hide (fun w2 f => zbox (w2 := w2) f hX)
  clear h hb f0
  generalize (s.has [64]).name q = s2 at *
  generalize (s.has [64]).peek = P at *
  go_enter Tryz.func169, Tryz.ntmps169
  go_wp2_with (first | (go_at_call 123; refine (HN.out _ hx2).mono ?_; rintro e w3 ⟨rfl, hx3, fr3⟩; obtain ⟨bq, hz⟩ := HZ.out _ (fr2.same fr3); have HQ := hide bq; have HZ2 := hide hz; clear hz; obtain ⟨⟨y0, y1, y2, y3, y4⟩, z0, z1, z2, z3, z4⟩ := cells5 bq; clear bq) | (go_at_call 54; refine HH.out.mono ?_; rintro e w2 ⟨rfl, hx2, fr2⟩))
  obtain ⟨W5, hW5, r5, fr5⟩ := box5 (.string ⟨#[]⟩) (.slice none 0 0) (.slice none 0 0) (.string (bs P)) (.string ⟨#[]⟩) HQ.out
  rw [hW5]
  clear hW5 y0 y1 y2 y3 y4 z0 z1 z2 z3 z4
  obtain ⟨⟨k0, k1, k2, k3, k4⟩, -⟩ := cells5 r5
  refine bodyPost_ret (v := .agg #[.string ⟨#[]⟩, .slice none 0 0, .slice none 0 0, .string (bs P), .string ⟨#[]⟩]) (by simp [results, Tryz.results169, go_sem, k0, k1, k2, k3, k4]) rfl ⟨_, rfl, ⟨_, _, rfl, Or.inl ⟨rfl, rfl⟩, Or.inl ⟨rfl, rfl⟩⟩, hx3.fr fr5 (by omega), HZ2.out _ fr5⟩
set_option maxHeartbeats 8000000 in
set_option maxRecDepth 100000 in
theorem value2_ok (h : XR X q w s) (hb : s.is [64] = false) (hb2 : s.bl.is [46] = true) (hb3 : (s.bl.has [46]).is [47, 47] = false) : Calls Tryz.prog 169 #[ptr X] w (XV X q (PV (fun b => w.heap.size ≤ b) 94 97) w (⟨[], .nil, .nil, [], []⟩, (s.bl.has [46]).bl)) := by
  have hX := h.lt
  have f0 : Fr (fun _ => False) w (w.alloc (.cells zero5 97)) := (Fr.refl _ w).alloc _
  have HH := hide (hasR_ok (p := [64]) (h.fr f0 (fun x => x)) (by decide) (by decide))
  rw [hb, has_no hb] at HH
  have HH2 : Hid (∀ W, XR X q W s.bl → Calls Tryz.prog 54 #[ptr X, .string ⟨#[46]⟩] W (XB X q W true (s.bl.has [46]))) := fun W hW => by have := hasR_ok (p := [46]) hW (by decide) (by decide); rw [hb2] at this; exact this
  have HI : Hid (∀ W, XR X q W (s.bl.has [46]) → Calls Tryz.prog 76 #[ptr X, .string ⟨#[47, 47]⟩] W (XB X q W false (s.bl.has [46]).bl)) := fun W hW => by have := isR_ok (p := [47, 47]) hW (by decide) (by decide); rw [hb3] at this; exact this
  have HZ := hide (fun w2 f => zbox (w2 := w2) f hX)
  clear h hb hb2 hb3 f0
  generalize (s.bl.has [46]).bl = s2 at *
  go_enter Tryz.func169, Tryz.ntmps169
  go_wp2_with (first | (go_at_call 76; refine (HI.out _ hx3).mono ?_; rintro e w4 ⟨rfl, hx4, fr4⟩; obtain ⟨bq, hz⟩ := HZ.out _ ((fr2.same fr3).same fr4); have HQ := hide bq; have HZ2 := hide hz; clear hz; obtain ⟨⟨y0, y1, y2, y3, y4⟩, z0, z1, z2, z3, z4⟩ := cells5 bq; clear bq) | (go_at_call 54; refine (HH2.out _ hx2).mono ?_; rintro e w3 ⟨rfl, hx3, fr3⟩) | (go_at_call 54; refine HH.out.mono ?_; rintro e w2 ⟨rfl, hx2, fr2⟩))
  obtain ⟨W5, hW5, r5, fr5⟩ := box5 (.string ⟨#[]⟩) (.slice none 0 0) (.slice none 0 0) (.string ⟨#[]⟩) (.string ⟨#[]⟩) HQ.out
  rw [hW5]
  clear hW5 y0 y1 y2 y3 y4 z0 z1 z2 z3 z4
  obtain ⟨⟨k0, k1, k2, k3, k4⟩, -⟩ := cells5 r5
  refine bodyPost_ret (v := .agg #[.string ⟨#[]⟩, .slice none 0 0, .slice none 0 0, .string ⟨#[]⟩, .string ⟨#[]⟩]) (by simp [results, Tryz.results169, go_sem, k0, k1, k2, k3, k4]) rfl ⟨_, rfl, ⟨_, _, rfl, Or.inl ⟨rfl, rfl⟩, Or.inl ⟨rfl, rfl⟩⟩, hx4.fr fr5 (by omega), HZ2.out _ fr5⟩
end Go.Proofs.YtoahlnmhjinneaaGreatDoor

set_option linter.unusedSimpArgs false
set_option linter.unusedVariables false
namespace Go.Proofs.YtoahlnmhjinneaaGreatDoor
open Go.RowKit Go.Maps Go.Lib
variable {w w' w1 w2 w5 w7 W0 W1 W2 W3 W4 WO wr W W5 W8 : World} {A A' F G : Nat → Prop} {X lo n Bp : Nat} {q l l' p word : L} {s s' s5 s7 : RS} {v v' v5 vp : Value} {inner read : RS → Prd × RS} {ls : List Stp}
structure VT (X : Nat) (q : L) (w w5 : World) (v5 : Value) (ls : List Stp) (s5 : RS) : Prop where
  xr : XR X q w5 s5
  bq : w5.heap[w.heap.size]? = some (.cells zero5 97 (0, 0))
  gs : GS (w.heap.size + 1) 94 97 w5 v5 ls
  ne : ls ≠ []
  sm : ls.length ≤ 501
  fr : Fr (fun k => k = X ∨ w.heap.size ≤ k) w w5
  lt : X < w.heap.size
abbrev pbox (v : Value) (a : ByteArray) : Array Value := #[.string ⟨#[]⟩, .slice none 0 0, v, .string a, .string ⟨#[]⟩]
theorem VT.boxes (h : VT X q w w5 v5 ls s5) (f : Fr (fun k => k = X) (w5.alloc (.cells (pbox v5 ⟨#[]⟩) 97)) w7) : w7.heap[w.heap.size]? = some (.cells zero5 97 (0, 0)) ∧ w7.heap[w5.heap.size]? = some (.cells (pbox v5 ⟨#[]⟩) 97 (0, 0)) := by
  have hlt := h.lt
  have hz := blk_lt h.bq
  have fa : Fr (fun _ => False) w5 (w5.alloc (.cells (pbox v5 ⟨#[]⟩) 97)) := (Fr.refl _ w5).alloc _
  have b1 := (fa.block _ hz (fun x => x)).trans h.bq
  have b2 : (w5.alloc (.cells (pbox v5 ⟨#[]⟩) 97)).heap[w5.heap.size]? = some (.cells (pbox v5 ⟨#[]⟩) 97 (0, 0)) := Below_new _ _
  exact ⟨(f.block _ (blk_lt b1) (by omega)).trans b1, (f.block _ (blk_lt b2) (by omega)).trans b2⟩
theorem VT.fin (h : VT X q w w5 v5 ls s5) (f : Fr (fun k => k = X ∨ k = w5.heap.size) (w5.alloc (.cells (pbox v5 ⟨#[]⟩) 97)) w7) (x7 : XR X q w7 s7) (f8 : Fr (fun k => k = w.heap.size) w7 W8) (a : L) : PV (fun b => w.heap.size ≤ b) 94 97 W8 (.agg (pbox v5 (bs a))) ⟨[], .nil, Stps.of ls, a, []⟩ ∧ XR X q W8 s7 ∧ Fr (fun k => k = X) w W8 := by
  have hlt := h.lt
  have hz := blk_lt h.bq
  have fa : Fr (fun _ => False) w5 (w5.alloc (.cells (pbox v5 ⟨#[]⟩) 97)) := (Fr.refl _ w5).alloc _
  have g := h.gs.done (by have := h.sm; omega) (fun e => absurd e h.ne)
  have f57 : Fr (fun k => k = X) w5 w7 := ((fa.mono (G := fun k => k = X ∨ k = w5.heap.size) fun _ x => x.elim).same f).restrict (fun k hk x => by omega)
  have hm : Move (fun b => w.heap.size + 1 ≤ b) (fun b => w.heap.size ≤ b) w5 W8 := fun b hb hl => ⟨by omega, (f8.block b (Nat.lt_of_lt_of_le hl f57.size) (by omega)).trans (f57.block b hl (by omega))⟩
  refine ⟨⟨_, _, rfl, Or.inl ⟨rfl, rfl⟩, g.move hm⟩, x7.fr f8 (by omega), ?_⟩
  exact ((h.fr.trans f57 (fun _ _ e => Or.inl e)).trans f8 (fun _ _ e => Or.inr (by omega))).restrict (fun k hk x => by omega)
theorem GS.wider {lo' : Nat} (h : GS lo 94 97 w v ls) (hl : lo' ≤ lo) : GS lo' 94 97 w v ls := by
  obtain ⟨xs, h1, h2, h3⟩ := h.ex
  exact ⟨⟨xs, h1, h2, fun x hx => (h3 x hx).move fun b hb _ => ⟨⟨by omega, hb.2⟩, rfl⟩⟩, fun k e => by have := h.own k e; omega⟩
end Go.Proofs.YtoahlnmhjinneaaGreatDoor
