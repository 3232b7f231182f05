import Derived.Test.YtoahlnmhjinneaaGreatDoorGad
set_option linter.unusedVariables false
set_option linter.unusedSimpArgs false
set_option linter.unusedSimpArgs false
set_option linter.unusedVariables false
namespace Go.Proofs.YtoahlnmhjinneaaGreatDoor
open Go.RowKit Go.Maps Go.Lib
variable {w w' w1 w2 : World} {F G : Nat → Prop} {R : Nat} {t l l' : L} {wh n : Nat}
theorem setCells_same {g : Nat} : ∀ (vs : List Value) (o : Nat) (w w' : World), w.heap[g]? = w'.heap[g]? → (w.setCells g o vs).heap[g]? = (w'.setCells g o vs).heap[g]?
  | [], _, _, _, h => h
  | v :: vs, o, w, w', h => setCells_same vs (o + 1) _ _ (by
      show (w.setCell ⟨g, o, none⟩ v).heap[g]? = (w'.setCell ⟨g, o, none⟩ v).heap[g]?
      simp only [World.setCell, Array.getElem?_modify, h])
theorem own_some {e : TypeId} {sz k : Nat} {v : Value} {xs : List Value} (h : w.ownsRow 0 e sz v (k + 1) xs) : ∃ g cap, v = .slice (some ⟨g, 0, none⟩) (k + 1) cap := by
  rcases h.2 with ⟨_, e2⟩ | ⟨g, cap, cur, rfl, _⟩
  · omega
  · exact ⟨g, cap, rfl⟩
theorem z5_news {nb : Nat} (h : w.heap[nb]? = some (.cells #[.string ⟨#[]⟩, .slice none 0 0, .slice none 0 0, .string ⟨#[]⟩, .string ⟨#[]⟩] 112 (0, 0))) : ∀ j u, [Value.string ⟨#[]⟩, .slice none 0 0, .slice none 0 0, .string ⟨#[]⟩, .string ⟨#[]⟩][j]? = some u → w.cell? ((⟨nb, 0, none⟩ : Addr).add j) = some u := by
  intro j u hu
  rw [Addr.add_lit, Nat.zero_add, cell_of h (v := u)]
  rw [List.getElem?_toArray]; exact hu
theorem z5_one : ∀ u ∈ [Value.string ⟨#[]⟩, .slice none 0 0, .slice none 0 0, .string ⟨#[]⟩, .string ⟨#[]⟩], u.oneCell' = true := by
  intro u hu
  simp only [List.mem_cons, List.not_mem_nil, or_false] at hu
  rcases hu with rfl | rfl | rfl | rfl | rfl <;> rfl
theorem one5 (x1 x4 x5 : ByteArray) (k s : Option Addr) (a b c d : Nat) : (#[Value.string x1, .slice k a b, .slice s c d, .string x4, .string x5]).all (·.oneCell') = true := all_oneCell_toArray (cs := [Value.string x1, .slice k a b, .slice s c d, .string x4, .string x5]) (by
  intro u hu
  simp only [List.mem_cons, List.not_mem_nil, or_false] at hu
  rcases hu with rfl | rfl | rfl | rfl | rfl <;> rfl)
theorem added_close {lo Bs Br g cap : Nat} {pi : Option Addr} {pc : Nat} {d : Bool} {te : L} {ps : List Prd} {p : Prd} {vk vs : Value} {W W6 WF : World} {xs : List (Prd × Value × Value)} (fr : Fr (fun k => k = R) w W) (rd : RD R t wh n W l) (hR : R < lo) (hB : Bs < lo) (hB2 : Br < lo) (hRs : R ≠ Bs) (hRr : R ≠ Br) (hsr : Bs ≠ Br) (hlo : lo ≤ w.heap.size)
    (gp : GP lo 79 112 W (.slice pi ps.length pc) ps) (hbr : W.heap[Br]? = some (.cells #[ptr R] 142 (0, 0))) (hbs : W.heap[Bs]? = some (.cells #[.bool d, .string (bs te), .slice pi ps.length pc] 79 (0, 0))) (x1 : xs.map (·.1) = ps) (x3 : ∀ x ∈ xs, slP W (fun b => lo ≤ b ∧ some b ≠ (Value.slice pi ps.length pc).ownBlock) 79 112 x.2.1 x.1.kids ∧ slS W (fun b => lo ≤ b ∧ some b ≠ (Value.slice pi ps.length pc).ownBlock) 79 112 x.2.2 x.1.steps)
    (hv : slP W (fun b => lo ≤ b ∧ some b ≠ (Value.slice pi ps.length pc).ownBlock) 79 112 vk p.kids ∧ slS W (fun b => lo ≤ b ∧ some b ≠ (Value.slice pi ps.length pc).ownBlock) 79 112 vs p.steps)
    (ho : W6.ownsRow 0 112 5 (.slice (some ⟨g, 0, none⟩) (ps.length + 1) cap) (ps.length + 1) (pCells xs ++ [.string ⟨#[]⟩, .slice none 0 0, .slice none 0 0, .string ⟨#[]⟩, .string ⟨#[]⟩])) (hgr : W.grownBy W6 (Value.slice pi ps.length pc).ownBlock) (hat : (Value.slice (some ⟨g, 0, none⟩) (ps.length + 1) cap).ownBlock = (Value.slice pi ps.length pc).ownBlock ∨ (Value.slice (some ⟨g, 0, none⟩) (ps.length + 1) cap).ownBlock = some W.heap.size)
    (h1 : WF.heap[g]? = (W6.setCells g (ps.length * 5) [.string (bs p.op), vk, vs, .string (bs p.attr), .string (bs p.text)]).heap[g]?) (h2 : WF.heap[Bs]? = some (.cells #[.bool d, .string (bs te), .slice (some ⟨g, 0, none⟩) (ps.length + 1) cap] 79 (0, 0))) (h3 : ∀ b, b ≠ g → b ≠ Bs → WF.heap[b]? = W6.heap[b]?) (h4 : WF.os = W6.os ∧ WF.tape = W6.tape ∧ WF.output = W6.output ∧ WF.heap.size = W6.heap.size) :
    RD R t wh n WF l ∧ Added lo Bs Br R d te ps WF p ∧ Fr (fun k => k = R ∨ k = Bs ∨ lo ≤ k) w WF := by
  have hlen : (pCells xs).length = ps.length * 5 := by rw [pCells_len, ← x1, List.length_map]
  obtain ⟨q1, q2⟩ := owns_store (ys := [.string (bs p.op), vk, vs, .string (bs p.attr), .string (bs p.text)]) ho hlen rfl rfl
  have hglo : lo ≤ g := by
    rcases hat with e | e
    · exact gp.own g e.symm
    · have e : g = W.heap.size := Option.some.inj e
      have := fr.size; omega
  obtain ⟨r1, r2, r3, r4⟩ := setCells_rest (g := g) [.string (bs p.op), vk, vs, .string (bs p.attr), .string (bs p.text)] (ps.length * 5) W6
  have hgr7 : W.grownBy (W6.setCells g (ps.length * 5) [.string (bs p.op), vk, vs, .string (bs p.attr), .string (bs p.text)]) (Value.slice pi ps.length pc).ownBlock := by
    refine ⟨r1.trans hgr.os, r2.trans hgr.tape, r3.trans hgr.output, by rw [r4]; exact hgr.size, fun b hb hne => ?_⟩
    rw [setCells_other (fun e => ?_), hgr.block b hb hne]
    subst e
    rcases hat with e | e
    · exact hne e
    · have e2 : b = W.heap.size := Option.some.inj e
      omega
  have gp7 := gp.push (s := p) x1 x3 hv (Nat.le_trans hlo fr.size) q1 hgr7 hat
  have f7 : Fr (fun k => k = Bs) (W6.setCells g (ps.length * 5) [.string (bs p.op), vk, vs, .string (bs p.attr), .string (bs p.text)]) WF := by
    refine ⟨h4.1.trans r1.symm, h4.2.1.trans r2.symm, h4.2.2.1.trans r3.symm, by rw [r4, h4.2.2.2]; exact Nat.le_refl _, fun b hb hne => ?_⟩
    by_cases hbg : b = g
    · subst hbg; exact h1
    · rw [h3 b hbg hne, setCells_other hbg]
  have keep : ∀ b, b < lo → b ≠ Bs → b < W.heap.size → WF.heap[b]? = W.heap[b]? := fun b hb hne hl => by
    rw [h3 b (by omega) hne]
    exact hgr.block b hl (fun e => by have := gp.own b e.symm; omega)
  have gpF := gp7.fr f7 fun k e _ => by omega
  have hz : W.heap.size ≤ WF.heap.size := by rw [h4.2.2.2]; exact hgr.size
  refine ⟨⟨(keep R hR hRs rd.lt).trans rd.blk, rd.suf, rd.tw, rd.wh5, rd.n8⟩, ⟨_, _, h2, gpF, (keep Br hB2 (fun e => hsr e.symm) (blk_lt hbr)).trans hbr⟩, ?_⟩
  refine ⟨h4.1.trans (hgr.os.trans fr.os), h4.2.1.trans (hgr.tape.trans fr.tape), h4.2.2.1.trans (hgr.output.trans fr.output), Nat.le_trans fr.size hz, fun b hb hne => ?_⟩
  have hb1 : b ≠ R := fun e => hne (Or.inl e)
  have hb2 : b ≠ Bs := fun e => hne (Or.inr (Or.inl e))
  have hb3 : b < lo := by apply Nat.lt_of_not_le; exact fun e => hne (Or.inr (Or.inr e))
  rw [keep b hb3 hb2 (Nat.lt_of_lt_of_le hb fr.size), fr.block b hb hb1]
set_option maxHeartbeats 16000000 in
set_option maxRecDepth 100000 in
theorem step1_to {Bs Br lo pc : Nat} {pi : Option Addr} {d : Bool} {te : L} {ps : List Prd} {f : L → Rs Prd} {p : Prd} {l2 : L} (hc : CondOK R t wh n f) (h : RD R t wh n w l) (hs : w.heap[Bs]? = some (.cells #[.bool d, .string (bs te), .slice pi ps.length pc] 79 (0, 0))) (hr : w.heap[Br]? = some (.cells #[ptr R] 142 (0, 0))) (hg : GP lo 79 112 w (.slice pi ps.length pc) ps) (hR : R < lo) (hB : Bs < lo) (hB2 : Br < lo) (hRs : R ≠ Bs) (hRr : R ≠ Br) (hsr : Bs ≠ Br) (hlo : lo ≤ w.heap.size) (hn : ps.length ≤ 500) (hf : f l = .ok (p, l2)) : Calls Tryz.prog 118 #[ptr Bs, ptr Br] w fun e w' => e = .returned (.tuple #[]) ∧ RD R t wh n w' l2 ∧ Added lo Bs Br R d te ps w' p ∧ Fr (fun k => k = R ∨ k = Bs ∨ lo ≤ k) w w' := by
  have c0 : w.cell? ⟨Br, 0, none⟩ = some (ptr R) := cell_of hr rfl
  have hPlt : ∀ k, (Value.slice pi ps.length pc).ownBlock = some k → k < w.heap.size := fun k e => by obtain ⟨xs, _, h2, _⟩ := hg.ex; exact own_lt h2 e
  have HK : Hid (∀ W, Fr (fun k => k = R) w W → W.cell? ⟨Br, 0, none⟩ = some (ptr R) ∧ W.cell? ⟨Bs, 2, none⟩ = some (.slice pi ps.length pc) ∧ W.heap[Bs]? = some (.cells #[.bool d, .string (bs te), .slice pi ps.length pc] 79 (0, 0)) ∧ W.heap[Br]? = some (.cells #[ptr R] 142 (0, 0)) ∧ GP lo 79 112 W (.slice pi ps.length pc) ps) := fun W hW => by
    have h1 := (hW.block Br (blk_lt hr) (fun e => hRr e.symm)).trans hr
    have h2 := (hW.block Bs (blk_lt hs) (fun e => hRs e.symm)).trans hs
    exact ⟨cell_of h1 rfl, cell_of h2 rfl, h2, h1, hg.fr hW fun k e _ => by omega⟩
  have HC : Hid (∀ W, Fr (fun _ => False) w W → Calls Tryz.prog 119 #[ptr R] W (Ends R t wh n (PV (fun b => W.heap.size ≤ b) 79 112) W (.ok (p, l2)))) := fun W hW => by
    have := hc W l (h.fr hW (fun x => x)); rw [hf] at this; exact this
  have HPV : Hid (∀ W W3 v, Fr (fun _ => False) w W → PV (fun b => W.heap.size ≤ b) 79 112 W3 v p → ∃ ki nk kc si ns sc, v = .agg #[.string (bs p.op), .slice ki nk kc, .slice si ns sc, .string (bs p.attr), .string (bs p.text)] ∧ Hid (slP W3 (fun b => lo ≤ b ∧ some b ≠ (Value.slice pi ps.length pc).ownBlock) 79 112 (.slice ki nk kc) p.kids ∧ slS W3 (fun b => lo ≤ b ∧ some b ≠ (Value.slice pi ps.length pc).ownBlock) 79 112 (.slice si ns sc) p.steps)) := fun W W3 v hW hv => by
    obtain ⟨vk, vs, rfl, a1, a2⟩ := hv
    obtain ⟨ki, kc, rfl⟩ := sl.shape a1
    obtain ⟨si, sc, rfl⟩ := sl.shape a2
    have hm : Move (fun b => W.heap.size ≤ b) (fun b => lo ≤ b ∧ some b ≠ (Value.slice pi ps.length pc).ownBlock) W3 W3 := fun b ha _ => ⟨⟨Nat.le_trans (Nat.le_trans hlo hW.size) ha, fun e => by have := hPlt b e.symm; have := hW.size; omega⟩, rfl⟩
    exact ⟨ki, _, kc, si, _, sc, rfl, a1.move hm, a2.move hm⟩
  have HN : Hid (R < lo ∧ Bs < lo ∧ Br < lo ∧ R ≠ Bs ∧ R ≠ Br ∧ Bs ≠ Br ∧ lo ≤ w.heap.size) := ⟨hR, hB, hB2, hRs, hRr, hsr, hlo⟩
  have fr0 : Fr (fun _ => False) w w.drew := (Fr.refl _ w).drewN 1
  obtain ⟨i0, hi, hz0, hz1, hz2⟩ := info_parts info71
  have hi5 : (Tryz.prog.info? 112).map (·.size) = some 5 := by rw [hi]; simpa using hz1
  have hkk : (ps.length : Int) < ((ps.length + 1 : Nat) : Int) := by omega
  have hkk2 : (ps.length : Int) < (ps.length : Int) + 1 := by omega
  clear hc h hs hr hg hf hPlt
  go_enter Tryz.func118, Tryz.ntmps118
  go_wp2_with fail
  refine wp_region_held_drew (S := (fun W => W.cell? ⟨Br, 0, none⟩ = some (ptr R))) (by kernel_rfl) c0 (fun hHeld => ?_)
  generalize w.drew = W0 at *
  have fr := fr0
  clear fr0
  refine wpAnyH_take (i := 0) (v := ?_) rfl (by kernel_rfl) (by kernel_rfl) (by kernel_rfl) (fun _ _ _ h => h) (Or.inl ⟨by rfl, ?_⟩) (by assumption) ?_
  rotate_left
  · (intro w hSw; (try dsimp only at hSw); go_simp; (try with_reducible rfl))
  (try simp only [Act.put, List.setIfInBounds_toArray, List.set_cons_zero, List.set_cons_succ])
  refine wpAnyH_take (i := 2) (v := ?_) rfl (by kernel_rfl) (by kernel_rfl) (by kernel_rfl) (fun _ _ _ h => h) (Or.inl ⟨by rfl, ?_⟩) (by assumption) ?_
  rotate_left
  · (intro w hSw; (try dsimp only at hSw); go_simp; (try with_reducible rfl))
  (try simp only [Act.put, List.setIfInBounds_toArray, List.set_cons_zero, List.set_cons_succ])
  refine wpAnyH_ready (rs := [1, 3, 5]) (by kernel_rfl) (by simp) ?_
  refine AllReadyH.cons rfl (fun K hK => ?_) (AllReadyH.cons rfl (fun K hK => ?_) (AllReadyH.cons rfl (fun K hK => ?_) AllReadyH.nil))
  have c2x := (HK.out _ (by first | exact fr | exact fr.mono fun _ x => x.elim)).2.1
  go_simp
  refine hK.out _ _ hHeld (fun _ => ?_)
  clear hK K c2x
  (try simp only [Act.put, List.setIfInBounds_toArray, List.set_cons_zero, List.set_cons_succ])
  refine wpAnyH_take (i := 4) (v := ?_) rfl (by kernel_rfl) (by kernel_rfl) (by kernel_rfl) (fun _ _ _ h => h) (Or.inl ⟨by rfl, ?_⟩) (by assumption) ?_
  rotate_left
  · (intro w hSw; (try dsimp only at hSw); go_simp; (try with_reducible rfl))
  (try simp only [Act.put, List.setIfInBounds_toArray, List.set_cons_zero, List.set_cons_succ])
  refine wpAnyH_ready (rs := [3, 5]) (by kernel_rfl) (by simp) ?_
  refine AllReadyH.cons rfl (fun K hK => ?_) (AllReadyH.cons rfl (fun K hK => ?_) AllReadyH.nil)
  have hcc := HC.out _ fr
  go_simp
  refine hcc.mono ?_
  clear hcc
  rintro e W3 ⟨v, rfl, hv, rd, fr3⟩
  obtain ⟨ki, nk, kc, si, ns, sc, rfl, HV⟩ := HPV.out _ _ _ fr hv
  clear hv
  have fr : Fr (fun k => k = R) w W3 := (fr.mono (fun _ x => x.elim)).same fr3
  clear fr3
  refine hK.out _ _ (HK.out _ fr).1 (fun hHeld => ?_)
  clear hK K
  (try simp only [Act.put, List.setIfInBounds_toArray, List.set_cons_zero, List.set_cons_succ])
  refine wpAnyH_ready (rs := [5]) (by kernel_rfl) (by simp) ?_
  refine AllReadyH.cons rfl (fun K hK => ?_) AllReadyH.nil
  go_simp
  refine hK.out _ _ (cell_alloc _ hHeld) (fun hHeld => ?_)
  clear hK K
  (try simp only [Act.put, List.setIfInBounds_toArray, List.set_cons_zero, List.set_cons_succ])
  have hbk := Below_new W3 (.cells #[.string ⟨#[]⟩, .slice none 0 0, .slice none 0 0, .string ⟨#[]⟩, .string ⟨#[]⟩] 112)
  have hnl : lo ≤ W3.heap.size := Nat.le_trans hlo fr.size
  have fr := fr.alloc (.cells #[.string ⟨#[]⟩, .slice none 0 0, .slice none 0 0, .string ⟨#[]⟩, .string ⟨#[]⟩] 112)
  have rd := rd.fr ((Fr.refl (fun _ => False) W3).alloc (.cells #[.string ⟨#[]⟩, .slice none 0 0, .slice none 0 0, .string ⟨#[]⟩, .string ⟨#[]⟩] 112)) (fun x => x)
  have HV := hide (pv_alloc HV.out (.cells #[.string ⟨#[]⟩, .slice none 0 0, .slice none 0 0, .string ⟨#[]⟩, .string ⟨#[]⟩] 112))
  generalize hnb : W3.heap.size = nb at *
  generalize W3.alloc (.cells #[.string ⟨#[]⟩, .slice none 0 0, .slice none 0 0, .string ⟨#[]⟩, .string ⟨#[]⟩] 112) = W5 at *
  rotate_left 1
  go_simp
  refine hK.out _ _ (cell_alloc _ hHeld) (fun hHeld => ?_)
  clear hK K
  (try simp only [Act.put, List.setIfInBounds_toArray, List.set_cons_zero, List.set_cons_succ])
  have hbk := Below_new W0 (.cells #[.string ⟨#[]⟩, .slice none 0 0, .slice none 0 0, .string ⟨#[]⟩, .string ⟨#[]⟩] 112)
  have hnl : lo ≤ W0.heap.size := Nat.le_trans hlo fr.size
  have fr := fr.alloc (.cells #[.string ⟨#[]⟩, .slice none 0 0, .slice none 0 0, .string ⟨#[]⟩, .string ⟨#[]⟩] 112)
  generalize hnb : W0.heap.size = nb at *
  generalize W0.alloc (.cells #[.string ⟨#[]⟩, .slice none 0 0, .slice none 0 0, .string ⟨#[]⟩, .string ⟨#[]⟩] 112) = W5 at *
  refine wpAnyH_ready (rs := [3]) (by kernel_rfl) (by simp) ?_
  refine AllReadyH.cons rfl (fun K hK => ?_) AllReadyH.nil
  have hcc := HC.out _ fr
  go_simp
  refine hcc.mono ?_
  clear hcc
  rintro e W3 ⟨v, rfl, hv, rd, fr3⟩
  obtain ⟨ki, nk, kc, si, ns, sc, rfl, HV⟩ := HPV.out _ _ _ fr hv
  clear hv
  have hbk := (fr3.block nb (blk_lt hbk) (fun e => by have := HN.out; omega)).trans hbk
  have fr : Fr (fun k => k = R) w W3 := (fr.mono (fun _ x => x.elim)).same fr3
  clear fr3
  refine hK.out _ _ (HK.out _ fr).1 (fun hHeld => ?_)
  clear hK K
  (try simp only [Act.put, List.setIfInBounds_toArray, List.set_cons_zero, List.set_cons_succ])
  rotate_left 1
  have hcc := HC.out _ fr
  go_simp
  refine hcc.mono ?_
  clear hcc
  rintro e W3 ⟨v, rfl, hv, rd, fr3⟩
  obtain ⟨ki, nk, kc, si, ns, sc, rfl, HV⟩ := HPV.out _ _ _ fr hv
  clear hv
  have fr : Fr (fun k => k = R) w W3 := (fr.mono (fun _ x => x.elim)).same fr3
  clear fr3
  refine hK.out _ _ (HK.out _ fr).1 (fun hHeld => ?_)
  clear hK K
  (try simp only [Act.put, List.setIfInBounds_toArray, List.set_cons_zero, List.set_cons_succ])
  refine wpAnyH_ready (rs := [1, 5]) (by kernel_rfl) (by simp) ?_
  refine AllReadyH.cons rfl (fun K hK => ?_) (AllReadyH.cons rfl (fun K hK => ?_) AllReadyH.nil)
  have c2x := (HK.out _ (by first | exact fr | exact fr.mono fun _ x => x.elim)).2.1
  go_simp
  refine hK.out _ _ hHeld (fun _ => ?_)
  clear hK K c2x
  (try simp only [Act.put, List.setIfInBounds_toArray, List.set_cons_zero, List.set_cons_succ])
  refine wpAnyH_take (i := 4) (v := ?_) rfl (by kernel_rfl) (by kernel_rfl) (by kernel_rfl) (fun _ _ _ h => h) (Or.inl ⟨by rfl, ?_⟩) (by assumption) ?_
  rotate_left
  · (intro w hSw; (try dsimp only at hSw); go_simp; (try with_reducible rfl))
  (try simp only [Act.put, List.setIfInBounds_toArray, List.set_cons_zero, List.set_cons_succ])
  refine wpAnyH_ready (rs := [5]) (by kernel_rfl) (by simp) ?_
  refine AllReadyH.cons rfl (fun K hK => ?_) AllReadyH.nil
  go_simp
  refine hK.out _ _ (cell_alloc _ hHeld) (fun hHeld => ?_)
  clear hK K
  (try simp only [Act.put, List.setIfInBounds_toArray, List.set_cons_zero, List.set_cons_succ])
  have hbk := Below_new W3 (.cells #[.string ⟨#[]⟩, .slice none 0 0, .slice none 0 0, .string ⟨#[]⟩, .string ⟨#[]⟩] 112)
  have hnl : lo ≤ W3.heap.size := Nat.le_trans hlo fr.size
  have fr := fr.alloc (.cells #[.string ⟨#[]⟩, .slice none 0 0, .slice none 0 0, .string ⟨#[]⟩, .string ⟨#[]⟩] 112)
  have rd := rd.fr ((Fr.refl (fun _ => False) W3).alloc (.cells #[.string ⟨#[]⟩, .slice none 0 0, .slice none 0 0, .string ⟨#[]⟩, .string ⟨#[]⟩] 112)) (fun x => x)
  have HV := hide (pv_alloc HV.out (.cells #[.string ⟨#[]⟩, .slice none 0 0, .slice none 0 0, .string ⟨#[]⟩, .string ⟨#[]⟩] 112))
  generalize hnb : W3.heap.size = nb at *
  generalize W3.alloc (.cells #[.string ⟨#[]⟩, .slice none 0 0, .slice none 0 0, .string ⟨#[]⟩, .string ⟨#[]⟩] 112) = W5 at *
  rotate_left 1
  go_simp
  refine hK.out _ _ (cell_alloc _ hHeld) (fun hHeld => ?_)
  clear hK K
  (try simp only [Act.put, List.setIfInBounds_toArray, List.set_cons_zero, List.set_cons_succ])
  have hbk := Below_new W3 (.cells #[.string ⟨#[]⟩, .slice none 0 0, .slice none 0 0, .string ⟨#[]⟩, .string ⟨#[]⟩] 112)
  have hnl : lo ≤ W3.heap.size := Nat.le_trans hlo fr.size
  have fr := fr.alloc (.cells #[.string ⟨#[]⟩, .slice none 0 0, .slice none 0 0, .string ⟨#[]⟩, .string ⟨#[]⟩] 112)
  have rd := rd.fr ((Fr.refl (fun _ => False) W3).alloc (.cells #[.string ⟨#[]⟩, .slice none 0 0, .slice none 0 0, .string ⟨#[]⟩, .string ⟨#[]⟩] 112)) (fun x => x)
  have HV := hide (pv_alloc HV.out (.cells #[.string ⟨#[]⟩, .slice none 0 0, .slice none 0 0, .string ⟨#[]⟩, .string ⟨#[]⟩] 112))
  generalize hnb : W3.heap.size = nb at *
  generalize W3.alloc (.cells #[.string ⟨#[]⟩, .slice none 0 0, .slice none 0 0, .string ⟨#[]⟩, .string ⟨#[]⟩] 112) = W5 at *
  refine wpAnyH_ready (rs := [1]) (by kernel_rfl) (by simp) ?_
  refine AllReadyH.cons rfl (fun K hK => ?_) AllReadyH.nil
  have c2x := (HK.out _ (by first | exact fr | exact fr.mono fun _ x => x.elim)).2.1
  go_simp
  refine hK.out _ _ hHeld (fun _ => ?_)
  clear hK K c2x
  (try simp only [Act.put, List.setIfInBounds_toArray, List.set_cons_zero, List.set_cons_succ])
  refine wpAnyH_take (i := 4) (v := ?_) rfl (by kernel_rfl) (by kernel_rfl) (by kernel_rfl) (fun _ _ _ h => h) (Or.inl ⟨by rfl, ?_⟩) (by assumption) ?_
  rotate_left
  · (intro w hSw; (try dsimp only at hSw); go_simp; (try with_reducible rfl))
  (try simp only [Act.put, List.setIfInBounds_toArray, List.set_cons_zero, List.set_cons_succ])
  rotate_left 1
  go_simp
  refine hK.out _ _ (cell_alloc _ hHeld) (fun hHeld => ?_)
  clear hK K
  (try simp only [Act.put, List.setIfInBounds_toArray, List.set_cons_zero, List.set_cons_succ])
  have hbk := Below_new W0 (.cells #[.string ⟨#[]⟩, .slice none 0 0, .slice none 0 0, .string ⟨#[]⟩, .string ⟨#[]⟩] 112)
  have hnl : lo ≤ W0.heap.size := Nat.le_trans hlo fr.size
  have fr := fr.alloc (.cells #[.string ⟨#[]⟩, .slice none 0 0, .slice none 0 0, .string ⟨#[]⟩, .string ⟨#[]⟩] 112)
  generalize hnb : W0.heap.size = nb at *
  generalize W0.alloc (.cells #[.string ⟨#[]⟩, .slice none 0 0, .slice none 0 0, .string ⟨#[]⟩, .string ⟨#[]⟩] 112) = W5 at *
  refine wpAnyH_ready (rs := [1, 3]) (by kernel_rfl) (by simp) ?_
  refine AllReadyH.cons rfl (fun K hK => ?_) (AllReadyH.cons rfl (fun K hK => ?_) AllReadyH.nil)
  have c2x := (HK.out _ (by first | exact fr | exact fr.mono fun _ x => x.elim)).2.1
  go_simp
  refine hK.out _ _ hHeld (fun _ => ?_)
  clear hK K c2x
  (try simp only [Act.put, List.setIfInBounds_toArray, List.set_cons_zero, List.set_cons_succ])
  refine wpAnyH_take (i := 4) (v := ?_) rfl (by kernel_rfl) (by kernel_rfl) (by kernel_rfl) (fun _ _ _ h => h) (Or.inl ⟨by rfl, ?_⟩) (by assumption) ?_
  rotate_left
  · (intro w hSw; (try dsimp only at hSw); go_simp; (try with_reducible rfl))
  (try simp only [Act.put, List.setIfInBounds_toArray, List.set_cons_zero, List.set_cons_succ])
  refine wpAnyH_ready (rs := [3]) (by kernel_rfl) (by simp) ?_
  refine AllReadyH.cons rfl (fun K hK => ?_) AllReadyH.nil
  have hcc := HC.out _ fr
  go_simp
  refine hcc.mono ?_
  clear hcc
  rintro e W3 ⟨v, rfl, hv, rd, fr3⟩
  obtain ⟨ki, nk, kc, si, ns, sc, rfl, HV⟩ := HPV.out _ _ _ fr hv
  clear hv
  have hbk := (fr3.block nb (blk_lt hbk) (fun e => by have := HN.out; omega)).trans hbk
  have fr : Fr (fun k => k = R) w W3 := (fr.mono (fun _ x => x.elim)).same fr3
  clear fr3
  refine hK.out _ _ (HK.out _ fr).1 (fun hHeld => ?_)
  clear hK K
  (try simp only [Act.put, List.setIfInBounds_toArray, List.set_cons_zero, List.set_cons_succ])
  rotate_left 1
  have hcc := HC.out _ fr
  go_simp
  refine hcc.mono ?_
  clear hcc
  rintro e W3 ⟨v, rfl, hv, rd, fr3⟩
  obtain ⟨ki, nk, kc, si, ns, sc, rfl, HV⟩ := HPV.out _ _ _ fr hv
  clear hv
  have hbk := (fr3.block nb (blk_lt hbk) (fun e => by have := HN.out; omega)).trans hbk
  have fr : Fr (fun k => k = R) w W3 := (fr.mono (fun _ x => x.elim)).same fr3
  clear fr3
  refine hK.out _ _ (HK.out _ fr).1 (fun hHeld => ?_)
  clear hK K
  (try simp only [Act.put, List.setIfInBounds_toArray, List.set_cons_zero, List.set_cons_succ])
  refine wpAnyH_ready (rs := [1]) (by kernel_rfl) (by simp) ?_
  refine AllReadyH.cons rfl (fun K hK => ?_) AllReadyH.nil
  have c2x := (HK.out _ (by first | exact fr | exact fr.mono fun _ x => x.elim)).2.1
  go_simp
  refine hK.out _ _ hHeld (fun _ => ?_)
  clear hK K c2x
  (try simp only [Act.put, List.setIfInBounds_toArray, List.set_cons_zero, List.set_cons_succ])
  refine wpAnyH_take (i := 4) (v := ?_) rfl (by kernel_rfl) (by kernel_rfl) (by kernel_rfl) (fun _ _ _ h => h) (Or.inl ⟨by rfl, ?_⟩) (by assumption) ?_
  rotate_left
  · (intro w hSw; (try dsimp only at hSw); go_simp; (try with_reducible rfl))
  (try simp only [Act.put, List.setIfInBounds_toArray, List.set_cons_zero, List.set_cons_succ])
  rotate_left 1
  all_goals
    obtain ⟨-, -, hbs, hbr, gp⟩ := HK.out _ fr
    obtain ⟨xs, x1, x2, x3⟩ := gp.ex
    have X3 := hide x3
    have GPH := hide gp
    clear x3 gp
    refine wpAnyH_ready (rs := [6]) (by kernel_rfl) (by simp) ?_
    refine AllReadyH.cons rfl (fun K hK => ?_) AllReadyH.nil
    refine step_own_at rfl (.tmp 3) (.tmp 7) 77 rfl 112 i0 _ 5 96 Tryz.underlying77 hi hz0 hz1 hz2 rfl (by decide) (.slice pi ps.length pc) ps.length (pCells xs) (by simp [Act.eval]) x2 ⟨nb, 0, none⟩ 1 1 [.string ⟨#[]⟩, .slice none 0 0, .slice none 0 0, .string ⟨#[]⟩, .string ⟨#[]⟩] (by simp [Act.eval]) rfl (z5_news hbk) z5_one (by unfold maxLen; omega) (by omega) ?_
    intro v' W6 ho hgr hat
    obtain ⟨g, cap, rfl⟩ := own_some ho
    have hrow : ∀ b, b < lo → b < W3.heap.size ∨ True → some b ≠ (Value.slice pi ps.length pc).ownBlock := fun b hb _ e => by have := GPH.out.own b e.symm; omega
    have b6r := (hgr.block Br (blk_lt hbr) (hrow Br HN.out.2.2.1 (Or.inr trivial))).trans hbr
    have b6s := (hgr.block Bs (blk_lt hbs) (hrow Bs HN.out.2.1 (Or.inr trivial))).trans hbs
    refine hK.out _ _ (cell_of b6r rfl) (fun hHeld => ?_)
    clear hK K
    (try simp only [Act.put, List.setIfInBounds_toArray, List.set_cons_zero, List.set_cons_succ])
    refine wpAnyH_take (i := 7) (v := ?_) rfl (by kernel_rfl) (by kernel_rfl) (by kernel_rfl) (fun _ _ _ h => h) (Or.inl ⟨by rfl, ?_⟩) (by assumption) ?_
    rotate_left
    · (intro w hSw; (try dsimp only at hSw); go_simp; (try with_reducible rfl))
    (try simp only [Act.put, List.setIfInBounds_toArray, List.set_cons_zero, List.set_cons_succ])
    refine wpAnyH_take (i := 9) (v := ?_) rfl (by kernel_rfl) (by kernel_rfl) (by kernel_rfl) (fun _ _ _ h => h) (Or.inl ⟨by rfl, ?_⟩) (by assumption) ?_
    rotate_left
    · (intro w hSw; (try dsimp only at hSw); go_simp; (try with_reducible rfl))
    (try simp only [Act.put, List.setIfInBounds_toArray, List.set_cons_zero, List.set_cons_succ])
    have hlen : (pCells xs).length = ps.length * 5 := by rw [pCells_len, ← x1, List.length_map]
    have hth : W6.there g (ps.length * 5) 5 := (owns_store (ys := [.string (bs p.op), .slice ki nk kc, .slice si ns sc, .string (bs p.attr), .string (bs p.text)]) ho hlen rfl rfl).2
    have hgs : g ≠ Bs := fun e => by
      have : lo ≤ g := by
        rcases hat with e | e
        · exact GPH.out.own g e.symm
        · have e2 : g = _ := Option.some.inj e
          have := fr.size; have := HN.out; omega
      have := HN.out; omega
    have hgR : g ≠ Br := fun e => by
      have : lo ≤ g := by
        rcases hat with e | e
        · exact GPH.out.own g e.symm
        · have e2 : g = _ := Option.some.inj e
          have := fr.size; have := HN.out; omega
      have := HN.out; omega
    have HCL : Hid (∀ WF, WF.heap[g]? = (W6.setCells g (ps.length * 5) [.string (bs p.op), .slice ki nk kc, .slice si ns sc, .string (bs p.attr), .string (bs p.text)]).heap[g]? → WF.heap[Bs]? = some (.cells #[.bool d, .string (bs te), .slice (some ⟨g, 0, none⟩) (ps.length + 1) cap] 79 (0, 0)) → (∀ b, b ≠ g → b ≠ Bs → WF.heap[b]? = W6.heap[b]?) → (WF.os = W6.os ∧ WF.tape = W6.tape ∧ WF.output = W6.output ∧ WF.heap.size = W6.heap.size) → RD R t wh n WF l2 ∧ Added lo Bs Br R d te ps WF p ∧ Fr (fun k => k = R ∨ k = Bs ∨ lo ≤ k) w WF) := fun WF h1 h2 h3 h4 => by
      obtain ⟨n1, n2, n3, n4, n5, n6, n7⟩ := HN.out
      exact added_close fr rd n1 n2 n3 n4 n5 n6 n7 GPH.out hbr hbs x1 X3.out HV.out ho hgr hat h1 h2 h3 h4
    have HO := hide ho
    clear ho hgr hat hrow hlen x1 x2 hbr hbs hkk hkk2
    refine wpAnyH_ready (rs := [8, 10]) (by kernel_rfl) (by simp) ?_
    refine AllReadyH.cons rfl (fun K hK => ?_) (AllReadyH.cons rfl (fun K hK => ?_) AllReadyH.nil)
    · refine step_store_mid rfl 112 (.tmp 9) (.tmp 5) rfl g (ps.length * 5) #[.string (bs p.op), .slice ki nk kc, .slice si ns sc, .string (bs p.attr), .string (bs p.text)] (by simp [Act.eval]) (by simp [Act.eval]) hth hi5 (one5 _ _ _ _ _ _ _ _ _) ?_
      have b7r := (setCells_other (fun e => hgR e.symm) [.string (bs p.op), .slice ki nk kc, .slice si ns sc, .string (bs p.attr), .string (bs p.text)] (ps.length * 5) W6).trans b6r
      have b7s := (setCells_other (fun e => hgs e.symm) [.string (bs p.op), .slice ki nk kc, .slice si ns sc, .string (bs p.attr), .string (bs p.text)] (ps.length * 5) W6).trans b6s
      have H7 := setCells_rest (g := g) [.string (bs p.op), .slice ki nk kc, .slice si ns sc, .string (bs p.attr), .string (bs p.text)] (ps.length * 5) W6
      have H8 := hide (fun b (hb : b ≠ g) => setCells_other hb [.string (bs p.op), .slice ki nk kc, .slice si ns sc, .string (bs p.attr), .string (bs p.text)] (ps.length * 5) W6)
      have H7 := hide H7
      refine hK.out _ _ (cell_of b7r rfl) (fun hHeld => ?_)
      clear hK K
      (try simp only [Act.put, List.setIfInBounds_toArray, List.set_cons_zero, List.set_cons_succ])
      generalize W6.setCells g (ps.length * 5) [.string (bs p.op), .slice ki nk kc, .slice si ns sc, .string (bs p.attr), .string (bs p.text)] = W7 at *
      refine wpAnyH_ready (rs := [10]) (by kernel_rfl) (by simp) ?_
      refine AllReadyH.cons rfl (fun K hK => ?_) AllReadyH.nil
      have c7 := cell_of (i := 2) b7s rfl
      have f7 := free_of (i := 2) b7s
      go_simp
      have b8r := (Below.heap_setCell W7 ⟨Bs, 2, none⟩ (.slice (some ⟨g, 0, none⟩) (ps.length + 1) cap) Br (fun e => HN.out.2.2.2.2.2.1 e.symm)).trans b7r
      refine hK.out _ _ (cell_of b8r rfl) (fun hHeld => ?_)
      clear hK K
      refine wpAnyH_done (by kernel_rfl) ?_ _
      obtain ⟨q1, q2, q3⟩ := HCL.out (W7.setCell ⟨Bs, 2, none⟩ (.slice (some ⟨g, 0, none⟩) (ps.length + 1) cap)) (Below.heap_setCell _ _ _ _ hgs) (set_of b7s _) (fun b h1 h2 => (Below.heap_setCell _ _ _ _ h2).trans (H8.out b h1)) ⟨H7.out.1, H7.out.2.1, H7.out.2.2.1, by rw [← H7.out.2.2.2]; simp [World.setCell]⟩
      go_end0
      exact ⟨rfl, q1, q2, q3⟩
    · have c7 := cell_of (i := 2) b6s rfl
      have f7 := free_of (i := 2) b6s
      go_simp
      have b8r := (Below.heap_setCell W6 ⟨Bs, 2, none⟩ (.slice (some ⟨g, 0, none⟩) (ps.length + 1) cap) Br (fun e => HN.out.2.2.2.2.2.1 e.symm)).trans b6r
      have b8s := set_of (i := 2) b6s (.slice (some ⟨g, 0, none⟩) (ps.length + 1) cap)
      have b8g := Below.heap_setCell W6 ⟨Bs, 2, none⟩ (.slice (some ⟨g, 0, none⟩) (ps.length + 1) cap) g hgs
      have H8 := hide (fun b (hb : b ≠ Bs) => Below.heap_setCell W6 ⟨Bs, 2, none⟩ (.slice (some ⟨g, 0, none⟩) (ps.length + 1) cap) b hb)
      have ht8 : (W6.setCell ⟨Bs, 2, none⟩ (.slice (some ⟨g, 0, none⟩) (ps.length + 1) cap)).there g (ps.length * 5) 5 := fun j hj => by
        have e1 : (W6.setCell ⟨Bs, 2, none⟩ (.slice (some ⟨g, 0, none⟩) (ps.length + 1) cap)).cell? ⟨g, ps.length * 5 + j, none⟩ = W6.cell? ⟨g, ps.length * 5 + j, none⟩ := World.cell?_of_block b8g
        obtain ⟨cur, hcur⟩ := owns_blk HO.out (k := g) rfl
        exact ⟨by rw [e1]; exact (hth j hj).1, free_of (b8g.trans hcur)⟩
      have h8z : Hid ((W6.setCell ⟨Bs, 2, none⟩ (.slice (some ⟨g, 0, none⟩) (ps.length + 1) cap)).heap.size = W6.heap.size) := by simp [World.setCell, Hid]
      have h8o : Hid ((W6.setCell ⟨Bs, 2, none⟩ (.slice (some ⟨g, 0, none⟩) (ps.length + 1) cap)).os = W6.os ∧ (W6.setCell ⟨Bs, 2, none⟩ (.slice (some ⟨g, 0, none⟩) (ps.length + 1) cap)).tape = W6.tape ∧ (W6.setCell ⟨Bs, 2, none⟩ (.slice (some ⟨g, 0, none⟩) (ps.length + 1) cap)).output = W6.output) := ⟨rfl, rfl, rfl⟩
      refine hK.out _ _ (cell_of b8r rfl) (fun hHeld => ?_)
      clear hK K
      (try simp only [Act.put, List.setIfInBounds_toArray, List.set_cons_zero, List.set_cons_succ])
      generalize W6.setCell ⟨Bs, 2, none⟩ (.slice (some ⟨g, 0, none⟩) (ps.length + 1) cap) = W8 at *
      refine wpAnyH_ready (rs := [8]) (by kernel_rfl) (by simp) ?_
      refine AllReadyH.cons rfl (fun K hK => ?_) AllReadyH.nil
      refine step_store_mid rfl 112 (.tmp 9) (.tmp 5) rfl g (ps.length * 5) #[.string (bs p.op), .slice ki nk kc, .slice si ns sc, .string (bs p.attr), .string (bs p.text)] (by simp [Act.eval]) (by simp [Act.eval]) ht8 hi5 (one5 _ _ _ _ _ _ _ _ _) ?_
      have H9 := setCells_rest (g := g) [.string (bs p.op), .slice ki nk kc, .slice si ns sc, .string (bs p.attr), .string (bs p.text)] (ps.length * 5) W8
      have b9r := (setCells_other (fun e => hgR e.symm) [.string (bs p.op), .slice ki nk kc, .slice si ns sc, .string (bs p.attr), .string (bs p.text)] (ps.length * 5) W8).trans b8r
      have b9s := (setCells_other (fun e => hgs e.symm) [.string (bs p.op), .slice ki nk kc, .slice si ns sc, .string (bs p.attr), .string (bs p.text)] (ps.length * 5) W8).trans b8s
      refine hK.out _ _ (cell_of b9r rfl) (fun hHeld => ?_)
      clear hK K
      refine wpAnyH_done (by kernel_rfl) ?_ _
      obtain ⟨q1, q2, q3⟩ := HCL.out (W8.setCells g (ps.length * 5) [.string (bs p.op), .slice ki nk kc, .slice si ns sc, .string (bs p.attr), .string (bs p.text)]) (setCells_same _ _ _ _ b8g) b9s (fun b h1 h2 => (setCells_other h1 _ _ _).trans (H8.out b h2)) ⟨H9.1.trans h8o.out.1, H9.2.1.trans h8o.out.2.1, H9.2.2.1.trans h8o.out.2.2, H9.2.2.2.trans h8z.out⟩
      go_end0
      exact ⟨rfl, q1, q2, q3⟩
end Go.Proofs.YtoahlnmhjinneaaGreatDoor

set_option linter.unusedSimpArgs false
set_option linter.unusedVariables false
namespace Go.Proofs.YtoahlnmhjinneaaGreatDoor
open Go.RowKit Go.Maps Go.Lib
variable {w w' w1 w2 : World} {F G : Nat → Prop} {R : Nat} {t l l' : L} {wh n : Nat} {inn : Option (L → Rs Prd)}
def InOK (R : Nat) (t : L) (wh n : Nat) (inn : Option (L → Rs Prd)) : Prop := (inn = none ∧ n = 8) ∨ ∃ f, inn = some f ∧ n < 8 ∧ (∀ l, Suf l (f l)) ∧ CondOK R t wh (n + 1) f
theorem InOK.suf (h : InOK R t wh n inn) : SufI inn := by
  rcases h with ⟨rfl, _⟩ | ⟨f, rfl, _, hs, _⟩
  · intro f e; cases e
  · intro g e; cases e; exact hs
theorem enters53 : ∀ args w, (callFunc 118 args).run Tryz.prog w = .ok (.enter 118 args) w := enters_of Tryz.func118 (by kernel_rfl) rfl
theorem within_step {Bs Br lo pc : Nat} {pi : Option Addr} {d : Bool} {te : L} {ps : List Prd} (hi : InOK R t wh n inn) (h : RD R t wh n w l) (hs : w.heap[Bs]? = some (.cells #[.bool d, .string (bs te), .slice pi ps.length pc] 79 (0, 0))) (hr : w.heap[Br]? = some (.cells #[ptr R] 142 (0, 0))) (hg : GP lo 79 112 w (.slice pi ps.length pc) ps) (hR : R < lo) (hB : Bs < lo) (hB2 : Br < lo) (hRs : R ≠ Bs) (hRr : R ≠ Br) (hsr : Bs ≠ Br) (hlo : lo ≤ w.heap.size) (hn : ps.length ≤ 500) :
    Calls Tryz.prog 117 #[ptr R, .string ⟨#[91]⟩, .string ⟨#[93]⟩, .func (.func 118) #[] #[ptr Bs, ptr Br]] w (Lays R t wh n (fun k => k = R ∨ k = Bs ∨ lo ≤ k) (Added lo Bs Br R d te ps) w (within (cutB t wh) inn [91] [93] l)) := by
  rcases hi with ⟨rfl, rfl⟩ | ⟨f, rfl, hn8, hsf, hc⟩
  · exact (within_deep (o := [91]) (s := [93]) h).mono fun e w' x => ⟨x.1, x.2.mono fun k e => Or.inl e⟩
  · refine within_ok (o := [91]) (s := [93]) (k := 118) h hn8 (Or.inl rfl) enters53 (fun W l1 _ rd fr => ?_) (fun W W' p hx fr => ?_)
    · have hs' := (fr.block Bs (blk_lt hs) (fun e => hRs e.symm)).trans hs
      have hr' := (fr.block Br (blk_lt hr) (fun e => hRr e.symm)).trans hr
      have hg' := hg.fr fr fun k e _ => by omega
      have fr' : Fr (fun k => k = R ∨ k = Bs ∨ lo ≤ k) w W := fr.mono fun k e => Or.inl e
      cases hf : f l1 with
      | error y => exact (step1_er (F := fun k => k = R ∨ k = Bs ∨ lo ≤ k) hc rd hs' hr' hg' hR hB hB2 hRs hRr hsr (Nat.le_trans hlo fr.size) hn hf fun k e => Or.inl e).mono fun e w' x => ⟨x.1, fr'.same x.2⟩
      | ok z => exact (step1_to hc rd hs' hr' hg' hR hB hB2 hRs hRr hsr (Nat.le_trans hlo fr.size) hn (p := z.1) (l2 := z.2) hf).mono fun e w' x => ⟨x.1, x.2.1, x.2.2.1, fr'.same x.2.2.2⟩
    · obtain ⟨pi, pc, a1, a2, a3⟩ := hx
      exact ⟨pi, pc, (fr.block Bs (blk_lt a1) (fun e => hRs e.symm)).trans a1, a2.fr fr (fun k e _ => by omega), (fr.block Br (blk_lt a3) (fun e => hRr e.symm)).trans a3⟩
theorem Fr.restrict {F G : Nat → Prop} (h : Fr F w w') (hk : ∀ k, k < w.heap.size → F k → G k) : Fr G w w' := ⟨h.os, h.tape, h.output, h.size, fun k hl hg => h.block k hl (fun x => hg (hk k hl x))⟩
def mea (R : Nat) (t : L) (W : World) : Nat := t.length - (RowKit.intOf ((W.cell? ⟨R, 2, none⟩).getD (.int .i64 0))).toNat
theorem RD.mea (h : RD R t wh n w l) : mea R t w = l.length := by
  have c2 : w.cell? ⟨R, 2, none⟩ = some (.int .i64 ((t.length - l.length : Nat) : Int)) := cell_of h.blk rfl
  have := h.le
  unfold Proofs.YtoahlnmhjinneaaGreatDoor.mea
  rw [c2]
  simp [RowKit.intOf]
  omega
theorem thn_thn {α β γ : Type} (x : Rs α) (f : α → L → Rs β) (g : β → L → Rs γ) : thn (thn x f) g = thn x fun a l => thn (f a l) g := by
  cases x with
  | error y => rfl
  | ok z => rfl
theorem box3 {b : Nat} {x y z : Value} {ty : TypeId} (a c e : Value) (h : w.heap[b]? = some (.cells #[x, y, z] ty (0, 0))) : ∃ W, ((w.setCell ⟨b, 0, none⟩ a).setCell ⟨b, 1, none⟩ c).setCell ⟨b, 2, none⟩ e = W ∧ W.heap[b]? = some (.cells #[a, c, e] ty (0, 0)) ∧ Fr (fun k => k = b) w W :=
  ⟨_, rfl, set_of (i := 2) (set_of (i := 1) (set_of (i := 0) h a) c) e, (((Fr.refl (fun k => k = b) w).set ⟨b, 0, none⟩ a (fun _ => rfl)).set ⟨b, 1, none⟩ c (fun _ => rfl)).set ⟨b, 2, none⟩ e (fun _ => rfl)⟩
theorem preds_end {cut : Bool} {fu : Nat} (hp : part l ≠ [91]) : preds cut inn fu l = .ok ([], l) := by
  cases fu with
  | zero => rfl
  | succ f => unfold preds; rw [if_neg hp]
structure LI (R : Nat) (t : L) (wh n : Nat) (inn : Option (L → Rs Prd)) (w : World) (Bs : Nat) (d : Bool) (te : L) (l1 : L) (wr : World) (ps : List Prd) (lc : L) (pi : Option Addr) (pc : Nat) : Prop where
  rd : RD R t wh n wr lc
  bs_ : wr.heap[Bs]? = some (.cells #[.bool d, .string (bs te), .slice pi ps.length pc] 79 (0, 0))
  br : wr.heap[w.heap.size]? = some (.cells #[ptr R] 142 (0, 0))
  bq : wr.heap[w.heap.size + 1]? = some (.cells #[.bool false, .string ⟨#[]⟩, .slice none 0 0] 79 (0, 0))
  gp : GP (Bs + 1) 79 112 wr (.slice pi ps.length pc) ps
  fr : Fr (fun k => k = R ∨ w.heap.size ≤ k) w wr
  lo : w.heap.size + 1 < Bs
  eq : ∃ fu, lc.length < fu ∧ preds (cutB t wh) inn (l1.length + 1) l1 = thn (preds (cutB t wh) inn fu lc) fun qs l => .ok (ps ++ qs, l)
  sm : ps.length + lc.length ≤ 500
  nl : ps = [] → (Value.slice pi ps.length pc) = nilS
theorem LI.next {Bs : Nat} {d : Bool} {te l1 lc l2 : L} {wr w2 : World} {ps : List Prd} {pi : Option Addr} {pc : Nat} {p : Prd} (hR : R < w.heap.size) (hi : InOK R t wh n inn) (h : LI R t wh n inn w Bs d te l1 wr ps lc pi pc) (hp : part lc = [91]) (hw : within (cutB t wh) inn [91] [93] lc = .ok (p, l2)) (rd : RD R t wh n w2 l2) (ha : Added (Bs + 1) Bs w.heap.size R d te ps w2 p) (fr : Fr (fun k => k = R ∨ k = Bs ∨ Bs + 1 ≤ k) wr w2) :
    (∃ pi pc, LI R t wh n inn w Bs d te l1 w2 (ps ++ [p]) l2 pi pc) ∧ l2.length < lc.length := by
  obtain ⟨pi', pc', a1, a2, a3⟩ := ha
  obtain ⟨fu, e1, e2⟩ := h.eq
  have hlt := within_lt hi.suf (by decide) hw
  have hlo := h.lo
  refine ⟨⟨pi', pc', rd, by simpa using a1, a3, (fr.block _ (blk_lt h.bq) (by omega)).trans h.bq, by simpa using a2, h.fr.trans fr (fun i hi x => by omega), h.lo, ?_, by have := h.sm; simp; omega, fun e => by simp at e⟩, hlt⟩
  cases fu with
  | zero => omega
  | succ fu =>
    refine ⟨fu, by omega, ?_⟩
    rw [e2]
    conv => lhs; rw [preds, if_pos hp, hw]
    simp only [thn, thn_thn]
    cases preds (cutB t wh) inn fu l2 with
    | error y => rfl
    | ok z => simp
theorem LI.er {Bs : Nat} {d : Bool} {te l1 lc : L} {wr : World} {ps : List Prd} {pi : Option Addr} {pc : Nat} {y : Nat × Nat} (h : LI R t wh n inn w Bs d te l1 wr ps lc pi pc) (hp : part lc = [91]) (hw : within (cutB t wh) inn [91] [93] lc = .error y) : preds (cutB t wh) inn (l1.length + 1) l1 = .error y := by
  obtain ⟨fu, e1, e2⟩ := h.eq
  cases fu with
  | zero => omega
  | succ fu => rw [e2, preds, if_pos hp, hw]; rfl
theorem LI.out {Bs : Nat} {d : Bool} {te l1 lc : L} {wr : World} {ps : List Prd} {pi : Option Addr} {pc : Nat} (h : LI R t wh n inn w Bs d te l1 wr ps lc pi pc) (hp : part lc ≠ [91]) : preds (cutB t wh) inn (l1.length + 1) l1 = .ok (ps, lc) := by
  obtain ⟨fu, e1, e2⟩ := h.eq
  rw [e2, preds_end hp]; simp [thn]
theorem LI.last {Bs : Nat} {d : Bool} {te l1 lc : L} {wr : World} {ps : List Prd} {pi : Option Addr} {pc : Nat} (hR : R < w.heap.size) (h : LI R t wh n inn w Bs d te l1 wr ps lc pi pc) (hp : part lc ≠ [91]) {w5 : World} (fr : Fr (fun k => k = w.heap.size + 1) wr w5) :
    ∃ v, .agg #[.bool d, .string (bs te), .slice pi ps.length pc] = v ∧ SV (fun b => w.heap.size ≤ b) 79 112 w5 v ⟨d, te, Prds.of ps⟩ ∧ RD R t wh n w5 lc ∧ Fr (fun k => k = R) w w5 := by
  have hlo := h.lo
  have g5 := (h.gp.fr fr fun k e _ => by omega).done (by have := h.sm; omega) h.nl
  exact ⟨_, rfl, ⟨_, rfl, g5.move fun b hb _ => ⟨by omega, rfl⟩⟩, h.rd.fr fr (by omega), (h.fr.trans fr (fun i hi x => by omega)).trans (G := fun _ => False) (Fr.refl _ _) (fun _ _ x => x.elim) |>.restrict (fun k hk x => by omega)⟩
set_option maxHeartbeats 8000000 in
set_option maxRecDepth 100000 in
theorem step_ok (d : Bool) (hi : InOK R t wh n inn) (h : RD R t wh n w l) : Calls Tryz.prog 91 #[ptr R, .bool d] w (Ends R t wh n (SV (fun b => w.heap.size ≤ b) 79 112) w (step (cutB t wh) inn d l)) := by
  have HT : Hid (∀ W, Below w.heap.size w W → Calls Tryz.prog 116 #[ptr R] W (Ends R t wh n VS W (test (cutB t wh) l))) := fun W hW => test_ok (h.below hW)
  have HB : Hid (∀ o1 o2, Below w.heap.size w ((w.alloc o1).alloc o2)) := fun o1 o2 => ((Below.refl _ w).alloc (Nat.le_refl _) o1).alloc (by simp) o2
  unfold step
  cases hx : test (cutB t wh) l with
  | error y =>
    rw [hx] at HT
    simp only [thn]
    clear hx h
    go_enter Tryz.func91, Tryz.ntmps91
    go_wp2_with (first | (go_at_call 116; refine (HT.out _ (HB.out _ _)).mono ?_; rintro e w2 ⟨rfl, fr⟩))
    exact ⟨rfl, rfl, (Fr.below (HB.out _ _)).same fr⟩
  | ok z =>
    obtain ⟨te, l1⟩ := z
    rw [hx] at HT
    have hR := h.lt
    have hsm : l1.length ≤ 500 := by have := (test_suf l te l1 hx).length_le; have := h.le; have := h.tw; have := h.wh5; omega
    have HL : Hid (∀ w2, RD R t wh n w2 l1 → Fr (fun k => k = R) ((w.alloc (.cells #[ptr R] 142)).alloc (.cells #[.bool false, .string ⟨#[]⟩, .slice none 0 0] 79)) w2 → LI R t wh n inn w w2.heap.size d te l1 (w2.alloc (.cells #[.bool d, .string (bs te), .slice none 0 0] 79)) [] l1 none 0) := fun w2 rd fr => by
      have hz : w.heap.size + 2 ≤ w2.heap.size := by have := fr.size; simp at this; omega
      have f1 : Fr (fun _ => False) w2 (w2.alloc (.cells #[.bool d, .string (bs te), .slice none 0 0] 79)) := (Fr.refl _ _).alloc _
      have q1 : w2.heap[w.heap.size]? = some (.cells #[ptr R] 142 (0, 0)) := by
        rw [fr.block w.heap.size (by simp; omega) (by omega), Below.heap_alloc _ _ _ (by simp)]; exact Below_new _ _
      have q2 : w2.heap[w.heap.size + 1]? = some (.cells #[.bool false, .string ⟨#[]⟩, .slice none 0 0] 79 (0, 0)) := by
        rw [fr.block (w.heap.size + 1) (by simp) (by omega)]
        have := Below_new (w.alloc (.cells #[ptr R] 142)) (.cells #[.bool false, .string ⟨#[]⟩, .slice none 0 0] 79)
        simpa using this
      exact ⟨rd.fr f1 (fun x => x), Below_new _ _, (Below.heap_alloc _ _ _ (by omega)).trans q1, (Below.heap_alloc _ _ _ (by omega)).trans q2, GP.zero, (((Fr.below (HB.out _ _)).same fr).alloc _).mono (fun k e => Or.inl e), by omega, ⟨l1.length + 1, by omega, by
        cases preds (cutB t wh) inn (l1.length + 1) l1 with
        | error y => rfl
        | ok z => rfl⟩, by simpa using hsm, fun _ => rfl⟩
    have HI := hide hi
    simp only [thn]
    clear hx h hsm hi
    obtain ⟨X, hX⟩ : ∃ X, (thn (preds (cutB t wh) inn (l1.length + 1) l1) fun ps l => (.ok (⟨d, te, Prds.of ps⟩, l) : Rs Stp)) = X := ⟨_, rfl⟩
    simp only [thn] at hX
    rw [hX]
    have HX := hide hX
    clear hX
    have hmf : ∀ (fn : Fn) (first cap : Array Value) (w : World), (Instr.makeFunc fn first cap).run Tryz.prog w = .ok (.func fn first cap) w := fun _ _ _ _ => rfl
    go_enter Tryz.func91, Tryz.ntmps91
    go_wp2_with (first | (go_at_call 116; refine (HT.out _ (HB.out _ _)).mono ?_; rintro e w2 ⟨v, rfl, rfl, rd, fr⟩))
    have hL := HL.out w2 rd fr
    have HL0 := hide hL
    clear rd fr hL
    generalize w2.heap.size = Bs at *
    generalize w2.alloc (.cells #[.bool d, .string (bs te), .slice none 0 0] 79) = WL at *
    go_loopw [10, 11, 12, 13, 14, 15] (fun _ _ _ _ _ _ wr => ∃ ps lc pi pc, LI R t wh n inn w Bs d te l1 wr ps lc pi pc) (fun _ _ _ _ _ _ wr => mea R t wr)
    case atStart => exact ⟨_, _, _, _, HL0.out⟩
    case round =>
      rename World => WO
      obtain ⟨ps, lc, pi, pc, hL⟩ := hrel
      have HP := hide (part_ok hL.rd)
      have HL1 := hide hL
      have c0 : WO.cell? ⟨w.heap.size, 0, none⟩ = some (ptr R) := cell_of hL.br rfl
      have HU : Hid (∀ W, Below WO.heap.size WO W → W.cell? ⟨w.heap.size, 0, none⟩ = some (ptr R) ∧ LI R t wh n inn w Bs d te l1 W ps lc pi pc) := fun W hW => by
        have f1 : Fr (fun _ => False) WO W := Fr.below hW
        have b1 := (f1.block _ (blk_lt hL.br) (fun x => x)).trans hL.br
        exact ⟨cell_of b1 rfl, hL.rd.fr f1 (fun x => x), (f1.block _ (blk_lt hL.bs_) (fun x => x)).trans hL.bs_, b1, (f1.block _ (blk_lt hL.bq) (fun x => x)).trans hL.bq, hL.gp.fr f1 (fun _ x _ => x.elim), hL.fr.trans f1 (fun _ _ x => x.elim), hL.lo, hL.eq, hL.sm, hL.nl⟩
      have hmea : mea R t WO = lc.length := hL.rd.mea
      clear hL
      by_cases hp : part lc = [91]
      · have hb : ((bs (part lc)).toList == [91]) = true := by rw [bs_toL, hp]; rfl
        generalize bs (part lc) = S at *
        have HW : Hid (∀ W, LI R t wh n inn w Bs d te l1 W ps lc pi pc → Calls Tryz.prog 117 #[ptr R, .string ⟨#[91]⟩, .string ⟨#[93]⟩, .func (.func 118) #[] #[ptr Bs, ptr w.heap.size]] W (Lays R t wh n (fun k => k = R ∨ k = Bs ∨ Bs + 1 ≤ k) (Added (Bs + 1) Bs w.heap.size R d te ps) W (within (cutB t wh) inn [91] [93] lc))) := fun W hW => by
          have := hW.lo; have := hW.sm
          exact within_step HI.out hW.rd hW.bs_ hW.br hW.gp (by omega) (by omega) (by omega) (by omega) (by omega) (by omega) (blk_lt hW.bs_) (by omega)
        cases hw : within (cutB t wh) inn [91] [93] lc with
        | error y =>
          rw [hw] at HW
          have hX := HX.out
          rw [HL1.out.er hp hw] at hX
          simp only at hX
          subst hX
          have HLO := hide HL1.out.lo
          clear hw hp
          go_wp2_with (first | (go_at_call 94; refine HP.out.mono ?_; rintro e w3 ⟨rfl, hb3⟩; obtain ⟨c3, hL3⟩ := HU.out _ hb3) | (go_at_call 117; refine (HW.out _ hL3).mono ?_; rintro e w4 ⟨rfl, fr4⟩))
          refine ⟨rfl, rfl, ?_⟩
          have := HLO.out
          exact (hL3.fr.trans fr4 (fun i hi x => by omega)).restrict (fun k hk x => by omega)
        | ok z =>
          obtain ⟨p, l2⟩ := z
          rw [hw] at HW
          have HNX := hide (fun W w2 (hW : LI R t wh n inn w Bs d te l1 W ps lc pi pc) rd ha fr => LI.next hR HI.out hW hp hw (w2 := w2) rd ha fr)
          clear hw hp
          go_wp2_with (first | (go_at_call 94; refine HP.out.mono ?_; rintro e w3 ⟨rfl, hb3⟩; obtain ⟨c3, hL3⟩ := HU.out _ hb3) | (go_at_call 117; refine (HW.out _ hL3).mono ?_; rintro e w4 ⟨rfl, rd4, ha4, fr4⟩))
          obtain ⟨⟨pi', pc', hL4⟩, hlt⟩ := HNX.out _ _ hL3 rd4 ha4 fr4
          exact ⟨⟨_, _, _, _, hL4⟩, by rw [hL4.rd.mea, hmea]; exact hlt⟩
      · have hb : ((bs (part lc)).toList == [91]) = false := by rw [bs_toL]; simpa using hp
        generalize bs (part lc) = S at *
        have hX := HX.out
        rw [HL1.out.out hp] at hX
        simp only at hX
        subst hX
        have HLS := hide (fun W w5 (hW : LI R t wh n inn w Bs d te l1 W ps lc pi pc) (fr : Fr (fun k => k = w.heap.size + 1) W w5) => hW.last hR hp fr)
        clear hp
        have HCELL : Hid (∀ W, LI R t wh n inn w Bs d te l1 W ps lc pi pc → (W.cell? ⟨Bs, 0, none⟩ = some (.bool d) ∧ W.cell? ⟨Bs, 1, none⟩ = some (.string (bs te)) ∧ W.cell? ⟨Bs, 2, none⟩ = some (.slice pi ps.length pc)) ∧ (W.cell? ⟨w.heap.size + 1, 0, none⟩ = some (.bool false) ∧ W.cell? ⟨w.heap.size + 1, 1, none⟩ = some (.string ⟨#[]⟩) ∧ W.cell? ⟨w.heap.size + 1, 2, none⟩ = some (.slice none 0 0)) ∧ (W.frozen? ⟨w.heap.size + 1, 0, none⟩ = false ∧ W.frozen? ⟨w.heap.size + 1, 1, none⟩ = false ∧ W.frozen? ⟨w.heap.size + 1, 2, none⟩ = false)) := fun W hW =>
          ⟨⟨cell_of hW.bs_ rfl, cell_of hW.bs_ rfl, cell_of hW.bs_ rfl⟩, ⟨cell_of hW.bq rfl, cell_of hW.bq rfl, cell_of hW.bq rfl⟩, free_of hW.bq, free_of hW.bq, free_of hW.bq⟩
        go_wp2_with (first | (go_at_call 94; refine HP.out.mono ?_; rintro e w3 ⟨rfl, hb3⟩; obtain ⟨c3, hL3⟩ := HU.out _ hb3; obtain ⟨⟨x0, x1, x2⟩, ⟨y0, y1, y2⟩, z0, z1, z2⟩ := HCELL.out _ hL3))
        obtain ⟨W5, hW5, r5, fr5⟩ := box3 (.bool d) (.string (bs te)) (.slice pi ps.length pc) hL3.bq
        rw [hW5]
        clear hW5 x0 x1 x2 y0 y1 y2 z0 z1 z2 c3
        have k0 := cell_of (i := 0) r5 rfl
        have k1 := cell_of (i := 1) r5 rfl
        have k2 := cell_of (i := 2) r5 rfl
        obtain ⟨v, hv, sv, rd5, fr6⟩ := HLS.out _ _ hL3 fr5
        subst hv
        refine bodyPost_ret (v := .agg #[.bool d, .string (bs te), .slice pi ps.length pc]) (by simp [results, Tryz.results91, go_sem, k0, k1, k2]) rfl ⟨_, rfl, sv, rd5, fr6⟩
end Go.Proofs.YtoahlnmhjinneaaGreatDoor

set_option linter.unusedSimpArgs false
set_option linter.unusedVariables false
namespace Go.Proofs.YtoahlnmhjinneaaGreatDoor
open Go.RowKit Go.Maps Go.Lib
variable {w w' w1 w2 W0 W2 W4 : World} {F G : Nat → Prop} {R lo : Nat} {t l l' : L} {wh n : Nat} {inn : Option (L → Rs Prd)} {tS tP : TypeId} {v v' vp vk vs : Value}

theorem news_of (cs : List Value) (ty : TypeId) (w : World) : ∀ j u, cs[j]? = some u → (w.alloc (.cells cs.toArray ty)).cell? ((⟨w.heap.size, 0, none⟩ : Addr).add j) = some u := by
  intro j u hu
  rw [Addr.add_lit, Nat.zero_add, cell_of (heap_alloc_new w _) (v := u)]
  rw [List.getElem?_toArray]; exact hu
theorem owns_new (cs : List Value) (ty : TypeId) (sz : Nat) (w : World) (h : cs.length = sz) (hs : 0 < sz) : (w.alloc (.cells cs.toArray ty)).ownsRow 0 ty sz (.slice (some ⟨w.heap.size, 0, none⟩) 1 1) 1 cs :=
  ⟨by omega, Or.inr ⟨w.heap.size, 1, cs.toArray, rfl, Nat.zero_le _, heap_alloc_new w _, by decide, by decide, by simp; omega, by simp [List.take_of_length_le, h]⟩⟩
theorem GS.first {s : Stp} (hlo : lo ≤ w.heap.size) (sv : slP w (fun b => lo ≤ b) tS tP vp s.preds) : GS lo tS tP (w.alloc (.cells #[.bool s.deep, .string (bs s.test), vp] tS)) (.slice (some ⟨w.heap.size, 0, none⟩) 1 1) [s] :=
  ⟨⟨[(s, vp)], rfl, owns_new [.bool s.deep, .string (bs s.test), vp] tS 3 w rfl (by decide), fun x hx => by
    obtain rfl : x = (s, vp) := by simpa using hx
    exact sv.move fun b hb hl => ⟨⟨hb, fun e => by have : b = w.heap.size := Option.some.inj e; omega⟩, Below.heap_alloc _ _ _ hl⟩⟩, fun k e => by have : w.heap.size = k := Option.some.inj e; omega⟩
theorem GP.first {s : Prd} (hlo : lo ≤ w.heap.size) (sv : slP w (fun b => lo ≤ b) tS tP vk s.kids ∧ slS w (fun b => lo ≤ b) tS tP vs s.steps) : GP lo tS tP (w.alloc (.cells #[.string (bs s.op), vk, vs, .string (bs s.attr), .string (bs s.text)] tP)) (.slice (some ⟨w.heap.size, 0, none⟩) 1 1) [s] :=
  ⟨⟨[(s, vk, vs)], rfl, owns_new [.string (bs s.op), vk, vs, .string (bs s.attr), .string (bs s.text)] tP 5 w rfl (by decide), fun x hx => by
    obtain rfl : x = (s, vk, vs) := by simpa using hx
    have hm : Move (fun b => lo ≤ b) (fun b => lo ≤ b ∧ some b ≠ (Value.slice (some ⟨w.heap.size, 0, none⟩) 1 1).ownBlock) w (w.alloc (.cells #[.string (bs s.op), vk, vs, .string (bs s.attr), .string (bs s.text)] tP)) := fun b hb hl => ⟨⟨hb, fun e => by have : b = w.heap.size := Option.some.inj e; omega⟩, Below.heap_alloc _ _ _ hl⟩
    exact ⟨sv.1.move hm, sv.2.move hm⟩⟩, fun k e => by have : w.heap.size = k := Option.some.inj e; omega⟩
theorem GS.lt {ls : List Stp} (h : GS lo tS tP w v ls) {k : Nat} (e : v.ownBlock = some k) : k < w.heap.size := by obtain ⟨xs, _, h2, _⟩ := h.ex; exact own_lt h2 e
theorem GP.lt {ls : List Prd} (h : GP lo tS tP w v ls) {k : Nat} (e : v.ownBlock = some k) : k < w.heap.size := by obtain ⟨xs, _, h2, _⟩ := h.ex; exact own_lt h2 e
theorem grown_fr {row : Option Nat} (hg : w1.grownBy w2 row) (hr : ∀ k, row = some k → lo ≤ k) : Fr (fun k => k = R ∨ lo ≤ k) w1 w2 :=
  ⟨hg.os, hg.tape, hg.output, hg.size, fun k hk hf => hg.block k hk (fun e => hf (Or.inr (hr k e.symm)))⟩
theorem GS.prep {ls : List Stp} {s : Stp} (h : GS lo tS tP W0 v ls) (fr : Fr (fun k => k = R) W0 W2) (hR : R < lo) (hlo : lo ≤ W0.heap.size) (sv : slP W2 (fun b => W0.heap.size ≤ b) tS tP vp s.preds) (o : Obj) :
    ∃ xs, (W2.alloc o).ownsRow 0 tS 3 v ls.length (sCells xs) ∧ ∀ v' W4, W4.ownsRow 0 tS 3 v' (ls.length + 1) (sCells xs ++ [.bool s.deep, .string (bs s.test), vp]) → (W2.alloc o).grownBy W4 v.ownBlock → (v'.ownBlock = v.ownBlock ∨ v'.ownBlock = some (W2.alloc o).heap.size) → GS lo tS tP W4 v' (ls ++ [s]) ∧ Fr (fun k => k = R ∨ lo ≤ k) W0 W4 ∧ Fr (fun k => lo ≤ k) W2 W4 := by
  have g3 := h.fr (fr.alloc o) fun k e _ => by omega
  obtain ⟨xs, x1, x2, x3⟩ := g3.ex
  refine ⟨xs, x2, fun v' W4 ho hg hat => ⟨g3.push x1 x3 (sv.move fun b hb hl => ⟨⟨by omega, fun e => by have := h.lt e.symm; omega⟩, Below.heap_alloc _ _ _ hl⟩) (by have := fr.size; simp; omega) ho hg hat, ?_, ?_⟩⟩
  · exact ((fr.alloc o).mono fun k e => Or.inl e).same (grown_fr hg fun k e => h.own k e)
  · exact ((Fr.refl _ W2).alloc o).same ⟨hg.os, hg.tape, hg.output, hg.size, fun k hk hf => hg.block k hk (fun e => hf (h.own k e.symm))⟩
theorem GP.prep {ls : List Prd} {s : Prd} (h : GP lo tS tP W0 v ls) (fr : Fr (fun k => k = R) W0 W2) (hR : R < lo) (hlo : lo ≤ W0.heap.size) (sv : slP W2 (fun b => W0.heap.size ≤ b) tS tP vk s.kids ∧ slS W2 (fun b => W0.heap.size ≤ b) tS tP vs s.steps) (o : Obj) :
    ∃ xs, (W2.alloc o).ownsRow 0 tP 5 v ls.length (pCells xs) ∧ ∀ v' W4, W4.ownsRow 0 tP 5 v' (ls.length + 1) (pCells xs ++ [.string (bs s.op), vk, vs, .string (bs s.attr), .string (bs s.text)]) → (W2.alloc o).grownBy W4 v.ownBlock → (v'.ownBlock = v.ownBlock ∨ v'.ownBlock = some (W2.alloc o).heap.size) → GP lo tS tP W4 v' (ls ++ [s]) ∧ Fr (fun k => k = R ∨ lo ≤ k) W0 W4 ∧ Fr (fun k => lo ≤ k) W2 W4 := by
  have g3 := h.fr (fr.alloc o) fun k e _ => by omega
  obtain ⟨xs, x1, x2, x3⟩ := g3.ex
  have hm : Move (fun b => W0.heap.size ≤ b) (fun b => lo ≤ b ∧ some b ≠ v.ownBlock) W2 (W2.alloc o) := fun b hb hl => ⟨⟨by omega, fun e => by have := h.lt e.symm; omega⟩, Below.heap_alloc _ _ _ hl⟩
  refine ⟨xs, x2, fun v' W4 ho hg hat => ⟨g3.push x1 x3 ⟨sv.1.move hm, sv.2.move hm⟩ (by have := fr.size; simp; omega) ho hg hat, ?_, ?_⟩⟩
  · exact ((fr.alloc o).mono fun k e => Or.inl e).same (grown_fr hg fun k e => h.own k e)
  · exact ((Fr.refl _ W2).alloc o).same ⟨hg.os, hg.tape, hg.output, hg.size, fun k hk hf => hg.block k hk (fun e => hf (h.own k e.symm))⟩
theorem GS.last {ls : List Stp} {s : Stp} (h : GS lo tS tP w v (ls ++ [s])) : ∃ g cap, v = .slice (some ⟨g, 0, none⟩) (ls.length + 1) cap ∧ w.cell? ⟨g, ls.length * 3 + 1, none⟩ = some (.string (bs s.test)) := by
  obtain ⟨xs, h1, h2, h3⟩ := h.ex
  rw [List.length_append] at h2
  obtain ⟨g, cap, rfl⟩ := own_some h2
  obtain ⟨x, hx, rfl⟩ := map_at (k := ls.length) (s := s) h1 (by simp)
  exact ⟨g, cap, rfl, own_cell h2 (sCells_at xs _ x 1 _ hx rfl)⟩
set_option maxHeartbeats 4000000 in
theorem goesOn_at {ls : List Stp} {s : Stp} {g cap : Nat} (h : RD R t wh n w l) (hc : w.cell? ⟨g, ls.length * 3 + 1, none⟩ = some (.string (bs s.test))) (hn : ls.length ≤ 500) : Calls Tryz.prog 93 #[ptr R, .slice (some ⟨g, 0, none⟩) (ls.length + 1) cap] w fun e w' => e = .returned (.bool (goesOn s l)) ∧ Below w.heap.size w w' := by
  have HP := hide (part_ok h)
  have HC : Hid (∀ W, Below w.heap.size w W → W.cell? ⟨g, ls.length * 3 + 1, none⟩ = some (.string (bs s.test))) := fun W hW => (World.cell?_of_block (hW.block g (World.block_lt_of_cell? w _ hc))).trans hc
  have hw1 : IntKind.i64.wrap (((ls.length + 1 : Nat) : Int) - 1) = (ls.length : Int) := by rw [IntKind.wrap_i64]; omega
  have hw2 : IntKind.i64.wrap (((ls.length : Int) + 1) - 1) = (ls.length : Int) := by rw [IntKind.wrap_i64]; omega
  have hk1 : (ls.length : Int) < ((ls.length + 1 : Nat) : Int) := by omega
  have hk2 : (ls.length : Int) < (ls.length : Int) + 1 := by omega
  obtain ⟨b0, hb0⟩ : ∃ b, (s.test == [35]) = b := ⟨_, rfl⟩
  obtain ⟨b1, hb1⟩ : ∃ b, (part l == [47]) = b := ⟨_, rfl⟩
  obtain ⟨b2, hb2⟩ : ∃ b, (part l == [47, 47]) = b := ⟨_, rfl⟩
  have hgo : goesOn s l = (!b0 && (b1 || b2)) := by unfold goesOn; rw [hb1, hb2, bne, hb0]
  have e0 : ((bs s.test).toList == [35]) = b0 := by rw [bs_toL]; exact hb0
  have e1 : ((bs (part l)).toList == [47]) = b1 := by rw [bs_toL]; exact hb1
  have e2 : ((bs (part l)).toList == [47, 47]) = b2 := by rw [bs_toL]; exact hb2
  rw [hgo]
  generalize bs (part l) = S at *
  generalize bs s.test = T at *
  generalize ls.length = k at *
  clear h hgo hb0 hb1 hb2 hc
  cases b0 <;> cases b1 <;> cases b2
  all_goals
    go_enter Tryz.func93, Tryz.ntmps93
    go_wp2_with (first | (go_at_call 94; refine HP.out.mono ?_; rintro e w1 ⟨rfl, hb⟩; have hc1 := HC.out _ hb))
    go_ret
    exact ⟨rfl, hb⟩
theorem goesOn_ok {ls : List Stp} {s : Stp} (h : RD R t wh n w l) (hg : GS lo 79 112 w v (ls ++ [s])) (hn : ls.length ≤ 500) : Calls Tryz.prog 93 #[ptr R, v] w fun e w' => e = .returned (.bool (goesOn s l)) ∧ Below w.heap.size w w' := by
  obtain ⟨g, cap, rfl, hc⟩ := hg.last
  exact goesOn_at h hc hn
end Go.Proofs.YtoahlnmhjinneaaGreatDoor
