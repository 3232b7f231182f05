import Derived.Test.YtoahlnmhjinneaaGreatDoorGah
set_option linter.unusedVariables false
set_option linter.unusedSimpArgs false
set_option linter.unusedSimpArgs false
set_option linter.unusedVariables false
namespace Go.Proofs.YtoahlnmhjinneaaGreatDoor
open Go.RowKit Go.Maps Go.Lib
variable {w w' w1 w2 W0 W1 W2 W3 W4 WO wr W W5 : World} {A F G : Nat → Prop} {R lo Bp Br : Nat} {t l l' : L} {wh n : Nat} {inn : Option (L → Rs Prd)} {v v' vp vk vs : Value} {X : Rs Prd} {p : Prd}
theorem enters75 : ∀ args w, (callFunc 154 args).run Tryz.prog w = .ok (.enter 154 args) w := enters_of Tryz.func154 (by kernel_rfl) rfl
set_option maxHeartbeats 4000000 in
set_option maxRecDepth 100000 in
theorem both_ok (hi : InOK R t wh n inn) (h : RD R t wh n w l) : Calls Tryz.prog 141 #[ptr R] w (Ends R t wh n (PV (fun b => w.heap.size ≤ b) 79 112) w (both (cutB t wh) inn l)) := by
  have B0 := hide (Box1.start h)
  have hmf : ∀ (fn : Fn) (first cap : Array Value) (w : World), (Instr.makeFunc fn first cap).run Tryz.prog w = .ok (.func fn first cap) w := fun _ _ _ _ => rfl
  generalize hW0 : w.alloc (.cells zero5 112) = W0 at *
  have HJ : Hid (Calls Tryz.prog 140 #[ptr R, .string ⟨#[97, 110, 100]⟩, .func (.func 154) #[ptr R] #[]] W0 (Ends R t wh n (PV (fun b => W0.heap.size ≤ b) 79 112) W0 (both (cutB t wh) inn l))) := joined_ok (word := wAnd) (by decide) enters75 (fun W l hW => one_ok hi hW) (one_suf hi.suf) B0.out.rd
  clear hi h
  cases hy : both (cutB t wh) inn l with
  | error y =>
    rw [hy] at HJ
    clear hy
    go_enter Tryz.func141, Tryz.ntmps141
    go_wp2_with (first | (go_at_call 140; (try rw [hW0]); refine HJ.out.mono ?_; rintro e w4 ⟨rfl, fr4⟩))
    exact ⟨rfl, rfl, B0.out.thr fr4⟩
  | ok z =>
    obtain ⟨p, l2⟩ := z
    rw [hy] at HJ
    clear hy
    go_enter Tryz.func141, Tryz.ntmps141
    go_wp2_with (first | (go_at_call 140; (try rw [hW0]); refine HJ.out.mono ?_; rintro e w4 ⟨v4, rfl, pv4, rd4, fr4⟩; obtain ⟨ki, nk, kc, si, ns, sc, rfl, bq3, hf⟩ := B0.out.fin fr4 rd4 pv4; clear pv4; have HFN := hide hf; clear hf; obtain ⟨⟨y0, y1, y2, y3, y4⟩, z0, z1, z2, z3, z4⟩ := cells5 bq3))
    obtain ⟨W5, hW5, r5, fr5q⟩ := box5 (.string (bs p.op)) (.slice ki nk kc) (.slice si ns sc) (.string (bs p.attr)) (.string (bs p.text)) bq3
    rw [hW5]
    clear hW5 y0 y1 y2 y3 y4 z0 z1 z2 z3 z4
    obtain ⟨⟨k0, k1, k2, k3, k4⟩, -⟩ := cells5 r5
    obtain ⟨q1, q2, q3⟩ := HFN.out _ fr5q
    refine bodyPost_ret (v := .agg #[.string (bs p.op), .slice ki nk kc, .slice si ns sc, .string (bs p.attr), .string (bs p.text)]) (by simp [results, Tryz.results141, go_sem, k0, k1, k2, k3, k4]) rfl ⟨_, rfl, q1, q2, q3⟩
theorem enters64 : ∀ args w, (callFunc 141 args).run Tryz.prog w = .ok (.enter 141 args) w := enters_of Tryz.func141 (by kernel_rfl) rfl
set_option maxHeartbeats 4000000 in
set_option maxRecDepth 100000 in
theorem cond_ok (hi : InOK R t wh n inn) (h : RD R t wh n w l) : Calls Tryz.prog 119 #[ptr R] w (Ends R t wh n (PV (fun b => w.heap.size ≤ b) 79 112) w (cond (cutB t wh) inn l)) := by
  have B0 := hide (Box1.start h)
  have hmf : ∀ (fn : Fn) (first cap : Array Value) (w : World), (Instr.makeFunc fn first cap).run Tryz.prog w = .ok (.func fn first cap) w := fun _ _ _ _ => rfl
  generalize hW0 : w.alloc (.cells zero5 112) = W0 at *
  have HJ : Hid (Calls Tryz.prog 140 #[ptr R, .string ⟨#[111, 114]⟩, .func (.func 141) #[ptr R] #[]] W0 (Ends R t wh n (PV (fun b => W0.heap.size ≤ b) 79 112) W0 (cond (cutB t wh) inn l))) := joined_ok (word := wOr) (by decide) enters64 (fun W l hW => both_ok hi hW) (fun l => joined_suf (one_suf hi.suf) l) B0.out.rd
  clear hi h
  cases hy : cond (cutB t wh) inn l with
  | error y =>
    rw [hy] at HJ
    clear hy
    go_enter Tryz.func119, Tryz.ntmps119
    go_wp2_with (first | (go_at_call 140; (try rw [hW0]); refine HJ.out.mono ?_; rintro e w4 ⟨rfl, fr4⟩))
    exact ⟨rfl, rfl, B0.out.thr fr4⟩
  | ok z =>
    obtain ⟨p, l2⟩ := z
    rw [hy] at HJ
    clear hy
    go_enter Tryz.func119, Tryz.ntmps119
    go_wp2_with (first | (go_at_call 140; (try rw [hW0]); refine HJ.out.mono ?_; rintro e w4 ⟨v4, rfl, pv4, rd4, fr4⟩; obtain ⟨ki, nk, kc, si, ns, sc, rfl, bq3, hf⟩ := B0.out.fin fr4 rd4 pv4; clear pv4; have HFN := hide hf; clear hf; obtain ⟨⟨y0, y1, y2, y3, y4⟩, z0, z1, z2, z3, z4⟩ := cells5 bq3))
    obtain ⟨W5, hW5, r5, fr5q⟩ := box5 (.string (bs p.op)) (.slice ki nk kc) (.slice si ns sc) (.string (bs p.attr)) (.string (bs p.text)) bq3
    rw [hW5]
    clear hW5 y0 y1 y2 y3 y4 z0 z1 z2 z3 z4
    obtain ⟨⟨k0, k1, k2, k3, k4⟩, -⟩ := cells5 r5
    obtain ⟨q1, q2, q3⟩ := HFN.out _ fr5q
    refine bodyPost_ret (v := .agg #[.string (bs p.op), .slice ki nk kc, .slice si ns sc, .string (bs p.attr), .string (bs p.text)]) (by simp [results, Tryz.results119, go_sem, k0, k1, k2, k3, k4]) rfl ⟨_, rfl, q1, q2, q3⟩
theorem condAt_ok : ∀ d, d ≤ 8 → CondOK R t wh (8 - d) (condAt (cutB t wh) d) ∧ InOK R t wh (8 - d) (inAt (cutB t wh) d)
  | 0, _ => by
    have hi : InOK R t wh 8 (inAt (cutB t wh) 0) := Or.inl ⟨rfl, rfl⟩
    exact ⟨fun W l h => cond_ok hi h, hi⟩
  | d + 1, hd => by
    have ih := (condAt_ok d (by omega)).1
    have hi : InOK R t wh (8 - (d + 1)) (inAt (cutB t wh) (d + 1)) := Or.inr ⟨condAt (cutB t wh) d, rfl, by omega, condAt_suf d, by rw [show 8 - (d + 1) + 1 = 8 - d by omega]; exact ih⟩
    exact ⟨fun W l h => cond_ok hi h, hi⟩
theorem in8 : InOK R t wh 0 (inAt (cutB t wh) 8) := (condAt_ok 8 (by omega)).2
end Go.Proofs.YtoahlnmhjinneaaGreatDoor

set_option linter.unusedSimpArgs false
set_option linter.unusedVariables false
namespace Go.Proofs.YtoahlnmhjinneaaGreatDoor
open Go.RowKit Go.Maps Go.Lib
variable {w w' w1 w2 W0 W1 W2 W3 W4 WO wr W W5 : World} {A A' F G : Nat → Prop} {R lo : Nat} {t l l' : L} {wh n : Nat} {v v' vp : Value} {tQ tS tP : TypeId}
def QS (w : World) (A : Nat → Prop) (tQ tS tP : TypeId) (v : Value) (l : List (List Stp)) : Prop := sl w A tQ v l.length fun g => ∀ i p, l[i]? = some p → ∃ u, w.cell? ⟨g, i, none⟩ = some u ∧ slS w A tS tP u (Stps.of p)
theorem QS.move {l : List (List Stp)} (hm : Move A A' w w') (h : QS w A tQ tS tP v l) : QS w' A' tQ tS tP v l :=
  sl.move hm h fun g ha hl hr i p hi => by
    obtain ⟨u, h1, h2⟩ := hr i p hi
    exact ⟨u, (World.cell?_of_block (hm g ha hl).2).trans h1, h2.move hm⟩
structure GQ (lo : Nat) (tQ tS tP : TypeId) (w : World) (v : Value) (l : List (List Stp)) : Prop where
  ex : ∃ xs : List (List Stp × Value), xs.map (·.1) = l ∧ w.ownsRow 0 tQ 1 v l.length (xs.map (·.2)) ∧ ∀ x ∈ xs, slS w (fun b => lo ≤ b ∧ some b ≠ v.ownBlock) tS tP x.2 (Stps.of x.1)
  own : ∀ k, v.ownBlock = some k → lo ≤ k
variable {lq : List (List Stp)} {p : List Stp}
theorem GQ.lt (h : GQ lo tQ tS tP w v lq) {k : Nat} (e : v.ownBlock = some k) : k < w.heap.size := by obtain ⟨xs, _, h2, _⟩ := h.ex; exact own_lt h2 e
theorem GQ.fr (h : GQ lo tQ tS tP w v lq) (hf : Fr F w w') (hF : ∀ k, F k → k < w.heap.size → k < lo) : GQ lo tQ tS tP w' v lq := by
  obtain ⟨xs, h1, h2, h3⟩ := h.ex
  have hb : ∀ b, lo ≤ b → b < w.heap.size → w'.heap[b]? = w.heap[b]? := fun b h1 h2 => hf.block b h2 (fun x => by have := hF b x h2; omega)
  exact ⟨⟨xs, h1, owns_of h2 fun k e => hb k (h.own k e) (own_lt h2 e), fun x hx => (h3 x hx).move fun b ha hl => ⟨ha, hb b ha.1 hl⟩⟩, h.own⟩
theorem GQ.first (hlo : lo ≤ w.heap.size) (sv : slS w (fun b => lo ≤ b) tS tP vp (Stps.of p)) : GQ lo tQ tS tP (w.alloc (.cells #[vp] tQ)) (.slice (some ⟨w.heap.size, 0, none⟩) 1 1) [p] :=
  ⟨⟨[(p, vp)], rfl, owns_new [vp] tQ 1 w rfl (by decide), fun x hx => by
    obtain rfl : x = (p, vp) := by simpa using hx
    exact sv.move fun b hb hl => ⟨⟨hb, fun e => by have : b = w.heap.size := Option.some.inj e; omega⟩, Below.heap_alloc _ _ _ hl⟩⟩, fun k e => by have : w.heap.size = k := Option.some.inj e; omega⟩
theorem GQ.prep (h : GQ lo tQ tS tP W0 v lq) (fr : Fr (fun k => k = R) W0 W2) (hR : R < lo) (hlo : lo ≤ W0.heap.size) (sv : slS W2 (fun b => W0.heap.size ≤ b) tS tP vp (Stps.of p)) (o : Obj) :
    ∃ xs, (W2.alloc o).ownsRow 0 tQ 1 v lq.length xs ∧ ∀ v' W4, W4.ownsRow 0 tQ 1 v' (lq.length + 1) (xs ++ [vp]) → (W2.alloc o).grownBy W4 v.ownBlock → (v'.ownBlock = v.ownBlock ∨ v'.ownBlock = some (W2.alloc o).heap.size) → GQ lo tQ tS tP W4 v' (lq ++ [p]) ∧ Fr (fun k => k = R ∨ lo ≤ k) W0 W4 ∧ Fr (fun k => lo ≤ k) W2 W4 := by
  have g3 := h.fr (fr.alloc o) fun k e _ => by omega
  obtain ⟨xs, x1, x2, x3⟩ := g3.ex
  refine ⟨_, x2, fun v' W4 ho hg hat => ⟨⟨⟨xs ++ [(p, vp)], by rw [List.map_append, x1]; rfl, by rw [List.length_append, List.map_append]; exact ho, fun x hx => ?_⟩, fun k e => ?_⟩, ?_, ?_⟩⟩
  · have hz := fr.size
    have hm : Move (fun b => lo ≤ b ∧ some b ≠ v.ownBlock) (fun b => lo ≤ b ∧ some b ≠ v'.ownBlock) (W2.alloc o) W4 := fun b ha hl => ⟨⟨ha.1, by rcases hat with e | e <;> rw [e]; exact ha.2; intro x; cases x; omega⟩, hg.block b hl ha.2⟩
    rcases List.mem_append.1 hx with hx | hx
    · exact (x3 x hx).move hm
    · obtain rfl : x = (p, vp) := by simpa using hx
      exact (sv.move (A' := fun b => lo ≤ b ∧ some b ≠ v.ownBlock) (w' := W2.alloc o) fun b hb hl => ⟨⟨by omega, fun e => by have := h.lt e.symm; omega⟩, Below.heap_alloc _ _ _ hl⟩).move hm
  · rcases hat with x | x
    · exact h.own k (x ▸ e)
    · rw [x] at e; cases e; have := fr.size; simp; omega
  · exact ((fr.alloc o).mono fun k e => Or.inl e).same (grown_fr hg fun k e => h.own k e)
  · exact ((Fr.refl _ W2).alloc o).same ⟨hg.os, hg.tape, hg.output, hg.size, fun k hk hf => hg.block k hk (fun e => hf (h.own k e.symm))⟩
theorem GQ.done (h : GQ lo tQ tS tP w v lq) (hn : lq.length ≤ 1000) (hne : lq ≠ []) : QS w (fun b => lo ≤ b) tQ tS tP v lq := by
  obtain ⟨xs, h1, h2, h3⟩ := h.ex
  obtain ⟨ai, cap, rfl⟩ := slice_len h2
  have hz : lq.length ≠ 0 := fun e => hne (List.length_eq_zero_iff.1 e)
  rcases h2.2 with ⟨e, e2⟩ | ⟨g, cap', cur, e1, h0, hg, hr⟩
  · omega
  · cases e1
    refine Or.inr ⟨g, cap, cur, rfl, h.own g rfl, hg, hn, by omega, fun k s hk => ?_⟩
    obtain ⟨x, hx, rfl⟩ := map_at h1 hk
    exact ⟨x.2, own_cell h2 (by rw [List.getElem?_map, hx]; rfl), (h3 x (mem_of_get hx)).move fun b ha _ => ⟨ha.1, rfl⟩⟩
theorem info34 : (Tryz.prog.info? 52).map (fun i => (i.zero, i.size, i.bytes)) = some (some (.slice none 0 0), 1, 24) := by kernel_rfl
structure QI (R : Nat) (t : L) (wh : Nat) (w : World) (X : Rs (List (List Stp))) (wr : World) (v : Value) (ls : List (List Stp)) (lc : L) : Prop where
  rd : RD R t wh 0 wr lc
  gq : GQ w.heap.size 52 79 112 wr v ls
  fr : Fr (fun k => k = R ∨ w.heap.size ≤ k) w wr
  eq : ∃ fu, lc.length < fu ∧ X = thn (pathsMore (cutB t wh) fu lc) fun qs l => if l = [] ∧ cutB t wh = false then .ok (ls ++ qs, l) else .error (bad (cutB t wh) l)
  sm : ls.length + lc.length ≤ 501
  ne : ls ≠ []
  lt : R < w.heap.size
variable {X : Rs (List (List Stp))} {ls : List (List Stp)} {lc : L}
theorem QI.stop (h : QI R t wh w X wr v ls lc) (hg : part lc ≠ [124]) : X = if lc = [] ∧ cutB t wh = false then .ok (ls, lc) else .error (bad (cutB t wh) lc) := by
  obtain ⟨fu, e1, e2⟩ := h.eq
  rw [e2]
  cases fu with
  | zero => omega
  | succ fu => rw [pathsMore, if_neg hg]; simp only [thn_ok, List.append_nil]
theorem QI.go (h : QI R t wh w X wr v ls lc) (hg : part lc = [124]) :
    (∀ y, path (cutB t wh) (inAt (cutB t wh) 8) (pass 1 lc) = .error y → X = .error y) ∧ ∀ p l2, path (cutB t wh) (inAt (cutB t wh) 8) (pass 1 lc) = .ok (p, l2) → l2.length < lc.length ∧ ∃ fu, l2.length < fu ∧ X = thn (pathsMore (cutB t wh) fu l2) fun qs l => if l = [] ∧ cutB t wh = false then .ok ((ls ++ [p]) ++ qs, l) else .error (bad (cutB t wh) l) := by
  obtain ⟨fu, e1, e2⟩ := h.eq
  cases fu with
  | zero => omega
  | succ fu =>
    rw [pathsMore, if_pos hg] at e2
    refine ⟨fun y hy => by rw [e2, hy]; rfl, fun p l2 hy => ?_⟩
    have h1 := (path_suf (inAt_suf 8) _ p l2 hy).length_le
    have h2 := pass_lt (n := 1) (l := lc) (by decide) (part_ne hg (by decide))
    refine ⟨by omega, fu, by omega, ?_⟩
    rw [e2, hy]; simp only [thn_ok]
    cases pathsMore (cutB t wh) fu l2 with
    | error y => rfl
    | ok z => obtain ⟨za, zb⟩ := z; simp only [thn_ok, List.append_assoc, List.cons_append, List.nil_append]
def QV (A : Nat → Prop) (w : World) (v : Value) (ls : List (List Stp)) : Prop := QS w A 52 79 112 v ls
set_option maxHeartbeats 8000000 in
set_option maxRecDepth 100000 in
theorem query_ok (h : RD R t wh 0 w l) : Calls Tryz.prog 46 #[ptr R] w (Ends R t wh 0 (QV (fun b => w.heap.size ≤ b)) w (query (cutB t wh) l)) := by
  have HPA : Hid (Calls Tryz.prog 70 #[ptr R, .int .i64 0] w fun e w' => e = .returned (.tuple #[]) ∧ RD R t wh 0 w' (pass 0 l) ∧ Fr (fun k => k = R) w w') := pass_ok 0 h (Nat.zero_le _)
  have hR := h.lt
  have h5 : (pass 0 l).length ≤ 500 := by have := (pass_suf 0 l).length_le; have := h.le; have := h.tw; have := h.wh5; omega
  have htw := h.tw
  have HPT : Hid (∀ W, RD R t wh 0 W (pass 0 l) → Calls Tryz.prog 71 #[ptr R] W (Ends R t wh 0 (SL (fun b => W.heap.size ≤ b)) W (path (cutB t wh) (inAt (cutB t wh) 8) (pass 0 l)))) := fun W hW => path_ok in8 hW
  unfold query
  cases hx : path (cutB t wh) (inAt (cutB t wh) 8) (pass 0 l) with
  | error y =>
    rw [hx] at HPT
    simp only [thn_er]
    clear hx h
    go_enter Tryz.func46, Tryz.ntmps46
    go_wp2_with (first | (go_at_call 70; refine HPA.out.mono ?_; rintro e w2 ⟨rfl, rd, fr⟩) | (go_at_call 71; refine (HPT.out _ rd).mono ?_; rintro e w3 ⟨rfl, fr3⟩))
    exact ⟨rfl, rfl, fr.same fr3⟩
  | ok z =>
    obtain ⟨p, l1⟩ := z
    rw [hx] at HPT
    have hl1 := (path_suf (inAt_suf 8) _ p l1 hx).length_le
    simp only [thn_ok]
    clear hx h
    obtain ⟨X, hX⟩ : ∃ X, (thn (pathsMore (cutB t wh) (l1.length + 1) l1) fun ps l => if l = [] ∧ cutB t wh = false then (.ok (p :: ps, l) : Rs (List (List Stp))) else .error (bad (cutB t wh) l)) = X := ⟨_, rfl⟩
    rw [hX]
    have HQ0 : Hid (∀ W1 W2 v, Fr (fun k => k = R) w W1 → Fr (fun k => k = R) W1 W2 → RD R t wh 0 W2 l1 → SL (fun b => W1.heap.size ≤ b) W2 v p → ∃ vi vn vc, v = .slice vi vn vc ∧ QI R t wh w X (W2.alloc (.cells #[.slice vi vn vc] 52)) (.slice (some ⟨W2.heap.size, 0, none⟩) 1 1) [p] l1) := fun W1 W2 v f1 f2 rd sv => by
      obtain ⟨vi, vc, rfl⟩ := sl.shape sv
      have fa : Fr (fun _ => False) W2 (W2.alloc (.cells #[.slice vi (Stps.of p).len vc] 52)) := (Fr.refl _ W2).alloc _
      exact ⟨vi, _, vc, rfl, rd.fr fa (fun x => x), GQ.first (Nat.le_trans f1.size f2.size) (slS.move (fun b hb _ => ⟨Nat.le_trans f1.size hb, rfl⟩) sv), ((f1.same f2).mono (fun _ x => Or.inl x)).trans fa (fun _ _ x => x.elim), ⟨l1.length + 1, by omega, by rw [← hX]; rfl⟩, by simp; omega, by simp, hR⟩
    clear hX
    obtain ⟨i0, hi, hz0, hz1, hz2⟩ := info_parts info34
    go_enter Tryz.func46, Tryz.ntmps46
    go_wp2_with (first | (go_at_call 70; refine HPA.out.mono ?_; rintro e w2 ⟨rfl, rd, fr⟩) | (go_at_call 71; refine (HPT.out _ rd).mono ?_; rintro e w3 ⟨v3, rfl, sv3, rd3, fr3⟩; obtain ⟨vi, vn, vc, rfl, hQ⟩ := HQ0.out _ _ _ fr fr3 rd3 sv3; have HQ := hide hQ; clear hQ sv3))
    clear rd rd3 fr fr3
    generalize (World.alloc w3 _) = WS at *
    generalize (Value.slice (some ⟨w3.heap.size, 0, none⟩) 1 1) = V0 at *
    go_loopw [3, 9, 10, 11, 12, 13, 14, 15] (fun u3 _ _ _ _ _ _ _ wr => ∃ ls lc, QI R t wh w X wr u3 ls lc) (fun _ _ _ _ _ _ _ _ wr => mea R t wr)
    case atStart => exact ⟨_, _, HQ.out⟩
    case round =>
      rename World => WO
      obtain ⟨ls, lc, hQ⟩ := hrel
      have hmea : mea R t WO = lc.length := hQ.rd.mea
      have HQ1 := hide hQ
      obtain ⟨b, hb⟩ : ∃ b, decide (part lc = [124]) = b := ⟨_, rfl⟩
      have HT := hide (take_ok [124] hQ.rd b hb)
      cases b with
      | true =>
        have hp : part lc = [124] := by simpa using hb
        have hgo := hQ.go hp
        simp only [if_true] at HT
        have HT : Hid (Calls Tryz.prog 72 #[ptr R, .string ⟨#[124]⟩] WO fun e w' => e = .returned (.bool true) ∧ RD R t wh 0 w' (pass 1 lc) ∧ Fr (fun k => k = R) WO w') := HT
        have HP2 : Hid (∀ W, RD R t wh 0 W (pass 1 lc) → Calls Tryz.prog 71 #[ptr R] W (Ends R t wh 0 (SL (fun b => W.heap.size ≤ b)) W (path (cutB t wh) (inAt (cutB t wh) 8) (pass 1 lc)))) := fun W hW => path_ok in8 hW
        clear hb hQ hp
        cases hy : path (cutB t wh) (inAt (cutB t wh) 8) (pass 1 lc) with
        | error y =>
          have hX := hgo.1 y hy
          subst hX
          rw [hy] at HP2
          clear hy hgo
          go_wp2_with (first | (go_at_call 72; refine HT.out.mono ?_; rintro e w4 ⟨rfl, rd4, fr4⟩) | (go_at_call 71; refine (HP2.out _ rd4).mono ?_; rintro e w5 ⟨rfl, fr5⟩))
          exact ⟨rfl, rfl, (HQ1.out.fr.trans (fr4.same fr5) (fun i hi x => Or.inl x)).restrict (fun k hk x => by omega)⟩
        | ok z =>
          obtain ⟨p2, l2⟩ := z
          obtain ⟨hlt, HNX⟩ := hgo.2 p2 l2 hy
          have HNX := hide HNX
          rw [hy] at HP2
          clear hy hgo
          have HPREP : Hid (∀ W1 W2 v, Fr (fun k => k = R) WO W1 → Fr (fun k => k = R) W1 W2 → RD R t wh 0 W2 l2 → SL (fun b => W1.heap.size ≤ b) W2 v p2 → ∃ vi vn vc, v = .slice vi vn vc ∧ ∃ xs, (W2.alloc (.cells #[.slice vi vn vc] 52)).ownsRow 0 52 1 u3 ls.length xs ∧ ∀ v' W4, W4.ownsRow 0 52 1 v' (ls.length + 1) (xs ++ [.slice vi vn vc]) → (W2.alloc (.cells #[.slice vi vn vc] 52)).grownBy W4 u3.ownBlock → (v'.ownBlock = u3.ownBlock ∨ v'.ownBlock = some (W2.heap.size + 1)) → QI R t wh w X W4 v' (ls ++ [p2]) l2) := fun W1 W2 v f1 f2 rd sv => by
            obtain ⟨vi, vc, rfl⟩ := sl.shape sv
            have q := HQ1.out
            have hz := q.fr.size
            obtain ⟨xs, x1, x2⟩ := (q.gq.fr f1 (fun k e _ => by omega)).prep f2 hR (Nat.le_trans hz f1.size) sv (.cells #[.slice vi (Stps.of p2).len vc] 52)
            refine ⟨vi, _, vc, rfl, xs, x1, fun v' W4 ho hg hat => ?_⟩
            obtain ⟨g1, g2, g3⟩ := x2 v' W4 ho hg (by simpa using hat)
            exact ⟨rd.fr g3 (by omega), g1, (q.fr.trans f1 (fun i hi x => Or.inl x)).trans g2 (fun i hi x => by omega), HNX.out, by have := q.sm; simp; omega, by simp, hR⟩
          go_wp2_with (first | (go_at_call 72; refine HT.out.mono ?_; rintro e w4 ⟨rfl, rd4, fr4⟩) | (go_at_call 71; refine (HP2.out _ rd4).mono ?_; rintro e w5 ⟨v5, rfl, sv5, rd5, fr5⟩; obtain ⟨vi5, vn5, vc5, rfl, xs, hx1, hx2⟩ := HPREP.out _ _ _ fr4 fr5 rd5 sv5; have HX2 := hide hx2; clear hx2 sv5) | (at_builtin; refine wpList_append_own_at _ rfl (.tmp 11) (.tmp 14) 82 rfl 0 52 i0 _ 1 24 Tryz.underlying82 hi hz0 hz1 hz2 rfl (by decide) u3 ls.length xs rfl hx1 ⟨w5.heap.size, 0, none⟩ 1 1 [.slice vi5 vn5 vc5] rfl rfl (news_of _ _ _) ?c2 ?c3 ?c4 (Nat.zero_le _) ?_))
          case c2 => intro u hu; simp only [List.mem_cons, List.not_mem_nil, or_false] at hu; subst hu; rfl
          case c3 => have := HQ1.out.sm; unfold maxLen; omega
          case c4 => have := HQ1.out.sm; omega
          intro v' w7 ho hg _ hat
          have hQ7 := HX2.out v' w7 ho hg (by simpa using hat)
          go_wp2
          exact ⟨⟨_, _, hQ7⟩, by rw [hQ7.rd.mea, hmea]; omega⟩
      | false =>
        have hX := hQ.stop (by simpa using hb)
        simp only [Bool.false_eq_true, if_false] at HT
        have HT : Hid (Calls Tryz.prog 72 #[ptr R, .string ⟨#[124]⟩] WO fun e w' => e = .returned (.bool false) ∧ RD R t wh 0 w' lc ∧ Fr (fun k => k = R) WO w') := HT
        have hle := hQ.rd.le
        clear hb hQ
        by_cases hend : lc = [] ∧ cutB t wh = false
        · rw [if_pos hend] at hX
          subst hX
          have hlt : decide (t.length - lc.length < wh) = false := by rw [hend.1]; simpa [cutB] using hend.2
          have hlt2 : decide (((t.length - lc.length : Nat) : Int) < (wh : Int)) = false := by rw [hend.1]; have := hend.2; simp [cutB] at this; simp; omega
          clear hend
          have HCC : Hid (∀ W, RD R t wh 0 W lc → W.cell? ⟨R, 1, none⟩ = some (.int .i64 wh) ∧ W.cell? ⟨R, 2, none⟩ = some (.int .i64 ((t.length - lc.length : Nat) : Int))) := fun W hW => ⟨cell_of hW.blk rfl, cell_of hW.blk rfl⟩
          generalize t.length - lc.length = K at *
          go_wp2_with (first | (go_at_call 72; refine HT.out.mono ?_; rintro e w4 ⟨rfl, rd4, fr4⟩; obtain ⟨c1, c2⟩ := HCC.out _ rd4))
          go_quiet (fail)
          go_wp2
          go_ret
          have q := HQ1.out
          have f5 : Fr (fun k => k = R) WO (w4.drewN nq) := fr4.drewN nq
          exact ⟨_, rfl, ((q.gq.fr f5 (fun k e _ => by omega)).done (by have := q.sm; omega) q.ne), rd4.fr (F := fun _ => False) ((Fr.refl _ w4).drewN nq) (fun x => x), (q.fr.trans f5 (fun i hi x => Or.inl x)).restrict (fun k hk x => by omega)⟩
        · rw [if_neg hend] at hX
          subst hX
          have hltN : t.length - lc.length < wh := by
            by_cases hlc : lc = []
            · have : cutB t wh = true := by cases hcc : cutB t wh; exact absurd ⟨hlc, hcc⟩ hend; rfl
              simp [cutB] at this; omega
            · have : 0 < lc.length := by cases lc; exact absurd rfl hlc; simp
              omega
          have hlt : decide (t.length - lc.length < wh) = true := by simpa using hltN
          have hlt2 : decide (((t.length - lc.length : Nat) : Int) < (wh : Int)) = true := by simp; omega
          clear hend hltN
          have HCC : Hid (∀ W, RD R t wh 0 W lc → W.cell? ⟨R, 1, none⟩ = some (.int .i64 wh) ∧ W.cell? ⟨R, 2, none⟩ = some (.int .i64 ((t.length - lc.length : Nat) : Int))) := fun W hW => ⟨cell_of hW.blk rfl, cell_of hW.blk rfl⟩
          have HFA : Hid (∀ W, RD R t wh 0 W lc → Calls Tryz.prog 73 #[ptr R] W (Threw R t (bad (cutB t wh) lc) W)) := fun W hW => fail_ok hW
          generalize t.length - lc.length = K at *
          go_wp2_with (first | (go_at_call 72; refine HT.out.mono ?_; rintro e w4 ⟨rfl, rd4, fr4⟩; obtain ⟨c1, c2⟩ := HCC.out _ rd4))
          go_quiet (fail)
          have rd5 : RD R t wh 0 (w4.drewN nq) lc := rd4.fr (F := fun _ => False) ((Fr.refl _ w4).drewN nq) (fun x => x)
          go_wp2_with (first | (go_at_call 73; refine (HFA.out _ rd5).mono ?_; rintro e w6 ⟨rfl, fr6⟩))
          exact ⟨rfl, rfl, (HQ1.out.fr.trans ((fr4.drewN nq).same fr6) (fun i hi x => Or.inl x)).restrict (fun k hk x => by omega)⟩
end Go.Proofs.YtoahlnmhjinneaaGreatDoor

set_option linter.unusedSimpArgs false
set_option linter.unusedVariables false
namespace Go.Proofs.YtoahlnmhjinneaaGreatDoor
open Go.RowKit Go.Maps Go.Lib
variable {w w' w1 w2 W0 W1 W2 W3 W4 WO wr W W5 : World} {A A' F G : Nat → Prop} {R lo : Nat} {t l l' : L} {wh n : Nat} {v v' vp : Value}
theorem assert_nil (w : World) : (Instr.typeAssert .nilIface 20 105 true).run Tryz.prog w = .ok (.tuple #[.agg #[.int .i64 0, .int .i64 0], .bool false]) w := by kernel_rfl
theorem assert_hit (a b : Value) (w : World) : (Instr.typeAssert (.iface 105 (.agg #[a, b])) 20 105 true).run Tryz.prog w = .ok (.tuple #[.agg #[a, b], .bool true]) w := by kernel_rfl
set_option maxHeartbeats 4000000 in
set_option maxRecDepth 100000 in
theorem catch_idle (a b c : Nat) (w : World) : CallsD Tryz.prog 44 #[ptr a, ptr b, ptr c] .returning w fun e u' w' => e = .returned (.tuple #[]) ∧ u' = .returning ∧ w' = w.alloc (.cells #[.int .i64 0, .int .i64 0] 105) := by
  refine callsD_of_wpS Tryz.func44 rfl fun c₀ cs hu => ?_
  apply wpS_seq
  apply wpS_region
  simp [wpOpsS, go_sem, recoverD, hu, Tryz.ntmps44, Exit.thenS, assert_nil, Array.replicate]
  apply wpS_seq
  apply wpS_region
  simp [wpOpsS, go_sem, Exit.thenS]
  refine wpS_cond (t := false) (by simp [Act.eval]) ?_
  simp only [Bool.false_eq_true, if_false]
  refine wpS_of_wp (wp_skip ?_)
  cases c₀
  simp_all [bodyPostS, results, Tryz.results44]
set_option maxHeartbeats 4000000 in
set_option maxRecDepth 100000 in
theorem catch_hit (a b c : Nat) (no at_ : Int) (w : World) {x y z : Value} (ha : w.heap[a]? = some (.cells #[x] 82 (0, 0))) (hb : w.heap[b]? = some (.cells #[y] 25 (0, 0))) (hc : w.heap[c]? = some (.cells #[z] 3 (0, 0))) (hab : a ≠ b) (hac : a ≠ c) (hbc : b ≠ c) :
    CallsD Tryz.prog 44 #[ptr a, ptr b, ptr c] (.panicking [{ v := .iface 105 (.agg #[.int .i64 no, .int .i64 at_]), recovered := false }]) w fun e u' w' => e = .returned (.tuple #[]) ∧ u' = .panicking [{ v := .iface 105 (.agg #[.int .i64 no, .int .i64 at_]), recovered := true }] ∧
      w'.heap[a]? = some (.cells #[.slice none 0 0] 82 (0, 0)) ∧ w'.heap[b]? = some (.cells #[.int .i64 no] 25 (0, 0)) ∧ w'.heap[c]? = some (.cells #[.int .i64 at_] 3 (0, 0)) ∧ Fr (fun k => k = a ∨ k = b ∨ k = c) w w' := by
  refine callsD_of_wpS Tryz.func44 rfl fun c₀ cs hu => ?_
  apply wpS_seq
  apply wpS_region
  simp [wpOpsS, go_sem, recoverD, hu, Tryz.ntmps44, Exit.thenS, assert_hit, Array.replicate]
  apply wpS_seq
  apply wpS_region
  simp [wpOpsS, go_sem, Exit.thenS]
  refine wpS_cond (t := true) (by simp [Act.eval]) ?_
  simp only [if_true]
  have hla := blk_lt ha
  have hlb := blk_lt hb
  have hlc := blk_lt hc
  have he : (w.alloc (.cells #[.int .i64 no, .int .i64 at_] 105)).heap[w.heap.size]? = some (.cells #[.int .i64 no, .int .i64 at_] 105 (0, 0)) := Below_new _ _
  have f0 : Fr (fun k => k = a ∨ k = b ∨ k = c) w (w.alloc (.cells #[.int .i64 no, .int .i64 at_] 105)) := (Fr.refl _ w).alloc _
  have ha0 := (Below.heap_alloc w (.cells #[.int .i64 no, .int .i64 at_] 105) a hla).trans ha
  have hb0 := (Below.heap_alloc w (.cells #[.int .i64 no, .int .i64 at_] 105) b hlb).trans hb
  have hc0 := (Below.heap_alloc w (.cells #[.int .i64 no, .int .i64 at_] 105) c hlc).trans hc
  generalize w.alloc (.cells #[.int .i64 no, .int .i64 at_] 105) = X at *
  refine wpS_of_wp ?_
  have e0 : X.drew.heap[w.heap.size]? = some (.cells #[.int .i64 no, .int .i64 at_] 105 (0, 0)) := he
  have hae : w.heap.size ≠ a := by omega
  have hbe : w.heap.size ≠ b := by omega
  have hce : w.heap.size ≠ c := by omega
  have fr1 : Fr (fun k => k = a ∨ k = b ∨ k = c) w (((X.drew.setCell ⟨a, 0, none⟩ (.slice none 0 0)).setCell ⟨b, 0, none⟩ (.int .i64 no)).setCell ⟨c, 0, none⟩ (.int .i64 at_)) := ((Fr.set (Fr.set (Fr.drewN f0 1) ⟨a, 0, none⟩ (.slice none 0 0) (fun _ => Or.inl rfl)) ⟨b, 0, none⟩ (.int .i64 no) (fun _ => Or.inr (Or.inl rfl))).set ⟨c, 0, none⟩ (.int .i64 at_) (fun _ => Or.inr (Or.inr rfl)))
  have a1 : (X.drew.setCell ⟨a, 0, none⟩ (.slice none 0 0)).heap[a]? = some (.cells #[.slice none 0 0] 82 (0, 0)) := set_of (i := 0) (w := X.drew) ha0 _
  have e1 := (Below.heap_setCell X.drew ⟨a, 0, none⟩ (.slice none 0 0) w.heap.size hae).trans e0
  have b1 : (X.drew.setCell ⟨a, 0, none⟩ (.slice none 0 0)).heap[b]? = some (.cells #[y] 25 (0, 0)) := (Below.heap_setCell X.drew ⟨a, 0, none⟩ (.slice none 0 0) b (fun e => hab e.symm)).trans hb0
  have c1 : (X.drew.setCell ⟨a, 0, none⟩ (.slice none 0 0)).heap[c]? = some (.cells #[z] 3 (0, 0)) := (Below.heap_setCell X.drew ⟨a, 0, none⟩ (.slice none 0 0) c (fun e => hac e.symm)).trans hc0
  generalize hX1 : X.drew.setCell ⟨a, 0, none⟩ (.slice none 0 0) = X1 at *
  have a2 := (Below.heap_setCell X1 ⟨b, 0, none⟩ (.int .i64 no) a hab).trans a1
  have e2 := (Below.heap_setCell X1 ⟨b, 0, none⟩ (.int .i64 no) w.heap.size hbe).trans e1
  have b2 : (X1.setCell ⟨b, 0, none⟩ (.int .i64 no)).heap[b]? = some (.cells #[.int .i64 no] 25 (0, 0)) := set_of (i := 0) b1 _
  have c2 := (Below.heap_setCell X1 ⟨b, 0, none⟩ (.int .i64 no) c (fun e => hbc e.symm)).trans c1
  generalize hX2 : X1.setCell ⟨b, 0, none⟩ (.int .i64 no) = X2 at *
  have a3 := (Below.heap_setCell X2 ⟨c, 0, none⟩ (.int .i64 at_) a hac).trans a2
  have e3 := (Below.heap_setCell X2 ⟨c, 0, none⟩ (.int .i64 at_) w.heap.size hce).trans e2
  have b3 := (Below.heap_setCell X2 ⟨c, 0, none⟩ (.int .i64 at_) b hbc).trans b2
  have c3 : (X2.setCell ⟨c, 0, none⟩ (.int .i64 at_)).heap[c]? = some (.cells #[.int .i64 at_] 3 (0, 0)) := set_of (i := 0) c2 _
  have HS : Hid (∀ W : World, W.heap[w.heap.size]? = some (.cells #[.int .i64 no, .int .i64 at_] 105 (0, 0)) → W.cell? ⟨w.heap.size, 0, none⟩ = some (.int .i64 no) ∧ W.cell? ⟨w.heap.size, 1, none⟩ = some (.int .i64 at_)) := fun W hW => ⟨cell_of hW rfl, cell_of hW rfl⟩
  have ka := cell_of (i := 0) ha0 rfl
  have fa := free_of (i := 0) ha0
  have kb := cell_of (i := 0) b1 rfl
  have fb := free_of (i := 0) b1
  have kc := cell_of (i := 0) c2 rfl
  have fc := free_of (i := 0) c2
  refine wp_region_held_drew (S := fun W => W.cell? ⟨w.heap.size, 0, none⟩ = some (.int .i64 no) ∧ W.cell? ⟨w.heap.size, 1, none⟩ = some (.int .i64 at_)) (by kernel_rfl) (HS.out _ e0) (fun hHeld => ?_)
  refine wpAnyH_take (i := 0) (v := ?_) rfl (by kernel_rfl) (by kernel_rfl) (by kernel_rfl) (fun _ _ _ h => h) (Or.inl ⟨by rfl, ?_⟩) (by assumption) ?_
  rotate_left
  · (intro w hSw; (try dsimp only at hSw); go_simp; (try with_reducible rfl))
  (try simp only [Act.put, List.setIfInBounds_toArray, List.set_cons_zero, List.set_cons_succ])
  refine wpAnyH_take (i := 1) (v := ?_) rfl (by kernel_rfl) (by kernel_rfl) (by kernel_rfl) (fun _ _ _ h => h) (Or.inl ⟨by rfl, ?_⟩) (by assumption) ?_
  rotate_left
  · (intro w hSw; (try dsimp only at hSw); go_simp; (try with_reducible rfl))
  (try simp only [Act.put, List.setIfInBounds_toArray, List.set_cons_zero, List.set_cons_succ])
  refine wpAnyH_take (i := 2) (v := ?_) rfl (by kernel_rfl) (by kernel_rfl) (by kernel_rfl) (fun _ _ _ h => h) (Or.inl ⟨by rfl, ?_⟩) (by assumption) ?_
  rotate_left
  · (intro w hSw; (try dsimp only at hSw); go_simp; (try with_reducible rfl))
  (try simp only [Act.put, List.setIfInBounds_toArray, List.set_cons_zero, List.set_cons_succ])
  refine wpAnyH_take (i := 3) (v := ?_) rfl (by kernel_rfl) (by kernel_rfl) (by kernel_rfl) (fun _ _ _ h => h) (Or.inl ⟨by rfl, ?_⟩) (by assumption) ?_
  rotate_left
  · (intro w hSw; (try dsimp only at hSw); go_simp; (try with_reducible rfl))
  (try simp only [Act.put, List.setIfInBounds_toArray, List.set_cons_zero, List.set_cons_succ])
  refine wpAnyH_ready (rs := [4]) (by kernel_rfl) (by simp) ?_
  refine AllReadyH.cons rfl (fun K hK => ?_) AllReadyH.nil
  go_simp
  (try rw [hX1])
  refine hK.out _ _ (HS.out _ e1) (fun hHeld => ?_)
  clear hK K
  (try simp only [Act.put, List.setIfInBounds_toArray, List.set_cons_zero, List.set_cons_succ])
  refine wpAnyH_ready (rs := [5]) (by kernel_rfl) (by simp) ?_
  refine AllReadyH.cons rfl (fun K hK => ?_) AllReadyH.nil
  go_simp
  (try rw [hX2])
  refine hK.out _ _ (HS.out _ e2) (fun hHeld => ?_)
  clear hK K
  (try simp only [Act.put, List.setIfInBounds_toArray, List.set_cons_zero, List.set_cons_succ])
  refine wpAnyH_ready (rs := [6]) (by kernel_rfl) (by simp) ?_
  refine AllReadyH.cons rfl (fun K hK => ?_) AllReadyH.nil
  go_simp
  refine hK.out _ _ (HS.out _ e3) (fun hHeld => ?_)
  clear hK K
  refine wpAnyH_done (by kernel_rfl) ?_ _
  simp [bodyPostS, results, Tryz.results44, a3, b3, c3, fr1]
end Go.Proofs.YtoahlnmhjinneaaGreatDoor

set_option linter.unusedSimpArgs false
set_option linter.unusedVariables false
namespace Go.Proofs.YtoahlnmhjinneaaGreatDoor
open Go.RowKit Go.Maps Go.Lib
variable {w w' w1 w2 W0 W1 W2 W3 W4 WO wr W W5 : World} {A A' F G : Nat → Prop} {R lo : Nat} {t l l' : L} {wh n : Nat} {v v' vp : Value}
def PE (w : World) (x : Except (Nat × Nat) (List (List Stp))) (e : Ending) (w' : World) : Prop := Below w.heap.size w w' ∧ match x with
  | .ok ls => ∃ v, e = .returned (.tuple #[v, .int .i64 0, .int .i64 0]) ∧ QV (fun b => w.heap.size ≤ b) w' v ls
  | .error y => e = .returned (.tuple #[.slice none 0 0, .int .i64 y.1, .int .i64 y.2])
theorem bad_le (q : L) : Ch.bad (bs q) ≤ q.length := by have := Ch.badFrom_le (bs q) ((bs q).size + 1) 0 (Nat.zero_le _); rw [bs_size] at this; unfold Ch.bad; rw [bs_size]; exact this
theorem three_set {a : Nat} (h1 : w.heap[a]? = some (.cells #[.slice none 0 0] 82 (0, 0))) (h2 : w.heap[a + 1]? = some (.cells #[.int .i64 0] 25 (0, 0))) (h3 : w.heap[a + 1 + 1]? = some (.cells #[.int .i64 0] 3 (0, 0))) (v : Value) : ∃ W, ((w.setCell ⟨a, 0, none⟩ v).setCell ⟨a + 1, 0, none⟩ (.int .i64 0)).setCell ⟨a + 1 + 1, 0, none⟩ (.int .i64 0) = W ∧ W.heap[a]? = some (.cells #[v] 82 (0, 0)) ∧ W.heap[a + 1]? = some (.cells #[.int .i64 0] 25 (0, 0)) ∧ W.heap[a + 1 + 1]? = some (.cells #[.int .i64 0] 3 (0, 0)) ∧
    (w.setCell ⟨a, 0, none⟩ v).heap[a + 1]? = some (.cells #[.int .i64 0] 25 (0, 0)) ∧ ((w.setCell ⟨a, 0, none⟩ v).setCell ⟨a + 1, 0, none⟩ (.int .i64 0)).heap[a + 1 + 1]? = some (.cells #[.int .i64 0] 3 (0, 0)) ∧ Fr (fun k => k = a ∨ k = a + 1 ∨ k = a + 1 + 1) w W := by
  have b1 := (Below.heap_setCell w ⟨a, 0, none⟩ v (a + 1) (show a + 1 ≠ a by omega)).trans h2
  have c1 := (Below.heap_setCell w ⟨a, 0, none⟩ v (a + 1 + 1) (show a + 1 + 1 ≠ a by omega)).trans h3
  have c2 := (Below.heap_setCell (w.setCell ⟨a, 0, none⟩ v) ⟨a + 1, 0, none⟩ (.int .i64 0) (a + 1 + 1) (show a + 1 + 1 ≠ a + 1 by omega)).trans c1
  refine ⟨_, rfl, ?_, ?_, set_of (i := 0) c2 _, b1, c2, ((Fr.set (Fr.set (Fr.refl (fun k => k = a ∨ k = a + 1 ∨ k = a + 1 + 1) w) ⟨a, 0, none⟩ v (fun _ => Or.inl rfl)) ⟨a + 1, 0, none⟩ (.int .i64 0) (fun _ => Or.inr (Or.inl rfl))).set ⟨a + 1 + 1, 0, none⟩ (.int .i64 0) (fun _ => Or.inr (Or.inr rfl)))⟩
  · rw [Below.heap_setCell _ _ _ _ (show a ≠ a + 1 + 1 by omega), Below.heap_setCell _ _ _ _ (show a ≠ a + 1 by omega)]; exact set_of (i := 0) h1 v
  · rw [Below.heap_setCell _ _ _ _ (show a + 1 ≠ a + 1 + 1 by omega)]; exact set_of (i := 0) b1 _
set_option maxHeartbeats 8000000 in
set_option maxRecDepth 100000 in
theorem parse_ok (q : L) (w : World) : Calls Tryz.prog 30 #[.string (bs q)] w (PE w (parse q)) := by
  have hz := bs_size q
  have hmf : ∀ (fn : Fn) (first cap : Array Value) (w : World), (Instr.makeFunc fn first cap).run Tryz.prog w = .ok (.func fn first cap) w := fun _ _ _ _ => rfl
  by_cases h5 : 500 < q.length
  · rw [parse, if_pos h5]
    have hd : decide ((500 : Int) < (q.length : Int)) = true := by simp; omega
    have hd2 : decide (500 < q.length) = true := by simpa using h5
    generalize bs q = S at *
    generalize q.length = N at *
    go_enter_defers Tryz.func30, Tryz.ntmps30
    go_wp2
    have hB : Below w.heap.size w (((w.alloc (.cells #[.slice none 0 0] 82)).alloc (.cells #[.int .i64 1] 25)).alloc (.cells #[.int .i64 0] 3)) := (((Below.refl _ w).alloc (Nat.le_refl _) _).alloc (by simp) _).alloc (by simp; omega) _
    simp [bodyPostD, Leaves, settle, results, Tryz.results30, go_sem, PE, hB]
  · rw [parse, if_neg h5]
    have hd : decide ((500 : Int) < (q.length : Int)) = false := by simp; omega
    have hd2 : decide (500 < q.length) = false := by simpa using h5
    have hbl := bad_le q
    have HBD : Hid (∀ W, Calls Tryz.prog 45 #[.string (bs q)] W fun e w' => e = .returned (.int .i64 (Ch.bad (bs q))) ∧ Below W.heap.size W w') := fun W => badC_any (bs q) W (by rw [hz]; omega)
    have hsl : ∀ W, (Instr.slice 9 (.string (bs q)) none (some (.int .i64 (Ch.bad (bs q) : Int))) none).run Tryz.prog W = .ok (.string (bs (cutAt q))) W := take_run q (Ch.bad (bs q)) hbl
    have hcl : (cutAt q).length ≤ q.length := by unfold cutAt; rw [List.length_take]; omega
    have hcut : cutB (cutAt q) q.length = isCut q := rfl
    have HQ : Hid (∀ W : World, Calls Tryz.prog 46 #[ptr W.heap.size] (W.alloc (.cells #[.string (bs (cutAt q)), .int .i64 q.length, .int .i64 0, .int .i64 0] 109)) (Ends W.heap.size (cutAt q) q.length 0 (QV (fun b => (W.alloc (.cells #[.string (bs (cutAt q)), .int .i64 q.length, .int .i64 0, .int .i64 0] 109)).heap.size ≤ b)) (W.alloc (.cells #[.string (bs (cutAt q)), .int .i64 q.length, .int .i64 0, .int .i64 0] 109)) (query (isCut q) (cutAt q)))) := fun W => by
      rw [← hcut]
      refine query_ok ⟨?_, List.suffix_refl _, hcl, by omega, by omega⟩
      have := Below_new W (.cells #[.string (bs (cutAt q)), .int .i64 q.length, .int .i64 0, .int .i64 0] 109)
      simpa using this
    generalize Ch.bad (bs q) = BD at *
    generalize bs q = S at *
    generalize q.length = N at *
    generalize isCut q = ct at *
    generalize cutAt q = t at *
    have HBX : Hid (∀ W1 : World, Below (w.heap.size + 3) (((w.alloc (.cells #[.slice none 0 0] 82)).alloc (.cells #[.int .i64 0] 25)).alloc (.cells #[.int .i64 0] 3)) W1 → W1.heap[w.heap.size]? = some (.cells #[.slice none 0 0] 82 (0, 0)) ∧ W1.heap[w.heap.size + 1]? = some (.cells #[.int .i64 0] 25 (0, 0)) ∧ W1.heap[w.heap.size + 1 + 1]? = some (.cells #[.int .i64 0] 3 (0, 0)) ∧ w.heap.size + 3 ≤ W1.heap.size ∧ Below w.heap.size w W1) := fun W1 hb => by
      have h1 := Below_new (w.alloc (.cells #[.slice none 0 0] 82)) (.cells #[.int .i64 0] 25)
      have h2 := Below_new ((w.alloc (.cells #[.slice none 0 0] 82)).alloc (.cells #[.int .i64 0] 25)) (.cells #[.int .i64 0] 3)
      refine ⟨?_, ?_, ?_, by have := hb.size; simpa using this, ((((Below.refl _ w).alloc (Nat.le_refl _) _).alloc (by simp) _).alloc (by simp; omega) _).trans (below_less hb (by omega))⟩
      · rw [hb.block _ (by omega), Below.heap_alloc _ _ _ (by simp; omega), Below.heap_alloc _ _ _ (by simp)]; exact Below_new _ _
      · rw [hb.block _ (by omega), Below.heap_alloc _ _ _ (by simp)]; simpa using h1
      · rw [hb.block _ (by omega)]; simpa using h2
    have HB3 : Hid (∀ W2 W3 : World, Below (((w.alloc (.cells #[.slice none 0 0] 82)).alloc (.cells #[.int .i64 0] 25)).alloc (.cells #[.int .i64 0] 3)).heap.size (((w.alloc (.cells #[.slice none 0 0] 82)).alloc (.cells #[.int .i64 0] 25)).alloc (.cells #[.int .i64 0] 3)) W2 → Fr (fun k => k = W2.heap.size) (W2.alloc (.cells #[.string (bs t), .int .i64 N, .int .i64 0, .int .i64 0] 109)) W3 → (W3.heap[w.heap.size]? = some (.cells #[.slice none 0 0] 82 (0, 0)) ∧ W3.heap[w.heap.size + 1]? = some (.cells #[.int .i64 0] 25 (0, 0)) ∧ W3.heap[w.heap.size + 1 + 1]? = some (.cells #[.int .i64 0] 3 (0, 0))) ∧ w.heap.size + 3 ≤ W2.heap.size ∧ Below w.heap.size w W3) := fun W2 W3 hb f => by
      obtain ⟨h1, h2, h3, h4, h5⟩ := HBX.out W2 (by simpa using hb)
      have f2 : Fr (fun k => k = W2.heap.size) W2 W3 := ((Fr.refl _ W2).alloc _).same f
      exact ⟨⟨(f2.block _ (by omega) (by omega)).trans h1, (f2.block _ (by omega) (by omega)).trans h2, (f2.block _ (by omega) (by omega)).trans h3⟩, h4, h5.trans (f2.up (K := w.heap.size) (fun k e => by omega) (by omega))⟩
    cases hx : query ct t with
    | error y =>
      rw [hx] at HQ
      simp only
      clear hx h5 hbl hcl hcut
      go_enter_defers Tryz.func30, Tryz.ntmps30
      go_wp2_with (first | (go_at_call 45; refine (HBD.out _).mono ?_; rintro e w2 ⟨rfl, hb2⟩) | (go_at_call 46; refine (HQ.out _).mono ?_; rintro e w3 ⟨rfl, fr3⟩))
      obtain ⟨⟨h1, h2, h3⟩, hz2, hB⟩ := HB3.out _ _ hb2 fr3
      refine leaves_cons (f := 44) (args := #[ptr w.heap.size, ptr (w.heap.size + 1), ptr (w.heap.size + 1 + 1)]) (by simp) (by simp [go_sem]) ?_
      refine (catch_hit w.heap.size (w.heap.size + 1) (w.heap.size + 1 + 1) _ _ _ h1 h2 h3 (by omega) (by omega) (by omega)).mono ?_
      rintro e u' w4 ⟨rfl, rfl, k1, k2, k3, f4⟩
      have hB4 : Below w.heap.size w w4 := hB.trans (f4.up (K := w.heap.size) (fun k e => by omega) hB.size)
      have c1 := cell_of (i := 0) k1 rfl
      have c2 := cell_of (i := 0) k2 rfl
      have c3 := cell_of (i := 0) k3 rfl
      simp [Leaves, settle, results, Tryz.results30, go_sem, c1, c2, c3, PE, hB4]
    | ok z =>
      obtain ⟨ls, l1⟩ := z
      rw [hx] at HQ
      simp only
      clear hx h5 hbl hcl hcut
      go_enter_defers Tryz.func30, Tryz.ntmps30
      go_wp2_with (first | (go_at_call 45; refine (HBD.out _).mono ?_; rintro e w2 ⟨rfl, hb2⟩) | (go_at_call 46; refine (HQ.out _).mono ?_; rintro e w3 ⟨v3, rfl, qv3, rd3, fr3⟩; obtain ⟨⟨h1, h2, h3⟩, hz2, hB⟩ := HB3.out _ _ hb2 fr3; obtain ⟨vi, vc, rfl⟩ := sl.shape qv3; have QVH := hide qv3; clear qv3; obtain ⟨W4, hW4, h1', h2', h3', h2b, h3b, f4⟩ := three_set h1 h2 h3 (.slice vi ls.length vc); have x1 := cell_of (i := 0) h1 rfl; have y1 := free_of (i := 0) h1; have x2 := cell_of (i := 0) h2b rfl; have y2 := free_of (i := 0) h2b; have x3 := cell_of (i := 0) h3b rfl; have y3 := free_of (i := 0) h3b))
      refine leaves_cons (f := 44) (args := #[ptr w.heap.size, ptr (w.heap.size + 1), ptr (w.heap.size + 1 + 1)]) (by simp) (by simp [go_sem]) ?_
      refine (catch_idle w.heap.size (w.heap.size + 1) (w.heap.size + 1 + 1) _).mono ?_
      rintro e u' w5 ⟨rfl, rfl, rfl⟩
      have c1 := cell_alloc (.cells #[.int .i64 0, .int .i64 0] 105) (cell_of (i := 0) h1' rfl)
      have c2 := cell_alloc (.cells #[.int .i64 0, .int .i64 0] 105) (cell_of (i := 0) h2' rfl)
      have c3 := cell_alloc (.cells #[.int .i64 0, .int .i64 0] 105) (cell_of (i := 0) h3' rfl)
      have f5 := f4.alloc (.cells #[.int .i64 0, .int .i64 0] 105)
      have hB5 : Below w.heap.size w (W4.alloc (.cells #[.int .i64 0, .int .i64 0] 105)) := hB.trans (f5.up (K := w.heap.size) (fun k e => by omega) hB.size)
      have qv5 : QV (fun b => w.heap.size ≤ b) (W4.alloc (.cells #[.int .i64 0, .int .i64 0] 105)) (.slice vi ls.length vc) ls := QS.move (fun b hb hl => (fun (hb' : w2.heap.size + 1 ≤ b) => ⟨by omega, f5.block b hl (by omega)⟩) (by simpa using hb)) QVH.out
      simp [Leaves, settle, results, Tryz.results30, go_sem, c1, c2, c3, PE, hB5, qv5]
end Go.Proofs.YtoahlnmhjinneaaGreatDoor
