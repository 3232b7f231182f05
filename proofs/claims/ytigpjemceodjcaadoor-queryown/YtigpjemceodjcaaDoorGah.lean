import Derived.Test.YtigpjemceodjcaaDoorGag
import Derived.Test.YtigpjemceodjcaaDoorGab
set_option linter.unusedVariables false
set_option linter.unusedSimpArgs false
set_option linter.unusedSimpArgs false
set_option linter.unusedVariables false
namespace Go.Proofs.YtigpjemceodjcaaDoor
open Go.RowKit Go.Maps Go.Lib
variable {w w' w1 w2 W0 W1 W2 W3 W4 WO wr W W5 : World} {A F G : Nat → Prop} {R lo Bp Br : Nat} {t l l' : L} {wh n : Nat} {inn : Option (L → Rs Prd)} {v v' vp vk vs : Value} {X : Rs Prd} {p : Prd}
theorem enters75 : ∀ args w, (callFunc 75 args).run Tryd.prog w = .ok (.enter 75 args) w := enters_of Tryd.func75 (by kernel_rfl) rfl
set_option maxHeartbeats 4000000 in
set_option maxRecDepth 100000 in
theorem both_ok (hi : InOK R t wh n inn) (h : RD R t wh n w l) : Calls Tryd.prog 64 #[ptr R] w (Ends R t wh n (PV (fun b => w.heap.size ≤ b) 53 71) w (both (cutB t wh) inn l)) := by
  have B0 := hide (Box1.start h)
  have hmf : ∀ (fn : Fn) (first cap : Array Value) (w : World), (Instr.makeFunc fn first cap).run Tryd.prog w = .ok (.func fn first cap) w := fun _ _ _ _ => rfl
  generalize hW0 : w.alloc (.cells zero5 71) = W0 at *
  have HJ : Hid (Calls Tryd.prog 63 #[ptr R, .string ⟨#[97, 110, 100]⟩, .func (.func 75) #[ptr R] #[]] W0 (Ends R t wh n (PV (fun b => W0.heap.size ≤ b) 53 71) W0 (both (cutB t wh) inn l))) := joined_ok (word := wAnd) (by decide) enters75 (fun W l hW => one_ok hi hW) (one_suf hi.suf) B0.out.rd
  clear hi h
  cases hy : both (cutB t wh) inn l with
  | error y =>
    rw [hy] at HJ
    clear hy
    go_enter Tryd.func64, Tryd.ntmps64
    go_wp2_with (first | (go_at_call 63; (try rw [hW0]); refine HJ.out.mono ?_; rintro e w4 ⟨rfl, fr4⟩))
    exact ⟨rfl, rfl, B0.out.thr fr4⟩
  | ok z =>
    obtain ⟨p, l2⟩ := z
    rw [hy] at HJ
    clear hy
    go_enter Tryd.func64, Tryd.ntmps64
    go_wp2_with (first | (go_at_call 63; (try rw [hW0]); refine HJ.out.mono ?_; rintro e w4 ⟨v4, rfl, pv4, rd4, fr4⟩; obtain ⟨ki, nk, kc, si, ns, sc, rfl, bq3, hf⟩ := B0.out.fin fr4 rd4 pv4; clear pv4; have HFN := hide hf; clear hf; obtain ⟨⟨y0, y1, y2, y3, y4⟩, z0, z1, z2, z3, z4⟩ := cells5 bq3))
    obtain ⟨W5, hW5, r5, fr5q⟩ := box5 (.string (bs p.op)) (.slice ki nk kc) (.slice si ns sc) (.string (bs p.attr)) (.string (bs p.text)) bq3
    rw [hW5]
    clear hW5 y0 y1 y2 y3 y4 z0 z1 z2 z3 z4
    obtain ⟨⟨k0, k1, k2, k3, k4⟩, -⟩ := cells5 r5
    obtain ⟨q1, q2, q3⟩ := HFN.out _ fr5q
    refine bodyPost_ret (v := .agg #[.string (bs p.op), .slice ki nk kc, .slice si ns sc, .string (bs p.attr), .string (bs p.text)]) (by simp [results, Tryd.results64, go_sem, k0, k1, k2, k3, k4]) rfl ⟨_, rfl, q1, q2, q3⟩
theorem enters64 : ∀ args w, (callFunc 64 args).run Tryd.prog w = .ok (.enter 64 args) w := enters_of Tryd.func64 (by kernel_rfl) rfl
set_option maxHeartbeats 4000000 in
set_option maxRecDepth 100000 in
theorem cond_ok (hi : InOK R t wh n inn) (h : RD R t wh n w l) : Calls Tryd.prog 54 #[ptr R] w (Ends R t wh n (PV (fun b => w.heap.size ≤ b) 53 71) w (cond (cutB t wh) inn l)) := by
  have B0 := hide (Box1.start h)
  have hmf : ∀ (fn : Fn) (first cap : Array Value) (w : World), (Instr.makeFunc fn first cap).run Tryd.prog w = .ok (.func fn first cap) w := fun _ _ _ _ => rfl
  generalize hW0 : w.alloc (.cells zero5 71) = W0 at *
  have HJ : Hid (Calls Tryd.prog 63 #[ptr R, .string ⟨#[111, 114]⟩, .func (.func 64) #[ptr R] #[]] W0 (Ends R t wh n (PV (fun b => W0.heap.size ≤ b) 53 71) W0 (cond (cutB t wh) inn l))) := joined_ok (word := wOr) (by decide) enters64 (fun W l hW => both_ok hi hW) (fun l => joined_suf (one_suf hi.suf) l) B0.out.rd
  clear hi h
  cases hy : cond (cutB t wh) inn l with
  | error y =>
    rw [hy] at HJ
    clear hy
    go_enter Tryd.func54, Tryd.ntmps54
    go_wp2_with (first | (go_at_call 63; (try rw [hW0]); refine HJ.out.mono ?_; rintro e w4 ⟨rfl, fr4⟩))
    exact ⟨rfl, rfl, B0.out.thr fr4⟩
  | ok z =>
    obtain ⟨p, l2⟩ := z
    rw [hy] at HJ
    clear hy
    go_enter Tryd.func54, Tryd.ntmps54
    go_wp2_with (first | (go_at_call 63; (try rw [hW0]); refine HJ.out.mono ?_; rintro e w4 ⟨v4, rfl, pv4, rd4, fr4⟩; obtain ⟨ki, nk, kc, si, ns, sc, rfl, bq3, hf⟩ := B0.out.fin fr4 rd4 pv4; clear pv4; have HFN := hide hf; clear hf; obtain ⟨⟨y0, y1, y2, y3, y4⟩, z0, z1, z2, z3, z4⟩ := cells5 bq3))
    obtain ⟨W5, hW5, r5, fr5q⟩ := box5 (.string (bs p.op)) (.slice ki nk kc) (.slice si ns sc) (.string (bs p.attr)) (.string (bs p.text)) bq3
    rw [hW5]
    clear hW5 y0 y1 y2 y3 y4 z0 z1 z2 z3 z4
    obtain ⟨⟨k0, k1, k2, k3, k4⟩, -⟩ := cells5 r5
    obtain ⟨q1, q2, q3⟩ := HFN.out _ fr5q
    refine bodyPost_ret (v := .agg #[.string (bs p.op), .slice ki nk kc, .slice si ns sc, .string (bs p.attr), .string (bs p.text)]) (by simp [results, Tryd.results54, go_sem, k0, k1, k2, k3, k4]) rfl ⟨_, rfl, q1, q2, q3⟩
theorem condAt_ok : ∀ d, d ≤ 8 → CondOK R t wh (8 - d) (condAt (cutB t wh) d) ∧ InOK R t wh (8 - d) (inAt (cutB t wh) d)
  | 0, _ => by
    have hi : InOK R t wh 8 (inAt (cutB t wh) 0) := Or.inl ⟨rfl, rfl⟩
    exact ⟨fun W l h => cond_ok hi h, hi⟩
  | d + 1, hd => by
    have ih := (condAt_ok d (by omega)).1
    have hi : InOK R t wh (8 - (d + 1)) (inAt (cutB t wh) (d + 1)) := Or.inr ⟨condAt (cutB t wh) d, rfl, by omega, condAt_suf d, by rw [show 8 - (d + 1) + 1 = 8 - d by omega]; exact ih⟩
    exact ⟨fun W l h => cond_ok hi h, hi⟩
theorem in8 : InOK R t wh 0 (inAt (cutB t wh) 8) := (condAt_ok 8 (by omega)).2
end Go.Proofs.YtigpjemceodjcaaDoor

set_option linter.unusedSimpArgs false
set_option linter.unusedVariables false
namespace Go.Proofs.YtigpjemceodjcaaDoor
open Go.RowKit Go.Maps Go.Lib
variable {w w' w1 w2 W0 W1 W2 W3 W4 WO wr W W5 : World} {A A' F G : Nat → Prop} {R lo : Nat} {t l l' : L} {wh n : Nat} {v v' vp : Value} {tQ tS tP : TypeId}
def QS (w : World) (A : Nat → Prop) (tQ tS tP : TypeId) (v : Value) (l : List (List Stp)) : Prop := sl w A tQ v l.length fun g => ∀ i p, l[i]? = some p → ∃ u, w.cell? ⟨g, i, none⟩ = some u ∧ slS w A tS tP u (Stps.of p)
theorem QS.move {l : List (List Stp)} (hm : Move A A' w w') (h : QS w A tQ tS tP v l) : QS w' A' tQ tS tP v l :=
  sl.move hm h fun g ha hl hr i p hi => by
    obtain ⟨u, h1, h2⟩ := hr i p hi
    exact ⟨u, (World.cell?_of_block (hm g ha hl).2).trans h1, h2.move hm⟩
structure GQ (lo : Nat) (tQ tS tP : TypeId) (w : World) (v : Value) (l : List (List Stp)) : Prop where
  ex : ∃ xs : List (List Stp × Value), xs.map (·.1) = l ∧ w.ownsRow 0 tQ 1 v l.length (xs.map (·.2)) ∧ ∀ x ∈ xs, slS w (fun b => lo ≤ b ∧ some b ≠ v.ownBlock) tS tP x.2 (Stps.of x.1)
  own : ∀ k, v.ownBlock = some k → lo ≤ k
variable {lq : List (List Stp)} {p : List Stp}
theorem GQ.lt (h : GQ lo tQ tS tP w v lq) {k : Nat} (e : v.ownBlock = some k) : k < w.heap.size := by obtain ⟨xs, _, h2, _⟩ := h.ex; exact own_lt h2 e
theorem GQ.fr (h : GQ lo tQ tS tP w v lq) (hf : Fr F w w') (hF : ∀ k, F k → k < w.heap.size → k < lo) : GQ lo tQ tS tP w' v lq := by
  obtain ⟨xs, h1, h2, h3⟩ := h.ex
  have hb : ∀ b, lo ≤ b → b < w.heap.size → w'.heap[b]? = w.heap[b]? := fun b h1 h2 => hf.block b h2 (fun x => by have := hF b x h2; omega)
  exact ⟨⟨xs, h1, owns_of h2 fun k e => hb k (h.own k e) (own_lt h2 e), fun x hx => (h3 x hx).move fun b ha hl => ⟨ha, hb b ha.1 hl⟩⟩, h.own⟩
theorem GQ.first (hlo : lo ≤ w.heap.size) (sv : slS w (fun b => lo ≤ b) tS tP vp (Stps.of p)) : GQ lo tQ tS tP (w.alloc (.cells #[vp] tQ)) (.slice (some ⟨w.heap.size, 0, none⟩) 1 1) [p] :=
  ⟨⟨[(p, vp)], rfl, owns_new [vp] tQ 1 w rfl (by decide), fun x hx => by
    obtain rfl : x = (p, vp) := by simpa using hx
    exact sv.move fun b hb hl => ⟨⟨hb, fun e => by have : b = w.heap.size := Option.some.inj e; omega⟩, Below.heap_alloc _ _ _ hl⟩⟩, fun k e => by have : w.heap.size = k := Option.some.inj e; omega⟩
theorem GQ.prep (h : GQ lo tQ tS tP W0 v lq) (fr : Fr (fun k => k = R) W0 W2) (hR : R < lo) (hlo : lo ≤ W0.heap.size) (sv : slS W2 (fun b => W0.heap.size ≤ b) tS tP vp (Stps.of p)) (o : Obj) :
    ∃ xs, (W2.alloc o).ownsRow 0 tQ 1 v lq.length xs ∧ ∀ v' W4, W4.ownsRow 0 tQ 1 v' (lq.length + 1) (xs ++ [vp]) → (W2.alloc o).grownBy W4 v.ownBlock → (v'.ownBlock = v.ownBlock ∨ v'.ownBlock = some (W2.alloc o).heap.size) → GQ lo tQ tS tP W4 v' (lq ++ [p]) ∧ Fr (fun k => k = R ∨ lo ≤ k) W0 W4 ∧ Fr (fun k => lo ≤ k) W2 W4 := by
  have g3 := h.fr (fr.alloc o) fun k e _ => by omega
  obtain ⟨xs, x1, x2, x3⟩ := g3.ex
  refine ⟨_, x2, fun v' W4 ho hg hat => ⟨⟨⟨xs ++ [(p, vp)], by rw [List.map_append, x1]; rfl, by rw [List.length_append, List.map_append]; exact ho, fun x hx => ?_⟩, fun k e => ?_⟩, ?_, ?_⟩⟩
  · have hz := fr.size
    have hm : Move (fun b => lo ≤ b ∧ some b ≠ v.ownBlock) (fun b => lo ≤ b ∧ some b ≠ v'.ownBlock) (W2.alloc o) W4 := fun b ha hl => ⟨⟨ha.1, by rcases hat with e | e <;> rw [e]; exact ha.2; intro x; cases x; omega⟩, hg.block b hl ha.2⟩
    rcases List.mem_append.1 hx with hx | hx
    · exact (x3 x hx).move hm
    · obtain rfl : x = (p, vp) := by simpa using hx
      exact (sv.move (A' := fun b => lo ≤ b ∧ some b ≠ v.ownBlock) (w' := W2.alloc o) fun b hb hl => ⟨⟨by omega, fun e => by have := h.lt e.symm; omega⟩, Below.heap_alloc _ _ _ hl⟩).move hm
  · rcases hat with x | x
    · exact h.own k (x ▸ e)
    · rw [x] at e; cases e; have := fr.size; simp; omega
  · exact ((fr.alloc o).mono fun k e => Or.inl e).same (grown_fr hg fun k e => h.own k e)
  · exact ((Fr.refl _ W2).alloc o).same ⟨hg.os, hg.tape, hg.output, hg.size, fun k hk hf => hg.block k hk (fun e => hf (h.own k e.symm))⟩
theorem GQ.done (h : GQ lo tQ tS tP w v lq) (hn : lq.length ≤ 1000) (hne : lq ≠ []) : QS w (fun b => lo ≤ b) tQ tS tP v lq := by
  obtain ⟨xs, h1, h2, h3⟩ := h.ex
  obtain ⟨ai, cap, rfl⟩ := slice_len h2
  have hz : lq.length ≠ 0 := fun e => hne (List.length_eq_zero_iff.1 e)
  rcases h2.2 with ⟨e, e2⟩ | ⟨g, cap', cur, e1, h0, hg, hr⟩
  · omega
  · cases e1
    refine Or.inr ⟨g, cap, cur, rfl, h.own g rfl, hg, hn, by omega, fun k s hk => ?_⟩
    obtain ⟨x, hx, rfl⟩ := map_at h1 hk
    exact ⟨x.2, own_cell h2 (by rw [List.getElem?_map, hx]; rfl), (h3 x (mem_of_get hx)).move fun b ha _ => ⟨ha.1, rfl⟩⟩
theorem info34 : (Tryd.prog.info? 34).map (fun i => (i.zero, i.size, i.bytes)) = some (some (.slice none 0 0), 1, 24) := by kernel_rfl
structure QI (R : Nat) (t : L) (wh : Nat) (w : World) (X : Rs (List (List Stp))) (wr : World) (v : Value) (ls : List (List Stp)) (lc : L) : Prop where
  rd : RD R t wh 0 wr lc
  gq : GQ w.heap.size 34 53 71 wr v ls
  fr : Fr (fun k => k = R ∨ w.heap.size ≤ k) w wr
  eq : ∃ fu, lc.length < fu ∧ X = thn (pathsMore (cutB t wh) fu lc) fun qs l => if l = [] ∧ cutB t wh = false then .ok (ls ++ qs, l) else .error (bad (cutB t wh) l)
  sm : ls.length + lc.length ≤ 501
  ne : ls ≠ []
  lt : R < w.heap.size
variable {X : Rs (List (List Stp))} {ls : List (List Stp)} {lc : L}
theorem QI.stop (h : QI R t wh w X wr v ls lc) (hg : part lc ≠ [124]) : X = if lc = [] ∧ cutB t wh = false then .ok (ls, lc) else .error (bad (cutB t wh) lc) := by
  obtain ⟨fu, e1, e2⟩ := h.eq
  rw [e2]
  cases fu with
  | zero => omega
  | succ fu => rw [pathsMore, if_neg hg]; simp only [thn_ok, List.append_nil]
theorem QI.go (h : QI R t wh w X wr v ls lc) (hg : part lc = [124]) :
    (∀ y, path (cutB t wh) (inAt (cutB t wh) 8) (pass 1 lc) = .error y → X = .error y) ∧ ∀ p l2, path (cutB t wh) (inAt (cutB t wh) 8) (pass 1 lc) = .ok (p, l2) → l2.length < lc.length ∧ ∃ fu, l2.length < fu ∧ X = thn (pathsMore (cutB t wh) fu l2) fun qs l => if l = [] ∧ cutB t wh = false then .ok ((ls ++ [p]) ++ qs, l) else .error (bad (cutB t wh) l) := by
  obtain ⟨fu, e1, e2⟩ := h.eq
  cases fu with
  | zero => omega
  | succ fu =>
    rw [pathsMore, if_pos hg] at e2
    refine ⟨fun y hy => by rw [e2, hy]; rfl, fun p l2 hy => ?_⟩
    have h1 := (path_suf (inAt_suf 8) _ p l2 hy).length_le
    have h2 := pass_lt (n := 1) (l := lc) (by decide) (part_ne hg (by decide))
    refine ⟨by omega, fu, by omega, ?_⟩
    rw [e2, hy]; simp only [thn_ok]
    cases pathsMore (cutB t wh) fu l2 with
    | error y => rfl
    | ok z => obtain ⟨za, zb⟩ := z; simp only [thn_ok, List.append_assoc, List.cons_append, List.nil_append]
def QV (A : Nat → Prop) (w : World) (v : Value) (ls : List (List Stp)) : Prop := QS w A 34 53 71 v ls
set_option maxHeartbeats 8000000 in
set_option maxRecDepth 100000 in
theorem query_ok (h : RD R t wh 0 w l) : Calls Tryd.prog 16 #[ptr R] w (Ends R t wh 0 (QV (fun b => w.heap.size ≤ b)) w (query (cutB t wh) l)) := by
  have HPA : Hid (Calls Tryd.prog 25 #[ptr R, .int .i64 0] w fun e w' => e = .returned (.tuple #[]) ∧ RD R t wh 0 w' (pass 0 l) ∧ Fr (fun k => k = R) w w') := pass_ok 0 h (Nat.zero_le _)
  have hR := h.lt
  have h5 : (pass 0 l).length ≤ 500 := by have := (pass_suf 0 l).length_le; have := h.le; have := h.tw; have := h.wh5; omega
  have htw := h.tw
  have HPT : Hid (∀ W, RD R t wh 0 W (pass 0 l) → Calls Tryd.prog 26 #[ptr R] W (Ends R t wh 0 (SL (fun b => W.heap.size ≤ b)) W (path (cutB t wh) (inAt (cutB t wh) 8) (pass 0 l)))) := fun W hW => path_ok in8 hW
  unfold query
  cases hx : path (cutB t wh) (inAt (cutB t wh) 8) (pass 0 l) with
  | error y =>
    rw [hx] at HPT
    simp only [thn_er]
    clear hx h
    go_enter Tryd.func16, Tryd.ntmps16
    go_wp2_with (first | (go_at_call 25; refine HPA.out.mono ?_; rintro e w2 ⟨rfl, rd, fr⟩) | (go_at_call 26; refine (HPT.out _ rd).mono ?_; rintro e w3 ⟨rfl, fr3⟩))
    exact ⟨rfl, rfl, fr.same fr3⟩
  | ok z =>
    obtain ⟨p, l1⟩ := z
    rw [hx] at HPT
    have hl1 := (path_suf (inAt_suf 8) _ p l1 hx).length_le
    simp only [thn_ok]
    clear hx h
    obtain ⟨X, hX⟩ : ∃ X, (thn (pathsMore (cutB t wh) (l1.length + 1) l1) fun ps l => if l = [] ∧ cutB t wh = false then (.ok (p :: ps, l) : Rs (List (List Stp))) else .error (bad (cutB t wh) l)) = X := ⟨_, rfl⟩
    rw [hX]
    have HQ0 : Hid (∀ W1 W2 v, Fr (fun k => k = R) w W1 → Fr (fun k => k = R) W1 W2 → RD R t wh 0 W2 l1 → SL (fun b => W1.heap.size ≤ b) W2 v p → ∃ vi vn vc, v = .slice vi vn vc ∧ QI R t wh w X (W2.alloc (.cells #[.slice vi vn vc] 34)) (.slice (some ⟨W2.heap.size, 0, none⟩) 1 1) [p] l1) := fun W1 W2 v f1 f2 rd sv => by
      obtain ⟨vi, vc, rfl⟩ := sl.shape sv
      have fa : Fr (fun _ => False) W2 (W2.alloc (.cells #[.slice vi (Stps.of p).len vc] 34)) := (Fr.refl _ W2).alloc _
      exact ⟨vi, _, vc, rfl, rd.fr fa (fun x => x), GQ.first (Nat.le_trans f1.size f2.size) (slS.move (fun b hb _ => ⟨Nat.le_trans f1.size hb, rfl⟩) sv), ((f1.same f2).mono (fun _ x => Or.inl x)).trans fa (fun _ _ x => x.elim), ⟨l1.length + 1, by omega, by rw [← hX]; rfl⟩, by simp; omega, by simp, hR⟩
    clear hX
    obtain ⟨i0, hi, hz0, hz1, hz2⟩ := info_parts info34
    go_enter Tryd.func16, Tryd.ntmps16
    go_wp2_with (first | (go_at_call 25; refine HPA.out.mono ?_; rintro e w2 ⟨rfl, rd, fr⟩) | (go_at_call 26; refine (HPT.out _ rd).mono ?_; rintro e w3 ⟨v3, rfl, sv3, rd3, fr3⟩; obtain ⟨vi, vn, vc, rfl, hQ⟩ := HQ0.out _ _ _ fr fr3 rd3 sv3; have HQ := hide hQ; clear hQ sv3))
    clear rd rd3 fr fr3
    generalize (World.alloc w3 _) = WS at *
    generalize (Value.slice (some ⟨w3.heap.size, 0, none⟩) 1 1) = V0 at *
    go_loopw [3, 9, 10, 11, 12, 13, 14, 15] (fun u3 _ _ _ _ _ _ _ wr => ∃ ls lc, QI R t wh w X wr u3 ls lc) (fun _ _ _ _ _ _ _ _ wr => mea R t wr)
    case atStart => exact ⟨_, _, HQ.out⟩
    case round =>
      rename World => WO
      obtain ⟨ls, lc, hQ⟩ := hrel
      have hmea : mea R t WO = lc.length := hQ.rd.mea
      have HQ1 := hide hQ
      obtain ⟨b, hb⟩ : ∃ b, decide (part lc = [124]) = b := ⟨_, rfl⟩
      have HT := hide (take_ok [124] hQ.rd b hb)
      cases b with
      | true =>
        have hp : part lc = [124] := by simpa using hb
        have hgo := hQ.go hp
        simp only [if_true] at HT
        have HT : Hid (Calls Tryd.prog 27 #[ptr R, .string ⟨#[124]⟩] WO fun e w' => e = .returned (.bool true) ∧ RD R t wh 0 w' (pass 1 lc) ∧ Fr (fun k => k = R) WO w') := HT
        have HP2 : Hid (∀ W, RD R t wh 0 W (pass 1 lc) → Calls Tryd.prog 26 #[ptr R] W (Ends R t wh 0 (SL (fun b => W.heap.size ≤ b)) W (path (cutB t wh) (inAt (cutB t wh) 8) (pass 1 lc)))) := fun W hW => path_ok in8 hW
        clear hb hQ hp
        cases hy : path (cutB t wh) (inAt (cutB t wh) 8) (pass 1 lc) with
        | error y =>
          have hX := hgo.1 y hy
          subst hX
          rw [hy] at HP2
          clear hy hgo
          go_wp2_with (first | (go_at_call 27; refine HT.out.mono ?_; rintro e w4 ⟨rfl, rd4, fr4⟩) | (go_at_call 26; refine (HP2.out _ rd4).mono ?_; rintro e w5 ⟨rfl, fr5⟩))
          exact ⟨rfl, rfl, (HQ1.out.fr.trans (fr4.same fr5) (fun i hi x => Or.inl x)).restrict (fun k hk x => by omega)⟩
        | ok z =>
          obtain ⟨p2, l2⟩ := z
          obtain ⟨hlt, HNX⟩ := hgo.2 p2 l2 hy
          have HNX := hide HNX
          rw [hy] at HP2
          clear hy hgo
          have HPREP : Hid (∀ W1 W2 v, Fr (fun k => k = R) WO W1 → Fr (fun k => k = R) W1 W2 → RD R t wh 0 W2 l2 → SL (fun b => W1.heap.size ≤ b) W2 v p2 → ∃ vi vn vc, v = .slice vi vn vc ∧ ∃ xs, (W2.alloc (.cells #[.slice vi vn vc] 34)).ownsRow 0 34 1 u3 ls.length xs ∧ ∀ v' W4, W4.ownsRow 0 34 1 v' (ls.length + 1) (xs ++ [.slice vi vn vc]) → (W2.alloc (.cells #[.slice vi vn vc] 34)).grownBy W4 u3.ownBlock → (v'.ownBlock = u3.ownBlock ∨ v'.ownBlock = some (W2.heap.size + 1)) → QI R t wh w X W4 v' (ls ++ [p2]) l2) := fun W1 W2 v f1 f2 rd sv => by
            obtain ⟨vi, vc, rfl⟩ := sl.shape sv
            have q := HQ1.out
            have hz := q.fr.size
            obtain ⟨xs, x1, x2⟩ := (q.gq.fr f1 (fun k e _ => by omega)).prep f2 hR (Nat.le_trans hz f1.size) sv (.cells #[.slice vi (Stps.of p2).len vc] 34)
            refine ⟨vi, _, vc, rfl, xs, x1, fun v' W4 ho hg hat => ?_⟩
            obtain ⟨g1, g2, g3⟩ := x2 v' W4 ho hg (by simpa using hat)
            exact ⟨rd.fr g3 (by omega), g1, (q.fr.trans f1 (fun i hi x => Or.inl x)).trans g2 (fun i hi x => by omega), HNX.out, by have := q.sm; simp; omega, by simp, hR⟩
          go_wp2_with (first | (go_at_call 27; refine HT.out.mono ?_; rintro e w4 ⟨rfl, rd4, fr4⟩) | (go_at_call 26; refine (HP2.out _ rd4).mono ?_; rintro e w5 ⟨v5, rfl, sv5, rd5, fr5⟩; obtain ⟨vi5, vn5, vc5, rfl, xs, hx1, hx2⟩ := HPREP.out _ _ _ fr4 fr5 rd5 sv5; have HX2 := hide hx2; clear hx2 sv5) | (at_builtin; refine wpList_append_own_at _ rfl (.tmp 11) (.tmp 14) 22 rfl 0 34 i0 _ 1 24 Tryd.underlying22 hi hz0 hz1 hz2 rfl (by decide) u3 ls.length xs rfl hx1 ⟨w5.heap.size, 0, none⟩ 1 1 [.slice vi5 vn5 vc5] rfl rfl (news_of _ _ _) ?c2 ?c3 ?c4 (Nat.zero_le _) ?_))
          case c2 => intro u hu; simp only [List.mem_cons, List.not_mem_nil, or_false] at hu; subst hu; rfl
          case c3 => have := HQ1.out.sm; unfold maxLen; omega
          case c4 => have := HQ1.out.sm; omega
          intro v' w7 ho hg _ hat
          have hQ7 := HX2.out v' w7 ho hg (by simpa using hat)
          go_wp2
          exact ⟨⟨_, _, hQ7⟩, by rw [hQ7.rd.mea, hmea]; omega⟩
      | false =>
        have hX := hQ.stop (by simpa using hb)
        simp only [Bool.false_eq_true, if_false] at HT
        have HT : Hid (Calls Tryd.prog 27 #[ptr R, .string ⟨#[124]⟩] WO fun e w' => e = .returned (.bool false) ∧ RD R t wh 0 w' lc ∧ Fr (fun k => k = R) WO w') := HT
        have hle := hQ.rd.le
        clear hb hQ
        by_cases hend : lc = [] ∧ cutB t wh = false
        · rw [if_pos hend] at hX
          subst hX
          have hlt : decide (t.length - lc.length < wh) = false := by rw [hend.1]; simpa [cutB] using hend.2
          have hlt2 : decide (((t.length - lc.length : Nat) : Int) < (wh : Int)) = false := by rw [hend.1]; have := hend.2; simp [cutB] at this; simp; omega
          clear hend
          have HCC : Hid (∀ W, RD R t wh 0 W lc → W.cell? ⟨R, 1, none⟩ = some (.int .i64 wh) ∧ W.cell? ⟨R, 2, none⟩ = some (.int .i64 ((t.length - lc.length : Nat) : Int))) := fun W hW => ⟨cell_of hW.blk rfl, cell_of hW.blk rfl⟩
          generalize t.length - lc.length = K at *
          go_wp2_with (first | (go_at_call 27; refine HT.out.mono ?_; rintro e w4 ⟨rfl, rd4, fr4⟩; obtain ⟨c1, c2⟩ := HCC.out _ rd4))
          go_quiet (fail)
          go_wp2
          go_ret
          have q := HQ1.out
          have f5 : Fr (fun k => k = R) WO (w4.drewN nq) := fr4.drewN nq
          exact ⟨_, rfl, ((q.gq.fr f5 (fun k e _ => by omega)).done (by have := q.sm; omega) q.ne), rd4.fr (F := fun _ => False) ((Fr.refl _ w4).drewN nq) (fun x => x), (q.fr.trans f5 (fun i hi x => Or.inl x)).restrict (fun k hk x => by omega)⟩
        · rw [if_neg hend] at hX
          subst hX
          have hltN : t.length - lc.length < wh := by
            by_cases hlc : lc = []
            · have : cutB t wh = true := by cases hcc : cutB t wh; exact absurd ⟨hlc, hcc⟩ hend; rfl
              simp [cutB] at this; omega
            · have : 0 < lc.length := by cases lc; exact absurd rfl hlc; simp
              omega
          have hlt : decide (t.length - lc.length < wh) = true := by simpa using hltN
          have hlt2 : decide (((t.length - lc.length : Nat) : Int) < (wh : Int)) = true := by simp; omega
          clear hend hltN
          have HCC : Hid (∀ W, RD R t wh 0 W lc → W.cell? ⟨R, 1, none⟩ = some (.int .i64 wh) ∧ W.cell? ⟨R, 2, none⟩ = some (.int .i64 ((t.length - lc.length : Nat) : Int))) := fun W hW => ⟨cell_of hW.blk rfl, cell_of hW.blk rfl⟩
          have HFA : Hid (∀ W, RD R t wh 0 W lc → Calls Tryd.prog 28 #[ptr R] W (Threw R t (bad (cutB t wh) lc) W)) := fun W hW => fail_ok hW
          generalize t.length - lc.length = K at *
          go_wp2_with (first | (go_at_call 27; refine HT.out.mono ?_; rintro e w4 ⟨rfl, rd4, fr4⟩; obtain ⟨c1, c2⟩ := HCC.out _ rd4))
          go_quiet (fail)
          have rd5 : RD R t wh 0 (w4.drewN nq) lc := rd4.fr (F := fun _ => False) ((Fr.refl _ w4).drewN nq) (fun x => x)
          go_wp2_with (first | (go_at_call 28; refine (HFA.out _ rd5).mono ?_; rintro e w6 ⟨rfl, fr6⟩))
          exact ⟨rfl, rfl, (HQ1.out.fr.trans ((fr4.drewN nq).same fr6) (fun i hi x => Or.inl x)).restrict (fun k hk x => by omega)⟩
end Go.Proofs.YtigpjemceodjcaaDoor

set_option linter.unusedSimpArgs false
set_option linter.unusedVariables false
namespace Go.Proofs.YtigpjemceodjcaaDoor
open Go.RowKit Go.Maps Go.Lib
variable {w w' w1 w2 W0 W1 W2 W3 W4 WO wr W W5 : World} {A A' F G : Nat → Prop} {R lo : Nat} {t l l' : L} {wh n : Nat} {v v' vp : Value}
theorem assert_nil (w : World) : (Instr.typeAssert .nilIface 20 39 true).run Tryd.prog w = .ok (.tuple #[.agg #[.int .i64 0, .int .i64 0], .bool false]) w := by kernel_rfl
theorem assert_hit (a b : Value) (w : World) : (Instr.typeAssert (.iface 39 (.agg #[a, b])) 20 39 true).run Tryd.prog w = .ok (.tuple #[.agg #[a, b], .bool true]) w := by kernel_rfl
set_option maxHeartbeats 4000000 in
set_option maxRecDepth 100000 in
theorem catch_idle (a b c : Nat) (w : World) : CallsD Tryd.prog 14 #[ptr a, ptr b, ptr c] .returning w fun e u' w' => e = .returned (.tuple #[]) ∧ u' = .returning ∧ w' = w.alloc (.cells #[.int .i64 0, .int .i64 0] 39) := by
  refine callsD_of_wpS Tryd.func14 rfl fun c₀ cs hu => ?_
  apply wpS_seq
  apply wpS_region
  simp [wpOpsS, go_sem, recoverD, hu, Tryd.ntmps14, Exit.thenS, assert_nil, Array.replicate]
  apply wpS_seq
  apply wpS_region
  simp [wpOpsS, go_sem, Exit.thenS]
  refine wpS_cond (t := false) (by simp [Act.eval]) ?_
  simp only [Bool.false_eq_true, if_false]
  refine wpS_of_wp (wp_skip ?_)
  cases c₀
  simp_all [bodyPostS, results, Tryd.results14]
set_option maxHeartbeats 4000000 in
set_option maxRecDepth 100000 in
theorem catch_hit (a b c : Nat) (no at_ : Int) (w : World) {x y z : Value} (ha : w.heap[a]? = some (.cells #[x] 22 (0, 0))) (hb : w.heap[b]? = some (.cells #[y] 23 (0, 0))) (hc : w.heap[c]? = some (.cells #[z] 3 (0, 0))) (hab : a ≠ b) (hac : a ≠ c) (hbc : b ≠ c) :
    CallsD Tryd.prog 14 #[ptr a, ptr b, ptr c] (.panicking [{ v := .iface 39 (.agg #[.int .i64 no, .int .i64 at_]), recovered := false }]) w fun e u' w' => e = .returned (.tuple #[]) ∧ u' = .panicking [{ v := .iface 39 (.agg #[.int .i64 no, .int .i64 at_]), recovered := true }] ∧
      w'.heap[a]? = some (.cells #[.slice none 0 0] 22 (0, 0)) ∧ w'.heap[b]? = some (.cells #[.int .i64 no] 23 (0, 0)) ∧ w'.heap[c]? = some (.cells #[.int .i64 at_] 3 (0, 0)) ∧ Fr (fun k => k = a ∨ k = b ∨ k = c) w w' := by
  refine callsD_of_wpS Tryd.func14 rfl fun c₀ cs hu => ?_
  apply wpS_seq
  apply wpS_region
  simp [wpOpsS, go_sem, recoverD, hu, Tryd.ntmps14, Exit.thenS, assert_hit, Array.replicate]
  apply wpS_seq
  apply wpS_region
  simp [wpOpsS, go_sem, Exit.thenS]
  refine wpS_cond (t := true) (by simp [Act.eval]) ?_
  simp only [if_true]
  have hla := blk_lt ha
  have hlb := blk_lt hb
  have hlc := blk_lt hc
  have he : (w.alloc (.cells #[.int .i64 no, .int .i64 at_] 39)).heap[w.heap.size]? = some (.cells #[.int .i64 no, .int .i64 at_] 39 (0, 0)) := Below_new _ _
  have f0 : Fr (fun k => k = a ∨ k = b ∨ k = c) w (w.alloc (.cells #[.int .i64 no, .int .i64 at_] 39)) := (Fr.refl _ w).alloc _
  have ha0 := (Below.heap_alloc w (.cells #[.int .i64 no, .int .i64 at_] 39) a hla).trans ha
  have hb0 := (Below.heap_alloc w (.cells #[.int .i64 no, .int .i64 at_] 39) b hlb).trans hb
  have hc0 := (Below.heap_alloc w (.cells #[.int .i64 no, .int .i64 at_] 39) c hlc).trans hc
  generalize w.alloc (.cells #[.int .i64 no, .int .i64 at_] 39) = X at *
  refine wpS_of_wp ?_
  have e0 : X.drew.heap[w.heap.size]? = some (.cells #[.int .i64 no, .int .i64 at_] 39 (0, 0)) := he
  have hae : w.heap.size ≠ a := by omega
  have hbe : w.heap.size ≠ b := by omega
  have hce : w.heap.size ≠ c := by omega
  have fr1 : Fr (fun k => k = a ∨ k = b ∨ k = c) w (((X.drew.setCell ⟨a, 0, none⟩ (.slice none 0 0)).setCell ⟨b, 0, none⟩ (.int .i64 no)).setCell ⟨c, 0, none⟩ (.int .i64 at_)) := ((Fr.set (Fr.set (Fr.drewN f0 1) ⟨a, 0, none⟩ (.slice none 0 0) (fun _ => Or.inl rfl)) ⟨b, 0, none⟩ (.int .i64 no) (fun _ => Or.inr (Or.inl rfl))).set ⟨c, 0, none⟩ (.int .i64 at_) (fun _ => Or.inr (Or.inr rfl)))
  have a1 : (X.drew.setCell ⟨a, 0, none⟩ (.slice none 0 0)).heap[a]? = some (.cells #[.slice none 0 0] 22 (0, 0)) := set_of (i := 0) (w := X.drew) ha0 _
  have e1 := (Below.heap_setCell X.drew ⟨a, 0, none⟩ (.slice none 0 0) w.heap.size hae).trans e0
  have b1 : (X.drew.setCell ⟨a, 0, none⟩ (.slice none 0 0)).heap[b]? = some (.cells #[y] 23 (0, 0)) := (Below.heap_setCell X.drew ⟨a, 0, none⟩ (.slice none 0 0) b (fun e => hab e.symm)).trans hb0
  have c1 : (X.drew.setCell ⟨a, 0, none⟩ (.slice none 0 0)).heap[c]? = some (.cells #[z] 3 (0, 0)) := (Below.heap_setCell X.drew ⟨a, 0, none⟩ (.slice none 0 0) c (fun e => hac e.symm)).trans hc0
  generalize hX1 : X.drew.setCell ⟨a, 0, none⟩ (.slice none 0 0) = X1 at *
  have a2 := (Below.heap_setCell X1 ⟨b, 0, none⟩ (.int .i64 no) a hab).trans a1
  have e2 := (Below.heap_setCell X1 ⟨b, 0, none⟩ (.int .i64 no) w.heap.size hbe).trans e1
  have b2 : (X1.setCell ⟨b, 0, none⟩ (.int .i64 no)).heap[b]? = some (.cells #[.int .i64 no] 23 (0, 0)) := set_of (i := 0) b1 _
  have c2 := (Below.heap_setCell X1 ⟨b, 0, none⟩ (.int .i64 no) c (fun e => hbc e.symm)).trans c1
  generalize hX2 : X1.setCell ⟨b, 0, none⟩ (.int .i64 no) = X2 at *
  have a3 := (Below.heap_setCell X2 ⟨c, 0, none⟩ (.int .i64 at_) a hac).trans a2
  have e3 := (Below.heap_setCell X2 ⟨c, 0, none⟩ (.int .i64 at_) w.heap.size hce).trans e2
  have b3 := (Below.heap_setCell X2 ⟨c, 0, none⟩ (.int .i64 at_) b hbc).trans b2
  have c3 : (X2.setCell ⟨c, 0, none⟩ (.int .i64 at_)).heap[c]? = some (.cells #[.int .i64 at_] 3 (0, 0)) := set_of (i := 0) c2 _
  have HS : Hid (∀ W : World, W.heap[w.heap.size]? = some (.cells #[.int .i64 no, .int .i64 at_] 39 (0, 0)) → W.cell? ⟨w.heap.size, 0, none⟩ = some (.int .i64 no) ∧ W.cell? ⟨w.heap.size, 1, none⟩ = some (.int .i64 at_)) := fun W hW => ⟨cell_of hW rfl, cell_of hW rfl⟩
  have ka := cell_of (i := 0) ha0 rfl
  have fa := free_of (i := 0) ha0
  have kb := cell_of (i := 0) b1 rfl
  have fb := free_of (i := 0) b1
  have kc := cell_of (i := 0) c2 rfl
  have fc := free_of (i := 0) c2
  refine wp_region_held_drew (S := fun W => W.cell? ⟨w.heap.size, 0, none⟩ = some (.int .i64 no) ∧ W.cell? ⟨w.heap.size, 1, none⟩ = some (.int .i64 at_)) (by kernel_rfl) (HS.out _ e0) (fun hHeld => ?_)
  refine wpAnyH_take (i := 0) (v := ?_) rfl (by kernel_rfl) (by kernel_rfl) (by kernel_rfl) (fun _ _ _ h => h) (Or.inl ⟨by rfl, ?_⟩) (by assumption) ?_
  rotate_left
  · (intro w hSw; (try dsimp only at hSw); go_simp; (try with_reducible rfl))
  (try simp only [Act.put, List.setIfInBounds_toArray, List.set_cons_zero, List.set_cons_succ])
  refine wpAnyH_take (i := 1) (v := ?_) rfl (by kernel_rfl) (by kernel_rfl) (by kernel_rfl) (fun _ _ _ h => h) (Or.inl ⟨by rfl, ?_⟩) (by assumption) ?_
  rotate_left
  · (intro w hSw; (try dsimp only at hSw); go_simp; (try with_reducible rfl))
  (try simp only [Act.put, List.setIfInBounds_toArray, List.set_cons_zero, List.set_cons_succ])
  refine wpAnyH_take (i := 2) (v := ?_) rfl (by kernel_rfl) (by kernel_rfl) (by kernel_rfl) (fun _ _ _ h => h) (Or.inl ⟨by rfl, ?_⟩) (by assumption) ?_
  rotate_left
  · (intro w hSw; (try dsimp only at hSw); go_simp; (try with_reducible rfl))
  (try simp only [Act.put, List.setIfInBounds_toArray, List.set_cons_zero, List.set_cons_succ])
  refine wpAnyH_take (i := 3) (v := ?_) rfl (by kernel_rfl) (by kernel_rfl) (by kernel_rfl) (fun _ _ _ h => h) (Or.inl ⟨by rfl, ?_⟩) (by assumption) ?_
  rotate_left
  · (intro w hSw; (try dsimp only at hSw); go_simp; (try with_reducible rfl))
  (try simp only [Act.put, List.setIfInBounds_toArray, List.set_cons_zero, List.set_cons_succ])
  refine wpAnyH_ready (rs := [4]) (by kernel_rfl) (by simp) ?_
  refine AllReadyH.cons rfl (fun K hK => ?_) AllReadyH.nil
  go_simp
  (try rw [hX1])
  refine hK.out _ _ (HS.out _ e1) (fun hHeld => ?_)
  clear hK K
  (try simp only [Act.put, List.setIfInBounds_toArray, List.set_cons_zero, List.set_cons_succ])
  refine wpAnyH_ready (rs := [5]) (by kernel_rfl) (by simp) ?_
  refine AllReadyH.cons rfl (fun K hK => ?_) AllReadyH.nil
  go_simp
  (try rw [hX2])
  refine hK.out _ _ (HS.out _ e2) (fun hHeld => ?_)
  clear hK K
  (try simp only [Act.put, List.setIfInBounds_toArray, List.set_cons_zero, List.set_cons_succ])
  refine wpAnyH_ready (rs := [6]) (by kernel_rfl) (by simp) ?_
  refine AllReadyH.cons rfl (fun K hK => ?_) AllReadyH.nil
  go_simp
  refine hK.out _ _ (HS.out _ e3) (fun hHeld => ?_)
  clear hK K
  refine wpAnyH_done (by kernel_rfl) ?_ _
  simp [bodyPostS, results, Tryd.results14, a3, b3, c3, fr1]
end Go.Proofs.YtigpjemceodjcaaDoor

set_option linter.unusedSimpArgs false
set_option linter.unusedVariables false
namespace Go.Proofs.YtigpjemceodjcaaDoor
open Go.RowKit Go.Maps Go.Lib
variable {w w' w1 w2 W0 W1 W2 W3 W4 WO wr W W5 : World} {A A' F G : Nat → Prop} {R lo : Nat} {t l l' : L} {wh n : Nat} {v v' vp : Value}
def PE (w : World) (x : Except (Nat × Nat) (List (List Stp))) (e : Ending) (w' : World) : Prop := Below w.heap.size w w' ∧ match x with
  | .ok ls => ∃ v, e = .returned (.tuple #[v, .int .i64 0, .int .i64 0]) ∧ QV (fun b => w.heap.size ≤ b) w' v ls
  | .error y => e = .returned (.tuple #[.slice none 0 0, .int .i64 y.1, .int .i64 y.2])
theorem bad_le (q : L) : Ch.bad (bs q) ≤ q.length := by have := Ch.badFrom_le (bs q) ((bs q).size + 1) 0 (Nat.zero_le _); rw [bs_size] at this; unfold Ch.bad; rw [bs_size]; exact this
theorem three_set {a : Nat} (h1 : w.heap[a]? = some (.cells #[.slice none 0 0] 22 (0, 0))) (h2 : w.heap[a + 1]? = some (.cells #[.int .i64 0] 23 (0, 0))) (h3 : w.heap[a + 1 + 1]? = some (.cells #[.int .i64 0] 3 (0, 0))) (v : Value) : ∃ W, ((w.setCell ⟨a, 0, none⟩ v).setCell ⟨a + 1, 0, none⟩ (.int .i64 0)).setCell ⟨a + 1 + 1, 0, none⟩ (.int .i64 0) = W ∧ W.heap[a]? = some (.cells #[v] 22 (0, 0)) ∧ W.heap[a + 1]? = some (.cells #[.int .i64 0] 23 (0, 0)) ∧ W.heap[a + 1 + 1]? = some (.cells #[.int .i64 0] 3 (0, 0)) ∧
    (w.setCell ⟨a, 0, none⟩ v).heap[a + 1]? = some (.cells #[.int .i64 0] 23 (0, 0)) ∧ ((w.setCell ⟨a, 0, none⟩ v).setCell ⟨a + 1, 0, none⟩ (.int .i64 0)).heap[a + 1 + 1]? = some (.cells #[.int .i64 0] 3 (0, 0)) ∧ Fr (fun k => k = a ∨ k = a + 1 ∨ k = a + 1 + 1) w W := by
  have b1 := (Below.heap_setCell w ⟨a, 0, none⟩ v (a + 1) (show a + 1 ≠ a by omega)).trans h2
  have c1 := (Below.heap_setCell w ⟨a, 0, none⟩ v (a + 1 + 1) (show a + 1 + 1 ≠ a by omega)).trans h3
  have c2 := (Below.heap_setCell (w.setCell ⟨a, 0, none⟩ v) ⟨a + 1, 0, none⟩ (.int .i64 0) (a + 1 + 1) (show a + 1 + 1 ≠ a + 1 by omega)).trans c1
  refine ⟨_, rfl, ?_, ?_, set_of (i := 0) c2 _, b1, c2, ((Fr.set (Fr.set (Fr.refl (fun k => k = a ∨ k = a + 1 ∨ k = a + 1 + 1) w) ⟨a, 0, none⟩ v (fun _ => Or.inl rfl)) ⟨a + 1, 0, none⟩ (.int .i64 0) (fun _ => Or.inr (Or.inl rfl))).set ⟨a + 1 + 1, 0, none⟩ (.int .i64 0) (fun _ => Or.inr (Or.inr rfl)))⟩
  · rw [Below.heap_setCell _ _ _ _ (show a ≠ a + 1 + 1 by omega), Below.heap_setCell _ _ _ _ (show a ≠ a + 1 by omega)]; exact set_of (i := 0) h1 v
  · rw [Below.heap_setCell _ _ _ _ (show a + 1 ≠ a + 1 + 1 by omega)]; exact set_of (i := 0) b1 _
set_option maxHeartbeats 8000000 in
set_option maxRecDepth 100000 in
theorem parse_ok (q : L) (w : World) : Calls Tryd.prog 6 #[.string (bs q)] w (PE w (parse q)) := by
  have hz := bs_size q
  have hmf : ∀ (fn : Fn) (first cap : Array Value) (w : World), (Instr.makeFunc fn first cap).run Tryd.prog w = .ok (.func fn first cap) w := fun _ _ _ _ => rfl
  by_cases h5 : 500 < q.length
  · rw [parse, if_pos h5]
    have hd : decide ((500 : Int) < (q.length : Int)) = true := by simp; omega
    have hd2 : decide (500 < q.length) = true := by simpa using h5
    generalize bs q = S at *
    generalize q.length = N at *
    go_enter_defers Tryd.func6, Tryd.ntmps6
    go_wp2
    have hB : Below w.heap.size w (((w.alloc (.cells #[.slice none 0 0] 22)).alloc (.cells #[.int .i64 1] 23)).alloc (.cells #[.int .i64 0] 3)) := (((Below.refl _ w).alloc (Nat.le_refl _) _).alloc (by simp) _).alloc (by simp; omega) _
    simp [bodyPostD, Leaves, settle, results, Tryd.results6, go_sem, PE, hB]
  · rw [parse, if_neg h5]
    have hd : decide ((500 : Int) < (q.length : Int)) = false := by simp; omega
    have hd2 : decide (500 < q.length) = false := by simpa using h5
    have hbl := bad_le q
    have HBD : Hid (∀ W, Calls Tryd.prog 15 #[.string (bs q)] W fun e w' => e = .returned (.int .i64 (Ch.bad (bs q))) ∧ Below W.heap.size W w') := fun W => badC_any (bs q) W (by rw [hz]; omega)
    have hsl : ∀ W, (Instr.slice 9 (.string (bs q)) none (some (.int .i64 (Ch.bad (bs q) : Int))) none).run Tryd.prog W = .ok (.string (bs (cutAt q))) W := take_run q (Ch.bad (bs q)) hbl
    have hcl : (cutAt q).length ≤ q.length := by unfold cutAt; rw [List.length_take]; omega
    have hcut : cutB (cutAt q) q.length = isCut q := rfl
    have HQ : Hid (∀ W : World, Calls Tryd.prog 16 #[ptr W.heap.size] (W.alloc (.cells #[.string (bs (cutAt q)), .int .i64 q.length, .int .i64 0, .int .i64 0] 43)) (Ends W.heap.size (cutAt q) q.length 0 (QV (fun b => (W.alloc (.cells #[.string (bs (cutAt q)), .int .i64 q.length, .int .i64 0, .int .i64 0] 43)).heap.size ≤ b)) (W.alloc (.cells #[.string (bs (cutAt q)), .int .i64 q.length, .int .i64 0, .int .i64 0] 43)) (query (isCut q) (cutAt q)))) := fun W => by
      rw [← hcut]
      refine query_ok ⟨?_, List.suffix_refl _, hcl, by omega, by omega⟩
      have := Below_new W (.cells #[.string (bs (cutAt q)), .int .i64 q.length, .int .i64 0, .int .i64 0] 43)
      simpa using this
    generalize Ch.bad (bs q) = BD at *
    generalize bs q = S at *
    generalize q.length = N at *
    generalize isCut q = ct at *
    generalize cutAt q = t at *
    have HBX : Hid (∀ W1 : World, Below (w.heap.size + 3) (((w.alloc (.cells #[.slice none 0 0] 22)).alloc (.cells #[.int .i64 0] 23)).alloc (.cells #[.int .i64 0] 3)) W1 → W1.heap[w.heap.size]? = some (.cells #[.slice none 0 0] 22 (0, 0)) ∧ W1.heap[w.heap.size + 1]? = some (.cells #[.int .i64 0] 23 (0, 0)) ∧ W1.heap[w.heap.size + 1 + 1]? = some (.cells #[.int .i64 0] 3 (0, 0)) ∧ w.heap.size + 3 ≤ W1.heap.size ∧ Below w.heap.size w W1) := fun W1 hb => by
      have h1 := Below_new (w.alloc (.cells #[.slice none 0 0] 22)) (.cells #[.int .i64 0] 23)
      have h2 := Below_new ((w.alloc (.cells #[.slice none 0 0] 22)).alloc (.cells #[.int .i64 0] 23)) (.cells #[.int .i64 0] 3)
      refine ⟨?_, ?_, ?_, by have := hb.size; simpa using this, ((((Below.refl _ w).alloc (Nat.le_refl _) _).alloc (by simp) _).alloc (by simp; omega) _).trans (below_less hb (by omega))⟩
      · rw [hb.block _ (by omega), Below.heap_alloc _ _ _ (by simp; omega), Below.heap_alloc _ _ _ (by simp)]; exact Below_new _ _
      · rw [hb.block _ (by omega), Below.heap_alloc _ _ _ (by simp)]; simpa using h1
      · rw [hb.block _ (by omega)]; simpa using h2
    have HB3 : Hid (∀ W2 W3 : World, Below (((w.alloc (.cells #[.slice none 0 0] 22)).alloc (.cells #[.int .i64 0] 23)).alloc (.cells #[.int .i64 0] 3)).heap.size (((w.alloc (.cells #[.slice none 0 0] 22)).alloc (.cells #[.int .i64 0] 23)).alloc (.cells #[.int .i64 0] 3)) W2 → Fr (fun k => k = W2.heap.size) (W2.alloc (.cells #[.string (bs t), .int .i64 N, .int .i64 0, .int .i64 0] 43)) W3 → (W3.heap[w.heap.size]? = some (.cells #[.slice none 0 0] 22 (0, 0)) ∧ W3.heap[w.heap.size + 1]? = some (.cells #[.int .i64 0] 23 (0, 0)) ∧ W3.heap[w.heap.size + 1 + 1]? = some (.cells #[.int .i64 0] 3 (0, 0))) ∧ w.heap.size + 3 ≤ W2.heap.size ∧ Below w.heap.size w W3) := fun W2 W3 hb f => by
      obtain ⟨h1, h2, h3, h4, h5⟩ := HBX.out W2 (by simpa using hb)
      have f2 : Fr (fun k => k = W2.heap.size) W2 W3 := ((Fr.refl _ W2).alloc _).same f
      exact ⟨⟨(f2.block _ (by omega) (by omega)).trans h1, (f2.block _ (by omega) (by omega)).trans h2, (f2.block _ (by omega) (by omega)).trans h3⟩, h4, h5.trans (f2.up (K := w.heap.size) (fun k e => by omega) (by omega))⟩
    cases hx : query ct t with
    | error y =>
      rw [hx] at HQ
      simp only
      clear hx h5 hbl hcl hcut
      go_enter_defers Tryd.func6, Tryd.ntmps6
      go_wp2_with (first | (go_at_call 15; refine (HBD.out _).mono ?_; rintro e w2 ⟨rfl, hb2⟩) | (go_at_call 16; refine (HQ.out _).mono ?_; rintro e w3 ⟨rfl, fr3⟩))
      obtain ⟨⟨h1, h2, h3⟩, hz2, hB⟩ := HB3.out _ _ hb2 fr3
      refine leaves_cons (f := 14) (args := #[ptr w.heap.size, ptr (w.heap.size + 1), ptr (w.heap.size + 1 + 1)]) (by simp) (by simp [go_sem]) ?_
      refine (catch_hit w.heap.size (w.heap.size + 1) (w.heap.size + 1 + 1) _ _ _ h1 h2 h3 (by omega) (by omega) (by omega)).mono ?_
      rintro e u' w4 ⟨rfl, rfl, k1, k2, k3, f4⟩
      have hB4 : Below w.heap.size w w4 := hB.trans (f4.up (K := w.heap.size) (fun k e => by omega) hB.size)
      have c1 := cell_of (i := 0) k1 rfl
      have c2 := cell_of (i := 0) k2 rfl
      have c3 := cell_of (i := 0) k3 rfl
      simp [Leaves, settle, results, Tryd.results6, go_sem, c1, c2, c3, PE, hB4]
    | ok z =>
      obtain ⟨ls, l1⟩ := z
      rw [hx] at HQ
      simp only
      clear hx h5 hbl hcl hcut
      go_enter_defers Tryd.func6, Tryd.ntmps6
      go_wp2_with (first | (go_at_call 15; refine (HBD.out _).mono ?_; rintro e w2 ⟨rfl, hb2⟩) | (go_at_call 16; refine (HQ.out _).mono ?_; rintro e w3 ⟨v3, rfl, qv3, rd3, fr3⟩; obtain ⟨⟨h1, h2, h3⟩, hz2, hB⟩ := HB3.out _ _ hb2 fr3; obtain ⟨vi, vc, rfl⟩ := sl.shape qv3; have QVH := hide qv3; clear qv3; obtain ⟨W4, hW4, h1', h2', h3', h2b, h3b, f4⟩ := three_set h1 h2 h3 (.slice vi ls.length vc); have x1 := cell_of (i := 0) h1 rfl; have y1 := free_of (i := 0) h1; have x2 := cell_of (i := 0) h2b rfl; have y2 := free_of (i := 0) h2b; have x3 := cell_of (i := 0) h3b rfl; have y3 := free_of (i := 0) h3b))
      refine leaves_cons (f := 14) (args := #[ptr w.heap.size, ptr (w.heap.size + 1), ptr (w.heap.size + 1 + 1)]) (by simp) (by simp [go_sem]) ?_
      refine (catch_idle w.heap.size (w.heap.size + 1) (w.heap.size + 1 + 1) _).mono ?_
      rintro e u' w5 ⟨rfl, rfl, rfl⟩
      have c1 := cell_alloc (.cells #[.int .i64 0, .int .i64 0] 39) (cell_of (i := 0) h1' rfl)
      have c2 := cell_alloc (.cells #[.int .i64 0, .int .i64 0] 39) (cell_of (i := 0) h2' rfl)
      have c3 := cell_alloc (.cells #[.int .i64 0, .int .i64 0] 39) (cell_of (i := 0) h3' rfl)
      have f5 := f4.alloc (.cells #[.int .i64 0, .int .i64 0] 39)
      have hB5 : Below w.heap.size w (W4.alloc (.cells #[.int .i64 0, .int .i64 0] 39)) := hB.trans (f5.up (K := w.heap.size) (fun k e => by omega) hB.size)
      have qv5 : QV (fun b => w.heap.size ≤ b) (W4.alloc (.cells #[.int .i64 0, .int .i64 0] 39)) (.slice vi ls.length vc) ls := QS.move (fun b hb hl => (fun (hb' : w2.heap.size + 1 ≤ b) => ⟨by omega, f5.block b hl (by omega)⟩) (by simpa using hb)) QVH.out
      simp [Leaves, settle, results, Tryd.results6, go_sem, c1, c2, c3, PE, hB5, qv5]
end Go.Proofs.YtigpjemceodjcaaDoor

set_option linter.unusedSimpArgs false
set_option linter.unusedVariables false
namespace Go.Proofs.YtigpjemceodjcaaDoor
open Go

structure RS where
  l : L
  nest : Int
  err : Nat
  at_ : Nat
def RS.bl (s : RS) : RS := if s.err = 0 then { s with l := skip s.l } else s
def RS.fail (q : L) (e : Nat) (s : RS) : RS := if s.err = 0 then { s with err := e, at_ := q.length - s.l.length } else s
def okw (q l : L) : Nat := ((Ch.at2 (bs q) (q.length - l.length)).2).toNat
def RS.wrong (q : L) (s : RS) : RS := s.bl.fail q (if s.bl.l ≠ [] ∧ okw q s.bl.l = 0 then 2 else 3)
def isB (p l : L) : Bool := Lib.hasPrefix l p && (p != [47] || !(Lib.hasPrefix (l.drop 1) [47]))
def RS.is (p : L) (s : RS) : Bool := decide (s.err = 0) && isB p s.bl.l
def RS.has (p : L) (s : RS) : RS := if s.is p = true then { s.bl with l := s.bl.l.drop p.length } else s.bl
def RS.must (q p : L) (s : RS) : RS := if s.is p = true then s.has p else (s.has p).wrong q
def RS.peek (s : RS) : L := if s.err = 0 then s.bl.l.take (nm s.bl.l) else []
def RS.name (q : L) (s : RS) : RS := if s.peek = [] then s.bl.wrong q else { s.bl with l := s.bl.l.drop s.peek.length }
def RS.called (p : L) (s : RS) : Bool := s.peek == p && RS.is [40] { s.bl with l := s.bl.l.drop s.peek.length }
def RS.opn (q p : L) (s : RS) : RS := if s.is p = true then (let s1 := if s.nest = 8 then s.bl.fail q 8 else s.bl; { s1 with nest := IntKind.i64.wrap (s1.nest + 1), l := s1.l.drop 1 }) else s.bl.wrong q
def RS.shut (q p : L) (s : RS) : RS := { s.must q p with nest := IntKind.i64.wrap ((s.must q p).nest - 1) }
def scan (q : L) (c : UInt8) : Nat → L → L × Nat
  | 0, l => (l, 3)
  | f + 1, l => match l with
    | [] => ([], 3)
    | b :: r => if b = c then (b :: r, 0) else if okw q (b :: r) = 0 then (b :: r, 2) else scan q c f ((b :: r).drop (okw q (b :: r)))
def quoteR (q : L) (c : UInt8) (s : RS) : L × RS :=
  let x := scan q c (s.l.length + 1) s.l
  if x.2 = 0 then (s.l.take (s.l.length - x.1.length), { s with l := x.1.drop 1 }) else ([], RS.fail q x.2 { s with l := x.1 })
def quotedR (q : L) (s : RS) : L × RS := if s.is [34] = true then quoteR q 34 (s.has [34]) else if s.bl.is [39] = true then quoteR q 39 (s.bl.has [39]) else ([], (s.bl.has [39]).wrong q)
def testR (q : L) (s : RS) : L × RS :=
  if s.is [42] = true then ([42], s.has [42]) else if s.bl.called wText = true then ([35], ((s.bl.bl.name q).must q [40]).must q [41]) else (s.bl.bl.peek, s.bl.bl.name q)
variable (q : L) (inner : RS → Prd × RS)
def predsR : Nat → RS → List Prd × RS
  | 0, s => ([], s)
  | f + 1, s => if s.is [91] = true then
      (let x := inner (s.bl.opn q [91]); let y := predsR f (x.2.shut q [93]); (x.1 :: y.1, y.2)) else ([], s.bl)
def stepR (deep : Bool) (s : RS) : Stp × RS :=
  let x := testR q s
  let y := predsR q inner (x.2.l.length + 1) x.2
  (⟨deep, x.1, Prds.of y.1⟩, y.2)
def lastText (l : List Stp) : Bool := match l.getLast? with
  | some s => s.test == [35]
  | none => false
def moreR (may : Bool) : Nat → List Stp → RS → List Stp × RS
  | 0, l, s => (l, s)
  | f + 1, l, s => if s.err ≠ 0 then (l, s) else if lastText l = true then (l, s) else
      if s.is [47, 47] = true then (let x := stepR q inner true (s.has [47, 47]); moreR may f (l ++ [x.1]) x.2)
      else if s.bl.is [47] = true then
        (if may = true ∧ (s.bl.has [47]).is [64] = true then (l, { (s.bl.has [47]).bl with l := s.l })
         else let x := stepR q inner false (if may = true then (s.bl.has [47]).bl else s.bl.has [47]); moreR may f (l ++ [x.1]) x.2)
      else (l, s.bl)
def pathR (s : RS) : List Stp × RS := if s.is [47, 47] = true ∨ s.bl.is [47] = true then moreR q inner false (s.l.length + 1) [] s.bl else ([], s.bl.wrong q)
def attrR (s : RS) (l : List Stp) : Prd × RS :=
  if s.err = 0 ∧ lastText l = false ∧ s.is [47] = true then (⟨[], .nil, Stps.of l, ((s.has [47]).must q [64]).peek, []⟩, ((s.has [47]).must q [64]).name q)
  else (⟨[], .nil, Stps.of l, [], []⟩, if s.err = 0 ∧ lastText l = false then s.bl else s)
def valueR (s : RS) : Prd × RS :=
  if s.is [64] = true then (⟨[], .nil, .nil, (s.has [64]).peek, []⟩, (s.has [64]).name q)
  else if s.bl.is [46] = true then
    (if (s.bl.has [46]).is [47, 47] = true then (let y := moreR q inner true ((s.bl.has [46]).l.length + 1) [] (s.bl.has [46]).bl; attrR q y.2 y.1) else (⟨[], .nil, .nil, [], []⟩, (s.bl.has [46]).bl))
  else let x := stepR q inner false s.bl.bl; let y := moreR q inner true (x.2.l.length + 1) [x.1] x.2; attrR q y.2 y.1
def oneR (s : RS) : Prd × RS :=
  if s.called wNot = true then (let x := inner ((s.bl.name q).opn q [40]); (⟨wNot, Prds.of [x.1], .nil, [], []⟩, x.2.shut q [41]))
  else if s.bl.is [40] = true then (let x := inner (s.bl.bl.opn q [40]); (x.1, x.2.shut q [41]))
  else
    let x := valueR q inner s.bl.bl
    if x.2.is [33, 61] = true then (let y := quotedR q (x.2.has [33, 61]); (⟨[33, 61], x.1.kids, x.1.steps, x.1.attr, y.1⟩, y.2))
    else if x.2.bl.is [61] = true then (let y := quotedR q (x.2.bl.has [61]); (⟨[61], x.1.kids, x.1.steps, x.1.attr, y.1⟩, y.2))
    else (⟨wHas, x.1.kids, x.1.steps, x.1.attr, x.1.text⟩, x.2.bl.bl)
def severalR (op : L) (l : List Prd) : Prd := match l with
  | [p] => p
  | l => ⟨op, Prds.of l, .nil, [], []⟩
def loopR (word : L) (read : RS → Prd × RS) : Nat → RS → List Prd × RS
  | 0, s => ([], s)
  | f + 1, s => if s.err ≠ 0 then ([], s) else if s.peek = word then
      (let x := read (s.bl.name q); let y := loopR word read f x.2; (x.1 :: y.1, y.2)) else ([], s.bl)
def joinR (word : L) (read : RS → Prd × RS) (s : RS) : Prd × RS :=
  let x := read s
  let y := loopR q word read (x.2.l.length + 1) x.2
  (severalR word (x.1 :: y.1), y.2)
def bothR : RS → Prd × RS := joinR q wAnd (oneR q inner)
def condR : RS → Prd × RS := joinR q wOr (bothR q inner)
end Go.Proofs.YtigpjemceodjcaaDoor
namespace Go.Proofs.YtigpjemceodjcaaDoor
open Go
def junk : Prd := ⟨wHas, .nil, Stps.of [⟨false, [], .nil⟩], [], []⟩
def condRAt (q : L) : Nat → RS → Prd × RS
  | 0 => condR q fun s => (junk, s)
  | d + 1 => condR q (condRAt q d)
def inRAt (q : L) : Nat → RS → Prd × RS
  | 0 => fun s => (junk, s)
  | d + 1 => condRAt q d
theorem condRAt_eq (q : L) (d : Nat) : condRAt q d = condR q (inRAt q d) := by cases d <;> rfl
def pathsR (q : L) : Nat → RS → List (List Stp) × RS
  | 0, s => ([], s)
  | f + 1, s => if s.is [124] = true then (let x := pathR q (inRAt q 8) (s.has [124]); let y := pathsR q f x.2; (x.1 :: y.1, y.2)) else ([], s.bl)
def queryR (q : L) (s : RS) : List (List Stp) × RS :=
  let x := pathR q (inRAt q 8) s
  let y := pathsR q (x.2.l.length + 1) x.2
  (x.1 :: y.1, y.2)
def RS.start (q : L) : RS := ⟨q, 0, 0, 0⟩
def parseR (q : L) : Except (Nat × Nat) (List (List Stp)) :=
  if 500 < q.length then .error (1, 0) else
    let x := queryR q (RS.start q)
    let s := if x.2.bl.err = 0 ∧ x.2.bl.l ≠ [] then x.2.bl.wrong q else x.2.bl
    if s.err = 0 then .ok x.1 else .error (s.err, s.at_)
end Go.Proofs.YtigpjemceodjcaaDoor

set_option linter.unusedSimpArgs false
set_option linter.unusedVariables false
namespace Go.Proofs.YtigpjemceodjcaaDoor
open Go.RowKit Go.Maps Go.Lib
variable {w w' w1 w2 W0 W1 W2 W3 W4 WO wr W W5 : World} {A A' F G : Nat → Prop} {X lo : Nat} {q l l' : L} {s s' : RS} {v v' vp : Value}
structure XR (X : Nat) (q : L) (w : World) (s : RS) : Prop where
  blk : w.heap[X]? = some (.cells #[.string (bs q), .int .i64 ((q.length - s.l.length : Nat) : Int), .int .i64 s.nest, .int .i64 s.err, .int .i64 s.at_] 47 (0, 0))
  suf : s.l <:+ q
  q5 : q.length ≤ 500
theorem XR.lt (h : XR X q w s) : X < w.heap.size := blk_lt h.blk
theorem XR.fr (h : XR X q w s) (f : Fr F w w') (hX : ¬ F X) : XR X q w' s := ⟨(f.block X h.lt hX).trans h.blk, h.suf, h.q5⟩
theorem XR.below (h : XR X q w s) (b : Below w.heap.size w w') : XR X q w' s := ⟨(b.block X h.lt).trans h.blk, h.suf, h.q5⟩
theorem XR.le (h : XR X q w s) : s.l.length ≤ q.length := h.suf.length_le
theorem XR.cells (h : XR X q w s) : w.cell? ⟨X, 0, none⟩ = some (.string (bs q)) ∧ w.cell? ⟨X, 1, none⟩ = some (.int .i64 ((q.length - s.l.length : Nat) : Int)) ∧ w.cell? ⟨X, 2, none⟩ = some (.int .i64 s.nest) ∧ w.cell? ⟨X, 3, none⟩ = some (.int .i64 s.err) ∧ w.cell? ⟨X, 4, none⟩ = some (.int .i64 s.at_) :=
  ⟨cell_of h.blk rfl, cell_of h.blk rfl, cell_of h.blk rfl, cell_of h.blk rfl, cell_of h.blk rfl⟩
theorem XR.setL (h : XR X q w s) (hl : l <:+ q) : XR X q (w.setCell ⟨X, 1, none⟩ (.int .i64 ((q.length - l.length : Nat) : Int))) { s with l := l } := ⟨set_of h.blk _, hl, h.q5⟩
theorem XR.setN (h : XR X q w s) (m : Int) : XR X q (w.setCell ⟨X, 2, none⟩ (.int .i64 m)) { s with nest := m } := ⟨set_of h.blk _, h.suf, h.q5⟩
theorem fr_set (w : World) (X i : Nat) (u : Value) : Fr (fun k => k = X) w (w.setCell ⟨X, i, none⟩ u) := (Fr.refl (fun k => k = X) w).set ⟨X, i, none⟩ u (fun _ => rfl)
abbrev XE (X : Nat) (q : L) (w : World) (s : RS) (e : Ending) (w' : World) : Prop := e = .returned (.tuple #[]) ∧ XR X q w' s ∧ Fr (fun k => k = X) w w'
set_option maxHeartbeats 2000000 in
theorem failR_ok (h : XR X q w s) (e : Nat) : Calls Tryd.prog 33 #[ptr X, .int .i64 e, .int .i64 ((q.length - s.l.length : Nat) : Int)] w (XE X q w (s.fail q e)) := by
  obtain ⟨c0, c1, c2, c3, c4⟩ := h.cells
  unfold RS.fail
  by_cases he : s.err = 0
  · rw [if_pos he]
    rw [he] at c3
    have c3 : w.cell? ⟨X, 3, none⟩ = some (.int .i64 0) := c3
    have f3 := free_of (i := 3) h.blk
    have b1 : (w.setCell ⟨X, 3, none⟩ (.int .i64 e)).heap[X]? = _ := set_of h.blk _
    have d4 := cell_of (i := 4) b1 rfl
    have f4 := free_of (i := 4) b1
    have HE : Hid (XR X q ((w.setCell ⟨X, 3, none⟩ (.int .i64 e)).setCell ⟨X, 4, none⟩ (.int .i64 ((q.length - s.l.length : Nat) : Int))) { s with err := e, at_ := q.length - s.l.length } ∧ Fr (fun k => k = X) w ((w.setCell ⟨X, 3, none⟩ (.int .i64 e)).setCell ⟨X, 4, none⟩ (.int .i64 ((q.length - s.l.length : Nat) : Int)))) := ⟨⟨set_of b1 _, h.suf, h.q5⟩, (fr_set _ _ _ _).same (fr_set _ _ _ _)⟩
    clear h b1 he c1 c2 c4 c0
    go_enter Tryd.func33, Tryd.ntmps33
    go_wp2
    go_end0
    exact ⟨rfl, HE.out.1, HE.out.2⟩
  · rw [if_neg he]
    have hb : ((s.err : Int) == 0) = false := by simp; omega
    have hb2 : (s.err == 0) = false := by simpa using he
    have H := hide h
    clear h he c0 c1 c2 c4
    go_enter Tryd.func33, Tryd.ntmps33
    go_wp2
    go_end0
    exact ⟨rfl, H.out, Fr.refl _ _⟩
theorem blankR_any (c : UInt8) (w : World) : Calls Tryd.prog 31 #[.int .u8 (c.toNat : Int)] w fun e w' => e = .returned (.bool ([9, 10, 13, 32].contains c)) ∧ w' = w := by
  have h1 : ([9, 10, 13, 32].contains c) = ((c.toNat : Int) == 32 || (c.toNat : Int) == 9 || (c.toNat : Int) == 10 || (c.toNat : Int) == 13) := by
    have e : ∀ k : UInt8, ((c.toNat : Int) == (k.toNat : Int)) = (c == k) := fun k => by
      rw [Bool.eq_iff_iff, beq_iff_eq, beq_iff_eq]
      constructor
      · intro h; exact UInt8.toNat_inj.1 (by omega)
      · intro h; rw [h]
    have e1 : ((c.toNat : Int) == 32) = (c == 32) := e 32
    have e2 : ((c.toNat : Int) == 9) = (c == 9) := e 9
    have e3 : ((c.toNat : Int) == 10) = (c == 10) := e 10
    have e4 : ((c.toNat : Int) == 13) = (c == 13) := e 13
    rw [e1, e2, e3, e4]
    simp only [List.contains_cons, List.contains_nil, Bool.or_false]
    cases (c == 9) <;> cases (c == 10) <;> cases (c == 13) <;> cases (c == 32) <;> rfl
  rw [h1]
  clear h1
  generalize (c.toNat : Int) = k
  go_enter Tryd.func31, Tryd.ntmps31
  go_wp2
  all_goals go_ret
  all_goals refine ⟨ret_bool ?_, rfl⟩
  all_goals try simp only [beq_iff_eq, beq_eq_false_iff_ne, ne_eq] at *
  all_goals rw [Bool.eq_iff_iff]
  all_goals try simp only [Bool.or_eq_true, beq_iff_eq]
  all_goals first | omega | (simp_all; done) | (simp_all; omega)
theorem index_run {b : UInt8} {r : L} (h : (b :: r) <:+ q) (w : World) : (Instr.index 9 (.string (bs q)) (.int .i64 ((q.length - (b :: r).length : Nat) : Int))).run Tryd.prog w = .ok (.int .u8 (b.toNat : Int)) w := by
  have hd := suf_drop h
  have hle := h.length_le
  simp only [List.length_cons] at hle hd ⊢
  generalize hk : q.length - (r.length + 1) = k at *
  have hkl : k < q.length := by omega
  have hq : q[k]? = some b := by have := congrArg (·[0]?) hd; simpa using this
  have hi : 0 ≤ (k : Int) ∧ (k : Int) < (bs q).size := ⟨by omega, by rw [bs_size]; omega⟩
  rw [run_index_string _ _ _ _ _ Tryd.underlying9, dif_pos hi]
  have hb : (bs q)[(k : Int).toNat]'(by rw [bs_size]; omega) = b := by
    have h2 : q[k] = b := by rw [List.getElem?_eq_getElem hkl] at hq; exact Option.some.inj hq
    simp [bs, ByteArray.getElem_eq_getElem_data, h2]
  rw [hb]
end Go.Proofs.YtigpjemceodjcaaDoor
