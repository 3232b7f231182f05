import Derived.Shelf.Strings.BuilderK
import Derived.Lib.RuneBytes
import Derived.Test.YtigpjemceodjcaaGreatDoorGag
import Derived.Test.YtigpjemceodjcaaGreatDoorGaa
set_option linter.unusedVariables false
set_option linter.unusedSimpArgs false
set_option linter.unusedSimpArgs false
set_option linter.unusedVariables false
namespace Go.Proofs.YtigpjemceodjcaaGreatDoor
open Go.RowKit Go.Maps Go.Lib
variable {w w' w1 w2 W0 W1 W2 W3 W4 WO wr W W5 : World} {A F G : Nat → Prop} {R lo Bp Br : Nat} {t l l' : L} {wh n : Nat} {inn : Option (L → Rs Prd)} {v v' vp vk vs : Value} {X : Rs Prd} {p : Prd}
theorem enters75 : ∀ args w, (callFunc 90 args).run Tryz.prog w = .ok (.enter 90 args) w := enters_of Tryz.func90 (by kernel_rfl) rfl
set_option maxHeartbeats 4000000 in
set_option maxRecDepth 100000 in
theorem both_ok (hi : InOK R t wh n inn) (h : RD R t wh n w l) : Calls Tryz.prog 81 #[ptr R] w (Ends R t wh n (PV (fun b => w.heap.size ≤ b) 51 86) w (both (cutB t wh) inn l)) := by
  have B0 := hide (Box1.start h)
  have hmf : ∀ (fn : Fn) (first cap : Array Value) (w : World), (Instr.makeFunc fn first cap).run Tryz.prog w = .ok (.func fn first cap) w := fun _ _ _ _ => rfl
  generalize hW0 : w.alloc (.cells zero5 86) = W0 at *
  have HJ : Hid (Calls Tryz.prog 80 #[ptr R, .string ⟨#[97, 110, 100]⟩, .func (.func 90) #[ptr R] #[]] W0 (Ends R t wh n (PV (fun b => W0.heap.size ≤ b) 51 86) W0 (both (cutB t wh) inn l))) := joined_ok (word := wAnd) (by decide) enters75 (fun W l hW => one_ok hi hW) (one_suf hi.suf) B0.out.rd
  clear hi h
  cases hy : both (cutB t wh) inn l with
  | error y =>
    rw [hy] at HJ
    clear hy
    go_enter Tryz.func81, Tryz.ntmps81
    go_wp2_with (first | (go_at_call 80; (try rw [hW0]); refine HJ.out.mono ?_; rintro e w4 ⟨rfl, fr4⟩))
    exact ⟨rfl, rfl, B0.out.thr fr4⟩
  | ok z =>
    obtain ⟨p, l2⟩ := z
    rw [hy] at HJ
    clear hy
    go_enter Tryz.func81, Tryz.ntmps81
    go_wp2_with (first | (go_at_call 80; (try rw [hW0]); refine HJ.out.mono ?_; rintro e w4 ⟨v4, rfl, pv4, rd4, fr4⟩; obtain ⟨ki, nk, kc, si, ns, sc, rfl, bq3, hf⟩ := B0.out.fin fr4 rd4 pv4; clear pv4; have HFN := hide hf; clear hf; obtain ⟨⟨y0, y1, y2, y3, y4⟩, z0, z1, z2, z3, z4⟩ := cells5 bq3))
    obtain ⟨W5, hW5, r5, fr5q⟩ := box5 (.string (bs p.op)) (.slice ki nk kc) (.slice si ns sc) (.string (bs p.attr)) (.string (bs p.text)) bq3
    rw [hW5]
    clear hW5 y0 y1 y2 y3 y4 z0 z1 z2 z3 z4
    obtain ⟨⟨k0, k1, k2, k3, k4⟩, -⟩ := cells5 r5
    obtain ⟨q1, q2, q3⟩ := HFN.out _ fr5q
    refine bodyPost_ret (v := .agg #[.string (bs p.op), .slice ki nk kc, .slice si ns sc, .string (bs p.attr), .string (bs p.text)]) (by simp [results, Tryz.results81, go_sem, k0, k1, k2, k3, k4]) rfl ⟨_, rfl, q1, q2, q3⟩
theorem enters64 : ∀ args w, (callFunc 81 args).run Tryz.prog w = .ok (.enter 81 args) w := enters_of Tryz.func81 (by kernel_rfl) rfl
set_option maxHeartbeats 4000000 in
set_option maxRecDepth 100000 in
theorem cond_ok (hi : InOK R t wh n inn) (h : RD R t wh n w l) : Calls Tryz.prog 64 #[ptr R] w (Ends R t wh n (PV (fun b => w.heap.size ≤ b) 51 86) w (cond (cutB t wh) inn l)) := by
  have B0 := hide (Box1.start h)
  have hmf : ∀ (fn : Fn) (first cap : Array Value) (w : World), (Instr.makeFunc fn first cap).run Tryz.prog w = .ok (.func fn first cap) w := fun _ _ _ _ => rfl
  generalize hW0 : w.alloc (.cells zero5 86) = W0 at *
  have HJ : Hid (Calls Tryz.prog 80 #[ptr R, .string ⟨#[111, 114]⟩, .func (.func 81) #[ptr R] #[]] W0 (Ends R t wh n (PV (fun b => W0.heap.size ≤ b) 51 86) W0 (cond (cutB t wh) inn l))) := joined_ok (word := wOr) (by decide) enters64 (fun W l hW => both_ok hi hW) (fun l => joined_suf (one_suf hi.suf) l) B0.out.rd
  clear hi h
  cases hy : cond (cutB t wh) inn l with
  | error y =>
    rw [hy] at HJ
    clear hy
    go_enter Tryz.func64, Tryz.ntmps64
    go_wp2_with (first | (go_at_call 80; (try rw [hW0]); refine HJ.out.mono ?_; rintro e w4 ⟨rfl, fr4⟩))
    exact ⟨rfl, rfl, B0.out.thr fr4⟩
  | ok z =>
    obtain ⟨p, l2⟩ := z
    rw [hy] at HJ
    clear hy
    go_enter Tryz.func64, Tryz.ntmps64
    go_wp2_with (first | (go_at_call 80; (try rw [hW0]); refine HJ.out.mono ?_; rintro e w4 ⟨v4, rfl, pv4, rd4, fr4⟩; obtain ⟨ki, nk, kc, si, ns, sc, rfl, bq3, hf⟩ := B0.out.fin fr4 rd4 pv4; clear pv4; have HFN := hide hf; clear hf; obtain ⟨⟨y0, y1, y2, y3, y4⟩, z0, z1, z2, z3, z4⟩ := cells5 bq3))
    obtain ⟨W5, hW5, r5, fr5q⟩ := box5 (.string (bs p.op)) (.slice ki nk kc) (.slice si ns sc) (.string (bs p.attr)) (.string (bs p.text)) bq3
    rw [hW5]
    clear hW5 y0 y1 y2 y3 y4 z0 z1 z2 z3 z4
    obtain ⟨⟨k0, k1, k2, k3, k4⟩, -⟩ := cells5 r5
    obtain ⟨q1, q2, q3⟩ := HFN.out _ fr5q
    refine bodyPost_ret (v := .agg #[.string (bs p.op), .slice ki nk kc, .slice si ns sc, .string (bs p.attr), .string (bs p.text)]) (by simp [results, Tryz.results64, go_sem, k0, k1, k2, k3, k4]) rfl ⟨_, rfl, q1, q2, q3⟩
theorem condAt_ok : ∀ d, d ≤ 8 → CondOK R t wh (8 - d) (condAt (cutB t wh) d) ∧ InOK R t wh (8 - d) (inAt (cutB t wh) d)
  | 0, _ => by
    have hi : InOK R t wh 8 (inAt (cutB t wh) 0) := Or.inl ⟨rfl, rfl⟩
    exact ⟨fun W l h => cond_ok hi h, hi⟩
  | d + 1, hd => by
    have ih := (condAt_ok d (by omega)).1
    have hi : InOK R t wh (8 - (d + 1)) (inAt (cutB t wh) (d + 1)) := Or.inr ⟨condAt (cutB t wh) d, rfl, by omega, condAt_suf d, by rw [show 8 - (d + 1) + 1 = 8 - d by omega]; exact ih⟩
    exact ⟨fun W l h => cond_ok hi h, hi⟩
theorem in8 : InOK R t wh 0 (inAt (cutB t wh) 8) := (condAt_ok 8 (by omega)).2
end Go.Proofs.YtigpjemceodjcaaGreatDoor

set_option linter.unusedSimpArgs false
set_option linter.unusedVariables false
namespace Go.Proofs.YtigpjemceodjcaaGreatDoor
open Go.RowKit Go.Maps Go.Lib
variable {w w' w1 w2 W0 W1 W2 W3 W4 WO wr W W5 : World} {A A' F G : Nat → Prop} {R lo : Nat} {t l l' : L} {wh n : Nat} {v v' vp : Value} {tQ tS tP : TypeId}
def QS (w : World) (A : Nat → Prop) (tQ tS tP : TypeId) (v : Value) (l : List (List Stp)) : Prop := sl w A tQ v l.length fun g => ∀ i p, l[i]? = some p → ∃ u, w.cell? ⟨g, i, none⟩ = some u ∧ slS w A tS tP u (Stps.of p)
theorem QS.move {l : List (List Stp)} (hm : Move A A' w w') (h : QS w A tQ tS tP v l) : QS w' A' tQ tS tP v l :=
  sl.move hm h fun g ha hl hr i p hi => by
    obtain ⟨u, h1, h2⟩ := hr i p hi
    exact ⟨u, (World.cell?_of_block (hm g ha hl).2).trans h1, h2.move hm⟩
structure GQ (lo : Nat) (tQ tS tP : TypeId) (w : World) (v : Value) (l : List (List Stp)) : Prop where
  ex : ∃ xs : List (List Stp × Value), xs.map (·.1) = l ∧ w.ownsRow 0 tQ 1 v l.length (xs.map (·.2)) ∧ ∀ x ∈ xs, slS w (fun b => lo ≤ b ∧ some b ≠ v.ownBlock) tS tP x.2 (Stps.of x.1)
  own : ∀ k, v.ownBlock = some k → lo ≤ k
variable {lq : List (List Stp)} {p : List Stp}
theorem GQ.lt (h : GQ lo tQ tS tP w v lq) {k : Nat} (e : v.ownBlock = some k) : k < w.heap.size := by obtain ⟨xs, _, h2, _⟩ := h.ex; exact own_lt h2 e
theorem GQ.fr (h : GQ lo tQ tS tP w v lq) (hf : Fr F w w') (hF : ∀ k, F k → k < w.heap.size → k < lo) : GQ lo tQ tS tP w' v lq := by
  obtain ⟨xs, h1, h2, h3⟩ := h.ex
  have hb : ∀ b, lo ≤ b → b < w.heap.size → w'.heap[b]? = w.heap[b]? := fun b h1 h2 => hf.block b h2 (fun x => by have := hF b x h2; omega)
  exact ⟨⟨xs, h1, owns_of h2 fun k e => hb k (h.own k e) (own_lt h2 e), fun x hx => (h3 x hx).move fun b ha hl => ⟨ha, hb b ha.1 hl⟩⟩, h.own⟩
theorem GQ.first (hlo : lo ≤ w.heap.size) (sv : slS w (fun b => lo ≤ b) tS tP vp (Stps.of p)) : GQ lo tQ tS tP (w.alloc (.cells #[vp] tQ)) (.slice (some ⟨w.heap.size, 0, none⟩) 1 1) [p] :=
  ⟨⟨[(p, vp)], rfl, owns_new [vp] tQ 1 w rfl (by decide), fun x hx => by
    obtain rfl : x = (p, vp) := by simpa using hx
    exact sv.move fun b hb hl => ⟨⟨hb, fun e => by have : b = w.heap.size := Option.some.inj e; omega⟩, Below.heap_alloc _ _ _ hl⟩⟩, fun k e => by have : w.heap.size = k := Option.some.inj e; omega⟩
theorem GQ.prep (h : GQ lo tQ tS tP W0 v lq) (fr : Fr (fun k => k = R) W0 W2) (hR : R < lo) (hlo : lo ≤ W0.heap.size) (sv : slS W2 (fun b => W0.heap.size ≤ b) tS tP vp (Stps.of p)) (o : Obj) :
    ∃ xs, (W2.alloc o).ownsRow 0 tQ 1 v lq.length xs ∧ ∀ v' W4, W4.ownsRow 0 tQ 1 v' (lq.length + 1) (xs ++ [vp]) → (W2.alloc o).grownBy W4 v.ownBlock → (v'.ownBlock = v.ownBlock ∨ v'.ownBlock = some (W2.alloc o).heap.size) → GQ lo tQ tS tP W4 v' (lq ++ [p]) ∧ Fr (fun k => k = R ∨ lo ≤ k) W0 W4 ∧ Fr (fun k => lo ≤ k) W2 W4 := by
  have g3 := h.fr (fr.alloc o) fun k e _ => by omega
  obtain ⟨xs, x1, x2, x3⟩ := g3.ex
  refine ⟨_, x2, fun v' W4 ho hg hat => ⟨⟨⟨xs ++ [(p, vp)], by rw [List.map_append, x1]; rfl, by rw [List.length_append, List.map_append]; exact ho, fun x hx => ?_⟩, fun k e => ?_⟩, ?_, ?_⟩⟩
  · have hz := fr.size
    have hm : Move (fun b => lo ≤ b ∧ some b ≠ v.ownBlock) (fun b => lo ≤ b ∧ some b ≠ v'.ownBlock) (W2.alloc o) W4 := fun b ha hl => ⟨⟨ha.1, by rcases hat with e | e <;> rw [e]; exact ha.2; intro x; cases x; omega⟩, hg.block b hl ha.2⟩
    rcases List.mem_append.1 hx with hx | hx
    · exact (x3 x hx).move hm
    · obtain rfl : x = (p, vp) := by simpa using hx
      exact (sv.move (A' := fun b => lo ≤ b ∧ some b ≠ v.ownBlock) (w' := W2.alloc o) fun b hb hl => ⟨⟨by omega, fun e => by have := h.lt e.symm; omega⟩, Below.heap_alloc _ _ _ hl⟩).move hm
  · rcases hat with x | x
    · exact h.own k (x ▸ e)
    · rw [x] at e; cases e; have := fr.size; simp; omega
  · exact ((fr.alloc o).mono fun k e => Or.inl e).same (grown_fr hg fun k e => h.own k e)
  · exact ((Fr.refl _ W2).alloc o).same ⟨hg.os, hg.tape, hg.output, hg.size, fun k hk hf => hg.block k hk (fun e => hf (h.own k e.symm))⟩
theorem GQ.done (h : GQ lo tQ tS tP w v lq) (hn : lq.length ≤ 1000) (hne : lq ≠ []) : QS w (fun b => lo ≤ b) tQ tS tP v lq := by
  obtain ⟨xs, h1, h2, h3⟩ := h.ex
  obtain ⟨ai, cap, rfl⟩ := slice_len h2
  have hz : lq.length ≠ 0 := fun e => hne (List.length_eq_zero_iff.1 e)
  rcases h2.2 with ⟨e, e2⟩ | ⟨g, cap', cur, e1, h0, hg, hr⟩
  · omega
  · cases e1
    refine Or.inr ⟨g, cap, cur, rfl, h.own g rfl, hg, hn, by omega, fun k s hk => ?_⟩
    obtain ⟨x, hx, rfl⟩ := map_at h1 hk
    exact ⟨x.2, own_cell h2 (by rw [List.getElem?_map, hx]; rfl), (h3 x (mem_of_get hx)).move fun b ha _ => ⟨ha.1, rfl⟩⟩
theorem info34 : (Tryz.prog.info? 36).map (fun i => (i.zero, i.size, i.bytes)) = some (some (.slice none 0 0), 1, 24) := by kernel_rfl
structure QI (R : Nat) (t : L) (wh : Nat) (w : World) (X : Rs (List (List Stp))) (wr : World) (v : Value) (ls : List (List Stp)) (lc : L) : Prop where
  rd : RD R t wh 0 wr lc
  gq : GQ w.heap.size 36 51 86 wr v ls
  fr : Fr (fun k => k = R ∨ w.heap.size ≤ k) w wr
  eq : ∃ fu, lc.length < fu ∧ X = thn (pathsMore (cutB t wh) fu lc) fun qs l => if l = [] ∧ cutB t wh = false then .ok (ls ++ qs, l) else .error (bad (cutB t wh) l)
  sm : ls.length + lc.length ≤ 501
  ne : ls ≠ []
  lt : R < w.heap.size
variable {X : Rs (List (List Stp))} {ls : List (List Stp)} {lc : L}
theorem QI.stop (h : QI R t wh w X wr v ls lc) (hg : part lc ≠ [124]) : X = if lc = [] ∧ cutB t wh = false then .ok (ls, lc) else .error (bad (cutB t wh) lc) := by
  obtain ⟨fu, e1, e2⟩ := h.eq
  rw [e2]
  cases fu with
  | zero => omega
  | succ fu => rw [pathsMore, if_neg hg]; simp only [thn_ok, List.append_nil]
theorem QI.go (h : QI R t wh w X wr v ls lc) (hg : part lc = [124]) :
    (∀ y, path (cutB t wh) (inAt (cutB t wh) 8) (pass 1 lc) = .error y → X = .error y) ∧ ∀ p l2, path (cutB t wh) (inAt (cutB t wh) 8) (pass 1 lc) = .ok (p, l2) → l2.length < lc.length ∧ ∃ fu, l2.length < fu ∧ X = thn (pathsMore (cutB t wh) fu l2) fun qs l => if l = [] ∧ cutB t wh = false then .ok ((ls ++ [p]) ++ qs, l) else .error (bad (cutB t wh) l) := by
  obtain ⟨fu, e1, e2⟩ := h.eq
  cases fu with
  | zero => omega
  | succ fu =>
    rw [pathsMore, if_pos hg] at e2
    refine ⟨fun y hy => by rw [e2, hy]; rfl, fun p l2 hy => ?_⟩
    have h1 := (path_suf (inAt_suf 8) _ p l2 hy).length_le
    have h2 := pass_lt (n := 1) (l := lc) (by decide) (part_ne hg (by decide))
    refine ⟨by omega, fu, by omega, ?_⟩
    rw [e2, hy]; simp only [thn_ok]
    cases pathsMore (cutB t wh) fu l2 with
    | error y => rfl
    | ok z => obtain ⟨za, zb⟩ := z; simp only [thn_ok, List.append_assoc, List.cons_append, List.nil_append]
def QV (A : Nat → Prop) (w : World) (v : Value) (ls : List (List Stp)) : Prop := QS w A 36 51 86 v ls
set_option maxHeartbeats 8000000 in
set_option maxRecDepth 100000 in
theorem query_ok (h : RD R t wh 0 w l) : Calls Tryz.prog 20 #[ptr R] w (Ends R t wh 0 (QV (fun b => w.heap.size ≤ b)) w (query (cutB t wh) l)) := by
  have HPA : Hid (Calls Tryz.prog 32 #[ptr R, .int .i64 0] w fun e w' => e = .returned (.tuple #[]) ∧ RD R t wh 0 w' (pass 0 l) ∧ Fr (fun k => k = R) w w') := pass_ok 0 h (Nat.zero_le _)
  have hR := h.lt
  have h5 : (pass 0 l).length ≤ 500 := by have := (pass_suf 0 l).length_le; have := h.le; have := h.tw; have := h.wh5; omega
  have htw := h.tw
  have HPT : Hid (∀ W, RD R t wh 0 W (pass 0 l) → Calls Tryz.prog 33 #[ptr R] W (Ends R t wh 0 (SL (fun b => W.heap.size ≤ b)) W (path (cutB t wh) (inAt (cutB t wh) 8) (pass 0 l)))) := fun W hW => path_ok in8 hW
  unfold query
  cases hx : path (cutB t wh) (inAt (cutB t wh) 8) (pass 0 l) with
  | error y =>
    rw [hx] at HPT
    simp only [thn_er]
    clear hx h
    go_enter Tryz.func20, Tryz.ntmps20
    go_wp2_with (first | (go_at_call 32; refine HPA.out.mono ?_; rintro e w2 ⟨rfl, rd, fr⟩) | (go_at_call 33; refine (HPT.out _ rd).mono ?_; rintro e w3 ⟨rfl, fr3⟩))
    exact ⟨rfl, rfl, fr.same fr3⟩
  | ok z =>
    obtain ⟨p, l1⟩ := z
    rw [hx] at HPT
    have hl1 := (path_suf (inAt_suf 8) _ p l1 hx).length_le
    simp only [thn_ok]
    clear hx h
    obtain ⟨X, hX⟩ : ∃ X, (thn (pathsMore (cutB t wh) (l1.length + 1) l1) fun ps l => if l = [] ∧ cutB t wh = false then (.ok (p :: ps, l) : Rs (List (List Stp))) else .error (bad (cutB t wh) l)) = X := ⟨_, rfl⟩
    rw [hX]
    have HQ0 : Hid (∀ W1 W2 v, Fr (fun k => k = R) w W1 → Fr (fun k => k = R) W1 W2 → RD R t wh 0 W2 l1 → SL (fun b => W1.heap.size ≤ b) W2 v p → ∃ vi vn vc, v = .slice vi vn vc ∧ QI R t wh w X (W2.alloc (.cells #[.slice vi vn vc] 36)) (.slice (some ⟨W2.heap.size, 0, none⟩) 1 1) [p] l1) := fun W1 W2 v f1 f2 rd sv => by
      obtain ⟨vi, vc, rfl⟩ := sl.shape sv
      have fa : Fr (fun _ => False) W2 (W2.alloc (.cells #[.slice vi (Stps.of p).len vc] 36)) := (Fr.refl _ W2).alloc _
      exact ⟨vi, _, vc, rfl, rd.fr fa (fun x => x), GQ.first (Nat.le_trans f1.size f2.size) (slS.move (fun b hb _ => ⟨Nat.le_trans f1.size hb, rfl⟩) sv), ((f1.same f2).mono (fun _ x => Or.inl x)).trans fa (fun _ _ x => x.elim), ⟨l1.length + 1, by omega, by rw [← hX]; rfl⟩, by simp; omega, by simp, hR⟩
    clear hX
    obtain ⟨i0, hi, hz0, hz1, hz2⟩ := info_parts info34
    go_enter Tryz.func20, Tryz.ntmps20
    go_wp2_with (first | (go_at_call 32; refine HPA.out.mono ?_; rintro e w2 ⟨rfl, rd, fr⟩) | (go_at_call 33; refine (HPT.out _ rd).mono ?_; rintro e w3 ⟨v3, rfl, sv3, rd3, fr3⟩; obtain ⟨vi, vn, vc, rfl, hQ⟩ := HQ0.out _ _ _ fr fr3 rd3 sv3; have HQ := hide hQ; clear hQ sv3))
    clear rd rd3 fr fr3
    generalize (World.alloc w3 _) = WS at *
    generalize (Value.slice (some ⟨w3.heap.size, 0, none⟩) 1 1) = V0 at *
    go_loopw [3, 9, 10, 11, 12, 13, 14, 15] (fun u3 _ _ _ _ _ _ _ wr => ∃ ls lc, QI R t wh w X wr u3 ls lc) (fun _ _ _ _ _ _ _ _ wr => mea R t wr)
    case atStart => exact ⟨_, _, HQ.out⟩
    case round =>
      rename World => WO
      obtain ⟨ls, lc, hQ⟩ := hrel
      have hmea : mea R t WO = lc.length := hQ.rd.mea
      have HQ1 := hide hQ
      obtain ⟨b, hb⟩ : ∃ b, decide (part lc = [124]) = b := ⟨_, rfl⟩
      have HT := hide (take_ok [124] hQ.rd b hb)
      cases b with
      | true =>
        have hp : part lc = [124] := by simpa using hb
        have hgo := hQ.go hp
        simp only [if_true] at HT
        have HT : Hid (Calls Tryz.prog 34 #[ptr R, .string ⟨#[124]⟩] WO fun e w' => e = .returned (.bool true) ∧ RD R t wh 0 w' (pass 1 lc) ∧ Fr (fun k => k = R) WO w') := HT
        have HP2 : Hid (∀ W, RD R t wh 0 W (pass 1 lc) → Calls Tryz.prog 33 #[ptr R] W (Ends R t wh 0 (SL (fun b => W.heap.size ≤ b)) W (path (cutB t wh) (inAt (cutB t wh) 8) (pass 1 lc)))) := fun W hW => path_ok in8 hW
        clear hb hQ hp
        cases hy : path (cutB t wh) (inAt (cutB t wh) 8) (pass 1 lc) with
        | error y =>
          have hX := hgo.1 y hy
          subst hX
          rw [hy] at HP2
          clear hy hgo
          go_wp2_with (first | (go_at_call 34; refine HT.out.mono ?_; rintro e w4 ⟨rfl, rd4, fr4⟩) | (go_at_call 33; refine (HP2.out _ rd4).mono ?_; rintro e w5 ⟨rfl, fr5⟩))
          exact ⟨rfl, rfl, (HQ1.out.fr.trans (fr4.same fr5) (fun i hi x => Or.inl x)).restrict (fun k hk x => by omega)⟩
        | ok z =>
          obtain ⟨p2, l2⟩ := z
          obtain ⟨hlt, HNX⟩ := hgo.2 p2 l2 hy
          have HNX := hide HNX
          rw [hy] at HP2
          clear hy hgo
          have HPREP : Hid (∀ W1 W2 v, Fr (fun k => k = R) WO W1 → Fr (fun k => k = R) W1 W2 → RD R t wh 0 W2 l2 → SL (fun b => W1.heap.size ≤ b) W2 v p2 → ∃ vi vn vc, v = .slice vi vn vc ∧ ∃ xs, (W2.alloc (.cells #[.slice vi vn vc] 36)).ownsRow 0 36 1 u3 ls.length xs ∧ ∀ v' W4, W4.ownsRow 0 36 1 v' (ls.length + 1) (xs ++ [.slice vi vn vc]) → (W2.alloc (.cells #[.slice vi vn vc] 36)).grownBy W4 u3.ownBlock → (v'.ownBlock = u3.ownBlock ∨ v'.ownBlock = some (W2.heap.size + 1)) → QI R t wh w X W4 v' (ls ++ [p2]) l2) := fun W1 W2 v f1 f2 rd sv => by
            obtain ⟨vi, vc, rfl⟩ := sl.shape sv
            have q := HQ1.out
            have hz := q.fr.size
            obtain ⟨xs, x1, x2⟩ := (q.gq.fr f1 (fun k e _ => by omega)).prep f2 hR (Nat.le_trans hz f1.size) sv (.cells #[.slice vi (Stps.of p2).len vc] 36)
            refine ⟨vi, _, vc, rfl, xs, x1, fun v' W4 ho hg hat => ?_⟩
            obtain ⟨g1, g2, g3⟩ := x2 v' W4 ho hg (by simpa using hat)
            exact ⟨rd.fr g3 (by omega), g1, (q.fr.trans f1 (fun i hi x => Or.inl x)).trans g2 (fun i hi x => by omega), HNX.out, by have := q.sm; simp; omega, by simp, hR⟩
          go_wp2_with (first | (go_at_call 34; refine HT.out.mono ?_; rintro e w4 ⟨rfl, rd4, fr4⟩) | (go_at_call 33; refine (HP2.out _ rd4).mono ?_; rintro e w5 ⟨v5, rfl, sv5, rd5, fr5⟩; obtain ⟨vi5, vn5, vc5, rfl, xs, hx1, hx2⟩ := HPREP.out _ _ _ fr4 fr5 rd5 sv5; have HX2 := hide hx2; clear hx2 sv5) | (at_builtin; refine wpList_append_own_at _ rfl (.tmp 11) (.tmp 14) 32 rfl 0 36 i0 _ 1 24 Tryz.underlying32 hi hz0 hz1 hz2 rfl (by decide) u3 ls.length xs rfl hx1 ⟨w5.heap.size, 0, none⟩ 1 1 [.slice vi5 vn5 vc5] rfl rfl (news_of _ _ _) ?c2 ?c3 ?c4 (Nat.zero_le _) ?_))
          case c2 => intro u hu; simp only [List.mem_cons, List.not_mem_nil, or_false] at hu; subst hu; rfl
          case c3 => have := HQ1.out.sm; unfold maxLen; omega
          case c4 => have := HQ1.out.sm; omega
          intro v' w7 ho hg _ hat
          have hQ7 := HX2.out v' w7 ho hg (by simpa using hat)
          go_wp2
          exact ⟨⟨_, _, hQ7⟩, by rw [hQ7.rd.mea, hmea]; omega⟩
      | false =>
        have hX := hQ.stop (by simpa using hb)
        simp only [Bool.false_eq_true, if_false] at HT
        have HT : Hid (Calls Tryz.prog 34 #[ptr R, .string ⟨#[124]⟩] WO fun e w' => e = .returned (.bool false) ∧ RD R t wh 0 w' lc ∧ Fr (fun k => k = R) WO w') := HT
        have hle := hQ.rd.le
        clear hb hQ
        by_cases hend : lc = [] ∧ cutB t wh = false
        · rw [if_pos hend] at hX
          subst hX
          have hlt : decide (t.length - lc.length < wh) = false := by rw [hend.1]; simpa [cutB] using hend.2
          have hlt2 : decide (((t.length - lc.length : Nat) : Int) < (wh : Int)) = false := by rw [hend.1]; have := hend.2; simp [cutB] at this; simp; omega
          clear hend
          have HCC : Hid (∀ W, RD R t wh 0 W lc → W.cell? ⟨R, 1, none⟩ = some (.int .i64 wh) ∧ W.cell? ⟨R, 2, none⟩ = some (.int .i64 ((t.length - lc.length : Nat) : Int))) := fun W hW => ⟨cell_of hW.blk rfl, cell_of hW.blk rfl⟩
          generalize t.length - lc.length = K at *
          go_wp2_with (first | (go_at_call 34; refine HT.out.mono ?_; rintro e w4 ⟨rfl, rd4, fr4⟩; obtain ⟨c1, c2⟩ := HCC.out _ rd4))
          go_quiet (fail)
          go_wp2
          go_ret
          have q := HQ1.out
          have f5 : Fr (fun k => k = R) WO (w4.drewN nq) := fr4.drewN nq
          exact ⟨_, rfl, ((q.gq.fr f5 (fun k e _ => by omega)).done (by have := q.sm; omega) q.ne), rd4.fr (F := fun _ => False) ((Fr.refl _ w4).drewN nq) (fun x => x), (q.fr.trans f5 (fun i hi x => Or.inl x)).restrict (fun k hk x => by omega)⟩
        · rw [if_neg hend] at hX
          subst hX
          have hltN : t.length - lc.length < wh := by
            by_cases hlc : lc = []
            · have : cutB t wh = true := by cases hcc : cutB t wh; exact absurd ⟨hlc, hcc⟩ hend; rfl
              simp [cutB] at this; omega
            · have : 0 < lc.length := by cases lc; exact absurd rfl hlc; simp
              omega
          have hlt : decide (t.length - lc.length < wh) = true := by simpa using hltN
          have hlt2 : decide (((t.length - lc.length : Nat) : Int) < (wh : Int)) = true := by simp; omega
          clear hend hltN
          have HCC : Hid (∀ W, RD R t wh 0 W lc → W.cell? ⟨R, 1, none⟩ = some (.int .i64 wh) ∧ W.cell? ⟨R, 2, none⟩ = some (.int .i64 ((t.length - lc.length : Nat) : Int))) := fun W hW => ⟨cell_of hW.blk rfl, cell_of hW.blk rfl⟩
          have HFA : Hid (∀ W, RD R t wh 0 W lc → Calls Tryz.prog 35 #[ptr R] W (Threw R t (bad (cutB t wh) lc) W)) := fun W hW => fail_ok hW
          generalize t.length - lc.length = K at *
          go_wp2_with (first | (go_at_call 34; refine HT.out.mono ?_; rintro e w4 ⟨rfl, rd4, fr4⟩; obtain ⟨c1, c2⟩ := HCC.out _ rd4))
          go_quiet (fail)
          have rd5 : RD R t wh 0 (w4.drewN nq) lc := rd4.fr (F := fun _ => False) ((Fr.refl _ w4).drewN nq) (fun x => x)
          go_wp2_with (first | (go_at_call 35; refine (HFA.out _ rd5).mono ?_; rintro e w6 ⟨rfl, fr6⟩))
          exact ⟨rfl, rfl, (HQ1.out.fr.trans ((fr4.drewN nq).same fr6) (fun i hi x => Or.inl x)).restrict (fun k hk x => by omega)⟩
end Go.Proofs.YtigpjemceodjcaaGreatDoor

set_option linter.unusedSimpArgs false
set_option linter.unusedVariables false
namespace Go.Proofs.YtigpjemceodjcaaGreatDoor
open Go.RowKit Go.Maps Go.Lib
variable {w w' w1 w2 W0 W1 W2 W3 W4 WO wr W W5 : World} {A A' F G : Nat → Prop} {R lo : Nat} {t l l' : L} {wh n : Nat} {v v' vp : Value}
theorem assert_nil (w : World) : (Instr.typeAssert .nilIface 20 55 true).run Tryz.prog w = .ok (.tuple #[.agg #[.int .i64 0, .int .i64 0], .bool false]) w := by kernel_rfl
theorem assert_hit (a b : Value) (w : World) : (Instr.typeAssert (.iface 55 (.agg #[a, b])) 20 55 true).run Tryz.prog w = .ok (.tuple #[.agg #[a, b], .bool true]) w := by kernel_rfl
set_option maxHeartbeats 4000000 in
set_option maxRecDepth 100000 in
theorem catch_idle (a b c : Nat) (w : World) : CallsD Tryz.prog 18 #[ptr a, ptr b, ptr c] .returning w fun e u' w' => e = .returned (.tuple #[]) ∧ u' = .returning ∧ w' = w.alloc (.cells #[.int .i64 0, .int .i64 0] 55) := by
  refine callsD_of_wpS Tryz.func18 rfl fun c₀ cs hu => ?_
  apply wpS_seq
  apply wpS_region
  simp [wpOpsS, go_sem, recoverD, hu, Tryz.ntmps18, Exit.thenS, assert_nil, Array.replicate]
  apply wpS_seq
  apply wpS_region
  simp [wpOpsS, go_sem, Exit.thenS]
  refine wpS_cond (t := false) (by simp [Act.eval]) ?_
  simp only [Bool.false_eq_true, if_false]
  refine wpS_of_wp (wp_skip ?_)
  cases c₀
  simp_all [bodyPostS, results, Tryz.results18]
set_option maxHeartbeats 4000000 in
set_option maxRecDepth 100000 in
theorem catch_hit (a b c : Nat) (no at_ : Int) (w : World) {x y z : Value} (ha : w.heap[a]? = some (.cells #[x] 32 (0, 0))) (hb : w.heap[b]? = some (.cells #[y] 22 (0, 0))) (hc : w.heap[c]? = some (.cells #[z] 3 (0, 0))) (hab : a ≠ b) (hac : a ≠ c) (hbc : b ≠ c) :
    CallsD Tryz.prog 18 #[ptr a, ptr b, ptr c] (.panicking [{ v := .iface 55 (.agg #[.int .i64 no, .int .i64 at_]), recovered := false }]) w fun e u' w' => e = .returned (.tuple #[]) ∧ u' = .panicking [{ v := .iface 55 (.agg #[.int .i64 no, .int .i64 at_]), recovered := true }] ∧
      w'.heap[a]? = some (.cells #[.slice none 0 0] 32 (0, 0)) ∧ w'.heap[b]? = some (.cells #[.int .i64 no] 22 (0, 0)) ∧ w'.heap[c]? = some (.cells #[.int .i64 at_] 3 (0, 0)) ∧ Fr (fun k => k = a ∨ k = b ∨ k = c) w w' := by
  refine callsD_of_wpS Tryz.func18 rfl fun c₀ cs hu => ?_
  apply wpS_seq
  apply wpS_region
  simp [wpOpsS, go_sem, recoverD, hu, Tryz.ntmps18, Exit.thenS, assert_hit, Array.replicate]
  apply wpS_seq
  apply wpS_region
  simp [wpOpsS, go_sem, Exit.thenS]
  refine wpS_cond (t := true) (by simp [Act.eval]) ?_
  simp only [if_true]
  have hla := blk_lt ha
  have hlb := blk_lt hb
  have hlc := blk_lt hc
  have he : (w.alloc (.cells #[.int .i64 no, .int .i64 at_] 55)).heap[w.heap.size]? = some (.cells #[.int .i64 no, .int .i64 at_] 55 (0, 0)) := Below_new _ _
  have f0 : Fr (fun k => k = a ∨ k = b ∨ k = c) w (w.alloc (.cells #[.int .i64 no, .int .i64 at_] 55)) := (Fr.refl _ w).alloc _
  have ha0 := (Below.heap_alloc w (.cells #[.int .i64 no, .int .i64 at_] 55) a hla).trans ha
  have hb0 := (Below.heap_alloc w (.cells #[.int .i64 no, .int .i64 at_] 55) b hlb).trans hb
  have hc0 := (Below.heap_alloc w (.cells #[.int .i64 no, .int .i64 at_] 55) c hlc).trans hc
  generalize w.alloc (.cells #[.int .i64 no, .int .i64 at_] 55) = X at *
  refine wpS_of_wp ?_
  have e0 : X.drew.heap[w.heap.size]? = some (.cells #[.int .i64 no, .int .i64 at_] 55 (0, 0)) := he
  have hae : w.heap.size ≠ a := by omega
  have hbe : w.heap.size ≠ b := by omega
  have hce : w.heap.size ≠ c := by omega
  have fr1 : Fr (fun k => k = a ∨ k = b ∨ k = c) w (((X.drew.setCell ⟨a, 0, none⟩ (.slice none 0 0)).setCell ⟨b, 0, none⟩ (.int .i64 no)).setCell ⟨c, 0, none⟩ (.int .i64 at_)) := ((Fr.set (Fr.set (Fr.drewN f0 1) ⟨a, 0, none⟩ (.slice none 0 0) (fun _ => Or.inl rfl)) ⟨b, 0, none⟩ (.int .i64 no) (fun _ => Or.inr (Or.inl rfl))).set ⟨c, 0, none⟩ (.int .i64 at_) (fun _ => Or.inr (Or.inr rfl)))
  have a1 : (X.drew.setCell ⟨a, 0, none⟩ (.slice none 0 0)).heap[a]? = some (.cells #[.slice none 0 0] 32 (0, 0)) := set_of (i := 0) (w := X.drew) ha0 _
  have e1 := (Below.heap_setCell X.drew ⟨a, 0, none⟩ (.slice none 0 0) w.heap.size hae).trans e0
  have b1 : (X.drew.setCell ⟨a, 0, none⟩ (.slice none 0 0)).heap[b]? = some (.cells #[y] 22 (0, 0)) := (Below.heap_setCell X.drew ⟨a, 0, none⟩ (.slice none 0 0) b (fun e => hab e.symm)).trans hb0
  have c1 : (X.drew.setCell ⟨a, 0, none⟩ (.slice none 0 0)).heap[c]? = some (.cells #[z] 3 (0, 0)) := (Below.heap_setCell X.drew ⟨a, 0, none⟩ (.slice none 0 0) c (fun e => hac e.symm)).trans hc0
  generalize hX1 : X.drew.setCell ⟨a, 0, none⟩ (.slice none 0 0) = X1 at *
  have a2 := (Below.heap_setCell X1 ⟨b, 0, none⟩ (.int .i64 no) a hab).trans a1
  have e2 := (Below.heap_setCell X1 ⟨b, 0, none⟩ (.int .i64 no) w.heap.size hbe).trans e1
  have b2 : (X1.setCell ⟨b, 0, none⟩ (.int .i64 no)).heap[b]? = some (.cells #[.int .i64 no] 22 (0, 0)) := set_of (i := 0) b1 _
  have c2 := (Below.heap_setCell X1 ⟨b, 0, none⟩ (.int .i64 no) c (fun e => hbc e.symm)).trans c1
  generalize hX2 : X1.setCell ⟨b, 0, none⟩ (.int .i64 no) = X2 at *
  have a3 := (Below.heap_setCell X2 ⟨c, 0, none⟩ (.int .i64 at_) a hac).trans a2
  have e3 := (Below.heap_setCell X2 ⟨c, 0, none⟩ (.int .i64 at_) w.heap.size hce).trans e2
  have b3 := (Below.heap_setCell X2 ⟨c, 0, none⟩ (.int .i64 at_) b hbc).trans b2
  have c3 : (X2.setCell ⟨c, 0, none⟩ (.int .i64 at_)).heap[c]? = some (.cells #[.int .i64 at_] 3 (0, 0)) := set_of (i := 0) c2 _
  have HS : Hid (∀ W : World, W.heap[w.heap.size]? = some (.cells #[.int .i64 no, .int .i64 at_] 55 (0, 0)) → W.cell? ⟨w.heap.size, 0, none⟩ = some (.int .i64 no) ∧ W.cell? ⟨w.heap.size, 1, none⟩ = some (.int .i64 at_)) := fun W hW => ⟨cell_of hW rfl, cell_of hW rfl⟩
  have ka := cell_of (i := 0) ha0 rfl
  have fa := free_of (i := 0) ha0
  have kb := cell_of (i := 0) b1 rfl
  have fb := free_of (i := 0) b1
  have kc := cell_of (i := 0) c2 rfl
  have fc := free_of (i := 0) c2
  refine wp_region_held_drew (S := fun W => W.cell? ⟨w.heap.size, 0, none⟩ = some (.int .i64 no) ∧ W.cell? ⟨w.heap.size, 1, none⟩ = some (.int .i64 at_)) (by kernel_rfl) (HS.out _ e0) (fun hHeld => ?_)
  refine wpAnyH_take (i := 0) (v := ?_) rfl (by kernel_rfl) (by kernel_rfl) (by kernel_rfl) (fun _ _ _ h => h) (Or.inl ⟨by rfl, ?_⟩) (by assumption) ?_
  rotate_left
  · (intro w hSw; (try dsimp only at hSw); go_simp; (try with_reducible rfl))
  (try simp only [Act.put, List.setIfInBounds_toArray, List.set_cons_zero, List.set_cons_succ])
  refine wpAnyH_take (i := 1) (v := ?_) rfl (by kernel_rfl) (by kernel_rfl) (by kernel_rfl) (fun _ _ _ h => h) (Or.inl ⟨by rfl, ?_⟩) (by assumption) ?_
  rotate_left
  · (intro w hSw; (try dsimp only at hSw); go_simp; (try with_reducible rfl))
  (try simp only [Act.put, List.setIfInBounds_toArray, List.set_cons_zero, List.set_cons_succ])
  refine wpAnyH_take (i := 2) (v := ?_) rfl (by kernel_rfl) (by kernel_rfl) (by kernel_rfl) (fun _ _ _ h => h) (Or.inl ⟨by rfl, ?_⟩) (by assumption) ?_
  rotate_left
  · (intro w hSw; (try dsimp only at hSw); go_simp; (try with_reducible rfl))
  (try simp only [Act.put, List.setIfInBounds_toArray, List.set_cons_zero, List.set_cons_succ])
  refine wpAnyH_take (i := 3) (v := ?_) rfl (by kernel_rfl) (by kernel_rfl) (by kernel_rfl) (fun _ _ _ h => h) (Or.inl ⟨by rfl, ?_⟩) (by assumption) ?_
  rotate_left
  · (intro w hSw; (try dsimp only at hSw); go_simp; (try with_reducible rfl))
  (try simp only [Act.put, List.setIfInBounds_toArray, List.set_cons_zero, List.set_cons_succ])
  refine wpAnyH_ready (rs := [4]) (by kernel_rfl) (by simp) ?_
  refine AllReadyH.cons rfl (fun K hK => ?_) AllReadyH.nil
  go_simp
  (try rw [hX1])
  refine hK.out _ _ (HS.out _ e1) (fun hHeld => ?_)
  clear hK K
  (try simp only [Act.put, List.setIfInBounds_toArray, List.set_cons_zero, List.set_cons_succ])
  refine wpAnyH_ready (rs := [5]) (by kernel_rfl) (by simp) ?_
  refine AllReadyH.cons rfl (fun K hK => ?_) AllReadyH.nil
  go_simp
  (try rw [hX2])
  refine hK.out _ _ (HS.out _ e2) (fun hHeld => ?_)
  clear hK K
  (try simp only [Act.put, List.setIfInBounds_toArray, List.set_cons_zero, List.set_cons_succ])
  refine wpAnyH_ready (rs := [6]) (by kernel_rfl) (by simp) ?_
  refine AllReadyH.cons rfl (fun K hK => ?_) AllReadyH.nil
  go_simp
  refine hK.out _ _ (HS.out _ e3) (fun hHeld => ?_)
  clear hK K
  refine wpAnyH_done (by kernel_rfl) ?_ _
  simp [bodyPostS, results, Tryz.results18, a3, b3, c3, fr1]
end Go.Proofs.YtigpjemceodjcaaGreatDoor

set_option linter.unusedSimpArgs false
set_option linter.unusedVariables false
namespace Go.Proofs.YtigpjemceodjcaaGreatDoor
open Go.RowKit Go.Maps Go.Lib
variable {w w' w1 w2 W0 W1 W2 W3 W4 WO wr W W5 : World} {A A' F G : Nat → Prop} {R lo : Nat} {t l l' : L} {wh n : Nat} {v v' vp : Value}
def PE (w : World) (x : Except (Nat × Nat) (List (List Stp))) (e : Ending) (w' : World) : Prop := Below w.heap.size w w' ∧ match x with
  | .ok ls => ∃ v, e = .returned (.tuple #[v, .int .i64 0, .int .i64 0]) ∧ QV (fun b => w.heap.size ≤ b) w' v ls
  | .error y => e = .returned (.tuple #[.slice none 0 0, .int .i64 y.1, .int .i64 y.2])
theorem bad_le (q : L) : Ch.bad (bs q) ≤ q.length := by have := Ch.badFrom_le (bs q) ((bs q).size + 1) 0 (Nat.zero_le _); rw [bs_size] at this; unfold Ch.bad; rw [bs_size]; exact this
theorem three_set {a : Nat} (h1 : w.heap[a]? = some (.cells #[.slice none 0 0] 32 (0, 0))) (h2 : w.heap[a + 1]? = some (.cells #[.int .i64 0] 22 (0, 0))) (h3 : w.heap[a + 1 + 1]? = some (.cells #[.int .i64 0] 3 (0, 0))) (v : Value) : ∃ W, ((w.setCell ⟨a, 0, none⟩ v).setCell ⟨a + 1, 0, none⟩ (.int .i64 0)).setCell ⟨a + 1 + 1, 0, none⟩ (.int .i64 0) = W ∧ W.heap[a]? = some (.cells #[v] 32 (0, 0)) ∧ W.heap[a + 1]? = some (.cells #[.int .i64 0] 22 (0, 0)) ∧ W.heap[a + 1 + 1]? = some (.cells #[.int .i64 0] 3 (0, 0)) ∧
    (w.setCell ⟨a, 0, none⟩ v).heap[a + 1]? = some (.cells #[.int .i64 0] 22 (0, 0)) ∧ ((w.setCell ⟨a, 0, none⟩ v).setCell ⟨a + 1, 0, none⟩ (.int .i64 0)).heap[a + 1 + 1]? = some (.cells #[.int .i64 0] 3 (0, 0)) ∧ Fr (fun k => k = a ∨ k = a + 1 ∨ k = a + 1 + 1) w W := by
  have b1 := (Below.heap_setCell w ⟨a, 0, none⟩ v (a + 1) (show a + 1 ≠ a by omega)).trans h2
  have c1 := (Below.heap_setCell w ⟨a, 0, none⟩ v (a + 1 + 1) (show a + 1 + 1 ≠ a by omega)).trans h3
  have c2 := (Below.heap_setCell (w.setCell ⟨a, 0, none⟩ v) ⟨a + 1, 0, none⟩ (.int .i64 0) (a + 1 + 1) (show a + 1 + 1 ≠ a + 1 by omega)).trans c1
  refine ⟨_, rfl, ?_, ?_, set_of (i := 0) c2 _, b1, c2, ((Fr.set (Fr.set (Fr.refl (fun k => k = a ∨ k = a + 1 ∨ k = a + 1 + 1) w) ⟨a, 0, none⟩ v (fun _ => Or.inl rfl)) ⟨a + 1, 0, none⟩ (.int .i64 0) (fun _ => Or.inr (Or.inl rfl))).set ⟨a + 1 + 1, 0, none⟩ (.int .i64 0) (fun _ => Or.inr (Or.inr rfl)))⟩
  · rw [Below.heap_setCell _ _ _ _ (show a ≠ a + 1 + 1 by omega), Below.heap_setCell _ _ _ _ (show a ≠ a + 1 by omega)]; exact set_of (i := 0) h1 v
  · rw [Below.heap_setCell _ _ _ _ (show a + 1 ≠ a + 1 + 1 by omega)]; exact set_of (i := 0) b1 _
set_option maxHeartbeats 8000000 in
set_option maxRecDepth 100000 in
theorem parse_ok (q : L) (w : World) : Calls Tryz.prog 10 #[.string (bs q)] w (PE w (parse q)) := by
  have hz := bs_size q
  have hmf : ∀ (fn : Fn) (first cap : Array Value) (w : World), (Instr.makeFunc fn first cap).run Tryz.prog w = .ok (.func fn first cap) w := fun _ _ _ _ => rfl
  by_cases h5 : 500 < q.length
  · rw [parse, if_pos h5]
    have hd : decide ((500 : Int) < (q.length : Int)) = true := by simp; omega
    have hd2 : decide (500 < q.length) = true := by simpa using h5
    generalize bs q = S at *
    generalize q.length = N at *
    go_enter_defers Tryz.func10, Tryz.ntmps10
    go_wp2
    have hB : Below w.heap.size w (((w.alloc (.cells #[.slice none 0 0] 32)).alloc (.cells #[.int .i64 1] 22)).alloc (.cells #[.int .i64 0] 3)) := (((Below.refl _ w).alloc (Nat.le_refl _) _).alloc (by simp) _).alloc (by simp; omega) _
    simp [bodyPostD, Leaves, settle, results, Tryz.results10, go_sem, PE, hB]
  · rw [parse, if_neg h5]
    have hd : decide ((500 : Int) < (q.length : Int)) = false := by simp; omega
    have hd2 : decide (500 < q.length) = false := by simpa using h5
    have hbl := bad_le q
    have HBD : Hid (∀ W, Calls Tryz.prog 19 #[.string (bs q)] W fun e w' => e = .returned (.int .i64 (Ch.bad (bs q))) ∧ Below W.heap.size W w') := fun W => badC_any (bs q) W (by rw [hz]; omega)
    have hsl : ∀ W, (Instr.slice 9 (.string (bs q)) none (some (.int .i64 (Ch.bad (bs q) : Int))) none).run Tryz.prog W = .ok (.string (bs (cutAt q))) W := take_run q (Ch.bad (bs q)) hbl
    have hcl : (cutAt q).length ≤ q.length := by unfold cutAt; rw [List.length_take]; omega
    have hcut : cutB (cutAt q) q.length = isCut q := rfl
    have HQ : Hid (∀ W : World, Calls Tryz.prog 20 #[ptr W.heap.size] (W.alloc (.cells #[.string (bs (cutAt q)), .int .i64 q.length, .int .i64 0, .int .i64 0] 59)) (Ends W.heap.size (cutAt q) q.length 0 (QV (fun b => (W.alloc (.cells #[.string (bs (cutAt q)), .int .i64 q.length, .int .i64 0, .int .i64 0] 59)).heap.size ≤ b)) (W.alloc (.cells #[.string (bs (cutAt q)), .int .i64 q.length, .int .i64 0, .int .i64 0] 59)) (query (isCut q) (cutAt q)))) := fun W => by
      rw [← hcut]
      refine query_ok ⟨?_, List.suffix_refl _, hcl, by omega, by omega⟩
      have := Below_new W (.cells #[.string (bs (cutAt q)), .int .i64 q.length, .int .i64 0, .int .i64 0] 59)
      simpa using this
    generalize Ch.bad (bs q) = BD at *
    generalize bs q = S at *
    generalize q.length = N at *
    generalize isCut q = ct at *
    generalize cutAt q = t at *
    have HBX : Hid (∀ W1 : World, Below (w.heap.size + 3) (((w.alloc (.cells #[.slice none 0 0] 32)).alloc (.cells #[.int .i64 0] 22)).alloc (.cells #[.int .i64 0] 3)) W1 → W1.heap[w.heap.size]? = some (.cells #[.slice none 0 0] 32 (0, 0)) ∧ W1.heap[w.heap.size + 1]? = some (.cells #[.int .i64 0] 22 (0, 0)) ∧ W1.heap[w.heap.size + 1 + 1]? = some (.cells #[.int .i64 0] 3 (0, 0)) ∧ w.heap.size + 3 ≤ W1.heap.size ∧ Below w.heap.size w W1) := fun W1 hb => by
      have h1 := Below_new (w.alloc (.cells #[.slice none 0 0] 32)) (.cells #[.int .i64 0] 22)
      have h2 := Below_new ((w.alloc (.cells #[.slice none 0 0] 32)).alloc (.cells #[.int .i64 0] 22)) (.cells #[.int .i64 0] 3)
      refine ⟨?_, ?_, ?_, by have := hb.size; simpa using this, ((((Below.refl _ w).alloc (Nat.le_refl _) _).alloc (by simp) _).alloc (by simp; omega) _).trans (below_less hb (by omega))⟩
      · rw [hb.block _ (by omega), Below.heap_alloc _ _ _ (by simp; omega), Below.heap_alloc _ _ _ (by simp)]; exact Below_new _ _
      · rw [hb.block _ (by omega), Below.heap_alloc _ _ _ (by simp)]; simpa using h1
      · rw [hb.block _ (by omega)]; simpa using h2
    have HB3 : Hid (∀ W2 W3 : World, Below (((w.alloc (.cells #[.slice none 0 0] 32)).alloc (.cells #[.int .i64 0] 22)).alloc (.cells #[.int .i64 0] 3)).heap.size (((w.alloc (.cells #[.slice none 0 0] 32)).alloc (.cells #[.int .i64 0] 22)).alloc (.cells #[.int .i64 0] 3)) W2 → Fr (fun k => k = W2.heap.size) (W2.alloc (.cells #[.string (bs t), .int .i64 N, .int .i64 0, .int .i64 0] 59)) W3 → (W3.heap[w.heap.size]? = some (.cells #[.slice none 0 0] 32 (0, 0)) ∧ W3.heap[w.heap.size + 1]? = some (.cells #[.int .i64 0] 22 (0, 0)) ∧ W3.heap[w.heap.size + 1 + 1]? = some (.cells #[.int .i64 0] 3 (0, 0))) ∧ w.heap.size + 3 ≤ W2.heap.size ∧ Below w.heap.size w W3) := fun W2 W3 hb f => by
      obtain ⟨h1, h2, h3, h4, h5⟩ := HBX.out W2 (by simpa using hb)
      have f2 : Fr (fun k => k = W2.heap.size) W2 W3 := ((Fr.refl _ W2).alloc _).same f
      exact ⟨⟨(f2.block _ (by omega) (by omega)).trans h1, (f2.block _ (by omega) (by omega)).trans h2, (f2.block _ (by omega) (by omega)).trans h3⟩, h4, h5.trans (f2.up (K := w.heap.size) (fun k e => by omega) (by omega))⟩
    cases hx : query ct t with
    | error y =>
      rw [hx] at HQ
      simp only
      clear hx h5 hbl hcl hcut
      go_enter_defers Tryz.func10, Tryz.ntmps10
      go_wp2_with (first | (go_at_call 19; refine (HBD.out _).mono ?_; rintro e w2 ⟨rfl, hb2⟩) | (go_at_call 20; refine (HQ.out _).mono ?_; rintro e w3 ⟨rfl, fr3⟩))
      obtain ⟨⟨h1, h2, h3⟩, hz2, hB⟩ := HB3.out _ _ hb2 fr3
      refine leaves_cons (f := 18) (args := #[ptr w.heap.size, ptr (w.heap.size + 1), ptr (w.heap.size + 1 + 1)]) (by simp) (by simp [go_sem]) ?_
      refine (catch_hit w.heap.size (w.heap.size + 1) (w.heap.size + 1 + 1) _ _ _ h1 h2 h3 (by omega) (by omega) (by omega)).mono ?_
      rintro e u' w4 ⟨rfl, rfl, k1, k2, k3, f4⟩
      have hB4 : Below w.heap.size w w4 := hB.trans (f4.up (K := w.heap.size) (fun k e => by omega) hB.size)
      have c1 := cell_of (i := 0) k1 rfl
      have c2 := cell_of (i := 0) k2 rfl
      have c3 := cell_of (i := 0) k3 rfl
      simp [Leaves, settle, results, Tryz.results10, go_sem, c1, c2, c3, PE, hB4]
    | ok z =>
      obtain ⟨ls, l1⟩ := z
      rw [hx] at HQ
      simp only
      clear hx h5 hbl hcl hcut
      go_enter_defers Tryz.func10, Tryz.ntmps10
      go_wp2_with (first | (go_at_call 19; refine (HBD.out _).mono ?_; rintro e w2 ⟨rfl, hb2⟩) | (go_at_call 20; refine (HQ.out _).mono ?_; rintro e w3 ⟨v3, rfl, qv3, rd3, fr3⟩; obtain ⟨⟨h1, h2, h3⟩, hz2, hB⟩ := HB3.out _ _ hb2 fr3; obtain ⟨vi, vc, rfl⟩ := sl.shape qv3; have QVH := hide qv3; clear qv3; obtain ⟨W4, hW4, h1', h2', h3', h2b, h3b, f4⟩ := three_set h1 h2 h3 (.slice vi ls.length vc); have x1 := cell_of (i := 0) h1 rfl; have y1 := free_of (i := 0) h1; have x2 := cell_of (i := 0) h2b rfl; have y2 := free_of (i := 0) h2b; have x3 := cell_of (i := 0) h3b rfl; have y3 := free_of (i := 0) h3b))
      refine leaves_cons (f := 18) (args := #[ptr w.heap.size, ptr (w.heap.size + 1), ptr (w.heap.size + 1 + 1)]) (by simp) (by simp [go_sem]) ?_
      refine (catch_idle w.heap.size (w.heap.size + 1) (w.heap.size + 1 + 1) _).mono ?_
      rintro e u' w5 ⟨rfl, rfl, rfl⟩
      have c1 := cell_alloc (.cells #[.int .i64 0, .int .i64 0] 55) (cell_of (i := 0) h1' rfl)
      have c2 := cell_alloc (.cells #[.int .i64 0, .int .i64 0] 55) (cell_of (i := 0) h2' rfl)
      have c3 := cell_alloc (.cells #[.int .i64 0, .int .i64 0] 55) (cell_of (i := 0) h3' rfl)
      have f5 := f4.alloc (.cells #[.int .i64 0, .int .i64 0] 55)
      have hB5 : Below w.heap.size w (W4.alloc (.cells #[.int .i64 0, .int .i64 0] 55)) := hB.trans (f5.up (K := w.heap.size) (fun k e => by omega) hB.size)
      have qv5 : QV (fun b => w.heap.size ≤ b) (W4.alloc (.cells #[.int .i64 0, .int .i64 0] 55)) (.slice vi ls.length vc) ls := QS.move (fun b hb hl => (fun (hb' : w2.heap.size + 1 ≤ b) => ⟨by omega, f5.block b hl (by omega)⟩) (by simpa using hb)) QVH.out
      simp [Leaves, settle, results, Tryz.results10, go_sem, c1, c2, c3, PE, hB5, qv5]
end Go.Proofs.YtigpjemceodjcaaGreatDoor

set_option linter.unusedSimpArgs false
set_option linter.unusedVariables false
namespace Go.Proofs.YtigpjemceodjcaaGreatDoor
open Go.RowKit Go.Maps Go.Lib
variable {w w' w1 W : World} {b : Nat} {o : L}

theorem info40 : ∃ j, Tryz.prog.info? 40 = some j ∧ j.size = 2 := Option.map_eq_some_iff.1 (by kernel_rfl : (Tryz.prog.info? 40).map (·.size) = some 2)
theorem infoB : (Tryz.prog.info? 5).map (fun i => (i.zero, i.size, i.bytes)) = some (some (.int .u8 0), 1, 1) := by kernel_rfl
theorem lies42 : liesAt Tryz.prog Tryz.prog.depth 42 (2 / Tryz.prog.cellsOf 42) 0 40 1 = true := by kernel_rfl
set_option maxHeartbeats 1000000 in
set_option maxRecDepth 100000 in
theorem copy_used (b : Nat) (w : World) (c0 : w.cell? ⟨b, 0, none⟩ = some (.pointer (some ⟨b, 0, none⟩))) :
    Calls Tryz.prog 36 #[.pointer (some ⟨b, 0, none⟩)] w fun e w' => e = .returned (.tuple #[]) ∧ w' = w := by
  obtain ⟨j, hj, _⟩ := info40
  go_enter Tryz.func36, Tryz.ntmps36
  go_wp2
  rw [Lib.run_neq_ptr_same w _ Tryz.underlying37 hj]
  go_wp2
  go_end0
  exact ⟨rfl, rfl⟩
set_option maxHeartbeats 1000000 in
set_option maxRecDepth 100000 in
theorem copy_fresh (b : Nat) (w : World) (c0 : w.cell? ⟨b, 0, none⟩ = some (.pointer none)) (hsh : w.shape? b = some (42, 2)) (f0 : w.frozen? ⟨b, 0, none⟩ = false) :
    Calls Tryz.prog 36 #[.pointer (some ⟨b, 0, none⟩)] w fun e w' => e = .returned (.tuple #[]) ∧ w' = w.setCell ⟨b, 0, none⟩ (.pointer (some ⟨b, 0, none⟩)) := by
  obtain ⟨j, hj, hjs⟩ := info40
  go_enter Tryz.func36, Tryz.ntmps36
  go_wp2
  rw [Lib.run_to_unsafe w ⟨b, 0, none⟩ Tryz.underlying37 Tryz.underlying96 hj (by rw [hjs]; decide) hsh (show 0 < 2 by decide)]
  simp only [Result.andThen]
  rw [Oper.upon_value]
  go_wp2
  rw [run_callFunc_extern Tryz.func50 (by kernel_rfl) (by kernel_rfl) (by kernel_rfl) (e := Extern.AbiNoEscape.same) (by kernel_rfl)]
  rw [Lib.run_noEscape]
  simp only [Result.andThen]
  rw [Oper.upon_value]
  go_wp2
  rw [Lib.run_from_unsafe w ⟨b, 0, none⟩ Tryz.underlying96 Tryz.underlying37 hj hsh lies42]
  simp only [Result.andThen]
  rw [Oper.upon_value]
  go_wp2
  go_end0
  exact ⟨rfl, rfl⟩
structure Wr (b : Nat) (w w' : World) : Prop where
  below : Below b w w'
  keep : ∀ k o, w.heap[k]? = some o → k ≠ b → (∀ c fz, o ≠ .cells c 5 fz) → w'.heap[k]? = some o
theorem Wr.refl (b : Nat) (w : World) : Wr b w w := ⟨Below.refl b w, fun _ _ h _ _ => h⟩
theorem Wr.trans {w'' : World} (h : Wr b w w') (h' : Wr b w' w'') : Wr b w w'' := ⟨h.below.trans h'.below, fun k o e n c => h'.keep k o (h.keep k o e n c) n c⟩
theorem Wr.past (hb : b ≤ w.heap.size) (h : Below w.heap.size w w') : Wr b w w' := ⟨⟨h.os, h.tape, h.output, h.size, fun k hk => h.block k (by omega)⟩, fun k o e _ _ => by rw [h.block k (blk_lt e)]; exact e⟩
structure WB (b : Nat) (o : L) (w : World) : Prop where
  ex : ∃ p v, (p = .pointer none ∨ p = .pointer (some ⟨b, 0, none⟩)) ∧ w.heap[b]? = some (.cells #[p, v] 42 (0, 0)) ∧ w.ownsRowF b 5 1 v o.length (Lib.byteCells o) ∧ v.ownBlock ≠ some b
theorem wcells {p v : Value} (hbk : w.heap[b]? = some (.cells #[p, v] 42 (0, 0))) : w.cell? ⟨b, 0, none⟩ = some p ∧ w.cell? ⟨b, 1, none⟩ = some v ∧ w.frozen? ⟨b, 0, none⟩ = false ∧ w.frozen? ⟨b, 1, none⟩ = false ∧ w.shape? b = some (42, 2) ∧ b < w.heap.size :=
  ⟨cell_of hbk rfl, cell_of hbk rfl, free_of hbk, free_of hbk, by simp [World.shape?, hbk], blk_lt hbk⟩
theorem WB.lt (h : WB b o w) : b < w.heap.size := by obtain ⟨p, v, _, hbk, _⟩ := h.ex; exact blk_lt hbk
theorem wcopy_ok (h : WB b o w) : Calls Tryz.prog 36 #[.pointer (some ⟨b, 0, none⟩)] w fun e w' => e = .returned (.tuple #[]) ∧ ∃ v, w'.heap[b]? = some (.cells #[.pointer (some ⟨b, 0, none⟩), v] 42 (0, 0)) ∧ w'.ownsRowF b 5 1 v o.length (Lib.byteCells o) ∧ v.ownBlock ≠ some b ∧ Wr b w w' := by
  obtain ⟨p, v, hp, hbk, hown, hne⟩ := h.ex
  obtain ⟨c0, c1, f0, f1, hsh, hlt⟩ := wcells hbk
  rcases hp with rfl | rfl
  · refine (copy_fresh b w c0 hsh f0).mono ?_
    rintro e w' ⟨rfl, rfl⟩
    refine ⟨rfl, v, ?_, ?_, hne, (Below.refl b w).setCell (p := ⟨b, 0, none⟩) (Nat.le_refl _) _, fun k o e n _ => by rw [Below.heap_setCell _ _ _ _ n]; exact e⟩
    · rw [set_of hbk]; rfl
    · refine hown.kept (row := some b) ⟨rfl, rfl, rfl, by simp [World.setCell], fun k _ hk => Below.heap_setCell _ _ _ _ (fun e => hk (by rw [e]))⟩ ?_
      exact Or.inr hne
  · refine (copy_used b w c0).mono ?_
    rintro e w' ⟨rfl, rfl⟩
    exact ⟨rfl, v, hbk, hown, hne, Wr.refl _ _⟩
set_option maxHeartbeats 2000000 in
set_option maxRecDepth 100000 in
theorem write_ok (h : WB b o w) (s : ByteArray) (hlen : o.length + s.size ≤ 140737488355328) :
    Calls Tryz.prog 22 #[.pointer (some ⟨b, 0, none⟩), .string s] w fun e w' => e = .returned (.tuple #[.int .i64 s.size, .nilIface]) ∧ WB b (o ++ s.data.toList) w' ∧ Wr b w w' := by
  obtain ⟨i0, hi, hz0, hz1, hz2⟩ := info_parts infoB
  have hcc := wcopy_ok h
  clear h
  go_enter Tryz.func22, Tryz.ntmps22
  go_wp2_with (go_at_call 36; refine hcc.mono ?_)
  rintro e w1 ⟨rfl, v, hbk, hown, hne, hb1⟩
  obtain ⟨c0, c1, f0, f1, _, hlt⟩ := wcells hbk
  go_wp2_with (at_builtin; refine Lib.wpList_append_own_stringF _ rfl _ _ 38 9 rfl b 5 i0 Tryz.underlying38 Tryz.underlying9 hi hz0 hz1 hz2 _ _ _ rfl hown s rfl ?c3 ?c4 ?c5 ?_)
  case c3 => unfold maxLen; omega
  case c4 => omega
  case c5 => omega
  intro v' w2 hown' hgrow _
  have hb2 : w2.heap[b]? = some (.cells #[.pointer (some ⟨b, 0, none⟩), v] 42 (0, 0)) := by
    rw [hgrow.block b hlt (fun e => hne e.symm)]; exact hbk
  obtain ⟨d0, d1, g0, g1, _, _⟩ := wcells hb2
  have hne' : v'.ownBlock ≠ some b := by
    intro e
    rcases hown'.2 with ⟨hv, _⟩ | ⟨g, cap, cur, fz, hv, _, hgg, _⟩
    · rw [hv] at e; cases e
    · rw [hv] at e
      have eg : g = b := by simpa [Value.ownBlock] using e
      rw [eg, hb2] at hgg
      simp at hgg
  obtain ⟨ao, n', cap, rfl⟩ : ∃ ao n' cap, v' = .slice ao n' cap := by
    rcases hown'.2 with ⟨hv, _⟩ | ⟨g, cap, cur, fz, hv, _⟩ <;> exact ⟨_, _, _, hv⟩
  have hcells : Lib.byteCells o ++ Lib.strCells s = Lib.byteCells (o ++ s.data.toList) := by
    simp [Lib.byteCells, Lib.strCells]
  have hblk : Wr b w w2 := ⟨hb1.below.grown hgrow (Nat.le_of_lt hlt) (fun k hk => (hown.lt k hk).1), fun k o e n c => by
    have e1 := hb1.keep k o e n c
    rw [hgrow.block k (blk_lt e1) ?_]
    · exact e1
    · intro hk
      rcases hown.2 with ⟨hv, _⟩ | ⟨g, cap, cur, fz, hv, _, hgg, _⟩
      · rw [hv] at hk; cases hk
      · rw [hv] at hk
        have eg : k = g := by simpa [Value.ownBlock] using hk
        rw [eg, hgg] at e1
        exact c cur fz (Option.some.inj e1).symm⟩
  have HO := hide hown'
  have HB := hide hblk
  have HB2 := hide hb2
  have HNE := hide hne'
  clear hown' hblk hgrow hown hb2 hne'
  go_wp2
  go_ret2
  refine ⟨rfl, ⟨.pointer (some ⟨b, 0, none⟩), _, Or.inr rfl, by rw [set_of HB2.out]; rfl, ?_, HNE.out⟩, HB.out.below.setCell (p := ⟨b, 1, none⟩) (Nat.le_refl _) _, fun k o e n c => by rw [Below.heap_setCell _ _ _ _ n]; exact HB.out.keep k o e n c⟩
  have hl : (o ++ s.data.toList).length = o.length + s.size := by simp
  rw [← hcells, hl]
  refine HO.out.kept (row := some b) ⟨rfl, rfl, rfl, by simp [World.setCell], fun k _ hk => Below.heap_setCell _ _ _ _ (fun e => hk (by rw [e]))⟩ (Or.inr HNE.out)
set_option maxHeartbeats 1000000 in
set_option maxRecDepth 100000 in
theorem string_some (b g n cap : Nat) (s : ByteArray) (W : World) (hW : Below b w W) (c1 : w.drew.cell? ⟨b, 1, none⟩ = some (.slice (some ⟨g, 0, none⟩) n cap))
    (hSD : (Builtin.unsafeSliceData_ #[38] 69 #[.slice (some ⟨g, 0, none⟩) n cap]).run Tryz.prog w.drew = .ok (.pointer (some ⟨g, 0, none⟩)) w.drew)
    (hUS : (Builtin.unsafeString_ #[69, 3] 9 #[.pointer (some ⟨g, 0, none⟩), .int .i64 n]).run Tryz.prog w.drew = .ok (.string s) W) :
    Calls Tryz.prog 13 #[.pointer (some ⟨b, 0, none⟩)] w fun e w' => e = .returned (.string s) ∧ Below b w w' := by
  have mixed := Tryz.lays99.mixed
  go_enter Tryz.func13, Tryz.ntmps13
  go_wp2_with fail
  go_region_o
  all_goals (go_wp2; go_ret; exact ⟨rfl, hW⟩)
set_option maxHeartbeats 1000000 in
set_option maxRecDepth 100000 in
theorem string_nil (b : Nat) (c1 : w.drew.cell? ⟨b, 1, none⟩ = some (.slice none 0 0)) :
    Calls Tryz.prog 13 #[.pointer (some ⟨b, 0, none⟩)] w fun e w' => e = .returned (.string ⟨#[]⟩) ∧ Below b w w' := by
  have mixed := Tryz.lays99.mixed
  have hSD : (Builtin.unsafeSliceData_ #[38] 69 #[.slice none 0 0]).run Tryz.prog w.drew = .ok (.pointer none) w.drew := rfl
  have hUS : (Builtin.unsafeString_ #[69, 3] 9 #[.pointer none, .int .i64 0]).run Tryz.prog w.drew = .ok (.string .empty) w.drew := Lib.run_unsafeString_none (P := Tryz.prog) w.drew 69 3 9 none
  go_enter Tryz.func13, Tryz.ntmps13
  go_wp2_with fail
  go_region_o
  all_goals (go_wp2; go_ret; exact ⟨rfl, (Below.refl b w).drew⟩)
set_option maxHeartbeats 1000000 in
set_option maxRecDepth 100000 in
theorem string_zero (b g : Nat) (cur : Array Value) (fz : Nat × Nat) (hbw : b ≤ w.heap.size) (c1 : w.drew.cell? ⟨b, 1, none⟩ = some (.slice (some ⟨g, 0, none⟩) 0 0)) (hg : w.heap[g]? = some (.cells cur 5 fz)) :
    Calls Tryz.prog 13 #[.pointer (some ⟨b, 0, none⟩)] w fun e w' => e = .returned (.string ⟨#[]⟩) ∧ Below b w w' := by
  have mixed := Tryz.lays99.mixed
  have hSD : (Builtin.unsafeSliceData_ #[38] 69 #[.slice (some ⟨g, 0, none⟩) 0 0]).run Tryz.prog w.drew = .ok (.pointer (some ⟨w.drew.heap.size, 0, none⟩)) (w.drew.alloc (.view ⟨g, 0, none⟩ 5)) :=
    Lib.run_unsafeSliceData_zero w.drew _ _ 5 Tryz.underlying69 ⟨g, 0, none⟩ 0 (5, cur.size) (by have hg' : w.drew.heap[g]? = some (.cells cur 5 fz) := hg; simp [World.shape?, hg'])
  have hUS : ∀ q W, (Builtin.unsafeString_ #[69, 3] 9 #[.pointer q, .int .i64 0]).run Tryz.prog W = .ok (.string .empty) W := fun q W => Lib.run_unsafeString_none (P := Tryz.prog) W 69 3 9 q
  have c2 : (w.drew.alloc (.view ⟨g, 0, none⟩ 5)).cell? ⟨b, 1, none⟩ = some (.slice (some ⟨g, 0, none⟩) 0 0) := cell_alloc _ c1
  have c3 : (w.alloc (.view ⟨g, 0, none⟩ 5)).drew.cell? ⟨b, 1, none⟩ = some (.slice (some ⟨g, 0, none⟩) 0 0) := c2
  have c0 : w.cell? ⟨b, 1, none⟩ = some (.slice (some ⟨g, 0, none⟩) 0 0) := c1
  go_enter Tryz.func13, Tryz.ntmps13
  go_wp2_with fail
  go_region_o
  all_goals (go_wp2; go_ret; exact ⟨rfl, ((Below.refl b w).drew).alloc hbw _⟩)
theorem cellsB : Tryz.prog.cellsOf 5 = 1 := by kernel_rfl
theorem string_ok (h : WB b o w) : Calls Tryz.prog 13 #[.pointer (some ⟨b, 0, none⟩)] w fun e w' => e = .returned (.string (bs o)) ∧ Below b w w' := by
  obtain ⟨p, v, hp, hbk, hown, hne⟩ := h.ex
  obtain ⟨_, c1, _, _, _, hbl⟩ := wcells hbk
  rcases hown.2 with ⟨rfl, hz⟩ | ⟨g, cap, cur, fz, rfl, hbg, hg, hfz, hnc, hcm, hcs, htake⟩
  · obtain rfl : o = [] := List.eq_nil_of_length_eq_zero hz
    exact string_nil b c1
  · by_cases h0 : o = []
    · subst h0
      by_cases hc : cap = 0
      · subst hc
        exact string_zero b g cur fz (Nat.le_of_lt hbl) c1 hg
      · exact string_some b g 0 cap ⟨#[]⟩ w.drew (Below.refl b w).drew c1 (Lib.run_unsafeSliceData_row _ _ _ _ _ _ hc) (Lib.run_unsafeString_none (P := Tryz.prog) w.drew 69 3 9 _)
    · have hl0 : o.length ≠ 0 := by simpa using h0
      refine string_some b g o.length cap ⟨o.toArray⟩ (w.drew.freeze ⟨g, 0, none⟩ o.length) (Lib.below_freeze (Below.drew (Below.refl b w)) (p := ⟨g, 0, none⟩) hbg _) c1 (Lib.run_unsafeSliceData_row _ _ _ _ _ _ (by omega)) ?_
      refine Lib.run_unsafeString_row w.drew 69 3 9 5 Tryz.underlying69 cellsB g cur.size (by have hg' : w.drew.heap[g]? = some (.cells cur 5 fz) := hg; simp [World.shape?, hg']) o h0 (by omega) (by unfold maxLen at hcm; omega) ?_
      intro j x hx
      exact hown.cells (g := g) rfl j (.int .u8 x.toNat) (by simp [Lib.byteCells, hx])
end Go.Proofs.YtigpjemceodjcaaGreatDoor

namespace Go.Proofs.YtigpjemceodjcaaGreatDoor.Ch
open Go
def numFrom (u : ByteArray) (b : Int) : Nat → Nat → Int → Int × Int
  | 0, _, _ => (0, 0)
  | f + 1, pos, n =>
    if bz u pos = 59 then (if may n = true then (n, (pos : Int) + 1) else (0, 0))
    else if b ≤ dig 16 (bz u pos) then (0, 0)
    else numFrom u b f (pos + 1) (if n ≤ 1114111 then n * b + dig 16 (bz u pos) else n)
def num (u : ByteArray) (b : Int) : Int × Int := numFrom u b (u.size + 1) 0 0
end Go.Proofs.YtigpjemceodjcaaGreatDoor.Ch

namespace Go.Proofs.YtigpjemceodjcaaGreatDoor.Ch
open Go
def bytes (s : ByteArray) (i n : Nat) : List UInt8 := (s.data.toList.drop i).take n
end Go.Proofs.YtigpjemceodjcaaGreatDoor.Ch

namespace Go.Proofs.YtigpjemceodjcaaGreatDoor.Ch
open Go
theorem bytes_high {s : ByteArray} {i : Nat} (hi : i < s.size) (h : 128 ≤ bz s i) : ∀ j, i ≤ j → j < i + (Utf8.decode s i).2 → 128 ≤ bz s j := by
  have one : ∀ j, i ≤ j → j < i + 1 → 128 ≤ bz s j := fun j a b => by
    obtain rfl : i = j := by omega
    exact h
  by_cases a2 : bz s i < 192
  · rw [decode_none (Or.inl ⟨h, a2⟩)]; exact one
  by_cases a3 : bz s i < 224
  · by_cases c1 : cont s (i + 1)
    · rw [decode_two (by omega) a3 c1]
      split
      · intro j x y
        unfold cont at c1
        have : j = i ∨ j = i + 1 := by omega
        rcases this with rfl | rfl <;> omega
      · exact one
    · rw [decode_two_no (by omega) a3 c1]; exact one
  by_cases a4 : bz s i < 240
  · by_cases c1 : cont s (i + 1)
    · by_cases c2 : cont s (i + 2)
      · rw [decode_three (by omega) a4 c1 c2]
        split
        · intro j x y
          unfold cont at c1 c2
          have : j = i ∨ j = i + 1 ∨ j = i + 2 := by omega
          rcases this with rfl | rfl | rfl <;> omega
        · exact one
      · rw [decode_three_no (by omega) a4 (Or.inr c2)]; exact one
    · rw [decode_three_no (by omega) a4 (Or.inl c1)]; exact one
  by_cases a5 : bz s i < 248
  · by_cases c1 : cont s (i + 1)
    · by_cases c2 : cont s (i + 2)
      · by_cases c3 : cont s (i + 3)
        · rw [decode_four (by omega) a5 c1 c2 c3]
          split
          · intro j x y
            unfold cont at c1 c2 c3
            have : j = i ∨ j = i + 1 ∨ j = i + 2 ∨ j = i + 3 := by omega
            rcases this with rfl | rfl | rfl | rfl <;> omega
          · exact one
        · rw [decode_four_no (by omega) a5 (Or.inr (Or.inr c3))]; exact one
      · rw [decode_four_no (by omega) a5 (Or.inr (Or.inl c2))]; exact one
    · rw [decode_four_no (by omega) a5 (Or.inl c1)]; exact one
  · rw [decode_none (Or.inr (by omega))]; exact one
end Go.Proofs.YtigpjemceodjcaaGreatDoor.Ch
