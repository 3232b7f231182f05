import Derived.Test.YtoahlnmhjinneaaGreatDoorGae
set_option linter.unusedVariables false
set_option linter.unusedSimpArgs false
set_option linter.unusedSimpArgs false
set_option linter.unusedVariables false
namespace Go.Proofs.YtoahlnmhjinneaaGreatDoor
open Go.RowKit Go.Maps Go.Lib
variable {w w' w1 w2 W0 W2 W4 : World} {F G : Nat → Prop} {R lo : Nat} {t l l' : L} {wh n : Nat} {inn : Option (L → Rs Prd)} {v v' vp vk vs : Value}
theorem thn_ok {α β : Type} (a : α) (l : L) (f : α → L → Rs β) : thn (.ok (a, l)) f = f a l := rfl
theorem thn_er {α β : Type} (y : Nat × Nat) (f : α → L → Rs β) : thn (.error y) f = .error y := rfl
structure PI (R : Nat) (t : L) (wh n : Nat) (inn : Option (L → Rs Prd)) (w : World) (X : Rs (List Stp)) (wr : World) (v : Value) (ls : List Stp) (s : Stp) (lc : L) : Prop where
  rd : RD R t wh n wr lc
  gs : GS w.heap.size 79 112 wr v (ls ++ [s])
  fr : Fr (fun k => k = R ∨ w.heap.size ≤ k) w wr
  eq : ∃ fu, lc.length < fu ∧ X = thn (pathMore (cutB t wh) inn fu s lc) fun qs l => .ok (ls ++ s :: qs, l)
  sm : ls.length + 1 + lc.length ≤ 501
  lt : R < w.heap.size
theorem PI.below {X : Rs (List Stp)} {wr W : World} {ls : List Stp} {s : Stp} {lc : L} (h : PI R t wh n inn w X wr v ls s lc) (hb : Below wr.heap.size wr W) : PI R t wh n inn w X W v ls s lc :=
  ⟨h.rd.below hb, h.gs.fr (Fr.below (F := fun _ => False) hb) (fun _ x _ => x.elim), h.fr.on hb, h.eq, h.sm, h.lt⟩
theorem PI.go {X : Rs (List Stp)} {wr : World} {ls : List Stp} {s : Stp} {lc : L} (h : PI R t wh n inn w X wr v ls s lc) (hg : goesOn s lc = true) :
    (∀ y, slash (cutB t wh) lc = .error y → X = .error y) ∧ ∀ d l1, slash (cutB t wh) lc = .ok (d, l1) → l1.length < lc.length ∧ (∀ y, step (cutB t wh) inn d l1 = .error y → X = .error y) ∧
      ∀ s' l2, step (cutB t wh) inn d l1 = .ok (s', l2) → l2 <:+ l1 → ∃ fu, l2.length < fu ∧ X = thn (pathMore (cutB t wh) inn fu s' l2) fun qs l => .ok ((ls ++ [s]) ++ s' :: qs, l) := by
  obtain ⟨fu, e1, e2⟩ := h.eq
  cases fu with
  | zero => omega
  | succ fu =>
    rw [pathMore, if_pos hg] at e2
    refine ⟨fun y hy => by rw [e2, hy]; rfl, fun d l1 hy => ⟨slash_lt hy, fun y hz => by rw [e2, hy]; simp only [thn_ok, thn_er, hz], fun s' l2 hz hs => ⟨fu, by have := hs.length_le; have := slash_lt hy; omega, ?_⟩⟩⟩
    rw [e2, hy]; simp only [thn_ok, hz]
    cases pathMore (cutB t wh) inn fu s' l2 with
    | error y => rfl
    | ok z => obtain ⟨za, zb⟩ := z; simp only [thn_ok, List.append_assoc, List.cons_append, List.nil_append]
theorem PI.stop {X : Rs (List Stp)} {wr : World} {ls : List Stp} {s : Stp} {lc : L} (h : PI R t wh n inn w X wr v ls s lc) (hg : goesOn s lc = false) : X = .ok (ls ++ [s], lc) := by
  obtain ⟨fu, e1, e2⟩ := h.eq
  rw [e2]
  cases fu with
  | zero => omega
  | succ fu => rw [pathMore, if_neg (by rw [hg]; simp)]; rfl
def SL (A : Nat → Prop) (w : World) (v : Value) (ls : List Stp) : Prop := slS w A 79 112 v (Stps.of ls)
set_option maxHeartbeats 8000000 in
set_option maxRecDepth 100000 in
theorem path_ok (hi : InOK R t wh n inn) (h : RD R t wh n w l) : Calls Tryz.prog 71 #[ptr R] w (Ends R t wh n (SL (fun b => w.heap.size ≤ b)) w (path (cutB t wh) inn l)) := by
  have HSL := hide (slash_ok h)
  have hR := h.lt
  have h5 : l.length ≤ 500 := by have := h.le; have := h.tw; have := h.wh5; omega
  unfold path
  cases hx : slash (cutB t wh) l with
  | error y =>
    rw [hx] at HSL
    simp only [thn]
    clear hx h
    go_enter Tryz.func71, Tryz.ntmps71
    go_wp2_with (first | (go_at_call 92; refine HSL.out.mono ?_; rintro e w2 ⟨rfl, fr⟩))
    exact ⟨rfl, rfl, fr⟩
  | ok z =>
    obtain ⟨d, l1⟩ := z
    rw [hx] at HSL
    have HST : Hid (∀ W, RD R t wh n W l1 → Calls Tryz.prog 91 #[ptr R, .bool d] W (Ends R t wh n (SV (fun b => W.heap.size ≤ b) 79 112) W (step (cutB t wh) inn d l1))) := fun W hW => step_ok d hi hW
    have hl1 := (slash_suf l d l1 hx).length_le
    have hl1' := slash_lt hx
    simp only [thn]
    clear hx h
    cases hy : step (cutB t wh) inn d l1 with
    | error y =>
      rw [hy] at HST
      clear hy
      go_enter Tryz.func71, Tryz.ntmps71
      go_wp2_with (first | (go_at_call 92; refine HSL.out.mono ?_; rintro e w2 ⟨v, rfl, rfl, rd, fr⟩) | (go_at_call 91; refine (HST.out _ rd).mono ?_; rintro e w3 ⟨rfl, fr3⟩))
      exact ⟨rfl, rfl, fr.same fr3⟩
    | ok z =>
      obtain ⟨s, l2⟩ := z
      rw [hy] at HST
      have hl2 := (step_suf hi.suf d l1 s l2 hy).length_le
      simp only
      obtain ⟨X, hX⟩ : ∃ X, (thn (pathMore (cutB t wh) inn (l2.length + 1) s l2) fun ss l => (.ok (s :: ss, l) : Rs (List Stp))) = X := ⟨_, rfl⟩
      have hX' := hX
      simp only [thn] at hX
      rw [hX]
      clear hX
      have HL : Hid (∀ W1 W2 v, Fr (fun k => k = R) w W1 → Fr (fun k => k = R) W1 W2 → RD R t wh n W2 l2 → SV (fun b => W1.heap.size ≤ b) 79 112 W2 v s → ∃ te vi vn vc, v = .agg #[.bool s.deep, .string te, .slice vi vn vc] ∧ PI R t wh n inn w X (W2.alloc (.cells #[.bool s.deep, .string te, .slice vi vn vc] 79)) (.slice (some ⟨W2.heap.size, 0, none⟩) 1 1) [] s l2) := fun W1 W2 v f1 f2 rd sv => by
        obtain ⟨vp, rfl, sp⟩ := sv
        obtain ⟨vi, vc, rfl⟩ := sl.shape sp
        refine ⟨_, vi, _, vc, rfl, rd.fr ((Fr.refl (fun _ => False) W2).alloc _) (fun x => x), GS.first (lo := w.heap.size) (Nat.le_trans f1.size f2.size) (sp.move fun b hb _ => ⟨Nat.le_trans f1.size hb, rfl⟩), ((f1.same f2).alloc _).mono (fun k e => Or.inl e), ⟨l2.length + 1, by omega, by rw [← hX']; rfl⟩, by simp; omega, hR⟩
      have HI := hide hi
      clear hy hX' hi
      obtain ⟨i0, hi, hz0, hz1, hz2⟩ := info_parts info53
      go_enter Tryz.func71, Tryz.ntmps71
      go_wp2_with (first | (go_at_call 92; refine HSL.out.mono ?_; rintro e w2 ⟨v, rfl, rfl, rd, fr⟩) | (go_at_call 91; refine (HST.out _ rd).mono ?_; rintro e w3 ⟨v, rfl, sv3, rd3, fr3⟩; obtain ⟨te, vi, vn, vc, rfl, hP⟩ := HL.out _ _ _ fr fr3 rd3 sv3; have HP0 := hide hP; clear hP sv3))
      clear rd rd3 fr fr3
      go_loopw [3, 9, 10, 11, 12, 13, 14, 15, 16, 17, 18] (fun u3 _ _ _ _ _ _ _ _ _ _ wr => ∃ ls s lc, PI R t wh n inn w X wr u3 ls s lc) (fun _ _ _ _ _ _ _ _ _ _ _ wr => mea R t wr)
      case atStart => exact ⟨_, _, _, HP0.out⟩
      case round =>
        rename World => WO
        obtain ⟨ls, s, lc, hP⟩ := hrel
        have HG := hide (goesOn_ok hP.rd hP.gs (by have := hP.sm; omega))
        have hmea : mea R t WO = lc.length := hP.rd.mea
        have HP1 := hide hP
        obtain ⟨bg, hbg⟩ : ∃ b, goesOn s lc = b := ⟨_, rfl⟩
        rw [hbg] at HG
        cases bg with
        | false =>
          have hX := hP.stop hbg
          subst hX
          have HE : Hid (∀ W, Below WO.heap.size WO W → SL (fun b => w.heap.size ≤ b) W u3 (ls ++ [s]) ∧ RD R t wh n W lc ∧ Fr (fun k => k = R) w W) := fun W hW => by
            have q := HP1.out.below hW
            exact ⟨q.gs.done (by have := q.sm; simp; omega) (fun e => by simp at e), q.rd, q.fr.restrict (fun k hk x => by omega)⟩
          clear hP hbg
          go_wp2_with (first | (go_at_call 93; refine HG.out.mono ?_; rintro e w4 ⟨rfl, hb4⟩))
          obtain ⟨e1, e2, e3⟩ := HE.out _ hb4
          go_ret
          exact ⟨_, rfl, e1, e2, e3⟩
        | true =>
          have hgo := hP.go hbg
          have HSL2 : Hid (∀ W, RD R t wh n W lc → Calls Tryz.prog 92 #[ptr R] W (Ends R t wh n VB W (slash (cutB t wh) lc))) := fun W hW => slash_ok hW
          clear hP hbg
          cases hs1 : slash (cutB t wh) lc with
          | error y =>
            have hX := hgo.1 y hs1
            subst hX
            rw [hs1] at HSL2
            clear hs1 hgo
            go_wp2_with (first | (go_at_call 93; refine HG.out.mono ?_; rintro e w4 ⟨rfl, hb4⟩; have rd4 := HP1.out.rd.below hb4) | (go_at_call 92; refine (HSL2.out _ rd4).mono ?_; rintro e w5 ⟨rfl, fr5⟩))
            exact ⟨rfl, rfl, ((HP1.out.fr.on hb4).trans fr5 (fun i hi x => Or.inl x)).restrict (fun k hk x => by omega)⟩
          | ok z =>
            obtain ⟨d1, l3⟩ := z
            obtain ⟨hlt3, hgo2, hgo3⟩ := hgo.2 d1 l3 hs1
            rw [hs1] at HSL2
            have HST2 : Hid (∀ W, RD R t wh n W l3 → Calls Tryz.prog 91 #[ptr R, .bool d1] W (Ends R t wh n (SV (fun b => W.heap.size ≤ b) 79 112) W (step (cutB t wh) inn d1 l3))) := fun W hW => step_ok d1 HI.out hW
            clear hs1 hgo
            cases hs2 : step (cutB t wh) inn d1 l3 with
            | error y =>
              have hX := hgo2 y hs2
              subst hX
              rw [hs2] at HST2
              clear hs2 hgo2 hgo3
              go_wp2_with (first | (go_at_call 93; refine HG.out.mono ?_; rintro e w4 ⟨rfl, hb4⟩; have rd4 := HP1.out.rd.below hb4) | (go_at_call 92; refine (HSL2.out _ rd4).mono ?_; rintro e w5 ⟨v5, rfl, rfl, rd5, fr5⟩) | (go_at_call 91; refine (HST2.out _ rd5).mono ?_; rintro e w6 ⟨rfl, fr6⟩))
              exact ⟨rfl, rfl, ((HP1.out.fr.on hb4).trans (fr5.same fr6) (fun i hi x => Or.inl x)).restrict (fun k hk x => by omega)⟩
            | ok z =>
              obtain ⟨s', l4⟩ := z
              rw [hs2] at HST2
              have hsf := step_suf HI.out.suf d1 l3 s' l4 hs2
              have hl4 := hsf.length_le
              have HNX := hide (hgo3 s' l4 hs2 hsf)
              clear hs2 hgo2 hgo3
              have HPREP : Hid (∀ W1 W2 W3 v, Below WO.heap.size WO W1 → Fr (fun k => k = R) W1 W2 → Fr (fun k => k = R) W2 W3 → RD R t wh n W3 l4 → SV (fun b => W2.heap.size ≤ b) 79 112 W3 v s' → ∃ te vi vn vc, v = .agg #[.bool s'.deep, .string te, .slice vi vn vc] ∧ ∃ xs, (W3.alloc (.cells #[.bool s'.deep, .string te, .slice vi vn vc] 79)).ownsRow 0 79 3 u3 (ls.length + 1) (sCells xs) ∧ ∀ v' W4, W4.ownsRow 0 79 3 v' (ls.length + 1 + 1) (sCells xs ++ [.bool s'.deep, .string te, .slice vi vn vc]) → (W3.alloc (.cells #[.bool s'.deep, .string te, .slice vi vn vc] 79)).grownBy W4 u3.ownBlock → (v'.ownBlock = u3.ownBlock ∨ v'.ownBlock = some (W3.heap.size + 1)) → PI R t wh n inn w X W4 v' (ls ++ [s]) s' l4) := fun W1 W2 W3 v b1 f2 f3 rd sv => by
                obtain ⟨vp, rfl, sp⟩ := sv
                obtain ⟨vi, vc, rfl⟩ := sl.shape sp
                have q := HP1.out.below b1
                have hz := q.fr.size
                obtain ⟨xs, x1, x2⟩ := (q.gs.fr f2 (fun k e _ => by omega)).prep f3 hR (Nat.le_trans hz f2.size) sp (.cells #[.bool s'.deep, .string (bs s'.test), .slice vi s'.preds.len vc] 79)
                rw [List.length_append] at x1 x2
                refine ⟨_, vi, _, vc, rfl, xs, x1, fun v' W4 ho hg hat => ?_⟩
                obtain ⟨g1, g2, g3⟩ := x2 v' W4 ho hg (by simpa using hat)
                exact ⟨rd.fr g3 (by omega), g1, (q.fr.trans f2 (fun i hi x => Or.inl x)).same g2, HNX.out, by have := q.sm; simp; omega, hR⟩
              go_wp2_with (first | (go_at_call 93; refine HG.out.mono ?_; rintro e w4 ⟨rfl, hb4⟩; have rd4 := HP1.out.rd.below hb4) | (go_at_call 92; refine (HSL2.out _ rd4).mono ?_; rintro e w5 ⟨v5, rfl, rfl, rd5, fr5⟩) | (go_at_call 91; refine (HST2.out _ rd5).mono ?_; rintro e w6 ⟨v6, rfl, sv6, rd6, fr6⟩; obtain ⟨te6, vi6, vn6, vc6, rfl, xs, hx1, hx2⟩ := HPREP.out _ _ _ _ hb4 fr5 fr6 rd6 sv6; have HX2 := hide hx2; clear hx2 sv6) | (at_builtin; refine wpList_append_own_at _ rfl (.tmp 12) (.tmp 17) 52 rfl 0 79 i0 _ 3 48 Tryz.underlying52 hi hz0 hz1 hz2 rfl (by decide) u3 (ls.length + 1) (sCells xs) rfl hx1 ⟨w6.heap.size, 0, none⟩ 1 1 [.bool s'.deep, .string te6, .slice vi6 vn6 vc6] rfl rfl (news_of _ _ _) ?c2 ?c3 ?c4 (Nat.zero_le _) ?_))
              case c2 =>
                intro u hu
                simp only [List.mem_cons, List.not_mem_nil, or_false] at hu
                rcases hu with rfl | rfl | rfl <;> rfl
              case c3 => have := HP1.out.sm; unfold maxLen; omega
              case c4 => have := HP1.out.sm; omega
              intro v' w7 ho hg _ hat
              have hP7 := HX2.out v' w7 ho hg (by simpa using hat)
              go_wp2
              exact ⟨⟨_, _, _, hP7⟩, by rw [hP7.rd.mea, hmea]; omega⟩
end Go.Proofs.YtoahlnmhjinneaaGreatDoor

set_option linter.unusedSimpArgs false
set_option linter.unusedVariables false
namespace Go.Proofs.YtoahlnmhjinneaaGreatDoor
open Go.RowKit Go.Maps Go.Lib
variable {w w' w1 w2 W0 W2 W4 : World} {F G : Nat → Prop} {R lo : Nat} {t l l' : L} {wh n : Nat} {inn : Option (L → Rs Prd)} {v v' vp vk vs : Value} {tS tP : TypeId}
theorem PV.move {A A' : Nat → Prop} {p : Prd} (hm : Move A A' w w') (h : PV A tS tP w v p) : PV A' tS tP w' v p := by
  obtain ⟨vk, vs, rfl, h1, h2⟩ := h
  exact ⟨vk, vs, rfl, h1.move hm, h2.move hm⟩
theorem PV.shape {A : Nat → Prop} {p : Prd} (h : PV A tS tP w v p) : ∃ ki nk kc si ns sc, v = .agg #[.string (bs p.op), .slice ki nk kc, .slice si ns sc, .string (bs p.attr), .string (bs p.text)] ∧ slP w A tS tP (.slice ki nk kc) p.kids ∧ slS w A tS tP (.slice si ns sc) p.steps := by
  obtain ⟨vk, vs, rfl, a1, a2⟩ := h
  obtain ⟨ki, kc, rfl⟩ := sl.shape a1
  obtain ⟨si, sc, rfl⟩ := sl.shape a2
  exact ⟨ki, _, kc, si, _, sc, rfl, a1, a2⟩
theorem box5 {b : Nat} {x0 x1 x2 x3 x4 : Value} {ty : TypeId} (a c e f g : Value) (h : w.heap[b]? = some (.cells #[x0, x1, x2, x3, x4] ty (0, 0))) : ∃ W, ((((w.setCell ⟨b, 0, none⟩ a).setCell ⟨b, 1, none⟩ c).setCell ⟨b, 2, none⟩ e).setCell ⟨b, 3, none⟩ f).setCell ⟨b, 4, none⟩ g = W ∧ W.heap[b]? = some (.cells #[a, c, e, f, g] ty (0, 0)) ∧ Fr (fun k => k = b) w W :=
  ⟨_, rfl, set_of (i := 4) (set_of (i := 3) (set_of (i := 2) (set_of (i := 1) (set_of (i := 0) h a) c) e) f) g, (((((Fr.refl (fun k => k = b) w).set ⟨b, 0, none⟩ a (fun _ => rfl)).set ⟨b, 1, none⟩ c (fun _ => rfl)).set ⟨b, 2, none⟩ e (fun _ => rfl)).set ⟨b, 3, none⟩ f (fun _ => rfl)).set ⟨b, 4, none⟩ g (fun _ => rfl)⟩
abbrev zero5 : Array Value := #[.string ⟨#[]⟩, .slice none 0 0, .slice none 0 0, .string ⟨#[]⟩, .string ⟨#[]⟩]
theorem cells5 {b : Nat} {x0 x1 x2 x3 x4 : Value} {ty : TypeId} (h : w.heap[b]? = some (.cells #[x0, x1, x2, x3, x4] ty (0, 0))) : (w.cell? ⟨b, 0, none⟩ = some x0 ∧ w.cell? ⟨b, 1, none⟩ = some x1 ∧ w.cell? ⟨b, 2, none⟩ = some x2 ∧ w.cell? ⟨b, 3, none⟩ = some x3 ∧ w.cell? ⟨b, 4, none⟩ = some x4) ∧ (w.frozen? ⟨b, 0, none⟩ = false ∧ w.frozen? ⟨b, 1, none⟩ = false ∧ w.frozen? ⟨b, 2, none⟩ = false ∧ w.frozen? ⟨b, 3, none⟩ = false ∧ w.frozen? ⟨b, 4, none⟩ = false) :=
  ⟨⟨cell_of h rfl, cell_of h rfl, cell_of h rfl, cell_of h rfl, cell_of h rfl⟩, free_of h, free_of h, free_of h, free_of h, free_of h⟩
def ReadOK (R : Nat) (t : L) (wh n : Nat) (k : FuncId) (read : L → Rs Prd) : Prop := ∀ W l, RD R t wh n W l → Calls Tryz.prog k #[ptr R] W (Ends R t wh n (PV (fun b => W.heap.size ≤ b) 79 112) W (read l))
structure JI (R : Nat) (t : L) (wh n : Nat) (word : L) (read : L → Rs Prd) (w : World) (X : Rs Prd) (wr : World) (v : Value) (ps : List Prd) (lc : L) : Prop where
  rd : RD R t wh n wr lc
  gp : GP (w.heap.size + 1) 79 112 wr v ps
  bq : wr.heap[w.heap.size]? = some (.cells zero5 112 (0, 0))
  fr : Fr (fun k => k = R ∨ w.heap.size ≤ k) w wr
  eq : ∃ fu, lc.length < fu ∧ X = thn (joinMore word read fu lc) fun qs l => .ok (⟨word, Prds.of (ps ++ qs), .nil, [], []⟩, l)
  sm : ps.length + lc.length ≤ 501
  ne : ps ≠ []
  lt : R < w.heap.size
variable {word : L} {read : L → Rs Prd} {X : Rs Prd} {wr W : World} {ps : List Prd} {lc : L}
theorem JI.keep (h : JI R t wh n word read w X wr v ps lc) (hf : Fr (fun _ => False) wr W) : JI R t wh n word read w X W v ps lc :=
  ⟨h.rd.fr hf (fun x => x), h.gp.fr hf (fun _ x _ => x.elim), (hf.block _ (blk_lt h.bq) (fun x => x)).trans h.bq, h.fr.trans hf (fun _ _ x => x.elim), h.eq, h.sm, h.ne, h.lt⟩
theorem JI.stop (h : JI R t wh n word read w X wr v ps lc) (hg : part lc ≠ word) : X = .ok (⟨word, Prds.of ps, .nil, [], []⟩, lc) := by
  obtain ⟨fu, e1, e2⟩ := h.eq
  rw [e2]
  cases fu with
  | zero => omega
  | succ fu => rw [joinMore, if_neg hg]; simp only [thn_ok, List.append_nil]
theorem JI.go (h : JI R t wh n word read w X wr v ps lc) (hg : part lc = word) (hw : word ≠ []) (hs : ∀ l, Suf l (read l)) :
    (∀ y, read (pass word.length lc) = .error y → X = .error y) ∧ ∀ p l2, read (pass word.length lc) = .ok (p, l2) → l2.length < lc.length ∧ ∃ fu, l2.length < fu ∧ X = thn (joinMore word read fu l2) fun qs l => .ok (⟨word, Prds.of ((ps ++ [p]) ++ qs), .nil, [], []⟩, l) := by
  obtain ⟨fu, e1, e2⟩ := h.eq
  cases fu with
  | zero => omega
  | succ fu =>
    rw [joinMore, if_pos hg] at e2
    refine ⟨fun y hy => by rw [e2, hy]; rfl, fun p l2 hy => ?_⟩
    have h1 := (hs _ p l2 hy).length_le
    have h2 := pass_lt (n := word.length) (l := lc) (by cases word; exact absurd rfl hw; simp) (part_ne hg hw)
    refine ⟨by omega, fu, by omega, ?_⟩
    rw [e2, hy]; simp only [thn_ok]
    cases joinMore word read fu l2 with
    | error y => rfl
    | ok z => obtain ⟨za, zb⟩ := z; simp only [thn_ok, List.append_assoc, List.cons_append, List.nil_append]
theorem JI.fin {w4 W5 : World} {ui : Option Addr} {uc : Nat} (h : JI R t wh n word read w X wr (.slice ui ps.length uc) ps lc) (f4 : Fr (fun k => k = R) wr w4) (rd4 : RD R t wh n w4 lc) (f5 : Fr (fun k => k = w.heap.size) w4 W5) :
    PV (fun b => w.heap.size ≤ b) 79 112 W5 (.agg #[.string (bs word), .slice ui ps.length uc, .slice none 0 0, .string ⟨#[]⟩, .string ⟨#[]⟩]) ⟨word, Prds.of ps, .nil, [], []⟩ ∧ RD R t wh n W5 lc ∧ Fr (fun k => k = R) w W5 := by
  have hlt := h.lt
  have g := ((h.gp.fr f4 (fun k e _ => by omega)).fr f5 (fun k e _ => by omega)).done (by have := h.sm; omega) (fun e => absurd e h.ne)
  exact ⟨⟨_, _, rfl, g.move fun b hb _ => ⟨by omega, rfl⟩, Or.inl ⟨rfl, rfl⟩⟩, rd4.fr f5 (by omega), ((h.fr.trans f4 (fun i hi x => Or.inl x)).trans f5 (fun i hi x => Or.inr (by omega))).restrict (fun k hk x => by omega)⟩
set_option maxHeartbeats 8000000 in
set_option maxRecDepth 100000 in
theorem joined_ok {k : FuncId} (hw : word ≠ []) (hen : ∀ args w, (callFunc k args).run Tryz.prog w = .ok (.enter k args) w) (hr : ReadOK R t wh n k read) (hs : ∀ l, Suf l (read l)) (h : RD R t wh n w l) :
    Calls Tryz.prog 140 #[ptr R, .string ⟨word.toArray⟩, .func (.func k) #[ptr R] #[]] w (Ends R t wh n (PV (fun b => w.heap.size ≤ b) 79 112) w (joined word read l)) := by
  have hR := h.lt
  have h5 : l.length ≤ 500 := by have := h.le; have := h.tw; have := h.wh5; omega
  have f0 : Fr (fun _ => False) w (w.alloc (.cells zero5 112)) := (Fr.refl _ w).alloc _
  have HR0 := hide (hr (w.alloc (.cells zero5 112)) l (h.fr f0 (fun x => x)))
  have HZ : Hid ((w.alloc (.cells zero5 112)).heap[w.heap.size]? = some (.cells zero5 112 (0, 0))) := Below_new _ _
  have hsz : (w.alloc (.cells zero5 112)).heap.size = w.heap.size + 1 := by simp
  unfold joined
  cases hx : read l with
  | error y =>
    rw [hx] at HR0
    simp only [thn_er]
    clear hx h
    go_enter Tryz.func140, Tryz.ntmps140
    go_wp2_with fail
    refine HR0.out.mono ?_
    rintro e w2 ⟨rfl, fr⟩
    go_wp2
    exact ⟨rfl, rfl, (f0.mono fun _ x => x.elim).same fr⟩
  | ok z =>
    obtain ⟨p, l1⟩ := z
    rw [hx] at HR0
    have hl1 := (hs l p l1 hx).length_le
    simp only [thn_ok]
    clear hx h
    have HPT : Hid (∀ W, RD R t wh n W l1 → Calls Tryz.prog 94 #[ptr R] W fun e w' => e = .returned (.string (bs (part l1))) ∧ Below W.heap.size W w') := fun W hW => part_ok hW
    by_cases hp : part l1 = word
    · rw [if_pos hp]
      have hb : ((bs (part l1)).toList == word) = true := by rw [bs_toL, hp]; simp
      obtain ⟨X, hX⟩ : ∃ X, (thn (joinMore word read (l1.length + 1) l1) fun qs l => (.ok (⟨word, Prds.of (p :: qs), .nil, [], []⟩, l) : Rs Prd)) = X := ⟨_, rfl⟩
      rw [hX]
      have HJ : Hid (∀ W1 W2 W3 ki nk kc si ns sc, Fr (fun k => k = R) (w.alloc (.cells zero5 112)) W1 → RD R t wh n W1 l1 → slP W1 (fun b => (w.alloc (.cells zero5 112)).heap.size ≤ b) 79 112 (.slice ki nk kc) p.kids ∧ slS W1 (fun b => (w.alloc (.cells zero5 112)).heap.size ≤ b) 79 112 (.slice si ns sc) p.steps → W2 = W1.alloc (.cells #[.string (bs p.op), .slice ki nk kc, .slice si ns sc, .string (bs p.attr), .string (bs p.text)] 112) → Below W2.heap.size W2 W3 → W3.heap[W1.heap.size]? = some (.cells #[.string (bs p.op), .slice ki nk kc, .slice si ns sc, .string (bs p.attr), .string (bs p.text)] 112 (0, 0)) ∧ JI R t wh n word read w X (W3.alloc (.cells #[.string (bs p.op), .slice ki nk kc, .slice si ns sc, .string (bs p.attr), .string (bs p.text)] 112)) (.slice (some ⟨W3.heap.size, 0, none⟩) 1 1) [p] l1) := fun W1 W2 W3 ki nk kc si ns sc f1 rd sv e2 b3 => by
        subst e2
        have f2 : Fr (fun _ => False) W1 W3 := ((Fr.refl _ W1).alloc _).same (Fr.below b3)
        have hz1 := f1.size
        rw [hsz] at hz1
        have g1 := (f1.block w.heap.size (by rw [hsz]; omega) (by omega)).trans HZ.out
        have g3 := (f2.block _ (blk_lt g1) (fun x => x)).trans g1
        refine ⟨(b3.block _ (by simp)).trans (Below_new _ _), ?_⟩
        have f4 : Fr (fun _ => False) W3 (W3.alloc (.cells #[.string (bs p.op), .slice ki nk kc, .slice si ns sc, .string (bs p.attr), .string (bs p.text)] 112)) := (Fr.refl _ W3).alloc _
        have hm : Move (fun b => (w.alloc (.cells zero5 112)).heap.size ≤ b) (fun b => w.heap.size + 1 ≤ b) W1 W3 := fun b hb hl => ⟨by rw [hsz] at hb; exact hb, f2.block b hl (fun x => x)⟩
        exact ⟨(rd.fr f2 (fun x => x)).fr f4 (fun x => x), GP.first (Nat.le_trans hz1 f2.size) ⟨sv.1.move hm, sv.2.move hm⟩, (f4.block _ (blk_lt g3) (fun x => x)).trans g3, (((f0.mono fun _ x => x.elim).same (f1.mono (G := fun k => k = R ∨ w.heap.size ≤ k) fun _ x => Or.inl x)).trans f2 (fun _ _ x => x.elim)).trans f4 (fun _ _ x => x.elim), ⟨l1.length + 1, by omega, by rw [← hX]; rfl⟩, by simp; omega, by simp, hR⟩
      have HFB : Hid (∀ W1 o1 W3, Below (World.alloc W1 o1).heap.size (W1.alloc o1) W3 → RD R t wh n W1 l1 → True) := fun _ _ _ _ _ => trivial
      have HRA : Hid (∀ W1 o1, RD R t wh n W1 l1 → RD R t wh n (World.alloc W1 o1) l1) := fun W1 o1 hW => hW.fr ((Fr.refl (fun _ => False) W1).alloc o1) (fun x => x)
      clear hX hp
      obtain ⟨i0, hi, hz0, hz1, hz2⟩ := info_parts info71
      generalize bs (part l1) = S at *
      go_enter Tryz.func140, Tryz.ntmps140
      go_wp2_with fail
      refine HR0.out.mono ?_
      rintro e w2 ⟨v2, rfl, pv2, rd2, fr2⟩
      obtain ⟨ki, nk, kc, si, ns, sc, rfl, sv2⟩ := pv2.shape
      have SV2 := hide sv2
      clear sv2 pv2
      go_wp2_with (first | (go_at_call 94; refine (HPT.out _ (HRA.out _ _ rd2)).mono ?_; rintro e w3 ⟨rfl, hb3⟩; obtain ⟨hbf, hJ⟩ := HJ.out _ _ _ _ _ _ _ _ _ fr2 rd2 SV2.out rfl hb3; have HJ0 := hide hJ; clear hJ; obtain ⟨⟨c0, c1, c2, c3, c4⟩, -⟩ := cells5 hbf))
      clear c0 c1 c2 c3 c4 hbf rd2 fr2 hb3 hb
      generalize (World.alloc w3 _) = W0 at *
      generalize (Value.slice (some ⟨w3.heap.size, 0, none⟩) 1 1) = V0 at *
      go_loopw [8, 18, 19, 20, 21, 22, 23, 24, 25] (fun u8 _ _ _ _ _ _ _ _ wr => ∃ ps lc, JI R t wh n word read w X wr u8 ps lc) (fun _ _ _ _ _ _ _ _ _ wr => mea R t wr)
      case atStart => exact ⟨_, _, HJ0.out⟩
      case round =>
        rename World => WO
        obtain ⟨ps, lc, hJ⟩ := hrel
        have hmea : mea R t WO = lc.length := hJ.rd.mea
        have HJ1 := hide hJ
        obtain ⟨b, hb⟩ : ∃ b, decide (part lc = word) = b := ⟨_, rfl⟩
        have HT := hide (take_ok word hJ.rd b hb)
        cases b with
        | false =>
          have hX := hJ.stop (by simpa using hb)
          subst hX
          simp only [Bool.false_eq_true, if_false] at HT
          obtain ⟨ui, uc, rfl⟩ : ∃ ai cap, u8 = .slice ai ps.length cap := by obtain ⟨xs, _, h2, _⟩ := hJ.gp.ex; exact slice_len h2
          clear hb hJ
          have HQ : Hid (∀ w4, Fr (fun k => k = R) WO w4 → w4.heap[w.heap.size]? = some (.cells zero5 112 (0, 0))) := fun w4 f4 => (f4.block _ (blk_lt HJ1.out.bq) (by omega)).trans HJ1.out.bq
          go_wp2_with (first | (go_at_call 72; refine HT.out.mono ?_; rintro e w4 ⟨rfl, rd4, fr4⟩; have bq4 := HQ.out _ fr4; obtain ⟨⟨c0, c1, c2, c3, c4⟩, g0, g1, g2, g3, g4⟩ := cells5 bq4))
          obtain ⟨W5, hW5, r5, fr5⟩ := box5 (.string ⟨word.toArray⟩) (.slice ui ps.length uc) (.slice none 0 0) (.string ⟨#[]⟩) (.string ⟨#[]⟩) bq4
          rw [hW5]
          clear hW5 c0 c1 c2 c3 c4 g0 g1 g2 g3 g4
          obtain ⟨⟨k0, k1, k2, k3, k4⟩, -⟩ := cells5 r5
          obtain ⟨q1, q2, q3⟩ := HJ1.out.fin fr4 rd4 fr5
          refine bodyPost_ret (v := .agg #[.string ⟨word.toArray⟩, .slice ui ps.length uc, .slice none 0 0, .string ⟨#[]⟩, .string ⟨#[]⟩]) (by simp [results, Tryz.results140, go_sem, k0, k1, k2, k3, k4]) rfl ⟨_, rfl, q1, q2, q3⟩
        | true =>
          have hp : part lc = word := by simpa using hb
          have hgo := hJ.go hp hw hs
          simp only [if_true] at HT
          have HR1 : Hid (∀ W, RD R t wh n W (pass word.length lc) → Calls Tryz.prog k #[ptr R] W (Ends R t wh n (PV (fun b => W.heap.size ≤ b) 79 112) W (read (pass word.length lc)))) := fun W hW => hr W _ hW
          clear hb hJ hp
          cases hy : read (pass word.length lc) with
          | error y =>
            have hX := hgo.1 y hy
            subst hX
            rw [hy] at HR1
            clear hy hgo
            go_wp2_with (first | (go_at_call 72; refine HT.out.mono ?_; rintro e w4 ⟨rfl, rd4, fr4⟩))
            refine (HR1.out _ rd4).mono ?_
            rintro e w5 ⟨rfl, fr5⟩
            go_wp2
            exact ⟨rfl, rfl, (HJ1.out.fr.trans (fr4.same fr5) (fun i hi x => Or.inl x)).restrict (fun k hk x => by omega)⟩
          | ok z =>
            obtain ⟨p2, l2⟩ := z
            obtain ⟨hlt, HNX⟩ := hgo.2 p2 l2 hy
            have HNX := hide HNX
            rw [hy] at HR1
            clear hy hgo
            have HPREP : Hid (∀ W1 W2 ki nk kc si ns sc, Fr (fun k => k = R) WO W1 → Fr (fun k => k = R) W1 W2 → RD R t wh n W2 l2 → slP W2 (fun b => W1.heap.size ≤ b) 79 112 (.slice ki nk kc) p2.kids ∧ slS W2 (fun b => W1.heap.size ≤ b) 79 112 (.slice si ns sc) p2.steps → ∃ xs, (W2.alloc (.cells #[.string (bs p2.op), .slice ki nk kc, .slice si ns sc, .string (bs p2.attr), .string (bs p2.text)] 112)).ownsRow 0 112 5 u8 ps.length (pCells xs) ∧ ∀ v' W4, W4.ownsRow 0 112 5 v' (ps.length + 1) (pCells xs ++ [.string (bs p2.op), .slice ki nk kc, .slice si ns sc, .string (bs p2.attr), .string (bs p2.text)]) → (W2.alloc (.cells #[.string (bs p2.op), .slice ki nk kc, .slice si ns sc, .string (bs p2.attr), .string (bs p2.text)] 112)).grownBy W4 u8.ownBlock → (v'.ownBlock = u8.ownBlock ∨ v'.ownBlock = some (W2.heap.size + 1)) → JI R t wh n word read w X W4 v' (ps ++ [p2]) l2) := fun W1 W2 ki nk kc si ns sc f1 f2 rd sv => by
              have q := HJ1.out
              have hz := q.fr.size
              have hzq := blk_lt q.bq
              obtain ⟨xs, x1, x2⟩ := (q.gp.fr f1 (fun k e _ => by omega)).prep f2 (by omega) (Nat.le_trans hzq f1.size) sv (.cells #[.string (bs p2.op), .slice ki nk kc, .slice si ns sc, .string (bs p2.attr), .string (bs p2.text)] 112)
              refine ⟨xs, x1, fun v' W4 ho hg hat => ?_⟩
              obtain ⟨g1, g2, g3⟩ := x2 v' W4 ho hg (by simpa using hat)
              have bq1 := (f1.block _ hzq (by omega)).trans q.bq
              have bq2 := (g2.block _ (blk_lt bq1) (by omega)).trans bq1
              exact ⟨rd.fr g3 (by omega), g1, bq2, (q.fr.trans f1 (fun i hi x => Or.inl x)).trans g2 (fun i hi x => by omega), HNX.out, by have := q.sm; simp; omega, by simp, hR⟩
            go_wp2_with (first | (go_at_call 72; refine HT.out.mono ?_; rintro e w4 ⟨rfl, rd4, fr4⟩))
            refine (HR1.out _ rd4).mono ?_
            rintro e w5 ⟨v5, rfl, pv5, rd5, fr5⟩
            obtain ⟨ki5, nk5, kc5, si5, ns5, sc5, rfl, sv5⟩ := pv5.shape
            obtain ⟨xs, hx1, hx2⟩ := HPREP.out _ _ _ _ _ _ _ _ fr4 fr5 rd5 sv5
            have HX2 := hide hx2
            clear hx2 sv5 pv5
            go_wp2_with (first | (at_builtin; refine wpList_append_own_at _ rfl (.tmp 21) (.tmp 24) 77 rfl 0 112 i0 _ 5 96 Tryz.underlying77 hi hz0 hz1 hz2 rfl (by decide) u8 ps.length (pCells xs) rfl hx1 ⟨w5.heap.size, 0, none⟩ 1 1 [.string (bs p2.op), .slice ki5 nk5 kc5, .slice si5 ns5 sc5, .string (bs p2.attr), .string (bs p2.text)] rfl rfl (news_of _ _ _) ?c2 ?c3 ?c4 (Nat.zero_le _) ?_))
            case c2 =>
              intro u hu
              simp only [List.mem_cons, List.not_mem_nil, or_false] at hu
              rcases hu with rfl | rfl | rfl | rfl | rfl <;> rfl
            case c3 => have := HJ1.out.sm; unfold maxLen; omega
            case c4 => have := HJ1.out.sm; omega
            intro v' w7 ho hg _ hat
            have hJ7 := HX2.out v' w7 ho hg (by simpa using hat)
            go_wp2
            exact ⟨⟨_, _, hJ7⟩, by rw [hJ7.rd.mea, hmea]; omega⟩
    · rw [if_neg hp]
      have hb : ((bs (part l1)).toList == word) = false := by rw [bs_toL]; simpa using hp
      have HJ : Hid (∀ W1 W2 W3 ki nk kc si ns sc, Fr (fun k => k = R) (w.alloc (.cells zero5 112)) W1 → RD R t wh n W1 l1 → slP W1 (fun b => (w.alloc (.cells zero5 112)).heap.size ≤ b) 79 112 (.slice ki nk kc) p.kids ∧ slS W1 (fun b => (w.alloc (.cells zero5 112)).heap.size ≤ b) 79 112 (.slice si ns sc) p.steps → W2 = W1.alloc (.cells #[.string (bs p.op), .slice ki nk kc, .slice si ns sc, .string (bs p.attr), .string (bs p.text)] 112) → Below W2.heap.size W2 W3 → W3.heap[W1.heap.size]? = some (.cells #[.string (bs p.op), .slice ki nk kc, .slice si ns sc, .string (bs p.attr), .string (bs p.text)] 112 (0, 0)) ∧ W3.heap[w.heap.size]? = some (.cells zero5 112 (0, 0)) ∧ ∀ W5, Fr (fun k => k = w.heap.size) W3 W5 → PV (fun b => w.heap.size ≤ b) 79 112 W5 (.agg #[.string (bs p.op), .slice ki nk kc, .slice si ns sc, .string (bs p.attr), .string (bs p.text)]) p ∧ RD R t wh n W5 l1 ∧ Fr (fun k => k = R) w W5) := fun W1 W2 W3 ki nk kc si ns sc f1 rd sv e2 b3 => by
        subst e2
        have f2 : Fr (fun _ => False) W1 W3 := ((Fr.refl _ W1).alloc _).same (Fr.below b3)
        have hz1 := f1.size
        rw [hsz] at hz1
        have g1 := (f1.block w.heap.size (by rw [hsz]; omega) (by omega)).trans HZ.out
        have g3 := (f2.block _ (blk_lt g1) (fun x => x)).trans g1
        refine ⟨(b3.block _ (by simp)).trans (Below_new _ _), g3, fun W5 f5 => ?_⟩
        have hm : Move (fun b => (w.alloc (.cells zero5 112)).heap.size ≤ b) (fun b => w.heap.size ≤ b) W1 W5 := fun b hb hl => ⟨by rw [hsz] at hb; omega, by rw [hsz] at hb; exact (f5.block b (Nat.lt_of_lt_of_le hl f2.size) (by omega)).trans (f2.block b hl (fun x => x))⟩
        exact ⟨⟨_, _, rfl, sv.1.move hm, sv.2.move hm⟩, (rd.fr f2 (fun x => x)).fr f5 (by omega), ((((f0.mono fun _ x => x.elim).same (f1.mono (G := fun k => k = R ∨ w.heap.size ≤ k) fun _ x => Or.inl x)).trans f2 (fun _ _ x => x.elim)).trans f5 (fun i hi x => Or.inr (by omega))).restrict (fun k hk x => by omega)⟩
      have HRA : Hid (∀ W1 o1, RD R t wh n W1 l1 → RD R t wh n (World.alloc W1 o1) l1) := fun W1 o1 hW => hW.fr ((Fr.refl (fun _ => False) W1).alloc o1) (fun x => x)
      clear hp
      generalize bs (part l1) = S at *
      go_enter Tryz.func140, Tryz.ntmps140
      go_wp2_with fail
      refine HR0.out.mono ?_
      rintro e w2 ⟨v2, rfl, pv2, rd2, fr2⟩
      obtain ⟨ki, nk, kc, si, ns, sc, rfl, sv2⟩ := pv2.shape
      have SV2 := hide sv2
      clear sv2 pv2
      go_wp2_with (first | (go_at_call 94; refine (HPT.out _ (HRA.out _ _ rd2)).mono ?_; rintro e w3 ⟨rfl, hb3⟩; obtain ⟨hbf, bq3, hJ⟩ := HJ.out _ _ _ _ _ _ _ _ _ fr2 rd2 SV2.out rfl hb3; have HJ0 := hide hJ; clear hJ; obtain ⟨⟨c0, c1, c2, c3, c4⟩, -⟩ := cells5 hbf; obtain ⟨⟨d0, d1, d2, d3, d4⟩, g0, g1, g2, g3, g4⟩ := cells5 bq3))
      obtain ⟨W5, hW5, r5, fr5⟩ := box5 (.string (bs p.op)) (.slice ki nk kc) (.slice si ns sc) (.string (bs p.attr)) (.string (bs p.text)) bq3
      rw [hW5]
      clear hW5 c0 c1 c2 c3 c4 g0 g1 g2 g3 g4 d0 d1 d2 d3 d4
      obtain ⟨⟨k0, k1, k2, k3, k4⟩, -⟩ := cells5 r5
      obtain ⟨q1, q2, q3⟩ := HJ0.out _ fr5
      refine bodyPost_ret (v := .agg #[.string (bs p.op), .slice ki nk kc, .slice si ns sc, .string (bs p.attr), .string (bs p.text)]) (by simp [results, Tryz.results140, go_sem, k0, k1, k2, k3, k4]) rfl ⟨_, rfl, q1, q2, q3⟩
end Go.Proofs.YtoahlnmhjinneaaGreatDoor

set_option linter.unusedSimpArgs false
set_option linter.unusedVariables false
namespace Go.Proofs.YtoahlnmhjinneaaGreatDoor
open Go.RowKit Go.Maps Go.Lib
variable {w w' w1 w2 W0 W2 W4 : World} {F G P : Nat → Prop} {R lo : Nat} {t l l' : L} {wh n : Nat} {inn : Option (L → Rs Prd)} {v v' vp vk vs : Value} {tS tP : TypeId}
structure GX (P : Nat → Prop) (tS tP : TypeId) (w : World) (v : Value) (l : List Stp) : Prop where
  ex : ∃ xs : List (Stp × Value), xs.map (·.1) = l ∧ w.ownsRow 0 tS 3 v l.length (sCells xs) ∧ ∀ x ∈ xs, slP w (fun b => P b ∧ some b ≠ v.ownBlock) tS tP x.2 x.1.preds
  own : ∀ k, v.ownBlock = some k → P k
theorem GS.toX {ls : List Stp} (h : GS lo tS tP w v ls) (hP : ∀ b, lo ≤ b → b < w.heap.size → P b) : GX P tS tP w v ls := by
  obtain ⟨xs, h1, h2, h3⟩ := h.ex
  exact ⟨⟨xs, h1, h2, fun x hx => (h3 x hx).move fun b ha hl => ⟨⟨hP b ha.1 hl, ha.2⟩, rfl⟩⟩, fun k e => hP k (h.own k e) (own_lt h2 e)⟩
theorem GX.lt {ls : List Stp} (h : GX P tS tP w v ls) {k : Nat} (e : v.ownBlock = some k) : k < w.heap.size := by obtain ⟨xs, _, h2, _⟩ := h.ex; exact own_lt h2 e
theorem GX.fr {ls : List Stp} (h : GX P tS tP w v ls) (hf : Fr F w w') (hF : ∀ k, F k → ¬ P k) : GX P tS tP w' v ls := by
  obtain ⟨xs, h1, h2, h3⟩ := h.ex
  have hb : ∀ b, P b → b < w.heap.size → w'.heap[b]? = w.heap[b]? := fun b h1 h2 => hf.block b h2 (fun x => hF b x h1)
  exact ⟨⟨xs, h1, owns_of h2 fun k e => hb k (h.own k e) (own_lt h2 e), fun x hx => (h3 x hx).move fun b ha hl => ⟨ha, hb b ha.1 hl⟩⟩, h.own⟩
theorem GX.done {ls : List Stp} (h : GX P tS tP w v ls) (hn : ls.length ≤ 1000) (hne : ls = [] → v = nilS) : slS w P tS tP v (Stps.of ls) := by
  obtain ⟨xs, h1, h2, h3⟩ := h.ex
  unfold slS; rw [Stps.len_of]
  obtain ⟨ai, cap, rfl⟩ := slice_len h2
  rcases h2.2 with ⟨e, e2⟩ | ⟨g, cap', cur, e1, h0, hg, hr⟩
  · exact Or.inl ⟨e2, e⟩
  · cases e1
    by_cases hz : ls.length = 0
    · have := hne (List.length_eq_zero_iff.1 hz); cases this
    refine Or.inr ⟨g, cap, cur, rfl, h.own g rfl, hg, hn, by omega, rowS_of g ls 0 fun k s hk => ?_⟩
    obtain ⟨x, hx, rfl⟩ := map_at h1 hk
    rw [Nat.zero_add]
    exact ⟨own_cell h2 (sCells_at xs k x 0 _ hx rfl), own_cell h2 (sCells_at xs k x 1 _ hx rfl), x.2, own_cell h2 (sCells_at xs k x 2 _ hx rfl), (h3 x (mem_of_get hx)).move fun b ha _ => ⟨ha.1, rfl⟩⟩
theorem GX.prep {ls : List Stp} {s : Stp} (h : GX P tS tP W0 v ls) (fr : Fr (fun k => k = R) W0 W2) (hR : ¬ P R) (hP : ∀ b, W0.heap.size ≤ b → P b) (sv : slP W2 (fun b => W0.heap.size ≤ b) tS tP vp s.preds) (o : Obj) :
    ∃ xs, (W2.alloc o).ownsRow 0 tS 3 v ls.length (sCells xs) ∧ ∀ v' W4, W4.ownsRow 0 tS 3 v' (ls.length + 1) (sCells xs ++ [.bool s.deep, .string (bs s.test), vp]) → (W2.alloc o).grownBy W4 v.ownBlock → (v'.ownBlock = v.ownBlock ∨ v'.ownBlock = some (W2.alloc o).heap.size) → GX P tS tP W4 v' (ls ++ [s]) ∧ Fr (fun k => k = R ∨ P k) W0 W4 ∧ Fr P W2 W4 := by
  have g3 := h.fr (fr.alloc o) fun k e => e ▸ hR
  obtain ⟨xs, x1, x2, x3⟩ := g3.ex
  refine ⟨xs, x2, fun v' W4 ho hg hat => ⟨⟨⟨xs ++ [(s, vp)], by rw [List.map_append, x1]; rfl, by rw [List.length_append, sCells_app]; exact ho, fun x hx => ?_⟩, fun k e => ?_⟩, ?_, ?_⟩⟩
  · have hz := fr.size
    have hm : Move (fun b => P b ∧ some b ≠ v.ownBlock) (fun b => P b ∧ some b ≠ v'.ownBlock) (W2.alloc o) W4 := fun b ha hl => ⟨⟨ha.1, by rcases hat with e | e <;> rw [e]; exact ha.2; intro x; cases x; omega⟩, hg.block b hl ha.2⟩
    rcases List.mem_append.1 hx with hx | hx
    · exact (x3 x hx).move hm
    · obtain rfl : x = (s, vp) := by simpa using hx
      exact (sv.move (A' := fun b => P b ∧ some b ≠ v.ownBlock) (w' := W2.alloc o) fun b hb hl => ⟨⟨hP b hb, fun e => by have := h.lt e.symm; omega⟩, Below.heap_alloc _ _ _ hl⟩).move hm
  · rcases hat with x | x
    · exact h.own k (x ▸ e)
    · rw [x] at e; cases e; exact hP _ (by have := fr.size; simp; omega)
  · exact ((fr.alloc o).mono fun k e => Or.inl e).same ⟨hg.os, hg.tape, hg.output, hg.size, fun k hk hf => hg.block k hk (fun e => hf (Or.inr (h.own k e.symm)))⟩
  · exact ((Fr.refl _ W2).alloc o).same ⟨hg.os, hg.tape, hg.output, hg.size, fun k hk hf => hg.block k hk (fun e => hf (h.own k e.symm))⟩
theorem GX.last {ls : List Stp} {s : Stp} (h : GX P tS tP w v (ls ++ [s])) : ∃ g cap, v = .slice (some ⟨g, 0, none⟩) (ls.length + 1) cap ∧ w.cell? ⟨g, ls.length * 3 + 1, none⟩ = some (.string (bs s.test)) := by
  obtain ⟨xs, h1, h2, h3⟩ := h.ex
  rw [List.length_append] at h2
  obtain ⟨g, cap, rfl⟩ := own_some h2
  obtain ⟨x, hx, rfl⟩ := map_at (k := ls.length) (s := s) h1 (by simp)
  exact ⟨g, cap, rfl, own_cell h2 (sCells_at xs _ x 1 _ hx rfl)⟩
end Go.Proofs.YtoahlnmhjinneaaGreatDoor
