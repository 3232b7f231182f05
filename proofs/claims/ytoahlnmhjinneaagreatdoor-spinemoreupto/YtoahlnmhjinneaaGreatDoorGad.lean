import Derived.Test.YtoahlnmhjinneaaGreatDoorGac
set_option linter.unusedVariables false
set_option linter.unusedSimpArgs false
set_option linter.unusedSimpArgs false
set_option linter.unusedVariables false
namespace Go.Proofs.YtoahlnmhjinneaaGreatDoor
open Go.RowKit Go.Maps Go.Lib
variable {w w' w1 w2 : World} {F G : Nat → Prop} {R : Nat} {t l l' : L} {wh n : Nat}
theorem want_to {p l1 : L} (hx : want (cutB t wh) p l = .ok l1) (h : RD R t wh n w l) : Calls Tryz.prog 120 #[ptr R, .string ⟨p.toArray⟩] w fun e w' => e = .returned (.tuple #[]) ∧ RD R t wh n w' l1 ∧ Fr (fun k => k = R) w w' := by
  have := want_ok p h; simpa only [hx] using this
theorem want_er {p : L} {y : Nat × Nat} (hx : want (cutB t wh) p l = .error y) (h : RD R t wh n w l) : Calls Tryz.prog 120 #[ptr R, .string ⟨p.toArray⟩] w fun e w' => e = thrown y.1 y.2 t ∧ Fr (fun k => k = R) w w' := by
  have := want_ok p h; simp only [hx] at this; exact this
set_option maxHeartbeats 2000000 in
theorem test_ok (h : RD R t wh n w l) : Calls Tryz.prog 116 #[ptr R] w (Ends R t wh n VS w (test (cutB t wh) l)) := by
  obtain ⟨b, hb⟩ : ∃ b, decide (part l = [42]) = b := ⟨_, rfl⟩
  have HT := hide (take_ok [42] h b hb)
  cases b with
  | true =>
    rw [test, if_pos (by simpa using hb)]
    clear h hb
    go_enter Tryz.func116, Tryz.ntmps116
    go_wp2_with (first | (go_at_call 72; refine (HT.out).mono ?_; rintro e w1 ⟨rfl, rd1, fr1⟩))
    go_ret
    exact ⟨_, rfl, rfl, rd1, fr1⟩
  | false =>
    rw [test, if_neg (by simpa using hb)]
    obtain ⟨c, hc⟩ : ∃ c, calls wText l = c := ⟨_, rfl⟩
    have HC : Hid (∀ W, RD R t wh n W l → Calls Tryz.prog 138 #[ptr R, .string ⟨#[116, 101, 120, 116]⟩] W fun e w' => e = .returned (.bool c) ∧ Below W.heap.size W w') := fun W hW => by have := calls_ok wText hW; rw [hc] at this; exact this
    clear h hb
    cases c with
    | false =>
      rw [if_neg (by rw [hc]; simp)]
      have HN : Hid (∀ W, RD R t wh n W l → Calls Tryz.prog 139 #[ptr R] W (Ends R t wh n VS W (name (cutB t wh) l))) := fun W hW => name_ok hW
      clear hc
      cases hy : name (cutB t wh) l with
      | error y =>
        rw [hy] at HN
        clear hy
        go_enter Tryz.func116, Tryz.ntmps116
        go_wp2_with (first | (go_at_call 139; refine (HN.out _ rd2).mono ?_; rintro e w3 ⟨rfl, fr3⟩) | (go_at_call 138; refine (HC.out _ rd1).mono ?_; rintro e w2 ⟨rfl, hb2⟩; have rd2 := rd1.below hb2; have fr2 := fr1.on hb2) | (go_at_call 72; refine (HT.out).mono ?_; rintro e w1 ⟨rfl, rd1, fr1⟩))
        exact ⟨rfl, rfl, fr2.same fr3⟩
      | ok z =>
        obtain ⟨a, l2⟩ := z
        rw [hy] at HN
        clear hy
        go_enter Tryz.func116, Tryz.ntmps116
        go_wp2_with (first | (go_at_call 139; refine (HN.out _ rd2).mono ?_; rintro e w3 ⟨v, rfl, rfl, rd3, fr3⟩) | (go_at_call 138; refine (HC.out _ rd1).mono ?_; rintro e w2 ⟨rfl, hb2⟩; have rd2 := rd1.below hb2; have fr2 := fr1.on hb2) | (go_at_call 72; refine (HT.out).mono ?_; rintro e w1 ⟨rfl, rd1, fr1⟩))
        go_ret
        exact ⟨_, rfl, rfl, rd3, fr2.same fr3⟩
    | true =>
      rw [if_pos hc]
      clear hc
      cases hx1 : want (cutB t wh) [116, 101, 120, 116] l with
      | error y =>
        have W1 : Hid (∀ W, RD R t wh n W l → Calls Tryz.prog 120 #[ptr R, .string ⟨#[116, 101, 120, 116]⟩] W fun e w' => e = thrown y.1 y.2 t ∧ Fr (fun k => k = R) W w') := fun W hW => want_er hx1 hW
        simp only [wnt]
        clear hx1
        go_enter Tryz.func116, Tryz.ntmps116
        go_wp2_with (first | (go_at_call 120; refine (W1.out _ rd2).mono ?_; rintro e w9 ⟨rfl, fr9⟩) | (go_at_call 138; refine (HC.out _ rd1).mono ?_; rintro e w2 ⟨rfl, hb2⟩; have rd2 := rd1.below hb2; have fr2 := fr1.on hb2) | (go_at_call 72; refine (HT.out).mono ?_; rintro e w1 ⟨rfl, rd1, fr1⟩))
        exact ⟨rfl, rfl, fr2.same fr9⟩
      | ok l1 =>
        have W1 : Hid (∀ W, RD R t wh n W l → Calls Tryz.prog 120 #[ptr R, .string ⟨#[116, 101, 120, 116]⟩] W fun e w' => e = .returned (.tuple #[]) ∧ RD R t wh n w' l1 ∧ Fr (fun k => k = R) W w') := fun W hW => want_to hx1 hW
        simp only [wnt]
        clear hx1
        cases hx2 : want (cutB t wh) [40] l1 with
        | error y =>
          have W2 : Hid (∀ W, RD R t wh n W l1 → Calls Tryz.prog 120 #[ptr R, .string ⟨#[40]⟩] W fun e w' => e = thrown y.1 y.2 t ∧ Fr (fun k => k = R) W w') := fun W hW => want_er hx2 hW
          simp only [wnt]
          clear hx2
          go_enter Tryz.func116, Tryz.ntmps116
          go_wp2_with (first | (go_at_call 120; refine (W2.out _ rd3).mono ?_; rintro e w9 ⟨rfl, fr9⟩) | (go_at_call 120; refine (W1.out _ rd2).mono ?_; rintro e w3 ⟨rfl, rd3, fr3⟩; have fr3 := fr2.same fr3) | (go_at_call 138; refine (HC.out _ rd1).mono ?_; rintro e w2 ⟨rfl, hb2⟩; have rd2 := rd1.below hb2; have fr2 := fr1.on hb2) | (go_at_call 72; refine (HT.out).mono ?_; rintro e w1 ⟨rfl, rd1, fr1⟩))
          exact ⟨rfl, rfl, fr3.same fr9⟩
        | ok l2 =>
          have W2 : Hid (∀ W, RD R t wh n W l1 → Calls Tryz.prog 120 #[ptr R, .string ⟨#[40]⟩] W fun e w' => e = .returned (.tuple #[]) ∧ RD R t wh n w' l2 ∧ Fr (fun k => k = R) W w') := fun W hW => want_to hx2 hW
          simp only [wnt]
          clear hx2
          cases hx3 : want (cutB t wh) [41] l2 with
          | error y =>
            have W3 : Hid (∀ W, RD R t wh n W l2 → Calls Tryz.prog 120 #[ptr R, .string ⟨#[41]⟩] W fun e w' => e = thrown y.1 y.2 t ∧ Fr (fun k => k = R) W w') := fun W hW => want_er hx3 hW
            simp only [wnt]
            clear hx3
            go_enter Tryz.func116, Tryz.ntmps116
            go_wp2_with (first | (go_at_call 120; refine (W3.out _ rd4).mono ?_; rintro e w9 ⟨rfl, fr9⟩) | (go_at_call 120; refine (W2.out _ rd3).mono ?_; rintro e w4 ⟨rfl, rd4, fr4⟩; have fr4 := fr3.same fr4) | (go_at_call 120; refine (W1.out _ rd2).mono ?_; rintro e w3 ⟨rfl, rd3, fr3⟩; have fr3 := fr2.same fr3) | (go_at_call 138; refine (HC.out _ rd1).mono ?_; rintro e w2 ⟨rfl, hb2⟩; have rd2 := rd1.below hb2; have fr2 := fr1.on hb2) | (go_at_call 72; refine (HT.out).mono ?_; rintro e w1 ⟨rfl, rd1, fr1⟩))
            exact ⟨rfl, rfl, fr4.same fr9⟩
          | ok l3 =>
            have W3 : Hid (∀ W, RD R t wh n W l2 → Calls Tryz.prog 120 #[ptr R, .string ⟨#[41]⟩] W fun e w' => e = .returned (.tuple #[]) ∧ RD R t wh n w' l3 ∧ Fr (fun k => k = R) W w') := fun W hW => want_to hx3 hW
            simp only [wnt]
            clear hx3
            go_enter Tryz.func116, Tryz.ntmps116
            go_wp2_with (first | (go_at_call 120; refine (W3.out _ rd4).mono ?_; rintro e w5 ⟨rfl, rd5, fr5⟩; have fr5 := fr4.same fr5) | (go_at_call 120; refine (W2.out _ rd3).mono ?_; rintro e w4 ⟨rfl, rd4, fr4⟩; have fr4 := fr3.same fr4) | (go_at_call 120; refine (W1.out _ rd2).mono ?_; rintro e w3 ⟨rfl, rd3, fr3⟩; have fr3 := fr2.same fr3) | (go_at_call 138; refine (HC.out _ rd1).mono ?_; rintro e w2 ⟨rfl, hb2⟩; have rd2 := rd1.below hb2; have fr2 := fr1.on hb2) | (go_at_call 72; refine (HT.out).mono ?_; rintro e w1 ⟨rfl, rd1, fr1⟩))
            go_ret
            exact ⟨_, rfl, rfl, rd5, fr5⟩
end Go.Proofs.YtoahlnmhjinneaaGreatDoor

set_option linter.unusedSimpArgs false
set_option linter.unusedVariables false
namespace Go.Proofs.YtoahlnmhjinneaaGreatDoor
open Go.RowKit Go.Maps Go.Lib

def Stps.len : Stps → Nat
  | .nil => 0
  | .cons _ _ _ m => m.len + 1
def Prds.len : Prds → Nat
  | .nil => 0
  | .cons _ _ _ _ _ m => m.len + 1
def sl (w : World) (A : Nat → Prop) (e : TypeId) (v : Value) (n : Nat) (k : Nat → Prop) : Prop :=
  (n = 0 ∧ v = nilS) ∨ ∃ g cap cur, v = .slice (some ⟨g, 0, none⟩) n cap ∧ A g ∧ w.heap[g]? = some (.cells cur e (0, 0)) ∧ n ≤ 1000 ∧ (0 < n ∧ n ≤ cap) ∧ k g
mutual
def rowS (w : World) (A : Nat → Prop) (tS tP : TypeId) : Nat → Nat → Stps → Prop
  | _, _, .nil => True
  | g, i, .cons d t ps m => w.cell? ⟨g, i * 3, none⟩ = some (.bool d) ∧ w.cell? ⟨g, i * 3 + 1, none⟩ = some (.string (bs t)) ∧
    (∃ v, w.cell? ⟨g, i * 3 + 2, none⟩ = some v ∧ sl w A tP v ps.len fun g => rowP w A tS tP g 0 ps) ∧ rowS w A tS tP g (i + 1) m
def rowP (w : World) (A : Nat → Prop) (tS tP : TypeId) : Nat → Nat → Prds → Prop
  | _, _, .nil => True
  | g, i, .cons op ks ss at_ tx m => w.cell? ⟨g, i * 5, none⟩ = some (.string (bs op)) ∧
    (∃ v, w.cell? ⟨g, i * 5 + 1, none⟩ = some v ∧ sl w A tP v ks.len fun g => rowP w A tS tP g 0 ks) ∧
    (∃ v, w.cell? ⟨g, i * 5 + 2, none⟩ = some v ∧ sl w A tS v ss.len fun g => rowS w A tS tP g 0 ss) ∧
    w.cell? ⟨g, i * 5 + 3, none⟩ = some (.string (bs at_)) ∧ w.cell? ⟨g, i * 5 + 4, none⟩ = some (.string (bs tx)) ∧ rowP w A tS tP g (i + 1) m
end
def slS (w : World) (A : Nat → Prop) (tS tP : TypeId) (v : Value) (s : Stps) : Prop := sl w A tS v s.len fun g => rowS w A tS tP g 0 s
def slP (w : World) (A : Nat → Prop) (tS tP : TypeId) (v : Value) (s : Prds) : Prop := sl w A tP v s.len fun g => rowP w A tS tP g 0 s
variable {w w' w1 w2 : World} {A A' B : Nat → Prop} {tS tP : TypeId} {v : Value}
theorem sl.shape {e : TypeId} {n : Nat} {k : Nat → Prop} (h : sl w A e v n k) : ∃ ai cap, v = .slice ai n cap := by
  rcases h with ⟨rfl, rfl⟩ | ⟨g, cap, cur, rfl, _⟩
  · exact ⟨_, _, rfl⟩
  · exact ⟨_, _, rfl⟩
def Move (A A' : Nat → Prop) (w w' : World) : Prop := ∀ b, A b → b < w.heap.size → A' b ∧ w'.heap[b]? = w.heap[b]?
theorem sl.move (hm : Move A A' w w') {e : TypeId} {n : Nat} {k k' : Nat → Prop} (h : sl w A e v n k) (hk : ∀ g, A g → g < w.heap.size → k g → k' g) : sl w' A' e v n k' := by
  rcases h with h | ⟨g, cap, cur, hv, ha, hg, hn, h0, hr⟩
  · exact Or.inl h
  · obtain ⟨h1, h2⟩ := hm g ha (blk_lt hg)
    exact Or.inr ⟨g, cap, cur, hv, h1, h2.trans hg, hn, h0, hk g ha (blk_lt hg) hr⟩
mutual
theorem rowS.move (hm : Move A A' w w') : ∀ (s : Stps) (g i : Nat), w'.heap[g]? = w.heap[g]? → rowS w A tS tP g i s → rowS w' A' tS tP g i s
  | .nil, _, _, _, _ => by simp only [rowS]
  | .cons d t ps m, g, i, hg, h => by
    simp only [rowS] at h ⊢
    obtain ⟨h0, h1, ⟨v, h2, h3⟩, h4⟩ := h
    have up : ∀ j u, w.cell? ⟨g, j, none⟩ = some u → w'.cell? ⟨g, j, none⟩ = some u := fun j u hj => (World.cell?_of_block hg).trans hj
    exact ⟨up _ _ h0, up _ _ h1, ⟨v, up _ _ h2, h3.move hm fun g' ha hl hr => rowP.move hm ps g' 0 (hm g' ha hl).2 hr⟩, rowS.move hm m g (i + 1) hg h4⟩
theorem rowP.move (hm : Move A A' w w') : ∀ (s : Prds) (g i : Nat), w'.heap[g]? = w.heap[g]? → rowP w A tS tP g i s → rowP w' A' tS tP g i s
  | .nil, _, _, _, _ => by simp only [rowP]
  | .cons op ks ss at_ tx m, g, i, hg, h => by
    simp only [rowP] at h ⊢
    obtain ⟨h0, ⟨v, h1, h2⟩, ⟨u, h3, h4⟩, h5, h6, h7⟩ := h
    have up : ∀ j u, w.cell? ⟨g, j, none⟩ = some u → w'.cell? ⟨g, j, none⟩ = some u := fun j u hj => (World.cell?_of_block hg).trans hj
    exact ⟨up _ _ h0, ⟨v, up _ _ h1, h2.move hm fun g' ha hl hr => rowP.move hm ks g' 0 (hm g' ha hl).2 hr⟩, ⟨u, up _ _ h3, h4.move hm fun g' ha hl hr => rowS.move hm ss g' 0 (hm g' ha hl).2 hr⟩, up _ _ h5, up _ _ h6, rowP.move hm m g (i + 1) hg h7⟩
end
theorem slS.move (hm : Move A A' w w') {s : Stps} (h : slS w A tS tP v s) : slS w' A' tS tP v s := sl.move hm h fun g ha hl hr => rowS.move hm s g 0 (hm g ha hl).2 hr
theorem slP.move (hm : Move A A' w w') {s : Prds} (h : slP w A tS tP v s) : slP w' A' tS tP v s := sl.move hm h fun g ha hl hr => rowP.move hm s g 0 (hm g ha hl).2 hr
def SV (A : Nat → Prop) (tS tP : TypeId) (w : World) (v : Value) (s : Stp) : Prop := ∃ vp, v = .agg #[.bool s.deep, .string (bs s.test), vp] ∧ slP w A tS tP vp s.preds
def PV (A : Nat → Prop) (tS tP : TypeId) (w : World) (v : Value) (p : Prd) : Prop := ∃ vk vs, v = .agg #[.string (bs p.op), vk, vs, .string (bs p.attr), .string (bs p.text)] ∧ slP w A tS tP vk p.kids ∧ slS w A tS tP vs p.steps
def sCells (l : List (Stp × Value)) : List Value := l.flatMap fun x => [.bool x.1.deep, .string (bs x.1.test), x.2]
def pCells (l : List (Prd × Value × Value)) : List Value := l.flatMap fun x => [.string (bs x.1.op), x.2.1, x.2.2, .string (bs x.1.attr), .string (bs x.1.text)]
theorem sCells_len (l : List (Stp × Value)) : (sCells l).length = l.length * 3 := by
  induction l with
  | nil => rfl
  | cons x l ih => simp only [sCells, List.flatMap_cons, List.length_append, List.length_cons, List.length_nil] at *; omega
theorem pCells_len (l : List (Prd × Value × Value)) : (pCells l).length = l.length * 5 := by
  induction l with
  | nil => rfl
  | cons x l ih => simp only [pCells, List.flatMap_cons, List.length_append, List.length_cons, List.length_nil] at *; omega
theorem sCells_app (l : List (Stp × Value)) (x : Stp × Value) : sCells (l ++ [x]) = sCells l ++ [.bool x.1.deep, .string (bs x.1.test), x.2] := by simp [sCells]
theorem pCells_app (l : List (Prd × Value × Value)) (x : Prd × Value × Value) : pCells (l ++ [x]) = pCells l ++ [.string (bs x.1.op), x.2.1, x.2.2, .string (bs x.1.attr), .string (bs x.1.text)] := by simp [pCells]
structure GS (lo : Nat) (tS tP : TypeId) (w : World) (v : Value) (l : List Stp) : Prop where
  ex : ∃ xs : List (Stp × Value), xs.map (·.1) = l ∧ w.ownsRow 0 tS 3 v l.length (sCells xs) ∧ ∀ x ∈ xs, slP w (fun b => lo ≤ b ∧ some b ≠ v.ownBlock) tS tP x.2 x.1.preds
  own : ∀ k, v.ownBlock = some k → lo ≤ k
structure GP (lo : Nat) (tS tP : TypeId) (w : World) (v : Value) (l : List Prd) : Prop where
  ex : ∃ xs : List (Prd × Value × Value), xs.map (·.1) = l ∧ w.ownsRow 0 tP 5 v l.length (pCells xs) ∧ ∀ x ∈ xs, slP w (fun b => lo ≤ b ∧ some b ≠ v.ownBlock) tS tP x.2.1 x.1.kids ∧ slS w (fun b => lo ≤ b ∧ some b ≠ v.ownBlock) tS tP x.2.2 x.1.steps
  own : ∀ k, v.ownBlock = some k → lo ≤ k
variable {lo : Nat} {l : List Stp} {lp : List Prd}
theorem GS.zero : GS lo tS tP w nilS [] := ⟨⟨[], rfl, ⟨rfl, Or.inl ⟨rfl, rfl⟩⟩, fun x hx => by simp at hx⟩, fun k e => by cases e⟩
theorem GP.zero : GP lo tS tP w nilS [] := ⟨⟨[], rfl, ⟨rfl, Or.inl ⟨rfl, rfl⟩⟩, fun x hx => by simp at hx⟩, fun k e => by cases e⟩
theorem GS.fr {F : Nat → Prop} (h : GS lo tS tP w v l) (hf : Fr F w w') (hF : ∀ k, F k → k < w.heap.size → k < lo) : GS lo tS tP w' v l := by
  obtain ⟨xs, h1, h2, h3⟩ := h.ex
  have hb : ∀ b, lo ≤ b → b < w.heap.size → w'.heap[b]? = w.heap[b]? := fun b h1 h2 => hf.block b h2 (fun x => by have := hF b x h2; omega)
  exact ⟨⟨xs, h1, owns_of h2 fun k e => hb k (h.own k e) (own_lt h2 e), fun x hx => (h3 x hx).move fun b ha hl => ⟨ha, hb b ha.1 hl⟩⟩, h.own⟩
theorem GP.fr {F : Nat → Prop} (h : GP lo tS tP w v lp) (hf : Fr F w w') (hF : ∀ k, F k → k < w.heap.size → k < lo) : GP lo tS tP w' v lp := by
  obtain ⟨xs, h1, h2, h3⟩ := h.ex
  have hb : ∀ b, lo ≤ b → b < w.heap.size → w'.heap[b]? = w.heap[b]? := fun b h1 h2 => hf.block b h2 (fun x => by have := hF b x h2; omega)
  exact ⟨⟨xs, h1, owns_of h2 fun k e => hb k (h.own k e) (own_lt h2 e), fun x hx => ⟨(h3 x hx).1.move fun b ha hl => ⟨ha, hb b ha.1 hl⟩, (h3 x hx).2.move fun b ha hl => ⟨ha, hb b ha.1 hl⟩⟩⟩, h.own⟩
theorem rowS_of (g : Nat) : ∀ (ss : List Stp) (i : Nat), (∀ k s, ss[k]? = some s → w.cell? ⟨g, (i + k) * 3, none⟩ = some (.bool s.deep) ∧ w.cell? ⟨g, (i + k) * 3 + 1, none⟩ = some (.string (bs s.test)) ∧ ∃ v, w.cell? ⟨g, (i + k) * 3 + 2, none⟩ = some v ∧ slP w A tS tP v s.preds) → rowS w A tS tP g i (Stps.of ss)
  | [], i, _ => by simp only [Stps.of, rowS]
  | s :: ss, i, h => by
    simp only [Stps.of, rowS]
    obtain ⟨h0, h1, h2⟩ := h 0 s rfl
    refine ⟨h0, h1, h2, rowS_of g ss (i + 1) fun k s hk => ?_⟩
    have := h (k + 1) s (by simpa using hk)
    rwa [show i + (k + 1) = i + 1 + k by omega] at this
theorem rowP_of (g : Nat) : ∀ (ss : List Prd) (i : Nat), (∀ k s, ss[k]? = some s → w.cell? ⟨g, (i + k) * 5, none⟩ = some (.string (bs s.op)) ∧ (∃ v, w.cell? ⟨g, (i + k) * 5 + 1, none⟩ = some v ∧ slP w A tS tP v s.kids) ∧ (∃ v, w.cell? ⟨g, (i + k) * 5 + 2, none⟩ = some v ∧ slS w A tS tP v s.steps) ∧ w.cell? ⟨g, (i + k) * 5 + 3, none⟩ = some (.string (bs s.attr)) ∧ w.cell? ⟨g, (i + k) * 5 + 4, none⟩ = some (.string (bs s.text))) → rowP w A tS tP g i (Prds.of ss)
  | [], i, _ => by simp only [Prds.of, rowP]
  | s :: ss, i, h => by
    simp only [Prds.of, rowP]
    obtain ⟨h0, h1, h2, h3, h4⟩ := h 0 s rfl
    refine ⟨h0, h1, h2, h3, h4, rowP_of g ss (i + 1) fun k s hk => ?_⟩
    have := h (k + 1) s (by simpa using hk)
    rwa [show i + (k + 1) = i + 1 + k by omega] at this
theorem Stps.len_of : ∀ ss : List Stp, (Stps.of ss).len = ss.length
  | [] => rfl
  | s :: ss => by simp only [Stps.of, Stps.len, Stps.len_of ss, List.length_cons]
theorem Prds.len_of : ∀ ss : List Prd, (Prds.of ss).len = ss.length
  | [] => rfl
  | s :: ss => by simp only [Prds.of, Prds.len, Prds.len_of ss, List.length_cons]
theorem sCells_at : ∀ (xs : List (Stp × Value)) (k : Nat) (x : Stp × Value) (c : Nat) (u : Value), xs[k]? = some x → [Value.bool x.1.deep, .string (bs x.1.test), x.2][c]? = some u → (sCells xs)[k * 3 + c]? = some u
  | [], k, x, c, u, h, _ => by simp at h
  | y :: xs, 0, x, c, u, h, hc => by
    obtain rfl : y = x := by simpa using h
    have hl : c < 3 := by have := (List.getElem?_eq_some_iff.1 hc).1; simpa using this
    show (_ ++ sCells xs)[0 * 3 + c]? = _
    rw [List.getElem?_append_left (by simp; omega)]; simpa using hc
  | y :: xs, k + 1, x, c, u, h, hc => by
    have := sCells_at xs k x c u (by simpa using h) hc
    show (_ ++ sCells xs)[(k + 1) * 3 + c]? = _
    rw [List.getElem?_append_right (by simp; omega)]
    rw [← this]; congr 1; simp; omega
theorem pCells_at : ∀ (xs : List (Prd × Value × Value)) (k : Nat) (x : Prd × Value × Value) (c : Nat) (u : Value), xs[k]? = some x → [Value.string (bs x.1.op), x.2.1, x.2.2, .string (bs x.1.attr), .string (bs x.1.text)][c]? = some u → (pCells xs)[k * 5 + c]? = some u
  | [], k, x, c, u, h, _ => by simp at h
  | y :: xs, 0, x, c, u, h, hc => by
    obtain rfl : y = x := by simpa using h
    have hl : c < 5 := by have := (List.getElem?_eq_some_iff.1 hc).1; simpa using this
    show (_ ++ pCells xs)[0 * 5 + c]? = _
    rw [List.getElem?_append_left (by simp; omega)]; simpa using hc
  | y :: xs, k + 1, x, c, u, h, hc => by
    have := pCells_at xs k x c u (by simpa using h) hc
    show (_ ++ pCells xs)[(k + 1) * 5 + c]? = _
    rw [List.getElem?_append_right (by simp; omega)]
    rw [← this]; congr 1; simp; omega
theorem own_cell {e : TypeId} {sz g n cap j : Nat} {xs : List Value} {u : Value} (h : w.ownsRow 0 e sz (.slice (some ⟨g, 0, none⟩) n cap) n xs) (hj : xs[j]? = some u) : w.cell? ⟨g, j, none⟩ = some u := by
  rcases h.2 with ⟨e1, _⟩ | ⟨g', cap', cur, e1, h0, hg, h1, h2, h3, h4⟩
  · cases e1
  · cases e1
    refine cell_of hg ?_
    rw [← h4, List.getElem?_take] at hj
    split at hj
    · simpa using hj
    · cases hj
theorem map_at {α β : Type} {f : α → β} {xs : List α} {l : List β} (h : xs.map f = l) {k : Nat} {s : β} (hk : l[k]? = some s) : ∃ x, xs[k]? = some x ∧ f x = s := by
  rw [← h, List.getElem?_map] at hk
  cases hx : xs[k]? with
  | none => rw [hx] at hk; cases hk
  | some x => rw [hx] at hk; exact ⟨x, rfl, by simpa using hk⟩
theorem mem_of_get {α : Type} {xs : List α} {k : Nat} {x : α} (h : xs[k]? = some x) : x ∈ xs := List.mem_of_getElem? h
theorem GS.done (h : GS lo tS tP w v l) (hn : l.length ≤ 1000) (hne : l = [] → v = nilS) : slS w (fun b => lo ≤ b) tS tP v (Stps.of l) := by
  obtain ⟨xs, h1, h2, h3⟩ := h.ex
  unfold slS; rw [Stps.len_of]
  obtain ⟨ai, cap, rfl⟩ := slice_len h2
  rcases h2.2 with ⟨e, e2⟩ | ⟨g, cap', cur, e1, h0, hg, hr⟩
  · exact Or.inl ⟨e2, e⟩
  · cases e1
    by_cases hz : l.length = 0
    · have := hne (List.length_eq_zero_iff.1 hz); cases this
    refine Or.inr ⟨g, cap, cur, rfl, h.own g rfl, hg, hn, by omega, rowS_of g l 0 fun k s hk => ?_⟩
    obtain ⟨x, hx, rfl⟩ := map_at h1 hk
    rw [Nat.zero_add]
    exact ⟨own_cell h2 (sCells_at xs k x 0 _ hx rfl), own_cell h2 (sCells_at xs k x 1 _ hx rfl), x.2, own_cell h2 (sCells_at xs k x 2 _ hx rfl), (h3 x (mem_of_get hx)).move fun b ha _ => ⟨ha.1, rfl⟩⟩
theorem GP.done (h : GP lo tS tP w v lp) (hn : lp.length ≤ 1000) (hne : lp = [] → v = nilS) : slP w (fun b => lo ≤ b) tS tP v (Prds.of lp) := by
  obtain ⟨xs, h1, h2, h3⟩ := h.ex
  unfold slP; rw [Prds.len_of]
  obtain ⟨ai, cap, rfl⟩ := slice_len h2
  rcases h2.2 with ⟨e, e2⟩ | ⟨g, cap', cur, e1, h0, hg, hr⟩
  · exact Or.inl ⟨e2, e⟩
  · cases e1
    by_cases hz : lp.length = 0
    · have := hne (List.length_eq_zero_iff.1 hz); cases this
    refine Or.inr ⟨g, cap, cur, rfl, h.own g rfl, hg, hn, by omega, rowP_of g lp 0 fun k s hk => ?_⟩
    obtain ⟨x, hx, rfl⟩ := map_at h1 hk
    rw [Nat.zero_add]
    exact ⟨own_cell h2 (pCells_at xs k x 0 _ hx rfl), ⟨x.2.1, own_cell h2 (pCells_at xs k x 1 _ hx rfl), (h3 x (mem_of_get hx)).1.move fun b ha _ => ⟨ha.1, rfl⟩⟩, ⟨x.2.2, own_cell h2 (pCells_at xs k x 2 _ hx rfl), (h3 x (mem_of_get hx)).2.move fun b ha _ => ⟨ha.1, rfl⟩⟩, own_cell h2 (pCells_at xs k x 3 _ hx rfl), own_cell h2 (pCells_at xs k x 4 _ hx rfl)⟩
theorem GS.push {v' : Value} {s : Stp} {vp : Value} (h : GS lo tS tP w1 v l) {xs : List (Stp × Value)} (h1 : xs.map (·.1) = l) (h3 : ∀ x ∈ xs, slP w1 (fun b => lo ≤ b ∧ some b ≠ v.ownBlock) tS tP x.2 x.1.preds) (hs : slP w1 (fun b => lo ≤ b ∧ some b ≠ v.ownBlock) tS tP vp s.preds) (hlo : lo ≤ w1.heap.size)
    (ho : w2.ownsRow 0 tS 3 v' (l.length + 1) (sCells xs ++ [.bool s.deep, .string (bs s.test), vp])) (hg : w1.grownBy w2 v.ownBlock) (hat : v'.ownBlock = v.ownBlock ∨ v'.ownBlock = some w1.heap.size) : GS lo tS tP w2 v' (l ++ [s]) := by
  have hm : Move (fun b => lo ≤ b ∧ some b ≠ v.ownBlock) (fun b => lo ≤ b ∧ some b ≠ v'.ownBlock) w1 w2 := fun b ha hl => ⟨⟨ha.1, by rcases hat with e | e <;> rw [e]; exact ha.2; intro x; cases x; omega⟩, hg.block b hl ha.2⟩
  refine ⟨⟨xs ++ [(s, vp)], by rw [List.map_append, h1]; rfl, by rw [List.length_append, sCells_app]; exact ho, fun x hx => ?_⟩, fun k e => ?_⟩
  · rcases List.mem_append.1 hx with hx | hx
    · exact (h3 x hx).move hm
    · obtain rfl : x = (s, vp) := by simpa using hx
      exact hs.move hm
  · rcases hat with x | x
    · exact h.own k (x ▸ e)
    · rw [x] at e; cases e; exact hlo
theorem GP.push {v' : Value} {s : Prd} {vk vs : Value} (h : GP lo tS tP w1 v lp) {xs : List (Prd × Value × Value)} (h1 : xs.map (·.1) = lp) (h3 : ∀ x ∈ xs, slP w1 (fun b => lo ≤ b ∧ some b ≠ v.ownBlock) tS tP x.2.1 x.1.kids ∧ slS w1 (fun b => lo ≤ b ∧ some b ≠ v.ownBlock) tS tP x.2.2 x.1.steps)
    (hs : slP w1 (fun b => lo ≤ b ∧ some b ≠ v.ownBlock) tS tP vk s.kids ∧ slS w1 (fun b => lo ≤ b ∧ some b ≠ v.ownBlock) tS tP vs s.steps) (hlo : lo ≤ w1.heap.size)
    (ho : w2.ownsRow 0 tP 5 v' (lp.length + 1) (pCells xs ++ [.string (bs s.op), vk, vs, .string (bs s.attr), .string (bs s.text)])) (hg : w1.grownBy w2 v.ownBlock) (hat : v'.ownBlock = v.ownBlock ∨ v'.ownBlock = some w1.heap.size) : GP lo tS tP w2 v' (lp ++ [s]) := by
  have hm : Move (fun b => lo ≤ b ∧ some b ≠ v.ownBlock) (fun b => lo ≤ b ∧ some b ≠ v'.ownBlock) w1 w2 := fun b ha hl => ⟨⟨ha.1, by rcases hat with e | e <;> rw [e]; exact ha.2; intro x; cases x; omega⟩, hg.block b hl ha.2⟩
  refine ⟨⟨xs ++ [(s, vk, vs)], by rw [List.map_append, h1]; rfl, by rw [List.length_append, pCells_app]; exact ho, fun x hx => ?_⟩, fun k e => ?_⟩
  · rcases List.mem_append.1 hx with hx | hx
    · exact ⟨(h3 x hx).1.move hm, (h3 x hx).2.move hm⟩
    · obtain rfl : x = (s, vk, vs) := by simpa using hx
      exact ⟨hs.1.move hm, hs.2.move hm⟩
  · rcases hat with x | x
    · exact h.own k (x ▸ e)
    · rw [x] at e; cases e; exact hlo
end Go.Proofs.YtoahlnmhjinneaaGreatDoor

set_option linter.unusedSimpArgs false
set_option linter.unusedVariables false
namespace Go.Proofs.YtoahlnmhjinneaaGreatDoor
open Go.RowKit Go.Maps Go.Lib
variable {w w' w1 w2 : World} {F G : Nat → Prop} {R : Nat} {t l l' : L} {wh n : Nat}
def Lays {α : Type} (R : Nat) (t : L) (wh n : Nat) (F : Nat → Prop) (X : World → α → Prop) (w : World) (x : Rs α) (e : Ending) (w' : World) : Prop := match x with
  | .ok (a, l') => e = .returned (.tuple #[]) ∧ RD R t wh n w' l' ∧ X w' a ∧ Fr F w w'
  | .error y => e = thrown y.1 y.2 t ∧ Fr F w w'
theorem RD.nest (h : RD R t wh n w l) (m : Nat) (hm : m ≤ 8) : RD R t wh m (w.setCell ⟨R, 3, none⟩ (.int .i64 m)) l :=
  ⟨set_of h.blk _, h.suf, h.tw, h.wh5, hm⟩
set_option maxHeartbeats 2000000 in
theorem within_deep {fv : Value} {o s : L} (h : RD R t wh 8 w l) : Calls Tryz.prog 117 #[ptr R, .string ⟨o.toArray⟩, .string ⟨s.toArray⟩, fv] w fun e w' => e = thrown 8 l.length t ∧ Fr (fun k => k = R) w w' := by
  have c2 : w.cell? ⟨R, 2, none⟩ = some (.int .i64 ((t.length - l.length : Nat) : Int)) := cell_of h.blk rfl
  have c3 : w.cell? ⟨R, 3, none⟩ = some (.int .i64 8) := cell_of h.blk rfl
  have HF := hide (Fr.refl (fun k => k = R) w)
  clear h
  go_enter Tryz.func117, Tryz.ntmps117
  go_wp2
  exact ⟨rfl, rfl, HF.out⟩
set_option maxHeartbeats 2000000 in
theorem within_ok {k : FuncId} {caps : Array Value} {o s : L} {X : World → Prd → Prop} {f : L → Rs Prd} (h : RD R t wh n w l) (hn : n < 8) (hF : F R)
    (hen : ∀ args w, (callFunc k args).run Tryz.prog w = .ok (.enter k args) w)
    (hin : ∀ W l1, want (cutB t wh) o l = .ok l1 → RD R t wh (n + 1) W l1 → Fr (fun k => k = R) w W → Calls Tryz.prog k caps W (Lays R t wh (n + 1) F X w (f l1)))
    (hX : ∀ W W' p, X W p → Fr (fun k => k = R) W W' → X W' p) :
    Calls Tryz.prog 117 #[ptr R, .string ⟨o.toArray⟩, .string ⟨s.toArray⟩, .func (.func k) #[] caps] w (Lays R t wh n F X w (within (cutB t wh) (some f) o s l)) := by
  have c3 : w.cell? ⟨R, 3, none⟩ = some (.int .i64 n) := cell_of h.blk rfl
  have h8 : ((n : Int) == 8) = false := by simp; omega
  have h8' : (n == 8) = false := by simp; omega
  unfold within
  cases hx : want (cutB t wh) o l with
  | error y =>
    have HW := hide (want_er hx h)
    have HF := hide hF
    simp only [wnt]
    clear hx h hin hX hF
    go_enter Tryz.func117, Tryz.ntmps117
    go_wp2_with (first | (go_at_call 120; refine (HW.out).mono ?_; rintro e w2 ⟨rfl, fr2⟩))
    exact ⟨rfl, rfl, fr2.mono fun k e => e ▸ HF.out⟩
  | ok l1 =>
    have HW := hide (want_to hx h)
    simp only [wnt]
    have hr1 : IntKind.i64.wrap ((n : Int) + 1) = (n : Int) + 1 := by rw [IntKind.wrap_i64]; omega
    have hr2 : IntKind.i64.wrap (((n : Int) + 1) - 1) = (n : Int) := by rw [IntKind.wrap_i64]; omega
    have HIN : Hid (∀ W, RD R t wh n W l1 → Fr (fun k => k = R) w W → W.cell? ⟨R, 3, none⟩ = some (.int .i64 n) ∧ W.frozen? ⟨R, 3, none⟩ = false ∧ Calls Tryz.prog k caps (W.setCell ⟨R, 3, none⟩ (.int .i64 ((n : Int) + 1))) (Lays R t wh (n + 1) F X w (f l1))) := fun W hW fr =>
      ⟨cell_of hW.blk rfl, free_of hW.blk, hin _ l1 hx (hW.nest (n + 1) (by omega)) (fr.set _ _ fun _ => rfl)⟩
    have HFX : Hid (F R ∧ ∀ W W' p, X W p → Fr (fun k => k = R) W W' → X W' p) := ⟨hF, hX⟩
    clear hx h hin hX hF
    cases hy : f l1 with
    | error y =>
      rw [hy] at HIN
      simp only [thn]
      clear hy
      go_enter Tryz.func117, Tryz.ntmps117
      go_wp2_with (first | (go_at_call 120; refine (HW.out).mono ?_; rintro e w2 ⟨rfl, rd2, fr2⟩; obtain ⟨d3, f3, hc⟩ := HIN.out _ rd2 fr2; have HC := hide hc; clear hc))
      refine HC.out.mono ?_
      rintro e w3 ⟨rfl, fr3⟩
      go_wp2
      exact ⟨rfl, rfl, fr3⟩
    | ok z =>
      obtain ⟨p, l2⟩ := z
      rw [hy] at HIN
      simp only [thn]
      clear hy
      cases hv : want (cutB t wh) s l2 with
      | error y =>
        have HV : Hid (∀ W, RD R t wh (n + 1) W l2 → Calls Tryz.prog 120 #[ptr R, .string ⟨s.toArray⟩] W fun e w' => e = thrown y.1 y.2 t ∧ Fr (fun k => k = R) W w') := fun W hW => want_er hv hW
        clear hv
        go_enter Tryz.func117, Tryz.ntmps117
        go_wp2_with (first | (go_at_call 120; refine (HW.out).mono ?_; rintro e w2 ⟨rfl, rd2, fr2⟩; obtain ⟨d3, f3, hc⟩ := HIN.out _ rd2 fr2; have HC := hide hc; clear hc))
        refine HC.out.mono ?_
        rintro e w3 ⟨rfl, rd3, hx3, fr3⟩
        go_wp2_with (first | (go_at_call 120; refine (HV.out _ rd3).mono ?_; rintro e w4 ⟨rfl, fr4⟩))
        exact ⟨rfl, rfl, fr3.same (fr4.mono fun k e => e ▸ HFX.out.1)⟩
      | ok l3 =>
        have HV : Hid (∀ W, RD R t wh (n + 1) W l2 → Calls Tryz.prog 120 #[ptr R, .string ⟨s.toArray⟩] W fun e w' => e = .returned (.tuple #[]) ∧ RD R t wh (n + 1) w' l3 ∧ Fr (fun k => k = R) W w') := fun W hW => want_to hv hW
        have HE : Hid (∀ W, RD R t wh (n + 1) W l3 → W.cell? ⟨R, 3, none⟩ = some (.int .i64 ((n : Int) + 1)) ∧ W.frozen? ⟨R, 3, none⟩ = false ∧ RD R t wh n (W.setCell ⟨R, 3, none⟩ (.int .i64 n)) l3) := fun W hW => ⟨cell_of hW.blk rfl, free_of hW.blk, hW.nest n (by omega)⟩
        clear hv
        go_enter Tryz.func117, Tryz.ntmps117
        go_wp2_with (first | (go_at_call 120; refine (HW.out).mono ?_; rintro e w2 ⟨rfl, rd2, fr2⟩; obtain ⟨d3, f3, hc⟩ := HIN.out _ rd2 fr2; have HC := hide hc; clear hc))
        refine HC.out.mono ?_
        rintro e w3 ⟨rfl, rd3, hx3, fr3⟩
        have HX3 := hide hx3
        clear hx3
        go_wp2_with (first | (go_at_call 120; refine (HV.out _ rd3).mono ?_; rintro e w4 ⟨rfl, rd4, fr4⟩; obtain ⟨d4, f4, rd5⟩ := HE.out _ rd4))
        go_end0
        have fr5 : Fr (fun k => k = R) w3 (w4.setCell ⟨R, 3, none⟩ (.int .i64 n)) := fr4.set _ _ fun _ => rfl
        exact ⟨rfl, rd5, HFX.out.2 _ _ _ HX3.out fr5, fr3.same (fr5.mono fun k e => e ▸ HFX.out.1)⟩
end Go.Proofs.YtoahlnmhjinneaaGreatDoor

set_option linter.unusedSimpArgs false
set_option linter.unusedVariables false
namespace Go.Proofs.YtoahlnmhjinneaaGreatDoor
open Go.RowKit Go.Maps Go.Lib
variable {w w' w1 w2 : World} {F G : Nat → Prop} {R : Nat} {t l l' : L} {wh n : Nat}
theorem info53 : (Tryz.prog.info? 79).map (fun i => (i.zero, i.size, i.bytes)) = some (some (.agg #[.bool false, .string ⟨#[]⟩, .slice none 0 0]), 3, 48) := by kernel_rfl
theorem info71 : (Tryz.prog.info? 112).map (fun i => (i.zero, i.size, i.bytes)) = some (some (.agg #[.string ⟨#[]⟩, .slice none 0 0, .slice none 0 0, .string ⟨#[]⟩, .string ⟨#[]⟩]), 5, 96) := by kernel_rfl
theorem step_own_at {P : Program} {ops : Array Oper} {o : Oper} {a : Act} {w : World} {K : Act → World → Prop} {Q : Exit → Act → World → Prop} {E : Prop}
    (hg : o.guard = none) (s x : Operand) (t : TypeId) (hop : o.op = Op.call { callee := Callee.builtin Builtin.append, args := #[s, x], argTypes := #[t, t] })
    (e : TypeId) (i : TypeInfo) (z : Value) (size bytes : Nat) (h1 : P.underlying t = some (.slice e)) (h2 : P.info? e = some i) (h3 : i.zero = some z) (h4 : i.size = size) (h5 : i.bytes = bytes) (h6 : z.cells.size = size) (h7 : 0 < size)
    (v : Value) (n : Nat) (xs : List Value) (hs : a.eval s = v) (hown : w.ownsRow 0 e size v n xs)
    (ad : Addr) (m c : Nat) (news : List Value) (hx : a.eval x = .slice (some ad) m c) (hn : news.length = m * size) (hc : ∀ j u, news[j]? = some u → w.cell? (ad.add j) = some u) (h1c : ∀ u ∈ news, u.oneCell' = true)
    (b1 : n + m ≤ maxLen) (b2 : (n + m) * bytes ≤ 140737488355328)
    (hK : ∀ v' w', w'.ownsRow 0 e size v' (n + m) (xs ++ news) → w.grownBy w' v.ownBlock → (v'.ownBlock = v.ownBlock ∨ v'.ownBlock = some w.heap.size) → K (a.put o.dst v') w') :
    if Region.wanted o (yielded ops a.tmps) = true then Oper.wp P o a w K Q else E := by
  have hw : Region.wanted o (yielded ops a.tmps) = true := by simp [Region.wanted, hg]
  rw [if_pos hw]
  obtain ⟨v', w', hrun, r1, r2, _, r4⟩ := run_append_own_at (P := P) w 0 t o.type e i z size bytes h1 h2 h3 h4 h5 h6 h7 v n xs hown ad m c news hn hc h1c b1 b2 (Nat.zero_le _)
  unfold Oper.wp
  simp [execOp, hop, resolve, invoke, builtin, hs, hx, hrun, Result.andThen]
  exact hK v' w' r1 r2 r4
def CondOK (R : Nat) (t : L) (wh n : Nat) (f : L → Rs Prd) : Prop := ∀ W l, RD R t wh n W l → Calls Tryz.prog 119 #[ptr R] W (Ends R t wh n (PV (fun b => W.heap.size ≤ b) 79 112) W (f l))
theorem step_store_mid {P : Program} {ops : Array Oper} {o : Oper} {a : Act} {w : World} {K : Act → World → Prop} {Q : Exit → Act → World → Prop} {E : Prop} (hg : o.guard = none) (ty : TypeId) (x y : Operand) (ho : o.op = .store ty x y)
    (b off : Nat) (cells : Array Value) (hx : a.eval x = .pointer (some ⟨b, off, none⟩)) (hy : a.eval y = .agg cells) (ht : w.there b off cells.size) (hi : (P.info? ty).map (·.size) = some cells.size) (h1 : cells.all (·.oneCell') = true)
    (h : K (a.put o.dst undef) (w.setCells b off cells.toList)) : if Region.wanted o (yielded ops a.tmps) = true then Oper.wp P o a w K Q else E := by
  have hw : Region.wanted o (yielded ops a.tmps) = true := by simp [Region.wanted, hg]
  rw [if_pos hw]
  exact wp_store_mid ty x y ho b off cells hx hy ht hi h1 h
theorem setCells_blk {g : Nat} : ∀ (vs : List Value) (o : Nat) (w : World) {cur : Array Value} {t : TypeId}, w.heap[g]? = some (.cells cur t (0, 0)) → ∃ cur', (w.setCells g o vs).heap[g]? = some (.cells cur' t (0, 0)) ∧ cur'.size = cur.size ∧ ∀ j, cur'[j]? = if o ≤ j ∧ j < o + vs.length ∧ j < cur.size then vs[j - o]? else cur[j]?
  | [], o, w, cur, t, h => ⟨cur, h, rfl, fun j => by rw [if_neg (by simp; omega)]⟩
  | v :: vs, o, w, cur, t, h => by
    have h1 := set_of (i := o) h v
    obtain ⟨cur', h2, h3, h4⟩ := setCells_blk vs (o + 1) _ h1
    refine ⟨cur', h2, by rw [h3]; simp, fun j => ?_⟩
    rw [h4 j]
    simp only [Array.size_setIfInBounds, List.length_cons]
    by_cases hj : j = o
    · subst hj
      rw [if_neg (by omega)]
      by_cases hz : j < cur.size
      · rw [if_pos (by omega)]; simp [hz]
      · rw [if_neg (by omega)]; simp [hz]
    · by_cases hc : o + 1 ≤ j ∧ j < o + 1 + vs.length ∧ j < cur.size
      · rw [if_pos hc, if_pos (by omega), show j - o = (j - (o + 1)) + 1 by omega, List.getElem?_cons_succ]
      · rw [if_neg hc, if_neg (by omega), Array.getElem?_setIfInBounds_ne (by omega)]
theorem setCells_other {g b : Nat} (hb : b ≠ g) : ∀ (vs : List Value) (o : Nat) (w : World), (w.setCells g o vs).heap[b]? = w.heap[b]?
  | [], _, _ => rfl
  | v :: vs, o, w => (setCells_other hb vs (o + 1) _).trans (Below.heap_setCell _ _ _ _ hb)
theorem setCells_rest {g : Nat} : ∀ (vs : List Value) (o : Nat) (w : World), (w.setCells g o vs).os = w.os ∧ (w.setCells g o vs).tape = w.tape ∧ (w.setCells g o vs).output = w.output ∧ (w.setCells g o vs).heap.size = w.heap.size
  | [], _, _ => ⟨rfl, rfl, rfl, rfl⟩
  | v :: vs, o, w => by
    obtain ⟨h1, h2, h3, h4⟩ := setCells_rest vs (o + 1) (w.setCell ⟨g, o, none⟩ v)
    exact ⟨h1, h2, h3, h4.trans (by simp [World.setCell])⟩
theorem owns_store {e : TypeId} {sz g k cap : Nat} {xs zs ys : List Value} (h : w.ownsRow 0 e sz (.slice (some ⟨g, 0, none⟩) (k + 1) cap) (k + 1) (xs ++ zs)) (hx : xs.length = k * sz) (hz : zs.length = sz) (hy : ys.length = sz) :
    (w.setCells g (k * sz) ys).ownsRow 0 e sz (.slice (some ⟨g, 0, none⟩) (k + 1) cap) (k + 1) (xs ++ ys) ∧ w.there g (k * sz) sz := by
  have hl := h.1
  rcases h.2 with ⟨e1, _⟩ | ⟨g', cap', cur, e1, h0, hg, h1, h2, h3, h4⟩
  · cases e1
  · cases e1
    have hk : (k + 1) * sz = k * sz + sz := by rw [Nat.add_mul]; omega
    have hsz : (k + 1) * sz ≤ cur.size := by
      have := congrArg List.length h4
      rw [List.length_take, List.length_append] at this
      simp only [Array.length_toList] at this
      omega
    constructor
    · obtain ⟨cur', q1, q2, q3⟩ := setCells_blk ys (k * sz) w hg
      refine ⟨by rw [List.length_append] at hl ⊢; omega, Or.inr ⟨g, cap, cur', rfl, h0, q1, h1, h2, by rw [q2]; exact h3, ?_⟩⟩
      apply List.ext_getElem?
      intro j
      rw [List.getElem?_take]
      by_cases hj : j < (k + 1) * sz
      · rw [if_pos hj, Array.getElem?_toList, q3 j]
        by_cases hj2 : k * sz ≤ j
        · rw [if_pos ⟨hj2, by omega, by omega⟩, List.getElem?_append_right (by omega), hx]
        · rw [if_neg (by omega), List.getElem?_append_left (by omega)]
          have := congrArg (·[j]?) h4
          simp only [List.getElem?_take, if_pos hj, Array.getElem?_toList] at this
          rw [this, List.getElem?_append_left (by omega)]
      · rw [if_neg hj, List.getElem?_eq_none (by rw [List.length_append]; omega)]
    · intro j hj
      refine ⟨?_, free_of hg⟩
      have : k * sz + j < cur.size := by omega
      rw [cell_of hg (v := cur[k * sz + j]) (by simp [this])]
      rfl
theorem pv_alloc {A : Nat → Prop} {vk vs : Value} {p : Prd} (h : slP w A 79 112 vk p.kids ∧ slS w A 79 112 vs p.steps) (o : Obj) : slP (w.alloc o) A 79 112 vk p.kids ∧ slS (w.alloc o) A 79 112 vs p.steps := by
  have hm : Move A A w (w.alloc o) := fun b ha hl => ⟨ha, Below.heap_alloc _ _ _ hl⟩
  exact ⟨h.1.move hm, h.2.move hm⟩
def Added (lo Bs Br R : Nat) (d : Bool) (te : L) (ps : List Prd) (w' : World) (p : Prd) : Prop := ∃ pi pc, w'.heap[Bs]? = some (.cells #[.bool d, .string (bs te), .slice pi (ps.length + 1) pc] 79 (0, 0)) ∧ GP lo 79 112 w' (.slice pi (ps.length + 1) pc) (ps ++ [p]) ∧ w'.heap[Br]? = some (.cells #[ptr R] 142 (0, 0))
set_option maxHeartbeats 8000000 in
set_option maxRecDepth 100000 in
theorem step1_er {Bs Br lo pc : Nat} {pi : Option Addr} {d : Bool} {te : L} {ps : List Prd} {f : L → Rs Prd} {y : Nat × Nat} (hc : CondOK R t wh n f) (h : RD R t wh n w l) (hs : w.heap[Bs]? = some (.cells #[.bool d, .string (bs te), .slice pi ps.length pc] 79 (0, 0))) (hr : w.heap[Br]? = some (.cells #[ptr R] 142 (0, 0))) (hg : GP lo 79 112 w (.slice pi ps.length pc) ps) (hR : R < lo) (hB : Bs < lo) (hB2 : Br < lo) (hRs : R ≠ Bs) (hRr : R ≠ Br) (hsr : Bs ≠ Br) (hlo : lo ≤ w.heap.size) (hn : ps.length ≤ 500) (hf : f l = .error y) (hF : ∀ k, k = R → F k) : Calls Tryz.prog 118 #[ptr Bs, ptr Br] w fun e w' => e = thrown y.1 y.2 t ∧ Fr F w w' := by
  have c0 : w.cell? ⟨Br, 0, none⟩ = some (ptr R) := cell_of hr rfl
  have hPlt : ∀ k, (Value.slice pi ps.length pc).ownBlock = some k → k < w.heap.size := fun k e => by obtain ⟨xs, _, h2, _⟩ := hg.ex; exact own_lt h2 e
  have HK : Hid (∀ W, Fr (fun k => k = R) w W → W.cell? ⟨Br, 0, none⟩ = some (ptr R) ∧ W.cell? ⟨Bs, 2, none⟩ = some (.slice pi ps.length pc) ∧ W.heap[Bs]? = some (.cells #[.bool d, .string (bs te), .slice pi ps.length pc] 79 (0, 0)) ∧ W.heap[Br]? = some (.cells #[ptr R] 142 (0, 0)) ∧ GP lo 79 112 W (.slice pi ps.length pc) ps) := fun W hW => by
    have h1 := (hW.block Br (blk_lt hr) (fun e => hRr e.symm)).trans hr
    have h2 := (hW.block Bs (blk_lt hs) (fun e => hRs e.symm)).trans hs
    exact ⟨cell_of h1 rfl, cell_of h2 rfl, h2, h1, hg.fr hW fun k e _ => by omega⟩
  have HC : Hid (∀ W, Fr (fun _ => False) w W → Calls Tryz.prog 119 #[ptr R] W (Ends R t wh n (PV (fun b => W.heap.size ≤ b) 79 112) W (.error y))) := fun W hW => by
    have := hc W l (h.fr hW (fun x => x)); rw [hf] at this; exact this
  have HF := hide hF
  have fr0 : Fr (fun _ => False) w w.drew := (Fr.refl _ w).drewN 1
  clear hc h hs hr hg hf hPlt hF
  go_enter Tryz.func118, Tryz.ntmps118
  go_wp2_with fail
  refine wp_region_held_drew (S := (fun W => W.cell? ⟨Br, 0, none⟩ = some (ptr R))) (by kernel_rfl) c0 (fun hHeld => ?_)
  generalize w.drew = W0 at *
  have fr := fr0
  clear fr0
  refine wpAnyH_take (i := 0) (v := ?_) rfl (by kernel_rfl) (by kernel_rfl) (by kernel_rfl) (fun _ _ _ h => h) (Or.inl ⟨by rfl, ?_⟩) (by assumption) ?_
  rotate_left
  · (intro w hSw; (try dsimp only at hSw); go_simp; (try with_reducible rfl))
  (try simp only [Act.put, List.setIfInBounds_toArray, List.set_cons_zero, List.set_cons_succ])
  refine wpAnyH_take (i := 2) (v := ?_) rfl (by kernel_rfl) (by kernel_rfl) (by kernel_rfl) (fun _ _ _ h => h) (Or.inl ⟨by rfl, ?_⟩) (by assumption) ?_
  rotate_left
  · (intro w hSw; (try dsimp only at hSw); go_simp; (try with_reducible rfl))
  (try simp only [Act.put, List.setIfInBounds_toArray, List.set_cons_zero, List.set_cons_succ])
  refine wpAnyH_ready (rs := [1, 3, 5]) (by kernel_rfl) (by simp) ?_
  refine AllReadyH.cons rfl (fun K hK => ?_) (AllReadyH.cons rfl (fun K hK => ?_) (AllReadyH.cons rfl (fun K hK => ?_) AllReadyH.nil))
  · have c2x := (HK.out _ (fr.mono fun _ x => x.elim)).2.1
    go_simp
    refine hK.out _ _ hHeld (fun _ => ?_)
    clear hK K c2x
    (try simp only [Act.put, List.setIfInBounds_toArray, List.set_cons_zero, List.set_cons_succ])
    refine wpAnyH_take (i := 4) (v := ?_) rfl (by kernel_rfl) (by kernel_rfl) (by kernel_rfl) (fun _ _ _ h => h) (Or.inl ⟨by rfl, ?_⟩) (by assumption) ?_
    rotate_left
    · (intro w hSw; (try dsimp only at hSw); go_simp; (try with_reducible rfl))
    (try simp only [Act.put, List.setIfInBounds_toArray, List.set_cons_zero, List.set_cons_succ])
    refine wpAnyH_ready (rs := [3, 5]) (by kernel_rfl) (by simp) ?_
    refine AllReadyH.cons rfl (fun K hK => ?_) (AllReadyH.cons rfl (fun K hK => ?_) AllReadyH.nil)
    · have hcc := HC.out _ fr
      go_simp
      refine hcc.mono ?_
      rintro e W3 ⟨rfl, fr3⟩
      exact ⟨rfl, rfl, ((fr.mono (fun _ x => x.elim)).same fr3).mono HF.out⟩
    · go_simp
      refine hK.out _ _ (cell_alloc _ hHeld) (fun hHeld => ?_)
      clear hK K
      (try simp only [Act.put, List.setIfInBounds_toArray, List.set_cons_zero, List.set_cons_succ])
      have hbk := Below_new W0 (.cells #[.string ⟨#[]⟩, .slice none 0 0, .slice none 0 0, .string ⟨#[]⟩, .string ⟨#[]⟩] 112)
      have hnl : lo ≤ W0.heap.size := Nat.le_trans hlo fr.size
      have fr := fr.alloc (.cells #[.string ⟨#[]⟩, .slice none 0 0, .slice none 0 0, .string ⟨#[]⟩, .string ⟨#[]⟩] 112)
      generalize hnb : W0.heap.size = nb at *
      generalize W0.alloc (.cells #[.string ⟨#[]⟩, .slice none 0 0, .slice none 0 0, .string ⟨#[]⟩, .string ⟨#[]⟩] 112) = W5 at *
      refine wpAnyH_ready (rs := [3]) (by kernel_rfl) (by simp) ?_
      refine AllReadyH.cons rfl (fun K hK => ?_) AllReadyH.nil
      · have hcc := HC.out _ fr
        go_simp
        refine hcc.mono ?_
        rintro e W3 ⟨rfl, fr3⟩
        exact ⟨rfl, rfl, ((fr.mono (fun _ x => x.elim)).same fr3).mono HF.out⟩
  · have hcc := HC.out _ fr
    go_simp
    refine hcc.mono ?_
    rintro e W3 ⟨rfl, fr3⟩
    exact ⟨rfl, rfl, ((fr.mono (fun _ x => x.elim)).same fr3).mono HF.out⟩
  · go_simp
    refine hK.out _ _ (cell_alloc _ hHeld) (fun hHeld => ?_)
    clear hK K
    (try simp only [Act.put, List.setIfInBounds_toArray, List.set_cons_zero, List.set_cons_succ])
    have hbk := Below_new W0 (.cells #[.string ⟨#[]⟩, .slice none 0 0, .slice none 0 0, .string ⟨#[]⟩, .string ⟨#[]⟩] 112)
    have hnl : lo ≤ W0.heap.size := Nat.le_trans hlo fr.size
    have fr := fr.alloc (.cells #[.string ⟨#[]⟩, .slice none 0 0, .slice none 0 0, .string ⟨#[]⟩, .string ⟨#[]⟩] 112)
    generalize hnb : W0.heap.size = nb at *
    generalize W0.alloc (.cells #[.string ⟨#[]⟩, .slice none 0 0, .slice none 0 0, .string ⟨#[]⟩, .string ⟨#[]⟩] 112) = W5 at *
    refine wpAnyH_ready (rs := [1, 3]) (by kernel_rfl) (by simp) ?_
    refine AllReadyH.cons rfl (fun K hK => ?_) (AllReadyH.cons rfl (fun K hK => ?_) AllReadyH.nil)
    · have c2x := (HK.out _ (fr.mono fun _ x => x.elim)).2.1
      go_simp
      refine hK.out _ _ hHeld (fun _ => ?_)
      clear hK K c2x
      (try simp only [Act.put, List.setIfInBounds_toArray, List.set_cons_zero, List.set_cons_succ])
      refine wpAnyH_take (i := 4) (v := ?_) rfl (by kernel_rfl) (by kernel_rfl) (by kernel_rfl) (fun _ _ _ h => h) (Or.inl ⟨by rfl, ?_⟩) (by assumption) ?_
      rotate_left
      · (intro w hSw; (try dsimp only at hSw); go_simp; (try with_reducible rfl))
      (try simp only [Act.put, List.setIfInBounds_toArray, List.set_cons_zero, List.set_cons_succ])
      refine wpAnyH_ready (rs := [3]) (by kernel_rfl) (by simp) ?_
      refine AllReadyH.cons rfl (fun K hK => ?_) AllReadyH.nil
      · have hcc := HC.out _ fr
        go_simp
        refine hcc.mono ?_
        rintro e W3 ⟨rfl, fr3⟩
        exact ⟨rfl, rfl, ((fr.mono (fun _ x => x.elim)).same fr3).mono HF.out⟩
    · have hcc := HC.out _ fr
      go_simp
      refine hcc.mono ?_
      rintro e W3 ⟨rfl, fr3⟩
      exact ⟨rfl, rfl, ((fr.mono (fun _ x => x.elim)).same fr3).mono HF.out⟩
end Go.Proofs.YtoahlnmhjinneaaGreatDoor
