import Derived.Test.YtoahlnmhjinneaaGreatDoorGbd
import Derived.Test.YtoahlnmhjinneaaGreatDoorGbf
import Derived.Test.YtoahlnmhjinneaaGreatDoorGaq
set_option linter.unusedVariables false
set_option linter.unusedSimpArgs false
set_option linter.unusedSimpArgs false
set_option linter.unusedVariables false
namespace Go.Proofs.YtoahlnmhjinneaaGreatDoor
open Go.RowKit Go.Maps Go.Lib
variable {w w' W W' w0 w1 w3 w5 wr : World} {v vs : Value} {xs : List (Br × Nat)} {b : Brs} {F : Nat → Prop} {X lo : Nat} {S S1 : List Sta} {ys : List (Sta × Value)}
theorem run_appS {B : Nat} {l r : List L} {ai : Option Addr} {m cap : Nat} (hown : w.ownsRow B 9 1 v l.length (strC l)) (h : StR w (.slice ai m cap) r) (hl : l.length + r.length ≤ 1000000000000) (hB : B ≤ w.heap.size) :
    ∃ va vn vc w', (Builtin.append_ #[22, 22] 22 #[v, .slice ai m cap]).run Tryz.prog w = .ok (.slice va vn vc) w' ∧ w'.ownsRow B 9 1 (.slice va vn vc) (l ++ r).length (strC (l ++ r)) ∧ w.grownBy w' v.ownBlock := by
  obtain ⟨i0, hi, hz0, hz1, hz2⟩ := info_parts info9
  obtain ⟨ai', cap', e, hn, hr⟩ := h
  cases e
  have es : strC (l ++ r) = strC l ++ strC r := by unfold strC; rw [List.map_append]
  rw [es, List.length_append]
  cases ai with
  | none =>
    have h0 : r = [] := by
      cases r with
      | nil => rfl
      | cons x r => obtain ⟨g, off, e, -⟩ := hr 0 x rfl; cases e
    subst h0
    obtain ⟨va, vn, vc, rfl⟩ := own_shape hown
    refine ⟨va, vn, vc, w, ?_, by simpa [strC] using hown, ⟨rfl, rfl, rfl, Nat.le_refl _, fun _ _ _ => rfl⟩⟩
    rcases hown.2 with ⟨e1, e2⟩ | ⟨g, cap', cur, e1, _, _, hnc, _⟩
    · cases e1
      simp [Builtin.append_, run_underlying Tryz.underlying22, sizeOf, typeInfo, hi, Builtin.lenOf, Builtin.firstCells]
    · cases e1
      simp [Builtin.append_, run_underlying Tryz.underlying22, sizeOf, typeInfo, hi, Builtin.lenOf, Builtin.firstCells, hnc, storeCells]
  | some ad =>
    have hcell : ∀ j u, (strC r)[j]? = some u → w.cell? (ad.add j) = some u := fun j u hj => by
      unfold strC at hj
      rw [List.getElem?_map] at hj
      obtain ⟨x, hx, rfl⟩ := Option.map_eq_some_iff.1 hj
      obtain ⟨g, off, e, -, hc⟩ := hr j x hx
      cases e
      unfold Addr.add
      split
      · next h0 => rw [h0] at hc; exact hc
      · exact hc
    have h1c : ∀ u ∈ strC r, u.oneCell' = true := by
      intro u hu
      unfold strC at hu
      obtain ⟨x, hx, rfl⟩ := List.mem_map.1 hu
      rfl
    obtain ⟨v', w', q, q1, q2, _⟩ := run_append_own (P := Tryz.prog) w B 22 22 9 i0 _ 1 16 Tryz.underlying22 hi hz0 hz1 hz2 rfl (by decide) v l.length (strC l) hown ad r.length cap (strC r) (by simp [strC]) hcell h1c (by unfold maxLen; omega) (by omega) hB
    obtain ⟨va, vn, vc, rfl⟩ := own_shape q1
    exact ⟨va, vn, vc, w', q, q1, q2⟩
set_option maxHeartbeats 4000000 in
set_option maxRecDepth 100000 in
theorem copied_ok {l : List L} (h : StR w v l) : Calls Tryz.prog 4 #[v] w fun e w' => ∃ va vn vc, e = .returned (.slice va vn vc) ∧ w'.ownsRow w.heap.size 9 1 (.slice va vn vc) l.length (strC l) ∧ Below w.heap.size w w' := by
  obtain ⟨ai, cap, rfl, hn, hr⟩ := id h
  obtain ⟨va, vn, vc, w', q, q1, q2⟩ := run_appS (l := []) (World.ownsRow_nil w w.heap.size 9 1) h (by simpa using hn.1) (Nat.le_refl _)
  rw [List.nil_append] at q1
  have H := hide q1
  have HB := hide ((Below.refl w.heap.size w).grown q2 (Nat.le_refl _) (fun j e => by cases e))
  clear h hr q1 q2 hn
  generalize l.length = n at *
  go_enter Tryz.func4, Tryz.ntmps4
  go_wp2_with (at_builtin; refine Lib.wpList_append_run _ rfl _ _ _ _ rfl _ _ rfl rfl _ _ q ?_)
  first | exact ⟨va, vn, vc, rfl, H.out, HB.out⟩ | (go_ret; exact ⟨va, vn, vc, rfl, H.out, HB.out⟩)
theorem GI.spI {mn : Nat} {r : List Np} (h : GI X (.slice none 0 0) (.map (some mn)) F r w) (hm : MapN w 9 mn []) (hmF : ¬ F mn) (hlow : ∀ k, F k → lo ≤ k) (hlm : lo ≤ mn) (hl : r.length ≤ 2200000000) : SpI X lo (fun k => F k ∨ k = mn) (growAll newB r) [] w := by
  obtain ⟨v, xs, p1, p2, p3, p4⟩ := h.br.ex
  refine ⟨⟨v, .slice none 0 0, mn, xs, [], ⟨p1, p2, World.ownsRow_nil _ _ _ _, fun y hy => by simp at hy, hm, fun hb => hmF ((p4 mn).2 (Or.inr hb))⟩, p3, rfl, fun k => ?_⟩, fun k hk => ?_, ⟨h.wf, growAll_up r newB_up, growAll_ks r newB_wf newB_ks, h.br.short, h.br.few, ?_⟩, fun s hs => by simp at hs⟩
  · unfold SOwn
    rw [p4 k]
    simp only [Value.ownBlock, List.not_mem_nil, false_and, exists_const, or_false]
    constructor
    · rintro ((h | h) | h)
      · exact Or.inl h
      · exact Or.inr (Or.inl h)
      · exact Or.inr (Or.inr (Or.inr (Or.inl h)))
    · rintro (h | h | h | h | ⟨y, h⟩)
      · exact Or.inl (Or.inl h)
      · exact Or.inl (Or.inr h)
      · cases h
      · exact Or.inr h
      · exact h.elim
  · rcases hk with hk | rfl
    · exact hlow k hk
    · exact hlm
  · have := h.len
    omega
theorem NPost.ok {qs : List L} {e : Ending} {r : List Np} (h : NPost W qs e w') (hr : needed 0 qs = .ok r) (hq : qs.length ≤ 2197802) : ∃ X F, e = .returned (.tuple #[.pointer (some ⟨X, 0, none⟩), .int .i64 0, .int .i64 0, .int .i64 0]) ∧ SpI X W.heap.size F (growAll newB r) [] w' ∧ Below W.heap.size W w' := by
  obtain ⟨hb, h⟩ := h
  rw [hr] at h
  obtain ⟨X, mn, F, rfl, h1, h2, h3, h4, h5⟩ := h
  have := needed_len qs 0 hr
  exact ⟨X, _, rfl, h1.spI h2 h3 h5 h4 (by omega), hb⟩
end Go.Proofs.YtoahlnmhjinneaaGreatDoor

set_option linter.unusedSimpArgs false
set_option linter.unusedVariables false
namespace Go.Proofs.YtoahlnmhjinneaaGreatDoor
open Go.RowKit Go.Maps Go.Lib
variable {w w' W W' w0 w1 w3 w5 wr : World} {v vs : Value} {xs : List (Br × Nat)} {b : Brs} {F : Nat → Prop} {X lo : Nat} {S S1 : List Sta} {ys : List (Sta × Value)}
theorem SpI.lower {lo' : Nat} (h : SpI X lo' F b S w) (hl : lo ≤ lo') : SpI X lo F b S w := ⟨h.ex, fun k hk => Nat.le_trans hl (h.low k hk), h.pl, h.wfs⟩
theorem SpI.cells {st : Nat} {s : Sta} (h : SpI X lo F b S w) (hs : S[st]? = some s) : ∃ g n cap da dc, w.cell? ⟨X, 1, none⟩ = some (.slice (some ⟨g, 0, none⟩) n cap) ∧ st < n ∧ w.cell? ⟨g, st * 4, none⟩ = some (.slice da s.due.length dc) ∧ w.cell? ⟨g, st * 4 + 1, none⟩ = some (.bool s.nd) ∧ w.cell? ⟨g, st * 4 + 2, none⟩ = some (.bool s.wh) ∧ w.cell? ⟨g, st * 4 + 3, none⟩ = some (.bool s.tx) := by
  obtain ⟨v, vs, mn, xs, ys, m, e1, e2, e3⟩ := h.ex
  have hyx : ∃ y, ys[st]? = some y ∧ y.1 = s := by
    rw [← e2, List.getElem?_map] at hs
    obtain ⟨y, hy, rfl⟩ := Option.map_eq_some_iff.1 hs
    exact ⟨y, hy, rfl⟩
  obtain ⟨y, hy, rfl⟩ := hyx
  obtain ⟨g, cap, da, dn, dc, rfl, -, a0, a1, a2, a3, hrow⟩ := m.state hy
  have hdn : dn = y.1.due.length := by
    rcases hrow.2 with ⟨e, h0⟩ | ⟨_, _, _, e, _⟩
    · cases e; omega
    · cases e; rfl
  subst hdn
  exact ⟨g, _, cap, da, dc, cell_of m.box rfl, (List.getElem?_eq_some_iff.1 hy).1, a0, a1, a2, a3⟩
theorem SpI.keep {st : Nat} {s : Sta} (h : SpI X lo F b S w) (hs : S[st]? = some s) : Calls Tryz.prog 12 #[.pointer (some ⟨X, 0, none⟩), .int .i64 (st : Nat)] w fun e w' => e = .returned (.tuple #[.bool s.nd, .bool s.wh]) ∧ ∃ m, w' = w.drewN m := by
  obtain ⟨g, n, cap, da, dc, c1, hl, a0, a1, a2, a3⟩ := h.cells hs
  exact keep_yes c1 hl a1 a2
theorem SpI.text {st : Nat} {s : Sta} (h : SpI X lo F b S w) (hs : S[st]? = some s) : Calls Tryz.prog 13 #[.pointer (some ⟨X, 0, none⟩), .int .i64 (st : Nat)] w fun e w' => e = .returned (.bool s.tx) ∧ w' = w := by
  obtain ⟨g, n, cap, da, dc, c1, hl, a0, a1, a2, a3⟩ := h.cells hs
  exact text_yes c1 hl a3
theorem SpI.live {st : Nat} {s : Sta} (h : SpI X lo F b S w) (hs : S[st]? = some s) : Calls Tryz.prog 14 #[.pointer (some ⟨X, 0, none⟩), .int .i64 (st : Nat)] w fun e w' => e = .returned (.bool (decide (0 < s.due.length))) ∧ w' = w := by
  obtain ⟨g, n, cap, da, dc, c1, hl, a0, a1, a2, a3⟩ := h.cells hs
  exact live_yes c1 hl a0
theorem SpI.drewN (h : SpI X lo F b S w) (m : Nat) : SpI X lo F b S (w.drewN m) := h.below (belowN (Below.refl _ _) m)
def qa : List L := [[47, 97, 47, 98]]
def ra : List Np := (match needed 0 qa with | .ok r => r | .error _ => [])
theorem needed_a : needed 0 qa = .ok ra := rfl
abbrev ba : Brs := growAll newB ra
theorem say_a : (nextS ba (startS ba) [97]).nd = false ∧ decide (0 < (nextS ba (startS ba) [97]).due.length) = true ∧ (nextS ba (nextS ba (startS ba) [97]) [98]).nd = true ∧ (nextS ba (nextS ba (startS ba) [97]) [98]).wh = true := ⟨by rfl, by rfl, by rfl, by rfl⟩
theorem there {x y : Sta} {S' : List Sta} {n : Nat} (h : S[n]? = some y) (hs : S' = S ∨ (S' = S ++ [x] ∧ x ∉ S)) : S'[n]? = some y := by
  rcases hs with rfl | ⟨rfl, -⟩
  · exact h
  · rw [List.getElem?_append_left (List.getElem?_eq_some_iff.1 h).1]
    exact h
theorem alive_new (hT : TabB W.heap.size W) : Calls Tryz.prog 5 #[.slice (some ⟨W.heap.size, 0, none⟩) 1 1] (W.alloc (.cells #[.string ⟨#[47, 97, 47, 98]⟩] 9)) fun e w' => ∃ X, e = .returned (.tuple #[.pointer (some ⟨X, 0, none⟩), .int .i64 0, .int .i64 0, .int .i64 0]) ∧ Hid (Calls Tryz.prog 26 #[.pointer (some ⟨X, 0, none⟩)] w' fun e w1 => ∃ n0 : Nat, e = .returned (.int .i64 (n0 : Nat)) ∧ Hid (Calls Tryz.prog 25 #[.pointer (some ⟨X, 0, none⟩), .int .i64 (n0 : Nat), .string ⟨#[97]⟩] w1 fun e w2 => ∃ n1 : Nat, e = .returned (.int .i64 (n1 : Nat)) ∧ Hid (Calls Tryz.prog 25 #[.pointer (some ⟨X, 0, none⟩), .int .i64 (n1 : Nat), .string ⟨#[98]⟩] w2 fun e w3 => ∃ n2 : Nat, e = .returned (.int .i64 (n2 : Nat)) ∧ Hid (Calls Tryz.prog 12 #[.pointer (some ⟨X, 0, none⟩), .int .i64 (n2 : Nat)] w3 fun e w4 => e = .returned (.tuple #[.bool true, .bool true]) ∧ Hid (Calls Tryz.prog 12 #[.pointer (some ⟨X, 0, none⟩), .int .i64 (n1 : Nat)] w4 fun e w5 => ∃ u, e = .returned (.tuple #[.bool false, .bool u]) ∧ Hid (Calls Tryz.prog 14 #[.pointer (some ⟨X, 0, none⟩), .int .i64 (n1 : Nat)] w5 fun e w6 => e = .returned (.bool true) ∧ Below W.heap.size W w6)))))) := by
  obtain ⟨y1, y2, y3, y4⟩ := say_a
  have hb0 : Below W.heap.size W (W.alloc (.cells #[.string ⟨#[47, 97, 47, 98]⟩] 9)) := (Below.refl W.heap.size W).alloc (Nat.le_refl _) _
  have hst : StR (W.alloc (.cells #[.string ⟨#[47, 97, 47, 98]⟩] 9)) (.slice (some ⟨W.heap.size, 0, none⟩) 1 1) qa := by
    have hB := Below_new W (.cells #[.string ⟨#[47, 97, 47, 98]⟩] 9)
    refine ⟨_, 1, rfl, ⟨by simp [qa], by simp [qa]⟩, fun i x hx => ⟨W.heap.size, 0, rfl, by simp, ?_⟩⟩
    cases i with
    | zero =>
      obtain rfl : [47, 97, 47, 98] = x := by simpa [qa] using hx
      exact cell_of hB rfl
    | succ i => simp [qa] at hx
  refine (new_ok qa _ _ hst (by simp [qa]) (fun k e => by cases e; simp)).mono ?_
  intro e w' hN
  obtain ⟨X, F, rfl, hI, hb1⟩ := hN.ok needed_a (by simp [qa])
  have hI := hI.lower hb0.size
  have hbl : Below W.heap.size W w' := bon hb0 hb1
  have hlo1 := hbl.size
  have hT1 := hT.on hbl
  refine ⟨X, rfl, hide ((spStart_ok hI hT1 hlo1 (by simp)).mono ?_)⟩
  rintro e w1 ⟨n0, S0, rfl, h0, h0', F0, hI0, hf0, -⟩
  have l0 : S0.length ≤ 1 := by rcases h0' with rfl | ⟨rfl, -⟩ <;> simp
  have hu0 := hf0.up hI.low hlo1
  have hT2 := hT1.on hu0
  have hlo2 := Nat.le_trans hlo1 hf0.size
  refine ⟨n0, rfl, hide ((spNext_ok hI0 h0 [97] hT2 hlo2 (by omega)).mono ?_)⟩
  rintro e w2 ⟨n1, S1, rfl, h1, h1', F1, hI1, hf1, -⟩
  have l1 : S1.length ≤ 2 := by rcases h1' with rfl | ⟨rfl, -⟩ <;> (try rw [List.length_append, List.length_singleton]) <;> omega
  have hu1 := hf1.up hI0.low hlo2
  have hT3 := hT2.on hu1
  have hlo3 := Nat.le_trans hlo2 hf1.size
  refine ⟨n1, rfl, hide ((spNext_ok hI1 h1 [98] hT3 hlo3 (by omega)).mono ?_)⟩
  rintro e w3 ⟨n2, S2, rfl, h2, h2', F2, hI2, hf2, -⟩
  have q1 := there h1 h2'
  have hu2 := hbl.trans (hu0.trans (hu1.trans (hf2.up hI1.low hlo3)))
  refine ⟨n2, rfl, hide ((hI2.keep h2).mono ?_)⟩
  rintro e w4 ⟨rfl, m, rfl⟩
  refine ⟨by rw [y3, y4], hide (((hI2.drewN m).keep q1).mono ?_)⟩
  rintro e w5 ⟨rfl, m', rfl⟩
  refine ⟨_, by rw [y1], hide ((((hI2.drewN m).drewN m').live q1).mono ?_)⟩
  rintro e w6 ⟨rfl, rfl⟩
  exact ⟨by rw [y2], belowN (belowN hu2 m) m'⟩
set_option maxHeartbeats 8000000 in
set_option maxRecDepth 100000 in
theorem alive_ok (hT : TabB lo W) : Calls Tryz.prog 10 #[] W fun e w' => e = .returned (.bool true) ∧ Below W.heap.size W w' := by
  have HN := hide (alive_new (Lib.tabBelow_of_tabIs hT.here))
  have HM := hide (num_ok 0)
  clear hT
  go_enter Tryz.func10, Tryz.ntmps10
  go_wp2_with (first
    | (go_at_call 5; refine HN.out.mono ?_; rintro e w1 ⟨X, rfl, H1⟩; clear HN)
    | (go_at_call 8; refine (HM.out _).mono ?_; rintro e w2 ⟨rfl, hw⟩; have hw' := hw.symm; clear hw HM; subst hw')
    | (go_at_call 26; refine H1.out.mono ?_; rintro e w3 ⟨n0, rfl, H2⟩; clear H1)
    | (go_at_call 25; refine H2.out.mono ?_; rintro e w4 ⟨n1, rfl, H3⟩; clear H2)
    | (go_at_call 25; refine H3.out.mono ?_; rintro e w5 ⟨n2, rfl, H4⟩; clear H3)
    | (go_at_call 12; refine H4.out.mono ?_; rintro e w6 ⟨rfl, H5⟩; clear H4)
    | (go_at_call 12; refine H5.out.mono ?_; rintro e w7 ⟨u7, rfl, H6⟩; clear H5)
    | (go_at_call 14; refine H6.out.mono ?_; rintro e w8 ⟨rfl, H8⟩; clear H6))
  go_ret
  exact ⟨rfl, H8⟩
end Go.Proofs.YtoahlnmhjinneaaGreatDoor
