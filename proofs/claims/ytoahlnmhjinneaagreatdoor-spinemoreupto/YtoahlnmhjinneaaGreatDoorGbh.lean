import Derived.Test.YtoahlnmhjinneaaGreatDoorGbg
import Derived.Test.YtoahlnmhjinneaaGreatDoorGap
import Derived.Test.YtoahlnmhjinneaaGreatDoorGbe
set_option linter.unusedVariables false
set_option linter.unusedSimpArgs false
set_option linter.unusedSimpArgs false
set_option linter.unusedVariables false
namespace Go.Proofs.YtoahlnmhjinneaaGreatDoor
open Go.RowKit Go.Maps Go.Lib
variable {w w' w1 W : World}
theorem infoR : (Tryz.prog.info? 94).map (fun i => (i.zero, i.size, i.bytes)) = some (some (.agg #[.bool false, .string ⟨#[]⟩, .slice none 0 0]), 3, 48) := by kernel_rfl
theorem MkR.of_ownE {B : Nat} {et : TypeId} {v : Value} {n : Nat} {xs : List (Stp × Value)} (h : w.ownsRow B et 3 v n (sCells xs)) (hs : ∀ y ∈ xs, SlV y) (hn : n ≤ 1000000) : MkR w v (xs.map mk2) := by
  have hl := h.1
  rw [sCells_len] at hl
  have hxl : xs.length = n := by omega
  have hcl : ∀ g cap, v = .slice (some ⟨g, 0, none⟩) n cap → ∀ i x, xs[i]? = some x → w.cell? ⟨g, i * 3, none⟩ = some (.bool x.1.deep) ∧ w.cell? ⟨g, i * 3 + 1, none⟩ = some (.string (bs x.1.test)) ∧ w.cell? ⟨g, i * 3 + 2, none⟩ = some x.2 := fun g cap e i x hx => by
    subst e
    have hil := (List.getElem?_eq_some_iff.1 hx).1
    have f := fun c (hc : c < 3) u hu => (h.cellAt (i * 3 + c) (by omega)).trans (sCells_at xs i x c u hx hu)
    exact ⟨f 0 (by omega) _ rfl, f 1 (by omega) _ rfl, f 2 (by omega) _ rfl⟩
  rcases h.2 with ⟨rfl, hz⟩ | ⟨g, cap, cur, rfl, hb, hg, hnc, _, _, _⟩
  · have : xs = [] := List.eq_nil_of_length_eq_zero (by omega)
    subst this
    exact ⟨none, 0, rfl, ⟨by simp, by simp⟩, fun i m hm => by simp at hm⟩
  · refine ⟨some ⟨g, 0, none⟩, cap, by simp [hxl], ⟨by simp; omega, by simp; omega⟩, fun i m hm => ?_⟩
    rw [List.getElem?_map] at hm
    obtain ⟨x, hx, rfl⟩ := Option.map_eq_some_iff.1 hm
    obtain ⟨c0, c1, c2⟩ := hcl g cap rfl i x hx
    obtain ⟨pi, pn, pc, e⟩ := hs x (List.mem_of_getElem? hx)
    exact ⟨g, pi, pn, pc, rfl, blk_lt hg, c0, c1, by rw [c2, e]⟩
theorem run_appR_none (v : Value) (n : Nat) (xs : List Value) (B cap : Nat) (hown : w.ownsRow B 94 3 v n xs) : (Builtin.append_ #[59, 59] 59 #[v, .slice none 0 cap]).run Tryz.prog w = .ok v w := by
  obtain ⟨i0, hi, hz0, hz1, hz2⟩ := info_parts infoR
  rcases hown.2 with ⟨rfl, rfl⟩ | ⟨g, cap', cur, rfl, _, _, hnc, _⟩
  · simp [Builtin.append_, run_underlying Tryz.underlying59, sizeOf, typeInfo, hi, Builtin.lenOf, Builtin.firstCells]
  · simp [Builtin.append_, run_underlying Tryz.underlying59, sizeOf, typeInfo, hi, Builtin.lenOf, Builtin.firstCells, hnc, storeCells]
theorem run_appR {B : Nat} {v : Value} {n : Nat} {xs : List Value} {ai : Option Addr} {m cap : Nat} {ms : List Mk} (hown : w.ownsRow B 94 3 v n xs) (h : MkR w (.slice ai m cap) ms) (hl : n + ms.length ≤ 2000000) (hB : B ≤ w.heap.size) :
    ∃ v' w' ys, (Builtin.append_ #[59, 59] 59 #[v, .slice ai m cap]).run Tryz.prog w = .ok v' w' ∧ w'.ownsRow B 94 3 v' (n + m) (xs ++ sCells ys) ∧ ys.map mk2 = ms ∧ (∀ y ∈ ys, SlV y) ∧ w.grownBy w' v.ownBlock := by
  obtain ⟨i0, hi, hz0, hz1, hz2⟩ := info_parts infoR
  obtain ⟨rfl, h1, ys, h2, h3, h4⟩ := h.cells
  have hyl : ys.length = ms.length := by rw [← h2]; simp
  cases ai with
  | none =>
    have h0 : ms = [] := Classical.byContradiction fun hne => by obtain ⟨g, e⟩ := h1 hne; cases e
    subst h0
    have : ys = [] := List.eq_nil_of_length_eq_zero (by simpa using hyl)
    subst this
    exact ⟨v, w, [], run_appR_none v n xs B cap hown, by simpa [sCells] using hown, rfl, fun y hy => by simp at hy, ⟨rfl, rfl, rfl, Nat.le_refl _, fun _ _ _ => rfl⟩⟩
  | some ad =>
    have hcell : ∀ j u, (sCells ys)[j]? = some u → w.cell? (ad.add j) = some u := fun j u hj => by
      have hne : ms ≠ [] := by
        rintro rfl
        have : ys = [] := List.eq_nil_of_length_eq_zero (by simpa using hyl)
        subst this
        simp [sCells] at hj
      obtain ⟨g, e⟩ := h1 hne
      cases e
      have := h4 g rfl j u hj
      unfold Addr.add
      split
      · next h0 => rw [h0] at this; exact this
      · simpa using this
    have h1c : ∀ u ∈ sCells ys, u.oneCell' = true := by
      intro u hu
      unfold sCells at hu
      obtain ⟨x, hx, hu⟩ := List.mem_flatMap.1 hu
      obtain ⟨pi, pn, pc, e⟩ := h3 x hx
      rw [e] at hu
      simp only [List.mem_cons, List.not_mem_nil, or_false] at hu
      rcases hu with rfl | rfl | rfl <;> rfl
    obtain ⟨v', w', r, r1, r2, _⟩ := run_append_own (P := Tryz.prog) w B 59 59 94 i0 _ 3 48 Tryz.underlying59 hi hz0 hz1 hz2 rfl (by decide) v n xs hown ad ms.length cap (sCells ys) (by rw [sCells_len, hyl]) hcell h1c (by unfold maxLen; omega) (by omega) hB
    exact ⟨v', w', ys, r, r1, h2, h3, r2⟩
set_option maxHeartbeats 8000000 in
set_option maxRecDepth 100000 in
theorem joinedR_ok {a b : List Mk} {va vb : Value} (ha : MkR w va a) (hb : MkR w vb b) (hl : a.length + b.length ≤ 1000000) : Calls Tryz.prog 36 #[va, vb] w fun e w' => ∃ ai n cap, e = .returned (.slice ai n cap) ∧ MkR w' (.slice ai n cap) (a ++ b) ∧ Below w.heap.size w w' ∧ ∀ j, (Value.slice ai n cap).ownBlock = some j → w.heap.size ≤ j := by
  obtain ⟨ai, ac, rfl, hna, hra⟩ := id ha
  obtain ⟨bi, bc, rfl, hnb, hrb⟩ := id hb
  obtain ⟨v1, w1, xs, r1, o1, x1, s1, g1⟩ := run_appR (World.ownsRow_nil w w.heap.size 94 3) ha (by omega) (Nat.le_refl _)
  have hB1 := (Below.refl w.heap.size w).grown g1 (Nat.le_refl _) (fun j e => by cases e)
  obtain ⟨a1, n1, c1, rfl⟩ := own_shape o1
  obtain ⟨v2, w2, ys, r2, o2, x2, s2, g2⟩ := run_appR o1 (hb.below (B := 0) hB1) (by omega) hB1.size
  obtain ⟨a2, n2, c2, rfl⟩ := own_shape o2
  have hB2 := hB1.grown g2 hB1.size (fun j e => (o1.lt j e).1)
  have HE : Hid (MkR w2 (.slice a2 n2 c2) (a ++ b) ∧ Below w.heap.size w w2 ∧ ∀ j, (Value.slice a2 n2 c2).ownBlock = some j → w.heap.size ≤ j) := by
    refine hide ⟨?_, hB2, fun j e => (o2.lt j e).1⟩
    have e : [] ++ sCells xs ++ sCells ys = sCells (xs ++ ys) := by unfold sCells; rw [List.flatMap_append]; rfl
    rw [e] at o2
    have := MkR.of_ownE o2 (fun y hy => by rcases List.mem_append.1 hy with h | h; exact s1 y h; exact s2 y h) (by omega)
    rwa [List.map_append, x1, x2] at this
  clear ha hb hra hrb o1 o2 x1 x2 s1 s2 g1 g2 hB1 hB2
  generalize a.length = na at *
  generalize b.length = nb at *
  go_enter Tryz.func36, Tryz.ntmps36
  go_wp2_with (at_builtin; first | refine Lib.wpList_append_run _ rfl _ _ _ _ rfl _ _ rfl rfl _ _ r1 ?_ | refine Lib.wpList_append_run _ rfl _ _ _ _ rfl _ _ rfl rfl _ _ r2 ?_)
  first | exact ⟨_, _, _, rfl, HE.out⟩ | (go_ret; exact ⟨_, _, _, rfl, HE.out⟩)
def IsB (e : Ending) : Prop := ∃ t, e = .returned (.bool t)
set_option maxHeartbeats 8000000 in
set_option maxRecDepth 100000 in
theorem isTextR_ok {ms : List Mk} {v : Value} (h : MkR w v ms) : Calls Tryz.prog 22 #[v] w fun e w' => IsB e ∧ w' = w := by
  obtain ⟨ai, cap, rfl, hn, hr⟩ := h
  by_cases h0 : ms.length = 0
  · rw [h0]
    clear hr hn h0
    go_enter Tryz.func22, Tryz.ntmps22
    go_wp2
    go_ret
    exact ⟨⟨_, rfl⟩, rfl⟩
  · obtain ⟨k, hk⟩ : ∃ k, ms.length = k + 1 := ⟨ms.length - 1, by omega⟩
    have hx : ms[k]? = some ms[k] := List.getElem?_eq_getElem (by omega)
    obtain ⟨g, pi, pn, pc, rfl, hg, c0, c1, c2⟩ := hr k _ hx
    generalize bs ms[k].2 = T at *
    rw [hk] at *
    have h1 : decide ((((k + 1 : Nat) : Int)) > 0) = true := by simp
    have hw : IntKind.i64.wrap (((k + 1 : Nat) : Int) - 1) = (k : Int) := by rw [IntKind.wrap_i64]; omega
    have hii : (k : Int) < ((k + 1 : Nat) : Int) := by omega
    clear hr c0 c2
    go_enter Tryz.func22, Tryz.ntmps22
    go_wp2
    go_ret
    exact ⟨⟨_, rfl⟩, rfl⟩
end Go.Proofs.YtoahlnmhjinneaaGreatDoor

set_option linter.unusedSimpArgs false
set_option linter.unusedVariables false
namespace Go.Proofs.YtoahlnmhjinneaaGreatDoor
open Go.RowKit Go.Maps Go.Lib
variable {w w' w1 W wr : World} {v : Value} {ms : List Mk} {i : Nat}
def ba3 (d : Bool) (T : ByteArray) : List Value := [.bool d, .string T, .slice none 0 0]
def baC (ms : List Mk) : List Value := ms.flatMap fun m => ba3 m.1 (bs m.2)
theorem baC_at : ∀ (ms : List Mk) (k : Nat) (m : Mk) (c : Nat) (u : Value), ms[k]? = some m → (ba3 m.1 (bs m.2))[c]? = some u → (baC ms)[k * 3 + c]? = some u
  | [], k, x, c, u, h, _ => by simp at h
  | y :: xs, 0, x, c, u, h, hc => by
    obtain rfl : y = x := by simpa using h
    have hl : c < 3 := by have := (List.getElem?_eq_some_iff.1 hc).1; simpa [ba3] using this
    show (ba3 y.1 (bs y.2) ++ baC xs)[0 * 3 + c]? = _
    rw [List.getElem?_append_left (by simp [ba3]; omega)]; simpa using hc
  | y :: xs, k + 1, x, c, u, h, hc => by
    have := baC_at xs k x c u (by simpa using h) hc
    show (ba3 y.1 (bs y.2) ++ baC xs)[(k + 1) * 3 + c]? = _
    rw [List.getElem?_append_right (by simp [ba3]; omega)]
    rw [← this]; congr 1; simp [ba3]; omega
def BaR (w : World) (v : Value) (ms : List Mk) : Prop := ∃ ai cap, v = .slice ai ms.length cap ∧ (ms.length ≤ 1000000 ∧ ms.length ≤ cap) ∧ ∀ i m, ms[i]? = some m → ∃ g, ai = some ⟨g, 0, none⟩ ∧ g < w.heap.size ∧ w.cell? ⟨g, i * 3, none⟩ = some (.bool m.1) ∧ w.cell? ⟨g, i * 3 + 1, none⟩ = some (.string (bs m.2)) ∧ w.cell? ⟨g, i * 3 + 2, none⟩ = some (.slice none 0 0)
theorem BaR.below (h : BaR w v ms) (hb : Below w.heap.size w w') : BaR w' v ms := by
  obtain ⟨ai, cap, rfl, hn, hr⟩ := h
  refine ⟨ai, cap, rfl, hn, fun i m hm => ?_⟩
  obtain ⟨g, e, hg, h0, h1, h2⟩ := hr i m hm
  have hk := hb.block g hg
  exact ⟨g, e, Nat.lt_of_lt_of_le hg hb.size, (World.cell?_of_block hk).trans h0, (World.cell?_of_block hk).trans h1, (World.cell?_of_block hk).trans h2⟩
theorem BaR.of_own {B : Nat} (h : w.ownsRow B 94 3 v ms.length (baC ms)) (hn : ms.length ≤ 1000000) : BaR w v ms := by
  have hcl : ∀ g cap, v = .slice (some ⟨g, 0, none⟩) ms.length cap → ∀ i m, ms[i]? = some m → w.cell? ⟨g, i * 3, none⟩ = some (.bool m.1) ∧ w.cell? ⟨g, i * 3 + 1, none⟩ = some (.string (bs m.2)) ∧ w.cell? ⟨g, i * 3 + 2, none⟩ = some (.slice none 0 0) := fun g cap e i x hx => by
    subst e
    have hil := (List.getElem?_eq_some_iff.1 hx).1
    have f := fun c (hc : c < 3) u hu => (h.cellAt (i * 3 + c) (by omega)).trans (baC_at ms i x c u hx hu)
    exact ⟨f 0 (by omega) _ rfl, f 1 (by omega) _ rfl, f 2 (by omega) _ rfl⟩
  rcases h.2 with ⟨rfl, hz⟩ | ⟨g, cap, cur, rfl, hb, hg, hnc, _, _, _⟩
  · have : ms = [] := List.eq_nil_of_length_eq_zero (by omega)
    subst this
    exact ⟨none, 0, rfl, ⟨by simp, by simp⟩, fun i m hm => by simp at hm⟩
  · refine ⟨some ⟨g, 0, none⟩, cap, rfl, ⟨hn, hnc⟩, fun i m hm => ?_⟩
    obtain ⟨c0, c1, c2⟩ := hcl g cap rfl i m hm
    exact ⟨g, rfl, blk_lt hg, c0, c1, c2⟩
abbrev o94 (d : Bool) (T : ByteArray) : Obj := .cells #[.bool d, .string T, .slice none 0 0] 94
def MidB (w : World) (ms : List Mk) (i : Nat) (v : Value) (wr : World) : Prop := (∃ a n c, v = .slice a n c) ∧ wr.ownsRow 0 94 3 v i (baC (ms.take i)) ∧ Below w.heap.size w wr ∧ ∀ k, v.ownBlock = some k → w.heap.size ≤ k
theorem bare_round {ai : Option Addr} {cap : Nat} (h : MkR w (.slice ai ms.length cap) ms) (hi : i < ms.length) (M : MidB w ms i v wr) : ∃ g d T, ai = some ⟨g, 0, none⟩ ∧ wr.cell? ⟨g, i * 3, none⟩ = some (.bool d) ∧ wr.cell? ⟨g, i * 3 + 1, none⟩ = some (.string T) ∧
    Hid ((wr.alloc (o94 d T)).ownsRow 0 94 3 v i (baC (ms.take i)) ∧ ∀ j u, (ba3 d T)[j]? = some u → (wr.alloc (o94 d T)).cell? ((⟨wr.heap.size, 0, none⟩ : Addr).add j) = some u) ∧
    Hid (∀ v' w', w'.ownsRow 0 94 3 v' (i + 1) (baC (ms.take i) ++ ba3 d T) → (wr.alloc (o94 d T)).grownBy w' v.ownBlock → (v'.ownBlock = v.ownBlock ∨ v'.ownBlock = some (wr.alloc (o94 d T)).heap.size) → MidB w ms (i + 1) v' w') := by
  obtain ⟨m1, m2, m3, m4⟩ := M
  have hx : ms[i]? = some ms[i] := List.getElem?_eq_getElem hi
  have htk : ms.take (i + 1) = ms.take i ++ [ms[i]] := List.take_succ_eq_append_getElem hi
  obtain ⟨ai', cap', e, hn, hr⟩ := h.below (B := 0) m3
  cases e
  obtain ⟨g, pi, pn, pc, e, hg, c0, c1, c2⟩ := hr i _ hx
  generalize ms[i] = m at *
  have hB := Below_new wr (o94 m.1 (bs m.2))
  refine ⟨g, m.1, bs m.2, e, c0, c1, hide ⟨m2.alloc _, fun j u hj => ?_⟩, hide fun v' w' r1 r2 r3 => ⟨own_shape r1, ?_, ?_, fun k hk => ?_⟩⟩
  · have hc : (wr.alloc (o94 m.1 (bs m.2))).cell? ⟨wr.heap.size, j, none⟩ = some u := cell_of hB (by simpa [ba3] using hj)
    unfold Addr.add
    split
    · next h0 => rw [h0] at hc; exact hc
    · simpa using hc
  · rw [htk]
    have e2 : baC (ms.take i ++ [m]) = baC (ms.take i) ++ ba3 m.1 (bs m.2) := by unfold baC; rw [List.flatMap_append]; simp
    rw [e2]
    exact r1
  · have hs := m3.size
    refine ((m3.alloc hs _).grown r2 (by simp; omega) fun k hk => m4 k hk)
  · have hs := m3.size
    rcases r3 with r3 | r3
    · exact m4 k (r3 ▸ hk)
    · rw [r3] at hk
      cases hk
      simp
      omega
set_option maxHeartbeats 8000000 in
set_option maxRecDepth 100000 in
theorem bareR_ok (h : MkR w v ms) : Calls Tryz.prog 23 #[v] w fun e w' => ∃ a n c, e = .returned (.slice a n c) ∧ w'.ownsRow 0 94 3 (.slice a n c) ms.length (baC ms) ∧ Below w.heap.size w w' ∧ ∀ k, (Value.slice a n c).ownBlock = some k → w.heap.size ≤ k := by
  obtain ⟨i0, hi0, hz0, hz1, hz2⟩ := info_parts infoR
  obtain ⟨ai, cap, rfl, hn, hr⟩ := id h
  have HR : Hid (∀ i v wr, i < ms.length → MidB w ms i v wr → ∃ g d T XS, ai = some ⟨g, 0, none⟩ ∧ wr.cell? ⟨g, i * 3, none⟩ = some (.bool d) ∧ wr.cell? ⟨g, i * 3 + 1, none⟩ = some (.string T) ∧
    Hid ((wr.alloc (o94 d T)).ownsRow 0 94 3 v i XS ∧ ∀ j u, (ba3 d T)[j]? = some u → (wr.alloc (o94 d T)).cell? ((⟨wr.heap.size, 0, none⟩ : Addr).add j) = some u) ∧
    Hid (∀ v' w', w'.ownsRow 0 94 3 v' (i + 1) (XS ++ ba3 d T) → (wr.alloc (o94 d T)).grownBy w' v.ownBlock → (v'.ownBlock = v.ownBlock ∨ v'.ownBlock = some (wr.alloc (o94 d T)).heap.size) → MidB w ms (i + 1) v' w')) := fun i v wr hi M => by
    obtain ⟨g, d, T, h1⟩ := bare_round h hi M
    exact ⟨g, d, T, _, h1⟩
  have HE : Hid (∀ a n c wr, MidB w ms ms.length (.slice a n c) wr → wr.ownsRow 0 94 3 (.slice a n c) ms.length (baC ms) ∧ Below w.heap.size w wr ∧ ∀ k, (Value.slice a n c).ownBlock = some k → w.heap.size ≤ k) := fun a n c wr M => by
    obtain ⟨-, m2, m3, m4⟩ := M
    rw [List.take_length] at m2
    exact ⟨m2, m3, m4⟩
  have H0 : Hid (MidB w ms 0 (.slice none 0 0) w) := ⟨⟨_, _, _, rfl⟩, World.ownsRow_nil _ _ _ _, Below.refl _ _, fun k e => by cases e⟩
  have HSH : Hid (∀ i v wr, MidB w ms i v wr → ∃ a n c, v = .slice a n c) := fun i v wr M => M.1
  clear h hr
  obtain ⟨hn, hnc⟩ := hn
  generalize hMM : MidB w ms = MM at *
  clear hMM
  generalize ms.length = len at *
  go_enter Tryz.func23, Tryz.ntmps23
  go_wp2_with fail
  go_loopw [3, 4] (fun rv iv wr => ∃ i : Nat, iv = .int .i64 i ∧ i ≤ len ∧ MM i rv wr) (fun _ iv _ => len - (RowKit.intOf iv).toNat)
  case atStart => exact ⟨0, rfl, Nat.zero_le _, H0.out⟩
  case round =>
    rename World => WO
    obtain ⟨i, rfl, hi, hM⟩ := hrel
    obtain ⟨a3, n3, c3, rfl⟩ := HSH.out _ _ _ hM
    by_cases hlt : i < len
    · obtain ⟨g, d, T, XS, rfl, c0, c1, HO, HV⟩ := HR.out i _ _ hlt hM
      have hdec : decide ((i : Int) < len) = true := by simp; omega
      have hii : (i : Int) < len := by omega
      clear HR HE HSH H0 hM
      go_wp2_with fail
      go_region_law
        (first | (
          refine step_own_at rfl (.tmp 11) (.tmp 23) 59 rfl 94 i0 _ 3 48 Tryz.underlying59 hi0 hz0 hz1 hz2 rfl (by decide) (.slice a3 n3 c3) i XS (by simp [Act.eval, Act.put]) HO.out.1 ⟨WO.heap.size, 0, none⟩ 1 1 (ba3 d T) (by simp [Act.eval, Act.put]) rfl HO.out.2 (by simp [ba3, Value.oneCell']) (by unfold maxLen; omega) (by omega) ?_
          intro v7 w7 ho hg hat
          obtain ⟨a7, n7, c7, rfl⟩ := own_shape ho
          have H7 := hide (HV.out _ _ ho ⟨hg.os, hg.tape, hg.output, hg.size, hg.block⟩ hat)
          clear ho hg hat))
      all_goals
        go_wp2
        exact ⟨⟨i + 1, by simp, by omega, H7.out⟩, by simp only [RowKit.intOf]; omega⟩
    · have hdec : decide ((i : Int) < len) = false := by simp; omega
      have hi2 : i = len := by omega
      rw [hi2] at hM
      have H9 := hide (HE.out _ _ _ _ hM)
      clear HE HR HSH H0 hM
      go_wp2
      first | exact ⟨_, _, _, rfl, H9.out⟩ | (go_ret; exact ⟨_, _, _, rfl, H9.out⟩)
end Go.Proofs.YtoahlnmhjinneaaGreatDoor

set_option linter.unusedSimpArgs false
set_option linter.unusedVariables false
namespace Go.Proofs.YtoahlnmhjinneaaGreatDoor
open Go.RowKit Go.Maps Go.Lib
variable {w w' w1 W wr : World} {v : Value} {ms : List Mk} {i : Nat}
def IsS (n : Nat) (e : Ending) : Prop := ∃ T : ByteArray, e = .returned (.string T) ∧ T.size ≤ n
theorem add_any (a b : ByteArray) (h : a.size + b.size ≤ 9223372036854775807) : ∃ c : ByteArray, c.size = a.size + b.size ∧ ∀ w, (Op.stringOp .add a b).run Tryz.prog w = .ok (.string c) w := by
  refine ⟨bs (a.data.toList ++ b.data.toList), ?_, fun w => ?_⟩
  · rw [bs_size, List.length_append]
    rfl
  · exact add_rows3 a.data.toList b.data.toList _ rfl h w
theorem steps_round {ai : Option Addr} {cap : Nat} {S : ByteArray} (h : BaR w (.slice ai ms.length cap) ms) (ht : ∀ m ∈ ms, m.2.length ≤ 1000) (hi : i < ms.length) (hS : S.size ≤ i * 2000) : ∃ g d T S2 S1 A2 A1 B2 B1, ai = some ⟨g, 0, none⟩ ∧ w.cell? ⟨g, i * 3, none⟩ = some (.bool d) ∧ w.cell? ⟨g, i * 3 + 1, none⟩ = some (.string T) ∧ w.cell? ⟨g, i * 3 + 2, none⟩ = some (.slice none 0 0) ∧
    (∀ w, (Op.stringOp .add S ⟨#[47, 47]⟩).run Tryz.prog w = .ok (.string S2) w) ∧ (∀ w, (Op.stringOp .add S ⟨#[47]⟩).run Tryz.prog w = .ok (.string S1) w) ∧
    (∀ w, (Op.stringOp .add S2 T).run Tryz.prog w = .ok (.string A2) w) ∧ (∀ w, (Op.stringOp .add S1 T).run Tryz.prog w = .ok (.string A1) w) ∧
    (∀ w, (Op.stringOp .add S2 ⟨#[116, 101, 120, 116, 40, 41]⟩).run Tryz.prog w = .ok (.string B2) w) ∧ (∀ w, (Op.stringOp .add S1 ⟨#[116, 101, 120, 116, 40, 41]⟩).run Tryz.prog w = .ok (.string B1) w) ∧ Hid (A2.size ≤ (i + 1) * 2000 ∧ A1.size ≤ (i + 1) * 2000 ∧ B2.size ≤ (i + 1) * 2000 ∧ B1.size ≤ (i + 1) * 2000) := by
  obtain ⟨ai', cap', e, hn, hr⟩ := h
  cases e
  have hx : ms[i]? = some ms[i] := List.getElem?_eq_getElem hi
  obtain ⟨g, e, hg, c0, c1, c2⟩ := hr i _ hx
  have hT := ht _ (List.getElem_mem hi)
  have hTs : (bs ms[i].2).size ≤ 1000 := by rw [bs_size]; exact hT
  generalize bs ms[i].2 = T at *
  have z2 : (⟨#[47, 47]⟩ : ByteArray).size = 2 := rfl
  have z1 : (⟨#[47]⟩ : ByteArray).size = 1 := rfl
  have z6 : (⟨#[116, 101, 120, 116, 40, 41]⟩ : ByteArray).size = 6 := rfl
  obtain ⟨S2, s2, q2⟩ := add_any S ⟨#[47, 47]⟩ (by omega)
  obtain ⟨S1, s1, q1⟩ := add_any S ⟨#[47]⟩ (by omega)
  obtain ⟨A2, a2, p2⟩ := add_any S2 T (by omega)
  obtain ⟨A1, a1, p1⟩ := add_any S1 T (by omega)
  obtain ⟨B2, b2, r2⟩ := add_any S2 ⟨#[116, 101, 120, 116, 40, 41]⟩ (by omega)
  obtain ⟨B1, b1, r1⟩ := add_any S1 ⟨#[116, 101, 120, 116, 40, 41]⟩ (by omega)
  exact ⟨g, _, T, S2, S1, A2, A1, B2, B1, e, c0, c1, c2, q2, q1, p2, p1, r2, r1, hide ⟨by omega, by omega, by omega, by omega⟩⟩
set_option maxHeartbeats 8000000 in
set_option maxRecDepth 100000 in
theorem stepsR_ok (h : BaR w v ms) (ht : ∀ m ∈ ms, m.2.length ≤ 1000) : Calls Tryz.prog 80 #[v, .bool true] w fun e w' => IsS (ms.length * 2000) e ∧ w' = w := by
  obtain ⟨ai, cap, rfl, ⟨hn, hnc⟩, hr⟩ := id h
  have HR := hide (fun i S (hi : i < ms.length) (hS : ByteArray.size S ≤ i * 2000) => steps_round h ht hi hS)
  clear h hr ht
  generalize ms.length = n at *
  go_enter Tryz.func80, Tryz.ntmps80
  go_wp2_with fail
  go_loopw [5, 6] (fun sv iv wr => ∃ (i : Nat) (S : ByteArray), sv = .string S ∧ S.size ≤ i * 2000 ∧ iv = .int .i64 i ∧ i ≤ n ∧ wr = w) (fun _ iv _ => n - (RowKit.intOf iv).toNat)
  case atStart => exact ⟨0, ⟨#[]⟩, rfl, Nat.zero_le _, rfl, Nat.zero_le _, rfl⟩
  case round =>
    obtain ⟨i, S, rfl, hS, rfl, hi, hww⟩ := hrel
    have hwv := hww.symm
    clear hww
    subst hwv
    by_cases hlt : i < n
    · obtain ⟨g, d, T, S2, S1, A2, A1, B2, B1, rfl, c0, c1, c2, q2, q1, p2, p1, r2, r1, HZ⟩ := HR.out i S hlt hS
      have hdec : decide ((i : Int) < n) = true := by simp; omega
      have hii : (i : Int) < n := by omega
      obtain ⟨b2, hb2⟩ : ∃ b2, (T.toList == [35]) = b2 := ⟨_, rfl⟩
      clear HR
      rcases Nat.eq_zero_or_pos i with h0 | hpos
      · subst h0
        simp only [Nat.zero_mul, Nat.zero_add] at c0 c1 c2
        replace HZ : Hid (A2.size ≤ 1 * 2000 ∧ A1.size ≤ 1 * 2000 ∧ B2.size ≤ 1 * 2000 ∧ B1.size ≤ 1 * 2000) := HZ
        cases d <;> cases b2
        all_goals
          go_wp2_with fail
          go_loopw [5, 8] (fun sv kv wr => (∃ Z : ByteArray, sv = .string Z ∧ Z.size ≤ 1 * 2000) ∧ kv = .int .i64 0 ∧ wr = w) (fun _ _ _ => 0)
          case atStart =>
            obtain ⟨z1, z2, z3, z4⟩ := HZ.out
            exact ⟨⟨_, rfl, by first | exact z1 | exact z2 | exact z3 | exact z4⟩, rfl, rfl⟩
          case round =>
            obtain ⟨⟨Z, rfl, hZ⟩, rfl, hww⟩ := hrel
            have hwv := hww.symm
            clear hww HZ
            subst hwv
            go_wp2_with fail
            exact ⟨⟨1, _, rfl, hZ, by simp, by omega, by trivial⟩, by simp only [RowKit.intOf]; omega⟩
      · have hp1 : (i : Int) > 0 := by omega
        have hp2 : ((i : Int) == 0) = false := by simp; omega
        have hp3 : decide ((i : Int) > 0) = true := by simp; omega
        cases d <;> cases b2
        all_goals
          go_wp2_with fail
          go_loopw [5, 8] (fun sv kv wr => (∃ Z : ByteArray, sv = .string Z ∧ Z.size ≤ (i + 1) * 2000) ∧ kv = .int .i64 0 ∧ wr = w) (fun _ _ _ => 0)
          case atStart =>
            obtain ⟨z1, z2, z3, z4⟩ := HZ.out
            exact ⟨⟨_, rfl, by first | exact z1 | exact z2 | exact z3 | exact z4⟩, rfl, rfl⟩
          case round =>
            obtain ⟨⟨Z, rfl, hZ⟩, rfl, hww⟩ := hrel
            have hwv := hww.symm
            clear hww HZ
            subst hwv
            go_wp2_with fail
            exact ⟨⟨i + 1, _, rfl, hZ, by simp, by omega, by trivial⟩, by simp only [RowKit.intOf]; omega⟩
    · have hdec : decide ((i : Int) < n) = false := by simp; omega
      have hi2 : i = n := by omega
      subst hi2
      have HZ : Hid (IsS (i * 2000) (.returned (.string S))) := ⟨S, rfl, hS⟩
      clear HR hS
      go_wp2
      first | exact ⟨HZ.out, rfl⟩ | (go_ret; exact ⟨HZ.out, rfl⟩)
end Go.Proofs.YtoahlnmhjinneaaGreatDoor

set_option linter.unusedSimpArgs false
set_option linter.unusedVariables false
namespace Go.Proofs.YtoahlnmhjinneaaGreatDoor
open Go.RowKit Go.Maps Go.Lib
variable {w w' w1 W wr : World} {v : Value} {ms : List Mk} {i : Nat}
set_option maxHeartbeats 8000000 in
set_option maxRecDepth 100000 in
theorem plainR1 {ai : Option Addr} {n cap k : Nat} (h : BaR w (.slice ai n cap) ms) (ht : ∀ m ∈ ms, m.2.length ≤ 1000) (c : w.cell? ⟨k, 0, none⟩ = some (.slice ai n cap)) : Calls Tryz.prog 58 #[.slice (some ⟨k, 0, none⟩) 1 1] w fun e w' => IsS (ms.length * 2000) e ∧ w' = w := by
  have hn : ms.length ≤ 1000000 := by obtain ⟨_, _, _, hn, _⟩ := h; exact hn.1
  have HS := hide (stepsR_ok h ht)
  have HA : Hid (∀ T : ByteArray, T.size ≤ ms.length * 2000 → ∃ C : ByteArray, C.size ≤ ms.length * 2000 ∧ ∀ w, (Op.stringOp .add ⟨#[]⟩ T).run Tryz.prog w = .ok (.string C) w) := fun T hT => by
    have z0 : (⟨#[]⟩ : ByteArray).size = 0 := rfl
    obtain ⟨C, c1, c2⟩ := add_any ⟨#[]⟩ T (by omega)
    exact ⟨C, by omega, c2⟩
  clear h ht hn
  generalize ms.length * 2000 = N at *
  go_enter Tryz.func58, Tryz.ntmps58
  go_wp2_with fail
  go_loopw [3, 4] (fun sv iv wr => ((sv = .string ⟨#[]⟩ ∧ iv = .int .i64 0) ∨ ((∃ C : ByteArray, sv = .string C ∧ C.size ≤ N) ∧ iv = .int .i64 1)) ∧ wr = w) (fun _ iv _ => 1 - (RowKit.intOf iv).toNat)
  case atStart => exact ⟨Or.inl ⟨rfl, rfl⟩, rfl⟩
  case round =>
    obtain ⟨hc, hww⟩ := hrel
    have hwv := hww.symm
    clear hww
    subst hwv
    rcases hc with ⟨rfl, rfl⟩ | ⟨⟨C, rfl, hC⟩, rfl⟩
    · go_wp2_with (go_at_call 80; refine HS.out.mono ?_; rintro e w5 ⟨⟨T, rfl, hT⟩, hw⟩; have hw' := hw.symm; clear hw; subst hw'; obtain ⟨C, hC, hadd⟩ := HA.out T hT; clear HA HS)
      exact ⟨⟨Or.inr ⟨⟨C, rfl, hC⟩, by simp⟩, by trivial⟩, by simp [RowKit.intOf]⟩
    · have HZ : Hid (IsS N (.returned (.string C))) := ⟨C, rfl, hC⟩
      clear HA HS hC
      go_wp2
      first | exact ⟨HZ.out, rfl⟩ | (go_ret; exact ⟨HZ.out, rfl⟩)
set_option maxHeartbeats 8000000 in
set_option maxRecDepth 100000 in
theorem writtenR_ok {ai : Option Addr} {n cap : Nat} (b : Bool) (h : BaR w (.slice ai n cap) ms) (ht : ∀ m ∈ ms, m.2.length ≤ 1000) : Calls Tryz.prog 38 #[.agg #[.slice ai n cap, .bool b]] w fun e w' => IsS (ms.length * 2000 + 1) e ∧ Below w.heap.size w w' := by
  have hn : ms.length ≤ 1000000 := by obtain ⟨_, _, _, hn, _⟩ := h; exact hn.1
  have hb1 := (Below.refl w.heap.size w).alloc (Nat.le_refl _) (.cells #[.slice ai n cap, .bool b] 63)
  have hb2 := hb1.alloc (by simp) (.cells #[.slice ai n cap] 59)
  have hB1 := Below_new w (.cells #[.slice ai n cap, .bool b] 63)
  have hB2 := Below_new (w.alloc (.cells #[.slice ai n cap, .bool b] 63)) (.cells #[.slice ai n cap] 59)
  rw [World.size_alloc] at hB2
  have hB1' : ((w.alloc (.cells #[.slice ai n cap, .bool b] 63)).alloc (.cells #[.slice ai n cap] 59)).heap[w.heap.size]? = some (.cells #[.slice ai n cap, .bool b] 63 (0, 0)) := by
    rw [Below.heap_alloc _ _ _ (by simp)]
    exact hB1
  have HS := hide (plainR1 (h.below hb2) ht (cell_of hB2 rfl))
  have k1 : ((w.alloc (.cells #[.slice ai n cap, .bool b] 63)).alloc (.cells #[.slice ai n cap] 59)).cell? ⟨w.heap.size, 1, none⟩ = some (.bool b) := cell_of hB1' rfl
  have k0 : (w.alloc (.cells #[.slice ai n cap, .bool b] 63)).cell? ⟨w.heap.size, 0, none⟩ = some (.slice ai n cap) := cell_of hB1 rfl
  have HB := hide hb2
  have HA : Hid (∀ T : ByteArray, T.size ≤ ms.length * 2000 → ∃ C : ByteArray, C.size ≤ ms.length * 2000 + 1 ∧ ∀ w, (Op.stringOp .add T ⟨#[35]⟩).run Tryz.prog w = .ok (.string C) w) := fun T hT => by
    have z0 : (⟨#[35]⟩ : ByteArray).size = 1 := rfl
    obtain ⟨C, c1, c2⟩ := add_any T ⟨#[35]⟩ (by omega)
    exact ⟨C, by omega, c2⟩
  have HL : Hid (∀ C : ByteArray, C.size ≤ ms.length * 2000 → IsS (ms.length * 2000 + 1) (.returned (.string C))) := fun C hC => ⟨C, rfl, by omega⟩
  have HM : Hid (∀ C : ByteArray, C.size ≤ ms.length * 2000 + 1 → IsS (ms.length * 2000 + 1) (.returned (.string C))) := fun C hC => ⟨C, rfl, hC⟩
  clear h ht hn hb1 hb2 hB1 hB2 hB1'
  generalize ms.length * 2000 = N at *
  cases b <;>
  · go_enter Tryz.func38, Tryz.ntmps38
    go_wp2_with (go_at_call 58; refine HS.out.mono ?_; rintro e w5 ⟨⟨T, rfl, hT⟩, hw⟩; have hw' := hw.symm; clear hw; subst hw'; obtain ⟨C, hC, hadd⟩ := HA.out T hT; have H1 := hide (HL.out T hT); have H2 := hide (HM.out C hC); clear HA HS HL HM hC hT)
    go_ret
    first | exact ⟨H1.out, HB.out⟩ | exact ⟨H2.out, HB.out⟩
end Go.Proofs.YtoahlnmhjinneaaGreatDoor

set_option linter.unusedSimpArgs false
set_option linter.unusedVariables false
namespace Go.Proofs.YtoahlnmhjinneaaGreatDoor
open Go.RowKit Go.Maps Go.Lib
variable {w w' w1 W wr : World} {v u : Value} {ms : List Mk} {i B : Nat} {xs ys : List (Value × Bool)}
def OkP (w : World) (u : Value) : Prop := ∃ ms : List Mk, w.ownsRow 0 94 3 u ms.length (baC ms) ∧ ms.length ≤ 1000000 ∧ ∀ m ∈ ms, m.2.length ≤ 1000
def ptC (xs : List (Value × Bool)) : List Value := xs.flatMap fun y => [y.1, .bool y.2]
theorem ptC_len (xs : List (Value × Bool)) : (ptC xs).length = xs.length * 2 := by
  induction xs with
  | nil => rfl
  | cons x xs ih =>
    have : ptC (x :: xs) = [x.1, .bool x.2] ++ ptC xs := rfl
    rw [this, List.length_append, ih, List.length_cons]
    simp
    omega
theorem ptC_app (xs ys : List (Value × Bool)) : ptC (xs ++ ys) = ptC xs ++ ptC ys := by unfold ptC; rw [List.flatMap_append]
theorem ptC_at : ∀ (xs : List (Value × Bool)) (k : Nat) (x : Value × Bool), xs[k]? = some x → (ptC xs)[k * 2]? = some x.1 ∧ (ptC xs)[k * 2 + 1]? = some (.bool x.2)
  | [], k, x, h => by simp at h
  | y :: xs, 0, x, h => by
    obtain rfl : y = x := by simpa using h
    exact ⟨rfl, rfl⟩
  | y :: xs, k + 1, x, h => by
    obtain ⟨h1, h2⟩ := ptC_at xs k x (by simpa using h)
    have e : ptC (y :: xs) = y.1 :: .bool y.2 :: ptC xs := rfl
    rw [e, show (k + 1) * 2 = k * 2 + 1 + 1 by omega]
    exact ⟨by simpa using h1, by simpa using h2⟩
structure PoR (B : Nat) (w : World) (v : Value) (xs : List (Value × Bool)) : Prop where
  row : w.ownsRow 0 63 2 v xs.length (ptC xs)
  ok : ∀ y ∈ xs, OkP w y.1
  new : ∀ k, v.ownBlock = some k → B ≤ k
theorem OkP.of (h : OkP w u) (hk : ∀ k, u.ownBlock = some k → (∃ cur fz, w.heap[k]? = some (.cells cur 94 fz)) → w'.heap[k]? = w.heap[k]?) : OkP w' u := by
  obtain ⟨ms, h1, h2⟩ := h
  exact ⟨ms, owns_of h1 fun k e => hk k e (own_cells h1 e), h2⟩
theorem OkP.below (h : OkP w u) (hb : Below w.heap.size w w') : OkP w' u := h.of fun k e ⟨cur, fz, hk⟩ => hb.block k (blk_lt hk)
theorem PoR.below (h : PoR B w v xs) (hb : Below w.heap.size w w') : PoR B w' v xs :=
  ⟨owns_of h.row fun k e => hb.block k (own_lt h.row e), fun y hy => (h.ok y hy).below hb, h.new⟩
theorem PoR.nil (w : World) : PoR B w (.slice none 0 0) [] := ⟨World.ownsRow_nil _ _ _ _, fun y hy => by simp at hy, fun k e => by cases e⟩
theorem PoR.grow {v' : Value} (h : PoR B w v xs) (hy : ∀ y ∈ ys, OkP w y.1) (hB : B ≤ w.heap.size) (hr : w'.ownsRow 0 63 2 v' (xs ++ ys).length (ptC xs ++ ptC ys)) (hg : w.grownBy w' v.ownBlock) (hat : v'.ownBlock = v.ownBlock ∨ v'.ownBlock = some w.heap.size) : PoR B w' v' (xs ++ ys) := by
  have keep : ∀ u, OkP w u → OkP w' u := fun u hu => hu.of fun k e ⟨cur, fz, hk⟩ => hg.block k (blk_lt hk) fun e' => by
    obtain ⟨cur', fz', hk'⟩ := own_cells h.row e'.symm
    rw [hk] at hk'
    cases hk'
  refine ⟨by rw [ptC_app]; exact hr, fun y hm => ?_, fun k e => ?_⟩
  · rcases List.mem_append.1 hm with hm | hm
    · exact keep _ (h.ok y hm)
    · exact keep _ (hy y hm)
  · rcases hat with hat | hat
    · exact h.new k (hat ▸ e)
    · rw [hat] at e
      cases e
      exact hB
theorem info63 : (Tryz.prog.info? 63).map (fun i => (i.zero, i.size, i.bytes)) = some (some (.agg #[.slice none 0 0, .bool false]), 2, 32) := by kernel_rfl
theorem run_appP {ai : Option Addr} {m cap : Nat} (h : PoR B w v xs) (h2 : PoR B w (.slice ai m cap) ys) (hl : xs.length + ys.length ≤ 1000000000000) (hB : B ≤ w.heap.size) :
    ∃ va vn vc w', (Builtin.append_ #[30, 30] 30 #[v, .slice ai m cap]).run Tryz.prog w = .ok (.slice va vn vc) w' ∧ PoR B w' (.slice va vn vc) (xs ++ ys) ∧ w.grownBy w' v.ownBlock ∧ ((Value.slice va vn vc).ownBlock = v.ownBlock ∨ (Value.slice va vn vc).ownBlock = some w.heap.size) := by
  obtain ⟨i0, hi, hz0, hz1, hz2⟩ := info_parts info63
  have hm : m = ys.length := by
    rcases h2.row.2 with ⟨e, h0⟩ | ⟨_, _, _, e, _⟩
    · cases e; omega
    · cases e; rfl
  subst hm
  cases ai with
  | none =>
    have h0 : ys = [] := by
      rcases h2.row.2 with ⟨e, h0⟩ | ⟨_, _, _, e, _⟩
      · exact List.eq_nil_of_length_eq_zero h0
      · cases e
    subst h0
    have hown := h.row
    obtain ⟨va, vn, vc, rfl⟩ := own_shape hown
    refine ⟨va, vn, vc, w, ?_, by simpa using h, ⟨rfl, rfl, rfl, Nat.le_refl _, fun _ _ _ => rfl⟩, Or.inl rfl⟩
    rcases hown.2 with ⟨e1, e2⟩ | ⟨g, cap', cur, e1, _, _, hnc, _⟩
    · cases e1
      simp [Builtin.append_, run_underlying Tryz.underlying30, sizeOf, typeInfo, hi, Builtin.lenOf, Builtin.firstCells]
    · cases e1
      simp [Builtin.append_, run_underlying Tryz.underlying30, sizeOf, typeInfo, hi, Builtin.lenOf, Builtin.firstCells, hnc, storeCells]
  | some ad =>
    obtain ⟨g, off, sp⟩ := ad
    have hsh : off = 0 ∧ sp = none := by
      rcases h2.row.2 with ⟨e, h0⟩ | ⟨_, _, _, e, _⟩
      · cases e
      · cases e; exact ⟨rfl, rfl⟩
    obtain ⟨rfl, rfl⟩ := hsh
    have hcell : ∀ j u, (ptC ys)[j]? = some u → w.cell? ((⟨g, 0, none⟩ : Addr).add j) = some u := h2.row.cells (g := g) rfl
    have h1c : ∀ u ∈ ptC ys, u.oneCell' = true := by
      intro u hu
      unfold ptC at hu
      obtain ⟨y, hy, hu⟩ := List.mem_flatMap.1 hu
      obtain ⟨ms, hms, -⟩ := h2.ok y hy
      obtain ⟨a, n, c, e⟩ := own_shape hms
      rw [e] at hu
      simp only [List.mem_cons, List.not_mem_nil, or_false] at hu
      rcases hu with rfl | rfl <;> rfl
    obtain ⟨v', w', q, q1, q2, _, q4⟩ := run_append_own_at (P := Tryz.prog) w 0 30 30 63 i0 _ 2 32 Tryz.underlying30 hi hz0 hz1 hz2 rfl (by decide) v xs.length (ptC xs) h.row ⟨g, 0, none⟩ ys.length cap (ptC ys) (by rw [ptC_len]) hcell h1c (by unfold maxLen; omega) (by omega) (Nat.zero_le _)
    obtain ⟨va, vn, vc, rfl⟩ := own_shape q1
    exact ⟨va, vn, vc, w', q, h.grow h2.ok hB (by rw [List.length_append]; exact q1) q2 q4, q2, q4⟩
end Go.Proofs.YtoahlnmhjinneaaGreatDoor

set_option linter.unusedSimpArgs false
set_option linter.unusedVariables false
namespace Go.Proofs.YtoahlnmhjinneaaGreatDoor
open Go.RowKit Go.Maps Go.Lib
variable {w w' w1 W wr : World} {v u : Value} {ms : List Mk} {i B : Nat} {xs ys : List (Value × Bool)}
theorem OkP.written {a : Option Addr} {n c : Nat} (b : Bool) (h : OkP w (.slice a n c)) : Calls Tryz.prog 38 #[.agg #[.slice a n c, .bool b]] w fun e w' => (∃ T : ByteArray, e = .returned (.string T)) ∧ Below w.heap.size w w' := by
  obtain ⟨ms, h1, h2, h3⟩ := h
  refine (writtenR_ok b (BaR.of_own h1 h2) h3).mono ?_
  rintro e w' ⟨⟨T, e1, -⟩, hb⟩
  exact ⟨⟨T, e1⟩, hb⟩
theorem PoR.at {ai : Option Addr} {n cap : Nat} (h : PoR B w (.slice ai n cap) xs) (hi : i < xs.length) : ∃ g a m c b, ai = some ⟨g, 0, none⟩ ∧ w.cell? ⟨g, i * 2, none⟩ = some (.slice a m c) ∧ w.cell? ⟨g, i * 2 + 1, none⟩ = some (.bool b) ∧ OkP w (.slice a m c) := by
  have hx : xs[i]? = some xs[i] := List.getElem?_eq_getElem hi
  obtain ⟨h1, h2⟩ := ptC_at xs i _ hx
  have hok := h.ok _ (List.getElem_mem hi)
  generalize xs[i] = y at *
  obtain ⟨ms, hms, _⟩ := id hok
  obtain ⟨a, m, c, e⟩ := own_shape hms
  rw [e] at h1 hok
  rcases h.row.2 with ⟨e', h0⟩ | ⟨g, cap', cur, e', _⟩
  · omega
  · cases e'
    have hpl := ptC_len xs
    exact ⟨g, a, m, c, y.2, rfl, (h.row.cellAt (i * 2) (by omega)).trans h1, (h.row.cellAt (i * 2 + 1) (by omega)).trans h2, hok⟩
theorem PoR.len {ai : Option Addr} {n cap : Nat} (h : PoR B w (.slice ai n cap) xs) : n = xs.length := by
  rcases h.row.2 with ⟨e, h0⟩ | ⟨_, _, _, e, _⟩
  · cases e; omega
  · cases e; rfl
theorem PoR.one {b : Bool} (hu : OkP w u) (hB : B ≤ w.heap.size) : PoR B (w.alloc (.cells #[u, .bool b] 63)) (.slice (some ⟨w.heap.size, 0, none⟩) 1 1) [(u, b)] := by
  refine ⟨⟨rfl, Or.inr ⟨w.heap.size, 1, _, rfl, Nat.zero_le _, Below_new w _, Nat.le_refl _, by unfold maxLen; omega, rfl, rfl⟩⟩, fun y hy => ?_, fun k e => by cases e; exact hB⟩
  rw [List.mem_singleton] at hy
  subst hy
  exact hu.below ((Below.refl w.heap.size w).alloc (Nat.le_refl _) _)
def AddP (B : Nat) (xs : List (Value × Bool)) (v : Value) (w : World) (e : Ending) (w' : World) : Prop := ∃ a n c ys, e = .returned (.slice a n c) ∧ PoR B w' (.slice a n c) ys ∧ ys.length ≤ xs.length + 1 ∧ Fr (fun k => v.ownBlock = some k) w w' ∧ ∀ k, (Value.slice a n c).ownBlock = some k → v.ownBlock = some k ∨ w.heap.size ≤ k
set_option maxHeartbeats 8000000 in
set_option maxRecDepth 100000 in
theorem addR_ok {a : Option Addr} {n c : Nat} (b : Bool) (h : PoR B w v xs) (hu : OkP w (.slice a n c)) (hB : B ≤ w.heap.size) (hl : xs.length + 1 ≤ 1000000000000) : Calls Tryz.prog 24 #[v, .agg #[.slice a n c, .bool b]] w (AddP B xs v w) := by
  obtain ⟨ai, m, cap, rfl⟩ := own_shape h.row
  obtain rfl := h.len
  have hb0 := (Below.refl w.heap.size w).alloc (Nat.le_refl _) (.cells #[.slice a n c, .bool b] 63)
  have hB0 := Below_new w (.cells #[.slice a n c, .bool b] 63)
  have k0 : (w.alloc (.cells #[.slice a n c, .bool b] 63)).cell? ⟨w.heap.size, 0, none⟩ = some (.slice a n c) := cell_of hB0 rfl
  have k1 : (w.alloc (.cells #[.slice a n c, .bool b] 63)).cell? ⟨w.heap.size, 1, none⟩ = some (.bool b) := cell_of hB0 rfl
  have HU := hide ((hu.below hb0).written b)
  have HR : Hid (∀ i wr, i < xs.length → Below (w.alloc (.cells #[.slice a n c, .bool b] 63)).heap.size (w.alloc (.cells #[.slice a n c, .bool b] 63)) wr → ∃ g a' m' c' b', ai = some ⟨g, 0, none⟩ ∧ wr.cell? ⟨g, i * 2, none⟩ = some (.slice a' m' c') ∧ wr.cell? ⟨g, i * 2 + 1, none⟩ = some (.bool b') ∧ Hid (Calls Tryz.prog 38 #[.agg #[.slice a' m' c', .bool b']] wr fun e w' => (∃ T : ByteArray, e = .returned (.string T)) ∧ Below (w.alloc (.cells #[.slice a n c, .bool b] 63)).heap.size (w.alloc (.cells #[.slice a n c, .bool b] 63)) w')) := fun i wr hi hb => by
    obtain ⟨g, a', m', c', b', e, q0, q1, q2⟩ := ((h.below hb0).below hb).at hi
    refine ⟨g, a', m', c', b', e, q0, q1, hide ((q2.written b').mono ?_)⟩
    rintro e w' ⟨h1, h2⟩
    exact ⟨h1, bon hb h2⟩
  have HE : Hid (∀ wr, Below (w.alloc (.cells #[.slice a n c, .bool b] 63)).heap.size (w.alloc (.cells #[.slice a n c, .bool b] 63)) wr → AddP B xs (.slice ai xs.length cap) w (.returned (.slice ai xs.length cap)) wr) := fun wr hb => ⟨_, _, _, xs, rfl, (h.below hb0).below hb, by omega, Fr.below (bon hb0 hb), fun k e => Or.inl e⟩
  have HF : Hid (∀ wr, Below (w.alloc (.cells #[.slice a n c, .bool b] 63)).heap.size (w.alloc (.cells #[.slice a n c, .bool b] 63)) wr → (wr.cell? ⟨w.heap.size, 0, none⟩ = some (.slice a n c) ∧ wr.cell? ⟨w.heap.size, 1, none⟩ = some (.bool b)) ∧ ∃ va vn vc w', (Builtin.append_ #[30, 30] 30 #[.slice ai xs.length cap, .slice (some ⟨wr.heap.size, 0, none⟩) 1 1]).run Tryz.prog (wr.alloc (.cells #[.slice a n c, .bool b] 63)) = .ok (.slice va vn vc) w' ∧ Hid (AddP B xs (.slice ai xs.length cap) w (.returned (.slice va vn vc)) w')) := fun wr hb => by
    have hk := hb.block w.heap.size (by simp)
    refine ⟨⟨(World.cell?_of_block hk).trans k0, (World.cell?_of_block hk).trans k1⟩, ?_⟩
    have hb2 := bon hb0 hb
    have hb3 := (Below.refl wr.heap.size wr).alloc (Nat.le_refl _) (.cells #[.slice a n c, .bool b] 63)
    have hBr : B ≤ wr.heap.size := Nat.le_trans hB hb2.size
    obtain ⟨va, vn, vc, w', q, q1, q2, q3⟩ := run_appP ((h.below hb2).below hb3) (PoR.one (b := b) (hu.below hb2) hBr) (by simpa using hl) (Nat.le_trans hBr hb3.size)
    refine ⟨va, vn, vc, w', q, hide ⟨va, vn, vc, _, rfl, q1, by simp, ?_, fun k e => ?_⟩⟩
    rotate_left
    · rcases q3 with q3 | q3
      · exact Or.inl (q3 ▸ e)
      · rw [q3] at e
        cases e
        exact Or.inr (Nat.le_trans hb2.size hb3.size)
    exact ⟨q2.os.trans (bon hb2 hb3).os, q2.tape.trans (bon hb2 hb3).tape, q2.output.trans (bon hb2 hb3).output, Nat.le_trans (bon hb2 hb3).size q2.size, fun k hk hf => (q2.block k (Nat.lt_of_lt_of_le hk (bon hb2 hb3).size) (fun e => hf e.symm)).trans ((bon hb2 hb3).block k hk)⟩
  clear h hu hb0 hB0
  generalize hPP : AddP B xs (.slice ai xs.length cap) w = PP at *
  clear hPP
  generalize xs.length = len at *
  generalize hW1 : w.alloc (.cells #[.slice a n c, .bool b] 63) = W1 at *
  go_enter Tryz.func24, Tryz.ntmps24
  go_wp2_with (go_at_call 38; refine HU.out.mono ?_; rintro e w5 ⟨⟨T, rfl⟩, hb5⟩; clear HU hW1 k0 k1)
  go_loopw [6] (fun iv wr => ∃ i : Nat, iv = .int .i64 i ∧ i ≤ len ∧ Below W1.heap.size W1 wr) (fun iv _ => len - (RowKit.intOf iv).toNat)
  case atStart => exact ⟨0, rfl, Nat.zero_le _, hb5⟩
  case round =>
    rename World => WO
    obtain ⟨i, rfl, hi, hM⟩ := hrel
    clear hb5
    by_cases hlt : i < len
    · obtain ⟨g, a', m', c', b', rfl, q0, q1, HC⟩ := HR.out i _ hlt hM
      have hdec : decide ((i : Int) < len) = true := by simp; omega
      have hii : (i : Int) < len := by omega
      clear HR HF hM
      go_wp2_with (go_at_call 38; refine HC.out.mono ?_; rintro e w6 ⟨⟨T2, rfl⟩, hb6⟩; obtain ⟨tt, htt⟩ : ∃ tt, (T.toList == T2.toList) = tt := ⟨_, rfl⟩; cases tt; all_goals (have H9 := hide (HE.out _ hb6); clear HE HC))
      all_goals first | exact H9.out | exact ⟨⟨i + 1, by simp, by omega, hb6⟩, by simp only [RowKit.intOf]; omega⟩
    · have hdec : decide ((i : Int) < len) = false := by simp; omega
      obtain ⟨⟨k0, k1⟩, va, vn, vc, w9, hr, H9⟩ := HF.out _ hM
      clear HE HR HF hM
      go_wp2_with (at_builtin; refine Lib.wpList_append_run _ rfl _ _ _ _ rfl _ _ rfl rfl _ _ hr ?_)
      first | exact H9.out | (go_ret; exact H9.out)
end Go.Proofs.YtoahlnmhjinneaaGreatDoor

set_option linter.unusedSimpArgs false
set_option linter.unusedVariables false
namespace Go.Proofs.YtoahlnmhjinneaaGreatDoor
open Go.RowKit Go.Maps Go.Lib
variable {w w' w1 W wr : World} {v u : Value} {ms : List Mk} {i B : Nat} {xs ys : List (Value × Bool)} {A : Nat → Prop}
theorem slS.mkrR {ai : Option Addr} {n cap : Nat} {s : Stps} (h : slS w A 94 97 (.slice ai n cap) s) {i : Nat} (hi : i ≤ s.len) : MkR w (.slice ai i cap) ((marksS s).take i) := by
  have hn : n = s.len ∧ s.len ≤ 1000 ∧ s.len ≤ cap := by
    rcases h with ⟨h, e⟩ | ⟨g, c, cur, e, _, _, hn, h0, _⟩
    · cases e; exact ⟨h.symm, by omega, by omega⟩
    · cases e; exact ⟨rfl, hn, h0.2⟩
  refine ⟨ai, cap, by rw [List.length_take, marks_len]; congr; omega, ⟨by rw [List.length_take, marks_len]; omega, by rw [List.length_take, marks_len]; omega⟩, fun j m hm => ?_⟩
  rw [List.getElem?_take] at hm
  split at hm
  · next hj =>
    obtain ⟨x, hx⟩ := s.get_lt j (by omega)
    rw [marks_get s j x hx] at hm
    cases hm
    obtain ⟨g, e, _, ⟨cur, hb⟩, a0, a1, u, a2, hp⟩ := h.at hx
    obtain ⟨pi, pc, rfl, _⟩ := hp.len
    exact ⟨g, pi, _, pc, e, blk_lt hb, a0, a1, a2⟩
  · simp at hm
def cntD : Stps → Nat → Nat
  | .nil, _ => 0
  | .cons _ _ p m, 0 => cntP p + cntS m
  | .cons _ _ _ m, i + 1 => cntD m i
def cnt1 (x : Prd) : Nat := if joinB x.op then cntP x.kids else cntS x.steps + 1
def cntE : Prds → Nat → Nat
  | .nil, _ => 0
  | .cons o k s _ _ m, 0 => (if joinB o then cntP k else cntS s + 1) + cntP m
  | .cons _ _ _ _ _ m, i + 1 => cntE m i
theorem cntD_zero (s : Stps) : cntD s 0 = cntS s := by cases s <;> rfl
theorem cntE_zero (s : Prds) : cntE s 0 = cntP s := by cases s <;> rfl
theorem cntD_get : ∀ (s : Stps) (i : Nat) (x : Stp), s.get i = some x → cntD s i = cntP x.preds + cntD s (i + 1)
  | .nil, i, x, h => by cases i <;> simp [Stps.get] at h
  | .cons d t p m, 0, x, h => by
    simp only [Stps.get, Option.some.injEq] at h
    subst h
    show cntP p + cntS m = cntP p + cntD m 0
    rw [cntD_zero]
  | .cons d t p m, i + 1, x, h => cntD_get m i x (by simpa [Stps.get] using h)
theorem cntE_get : ∀ (s : Prds) (i : Nat) (x : Prd), s.get i = some x → cntE s i = cnt1 x + cntE s (i + 1)
  | .nil, i, x, h => by cases i <;> simp [Prds.get] at h
  | .cons o k s a t m, 0, x, h => by
    simp only [Prds.get, Option.some.injEq] at h
    subst h
    show (if joinB o then cntP k else cntS s + 1) + cntP m = (if joinB o then cntP k else cntS s + 1) + cntE m 0
    rw [cntE_zero]
  | .cons o k s a t m, i + 1, x, h => cntE_get m i x (by simpa [Prds.get] using h)
def PtP (W : World) (N : Nat) (e : Ending) (w' : World) : Prop := ∃ a n c xs, e = .returned (.slice a n c) ∧ PoR W.heap.size w' (.slice a n c) xs ∧ xs.length ≤ N ∧ Below W.heap.size W w'
def AlR (s : Stps) : Prop := ∀ W A ahead va vi vn vc, MkR W va ahead → slS W A 94 97 (.slice vi vn vc) s → (bareT ahead).length + lS s ≤ 1000 → cntS s ≤ 1000000 → Calls Tryz.prog 21 #[va, .slice vi vn vc] W (PtP W (cntS s))
def CdR (x : Prd) : Prop := ∀ W A at_ va ki nk kc si ns sc, MkR W va at_ → (∀ k, va.ownBlock = some k → k < W.heap.size) → slP W A 94 97 (.slice ki nk kc) x.kids → slS W A 94 97 (.slice si ns sc) x.steps → (bareT at_).length + (lP x.kids + lS x.steps) ≤ 1000 → cnt1 x ≤ 1000000 → Calls Tryz.prog 37 #[va, .agg (aP (bs x.op) ki nk kc si ns sc (bs x.attr) (bs x.text))] W (PtP W (cnt1 x))
def MA (W : World) (tot rest : Nat) (v : Value) (wr : World) : Prop := (∃ a n c, v = .slice a n c) ∧ ∃ xs, PoR W.heap.size wr v xs ∧ xs.length + rest ≤ tot ∧ Below W.heap.size W wr
def MB (W : World) (tot rest : Nat) (va : Value) (ms : List Mk) (v : Value) (wr : World) : Prop := MA W tot rest v wr ∧ MkR wr va ms ∧ ∀ k, va.ownBlock = some k → k < wr.heap.size ∧ v.ownBlock ≠ some k
theorem MB.step {tot r1 r2 : Nat} {va : Value} {y : Prd} {ki si : Option Addr} {nk kc ns sc : Nat} (hy : CdR y) (ht : tot ≤ 1000000) (h12 : r1 = cnt1 y + r2) (M : MB W tot r1 va ms v wr) (hk : slP W A 94 97 (.slice ki nk kc) y.kids) (hs : slS W A 94 97 (.slice si ns sc) y.steps) (hl : (bareT ms).length + (lP y.kids + lS y.steps) ≤ 1000) :
    Calls Tryz.prog 37 #[va, .agg (aP (bs y.op) ki nk kc si ns sc (bs y.attr) (bs y.text))] wr fun e w1 => ∃ a n c, e = .returned (.slice a n c) ∧ Hid (∃ a2 n2 c2 w2, (Builtin.append_ #[30, 30] 30 #[v, .slice a n c]).run Tryz.prog w1 = .ok (.slice a2 n2 c2) w2 ∧ Hid (MB W tot r2 va ms (.slice a2 n2 c2) w2)) := by
  obtain ⟨⟨-, xs, m1, m2, m3⟩, m4, m5⟩ := M
  have mv : Move A A W wr := fun b hb hl => ⟨hb, m3.block b hl⟩
  refine (hy wr A ms va ki nk kc si ns sc m4 (fun k e => (m5 k e).1) (hk.move mv) (hs.move mv) hl (by omega)).mono ?_
  rintro e w1 ⟨a, n, c, ys, rfl, q1, q2, q3⟩
  refine ⟨a, n, c, rfl, hide ?_⟩
  have hsz : W.heap.size ≤ w1.heap.size := Nat.le_trans m3.size q3.size
  have q1' : PoR W.heap.size w1 (.slice a n c) ys := ⟨q1.row, q1.ok, fun k e => Nat.le_trans m3.size (q1.new k e)⟩
  obtain ⟨va', vn', vc', w2, r, p1, p2, p3⟩ := run_appP (m1.below q3) q1' (by omega) hsz
  refine ⟨va', vn', vc', w2, r, hide ⟨⟨⟨_, _, _, rfl⟩, _, p1, by rw [List.length_append]; omega, ?_⟩, ?_, fun k e => ?_⟩⟩
  · exact (m3.trans (below_less q3 m3.size)).grown p2 hsz fun k e => m1.new k e
  · have hfr : Fr (fun k => v.ownBlock = some k) w1 w2 := ⟨p2.os, p2.tape, p2.output, p2.size, fun k hk hf => p2.block k hk (fun e => hf e.symm)⟩
    exact (m4.below (B := 0) q3).fr hfr fun k e hF => (m5 k e).2 hF
  · obtain ⟨h1, h2⟩ := m5 k e
    have h3 := q3.size
    have h4 := p2.size
    refine ⟨by omega, fun e' => ?_⟩
    rcases p3 with p3 | p3
    · exact h2 (p3 ▸ e')
    · rw [p3] at e'
      cases e'
      omega
end Go.Proofs.YtoahlnmhjinneaaGreatDoor

set_option linter.unusedSimpArgs false
set_option linter.unusedVariables false
namespace Go.Proofs.YtoahlnmhjinneaaGreatDoor
open Go.RowKit Go.Maps Go.Lib
variable {w w' w1 W wr : World} {v u : Value} {ms : List Mk} {i B : Nat} {xs ys : List (Value × Bool)} {A : Nat → Prop}
theorem cntE_end : ∀ p : Prds, cntE p p.len = 0
  | .nil => rfl
  | .cons o k s a t m => by
    have := cntE_end m
    simpa [Prds.len, cntE] using this
theorem alongR_round {tot : Nat} {s : Stps} {ahead : List Mk} {va : Value} {vi : Option Addr} {vn vc : Nat} (hc : ∀ i x, s.get i = some x → ∀ j y, x.preds.get j = some y → CdR y) (hm : MkR W va ahead) (hs : slS W A 94 97 (.slice vi vn vc) s) (hl : (bareT ahead).length + lS s ≤ 1000) (ht : tot ≤ 1000000) (hi : i < s.len) (M : MA W tot (cntD s i) v wr) :
    ∃ g pi pn pc, ∃ RR : Nat → Value → Value → World → Prop, vi = some ⟨g, 0, none⟩ ∧ pn ≤ 1000 ∧
      Hid (Calls Tryz.prog 36 #[va, .slice vi (i + 1) vc] wr fun e w1 => ∃ a n c, e = .returned (.slice a n c) ∧ Hid (RR 0 (.slice a n c) v w1)) ∧
      Hid (∀ k at_ v wr, RR k at_ v wr → (∃ a n c, v = .slice a n c) ∧ wr.cell? ⟨g, i * 3 + 2, none⟩ = some (.slice pi pn pc)) ∧
      Hid (∀ k at_ v wr, k < pn → RR k at_ v wr → ∃ g' O ki nk kc si ns sc A X, pi = some ⟨g', 0, none⟩ ∧ (wr.cell? ⟨g', k * 5, none⟩ = some (.string O) ∧ wr.cell? ⟨g', k * 5 + 1, none⟩ = some (.slice ki nk kc) ∧ wr.cell? ⟨g', k * 5 + 2, none⟩ = some (.slice si ns sc) ∧ wr.cell? ⟨g', k * 5 + 3, none⟩ = some (.string A) ∧ wr.cell? ⟨g', k * 5 + 4, none⟩ = some (.string X)) ∧
        Hid (Calls Tryz.prog 37 #[at_, .agg (aP O ki nk kc si ns sc A X)] wr fun e w1 => ∃ a n c, e = .returned (.slice a n c) ∧ Hid (∃ a2 n2 c2 w2, (Builtin.append_ #[30, 30] 30 #[v, .slice a n c]).run Tryz.prog w1 = .ok (.slice a2 n2 c2) w2 ∧ Hid (RR (k + 1) at_ (.slice a2 n2 c2) w2)))) ∧
      Hid (∀ at_ v wr, RR pn at_ v wr → MA W tot (cntD s (i + 1)) v wr) := by
  obtain ⟨x, hx⟩ := s.get_lt i hi
  obtain ⟨g, e1, hgF, ⟨cur, hgb⟩, a0, a1, u, a2, hp⟩ := hs.at hx
  obtain ⟨pi, pc, rfl, hpn⟩ := hp.len
  have hlx := lS_get s i x hx
  have hba := bareT_app ahead ((marksS s).take (i + 1))
  have hbl : ((marksS s).take (i + 1)).length ≤ 1000 := Nat.le_trans (bareT_len _) (by omega)
  have hal : ahead.length ≤ 1000 := Nat.le_trans (bareT_len _) (by omega)
  have hcD := cntD_get s i x hx
  refine ⟨g, pi, x.preds.len, pc, fun k at_ v wr => MB W tot (cntE x.preds k + cntD s (i + 1)) at_ (ahead ++ (marksS s).take (i + 1)) v wr, e1, hpn, hide ?_, hide ?_, hide ?_, hide ?_⟩
  · obtain ⟨m0, xs, m1, m2, m3⟩ := M
    have mv : Move A A W wr := fun b hb hl => ⟨hb, m3.block b hl⟩
    refine (joinedR_ok (hm.below (B := 0) m3) ((hs.move mv).mkrR (i := i + 1) (by omega)) (by omega)).mono ?_
    rintro e w1 ⟨a, n, c, rfl, q1, q2, q3⟩
    refine ⟨a, n, c, rfl, hide ⟨⟨m0, xs, m1.below q2, by rw [cntE_zero]; omega, bon m3 q2⟩, q1, fun k e => ?_⟩⟩
    have h1 := q3 k e
    obtain ⟨ai', cap', e', hn', hr'⟩ := q1
    cases e'
    refine ⟨?_, fun e2 => ?_⟩
    · have h0 : 0 < (ahead ++ (marksS s).take (i + 1)).length := by rw [List.length_append, List.length_take, marks_len]; omega
      obtain ⟨g', _, _, _, e2, hg', _⟩ := hr' 0 _ (List.getElem?_eq_getElem h0)
      rw [e2] at e
      cases e
      exact hg'
    · have := own_lt m1.row e2
      omega
  · rintro k at_ v' wr' ⟨⟨m0, xs, m1, m2, m3⟩, -, -⟩
    exact ⟨m0, (World.cell?_of_block (m3.block g (blk_lt hgb))).trans a2⟩
  · intro k at_ v' wr' hk M'
    obtain ⟨y, hy⟩ := x.preds.get_lt k hk
    have hcE := cntE_get x.preds k y hy
    have hlp := lP_get x.preds k y hy
    obtain ⟨g', e2, _, ⟨cur', hgb'⟩, b0, ⟨vk, b1, sk⟩, ⟨vs, b2, ss⟩, b3, b4⟩ := hp.at hy
    obtain ⟨ki, kc, rfl, _⟩ := sk.len
    obtain ⟨si, sc, rfl, _⟩ := ss.len
    have up : ∀ j u, W.cell? ⟨g', j, none⟩ = some u → wr'.cell? ⟨g', j, none⟩ = some u := fun j u hj => by
      obtain ⟨⟨-, _, _, _, m3⟩, -, -⟩ := M'
      exact (World.cell?_of_block (m3.block g' (blk_lt hgb'))).trans hj
    refine ⟨g', _, ki, _, kc, si, _, sc, _, _, e2, ⟨up _ _ b0, up _ _ b1, up _ _ b2, up _ _ b3, up _ _ b4⟩, hide ?_⟩
    exact MB.step (hc i x hx k y hy) ht (by omega) M' sk ss (by omega)
  · rintro at_ v' wr' ⟨M', -, -⟩
    rw [cntE_end, Nat.zero_add] at M'
    exact M'
set_option maxHeartbeats 16000000 in
set_option maxRecDepth 100000 in
theorem alongR_ok (s : Stps) (hc : ∀ i x, s.get i = some x → ∀ j y, x.preds.get j = some y → CdR y) : AlR s := by
  intro W A ahead va vi vn vc hm hs hl hcnt
  have hvn : vn = s.len ∧ s.len ≤ 1000 ∧ s.len ≤ vc := by
    rcases hs with ⟨h, e⟩ | ⟨g, c, cur, e, _, _, hn, h0, _⟩
    · cases e; exact ⟨h.symm, by omega, by omega⟩
    · cases e; exact ⟨rfl, hn, h0.2⟩
  obtain ⟨hvn, hv1, hv2⟩ := hvn
  obtain ⟨RN, hRN⟩ : ∃ RN : Nat → Value → World → Prop, ∀ i v wr, RN i v wr = MA W (cntS s) (cntD s i) v wr := ⟨_, fun _ _ _ => rfl⟩
  have HR := hide (fun i v wr (hi : i < s.len) M => alongR_round (v := v) (wr := wr) (i := i) hc hm hs hl hcnt hi M)
  have M0 : Hid (RN 0 (.slice none 0 0) W) := hide (by rw [hRN]; exact ⟨⟨_, _, _, rfl⟩, [], PoR.nil W, by rw [cntD_zero]; simp, Below.refl _ _⟩)
  have HE : Hid (∀ a n c wr, RN s.len (.slice a n c) wr → PtP W (cntS s) (.returned (.slice a n c)) wr) := hide (fun a n c wr M => by
    rw [hRN] at M
    obtain ⟨-, xs, m1, m2, m3⟩ := M
    exact ⟨a, n, c, xs, rfl, m1, by omega, m3⟩)
  have HSH : Hid (∀ i v wr, RN i v wr → ∃ a n c, v = .slice a n c) := hide (fun i v wr M => by rw [hRN] at M; exact M.1)
  simp only [← hRN] at HR
  obtain ⟨ai, cap, rfl, -⟩ := hm
  clear hRN hc hs hl hcnt
  rw [← hvn] at HR HE hv1 hv2
  clear hvn
  generalize ahead.length = na at *
  generalize PtP W (cntS s) = PP at *
  go_enter Tryz.func21, Tryz.ntmps21
  go_wp2_with fail
  go_loopw [5, 6] (fun ov iv wr => ∃ i : Nat, iv = .int .i64 i ∧ i ≤ vn ∧ RN i ov wr) (fun _ iv _ => vn - (RowKit.intOf iv).toNat)
  case atStart => exact ⟨0, rfl, Nat.zero_le _, M0.out⟩
  case round =>
    rename World => WO
    obtain ⟨i, rfl, hi, hM⟩ := hrel
    obtain ⟨o1, o2, o3, rfl⟩ := HSH.out _ _ _ hM
    clear M0
    by_cases hlt : i < vn
    · obtain ⟨g, pi, pn, pc, RR, rfl, hpn, HJ, HC, HS, HX⟩ := HR.out i _ _ hlt hM
      have hdec : decide ((i : Int) < vn) = true := by simp; omega
      have hii : (i : Int) < vn := by omega
      have hwr : IntKind.i64.wrap ((i : Int) + 1) = (i : Int) + 1 := by rw [IntKind.wrap_i64]; omega
      have hi1 : (i : Int) + 1 ≤ (vc : Int) := by omega
      have hi0 : (0 : Int) ≤ (i : Int) + 1 := by omega
      clear HR HE HSH hM
      go_wp2_with (go_at_call 36; refine HJ.out.mono ?_; rintro e w5 ⟨a5, n5, c5, rfl, H5⟩; clear HJ)
      go_loopw [5, 8] (fun ov kv wr => ∃ k : Nat, kv = .int .i64 k ∧ k ≤ pn ∧ RR k (.slice a5 n5 c5) ov wr) (fun _ kv _ => pn - (RowKit.intOf kv).toNat)
      case atStart => exact ⟨0, rfl, Nat.zero_le _, H5.out⟩
      case round =>
        rename World => WP
        obtain ⟨k, rfl, hk, hM⟩ := hrel
        obtain ⟨⟨o4, o5, o6, rfl⟩, cc⟩ := HC.out _ _ _ _ hM
        clear H5
        by_cases hlk : k < pn
        · obtain ⟨g', O, ki, nk, kc, si, ns, sc, A2, X2, rfl, ⟨b0, b1, b2, b3, b4⟩, HD⟩ := HS.out _ _ _ _ hlk hM
          have hdk : decide ((k : Int) < pn) = true := by simp; omega
          have hkk : (k : Int) < pn := by omega
          clear HS HX HC hM
          go_wp2_with (first
            | (go_at_call 37; refine HD.out.mono ?_; rintro e w6 ⟨a6, n6, c6, rfl, h6⟩; obtain ⟨a7, n7, c7, w7, hr, H7⟩ := h6.out; clear HD h6)
            | (at_builtin; refine Lib.wpList_append_run _ rfl _ _ _ _ rfl _ _ rfl rfl _ _ hr ?_))
          exact ⟨⟨k + 1, by simp, by omega, H7.out⟩, by simp only [RowKit.intOf]; omega⟩
        · have hdk : decide ((k : Int) < pn) = false := by simp; omega
          have hk2 : k = pn := by omega
          rw [hk2] at hM
          have H9 := hide (HX.out _ _ _ hM)
          clear HS HX HC hM
          go_wp2
          exact ⟨⟨i + 1, by simp, by omega, H9.out⟩, by simp only [RowKit.intOf]; omega⟩
    · have hdec : decide ((i : Int) < vn) = false := by simp; omega
      have hi2 : i = vn := by omega
      rw [hi2] at hM
      have H9 := hide (HE.out _ _ _ _ hM)
      clear HE HR HSH hM
      go_wp2
      first | exact H9.out | (go_ret; exact H9.out)
end Go.Proofs.YtoahlnmhjinneaaGreatDoor
