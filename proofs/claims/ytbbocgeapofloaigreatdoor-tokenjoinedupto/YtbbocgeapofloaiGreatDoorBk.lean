import Derived.Deep.RegionHeld3
import Derived.Laws.Concat
import Derived.Test.YtbbocgeapofloaiGreatDoorAp
import Derived.Test.YtbbocgeapofloaiGreatDoorBj
import Derived.Test.YtbbocgeapofloaiGreatDoorAz
set_option linter.unusedVariables false
set_option linter.unusedSimpArgs false
set_option linter.unusedSimpArgs false
set_option linter.unusedVariables false
namespace Go.Proofs.YtbbocgeapofloaiGreatDoor
open Go.RowKit Go.Maps Go.Lib

variable {F F' G A B : Nat → Prop} {R : Nat} {w w' w'' wr w1 : World} {a : Addr} {v v1 v2 lv : Value} {N n : Nat} {l l1 l2 : List Tok}

theorem Ans.past (h : Ans A w v l) (b : Below w.heap.size w w') : Ans A w' v l := h.old (fun k hk _ => b.block k hk) (fun _ _ x => x)

/-- A struct in a box of its own. -/
theorem box_cells (wr W : World) (a0 a1 a2 a3 a4 : Value) (t : TypeId) (b : Below (wr.alloc (.cells #[a0, a1, a2, a3, a4] t)).heap.size (wr.alloc (.cells #[a0, a1, a2, a3, a4] t)) W) :
    (W.cell? ⟨wr.heap.size, 0, none⟩ = some a0 ∧ W.cell? ⟨wr.heap.size, 1, none⟩ = some a1 ∧ W.cell? ⟨wr.heap.size, 2, none⟩ = some a2 ∧ W.cell? ⟨wr.heap.size, 3, none⟩ = some a3 ∧ W.cell? ⟨wr.heap.size, 4, none⟩ = some a4) ∧ Below wr.heap.size wr W := by
  have hx : W.heap[wr.heap.size]? = some (.cells #[a0, a1, a2, a3, a4] t) := (b.block _ (by simp)).trans (Below_new _ _)
  exact ⟨⟨cell_of hx rfl, cell_of hx rfl, cell_of hx rfl, cell_of hx rfl, cell_of hx rfl⟩, ((Below.refl _ _).alloc (Nat.le_refl _) _).trans (below_less b (by simp))⟩

/-- The k-th token of one answer and the j-th of another, the same but for their places. -/
structure Two (w5 : World) (lv av : Value) (n m k j : Nat) (q q' : Int) : Prop where
  ex : ∃ g cg h ch ia na ca ib nb cb kd, ∃ nm tx : ByteArray, lv = .slice (some ⟨g, 0, none⟩) n cg ∧ av = .slice (some ⟨h, 0, none⟩) m ch ∧
    (∀ W, Below w5.heap.size w5 W → (W.cell? ⟨g, k * 5, none⟩ = some (.int .i64 kd) ∧ W.cell? ⟨g, k * 5 + 1, none⟩ = some (.string nm) ∧ W.cell? ⟨g, k * 5 + 2, none⟩ = some (.slice ia na ca) ∧ W.cell? ⟨g, k * 5 + 3, none⟩ = some (.string tx) ∧ W.cell? ⟨g, k * 5 + 4, none⟩ = some (.int .i64 q)) ∧
      (W.cell? ⟨h, j * 5, none⟩ = some (.int .i64 kd) ∧ W.cell? ⟨h, j * 5 + 1, none⟩ = some (.string nm) ∧ W.cell? ⟨h, j * 5 + 2, none⟩ = some (.slice ib nb cb) ∧ W.cell? ⟨h, j * 5 + 3, none⟩ = some (.string tx) ∧ W.cell? ⟨h, j * 5 + 4, none⟩ = some (.int .i64 q'))) ∧
    (∀ W, Below w5.heap.size w5 W → Calls Tryz.prog 8 #[.agg #[.int .i64 kd, .string nm, .slice ia na ca, .string tx, .int .i64 q], .agg #[.int .i64 kd, .string nm, .slice ib nb cb, .string tx, .int .i64 q']] W fun e w' => e = .returned (.bool true) ∧ Below W.heap.size W w')

theorem two_of {m : List Tok} (h1 : Ans A w lv l) (h2 : Ans B w v m) (k j : Nat) (hk : k < l.length) (hj : j < m.length) (q1 : (m[j]).kind = (l[k]).kind) (q2 : (m[j]).name = (l[k]).name) (q3 : (m[j]).text = (l[k]).text) (q4 : (m[j]).attrs = (l[k]).attrs) :
    Two w lv v l.length m.length k j (l[k]).at_ (m[j]).at_ := by
  obtain ⟨g, cg, va, rfl, o1, x0, x1, x2, x3, x4, _⟩ := h1.at k hk
  obtain ⟨h, ch, vb, rfl, o2, y0, y1, y2, y3, y4, _⟩ := h2.at j hj
  have lt1 : g < w.heap.size := World.block_lt_of_cell? w _ x0
  have lt2 : h < w.heap.size := World.block_lt_of_cell? w _ y0
  obtain ⟨ia, ca, hva⟩ := slice_len o1
  obtain ⟨ib, cb, hvb⟩ := slice_len o2
  subst hva
  subst hvb
  rw [q1] at y0
  rw [q2] at y1
  rw [q3] at y3
  refine ⟨g, cg, h, ch, ia, _, ca, ib, _, cb, _, _, _, rfl, rfl, fun W bW => ⟨⟨(bW.cell (p := ⟨g, k * 5, none⟩) lt1).trans x0, (bW.cell (p := ⟨g, k * 5 + 1, none⟩) lt1).trans x1, (bW.cell (p := ⟨g, k * 5 + 2, none⟩) lt1).trans x2, (bW.cell (p := ⟨g, k * 5 + 3, none⟩) lt1).trans x3, (bW.cell (p := ⟨g, k * 5 + 4, none⟩) lt1).trans x4⟩, (bW.cell (p := ⟨h, j * 5, none⟩) lt2).trans y0, (bW.cell (p := ⟨h, j * 5 + 1, none⟩) lt2).trans y1, (bW.cell (p := ⟨h, j * 5 + 2, none⟩) lt2).trans y2, (bW.cell (p := ⟨h, j * 5 + 3, none⟩) lt2).trans y3, (bW.cell (p := ⟨h, j * 5 + 4, none⟩) lt2).trans y4⟩, fun W bW => ?_⟩
  have keep : ∀ {vv : Value} {nn : Nat} {xs : List Value}, w.ownsRow 0 48 2 vv nn xs → W.ownsRow 0 48 2 vv nn xs := fun o => owns_of o fun i e => by
    obtain ⟨cur, hc⟩ := owns_blk o e
    exact bW.block i (blk_lt hc)
  have hcall := alike_same (l[k]) (m[j]) _ _ W (keep o1) (keep o2) q1 q2 q3 q4
  unfold tokV at hcall
  rw [q1, q2, q3] at hcall
  exact hcall
end Go.Proofs.YtbbocgeapofloaiGreatDoor
set_option linter.unusedSimpArgs false
set_option linter.unusedVariables false
namespace Go.Proofs.YtbbocgeapofloaiGreatDoor
open Go.RowKit Go.Maps Go.Lib

variable {F F' G A B : Nat → Prop} {R : Nat} {w w' w'' wr w1 : World} {a : Addr} {v v1 v2 lv : Value} {N n : Nat} {l l1 l2 : List Tok}

/-- What a call of All or of the document's All answers. -/
def RefEnd (w : World) (no q : Int) (e : Ending) (w' : World) : Prop := ∃ v, e = .returned (.tuple #[v, .int .i64 no, .int .i64 q]) ∧ Below w.heap.size w w'

theorem last_kind (h : Ans A w v l) (m : Nat) (hl : l.length = m + 1) (kd : Int) (hkd : ∀ hm : m < l.length, (l[m]).kind = kd) :
    ∃ g cg, v = .slice (some ⟨g, 0, none⟩) l.length cg ∧ (∀ W, Below w.heap.size w W → W.cell? ⟨g, m * 5, none⟩ = some (.int .i64 kd)) ∧ (m : Int) + 1 ≤ 9223372036854775807 := by
  obtain ⟨g, cg, va, el, _, x0, _, _, _, _, hmx⟩ := h.at m (by omega)
  rw [hkd] at x0
  have lt1 : g < w.heap.size := World.block_lt_of_cell? w _ x0
  exact ⟨g, cg, el, fun W bW => (bW.cell (p := ⟨g, m * 5, none⟩) lt1).trans x0, by have : maxLen = 9223372036854775807 := rfl; omega⟩

set_option maxHeartbeats 8000000 in
set_option maxRecDepth 100000 in
theorem joined_bad (one two : ByteArray) (w : World) (T1 T2 : List Tok) (n1 n2 q1 q2 : Int)
    (hall1 : ∀ w', Below w.heap.size w w' → Calls Tryz.prog 4 #[.string one] w' (AllEnd w' (T1, n1, q1))) (hall2 : ∀ w', Below w.heap.size w w' → Calls Tryz.prog 4 #[.string two] w' (AllEnd w' (T2, n2, q2)))
    (href1 : ∀ w', Calls Tryz.prog 5 #[.string one] w' (RefEnd w' n1 q1)) (href2 : ∀ w', Calls Tryz.prog 5 #[.string two] w' (RefEnd w' n2 q2))
    (hali : ∀ w', Below w.heap.size w w' → Calls Tryz.prog 7 #[] w' fun e w'' => e = .returned (.bool true) ∧ Below w'.heap.size w' w'') (h1 : n1 ≠ 0) :
    Calls Tryz.prog 3 #[.string one, .string two] w fun e w' => e = .returned (.bool true) ∧ Below w.heap.size w w' := by
  have e0 : (n1 != 0) = true := by simpa using h1
  clear h1
  unfold AllEnd at hall1 hall2
  unfold RefEnd at href1 href2
  have HA1 := hide hall1
  have HA2 := hide hall2
  have HR1 := hide href1
  have HR2 := hide href2
  have HLI := hide hali
  have hnum := num_ok
  clear hall1 hall2 href1 href2 hali
  go_enter Tryz.func3, Tryz.ntmps3
  go_wp2_with fail
  refine (HA1.out _ (Below.refl _ _)).mono ?_
  rintro e w1 ⟨lv, A, rfl, an, b1, _, nil1⟩
  have AN := hide an
  have B1 := hide b1
  have NIL1 := hide nil1
  clear an b1 nil1
  go_wp2_with fail
  refine (HA2.out _ B1.out).mono ?_
  rintro e w2 ⟨lv2, A2, rfl, an2, b2, _, nil2⟩
  have BN2 := hide an2
  have AN2 := hide (AN.out.past b2)
  have B2 := hide (B1.out.trans (below_less b2 B1.out.size))
  have NIL2 := hide nil2
  clear an2 b2 nil2
  go_wp2_with fail
  refine (HR1.out _).mono ?_
  rintro e w3 ⟨rv1, rfl, b3⟩
  have BN3 := hide (BN2.out.past b3)
  have AN3 := hide (AN2.out.past b3)
  have B3 := hide (B2.out.trans (below_less b3 B2.out.size))
  clear b3
  go_wp2_with fail
  refine (HR2.out _).mono ?_
  rintro e w4 ⟨rv2, rfl, b4⟩
  have BN4 := hide (BN3.out.past b4)
  have AN4 := hide (AN3.out.past b4)
  have B4 := hide (B3.out.trans (below_less b4 B3.out.size))
  clear b4
  obtain ⟨bl, cl, el, hm1⟩ := slice_of AN4.out
  subst el
  have HM1 := hide hm1
  clear hm1
  obtain ⟨bl2, cl2, el2, hm2⟩ := slice_of BN4.out
  subst el2
  have HM2 := hide hm2
  clear hm2
  go_wp2_with (first | (go_at_call 6; refine (hnum _ _).mono ?_; rintro e wx ⟨rfl, hwx⟩; have hwy := hwx.symm; clear hwx; subst hwy))
  refine (HLI.out _ B4.out).mono ?_
  rintro e w5 ⟨rfl, b5⟩
  have B5 := hide (B4.out.trans (below_less b5 B4.out.size))
  have AN5 := hide (AN4.out.past b5)
  have BN5 := hide (BN4.out.past b5)
  have B45 := hide b5
  clear b5
  go_wp2
  go_ret
  exact ⟨rfl, B5.out⟩

set_option maxHeartbeats 8000000 in
set_option maxRecDepth 100000 in
theorem joined_text (one two : ByteArray) (w : World) (T1 T2 : List Tok) (n1 n2 q1 q2 : Int)
    (hall1 : ∀ w', Below w.heap.size w w' → Calls Tryz.prog 4 #[.string one] w' (AllEnd w' (T1, n1, q1))) (hall2 : ∀ w', Below w.heap.size w w' → Calls Tryz.prog 4 #[.string two] w' (AllEnd w' (T2, n2, q2)))
    (href1 : ∀ w', Calls Tryz.prog 5 #[.string one] w' (RefEnd w' n1 q1)) (href2 : ∀ w', Calls Tryz.prog 5 #[.string two] w' (RefEnd w' n2 q2))
    (hali : ∀ w', Below w.heap.size w w' → Calls Tryz.prog 7 #[] w' fun e w'' => e = .returned (.bool true) ∧ Below w'.heap.size w' w'') (m : Nat) (kd : Int) (hl : T1.length = m + 1) (hkd : ∀ hm : m < T1.length, (T1[m]).kind = kd) (h3 : (kd == 3) = true) (h1 : n1 = 0) :
    Calls Tryz.prog 3 #[.string one, .string two] w fun e w' => e = .returned (.bool true) ∧ Below w.heap.size w w' := by
  subst h1
  unfold AllEnd at hall1 hall2
  unfold RefEnd at href1 href2
  have HA1 := hide hall1
  have HA2 := hide hall2
  have HR1 := hide href1
  have HR2 := hide href2
  have HLI := hide hali
  have hnum := num_ok
  clear hall1 hall2 href1 href2 hali
  go_enter Tryz.func3, Tryz.ntmps3
  go_wp2_with fail
  refine (HA1.out _ (Below.refl _ _)).mono ?_
  rintro e w1 ⟨lv, A, rfl, an, b1, _, nil1⟩
  have AN := hide an
  have B1 := hide b1
  have NIL1 := hide nil1
  clear an b1 nil1
  go_wp2_with fail
  refine (HA2.out _ B1.out).mono ?_
  rintro e w2 ⟨lv2, A2, rfl, an2, b2, _, nil2⟩
  have BN2 := hide an2
  have AN2 := hide (AN.out.past b2)
  have B2 := hide (B1.out.trans (below_less b2 B1.out.size))
  have NIL2 := hide nil2
  clear an2 b2 nil2
  go_wp2_with fail
  refine (HR1.out _).mono ?_
  rintro e w3 ⟨rv1, rfl, b3⟩
  have BN3 := hide (BN2.out.past b3)
  have AN3 := hide (AN2.out.past b3)
  have B3 := hide (B2.out.trans (below_less b3 B2.out.size))
  clear b3
  go_wp2_with fail
  refine (HR2.out _).mono ?_
  rintro e w4 ⟨rv2, rfl, b4⟩
  have BN4 := hide (BN3.out.past b4)
  have AN4 := hide (AN3.out.past b4)
  have B4 := hide (B3.out.trans (below_less b4 B3.out.size))
  clear b4
  obtain ⟨g, cg, el, hcs, hmi⟩ := last_kind AN4.out m hl kd hkd
  subst el
  have HCS := hide hcs
  have hw64 : wrap64 (m : Int) = m := by unfold wrap64; omega
  have hg0 : decide (0 < T1.length) = true := by simp; omega
  have hwr : IntKind.i64.wrap ((T1.length : Int) - 1) = (m : Int) := by rw [IntKind.wrap_i64]; omega
  have hlt : (m : Int) < (T1.length : Int) := by omega
  have HL := hide hl
  clear hcs hl hkd
  obtain ⟨bl2, cl2, el2, hm2⟩ := slice_of BN4.out
  subst el2
  have HM2 := hide hm2
  clear hm2
  go_wp2_with (first | (go_at_call 6; refine (hnum _ _).mono ?_; rintro e wx ⟨rfl, hwx⟩; have hwy := hwx.symm; clear hwx; subst hwy))
  refine (HLI.out _ B4.out).mono ?_
  rintro e w5 ⟨rfl, b5⟩
  have B5 := hide (B4.out.trans (below_less b5 B4.out.size))
  have AN5 := hide (AN4.out.past b5)
  have BN5 := hide (BN4.out.past b5)
  have B45 := hide b5
  clear b5
  have x0 := HCS.out _ B45.out
  go_wp2_with fail
  go_ret
  exact ⟨rfl, B5.out⟩

set_option maxHeartbeats 8000000 in
set_option maxRecDepth 100000 in
theorem joined_twoE (one two : ByteArray) (w : World) (T1 T2 : List Tok) (n1 n2 q1 q2 : Int)
    (hall1 : ∀ w', Below w.heap.size w w' → Calls Tryz.prog 4 #[.string one] w' (AllEnd w' (T1, n1, q1))) (hall2 : ∀ w', Below w.heap.size w w' → Calls Tryz.prog 4 #[.string two] w' (AllEnd w' (T2, n2, q2)))
    (href1 : ∀ w', Calls Tryz.prog 5 #[.string one] w' (RefEnd w' n1 q1)) (href2 : ∀ w', Calls Tryz.prog 5 #[.string two] w' (RefEnd w' n2 q2))
    (hali : ∀ w', Below w.heap.size w w' → Calls Tryz.prog 7 #[] w' fun e w'' => e = .returned (.bool true) ∧ Below w'.heap.size w' w'') (L : List Tok) (n3 q3 : Int) (hall3 : ∀ w', Below w.heap.size w w' → Calls Tryz.prog 4 #[.string (one ++ two)] w' (AllEnd w' (L, n3, q3)))
    (hadd : ∀ W, (Op.stringOp .add one two).run Tryz.prog W = .ok (.string (one ++ two)) W) (hT : T1 = []) (h1 : n1 = 0) (h2 : n2 ≠ 0) (hn3 : n3 = n2) (hq3 : q3 = q2 + one.size) (hq0 : 0 ≤ q2) (hq1 : q2 + one.size ≤ 4294967296) :
    Calls Tryz.prog 3 #[.string one, .string two] w fun e w' => e = .returned (.bool true) ∧ Below w.heap.size w w' := by
  subst h1
  subst hT
  subst hn3
  subst hq3
  unfold AllEnd at hall3
  have HA3 := hide hall3
  clear hall3
  generalize one ++ two = both at *
  have e0 : (n3 != 0) = true := by simpa using h2
  have e1 : (n3 == 0) = false := by simpa using h2
  have H2 := hide h2
  clear h2
  have hwa : IntKind.i64.wrap (q2 + (one.size : Int)) = q2 + one.size := by rw [IntKind.wrap_i64]; omega
  have hwb : wrap64 (q2 + (one.size : Int)) = q2 + one.size := by unfold wrap64; omega
  have heql := eql_nils
  have HQ := hide (And.intro hq0 hq1)
  clear hq0 hq1
  unfold AllEnd at hall1 hall2
  unfold RefEnd at href1 href2
  have HA1 := hide hall1
  have HA2 := hide hall2
  have HR1 := hide href1
  have HR2 := hide href2
  have HLI := hide hali
  have hnum := num_ok
  clear hall1 hall2 href1 href2 hali
  go_enter Tryz.func3, Tryz.ntmps3
  go_wp2_with fail
  refine (HA1.out _ (Below.refl _ _)).mono ?_
  rintro e w1 ⟨lv, A, rfl, an, b1, _, nil1⟩
  have AN := hide an
  have B1 := hide b1
  have NIL1 := hide nil1
  clear an b1 nil1
  go_wp2_with fail
  refine (HA2.out _ B1.out).mono ?_
  rintro e w2 ⟨lv2, A2, rfl, an2, b2, _, nil2⟩
  have BN2 := hide an2
  have AN2 := hide (AN.out.past b2)
  have B2 := hide (B1.out.trans (below_less b2 B1.out.size))
  have NIL2 := hide nil2
  clear an2 b2 nil2
  go_wp2_with fail
  refine (HR1.out _).mono ?_
  rintro e w3 ⟨rv1, rfl, b3⟩
  have BN3 := hide (BN2.out.past b3)
  have AN3 := hide (AN2.out.past b3)
  have B3 := hide (B2.out.trans (below_less b3 B2.out.size))
  clear b3
  go_wp2_with fail
  refine (HR2.out _).mono ?_
  rintro e w4 ⟨rv2, rfl, b4⟩
  have BN4 := hide (BN3.out.past b4)
  have AN4 := hide (AN3.out.past b4)
  have B4 := hide (B3.out.trans (below_less b4 B3.out.size))
  clear b4
  obtain ⟨bl, cl, el, hm1⟩ := slice_of AN4.out
  simp only [List.length_nil] at el
  subst el
  clear hm1
  obtain ⟨bl2, cl2, el2, hm2⟩ := slice_of BN4.out
  subst el2
  have HM2 := hide hm2
  clear hm2
  go_wp2_with (first | (go_at_call 6; refine (hnum _ _).mono ?_; rintro e wx ⟨rfl, hwx⟩; have hwy := hwx.symm; clear hwx; subst hwy))
  refine (HLI.out _ B4.out).mono ?_
  rintro e w5 ⟨rfl, b5⟩
  have B5 := hide (B4.out.trans (below_less b5 B4.out.size))
  have AN5 := hide (AN4.out.past b5)
  have BN5 := hide (BN4.out.past b5)
  have B45 := hide b5
  clear b5
  go_wp2_with fail
  refine (HA3.out _ B5.out).mono ?_
  rintro e w6 ⟨lv3, A3, rfl, an3, b6, _, nil3⟩
  have B6 := hide (B5.out.trans (below_less b6 B5.out.size))
  have AN6 := hide (AN5.out.past b6)
  have BN6 := hide (BN5.out.past b6)
  have hnl := nil3 H2.out
  unfold nilS at hnl
  subst hnl
  clear b6 an3 nil3
  go_wp2_with (first | (go_at_call 6; refine (hnum _ _).mono ?_; rintro e wx ⟨rfl, hwx⟩; have hwy := hwx.symm; clear hwx; subst hwy))
  go_ret
  exact ⟨rfl, B6.out⟩

set_option maxHeartbeats 8000000 in
set_option maxRecDepth 100000 in
theorem joined_twoM (one two : ByteArray) (w : World) (T1 T2 : List Tok) (n1 n2 q1 q2 : Int)
    (hall1 : ∀ w', Below w.heap.size w w' → Calls Tryz.prog 4 #[.string one] w' (AllEnd w' (T1, n1, q1))) (hall2 : ∀ w', Below w.heap.size w w' → Calls Tryz.prog 4 #[.string two] w' (AllEnd w' (T2, n2, q2)))
    (href1 : ∀ w', Calls Tryz.prog 5 #[.string one] w' (RefEnd w' n1 q1)) (href2 : ∀ w', Calls Tryz.prog 5 #[.string two] w' (RefEnd w' n2 q2))
    (hali : ∀ w', Below w.heap.size w w' → Calls Tryz.prog 7 #[] w' fun e w'' => e = .returned (.bool true) ∧ Below w'.heap.size w' w'') (L : List Tok) (n3 q3 : Int) (hall3 : ∀ w', Below w.heap.size w w' → Calls Tryz.prog 4 #[.string (one ++ two)] w' (AllEnd w' (L, n3, q3)))
    (hadd : ∀ W, (Op.stringOp .add one two).run Tryz.prog W = .ok (.string (one ++ two)) W) (m : Nat) (kd : Int) (hl : T1.length = m + 1) (hkd : ∀ hm : m < T1.length, (T1[m]).kind = kd) (h3 : (kd == 3) = false) (h1 : n1 = 0) (h2 : n2 ≠ 0) (hn3 : n3 = n2) (hq3 : q3 = q2 + one.size) (hq0 : 0 ≤ q2) (hq1 : q2 + one.size ≤ 4294967296) :
    Calls Tryz.prog 3 #[.string one, .string two] w fun e w' => e = .returned (.bool true) ∧ Below w.heap.size w w' := by
  subst h1
  subst hn3
  subst hq3
  unfold AllEnd at hall3
  have HA3 := hide hall3
  clear hall3
  generalize one ++ two = both at *
  have e0 : (n3 != 0) = true := by simpa using h2
  have e1 : (n3 == 0) = false := by simpa using h2
  have H2 := hide h2
  clear h2
  have hwa : IntKind.i64.wrap (q2 + (one.size : Int)) = q2 + one.size := by rw [IntKind.wrap_i64]; omega
  have hwb : wrap64 (q2 + (one.size : Int)) = q2 + one.size := by unfold wrap64; omega
  have heql := eql_nils
  have HQ := hide (And.intro hq0 hq1)
  clear hq0 hq1
  unfold AllEnd at hall1 hall2
  unfold RefEnd at href1 href2
  have HA1 := hide hall1
  have HA2 := hide hall2
  have HR1 := hide href1
  have HR2 := hide href2
  have HLI := hide hali
  have hnum := num_ok
  clear hall1 hall2 href1 href2 hali
  go_enter Tryz.func3, Tryz.ntmps3
  go_wp2_with fail
  refine (HA1.out _ (Below.refl _ _)).mono ?_
  rintro e w1 ⟨lv, A, rfl, an, b1, _, nil1⟩
  have AN := hide an
  have B1 := hide b1
  have NIL1 := hide nil1
  clear an b1 nil1
  go_wp2_with fail
  refine (HA2.out _ B1.out).mono ?_
  rintro e w2 ⟨lv2, A2, rfl, an2, b2, _, nil2⟩
  have BN2 := hide an2
  have AN2 := hide (AN.out.past b2)
  have B2 := hide (B1.out.trans (below_less b2 B1.out.size))
  have NIL2 := hide nil2
  clear an2 b2 nil2
  go_wp2_with fail
  refine (HR1.out _).mono ?_
  rintro e w3 ⟨rv1, rfl, b3⟩
  have BN3 := hide (BN2.out.past b3)
  have AN3 := hide (AN2.out.past b3)
  have B3 := hide (B2.out.trans (below_less b3 B2.out.size))
  clear b3
  go_wp2_with fail
  refine (HR2.out _).mono ?_
  rintro e w4 ⟨rv2, rfl, b4⟩
  have BN4 := hide (BN3.out.past b4)
  have AN4 := hide (AN3.out.past b4)
  have B4 := hide (B3.out.trans (below_less b4 B3.out.size))
  clear b4
  obtain ⟨g, cg, el, hcs, hmi⟩ := last_kind AN4.out m hl kd hkd
  subst el
  have HCS := hide hcs
  have hw64 : wrap64 (m : Int) = m := by unfold wrap64; omega
  have hg0 : decide (0 < T1.length) = true := by simp; omega
  have hwr : IntKind.i64.wrap ((T1.length : Int) - 1) = (m : Int) := by rw [IntKind.wrap_i64]; omega
  have hlt : (m : Int) < (T1.length : Int) := by omega
  have HL := hide hl
  clear hcs hl hkd
  obtain ⟨bl2, cl2, el2, hm2⟩ := slice_of BN4.out
  subst el2
  have HM2 := hide hm2
  clear hm2
  go_wp2_with (first | (go_at_call 6; refine (hnum _ _).mono ?_; rintro e wx ⟨rfl, hwx⟩; have hwy := hwx.symm; clear hwx; subst hwy))
  refine (HLI.out _ B4.out).mono ?_
  rintro e w5 ⟨rfl, b5⟩
  have B5 := hide (B4.out.trans (below_less b5 B4.out.size))
  have AN5 := hide (AN4.out.past b5)
  have BN5 := hide (BN4.out.past b5)
  have B45 := hide b5
  clear b5
  have x0 := HCS.out _ B45.out
  go_wp2_with fail
  refine (HA3.out _ B5.out).mono ?_
  rintro e w6 ⟨lv3, A3, rfl, an3, b6, _, nil3⟩
  have B6 := hide (B5.out.trans (below_less b6 B5.out.size))
  have AN6 := hide (AN5.out.past b6)
  have BN6 := hide (BN5.out.past b6)
  have hnl := nil3 H2.out
  unfold nilS at hnl
  subst hnl
  clear b6 an3 nil3
  go_wp2_with (first | (go_at_call 6; refine (hnum _ _).mono ?_; rintro e wx ⟨rfl, hwx⟩; have hwy := hwx.symm; clear hwx; subst hwy))
  go_ret
  exact ⟨rfl, B6.out⟩
end Go.Proofs.YtbbocgeapofloaiGreatDoor
set_option linter.unusedSimpArgs false
set_option linter.unusedVariables false
namespace Go.Proofs.YtbbocgeapofloaiGreatDoor
open Go.RowKit Go.Maps Go.Lib

variable {F F' G A B : Nat → Prop} {R : Nat} {w w' w'' wr w1 : World} {a : Addr} {v v1 v2 lv : Value} {N n : Nat} {l l1 l2 : List Tok}


set_option maxHeartbeats 8000000 in
set_option maxRecDepth 100000 in
theorem joined_bothE (one two : ByteArray) (w : World) (T1 T2 : List Tok) (n1 n2 q1 q2 : Int)
    (hall1 : ∀ w', Below w.heap.size w w' → Calls Tryz.prog 4 #[.string one] w' (AllEnd w' (T1, n1, q1))) (hall2 : ∀ w', Below w.heap.size w w' → Calls Tryz.prog 4 #[.string two] w' (AllEnd w' (T2, n2, q2)))
    (href1 : ∀ w', Calls Tryz.prog 5 #[.string one] w' (RefEnd w' n1 q1)) (href2 : ∀ w', Calls Tryz.prog 5 #[.string two] w' (RefEnd w' n2 q2))
    (hali : ∀ w', Below w.heap.size w w' → Calls Tryz.prog 7 #[] w' fun e w'' => e = .returned (.bool true) ∧ Below w'.heap.size w' w'') (L : List Tok) (n3 q3 : Int) (hall3 : ∀ w', Below w.heap.size w w' → Calls Tryz.prog 4 #[.string (one ++ two)] w' (AllEnd w' (L, n3, q3)))
    (hadd : ∀ W, (Op.stringOp .add one two).run Tryz.prog W = .ok (.string (one ++ two)) W) (hleft : ∀ k (h : k < T1.length) (h' : k < L.length), L[k] = T1[k]) (hright : ∀ k j (h' : k < L.length) (hj : j < T2.length), k = T1.length + j → L[k] = (T2[j]).on one.size) (hlen : L.length = T1.length + T2.length)
    (hat : ∀ j (hj : j < T2.length), 0 ≤ (T2[j]).at_ ∧ (T2[j]).at_ + one.size ≤ 4294967296) (hT : T1.length = 0) (h1 : n1 = 0) (h2 : n2 = 0) (hn3 : n3 = 0) :
    Calls Tryz.prog 3 #[.string one, .string two] w fun e w' => e = .returned (.bool true) ∧ Below w.heap.size w w' := by
  subst h1
  subst h2
  subst hn3
  unfold AllEnd at hall3
  have HA3 := hide hall3
  clear hall3
  generalize one ++ two = both at *
  have HLF := hide hleft
  have HRT := hide hright
  have HAT := hide hat
  clear hleft hright hat
  unfold AllEnd at hall1 hall2
  unfold RefEnd at href1 href2
  have HA1 := hide hall1
  have HA2 := hide hall2
  have HR1 := hide href1
  have HR2 := hide href2
  have HLI := hide hali
  have hnum := num_ok
  clear hall1 hall2 href1 href2 hali
  go_enter Tryz.func3, Tryz.ntmps3
  go_wp2_with fail
  refine (HA1.out _ (Below.refl _ _)).mono ?_
  rintro e w1 ⟨lv, A, rfl, an, b1, _, nil1⟩
  have AN := hide an
  have B1 := hide b1
  have NIL1 := hide nil1
  clear an b1 nil1
  go_wp2_with fail
  refine (HA2.out _ B1.out).mono ?_
  rintro e w2 ⟨lv2, A2, rfl, an2, b2, _, nil2⟩
  have BN2 := hide an2
  have AN2 := hide (AN.out.past b2)
  have B2 := hide (B1.out.trans (below_less b2 B1.out.size))
  have NIL2 := hide nil2
  clear an2 b2 nil2
  go_wp2_with fail
  refine (HR1.out _).mono ?_
  rintro e w3 ⟨rv1, rfl, b3⟩
  have BN3 := hide (BN2.out.past b3)
  have AN3 := hide (AN2.out.past b3)
  have B3 := hide (B2.out.trans (below_less b3 B2.out.size))
  clear b3
  go_wp2_with fail
  refine (HR2.out _).mono ?_
  rintro e w4 ⟨rv2, rfl, b4⟩
  have BN4 := hide (BN3.out.past b4)
  have AN4 := hide (AN3.out.past b4)
  have B4 := hide (B3.out.trans (below_less b4 B3.out.size))
  clear b4
  obtain ⟨bl, cl, el, hm1⟩ := slice_of AN4.out
  subst el
  have HM1 := hide hm1
  clear hm1
  have hg0 : decide (0 < T1.length) = false := by simp [hT]
  have HT := hide hT
  clear hT
  obtain ⟨bl2, cl2, el2, hm2⟩ := slice_of BN4.out
  subst el2
  have HM2 := hide hm2
  clear hm2
  go_wp2_with (first | (go_at_call 6; refine (hnum _ _).mono ?_; rintro e wx ⟨rfl, hwx⟩; have hwy := hwx.symm; clear hwx; subst hwy))
  refine (HLI.out _ B4.out).mono ?_
  rintro e w5 ⟨rfl, b5⟩
  have B5 := hide (B4.out.trans (below_less b5 B4.out.size))
  have AN5 := hide (AN4.out.past b5)
  have BN5 := hide (BN4.out.past b5)
  have B45 := hide b5
  clear b5
  go_wp2_with fail
  refine (HA3.out _ B5.out).mono ?_
  rintro e w6 ⟨lv3, A3, rfl, an3, b6, _, nil3⟩
  have B6 := hide (B5.out.trans (below_less b6 B5.out.size))
  have AN6 := hide (AN5.out.past b6)
  have BN6 := hide (BN5.out.past b6)
  clear hg0
  obtain ⟨bl3, cl3, el3, hm3⟩ := slice_of an3
  subst el3
  have hmL : (L.length : Int) ≤ 9223372036854775807 := by have : maxLen = 9223372036854775807 := rfl; omega
  have hwl : IntKind.i64.wrap ((T1.length : Int) + T2.length) = (L.length : Int) := by rw [IntKind.wrap_i64]; omega
  have hwl2 : wrap64 ((T1.length : Int) + T2.length) = (L.length : Int) := by unfold wrap64; omega
  have LN := hide an3
  have HLEN := hide hlen
  clear b6 an3 nil3 hm3 hlen
  go_wp2_with (first | (go_at_call 6; refine (hnum _ _).mono ?_; rintro e wx ⟨rfl, hwx⟩; have hwy := hwx.symm; clear hwx; subst hwy))
  go_loopw [20, 21, 22, 23, 24] (fun iv _ _ _ _ wr => ∃ k : Nat, iv = .int .i64 k ∧ k ≤ L.length ∧ Below w6.heap.size w6 wr) (fun iv _ _ _ _ _ => L.length - (RowKit.intOf iv).toNat)
  case atStart => exact ⟨0, rfl, Nat.zero_le _, Below.refl _ _⟩
  case round =>
    obtain ⟨k, rfl, hk, hbr⟩ := hrel
    by_cases hkl : k < L.length
    · have hdec : decide ((k : Int) < L.length) = true := by simp; omega
      have hdecn : decide (k < L.length) = true := by simp; omega
      by_cases hka : k < T1.length
      · exact absurd hka (by have := HT.out; omega)
      · have hda : decide (k < T1.length) = false := by simp; omega
        have hda2 : decide ((k : Int) < T1.length) = false := by simp; omega
        obtain ⟨j, hj⟩ : ∃ j, k = T1.length + j := ⟨k - T1.length, by omega⟩
        have hjl : j < T2.length := by have := HLEN.out; omega
        have e1 := HRT.out k j hkl hjl hj
        have hat := HAT.out j hjl
        have hpr := two_of LN.out BN6.out k j hkl hjl (by rw [e1]; rfl) (by rw [e1]; rfl) (by rw [e1]; rfl) (by rw [e1]; rfl)
        rw [show (L[k]).at_ = (T2[j]).at_ + one.size by rw [e1]; rfl] at hpr
        obtain ⟨gg, cgg, hh, chh, ia, na, ca, ib, nb, cb, kd', nm, tx, eg, eh, hcs, hcall⟩ := hpr.ex
        clear hpr e1
        cases eg
        cases eh
        generalize (T2[j]).at_ = q at *
        have hwq : IntKind.i64.wrap (q + (one.size : Int)) = q + one.size := by rw [IntKind.wrap_i64]; omega
        have hwq2 : wrap64 (q + (one.size : Int)) = q + one.size := by unfold wrap64; omega
        have hwj : IntKind.i64.wrap ((k : Int) - T1.length) = (j : Int) := by rw [IntKind.wrap_i64]; omega
        have hwj2 : wrap64 ((k : Int) - T1.length) = (j : Int) := by unfold wrap64; omega
        have hji : (j : Int) < T2.length := by omega
        have hkL : (k : Int) < L.length := by omega
        obtain ⟨⟨x0, x1, x2, x3, x4⟩, _⟩ := hcs wr hbr
        obtain ⟨_, y0, y1, y2, y3, y4⟩ := hcs (wr.alloc (.cells #[.int .i64 kd', .string nm, .slice ia na ca, .string tx, .int .i64 (q + one.size)] 33)) (hbr.alloc hbr.size _)
        have HJ := hide hj
        have hS : ∀ W, Below ((wr.alloc (.cells #[.int .i64 kd', .string nm, .slice ia na ca, .string tx, .int .i64 (q + one.size)] 33)).alloc (.cells #[.int .i64 kd', .string nm, .slice ib nb cb, .string tx, .int .i64 q] 33)).heap.size ((wr.alloc (.cells #[.int .i64 kd', .string nm, .slice ia na ca, .string tx, .int .i64 (q + one.size)] 33)).alloc (.cells #[.int .i64 kd', .string nm, .slice ib nb cb, .string tx, .int .i64 q] 33)) W → ((W.cell? ⟨wr.heap.size, 0, none⟩ = some (.int .i64 kd') ∧ W.cell? ⟨wr.heap.size, 1, none⟩ = some (.string nm) ∧ W.cell? ⟨wr.heap.size, 2, none⟩ = some (.slice ia na ca) ∧ W.cell? ⟨wr.heap.size, 3, none⟩ = some (.string tx) ∧ W.cell? ⟨wr.heap.size, 4, none⟩ = some (.int .i64 (q + one.size))) ∧ (W.cell? ⟨wr.heap.size + 1, 0, none⟩ = some (.int .i64 kd') ∧ W.cell? ⟨wr.heap.size + 1, 1, none⟩ = some (.string nm) ∧ W.cell? ⟨wr.heap.size + 1, 2, none⟩ = some (.slice ib nb cb) ∧ W.cell? ⟨wr.heap.size + 1, 3, none⟩ = some (.string tx) ∧ W.cell? ⟨wr.heap.size + 1, 4, none⟩ = some (.int .i64 q))) ∧ Below w6.heap.size w6 W := by
          intro W bW
          obtain ⟨c1, c2⟩ := box_cells _ W _ _ _ _ _ _ bW
          obtain ⟨d1, d2⟩ := box_cells wr W _ _ _ _ _ _ c2
          refine ⟨⟨d1, ?_⟩, hbr.trans (below_less d2 hbr.size)⟩
          simpa using c1
        have hcl2 : Calls Tryz.prog 8 #[.agg #[.int .i64 kd', .string nm, .slice ia na ca, .string tx, .int .i64 (q + one.size)], .agg #[.int .i64 kd', .string nm, .slice ib nb cb, .string tx, .int .i64 q]] ((wr.alloc (.cells #[.int .i64 kd', .string nm, .slice ia na ca, .string tx, .int .i64 (q + one.size)] 33)).alloc (.cells #[.int .i64 kd', .string nm, .slice ib nb cb, .string tx, .int .i64 q] 33)) fun e w' => e = .returned (.bool true) ∧ Below ((wr.alloc (.cells #[.int .i64 kd', .string nm, .slice ia na ca, .string tx, .int .i64 (q + one.size)] 33)).alloc (.cells #[.int .i64 kd', .string nm, .slice ib nb cb, .string tx, .int .i64 q] 33)).heap.size ((wr.alloc (.cells #[.int .i64 kd', .string nm, .slice ia na ca, .string tx, .int .i64 (q + one.size)] 33)).alloc (.cells #[.int .i64 kd', .string nm, .slice ib nb cb, .string tx, .int .i64 q] 33)) w' := by
          have bd := (Below.refl ((wr.alloc (.cells #[.int .i64 kd', .string nm, .slice ia na ca, .string tx, .int .i64 (q + one.size)] 33)).alloc (.cells #[.int .i64 kd', .string nm, .slice ib nb cb, .string tx, .int .i64 q] 33)).heap.size ((wr.alloc (.cells #[.int .i64 kd', .string nm, .slice ia na ca, .string tx, .int .i64 (q + one.size)] 33)).alloc (.cells #[.int .i64 kd', .string nm, .slice ib nb cb, .string tx, .int .i64 q] 33)))
          refine (hcall _ (hS _ bd).2).mono ?_
          rintro e w' ⟨rfl, bw⟩
          exact ⟨rfl, bd.trans (below_less bw bd.size)⟩
        have HS := hide hS
        have HBR := hide hbr
        clear hj hS hcall hcs hbr
        go_wp2_with fail
        refine hcl2.mono ?_
        rintro e w7 ⟨rfl, bw7⟩
        obtain ⟨⟨⟨_, _, _, _, z4⟩, _, _, _, _, t4⟩, b7⟩ := HS.out _ bw7
        have BW7 := hide b7
        clear bw7 b7 hcl2 x0 x1 x2 x3 x4 y0 y1 y2 y3 y4
        go_wp2
        refine ⟨⟨k + 1, by simp, by omega, BW7.out⟩, ?_⟩
        simp only [RowKit.intOf]
        omega
    · have hdec : decide ((k : Int) < L.length) = false := by simp; omega
      have hdecn : decide (k < L.length) = false := by simp; omega
      have B7 := hide (B6.out.trans (below_less hbr B6.out.size))
      clear hbr
      go_wp2
      go_ret
      exact ⟨rfl, B7.out⟩

set_option maxHeartbeats 8000000 in
set_option maxRecDepth 100000 in
theorem joined_bothM (one two : ByteArray) (w : World) (T1 T2 : List Tok) (n1 n2 q1 q2 : Int)
    (hall1 : ∀ w', Below w.heap.size w w' → Calls Tryz.prog 4 #[.string one] w' (AllEnd w' (T1, n1, q1))) (hall2 : ∀ w', Below w.heap.size w w' → Calls Tryz.prog 4 #[.string two] w' (AllEnd w' (T2, n2, q2)))
    (href1 : ∀ w', Calls Tryz.prog 5 #[.string one] w' (RefEnd w' n1 q1)) (href2 : ∀ w', Calls Tryz.prog 5 #[.string two] w' (RefEnd w' n2 q2))
    (hali : ∀ w', Below w.heap.size w w' → Calls Tryz.prog 7 #[] w' fun e w'' => e = .returned (.bool true) ∧ Below w'.heap.size w' w'') (L : List Tok) (n3 q3 : Int) (hall3 : ∀ w', Below w.heap.size w w' → Calls Tryz.prog 4 #[.string (one ++ two)] w' (AllEnd w' (L, n3, q3)))
    (hadd : ∀ W, (Op.stringOp .add one two).run Tryz.prog W = .ok (.string (one ++ two)) W) (hleft : ∀ k (h : k < T1.length) (h' : k < L.length), L[k] = T1[k]) (hright : ∀ k j (h' : k < L.length) (hj : j < T2.length), k = T1.length + j → L[k] = (T2[j]).on one.size) (hlen : L.length = T1.length + T2.length)
    (hat : ∀ j (hj : j < T2.length), 0 ≤ (T2[j]).at_ ∧ (T2[j]).at_ + one.size ≤ 4294967296) (m : Nat) (kd : Int) (hl : T1.length = m + 1) (hkd : ∀ hm : m < T1.length, (T1[m]).kind = kd) (h3 : (kd == 3) = false) (h1 : n1 = 0) (h2 : n2 = 0) (hn3 : n3 = 0) :
    Calls Tryz.prog 3 #[.string one, .string two] w fun e w' => e = .returned (.bool true) ∧ Below w.heap.size w w' := by
  subst h1
  subst h2
  subst hn3
  unfold AllEnd at hall3
  have HA3 := hide hall3
  clear hall3
  generalize one ++ two = both at *
  have HLF := hide hleft
  have HRT := hide hright
  have HAT := hide hat
  clear hleft hright hat
  unfold AllEnd at hall1 hall2
  unfold RefEnd at href1 href2
  have HA1 := hide hall1
  have HA2 := hide hall2
  have HR1 := hide href1
  have HR2 := hide href2
  have HLI := hide hali
  have hnum := num_ok
  clear hall1 hall2 href1 href2 hali
  go_enter Tryz.func3, Tryz.ntmps3
  go_wp2_with fail
  refine (HA1.out _ (Below.refl _ _)).mono ?_
  rintro e w1 ⟨lv, A, rfl, an, b1, _, nil1⟩
  have AN := hide an
  have B1 := hide b1
  have NIL1 := hide nil1
  clear an b1 nil1
  go_wp2_with fail
  refine (HA2.out _ B1.out).mono ?_
  rintro e w2 ⟨lv2, A2, rfl, an2, b2, _, nil2⟩
  have BN2 := hide an2
  have AN2 := hide (AN.out.past b2)
  have B2 := hide (B1.out.trans (below_less b2 B1.out.size))
  have NIL2 := hide nil2
  clear an2 b2 nil2
  go_wp2_with fail
  refine (HR1.out _).mono ?_
  rintro e w3 ⟨rv1, rfl, b3⟩
  have BN3 := hide (BN2.out.past b3)
  have AN3 := hide (AN2.out.past b3)
  have B3 := hide (B2.out.trans (below_less b3 B2.out.size))
  clear b3
  go_wp2_with fail
  refine (HR2.out _).mono ?_
  rintro e w4 ⟨rv2, rfl, b4⟩
  have BN4 := hide (BN3.out.past b4)
  have AN4 := hide (AN3.out.past b4)
  have B4 := hide (B3.out.trans (below_less b4 B3.out.size))
  clear b4
  obtain ⟨g, cg, el, hcs, hmi⟩ := last_kind AN4.out m hl kd hkd
  subst el
  have HCS := hide hcs
  have hw64 : wrap64 (m : Int) = m := by unfold wrap64; omega
  have hg0 : decide (0 < T1.length) = true := by simp; omega
  have hwr : IntKind.i64.wrap ((T1.length : Int) - 1) = (m : Int) := by rw [IntKind.wrap_i64]; omega
  have hlt : (m : Int) < (T1.length : Int) := by omega
  have HL := hide hl
  clear hcs hl hkd
  obtain ⟨bl2, cl2, el2, hm2⟩ := slice_of BN4.out
  subst el2
  have HM2 := hide hm2
  clear hm2
  go_wp2_with (first | (go_at_call 6; refine (hnum _ _).mono ?_; rintro e wx ⟨rfl, hwx⟩; have hwy := hwx.symm; clear hwx; subst hwy))
  refine (HLI.out _ B4.out).mono ?_
  rintro e w5 ⟨rfl, b5⟩
  have B5 := hide (B4.out.trans (below_less b5 B4.out.size))
  have AN5 := hide (AN4.out.past b5)
  have BN5 := hide (BN4.out.past b5)
  have B45 := hide b5
  clear b5
  have x0 := HCS.out _ B45.out
  go_wp2_with fail
  refine (HA3.out _ B5.out).mono ?_
  rintro e w6 ⟨lv3, A3, rfl, an3, b6, _, nil3⟩
  have B6 := hide (B5.out.trans (below_less b6 B5.out.size))
  have AN6 := hide (AN5.out.past b6)
  have BN6 := hide (BN5.out.past b6)
  clear x0
  obtain ⟨bl3, cl3, el3, hm3⟩ := slice_of an3
  subst el3
  have hmL : (L.length : Int) ≤ 9223372036854775807 := by have : maxLen = 9223372036854775807 := rfl; omega
  have hwl : IntKind.i64.wrap ((T1.length : Int) + T2.length) = (L.length : Int) := by rw [IntKind.wrap_i64]; omega
  have hwl2 : wrap64 ((T1.length : Int) + T2.length) = (L.length : Int) := by unfold wrap64; omega
  have LN := hide an3
  have HLEN := hide hlen
  clear b6 an3 nil3 hm3 hlen
  go_wp2_with (first | (go_at_call 6; refine (hnum _ _).mono ?_; rintro e wx ⟨rfl, hwx⟩; have hwy := hwx.symm; clear hwx; subst hwy))
  go_loopw [20, 21, 22, 23, 24] (fun iv _ _ _ _ wr => ∃ k : Nat, iv = .int .i64 k ∧ k ≤ L.length ∧ Below w6.heap.size w6 wr) (fun iv _ _ _ _ _ => L.length - (RowKit.intOf iv).toNat)
  case atStart => exact ⟨0, rfl, Nat.zero_le _, Below.refl _ _⟩
  case round =>
    obtain ⟨k, rfl, hk, hbr⟩ := hrel
    by_cases hkl : k < L.length
    · have hdec : decide ((k : Int) < L.length) = true := by simp; omega
      have hdecn : decide (k < L.length) = true := by simp; omega
      by_cases hka : k < T1.length
      · have hda : decide (k < T1.length) = true := by simp; omega
        have hda2 : decide ((k : Int) < T1.length) = true := by simp; omega
        have e1 := HLF.out k hka hkl
        have hpr := two_of LN.out AN6.out k k hkl hka (by rw [e1]) (by rw [e1]) (by rw [e1]) (by rw [e1])
        rw [e1] at hpr
        obtain ⟨gg, cgg, hh, chh, ia, na, ca, ib, nb, cb, kd', nm, tx, eg, eh, hcs, hcall⟩ := hpr.ex
        clear hpr e1
        cases eg
        cases eh
        generalize (T1[k]).at_ = q at *
        obtain ⟨⟨x0, x1, x2, x3, x4⟩, y0, y1, y2, y3, y4⟩ := hcs wr hbr
        have hki : (k : Int) < T1.length := by omega
        have hkL : (k : Int) < L.length := by omega
        have hS : ∀ W, Below (wr.alloc (.cells #[.int .i64 kd', .string nm, .slice ia na ca, .string tx, .int .i64 q] 33)).heap.size (wr.alloc (.cells #[.int .i64 kd', .string nm, .slice ia na ca, .string tx, .int .i64 q] 33)) W →
            ((W.cell? ⟨wr.heap.size, 0, none⟩ = some (.int .i64 kd') ∧ W.cell? ⟨wr.heap.size, 1, none⟩ = some (.string nm) ∧ W.cell? ⟨wr.heap.size, 2, none⟩ = some (.slice ia na ca) ∧ W.cell? ⟨wr.heap.size, 3, none⟩ = some (.string tx) ∧ W.cell? ⟨wr.heap.size, 4, none⟩ = some (.int .i64 q)) ∧
              (W.cell? ⟨g, k * 5, none⟩ = some (.int .i64 kd') ∧ W.cell? ⟨g, k * 5 + 1, none⟩ = some (.string nm) ∧ W.cell? ⟨g, k * 5 + 2, none⟩ = some (.slice ib nb cb) ∧ W.cell? ⟨g, k * 5 + 3, none⟩ = some (.string tx) ∧ W.cell? ⟨g, k * 5 + 4, none⟩ = some (.int .i64 q))) ∧ Below w6.heap.size w6 W := by
          intro W bW
          obtain ⟨c1, c2⟩ := box_cells wr W _ _ _ _ _ _ bW
          have c3 : Below w6.heap.size w6 W := hbr.trans (below_less c2 hbr.size)
          exact ⟨⟨c1, (hcs W c3).2⟩, c3⟩
        have hcl2 : Calls Tryz.prog 8 #[.agg #[.int .i64 kd', .string nm, .slice ia na ca, .string tx, .int .i64 q], .agg #[.int .i64 kd', .string nm, .slice ib nb cb, .string tx, .int .i64 q]] (wr.alloc (.cells #[.int .i64 kd', .string nm, .slice ia na ca, .string tx, .int .i64 q] 33)).drew fun e w' => e = .returned (.bool true) ∧ Below (wr.alloc (.cells #[.int .i64 kd', .string nm, .slice ia na ca, .string tx, .int .i64 q] 33)).heap.size (wr.alloc (.cells #[.int .i64 kd', .string nm, .slice ia na ca, .string tx, .int .i64 q] 33)) w' := by
          have bd := below_drewN (Below.refl (wr.alloc (.cells #[.int .i64 kd', .string nm, .slice ia na ca, .string tx, .int .i64 q] 33)).heap.size (wr.alloc (.cells #[.int .i64 kd', .string nm, .slice ia na ca, .string tx, .int .i64 q] 33))) 1
          refine (hcall _ (hS _ bd).2).mono ?_
          rintro e w' ⟨rfl, bw⟩
          exact ⟨rfl, bd.trans (below_less bw bd.size)⟩
        have HS := hide hS
        have HBR := hide hbr
        clear hS hcall hcs hbr
        go_wp2_with fail
        go_region_held3 (fun W => (W.cell? ⟨wr.heap.size, 0, none⟩ = some (.int .i64 kd') ∧ W.cell? ⟨wr.heap.size, 1, none⟩ = some (.string nm) ∧ W.cell? ⟨wr.heap.size, 2, none⟩ = some (.slice ia na ca) ∧ W.cell? ⟨wr.heap.size, 3, none⟩ = some (.string tx) ∧ W.cell? ⟨wr.heap.size, 4, none⟩ = some (.int .i64 q)) ∧
              (W.cell? ⟨g, k * 5, none⟩ = some (.int .i64 kd') ∧ W.cell? ⟨g, k * 5 + 1, none⟩ = some (.string nm) ∧ W.cell? ⟨g, k * 5 + 2, none⟩ = some (.slice ib nb cb) ∧ W.cell? ⟨g, k * 5 + 3, none⟩ = some (.string tx) ∧ W.cell? ⟨g, k * 5 + 4, none⟩ = some (.int .i64 q)))
          (first | exact (HS.out _ (Below.refl _ _)).1 | exact (HS.out _ bw7).1)
          (first | (go_at_call 8; refine hcl2.mono ?_; rintro e w7 ⟨rfl, bw7⟩))
        all_goals
          obtain ⟨⟨⟨_, _, _, _, z4⟩, _, _, _, _, t4⟩, b7⟩ := HS.out _ bw7
          have BW7 := hide b7
          clear bw7 b7 hcl2 x0 x1 x2 x3 x4 y0 y1 y2 y3 y4
          go_wp2_with fail
          go_quiet (fail)
          go_wp2
          refine ⟨⟨k + 1, by simp, by omega, below_drewN BW7.out _⟩, ?_⟩
          simp only [RowKit.intOf]
          omega
      · have hda : decide (k < T1.length) = false := by simp; omega
        have hda2 : decide ((k : Int) < T1.length) = false := by simp; omega
        obtain ⟨j, hj⟩ : ∃ j, k = T1.length + j := ⟨k - T1.length, by omega⟩
        have hjl : j < T2.length := by have := HLEN.out; omega
        have e1 := HRT.out k j hkl hjl hj
        have hat := HAT.out j hjl
        have hpr := two_of LN.out BN6.out k j hkl hjl (by rw [e1]; rfl) (by rw [e1]; rfl) (by rw [e1]; rfl) (by rw [e1]; rfl)
        rw [show (L[k]).at_ = (T2[j]).at_ + one.size by rw [e1]; rfl] at hpr
        obtain ⟨gg, cgg, hh, chh, ia, na, ca, ib, nb, cb, kd', nm, tx, eg, eh, hcs, hcall⟩ := hpr.ex
        clear hpr e1
        cases eg
        cases eh
        generalize (T2[j]).at_ = q at *
        have hwq : IntKind.i64.wrap (q + (one.size : Int)) = q + one.size := by rw [IntKind.wrap_i64]; omega
        have hwq2 : wrap64 (q + (one.size : Int)) = q + one.size := by unfold wrap64; omega
        have hwj : IntKind.i64.wrap ((k : Int) - T1.length) = (j : Int) := by rw [IntKind.wrap_i64]; omega
        have hwj2 : wrap64 ((k : Int) - T1.length) = (j : Int) := by unfold wrap64; omega
        have hji : (j : Int) < T2.length := by omega
        have hkL : (k : Int) < L.length := by omega
        obtain ⟨⟨x0, x1, x2, x3, x4⟩, _⟩ := hcs wr hbr
        obtain ⟨_, y0, y1, y2, y3, y4⟩ := hcs (wr.alloc (.cells #[.int .i64 kd', .string nm, .slice ia na ca, .string tx, .int .i64 (q + one.size)] 33)) (hbr.alloc hbr.size _)
        have HJ := hide hj
        have hS : ∀ W, Below ((wr.alloc (.cells #[.int .i64 kd', .string nm, .slice ia na ca, .string tx, .int .i64 (q + one.size)] 33)).alloc (.cells #[.int .i64 kd', .string nm, .slice ib nb cb, .string tx, .int .i64 q] 33)).heap.size ((wr.alloc (.cells #[.int .i64 kd', .string nm, .slice ia na ca, .string tx, .int .i64 (q + one.size)] 33)).alloc (.cells #[.int .i64 kd', .string nm, .slice ib nb cb, .string tx, .int .i64 q] 33)) W → ((W.cell? ⟨wr.heap.size, 0, none⟩ = some (.int .i64 kd') ∧ W.cell? ⟨wr.heap.size, 1, none⟩ = some (.string nm) ∧ W.cell? ⟨wr.heap.size, 2, none⟩ = some (.slice ia na ca) ∧ W.cell? ⟨wr.heap.size, 3, none⟩ = some (.string tx) ∧ W.cell? ⟨wr.heap.size, 4, none⟩ = some (.int .i64 (q + one.size))) ∧ (W.cell? ⟨wr.heap.size + 1, 0, none⟩ = some (.int .i64 kd') ∧ W.cell? ⟨wr.heap.size + 1, 1, none⟩ = some (.string nm) ∧ W.cell? ⟨wr.heap.size + 1, 2, none⟩ = some (.slice ib nb cb) ∧ W.cell? ⟨wr.heap.size + 1, 3, none⟩ = some (.string tx) ∧ W.cell? ⟨wr.heap.size + 1, 4, none⟩ = some (.int .i64 q))) ∧ Below w6.heap.size w6 W := by
          intro W bW
          obtain ⟨c1, c2⟩ := box_cells _ W _ _ _ _ _ _ bW
          obtain ⟨d1, d2⟩ := box_cells wr W _ _ _ _ _ _ c2
          refine ⟨⟨d1, ?_⟩, hbr.trans (below_less d2 hbr.size)⟩
          simpa using c1
        have hcl2 : Calls Tryz.prog 8 #[.agg #[.int .i64 kd', .string nm, .slice ia na ca, .string tx, .int .i64 (q + one.size)], .agg #[.int .i64 kd', .string nm, .slice ib nb cb, .string tx, .int .i64 q]] ((wr.alloc (.cells #[.int .i64 kd', .string nm, .slice ia na ca, .string tx, .int .i64 (q + one.size)] 33)).alloc (.cells #[.int .i64 kd', .string nm, .slice ib nb cb, .string tx, .int .i64 q] 33)) fun e w' => e = .returned (.bool true) ∧ Below ((wr.alloc (.cells #[.int .i64 kd', .string nm, .slice ia na ca, .string tx, .int .i64 (q + one.size)] 33)).alloc (.cells #[.int .i64 kd', .string nm, .slice ib nb cb, .string tx, .int .i64 q] 33)).heap.size ((wr.alloc (.cells #[.int .i64 kd', .string nm, .slice ia na ca, .string tx, .int .i64 (q + one.size)] 33)).alloc (.cells #[.int .i64 kd', .string nm, .slice ib nb cb, .string tx, .int .i64 q] 33)) w' := by
          have bd := (Below.refl ((wr.alloc (.cells #[.int .i64 kd', .string nm, .slice ia na ca, .string tx, .int .i64 (q + one.size)] 33)).alloc (.cells #[.int .i64 kd', .string nm, .slice ib nb cb, .string tx, .int .i64 q] 33)).heap.size ((wr.alloc (.cells #[.int .i64 kd', .string nm, .slice ia na ca, .string tx, .int .i64 (q + one.size)] 33)).alloc (.cells #[.int .i64 kd', .string nm, .slice ib nb cb, .string tx, .int .i64 q] 33)))
          refine (hcall _ (hS _ bd).2).mono ?_
          rintro e w' ⟨rfl, bw⟩
          exact ⟨rfl, bd.trans (below_less bw bd.size)⟩
        have HS := hide hS
        have HBR := hide hbr
        clear hj hS hcall hcs hbr
        go_wp2_with fail
        refine hcl2.mono ?_
        rintro e w7 ⟨rfl, bw7⟩
        obtain ⟨⟨⟨_, _, _, _, z4⟩, _, _, _, _, t4⟩, b7⟩ := HS.out _ bw7
        have BW7 := hide b7
        clear bw7 b7 hcl2 x0 x1 x2 x3 x4 y0 y1 y2 y3 y4
        go_wp2
        refine ⟨⟨k + 1, by simp, by omega, BW7.out⟩, ?_⟩
        simp only [RowKit.intOf]
        omega
    · have hdec : decide ((k : Int) < L.length) = false := by simp; omega
      have hdecn : decide (k < L.length) = false := by simp; omega
      have B7 := hide (B6.out.trans (below_less hbr B6.out.size))
      clear hbr
      go_wp2
      go_ret
      exact ⟨rfl, B7.out⟩
end Go.Proofs.YtbbocgeapofloaiGreatDoor
set_option linter.unusedSimpArgs false
set_option linter.unusedVariables false
namespace Go.Proofs.YtbbocgeapofloaiGreatDoor
open Go.RowKit Go.Maps Go.Lib

variable {w : World} {a : Addr}

theorem refAll_zero {b : ByteArray} {T : List Tok} {q : Int} (h : refAll b = (T, 0, q)) : q = 0 := by
  unfold refAll at h
  split at h
  · rename_i he
    simp only [Prod.mk.injEq] at h
    exact absurd h.2.1 he
  · simp only [Prod.mk.injEq] at h
    exact h.2.2.symm

theorem tokenJoined_ok (one two : ByteArray) (w : World) (gl : Gl w a) (hb1 : one.size ≤ 1073741824) (hb2 : two.size ≤ 1073741824) : Calls Tryz.prog 3 #[.string one, .string two] w fun e w' => e = .returned (.bool true) ∧ Below w.heap.size w w' := by
  have hgl := fun w' (h : Below w.heap.size w w') => gl.below gl.size h
  have hall : ∀ w', Below w.heap.size w w' → ∀ b : ByteArray, b.size ≤ 2147483648 → Calls Tryz.prog 4 #[.string b] w' (AllEnd w' (refAll b)) := fun w' h b hb => by
    have := all_ok b w' (hgl w' h) hb
    rw [all_ref] at this
    exact this
  have href : ∀ (b : ByteArray), b.size ≤ 2147483648 → ∀ w', Calls Tryz.prog 5 #[.string b] w' (RefEnd w' (refAll b).2.1 (refAll b).2.2) := fun b hb w' => by
    refine (refAll_ok b w' hb).mono ?_
    rintro e w'' ⟨v, rfl, _, hbl⟩
    exact ⟨v, rfl, hbl⟩
  have hali := fun w' (h : Below w.heap.size w w') => alive_ok (hgl w' h)
  have hsz : (one ++ two).size = one.size + two.size := by simp
  have hadd : ∀ W, (Op.stringOp .add one two).run Tryz.prog W = .ok (.string (one ++ two)) W := fun W => run_string_add_sum _ _ _ (by omega)
  have p2 := places two
  have hj := refAll_joined one two
  have a1 := fun w' h => hall w' h one (by omega)
  have a2 := fun w' h => hall w' h two (by omega)
  have a3 := fun w' h => hall w' h (one ++ two) (by rw [hsz]; omega)
  have r1 := href one (by omega)
  have r2 := href two (by omega)
  clear hall href
  generalize h1 : refAll one = Z1 at *
  generalize h2 : refAll two = Z2 at *
  obtain ⟨T1, n1, q1⟩ := Z1
  obtain ⟨T2, n2, q2⟩ := Z2
  simp only at *
  by_cases hn1 : n1 = 0
  · subst hn1
    have hlast : (∃ m, T1.length = m + 1) ∨ T1.length = 0 := by
      cases hT : T1.length with
      | zero => exact Or.inr rfl
      | succ m => exact Or.inl ⟨m, rfl⟩
    have both : (∀ (h : 0 < T1.length), (T1[T1.length - 1]).kind ≠ 3) → (∀ (L : List Tok) (n3 q3 : Int), refAll (one ++ two) = (L, n3, q3) → (n2 = 0 → n3 = 0 ∧ L = T1 ++ T2.map (Tok.on one.size)) ∧ (n2 ≠ 0 → n3 = n2 ∧ q3 = q2 + one.size)) := by
      intro hk L n3 q3 e
      have e2 := hj T1 q1 rfl hk
      rw [e] at e2
      constructor
      · intro hn
        rw [if_pos hn] at e2
        simp only [Prod.mk.injEq] at e2
        exact ⟨e2.2.1, e2.1⟩
      · intro hn
        rw [if_neg hn] at e2
        simp only [Prod.mk.injEq] at e2
        exact ⟨e2.2.1, e2.2.2⟩
    generalize h3 : refAll (one ++ two) = Z3 at *
    obtain ⟨L, n3, q3⟩ := Z3
    have hright : L = T1 ++ T2.map (Tok.on one.size) → (∀ k (h : k < T1.length) (h' : k < L.length), L[k] = T1[k]) ∧ (∀ k j (h' : k < L.length) (hj : j < T2.length), k = T1.length + j → L[k] = (T2[j]).on one.size) ∧ L.length = T1.length + T2.length := by
      rintro rfl
      refine ⟨fun k h h' => joined_left _ _ _ k h h', fun k j h' hj e => ?_, by simp⟩
      have := joined_right T1 T2 one.size k (by omega) h' (by omega)
      rw [this]
      simp only [show k - T1.length = j by omega]
    have hat : ∀ j (hj : j < T2.length), 0 ≤ (T2[j]).at_ ∧ (T2[j]).at_ + one.size ≤ 4294967296 := fun j hj => by
      have := p2.1 (T2[j]) (List.getElem_mem hj)
      omega
    rcases hlast with ⟨m, hm⟩ | hm
    · obtain ⟨kd, hkd⟩ : ∃ kd : Int, ∀ h : m < T1.length, (T1[m]).kind = kd := ⟨(T1[m]'(by omega)).kind, fun _ => rfl⟩
      by_cases hk3 : kd = 3
      · exact joined_text one two w T1 T2 0 n2 q1 q2 a1 a2 r1 r2 hali m kd hm hkd (by simpa using hk3) rfl
      · have hk : ∀ (h : 0 < T1.length), (T1[T1.length - 1]).kind ≠ 3 := fun h => by
          have := hkd (by omega)
          simp only [hm, Nat.add_sub_cancel]
          rw [this]; exact hk3
        have hb := both hk L n3 q3 rfl
        have e3 : (kd == 3) = false := by simpa using hk3
        by_cases hn2 : n2 = 0
        · obtain ⟨x1, x2⟩ := hb.1 hn2
          obtain ⟨y1, y2, y3⟩ := hright x2
          exact joined_bothM one two w T1 T2 0 n2 q1 q2 a1 a2 r1 r2 hali L n3 q3 a3 hadd y1 y2 y3 hat m kd hm hkd e3 rfl hn2 x1
        · obtain ⟨x1, x2⟩ := hb.2 hn2
          exact joined_twoM one two w T1 T2 0 n2 q1 q2 a1 a2 r1 r2 hali L n3 q3 a3 hadd m kd hm hkd e3 rfl hn2 x1 x2 p2.2.1 (by omega)
    · have hk : ∀ (h : 0 < T1.length), (T1[T1.length - 1]).kind ≠ 3 := fun h => by omega
      have hb := both hk L n3 q3 rfl
      by_cases hn2 : n2 = 0
      · obtain ⟨x1, x2⟩ := hb.1 hn2
        obtain ⟨y1, y2, y3⟩ := hright x2
        exact joined_bothE one two w T1 T2 0 n2 q1 q2 a1 a2 r1 r2 hali L n3 q3 a3 hadd y1 y2 y3 hat hm rfl hn2 x1
      · obtain ⟨x1, x2⟩ := hb.2 hn2
        exact joined_twoE one two w T1 T2 0 n2 q1 q2 a1 a2 r1 r2 hali L n3 q3 a3 hadd (List.eq_nil_of_length_eq_zero hm) rfl hn2 x1 x2 p2.2.1 (by omega)
  · exact joined_bad one two w T1 T2 n1 n2 q1 q2 a1 a2 r1 r2 hali hn1
end Go.Proofs.YtbbocgeapofloaiGreatDoor
