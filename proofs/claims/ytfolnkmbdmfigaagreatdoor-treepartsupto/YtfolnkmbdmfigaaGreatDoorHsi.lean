import Derived.Laws.StructEq
import Derived.Test.YtfolnkmbdmfigaaGreatDoorHsh
set_option linter.unusedVariables false
set_option linter.unusedSimpArgs false
set_option linter.unusedSimpArgs false
set_option linter.unusedVariables false
namespace Go.Proofs.YtfolnkmbdmfigaaGreatDoor
open Go.RowKit Go.Maps Go.Lib
variable {A K : Nat → Prop} {w w' w1 wr : World} {a : Addr} {nv : Value} {av kv : Nat → Value} {l : List Nd}

structure NView (w : World) (ai : Option Addr) (l : List Nd) : Prop where
  len : (l.length : Int) ≤ 9223372036854775807
  at_ : ∀ i x, l[i]? = some x → ∃ g o va ve, ai = some ⟨g, o, none⟩ ∧ w.cell? ⟨g, o + i * 5, none⟩ = some (.string ⟨x.name.toArray⟩) ∧ w.cell? ⟨g, o + i * 5 + 1, none⟩ = some va ∧ w.cell? ⟨g, o + i * 5 + 2, none⟩ = some (.string ⟨x.text.toArray⟩) ∧ w.cell? ⟨g, o + i * 5 + 3, none⟩ = some ve ∧ w.cell? ⟨g, o + i * 5 + 4, none⟩ = some (.int .i64 x.up) ∧
    w.ownsRow 0 44 2 va x.attrs.length (attrCells x.attrs) ∧ w.ownsRow 0 3 1 ve x.kids.length (kidCells x.kids)
structure AlikeAt (x y : Nd) (by_ : Int) : Prop where
  name : x.name = y.name
  text : x.text = y.text
  attrs : x.attrs = y.attrs
  kids : x.kids.length = y.kids.length
  kid : ∀ (k p q : Nat), x.kids[k]? = some p → y.kids[k]? = some q → (p : Int) + by_ = (q : Int) ∧ (q : Int) ≤ 4611686018427387904
structure AlikeN (la lb : List Nd) (by_ : Int) : Prop where
  len : la.length = lb.length
  one : ∀ i x y, la[i]? = some x → lb[i]? = some y → AlikeAt x y by_ ∧ (0 < i → x.up + by_ = y.up ∧ -1 ≤ y.up ∧ y.up ≤ 4611686018427387904)
structure Pair4 (w : World) (g1 o1 g2 o2 i : Nat) (by_ : Int) (nm tx : List UInt8) (ai bi ki li : Option Addr) (ac bc kc lc NA NK : Nat) (u1 u2 : Int) : Prop where
  a0 : w.cell? ⟨g1, o1 + i * 5, none⟩ = some (.string ⟨nm.toArray⟩)
  a1 : w.cell? ⟨g1, o1 + i * 5 + 1, none⟩ = some (.slice ai NA ac)
  a2 : w.cell? ⟨g1, o1 + i * 5 + 2, none⟩ = some (.string ⟨tx.toArray⟩)
  a3 : w.cell? ⟨g1, o1 + i * 5 + 3, none⟩ = some (.slice ki NK kc)
  a4 : w.cell? ⟨g1, o1 + i * 5 + 4, none⟩ = some (.int .i64 u1)
  b0 : w.cell? ⟨g2, o2 + i * 5, none⟩ = some (.string ⟨nm.toArray⟩)
  b1 : w.cell? ⟨g2, o2 + i * 5 + 1, none⟩ = some (.slice bi NA bc)
  b2 : w.cell? ⟨g2, o2 + i * 5 + 2, none⟩ = some (.string ⟨tx.toArray⟩)
  b3 : w.cell? ⟨g2, o2 + i * 5 + 3, none⟩ = some (.slice li NK lc)
  b4 : w.cell? ⟨g2, o2 + i * 5 + 4, none⟩ = some (.int .i64 u2)
  up : 0 < i → IntKind.i64.wrap (u1 + by_) = u2
  kid : ∀ W, Below w.heap.size w W → ∀ k, k < NK → ∃ h1 h2, ki = some ⟨h1, 0, none⟩ ∧ li = some ⟨h2, 0, none⟩ ∧ (NK : Int) ≤ 9223372036854775807 ∧ ∃ p q : Int, W.cell? ⟨h1, k, none⟩ = some (.int .i64 p) ∧ W.cell? ⟨h2, k, none⟩ = some (.int .i64 q) ∧ IntKind.i64.wrap (p + by_) = q
  attr : ∀ W, Below w.heap.size w W → ∀ k, k < NA → ∃ h1 h2, ai = some ⟨h1, 0, none⟩ ∧ bi = some ⟨h2, 0, none⟩ ∧ (NA : Int) ≤ 9223372036854775807 ∧ ∃ x y : ByteArray, W.cell? ⟨h1, k * 2, none⟩ = some (.string x) ∧ W.cell? ⟨h1, k * 2 + 1, none⟩ = some (.string y) ∧ W.cell? ⟨h2, k * 2, none⟩ = some (.string x) ∧ W.cell? ⟨h2, k * 2 + 1, none⟩ = some (.string y)
theorem NView.keep {ai : Option Addr} (h : NView w ai l) (hb : Below w.heap.size w w') : NView w' ai l := by
  refine ⟨h.len, fun i x hi => ?_⟩
  obtain ⟨g, o, va, ve, e, c0, c1, c2, c3, c4, r1, r2⟩ := h.at_ i x hi
  have hg : g < w.heap.size := World.block_lt_of_cell? w _ c0
  have up : ∀ j v, w.cell? ⟨g, j, none⟩ = some v → w'.cell? ⟨g, j, none⟩ = some v := fun j v hj => (World.cell?_of_block (hb.block g hg)).trans hj
  exact ⟨g, o, va, ve, e, up _ _ c0, up _ _ c1, up _ _ c2, up _ _ c3, up _ _ c4, owns_of r1 fun k e => hb.block k (own_lt r1 e), owns_of r2 fun k e => hb.block k (own_lt r2 e)⟩
theorem pair4 {la lb : List Nd} {ai bi : Option Addr} {by_ : Int} (h1 : NView w ai la) (h2 : NView w bi lb) (h : AlikeN la lb by_) (hby : -4611686018427387904 ≤ by_ ∧ by_ ≤ 4611686018427387904) (i : Nat) (hi : i < la.length) :
    ∃ g1 o1 g2 o2, ai = some ⟨g1, o1, none⟩ ∧ bi = some ⟨g2, o2, none⟩ ∧ ∃ nm tx ai bi ki li ac bc kc lc NA NK u1 u2, Pair4 w g1 o1 g2 o2 i by_ nm tx ai bi ki li ac bc kc lc NA NK u1 u2 := by
  obtain ⟨x, hx⟩ : ∃ x, la[i]? = some x := ⟨_, List.getElem?_eq_getElem hi⟩
  obtain ⟨y, hy⟩ : ∃ y, lb[i]? = some y := ⟨_, List.getElem?_eq_getElem (by rw [← h.len]; exact hi)⟩
  obtain ⟨⟨e1, e2, e3, e4, e5⟩, e6⟩ := h.one i x y hx hy
  obtain ⟨g1, o1, va, ve, rfl, a0, a1, a2, a3, a4, r1, r2⟩ := h1.at_ i x hx
  obtain ⟨g2, o2, vb, vf, rfl, b0, b1, b2, b3, b4, s1, s2⟩ := h2.at_ i y hy
  obtain ⟨pa, ca, rfl⟩ := slice_len r1
  obtain ⟨pb, cb, rfl⟩ := slice_len s1
  obtain ⟨qa, da, rfl⟩ := slice_len r2
  obtain ⟨qb, db, rfl⟩ := slice_len s2
  refine ⟨g1, o1, g2, o2, rfl, rfl, x.name, x.text, pa, pb, qa, qb, ca, cb, da, db, x.attrs.length, x.kids.length, x.up, y.up, a0, a1, a2, a3, a4, by rw [e1]; exact b0, by rw [e3]; exact b1, by rw [e2]; exact b2, by rw [e4]; exact b3, b4, fun hp => ?_, fun W hW k hk => ?_, fun W hW k hk => ?_⟩
  · obtain ⟨e7, e8, e9⟩ := e6 hp
    rw [e7, IntKind.wrap_i64]; omega
  · obtain ⟨ga, c1, ea, x1, m1⟩ := kid_cell (n := 0) r2 k hk
    obtain ⟨gb, c2, eb, y1, m2⟩ := kid_cell (n := 0) s2 k (by rw [← e4]; exact hk)
    cases ea
    cases eb
    obtain ⟨e7, e8⟩ := e5 k _ _ (List.getElem?_eq_getElem hk) (List.getElem?_eq_getElem (by rw [← e4]; exact hk))
    refine ⟨ga, gb, rfl, rfl, by have : maxLen = 9223372036854775807 := rfl; omega, _, _, (World.cell?_of_block (hW.block ga (own_lt r2 rfl))).trans x1, (World.cell?_of_block (hW.block gb (own_lt s2 rfl))).trans y1, ?_⟩
    rw [e7, IntKind.wrap_i64]; omega
  · obtain ⟨ga, c1, ea, x1, x2, m1⟩ := attr_two r1 k hk
    obtain ⟨gb, c2, eb, y1, y2, m2⟩ := attr_two s1 k (by rw [← e3]; exact hk)
    cases ea
    cases eb
    have e7 : y.attrs[k]'(by rw [← e3]; exact hk) = x.attrs[k] := by simp only [e3]
    rw [e7] at y1 y2
    exact ⟨ga, gb, rfl, rfl, by have : maxLen = 9223372036854775807 := rfl; omega, _, _, (World.cell?_of_block (hW.block ga (own_lt r1 rfl))).trans x1, (World.cell?_of_block (hW.block ga (own_lt r1 rfl))).trans x2, (World.cell?_of_block (hW.block gb (own_lt s1 rfl))).trans y1, (World.cell?_of_block (hW.block gb (own_lt s1 rfl))).trans y2⟩
theorem guard44 : Tryz.prog.eqGuardType Tryz.prog.depth 44 = false := by kernel_rfl
theorem equal44 (x y : ByteArray) (w : World) : (Op.equalIn 10000 44 (.agg #[.string x, .string y]) (.agg #[.string x, .string y])).run Tryz.prog w = .ok true w := by
  have u9 := Tryz.underlying9
  have a9 := Tryz.isAgg9
  have z9 := Tryz.sizeOf9
  have hS : Tryz.prog.underlying 44 = some (.struct (Tryz.prog.fieldsOf 44)) := by kernel_rfl
  have hp : Tryz.prog.stoodInHeld 44 = false := by kernel_rfl
  rw [show (10000 : Nat) = 9999 + 1 from rfl, run_equalIn_agg w 9999 44 _ _ hS hp]
  simp only [Program.fieldsOf, Tryz.underlying44]
  go_simp
theorem neq44 (x y : ByteArray) (w : World) : (binOp .neq 44 (.agg #[.string x, .string y]) (.agg #[.string x, .string y])).run Tryz.prog w = .ok (.bool false) w := by
  have h := equal44 x y w
  simp [go_sem, binOp, Op.equal, Op.maxDepth, h]
theorem bon' {A B C : World} (h1 : Below A.heap.size A B) (h2 : Below B.heap.size B C) : Below A.heap.size A C := h1.trans (below_less h2 h1.size)
set_option maxHeartbeats 16000000 in
set_option maxRecDepth 100000 in
theorem alike_ok {la lb : List Nd} (ai bi : Option Addr) (ac bc : Nat) (by_ : Int) (h1 : NView w ai la) (h2 : NView w bi lb) (h : AlikeN la lb by_) (hby : -4611686018427387904 ≤ by_ ∧ by_ ≤ 4611686018427387904) :
    Calls Tryz.prog 19 #[.slice ai la.length ac, .slice bi lb.length bc, .int .i64 by_] w fun e w' => e = .returned (.bool true) ∧ Below w.heap.size w w' := by
  have hlen := h1.len
  have hp : ∀ W, Below w.heap.size w W → ∀ i, i < la.length → ∃ g1 o1 g2 o2, ai = some ⟨g1, o1, none⟩ ∧ bi = some ⟨g2, o2, none⟩ ∧ ∃ nm tx ai bi ki li ac bc kc lc NA NK u1 u2, Pair4 W g1 o1 g2 o2 i by_ nm tx ai bi ki li ac bc kc lc NA NK u1 u2 := fun W hW i hi => pair4 (h1.keep hW) (h2.keep hW) h hby i hi
  rw [← h.len]
  have HP := hide hp
  clear hp h1 h2 h hby
  generalize la.length = n at *
  have hnn : ((n : Int) != n) = false := by simp
  go_enter Tryz.func19, Tryz.ntmps19
  go_wp2_with fail
  go_loopw [7, 8, 9, 10, 11] (fun iv _ _ _ _ wr => ∃ i : Nat, iv = .int .i64 i ∧ i ≤ n ∧ Below w.heap.size w wr) (fun iv _ _ _ _ _ => n - (RowKit.intOf iv).toNat)
  case atStart => exact ⟨0, rfl, Nat.zero_le _, Below.refl _ _⟩
  case round =>
    rename World => WO
    obtain ⟨i, rfl, hi, hb⟩ := hrel
    by_cases hlt : i < n
    · obtain ⟨g1, o1, g2, o2, rfl, rfl, nm, tx, ai, bi, ki, li, ac, bc, kc, lc, NA, NK, u1, u2, p⟩ := HP.out _ hb i hlt
      have hdec : decide ((i : Int) < n) = true := by simp; omega
      have hii : (i : Int) < n := by omega
      obtain ⟨a0, a1, a2, a3, a4, b0, b1, b2, b3, b4, hup, hkid, hattr⟩ := p
      have hb0 : ∀ o : Obj, (WO.alloc o).cell? ⟨g2, o2 + i * 5, none⟩ = some (.string ⟨nm.toArray⟩) := fun o => cell_alloc o b0
      have hb1 : ∀ o : Obj, (WO.alloc o).cell? ⟨g2, o2 + i * 5 + 1, none⟩ = some (.slice bi NA bc) := fun o => cell_alloc o b1
      have hb2 : ∀ o : Obj, (WO.alloc o).cell? ⟨g2, o2 + i * 5 + 2, none⟩ = some (.string ⟨tx.toArray⟩) := fun o => cell_alloc o b2
      have hb3 : ∀ o : Obj, (WO.alloc o).cell? ⟨g2, o2 + i * 5 + 3, none⟩ = some (.slice li NK lc) := fun o => cell_alloc o b3
      have hb4 : ∀ o : Obj, (WO.alloc o).cell? ⟨g2, o2 + i * 5 + 4, none⟩ = some (.int .i64 u2) := fun o => cell_alloc o b4
      obtain ⟨O1, hO1⟩ : ∃ O : Obj, Obj.cells #[.string ⟨nm.toArray⟩, .slice ai NA ac, .string ⟨tx.toArray⟩, .slice ki NK kc, .int .i64 u1] 42 = O := ⟨_, rfl⟩
      obtain ⟨O2, hO2⟩ : ∃ O : Obj, Obj.cells #[.string ⟨nm.toArray⟩, .slice bi NA bc, .string ⟨tx.toArray⟩, .slice li NK lc, .int .i64 u2] 42 = O := ⟨_, rfl⟩
      have hbox : ∀ W, Below (WO.heap.size + 2) ((WO.alloc O1).alloc O2) W → (W.cell? ⟨WO.heap.size, 0, none⟩ = some (.string ⟨nm.toArray⟩) ∧ W.cell? ⟨WO.heap.size, 1, none⟩ = some (.slice ai NA ac) ∧ W.cell? ⟨WO.heap.size, 2, none⟩ = some (.string ⟨tx.toArray⟩) ∧ W.cell? ⟨WO.heap.size, 3, none⟩ = some (.slice ki NK kc) ∧ W.cell? ⟨WO.heap.size, 4, none⟩ = some (.int .i64 u1)) ∧ (W.cell? ⟨WO.heap.size + 1, 0, none⟩ = some (.string ⟨nm.toArray⟩) ∧ W.cell? ⟨WO.heap.size + 1, 1, none⟩ = some (.slice bi NA bc) ∧ W.cell? ⟨WO.heap.size + 1, 2, none⟩ = some (.string ⟨tx.toArray⟩) ∧ W.cell? ⟨WO.heap.size + 1, 3, none⟩ = some (.slice li NK lc) ∧ W.cell? ⟨WO.heap.size + 1, 4, none⟩ = some (.int .i64 u2)) := fun W hW => by
        have hx : W.heap[WO.heap.size]? = some (.cells #[.string ⟨nm.toArray⟩, .slice ai NA ac, .string ⟨tx.toArray⟩, .slice ki NK kc, .int .i64 u1] 42) := by
          rw [hW.block WO.heap.size (by omega), Below.heap_alloc _ _ _ (by simp), hO1]; exact Below_new _ _
        have hy : W.heap[WO.heap.size + 1]? = some (.cells #[.string ⟨nm.toArray⟩, .slice bi NA bc, .string ⟨tx.toArray⟩, .slice li NK lc, .int .i64 u2] 42) := by
          rw [hW.block (WO.heap.size + 1) (by omega), hO2]
          have := Below_new (WO.alloc O1) O2
          simpa using this
        exact ⟨⟨cell_of hx rfl, cell_of hx rfl, cell_of hx rfl, cell_of hx rfl, cell_of hx rfl⟩, cell_of hy rfl, cell_of hy rfl, cell_of hy rfl, cell_of hy rfl, cell_of hy rfl⟩
      have hdown : ∀ W, Below (WO.heap.size + 2) ((WO.alloc O1).alloc O2) W → Below WO.heap.size WO W := fun W hW => (((Below.refl _ WO).alloc (Nat.le_refl _) O1).alloc (by simp) O2).trans (below_less hW (by omega))
      obtain ⟨⟨x0, x1, x2, x3, x4⟩, y0, y1, y2, y3, y4⟩ := hbox _ (Below.refl _ _)
      have HBX := hide hbox
      have HDN := hide hdown
      have HKD := hide hkid
      have HAT := hide hattr
      have HB := hide hb
      have hnt : (nm != nm) = false := by simp
      have htt : (tx != tx) = false := by simp
      clear hbox hdown hkid hattr hb b0 b1 b2 b3 b4
      obtain ⟨pb, hpb, hpb2, hpb3, hup2⟩ : ∃ pb : Bool, decide ((i : Int) > 0) = pb ∧ decide (0 < (i : Int)) = pb ∧ decide (0 < i) = pb ∧ (pb = true → IntKind.i64.wrap (u1 + by_) = u2) := by
        by_cases hi0 : 0 < i
        · exact ⟨true, by simp; omega, by simp; omega, by simp; omega, fun _ => hup hi0⟩
        · exact ⟨false, by simp; omega, by simp; omega, by simp; omega, fun e => by cases e⟩
      clear hup
      cases pb with
      | false =>
        clear hup2
        go_wp2_with fail
        go_loopw [10] (fun jv w2 => ∃ j : Nat, jv = .int .i64 j ∧ j ≤ NK ∧ Below (WO.heap.size + 2) ((WO.alloc O1).alloc O2) w2) (fun jv _ => NK - (RowKit.intOf jv).toNat)
        case atStart => exact ⟨0, rfl, Nat.zero_le _, Below.refl _ _⟩
        case round =>
          obtain ⟨j, rfl, hj, hb2⟩ := hrel
          obtain ⟨⟨c0, c1, c2, c3, c4⟩, d0, d1, d2, d3, d4⟩ := HBX.out _ hb2
          have HB2 := hide hb2
          clear hb2 c0 c2 c4 d0 d2 d4
          by_cases hlj : j < NK
          · obtain ⟨h1, h2, rfl, rfl, hmx, pp, qq, e1, e2, e3⟩ := HKD.out _ (HDN.out _ HB2.out) j hlj
            have hdj : decide ((j : Int) < NK) = true := by simp; omega
            have hji : (j : Int) < NK := by omega
            have hqq : (qq != qq) = false := by simp
            go_wp2_with fail
            go_quiet (fail)
            go_wp2
            go_roundw
            case rel => exact ⟨j + 1, by simp, by omega, below_drewN HB2.out _⟩
            case measure => simp only [RowKit.intOf]; omega
          · have hdj : decide ((j : Int) < NK) = false := by simp; omega
            clear hj
            go_wp2_with fail
            go_loopw [11] (fun jv w2 => ∃ j : Nat, jv = .int .i64 j ∧ j ≤ NA ∧ Below (WO.heap.size + 2) ((WO.alloc O1).alloc O2) w2) (fun jv _ => NA - (RowKit.intOf jv).toNat)
            case atStart => exact ⟨0, rfl, Nat.zero_le _, HB2.out⟩
            case round =>
              obtain ⟨r, rfl, hr, hb3⟩ := hrel
              obtain ⟨⟨c0', c1', c2', c3', c4'⟩, d0', d1', d2', d3', d4'⟩ := HBX.out _ hb3
              have HB3 := hide hb3
              clear hb3 c0' c2' c4' d0' d2' d4' c1 c3 d1 d3
              by_cases hlr : r < NA
              · obtain ⟨h1, h2, rfl, rfl, hmx, xx, yy, e1, e2, e3, e4⟩ := HAT.out _ (HDN.out _ HB3.out) r hlr
                have hdr : decide ((r : Int) < NA) = true := by simp; omega
                have hri : (r : Int) < NA := by omega
                have hgd := guard44
                have hne := neq44
                go_wp2_with fail
                go_quiet (fail)
                go_wp2
                go_roundw
                case rel => exact ⟨r + 1, by simp, by omega, below_drewN HB3.out _⟩
                case measure => simp only [RowKit.intOf]; omega
              · have hdr : decide ((r : Int) < NA) = false := by simp; omega
                go_wp2
                exact ⟨⟨i + 1, by simp, by omega, bon' HB.out (HDN.out _ HB3.out)⟩, by simp only [RowKit.intOf]; omega⟩
      | true =>
        have hup := hup2 rfl
        have huu : (u2 != u2) = false := by simp
        clear hup2
        go_wp2_with fail
        go_loopw [10] (fun jv w2 => ∃ j : Nat, jv = .int .i64 j ∧ j ≤ NK ∧ Below (WO.heap.size + 2) ((WO.alloc O1).alloc O2) w2) (fun jv _ => NK - (RowKit.intOf jv).toNat)
        case atStart => exact ⟨0, rfl, Nat.zero_le _, Below.refl _ _⟩
        case round =>
          obtain ⟨j, rfl, hj, hb2⟩ := hrel
          obtain ⟨⟨c0, c1, c2, c3, c4⟩, d0, d1, d2, d3, d4⟩ := HBX.out _ hb2
          have HB2 := hide hb2
          clear hb2 c0 c2 c4 d0 d2 d4
          by_cases hlj : j < NK
          · obtain ⟨h1, h2, rfl, rfl, hmx, pp, qq, e1, e2, e3⟩ := HKD.out _ (HDN.out _ HB2.out) j hlj
            have hdj : decide ((j : Int) < NK) = true := by simp; omega
            have hji : (j : Int) < NK := by omega
            have hqq : (qq != qq) = false := by simp
            go_wp2_with fail
            go_quiet (fail)
            go_wp2
            go_roundw
            case rel => exact ⟨j + 1, by simp, by omega, below_drewN HB2.out _⟩
            case measure => simp only [RowKit.intOf]; omega
          · have hdj : decide ((j : Int) < NK) = false := by simp; omega
            clear hj
            go_wp2_with fail
            go_loopw [11] (fun jv w2 => ∃ j : Nat, jv = .int .i64 j ∧ j ≤ NA ∧ Below (WO.heap.size + 2) ((WO.alloc O1).alloc O2) w2) (fun jv _ => NA - (RowKit.intOf jv).toNat)
            case atStart => exact ⟨0, rfl, Nat.zero_le _, HB2.out⟩
            case round =>
              obtain ⟨r, rfl, hr, hb3⟩ := hrel
              obtain ⟨⟨c0', c1', c2', c3', c4'⟩, d0', d1', d2', d3', d4'⟩ := HBX.out _ hb3
              have HB3 := hide hb3
              clear hb3 c0' c2' c4' d0' d2' d4' c1 c3 d1 d3
              by_cases hlr : r < NA
              · obtain ⟨h1, h2, rfl, rfl, hmx, xx, yy, e1, e2, e3, e4⟩ := HAT.out _ (HDN.out _ HB3.out) r hlr
                have hdr : decide ((r : Int) < NA) = true := by simp; omega
                have hri : (r : Int) < NA := by omega
                have hgd := guard44
                have hne := neq44
                go_wp2_with fail
                go_quiet (fail)
                go_wp2
                go_roundw
                case rel => exact ⟨r + 1, by simp, by omega, below_drewN HB3.out _⟩
                case measure => simp only [RowKit.intOf]; omega
              · have hdr : decide ((r : Int) < NA) = false := by simp; omega
                go_wp2
                exact ⟨⟨i + 1, by simp, by omega, bon' HB.out (HDN.out _ HB3.out)⟩, by simp only [RowKit.intOf]; omega⟩
    · have hdec : decide ((i : Int) < n) = false := by simp; omega
      have HB := hide hb
      clear hb
      go_wp2
      go_ret
      exact ⟨rfl, HB.out⟩
end Go.Proofs.YtfolnkmbdmfigaaGreatDoor

set_option linter.unusedSimpArgs false
set_option linter.unusedVariables false
namespace Go.Proofs.YtfolnkmbdmfigaaGreatDoor
open Go.RowKit Go.Maps Go.Lib
variable {A K : Nat → Prop} {w w' w1 wr : World} {a : Addr} {nv : Value} {av kv : Nat → Value} {l : List Nd}
theorem Nodes.view (h : Nodes 42 44 A K w nv l av kv) {g cap : Nat} (hv : nv = .slice (some ⟨g, 0, none⟩) l.length cap) (o n : Nat) (ho : o + n ≤ l.length) : NView w (some ⟨g, o * 5, none⟩) ((l.drop o).take n) := by
  have hlen : ((l.drop o).take n).length ≤ l.length := by simp; omega
  refine ⟨?_, fun i x hi => ?_⟩
  · by_cases h0 : l.length = 0
    · omega
    · obtain ⟨g', cap', _, hml, _⟩ := h.cells 0 _ (List.getElem?_eq_getElem (by omega))
      have : maxLen = 9223372036854775807 := rfl
      omega
  · rw [List.getElem?_take] at hi
    split at hi
    · rename_i hin
      rw [List.getElem?_drop] at hi
      obtain ⟨g', cap', e, hml, _, c0, c1, c2, c3, c4⟩ := h.cells (o + i) x hi
      rw [hv] at e
      cases e
      have e1 : (o + i) * 5 = o * 5 + i * 5 := by omega
      rw [e1] at c0 c1 c2 c3 c4
      exact ⟨g, o * 5, _, _, rfl, c0, c1, c2, c3, c4, h.attr _ _ hi, h.kid _ _ hi⟩
    · cases hi
theorem Nodes.viewAll (h : Nodes 42 44 A K w nv l av kv) {g cap : Nat} (hv : nv = .slice (some ⟨g, 0, none⟩) l.length cap) : NView w (some ⟨g, 0, none⟩) l := by
  have := h.view hv 0 l.length (by omega)
  rw [List.drop_zero, List.take_length, Nat.zero_mul] at this
  exact this
theorem flat_bounds : ∀ (f : Fo) (m : Nat) (u : Int), ∀ nd ∈ f.flat m u, (∀ q ∈ nd.kids, q < m + f.size) ∧ (nd.up = u ∨ ((m : Int) ≤ nd.up ∧ nd.up < (m : Int) + f.size))
  | .nil, m, u, nd, h => by simp [Fo.flat] at h
  | .text t r, m, u, nd, h => by
    simp only [Fo.flat, List.mem_cons] at h
    simp only [Fo.size]
    rcases h with rfl | h
    · exact ⟨fun q hq => by simp at hq, Or.inl rfl⟩
    · obtain ⟨x, y⟩ := flat_bounds r (m + 1) u nd h
      exact ⟨fun q hq => by have := x q hq; omega, y.imp id fun z => by omega⟩
  | .elem n a k r, m, u, nd, h => by
    simp only [Fo.flat, List.mem_cons, List.mem_append] at h
    simp only [Fo.size]
    rcases h with rfl | h | h
    · exact ⟨fun q hq => by have := tops_lt k (m + 1) q hq; omega, Or.inl rfl⟩
    · obtain ⟨x, y⟩ := flat_bounds k (m + 1) m nd h
      exact ⟨fun q hq => by have := x q hq; omega, Or.inr (by omega)⟩
    · obtain ⟨x, y⟩ := flat_bounds r (m + 1 + k.size) u nd h
      exact ⟨fun q hq => by have := x q hq; omega, y.imp id fun z => by omega⟩
theorem escL_pos' {t : List UInt8} (h : t ≠ []) : 1 ≤ (Ch.escL false t).length := by
  have := Ch.escL_ge false t
  cases t with
  | nil => exact absurd rfl h
  | cons a l => simp only [List.length_cons] at this; omega
theorem size_le_plain : ∀ (f : Fo), f.All GoodT GoodE → f.size ≤ f.plain.length
  | .nil, _ => by simp [Fo.size]
  | .text t r, h => by
    have h1 := size_le_plain r h.2
    have h2 := escL_pos' h.1.2
    simp only [Fo.size, Fo.plain, List.length_append]; omega
  | .elem n a k r, h => by
    have h1 := size_le_plain k h.2.1
    have h2 := size_le_plain r h.2.2
    simp only [Fo.size, Fo.plain, List.length_append, List.length_cons]
    by_cases hz : k.isNil = true
    · have : k.size = 0 := by cases k <;> simp [Fo.isNil, Fo.size] at hz ⊢
      rw [if_pos hz]; simp only [List.length_cons, List.length_nil]; omega
    · rw [if_neg hz]; simp only [List.length_cons, List.length_append]; omega
theorem alike_part (n : List UInt8) (at_ : Ats) (f : Fo) (k : Nat) (u : Int) (hz : k + 1 + f.size ≤ 1099511627776) : AlikeN ((Fo.elem n at_ f .nil).flat k u) ((Fo.elem n at_ f .nil).flat 0 (-1)) (-(k : Int)) := by
  have e1 : f.flat (k + 1) k = (f.flat 1 0).map (Nd.on k) := by
    have := flat_on k f 1 0
    rw [← this, Nat.add_comm 1 k]
    simp
  have e2 : f.tops (k + 1) = (f.tops 1).map (· + k) := by
    have := tops_on k f 1
    rw [← this, Nat.add_comm 1 k]
  have h1 : (Fo.elem n at_ f .nil).flat k u = ⟨n, at_, [], f.tops (k + 1), u⟩ :: f.flat (k + 1) k := by simp [Fo.flat]
  have h2 : (Fo.elem n at_ f .nil).flat 0 (-1) = ⟨n, at_, [], f.tops 1, -1⟩ :: f.flat 1 0 := by simp [Fo.flat]
  rw [h1, h2]
  refine ⟨by simp [e1], fun i x y hx hy => ?_⟩
  cases i with
  | zero =>
    simp only [List.getElem?_cons_zero, Option.some.injEq] at hx hy
    subst hx
    subst hy
    refine ⟨⟨rfl, rfl, rfl, by simp [e2], fun j p q hp hq => ?_⟩, fun h => by omega⟩
    have hq' : (f.tops 1)[j]? = some q := hq
    have hp' : (f.tops (k + 1))[j]? = some p := hp
    rw [e2, List.getElem?_map, hq', Option.map_some, Option.some.injEq] at hp'
    have := tops_lt f 1 q (List.mem_of_getElem? hq')
    omega
  | succ i =>
    simp only [List.getElem?_cons_succ] at hx hy
    rw [e1, List.getElem?_map, hy, Option.map_some, Option.some.injEq] at hx
    subst hx
    obtain ⟨b1, b2⟩ := flat_bounds f 1 0 y (List.mem_of_getElem? hy)
    refine ⟨⟨rfl, rfl, rfl, by simp [Nd.on], fun j p q hp hq => ?_⟩, fun _ => ⟨by simp only [Nd.on]; omega, ?_⟩⟩
    · simp only [Nd.on, List.getElem?_map, hq, Option.map_some, Option.some.injEq] at hp
      have := b1 q (List.mem_of_getElem? hq)
      omega
    · rcases b2 with e | e <;> omega
end Go.Proofs.YtfolnkmbdmfigaaGreatDoor

set_option linter.unusedSimpArgs false
set_option linter.unusedVariables false
namespace Go.Proofs.YtfolnkmbdmfigaaGreatDoor
open Go.RowKit Go.Maps Go.Lib
variable {A K : Nat → Prop} {w w' w1 wr : World} {a : Addr} {nv : Value} {av kv : Nat → Value} {l : List Nd}
theorem Nodes.after' (h : Nodes 42 44 A K w nv l av kv) (hb : Below w.heap.size w w') : Nodes 42 44 A K w' nv l av kv :=
  h.frame (fun k hk _ => hb.block k hk) (fun k hk _ => hb.block k hk) (fun _ _ x => x)
end Go.Proofs.YtfolnkmbdmfigaaGreatDoor

set_option linter.unusedSimpArgs false
set_option linter.unusedVariables false
namespace Go.Proofs.YtfolnkmbdmfigaaGreatDoor
open Go.RowKit Go.Maps Go.Lib
variable {A K : Nat → Prop} {w w' w1 wr : World} {a : Addr} {nv : Value} {av kv : Nat → Value} {l : List Nd}
set_option maxHeartbeats 8000000 in
set_option maxRecDepth 100000 in
theorem treeParts_none (s : ByteArray) (k : Int) (w : World) (gl : Gl w a) (hb : s.size ≤ 268435456) (hno : (parseN s).2.1 ≠ 0 ∨ k < 0 ∨ ((parseN s).1.length : Int) ≤ k ∨ ∃ m x, k = ((m : Nat) : Int) ∧ (parseN s).1[m]? = some x ∧ x.name = []) : Calls Tryz.prog 6 #[.string s, .int .i64 k] w fun e w' => e = .returned (.bool true) ∧ Below w.heap.size w w' := by
  have h1 := parse_ok s w gl hb
  have h2 : ∀ W, Calls Tryz.prog 10 #[.string s] W (RParseEnd W (parseN s)) := fun W => rparse_ok s W hb
  have h3 : ∀ W, Below w.heap.size w W → Calls Tryz.prog 13 #[] W fun e w' => e = .returned (.bool true) ∧ Below W.heap.size W w' := fun W hW => alive_ok (gl.up hW)
  have H1 := hide h1
  have H2 := hide h2
  have H3 := hide h3
  clear h1 h2 h3 gl
  generalize parseN s = x at *
  obtain ⟨L, no, q⟩ := x
  simp only at hno
  by_cases h0 : no = 0
  · subst h0
    by_cases hk0 : k < 0
    · have hd : decide (k < 0) = true := by simpa using hk0
      clear hno
      go_enter Tryz.func6, Tryz.ntmps6
      go_wp2_with (first
        | (go_at_call 9; refine H1.out.mono ?_; rintro e w1 ⟨v, rfl, _, b1, hv⟩; have B1 := hide b1; clear b1 hv)
        | (go_at_call 10; refine (H2.out _).mono ?_; rintro e w3 ⟨v2, rfl, _, b3⟩; have B3 := hide (bon' B1.out b3); clear b3)
        | (go_at_call 12; refine (num_ok _ _).mono ?_; rintro e w5 ⟨rfl, rfl⟩)
        | (go_at_call 13; refine (H3.out _ B3.out).mono ?_; rintro e w6 ⟨rfl, b6⟩; have B6 := hide (bon' B3.out b6); clear b6))
      go_ret
      exact ⟨rfl, B6.out⟩
    · have hd : decide (k < 0) = false := by simpa using hk0
      by_cases hge : (L.length : Int) ≤ k
      · have hd2 : decide (k ≥ (L.length : Int)) = true := by simpa using hge
        have hd3 : decide ((L.length : Int) ≤ k) = true := by simpa using hge
        clear hno
        go_enter Tryz.func6, Tryz.ntmps6
        go_wp2_with (first
          | (go_at_call 9; refine H1.out.mono ?_; rintro e w1 ⟨v, rfl, ⟨A1, K1, av1, kv1, hn, _⟩, b1, hv⟩; obtain ⟨ai, ac, rfl⟩ := slice_len hn.row; have B1 := hide b1; clear b1 hv hn)
          | (go_at_call 10; refine (H2.out _).mono ?_; rintro e w3 ⟨v2, rfl, _, b3⟩; have B3 := hide (bon' B1.out b3); clear b3)
          | (go_at_call 12; refine (num_ok _ _).mono ?_; rintro e w5 ⟨rfl, rfl⟩)
          | (go_at_call 13; refine (H3.out _ B3.out).mono ?_; rintro e w6 ⟨rfl, b6⟩; have B6 := hide (bon' B3.out b6); clear b6))
        go_ret
        exact ⟨rfl, B6.out⟩
      · obtain ⟨m, x, rfl, hx, hnm⟩ : ∃ m x, k = ((m : Nat) : Int) ∧ L[m]? = some x ∧ x.name = [] := by
          rcases hno with h | h | h | h
          · exact absurd rfl h
          · exact absurd h hk0
          · exact absurd h hge
          · exact h
        have hd2 : decide ((m : Int) ≥ (L.length : Int)) = false := by simp; omega
        have hd3 : decide ((L.length : Int) ≤ (m : Int)) = false := by simp; omega
        have hd4 : decide (L.length ≤ m) = false := by simp; omega
        have hmi : (m : Int) < L.length := by omega
        have hmk : ¬ (m : Int) < 0 := by omega
        have hcs : ∀ v A K av kv W, Nodes 42 44 A K W v L av kv → ∃ g cap, v = .slice (some ⟨g, 0, none⟩) L.length cap ∧ W.cell? ⟨g, m * 5, none⟩ = some (.string ⟨#[]⟩) ∧ (L.length : Int) ≤ 9223372036854775807 := fun v A K av kv W hn => by
          obtain ⟨g, cap, e, hml, _, q0, _⟩ := hn.cells m x hx
          rw [hnm] at q0
          have hmx : maxLen = 9223372036854775807 := rfl
          exact ⟨g, cap, e, q0, by omega⟩
        have HCS := hide hcs
        clear hno hx hcs
        go_enter Tryz.func6, Tryz.ntmps6
        go_wp2_with (first
          | (go_at_call 9; refine H1.out.mono ?_; rintro e w1 ⟨v, rfl, ⟨A1, K1, av1, kv1, hn, _⟩, b1, hv⟩; obtain ⟨g, cap, rfl, q0, hmx⟩ := HCS.out _ _ _ _ _ _ hn; have B1 := hide b1; clear b1 hv hn)
          | (go_at_call 10; refine (H2.out _).mono ?_; rintro e w3 ⟨v2, rfl, _, b3⟩; have B3 := hide (bon' B1.out b3); clear b3)
          | (go_at_call 12; refine (num_ok _ _).mono ?_; rintro e w5 ⟨rfl, rfl⟩)
          | (go_at_call 13; refine (H3.out _ B3.out).mono ?_; rintro e w6 ⟨rfl, b6⟩; have B6 := hide (bon' B3.out b6); clear b6))
        go_ret
        exact ⟨rfl, B6.out⟩
  · have hz : (no != 0) = true := by simpa using h0
    have hz2 : (no == 0) = false := by simpa using h0
    clear hno
    go_enter Tryz.func6, Tryz.ntmps6
    go_wp2_with (first
      | (go_at_call 9; refine H1.out.mono ?_; rintro e w1 ⟨v, rfl, _, b1, hv⟩; have B1 := hide b1; clear b1 hv)
      | (go_at_call 10; refine (H2.out _).mono ?_; rintro e w3 ⟨v2, rfl, _, b3⟩; have B3 := hide (bon' B1.out b3); clear b3)
      | (go_at_call 12; refine (num_ok _ _).mono ?_; rintro e w5 ⟨rfl, rfl⟩)
      | (go_at_call 13; refine (H3.out _ B3.out).mono ?_; rintro e w6 ⟨rfl, b6⟩; have B6 := hide (bon' B3.out b6); clear b6))
    go_ret
    exact ⟨rfl, B6.out⟩
end Go.Proofs.YtfolnkmbdmfigaaGreatDoor

set_option linter.unusedSimpArgs false
set_option linter.unusedVariables false
namespace Go.Proofs.YtfolnkmbdmfigaaGreatDoor
open Go.RowKit Go.Maps Go.Lib
variable {A K : Nat → Prop} {w w' w1 wr : World} {a : Addr} {nv : Value} {av kv : Nat → Value} {l : List Nd}
theorem num_back (n : Int) (w : World) : Calls Tryz.prog 12 #[.int .i64 n] w fun e w' => e = .returned (.int .i64 n) ∧ w = w' := (num_ok n w).mono fun e w' h => ⟨h.1, h.2.symm⟩
theorem stands {n : List UInt8} {at_ : Ats} {f : Fo} : ∃ i0, i0 + f.plain.length ≤ (Fo.elem n at_ f .nil).plain.length ∧ ((Fo.elem n at_ f .nil).plain.drop i0).take f.plain.length = f.plain := by
  by_cases hz : f.isNil = true
  · have : f.plain = [] := by cases f <;> simp [Fo.isNil, Fo.plain] at hz ⊢
    exact ⟨0, by rw [this]; simp, by rw [this]; simp⟩
  · refine ⟨(60 :: (n ++ at_.flatMap tagA)).length + 1, ?_, ?_⟩
    · simp only [Fo.plain, if_neg hz, List.length_append, List.length_cons, List.length_nil]; omega
    · have e : (Fo.elem n at_ f .nil).plain = ((60 :: (n ++ at_.flatMap tagA)) ++ [62]) ++ (f.plain ++ ([60, 47] ++ (n ++ [62]))) := by
        simp only [Fo.plain, if_neg hz, List.append_nil, List.append_assoc]
      rw [e]
      have e2 : (60 :: (n ++ at_.flatMap tagA)).length + 1 = ((60 :: (n ++ at_.flatMap tagA)) ++ [62]).length := by rw [List.length_append]; rfl
      rw [e2, List.drop_left, List.take_left]
structure KidsDo (s : ByteArray) (l : List Nd) (w : World) (kids : List Nat) (PV PF : Nat → List UInt8) : Prop where
  zero : PV 0 = [] ∧ PF 0 = []
  next : ∀ i, (h : i < kids.length) → ∃ v p, PV (i + 1) = PV i ++ v ∧ PF (i + 1) = PF i ++ p ∧ (∀ W, Below w.heap.size w W → Calls Tryz.prog 16 #[.string s, .int .i64 (kids[i] : Int)] W (WEnd W v 0 0)) ∧ (∀ W, Below w.heap.size w W → Calls Tryz.prog 15 #[.string s, .int .i64 (kids[i] : Int)] W (WEnd W p 0 0))
  small : ∀ i, (PV i).length ≤ 1099511627776 ∧ (PF i).length ≤ 1099511627776
theorem kidsDo {s : ByteArray} {m : Nat} {n : List UInt8} {at_ : Ats} {f : Fo} (gl : Gl w a) (hb : s.size ≤ 268435456) (h0 : (parseN s).2.1 = 0) (hx : Leaf (parseN s).1 m (Fo.elem n at_ f .nil)) (hl : m + (Fo.elem n at_ f .nil).size ≤ (parseN s).1.length) : KidsDo s (parseN s).1 w (f.tops (m + 1)) (upto Fo.value f) (upto Fo.plain f) := by
  obtain ⟨u, hu⟩ := hx.ex
  obtain ⟨_, hat, _⟩ := hu.elem
  have hlv := upto_le Fo.value f
  have hlp := upto_le Fo.plain f
  rw [parts_value] at hlv
  rw [parts_plain] at hlp
  have hv1 : f.value.length ≤ 549755813888 := by have := hx.vlen; simpa [Fo.value] using this
  have hp1 : f.plain.length ≤ 549755813888 := by
    have h1 := hx.len
    obtain ⟨i0, h2, _⟩ := stands (n := n) (at_ := at_) (f := f)
    omega
  refine ⟨⟨by simp [upto], by simp [upto]⟩, fun i hi => ?_, fun i => ⟨by have := hlv i; omega, by have := hlp i; omega⟩⟩
  have hi2 : i < f.parts.length := by rw [parts_len f (m + 1)]; exact hi
  obtain ⟨t1, t2, t3⟩ := parts_at f (m + 1) hat i hi hi2
  have n1 := upto_next Fo.value f i hi2
  have n2 := upto_next Fo.plain f i hi2
  have l1 := hlv (i + 1)
  have l2 := hlp (i + 1)
  rw [n1, List.length_append] at l1
  rw [n2, List.length_append] at l2
  have hlt := tops_lt f (m + 1) _ (List.getElem_mem hi)
  simp only [Fo.size] at hl
  have hleaf : Leaf (parseN s).1 (f.tops (m + 1))[i] f.parts[i] := ⟨⟨_, t1⟩, t2, parts_all f hx.all.2.1 i hi2, by omega, by omega, by omega⟩
  exact ⟨_, _, n1, n2, fun W hW => value_good s _ (gl.up hW) hb h0 hleaf, fun W hW => sub_good s _ (gl.up hW) hb h0 hleaf⟩
theorem find_step (T F : List UInt8) (i : Nat) (h : i + F.length ≤ T.length) : ((⟨T.toArray⟩ : ByteArray).extract i (i + F.length)).data.toList = (T.drop i).take F.length := by
  simp [List.take_drop]
theorem find_nums (j FN TN : Nat) (h : j ≤ TN + 1) (hF : FN ≤ TN) (hT : TN ≤ 70000000) : IntKind.i64.wrap ((j : Int) + FN) = (j : Int) + FN ∧ wrap64 ((j : Int) + FN) = (j : Int) + FN :=
  ⟨by rw [IntKind.wrap_i64]; omega, by unfold wrap64; omega⟩
theorem find_fin (j FN TN : Nat) (h : j + FN ≤ TN) : j + 1 ≤ TN + 1 ∧ TN + 2 - (RowKit.intOf (.int .i64 ((j : Int) + 1))).toNat < TN + 2 - (RowKit.intOf (.int .i64 (j : Int))).toNat := ⟨by omega, by simp only [RowKit.intOf]; omega⟩
theorem find_past {j FN TN i0 : Nat} {b : Bool} (h : ¬ j + FN ≤ TN) (h0 : i0 + FN ≤ TN) (hb : i0 < j → b = true) : b = true := hb (by omega)
theorem find_cut (TB : ByteArray) (j FN : Nat) (h : j + FN ≤ TB.size) (W : World) : (Instr.slice 9 (.string TB) (some (.int .i64 (j : Int))) (some (.int .i64 ((j : Int) + FN))) none).run Tryz.prog W = .ok (.string (TB.extract j (j + FN))) W := by
  have := run_slice_string (P := Tryz.prog) W 9 TB .i64 .i64 (j : Int) ((j : Int) + FN) Tryz.underlying9 (by omega) (by omega) (by omega)
  rw [this]
  congr 3
theorem part_nums (m SZ N : Nat) (h : m + SZ ≤ N) (hN : N ≤ 70000000) : IntKind.i64.wrap ((m : Int) + SZ) = (m : Int) + SZ ∧ wrap64 ((m : Int) + SZ) = (m : Int) + SZ ∧ decide ((m : Int) + SZ ≤ N) = true ∧ decide (m + SZ ≤ N) = true ∧ IntKind.i64.wrap (-(m : Int)) = -(m : Int) :=
  ⟨by rw [IntKind.wrap_i64]; omega, by unfold wrap64; omega, by simp; omega, by simp; omega, by rw [IntKind.wrap_i64]; omega⟩
theorem find_yes (j FN TN : Nat) (h : j + FN ≤ TN) : decide ((j : Int) + FN ≤ TN) = true ∧ decide (j + FN ≤ TN) = true ∧ (j : Int) + FN ≤ TN := ⟨by simp; omega, by simp; omega, by omega⟩
theorem find_no (j FN TN : Nat) (h : ¬ j + FN ≤ TN) : decide ((j : Int) + FN ≤ TN) = false ∧ decide (j + FN ≤ TN) = false := ⟨by simp; omega, by simp; omega⟩
set_option maxHeartbeats 16000000 in
set_option maxRecDepth 100000 in
theorem treeParts_elem (s : ByteArray) (m : Nat) (w : World) (gl : Gl w a) (hb : s.size ≤ 1048576) (h0 : (parseN s).2.1 = 0) (n : List UInt8) (at_ : Ats) (f : Fo) (hx : Leaf (parseN s).1 m (Fo.elem n at_ f .nil)) (hall : (Fo.elem n at_ f .nil).All GoodT GoodE) (hap : (Fo.elem n at_ f .nil).Apart false) (hdp : (Fo.elem n at_ f .nil).deep ≤ 30) (hls : m + (Fo.elem n at_ f .nil).size ≤ (parseN s).1.length) (hpl : (Fo.elem n at_ f .nil).plain.length ≤ 64 * s.size) (hL : (parseN s).1.length ≤ 70000000) :
    Calls Tryz.prog 6 #[.string s, .int .i64 (m : Int)] w fun e w' => e = .returned (.bool true) ∧ Below w.heap.size w w' := by
  have h1 := parse_ok s w gl (by omega)
  obtain ⟨u, hu⟩ := hx.ex
  obtain ⟨hnd, hat, _⟩ := hu.elem
  have hV : ∀ W, Below w.heap.size w W → Calls Tryz.prog 16 #[.string s, .int .i64 (m : Int)] W (WEnd W f.value 0 0) := fun W hW => by
    have := value_good s m (gl.up hW) (by omega) h0 hx
    simpa [Fo.value] using this
  have hS : ∀ W, Below w.heap.size w W → Calls Tryz.prog 15 #[.string s, .int .i64 (m : Int)] W (WEnd W (Fo.elem n at_ f .nil).plain 0 0) := fun W hW => sub_good s m (gl.up hW) (by omega) h0 hx
  have hroot : Root n at_ f := ⟨hall.1, hall.2.1, hap.1, by simp only [Fo.deep] at hdp; omega⟩
  have hpt := parse_root hroot (t := ⟨(Fo.elem n at_ f .nil).plain.toArray⟩) (by simp)
  have hT : ∀ W, Below w.heap.size w W → Calls Tryz.prog 9 #[.string ⟨(Fo.elem n at_ f .nil).plain.toArray⟩] W (ParseEnd W ((Fo.elem n at_ f .nil).flat 0 (-1), 0, 0)) := fun W hW => by
    have := parse_ok ⟨(Fo.elem n at_ f .nil).plain.toArray⟩ W (gl.up hW) (by simp only [ByteArray.size, List.size_toArray]; omega)
    rw [hpt] at this
    exact this
  have hkd := kidsDo gl (by omega) h0 hx hls
  obtain ⟨i0, hi0, hst⟩ := stands (n := n) (at_ := at_) (f := f)
  have hsz : (Fo.elem n at_ f .nil).size = 1 + f.size := by simp only [Fo.size, Nat.add_zero]
  have hfl : ((Fo.elem n at_ f .nil).flat 0 (-1)).length = 1 + f.size := by rw [flat_len, hsz]
  have hal := alike_part n at_ f m u (by omega)
  have hfu : (((parseN s).1.drop m).take (1 + f.size)) = (Fo.elem n at_ f .nil).flat m u := by
    refine List.ext_getElem? fun i => ?_
    by_cases hi : i < 1 + f.size
    · rw [List.getElem?_take, if_pos hi, List.getElem?_drop]
      exact hu i (by rw [hsz]; exact hi)
    · rw [List.getElem?_eq_none (by simp; omega), List.getElem?_eq_none (by rw [flat_len, hsz]; omega)]
  have hA : ∀ g cap A1 K1 av1 kv1 v2 A2 K2 av2 kv2 W c, Nodes 42 44 A1 K1 W (.slice (some ⟨g, 0, none⟩) (parseN s).1.length cap) (parseN s).1 av1 kv1 → Nodes 42 44 A2 K2 W v2 ((Fo.elem n at_ f .nil).flat 0 (-1)) av2 kv2 → Calls Tryz.prog 19 #[.slice (some ⟨g, m * 5, none⟩) (1 + f.size) c, v2, .int .i64 (-(m : Int))] W fun e w' => e = .returned (.bool true) ∧ Below W.heap.size W w' := fun g cap A1 K1 av1 kv1 v2 A2 K2 av2 kv2 W c n1 n2 => by
    obtain ⟨g2, c2, e2, _⟩ := n2.cells 0 _ (List.getElem?_eq_getElem (by omega))
    have q1 := n1.view rfl m (1 + f.size) (by omega)
    rw [hfu] at q1
    have q2 := n2.viewAll e2
    have := alike_ok (w := W) (some ⟨g, m * 5, none⟩) (some ⟨g2, 0, none⟩) c c2 (-(m : Int)) q1 q2 hal (by omega)
    rw [flat_len, hsz] at this
    rw [e2, hfl]
    rw [flat_len, hsz] at this
    exact this
  have hC : ∀ v A1 K1 av1 kv1 W, Nodes 42 44 A1 K1 W v (parseN s).1 av1 kv1 → ∃ g cap ki kc, v = .slice (some ⟨g, 0, none⟩) (parseN s).1.length cap ∧ (parseN s).1.length ≤ cap ∧ (∀ W2, Below W.heap.size W W2 → W2.cell? ⟨g, m * 5, none⟩ = some (.string ⟨n.toArray⟩) ∧ W2.cell? ⟨g, m * 5 + 3, none⟩ = some (.slice ki (f.tops (m + 1)).length kc) ∧ ∀ i, i < (f.tops (m + 1)).length → ∃ ga, ki = some ⟨ga, 0, none⟩ ∧ ∃ z : Int, W2.cell? ⟨ga, i, none⟩ = some (.int .i64 z) ∧ ∃ vv pp, upto Fo.value f (i + 1) = upto Fo.value f i ++ vv ∧ upto Fo.plain f (i + 1) = upto Fo.plain f i ++ pp ∧ (∀ W, Below w.heap.size w W → Calls Tryz.prog 16 #[.string s, .int .i64 z] W (WEnd W vv 0 0)) ∧ (∀ W, Below w.heap.size w W → Calls Tryz.prog 15 #[.string s, .int .i64 z] W (WEnd W pp 0 0))) ∧ ((f.tops (m + 1)).length : Int) ≤ 9223372036854775807 := fun v A1 K1 av1 kv1 W hn => by
    obtain ⟨g, cap, e, hml, _, q0, _, _, q3, _⟩ := hn.cells m _ hnd
    have hkr := hn.kid m _ hnd
    obtain ⟨ki, kc, hki⟩ := slice_len hkr
    rw [hki] at q3 hkr
    have hcap : (parseN s).1.length ≤ cap := by
      have ho := hn.row
      rw [e] at ho
      rcases ho.2 with ⟨x, _⟩ | ⟨gg, cc, cur, x, _, _, x1, _⟩
      · cases x
      · cases x; exact x1
    have hmx : maxLen = 9223372036854775807 := rfl
    have hgw : g < W.heap.size := World.block_lt_of_cell? W _ q0
    have hkl := parts_len f (m + 1)
    refine ⟨g, cap, ki, kc, e, hcap, fun W2 hW2 => ⟨(World.cell?_of_block (hW2.block g hgw)).trans q0, (World.cell?_of_block (hW2.block g hgw)).trans q3, fun i hi => ?_⟩, ?_⟩
    · obtain ⟨ga, ca, e3, x1, _⟩ := kid_cell (n := 0) hkr i hi
      cases e3
      obtain ⟨vv, pp, k1, k2, k3, k4⟩ := hkd.next i hi
      exact ⟨ga, rfl, _, (World.cell?_of_block (hW2.block ga (own_lt hkr rfl))).trans x1, vv, pp, k1, k2, k3, k4⟩
    · have : (f.tops (m + 1)).length ≤ maxLen := by
        rcases hkr.2 with ⟨_, z⟩ | ⟨gg, cc, cur, x, _, _, x1, x2, _⟩
        · have z' : (f.tops (m + 1)).length = 0 := z
          omega
        · exact Nat.le_trans x1 x2
      omega
  have hne0 : n.isEmpty = false := by cases h5 : n with | nil => exact absurd h5 hx.all.1 | cons a r => rfl
  have hAllV : upto Fo.value f (f.tops (m + 1)).length = f.value := by rw [← parts_len f (m + 1), upto_all, parts_value]
  have hAllP : upto Fo.plain f (f.tops (m + 1)).length = f.plain := by rw [← parts_len f (m + 1), upto_all, parts_plain]
  have hsm := hkd.small
  obtain ⟨hz1, hz2⟩ := hkd.zero
  have hml : m < (parseN s).1.length := hx.lt
  generalize upto Fo.value f = PV at *
  generalize upto Fo.plain f = PF at *
  generalize (f.tops (m + 1)).length = NK at *
  generalize hFS : (Fo.elem n at_ f .nil).flat 0 (-1) = FL at *
  generalize hT0 : (Fo.elem n at_ f .nil).plain = T at *
  have hms : m + (1 + f.size) ≤ (parseN s).1.length := by omega
  generalize 1 + f.size = SZ at *
  have hsp : 0 < SZ := by rw [← hfl, ← hFS]; simp [Fo.flat]
  rw [← hAllV] at hV
  rw [← hAllP] at hi0 hst
  have hT2 : ∀ W, Below w.heap.size w W → Calls Tryz.prog 9 #[.string ⟨T.toArray⟩] W fun e w' => ∃ bi bc A2 K2 av2 kv2, e = .returned (.tuple #[.slice bi SZ bc, .int .i64 0, .int .i64 0]) ∧ Nodes 42 44 A2 K2 w' (.slice bi SZ bc) FL av2 kv2 ∧ Below W.heap.size W w' := fun W hW => (hT W hW).mono fun e w' => by
    rintro ⟨v6, rfl, ⟨A6, K6, av6, kv6, hn6, _⟩, b6, _⟩
    obtain ⟨bi6, bc6, e6⟩ := slice_len hn6.row
    rw [hfl] at e6
    subst e6
    exact ⟨bi6, bc6, A6, K6, av6, kv6, rfl, hn6, b6⟩
  have H1 := hide h1
  have HV := hide hV
  have HS := hide hS
  have HT := hide hT2
  clear hT2
  have HA := hide hA
  have HC := hide hC
  have HSM := hide hsm
  have HZ := hide (And.intro hz1 hz2)
  have HFL := hide hfl
  have HST := hide hst
  clear h1 hV hS hT hA hC hsm hz1 hz2 hAllV hAllP hkd hal hfu hpt hroot hx hu hnd hat gl hall hap hdp hfl hsz hFS hT0 hst hls
  generalize parseN s = xx at *
  obtain ⟨L, no, q⟩ := xx
  simp only at h0 hml hms hL
  subst h0
  have hd1 : decide ((m : Int) < 0) = false := by simp
  have hd2 : decide ((m : Int) ≥ (L.length : Int)) = false := by simp; omega
  have hd3 : decide ((L.length : Int) ≤ (m : Int)) = false := by simp; omega
  have hd4 : decide (L.length ≤ m) = false := by simp; omega
  have hmi : (m : Int) < L.length := by omega
  have hmk : ¬ (m : Int) < 0 := by omega
  go_enter Tryz.func6, Tryz.ntmps6
  go_wp2_with (first
    | (go_at_call 9; refine H1.out.mono ?_; rintro e w1 ⟨v, rfl, ⟨A1, K1, av1, kv1, hn, _⟩, b1, hv⟩; obtain ⟨g, cap, ki, kc, rfl, hcap, hcell, hnk⟩ := HC.out _ _ _ _ _ _ hn; have N1 := hide hn; have HCL := hide hcell; have B1 := hide b1; obtain ⟨q0, q3, -⟩ := hcell _ (Below.refl _ _); clear b1 hv H1 hn hcell)
    | (go_at_call 16; refine (HV.out _ B1.out).mono ?_; rintro e w2 ⟨rfl, b2⟩; have B2 := hide (bon' B1.out b2); have D2 := hide b2; clear b2)
    | (go_at_call 15; refine (HS.out _ B2.out).mono ?_; rintro e w3 ⟨rfl, b3⟩; have B3 := hide (bon' B2.out b3); have D3 := hide (bon' D2.out b3); clear b3)
    | (go_at_call 12; refine (num_back _ _).mono ?_; rintro e w6 ⟨rfl, rfl⟩))
  go_loopw [17, 18, 19, 20, 21, 22, 23, 24, 25] (fun vv ff iv _ _ _ _ _ _ wr => ∃ i : Nat, vv = .string ⟨(PV i).toArray⟩ ∧ ff = .string ⟨(PF i).toArray⟩ ∧ iv = .int .i64 i ∧ i ≤ NK ∧ Below w.heap.size w wr ∧ Below w1.heap.size w1 wr) (fun _ _ iv _ _ _ _ _ _ _ => NK - (RowKit.intOf iv).toNat)
  case atStart => exact ⟨0, by rw [HZ.out.1], by rw [HZ.out.2], rfl, Nat.zero_le _, B3.out, D3.out⟩
  case round =>
    obtain ⟨i, rfl, rfl, rfl, hi, hb1, hb2⟩ := hrel
    obtain ⟨r0, r3, hk⟩ := HCL.out _ hb2
    have HB1 := hide hb1
    have HB2 := hide hb2
    have HK := hide hk
    clear hb1 hb2 hk q0 q3 r0
    by_cases hlt : i < NK
    · obtain ⟨ga, rfl, z, e1, vv, pp, k1, k2, k3, k4⟩ := HK.out i hlt
      have hdec : decide ((i : Int) < NK) = true := by simp; omega
      have hii : (i : Int) < NK := by omega
      obtain ⟨s1, s2⟩ := HSM.out (i + 1)
      have p1 := add_rows2 (PV i) vv (PV (i + 1)) k1.symm (by rw [← List.length_append, ← k1]; omega)
      have p2 := add_rows2 (PF i) pp (PF (i + 1)) k2.symm (by rw [← List.length_append, ← k2]; omega)
      have K3 := hide k3
      have K4 := hide k4
      have hgw : ga < wr.heap.size := World.block_lt_of_cell? wr _ e1
      have hgw2 : g < wr.heap.size := World.block_lt_of_cell? wr _ r3
      clear k1 k2 k3 k4 s1 s2
      go_wp2_with (first
        | (go_at_call 16; refine (K3.out _ HB1.out).mono ?_; rintro e w4 ⟨rfl, b4⟩; have x3 := (World.cell?_of_block (a := ⟨g, m * 5 + 3, none⟩) (b4.block g hgw2)).trans r3; have x1 := (World.cell?_of_block (a := ⟨ga, i, none⟩) (b4.block ga hgw)).trans e1; have B4 := hide (bon' HB1.out b4); have D4 := hide (bon' HB2.out b4); clear b4)
        | (go_at_call 15; refine (K4.out _ B4.out).mono ?_; rintro e w5 ⟨rfl, b5⟩; have B5 := hide (bon' B4.out b5); have D5 := hide (bon' D4.out b5); clear b5))
      exact ⟨⟨i + 1, rfl, rfl, by simp, by omega, B5.out, D5.out⟩, by simp only [RowKit.intOf]; omega⟩
    · have hdec : decide ((i : Int) < NK) = false := by simp; omega
      obtain rfl : NK = i := by omega
      obtain ⟨-, s2⟩ := HSM.out NK
      have hst := HST.out
      generalize PF NK = F at *
      have HST2 := hide hst
      clear hst
      have hT64 : T.length ≤ 70000000 := Nat.le_trans hpl (Nat.le_trans (Nat.mul_le_mul_left 64 hb) (by decide))
      go_wp2_with fail
      obtain ⟨TB, hTB⟩ : ∃ B : ByteArray, (⟨T.toArray⟩ : ByteArray) = B := ⟨_, rfl⟩
      obtain ⟨FB, hFB⟩ : ∃ B : ByteArray, (⟨F.toArray⟩ : ByteArray) = B := ⟨_, rfl⟩
      have hts : T.length = TB.size := by rw [← hTB]; simp [ByteArray.size]
      have hfs : F.length = FB.size := by rw [← hFB]; simp [ByteArray.size]
      have hfind : ∀ j, j + F.length ≤ T.length → j = i0 → TB.extract j (j + F.length) = FB := fun j hj e => by
        apply ByteArray.ext
        apply Array.toList_inj.1
        rw [← hTB, find_step T F j hj, e, HST2.out, ← hFB]
      rw [hts, hfs] at hfind hi0
      rw [hts] at hT64
      rw [hTB, hFB]
      rw [hTB] at HT
      have HFD := hide hfind
      clear hfind hTB hFB hts hfs hpl s2
      go_loopw [26, 27] (fun bv iv wr => ∃ (b : Bool) (i : Nat), bv = .bool b ∧ iv = .int .i64 i ∧ i ≤ TB.size + 1 ∧ (i0 < i → b = true) ∧ Below w.heap.size w wr ∧ Below w1.heap.size w1 wr) (fun _ iv _ => TB.size + 2 - (RowKit.intOf iv).toNat)
      case atStart => exact ⟨false, 0, rfl, rfl, Nat.zero_le _, fun h => absurd h (Nat.not_lt_zero _), HB1.out, HB2.out⟩
      case round =>
        obtain ⟨bb, j, rfl, rfl, hj, hjb, hb1, hb2⟩ := hrel
        have X1 := hide hb1
        have X2 := hide hb2
        obtain ⟨hwr, hwr2⟩ := find_nums j FB.size TB.size hj (Nat.le_trans (Nat.le_add_left _ _) hi0) hT64
        clear hb1 hb2
        by_cases hjl : j + FB.size ≤ TB.size
        · obtain ⟨hdj, hdj2, hdj3⟩ := find_yes _ _ _ hjl
          cases bb with
          | true =>
            clear hjb
            go_wp2
            exact ⟨⟨true, j + 1, rfl, by rw [Int.natCast_succ], (find_fin _ _ _ hjl).1, fun _ => rfl, X1.out, X2.out⟩, (find_fin _ _ _ hjl).2⟩
          | false =>
            have hji : j ≤ i0 := Classical.byContradiction fun h => by have := hjb (Nat.lt_of_not_le h); cases this
            have hfd := HFD.out j hjl
            have hcut := find_cut TB j FB.size hjl
            obtain ⟨X, hX⟩ : ∃ X, TB.extract j (j + FB.size) = X := ⟨_, rfl⟩
            rw [hX] at hcut hfd
            clear hjb hX
            obtain ⟨c, hc⟩ : ∃ c, (X.toList == FB.toList) = c := ⟨_, rfl⟩
            have hjc : i0 < j + 1 → c = true := fun h => by
              have e := hfd (Nat.le_antisymm hji (Nat.le_of_lt_succ h))
              rw [← hc, e]
              exact beq_self_eq_true _
            have HJC := hide hjc
            clear hfd hjc hji
            go_wp2
            exact ⟨⟨c, j + 1, rfl, by rw [Int.natCast_succ], (find_fin _ _ _ hjl).1, HJC.out, X1.out, X2.out⟩, (find_fin _ _ _ hjl).2⟩
        · obtain ⟨hdj, hdj2⟩ := find_no _ _ _ hjl
          obtain rfl : bb = true := find_past hjl hi0 hjb
          clear hjb hi0 hT64 hj
          have hvv : (PV NK == PV NK) = true := by simp
          have hs0 : decide ((SZ : Int) > 0) = true := by simp; omega
          have hs1 : decide (0 < (SZ : Int)) = true := by simp; omega
          have hs2 : decide (0 < SZ) = true := by simp; omega
          obtain ⟨hw1, hw2, hw3, hw4, hw5⟩ := part_nums m SZ L.length hms hL
          go_wp2_with (first
            | (go_at_call 9; refine (HT.out _ X1.out).mono ?_; rintro e w6 ⟨bi6, bc6, A6, K6, av6, kv6, rfl, hn6, b6⟩; have N6 := hide (N1.out.after' (bon' X2.out b6)); have M6 := hide hn6; have B6 := hide (bon' X1.out b6); clear b6 hn6 hdj hdj2 hwr hwr2 hjl)
            | (go_at_call 12; refine (num_back _ _).mono ?_; rintro e w7 ⟨rfl, rfl⟩)
            | (go_at_call 19; refine (HA.out _ _ _ _ _ _ _ _ _ _ _ _ _ N6.out M6.out).mono ?_; rintro e w8 ⟨rfl, b8⟩; have B8 := hide (bon' B6.out b8); clear b8))
          go_ret
          exact ⟨rfl, B8.out⟩
theorem treeParts_ok (s : ByteArray) (k : Int) (w : World) (gl : Gl w a) (hb : s.size ≤ 1048576) : Calls Tryz.prog 6 #[.string s, .int .i64 k] w fun e w' => e = .returned (.bool true) ∧ Below w.heap.size w w' := by
  by_cases h0 : (parseN s).2.1 = 0
  · by_cases hk : k < 0 ∨ ((parseN s).1.length : Int) ≤ k
    · exact treeParts_none s k w gl (by omega) (Or.inr (hk.imp id Or.inl))
    · obtain ⟨m, rfl⟩ : ∃ m : Nat, k = m := ⟨k.toNat, by omega⟩
      obtain ⟨_, n, at_, f, hw⟩ := whole_of h0
      have hm : m < (parseN s).1.length := by omega
      obtain ⟨x, hx, hall, hap, hdp, hls, hpl⟩ := hw.leaf (by omega) m hm
      obtain ⟨u, hu⟩ := hx.ex
      rcases hx.one with ⟨t, rfl⟩ | ⟨n2, a2, f2, rfl⟩
      · exact treeParts_none s _ w gl (by omega) (Or.inr (Or.inr (Or.inr ⟨m, _, rfl, hu.text.1, rfl⟩)))
      · have hL : (parseN s).1.length ≤ 70000000 := by
          have h5 := size_le_plain (Fo.elem n at_ f .nil) ⟨hw.root.name, hw.root.all, trivial⟩
          have h6 := hw.plain
          have h7 := hw.len
          simp only [Fo.size] at h5
          omega
        exact treeParts_elem s m w gl hb h0 n2 a2 f2 hx hall hap hdp hls hpl hL
  · exact treeParts_none s k w gl (by omega) (Or.inl h0)
end Go.Proofs.YtfolnkmbdmfigaaGreatDoor
