import Derived.Laws.StructEq
import Derived.Test.YtfolnkmbdmfigaaGreatDoorHbh
set_option linter.unusedVariables false
set_option linter.unusedSimpArgs false
set_option linter.unusedSimpArgs false
set_option linter.unusedVariables false
namespace Go.Proofs.YtfolnkmbdmfigaaGreatDoor
open Go.RowKit Go.Maps Go.Lib
variable {A K : Nat → Prop} {w w' w1 wr : World} {a : Addr} {nv : Value} {av kv : Nat → Value} {l : List Nd}

structure NView (w : World) (ai : Option Addr) (l : List Nd) : Prop where
  len : (l.length : Int) ≤ 9223372036854775807
  at_ : ∀ i x, l[i]? = some x → ∃ g o va ve, ai = some ⟨g, o, none⟩ ∧ w.cell? ⟨g, o + i * 5, none⟩ = some (.string ⟨x.name.toArray⟩) ∧ w.cell? ⟨g, o + i * 5 + 1, none⟩ = some va ∧ w.cell? ⟨g, o + i * 5 + 2, none⟩ = some (.string ⟨x.text.toArray⟩) ∧ w.cell? ⟨g, o + i * 5 + 3, none⟩ = some ve ∧ w.cell? ⟨g, o + i * 5 + 4, none⟩ = some (.int .i64 x.up) ∧
    w.ownsRow 0 44 2 va x.attrs.length (attrCells x.attrs) ∧ w.ownsRow 0 3 1 ve x.kids.length (kidCells x.kids)
structure AlikeAt (x y : Nd) (by_ : Int) : Prop where
  name : x.name = y.name
  text : x.text = y.text
  attrs : x.attrs = y.attrs
  kids : x.kids.length = y.kids.length
  kid : ∀ (k p q : Nat), x.kids[k]? = some p → y.kids[k]? = some q → (p : Int) + by_ = (q : Int) ∧ (q : Int) ≤ 4611686018427387904
structure AlikeN (la lb : List Nd) (by_ : Int) : Prop where
  len : la.length = lb.length
  one : ∀ i x y, la[i]? = some x → lb[i]? = some y → AlikeAt x y by_ ∧ (0 < i → x.up + by_ = y.up ∧ -1 ≤ y.up ∧ y.up ≤ 4611686018427387904)
structure Pair4 (w : World) (g1 o1 g2 o2 i : Nat) (by_ : Int) (nm tx : List UInt8) (ai bi ki li : Option Addr) (ac bc kc lc NA NK : Nat) (u1 u2 : Int) : Prop where
  a0 : w.cell? ⟨g1, o1 + i * 5, none⟩ = some (.string ⟨nm.toArray⟩)
  a1 : w.cell? ⟨g1, o1 + i * 5 + 1, none⟩ = some (.slice ai NA ac)
  a2 : w.cell? ⟨g1, o1 + i * 5 + 2, none⟩ = some (.string ⟨tx.toArray⟩)
  a3 : w.cell? ⟨g1, o1 + i * 5 + 3, none⟩ = some (.slice ki NK kc)
  a4 : w.cell? ⟨g1, o1 + i * 5 + 4, none⟩ = some (.int .i64 u1)
  b0 : w.cell? ⟨g2, o2 + i * 5, none⟩ = some (.string ⟨nm.toArray⟩)
  b1 : w.cell? ⟨g2, o2 + i * 5 + 1, none⟩ = some (.slice bi NA bc)
  b2 : w.cell? ⟨g2, o2 + i * 5 + 2, none⟩ = some (.string ⟨tx.toArray⟩)
  b3 : w.cell? ⟨g2, o2 + i * 5 + 3, none⟩ = some (.slice li NK lc)
  b4 : w.cell? ⟨g2, o2 + i * 5 + 4, none⟩ = some (.int .i64 u2)
  up : 0 < i → IntKind.i64.wrap (u1 + by_) = u2
  kid : ∀ W, Below w.heap.size w W → ∀ k, k < NK → ∃ h1 h2, ki = some ⟨h1, 0, none⟩ ∧ li = some ⟨h2, 0, none⟩ ∧ (NK : Int) ≤ 9223372036854775807 ∧ ∃ p q : Int, W.cell? ⟨h1, k, none⟩ = some (.int .i64 p) ∧ W.cell? ⟨h2, k, none⟩ = some (.int .i64 q) ∧ IntKind.i64.wrap (p + by_) = q
  attr : ∀ W, Below w.heap.size w W → ∀ k, k < NA → ∃ h1 h2, ai = some ⟨h1, 0, none⟩ ∧ bi = some ⟨h2, 0, none⟩ ∧ (NA : Int) ≤ 9223372036854775807 ∧ ∃ x y : ByteArray, W.cell? ⟨h1, k * 2, none⟩ = some (.string x) ∧ W.cell? ⟨h1, k * 2 + 1, none⟩ = some (.string y) ∧ W.cell? ⟨h2, k * 2, none⟩ = some (.string x) ∧ W.cell? ⟨h2, k * 2 + 1, none⟩ = some (.string y)
theorem NView.keep {ai : Option Addr} (h : NView w ai l) (hb : Below w.heap.size w w') : NView w' ai l := by
  refine ⟨h.len, fun i x hi => ?_⟩
  obtain ⟨g, o, va, ve, e, c0, c1, c2, c3, c4, r1, r2⟩ := h.at_ i x hi
  have hg : g < w.heap.size := World.block_lt_of_cell? w _ c0
  have up : ∀ j v, w.cell? ⟨g, j, none⟩ = some v → w'.cell? ⟨g, j, none⟩ = some v := fun j v hj => (World.cell?_of_block (hb.block g hg)).trans hj
  exact ⟨g, o, va, ve, e, up _ _ c0, up _ _ c1, up _ _ c2, up _ _ c3, up _ _ c4, owns_of r1 fun k e => hb.block k (own_lt r1 e), owns_of r2 fun k e => hb.block k (own_lt r2 e)⟩
theorem pair4 {la lb : List Nd} {ai bi : Option Addr} {by_ : Int} (h1 : NView w ai la) (h2 : NView w bi lb) (h : AlikeN la lb by_) (hby : -4611686018427387904 ≤ by_ ∧ by_ ≤ 4611686018427387904) (i : Nat) (hi : i < la.length) :
    ∃ g1 o1 g2 o2, ai = some ⟨g1, o1, none⟩ ∧ bi = some ⟨g2, o2, none⟩ ∧ ∃ nm tx ai bi ki li ac bc kc lc NA NK u1 u2, Pair4 w g1 o1 g2 o2 i by_ nm tx ai bi ki li ac bc kc lc NA NK u1 u2 := by
  obtain ⟨x, hx⟩ : ∃ x, la[i]? = some x := ⟨_, List.getElem?_eq_getElem hi⟩
  obtain ⟨y, hy⟩ : ∃ y, lb[i]? = some y := ⟨_, List.getElem?_eq_getElem (by rw [← h.len]; exact hi)⟩
  obtain ⟨⟨e1, e2, e3, e4, e5⟩, e6⟩ := h.one i x y hx hy
  obtain ⟨g1, o1, va, ve, rfl, a0, a1, a2, a3, a4, r1, r2⟩ := h1.at_ i x hx
  obtain ⟨g2, o2, vb, vf, rfl, b0, b1, b2, b3, b4, s1, s2⟩ := h2.at_ i y hy
  obtain ⟨pa, ca, rfl⟩ := slice_len r1
  obtain ⟨pb, cb, rfl⟩ := slice_len s1
  obtain ⟨qa, da, rfl⟩ := slice_len r2
  obtain ⟨qb, db, rfl⟩ := slice_len s2
  refine ⟨g1, o1, g2, o2, rfl, rfl, x.name, x.text, pa, pb, qa, qb, ca, cb, da, db, x.attrs.length, x.kids.length, x.up, y.up, a0, a1, a2, a3, a4, by rw [e1]; exact b0, by rw [e3]; exact b1, by rw [e2]; exact b2, by rw [e4]; exact b3, b4, fun hp => ?_, fun W hW k hk => ?_, fun W hW k hk => ?_⟩
  · obtain ⟨e7, e8, e9⟩ := e6 hp
    rw [e7, IntKind.wrap_i64]; omega
  · obtain ⟨ga, c1, ea, x1, m1⟩ := kid_cell (n := 0) r2 k hk
    obtain ⟨gb, c2, eb, y1, m2⟩ := kid_cell (n := 0) s2 k (by rw [← e4]; exact hk)
    cases ea
    cases eb
    obtain ⟨e7, e8⟩ := e5 k _ _ (List.getElem?_eq_getElem hk) (List.getElem?_eq_getElem (by rw [← e4]; exact hk))
    refine ⟨ga, gb, rfl, rfl, by have : maxLen = 9223372036854775807 := rfl; omega, _, _, (World.cell?_of_block (hW.block ga (own_lt r2 rfl))).trans x1, (World.cell?_of_block (hW.block gb (own_lt s2 rfl))).trans y1, ?_⟩
    rw [e7, IntKind.wrap_i64]; omega
  · obtain ⟨ga, c1, ea, x1, x2, m1⟩ := attr_two r1 k hk
    obtain ⟨gb, c2, eb, y1, y2, m2⟩ := attr_two s1 k (by rw [← e3]; exact hk)
    cases ea
    cases eb
    have e7 : y.attrs[k]'(by rw [← e3]; exact hk) = x.attrs[k] := by simp only [e3]
    rw [e7] at y1 y2
    exact ⟨ga, gb, rfl, rfl, by have : maxLen = 9223372036854775807 := rfl; omega, _, _, (World.cell?_of_block (hW.block ga (own_lt r1 rfl))).trans x1, (World.cell?_of_block (hW.block ga (own_lt r1 rfl))).trans x2, (World.cell?_of_block (hW.block gb (own_lt s1 rfl))).trans y1, (World.cell?_of_block (hW.block gb (own_lt s1 rfl))).trans y2⟩
theorem guard44 : Tryz.prog.eqGuardType Tryz.prog.depth 44 = false := by kernel_rfl
theorem equal44 (x y : ByteArray) (w : World) : (Op.equalIn 10000 44 (.agg #[.string x, .string y]) (.agg #[.string x, .string y])).run Tryz.prog w = .ok true w := by
  have u9 := Tryz.underlying9
  have a9 := Tryz.isAgg9
  have z9 := Tryz.sizeOf9
  have hS : Tryz.prog.underlying 44 = some (.struct (Tryz.prog.fieldsOf 44)) := by kernel_rfl
  have hp : Tryz.prog.stoodInHeld 44 = false := by kernel_rfl
  rw [show (10000 : Nat) = 9999 + 1 from rfl, run_equalIn_agg w 9999 44 _ _ hS hp]
  simp only [Program.fieldsOf, Tryz.underlying44]
  go_simp
theorem neq44 (x y : ByteArray) (w : World) : (binOp .neq 44 (.agg #[.string x, .string y]) (.agg #[.string x, .string y])).run Tryz.prog w = .ok (.bool false) w := by
  have h := equal44 x y w
  simp [go_sem, binOp, Op.equal, Op.maxDepth, h]
theorem bon' {A B C : World} (h1 : Below A.heap.size A B) (h2 : Below B.heap.size B C) : Below A.heap.size A C := h1.trans (below_less h2 h1.size)
set_option maxHeartbeats 16000000 in
set_option maxRecDepth 100000 in
theorem alike_ok {la lb : List Nd} (ai bi : Option Addr) (ac bc : Nat) (by_ : Int) (h1 : NView w ai la) (h2 : NView w bi lb) (h : AlikeN la lb by_) (hby : -4611686018427387904 ≤ by_ ∧ by_ ≤ 4611686018427387904) :
    Calls Tryz.prog 19 #[.slice ai la.length ac, .slice bi lb.length bc, .int .i64 by_] w fun e w' => e = .returned (.bool true) ∧ Below w.heap.size w w' := by
  have hlen := h1.len
  have hp : ∀ W, Below w.heap.size w W → ∀ i, i < la.length → ∃ g1 o1 g2 o2, ai = some ⟨g1, o1, none⟩ ∧ bi = some ⟨g2, o2, none⟩ ∧ ∃ nm tx ai bi ki li ac bc kc lc NA NK u1 u2, Pair4 W g1 o1 g2 o2 i by_ nm tx ai bi ki li ac bc kc lc NA NK u1 u2 := fun W hW i hi => pair4 (h1.keep hW) (h2.keep hW) h hby i hi
  rw [← h.len]
  have HP := hide hp
  clear hp h1 h2 h hby
  generalize la.length = n at *
  have hnn : ((n : Int) != n) = false := by simp
  go_enter Tryz.func19, Tryz.ntmps19
  go_wp2_with fail
  go_loopw [7, 8, 9, 10, 11] (fun iv _ _ _ _ wr => ∃ i : Nat, iv = .int .i64 i ∧ i ≤ n ∧ Below w.heap.size w wr) (fun iv _ _ _ _ _ => n - (RowKit.intOf iv).toNat)
  case atStart => exact ⟨0, rfl, Nat.zero_le _, Below.refl _ _⟩
  case round =>
    rename World => WO
    obtain ⟨i, rfl, hi, hb⟩ := hrel
    by_cases hlt : i < n
    · obtain ⟨g1, o1, g2, o2, rfl, rfl, nm, tx, ai, bi, ki, li, ac, bc, kc, lc, NA, NK, u1, u2, p⟩ := HP.out _ hb i hlt
      have hdec : decide ((i : Int) < n) = true := by simp; omega
      have hii : (i : Int) < n := by omega
      obtain ⟨a0, a1, a2, a3, a4, b0, b1, b2, b3, b4, hup, hkid, hattr⟩ := p
      have hb0 : ∀ o : Obj, (WO.alloc o).cell? ⟨g2, o2 + i * 5, none⟩ = some (.string ⟨nm.toArray⟩) := fun o => cell_alloc o b0
      have hb1 : ∀ o : Obj, (WO.alloc o).cell? ⟨g2, o2 + i * 5 + 1, none⟩ = some (.slice bi NA bc) := fun o => cell_alloc o b1
      have hb2 : ∀ o : Obj, (WO.alloc o).cell? ⟨g2, o2 + i * 5 + 2, none⟩ = some (.string ⟨tx.toArray⟩) := fun o => cell_alloc o b2
      have hb3 : ∀ o : Obj, (WO.alloc o).cell? ⟨g2, o2 + i * 5 + 3, none⟩ = some (.slice li NK lc) := fun o => cell_alloc o b3
      have hb4 : ∀ o : Obj, (WO.alloc o).cell? ⟨g2, o2 + i * 5 + 4, none⟩ = some (.int .i64 u2) := fun o => cell_alloc o b4
      obtain ⟨O1, hO1⟩ : ∃ O : Obj, Obj.cells #[.string ⟨nm.toArray⟩, .slice ai NA ac, .string ⟨tx.toArray⟩, .slice ki NK kc, .int .i64 u1] 42 = O := ⟨_, rfl⟩
      obtain ⟨O2, hO2⟩ : ∃ O : Obj, Obj.cells #[.string ⟨nm.toArray⟩, .slice bi NA bc, .string ⟨tx.toArray⟩, .slice li NK lc, .int .i64 u2] 42 = O := ⟨_, rfl⟩
      have hbox : ∀ W, Below (WO.heap.size + 2) ((WO.alloc O1).alloc O2) W → (W.cell? ⟨WO.heap.size, 0, none⟩ = some (.string ⟨nm.toArray⟩) ∧ W.cell? ⟨WO.heap.size, 1, none⟩ = some (.slice ai NA ac) ∧ W.cell? ⟨WO.heap.size, 2, none⟩ = some (.string ⟨tx.toArray⟩) ∧ W.cell? ⟨WO.heap.size, 3, none⟩ = some (.slice ki NK kc) ∧ W.cell? ⟨WO.heap.size, 4, none⟩ = some (.int .i64 u1)) ∧ (W.cell? ⟨WO.heap.size + 1, 0, none⟩ = some (.string ⟨nm.toArray⟩) ∧ W.cell? ⟨WO.heap.size + 1, 1, none⟩ = some (.slice bi NA bc) ∧ W.cell? ⟨WO.heap.size + 1, 2, none⟩ = some (.string ⟨tx.toArray⟩) ∧ W.cell? ⟨WO.heap.size + 1, 3, none⟩ = some (.slice li NK lc) ∧ W.cell? ⟨WO.heap.size + 1, 4, none⟩ = some (.int .i64 u2)) := fun W hW => by
        have hx : W.heap[WO.heap.size]? = some (.cells #[.string ⟨nm.toArray⟩, .slice ai NA ac, .string ⟨tx.toArray⟩, .slice ki NK kc, .int .i64 u1] 42) := by
          rw [hW.block WO.heap.size (by omega), Below.heap_alloc _ _ _ (by simp), hO1]; exact Below_new _ _
        have hy : W.heap[WO.heap.size + 1]? = some (.cells #[.string ⟨nm.toArray⟩, .slice bi NA bc, .string ⟨tx.toArray⟩, .slice li NK lc, .int .i64 u2] 42) := by
          rw [hW.block (WO.heap.size + 1) (by omega), hO2]
          have := Below_new (WO.alloc O1) O2
          simpa using this
        exact ⟨⟨cell_of hx rfl, cell_of hx rfl, cell_of hx rfl, cell_of hx rfl, cell_of hx rfl⟩, cell_of hy rfl, cell_of hy rfl, cell_of hy rfl, cell_of hy rfl, cell_of hy rfl⟩
      have hdown : ∀ W, Below (WO.heap.size + 2) ((WO.alloc O1).alloc O2) W → Below WO.heap.size WO W := fun W hW => (((Below.refl _ WO).alloc (Nat.le_refl _) O1).alloc (by simp) O2).trans (below_less hW (by omega))
      obtain ⟨⟨x0, x1, x2, x3, x4⟩, y0, y1, y2, y3, y4⟩ := hbox _ (Below.refl _ _)
      have HBX := hide hbox
      have HDN := hide hdown
      have HKD := hide hkid
      have HAT := hide hattr
      have HB := hide hb
      have hnt : (nm != nm) = false := by simp
      have htt : (tx != tx) = false := by simp
      clear hbox hdown hkid hattr hb b0 b1 b2 b3 b4
      obtain ⟨pb, hpb, hpb2, hpb3, hup2⟩ : ∃ pb : Bool, decide ((i : Int) > 0) = pb ∧ decide (0 < (i : Int)) = pb ∧ decide (0 < i) = pb ∧ (pb = true → IntKind.i64.wrap (u1 + by_) = u2) := by
        by_cases hi0 : 0 < i
        · exact ⟨true, by simp; omega, by simp; omega, by simp; omega, fun _ => hup hi0⟩
        · exact ⟨false, by simp; omega, by simp; omega, by simp; omega, fun e => by cases e⟩
      clear hup
      cases pb with
      | false =>
        clear hup2
        go_wp2_with fail
        go_loopw [10] (fun jv w2 => ∃ j : Nat, jv = .int .i64 j ∧ j ≤ NK ∧ Below (WO.heap.size + 2) ((WO.alloc O1).alloc O2) w2) (fun jv _ => NK - (RowKit.intOf jv).toNat)
        case atStart => exact ⟨0, rfl, Nat.zero_le _, Below.refl _ _⟩
        case round =>
          obtain ⟨j, rfl, hj, hb2⟩ := hrel
          obtain ⟨⟨c0, c1, c2, c3, c4⟩, d0, d1, d2, d3, d4⟩ := HBX.out _ hb2
          have HB2 := hide hb2
          clear hb2 c0 c2 c4 d0 d2 d4
          by_cases hlj : j < NK
          · obtain ⟨h1, h2, rfl, rfl, hmx, pp, qq, e1, e2, e3⟩ := HKD.out _ (HDN.out _ HB2.out) j hlj
            have hdj : decide ((j : Int) < NK) = true := by simp; omega
            have hji : (j : Int) < NK := by omega
            have hqq : (qq != qq) = false := by simp
            go_wp2_with fail
            go_quiet (fail)
            go_wp2
            go_roundw
            case rel => exact ⟨j + 1, by simp, by omega, below_drewN HB2.out _⟩
            case measure => simp only [RowKit.intOf]; omega
          · have hdj : decide ((j : Int) < NK) = false := by simp; omega
            clear hj
            go_wp2_with fail
            go_loopw [11] (fun jv w2 => ∃ j : Nat, jv = .int .i64 j ∧ j ≤ NA ∧ Below (WO.heap.size + 2) ((WO.alloc O1).alloc O2) w2) (fun jv _ => NA - (RowKit.intOf jv).toNat)
            case atStart => exact ⟨0, rfl, Nat.zero_le _, HB2.out⟩
            case round =>
              obtain ⟨r, rfl, hr, hb3⟩ := hrel
              obtain ⟨⟨c0', c1', c2', c3', c4'⟩, d0', d1', d2', d3', d4'⟩ := HBX.out _ hb3
              have HB3 := hide hb3
              clear hb3 c0' c2' c4' d0' d2' d4' c1 c3 d1 d3
              by_cases hlr : r < NA
              · obtain ⟨h1, h2, rfl, rfl, hmx, xx, yy, e1, e2, e3, e4⟩ := HAT.out _ (HDN.out _ HB3.out) r hlr
                have hdr : decide ((r : Int) < NA) = true := by simp; omega
                have hri : (r : Int) < NA := by omega
                have hgd := guard44
                have hne := neq44
                go_wp2_with fail
                go_quiet (fail)
                go_wp2
                go_roundw
                case rel => exact ⟨r + 1, by simp, by omega, below_drewN HB3.out _⟩
                case measure => simp only [RowKit.intOf]; omega
              · have hdr : decide ((r : Int) < NA) = false := by simp; omega
                go_wp2
                exact ⟨⟨i + 1, by simp, by omega, bon' HB.out (HDN.out _ HB3.out)⟩, by simp only [RowKit.intOf]; omega⟩
      | true =>
        have hup := hup2 rfl
        have huu : (u2 != u2) = false := by simp
        clear hup2
        go_wp2_with fail
        go_loopw [10] (fun jv w2 => ∃ j : Nat, jv = .int .i64 j ∧ j ≤ NK ∧ Below (WO.heap.size + 2) ((WO.alloc O1).alloc O2) w2) (fun jv _ => NK - (RowKit.intOf jv).toNat)
        case atStart => exact ⟨0, rfl, Nat.zero_le _, Below.refl _ _⟩
        case round =>
          obtain ⟨j, rfl, hj, hb2⟩ := hrel
          obtain ⟨⟨c0, c1, c2, c3, c4⟩, d0, d1, d2, d3, d4⟩ := HBX.out _ hb2
          have HB2 := hide hb2
          clear hb2 c0 c2 c4 d0 d2 d4
          by_cases hlj : j < NK
          · obtain ⟨h1, h2, rfl, rfl, hmx, pp, qq, e1, e2, e3⟩ := HKD.out _ (HDN.out _ HB2.out) j hlj
            have hdj : decide ((j : Int) < NK) = true := by simp; omega
            have hji : (j : Int) < NK := by omega
            have hqq : (qq != qq) = false := by simp
            go_wp2_with fail
            go_quiet (fail)
            go_wp2
            go_roundw
            case rel => exact ⟨j + 1, by simp, by omega, below_drewN HB2.out _⟩
            case measure => simp only [RowKit.intOf]; omega
          · have hdj : decide ((j : Int) < NK) = false := by simp; omega
            clear hj
            go_wp2_with fail
            go_loopw [11] (fun jv w2 => ∃ j : Nat, jv = .int .i64 j ∧ j ≤ NA ∧ Below (WO.heap.size + 2) ((WO.alloc O1).alloc O2) w2) (fun jv _ => NA - (RowKit.intOf jv).toNat)
            case atStart => exact ⟨0, rfl, Nat.zero_le _, HB2.out⟩
            case round =>
              obtain ⟨r, rfl, hr, hb3⟩ := hrel
              obtain ⟨⟨c0', c1', c2', c3', c4'⟩, d0', d1', d2', d3', d4'⟩ := HBX.out _ hb3
              have HB3 := hide hb3
              clear hb3 c0' c2' c4' d0' d2' d4' c1 c3 d1 d3
              by_cases hlr : r < NA
              · obtain ⟨h1, h2, rfl, rfl, hmx, xx, yy, e1, e2, e3, e4⟩ := HAT.out _ (HDN.out _ HB3.out) r hlr
                have hdr : decide ((r : Int) < NA) = true := by simp; omega
                have hri : (r : Int) < NA := by omega
                have hgd := guard44
                have hne := neq44
                go_wp2_with fail
                go_quiet (fail)
                go_wp2
                go_roundw
                case rel => exact ⟨r + 1, by simp, by omega, below_drewN HB3.out _⟩
                case measure => simp only [RowKit.intOf]; omega
              · have hdr : decide ((r : Int) < NA) = false := by simp; omega
                go_wp2
                exact ⟨⟨i + 1, by simp, by omega, bon' HB.out (HDN.out _ HB3.out)⟩, by simp only [RowKit.intOf]; omega⟩
    · have hdec : decide ((i : Int) < n) = false := by simp; omega
      have HB := hide hb
      clear hb
      go_wp2
      go_ret
      exact ⟨rfl, HB.out⟩
end Go.Proofs.YtfolnkmbdmfigaaGreatDoor

set_option linter.unusedSimpArgs false
set_option linter.unusedVariables false
namespace Go.Proofs.YtfolnkmbdmfigaaGreatDoor
open Go.RowKit Go.Maps Go.Lib
variable {A K : Nat → Prop} {w w' w1 wr : World} {a : Addr} {nv : Value} {av kv : Nat → Value} {l : List Nd}
theorem Nodes.view (h : Nodes 42 44 A K w nv l av kv) {g cap : Nat} (hv : nv = .slice (some ⟨g, 0, none⟩) l.length cap) (o n : Nat) (ho : o + n ≤ l.length) : NView w (some ⟨g, o * 5, none⟩) ((l.drop o).take n) := by
  have hlen : ((l.drop o).take n).length ≤ l.length := by simp; omega
  refine ⟨?_, fun i x hi => ?_⟩
  · by_cases h0 : l.length = 0
    · omega
    · obtain ⟨g', cap', _, hml, _⟩ := h.cells 0 _ (List.getElem?_eq_getElem (by omega))
      have : maxLen = 9223372036854775807 := rfl
      omega
  · rw [List.getElem?_take] at hi
    split at hi
    · rename_i hin
      rw [List.getElem?_drop] at hi
      obtain ⟨g', cap', e, hml, _, c0, c1, c2, c3, c4⟩ := h.cells (o + i) x hi
      rw [hv] at e
      cases e
      have e1 : (o + i) * 5 = o * 5 + i * 5 := by omega
      rw [e1] at c0 c1 c2 c3 c4
      exact ⟨g, o * 5, _, _, rfl, c0, c1, c2, c3, c4, h.attr _ _ hi, h.kid _ _ hi⟩
    · cases hi
theorem Nodes.viewAll (h : Nodes 42 44 A K w nv l av kv) {g cap : Nat} (hv : nv = .slice (some ⟨g, 0, none⟩) l.length cap) : NView w (some ⟨g, 0, none⟩) l := by
  have := h.view hv 0 l.length (by omega)
  rw [List.drop_zero, List.take_length, Nat.zero_mul] at this
  exact this
theorem flat_bounds : ∀ (f : Fo) (m : Nat) (u : Int), ∀ nd ∈ f.flat m u, (∀ q ∈ nd.kids, q < m + f.size) ∧ (nd.up = u ∨ ((m : Int) ≤ nd.up ∧ nd.up < (m : Int) + f.size))
  | .nil, m, u, nd, h => by simp [Fo.flat] at h
  | .text t r, m, u, nd, h => by
    simp only [Fo.flat, List.mem_cons] at h
    simp only [Fo.size]
    rcases h with rfl | h
    · exact ⟨fun q hq => by simp at hq, Or.inl rfl⟩
    · obtain ⟨x, y⟩ := flat_bounds r (m + 1) u nd h
      exact ⟨fun q hq => by have := x q hq; omega, y.imp id fun z => by omega⟩
  | .elem n a k r, m, u, nd, h => by
    simp only [Fo.flat, List.mem_cons, List.mem_append] at h
    simp only [Fo.size]
    rcases h with rfl | h | h
    · exact ⟨fun q hq => by have := tops_lt k (m + 1) q hq; omega, Or.inl rfl⟩
    · obtain ⟨x, y⟩ := flat_bounds k (m + 1) m nd h
      exact ⟨fun q hq => by have := x q hq; omega, Or.inr (by omega)⟩
    · obtain ⟨x, y⟩ := flat_bounds r (m + 1 + k.size) u nd h
      exact ⟨fun q hq => by have := x q hq; omega, y.imp id fun z => by omega⟩
theorem escL_pos' {t : List UInt8} (h : t ≠ []) : 1 ≤ (Ch.escL false t).length := by
  have := Ch.escL_ge false t
  cases t with
  | nil => exact absurd rfl h
  | cons a l => simp only [List.length_cons] at this; omega
theorem size_le_plain : ∀ (f : Fo), f.All GoodT GoodE → f.size ≤ f.plain.length
  | .nil, _ => by simp [Fo.size]
  | .text t r, h => by
    have h1 := size_le_plain r h.2
    have h2 := escL_pos' h.1.2
    simp only [Fo.size, Fo.plain, List.length_append]; omega
  | .elem n a k r, h => by
    have h1 := size_le_plain k h.2.1
    have h2 := size_le_plain r h.2.2
    simp only [Fo.size, Fo.plain, List.length_append, List.length_cons]
    by_cases hz : k.isNil = true
    · have : k.size = 0 := by cases k <;> simp [Fo.isNil, Fo.size] at hz ⊢
      rw [if_pos hz]; simp only [List.length_cons, List.length_nil]; omega
    · rw [if_neg hz]; simp only [List.length_cons, List.length_append]; omega
theorem alike_self {m : Nat} {u : Int} (f : Fo) (hm : m + f.size ≤ 1099511627776) (hu : -1 ≤ u ∧ u ≤ 1099511627776) : AlikeN (f.flat m u) (f.flat m u) 0 := by
  refine ⟨rfl, fun i x y hx hy => ?_⟩
  obtain rfl : x = y := Option.some.inj (hx.symm.trans hy)
  obtain ⟨b1, b2⟩ := flat_bounds f m u x (List.mem_of_getElem? hx)
  refine ⟨⟨rfl, rfl, rfl, rfl, fun k p q hp hq => ?_⟩, fun _ => ⟨by omega, ?_⟩⟩
  · obtain rfl : p = q := Option.some.inj (hp.symm.trans hq)
    have := b1 p (List.mem_of_getElem? hp)
    omega
  · rcases b2 with e | e <;> omega
end Go.Proofs.YtfolnkmbdmfigaaGreatDoor

set_option linter.unusedSimpArgs false
set_option linter.unusedVariables false
namespace Go.Proofs.YtfolnkmbdmfigaaGreatDoor
open Go.RowKit Go.Maps Go.Lib
variable {A K : Nat → Prop} {w w' w1 wr : World} {a : Addr} {nv : Value} {av kv : Nat → Value} {l : List Nd}
theorem eqlN_nil (W : World) : (binOp .eql 22 (.slice none 0 0) (.slice none 0 0)).run Tryz.prog W = .ok (.bool true) W := by kernel_rfl
theorem Nodes.after' (h : Nodes 42 44 A K w nv l av kv) (hb : Below w.heap.size w w') : Nodes 42 44 A K w' nv l av kv :=
  h.frame (fun k hk _ => hb.block k hk) (fun k hk _ => hb.block k hk) (fun _ _ x => x)
set_option maxHeartbeats 8000000 in
set_option maxRecDepth 100000 in
theorem treeBack_bad (s : ByteArray) (w : World) (gl : Gl w a) (hb : s.size ≤ 268435456) (h0 : (parseN s).2.1 ≠ 0) : Calls Tryz.prog 5 #[.string s] w fun e w' => e = .returned (.bool true) ∧ Below w.heap.size w w' := by
  have h1 := parse_ok s w gl hb
  have h2 : ∀ W, Calls Tryz.prog 10 #[.string s] W (RParseEnd W (parseN s)) := fun W => rparse_ok s W hb
  have hP : ∀ W, Below w.heap.size w W → Calls Tryz.prog 14 #[.string s] W (WEnd W [] (parseN s).2.1 (parseN s).2.2) := fun W hW => print_bad s (gl.up hW) hb h0
  have h3 : ∀ W, Below w.heap.size w W → Calls Tryz.prog 13 #[] W fun e w' => e = .returned (.bool true) ∧ Below W.heap.size W w' := fun W hW => alive_ok (gl.up hW)
  have H1 := hide h1
  have H2 := hide h2
  have HP := hide hP
  have H3 := hide h3
  clear h1 h2 h3 hP gl
  generalize parseN s = x at *
  obtain ⟨L, no, q⟩ := x
  have hno : (no != no) = false := by simp
  have hz : (no != 0) = true := by simpa using h0
  have hnil := eqlN_nil
  go_enter Tryz.func5, Tryz.ntmps5
  go_wp2_with (first
    | (go_at_call 9; refine H1.out.mono ?_; rintro e w1 ⟨v, rfl, _, b1, hv⟩; have hv' := hv h0; unfold nilS at hv'; subst hv'; have B1 := hide b1; clear b1 hv)
    | (go_at_call 10; refine (H2.out _).mono ?_; rintro e w2 ⟨v2, rfl, _, b2⟩; have B2 := hide (bon' B1.out b2); clear b2)
    | (go_at_call 14; refine (HP.out _ B2.out).mono ?_; rintro e w3 ⟨rfl, b3⟩; have B3 := hide (bon' B2.out b3); clear b3)
    | (go_at_call 12; refine (num_ok _ _).mono ?_; rintro e w5 ⟨rfl, rfl⟩)
    | (go_at_call 13; refine (H3.out _ B3.out).mono ?_; rintro e w6 ⟨rfl, b6⟩; have B6 := hide (bon' B3.out b6); clear b6))
  go_ret
  exact ⟨rfl, B6.out⟩
set_option maxHeartbeats 8000000 in
set_option maxRecDepth 100000 in
theorem treeBack_good (s : ByteArray) (w : World) (gl : Gl w a) (hb : s.size ≤ 1048576) (h0 : (parseN s).2.1 = 0) : Calls Tryz.prog 5 #[.string s] w fun e w' => e = .returned (.bool true) ∧ Below w.heap.size w w' := by
  have h1 := parse_ok s w gl (by omega)
  have h2 : ∀ W, Calls Tryz.prog 10 #[.string s] W (RParseEnd W (parseN s)) := fun W => rparse_ok s W (by omega)
  obtain ⟨hq0, n, at_, f, hw⟩ := whole_of h0
  have hx := hw.first (by omega)
  have hpl := hw.plain
  have hpt : parseN ⟨(Fo.elem n at_ f .nil).plain.toArray⟩ = ((parseN s).1, 0, 0) := by rw [parse_root hw.root (t := ⟨(Fo.elem n at_ f .nil).plain.toArray⟩) (by simp), hw.nodes]
  have hal : AlikeN (parseN s).1 (parseN s).1 0 := by
    have hl := hw.len
    rw [hw.nodes]
    refine alike_self _ ?_ (by omega)
    have h3 := readS_len s
    have h4 : (parseN s).1.length ≤ 64 * s.size := by
      rw [hw.nodes, flat_len]
      have := size_le_plain (Fo.elem n at_ f .nil) ⟨hw.root.name, hw.root.all, trivial⟩
      have := hw.plain
      omega
    rw [hw.nodes, flat_len] at h4
    omega
  obtain ⟨x, hxe⟩ : ∃ x, Fo.elem n at_ f .nil = x := ⟨_, rfl⟩
  rw [hxe] at hx hpt hpl
  have hP : ∀ W, Below w.heap.size w W → Calls Tryz.prog 14 #[.string s] W (WEnd W x.plain 0 0) := fun W hW => print_good s (gl.up hW) (by omega) h0 hx
  have hS : ∀ W, Below w.heap.size w W → Calls Tryz.prog 15 #[.string s, .int .i64 0] W (WEnd W x.plain 0 0) := fun W hW => sub_good s 0 (gl.up hW) (by omega) h0 hx
  have hsz : (⟨x.plain.toArray⟩ : ByteArray).size ≤ 268435456 := by simp only [ByteArray.size, List.size_toArray]; omega
  have h1t : ∀ W, Below w.heap.size w W → Calls Tryz.prog 9 #[.string ⟨x.plain.toArray⟩] W (ParseEnd W ((parseN s).1, 0, 0)) := fun W hW => by
    have := parse_ok ⟨x.plain.toArray⟩ W (gl.up hW) hsz
    rw [hpt] at this
    exact this
  have hPt : ∀ W, Below w.heap.size w W → Calls Tryz.prog 14 #[.string ⟨x.plain.toArray⟩] W (WEnd W x.plain 0 0) := fun W hW => print_good _ (gl.up hW) hsz (by rw [hpt]) (by rw [hpt]; exact hx)
  have h4 : ∀ v v2 A K av kv A2 K2 av2 kv2 W, Nodes 42 44 A K W v (parseN s).1 av kv → Nodes 42 44 A2 K2 W v2 (parseN s).1 av2 kv2 → Calls Tryz.prog 19 #[v, v2, .int .i64 0] W fun e w' => e = .returned (.bool true) ∧ Below W.heap.size W w' := fun v v2 A K av kv A2 K2 av2 kv2 W n1 n2 => by
    have hl := hw.len
    obtain ⟨g1, c1, e1, _⟩ := n1.cells 0 _ (List.getElem?_eq_getElem (by omega))
    obtain ⟨g2, c2, e2, _⟩ := n2.cells 0 _ (List.getElem?_eq_getElem (by omega))
    have v1 := n1.viewAll e1
    have v2 := n2.viewAll e2
    rw [e1, e2]
    exact alike_ok _ _ _ _ 0 v1 v2 hal (by omega)
  have H1 := hide h1
  have H2 := hide h2
  have HP := hide hP
  have HS := hide hS
  have H1T := hide h1t
  have HPT := hide hPt
  have H4 := hide h4
  clear h1 h2 hP gl hS h1t hPt h4 hw hx hpl hpt hal hxe hsz
  generalize parseN s = xx at *
  obtain ⟨L, no, q⟩ := xx
  simp only at h0 hq0
  subst h0
  subst hq0
  generalize x.plain = PL at *
  have hpl : (PL == PL) = true := by simp
  go_enter Tryz.func5, Tryz.ntmps5
  go_wp2_with (first
    | (go_at_call 9; first | (refine H1.out.mono ?_; rintro e w1 ⟨v, rfl, ⟨A1, K1, av1, kv1, hn, _⟩, b1, hv⟩; have N1 := hide hn; have B1 := hide b1; clear b1 hv hn H1) | (refine (H1T.out _ B3.out).mono ?_; rintro e w4 ⟨v4, rfl, ⟨A4, K4, av4, kv4, hn, _⟩, b4, hv⟩; have N4 := hide (N3.out.after' b4); have M4 := hide hn; have B4 := hide (bon' B3.out b4); clear b4 hv hn))
    | (go_at_call 10; refine (H2.out _).mono ?_; rintro e w2 ⟨v2, rfl, _, b2⟩; have N2 := hide (N1.out.after' b2); have B2 := hide (bon' B1.out b2); clear b2)
    | (go_at_call 14; first | (refine (HP.out _ B2.out).mono ?_; rintro e w3 ⟨rfl, b3⟩; have N3 := hide (N2.out.after' b3); have B3 := hide (bon' B2.out b3); clear b3 HP) | (refine (HPT.out _ B4.out).mono ?_; rintro e w5 ⟨rfl, b5⟩; have N5 := hide (N4.out.after' b5); have M5 := hide (M4.out.after' b5); have B5 := hide (bon' B4.out b5); clear b5))
    | (go_at_call 15; refine (HS.out _ B5.out).mono ?_; rintro e w6 ⟨rfl, b6⟩; have N6 := hide (N5.out.after' b6); have M6 := hide (M5.out.after' b6); have B6 := hide (bon' B5.out b6); clear b6)
    | (go_at_call 19; refine (H4.out _ _ _ _ _ _ _ _ _ _ _ N6.out M6.out).mono ?_; rintro e w7 ⟨rfl, b7⟩; have B7 := hide (bon' B6.out b7); clear b7)
    | (go_at_call 12; refine (num_ok _ _).mono ?_; rintro e w8 ⟨rfl, rfl⟩))
  go_ret
  exact ⟨rfl, B7.out⟩
theorem treeBack_ok (s : ByteArray) (w : World) (gl : Gl w a) (hb : s.size ≤ 1048576) : Calls Tryz.prog 5 #[.string s] w fun e w' => e = .returned (.bool true) ∧ Below w.heap.size w w' := by
  by_cases h0 : (parseN s).2.1 = 0
  · exact treeBack_good s w gl hb h0
  · exact treeBack_bad s w gl (by omega) h0
end Go.Proofs.YtfolnkmbdmfigaaGreatDoor
