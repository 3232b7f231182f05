import Derived.Deep.RegionHeld3
import Derived.Test.YtgognegkcplcpaaGreatDoorGat
import Derived.Test.YtgognegkcplcpaaGreatDoorGao
import Derived.Test.YtgognegkcplcpaaGreatDoorGab
set_option linter.unusedVariables false
set_option linter.unusedSimpArgs false
set_option linter.unusedSimpArgs false
set_option linter.unusedVariables false
namespace Go.Proofs.YtgognegkcplcpaaGreatDoor
open Go.RowKit Go.Maps Go.Lib
variable {F F' G A B : Nat → Prop} {R : Nat} {w w' w'' wr w1 : World} {a : Addr} {v v1 v2 lv : Value} {N n : Nat} {l l1 l2 : List Tok}
theorem add_rows (x y z : List UInt8) (e : x ++ y = z) (h : x.length + y.length ≤ 9223372036854775807) (w : World) : (Op.stringOp .add ⟨x.toArray⟩ ⟨y.toArray⟩).run Tryz.prog w = .ok (.string ⟨z.toArray⟩) w := by
  rw [run_string_add_sum w _ _ (by simpa [ByteArray.size] using h), ByteArray.mk_append_mk, e]
set_option maxHeartbeats 4000000 in
set_option maxRecDepth 10000 in
theorem shown_two (t : Tok) (va : Value) (w : World) (hk : t.kind = 2) (hz : t.name.length ≤ 1099511627776) :
    Calls Tryz.prog 21 #[tokV t va] w fun e w' => e = .returned (.string ⟨(showT t).toArray⟩) ∧ Below w.heap.size w w' := by
  have he : showT t = [60, 47] ++ t.name ++ [62] := by unfold showT; rw [if_neg (by omega), if_pos hk]
  obtain ⟨X1, hX1⟩ : ∃ X, [60, 47] ++ t.name = X := ⟨_, rfl⟩
  have h1 := add_rows [60, 47] t.name X1 hX1 (by simp only [List.length_cons, List.length_nil]; omega)
  have h2 := add_rows X1 [62] (showT t) (by rw [he, hX1]) (by rw [← hX1]; simp only [List.length_append, List.length_cons, List.length_nil]; omega)
  have hB : Below w.heap.size w (w.alloc (boxT t va)) := (Below.refl _ _).alloc (Nat.le_refl _) _
  have HB := hide hB
  generalize showT t = Z at *
  unfold tokV strV
  rw [hk]
  unfold boxT at HB
  rw [hk] at HB
  clear hB he hX1 hk
  go_enter Tryz.func21, Tryz.ntmps21
  go_wp2
  go_ret
  exact ⟨rfl, HB.out⟩
set_option maxHeartbeats 4000000 in
set_option maxRecDepth 10000 in
theorem shown_three (t : Tok) (va : Value) (w : World) (hk : t.kind = 3) (hz : t.text.length ≤ 1099511627776) :
    Calls Tryz.prog 21 #[tokV t va] w fun e w' => e = .returned (.string ⟨(showT t).toArray⟩) ∧ Below w.heap.size w w' := by
  have he : showT t = Ch.escL false t.text ++ marks := by unfold showT; rw [if_neg (by omega), if_neg (by omega)]
  have hesc : Ch.esc ⟨t.text.toArray⟩ false = Ch.escL false t.text := by unfold Ch.esc; simp
  have hcall := fun w => escape_any ⟨t.text.toArray⟩ false w (by simpa [ByteArray.size] using hz)
  rw [hesc] at hcall
  have h6 := escL_six false t.text
  obtain ⟨X1, hX1⟩ : ∃ X, Ch.escL false t.text = X := ⟨_, rfl⟩
  rw [hX1] at hcall he h6
  have h2 := add_rows X1 marks (showT t) he.symm (by have : marks.length = 27 := rfl; omega)
  have e27 : (⟨marks.toArray⟩ : ByteArray) = ⟨#[60, 33, 45, 45, 32, 114, 32, 45, 45, 62, 60, 63, 111, 63, 62, 60, 33, 91, 67, 68, 65, 84, 65, 91, 93, 93, 62]⟩ := rfl
  rw [e27] at h2
  have hB : Below w.heap.size w (w.alloc (boxT t va)) := (Below.refl _ _).alloc (Nat.le_refl _) _
  have HB := hide hB
  generalize showT t = Z at *
  unfold tokV strV
  rw [hk]
  unfold boxT at HB
  rw [hk] at HB
  have HC := hide hcall
  clear hB he hX1 hk hcall hesc
  go_enter Tryz.func21, Tryz.ntmps21
  go_wp2_with (go_at_call 30; refine (HC.out _).mono ?_; rintro e w1 ⟨rfl, b1⟩; have B1 := hide (HB.out.trans (below_less b1 HB.out.size)); clear b1)
  go_ret
  exact ⟨rfl, B1.out⟩
def headA (t : Tok) (k : Nat) : List UInt8 := 60 :: (t.name ++ (t.attrs.take k).flatMap shownA)
theorem headA_next (t : Tok) (k : Nat) (hk : k < t.attrs.length) : headA t (k + 1) = headA t k ++ shownA (t.attrs[k]) := by
  unfold headA
  rw [List.take_succ_eq_append_getElem hk, List.flatMap_append]
  simp
theorem headA_le (t : Tok) (k : Nat) : (headA t k).length ≤ (headA t t.attrs.length).length := by
  have h1 : ∀ (l : Ats) (k : Nat), ((l.take k).flatMap shownA).length ≤ (l.flatMap shownA).length := by
    intro l
    induction l with
    | nil => intro k; simp
    | cons u l ih =>
      intro k
      cases k with
      | zero => simp
      | succ k =>
        have := ih k
        simp only [List.take_succ_cons, List.flatMap_cons, List.length_append]
        omega
  have := h1 t.attrs k
  unfold headA
  simp only [List.length_cons, List.length_append, List.take_length]
  omega
set_option maxHeartbeats 4000000 in
set_option maxRecDepth 10000 in
theorem shown_one (t : Tok) (va : Value) (w : World) (hk : t.kind = 1) (h1 : w.ownsRow 0 52 2 va t.attrs.length (attrCells t.attrs)) (hz : (showT t).length ≤ 1099511627776) :
    Calls Tryz.prog 21 #[tokV t va] w fun e w' => e = .returned (.string ⟨(showT t).toArray⟩) ∧ Below w.heap.size w w' := by
  obtain ⟨ao, ca, hva⟩ := slice_len h1
  subst hva
  have he : showT t = headA t t.attrs.length ++ [32, 62] := by unfold showT headA; rw [if_pos hk]; simp
  have hz2 : (headA t t.attrs.length).length ≤ 1099511627776 := by rw [he, List.length_append] at hz; omega
  have hle := headA_le t
  have hzn : t.name.length + 1 ≤ 1099511627776 := by
    have := hle 0
    unfold headA at this
    simp only [List.take_zero, List.flatMap_nil, List.append_nil, List.length_cons] at this
    unfold headA at hz2
    simp only [List.length_cons] at hz2
    omega
  have a0 := add_rows [60] t.name (headA t 0) (by simp [headA]) (by simp only [List.length_cons, List.length_nil]; omega)
  have aE := add_rows (headA t t.attrs.length) [32, 62] (showT t) he.symm (by simp only [List.length_cons, List.length_nil]; omega)
  have hB : Below w.heap.size w (w.alloc (boxT t (.slice ao t.attrs.length ca))) := (Below.refl _ _).alloc (Nat.le_refl _) _
  have hx : (w.alloc (boxT t (.slice ao t.attrs.length ca))).heap[w.heap.size]? = some (boxT t (.slice ao t.attrs.length ca)) := Below_new _ _
  have hcell : ∀ wr, Below (w.alloc (boxT t (.slice ao t.attrs.length ca))).heap.size (w.alloc (boxT t (.slice ao t.attrs.length ca))) wr →
      wr.cell? ⟨w.heap.size, 2, none⟩ = some (.slice ao t.attrs.length ca) ∧ Below w.heap.size w wr := by
    intro wr b
    exact ⟨cell_of ((b.block _ (by first | (simp; done) | (simp; omega))).trans hx) rfl, hB.trans (below_less b (by first | (simp; done) | (simp; omega)))⟩
  have hattr : ∀ wr, Below w.heap.size w wr → ∀ i, i < t.attrs.length → ∃ ga, ao = some ⟨ga, 0, none⟩ ∧ ∃ x y : List UInt8, x.length ≤ 1099511627776 ∧ y.length ≤ 1099511627776 ∧ (headA t i).length + 6 + x.length + (Ch.escL true y).length = (headA t (i + 1)).length ∧ headA t (i + 1) = headA t i ++ [10] ++ x ++ [32, 61, 32, 34] ++ Ch.escL true y ++ [34] ∧
      wr.cell? ⟨ga, i * 2, none⟩ = some (.string ⟨x.toArray⟩) ∧ wr.cell? ⟨ga, i * 2 + 1, none⟩ = some (.string ⟨y.toArray⟩) := by
    intro wr b i hi
    rcases h1.2 with ⟨e, e0⟩ | ⟨ga, ca', cur, e, _⟩
    · omega
    cases e
    have o1 := attr_cells h1 i hi
    have lt1 : ga < w.heap.size := World.block_lt_of_cell? w _ o1.1
    have hn := headA_next t i hi
    have hl := hle (i + 1)
    have e2 : headA t (i + 1) = headA t i ++ [10] ++ (t.attrs[i]).1 ++ [32, 61, 32, 34] ++ Ch.escL true (t.attrs[i]).2 ++ [34] := by rw [hn]; simp [shownA]
    have e3 : (headA t i).length + 6 + (t.attrs[i]).1.length + (Ch.escL true (t.attrs[i]).2).length = (headA t (i + 1)).length := by
      rw [e2]; simp only [List.length_append, List.length_cons, List.length_nil]; omega
    have h7 := Ch.escL_ge true (t.attrs[i]).2
    exact ⟨ga, rfl, (t.attrs[i]).1, (t.attrs[i]).2, by omega, by omega, e3, e2, (b.cell (p := ⟨ga, i * 2, none⟩) lt1).trans o1.1, (b.cell (p := ⟨ga, i * 2 + 1, none⟩) lt1).trans o1.2⟩
  have hmax : (t.attrs.length : Int) ≤ 9223372036854775807 := by
    rcases h1.2 with ⟨e, e0⟩ | ⟨ga, ca', cur, e, _, _, x1, x2, _⟩
    · omega
    · have : maxLen = 9223372036854775807 := rfl
      omega
  have HC := hide hcell
  have HAT := hide hattr
  have HLE := hide hle
  have HZ := hide hz2
  clear hcell hattr hB hx h1 he hle hz hz2
  unfold tokV strV
  unfold boxT at HC
  rw [hk] at HC ⊢
  clear hk
  generalize showT t = Z at *
  generalize headA t = H at *
  generalize t.attrs.length = n at *
  go_enter Tryz.func21, Tryz.ntmps21
  go_wp2_with fail
  go_loopw [3, 4] (fun sv iv wr => ∃ k : Nat, iv = .int .i64 k ∧ sv = .string ⟨(H k).toArray⟩ ∧ k ≤ n ∧ Below (w.alloc (.cells #[.int .i64 1, .string ⟨t.name.toArray⟩, .slice ao n ca, .string ⟨t.text.toArray⟩, .int .i64 t.at_] 49)).heap.size (w.alloc (.cells #[.int .i64 1, .string ⟨t.name.toArray⟩, .slice ao n ca, .string ⟨t.text.toArray⟩, .int .i64 t.at_] 49)) wr) (fun _ iv _ => n - (RowKit.intOf iv).toNat)
  case atStart => exact ⟨0, rfl, rfl, Nat.zero_le _, Below.refl _ _⟩
  case round =>
    obtain ⟨k, rfl, rfl, hk, hb⟩ := hrel
    obtain ⟨d1, d2⟩ := HC.out _ hb
    by_cases hlt : k < n
    · obtain ⟨ga, rfl, x, y, hxl, hyl, hln, hnx, g1, g2⟩ := HAT.out _ d2 k hlt
      have hdec : decide ((k : Int) < n) = true := by simp; omega
      have hesc : Ch.esc ⟨y.toArray⟩ true = Ch.escL true y := by unfold Ch.esc; simp
      have hcall := fun w => escape_any ⟨y.toArray⟩ true w (by simpa [ByteArray.size] using hyl)
      rw [hesc] at hcall
      have hl1 := HLE.out (k + 1)
      have hl2 := HZ.out
      obtain ⟨V, hV⟩ : ∃ V, Ch.escL true y = V := ⟨_, rfl⟩
      rw [hV] at hcall hln hnx
      obtain ⟨X1, hX1⟩ : ∃ X, H k ++ [10] = X := ⟨_, rfl⟩
      obtain ⟨X2, hX2⟩ : ∃ X, X1 ++ x = X := ⟨_, rfl⟩
      obtain ⟨X3, hX3⟩ : ∃ X, X2 ++ [32, 61, 32, 34] = X := ⟨_, rfl⟩
      obtain ⟨X4, hX4⟩ : ∃ X, X3 ++ V = X := ⟨_, rfl⟩
      have n1 : X1.length = (H k).length + 1 := by rw [← hX1, List.length_append]; rfl
      have n2 : X2.length = X1.length + x.length := by rw [← hX2, List.length_append]
      have n3 : X3.length = X2.length + 4 := by rw [← hX3, List.length_append]; rfl
      have n4 : X4.length = X3.length + V.length := by rw [← hX4, List.length_append]
      have p1 := add_rows (H k) [10] X1 hX1 (by simp only [List.length_cons, List.length_nil]; omega)
      have p2 := add_rows X1 x X2 hX2 (by omega)
      have p3 := add_rows X2 [32, 61, 32, 34] X3 hX3 (by simp only [List.length_cons, List.length_nil]; omega)
      have p4 := add_rows X3 V X4 hX4 (by omega)
      have p5 := add_rows X4 [34] (H (k + 1)) (by rw [hnx, ← hX4, ← hX3, ← hX2, ← hX1]) (by simp only [List.length_cons, List.length_nil]; omega)
      have hkeep : ∀ w1, Below wr.heap.size wr w1 → w1.cell? ⟨w.heap.size, 2, none⟩ = some (.slice (some ⟨ga, 0, none⟩) n ca) ∧ w1.cell? ⟨ga, k * 2, none⟩ = some (.string ⟨x.toArray⟩) := fun w1 b => by
        have lt1 : w.heap.size < wr.heap.size := World.block_lt_of_cell? wr _ d1
        have lt2 : ga < wr.heap.size := World.block_lt_of_cell? wr _ g1
        exact ⟨(b.cell (p := ⟨w.heap.size, 2, none⟩) lt1).trans d1, (b.cell (p := ⟨ga, k * 2, none⟩) lt2).trans g1⟩
      have HK := hide hkeep
      have HCL := hide hcall
      have D2 := hide d2
      have HB := hide hb
      clear hb d2 hcall hkeep hX1 hX2 hX3 hX4 n1 n2 n3 n4 hnx hln hxl hyl hV hesc hl1 hl2
      go_wp2_with fail
      refine (HCL.out _).mono ?_
      rintro e w1 ⟨rfl, b1⟩
      obtain ⟨q1, q2⟩ := HK.out _ b1
      have HB2 := hide (HB.out.trans (below_less b1 HB.out.size))
      clear b1 d1 g1 g2
      go_wp2
      go_roundw
      case rel => exact ⟨k + 1, by simp, rfl, by omega, HB2.out⟩
      case measure => simp only [RowKit.intOf]; omega
    · have hdec : decide ((k : Int) < n) = false := by simp; omega
      obtain rfl : n = k := by omega
      have D2 := hide d2
      clear hb d2
      go_wp2
      go_ret
      exact ⟨rfl, D2.out⟩
end Go.Proofs.YtgognegkcplcpaaGreatDoor

set_option linter.unusedSimpArgs false
set_option linter.unusedVariables false
namespace Go.Proofs.YtgognegkcplcpaaGreatDoor
open Go.RowKit Go.Maps Go.Lib
variable {F F' G A B : Nat → Prop} {R : Nat} {w w' w'' wr w1 : World} {a : Addr} {v v1 v2 lv : Value} {N n : Nat} {l l1 l2 : List Tok}
theorem shown_ok (t : Tok) (va : Value) (w : World) (ht : TokOk t) (h1 : w.ownsRow 0 52 2 va t.attrs.length (attrCells t.attrs)) (hz : (showT t).length ≤ 1099511627776) :
    Calls Tryz.prog 21 #[tokV t va] w fun e w' => e = .returned (.string ⟨(showT t).toArray⟩) ∧ Below w.heap.size w w' := by
  rcases ht with ⟨k, _⟩ | ⟨k, _⟩ | ⟨k, _⟩
  · exact shown_one t va w k h1 hz
  · have e : showT t = [60, 47] ++ t.name ++ [62] := by unfold showT; rw [if_neg (by omega), if_pos k]
    refine shown_two t va w k ?_
    rw [e] at hz
    simp only [List.length_append, List.length_cons, List.length_nil] at hz
    omega
  · have e : showT t = Ch.escL false t.text ++ marks := by unfold showT; rw [if_neg (by omega), if_neg (by omega)]
    have h7 := Ch.escL_ge false t.text
    refine shown_three t va w k ?_
    rw [e, List.length_append] at hz
    omega
structure One (w5 wr : World) (lv : Value) (l : List Tok) (k : Nat) : Prop where
  ex : ∃ g cg va kd nm tx q z, lv = .slice (some ⟨g, 0, none⟩) l.length cg ∧ (l.take (k + 1)).flatMap showT = (l.take k).flatMap showT ++ z ∧
    (∀ W, Below w5.heap.size w5 W → W.cell? ⟨g, k * 5, none⟩ = some (.int .i64 kd) ∧ W.cell? ⟨g, k * 5 + 1, none⟩ = some nm ∧ W.cell? ⟨g, k * 5 + 2, none⟩ = some va ∧ W.cell? ⟨g, k * 5 + 3, none⟩ = some tx ∧ W.cell? ⟨g, k * 5 + 4, none⟩ = some (.int .i64 q)) ∧
    Calls Tryz.prog 21 #[.agg #[.int .i64 kd, nm, va, tx, .int .i64 q]] wr fun e w' => e = .returned (.string ⟨z.toArray⟩) ∧ Below w5.heap.size w5 w'
theorem chain_at : ∀ {l : List Tok} {b : Bool}, Chain b l → ∀ (k : Nat) (hk : k < l.length), TokOk (l[k])
  | [], _, _, k, hk => by simp at hk
  | t :: l, b, h, 0, _ => h.1
  | t :: l, b, h, k + 1, hk => chain_at h.2.2 k (by simpa using hk)
theorem one_of (h1 : Ans A w lv l) (hc : Chain false l) (hz : cost l ≤ 1099511627776) (k : Nat) (hk : k < l.length) (hb : Below w.heap.size w wr) : One w wr lv l k := by
  obtain ⟨g, cg, va, rfl, o1, x0, x1, x2, x3, x4, _⟩ := h1.at k hk
  have lt1 : g < w.heap.size := World.block_lt_of_cell? w _ x0
  have e1 : (l.take (k + 1)).flatMap showT = (l.take k).flatMap showT ++ showT (l[k]) := by
    rw [List.take_succ_eq_append_getElem hk, List.flatMap_append]; simp
  have hle : (showT (l[k])).length ≤ cost l := by
    have h2 : l = l.take k ++ l[k] :: l.drop (k + 1) := by rw [List.getElem_cons_drop, List.take_append_drop]
    have h3 := cost_append (l.take k) (l[k] :: l.drop (k + 1))
    have h4 := cost_append [l[k]] (l.drop (k + 1))
    rw [← h2] at h3
    rw [List.singleton_append] at h4
    have h5 : cost [l[k]] = (showT (l[k])).length := by simp [cost]
    omega
  refine ⟨g, cg, va, _, _, _, _, showT (l[k]), rfl, e1, fun W bW => ⟨(bW.cell (p := ⟨g, k * 5, none⟩) lt1).trans x0, (bW.cell (p := ⟨g, k * 5 + 1, none⟩) lt1).trans x1, (bW.cell (p := ⟨g, k * 5 + 2, none⟩) lt1).trans x2, (bW.cell (p := ⟨g, k * 5 + 3, none⟩) lt1).trans x3, (bW.cell (p := ⟨g, k * 5 + 4, none⟩) lt1).trans x4⟩, ?_⟩
  have o2 : wr.ownsRow 0 52 2 va (l[k]).attrs.length (attrCells (l[k]).attrs) := owns_of o1 fun j e => by
    obtain ⟨cur, hc⟩ := owns_blk o1 e
    exact hb.block j (blk_lt hc)
  refine (shown_ok (l[k]) va wr (chain_at hc k hk) o2 (by omega)).mono ?_
  rintro e w' ⟨rfl, bw⟩
  exact ⟨rfl, hb.trans (below_less bw hb.size)⟩
structure Pair2 (w5 wr : World) (lv av : Value) (n k : Nat) : Prop where
  ex : ∃ g cg h ch va vb kd nm tx q q', lv = .slice (some ⟨g, 0, none⟩) n cg ∧ av = .slice (some ⟨h, 0, none⟩) n ch ∧
    (∀ W, Below w5.heap.size w5 W → (W.cell? ⟨g, k * 5, none⟩ = some (.int .i64 kd) ∧ W.cell? ⟨g, k * 5 + 1, none⟩ = some nm ∧ W.cell? ⟨g, k * 5 + 2, none⟩ = some va ∧ W.cell? ⟨g, k * 5 + 3, none⟩ = some tx ∧ W.cell? ⟨g, k * 5 + 4, none⟩ = some (.int .i64 q)) ∧
      (W.cell? ⟨h, k * 5, none⟩ = some (.int .i64 kd) ∧ W.cell? ⟨h, k * 5 + 1, none⟩ = some nm ∧ W.cell? ⟨h, k * 5 + 2, none⟩ = some vb ∧ W.cell? ⟨h, k * 5 + 3, none⟩ = some tx ∧ W.cell? ⟨h, k * 5 + 4, none⟩ = some (.int .i64 q'))) ∧
    Calls Tryz.prog 20 #[.agg #[.int .i64 kd, nm, va, tx, .int .i64 q], .agg #[.int .i64 kd, nm, vb, tx, .int .i64 q']] wr.drew fun e w' => e = .returned (.bool true) ∧ Below w5.heap.size w5 w'
theorem bare_eq {t t' : Tok} (h : bare t' = bare t) : t'.kind = t.kind ∧ t'.name = t.name ∧ t'.text = t.text ∧ t'.attrs = t.attrs := by
  obtain ⟨k, n, a, x, q⟩ := t
  obtain ⟨k', n', a', x', q'⟩ := t'
  simp only [bare, Tok.mk.injEq] at h
  exact ⟨h.1, h.2.1, h.2.2.2.1, h.2.2.1⟩
theorem pair2_of {m : List Tok} (h1 : Ans A w lv l) (h2 : Ans B w v m) (hm : m.map bare = l.map bare) (k : Nat) (hk : k < l.length) (hb : Below w.heap.size w wr) : Pair2 w wr lv v l.length k := by
  have hlen : m.length = l.length := by have := congrArg List.length hm; simpa using this
  obtain ⟨g, cg, va, rfl, o1, x0, x1, x2, x3, x4, _⟩ := h1.at k hk
  obtain ⟨h, ch, vb, rfl, o2, y0, y1, y2, y3, y4, _⟩ := h2.at k (by omega)
  have lt1 : g < w.heap.size := World.block_lt_of_cell? w _ x0
  have lt2 : h < w.heap.size := World.block_lt_of_cell? w _ y0
  have hk2 : k < m.length := by omega
  have hbe : bare (m[k]) = bare (l[k]) := by
    have e1 : (m.map bare)[k]'(by simpa using hk2) = bare (m[k]) := by simp
    have e2 : (l.map bare)[k]'(by simpa using hk) = bare (l[k]) := by simp
    rw [← e1, ← e2]; simp only [hm]
  obtain ⟨q1, q2, q3, q4⟩ := bare_eq hbe
  have bd : Below w.heap.size w wr.drew := below_drewN hb 1
  have keep : ∀ {vv : Value} {nn : Nat} {xs : List Value}, w.ownsRow 0 52 2 vv nn xs → wr.drew.ownsRow 0 52 2 vv nn xs := fun o => owns_of o fun j e => by
    obtain ⟨cur, hc⟩ := owns_blk o e
    exact bd.block j (blk_lt hc)
  have hcall := alike_same (l[k]) (m[k]) va vb wr.drew (keep o1) (keep o2) q1 q2 q3 q4
  unfold tokV at hcall
  rw [q1] at hcall y0
  rw [q2] at hcall y1
  rw [q3] at hcall y3
  refine ⟨g, cg, h, ch, va, vb, _, _, _, _, _, rfl, by rw [hlen], fun W bW => ⟨⟨(bW.cell (p := ⟨g, k * 5, none⟩) lt1).trans x0, (bW.cell (p := ⟨g, k * 5 + 1, none⟩) lt1).trans x1, (bW.cell (p := ⟨g, k * 5 + 2, none⟩) lt1).trans x2, (bW.cell (p := ⟨g, k * 5 + 3, none⟩) lt1).trans x3, (bW.cell (p := ⟨g, k * 5 + 4, none⟩) lt1).trans x4⟩, (bW.cell (p := ⟨h, k * 5, none⟩) lt2).trans y0, (bW.cell (p := ⟨h, k * 5 + 1, none⟩) lt2).trans y1, (bW.cell (p := ⟨h, k * 5 + 2, none⟩) lt2).trans y2, (bW.cell (p := ⟨h, k * 5 + 3, none⟩) lt2).trans y3, (bW.cell (p := ⟨h, k * 5 + 4, none⟩) lt2).trans y4⟩, ?_⟩
  refine hcall.mono ?_
  rintro e w' ⟨rfl, bw⟩
  exact ⟨rfl, bd.trans (below_less bw bd.size)⟩
end Go.Proofs.YtgognegkcplcpaaGreatDoor

set_option linter.unusedSimpArgs false
set_option linter.unusedVariables false
namespace Go.Proofs.YtgognegkcplcpaaGreatDoor
open Go.RowKit Go.Maps Go.Lib
variable {F F' G A B : Nat → Prop} {R : Nat} {w w' w'' wr w1 : World} {a : Addr} {v v1 v2 lv : Value} {N n : Nat} {l l1 l2 : List Tok}
theorem refAll_flat {b : ByteArray} {T : List Tok} {q : Int} (h : refAll b = (T, 0, q)) : q = 0 := by
  unfold refAll at h
  split at h
  · rename_i he
    simp only [Prod.mk.injEq] at h
    exact absurd h.2.1 he
  · simp only [Prod.mk.injEq] at h
    exact h.2.2.symm
theorem refAll_bad {b : ByteArray} {T : List Tok} {no q : Int} (h : refAll b = (T, no, q)) (hn : no ≠ 0) : T = [] := by
  unfold refAll at h
  split at h
  · simp only [Prod.mk.injEq] at h
    exact h.1.symm
  · simp only [Prod.mk.injEq] at h
    exact absurd h.2.1.symm hn
theorem refAll_none : refAll ⟨#[]⟩ = ([], 0, 0) := by
  rw [← all_ref]; kernel_rfl
set_option maxHeartbeats 8000000 in
set_option maxRecDepth 10000 in
theorem tokenBack_ok (b : ByteArray) (w : World) (gl : Gl w a) (hb : b.size ≤ 33554432) : Calls Tryz.prog 6 #[.string b] w fun e w' => e = .returned (.bool true) ∧ Below w.heap.size w w' := by
  have hgl := fun w' (h : Below w.heap.size w w') => gl.below gl.size h
  have hall : ∀ w', Below w.heap.size w w' → ∀ b : ByteArray, b.size ≤ 2147483648 → Calls Tryz.prog 9 #[.string b] w' (AllEnd w' (refAll b)) := fun w' h b hb => by
    have := all_ok b w' (hgl w' h) hb
    rw [all_ref] at this
    exact this
  have href := fun w' => refAll_ok b w' (by omega)
  have hali := fun w' (h : Below w.heap.size w w') => alive_ok (hgl w' h)
  have hfirst := hall w (Below.refl _ _) b (by omega)
  have hch := refAll_chain b
  have hco := cost_all b
  have HLI := hide hali
  have HR := hide href
  have HAL := hide hall
  have hnum := num_ok
  have heql := eql_nils
  clear hgl hali href gl hall
  generalize hZ : refAll b = Z at *
  obtain ⟨T, no, q⟩ := Z
  unfold AllEnd at hfirst
  simp only at hfirst HR hch hco
  have hT : ∀ k, ((T.take k).flatMap showT).length ≤ cost T := fun k => by
    have h1 := cost_append (T.take k) (T.drop k)
    rw [List.take_append_drop] at h1
    have h2 : cost (T.take k) = ((T.take k).flatMap showT).length := rfl
    omega
  have HT := hide hT
  have HCH := hide hch
  have HCO := hide hco
  clear hT hch hco
  by_cases hno : no = 0
  · subst hno
    have hq := refAll_flat hZ
    subst hq
    have hback := fun (t : ByteArray) (ht : t.data.toList = T.flatMap showT) => refAll_back hZ ht
    have HBK := hide hback
    have HZ := hide hZ
    clear hback hZ
    go_enter Tryz.func6, Tryz.ntmps6
    go_wp2_with fail
    refine hfirst.mono ?_
    rintro e w1 ⟨lv, A, rfl, an, b1, _, _⟩
    have AN := hide an
    have B1 := hide b1
    clear an b1 hfirst
    go_wp2_with fail
    refine (HR.out _).mono ?_
    rintro e w2 ⟨rv, rfl, _, b2⟩
    have AN2 := hide (AN.out.past b2)
    have B2 := hide (B1.out.trans (below_less b2 B1.out.size))
    clear b2
    go_wp2_with (first | (go_at_call 12; refine (hnum _ _).mono ?_; rintro e wx ⟨rfl, hwx⟩; have hwy := hwx.symm; clear hwx; subst hwy) | (go_at_call 13; refine (HLI.out _ B2.out).mono ?_; rintro e w3 ⟨rfl, b3⟩; have B3 := hide (B2.out.trans (below_less b3 B2.out.size)); have AN3 := hide (AN2.out.past b3); obtain ⟨bl, cl, el, hmx⟩ := slice_of AN3.out; subst el; clear b3))
    go_loopw [9, 10] (fun tv iv wr => ∃ k : Nat, iv = .int .i64 k ∧ tv = .string ⟨((T.take k).flatMap showT).toArray⟩ ∧ k ≤ T.length ∧ Below w3.heap.size w3 wr) (fun _ iv _ => T.length - (RowKit.intOf iv).toNat)
    case atStart => exact ⟨0, rfl, rfl, Nat.zero_le _, Below.refl _ _⟩
    case round =>
      obtain ⟨k, rfl, rfl, hk, hbr⟩ := hrel
      by_cases hkl : k < T.length
      · have hdec : decide ((k : Int) < T.length) = true := by simp; omega
        have hon := one_of AN3.out HCH.out (by have := HCO.out; omega) k hkl hbr
        obtain ⟨g, cg, va, kd, nm, tx, q, z, eg, ez, hcs, hcall⟩ := hon.ex
        cases eg
        obtain ⟨x0, x1, x2, x3, x4⟩ := hcs wr hbr
        have p1 := add_rows ((T.take k).flatMap showT) z ((T.take (k + 1)).flatMap showT) ez.symm (by
          have h1 := HT.out (k + 1)
          rw [ez, List.length_append] at h1
          have := HCO.out
          omega)
        have hmx2 : (T.length : Int) ≤ 9223372036854775807 := by have : maxLen = 9223372036854775807 := rfl; omega
        have HBR := hide hbr
        have HMX := hide hmx
        clear hbr hcs ez hon hmx
        obtain ⟨X1, hX1⟩ : ∃ X, (T.take (k + 1)).flatMap showT = X := ⟨_, rfl⟩
        rw [hX1] at p1
        have HX1 := hide hX1
        clear hX1
        generalize (T.take k).flatMap showT = X0 at *
        go_wp2_with (first | (go_at_call 21; refine hcall.mono ?_; rintro e w4 ⟨rfl, b4⟩; have B4 := hide b4; clear b4))
        go_roundw
        case rel => exact ⟨k + 1, by simp, by rw [HX1.out], by omega, B4.out⟩
        case measure => simp only [RowKit.intOf]; omega
      · have hdec : decide ((k : Int) < T.length) = false := by simp; omega
        obtain rfl : k = T.length := by omega
        rw [List.take_length]
        have hsz : (T.flatMap showT).length ≤ 2147483648 := by
          have h1 := HT.out T.length
          rw [List.take_length] at h1
          have := HCO.out
          omega
        obtain ⟨m, hm1, hm2⟩ := HBK.out ⟨(T.flatMap showT).toArray⟩ (by simp)
        have B3b := hide (B3.out.trans (below_less hbr B3.out.size))
        have hc2 := HAL.out wr B3b.out ⟨(T.flatMap showT).toArray⟩ (by simpa [ByteArray.size] using hsz)
        rw [hm1] at hc2
        unfold AllEnd at hc2
        have AN4 := hide (AN3.out.past hbr)
        have hlen : m.length = T.length := by have := congrArg List.length hm2; simpa using this
        have HL := hide hlen
        have HM2 := hide hm2
        have HM1 := hide hm1
        have hmx2 : (T.length : Int) ≤ 9223372036854775807 := by have : maxLen = 9223372036854775807 := rfl; omega
        have HMX := hide hmx
        clear hbr hsz hm1 hm2 hlen hk hkl hmx
        generalize (⟨(T.flatMap showT).toArray⟩ : ByteArray) = tt at *
        go_wp2_with fail
        refine hc2.mono ?_
        rintro e w5 ⟨mv, A5, rfl, an5, b5, _, _⟩
        have B5 := hide (B3b.out.trans (below_less b5 B3b.out.size))
        have AN5 := hide an5
        have ANL := hide (AN4.out.past b5)
        obtain ⟨bm, cm, em, _⟩ := slice_of AN5.out
        rw [HL.out] at em
        subst em
        clear an5 b5 hc2
        go_wp2_with (first | (go_at_call 12; refine (hnum _ _).mono ?_; rintro e wx ⟨rfl, hwx⟩; have hwy := hwx.symm; clear hwx; subst hwy))
        go_loopw [15, 16] (fun iv _ wr => ∃ k : Nat, iv = .int .i64 k ∧ k ≤ T.length ∧ Below w5.heap.size w5 wr) (fun iv _ _ => T.length - (RowKit.intOf iv).toNat)
        case atStart => exact ⟨0, rfl, Nat.zero_le _, Below.refl _ _⟩
        case round =>
          obtain ⟨k, rfl, hk, hbr⟩ := hrel
          by_cases hkl : k < T.length
          · have hdec2 : decide ((k : Int) < T.length) = true := by simp; omega
            have hpr := pair2_of ANL.out AN5.out HM2.out k hkl hbr
            obtain ⟨g, cg, h, ch, va, vb, kd, nm, tx, q, q', eg, eh, hcs, hcall⟩ := hpr.ex
            clear hpr
            cases eg
            cases eh
            obtain ⟨⟨x0, x1, x2, x3, x4⟩, y0, y1, y2, y3, y4⟩ := hcs wr hbr
            have HBR := hide hbr
            have HCS := hide hcs
            clear hbr hcs hdec
            go_wp2_with fail
            go_region_held3 (fun W => (W.cell? ⟨g, k * 5, none⟩ = some (.int .i64 kd) ∧ W.cell? ⟨g, k * 5 + 1, none⟩ = some nm ∧ W.cell? ⟨g, k * 5 + 2, none⟩ = some va ∧ W.cell? ⟨g, k * 5 + 3, none⟩ = some tx ∧ W.cell? ⟨g, k * 5 + 4, none⟩ = some (.int .i64 q)) ∧ (W.cell? ⟨h, k * 5, none⟩ = some (.int .i64 kd) ∧ W.cell? ⟨h, k * 5 + 1, none⟩ = some nm ∧ W.cell? ⟨h, k * 5 + 2, none⟩ = some vb ∧ W.cell? ⟨h, k * 5 + 3, none⟩ = some tx ∧ W.cell? ⟨h, k * 5 + 4, none⟩ = some (.int .i64 q')))
              (first | exact ⟨⟨x0, x1, x2, x3, x4⟩, y0, y1, y2, y3, y4⟩ | exact HCS.out _ bw6)
              (first | (go_at_call 20; refine hcall.mono ?_; rintro e w6 ⟨rfl, bw6⟩))
            all_goals
              have BW6 := hide bw6
              clear bw6 hcall x0 x1 x2 x3 x4 y0 y1 y2 y3 y4
              go_wp2
              go_roundw
              case rel => exact ⟨k + 1, by simp, by omega, BW6.out⟩
              case measure => simp only [RowKit.intOf]; omega
          · have hdec2 : decide ((k : Int) < T.length) = false := by simp; omega
            have B7 := hide (B5.out.trans (below_less hbr B5.out.size))
            clear hbr
            go_wp2
            go_ret
            exact ⟨rfl, B7.out⟩
  · have e0 : (no == 0) = false := by simpa using hno
    have e0' : (no != 0) = true := by simpa using hno
    have hT0 := refAll_bad hZ hno
    subst hT0
    have hAL2 := fun w' h => HAL.out w' h ⟨#[]⟩ (by decide)
    rw [refAll_none] at hAL2
    unfold AllEnd at hAL2
    have HAL2 := hide hAL2
    clear hAL2 hZ HAL HCH HCO HT
    go_enter Tryz.func6, Tryz.ntmps6
    go_wp2_with fail
    refine hfirst.mono ?_
    rintro e w1 ⟨lv, A, rfl, an, b1, _, hnil⟩
    have hnl := hnil hno
    unfold nilS at hnl
    subst hnl
    have B1 := hide b1
    clear an b1 hfirst hnil hno
    go_wp2_with fail
    refine (HR.out _).mono ?_
    rintro e w2 ⟨rv, rfl, _, b2⟩
    have B2 := hide (B1.out.trans (below_less b2 B1.out.size))
    clear b2
    go_wp2_with (first | (go_at_call 12; refine (hnum _ _).mono ?_; rintro e wx ⟨rfl, hwx⟩; have hwy := hwx.symm; clear hwx; subst hwy) | (go_at_call 13; refine (HLI.out _ B2.out).mono ?_; rintro e w3 ⟨rfl, b3⟩; have B3 := hide (B2.out.trans (below_less b3 B2.out.size)); clear b3))
    go_loopw [9, 10] (fun tv iv wr => iv = .int .i64 0 ∧ tv = .string ⟨#[]⟩ ∧ wr = w3) (fun _ iv _ => 0)
    case atStart => exact ⟨rfl, rfl, rfl⟩
    case round =>
      obtain ⟨rfl, rfl, hwr⟩ := hrel
      have hwr' := hwr.symm
      clear hwr
      subst hwr'
      go_wp2_with fail
      refine (HAL2.out _ B3.out).mono ?_
      rintro e w5 ⟨mv, A5, rfl, an5, b5, _, _⟩
      have B5 := hide (B3.out.trans (below_less b5 B3.out.size))
      obtain ⟨bm, cm, em, _⟩ := slice_of an5
      simp only [List.length_nil] at em
      subst em
      clear an5 b5
      go_wp2
      go_ret
      exact ⟨rfl, B5.out⟩
end Go.Proofs.YtgognegkcplcpaaGreatDoor
