import Derived.Laws.Concat
import Derived.Test.YtfolnkmbdmfigaaGreatDoorGab
import Derived.Test.YtfolnkmbdmfigaaGreatDoorHqf
import Derived.Test.YtfolnkmbdmfigaaGreatDoorHqb
import Derived.Test.YtfolnkmbdmfigaaGreatDoorHqa
set_option linter.unusedVariables false
set_option linter.unusedSimpArgs false
set_option linter.unusedSimpArgs false
set_option linter.unusedVariables false
namespace Go.Proofs.YtfolnkmbdmfigaaGreatDoor
open Go.RowKit Go.Maps
variable {w w' w1 : World} {b B : Nat} {bs : List UInt8} {nv : Value}

theorem lies105 : liesAt Tryz.prog Tryz.prog.depth 110 (3 / Tryz.prog.cellsOf 110) 0 108 1 = true := by kernel_rfl
set_option maxHeartbeats 1000000 in
set_option maxRecDepth 100000 in
theorem wcopy_fresh (b : Nat) (w : World) (c0 : w.cell? ⟨b, 0, none⟩ = some (.pointer none)) (hsh : w.shape? b = some (110, 3)) (f0 : w.frozen? ⟨b, 0, none⟩ = false) :
    Calls Tryz.prog 77 #[.pointer (some ⟨b, 0, none⟩)] w fun e w' => e = .returned (.tuple #[]) ∧ w' = w.setCell ⟨b, 0, none⟩ (.pointer (some ⟨b, 0, none⟩)) := by
  obtain ⟨j, hj, hjs⟩ := info43
  go_enter Tryz.func77, Tryz.ntmps77
  go_wp2
  rw [Lib.run_to_unsafe w ⟨b, 0, none⟩ Tryz.underlying106 Tryz.underlying148 hj (by rw [hjs]; decide) hsh (show 0 < 3 by decide)]
  simp only [Result.andThen]
  rw [Oper.upon_value]
  go_wp2
  rw [run_callFunc_extern Tryz.func104 (by kernel_rfl) (by kernel_rfl) (by kernel_rfl) (e := Extern.AbiNoEscape.same) (by kernel_rfl)]
  rw [Lib.run_noEscape]
  simp only [Result.andThen]
  rw [Oper.upon_value]
  go_wp2
  rw [Lib.run_from_unsafe w ⟨b, 0, none⟩ Tryz.underlying148 Tryz.underlying106 hj hsh lies105]
  simp only [Result.andThen]
  rw [Oper.upon_value]
  go_wp2
  go_end0
  exact ⟨rfl, rfl⟩
structure WR (b : Nat) (bs : List UInt8) (nv : Value) (w : World) : Prop where
  ex : ∃ p v, (p = .pointer none ∨ p = .pointer (some ⟨b, 0, none⟩)) ∧ w.heap[b]? = some (.cells #[p, v, nv] 110 (0, 0)) ∧ w.ownsRowF b 5 1 v bs.length (Lib.byteCells bs) ∧ v.ownBlock ≠ some b
theorem wcells {p v : Value} (hbk : w.heap[b]? = some (.cells #[p, v, nv] 110 (0, 0))) : w.cell? ⟨b, 0, none⟩ = some p ∧ w.cell? ⟨b, 1, none⟩ = some v ∧ w.cell? ⟨b, 2, none⟩ = some nv ∧ w.frozen? ⟨b, 0, none⟩ = false ∧ w.frozen? ⟨b, 1, none⟩ = false ∧ w.shape? b = some (110, 3) ∧ b < w.heap.size :=
  ⟨cell_of hbk rfl, cell_of hbk rfl, cell_of hbk rfl, free_of hbk, free_of hbk, by simp [World.shape?, hbk], blk_lt hbk⟩
theorem wcopy_ok (h : WR b bs nv w) : Calls Tryz.prog 77 #[.pointer (some ⟨b, 0, none⟩)] w fun e w' => e = .returned (.tuple #[]) ∧ ∃ v p0, w.heap[b]? = some (.cells #[p0, v, nv] 110 (0, 0)) ∧ (∀ k, k ≠ b → w'.heap[k]? = w.heap[k]?) ∧ w'.heap[b]? = some (.cells #[.pointer (some ⟨b, 0, none⟩), v, nv] 110 (0, 0)) ∧ w'.ownsRowF b 5 1 v bs.length (Lib.byteCells bs) ∧ v.ownBlock ≠ some b ∧ Below b w w' := by
  obtain ⟨p, v, hp, hbk, hown, hne⟩ := h.ex
  obtain ⟨c0, c1, c2, f0, f1, hsh, hlt⟩ := wcells hbk
  rcases hp with rfl | rfl
  · refine (wcopy_fresh b w c0 hsh f0).mono ?_
    rintro e w' ⟨rfl, rfl⟩
    refine ⟨rfl, v, _, hbk, fun k hk => Below.heap_setCell _ _ _ _ (fun e => hk (by rw [e])), ?_, ?_, hne, (Below.refl b w).setCell (p := ⟨b, 0, none⟩) (Nat.le_refl _) _⟩
    · rw [set_of hbk]; rfl
    · refine hown.kept (row := some b) ⟨rfl, rfl, rfl, by simp [World.setCell], fun k _ hk => Below.heap_setCell _ _ _ _ (fun e => hk (by rw [e]))⟩ ?_
      exact Or.inr hne
  · refine (copyCheck_used b w c0).mono ?_
    rintro e w' ⟨rfl, rfl⟩
    exact ⟨rfl, v, _, hbk, fun _ _ => rfl, hbk, hown, hne, Below.refl _ _⟩
set_option maxHeartbeats 2000000 in
set_option maxRecDepth 100000 in
theorem wwrite_ok (h : WR b bs nv w) (s : ByteArray) (hlen : bs.length + s.size ≤ 140737488355328) :
    Calls Tryz.prog 49 #[.pointer (some ⟨b, 0, none⟩), .string s] w fun e w' => e = .returned (.tuple #[.int .i64 s.size, .nilIface]) ∧ WR b (bs ++ s.data.toList) nv w' ∧ Below b w w' ∧ ∃ p0 v, w.heap[b]? = some (.cells #[p0, v, nv] 110 (0, 0)) ∧ ∀ k, k < w.heap.size → k ≠ b → v.ownBlock ≠ some k → w'.heap[k]? = w.heap[k]? := by
  obtain ⟨i0, hi, hz0, hz1, hz2⟩ := info_parts Tryz.Builder_Extra_242.infoByte
  have hcc := wcopy_ok h
  have hbl : b ≤ w.heap.size := by obtain ⟨p, v, _, hbk, _⟩ := h.ex; exact Nat.le_of_lt (blk_lt hbk)
  clear h
  go_enter Tryz.func49, Tryz.ntmps49
  go_wp2_with (go_at_call 77; refine hcc.mono ?_)
  rintro e w1 ⟨rfl, v, p0, h00, hkp, hbk, hown, hne, hb1⟩
  obtain ⟨c0, c1, c2, f0, f1, _, hlt⟩ := wcells hbk
  go_wp2_with (at_builtin; refine Lib.wpList_append_own_stringF _ rfl _ _ 87 9 rfl b 5 i0 Tryz.underlying87 Tryz.underlying9 hi hz0 hz1 hz2 _ _ _ rfl hown s rfl ?c3 ?c4 ?c5 ?_)
  case c3 => unfold maxLen; omega
  case c4 => omega
  case c5 => omega
  intro v' w2 hown' hgrow _
  have hb2 : w2.heap[b]? = some (.cells #[.pointer (some ⟨b, 0, none⟩), v, nv] 110 (0, 0)) := by
    rw [hgrow.block b hlt (fun e => hne e.symm)]; exact hbk
  obtain ⟨d0, d1, d2, g0, g1, _, _⟩ := wcells hb2
  have hne' : v'.ownBlock ≠ some b := by
    intro e
    rcases hown'.2 with ⟨hv, _⟩ | ⟨g, cap, cur, fz, hv, _, hgg, _⟩
    · rw [hv] at e; cases e
    · rw [hv] at e
      have eg : g = b := by simpa [Value.ownBlock] using e
      rw [eg, hb2] at hgg
      simp at hgg
  obtain ⟨ao, n', cap, rfl⟩ : ∃ ao n' cap, v' = .slice ao n' cap := by
    rcases hown'.2 with ⟨hv, _⟩ | ⟨g, cap, cur, fz, hv, _⟩ <;> exact ⟨_, _, _, hv⟩
  have hcells : Lib.byteCells bs ++ Lib.strCells s = Lib.byteCells (bs ++ s.data.toList) := by
    simp [Lib.byteCells, Lib.strCells]
  have hblk : Below b w w2 := hb1.grown hgrow (Nat.le_of_lt hlt) (fun k hk => (hown.lt k hk).1)
  have hkk : ∀ k, k < w.heap.size → k ≠ b → v.ownBlock ≠ some k → w2.heap[k]? = w.heap[k]? := fun k hk h1 h2 => (hgrow.block k (by have := hb1.size; omega) (fun e => h2 e.symm)).trans (hkp k h1)
  have HKK := hide hkk
  have H00 := hide h00
  clear hkk h00 hkp
  have HO := hide hown'
  have HB := hide hblk
  have HB2 := hide hb2
  have HNE := hide hne'
  clear hown' hblk hgrow hown hb2 hne'
  go_wp2
  go_ret2
  refine ⟨rfl, ⟨.pointer (some ⟨b, 0, none⟩), _, Or.inr rfl, by rw [set_of HB2.out]; rfl, ?_, HNE.out⟩, HB.out.setCell (p := ⟨b, 1, none⟩) (Nat.le_refl _) _, p0, v, H00.out, fun k h1 h2 h3 => (Below.heap_setCell _ _ _ _ (fun e => h2 (by rw [e]))).trans (HKK.out k h1 h2 h3)⟩
  have hl : (bs ++ s.data.toList).length = bs.length + s.size := by simp
  rw [← hcells, hl]
  refine HO.out.kept (row := some b) ⟨rfl, rfl, rfl, by simp [World.setCell], fun k _ hk => Below.heap_setCell _ _ _ _ (fun e => hk (by rw [e]))⟩ (Or.inr HNE.out)
end Go.Proofs.YtfolnkmbdmfigaaGreatDoor

set_option linter.unusedSimpArgs false
set_option linter.unusedVariables false
namespace Go.Proofs.YtfolnkmbdmfigaaGreatDoor
open Go.RowKit Go.Lib

def IsAt (l : List Nd) (m : Nat) (u : Int) (f : Fo) : Prop := ∀ i, i < f.size → l[m + i]? = (f.flat m u)[i]?
theorem isAt_whole (f : Fo) (u : Int) : IsAt (f.flat 0 u) 0 u f := fun i _ => by rw [Nat.zero_add]
theorem IsAt.text {l : List Nd} {m : Nat} {u : Int} {t : List UInt8} {r : Fo} (h : IsAt l m u (.text t r)) : l[m]? = some ⟨[], [], t, [], u⟩ ∧ IsAt l (m + 1) u r := by
  refine ⟨?_, fun i hi => ?_⟩
  · have := h 0 (by simp only [Fo.size]; omega)
    simpa [Fo.flat] using this
  · have := h (i + 1) (by simp only [Fo.size]; omega)
    rw [show m + 1 + i = m + (i + 1) by omega, this]
    simp [Fo.flat]
theorem IsAt.elem {l : List Nd} {m : Nat} {u : Int} {n : List UInt8} {a : Ats} {k r : Fo} (h : IsAt l m u (.elem n a k r)) :
    l[m]? = some ⟨n, a, [], k.tops (m + 1), u⟩ ∧ IsAt l (m + 1) m k ∧ IsAt l (m + 1 + k.size) u r := by
  refine ⟨?_, fun i hi => ?_, fun i hi => ?_⟩
  · have := h 0 (by simp only [Fo.size]; omega)
    simpa [Fo.flat] using this
  · have := h (i + 1) (by simp only [Fo.size]; omega)
    rw [show m + 1 + i = m + (i + 1) by omega, this]
    simp only [Fo.flat, List.getElem?_cons_succ]
    rw [List.getElem?_append_left (by rw [flat_len]; exact hi)]
  · have := h (i + k.size + 1) (by simp only [Fo.size]; omega)
    rw [show m + 1 + k.size + i = m + (i + k.size + 1) by omega, this]
    simp only [Fo.flat, List.getElem?_cons_succ]
    rw [List.getElem?_append_right (by rw [flat_len]; omega), flat_len, Nat.add_sub_cancel]
theorem IsAt.of_text {l : List Nd} {m : Nat} {u : Int} {t : List UInt8} (h : l[m]? = some ⟨[], [], t, [], u⟩) : IsAt l m u (.text t .nil) := fun i hi => by
  simp only [Fo.size] at hi
  obtain rfl : i = 0 := by omega
  simpa [Fo.flat] using h
theorem IsAt.of_elem {l : List Nd} {m : Nat} {u : Int} {n : List UInt8} {a : Ats} {k : Fo} (h : l[m]? = some ⟨n, a, [], k.tops (m + 1), u⟩) (hk : IsAt l (m + 1) m k) : IsAt l m u (.elem n a k .nil) := fun i hi => by
  simp only [Fo.size] at hi
  cases i with
  | zero => simpa [Fo.flat] using h
  | succ i =>
    have := hk i (by omega)
    rw [show m + (i + 1) = m + 1 + i by omega, this]
    simp only [Fo.flat, List.getElem?_cons_succ, List.append_nil]
def Single (x : Fo) : Prop := (∃ t, x = .text t .nil) ∨ ∃ n a k, x = .elem n a k .nil
def Fo.All (P : List UInt8 → Prop) (Q : List UInt8 → Ats → Prop) : Fo → Prop
  | .nil => True
  | .text t r => P t ∧ r.All P Q
  | .elem n a k r => Q n a ∧ k.All P Q ∧ r.All P Q
def Fo.Apart : Bool → Fo → Prop
  | _, .nil => True
  | b, .text _ r => b = false ∧ r.Apart true
  | _, .elem _ _ k r => k.Apart false ∧ r.Apart false
def Fo.value : Fo → List UInt8
  | .nil => []
  | .text t r => t ++ r.value
  | .elem _ _ k r => k.value ++ r.value
def tagA (a : List UInt8 × List UInt8) : List UInt8 := 32 :: (a.1 ++ ([61, 34] ++ (Ch.escL true a.2 ++ [34])))
def Fo.isNil : Fo → Bool
  | .nil => true
  | _ => false
def Fo.plain : Fo → List UInt8
  | .nil => []
  | .text t r => Ch.escL false t ++ r.plain
  | .elem n a k r => (60 :: (n ++ a.flatMap tagA)) ++ ((if k.isNil = true then [47, 62] else [62] ++ (k.plain ++ ([60, 47] ++ (n ++ [62])))) ++ r.plain)
end Go.Proofs.YtfolnkmbdmfigaaGreatDoor

set_option linter.unusedSimpArgs false
set_option linter.unusedVariables false
namespace Go.Proofs.YtfolnkmbdmfigaaGreatDoor
open Go.RowKit Go.Maps Go.Lib
variable {w w' w1 wr : World} {b B : Nat} {bs : List UInt8} {nv : Value}
theorem add_rows2 (x y z : List UInt8) (e : x ++ y = z) (h : x.length + y.length ≤ 9223372036854775807) (w : World) : (Op.stringOp .add ⟨x.toArray⟩ ⟨y.toArray⟩).run Tryz.prog w = .ok (.string ⟨z.toArray⟩) w := by
  rw [run_string_add_sum w _ _ (by simpa [ByteArray.size] using h), ByteArray.mk_append_mk, e]
def headP (n : List UInt8) (a : Ats) (i : Nat) : List UInt8 := 60 :: (n ++ (a.take i).flatMap tagA)
theorem headP_next (n : List UInt8) (a : Ats) (i : Nat) (hi : i < a.length) : headP n a (i + 1) = headP n a i ++ tagA a[i] := by
  unfold headP
  rw [List.take_succ_eq_append_getElem hi, List.flatMap_append]
  simp
theorem headP_le (n : List UInt8) (a : Ats) (i : Nat) : (headP n a i).length ≤ (headP n a a.length).length := by
  have h : (a.take i).flatMap tagA ++ (a.drop i).flatMap tagA = a.flatMap tagA := by rw [← List.flatMap_append, List.take_append_drop]
  have h2 := congrArg List.length h
  unfold headP
  simp only [List.length_append, List.length_cons, List.take_length] at h2 ⊢
  omega
theorem attr_two {tA : TypeId} {l : Ats} {v : Value} (h : w.ownsRow 0 tA 2 v l.length (attrCells l)) (i : Nat) (hi : i < l.length) : ∃ g c, v = .slice (some ⟨g, 0, none⟩) l.length c ∧ w.cell? ⟨g, i * 2, none⟩ = some (.string ⟨(l[i]).1.toArray⟩) ∧ w.cell? ⟨g, i * 2 + 1, none⟩ = some (.string ⟨(l[i]).2.toArray⟩) ∧ l.length ≤ maxLen := by
  rcases h.2 with ⟨_, e⟩ | ⟨g, c, cur, e, _, hg, h1, h2, h3, h4⟩
  · omega
  · have key : ∀ (l : List (List UInt8 × List UInt8)) (i : Nat) (hi : i < l.length), (attrCells l)[i * 2]? = some (strV (l[i]).1) ∧ (attrCells l)[i * 2 + 1]? = some (strV (l[i]).2) := by
      intro l
      induction l with
      | nil => intro i hi; cases hi
      | cons x l ih =>
        intro i hi
        cases i with
        | zero => exact ⟨rfl, rfl⟩
        | succ i =>
          have := ih i (by simpa using hi)
          have e1 : (i + 1) * 2 = i * 2 + 2 := by omega
          rw [e1]
          simpa [attrCells] using this
    obtain ⟨k1, k2⟩ := key l i hi
    have up : ∀ j u, (attrCells l)[j]? = some u → w.cell? ⟨g, j, none⟩ = some u := fun j u hj => by
      refine cell_of hg ?_
      rw [← h4, List.getElem?_take] at hj
      split at hj
      · simpa using hj
      · cases hj
    exact ⟨g, c, e, up _ _ k1, up _ _ k2, Nat.le_trans h1 h2⟩
set_option maxHeartbeats 8000000 in
set_option maxRecDepth 10000 in
def BLD (b : Nat) (l : List UInt8) (w : World) : Prop := Lib.IsBuilderF 108 5 b b (Lib.byteCells l) w
theorem BLD.lt (h : BLD b bs w) : b < w.heap.size := by
  rcases h with ⟨_, v, hb, _⟩ | ⟨_, v, hb, _⟩
  · exact blk_lt hb
  · exact blk_lt hb
theorem bwrite_ok (h : BLD b bs w) (s : List UInt8) (hlen : bs.length + s.length ≤ 140737488355328) :
    Calls Tryz.prog 49 #[.pointer (some ⟨b, 0, none⟩), .string ⟨s.toArray⟩] w fun e w' => e = .returned (.tuple #[.int .i64 s.length, .nilIface]) ∧ BLD b (bs ++ s) w' ∧ Below b w w' ∧ Lib.OthersKept 5 (some b) w w' := by
  refine (writeString_k b b (Lib.byteCells bs) ⟨s.toArray⟩ w h (by simpa [ByteArray.size, Lib.byteCells] using hlen) (Nat.le_of_lt h.lt)).mono ?_
  rintro e w' ⟨rfl, h1, h2, h3⟩
  refine ⟨by simp [ByteArray.size], Or.inr ?_, h2, h3⟩
  have e1 : Lib.byteCells (bs ++ s) = Lib.byteCells bs ++ Lib.strCells ⟨s.toArray⟩ := by simp [Lib.byteCells, Lib.strCells]
  rw [e1]; exact h1
theorem bstring_ok (h : BLD b bs w) : Calls Tryz.prog 48 #[.pointer (some ⟨b, 0, none⟩)] w fun e w' => e = .returned (.string ⟨bs.toArray⟩) ∧ Below b w w' := by
  refine (Tryz.Builder_String_any_k b b bs w h (Nat.le_of_lt h.lt)).mono ?_
  rintro e w' ⟨rfl, _, h2, _⟩
  exact ⟨rfl, h2⟩
theorem BLD.past (h : BLD b bs w) (hb : Below w.heap.size w w') : BLD b bs w' := by
  have key : ∀ p, Lib.BuilderAtF 108 5 b b p (Lib.byteCells bs) w → Lib.BuilderAtF 108 5 b b p (Lib.byteCells bs) w' := by
    rintro p ⟨h1, v, hbk, hown, hne⟩
    exact ⟨h1, v, (hb.block b (blk_lt hbk)).trans hbk, hown.kept (row := none) ⟨hb.os, hb.tape, hb.output, hb.size, fun k hk _ => hb.block k hk⟩ (Classical.em _), hne⟩
  exact h.imp (key _) (key _)
theorem bfresh (w : World) : BLD w.heap.size [] (w.alloc (.cells #[.pointer none, .slice none 0 0] 108)) := Lib.IsBuilderF.of (Lib.fresh_isBuilder 108 5 w)
set_option maxHeartbeats 8000000 in
set_option maxRecDepth 10000 in
theorem begin_ok (n : List UInt8) (at_ : Ats) (va : Value) (w : World) (hrow : w.ownsRow 0 44 2 va at_.length (attrCells at_)) (hz : (headP n at_ at_.length).length ≤ 1099511627776) :
    Calls Tryz.prog 51 #[.string ⟨n.toArray⟩, va] w fun e w' => e = .returned (.string ⟨(headP n at_ at_.length).toArray⟩) ∧ Below w.heap.size w w' := by
  obtain ⟨ai, ac, rfl⟩ := slice_len hrow
  have hle := headP_le n at_
  have h0 : headP n at_ 0 = 60 :: n := by simp [headP]
  have a0 := add_rows2 [60] n (headP n at_ 0) (by rw [h0]; rfl) (by have := hle 0; rw [h0] at this; simp only [List.length_cons, List.length_nil] at this ⊢; omega)
  have hw0 : ∀ W, BLD w.heap.size [] W → Calls Tryz.prog 49 #[.pointer (some ⟨w.heap.size, 0, none⟩), .string ⟨(headP n at_ 0).toArray⟩] W fun e w' => e = .returned (.tuple #[.int .i64 (headP n at_ 0).length, .nilIface]) ∧ BLD w.heap.size (headP n at_ 0) w' ∧ Below w.heap.size W w' := fun W h => by
    refine (bwrite_ok h (headP n at_ 0) (by have := hle 0; simp only [List.length_nil]; omega)).mono ?_
    rintro e w' ⟨rfl, h1, h2, _⟩
    exact ⟨rfl, h1, h2⟩
  have hattr : ∀ W, Below w.heap.size w W → ∀ i (hi : i < at_.length), ∃ ga, ai = some ⟨ga, 0, none⟩ ∧ (at_.length : Int) ≤ 9223372036854775807 ∧ ∃ x y : List UInt8, headP n at_ (i + 1) = headP n at_ i ++ (32 :: (x ++ ([61, 34] ++ (Ch.escL true y ++ [34])))) ∧ y.length ≤ 1099511627776 ∧ W.cell? ⟨ga, i * 2, none⟩ = some (.string ⟨x.toArray⟩) ∧ W.cell? ⟨ga, i * 2 + 1, none⟩ = some (.string ⟨y.toArray⟩) := by
    intro W hW i hi
    obtain ⟨ga, ca, e, x1, x2, hm⟩ := attr_two hrow i hi
    cases e
    have hga : ga < w.heap.size := own_lt hrow rfl
    have h7 := Ch.escL_ge true (at_[i]).2
    have hn := headP_next n at_ i hi
    have hl := hle (i + 1)
    rw [hn, List.length_append] at hl
    unfold tagA at hl
    simp only [List.length_cons, List.length_append, List.length_nil] at hl
    exact ⟨ga, rfl, by have : maxLen = 9223372036854775807 := rfl; omega, (at_[i]).1, (at_[i]).2, hn, by omega, (World.cell?_of_block (hW.block ga hga)).trans x1, (World.cell?_of_block (hW.block ga hga)).trans x2⟩
  have HF := hide (bfresh w)
  have HFB := hide ((Below.refl w.heap.size w).alloc (Nat.le_refl _) (.cells #[.pointer none, .slice none 0 0] 108))
  have HAT := hide hattr
  have HLE := hide hle
  have HZ := hide hz
  have HW0 := hide hw0
  clear hattr hle hz hw0 hrow h0
  generalize hH : headP n at_ = H at *
  have HH := hide hH
  clear hH
  generalize at_.length = m at *
  go_enter Tryz.func51, Tryz.ntmps51
  go_wp2_with (go_at_call 49; refine (HW0.out _ HF.out).mono ?_; rintro e w1 ⟨rfl, r1, b1⟩; have R1 := hide r1; have B1 := hide (HFB.out.trans b1); clear r1 b1)
  go_loopw [13] (fun iv wr => ∃ k : Nat, iv = .int .i64 k ∧ k ≤ m ∧ BLD w.heap.size (H k) wr ∧ Below w.heap.size w wr) (fun iv _ => m - (RowKit.intOf iv).toNat)
  case atStart => exact ⟨0, rfl, Nat.zero_le _, R1.out, B1.out⟩
  case round =>
    obtain ⟨k, rfl, hk, hwr, hb⟩ := hrel
    have HWR := hide hwr
    have HB := hide hb
    clear hwr hb R1 B1
    by_cases hlt : k < m
    · obtain ⟨ga, rfl, hmax, x, y, hnx, hyl, g1, g2⟩ := HAT.out _ HB.out k hlt
      have hdec : decide ((k : Int) < m) = true := by simp; omega
      have hesc : Ch.esc ⟨y.toArray⟩ true = Ch.escL true y := by unfold Ch.esc; simp
      have hcall := fun w => escape_any ⟨y.toArray⟩ true w (by simpa [ByteArray.size] using hyl)
      rw [hesc] at hcall
      have hl1 := HLE.out (k + 1)
      have hl2 := HZ.out
      obtain ⟨V, hV⟩ : ∃ V, Ch.escL true y = V := ⟨_, rfl⟩
      rw [hV] at hcall hnx
      obtain ⟨X2, hX2⟩ : ∃ X, [32] ++ x = X := ⟨_, rfl⟩
      obtain ⟨X3, hX3⟩ : ∃ X, X2 ++ [61, 34] = X := ⟨_, rfl⟩
      obtain ⟨X4, hX4⟩ : ∃ X, X3 ++ V = X := ⟨_, rfl⟩
      obtain ⟨X5, hX5⟩ : ∃ X, X4 ++ [34] = X := ⟨_, rfl⟩
      have e5 : H (k + 1) = H k ++ X5 := by rw [hnx, ← hX5, ← hX4, ← hX3, ← hX2]; simp
      have n0 := congrArg List.length e5
      rw [List.length_append] at n0
      have n1 : X2.length = x.length + 1 := by rw [← hX2, List.length_append]; simp only [List.length_cons, List.length_nil]; omega
      have n2 : X3.length = X2.length + 2 := by rw [← hX3, List.length_append]; rfl
      have n3 : X4.length = X3.length + V.length := by rw [← hX4, List.length_append]
      have n4 : X5.length = X4.length + 1 := by rw [← hX5, List.length_append]; rfl
      have p2 := add_rows2 [32] x X2 hX2 (by simp only [List.length_cons, List.length_nil]; omega)
      have p3 := add_rows2 X2 [61, 34] X3 hX3 (by simp only [List.length_cons, List.length_nil]; omega)
      have p4 := add_rows2 X3 V X4 hX4 (by omega)
      have p5 := add_rows2 X4 [34] X5 hX5 (by simp only [List.length_cons, List.length_nil]; omega)
      obtain ⟨O, hO⟩ : ∃ O : Obj, Obj.cells #[.string ⟨x.toArray⟩, .string ⟨y.toArray⟩] 44 = O := ⟨_, rfl⟩
      have hbox := (Below.refl wr.heap.size wr).alloc (Nat.le_refl _) O
      have hxn : (wr.alloc O).heap[wr.heap.size]? = some (.cells #[.string ⟨x.toArray⟩, .string ⟨y.toArray⟩] 44) := by rw [hO]; exact Below_new _ _
      have c0 : (wr.alloc O).cell? ⟨wr.heap.size, 0, none⟩ = some (.string ⟨x.toArray⟩) := cell_of hxn rfl
      have c1 : (wr.alloc O).cell? ⟨wr.heap.size, 1, none⟩ = some (.string ⟨y.toArray⟩) := cell_of hxn rfl
      have hlx : wr.heap.size < (wr.alloc O).heap.size := by first | (simp; done) | (simp; omega)
      have hlb := HWR.out.lt
      have hafter : ∀ W, Below (wr.alloc O).heap.size (wr.alloc O) W → (W.cell? ⟨wr.heap.size, 0, none⟩ = some (.string ⟨x.toArray⟩) ∧ W.cell? ⟨wr.heap.size, 1, none⟩ = some (.string ⟨y.toArray⟩)) ∧ BLD w.heap.size (H k) W ∧ Below w.heap.size w W := fun W hW => by
        have hx2 := (hW.block wr.heap.size hlx).trans hxn
        have hbb := hbox.trans (below_less hW (Nat.le_of_lt hlx))
        exact ⟨⟨cell_of hx2 rfl, cell_of hx2 rfl⟩, HWR.out.past hbb, HB.out.trans (below_less hbb (Nat.le_of_lt hlb))⟩
      have hwrite : ∀ W, Below (wr.alloc O).heap.size (wr.alloc O) W → Calls Tryz.prog 49 #[.pointer (some ⟨w.heap.size, 0, none⟩), .string ⟨X5.toArray⟩] W fun e w' => e = .returned (.tuple #[.int .i64 X5.length, .nilIface]) ∧ BLD w.heap.size (H (k + 1)) w' ∧ Below w.heap.size w w' ∧ (w'.cell? ⟨wr.heap.size, 0, none⟩ = some (.string ⟨x.toArray⟩) ∧ w'.cell? ⟨wr.heap.size, 1, none⟩ = some (.string ⟨y.toArray⟩)) := fun W hW => by
        obtain ⟨_, hW2, hbW⟩ := hafter W hW
        refine (bwrite_ok hW2 X5 (by omega)).mono ?_
        rintro e w' ⟨rfl, q, q2, q3⟩
        have h9 := q3 wr.heap.size _ ((hW.block wr.heap.size hlx).trans hxn) (fun e => by have := Option.some.inj e; omega) (by intro c fz e; cases e)
        exact ⟨rfl, by rw [e5]; exact q, hbW.trans q2, cell_of h9 rfl, cell_of h9 rfl⟩
      have HCL := hide hcall
      have HWT := hide hwrite
      have HAF := hide hafter
      clear hcall hnx hyl hesc hl1 hl2 hwrite hafter hV hX2 hX3 hX4 hX5 e5 n0 n1 n2 n3 n4 hbox hxn hlx
      go_wp2_with fail
      try rw [hO]
      clear g1 g2 hO
      go_region_held3 (fun W => W.cell? ⟨wr.heap.size, 0, none⟩ = some (.string ⟨x.toArray⟩) ∧ W.cell? ⟨wr.heap.size, 1, none⟩ = some (.string ⟨y.toArray⟩))
        (first | exact d3 | exact ⟨c0, c1⟩ | exact (HAF.out _ (below_drewN b2 _)).1 | exact (HAF.out _ b2).1)
        (first | (go_at_call 50; refine (HCL.out _).mono ?_; rintro e w2 ⟨rfl, b2'⟩; have b2 := (below_drewN (Below.refl _ _) _).trans b2'; clear b2') | (go_at_call 49; (first | refine (HWT.out _ b2).mono ?_ | refine (HWT.out _ (below_drewN b2 _)).mono ?_); rintro e w3 ⟨rfl, r3, b3, d3⟩))
      all_goals
        have R3 := hide r3
        have B3 := hide b3
        clear r3 b3 b2 d3 c0 c1
        go_wp2
        go_roundw
        case rel => exact ⟨k + 1, by simp, by omega, R3.out, B3.out⟩
        case measure => simp only [RowKit.intOf]; omega
    · have hdec : decide ((k : Int) < m) = false := by simp; omega
      obtain rfl : m = k := by omega
      have hstr := bstring_ok HWR.out
      go_wp2_with (go_at_call 48; refine hstr.mono ?_; rintro e w2 ⟨rfl, b2⟩; have B2 := hide (HB.out.trans b2); clear b2)
      go_ret
      exact ⟨rfl, B2.out⟩
end Go.Proofs.YtfolnkmbdmfigaaGreatDoor

set_option linter.unusedSimpArgs false
set_option linter.unusedVariables false
namespace Go.Proofs.YtfolnkmbdmfigaaGreatDoor
open Go.RowKit Go.Maps Go.Lib
variable {w w' w1 wr : World} {b B : Nat} {bs : List UInt8} {nv : Value}
theorem WR.past (h : WR b bs nv w) (hb : Below w.heap.size w w') : WR b bs nv w' := by
  obtain ⟨p, v, hp, hbk, hown, hne⟩ := h.ex
  exact ⟨p, v, hp, (hb.block b (blk_lt hbk)).trans hbk, hown.kept (row := none) ⟨hb.os, hb.tape, hb.output, hb.size, fun k hk _ => hb.block k hk⟩ (Classical.em _), hne⟩
theorem WR.lt (h : WR b bs nv w) : b < w.heap.size := by obtain ⟨p, v, _, hbk, _⟩ := h.ex; exact blk_lt hbk
end Go.Proofs.YtfolnkmbdmfigaaGreatDoor

set_option linter.unusedSimpArgs false
set_option linter.unusedVariables false
namespace Go.Proofs.YtfolnkmbdmfigaaGreatDoor
open Go.RowKit Go.Maps Go.Lib
variable {w w' w1 wr : World} {b B : Nat} {bs : List UInt8} {nv : Value}
set_option maxHeartbeats 8000000 in
set_option maxRecDepth 10000 in
theorem wkids31 (l : List Nat) (H : Nat → List UInt8) (gN o : Nat) (ki : Option Addr) (kc : Nat) (h : WR b (bs ++ H 0) nv w) (hgN : gN < b) (c3 : w.cell? ⟨gN, o + 3, none⟩ = some (.slice ki l.length kc)) (hrow : w.ownsRow 0 3 1 (.slice ki l.length kc) l.length (kidCells l))
    (hlow : ∀ k, (Value.slice ki l.length kc).ownBlock = some k → k < b)
    (hway : ∀ i (hi : i < l.length) W, WR b (bs ++ H i) nv W → Below b w W → Calls Tryz.prog 32 #[.pointer (some ⟨b, 0, none⟩), .int .i64 (l[i] : Int)] W fun e w' => e = .returned (.tuple #[]) ∧ WR b (bs ++ H (i + 1)) nv w' ∧ Below b W w') :
    Calls Tryz.prog 52 #[.pointer (some ⟨b, 0, none⟩), .pointer (some ⟨gN, o, none⟩), .func (.func 32) #[] #[]] w fun e w' => e = .returned (.tuple #[]) ∧ WR b (bs ++ H l.length) nv w' ∧ Below b w w' := by
  have hkid : ∀ W, Below b w W → ∀ i (hi : i < l.length), ∃ ga, ki = some ⟨ga, 0, none⟩ ∧ (l.length : Int) ≤ 9223372036854775807 ∧ W.cell? ⟨ga, i, none⟩ = some (.int .i64 (l[i] : Int)) := by
    intro W hW i hi
    obtain ⟨ga, ca, e, x1, hm⟩ := kid_cell (n := 0) hrow i hi
    cases e
    exact ⟨ga, rfl, by have : maxLen = 9223372036854775807 := rfl; omega, (World.cell?_of_block (hW.block ga (hlow ga rfl))).trans x1⟩
  have HK := hide hkid
  have HW := hide hway
  have HR := hide h
  clear h hrow hlow hway hkid
  go_enter Tryz.func52, Tryz.ntmps52
  go_wp2_with fail
  go_loopw [13] (fun iv wr => ∃ k : Nat, iv = .int .i64 k ∧ k ≤ l.length ∧ WR b (bs ++ H k) nv wr ∧ Below b w wr) (fun iv _ => l.length - (RowKit.intOf iv).toNat)
  case atStart => exact ⟨0, rfl, Nat.zero_le _, HR.out, Below.refl _ _⟩
  case round =>
    obtain ⟨k, rfl, hk, hwr, hb⟩ := hrel
    have HWR := hide hwr
    have HB := hide hb
    clear hwr hb HR c3
    by_cases hlt : k < l.length
    · obtain ⟨ga, rfl, hmax, g1⟩ := HK.out _ HB.out k hlt
      have hdec : decide ((k : Int) < l.length) = true := by simp; omega
      have hcall := HW.out k hlt _ HWR.out HB.out
      have HCL := hide hcall
      clear hcall
      generalize (l[k] : Int) = z at *
      go_wp2_with fail
      refine HCL.out.mono ?_
      rintro e w2 ⟨rfl, r2, b2⟩
      have R2 := hide r2
      have B2 := hide (HB.out.trans b2)
      clear r2 b2 HCL g1
      go_wp2
      go_roundw
      case rel => exact ⟨k + 1, by simp, by omega, R2.out, B2.out⟩
      case measure => simp only [RowKit.intOf]; omega
    · have hdec : decide ((k : Int) < l.length) = false := by simp; omega
      obtain rfl : l.length = k := by omega
      go_wp2
      go_end0
      exact ⟨rfl, HWR.out, HB.out⟩
set_option maxHeartbeats 8000000 in
set_option maxRecDepth 10000 in
theorem wkids32 (l : List Nat) (H : Nat → List UInt8) (gN o : Nat) (ki : Option Addr) (kc : Nat) (h : WR b (bs ++ H 0) nv w) (hgN : gN < b) (c3 : w.cell? ⟨gN, o + 3, none⟩ = some (.slice ki l.length kc)) (hrow : w.ownsRow 0 3 1 (.slice ki l.length kc) l.length (kidCells l))
    (hlow : ∀ k, (Value.slice ki l.length kc).ownBlock = some k → k < b)
    (hway : ∀ i (hi : i < l.length) W, WR b (bs ++ H i) nv W → Below b w W → Calls Tryz.prog 33 #[.pointer (some ⟨b, 0, none⟩), .int .i64 (l[i] : Int)] W fun e w' => e = .returned (.tuple #[]) ∧ WR b (bs ++ H (i + 1)) nv w' ∧ Below b W w') :
    Calls Tryz.prog 52 #[.pointer (some ⟨b, 0, none⟩), .pointer (some ⟨gN, o, none⟩), .func (.func 33) #[] #[]] w fun e w' => e = .returned (.tuple #[]) ∧ WR b (bs ++ H l.length) nv w' ∧ Below b w w' := by
  have hkid : ∀ W, Below b w W → ∀ i (hi : i < l.length), ∃ ga, ki = some ⟨ga, 0, none⟩ ∧ (l.length : Int) ≤ 9223372036854775807 ∧ W.cell? ⟨ga, i, none⟩ = some (.int .i64 (l[i] : Int)) := by
    intro W hW i hi
    obtain ⟨ga, ca, e, x1, hm⟩ := kid_cell (n := 0) hrow i hi
    cases e
    exact ⟨ga, rfl, by have : maxLen = 9223372036854775807 := rfl; omega, (World.cell?_of_block (hW.block ga (hlow ga rfl))).trans x1⟩
  have HK := hide hkid
  have HW := hide hway
  have HR := hide h
  clear h hrow hlow hway hkid
  go_enter Tryz.func52, Tryz.ntmps52
  go_wp2_with fail
  go_loopw [13] (fun iv wr => ∃ k : Nat, iv = .int .i64 k ∧ k ≤ l.length ∧ WR b (bs ++ H k) nv wr ∧ Below b w wr) (fun iv _ => l.length - (RowKit.intOf iv).toNat)
  case atStart => exact ⟨0, rfl, Nat.zero_le _, HR.out, Below.refl _ _⟩
  case round =>
    obtain ⟨k, rfl, hk, hwr, hb⟩ := hrel
    have HWR := hide hwr
    have HB := hide hb
    clear hwr hb HR c3
    by_cases hlt : k < l.length
    · obtain ⟨ga, rfl, hmax, g1⟩ := HK.out _ HB.out k hlt
      have hdec : decide ((k : Int) < l.length) = true := by simp; omega
      have hcall := HW.out k hlt _ HWR.out HB.out
      have HCL := hide hcall
      clear hcall
      generalize (l[k] : Int) = z at *
      go_wp2_with fail
      refine HCL.out.mono ?_
      rintro e w2 ⟨rfl, r2, b2⟩
      have R2 := hide r2
      have B2 := hide (HB.out.trans b2)
      clear r2 b2 HCL g1
      go_wp2
      go_roundw
      case rel => exact ⟨k + 1, by simp, by omega, R2.out, B2.out⟩
      case measure => simp only [RowKit.intOf]; omega
    · have hdec : decide ((k : Int) < l.length) = false := by simp; omega
      obtain rfl : l.length = k := by omega
      go_wp2
      go_end0
      exact ⟨rfl, HWR.out, HB.out⟩
end Go.Proofs.YtfolnkmbdmfigaaGreatDoor

set_option linter.unusedSimpArgs false
set_option linter.unusedVariables false
namespace Go.Proofs.YtfolnkmbdmfigaaGreatDoor
open Go.RowKit Go.Maps Go.Lib
def Fo.parts : Fo → List Fo
  | .nil => []
  | .text t r => .text t .nil :: r.parts
  | .elem n a k r => .elem n a k .nil :: r.parts
theorem parts_len : ∀ (f : Fo) (m : Nat), f.parts.length = (f.tops m).length
  | .nil, _ => rfl
  | .text t r, m => by simp only [Fo.parts, Fo.tops, List.length_cons, parts_len r (m + 1)]
  | .elem n a k r, m => by simp only [Fo.parts, Fo.tops, List.length_cons, parts_len r (m + 1 + k.size)]
theorem parts_at {l : List Nd} {u : Int} : ∀ (f : Fo) (m : Nat), IsAt l m u f → ∀ i (h : i < (f.tops m).length) (h2 : i < f.parts.length), IsAt l (f.tops m)[i] u f.parts[i] ∧ Single f.parts[i] ∧ (f.parts[i]).size ≤ f.size
  | .nil, _, _, i, h, _ => by simp [Fo.tops] at h
  | .text t r, m, ha, 0, _, _ => ⟨.of_text ha.text.1, Or.inl ⟨t, rfl⟩, by simp [Fo.parts, Fo.size]⟩
  | .text t r, m, ha, i + 1, h, h2 => by
    obtain ⟨x, y, z⟩ := parts_at r (m + 1) ha.text.2 i (by simpa [Fo.tops] using h) (by simpa [Fo.parts] using h2)
    exact ⟨x, y, by simp only [Fo.size]; exact Nat.le_trans z (by omega)⟩
  | .elem n a k r, m, ha, 0, _, _ => ⟨.of_elem ha.elem.1 ha.elem.2.1, Or.inr ⟨n, a, k, rfl⟩, by simp [Fo.parts, Fo.size]⟩
  | .elem n a k r, m, ha, i + 1, h, h2 => by
    obtain ⟨x, y, z⟩ := parts_at r (m + 1 + k.size) ha.elem.2.2 i (by simpa [Fo.tops] using h) (by simpa [Fo.parts] using h2)
    exact ⟨x, y, by simp only [Fo.size]; exact Nat.le_trans z (by omega)⟩
theorem parts_value : ∀ f : Fo, f.parts.flatMap Fo.value = f.value
  | .nil => rfl
  | .text t r => by simp [Fo.parts, Fo.value, parts_value r]
  | .elem n a k r => by simp [Fo.parts, Fo.value, parts_value r]
theorem parts_plain : ∀ f : Fo, f.parts.flatMap Fo.plain = f.plain
  | .nil => rfl
  | .text t r => by simp [Fo.parts, Fo.plain, parts_plain r]
  | .elem n a k r => by simp [Fo.parts, Fo.plain, parts_plain r]
def upto (g : Fo → List UInt8) (f : Fo) (i : Nat) : List UInt8 := (f.parts.take i).flatMap g
theorem upto_next (g : Fo → List UInt8) (f : Fo) (i : Nat) (h : i < f.parts.length) : upto g f (i + 1) = upto g f i ++ g f.parts[i] := by
  unfold upto
  rw [List.take_succ_eq_append_getElem h, List.flatMap_append]; simp
theorem upto_all (g : Fo → List UInt8) (f : Fo) : upto g f f.parts.length = f.parts.flatMap g := by unfold upto; rw [List.take_length]
theorem upto_le (g : Fo → List UInt8) (f : Fo) (i : Nat) : (upto g f i).length ≤ (f.parts.flatMap g).length := by
  have h : (f.parts.take i).flatMap g ++ (f.parts.drop i).flatMap g = f.parts.flatMap g := by rw [← List.flatMap_append, List.take_append_drop]
  rw [← h, List.length_append]; unfold upto; omega
theorem inner {l : List Nd} {m : Nat} {u : Int} {x : Fo} (hs : Single x) (h : IsAt l m u x) : ∃ nd k, l[m]? = some nd ∧ nd.kids = k.tops (m + 1) ∧ IsAt l (m + 1) m k ∧ k.size < x.size ∧ x.value = nd.text ++ k.value := by
  rcases hs with ⟨t, rfl⟩ | ⟨n, a, k, rfl⟩
  · exact ⟨_, .nil, h.text.1, rfl, fun i hi => by simp [Fo.size] at hi, by simp [Fo.size], by simp [Fo.value]⟩
  · exact ⟨_, k, h.elem.1, rfl, h.elem.2.1, by simp only [Fo.size]; omega, by simp [Fo.value]⟩
variable {A K : Nat → Prop} {w w' w1 wr : World} {b : Nat} {bs : List UInt8} {nv : Value} {av kv : Nat → Value} {l : List Nd}
theorem Nodes.after (h : Nodes 42 44 A K w nv l av kv) (hA : ∀ k, A k → k < b) (hK : ∀ k, K k → k < b) (hb : Below b w w') : Nodes 42 44 A K w' nv l av kv :=
  h.frame (fun k _ a => hb.block k (hA k a)) (fun k _ a => hb.block k (hK k a)) (fun _ _ a => a)
set_option maxHeartbeats 8000000 in
set_option maxRecDepth 10000 in
theorem wvalue_ok (hA : ∀ k, A k → k < b) (hK : ∀ k, K k → k < b) : ∀ (N : Nat) (x : Fo) (m : Nat) (u : Int) (bs : List UInt8) (w : World), x.size ≤ N → Single x → IsAt l m u x → Nodes 42 44 A K w nv l av kv → WR b bs nv w → bs.length + x.value.length ≤ 1099511627776 →
    Calls Tryz.prog 33 #[.pointer (some ⟨b, 0, none⟩), .int .i64 (m : Int)] w fun e w' => e = .returned (.tuple #[]) ∧ WR b (bs ++ x.value) nv w' ∧ Below b w w' := by
  intro N
  induction N with
  | zero => intro x m u bs w hN hs; rcases hs with ⟨t, rfl⟩ | ⟨n, a, k, rfl⟩ <;> simp [Fo.size] at hN
  | succ N ih =>
    intro x m u bs w hN hs hx hn hwr hz
    obtain ⟨nd, k, hnd, hkd, hat, hsz, hv⟩ := inner hs hx
    have hm := (List.getElem?_eq_some_iff.1 hnd).1
    obtain ⟨g, cap, rfl, hml, hKg, q0, q1, q2, q3, q4⟩ := hn.cells m nd hnd
    obtain ⟨p, v, hp, hbk, hown, hne⟩ := hwr.ex
    obtain ⟨z0, z1, z2, _, _, _, hbl⟩ := wcells hbk
    have hkr := hn.kid m nd hnd
    obtain ⟨ki, kc, hki⟩ := slice_len hkr
    rw [hv, List.length_append] at hz
    have hw0 := fun W (hW : WR b bs (.slice (some ⟨g, 0, none⟩) l.length cap) W) => wwrite_ok hW ⟨nd.text.toArray⟩ (by simp only [ByteArray.size, List.size_toArray]; omega)
    have hle := upto_le Fo.value k
    rw [parts_value] at hle
    have hkids : ∀ W, Below b w W → WR b (bs ++ nd.text) (.slice (some ⟨g, 0, none⟩) l.length cap) W → Calls Tryz.prog 52 #[.pointer (some ⟨b, 0, none⟩), .pointer (some ⟨g, m * 5, none⟩), .func (.func 33) #[] #[]] W fun e w' => e = .returned (.tuple #[]) ∧ WR b (bs ++ x.value) (.slice (some ⟨g, 0, none⟩) l.length cap) w' ∧ Below b W w' := by
      intro W hb hW
      have hn2 := hn.after hA hK hb
      have hkr2 := hn2.kid m nd hnd
      obtain ⟨g', cap', e', _, _, _, _, _, r3, _⟩ := hn2.cells m nd hnd
      cases e'
      rw [hki] at hkr2 r3
      have := wkids32 (w := W) (bs := bs ++ nd.text) nd.kids (upto Fo.value k) g (m * 5) ki kc (by simpa [upto] using hW) (hK g hKg) r3 hkr2 (fun j hj => hK j (hn.kidK m j hm (by rw [hki]; exact hj)).1) ?_
      · refine this.mono ?_
        rintro e w' ⟨rfl, s1, s2⟩
        refine ⟨rfl, ?_, s2⟩
        have e3 : nd.kids.length = k.parts.length := by rw [hkd, parts_len k (m + 1)]
        rw [e3, upto_all, parts_value, List.append_assoc, ← hv] at s1
        exact s1
      · intro i hi W2 hW2 hb2
        have hi2 : i < k.parts.length := by rw [parts_len k (m + 1), ← hkd]; exact hi
        have hi3 : i < (k.tops (m + 1)).length := by rw [← hkd]; exact hi
        obtain ⟨t1, t2, t3⟩ := parts_at k (m + 1) hat i hi3 hi2
        have hnx := upto_next Fo.value k i hi2
        have hl2 := hle (i + 1)
        rw [hnx, List.length_append] at hl2
        have := ih k.parts[i] (k.tops (m + 1))[i] m (bs ++ nd.text ++ upto Fo.value k i) W2 (by omega) t2 t1 (hn2.after hA hK hb2) hW2 (by simp only [List.length_append]; omega)
        have e4 : nd.kids[i] = (k.tops (m + 1))[i] := by simp only [hkd]
        rw [e4]
        refine this.mono ?_
        rintro e w' ⟨rfl, s1, s2⟩
        exact ⟨rfl, by rw [hnx, ← List.append_assoc]; exact s1, s2⟩
    have hmx : (l.length : Int) ≤ 9223372036854775807 := by have : maxLen = 9223372036854775807 := rfl; omega
    have hge : ¬ (m : Int) < 0 := by omega
    have hmi : (m : Int) < l.length := by omega
    have HR := hide hwr
    have HKS := hide hkids
    have HW0 := hide hw0
    have HK := hide hK
    clear hwr hkids hw0 hle hn hkr hki ih hat hv hz hnd hkd hown hne hp hbk hx hs hN hsz q0 q1 q3 q4 z0 z1
    unfold strV at q2
    generalize l.length = L at *
    go_enter Tryz.func33, Tryz.ntmps33
    go_wp2_with fail
    go_region_held3 (fun W => W.cell? ⟨g, m * 5 + 2, none⟩ = some (.string ⟨nd.text.toArray⟩))
      (first | exact q2 | exact (World.cell?_of_block (b1.block g (HK.out g hKg))).trans q2)
      (first | (go_at_call 49; refine (HW0.out w.drew ⟨HR.out.ex⟩).mono ?_; rintro e w1 ⟨rfl, r1, b1', -⟩; have b1 : Below b w w1 := Below.trans (Below.refl b w).drew b1'; clear b1'))
    all_goals
      have R1 := hide r1
      have B1 := hide b1
      clear r1 b1 q2
      go_wp2_with fail
      refine (HKS.out _ B1.out R1.out).mono ?_
      rintro e w2 ⟨rfl, r2, b2⟩
      have R2 := hide r2
      have B2 := hide (B1.out.trans b2)
      clear r2 b2
      go_wp2
      go_end0
      exact ⟨rfl, R2.out, B2.out⟩
end Go.Proofs.YtfolnkmbdmfigaaGreatDoor

set_option linter.unusedSimpArgs false
set_option linter.unusedVariables false
namespace Go.Proofs.YtfolnkmbdmfigaaGreatDoor
open Go.RowKit Go.Maps Go.Lib
variable {A K : Nat → Prop} {w w' w1 wr : World} {b : Nat} {bs : List UInt8} {nv : Value} {av kv : Nat → Value} {l : List Nd}
theorem parts_all {P : List UInt8 → Prop} {Q : List UInt8 → Ats → Prop} : ∀ (f : Fo), f.All P Q → ∀ i (h : i < f.parts.length), (f.parts[i]).All P Q
  | .nil, _, i, h => by simp [Fo.parts] at h
  | .text t r, ha, 0, _ => ⟨ha.1, trivial⟩
  | .text t r, ha, i + 1, h => parts_all r ha.2 i (by simpa [Fo.parts] using h)
  | .elem n a k r, ha, 0, _ => ⟨ha.1, ha.2.1, trivial⟩
  | .elem n a k r, ha, i + 1, h => parts_all r ha.2.2 i (by simpa [Fo.parts] using h)
theorem eql_none (w : World) : (binOp .eql 40 (.slice none 0 0) (.slice none 0 0)).run Tryz.prog w = .ok (.bool true) w := by kernel_rfl
theorem eql_row (a : Addr) (n c : Nat) (w : World) : (binOp .eql 40 (.slice (some a) n c) (.slice none 0 0)).run Tryz.prog w = .ok (.bool false) w := by kernel_rfl
set_option maxHeartbeats 8000000 in
set_option maxRecDepth 10000 in
theorem wplain_text (hA : ∀ k, A k → k < b) (hK : ∀ k, K k → k < b) (t : List UInt8) (m : Nat) (u : Int) (bs : List UInt8) (w : World) (hnd : l[m]? = some ⟨[], [], t, [], u⟩) (hn : Nodes 42 44 A K w nv l av kv) (hwr : WR b bs nv w) (hz : bs.length + (Ch.escL false t).length ≤ 1099511627776) :
    Calls Tryz.prog 32 #[.pointer (some ⟨b, 0, none⟩), .int .i64 (m : Int)] w fun e w' => e = .returned (.tuple #[]) ∧ WR b (bs ++ Ch.escL false t) nv w' ∧ Below b w w' := by
  have hm := (List.getElem?_eq_some_iff.1 hnd).1
  obtain ⟨g, cap, rfl, hml, hKg, q0, q1, q2, q3, q4⟩ := hn.cells m _ hnd
  obtain ⟨p, v, hp, hbk, hown, hne⟩ := hwr.ex
  obtain ⟨z0, z1, z2, _, _, _, hbl⟩ := wcells hbk
  have hmx : (l.length : Int) ≤ 9223372036854775807 := by have : maxLen = 9223372036854775807 := rfl; omega
  have hge : ¬ (m : Int) < 0 := by omega
  have hmi : (m : Int) < l.length := by omega
  have h7 := Ch.escL_ge false t
  have hesc : Ch.esc ⟨t.toArray⟩ false = Ch.escL false t := by unfold Ch.esc; simp
  have hcall := fun w => escape_any ⟨t.toArray⟩ false w (by simp only [ByteArray.size, List.size_toArray]; omega)
  rw [hesc] at hcall
  obtain ⟨V, hV⟩ : ∃ V, Ch.escL false t = V := ⟨_, rfl⟩
  rw [hV] at hcall hz ⊢
  have hw0 := fun W (hW : WR b bs (.slice (some ⟨g, 0, none⟩) l.length cap) W) => wwrite_ok hW ⟨V.toArray⟩ (by simp only [ByteArray.size, List.size_toArray]; omega)
  have hgb := hK g hKg
  have HR := hide hwr
  have HCL := hide hcall
  have HW0 := hide hw0
  clear hwr hcall hw0 hn hz hnd hown hne hp hbk q1 q3 q4 z0 z1 h7 hesc hV
  unfold strV at q0 q2
  generalize l.length = L at *
  go_enter Tryz.func32, Tryz.ntmps32
  go_wp2_with fail
  go_region_held3 (fun W => W.cell? ⟨g, m * 5 + 2, none⟩ = some (.string ⟨t.toArray⟩))
    (first | exact q2 | exact (World.cell?_of_block (b1.block g hgb)).trans q2 | exact (World.cell?_of_block (b2.block g hgb)).trans q2)
    (first | (go_at_call 50; refine (HCL.out _).mono ?_; rintro e w2 ⟨rfl, b2'⟩; have r2 := HR.out.past ((below_drewN (Below.refl _ _) _).trans b2'); have b2 := below_less ((below_drewN (Below.refl _ _) _).trans b2') (Nat.le_of_lt hbl); clear b2') | (go_at_call 49; (first | refine (HW0.out _ r2).mono ?_ | refine (HW0.out _ ⟨r2.ex⟩).mono ?_); rintro e w1 ⟨rfl, r1, b1', -⟩; have b1 : Below b w w1 := Below.trans b2 b1'; clear b1'))
  all_goals
    have R1 := hide r1
    have B1 := hide b1
    clear r1 b1 r2 b2 q2 q0
    go_wp2
    refine bodyPost_ret (results_none rfl _ _ _) rfl ?_
    exact ⟨rfl, R1.out, B1.out⟩
end Go.Proofs.YtfolnkmbdmfigaaGreatDoor

set_option linter.unusedSimpArgs false
set_option linter.unusedVariables false
namespace Go.Proofs.YtfolnkmbdmfigaaGreatDoor
open Go.RowKit Go.Maps Go.Lib
variable {A K : Nat → Prop} {w w' w1 wr : World} {b : Nat} {bs : List UInt8} {nv : Value} {av kv : Nat → Value} {l : List Nd}
set_option maxHeartbeats 8000000 in
set_option maxRecDepth 10000 in
theorem wplain_elem (hA : ∀ k, A k → k < b) (hK : ∀ k, K k → k < b) (nd : Nd) (m : Nat) (P : List UInt8) (bs : List UInt8) (w : World) (hnd : l[m]? = some nd) (hnn : nd.name ≠ []) (hnil : nd.kids = [] → kv m = .slice none 0 0) (hn : Nodes 42 44 A K w nv l av kv) (hwr : WR b bs nv w)
    (hz0 : bs.length + (headP nd.name nd.attrs nd.attrs.length).length ≤ 1099511627776) (hz : bs.length + (headP nd.name nd.attrs nd.attrs.length).length + P.length + nd.name.length + 8 ≤ 140737488355328)
    (hkids : nd.kids ≠ [] → ∀ g cap, nv = .slice (some ⟨g, 0, none⟩) l.length cap → ∀ W, Below b w W → WR b (bs ++ headP nd.name nd.attrs nd.attrs.length ++ [62]) nv W → Calls Tryz.prog 52 #[.pointer (some ⟨b, 0, none⟩), .pointer (some ⟨g, m * 5, none⟩), .func (.func 32) #[] #[]] W fun e w' => e = .returned (.tuple #[]) ∧ WR b (bs ++ headP nd.name nd.attrs nd.attrs.length ++ [62] ++ P) nv w' ∧ Below b W w') :
    Calls Tryz.prog 32 #[.pointer (some ⟨b, 0, none⟩), .int .i64 (m : Int)] w fun e w' => e = .returned (.tuple #[]) ∧ WR b (bs ++ (headP nd.name nd.attrs nd.attrs.length ++ (if nd.kids = [] then [47, 62] else [62] ++ (P ++ ([60, 47] ++ (nd.name ++ [62])))))) nv w' ∧ Below b w w' := by
  have hm := (List.getElem?_eq_some_iff.1 hnd).1
  obtain ⟨g, cap, rfl, hml, hKg, q0, q1, q2, q3, q4⟩ := hn.cells m _ hnd
  obtain ⟨p, v, hp, hbk, hown, hne⟩ := hwr.ex
  obtain ⟨z0, z1, z2, _, _, _, hbl⟩ := wcells hbk
  have hmx : (l.length : Int) ≤ 9223372036854775807 := by have : maxLen = 9223372036854775807 := rfl; omega
  have hge : ¬ (m : Int) < 0 := by omega
  have hmi : (m : Int) < l.length := by omega
  have hgb := hK g hKg
  have har := hn.attr m nd hnd
  obtain ⟨ai, ac, hai⟩ := slice_len har
  rw [hai] at har q1
  have hbeg : ∀ W, Below b w W → Calls Tryz.prog 51 #[.string ⟨nd.name.toArray⟩, .slice ai nd.attrs.length ac] W fun e w' => e = .returned (.string ⟨(headP nd.name nd.attrs nd.attrs.length).toArray⟩) ∧ Below W.heap.size W w' := fun W hW =>
    begin_ok nd.name nd.attrs _ W (owns_of har fun k e => hW.block k (hA k (hn.attrA m k hm (by rw [hai]; exact e)))) (by omega)
  obtain ⟨T, hT⟩ : ∃ T, headP nd.name nd.attrs nd.attrs.length = T := ⟨_, rfl⟩
  rw [hT] at hbeg hz hkids ⊢
  have hcell : ∀ W, Below b w W → W.cell? ⟨g, m * 5, none⟩ = some (.string ⟨nd.name.toArray⟩) ∧ W.cell? ⟨g, m * 5 + 1, none⟩ = some (.slice ai nd.attrs.length ac) ∧ W.cell? ⟨g, m * 5 + 3, none⟩ = some (kv m) := fun W hW => ⟨(World.cell?_of_block (hW.block g hgb)).trans q0, (World.cell?_of_block (hW.block g hgb)).trans q1, (World.cell?_of_block (hW.block g hgb)).trans q3⟩
  have hw0 := fun (cs : List UInt8) (s : List UInt8) W (hW : WR b cs (.slice (some ⟨g, 0, none⟩) l.length cap) W) (hl : cs.length + s.length ≤ 140737488355328) => wwrite_ok hW ⟨s.toArray⟩ (by simp only [ByteArray.size, List.size_toArray]; omega)
  have hne0 : nd.name.isEmpty = false := by cases h0 : nd.name with | nil => exact absurd h0 hnn | cons a r => rfl
  have hkv : nd.kids ≠ [] → ∃ gk c, kv m = .slice (some ⟨gk, 0, none⟩) nd.kids.length c := fun h0 => by
    obtain ⟨gk, c, e, _, _⟩ := kid_cell (n := 0) (hn.kid m nd hnd) 0 (by cases h1 : nd.kids with | nil => exact absurd h1 h0 | cons a r => simp)
    exact ⟨gk, c, e⟩
  have HKV := hide hkv
  clear hkv
  have HC := hide hcell
  have HO := hide hbeg
  have HW0 := hide hw0
  have HR := hide hwr
  have HZ := hide hz
  have HKS := hide hkids
  have HNL := hide hnil
  clear hwr hw0 hn hz hnd hown hne hp hbk q2 q3 q4 z0 z1 hcell hbeg hkids har hnil hai
  unfold strV at q0
  generalize l.length = L at *
  go_enter Tryz.func32, Tryz.ntmps32
  go_wp2_with fail
  go_region_held3 (fun W => W.cell? ⟨g, m * 5, none⟩ = some (.string ⟨nd.name.toArray⟩) ∧ W.cell? ⟨g, m * 5 + 1, none⟩ = some (.slice ai nd.attrs.length ac))
    (first | exact ⟨q0, q1⟩ | exact ⟨(HC.out _ b1).1, (HC.out _ b1).2.1⟩ | exact ⟨(HC.out _ b2).1, (HC.out _ b2).2.1⟩)
    (first | (go_at_call 51; refine (HO.out _ (Below.refl b w).drew).mono ?_; rintro e w2 ⟨rfl, b2'⟩; have r2 := (show WR b bs _ w.drew from ⟨HR.out.ex⟩).past b2'; have b2 := Below.trans (Below.refl b w).drew (below_less b2' (Nat.le_of_lt hbl)); clear b2') | (go_at_call 49; (first | refine (HW0.out bs T _ r2 (by have := HZ.out; omega)).mono ?_ | refine (HW0.out bs T _ ⟨r2.ex⟩ (by have := HZ.out; omega)).mono ?_); rintro e w1 ⟨rfl, r1, b1', -⟩; have b1 : Below b w w1 := Below.trans b2 b1'; clear b1'))
  all_goals
  have R1 := hide r1
  have B1 := hide b1
  obtain ⟨d0, d1, d3⟩ := HC.out _ b1
  clear r1 b1 q0 q1 r2 b2 d1
  by_cases hkz : nd.kids = []
  · rw [HNL.out hkz] at d3
    have he0 := eql_none
    have hwe := HW0.out _ [47, 62] w1 R1.out (by have := HZ.out; simp only [List.length_append, List.length_cons, List.length_nil]; omega)
    have HWE := hide hwe
    clear hwe
    go_wp2_with fail
    refine HWE.out.mono ?_
    rintro e w2 ⟨rfl, r2, b2, -⟩
    have R2 := hide r2
    have B2 := hide (B1.out.trans b2)
    clear r2 b2
    go_wp2
    refine bodyPost_ret (results_none rfl _ _ _) rfl ?_
    exact ⟨rfl, by have h := R2.out; simpa [hkz] using h, B2.out⟩
  · obtain ⟨gk, c, e⟩ := HKV.out hkz
    rw [e] at d3
    have he0 := eql_row ⟨gk, 0, none⟩ nd.kids.length c
    have hwe := HW0.out _ [62] w1 R1.out (by have := HZ.out; simp only [List.length_append, List.length_cons, List.length_nil]; omega)
    have HWE := hide hwe
    have HKK := hide (HKS.out hkz g cap rfl)
    clear hwe
    have p2 := add_rows2 [60, 47] nd.name ([60, 47] ++ nd.name) rfl (by have := HZ.out; simp only [List.length_cons, List.length_nil]; omega)
    have p3 := add_rows2 ([60, 47] ++ nd.name) [62] ([60, 47] ++ nd.name ++ [62]) rfl (by have := HZ.out; simp only [List.length_append, List.length_cons, List.length_nil]; omega)
    obtain ⟨X, hX⟩ : ∃ X, [60, 47] ++ nd.name = X := ⟨_, rfl⟩
    obtain ⟨Y, hY⟩ : ∃ Y, X ++ [62] = Y := ⟨_, rfl⟩
    rw [hX] at p2 p3
    rw [hY] at p3
    have hyl : Y.length = nd.name.length + 3 := by rw [← hY, ← hX]; simp only [List.length_append, List.length_cons, List.length_nil]; omega
    have hE : bs ++ (T ++ ([62] ++ (P ++ ([60, 47] ++ (nd.name ++ [62]))))) = bs ++ T ++ [62] ++ P ++ Y := by rw [← hY, ← hX]; simp
    have HE := hide hE
    have HX := hide hX
    have HY := hide hY
    clear hX hY hE
    go_wp2_with fail
    refine HWE.out.mono ?_
    rintro e w2 ⟨rfl, r2, b2, -⟩
    have R2 := hide r2
    have B2 := hide (B1.out.trans b2)
    clear r2 b2 d0 d3
    go_wp2_with fail
    refine (HKK.out _ B2.out R2.out).mono ?_
    rintro e w3 ⟨rfl, r3, b3⟩
    have R3 := hide r3
    have B3 := hide (B2.out.trans b3)
    obtain ⟨d0, -, d3⟩ := HC.out _ B3.out
    have hwf := HW0.out _ Y w3.drew ⟨r3.ex⟩ (by have := HZ.out; simp only [List.length_append, List.length_cons, List.length_nil]; omega)
    have HWF := hide hwf
    clear r3 b3 hwf
    go_wp2_with fail
    go_region_held3 (fun W => W.cell? ⟨g, m * 5, none⟩ = some (.string ⟨nd.name.toArray⟩))
      (first | exact d0 | exact (HC.out _ b4).1)
      (first | (go_at_call 49; refine HWF.out.mono ?_; rintro e w4 ⟨rfl, r4, b4', -⟩; have b4 : Below b w w4 := Below.trans B3.out.drew b4'; clear b4'))
    all_goals
      have R4 := hide r4
      have B4 := hide b4
      clear r4 b4 d0 d3
      go_wp2
      go_end0
      exact ⟨rfl, by have h := R4.out; rw [← HY.out, ← HX.out] at h; simpa [hkz] using h, B4.out⟩
theorem wplain_ok (hA : ∀ k, A k → k < b) (hK : ∀ k, K k → k < b) (hnil : ∀ i nd, l[i]? = some nd → nd.kids = [] → kv i = .slice none 0 0) : ∀ (N : Nat) (x : Fo) (m : Nat) (u : Int) (bs : List UInt8) (w : World), x.size ≤ N → Single x → x.All (fun _ => True) (fun n _ => n ≠ []) → IsAt l m u x → Nodes 42 44 A K w nv l av kv → WR b bs nv w → bs.length + x.plain.length + 8 ≤ 1099511627776 →
    Calls Tryz.prog 32 #[.pointer (some ⟨b, 0, none⟩), .int .i64 (m : Int)] w fun e w' => e = .returned (.tuple #[]) ∧ WR b (bs ++ x.plain) nv w' ∧ Below b w w' := by
  intro N
  induction N with
  | zero => intro x m u bs w hN hs; rcases hs with ⟨t, rfl⟩ | ⟨n, a, k, rfl⟩ <;> simp [Fo.size] at hN
  | succ N ih =>
    intro x m u bs w hN hs hall hx hn hwr hz
    rcases hs with ⟨t, rfl⟩ | ⟨n, a, k, rfl⟩
    · have hnd := hx.text.1
      have hp : (Fo.text t .nil).plain = Ch.escL false t := by simp [Fo.plain]
      rw [hp] at hz ⊢
      exact wplain_text hA hK t m u bs w hnd hn hwr (by omega)
    · obtain ⟨hnd, hat, _⟩ := hx.elem
      have hm := (List.getElem?_eq_some_iff.1 hnd).1
      have hkz : k.tops (m + 1) = [] ↔ k.isNil = true := by cases k <;> simp [Fo.tops, Fo.isNil]
      have hp : (Fo.elem n a k .nil).plain = headP n a a.length ++ (if k.tops (m + 1) = [] then [47, 62] else [62] ++ (k.plain ++ ([60, 47] ++ (n ++ [62])))) := by
        simp only [hkz, Fo.plain, headP, List.take_length, List.append_nil]
      rw [hp] at hz ⊢
      have hk0 : k.tops (m + 1) = [] → k.plain = [] := by cases k <;> simp [Fo.tops, Fo.plain]
      have hl1 : (headP n a a.length).length = 1 + n.length + (a.flatMap tagA).length := by
        unfold headP; rw [List.take_length]; simp only [List.length_cons, List.length_append]; omega
      have hz2 : bs.length + (headP n a a.length).length + k.plain.length + n.length + 8 ≤ 140737488355328 := by
        by_cases h0 : k.tops (m + 1) = []
        · rw [hk0 h0]
          rw [if_pos h0] at hz
          simp only [List.length_append, List.length_cons, List.length_nil] at hz ⊢
          omega
        · rw [if_neg h0] at hz
          simp only [List.length_append, List.length_cons, List.length_nil] at hz
          omega
      have hzh : bs.length + (headP n a a.length).length ≤ 1099511627776 := by rw [List.length_append] at hz; omega
      refine wplain_elem hA hK ⟨n, a, [], k.tops (m + 1), u⟩ m k.plain bs w hnd hall.1 (hnil m _ hnd) hn hwr hzh hz2 ?_
      intro h0 g cap hnv W hb hW
      rw [if_neg h0] at hz
      simp only [List.length_append, List.length_cons, List.length_nil] at hz
      have hle := upto_le Fo.plain k
      rw [parts_plain] at hle
      have hn2 := hn.after hA hK hb
      have hkr2 := hn2.kid m _ hnd
      obtain ⟨g', cap', e', _, hKg, _, _, _, r3, _⟩ := hn2.cells m _ hnd
      rw [hnv] at e'
      cases e'
      obtain ⟨ki, kc, hki⟩ := slice_len hkr2
      rw [hki] at hkr2 r3
      have := wkids31 (w := W) (bs := bs ++ headP n a a.length ++ [62]) (k.tops (m + 1)) (upto Fo.plain k) g (m * 5) ki kc (by simpa [upto] using hW) (hK g hKg) r3 hkr2 (fun j hj => hK j (hn.kidK m j hm (by rw [hki]; exact hj)).1) ?_
      · refine this.mono ?_
        rintro e w' ⟨rfl, s1, s2⟩
        refine ⟨rfl, ?_, s2⟩
        rw [← parts_len k (m + 1), upto_all, parts_plain] at s1
        exact s1
      · intro i hi W2 hW2 hb2
        have hi2 : i < k.parts.length := by rw [parts_len k (m + 1)]; exact hi
        obtain ⟨t1, t2, t3⟩ := parts_at k (m + 1) hat i hi hi2
        have hnx := upto_next Fo.plain k i hi2
        have hl2 := hle (i + 1)
        rw [hnx, List.length_append] at hl2
        have := ih k.parts[i] (k.tops (m + 1))[i] m (bs ++ headP n a a.length ++ [62] ++ upto Fo.plain k i) W2 (by simp only [Fo.size] at hN; omega) t2 (parts_all k hall.2.1 i hi2) t1 (hn2.after hA hK hb2) hW2 (by simp only [List.length_append, List.length_cons, List.length_nil]; omega)
        refine this.mono ?_
        rintro e w' ⟨rfl, s1, s2⟩
        exact ⟨rfl, by rw [hnx, ← List.append_assoc]; exact s1, s2⟩
end Go.Proofs.YtfolnkmbdmfigaaGreatDoor

set_option linter.unusedSimpArgs false
set_option linter.unusedVariables false
namespace Go.Proofs.YtfolnkmbdmfigaaGreatDoor
open Go.RowKit Go.Maps Go.Lib
variable {w w' w1 wr : World} {b : Nat} {bs : List UInt8} {nv : Value}

set_option maxHeartbeats 1000000 in
set_option maxRecDepth 100000 in
theorem wstring_some (b g n cap : Nat) (s : ByteArray) (W : World) (hW : Below b w W) (c1 : w.drew.cell? ⟨b, 1, none⟩ = some (.slice (some ⟨g, 0, none⟩) n cap))
    (hSD : (Builtin.unsafeSliceData_ #[87] 137 #[.slice (some ⟨g, 0, none⟩) n cap]).run Tryz.prog w.drew = .ok (.pointer (some ⟨g, 0, none⟩)) w.drew)
    (hUS : (Builtin.unsafeString_ #[137, 3] 9 #[.pointer (some ⟨g, 0, none⟩), .int .i64 n]).run Tryz.prog w.drew = .ok (.string s) W) :
    Calls Tryz.prog 48 #[.pointer (some ⟨b, 0, none⟩)] w fun e w' => e = .returned (.string s) ∧ Below b w w' := by
  have mixed := Tryz.lays169.mixed
  go_enter Tryz.func48, Tryz.ntmps48
  go_wp2_with fail
  go_region_o
  all_goals (go_wp2; go_ret; exact ⟨rfl, hW⟩)
set_option maxHeartbeats 1000000 in
set_option maxRecDepth 100000 in
theorem wstring_nil (b : Nat) (c1 : w.drew.cell? ⟨b, 1, none⟩ = some (.slice none 0 0)) :
    Calls Tryz.prog 48 #[.pointer (some ⟨b, 0, none⟩)] w fun e w' => e = .returned (.string ⟨#[]⟩) ∧ Below b w w' := by
  have mixed := Tryz.lays169.mixed
  have hSD : (Builtin.unsafeSliceData_ #[87] 137 #[.slice none 0 0]).run Tryz.prog w.drew = .ok (.pointer none) w.drew := rfl
  have hUS : (Builtin.unsafeString_ #[137, 3] 9 #[.pointer none, .int .i64 0]).run Tryz.prog w.drew = .ok (.string .empty) w.drew := Lib.run_unsafeString_none (P := Tryz.prog) w.drew 137 3 9 none
  go_enter Tryz.func48, Tryz.ntmps48
  go_wp2_with fail
  go_region_o
  all_goals (go_wp2; go_ret; exact ⟨rfl, (Below.refl b w).drew⟩)
set_option maxHeartbeats 1000000 in
set_option maxRecDepth 100000 in
theorem wstring_zero (b g : Nat) (cur : Array Value) (fz : Nat × Nat) (hbw : b ≤ w.heap.size) (c1 : w.drew.cell? ⟨b, 1, none⟩ = some (.slice (some ⟨g, 0, none⟩) 0 0)) (hg : w.heap[g]? = some (.cells cur 5 fz)) :
    Calls Tryz.prog 48 #[.pointer (some ⟨b, 0, none⟩)] w fun e w' => e = .returned (.string ⟨#[]⟩) ∧ Below b w w' := by
  have mixed := Tryz.lays169.mixed
  have hSD : (Builtin.unsafeSliceData_ #[87] 137 #[.slice (some ⟨g, 0, none⟩) 0 0]).run Tryz.prog w.drew = .ok (.pointer (some ⟨w.drew.heap.size, 0, none⟩)) (w.drew.alloc (.view ⟨g, 0, none⟩ 5)) :=
    Lib.run_unsafeSliceData_zero w.drew _ _ 5 Tryz.underlying137 ⟨g, 0, none⟩ 0 (5, cur.size) (by have hg' : w.drew.heap[g]? = some (.cells cur 5 fz) := hg; simp [World.shape?, hg'])
  have hUS : ∀ q W, (Builtin.unsafeString_ #[137, 3] 9 #[.pointer q, .int .i64 0]).run Tryz.prog W = .ok (.string .empty) W := fun q W => Lib.run_unsafeString_none (P := Tryz.prog) W 137 3 9 q
  have c2 : (w.drew.alloc (.view ⟨g, 0, none⟩ 5)).cell? ⟨b, 1, none⟩ = some (.slice (some ⟨g, 0, none⟩) 0 0) := cell_alloc _ c1
  have c3 : (w.alloc (.view ⟨g, 0, none⟩ 5)).drew.cell? ⟨b, 1, none⟩ = some (.slice (some ⟨g, 0, none⟩) 0 0) := c2
  have c0 : w.cell? ⟨b, 1, none⟩ = some (.slice (some ⟨g, 0, none⟩) 0 0) := c1
  go_enter Tryz.func48, Tryz.ntmps48
  go_wp2_with fail
  go_region_o
  all_goals (go_wp2; go_ret; exact ⟨rfl, ((Below.refl b w).drew).alloc hbw _⟩)
theorem wstring_ok (h : WR b bs nv w) : Calls Tryz.prog 48 #[.pointer (some ⟨b, 0, none⟩)] w fun e w' => e = .returned (.string ⟨bs.toArray⟩) ∧ Below b w w' := by
  obtain ⟨p, v, hp, hbk, hown, hne⟩ := h.ex
  obtain ⟨_, c1, _, _, _, _, hbl⟩ := wcells hbk
  rcases hown.2 with ⟨rfl, hz⟩ | ⟨g, cap, cur, fz, rfl, hbg, hg, hfz, hnc, hcm, hcs, htake⟩
  · obtain rfl : bs = [] := List.eq_nil_of_length_eq_zero hz
    exact wstring_nil b c1
  · by_cases h0 : bs = []
    · subst h0
      by_cases hc : cap = 0
      · subst hc
        exact wstring_zero b g cur fz (Nat.le_of_lt hbl) c1 hg
      · exact wstring_some b g 0 cap ⟨#[]⟩ w.drew (Below.refl b w).drew c1 (Lib.run_unsafeSliceData_row _ _ _ _ _ _ hc) (Lib.run_unsafeString_none (P := Tryz.prog) w.drew 137 3 9 _)
    · have hl0 : bs.length ≠ 0 := by simpa using h0
      refine wstring_some b g bs.length cap ⟨bs.toArray⟩ (w.drew.freeze ⟨g, 0, none⟩ bs.length) (Lib.below_freeze (Below.drew (Below.refl b w)) (p := ⟨g, 0, none⟩) hbg _) c1 (Lib.run_unsafeSliceData_row _ _ _ _ _ _ (by omega)) ?_
      refine Lib.run_unsafeString_row w.drew 137 3 9 5 Tryz.underlying137 Tryz.Builder_Extra_169.cellsByte g cur.size (by have hg' : w.drew.heap[g]? = some (.cells cur 5 fz) := hg; simp [World.shape?, hg']) bs h0 (by omega) (by unfold maxLen at hcm; omega) ?_
      intro j x hx
      exact hown.cells (g := g) rfl j (.int .u8 x.toNat) (by simp [Lib.byteCells, hx])
end Go.Proofs.YtfolnkmbdmfigaaGreatDoor
