import Derived.Deep.RegionWith
import Derived.Test.YtoahlnmhjinneaaGreatDoorGbb
import Derived.Test.YtoahlnmhjinneaaGreatDoorGau
import Derived.Test.YtoahlnmhjinneaaGreatDoorGaz
set_option linter.unusedVariables false
set_option linter.unusedSimpArgs false
set_option linter.unusedSimpArgs false
set_option linter.unusedVariables false
namespace Go.Proofs.YtoahlnmhjinneaaGreatDoor
open Go.RowKit Go.Maps Go.Lib Go.Sort
variable {w w' W W' : World} {v : Value} {xs : List (Br × Nat)} {b : Brs} {x : Br × Nat} {A0 : Nat}
set_option maxHeartbeats 4000000 in
set_option maxRecDepth 100000 in
theorem istx_ok {k : Nat} {c : Bool} (c0 : w.cell? ⟨A0, 0, none⟩ = some v) (h : BR w v xs) (hk : xs[k]? = some x) (hc : (x.1.sg.2 == [35]) = c) : Calls Tryz.prog 66 #[.int .i64 (k : Nat), .pointer (some ⟨A0, 0, none⟩)] w fun e w' => e = .returned (.bool c) ∧ w' = w := by
  obtain ⟨g, cap, rfl, hg, hnc, g0, g1, g2, g3, g4⟩ := h.at hk
  have hkl : (k : Int) < (xs.length : Int) := by have := (List.getElem?_eq_some_iff.1 hk).1; omega
  have hb : ((bs x.1.sg.2).toList == [35]) = c := by rw [bs_toL]; exact hc
  clear h hk hc hnc g0 g2 g3 g4
  generalize bs x.1.sg.2 = T at *
  generalize xs.length = n at *
  cases c <;>
  · go_enter Tryz.func66, Tryz.ntmps66
    go_wp2
    go_ret
    exact ⟨rfl, rfl⟩
def txA (b : Brs) (l : List Nat) : Bool := l.any (txAt b)
theorem txAt_eq {k : Nat} (hb : xs.map (·.1) = b) (hk : xs[k]? = some x) : txAt b k = (x.1.sg.2 == [35]) := by
  unfold txAt
  rw [← hb, List.getElem?_map, hk]
  rfl
set_option maxHeartbeats 8000000 in
set_option maxRecDepth 100000 in
theorem index_due {l : List Nat} {va : Option Addr} {vn vc : Nat} (c0 : w.cell? ⟨A0, 0, none⟩ = some v) (h : BR w v xs) (hb : xs.map (·.1) = b) (hr : w.ownsRow 0 3 1 (.slice va vn vc) l.length (dueC l)) (hl : ∀ k ∈ l, k < b.length) (hln : l.length ≤ 10000000000000) : Calls Tryz.prog 86 #[.slice va vn vc, .func (.func 66) #[] #[.pointer (some ⟨A0, 0, none⟩)]] w fun e w' => ∃ k : Int, e = .returned (.int .i64 k) ∧ (decide (0 ≤ k) = txA b l) ∧ w' = w := by
  have hxl : xs.length = b.length := by rw [← hb]; simp
  have hvn : vn = l.length := by
    rcases hr.2 with ⟨h', h0⟩ | ⟨g, cap, cur, h', _⟩
    · cases h'; exact h0.symm
    · cases h'; rfl
  have HR : Hid (∀ i, i < l.length → ∃ g k c, va = some ⟨g, 0, none⟩ ∧ w.cell? ⟨g, i, none⟩ = some (.int .i64 ((k : Nat) : Int)) ∧ Hid (txA b (l.take (i + 1)) = (txA b (l.take i) || c)) ∧ Hid (Calls Tryz.prog 66 #[.int .i64 ((k : Nat) : Int), .pointer (some ⟨A0, 0, none⟩)] w fun e w' => e = .returned (.bool c) ∧ w' = w)) := fun i hi => by
    have hli : l[i]? = some l[i] := List.getElem?_eq_getElem hi
    have hk := hl _ (List.getElem_mem hi)
    have hx : xs[l[i]]? = some xs[l[i]] := List.getElem?_eq_getElem (by omega)
    rcases hr.2 with ⟨h', h0⟩ | ⟨g, cap, cur, h', hbb, hg, hnc, hcm, hcs, htk⟩
    · omega
    · cases h'
      refine ⟨g, l[i], _, rfl, ?_, hide ?_, hide (istx_ok c0 h hx rfl)⟩
      · rw [hr.cellAt i (by omega)]
        unfold dueC
        rw [List.getElem?_map, hli]
        rfl
      · rw [List.take_succ_eq_append_getElem hi]
        unfold txA
        rw [List.any_append, List.any_cons, List.any_nil, Bool.or_false, txAt_eq hb hx]
  have HN : Hid (txA b (l.take l.length) = txA b l) := by rw [List.take_length]; exact hide rfl
  have HP : Hid (∀ i, txA b (l.take i) = true → txA b l = true) := fun i h => by
    unfold txA at *
    rw [List.any_eq_true] at *
    obtain ⟨x, hx, h2⟩ := h
    exact ⟨x, List.mem_of_mem_take hx, h2⟩
  subst hvn
  clear h hr hl c0
  generalize l.length = n at *
  go_enter Tryz.func86, Tryz.ntmps86
  go_wp2_with fail
  go_loopw [5, 8, 9, 10, 11, 12, 13, 14, 15, 16, 17, 18] (fun _ u8 _ _ _ _ _ _ _ _ _ _ wr => ∃ i : Nat, u8 = .int .i64 i ∧ i ≤ n ∧ Hid (txA b (l.take i) = false) ∧ wr = w) (fun _ u8 _ _ _ _ _ _ _ _ _ _ _ => n - (RowKit.intOf u8).toNat)
  case atStart => exact ⟨0, rfl, Nat.zero_le _, hide rfl, rfl⟩
  case round =>
    obtain ⟨i, rfl, hi, HM, hww⟩ := hrel
    have hwv := hww.symm
    clear hww
    subst hwv
    by_cases hlt : i < n
    · obtain ⟨g, k, c, rfl, a0, HC, HF⟩ := HR.out i hlt
      have hdec : decide ((i : Int) < n) = true := by simp; omega
      have hii : (i : Int) < n := by omega
      have HI : Hid (txA b (l.take (i + 1)) = c) := hide (by rw [HC.out, HM.out]; rfl)
      clear HR HC HM
      cases c with
      | true =>
        go_wp2_with (go_at_call 66; refine HF.out.mono ?_; rintro e w5 ⟨rfl, h5⟩; have h6 := h5.symm; clear h5; subst h6; clear HF)
        go_ret
        exact ⟨i, rfl, by rw [HP.out _ HI.out]; simp, rfl⟩
      | false =>
        go_wp2_with (go_at_call 66; refine HF.out.mono ?_; rintro e w5 ⟨rfl, h5⟩; have h6 := h5.symm; clear h5; subst h6; clear HF)
        exact ⟨⟨i + 1, by simp, by omega, by simpa using HI⟩, by simp only [RowKit.intOf]; omega⟩
    · have hdec : decide ((i : Int) < n) = false := by simp; omega
      obtain rfl : i = n := by omega
      go_wp2
      go_ret
      exact ⟨-1, rfl, by rw [← HN.out, HM.out]; rfl, rfl⟩
set_option maxHeartbeats 4000000 in
set_option maxRecDepth 100000 in
theorem contains_due {l : List Nat} {va : Option Addr} {vn vc : Nat} (c0 : w.cell? ⟨A0, 0, none⟩ = some v) (h : BR w v xs) (hb : xs.map (·.1) = b) (hr : w.ownsRow 0 3 1 (.slice va vn vc) l.length (dueC l)) (hl : ∀ k ∈ l, k < b.length) (hln : l.length ≤ 10000000000000) : Calls Tryz.prog 65 #[.slice va vn vc, .func (.func 66) #[] #[.pointer (some ⟨A0, 0, none⟩)]] w fun e w' => e = .returned (.bool (txA b l)) ∧ w' = w := by
  have HI := hide (index_due c0 h hb hr hl hln)
  clear c0 h hr hl
  generalize txA b l = c at *
  cases c with
  | true =>
    go_enter Tryz.func65, Tryz.ntmps65
    go_wp2_with (go_at_call 86; refine HI.out.mono ?_; rintro e w5 ⟨k, rfl, hk, h5⟩; have hk2 : decide (k ≥ 0) = true := hk; have hk3 : (0 : Int) ≤ k := of_decide_eq_true hk; have h6 := h5.symm; clear h5; subst h6; clear HI)
    go_ret
    first | exact ⟨rfl, rfl⟩ | exact ⟨by simp [hk3], rfl⟩
  | false =>
    go_enter Tryz.func65, Tryz.ntmps65
    go_wp2_with (go_at_call 86; refine HI.out.mono ?_; rintro e w5 ⟨k, rfl, hk, h5⟩; have hk2 : decide (k ≥ 0) = false := hk; have hk3 : ¬ (0 : Int) ≤ k := of_decide_eq_false hk; have h6 := h5.symm; clear h5; subst h6; clear HI)
    go_ret
    first | exact ⟨rfl, rfl⟩ | exact ⟨by simp [hk3], rfl⟩
end Go.Proofs.YtoahlnmhjinneaaGreatDoor

set_option linter.unusedSimpArgs false
set_option linter.unusedVariables false
namespace Go.Proofs.YtoahlnmhjinneaaGreatDoor
open Go.RowKit Go.Maps Go.Lib Go.Sort
variable {w w' W W' W1 w3 : World} {v tv : Value} {xs : List (Br × Nat)} {b : Brs} {x : Br × Nat} {zs : List Int} {nd wh : Bool}
structure NM (w : World) (v : Value) (W : World) (tv : Value) (zs : List Int) (nd wh : Bool) : Prop where
  b0 : W.heap[w.heap.size]? = some (.cells #[v] 42 (0, 0))
  b2 : W.heap[w.heap.size + 1 + 1]? = some (.cells #[.slice none 0 0, .bool false, .bool false, .bool false] 69 (0, 0))
  b3 : W.heap[w.heap.size + 1 + 1 + 1]? = some (.cells #[tv, .bool nd, .bool wh, .bool false] 69 (0, 0))
  row : W.ownsRow 0 3 1 tv zs.length (intC zs)
  own : ∀ k, tv.ownBlock = some k → w.heap.size ≤ k
  below : Below w.heap.size w W
theorem NM.on (h : NM w v W tv zs nd wh) (hb : Below W.heap.size W W') : NM w v W' tv zs nd wh :=
  ⟨(hb.block _ (blk_lt h.b0)).trans h.b0, (hb.block _ (blk_lt h.b2)).trans h.b2, (hb.block _ (blk_lt h.b3)).trans h.b3, owns_of h.row fun k e => hb.block k (own_lt h.row e), h.own, h.below.trans (below_less hb h.below.size)⟩
theorem NM.put {v' : Value} {zs' : List Int} (h : NM w v W tv zs nd wh) (ho : w3.ownsRow 0 3 1 v' zs'.length (intC zs')) (hf : Fr (fun k => tv.ownBlock = some k) W w3) (hat : ∀ k, v'.ownBlock = some k → tv.ownBlock = some k ∨ W.heap.size ≤ k) :
    (w3.cell? ⟨w.heap.size + 1 + 1 + 1, 0, none⟩ = some tv ∧ w3.frozen? ⟨w.heap.size + 1 + 1 + 1, 0, none⟩ = false) ∧ NM w v (w3.setCell ⟨w.heap.size + 1 + 1 + 1, 0, none⟩ v') v' zs' nd wh := by
  have n0 := row_box h.row h.b0 (by decide)
  have n2 := row_box h.row h.b2 (by decide)
  have n3 := row_box h.row h.b3 (by decide)
  have c0 := (hf.block _ (blk_lt h.b0) n0).trans h.b0
  have c2 := (hf.block _ (blk_lt h.b2) n2).trans h.b2
  have c3 := (hf.block _ (blk_lt h.b3) n3).trans h.b3
  have hne : v'.ownBlock ≠ some (w.heap.size + 1 + 1 + 1) := row_box ho c3 (by decide)
  refine ⟨⟨cell_of c3 rfl, free_of c3⟩, ⟨(Below.heap_setCell _ _ _ _ (by show w.heap.size ≠ w.heap.size + 1 + 1 + 1; omega)).trans c0, (Below.heap_setCell _ _ _ _ (by show w.heap.size + 1 + 1 ≠ w.heap.size + 1 + 1 + 1; omega)).trans c2, by rw [set_of c3]; rfl, owns_of ho fun k e => Below.heap_setCell _ _ _ _ (fun e' => hne (by rw [e, e'])), fun k e => ?_, ?_⟩⟩
  · rcases hat k e with h1 | h1
    · exact h.own k h1
    · exact Nat.le_trans h.below.size h1
  · have hb3 : Below w.heap.size w w3 := h.below.trans (hf.up (fun k hk => h.own k hk) h.below.size)
    exact hb3.setCell (p := ⟨w.heap.size + 1 + 1 + 1, 0, none⟩) (show w.heap.size ≤ w.heap.size + 1 + 1 + 1 by omega) _
theorem NM.set (h : NM w v W tv zs nd wh) (nd' wh' : Bool) : (W.cell? ⟨w.heap.size + 1 + 1 + 1, 1, none⟩ = some (.bool nd) ∧ W.frozen? ⟨w.heap.size + 1 + 1 + 1, 1, none⟩ = false ∧ (W.setCell ⟨w.heap.size + 1 + 1 + 1, 1, none⟩ (.bool nd')).cell? ⟨w.heap.size + 1 + 1 + 1, 2, none⟩ = some (.bool wh) ∧ (W.setCell ⟨w.heap.size + 1 + 1 + 1, 1, none⟩ (.bool nd')).frozen? ⟨w.heap.size + 1 + 1 + 1, 2, none⟩ = false) ∧
    NM w v ((W.setCell ⟨w.heap.size + 1 + 1 + 1, 1, none⟩ (.bool nd')).setCell ⟨w.heap.size + 1 + 1 + 1, 2, none⟩ (.bool wh')) tv zs nd' wh' := by
  have s1 := set_of (i := 1) h.b3 (.bool nd')
  have s2 := set_of (i := 2) s1 (.bool wh')
  have n3 := row_box h.row h.b3 (by decide)
  have other : ∀ k, k ≠ w.heap.size + 1 + 1 + 1 → ((W.setCell ⟨w.heap.size + 1 + 1 + 1, 1, none⟩ (.bool nd')).setCell ⟨w.heap.size + 1 + 1 + 1, 2, none⟩ (.bool wh')).heap[k]? = W.heap[k]? := fun k hk => by
    rw [Below.heap_setCell _ _ _ _ hk, Below.heap_setCell _ _ _ _ hk]
  refine ⟨⟨cell_of h.b3 rfl, free_of h.b3, cell_of s1 rfl, free_of s1⟩, ⟨(other _ (by omega)).trans h.b0, (other _ (by omega)).trans h.b2, s2, owns_of h.row fun k e => other k (fun e' => n3 (by rw [e, e'])), h.own, ?_⟩⟩
  exact (h.below.setCell (p := ⟨w.heap.size + 1 + 1 + 1, 1, none⟩) (show w.heap.size ≤ w.heap.size + 1 + 1 + 1 by omega) _).setCell (p := ⟨w.heap.size + 1 + 1 + 1, 2, none⟩) (show w.heap.size ≤ w.heap.size + 1 + 1 + 1 by omega) _
def bnd (l : List Nat) (i : Nat) : Nat := if i = 0 then 0 else (l[i - 1]?.getD 0) + 1
structure PF (b : Brs) (l : List Nat) (s0 : Bool) (name : L) (i : Nat) (zs : List Int) (nd wh : Bool) : Prop where
  nd : nd = (l.take i).any fun j => fitsAt b j name && ndAt b j
  wh : wh = (s0 || (l.take i).any fun j => fitsAt b j name && whAt b j)
  mem : ∀ z, z ∈ zs ↔ ∃ k : Nat, z = k ∧ ((k ∈ l.take i ∧ deepAt b k = true) ∨ ∃ j ∈ l.take i, fitsAt b j name = true ∧ k ∈ kidsAt b j)
  len : zs.length ≤ i + sumT b (bnd l i)
theorem PF.zero (b : Brs) (l : List Nat) (s0 : Bool) (name : L) : PF b l s0 name 0 [] false s0 := ⟨by simp, by simp, fun z => by simp, by simp⟩
theorem PF.step {l : List Nat} {s0 : Bool} {name : L} {i k : Nat} {q : Br} {ys : List Int} (h : PF b l s0 name i zs nd wh) (hr : l.Pairwise (· < ·)) (hk : l[i]? = some k) (hq : b[k]? = some q) (hys : if fitsM q.sg name = true then ys.Perm ((q.kids.map (·.2)).map fun k : Nat => (k : Int)) else ys = []) :
    PF b l s0 name (i + 1) ((if q.sg.1 = true then zs ++ [(k : Int)] else zs) ++ ys) (nd || (fitsM q.sg name && q.nd)) (wh || (fitsM q.sg name && q.wh)) := by
  obtain ⟨hil, e⟩ := List.getElem?_eq_some_iff.1 hk
  have htk : l.take (i + 1) = l.take i ++ [k] := by rw [List.take_succ_eq_append_getElem hil, e]
  have f1 : fitsAt b k name = fitsM q.sg name := by unfold fitsAt; rw [hq]
  have f2 : ndAt b k = q.nd := by unfold ndAt; rw [hq]
  have f3 : whAt b k = q.wh := by unfold whAt; rw [hq]
  have f4 : deepAt b k = q.sg.1 := by unfold deepAt; rw [hq]
  have f5 : kidsAt b k = q.kids.map (·.2) := by unfold kidsAt; rw [hq]
  refine ⟨?_, ?_, fun z => ?_, ?_⟩
  · rw [htk, List.any_append, List.any_cons, List.any_nil, Bool.or_false, f1, f2, h.nd]
  · rw [htk, List.any_append, List.any_cons, List.any_nil, Bool.or_false, f1, f3, h.wh, Bool.or_assoc]
  · have hz : z ∈ (if q.sg.1 = true then zs ++ [(k : Int)] else zs) ↔ z ∈ zs ∨ (q.sg.1 = true ∧ z = (k : Int)) := by split <;> simp_all
    have hy : z ∈ ys ↔ fitsM q.sg name = true ∧ ∃ k' : Nat, z = k' ∧ k' ∈ q.kids.map (·.2) := by
      by_cases hf : fitsM q.sg name = true
      · rw [if_pos hf] at hys
        rw [hys.mem_iff, List.mem_map]
        constructor
        · rintro ⟨k', h1, rfl⟩
          exact ⟨hf, k', rfl, h1⟩
        · rintro ⟨_, k', rfl, h1⟩
          exact ⟨k', h1, rfl⟩
      · rw [if_neg hf] at hys
        subst hys
        simp [hf]
    rw [List.mem_append, hz, hy, h.mem, htk]
    constructor
    · rintro ((⟨k', rfl, h1 | ⟨j, hj, h1⟩⟩ | ⟨h1, rfl⟩) | ⟨h1, k', rfl, h2⟩)
      · exact ⟨k', rfl, Or.inl ⟨List.mem_append_left _ h1.1, h1.2⟩⟩
      · exact ⟨k', rfl, Or.inr ⟨j, List.mem_append_left _ hj, h1⟩⟩
      · exact ⟨k, rfl, Or.inl ⟨by simp, by rw [f4]; exact h1⟩⟩
      · exact ⟨k', rfl, Or.inr ⟨k, by simp, by rw [f1]; exact h1, by rw [f5]; exact h2⟩⟩
    · rintro ⟨k', rfl, ⟨h1, h2⟩ | ⟨j, hj, h1, h2⟩⟩
      · rcases List.mem_append.1 h1 with h1 | h1
        · exact Or.inl (Or.inl ⟨k', rfl, Or.inl ⟨h1, h2⟩⟩)
        · rw [List.mem_singleton] at h1
          subst h1
          exact Or.inl (Or.inr ⟨by rw [← f4]; exact h2, rfl⟩)
      · rcases List.mem_append.1 hj with hj | hj
        · exact Or.inl (Or.inl ⟨k', rfl, Or.inr ⟨j, hj, h1, h2⟩⟩)
        · rw [List.mem_singleton] at hj
          subst hj
          exact Or.inr ⟨by rw [← f1]; exact h1, k', rfl, by rw [← f5]; exact h2⟩
  · have hb : bnd l (i + 1) = k + 1 := by unfold bnd; simp [hk]
    have hle : bnd l i ≤ k := by
      unfold bnd
      split
      · omega
      · next h0 =>
        have hi1 : i - 1 < l.length := by omega
        have := (List.pairwise_iff_getElem.1 hr) (i - 1) i hi1 hil (by omega)
        rw [List.getElem?_eq_getElem hi1, Option.getD_some]
        omega
    have h1 := h.len
    have h2 := sumT_mono (b := b) hle
    have h3 := sumT_succ hq
    have h4 : ys.length ≤ q.kids.length := by
      by_cases hf : fitsM q.sg name = true
      · rw [if_pos hf] at hys; rw [hys.length_eq]; simp
      · rw [if_neg hf] at hys; rw [hys]; simp
    have h5 : (if q.sg.1 = true then zs ++ [(k : Int)] else zs).length ≤ zs.length + 1 := by split <;> simp
    rw [List.length_append, hb]
    omega
end Go.Proofs.YtoahlnmhjinneaaGreatDoor

set_option linter.unusedSimpArgs false
set_option linter.unusedVariables false
namespace Go.Proofs.YtoahlnmhjinneaaGreatDoor
open Go.RowKit Go.Maps Go.Lib Go.Sort
variable {w w' W W' W1 w3 : World} {v tv : Value} {xs : List (Br × Nat)} {b : Brs} {x : Br × Nat} {zs : List Int} {nd wh : Bool} {l : List Nat} {f2 : Bool} {name : L} {i k A4 : Nat}
def RNx (w : World) (v : Value) (b : Brs) (l : List Nat) (f2 : Bool) (name : L) (i : Nat) (W : World) : Prop := ∃ tv zs nd wh, NM w v W tv zs nd wh ∧ PF b l f2 name i zs nd wh
structure ND (w : World) (v : Value) (A4 : Nat) (x : Br × Nat) (W : World) (tv : Value) (zs : List Int) (nd wh : Bool) : Prop where
  m : NM w v W tv zs nd wh
  box : W.heap[A4]? = some (.cells #[.bool x.1.sg.1, .string (bs x.1.sg.2), .map (some x.2), .bool x.1.nd, .bool x.1.wh] 74 (0, 0))
theorem NM.shape (h : NM w v W tv zs nd wh) : ∃ a n c, tv = .slice a n c := own_shape h.row
theorem ND.start (h : NM w v W tv zs nd wh) : ND w v W.heap.size x (W.alloc (.cells #[.bool x.1.sg.1, .string (bs x.1.sg.2), .map (some x.2), .bool x.1.nd, .bool x.1.wh] 74)) tv zs nd wh :=
  ⟨h.on ((Below.refl _ W).alloc (Nat.le_refl _) _), Below_new W _⟩
theorem ND.on (h : ND w v A4 x W tv zs nd wh) (hb : Below W.heap.size W W') : ND w v A4 x W' tv zs nd wh := ⟨h.m.on hb, (hb.block _ (blk_lt h.box)).trans h.box⟩
theorem ND.app {v' : Value} (h : ND w v A4 x W tv zs nd wh) (ho : w3.ownsRow 0 3 1 v' (zs.length + 1) (intC zs ++ [.int .i64 (k : Nat)])) (hg : (W.alloc (.cells #[.int .i64 (k : Nat)] 3)).grownBy w3 tv.ownBlock) (hat : v'.ownBlock = tv.ownBlock ∨ v'.ownBlock = some (W.alloc (.cells #[.int .i64 (k : Nat)] 3)).heap.size) (h4 : w.heap.size + 1 + 1 + 1 < A4) :
    (w3.cell? ⟨w.heap.size + 1 + 1 + 1, 0, none⟩ = some tv ∧ w3.frozen? ⟨w.heap.size + 1 + 1 + 1, 0, none⟩ = false) ∧ ND w v A4 x (w3.setCell ⟨w.heap.size + 1 + 1 + 1, 0, none⟩ v') v' (zs ++ [(k : Int)]) nd wh := by
  have e1 : intC (zs ++ [(k : Int)]) = intC zs ++ [.int .i64 (k : Nat)] := by unfold intC; rw [List.map_append]; rfl
  have hf : Fr (fun j => tv.ownBlock = some j) W w3 := ((Fr.refl _ W).alloc _).gr hg fun j e _ => e
  obtain ⟨q1, q2⟩ := h.m.put (zs' := zs ++ [(k : Int)]) (by rw [e1, List.length_append, List.length_singleton]; exact ho) hf (fun j e => by
    rcases hat with h1 | h1
    · exact Or.inl (h1 ▸ e)
    · rw [h1] at e
      have : j = W.heap.size + 1 := by simpa using e.symm
      exact Or.inr (by omega))
  refine ⟨q1, q2, ?_⟩
  have hn := row_box h.m.row h.box (by decide)
  rw [Below.heap_setCell _ _ _ _ (by show A4 ≠ w.heap.size + 1 + 1 + 1; omega)]
  exact (hf.block _ (blk_lt h.box) hn).trans h.box
theorem ND.fits (h : ND w v A4 x W tv zs nd wh) (name : L) : Calls Tryz.prog 60 #[.agg #[.bool x.1.sg.1, .string (bs x.1.sg.2)], .string (bs name)] W fun e w' => e = .returned (.bool (fitsM x.1.sg name)) ∧ Hid (ND w v A4 x w' tv zs nd wh) :=
  (fits_ok x.1.sg name W).mono fun e w' ⟨h1, h2⟩ => ⟨h1, hide (h.on h2)⟩
theorem ND.seq {nd' wh' : Bool} (h : ND w v A4 x W tv zs nd wh) (h4 : w.heap.size + 1 + 1 + 1 < A4) (hM : MapN w 72 x.2 (kidsL x.1)) (hk1 : ((kidsL x.1).map (·.1)).Nodup) (hk2 : ∀ p ∈ kidsL x.1, WideAt.IsKeyLit p.1) (hl : zs.length + (kidsL x.1).length ≤ 10000000000000) (hfin : ∀ W v' ys, ys.Perm ((x.1.kids.map (·.2)).map fun k : Nat => (k : Int)) → NM w v W v' (zs ++ ys) nd' wh' → RNx w v b l f2 name i W) :
    (∃ W2, W2 = ((W.setCell ⟨w.heap.size + 1 + 1 + 1, 1, none⟩ (.bool nd')).setCell ⟨w.heap.size + 1 + 1 + 1, 2, none⟩ (.bool wh')) ∧ W2.cell? ⟨w.heap.size + 1 + 1 + 1, 0, none⟩ = some tv ∧ W2.cell? ⟨A4, 2, none⟩ = some (.map (some x.2)) ∧
      Hid (∀ m, Calls Tryz.prog 61 #[tv, .func (.func 83) #[] #[.pointer (some ⟨W2.heap.size, 0, none⟩)]] ((W2.alloc (.cells #[.map (some x.2)] 70)).drewN m) fun e w8 => ∃ va vn vc, e = .returned (.slice va vn vc) ∧ (w8.cell? ⟨w.heap.size + 1 + 1 + 1, 0, none⟩ = some tv ∧ w8.frozen? ⟨w.heap.size + 1 + 1 + 1, 0, none⟩ = false) ∧ Hid (RNx w v b l f2 name i (w8.setCell ⟨w.heap.size + 1 + 1 + 1, 0, none⟩ (.slice va vn vc))))) := by
  obtain ⟨-, q⟩ := h.m.set nd' wh'
  have hbx : ((W.setCell ⟨w.heap.size + 1 + 1 + 1, 1, none⟩ (.bool nd')).setCell ⟨w.heap.size + 1 + 1 + 1, 2, none⟩ (.bool wh')).heap[A4]? = W.heap[A4]? := by
    rw [Below.heap_setCell _ _ _ _ (by show A4 ≠ w.heap.size + 1 + 1 + 1; omega), Below.heap_setCell _ _ _ _ (by show A4 ≠ w.heap.size + 1 + 1 + 1; omega)]
  refine ⟨_, rfl, cell_of q.b3 rfl, cell_of (hbx.trans h.box) rfl, hide fun m => ?_⟩
  generalize ((W.setCell ⟨w.heap.size + 1 + 1 + 1, 1, none⟩ (.bool nd')).setCell ⟨w.heap.size + 1 + 1 + 1, 2, none⟩ (.bool wh')) = W2 at *
  have hb0 := belowN ((Below.refl W2.heap.size W2).alloc (Nat.le_refl _) (.cells #[.map (some x.2)] 70)) m
  have hB : ((W2.alloc (.cells #[.map (some x.2)] 70)).drewN m).heap[W2.heap.size]? = some (.cells #[.map (some x.2)] 70 (0, 0)) := Below_new W2 (.cells #[.map (some x.2)] 70)
  have qa := q.on hb0
  have hMa : MapN ((W2.alloc (.cells #[.map (some x.2)] 70)).drewN m) 72 x.2 (kidsL x.1) := hM.of (qa.below.block _ hM.lt)
  refine (appendSeq_ok _ qa.row W2.heap.size x.2 (blk_lt hB) (cell_of hB rfl) hMa hk1 hk2 hl).mono ?_
  rintro e w8 ⟨v', ys, rfl, h2, h3, h4', h5⟩
  obtain ⟨va, vn, vc, rfl⟩ := own_shape h3
  obtain ⟨r1, r2⟩ := qa.put h3 h4' h5
  rw [vals_kids] at h2
  exact ⟨va, vn, vc, rfl, r1, hide (hfin _ _ ys h2 r2)⟩
end Go.Proofs.YtoahlnmhjinneaaGreatDoor

set_option linter.unusedSimpArgs false
set_option linter.unusedVariables false
namespace Go.Proofs.YtoahlnmhjinneaaGreatDoor
open Go.RowKit Go.Maps Go.Lib Go.Sort
variable {w w' W W' W1 w3 : World} {v tv : Value} {xs : List (Br × Nat)} {b : Brs} {x : Br × Nat} {zs : List Int} {nd wh : Bool} {l : List Nat} {f2 : Bool} {name : L} {i k A4 : Nat}
theorem NM.turn {zs' : List Int} (h : NM w v W tv zs nd wh) (ho : w3.ownsRow 0 3 1 tv zs'.length (intC zs')) (hg : W.grownBy w3 tv.ownBlock) : NM w v w3 tv zs' nd wh := by
  have n0 := row_box h.row h.b0 (by decide)
  have n2 := row_box h.row h.b2 (by decide)
  have n3 := row_box h.row h.b3 (by decide)
  exact ⟨(hg.block _ (blk_lt h.b0) (fun e => n0 e.symm)).trans h.b0, (hg.block _ (blk_lt h.b2) (fun e => n2 e.symm)).trans h.b2, (hg.block _ (blk_lt h.b3) (fun e => n3 e.symm)).trans h.b3, ho, h.own, h.below.grown hg h.below.size h.own⟩
theorem next_due (hlt : ∀ k ∈ l, k < b.length) (hw : WfB b) (hp : PF b l f2 name l.length zs nd wh) : intC (Lib.compact (srt zs)) = dueC (nextDue b l name) ∧ (Lib.compact (srt zs)).length = (nextDue b l name).length := by
  obtain ⟨c1, c2⟩ := compact_srt zs
  have hmem := hp.mem
  rw [List.take_length] at hmem
  have hpos : ∀ z ∈ Lib.compact (srt zs), 0 ≤ z := fun z hz => by
    obtain ⟨k, rfl, _⟩ := (hmem z).1 ((c2 z).1 hz)
    omega
  have e : (Lib.compact (srt zs)).map Int.toNat = nextDue b l name := by
    refine due_of ?_ fun k => ?_
    · rw [List.pairwise_map]
      refine c1.imp_of_mem fun ha hb h => ?_
      have := hpos _ ha
      have := hpos _ hb
      omega
    · have h1 : k ∈ (Lib.compact (srt zs)).map Int.toNat ↔ (k : Int) ∈ zs := by
        rw [List.mem_map]
        constructor
        · rintro ⟨z, hz, rfl⟩
          have := hpos z hz
          rw [← c2]
          rwa [show ((z.toNat : Nat) : Int) = z by omega]
        · intro h
          exact ⟨(k : Int), (c2 _).2 h, by simp⟩
      rw [h1, hmem]
      constructor
      · rintro ⟨k', hk', h2⟩
        obtain rfl : k = k' := by omega
        refine ⟨?_, h2⟩
        rcases h2 with ⟨h3, _⟩ | ⟨j, hj, _, h3⟩
        · exact hlt k h3
        · unfold kidsAt at h3
          cases hb : b[j]? with
          | none => rw [hb] at h3; simp at h3
          | some q =>
            rw [hb] at h3
            obtain ⟨y, hy, rfl⟩ := List.mem_map.1 h3
            exact (hw.2 j q hb).1 y hy
      · rintro ⟨_, h2⟩
        exact ⟨k, rfl, h2⟩
  rw [intC_due _ hpos, e]
  exact ⟨rfl, by rw [← e, List.length_map]⟩
theorem next_end {f1 f3 : Bool} (h : BR w v xs) (hb : xs.map (·.1) = b) (hw : WfB b) (hks : KS b) (hl : b.length ≤ 2300000000000) (hlt : ∀ k ∈ l, k < b.length) (hll : l.length ≤ b.length) (M : RNx w v b l f2 name l.length W) :
    ∃ ta tn tc nd wh, W.cell? ⟨w.heap.size + 1 + 1 + 1, 0, none⟩ = some (.slice ta tn tc) ∧ Hid (Calls Tryz.prog 63 #[.slice ta tn tc] W fun e w1 => e = .returned (.tuple #[]) ∧ w1.cell? ⟨w.heap.size + 1 + 1 + 1, 0, none⟩ = some (.slice ta tn tc) ∧
      Hid (Calls Tryz.prog 64 #[.slice ta tn tc] w1 fun e w2 => ∃ va vn vc, e = .returned (.slice va vn vc) ∧ (w2.cell? ⟨w.heap.size + 1 + 1 + 1, 0, none⟩ = some (.slice ta tn tc) ∧ w2.frozen? ⟨w.heap.size + 1 + 1 + 1, 0, none⟩ = false) ∧ ∃ W3 W4, W3 = w2.setCell ⟨w.heap.size + 1 + 1 + 1, 0, none⟩ (.slice va vn vc) ∧ W4 = W3.setCell ⟨w.heap.size + 1 + 1 + 1, 3, none⟩ (.bool (nextS b ⟨l, f1, f2, f3⟩ name).tx) ∧
        (W3.cell? ⟨w.heap.size + 1 + 1 + 1, 0, none⟩ = some (.slice va vn vc) ∧ W3.cell? ⟨w.heap.size + 1 + 1 + 1, 3, none⟩ = some (.bool false) ∧ W3.frozen? ⟨w.heap.size + 1 + 1 + 1, 3, none⟩ = false) ∧
        Hid (Calls Tryz.prog 65 #[.slice va vn vc, .func (.func 66) #[] #[.pointer (some ⟨w.heap.size, 0, none⟩)]] W3 fun e w' => e = .returned (.bool (nextS b ⟨l, f1, f2, f3⟩ name).tx) ∧ w' = W3) ∧
        (W4.cell? ⟨w.heap.size + 1 + 1 + 1, 0, none⟩ = some (.slice va vn vc) ∧ W4.cell? ⟨w.heap.size + 1 + 1 + 1, 1, none⟩ = some (.bool nd) ∧ W4.cell? ⟨w.heap.size + 1 + 1 + 1, 2, none⟩ = some (.bool wh) ∧ W4.cell? ⟨w.heap.size + 1 + 1 + 1, 3, none⟩ = some (.bool (nextS b ⟨l, f1, f2, f3⟩ name).tx)) ∧
        Hid (W4.there (w.heap.size + 1 + 1) 0 4) ∧ Hid ((nd = (nextS b ⟨l, f1, f2, f3⟩ name).nd ∧ wh = (nextS b ⟨l, f1, f2, f3⟩ name).wh) ∧ (W4.setCells (w.heap.size + 1 + 1) 0 [.slice va vn vc, .bool nd, .bool wh, .bool (nextS b ⟨l, f1, f2, f3⟩ name).tx]).heap[w.heap.size + 1 + 1]? = some (.cells #[.slice va vn vc, .bool nd, .bool wh, .bool (nextS b ⟨l, f1, f2, f3⟩ name).tx] 69 (0, 0)) ∧
          (W4.setCells (w.heap.size + 1 + 1) 0 [.slice va vn vc, .bool nd, .bool wh, .bool (nextS b ⟨l, f1, f2, f3⟩ name).tx]).ownsRow 0 3 1 (.slice va vn vc) (nextDue b l name).length (dueC (nextDue b l name)) ∧ Below w.heap.size w (W4.setCells (w.heap.size + 1 + 1) 0 [.slice va vn vc, .bool nd, .bool wh, .bool (nextS b ⟨l, f1, f2, f3⟩ name).tx]) ∧ ∀ k, (Value.slice va vn vc).ownBlock = some k → w.heap.size ≤ k))) := by
  obtain ⟨tv, zs, nd, wh, m, p⟩ := M
  obtain ⟨ta, tn, tc, rfl⟩ := m.shape
  have hzl : zs.length ≤ 10000000000000 := by have h1 := p.len; have h2 := sumT_le hks (bnd l l.length); omega
  obtain ⟨hd1, hd2⟩ := next_due hlt hw p
  refine ⟨ta, tn, tc, nd, wh, cell_of m.b3 rfl, hide ((sort_row m.row hzl).mono ?_)⟩
  rintro e w1 ⟨h1, h2, h3⟩
  have m1 := m.turn (zs' := srt zs) (by rw [srt_len]; exact h2) h3
  refine ⟨h1, cell_of m1.b3 rfl, hide ((compact_row m1.row (by rw [srt_len]; exact hzl)).mono ?_)⟩
  rintro e w2 ⟨v', h4, h5, h6, h7⟩
  obtain ⟨va, vn, vc, rfl⟩ := own_shape h5
  have hf : Fr (fun k => (Value.slice ta tn tc).ownBlock = some k) w1 w2 := (Fr.refl _ w1).gr h6 fun k e _ => e
  obtain ⟨r1, m3⟩ := m1.put h5 hf (fun k e => Or.inl (h7 ▸ e))
  refine ⟨va, vn, vc, h4, r1, _, _, rfl, rfl, ?_⟩
  generalize w2.setCell ⟨w.heap.size + 1 + 1 + 1, 0, none⟩ (.slice va vn vc) = W3 at *
  have hrow := m3.row
  rw [hd1, hd2] at hrow
  have hlt2 : ∀ k ∈ nextDue b l name, k < b.length := fun k hk => by
    unfold nextDue at hk
    exact List.mem_range.1 (List.mem_filter.1 hk).1
  have hdl : (nextDue b l name).length ≤ b.length := by
    unfold nextDue
    have := List.length_filter_le (fun k => (l.contains k && deepAt b k) || l.any fun j => fitsAt b j name && (kidsAt b j).contains k) (List.range b.length)
    rw [List.length_range] at this
    exact this
  have hBR : BR W3 v xs := h.of fun k hk => m3.below.block k (h.lt hk)
  have hct := contains_due (A0 := w.heap.size) (cell_of m3.b0 rfl) hBR hb hrow hlt2 (by omega)
  have s3 := set_of (i := 3) m3.b3 (.bool (nextS b ⟨l, f1, f2, f3⟩ name).tx)
  have n3 := row_box hrow m3.b3 (by decide)
  have n2 := row_box hrow m3.b2 (by decide)
  have b2 : (W3.setCell ⟨w.heap.size + 1 + 1 + 1, 3, none⟩ (.bool (nextS b ⟨l, f1, f2, f3⟩ name).tx)).heap[w.heap.size + 1 + 1]? = some (.cells #[.slice none 0 0, .bool false, .bool false, .bool false] 69 (0, 0)) := by
    rw [Below.heap_setCell _ _ _ _ (by show w.heap.size + 1 + 1 ≠ w.heap.size + 1 + 1 + 1; omega)]
    exact m3.b2
  have hB4 := m3.below.setCell (p := ⟨w.heap.size + 1 + 1 + 1, 3, none⟩) (show w.heap.size ≤ w.heap.size + 1 + 1 + 1 by omega) (.bool (nextS b ⟨l, f1, f2, f3⟩ name).tx)
  have hr4 : (W3.setCell ⟨w.heap.size + 1 + 1 + 1, 3, none⟩ (.bool (nextS b ⟨l, f1, f2, f3⟩ name).tx)).ownsRow 0 3 1 (.slice va vn vc) (nextDue b l name).length (dueC (nextDue b l name)) := owns_of hrow fun k e => Below.heap_setCell _ _ _ _ (fun e' => n3 (by rw [e, e']))
  refine ⟨⟨cell_of m3.b3 rfl, cell_of m3.b3 rfl, free_of m3.b3⟩, hide hct, ⟨cell_of s3 rfl, cell_of s3 rfl, cell_of s3 rfl, cell_of s3 rfl⟩, hide (there4 b2), hide ⟨⟨?_, ?_⟩, set4 b2 _ _ _ _, owns_of hr4 fun k e => setCells_other (fun e' => n2 (by rw [e, e'])) _ _ _, ?_, fun k e => m3.own k e⟩⟩
  · have := p.nd
    rw [List.take_length] at this
    exact this
  · have := p.wh
    rw [List.take_length] at this
    exact this
  · obtain ⟨s1, s2, s3', s4⟩ := setCells_rest (g := w.heap.size + 1 + 1) [.slice va vn vc, .bool nd, .bool wh, .bool (nextS b ⟨l, f1, f2, f3⟩ name).tx] 0 (W3.setCell ⟨w.heap.size + 1 + 1 + 1, 3, none⟩ (.bool (nextS b ⟨l, f1, f2, f3⟩ name).tx))
    refine ⟨s1.trans hB4.os, s2.trans hB4.tape, s3'.trans hB4.output, by rw [s4]; exact hB4.size, fun k hk => ?_⟩
    rw [setCells_other (by omega)]
    exact hB4.block k hk
end Go.Proofs.YtoahlnmhjinneaaGreatDoor

set_option linter.unusedSimpArgs false
set_option linter.unusedVariables false
namespace Go.Proofs.YtoahlnmhjinneaaGreatDoor
open Go.RowKit Go.Maps Go.Lib Go.Sort
variable {w w' W W' W1 w3 : World} {v tv : Value} {xs : List (Br × Nat)} {b : Brs} {x : Br × Nat} {zs : List Int} {nd wh : Bool} {l : List Nat} {f2 : Bool} {name : L} {i k A4 : Nat}
abbrev C5b (W : World) (k : Nat) (d : Bool) (T : ByteArray) (mb : Nat) (p q : Bool) : Prop := W.cell? ⟨k, 0, none⟩ = some (.bool d) ∧ W.cell? ⟨k, 1, none⟩ = some (.string T) ∧ W.cell? ⟨k, 2, none⟩ = some (.map (some mb)) ∧ W.cell? ⟨k, 3, none⟩ = some (.bool p) ∧ W.cell? ⟨k, 4, none⟩ = some (.bool q)
def NDx (w : World) (v : Value) (A4 : Nat) (x : Br × Nat) (W : World) (nd wh : Bool) (zs : List Int) : Prop := ∃ tv, ND w v A4 x W tv zs nd wh
theorem next_round {fa : Option Addr} {fn fc : Nat} (h : BR w v xs) (hb : xs.map (·.1) = b) (hw : WfB b) (hs : Short b) (hks : KS b) (hl : b.length ≤ 2300000000000) (hr : l.Pairwise (· < ·)) (hlt : ∀ k ∈ l, k < b.length) (hll : l.length ≤ b.length) (hd : w.ownsRow 0 3 1 (.slice fa fn fc) l.length (dueC l)) (hi : i < l.length) (M : RNx w v b l f2 name i W) :
    ∃ gd k g n cap d T mb p q ta tn tc nd wh fb, fa = some ⟨gd, 0, none⟩ ∧ W.cell? ⟨gd, i, none⟩ = some (.int .i64 ((k : Nat) : Int)) ∧ W.cell? ⟨w.heap.size, 0, none⟩ = some (.slice (some ⟨g, 0, none⟩) n cap) ∧ (k : Int) < (n : Int) ∧
      (W.cell? ⟨g, k * 5, none⟩ = some (.bool d) ∧ W.cell? ⟨g, k * 5 + 1, none⟩ = some (.string T) ∧ W.cell? ⟨g, k * 5 + 2, none⟩ = some (.map (some mb)) ∧ W.cell? ⟨g, k * 5 + 3, none⟩ = some (.bool p) ∧ W.cell? ⟨g, k * 5 + 4, none⟩ = some (.bool q)) ∧
      C5b (W.alloc (.cells #[.bool d, .string T, .map (some mb), .bool p, .bool q] 74)) W.heap.size d T mb p q ∧ (W.alloc (.cells #[.bool d, .string T, .map (some mb), .bool p, .bool q] 74)).cell? ⟨w.heap.size + 1 + 1 + 1, 0, none⟩ = some (.slice ta tn tc) ∧
      ∃ P1 : Bool → World → Prop,
      Hid (d = false → P1 false (W.alloc (.cells #[.bool d, .string T, .map (some mb), .bool p, .bool q] 74))) ∧
      Hid (d = true → ∃ (N : Nat) (zc : List Value), N ≤ 10000000000000 ∧ ((W.alloc (.cells #[.bool d, .string T, .map (some mb), .bool p, .bool q] 74)).alloc (.cells #[.int .i64 ((k : Nat) : Int)] 3)).ownsRow 0 3 1 (.slice ta tn tc) N zc ∧ ∀ v' w3, w3.ownsRow 0 3 1 v' (N + 1) (zc ++ [.int .i64 ((k : Nat) : Int)]) → ((W.alloc (.cells #[.bool d, .string T, .map (some mb), .bool p, .bool q] 74)).alloc (.cells #[.int .i64 ((k : Nat) : Int)] 3)).grownBy w3 (Value.slice ta tn tc).ownBlock → (v'.ownBlock = (Value.slice ta tn tc).ownBlock ∨ v'.ownBlock = some ((W.alloc (.cells #[.bool d, .string T, .map (some mb), .bool p, .bool q] 74)).alloc (.cells #[.int .i64 ((k : Nat) : Int)] 3)).heap.size) →
        (w3.cell? ⟨w.heap.size + 1 + 1 + 1, 0, none⟩ = some (.slice ta tn tc) ∧ w3.frozen? ⟨w.heap.size + 1 + 1 + 1, 0, none⟩ = false) ∧ Hid (P1 true (w3.setCell ⟨w.heap.size + 1 + 1 + 1, 0, none⟩ v'))) ∧
      Hid (∀ W', P1 d W' → C5b W' W.heap.size d T mb p q ∧ Calls Tryz.prog 60 #[.agg #[.bool d, .string T], .string (bs name)] W' fun e w5 => e = .returned (.bool fb) ∧ Hid (P1 d w5)) ∧
      Hid (fb = false → ∀ W', P1 d W' → RNx w v b l f2 name (i + 1) W') ∧
      Hid (fb = true → ∀ W', P1 d W' → ∃ sa sn sc, C5b W' W.heap.size d T mb p q ∧ (W'.cell? ⟨w.heap.size + 1 + 1 + 1, 1, none⟩ = some (.bool nd) ∧ W'.frozen? ⟨w.heap.size + 1 + 1 + 1, 1, none⟩ = false ∧ (W'.setCell ⟨w.heap.size + 1 + 1 + 1, 1, none⟩ (.bool (nd || p))).cell? ⟨w.heap.size + 1 + 1 + 1, 2, none⟩ = some (.bool wh) ∧ (W'.setCell ⟨w.heap.size + 1 + 1 + 1, 1, none⟩ (.bool (nd || p))).frozen? ⟨w.heap.size + 1 + 1 + 1, 2, none⟩ = false ∧ (W'.setCell ⟨w.heap.size + 1 + 1 + 1, 1, none⟩ (.bool (nd || p))).cell? ⟨W.heap.size, 4, none⟩ = some (.bool q)) ∧
        ∃ W2, W2 = ((W'.setCell ⟨w.heap.size + 1 + 1 + 1, 1, none⟩ (.bool (nd || p))).setCell ⟨w.heap.size + 1 + 1 + 1, 2, none⟩ (.bool (wh || q))) ∧ W2.cell? ⟨w.heap.size + 1 + 1 + 1, 0, none⟩ = some (.slice sa sn sc) ∧ W2.cell? ⟨W.heap.size, 2, none⟩ = some (.map (some mb)) ∧
      Hid (∀ m, Calls Tryz.prog 61 #[.slice sa sn sc, .func (.func 83) #[] #[.pointer (some ⟨W2.heap.size, 0, none⟩)]] ((W2.alloc (.cells #[.map (some mb)] 70)).drewN m) fun e w8 => ∃ va vn vc, e = .returned (.slice va vn vc) ∧ (w8.cell? ⟨w.heap.size + 1 + 1 + 1, 0, none⟩ = some (.slice sa sn sc) ∧ w8.frozen? ⟨w.heap.size + 1 + 1 + 1, 0, none⟩ = false) ∧ Hid (RNx w v b l f2 name (i + 1) (w8.setCell ⟨w.heap.size + 1 + 1 + 1, 0, none⟩ (.slice va vn vc))))) := by
  obtain ⟨tv, zs, nd, wh, m, p⟩ := M
  obtain ⟨ta, tn, tc, rfl⟩ := m.shape
  have hxl : xs.length = b.length := by rw [← hb]; simp
  have hli : l[i]? = some l[i] := List.getElem?_eq_getElem hi
  have hk := hlt _ (List.getElem_mem hi)
  generalize l[i] = k at hli hk
  have hx : xs[k]? = some xs[k] := List.getElem?_eq_getElem (by omega)
  generalize xs[k] = x at hx
  have hbx : b[k]? = some x.1 := by rw [← hb, List.getElem?_map, hx]; rfl
  have hxm : x ∈ xs := List.mem_of_getElem? hx
  have hBW : BR W v xs := h.of fun j hj => m.below.block j (h.lt hj)
  obtain ⟨g, cap, rfl, hg, hnc, g0, g1, g2, g3, g4⟩ := hBW.at hx
  obtain ⟨hk1, hk2⟩ := kidsL_ok x.1 (hs x.1 (List.mem_of_getElem? hbx)) (hw.2 k _ hbx).2
  have hB := Below_new W (.cells #[.bool x.1.sg.1, .string (bs x.1.sg.2), .map (some x.2), .bool x.1.nd, .bool x.1.wh] 74)
  have m0 : ND w (.slice (some ⟨g, 0, none⟩) xs.length cap) W.heap.size x (W.alloc (.cells #[.bool x.1.sg.1, .string (bs x.1.sg.2), .map (some x.2), .bool x.1.nd, .bool x.1.wh] 74)) (.slice ta tn tc) zs nd wh := ND.start m
  have h4 : w.heap.size + 1 + 1 + 1 < W.heap.size := blk_lt m.b3
  have hsum := sumT_le hks (bnd l i)
  have hzl : zs.length ≤ i + b.length := by have := p.len; omega
  have hkc : ∀ {b2 : Bool}, (if b2 = true then zs ++ [(k : Int)] else zs).length + (kidsL x.1).length ≤ 10000000000000 := fun {b2} => by
    have h5 : (if b2 = true then zs ++ [(k : Int)] else zs).length ≤ zs.length + 1 := by split <;> simp
    have h6 : (kidsL x.1).length ≤ b.length := by
      have h7 := sumT_succ hbx
      have h8 := sumT_le hks (k + 1)
      unfold kidsL
      rw [List.length_map]
      omega
    omega
  have hgd : ∃ gd, fa = some ⟨gd, 0, none⟩ ∧ gd < w.heap.size ∧ w.cell? ⟨gd, i, none⟩ = some (.int .i64 ((k : Nat) : Int)) := by
    rcases hd.2 with ⟨h', h0⟩ | ⟨gd, c', cur, h', hbb, hgg, _⟩
    · omega
    · cases h'
      refine ⟨gd, rfl, blk_lt hgg, ?_⟩
      rw [hd.cellAt i (by omega)]
      unfold dueC
      rw [List.getElem?_map, hli]
      rfl
  obtain ⟨gd, hfa, hgl, hcd⟩ := hgd
  have hr1 : ∀ {W' : World} {tv' : Value} {zs' : List Int} {nd' wh' : Bool}, ND w (.slice (some ⟨g, 0, none⟩) xs.length cap) W.heap.size x W' tv' zs' nd' wh' → C5b W' W.heap.size x.1.sg.1 (bs x.1.sg.2) x.2 x.1.nd x.1.wh := fun hh => ⟨cell_of hh.box rfl, cell_of hh.box rfl, cell_of hh.box rfl, cell_of hh.box rfl, cell_of hh.box rfl⟩
  refine ⟨gd, k, g, xs.length, cap, x.1.sg.1, bs x.1.sg.2, x.2, x.1.nd, x.1.wh, ta, tn, tc, nd, wh, fitsM x.1.sg name, hfa, (World.cell?_of_block (m.below.block gd hgl)).trans hcd, cell_of m.b0 rfl, by omega, ⟨g0, g1, g2, g3, g4⟩, hr1 m0, cell_of m0.m.b3 rfl,
    fun d W' => NDx w (.slice (some ⟨g, 0, none⟩) xs.length cap) W.heap.size x W' nd wh (if d = true then zs ++ [(k : Int)] else zs), hide ?_, hide ?_, hide ?_, hide ?_, hide ?_⟩
  · intro _
    exact ⟨_, m0⟩
  · intro _
    refine ⟨zs.length, intC zs, by omega, owns_of m0.m.row fun j e => Below.heap_alloc _ _ _ (own_lt m0.m.row e), fun v' w3 ho hgg hat => ?_⟩
    obtain ⟨q1, q2⟩ := m0.app ho hgg hat h4
    exact ⟨q1, hide ⟨v', q2⟩⟩
  · rintro W' ⟨tv', hh⟩
    refine ⟨hr1 hh, (hh.fits name).mono ?_⟩
    rintro e w5 ⟨e1, e2⟩
    exact ⟨e1, hide ⟨tv', e2.out⟩⟩
  · rintro hf W' ⟨tv', hh⟩
    have hp := p.step (ys := []) hr hli hbx (by rw [if_neg (by rw [hf]; decide)])
    rw [hf, List.append_nil] at hp
    simp only [Bool.false_and, Bool.or_false] at hp
    exact ⟨tv', _, nd, wh, hh.m, hp⟩
  · rintro hf W' ⟨tv', hh⟩
    obtain ⟨sa, sn, sc, rfl⟩ := hh.m.shape
    obtain ⟨⟨s1, s2, s3, s4⟩, -⟩ := hh.m.set (nd || x.1.nd) (wh || x.1.wh)
    refine ⟨sa, sn, sc, hr1 hh, ⟨s1, s2, s3, s4, ?_⟩, ?_⟩
    · have e : (W'.setCell ⟨w.heap.size + 1 + 1 + 1, 1, none⟩ (.bool (nd || x.1.nd))).heap[W.heap.size]? = W'.heap[W.heap.size]? := Below.heap_setCell _ _ _ _ (by show W.heap.size ≠ w.heap.size + 1 + 1 + 1; omega)
      exact cell_of (e.trans hh.box) rfl
    · refine hh.seq h4 (h.map x hxm) hk1 hk2 hkc fun W3 v3 ys hys hm3 => ?_
      have hp := p.step (ys := ys) hr hli hbx (by rw [if_pos hf]; exact hys)
      rw [hf] at hp
      simp only [Bool.true_and] at hp
      exact ⟨v3, _, _, _, hm3, hp⟩
end Go.Proofs.YtoahlnmhjinneaaGreatDoor

set_option linter.unusedSimpArgs false
set_option linter.unusedVariables false
namespace Go.Proofs.YtoahlnmhjinneaaGreatDoor
open Go.RowKit Go.Maps Go.Lib Go.Sort
variable {w w' W W' W1 w3 : World} {v tv : Value} {xs : List (Br × Nat)} {b : Brs} {x : Br × Nat} {zs : List Int} {nd wh : Bool} {l : List Nat} {f2 : Bool} {name : L} {i k A4 : Nat}
set_option maxHeartbeats 200000000 in
set_option maxRecDepth 100000 in
theorem next_ok {fa : Option Addr} {fn fc : Nat} (f1 f2 f3 : Bool) (name : L) (h : BR w v xs) (hb : xs.map (·.1) = b) (hw : WfB b) (hs : Short b) (hks : KS b) (hl : b.length ≤ 2300000000000) (hr : l.Pairwise (· < ·)) (hlt : ∀ k ∈ l, k < b.length) (hll : l.length ≤ b.length) (hd : w.ownsRow 0 3 1 (.slice fa fn fc) l.length (dueC l)) :
    Calls Tryz.prog 40 #[v, .agg (aT fa fn fc f1 f2 f3), .string (bs name)] w fun e w' => ∃ va vn vc, e = .returned (.agg (aT va vn vc (nextS b ⟨l, f1, f2, f3⟩ name).nd (nextS b ⟨l, f1, f2, f3⟩ name).wh (nextS b ⟨l, f1, f2, f3⟩ name).tx)) ∧ w'.ownsRow 0 3 1 (.slice va vn vc) (nextDue b l name).length (dueC (nextDue b l name)) ∧ Below w.heap.size w w' ∧ ∀ k, (Value.slice va vn vc).ownBlock = some k → w.heap.size ≤ k := by
  have hfn : fn = l.length := by
    rcases hd.2 with ⟨h', h0⟩ | ⟨g, c, cur, h', _⟩
    · cases h'; exact h0.symm
    · cases h'; rfl
  have HR := hide (fun i W (hi : i < l.length) M => next_round (f2 := f2) (name := name) (i := i) (W := W) h hb hw hs hks hl hr hlt hll hd hi M)
  have HFIN := hide (fun W M => next_end (f1 := f1) (f2 := f2) (f3 := f3) (name := name) (W := W) h hb hw hks hl hlt hll M)
  obtain ⟨W0, hW0⟩ : ∃ W0, ((((w.alloc (.cells #[v] 42)).alloc (.cells (aT fa fn fc f1 f2 f3) 69)).alloc (.cells #[.slice none 0 0, .bool false, .bool false, .bool false] 69)).alloc (.cells #[.slice none 0 0, .bool false, .bool f2, .bool false] 69)) = W0 := ⟨_, rfl⟩
  have c0 : (w.alloc (.cells #[v] 42)).alloc (.cells (aT fa fn fc f1 f2 f3) 69) = (w.alloc (.cells #[v] 42)).alloc (.cells (aT fa fn fc f1 f2 f3) 69) := rfl
  have hB1 := Below_new (w.alloc (.cells #[v] 42)) (.cells (aT fa fn fc f1 f2 f3) 69)
  rw [World.size_alloc] at hB1
  have e2 : (((w.alloc (.cells #[v] 42)).alloc (.cells (aT fa fn fc f1 f2 f3) 69)).alloc (.cells #[.slice none 0 0, .bool false, .bool false, .bool false] 69)).heap[w.heap.size + 1]? = some (.cells (aT fa fn fc f1 f2 f3) 69 (0, 0)) := by
    rw [Below.heap_alloc _ _ _ (by simp)]
    exact hB1
  have d2 : (((w.alloc (.cells #[v] 42)).alloc (.cells (aT fa fn fc f1 f2 f3) 69)).alloc (.cells #[.slice none 0 0, .bool false, .bool false, .bool false] 69)).cell? ⟨w.heap.size + 1, 2, none⟩ = some (.bool f2) := cell_of e2 rfl
  have d0 : ((((w.alloc (.cells #[v] 42)).alloc (.cells (aT fa fn fc f1 f2 f3) 69)).alloc (.cells #[.slice none 0 0, .bool false, .bool false, .bool false] 69)).alloc (.cells #[.slice none 0 0, .bool false, .bool f2, .bool false] 69)).cell? ⟨w.heap.size + 1, 0, none⟩ = some (.slice fa fn fc) := cell_alloc _ (cell_of (i := 0) e2 rfl)
  have M0 : Hid (RNx w v b l f2 name 0 W0) := by
    refine hide ⟨.slice none 0 0, [], false, f2, ⟨?_, ?_, ?_, World.ownsRow_nil _ _ _ _, (fun k e => nomatch e), ?_⟩, PF.zero b l f2 name⟩
    · rw [← hW0, Below.heap_alloc _ _ _ (by simp; omega), Below.heap_alloc _ _ _ (by simp; omega), Below.heap_alloc _ _ _ (by simp)]
      exact Below_new w _
    · have hh := Below_new ((w.alloc (.cells #[v] 42)).alloc (.cells (aT fa fn fc f1 f2 f3) 69)) (.cells #[.slice none 0 0, .bool false, .bool false, .bool false] 69)
      rw [World.size_alloc, World.size_alloc] at hh
      rw [← hW0, Below.heap_alloc _ _ _ (by simp)]
      exact hh
    · have hh := Below_new (((w.alloc (.cells #[v] 42)).alloc (.cells (aT fa fn fc f1 f2 f3) 69)).alloc (.cells #[.slice none 0 0, .bool false, .bool false, .bool false] 69)) (.cells #[.slice none 0 0, .bool false, .bool f2, .bool false] 69)
      rw [World.size_alloc, World.size_alloc, World.size_alloc] at hh
      rw [← hW0]
      exact hh
    · rw [← hW0]
      exact ((((Below.refl w.heap.size w).alloc (Nat.le_refl _) _).alloc (by simp) _).alloc (by simp; omega) _).alloc (by simp; omega) _
  obtain ⟨i0, hi0, hz0, hz1, hz2⟩ := info_parts info3
  obtain ⟨RN, hRN⟩ : ∃ RN : Nat → World → Prop, ∀ i W, RN i W = RNx w v b l f2 name i W := ⟨_, fun _ _ => rfl⟩
  simp only [← hRN] at M0 HFIN HR
  rw [← hfn] at HFIN HR
  obtain ⟨va', vn', vc', rfl⟩ := own_shape h.row
  have hlf : fn ≤ 2300000000000 := by omega
  clear hRN h hw hs hks hl hr hlt hll hd hB1 e2 c0
  generalize nextS b ⟨l, f1, f2, f3⟩ name = ST at *
  generalize nextDue b l name = DU at *
  clear hfn
  have HW0 := hide hW0
  clear hW0
  go_enter Tryz.func40, Tryz.ntmps40
  go_wp2_with fail
  rw [HW0.out]
  clear d0 d2
  go_loopw [9, 10, 17, 18, 19, 20, 21, 22, 23, 24, 25, 26, 27, 28, 29, 30, 31, 32, 33, 34, 35, 36, 37, 38, 39, 40, 41, 42, 43, 44, 45, 46, 47, 48, 49, 50, 51, 52, 53, 54, 55, 56, 57, 58, 59] (fun _ _ u17 _ _ _ _ _ _ _ _ _ _ _ _ _ _ _ _ _ _ _ _ _ _ _ _ _ _ _ _ _ _ _ _ _ _ _ _ _ _ _ _ _ _ wr => ∃ i : Nat, u17 = .int .i64 i ∧ i ≤ fn ∧ Hid (RN i wr)) (fun _ _ u17 _ _ _ _ _ _ _ _ _ _ _ _ _ _ _ _ _ _ _ _ _ _ _ _ _ _ _ _ _ _ _ _ _ _ _ _ _ _ _ _ _ _ _ => fn - (RowKit.intOf u17).toNat)
  case atStart => exact ⟨0, rfl, Nat.zero_le _, M0⟩
  case round =>
    rename World => WO
    obtain ⟨i, rfl, hi, HM⟩ := hrel
    by_cases hlt : i < fn
    · obtain ⟨gd, k, g, n, cap, d, T, mb, p, q, ta, tn, tc, nd, wh, fb, rfl, a0, a1, hkn, ⟨g0, g1, g2, g3, g4⟩, ⟨c0, c1, c2, c3, c4⟩, x0, P1, HF, HT, HC, HNo, HYes⟩ := HR.out i _ hlt HM.out
      have hdec : decide ((i : Int) < fn) = true := by simp; omega
      have hii : (i : Int) < fn := by omega
      clear HR HFIN HM M0
      cases d with
      | false =>
        obtain ⟨cc, HC2⟩ := HC.out _ (HF.out rfl)
        have HC3 := hide HC2
        clear HF HT HC HC2
        cases fb with
        | false =>
          go_wp2_with (go_at_call 60; refine HC3.out.mono ?_; rintro e w5 ⟨rfl, h5⟩; have H5 := hide (HNo.out rfl _ h5.out); clear HC3 HNo HYes)
          exact ⟨⟨i + 1, by simp, by omega, H5⟩, by simp only [RowKit.intOf]; omega⟩
        | true =>
          clear HNo cc
          cases nd <;> cases wh
          · go_wp2_with (first | (go_at_call 60; refine HC3.out.mono ?_; rintro e w5 ⟨rfl, h5⟩; obtain ⟨sa, sn, sc, ⟨e0, e1, e2, e3, e4⟩, ⟨y1, y2, y3, y4, y5⟩, W2, rfl, z0, z2, HS⟩ := HYes.out rfl _ h5.out; simp only [Bool.true_or, Bool.false_or] at y3 y4 y5 z0 z2 HS; clear HC3 HYes h5 c0 c1 c2 c3 c4))
            generalize ((w5.setCell ⟨w.heap.size + 1 + 1 + 1, 1, none⟩ (.bool p)).setCell ⟨w.heap.size + 1 + 1 + 1, 2, none⟩ (.bool q)) = W2 at *
            have z0a : ∀ o, (W2.alloc o).cell? ⟨w.heap.size + 1 + 1 + 1, 0, none⟩ = some (.slice sa sn sc) := fun o => cell_alloc o z0
            go_region_with
              ((first | (go_at_call 62; refine (values_ok mb _).mono ?_; rintro e w6 ⟨rfl, rfl⟩) | (go_at_call 61; (first | refine (HS.out 1).mono ?_ | refine (HS.out 0).mono ?_ | refine (HS.out _).mono ?_); rintro e w8 ⟨a8, n8, c8, rfl, ⟨x8, f8⟩, h8⟩)))
            all_goals
              clear e0 e1 e2 e3 e4 y1 y2 y3 y4 y5 z0 z2 HS z0a x8 f8
              go_wp2
              exact ⟨⟨i + 1, by simp, by omega, h8⟩, by simp only [RowKit.intOf]; omega⟩
          · go_wp2_with (first | (go_at_call 60; refine HC3.out.mono ?_; rintro e w5 ⟨rfl, h5⟩; obtain ⟨sa, sn, sc, ⟨e0, e1, e2, e3, e4⟩, ⟨y1, y2, y3, y4, y5⟩, W2, rfl, z0, z2, HS⟩ := HYes.out rfl _ h5.out; simp only [Bool.true_or, Bool.false_or] at y3 y4 y5 z0 z2 HS; clear HC3 HYes h5 c0 c1 c2 c3 c4))
            generalize ((w5.setCell ⟨w.heap.size + 1 + 1 + 1, 1, none⟩ (.bool p)).setCell ⟨w.heap.size + 1 + 1 + 1, 2, none⟩ (.bool true)) = W2 at *
            have z0a : ∀ o, (W2.alloc o).cell? ⟨w.heap.size + 1 + 1 + 1, 0, none⟩ = some (.slice sa sn sc) := fun o => cell_alloc o z0
            go_region_with
              ((first | (go_at_call 62; refine (values_ok mb _).mono ?_; rintro e w6 ⟨rfl, rfl⟩) | (go_at_call 61; (first | refine (HS.out 1).mono ?_ | refine (HS.out 0).mono ?_ | refine (HS.out _).mono ?_); rintro e w8 ⟨a8, n8, c8, rfl, ⟨x8, f8⟩, h8⟩)))
            all_goals
              clear e0 e1 e2 e3 e4 y1 y2 y3 y4 y5 z0 z2 HS z0a x8 f8
              go_wp2
              exact ⟨⟨i + 1, by simp, by omega, h8⟩, by simp only [RowKit.intOf]; omega⟩
          · go_wp2_with (first | (go_at_call 60; refine HC3.out.mono ?_; rintro e w5 ⟨rfl, h5⟩; obtain ⟨sa, sn, sc, ⟨e0, e1, e2, e3, e4⟩, ⟨y1, y2, y3, y4, y5⟩, W2, rfl, z0, z2, HS⟩ := HYes.out rfl _ h5.out; simp only [Bool.true_or, Bool.false_or] at y3 y4 y5 z0 z2 HS; clear HC3 HYes h5 c0 c1 c2 c3 c4))
            generalize ((w5.setCell ⟨w.heap.size + 1 + 1 + 1, 1, none⟩ (.bool true)).setCell ⟨w.heap.size + 1 + 1 + 1, 2, none⟩ (.bool q)) = W2 at *
            have z0a : ∀ o, (W2.alloc o).cell? ⟨w.heap.size + 1 + 1 + 1, 0, none⟩ = some (.slice sa sn sc) := fun o => cell_alloc o z0
            go_region_with
              ((first | (go_at_call 62; refine (values_ok mb _).mono ?_; rintro e w6 ⟨rfl, rfl⟩) | (go_at_call 61; (first | refine (HS.out 1).mono ?_ | refine (HS.out 0).mono ?_ | refine (HS.out _).mono ?_); rintro e w8 ⟨a8, n8, c8, rfl, ⟨x8, f8⟩, h8⟩)))
            all_goals
              clear e0 e1 e2 e3 e4 y1 y2 y3 y4 y5 z0 z2 HS z0a x8 f8
              go_wp2
              exact ⟨⟨i + 1, by simp, by omega, h8⟩, by simp only [RowKit.intOf]; omega⟩
          · go_wp2_with (first | (go_at_call 60; refine HC3.out.mono ?_; rintro e w5 ⟨rfl, h5⟩; obtain ⟨sa, sn, sc, ⟨e0, e1, e2, e3, e4⟩, ⟨y1, y2, y3, y4, y5⟩, W2, rfl, z0, z2, HS⟩ := HYes.out rfl _ h5.out; simp only [Bool.true_or, Bool.false_or] at y3 y4 y5 z0 z2 HS; clear HC3 HYes h5 c0 c1 c2 c3 c4))
            generalize ((w5.setCell ⟨w.heap.size + 1 + 1 + 1, 1, none⟩ (.bool true)).setCell ⟨w.heap.size + 1 + 1 + 1, 2, none⟩ (.bool true)) = W2 at *
            have z0a : ∀ o, (W2.alloc o).cell? ⟨w.heap.size + 1 + 1 + 1, 0, none⟩ = some (.slice sa sn sc) := fun o => cell_alloc o z0
            go_region_with
              ((first | (go_at_call 62; refine (values_ok mb _).mono ?_; rintro e w6 ⟨rfl, rfl⟩) | (go_at_call 61; (first | refine (HS.out 1).mono ?_ | refine (HS.out 0).mono ?_ | refine (HS.out _).mono ?_); rintro e w8 ⟨a8, n8, c8, rfl, ⟨x8, f8⟩, h8⟩)))
            all_goals
              clear e0 e1 e2 e3 e4 y1 y2 y3 y4 y5 z0 z2 HS z0a x8 f8
              go_wp2
              exact ⟨⟨i + 1, by simp, by omega, h8⟩, by simp only [RowKit.intOf]; omega⟩
      | true =>
        obtain ⟨N, zc, hN, hown, hup⟩ := HT.out rfl
        have HO := hide hown
        have HU := hide hup
        have HNW : Hid (∀ j u, [Value.int .i64 ((k : Nat) : Int)][j]? = some u → ((WO.alloc (.cells #[.bool true, .string T, .map (some mb), .bool p, .bool q] 74)).alloc (.cells #[.int .i64 ((k : Nat) : Int)] 3)).cell? ((⟨WO.heap.size + 1, 0, none⟩ : Addr).add j) = some u) := by
          have hh := cell_one_new (WO.alloc (.cells #[.bool true, .string T, .map (some mb), .bool p, .bool q] 74)) (.int .i64 ((k : Nat) : Int)) 3
          rw [World.size_alloc] at hh
          exact hide hh
        clear HF HT hown hup
        cases fb with
        | false =>
          go_wp2_with (first | (at_builtin; refine wpList_append_own_at (w := _) rfl _ _ 67 rfl 0 3 i0 _ 1 8 Tryz.underlying67 hi0 hz0 hz1 hz2 rfl (by decide) _ _ _ rfl HO.out ⟨WO.heap.size + 1, 0, none⟩ 1 1 [.int .i64 ((k : Nat) : Int)] rfl rfl HNW.out (by simp [Value.oneCell']) (by unfold maxLen; omega) (by omega) (Nat.zero_le _) ?_; intro v7 w7 ho7 hg7 _ hat7; obtain ⟨⟨d7, f7⟩, h7⟩ := HU.out _ _ ho7 hg7 hat7; obtain ⟨a7, n7, c7, rfl⟩ := own_shape ho7; obtain ⟨⟨c0, c1, c2, c3, c4⟩, HC2⟩ := HC.out _ h7.out; have HC3 := hide HC2; clear HU ho7 hg7 hat7 HO HNW h7 HC HC2) | (go_at_call 60; refine HC3.out.mono ?_; rintro e w5 ⟨rfl, h5⟩; have H5 := hide (HNo.out rfl _ h5.out); clear HC3 HNo HYes))
          exact ⟨⟨i + 1, by simp, by omega, H5⟩, by simp only [RowKit.intOf]; omega⟩
        | true =>
          clear HNo
          cases nd <;> cases wh
          · go_wp2_with (first | (at_builtin; refine wpList_append_own_at (w := _) rfl _ _ 67 rfl 0 3 i0 _ 1 8 Tryz.underlying67 hi0 hz0 hz1 hz2 rfl (by decide) _ _ _ rfl HO.out ⟨WO.heap.size + 1, 0, none⟩ 1 1 [.int .i64 ((k : Nat) : Int)] rfl rfl HNW.out (by simp [Value.oneCell']) (by unfold maxLen; omega) (by omega) (Nat.zero_le _) ?_; intro v7 w7 ho7 hg7 _ hat7; obtain ⟨⟨d7, f7⟩, h7⟩ := HU.out _ _ ho7 hg7 hat7; obtain ⟨a7, n7, c7, rfl⟩ := own_shape ho7; obtain ⟨⟨c0, c1, c2, c3, c4⟩, HC2⟩ := HC.out _ h7.out; have HC3 := hide HC2; clear HU ho7 hg7 hat7 HO HNW h7 HC HC2) | (go_at_call 60; refine HC3.out.mono ?_; rintro e w5 ⟨rfl, h5⟩; obtain ⟨sa, sn, sc, ⟨e0, e1, e2, e3, e4⟩, ⟨y1, y2, y3, y4, y5⟩, W2, rfl, z0, z2, HS⟩ := HYes.out rfl _ h5.out; simp only [Bool.true_or, Bool.false_or] at y3 y4 y5 z0 z2 HS; clear HC3 HYes h5 c0 c1 c2 c3 c4))
            generalize ((w5.setCell ⟨w.heap.size + 1 + 1 + 1, 1, none⟩ (.bool p)).setCell ⟨w.heap.size + 1 + 1 + 1, 2, none⟩ (.bool q)) = W2 at *
            have z0a : ∀ o, (W2.alloc o).cell? ⟨w.heap.size + 1 + 1 + 1, 0, none⟩ = some (.slice sa sn sc) := fun o => cell_alloc o z0
            go_region_with
              ((first | (go_at_call 62; refine (values_ok mb _).mono ?_; rintro e w6 ⟨rfl, rfl⟩) | (go_at_call 61; (first | refine (HS.out 1).mono ?_ | refine (HS.out 0).mono ?_ | refine (HS.out _).mono ?_); rintro e w8 ⟨a8, n8, c8, rfl, ⟨x8, f8⟩, h8⟩)))
            all_goals
              clear e0 e1 e2 e3 e4 y1 y2 y3 y4 y5 z0 z2 HS z0a x8 f8
              go_wp2
              exact ⟨⟨i + 1, by simp, by omega, h8⟩, by simp only [RowKit.intOf]; omega⟩
          · go_wp2_with (first | (at_builtin; refine wpList_append_own_at (w := _) rfl _ _ 67 rfl 0 3 i0 _ 1 8 Tryz.underlying67 hi0 hz0 hz1 hz2 rfl (by decide) _ _ _ rfl HO.out ⟨WO.heap.size + 1, 0, none⟩ 1 1 [.int .i64 ((k : Nat) : Int)] rfl rfl HNW.out (by simp [Value.oneCell']) (by unfold maxLen; omega) (by omega) (Nat.zero_le _) ?_; intro v7 w7 ho7 hg7 _ hat7; obtain ⟨⟨d7, f7⟩, h7⟩ := HU.out _ _ ho7 hg7 hat7; obtain ⟨a7, n7, c7, rfl⟩ := own_shape ho7; obtain ⟨⟨c0, c1, c2, c3, c4⟩, HC2⟩ := HC.out _ h7.out; have HC3 := hide HC2; clear HU ho7 hg7 hat7 HO HNW h7 HC HC2) | (go_at_call 60; refine HC3.out.mono ?_; rintro e w5 ⟨rfl, h5⟩; obtain ⟨sa, sn, sc, ⟨e0, e1, e2, e3, e4⟩, ⟨y1, y2, y3, y4, y5⟩, W2, rfl, z0, z2, HS⟩ := HYes.out rfl _ h5.out; simp only [Bool.true_or, Bool.false_or] at y3 y4 y5 z0 z2 HS; clear HC3 HYes h5 c0 c1 c2 c3 c4))
            generalize ((w5.setCell ⟨w.heap.size + 1 + 1 + 1, 1, none⟩ (.bool p)).setCell ⟨w.heap.size + 1 + 1 + 1, 2, none⟩ (.bool true)) = W2 at *
            have z0a : ∀ o, (W2.alloc o).cell? ⟨w.heap.size + 1 + 1 + 1, 0, none⟩ = some (.slice sa sn sc) := fun o => cell_alloc o z0
            go_region_with
              ((first | (go_at_call 62; refine (values_ok mb _).mono ?_; rintro e w6 ⟨rfl, rfl⟩) | (go_at_call 61; (first | refine (HS.out 1).mono ?_ | refine (HS.out 0).mono ?_ | refine (HS.out _).mono ?_); rintro e w8 ⟨a8, n8, c8, rfl, ⟨x8, f8⟩, h8⟩)))
            all_goals
              clear e0 e1 e2 e3 e4 y1 y2 y3 y4 y5 z0 z2 HS z0a x8 f8
              go_wp2
              exact ⟨⟨i + 1, by simp, by omega, h8⟩, by simp only [RowKit.intOf]; omega⟩
          · go_wp2_with (first | (at_builtin; refine wpList_append_own_at (w := _) rfl _ _ 67 rfl 0 3 i0 _ 1 8 Tryz.underlying67 hi0 hz0 hz1 hz2 rfl (by decide) _ _ _ rfl HO.out ⟨WO.heap.size + 1, 0, none⟩ 1 1 [.int .i64 ((k : Nat) : Int)] rfl rfl HNW.out (by simp [Value.oneCell']) (by unfold maxLen; omega) (by omega) (Nat.zero_le _) ?_; intro v7 w7 ho7 hg7 _ hat7; obtain ⟨⟨d7, f7⟩, h7⟩ := HU.out _ _ ho7 hg7 hat7; obtain ⟨a7, n7, c7, rfl⟩ := own_shape ho7; obtain ⟨⟨c0, c1, c2, c3, c4⟩, HC2⟩ := HC.out _ h7.out; have HC3 := hide HC2; clear HU ho7 hg7 hat7 HO HNW h7 HC HC2) | (go_at_call 60; refine HC3.out.mono ?_; rintro e w5 ⟨rfl, h5⟩; obtain ⟨sa, sn, sc, ⟨e0, e1, e2, e3, e4⟩, ⟨y1, y2, y3, y4, y5⟩, W2, rfl, z0, z2, HS⟩ := HYes.out rfl _ h5.out; simp only [Bool.true_or, Bool.false_or] at y3 y4 y5 z0 z2 HS; clear HC3 HYes h5 c0 c1 c2 c3 c4))
            generalize ((w5.setCell ⟨w.heap.size + 1 + 1 + 1, 1, none⟩ (.bool true)).setCell ⟨w.heap.size + 1 + 1 + 1, 2, none⟩ (.bool q)) = W2 at *
            have z0a : ∀ o, (W2.alloc o).cell? ⟨w.heap.size + 1 + 1 + 1, 0, none⟩ = some (.slice sa sn sc) := fun o => cell_alloc o z0
            go_region_with
              ((first | (go_at_call 62; refine (values_ok mb _).mono ?_; rintro e w6 ⟨rfl, rfl⟩) | (go_at_call 61; (first | refine (HS.out 1).mono ?_ | refine (HS.out 0).mono ?_ | refine (HS.out _).mono ?_); rintro e w8 ⟨a8, n8, c8, rfl, ⟨x8, f8⟩, h8⟩)))
            all_goals
              clear e0 e1 e2 e3 e4 y1 y2 y3 y4 y5 z0 z2 HS z0a x8 f8
              go_wp2
              exact ⟨⟨i + 1, by simp, by omega, h8⟩, by simp only [RowKit.intOf]; omega⟩
          · go_wp2_with (first | (at_builtin; refine wpList_append_own_at (w := _) rfl _ _ 67 rfl 0 3 i0 _ 1 8 Tryz.underlying67 hi0 hz0 hz1 hz2 rfl (by decide) _ _ _ rfl HO.out ⟨WO.heap.size + 1, 0, none⟩ 1 1 [.int .i64 ((k : Nat) : Int)] rfl rfl HNW.out (by simp [Value.oneCell']) (by unfold maxLen; omega) (by omega) (Nat.zero_le _) ?_; intro v7 w7 ho7 hg7 _ hat7; obtain ⟨⟨d7, f7⟩, h7⟩ := HU.out _ _ ho7 hg7 hat7; obtain ⟨a7, n7, c7, rfl⟩ := own_shape ho7; obtain ⟨⟨c0, c1, c2, c3, c4⟩, HC2⟩ := HC.out _ h7.out; have HC3 := hide HC2; clear HU ho7 hg7 hat7 HO HNW h7 HC HC2) | (go_at_call 60; refine HC3.out.mono ?_; rintro e w5 ⟨rfl, h5⟩; obtain ⟨sa, sn, sc, ⟨e0, e1, e2, e3, e4⟩, ⟨y1, y2, y3, y4, y5⟩, W2, rfl, z0, z2, HS⟩ := HYes.out rfl _ h5.out; simp only [Bool.true_or, Bool.false_or] at y3 y4 y5 z0 z2 HS; clear HC3 HYes h5 c0 c1 c2 c3 c4))
            generalize ((w5.setCell ⟨w.heap.size + 1 + 1 + 1, 1, none⟩ (.bool true)).setCell ⟨w.heap.size + 1 + 1 + 1, 2, none⟩ (.bool true)) = W2 at *
            have z0a : ∀ o, (W2.alloc o).cell? ⟨w.heap.size + 1 + 1 + 1, 0, none⟩ = some (.slice sa sn sc) := fun o => cell_alloc o z0
            go_region_with
              ((first | (go_at_call 62; refine (values_ok mb _).mono ?_; rintro e w6 ⟨rfl, rfl⟩) | (go_at_call 61; (first | refine (HS.out 1).mono ?_ | refine (HS.out 0).mono ?_ | refine (HS.out _).mono ?_); rintro e w8 ⟨a8, n8, c8, rfl, ⟨x8, f8⟩, h8⟩)))
            all_goals
              clear e0 e1 e2 e3 e4 y1 y2 y3 y4 y5 z0 z2 HS z0a x8 f8
              go_wp2
              exact ⟨⟨i + 1, by simp, by omega, h8⟩, by simp only [RowKit.intOf]; omega⟩
    · have hdec : decide ((i : Int) < fn) = false := by simp; omega
      obtain rfl : i = fn := by omega
      obtain ⟨ta, tn, tc, nd, wh, x0, HS⟩ := HFIN.out _ HM.out
      clear HR HFIN HM M0
      go_wp2_with (first
        | (go_at_call 63; refine HS.out.mono ?_; rintro e w1 ⟨rfl, x1, H1⟩; clear HS x0)
        | (go_at_call 64; refine H1.out.mono ?_; rintro e w2 ⟨va, vn, vc, rfl, ⟨x2, f2'⟩, W3, W4, hW3, hW4, ⟨u0, u3, uf⟩, H65, ⟨t0, t1, t2, t3⟩, HTH, HE⟩; subst hW4; subst hW3; clear H1 x1)
        | (go_at_call 65; refine H65.out.mono ?_; rintro e w4 ⟨rfl, h4⟩; subst h4; clear H65)
        | (refine wpList_store_mid rfl 69 (.tmp 6) (.tmp 72) rfl (w.heap.size + 1 + 1) 0 (aT va vn vc nd wh ST.tx) rfl rfl HTH.out (size4 ..) (one4 ..) ?_))
      obtain ⟨⟨rfl, rfl⟩, q1, q2⟩ := HE.out
      exact bodyPost_ret (v := .agg (aT va vn vc ST.nd ST.wh ST.tx)) (results_cell_row (p := 6) (ty := 69) Tryz.results40 _ _ (w.heap.size + 1 + 1) 69 _ (0, 0) _ rfl q1 Tryz.underlying69 rfl info69s) rfl ⟨va, vn, vc, rfl, q2⟩
end Go.Proofs.YtoahlnmhjinneaaGreatDoor
