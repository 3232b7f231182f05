import Derived.Deep.RegionLaw
import Derived.Deep.RegionHeld3
import Derived.BigRegion
import Derived.Test.YtbbocgeapofloaiGreatDoorAd
set_option linter.unusedVariables false
set_option linter.unusedSimpArgs false
namespace Go.Proofs.YtbbocgeapofloaiGreatDoor
open Go.RowKit Go.Maps

structure St.Small (st : St) : Prop where
  run : ∀ i, (st.run i).length ≤ 70368744177664
  told : st.told.length ≤ 1099511627776
  attrs : st.attrs.length ≤ 1099511627776
  names : st.names.length ≤ 1099511627776

variable {F : Nat → Prop} {R : Nat} {w : World} {s : Src} {p : Ptr} {st : St} {c : Int}

set_option maxHeartbeats 1000000 in
theorem remark_ok (h : Rep F R w s p st) (_hc : Leg c) :
    Calls Tryz.prog 73 #[.pointer (some ⟨R, 0, none⟩), .int .i32 c] w (PartEnd F R w s (stRemark s.at_ st c)) := by
  have hat := h.cell 2 rfl
  have H := hide h
  clear h
  by_cases h1 : c = 45
  · subst h1
    go_enter Tryz.func73, Tryz.ntmps73
    go_wp2
    go_ret2
    exact PartEnd.go0 H.out (Below.refl _ _)
  · have e1 : (c == 45) = false := by simpa using h1
    by_cases h2 : c < 0
    · rw [show stRemark s.at_ st c = ⟨st, .fail (Tk.why c) s.at_⟩ by simp [stRemark, h1, h2]]
      go_enter Tryz.func73, Tryz.ntmps73
      go_wp2_with (go_at_call 25; refine (refuse_tok R c s.at_ _ hat).mono ?_; rintro e w1 ⟨rfl, rfl⟩)
      go_ret2
      exact PartEnd.fail0 H.out (Below.refl _ _)
    · rw [show stRemark s.at_ st c = ⟨st, .go (.plain .remark)⟩ by simp [stRemark, h1, h2]]
      go_enter Tryz.func73, Tryz.ntmps73
      go_wp2
      go_ret2
      exact PartEnd.go0 H.out (Below.refl _ _)

set_option maxHeartbeats 1000000 in
theorem order_ok (h : Rep F R w s p st) (_hc : Leg c) :
    Calls Tryz.prog 71 #[.pointer (some ⟨R, 0, none⟩), .int .i32 c] w (PartEnd F R w s (stOrder s.at_ st c)) := by
  have hat := h.cell 2 rfl
  have H := hide h
  clear h
  by_cases h1 : c = 63
  · subst h1
    go_enter Tryz.func71, Tryz.ntmps71
    go_wp2
    go_ret2
    exact PartEnd.go0 H.out (Below.refl _ _)
  · have e1 : (c == 63) = false := by simpa using h1
    by_cases h2 : c < 0
    · rw [show stOrder s.at_ st c = ⟨st, .fail (Tk.why c) s.at_⟩ by simp [stOrder, h1, h2]]
      go_enter Tryz.func71, Tryz.ntmps71
      go_wp2_with (go_at_call 25; refine (refuse_tok R c s.at_ _ hat).mono ?_; rintro e w1 ⟨rfl, rfl⟩)
      go_ret2
      exact PartEnd.fail0 H.out (Below.refl _ _)
    · rw [show stOrder s.at_ st c = ⟨st, .go (.plain .order)⟩ by simp [stOrder, h1, h2]]
      go_enter Tryz.func71, Tryz.ntmps71
      go_wp2
      go_ret2
      exact PartEnd.go0 H.out (Below.refl _ _)

theorem PartEnd.two {o : Out} {e : Ending} {w' : World} (h : PartEnd F R w s o e w') : ∃ v1 v2, e = .returned (.tuple #[v1, v2]) := by
  obtain ⟨p', _, _, h⟩ := h
  cases hr : o.res with
  | go part => rw [hr] at h; obtain ⟨v, h, _⟩ := h; exact ⟨_, _, h⟩
  | stop => rw [hr] at h; exact ⟨_, _, h⟩
  | fail no q => rw [hr] at h; exact ⟨_, _, h⟩

set_option maxHeartbeats 1000000 in
theorem mark_ok (h : Rep F R w s p st) (hc : Leg c) :
    Calls Tryz.prog 92 #[.pointer (some ⟨R, 0, none⟩), .int .i32 c] w (PartEnd F R w s (step .mark s.at_ st c)) := by
  have hr := order_ok h hc
  have H := hide h
  clear h
  by_cases h1 : c = 62
  · subst h1
    go_enter Tryz.func92, Tryz.ntmps92
    go_wp2
    go_ret2
    exact PartEnd.go0 H.out (Below.refl _ _)
  · have e1 : (c == 62) = false := by simpa using h1
    rw [show step .mark s.at_ st c = stOrder s.at_ st c by simp [step, h1]]
    generalize stOrder s.at_ st c = o at *
    clear h1 hc
    go_enter Tryz.func92, Tryz.ntmps92
    go_wp2_with (go_at_call 71; refine hr.mono ?_)
    intro e w1 hP
    obtain ⟨v1, v2, rfl⟩ := hP.two
    go_wp2
    go_ret2
    exact hP

/-! wantWord -/
theorem wantWord_tok (t : ByteArray) (n : Nat) (w : World) (he : t.toList.isEmpty = false) :
    Calls Tryz.prog 72 #[.string t, .func (.func n) #[] #[]] w fun e w' => e = .returned (.func (.func 93) #[] #[ptrV w.heap.size, ptrV (w.heap.size + 1)]) ∧ w' = (w.alloc (.cells #[.string t] 9)).alloc (.cells #[.func (.func n) #[] #[]] 52) := by
  go_enter Tryz.func72, Tryz.ntmps72
  go_wp2
  go_ret
  exact ⟨rfl, rfl⟩
theorem wantWord_nil (t : ByteArray) (n : Nat) (w : World) (he : t.toList.isEmpty = true) :
    Calls Tryz.prog 72 #[.string t, .func (.func n) #[] #[]] w fun e w' => e = .returned (.func (.func n) #[] #[]) ∧ w' = (w.alloc (.cells #[.string t] 9)).alloc (.cells #[.func (.func n) #[] #[]] 52) := by
  go_enter Tryz.func72, Tryz.ntmps72
  go_wp2
  go_ret
  exact ⟨rfl, rfl⟩

theorem below_two (w : World) (o o' : Obj) : Below w.heap.size w ((w.alloc o).alloc o') := ((Below.refl _ w).alloc (Nat.le_refl _) o).alloc (by simp) o'

theorem PartEnd.word {l : List UInt8} {pl : Pl} (h : Rep F R w s p st) : PartEnd F R w s ⟨st, .go (.word l pl)⟩ (.returned (.tuple #[.func (.func 93) #[] #[ptrV w.heap.size, ptrV (w.heap.size + 1)], .nilIface])) ((w.alloc (.cells #[strV l] 9)).alloc (.cells #[pl.val] 52)) := by
  have hR := h.lt R h.inR
  refine ⟨p, h.below (below_two w _ _), Frame.below (below_two w _ _), _, rfl, w.heap.size, w.heap.size + 1, rfl, ⟨?_, Or.inr ⟨Nat.le_refl _, by simp; omega⟩, by omega⟩, ⟨?_, Or.inr ⟨by omega, by simp⟩, by omega⟩⟩
  · rw [Below.heap_alloc _ _ _ (by simp)]
    exact heap_alloc_new w _
  · have := heap_alloc_new (w.alloc (.cells #[strV l] 9)) (.cells #[pl.val] 52)
    simpa using this

set_option maxHeartbeats 1000000 in
theorem dash_ok (h : Rep F R w s p st) (hc : Leg c) :
    Calls Tryz.prog 94 #[.pointer (some ⟨R, 0, none⟩), .int .i32 c] w (PartEnd F R w s (step .dash s.at_ st c)) := by
  have hr := remark_ok h hc
  have H := hide h
  clear h
  by_cases h1 : c = 45
  · subst h1
    go_enter Tryz.func94, Tryz.ntmps94
    go_wp2_with (go_at_call 72; refine (wantWord_tok ⟨#[62]⟩ 15 _ (by decide +kernel)).mono ?_; rintro e w1 ⟨rfl, rfl⟩)
    go_ret2
    exact PartEnd.word (l := [62]) (pl := .between) H.out
  · have e1 : (c == 45) = false := by simpa using h1
    rw [show step .dash s.at_ st c = stRemark s.at_ st c by simp [step, h1]]
    generalize stRemark s.at_ st c = o at *
    clear h1 hc
    go_enter Tryz.func94, Tryz.ntmps94
    go_wp2_with (go_at_call 73; refine hr.mono ?_)
    intro e w1 hP
    obtain ⟨v1, v2, rfl⟩ := hP.two
    go_wp2
    go_ret2
    exact hP

set_option maxHeartbeats 1000000 in
theorem orderName_ok (h : Rep F R w s p st) (hc : Leg c) :
    Calls Tryz.prog 44 #[.pointer (some ⟨R, 0, none⟩), .int .i32 c] w (PartEnd F R w s (step .orderName s.at_ st c)) := by
  have hr := beginsName_tok c hc
  have hat := h.cell 2 rfl
  have hR := h.lt R h.inR
  have hst : step .orderName s.at_ st c = if Ch.begins c = true then ⟨st, .go (.plain .order)⟩ else ⟨st, .fail (Tk.why c) s.at_⟩ := rfl
  rw [hst]
  clear hst
  have H := hide h
  have HAT := hide hat
  have HR := hide hR
  clear h hc hat hR
  generalize Ch.begins c = b at *
  cases b
  · go_enter Tryz.func44, Tryz.ntmps44
    go_wp2_with (go_at_call 68; refine (hr _).mono ?_; rintro e w1 ⟨rfl, b1⟩)
    refine (refuse_tok R c s.at_ _ ((b1.cell HR.out).trans HAT.out)).mono ?_
    rintro e w2 ⟨rfl, rfl⟩
    go_wp2
    go_ret2
    exact PartEnd.fail0 H.out b1
  · go_enter Tryz.func44, Tryz.ntmps44
    go_wp2_with (first | (go_at_call 68; refine (hr _).mono ?_; rintro e w1 ⟨rfl, b1⟩))
    go_ret2
    exact PartEnd.go0 H.out b1
end Go.Proofs.YtbbocgeapofloaiGreatDoor
namespace Go.Proofs.YtbbocgeapofloaiGreatDoor
open Go.RowKit Go.Maps

/-- append onto a row of the reader's own, as one step of a region that draws its order. -/
theorem step_own_at {P : Program} {ops : Array Oper} {o : Oper} {a : Act} {w : World} {K : Act → World → Prop} {Q : Exit → Act → World → Prop} {E : Prop}
    (hg : o.guard = none) (s x : Operand) (t : TypeId) (hop : o.op = Op.call { callee := Callee.builtin Builtin.append, args := #[s, x], argTypes := #[t, t] })
    (e : TypeId) (i : TypeInfo) (z : Value) (size bytes : Nat) (h1 : P.underlying t = some (.slice e)) (h2 : P.info? e = some i) (h3 : i.zero = some z) (h4 : i.size = size) (h5 : i.bytes = bytes) (h6 : z.cells.size = size) (h7 : 0 < size)
    (v : Value) (n : Nat) (xs : List Value) (hs : a.eval s = v) (hown : w.ownsRow 0 e size v n xs)
    (ad : Addr) (m c : Nat) (news : List Value) (hx : a.eval x = .slice (some ad) m c) (hn : news.length = m * size) (hc : ∀ j u, news[j]? = some u → w.cell? (ad.add j) = some u) (h1c : ∀ u ∈ news, u.oneCell' = true)
    (b1 : n + m ≤ maxLen) (b2 : (n + m) * bytes ≤ 140737488355328)
    (hK : ∀ v' w', w'.ownsRow 0 e size v' (n + m) (xs ++ news) → w.grownBy w' v.ownBlock → (v'.ownBlock = v.ownBlock ∨ v'.ownBlock = some w.heap.size) → K (a.put o.dst v') w') :
    if Region.wanted o (yielded ops a.tmps) = true then Oper.wp P o a w K Q else E := by
  have hw : Region.wanted o (yielded ops a.tmps) = true := by simp [Region.wanted, hg]
  rw [if_pos hw]
  obtain ⟨v', w', hrun, r1, r2, _, r4⟩ := run_append_own_at (P := P) w 0 t o.type e i z size bytes h1 h2 h3 h4 h5 h6 h7 v n xs hown ad m c news hn hc h1c b1 b2 (Nat.zero_le _)
  unfold Oper.wp
  simp [execOp, hop, resolve, invoke, builtin, hs, hx, hrun, Result.andThen]
  exact hK v' w' r1 r2 r4

theorem info49 : (Tryz.prog.info? 33).map (fun i => (i.zero, i.size, i.bytes)) = some (some (.agg #[.int .i64 0, .string ⟨#[]⟩, .slice none 0 0, .string ⟨#[]⟩, .int .i64 0]), 5, 72) := by kernel_rfl
theorem info52 : (Tryz.prog.info? 48).map (fun i => (i.zero, i.size, i.bytes)) = some (some (.agg #[.string ⟨#[]⟩, .string ⟨#[]⟩]), 2, 32) := by kernel_rfl

theorem conv_own {w : World} {v : Value} {l : List UInt8} (h : w.ownsRow 0 5 1 v l.length (Lib.byteCells l)) : (convert 53 9 v).run Tryz.prog w = .ok (strV l) w := by
  rcases h.2 with ⟨rfl, hn⟩ | ⟨g, cap, cur, rfl, _, hg, hc, _, hcs, ht⟩
  · obtain rfl : l = [] := List.eq_nil_of_length_eq_zero hn
    exact run_convert_bytes_nil w 53 5 Tryz.underlying53 Tryz.underlying5 0 0 9 Tryz.underlying9
  · have hx : strOfNums (l.map fun b => (b.toNat : Int)) = ⟨l.toArray⟩ := by
      unfold strOfNums
      congr 2
      rw [List.map_map]
      conv => rhs; rw [← List.map_id l]
      apply List.map_congr_left
      intro b _
      simp
    have := run_convert_bytes_arg (P := Tryz.prog) w 53 5 Tryz.underlying53 Tryz.underlying5 g 0 l.length cap (l.map fun b => (b.toNat : Int)) (by simp) ?_ 9 Tryz.underlying9
    · rw [this, hx]; rfl
    · intro i hi
      rw [Nat.zero_add, cell_of hg (v := .int .u8 ((l.map fun b => (b.toNat : Int)).getD i 0)) ?_]
      rw [← Array.getElem?_toList]
      have h1 : (cur.toList.take (l.length * 1))[i]? = cur.toList[i]? := by rw [List.getElem?_take, if_pos (by omega)]
      rw [← h1, ht]
      simp [Lib.byteCells, hi]

theorem tok_news (w : World) (t : Tok) (v : Value) : ∀ j u, (tokCells t v)[j]? = some u → (w.alloc (.cells (tokCells t v).toArray 33)).cell? ((⟨w.heap.size, 0, none⟩ : Addr).add j) = some u := by
  intro j u hu
  rw [Addr.add_lit, Nat.zero_add, cell_of (heap_alloc_new w _) (v := u)]
  rw [List.getElem?_toArray]; exact hu
theorem tok_one (t : Tok) (v : Value) (hv : v.oneCell' = true) : ∀ u ∈ tokCells t v, u.oneCell' = true := by
  intro u hu
  simp only [tokCells, List.mem_cons, List.not_mem_nil, or_false] at hu
  rcases hu with rfl | rfl | rfl | rfl | rfl
  · rfl
  · rfl
  · exact hv
  · rfl
  · rfl
theorem grown_blk {w w1 : World} {R : Nat} {o ob : Obj} {row : Option Nat} (hb : w.heap[R]? = some ob) (hR : row ≠ some R) (hg : (w.drew.alloc o).grownBy w1 row) : w1.heap[R]? = some ob := by
  have hlt : R < w.heap.size := (Array.getElem?_eq_some_iff.1 hb).1
  rw [hg.block R (by simp; omega) (fun e => hR e.symm)]
  exact (Below.heap_alloc w.drew o R hlt).trans hb

variable {F : Nat → Prop} {R : Nat} {w : World} {s : Src} {p : Ptr} {st : St} {c : Int}

/-- What a region that tells a token reads, and what it keeps. -/
theorem own_grown {w w1 : World} {e : TypeId} {sz : Nat} {v tv : Value} {n m : Nat} {xs ys : List Value} {ty : TypeId} {sy : Nat} (h : w.ownsRow 0 e sz v n xs) (ht : w.ownsRow 0 ty sy tv m ys) (hne : e ≠ ty) (hg : w.grownBy w1 tv.ownBlock) : w1.ownsRow 0 e sz v n xs :=
  owns_of h fun k hk => by
    obtain ⟨c, hc⟩ := owns_blk h hk
    exact hg.block k (Array.getElem?_eq_some_iff.1 hc).1 (fun x => tag_ne h ht hne hk x.symm)

def TT (R : Nat) (ao : Option Addr) (n cap : Nat) (q : Int) (l : List UInt8) (W : World) : Prop :=
  W.cell? ⟨R, 6, none⟩ = some (.slice ao n cap) ∧ W.cell? ⟨R, 7, none⟩ = some (.int .i64 q) ∧ W.ownsRow 0 5 1 (.slice ao n cap) l.length (Lib.byteCells l)
theorem cell_alloc {w : World} {a : Addr} {v : Value} (o : Obj) (h : w.cell? a = some v) : (w.alloc o).cell? a = some v :=
  (World.cell?_of_block (Below.heap_alloc w o a.block (World.block_lt_of_cell? w a h))).trans h
theorem cell_set5 {w : World} {R i : Nat} {v : Value} (u : Value) (h : w.cell? ⟨R, i, none⟩ = some v) (hi : i ≠ 5) : (w.setCell ⟨R, 5, none⟩ u).cell? ⟨R, i, none⟩ = some v := by
  rw [World.cell?_setCell_other]
  · exact h
  · simp [hi]
theorem tt_alloc {R : Nat} {ao : Option Addr} {n cap : Nat} {q : Int} {l : List UInt8} {W : World} (_hR : R < W.heap.size) (h : TT R ao n cap q l W) (o : Obj) : TT R ao n cap q l (W.alloc o) :=
  ⟨cell_alloc o h.1, cell_alloc o h.2.1, h.2.2.alloc o⟩
theorem tt_set {R : Nat} {ao : Option Addr} {n cap : Nat} {q : Int} {l : List UInt8} {W : World} (hR : (Value.slice ao n cap).ownBlock ≠ some R) (h : TT R ao n cap q l W) (u : Value) : TT R ao n cap q l (W.setCell ⟨R, 5, none⟩ u) :=
  ⟨cell_set5 u h.1 (by decide), cell_set5 u h.2.1 (by decide), owns_setCell h.2.2 _ _ hR⟩

set_option maxHeartbeats 4000000 in
set_option maxRecDepth 100000 in
theorem tellText_walk (R : Nat) (cs : Array Value) (ao : Option Addr) (n cap : Nat) (q : Int) (tv : Value) (m : Nat) (xs : List Value) (l : List UInt8) (w : World)
    (hb : w.heap[R]? = some (.cells cs 62 (0, 0))) (h5 : cs[5]? = some tv) (h6 : cs[6]? = some (.slice ao n cap)) (h7 : cs[7]? = some (.int .i64 q))
    (hn : 0 < n) (hl : w.ownsRow 0 5 1 (.slice ao n cap) l.length (Lib.byteCells l)) (ht : w.ownsRow 0 33 5 tv m xs) (hm : m ≤ 1099511627790) (hR : tv.ownBlock ≠ some R) (hR2 : (Value.slice ao n cap).ownBlock ≠ some R) :
    Calls Tryz.prog 24 #[.pointer (some ⟨R, 0, none⟩)] w fun e w' => e = .returned (.tuple #[]) ∧ ∃ v' w1 o, (w.drew.alloc o).grownBy w1 tv.ownBlock ∧ w1.ownsRow 0 33 5 v' (m + 1) (xs ++ tokCells ⟨3, [], [], l, q⟩ (.slice none 0 0)) ∧ (v'.ownBlock = tv.ownBlock ∨ v'.ownBlock = some (w.heap.size + 1)) ∧
      w' = ((w1.setCell ⟨R, 5, none⟩ v').setCell ⟨R, 6, none⟩ (.slice none 0 0)).setCell ⟨R, 7, none⟩ (.int .i64 0) := by
  obtain ⟨ti, tc, rfl⟩ := slice_len ht
  obtain ⟨i0, hi, hz0, hz1, hz2⟩ := info_parts info49
  have hcv : ∀ W : World, W.ownsRow 0 5 1 (.slice ao n cap) l.length (Lib.byteCells l) → (convert 53 9 (.slice ao n cap)).run Tryz.prog W = .ok (.string ⟨l.toArray⟩) W := fun W h => conv_own h
  have c5 := cell_of hb h5
  have c6 := cell_of hb h6
  have c7 := cell_of hb h7
  have hz : ((n : Int) == 0) = false := by
    have : (n : Int) ≠ 0 := by omega
    simpa using this
  have hlt : R < w.heap.size := (Array.getElem?_eq_some_iff.1 hb).1
  have HT := hide ht
  clear ht
  have HB := hide hb
  have H6 := hide h6
  have H5 := hide h5
  have H7 := hide h7
  have HL := hide hl
  clear hb h5 h6 h7 hl
  have T0 : Hid (TT R ao n cap q l w.drew) := ⟨c6, c7, HL.out.drew⟩
  have T1 : Hid (∀ o, TT R ao n cap q l (w.drew.alloc o)) := fun o => tt_alloc hlt T0.out o
  have hcv1 := hcv w.drew HL.out.drew
  go_enter Tryz.func24, Tryz.ntmps24
  go_wp2_with fail
  go_region_law
    (first | (
      refine step_own_at rfl (.tmp 13) (.tmp 26) 22 rfl 33 i0 _ 5 72 Tryz.underlying22 hi hz0 hz1 hz2 rfl (by decide) (.slice ti m tc) m xs (by simp [Act.eval, Act.put]) (HT.out.drew.alloc _) ⟨w.heap.size, 0, none⟩ 1 1 (tokCells ⟨3, [], [], l, q⟩ (.slice none 0 0)) (by simp [Act.eval, Act.put]) rfl (tok_news _ _ _) (tok_one _ _ rfl) (by unfold maxLen; omega) (by omega) ?_
      intro v' w1 ho hg hat
      obtain ⟨ao', cap', rfl⟩ := slice_len ho
      have hb1 := grown_blk HB.out hR hg
      have c5' := cell_of hb1 H5.out
      have c6' := cell_of hb1 H6.out
      have c7' := cell_of hb1 H7.out
      have f5' := free_of (i := 5) hb1
      have f6' := free_of (i := 6) hb1
      have f7' := free_of (i := 7) hb1
      have T2 : Hid (TT R ao n cap q l w1) := ⟨c6', c7', own_grown (HL.out.drew.alloc _) (HT.out.drew.alloc _) (by decide) hg⟩
      have T3 : Hid (∀ v, TT R ao n cap q l (w1.setCell ⟨R, 5, none⟩ v)) := fun v => tt_set hR2 T2.out v
      have HO := hide ho
      have HG := hide hg
      have HA := hide hat
      clear ho hg hat hb1))
  all_goals
    go_wp2
    go_end0
    exact ⟨rfl, _, w1, _, HG.out, HO.out, by simpa using HA.out, rfl⟩
end Go.Proofs.YtbbocgeapofloaiGreatDoor
namespace Go.Proofs.YtbbocgeapofloaiGreatDoor
open Go.RowKit Go.Maps

variable {F : Nat → Prop} {R : Nat} {w w' : World} {s : Src} {p : Ptr} {st : St} {c : Int}

theorem owns_nil (w : World) (e : TypeId) (sz : Nat) : w.ownsRow 0 e sz (.slice none 0 0) 0 [] := World.ownsRow_nil w 0 e sz
theorem nil_block (k : Nat) : (Value.slice none 0 0).ownBlock ≠ some k := by simp [Value.ownBlock]

theorem Kept.refl (R : Nat) (row : Option Nat) (w : World) : Kept R row w w := ⟨rfl, rfl, rfl, Nat.le_refl _, fun _ _ _ _ => rfl⟩

theorem Grow.self {F : Nat → Prop} {w w' : World} (k : Nat) (h : Grow (Grow F w w') w' w' k) : Grow F w w' k := h.elim id fun x => by omega
theorem Grow.base {F : Nat → Prop} {w : World} (k : Nat) (h : Grow F w w k) : F k := h.elim id fun x => by omega

/-- A run is let go of. -/
theorem Own.clear (h : Own F R w p st) (hlt : ∀ k, F k → k < w.heap.size) (hR : F R) (i : Rn) : Own F R w (p.setRun i (.slice none 0 0)) (st.clear i) :=
  (h.turn hlt hR i (.slice none 0 0) [] 0 (Kept.refl _ _ _) (owns_nil w 5 1) (Or.inr fun k e => absurd e (nil_block k))).frame (fun _ _ _ => rfl) Grow.base

/-- A token more. -/
theorem Own.tell (h : Own F R w p st) (hlt : ∀ k, F k → k < w.heap.size) (hR : F R) {cs : List Value} (hc : w.ownsRow 0 33 5 p.told st.told.length cs) (hT : Toks F R w p.attrs st.told cs)
    (hK : Kept R p.told.ownBlock w w') (v : Value) (t : Tok) (ht : t.attrs = []) (ho : w'.ownsRow 0 33 5 v (st.told.length + 1) (cs ++ tokCells t (.slice none 0 0))) (hat : v.ownBlock = p.told.ownBlock ∨ ∀ k, v.ownBlock = some k → w.heap.size ≤ k) :
    Own (Grow F w w') R w' { p with told := v } { st with told := st.told ++ [t] } := by
  have keep : ∀ k, F k → k ≠ R → p.told.ownBlock ≠ some k → w'.heap[k]? = w.heap[k]? := fun k a b c => hK.block k (hlt k a) b (fun e => c e.symm)
  refine ⟨fun i => owns_of (h.run i) fun k e => keep k (h.runF i k e).1 (h.runF i k e).2 (tag_ne (h.run i) hc (by decide) e), fun i k e => ⟨Or.inl (h.runF i k e).1, (h.runF i k e).2⟩, h.apart, ⟨_, by rw [List.length_append]; exact ho, ?_⟩, ?_,
    owns_of h.attrs fun k e => keep k (h.attrsF k e).1 (h.attrsF k e).2 (tag_ne h.attrs hc (by decide) e), fun k e => ⟨Or.inl (h.attrsF k e).1, (h.attrsF k e).2⟩, ?_⟩
  · refine (hT.frame fun k n xs v' ho' hv a b c => ⟨keep k a b (tag_ne ho' hc (by decide) hv), Or.inl a, c⟩).app ?_
    have := Toks.cons (F := Grow F w w') (R := R) (w := w') (av := p.attrs) t (.slice none 0 0) [] [] (by rw [ht]; exact owns_nil w' 48 2) (fun k e => absurd e (nil_block k)) .nil
    rw [List.append_nil] at this
    exact this
  · intro k e
    rcases hat with e2 | e2
    · rw [e2] at e; exact ⟨Or.inl (h.toldF k e).1, (h.toldF k e).2⟩
    · have h1 := e2 k e
      have h2 := hlt R hR
      obtain ⟨c, hc⟩ := owns_blk ho e
      exact ⟨Or.inr ⟨h1, (Array.getElem?_eq_some_iff.1 hc).1⟩, by omega⟩
  · rcases h.names with hn | ⟨b, h1, h2, h3, h4⟩
    · exact Or.inl hn
    · exact Or.inr ⟨b, h1, Or.inl h2, h3, map_of h4 (keep b h2 h3 (map_ne hc h4))⟩

/-- An opening tag: the attributes are its own from now on. -/
theorem Own.tellOpen (h : Own F R w p st) (hlt : ∀ k, F k → k < w.heap.size) (hR : F R) {cs : List Value} (hc : w.ownsRow 0 33 5 p.told st.told.length cs) (hT : Toks F R w p.attrs st.told cs)
    (hK : Kept R p.told.ownBlock w w') (v : Value) (t : Tok) (ht : t.attrs = st.attrs) (ho : w'.ownsRow 0 33 5 v (st.told.length + 1) (cs ++ tokCells t p.attrs)) (hat : v.ownBlock = p.told.ownBlock ∨ ∀ k, v.ownBlock = some k → w.heap.size ≤ k) :
    Own (Grow F w w') R w' { p with told := v, attrs := .slice none 0 0, names := .map none } { st with told := st.told ++ [t], attrs := [], names := [] } := by
  have keep : ∀ k, F k → k ≠ R → p.told.ownBlock ≠ some k → w'.heap[k]? = w.heap[k]? := fun k a b c => hK.block k (hlt k a) b (fun e => c e.symm)
  refine ⟨fun i => owns_of (h.run i) fun k e => keep k (h.runF i k e).1 (h.runF i k e).2 (tag_ne (h.run i) hc (by decide) e), fun i k e => ⟨Or.inl (h.runF i k e).1, (h.runF i k e).2⟩, h.apart, ⟨_, by rw [List.length_append]; exact ho, ?_⟩, ?_,
    owns_nil w' 48 2, fun k e => absurd e (nil_block k), Or.inl ⟨rfl, rfl⟩⟩
  · refine (hT.frame fun k n xs v' ho' hv a b c => ⟨keep k a b (tag_ne ho' hc (by decide) hv), Or.inl a, nil_block k⟩).app ?_
    have := Toks.cons (F := Grow F w w') (R := R) (w := w') (av := .slice none 0 0) t p.attrs [] [] (by rw [ht]; exact owns_of h.attrs fun k e => keep k (h.attrsF k e).1 (h.attrsF k e).2 (tag_ne h.attrs hc (by decide) e)) (fun k e => ⟨Or.inl (h.attrsF k e).1, (h.attrsF k e).2, nil_block k⟩) .nil
    rw [List.append_nil] at this
    exact this
  · intro k e
    rcases hat with e2 | e2
    · rw [e2] at e; exact ⟨Or.inl (h.toldF k e).1, (h.toldF k e).2⟩
    · have h1 := e2 k e
      have h2 := hlt R hR
      obtain ⟨c, hc⟩ := owns_blk ho e
      exact ⟨Or.inr ⟨h1, (Array.getElem?_eq_some_iff.1 hc).1⟩, by omega⟩

/-- Behind an append to a row and stores into R's block. -/
theorem kept_of {w1 : World} {row : Option Nat} {o : Obj} (hg : (w.drew.alloc o).grownBy w1 row) (hs : w'.heap.size = w1.heap.size) (hk : ∀ k, k ≠ R → w'.heap[k]? = w1.heap[k]?) (h1 : w'.os = w1.os) (h2 : w'.tape = w1.tape) (h3 : w'.output = w1.output) : Kept R row w w' := by
  have hz := hg.size
  simp at hz
  refine ⟨h1.trans hg.os, h2.trans hg.tape, h3.trans hg.output, by omega, ?_⟩
  intro k hl hR hr
  rw [hk k hR, hg.block k (by simp; omega) hr]
  exact Below.heap_alloc w.drew o k hl

theorem Kept.frame (h : Kept R p.told.ownBlock w w') (ho : Own F R w p st) (hR : F R) : Frame F w w' :=
  ⟨h.os, h.tape, h.output, h.size, fun k hl hf => h.block k hl (fun e => hf (e ▸ hR)) (fun e => hf (ho.toldF k e.symm).1)⟩

theorem heap3 (w1 : World) (i j k : Nat) (a b c : Value) : (∀ x, x ≠ R → (((w1.setCell ⟨R, i, none⟩ a).setCell ⟨R, j, none⟩ b).setCell ⟨R, k, none⟩ c).heap[x]? = w1.heap[x]?) ∧ (((w1.setCell ⟨R, i, none⟩ a).setCell ⟨R, j, none⟩ b).setCell ⟨R, k, none⟩ c).heap.size = w1.heap.size := by
  constructor
  · intro x hx
    rw [Below.heap_setCell _ _ _ _ hx, Below.heap_setCell _ _ _ _ hx, Below.heap_setCell _ _ _ _ hx]
  · simp [World.setCell]

theorem told_lt (h : Own F R w p st) (hlt : ∀ k, F k → k < w.heap.size) : ∀ k, p.told.ownBlock = some k → k < w.heap.size := fun k e => hlt k (h.toldF k e).1

theorem told_ne (h : Own F R w p st) (hR : R < w.heap.size) {v : Value} (hat : v.ownBlock = p.told.ownBlock ∨ v.ownBlock = some (w.heap.size + 1)) : ∀ k, v.ownBlock = some k → k ≠ R := by
  intro k e
  rcases hat with e2 | e2
  · rw [e2] at e; exact (h.toldF k e).2
  · rw [e2] at e; cases e; omega
theorem told_at {v : Value} (hat : v.ownBlock = p.told.ownBlock ∨ v.ownBlock = some (w.heap.size + 1)) : v.ownBlock = p.told.ownBlock ∨ ∀ k, v.ownBlock = some k → w.heap.size ≤ k := by
  rcases hat with e2 | e2
  · exact Or.inl e2
  · exact Or.inr fun k e => by rw [e2] at e; cases e; omega
theorem grow_lt (h : ∀ k, F k → k < w.heap.size) (hs : w.heap.size ≤ w'.heap.size) : ∀ k, Grow F w w' k → k < w'.heap.size := fun k hk => hk.elim (fun x => Nat.lt_of_lt_of_le (h k x) hs) (fun x => x.2)

/-- tellText. -/
theorem tellText_rep (h : Rep F R w s p st) (hs : st.told.length ≤ 1099511627790) :
    Calls Tryz.prog 24 #[.pointer (some ⟨R, 0, none⟩)] w fun e w' => e = .returned (.tuple #[]) ∧ ∃ p', Rep (Grow F w w') R w' s p' st.tellText ∧ Frame F w w' ∧ p'.run .name = p.run .name ∧ p'.attrs = p.attrs := by
  have hlen := h.own.run .text
  obtain ⟨ao, cap, hv⟩ := slice_len hlen
  by_cases hn : (st.run .text).length = 0
  · have hst : st.tellText = st := by simp [St.tellText, hn]
    rw [hst]
    have c6 : w.cell? ⟨R, 6, none⟩ = some (p.run .text) := h.cell 6 rfl
    rw [hv, hn] at c6
    have H := hide h
    clear h hlen hst hn hv hs
    go_enter Tryz.func24, Tryz.ntmps24
    go_wp2
    (try simp only [Exit.inBlock, Exit.then])
    refine bodyPost_ret (results_none rfl _ _ _) rfl ?_
    exact ⟨rfl, p, H.out.grow0, Frame.refl _ _, rfl, rfl⟩
  · have hst : st.tellText = St.clear { st with told := st.told ++ [⟨3, [], [], st.run .text, st.runAt .text⟩] } .text := by simp [St.tellText, hn]
    rw [hst]
    obtain ⟨cs, hc, hT⟩ := h.own.told
    have hR := h.lt R h.inR
    refine (tellText_walk R (cellsOf s p st) ao (st.run .text).length cap (st.runAt .text) p.told st.told.length cs (st.run .text) w h.blk rfl (by rw [← hv]; rfl) rfl (by omega) (by rw [← hv]; exact hlen) hc hs (fun e => (h.own.toldF R e).2 rfl) (by rw [← hv]; exact fun e => (h.own.runF .text R e).2 rfl)).mono ?_
    rintro e w' ⟨rfl, v', w1, o, hg, ho, hat, rfl⟩
    obtain ⟨hk, hsz⟩ := heap3 (R := R) w1 5 6 7 v' (.slice none 0 0) (.int .i64 0)
    have hb1 := grown_blk h.blk (fun e => (h.own.toldF R e).2 rfl) hg
    have hb := set_of (i := 7) (set_of (i := 6) (set_of (i := 5) hb1 v') (.slice none 0 0)) (.int .i64 0)
    have hK : Kept R p.told.ownBlock w _ := kept_of (R := R) hg hsz hk rfl rfl rfl
    have hne : ∀ k, v'.ownBlock = some k → k ≠ R := told_ne h.own hR hat
    generalize ((w1.setCell ⟨R, 5, none⟩ v').setCell ⟨R, 6, none⟩ (.slice none 0 0)).setCell ⟨R, 7, none⟩ (.int .i64 0) = w' at *
    have o1 := h.own.tell h.lt h.inR hc hT hK v' ⟨3, [], [], st.run .text, st.runAt .text⟩ rfl (owns_of ho fun k e => hk k (hne k e)) (told_at hat)
    have hlt' : ∀ k, Grow F w w' k → k < w'.heap.size := grow_lt h.lt hK.size
    refine ⟨rfl, _, ⟨?_, Or.inl h.inR, hlt', o1.clear hlt' (Or.inl h.inR) .text⟩, hK.frame h.own h.inR, rfl, rfl⟩
    rw [hb]
    rfl
end Go.Proofs.YtbbocgeapofloaiGreatDoor
