import Derived.Shelf.Strings.BuilderK
import Derived.Deep.RegionHeld3
import Derived.Test.YtoahlnmhjinneaaGreatDoorGad
import Derived.Test.YtoahlnmhjinneaaGreatDoorGaq
set_option linter.unusedVariables false
set_option linter.unusedSimpArgs false
set_option linter.unusedSimpArgs false
set_option linter.unusedVariables false
namespace Go.Proofs.YtoahlnmhjinneaaGreatDoor
open Go.RowKit Go.Maps Go.Lib
variable {w w' w1 W : World} {b : Nat} {o : L}

theorem infoW : ∃ j, Tryz.prog.info? 118 = some j ∧ j.size = 2 := Option.map_eq_some_iff.1 (by kernel_rfl : (Tryz.prog.info? 118).map (·.size) = some 2)
theorem infoB : (Tryz.prog.info? 5).map (fun i => (i.zero, i.size, i.bytes)) = some (some (.int .u8 0), 1, 1) := by kernel_rfl
theorem liesW : liesAt Tryz.prog Tryz.prog.depth 118 (2 / Tryz.prog.cellsOf 118) 0 118 1 = true := by kernel_rfl
set_option maxHeartbeats 1000000 in
set_option maxRecDepth 100000 in
theorem copy_used (b : Nat) (w : World) (c0 : w.cell? ⟨b, 0, none⟩ = some (.pointer (some ⟨b, 0, none⟩))) :
    Calls Tryz.prog 75 #[.pointer (some ⟨b, 0, none⟩)] w fun e w' => e = .returned (.tuple #[]) ∧ w' = w := by
  obtain ⟨j, hj, _⟩ := infoW
  go_enter Tryz.func75, Tryz.ntmps75
  go_wp2
  rw [Lib.run_neq_ptr_same w _ Tryz.underlying115 hj]
  go_wp2
  go_end0
  exact ⟨rfl, rfl⟩
set_option maxHeartbeats 1000000 in
set_option maxRecDepth 100000 in
theorem copy_fresh (b : Nat) (w : World) (c0 : w.cell? ⟨b, 0, none⟩ = some (.pointer none)) (hsh : w.shape? b = some (118, 2)) (f0 : w.frozen? ⟨b, 0, none⟩ = false) :
    Calls Tryz.prog 75 #[.pointer (some ⟨b, 0, none⟩)] w fun e w' => e = .returned (.tuple #[]) ∧ w' = w.setCell ⟨b, 0, none⟩ (.pointer (some ⟨b, 0, none⟩)) := by
  obtain ⟨j, hj, hjs⟩ := infoW
  go_enter Tryz.func75, Tryz.ntmps75
  go_wp2
  rw [Lib.run_to_unsafe w ⟨b, 0, none⟩ Tryz.underlying115 Tryz.underlying161 hj (by rw [hjs]; decide) hsh (show 0 < 2 by decide)]
  simp only [Result.andThen]
  rw [Oper.upon_value]
  go_wp2
  rw [run_callFunc_extern Tryz.func95 (by kernel_rfl) (by kernel_rfl) (by kernel_rfl) (e := Extern.AbiNoEscape.same) (by kernel_rfl)]
  rw [Lib.run_noEscape]
  simp only [Result.andThen]
  rw [Oper.upon_value]
  go_wp2
  rw [Lib.run_from_unsafe w ⟨b, 0, none⟩ Tryz.underlying161 Tryz.underlying115 hj hsh liesW]
  simp only [Result.andThen]
  rw [Oper.upon_value]
  go_wp2
  go_end0
  exact ⟨rfl, rfl⟩
structure Wr (b : Nat) (w w' : World) : Prop where
  below : Below b w w'
  keep : ∀ k o, w.heap[k]? = some o → k ≠ b → (∀ c fz, o ≠ .cells c 5 fz) → w'.heap[k]? = some o
theorem Wr.refl (b : Nat) (w : World) : Wr b w w := ⟨Below.refl b w, fun _ _ h _ _ => h⟩
theorem Wr.trans {w'' : World} (h : Wr b w w') (h' : Wr b w' w'') : Wr b w w'' := ⟨h.below.trans h'.below, fun k o e n c => h'.keep k o (h.keep k o e n c) n c⟩
theorem Wr.past (hb : b ≤ w.heap.size) (h : Below w.heap.size w w') : Wr b w w' := ⟨⟨h.os, h.tape, h.output, h.size, fun k hk => h.block k (by omega)⟩, fun k o e _ _ => by rw [h.block k (blk_lt e)]; exact e⟩
structure WB (b : Nat) (o : L) (w : World) : Prop where
  ex : ∃ p v, (p = .pointer none ∨ p = .pointer (some ⟨b, 0, none⟩)) ∧ w.heap[b]? = some (.cells #[p, v] 118 (0, 0)) ∧ w.ownsRowF b 5 1 v o.length (Lib.byteCells o) ∧ v.ownBlock ≠ some b
theorem wcells {p v : Value} (hbk : w.heap[b]? = some (.cells #[p, v] 118 (0, 0))) : w.cell? ⟨b, 0, none⟩ = some p ∧ w.cell? ⟨b, 1, none⟩ = some v ∧ w.frozen? ⟨b, 0, none⟩ = false ∧ w.frozen? ⟨b, 1, none⟩ = false ∧ w.shape? b = some (118, 2) ∧ b < w.heap.size :=
  ⟨cell_of hbk rfl, cell_of hbk rfl, free_of hbk, free_of hbk, by simp [World.shape?, hbk], blk_lt hbk⟩
theorem WB.lt (h : WB b o w) : b < w.heap.size := by obtain ⟨p, v, _, hbk, _⟩ := h.ex; exact blk_lt hbk
theorem wcopy_ok (h : WB b o w) : Calls Tryz.prog 75 #[.pointer (some ⟨b, 0, none⟩)] w fun e w' => e = .returned (.tuple #[]) ∧ ∃ v, w'.heap[b]? = some (.cells #[.pointer (some ⟨b, 0, none⟩), v] 118 (0, 0)) ∧ w'.ownsRowF b 5 1 v o.length (Lib.byteCells o) ∧ v.ownBlock ≠ some b ∧ Wr b w w' := by
  obtain ⟨p, v, hp, hbk, hown, hne⟩ := h.ex
  obtain ⟨c0, c1, f0, f1, hsh, hlt⟩ := wcells hbk
  rcases hp with rfl | rfl
  · refine (copy_fresh b w c0 hsh f0).mono ?_
    rintro e w' ⟨rfl, rfl⟩
    refine ⟨rfl, v, ?_, ?_, hne, (Below.refl b w).setCell (p := ⟨b, 0, none⟩) (Nat.le_refl _) _, fun k o e n _ => by rw [Below.heap_setCell _ _ _ _ n]; exact e⟩
    · rw [set_of hbk]; rfl
    · refine hown.kept (row := some b) ⟨rfl, rfl, rfl, by simp [World.setCell], fun k _ hk => Below.heap_setCell _ _ _ _ (fun e => hk (by rw [e]))⟩ ?_
      exact Or.inr hne
  · refine (copy_used b w c0).mono ?_
    rintro e w' ⟨rfl, rfl⟩
    exact ⟨rfl, v, hbk, hown, hne, Wr.refl _ _⟩
set_option maxHeartbeats 2000000 in
set_option maxRecDepth 100000 in
theorem write_ok (h : WB b o w) (s : ByteArray) (hlen : o.length + s.size ≤ 140737488355328) :
    Calls Tryz.prog 49 #[.pointer (some ⟨b, 0, none⟩), .string s] w fun e w' => e = .returned (.tuple #[.int .i64 s.size, .nilIface]) ∧ WB b (o ++ s.data.toList) w' ∧ Wr b w w' := by
  obtain ⟨i0, hi, hz0, hz1, hz2⟩ := info_parts infoB
  have hcc := wcopy_ok h
  clear h
  go_enter Tryz.func49, Tryz.ntmps49
  go_wp2_with (go_at_call 75; refine hcc.mono ?_)
  rintro e w1 ⟨rfl, v, hbk, hown, hne, hb1⟩
  obtain ⟨c0, c1, f0, f1, _, hlt⟩ := wcells hbk
  go_wp2_with (at_builtin; refine Lib.wpList_append_own_stringF _ rfl _ _ 116 9 rfl b 5 i0 Tryz.underlying116 Tryz.underlying9 hi hz0 hz1 hz2 _ _ _ rfl hown s rfl ?c3 ?c4 ?c5 ?_)
  case c3 => unfold maxLen; omega
  case c4 => omega
  case c5 => omega
  intro v' w2 hown' hgrow _
  have hb2 : w2.heap[b]? = some (.cells #[.pointer (some ⟨b, 0, none⟩), v] 118 (0, 0)) := by
    rw [hgrow.block b hlt (fun e => hne e.symm)]; exact hbk
  obtain ⟨d0, d1, g0, g1, _, _⟩ := wcells hb2
  have hne' : v'.ownBlock ≠ some b := by
    intro e
    rcases hown'.2 with ⟨hv, _⟩ | ⟨g, cap, cur, fz, hv, _, hgg, _⟩
    · rw [hv] at e; cases e
    · rw [hv] at e
      have eg : g = b := by simpa [Value.ownBlock] using e
      rw [eg, hb2] at hgg
      simp at hgg
  obtain ⟨ao, n', cap, rfl⟩ : ∃ ao n' cap, v' = .slice ao n' cap := by
    rcases hown'.2 with ⟨hv, _⟩ | ⟨g, cap, cur, fz, hv, _⟩ <;> exact ⟨_, _, _, hv⟩
  have hcells : Lib.byteCells o ++ Lib.strCells s = Lib.byteCells (o ++ s.data.toList) := by
    simp [Lib.byteCells, Lib.strCells]
  have hblk : Wr b w w2 := ⟨hb1.below.grown hgrow (Nat.le_of_lt hlt) (fun k hk => (hown.lt k hk).1), fun k o e n c => by
    have e1 := hb1.keep k o e n c
    rw [hgrow.block k (blk_lt e1) ?_]
    · exact e1
    · intro hk
      rcases hown.2 with ⟨hv, _⟩ | ⟨g, cap, cur, fz, hv, _, hgg, _⟩
      · rw [hv] at hk; cases hk
      · rw [hv] at hk
        have eg : k = g := by simpa [Value.ownBlock] using hk
        rw [eg, hgg] at e1
        exact c cur fz (Option.some.inj e1).symm⟩
  have HO := hide hown'
  have HB := hide hblk
  have HB2 := hide hb2
  have HNE := hide hne'
  clear hown' hblk hgrow hown hb2 hne'
  go_wp2
  go_ret2
  refine ⟨rfl, ⟨.pointer (some ⟨b, 0, none⟩), _, Or.inr rfl, by rw [set_of HB2.out]; rfl, ?_, HNE.out⟩, HB.out.below.setCell (p := ⟨b, 1, none⟩) (Nat.le_refl _) _, fun k o e n c => by rw [Below.heap_setCell _ _ _ _ n]; exact HB.out.keep k o e n c⟩
  have hl : (o ++ s.data.toList).length = o.length + s.size := by simp
  rw [← hcells, hl]
  refine HO.out.kept (row := some b) ⟨rfl, rfl, rfl, by simp [World.setCell], fun k _ hk => Below.heap_setCell _ _ _ _ (fun e => hk (by rw [e]))⟩ (Or.inr HNE.out)
set_option maxHeartbeats 1000000 in
set_option maxRecDepth 100000 in
theorem string_some (b g n cap : Nat) (s : ByteArray) (W : World) (hW : Below b w W) (c1 : w.drew.cell? ⟨b, 1, none⟩ = some (.slice (some ⟨g, 0, none⟩) n cap))
    (hSD : (Builtin.unsafeSliceData_ #[116] 146 #[.slice (some ⟨g, 0, none⟩) n cap]).run Tryz.prog w.drew = .ok (.pointer (some ⟨g, 0, none⟩)) w.drew)
    (hUS : (Builtin.unsafeString_ #[146, 3] 9 #[.pointer (some ⟨g, 0, none⟩), .int .i64 n]).run Tryz.prog w.drew = .ok (.string s) W) :
    Calls Tryz.prog 52 #[.pointer (some ⟨b, 0, none⟩)] w fun e w' => e = .returned (.string s) ∧ Below b w w' := by
  have mixed := Tryz.lays99.mixed
  go_enter Tryz.func52, Tryz.ntmps52
  go_wp2_with fail
  go_region_o
  all_goals (go_wp2; go_ret; exact ⟨rfl, hW⟩)
set_option maxHeartbeats 1000000 in
set_option maxRecDepth 100000 in
theorem string_nil (b : Nat) (c1 : w.drew.cell? ⟨b, 1, none⟩ = some (.slice none 0 0)) :
    Calls Tryz.prog 52 #[.pointer (some ⟨b, 0, none⟩)] w fun e w' => e = .returned (.string ⟨#[]⟩) ∧ Below b w w' := by
  have mixed := Tryz.lays99.mixed
  have hSD : (Builtin.unsafeSliceData_ #[116] 146 #[.slice none 0 0]).run Tryz.prog w.drew = .ok (.pointer none) w.drew := rfl
  have hUS : (Builtin.unsafeString_ #[146, 3] 9 #[.pointer none, .int .i64 0]).run Tryz.prog w.drew = .ok (.string .empty) w.drew := Lib.run_unsafeString_none (P := Tryz.prog) w.drew 146 3 9 none
  go_enter Tryz.func52, Tryz.ntmps52
  go_wp2_with fail
  go_region_o
  all_goals (go_wp2; go_ret; exact ⟨rfl, (Below.refl b w).drew⟩)
set_option maxHeartbeats 1000000 in
set_option maxRecDepth 100000 in
theorem string_zero (b g : Nat) (cur : Array Value) (fz : Nat × Nat) (hbw : b ≤ w.heap.size) (c1 : w.drew.cell? ⟨b, 1, none⟩ = some (.slice (some ⟨g, 0, none⟩) 0 0)) (hg : w.heap[g]? = some (.cells cur 5 fz)) :
    Calls Tryz.prog 52 #[.pointer (some ⟨b, 0, none⟩)] w fun e w' => e = .returned (.string ⟨#[]⟩) ∧ Below b w w' := by
  have mixed := Tryz.lays99.mixed
  have hSD : (Builtin.unsafeSliceData_ #[116] 146 #[.slice (some ⟨g, 0, none⟩) 0 0]).run Tryz.prog w.drew = .ok (.pointer (some ⟨w.drew.heap.size, 0, none⟩)) (w.drew.alloc (.view ⟨g, 0, none⟩ 5)) :=
    Lib.run_unsafeSliceData_zero w.drew _ _ 5 Tryz.underlying146 ⟨g, 0, none⟩ 0 (5, cur.size) (by have hg' : w.drew.heap[g]? = some (.cells cur 5 fz) := hg; simp [World.shape?, hg'])
  have hUS : ∀ q W, (Builtin.unsafeString_ #[146, 3] 9 #[.pointer q, .int .i64 0]).run Tryz.prog W = .ok (.string .empty) W := fun q W => Lib.run_unsafeString_none (P := Tryz.prog) W 146 3 9 q
  have c2 : (w.drew.alloc (.view ⟨g, 0, none⟩ 5)).cell? ⟨b, 1, none⟩ = some (.slice (some ⟨g, 0, none⟩) 0 0) := cell_alloc _ c1
  have c3 : (w.alloc (.view ⟨g, 0, none⟩ 5)).drew.cell? ⟨b, 1, none⟩ = some (.slice (some ⟨g, 0, none⟩) 0 0) := c2
  have c0 : w.cell? ⟨b, 1, none⟩ = some (.slice (some ⟨g, 0, none⟩) 0 0) := c1
  go_enter Tryz.func52, Tryz.ntmps52
  go_wp2_with fail
  go_region_o
  all_goals (go_wp2; go_ret; exact ⟨rfl, ((Below.refl b w).drew).alloc hbw _⟩)
theorem cellsB : Tryz.prog.cellsOf 5 = 1 := by kernel_rfl
theorem string_ok (h : WB b o w) : Calls Tryz.prog 52 #[.pointer (some ⟨b, 0, none⟩)] w fun e w' => e = .returned (.string (bs o)) ∧ Below b w w' := by
  obtain ⟨p, v, hp, hbk, hown, hne⟩ := h.ex
  obtain ⟨_, c1, _, _, _, hbl⟩ := wcells hbk
  rcases hown.2 with ⟨rfl, hz⟩ | ⟨g, cap, cur, fz, rfl, hbg, hg, hfz, hnc, hcm, hcs, htake⟩
  · obtain rfl : o = [] := List.eq_nil_of_length_eq_zero hz
    exact string_nil b c1
  · by_cases h0 : o = []
    · subst h0
      by_cases hc : cap = 0
      · subst hc
        exact string_zero b g cur fz (Nat.le_of_lt hbl) c1 hg
      · exact string_some b g 0 cap ⟨#[]⟩ w.drew (Below.refl b w).drew c1 (Lib.run_unsafeSliceData_row _ _ _ _ _ _ hc) (Lib.run_unsafeString_none (P := Tryz.prog) w.drew 146 3 9 _)
    · have hl0 : o.length ≠ 0 := by simpa using h0
      refine string_some b g o.length cap ⟨o.toArray⟩ (w.drew.freeze ⟨g, 0, none⟩ o.length) (Lib.below_freeze (Below.drew (Below.refl b w)) (p := ⟨g, 0, none⟩) hbg _) c1 (Lib.run_unsafeSliceData_row _ _ _ _ _ _ (by omega)) ?_
      refine Lib.run_unsafeString_row w.drew 146 3 9 5 Tryz.underlying146 cellsB g cur.size (by have hg' : w.drew.heap[g]? = some (.cells cur 5 fz) := hg; simp [World.shape?, hg']) o h0 (by omega) (by unfold maxLen at hcm; omega) ?_
      intro j x hx
      exact hown.cells (g := g) rfl j (.int .u8 x.toNat) (by simp [Lib.byteCells, hx])
end Go.Proofs.YtoahlnmhjinneaaGreatDoor

set_option linter.unusedSimpArgs false
set_option linter.unusedVariables false
namespace Go.Proofs.YtoahlnmhjinneaaGreatDoor
open Go.RowKit Go.Maps Go.Lib
variable {w w' w1 W : World} {b : Nat} {o : L}
def slashB (d : Bool) : L := if d = true then [47, 47] else [47]
def testB (t : L) : L := if t = [35] then [116, 101, 120, 116, 40, 41] else t
abbrev aS (d : Bool) (T : ByteArray) (vp : Value) : Array Value := #[.bool d, .string T, vp]
set_option maxHeartbeats 1000000 in
set_option maxRecDepth 100000 in
theorem slashW_ok (d : Bool) (t : L) (vp : Value) (w : World) : Calls Tryz.prog 50 #[.agg (aS d (bs t) vp)] w fun e w' => e = .returned (.string (bs (slashB d))) ∧ w' = w.alloc (.cells (aS d (bs t) vp) 79) := by
  have h0 := Below_new w (.cells (aS d (bs t) vp) 79)
  have c0 : (w.alloc (.cells (aS d (bs t) vp) 79)).cell? ⟨w.heap.size, 0, none⟩ = some (.bool d) := cell_of h0 rfl
  clear h0
  cases d with
  | true =>
    go_enter Tryz.func50, Tryz.ntmps50
    go_wp2
    go_ret
    exact ⟨rfl, rfl⟩
  | false =>
    go_enter Tryz.func50, Tryz.ntmps50
    go_wp2
    go_ret
    exact ⟨rfl, rfl⟩
set_option maxHeartbeats 1000000 in
set_option maxRecDepth 100000 in
theorem testW_ok (d : Bool) (t : L) (vp : Value) (w : World) : Calls Tryz.prog 51 #[.agg (aS d (bs t) vp)] w fun e w' => e = .returned (.string (bs (testB t))) ∧ w' = w.alloc (.cells (aS d (bs t) vp) 79) := by
  have h0 := Below_new w (.cells (aS d (bs t) vp) 79)
  have c1 : (w.alloc (.cells (aS d (bs t) vp) 79)).cell? ⟨w.heap.size, 1, none⟩ = some (.string (bs t)) := cell_of h0 rfl
  clear h0
  by_cases ht : t = [35]
  · have hb : ((bs t).toList == [35]) = true := by rw [bs_toL, ht]; rfl
    have e : testB t = [116, 101, 120, 116, 40, 41] := by unfold testB; rw [if_pos ht]
    rw [e]
    clear ht e
    generalize bs t = T at *
    go_enter Tryz.func51, Tryz.ntmps51
    go_wp2
    go_ret
    exact ⟨rfl, rfl⟩
  · have hb : ((bs t).toList == [35]) = false := by rw [bs_toL]; simpa using ht
    have e : testB t = t := by unfold testB; rw [if_neg ht]
    rw [e]
    clear ht e
    generalize bs t = T at *
    go_enter Tryz.func51, Tryz.ntmps51
    go_wp2
    go_ret
    exact ⟨rfl, rfl⟩
theorem put_ok (h : WB b o w) (t : L) (hlen : o.length + t.length ≤ 1000000) : Calls Tryz.prog 49 #[.pointer (some ⟨b, 0, none⟩), .string (bs t)] w fun e w' => e = .returned (.tuple #[.int .i64 t.length, .nilIface]) ∧ WB b (o ++ t) w' ∧ Wr b w w' := by
  have := write_ok h (bs t) (by rw [bs_size]; omega)
  rw [bs_size] at this
  have e : (bs t).data.toList = t := by unfold bs; simp
  rw [e] at this
  exact this
theorem WB.below (h : WB b o w) (hb : Below w.heap.size w w') : WB b o w' := by
  obtain ⟨p, v, hp, hbk, hown, hne⟩ := h.ex
  refine ⟨p, v, hp, (hb.block b (blk_lt hbk)).trans hbk, ?_, hne⟩
  refine hown.kept (row := none) ⟨hb.os, hb.tape, hb.output, hb.size, fun k hk _ => hb.block k hk⟩ (Classical.em _)
end Go.Proofs.YtoahlnmhjinneaaGreatDoor

set_option linter.unusedSimpArgs false
set_option linter.unusedVariables false
namespace Go.Proofs.YtoahlnmhjinneaaGreatDoor
open Go.RowKit Go.Maps Go.Lib
variable {w w' w1 W : World} {b : Nat} {o : L}
def WG (b : Nat) (o T : L) (w : World) (e : Ending) (w' : World) : Prop := e = .returned (.tuple #[]) ∧ WB b (o ++ T) w' ∧ Wr b w w'
theorem wr_alloc (h : WB b o w) (x : Obj) : Wr b w (w.alloc x) ∧ WB b o (w.alloc x) := by
  have hb := (Below.refl w.heap.size w).alloc (Nat.le_refl _) x
  exact ⟨Wr.past (Nat.le_of_lt h.lt) hb, h.below hb⟩
theorem Wr.box {k : Nat} {a : Array Value} {t : TypeId} (h : Wr b w w') (e : w.heap[k]? = some (.cells a t (0, 0))) (n : k ≠ b) (ht : t ≠ 5) : w'.heap[k]? = some (.cells a t (0, 0)) :=
  h.keep k _ e n (by intro c fz e; cases e; exact ht rfl)
theorem add_rows3 (x y z : L) (e : x ++ y = z) (h : x.length + y.length ≤ 9223372036854775807) (w : World) : (Op.stringOp .add (bs x) (bs y)).run Tryz.prog w = .ok (.string (bs z)) w := by
  unfold bs
  rw [run_string_add_sum w _ _ (by simpa [ByteArray.size] using h), ByteArray.mk_append_mk, e]
theorem belowN {B : Nat} (h : Below B w W) (n : Nat) : Below B w (W.drewN n) := ⟨h.os, h.tape, h.output, h.size, h.block⟩
def Mid (b : Nat) (O : L) (w wr : World) (rest : L) : Prop := ∃ o', WB b o' wr ∧ Wr b w wr ∧ o' ++ rest = O
theorem Mid.alloc {O rest : L} {wr : World} (h : Mid b O w wr rest) (x : Obj) : Mid b O w (wr.alloc x) rest := by
  obtain ⟨o', h1, h2, h3⟩ := h
  obtain ⟨wa, wb⟩ := wr_alloc h1 x
  exact ⟨o', wb, h2.trans wa, h3⟩
theorem Mid.put {O rest t : L} {wr : World} (h : Mid b O w wr (t ++ rest)) (hO : O.length ≤ 1000000) : Calls Tryz.prog 49 #[.pointer (some ⟨b, 0, none⟩), .string (bs t)] wr fun e w' => e = .returned (.tuple #[.int .i64 t.length, .nilIface]) ∧ Hid (Mid b O w w' rest ∧ Wr b wr w') := by
  obtain ⟨o', h1, h2, h3⟩ := h
  have hl := congrArg List.length h3
  simp only [List.length_append] at hl
  refine (put_ok h1 t (by omega)).mono ?_
  rintro e w' ⟨h, k, r⟩
  exact ⟨h, hide ⟨⟨_, k, h2.trans r, by rw [List.append_assoc]; exact h3⟩, r⟩⟩
theorem Mid.part {f : FuncId} {args : Array Value} {O rest t : L} {wr : World} (h : Mid b O w wr (t ++ rest)) (hO : O.length ≤ 1000000) (hc : ∀ o', WB b o' wr → o'.length + t.length ≤ 1000000 → Calls Tryz.prog f args wr (WG b o' t wr)) : Calls Tryz.prog f args wr fun e w' => e = .returned (.tuple #[]) ∧ Hid (Mid b O w w' rest ∧ Wr b wr w') := by
  obtain ⟨o', h1, h2, h3⟩ := h
  have hl := congrArg List.length h3
  simp only [List.length_append] at hl
  refine (hc o' h1 (by omega)).mono ?_
  rintro e w' ⟨h, k, r⟩
  exact ⟨h, hide ⟨⟨_, k, h2.trans r, by rw [List.append_assoc]; exact h3⟩, r⟩⟩
theorem Mid.start {T : L} (h : WB b o w) : Mid b (o ++ T) w w T := ⟨o, h, Wr.refl b w, rfl⟩
theorem Mid.fin {T : L} {wr : World} (h : Mid b (o ++ T) w wr []) : WG b o T w (.returned (.tuple #[])) wr := by
  obtain ⟨o', h1, h2, h3⟩ := h
  rw [List.append_nil] at h3
  subst h3
  exact ⟨rfl, h1, h2⟩
theorem Mid.below {O rest : L} {wr wr' : World} (h : Mid b O w wr rest) (hb : Below wr.heap.size wr wr') : Mid b O w wr' rest := by
  obtain ⟨o', h1, h2, h3⟩ := h
  exact ⟨o', h1.below hb, h2.trans (Wr.past (Nat.le_of_lt h1.lt) hb), h3⟩
theorem Mid.lt {O rest : L} {wr : World} (h : Mid b O w wr rest) : b < wr.heap.size := by
  obtain ⟨o', h1, h2, h3⟩ := h
  exact h1.lt
theorem Mid.wr {O rest : L} {wr : World} (h : Mid b O w wr rest) : Wr b w wr := by
  obtain ⟨o', h1, h2, h3⟩ := h
  exact h2
theorem testW2 (d : Bool) (t : L) (vp : Value) (w : World) : Calls Tryz.prog 51 #[.agg (aS d (bs t) vp)] w fun e w' => e = .returned (.string (bs (testB t))) ∧ Below w.heap.size w w' := (testW_ok d t vp w).mono fun e w' ⟨h1, h2⟩ => ⟨h1, by rw [h2]; exact (Below.refl _ w).alloc (Nat.le_refl _) _⟩
theorem slashW2 (d : Bool) (t : L) (vp : Value) (w : World) : Calls Tryz.prog 50 #[.agg (aS d (bs t) vp)] w fun e w' => e = .returned (.string (bs (slashB d))) ∧ Below w.heap.size w w' := (slashW_ok d t vp w).mono fun e w' ⟨h1, h2⟩ => ⟨h1, by rw [h2]; exact (Below.refl _ w).alloc (Nat.le_refl _) _⟩
theorem cells3 {k : Nat} {x0 x1 x2 : Value} {ty : TypeId} (h : w.heap[k]? = some (.cells #[x0, x1, x2] ty (0, 0))) : w.cell? ⟨k, 0, none⟩ = some x0 ∧ w.cell? ⟨k, 1, none⟩ = some x1 ∧ w.cell? ⟨k, 2, none⟩ = some x2 := ⟨cell_of h rfl, cell_of h rfl, cell_of h rfl⟩
theorem Mid.box {O rest t : L} {w0 : World} (m0 : Mid b O w w0 (t ++ rest)) (hO : O.length ≤ 1000000) (k : Nat) (hk : k ≠ b) (x0 x1 x2 : Value) (hB : w0.heap[k]? = some (.cells #[x0, x1, x2] 79 (0, 0))) : ∀ W, Below w0.heap.size w0 W →
    (W.cell? ⟨k, 0, none⟩ = some x0 ∧ W.cell? ⟨k, 1, none⟩ = some x1 ∧ W.cell? ⟨k, 2, none⟩ = some x2) ∧ Calls Tryz.prog 49 #[.pointer (some ⟨b, 0, none⟩), .string (bs t)] W fun e w' => e = .returned (.tuple #[.int .i64 (t.length : Nat), .nilIface]) ∧ (w'.cell? ⟨k, 0, none⟩ = some x0 ∧ w'.cell? ⟨k, 1, none⟩ = some x1 ∧ w'.cell? ⟨k, 2, none⟩ = some x2) ∧ Hid (Mid b O w w' rest ∧ Wr b w0 w') := fun W hW => by
  have hBW := (hW.block _ (blk_lt hB)).trans hB
  refine ⟨cells3 hBW, ((m0.below hW).put hO).mono ?_⟩
  rintro e w' ⟨h, k⟩
  exact ⟨h, cells3 (k.out.2.box hBW hk (by decide)), hide ⟨k.out.1, (Wr.past (Nat.le_of_lt m0.lt) hW).trans k.out.2⟩⟩
def MkR (w : World) (v : Value) (ms : List Mk) : Prop := ∃ ai cap, v = .slice ai ms.length cap ∧ (ms.length ≤ 1000000 ∧ ms.length ≤ cap) ∧ ∀ i m, ms[i]? = some m → ∃ g pi pn pc, ai = some ⟨g, 0, none⟩ ∧ g < w.heap.size ∧ w.cell? ⟨g, i * 3, none⟩ = some (.bool m.1) ∧ w.cell? ⟨g, i * 3 + 1, none⟩ = some (.string (bs m.2)) ∧ w.cell? ⟨g, i * 3 + 2, none⟩ = some (.slice pi pn pc)
theorem MkR.below {v : Value} {ms : List Mk} {B : Nat} (h : MkR w v ms) (hb : Below w.heap.size w w') : MkR w' v ms := by
  obtain ⟨ai, cap, rfl, hn, hr⟩ := h
  refine ⟨ai, cap, rfl, hn, fun i m hm => ?_⟩
  obtain ⟨g, pi, pn, pc, e, hg, h0, h1, h2⟩ := hr i m hm
  have up : ∀ j u, w.cell? ⟨g, j, none⟩ = some u → w'.cell? ⟨g, j, none⟩ = some u := fun j u hj => (World.cell?_of_block (hb.block g hg)).trans hj
  exact ⟨g, pi, pn, pc, e, Nat.lt_of_lt_of_le hg hb.size, up _ _ h0, up _ _ h1, up _ _ h2⟩
def bareT (ms : List Mk) : L := ms.flatMap slashM
theorem slashM_eq (m : Mk) : slashM m = slashB m.1 ++ testB m.2 := rfl
theorem bareT_get {ms : List Mk} {i : Nat} {m : Mk} (h : ms[i]? = some m) : bareT (ms.drop i) = (slashB m.1 ++ testB m.2) ++ bareT (ms.drop (i + 1)) := by
  obtain ⟨hl, e⟩ := List.getElem?_eq_some_iff.1 h
  rw [List.drop_eq_getElem_cons hl, e, bareT, List.flatMap_cons, slashM_eq]
  rfl
theorem WB.new (w : World) : WB w.heap.size [] (w.alloc (.cells #[.pointer none, .slice none 0 0] 118)) :=
  ⟨.pointer none, .slice none 0 0, Or.inl rfl, Below_new _ _, World.ownsRowF_nil _ _ _ _, by simp [Value.ownBlock]⟩
end Go.Proofs.YtoahlnmhjinneaaGreatDoor

set_option linter.unusedSimpArgs false
set_option linter.unusedVariables false
namespace Go.Proofs.YtoahlnmhjinneaaGreatDoor
open Go.RowKit Go.Maps Go.Lib
variable {w w' w1 W : World} {b : Nat} {o : L}
set_option maxHeartbeats 16000000 in
set_option maxRecDepth 100000 in
theorem bare_ok (ms : List Mk) (v : Value) (w : World) (h : MkR w v ms) (hl : (bareT ms).length ≤ 1000000) : Calls Tryz.prog 32 #[v] w fun e w' => e = .returned (.string (bs (bareT ms))) ∧ Below w.heap.size w w' := by
  obtain ⟨ai, cap, rfl, ⟨hn, -⟩, hr⟩ := h
  have hb0 := (Below.refl w.heap.size w).alloc (Nat.le_refl _) (.cells #[.pointer none, .slice none 0 0] 118)
  have M0 : Hid (Mid w.heap.size (bareT ms) (w.alloc (.cells #[.pointer none, .slice none 0 0] 118)) (w.alloc (.cells #[.pointer none, .slice none 0 0] 118)) (bareT (ms.drop 0))) := hide (Mid.start (o := []) (T := bareT ms) (WB.new w))
  have HFIN : Hid (∀ wr, Mid w.heap.size (bareT ms) (w.alloc (.cells #[.pointer none, .slice none 0 0] 118)) wr (bareT (ms.drop ms.length)) → Calls Tryz.prog 52 #[.pointer (some ⟨w.heap.size, 0, none⟩)] wr fun e w' => e = .returned (.string (bs (bareT ms))) ∧ Below w.heap.size w w') := fun wr m => by
    rw [List.drop_length] at m
    obtain ⟨o', h1, h2, h3⟩ := m
    rw [show bareT [] = [] from rfl, List.append_nil] at h3
    subst h3
    refine (string_ok h1).mono ?_
    rintro e w' ⟨h4, h5⟩
    exact ⟨h4, (hb0.trans h2.below).trans h5⟩
  have HR : Hid (∀ wr i, i < ms.length → Mid w.heap.size (bareT ms) (w.alloc (.cells #[.pointer none, .slice none 0 0] 118)) wr (bareT (ms.drop i)) → ∃ g d X T pi pn pc, ai = some ⟨g, 0, none⟩ ∧ (wr.cell? ⟨g, i * 3, none⟩ = some (.bool d) ∧ wr.cell? ⟨g, i * 3 + 1, none⟩ = some (.string X) ∧ wr.cell? ⟨g, i * 3 + 2, none⟩ = some (.slice pi pn pc)) ∧ ((wr.alloc (.cells (aS d X (.slice pi pn pc)) 79)).cell? ⟨wr.heap.size, 0, none⟩ = some (.bool d) ∧ (wr.alloc (.cells (aS d X (.slice pi pn pc)) 79)).cell? ⟨wr.heap.size, 1, none⟩ = some (.string X) ∧ (wr.alloc (.cells (aS d X (.slice pi pn pc)) 79)).cell? ⟨wr.heap.size, 2, none⟩ = some (.slice pi pn pc)) ∧
      (∀ W, (Op.stringOp .add (bs (slashB d)) T).run Tryz.prog W = .ok (.string (bs (slashB d ++ T.data.toList))) W) ∧
      Hid (∀ W, Calls Tryz.prog 51 #[.agg (aS d X (.slice pi pn pc))] W fun e w' => e = .returned (.string T) ∧ Below W.heap.size W w') ∧
      Hid (∀ W, Calls Tryz.prog 50 #[.agg (aS d X (.slice pi pn pc))] W fun e w' => e = .returned (.string (bs (slashB d))) ∧ Below W.heap.size W w') ∧
      Hid (∀ W, Below (wr.alloc (.cells (aS d X (.slice pi pn pc)) 79)).heap.size (wr.alloc (.cells (aS d X (.slice pi pn pc)) 79)) W → (W.cell? ⟨wr.heap.size, 0, none⟩ = some (.bool d) ∧ W.cell? ⟨wr.heap.size, 1, none⟩ = some (.string X) ∧ W.cell? ⟨wr.heap.size, 2, none⟩ = some (.slice pi pn pc)) ∧ Calls Tryz.prog 49 #[.pointer (some ⟨w.heap.size, 0, none⟩), .string (bs (slashB d ++ T.data.toList))] W fun e w' => e = .returned (.tuple #[.int .i64 ((slashB d ++ T.data.toList).length : Nat), .nilIface]) ∧ (w'.cell? ⟨wr.heap.size, 0, none⟩ = some (.bool d) ∧ w'.cell? ⟨wr.heap.size, 1, none⟩ = some (.string X) ∧ w'.cell? ⟨wr.heap.size, 2, none⟩ = some (.slice pi pn pc)) ∧ Hid (Mid w.heap.size (bareT ms) (w.alloc (.cells #[.pointer none, .slice none 0 0] 118)) w' (bareT (ms.drop (i + 1)))))) := fun wr i hi m => by
    have hm : ms[i]? = some ms[i] := List.getElem?_eq_getElem hi
    obtain ⟨g, pi, pn, pc, e, hg, h0, h1, h2⟩ := hr i _ hm
    generalize ms[i] = x at *
    have hgw : wr.heap[g]? = w.heap[g]? := by
      rw [m.wr.below.block g hg]
      exact Below.heap_alloc _ _ _ hg
    have up : ∀ j u, w.cell? ⟨g, j, none⟩ = some u → wr.cell? ⟨g, j, none⟩ = some u := fun j u hj => (World.cell?_of_block hgw).trans hj
    have hB1 := Below_new wr (.cells (aS x.1 (bs x.2) (.slice pi pn pc)) 79)
    have hlt := m.lt
    have ma := m.alloc (.cells (aS x.1 (bs x.2) (.slice pi pn pc)) 79)
    have eT : (bs (testB x.2)).data.toList = testB x.2 := by unfold bs; simp
    rw [bareT_get hm] at ma
    have hlen : (slashB x.1 ++ testB x.2).length ≤ 1000000 := by
      obtain ⟨o', _, _, h3⟩ := ma
      have := congrArg List.length h3
      simp only [List.length_append] at this ⊢
      omega
    refine ⟨g, x.1, bs x.2, bs (testB x.2), pi, pn, pc, e, ⟨up _ _ h0, up _ _ h1, up _ _ h2⟩, cells3 hB1, ?_, hide fun W => testW2 _ _ _ W, hide fun W => slashW2 _ _ _ W, hide ?_⟩
    · rw [eT]
      refine add_rows3 _ _ _ rfl ?_
      rw [List.length_append] at hlen
      omega
    · rw [eT]
      intro W hW
      obtain ⟨k1, k2⟩ := ma.box hl wr.heap.size (by omega) _ _ _ hB1 W hW
      refine ⟨k1, k2.mono ?_⟩
      rintro e w' ⟨h, c, r⟩
      exact ⟨h, c, hide r.out.1⟩
  clear hr hl hb0
  generalize ms.length = n at *
  go_enter Tryz.func32, Tryz.ntmps32
  go_wp2_with fail
  generalize (w.alloc (.cells #[.pointer none, .slice none 0 0] 118)) = W0 at *
  go_loopw [5, 8, 9, 10, 11, 12, 13, 14, 15, 16, 17, 18] (fun _ u8 _ _ _ _ _ _ _ _ _ _ wr => ∃ i : Nat, u8 = .int .i64 i ∧ i ≤ n ∧ Hid (Mid w.heap.size (bareT ms) W0 wr (bareT (ms.drop i)))) (fun _ u8 _ _ _ _ _ _ _ _ _ _ _ => n - (RowKit.intOf u8).toNat)
  case atStart => exact ⟨0, rfl, Nat.zero_le _, M0⟩
  case round =>
    rename World => WO
    obtain ⟨i, rfl, hi, HM⟩ := hrel
    by_cases hlt : i < n
    · obtain ⟨g, d, X, T, pi, pn, pc, rfl, ⟨a0, a1, a2⟩, ⟨c0, c1, c2⟩, p1, HT, HS, HD⟩ := HR.out _ i hlt HM.out
      have hdec : decide ((i : Int) < n) = true := by simp; omega
      have hii : (i : Int) < n := by omega
      clear HR HFIN HM M0
      generalize bs (slashB d ++ T.data.toList) = S3 at *
      generalize bs (slashB d) = S1 at *
      generalize (slashB d ++ T.data.toList).length = N3 at *
      go_wp2_with fail
      go_region_held3 (fun W => W.cell? ⟨WO.heap.size, 0, none⟩ = some (.bool d) ∧ W.cell? ⟨WO.heap.size, 1, none⟩ = some (.string X) ∧ W.cell? ⟨WO.heap.size, 2, none⟩ = some (.slice pi pn pc))
        (first | exact d3 | exact ⟨c0, c1, c2⟩ | exact (HD.out _ (belowN b6 _)).1 | exact (HD.out _ b6).1 | exact (HD.out _ (belowN b5 _)).1 | exact (HD.out _ b5).1)
        ((first | (go_at_call 50; refine (HS.out _).mono ?_; rintro e w5 ⟨rfl, b5'⟩; have b5 := (belowN (Below.refl _ _) _).trans b5'; clear b5') | (go_at_call 51; refine (HT.out _).mono ?_; rintro e w6 ⟨rfl, b6'⟩; (first | have b6 := (belowN b5 _).trans (below_less b6' b5.size) | have b6 := b5.trans (below_less b6' b5.size)); clear b6') | (go_at_call 49; (first | refine (HD.out _ b6).2.mono ?_ | refine (HD.out _ (belowN b6 _)).2.mono ?_); rintro e w7 ⟨rfl, d3, h7⟩)))
      all_goals
        clear b5 b6 c0 c1 c2 HT HS HD d3
        go_wp2
        exact ⟨⟨i + 1, by simp, by omega, h7⟩, by simp only [RowKit.intOf]; omega⟩
    · have hdec : decide ((i : Int) < n) = false := by simp; omega
      obtain rfl : i = n := by omega
      have HE := hide (HFIN.out _ HM.out)
      clear HFIN HM M0 HR
      go_wp2_with (go_at_call 52; refine HE.out.mono ?_; rintro e w7 ⟨rfl, h7⟩)
      go_ret
      exact ⟨rfl, h7⟩
end Go.Proofs.YtoahlnmhjinneaaGreatDoor

set_option linter.unusedSimpArgs false
set_option linter.unusedVariables false
namespace Go.Proofs.YtoahlnmhjinneaaGreatDoor
open Go.RowKit Go.Maps Go.Lib
variable {w w' w1 W : World} {b : Nat} {o : L}
set_option maxHeartbeats 4000000 in
set_option maxRecDepth 100000 in
theorem written_ok (ms : List Mk) (wh : Bool) (v : Value) (w : World) (h : MkR w v ms) (hl : (bareT ms).length ≤ 1000000) : Calls Tryz.prog 19 #[v, .bool wh] w fun e w' => e = .returned (.string (bs (writtenN (ms, wh)))) ∧ Below w.heap.size w w' := by
  have HB := hide (bare_ok ms v w h hl)
  have e0 : writtenN (ms, wh) = bareT ms ++ (if wh = true then [35] else []) := rfl
  rw [e0]
  obtain ⟨ai, cap, rfl, -⟩ := h
  cases wh with
  | true =>
    have p1 : ∀ W, (Op.stringOp .add (bs (bareT ms)) ⟨#[35]⟩).run Tryz.prog W = .ok (.string (bs (bareT ms ++ [35]))) W := add_rows3 _ [35] _ rfl (by simp; omega)
    rw [if_pos rfl]
    clear hl e0
    generalize bs (bareT ms ++ [35]) = S2 at *
    generalize bs (bareT ms) = S1 at *
    generalize ms.length = n at *
    go_enter Tryz.func19, Tryz.ntmps19
    go_wp2_with (go_at_call 32; refine HB.out.mono ?_; rintro e w1 ⟨rfl, h1⟩; clear HB)
    go_ret
    exact ⟨rfl, h1⟩
  | false =>
    rw [if_neg (by simp), List.append_nil]
    clear hl e0
    generalize bs (bareT ms) = S1 at *
    generalize ms.length = n at *
    go_enter Tryz.func19, Tryz.ntmps19
    go_wp2_with (go_at_call 32; refine HB.out.mono ?_; rintro e w1 ⟨rfl, h1⟩; clear HB)
    go_ret
    exact ⟨rfl, h1⟩
end Go.Proofs.YtoahlnmhjinneaaGreatDoor

set_option linter.unusedSimpArgs false
set_option linter.unusedVariables false
namespace Go.Proofs.YtoahlnmhjinneaaGreatDoor
open Go.RowKit Go.Maps Go.Lib
variable {w w' w1 W : World} {b : Nat} {o : L}
set_option maxHeartbeats 1000000 in
set_option maxRecDepth 100000 in
theorem istext_ok (d : Bool) (T : ByteArray) (c : Bool) (vp : Value) (w : World) (hb : (T.toList == [35]) = c) : Calls Tryz.prog 43 #[.agg (aS d T vp)] w fun e w' => e = .returned (.bool c) ∧ w' = w.alloc (.cells (aS d T vp) 79) := by
  have h0 := Below_new w (.cells (aS d T vp) 79)
  have c1 : (w.alloc (.cells (aS d T vp) 79)).cell? ⟨w.heap.size, 1, none⟩ = some (.string T) := cell_of h0 rfl
  clear h0
  cases c with
  | true =>
    go_enter Tryz.func43, Tryz.ntmps43
    go_wp2
    go_ret
    exact ⟨rfl, rfl⟩
  | false =>
    go_enter Tryz.func43, Tryz.ntmps43
    go_wp2
    go_ret
    exact ⟨rfl, rfl⟩
theorem bs_beq (t : L) : ((bs t).toList == [35]) = (t == [35]) := by rw [bs_toL]
def txI (ms : List Mk) : Bool := ms.any (·.2 == [35])
set_option maxHeartbeats 8000000 in
set_option maxRecDepth 100000 in
theorem index_text (ms : List Mk) (v : Value) (w : World) (h : MkR w v ms) : Calls Tryz.prog 68 #[v, .func (.func 43) #[] #[]] w fun e w' => ∃ k : Int, e = .returned (.int .i64 k) ∧ (decide (0 ≤ k) = txI ms) ∧ Below w.heap.size w w' := by
  obtain ⟨ai, cap, rfl, ⟨hn, -⟩, hr⟩ := h
  have HR : Hid (∀ wr i, i < ms.length → Below w.heap.size w wr → ∃ g d X c pi pn pc, ai = some ⟨g, 0, none⟩ ∧ (wr.cell? ⟨g, i * 3, none⟩ = some (.bool d) ∧ wr.cell? ⟨g, i * 3 + 1, none⟩ = some (.string X) ∧ wr.cell? ⟨g, i * 3 + 2, none⟩ = some (.slice pi pn pc)) ∧ Hid (c = (match ms[i]? with | some m => m.2 == [35] | none => false)) ∧
      Hid (Calls Tryz.prog 43 #[.agg (aS d X (.slice pi pn pc))] wr fun e w' => e = .returned (.bool c) ∧ Below w.heap.size w w')) := fun wr i hi hb => by
    have hm : ms[i]? = some ms[i] := List.getElem?_eq_getElem hi
    obtain ⟨g, pi, pn, pc, e, hg, h0, h1, h2⟩ := hr i _ hm
    have up : ∀ j u, w.cell? ⟨g, j, none⟩ = some u → wr.cell? ⟨g, j, none⟩ = some u := fun j u hj => (World.cell?_of_block (hb.block g hg)).trans hj
    refine ⟨g, _, _, (ms[i].2 == [35]), pi, pn, pc, e, ⟨up _ _ h0, up _ _ h1, up _ _ h2⟩, hide (by rw [hm]), hide ?_⟩
    refine (istext_ok _ _ _ _ wr (bs_beq _)).mono ?_
    rintro e w' ⟨h, rfl⟩
    exact ⟨h, hb.alloc hb.size _⟩
  have HN : Hid (txI (ms.take ms.length) = txI ms) := by rw [List.take_length]; exact hide rfl
  have HT : Hid (∀ i, i < ms.length → txI (ms.take (i + 1)) = (txI (ms.take i) || (match ms[i]? with | some m => m.2 == [35] | none => false))) := fun i hi => by
    rw [List.take_succ_eq_append_getElem hi, List.getElem?_eq_getElem hi]
    unfold txI
    rw [List.any_append, List.any_cons, List.any_nil, Bool.or_false]
  have HP : Hid (∀ i, txI (ms.take i) = true → txI ms = true) := fun i h => by
    unfold txI at *
    rw [List.any_eq_true] at *
    obtain ⟨x, hx, h2⟩ := h
    exact ⟨x, List.mem_of_mem_take hx, h2⟩
  clear hr
  generalize ms.length = n at *
  go_enter Tryz.func68, Tryz.ntmps68
  go_wp2_with fail
  go_loopw [5, 8, 9, 10, 11, 12, 13, 14, 15, 16, 17, 18] (fun _ u8 _ _ _ _ _ _ _ _ _ _ wr => ∃ i : Nat, u8 = .int .i64 i ∧ i ≤ n ∧ Hid (txI (ms.take i) = false ∧ Below w.heap.size w wr)) (fun _ u8 _ _ _ _ _ _ _ _ _ _ _ => n - (RowKit.intOf u8).toNat)
  case atStart => exact ⟨0, rfl, Nat.zero_le _, hide ⟨rfl, Below.refl _ _⟩⟩
  case round =>
    rename World => WO
    obtain ⟨i, rfl, hi, HM⟩ := hrel
    by_cases hlt : i < n
    · obtain ⟨g, d, X, c, pi, pn, pc, rfl, ⟨a0, a1, a2⟩, HC, HF⟩ := HR.out _ i hlt HM.out.2
      have hdec : decide ((i : Int) < n) = true := by simp; omega
      have hii : (i : Int) < n := by omega
      have HI : Hid (txI (ms.take (i + 1)) = c) := hide (by rw [HT.out i hlt, HM.out.1, ← HC.out]; rfl)
      clear HR HC HT HM
      cases c with
      | true =>
        go_wp2_with (go_at_call 43; refine HF.out.mono ?_; rintro e w5 ⟨rfl, h5⟩; clear HF)
        go_ret
        exact ⟨i, rfl, by rw [HP.out _ HI.out]; simp, h5⟩
      | false =>
        go_wp2_with (go_at_call 43; refine HF.out.mono ?_; rintro e w5 ⟨rfl, h5⟩; clear HF)
        exact ⟨⟨i + 1, by simp, by omega, hide ⟨HI.out, h5⟩⟩, by simp only [RowKit.intOf]; omega⟩
    · have hdec : decide ((i : Int) < n) = false := by simp; omega
      obtain rfl : i = n := by omega
      go_wp2
      go_ret
      exact ⟨-1, rfl, by rw [← HN.out, HM.out.1]; rfl, HM.out.2⟩
end Go.Proofs.YtoahlnmhjinneaaGreatDoor

set_option linter.unusedSimpArgs false
set_option linter.unusedVariables false
namespace Go.Proofs.YtoahlnmhjinneaaGreatDoor
open Go.RowKit Go.Maps Go.Lib
variable {w w' w1 W : World} {b : Nat} {o : L}
set_option maxHeartbeats 4000000 in
set_option maxRecDepth 100000 in
theorem contains_text (ms : List Mk) (v : Value) (w : World) (h : MkR w v ms) : Calls Tryz.prog 42 #[v, .func (.func 43) #[] #[]] w fun e w' => e = .returned (.bool (txI ms)) ∧ Below w.heap.size w w' := by
  have HI := hide (index_text ms v w h)
  obtain ⟨ai, cap, rfl, -⟩ := h
  generalize txI ms = c at *
  generalize ms.length = n at *
  cases c with
  | true =>
    go_enter Tryz.func42, Tryz.ntmps42
    go_wp2_with (go_at_call 68; refine HI.out.mono ?_; rintro e w5 ⟨k, rfl, hk, h5⟩; have hk2 : decide (k ≥ 0) = true := hk; have hk3 : (0 : Int) ≤ k := of_decide_eq_true hk; clear HI)
    go_ret
    first | exact ⟨rfl, h5⟩ | exact ⟨by simp [hk3], h5⟩
  | false =>
    go_enter Tryz.func42, Tryz.ntmps42
    go_wp2_with (go_at_call 68; refine HI.out.mono ?_; rintro e w5 ⟨k, rfl, hk, h5⟩; have hk2 : decide (k ≥ 0) = false := hk; have hk3 : ¬ (0 : Int) ≤ k := of_decide_eq_false hk; clear HI)
    go_ret
    first | exact ⟨rfl, h5⟩ | exact ⟨by simp [hk3], h5⟩
end Go.Proofs.YtoahlnmhjinneaaGreatDoor

set_option linter.unusedSimpArgs false
set_option linter.unusedVariables false
namespace Go.Proofs.YtoahlnmhjinneaaGreatDoor
open Go.RowKit Go.Maps Go.Lib
variable {w w' w1 W : World} {b : Nat} {o : L}
theorem MkR.init {ai : Option Addr} {k n cap : Nat} {ms : List Mk} (h : MkR w (.slice ai n cap) ms) (hk : ms.length = k + 1) : MkR w (.slice ai k cap) ms.dropLast := by
  obtain ⟨ai', cap', e, ⟨hn, hc⟩, hr⟩ := h
  cases e
  refine ⟨ai, cap, by simp [hk], ⟨by simp; omega, by simp; omega⟩, fun i m hm => hr i m ?_⟩
  rw [List.getElem?_dropLast] at hm
  split at hm
  · exact hm
  · simp at hm
theorem nowhere_eq {ms : List Mk} (h0 : ms ≠ []) {x : Mk} (hx : ms[0]? = some x) : nowhere ms = (txI ms.dropLast || (ms.length == 1 && (x.2 == [35] && !x.1))) := by
  unfold nowhere txI
  cases ms with
  | nil => exact absurd rfl h0
  | cons y l =>
    simp only [List.getElem?_cons_zero, Option.some.injEq] at hx
    subst hx
    congr 1
    cases l with
    | nil =>
      obtain ⟨d, t⟩ := y
      cases d with
      | true => simp
      | false =>
        have e : ([((false, t) : Mk)] == [(false, [35])]) = (t == [35]) := by
          rw [Bool.eq_iff_iff]; simp
        rw [e]; simp
    | cons z l => simp
set_option maxHeartbeats 8000000 in
set_option maxRecDepth 100000 in
theorem nowhere_ok (ms : List Mk) (v : Value) (w : World) (h : MkR w v ms) (h0 : ms ≠ []) : Calls Tryz.prog 28 #[v] w fun e w' => e = .returned (.bool (nowhere ms)) ∧ Below w.heap.size w w' := by
  obtain ⟨k, hk⟩ : ∃ k, ms.length = k + 1 := ⟨ms.length - 1, by cases ms <;> simp_all⟩
  have hh := h
  obtain ⟨ai, cap, rfl, ⟨hn, hc⟩, hr⟩ := h
  obtain ⟨x, hx⟩ : ∃ x, ms[0]? = some x := ⟨ms[0], List.getElem?_eq_getElem (by omega)⟩
  obtain ⟨g, pi, pn, pc, rfl, hg, a0, a1, a2⟩ := hr 0 x hx
  have HC := hide (contains_text _ _ w (hh.init hk))
  have HX : Hid (∀ w', Below w.heap.size w w' → w'.cell? ⟨g, 0, none⟩ = some (.bool x.1) ∧ w'.cell? ⟨g, 1, none⟩ = some (.string (bs x.2))) := fun w' hb => by
    have up : ∀ j u, w.cell? ⟨g, j, none⟩ = some u → w'.cell? ⟨g, j, none⟩ = some u := fun j u hj => (World.cell?_of_block (hb.block g hg)).trans hj
    exact ⟨up _ _ (by simpa using a0), up _ _ (by simpa using a1)⟩
  rw [nowhere_eq h0 hx, hk]
  obtain ⟨c, hcx⟩ : ∃ c, (x.2 == [35]) = c := ⟨_, rfl⟩
  have hb : ((bs x.2).toList == [35]) = c := by rw [bs_toL]; exact hcx
  rw [hcx]
  rw [hk] at hc hn
  have hwr : IntKind.i64.wrap ((k : Int) + 1 - 1) = (k : Int) := by rw [IntKind.wrap_i64]; omega
  have hkc : (k : Int) ≤ (cap : Int) := by omega
  have hk0 : (0 : Int) ≤ (k : Int) := by omega
  clear hr hh h0 a0 a1 a2 hx hcx hk
  obtain ⟨d, hd⟩ : ∃ d, x.1 = d := ⟨_, rfl⟩
  rw [hd] at HX ⊢
  clear hd
  generalize bs x.2 = X at *
  generalize txI ms.dropLast = t at *
  have hke : (k + 1 == 1) = decide (k = 0) := by cases k <;> simp
  rw [hke]
  by_cases hz : k = 0
  · have he : ((k : Int) == 0) = true := by simp; omega
    have hde : decide (k = 0) = true := by simp [hz]
    rw [hde]
    clear hke hde hz
    cases t <;> cases c <;> cases d <;>
    · go_enter Tryz.func28, Tryz.ntmps28
      go_wp2_with (go_at_call 42; refine HC.out.mono ?_; rintro e w5 ⟨rfl, h5⟩; obtain ⟨x0, x1⟩ := HX.out _ h5; clear HC HX)
      go_ret
      exact ⟨rfl, h5⟩
  · have he : ((k : Int) == 0) = false := by simp; omega
    have hde : decide (k = 0) = false := by simp [hz]
    rw [hde]
    clear hke hde
    cases t <;> cases c <;> cases d <;>
    · go_enter Tryz.func28, Tryz.ntmps28
      go_wp2_with (go_at_call 42; refine HC.out.mono ?_; rintro e w5 ⟨rfl, h5⟩; obtain ⟨x0, x1⟩ := HX.out _ h5; clear HC HX)
      go_ret
      exact ⟨rfl, h5⟩
end Go.Proofs.YtoahlnmhjinneaaGreatDoor

set_option linter.unusedSimpArgs false
set_option linter.unusedVariables false
namespace Go.Proofs.YtoahlnmhjinneaaGreatDoor
open Go.RowKit Go.Maps Go.Lib
variable {w w' w1 W : World} {b : Nat} {o : L}
set_option maxHeartbeats 4000000 in
set_option maxRecDepth 100000 in
theorem fits_raw (d : Bool) (T N : ByteArray) (b1 b2 b3 : Bool) (w : World) (h1 : (T.toList == [42]) = b1) (h2 : (T.toList == N.toList) = b2) (h3 : (N.toList == [35]) = b3) : Calls Tryz.prog 60 #[.agg #[.bool d, .string T], .string N] w fun e w' => e = .returned (.bool (b1 || (b2 && !b3))) ∧ w' = w.alloc (.cells #[.bool d, .string T] 72) := by
  have h0 := Below_new w (.cells #[.bool d, .string T] 72)
  have c0 : (w.alloc (.cells #[.bool d, .string T] 72)).cell? ⟨w.heap.size, 0, none⟩ = some (.bool d) := cell_of h0 rfl
  have c1 : (w.alloc (.cells #[.bool d, .string T] 72)).cell? ⟨w.heap.size, 1, none⟩ = some (.string T) := cell_of h0 rfl
  clear h0
  cases b1 <;> cases b2 <;> cases b3 <;>
  · go_enter Tryz.func60, Tryz.ntmps60
    go_wp2
    go_ret
    exact ⟨rfl, rfl⟩
theorem fits_ok (m : Mk) (name : L) (w : World) : Calls Tryz.prog 60 #[.agg #[.bool m.1, .string (bs m.2)], .string (bs name)] w fun e w' => e = .returned (.bool (fitsM m name)) ∧ Below w.heap.size w w' := by
  refine (fits_raw m.1 (bs m.2) (bs name) _ _ _ w (by rw [bs_toL]) (by rw [bs_toL, bs_toL]) (by rw [bs_toL])).mono ?_
  rintro e w' ⟨h, rfl⟩
  exact ⟨h, (Below.refl _ w).alloc (Nat.le_refl _) _⟩
end Go.Proofs.YtoahlnmhjinneaaGreatDoor

set_option linter.unusedSimpArgs false
set_option linter.unusedVariables false
namespace Go.Proofs.YtoahlnmhjinneaaGreatDoor
open Go.RowKit Go.Maps Go.Lib
variable {w w' w1 W : World} {X n sc : Nat} {si : Option Addr}
set_option maxHeartbeats 4000000 in
set_option maxRecDepth 100000 in
theorem answered_yes (k : Nat) (c1 : w.cell? ⟨X, 1, none⟩ = some (.slice si n sc)) (hk : k < n) : Calls Tryz.prog 27 #[.pointer (some ⟨X, 0, none⟩), .int .i64 k] w fun e w' => e = .returned (.bool true) ∧ w' = w := by
  have h1 : decide ((k : Int) < (n : Int)) = true := by simp; omega
  have h2 : decide ((k : Int) ≥ 0) = true := by simp
  go_enter Tryz.func27, Tryz.ntmps27
  go_wp2
  go_ret
  exact ⟨rfl, rfl⟩
set_option maxHeartbeats 4000000 in
set_option maxRecDepth 100000 in
theorem live_yes {g k dn dc : Nat} {di : Option Addr} (c1 : w.cell? ⟨X, 1, none⟩ = some (.slice (some ⟨g, 0, none⟩) n sc)) (hk : k < n) (c2 : w.cell? ⟨g, k * 4, none⟩ = some (.slice di dn dc)) : Calls Tryz.prog 14 #[.pointer (some ⟨X, 0, none⟩), .int .i64 k] w fun e w' => e = .returned (.bool (decide (0 < dn))) ∧ w' = w := by
  have HA := hide (answered_yes k c1 hk)
  have hii : (k : Int) < (n : Int) := by omega
  by_cases hd : 0 < dn
  · have h1 : decide ((dn : Int) > 0) = true := by simp; omega
    have h2 : decide (0 < (dn : Int)) = true := by simp; omega
    have h3 : decide (0 < dn) = true := by simp; omega
    rw [h3]
    go_enter Tryz.func14, Tryz.ntmps14
    go_wp2_with (go_at_call 27; refine HA.out.mono ?_; rintro e w5 ⟨rfl, hw⟩; have hw' := hw.symm; clear hw; subst hw'; clear HA)
    go_ret
    exact ⟨rfl, rfl⟩
  · have h1 : decide ((dn : Int) > 0) = false := by simp; omega
    have h2 : decide (0 < (dn : Int)) = false := by simp; omega
    have h3 : decide (0 < dn) = false := by simp; omega
    rw [h3]
    go_enter Tryz.func14, Tryz.ntmps14
    go_wp2_with (go_at_call 27; refine HA.out.mono ?_; rintro e w5 ⟨rfl, hw⟩; have hw' := hw.symm; clear hw; subst hw'; clear HA)
    go_ret
    exact ⟨rfl, rfl⟩
set_option maxHeartbeats 4000000 in
set_option maxRecDepth 100000 in
theorem text_yes {g k : Nat} {t : Bool} (c1 : w.cell? ⟨X, 1, none⟩ = some (.slice (some ⟨g, 0, none⟩) n sc)) (hk : k < n) (c2 : w.cell? ⟨g, k * 4 + 3, none⟩ = some (.bool t)) : Calls Tryz.prog 13 #[.pointer (some ⟨X, 0, none⟩), .int .i64 k] w fun e w' => e = .returned (.bool t) ∧ w' = w := by
  have HA := hide (answered_yes k c1 hk)
  have hii : (k : Int) < (n : Int) := by omega
  cases t <;>
  · go_enter Tryz.func13, Tryz.ntmps13
    go_wp2_with (go_at_call 27; refine HA.out.mono ?_; rintro e w5 ⟨rfl, hw⟩; have hw' := hw.symm; clear hw; subst hw'; clear HA)
    go_ret
    exact ⟨rfl, rfl⟩
end Go.Proofs.YtoahlnmhjinneaaGreatDoor

set_option linter.unusedSimpArgs false
set_option linter.unusedVariables false
namespace Go.Proofs.YtoahlnmhjinneaaGreatDoor
open Go.RowKit Go.Maps Go.Lib
variable {w w' w1 W : World} {X n sc : Nat} {si : Option Addr}
set_option maxHeartbeats 4000000 in
set_option maxRecDepth 100000 in
theorem keep_yes {g k : Nat} {a b : Bool} (c1 : w.cell? ⟨X, 1, none⟩ = some (.slice (some ⟨g, 0, none⟩) n sc)) (hk : k < n) (c2 : w.cell? ⟨g, k * 4 + 1, none⟩ = some (.bool a)) (c3 : w.cell? ⟨g, k * 4 + 2, none⟩ = some (.bool b)) : Calls Tryz.prog 12 #[.pointer (some ⟨X, 0, none⟩), .int .i64 k] w fun e w' => e = .returned (.tuple #[.bool a, .bool b]) ∧ ∃ m, w' = w.drewN m := by
  have HA := hide (answered_yes k c1 hk)
  have hii : (k : Int) < (n : Int) := by omega
  go_enter Tryz.func12, Tryz.ntmps12
  go_wp2_with (go_at_call 27; refine HA.out.mono ?_; rintro e w5 ⟨rfl, hw⟩; have hw' := hw.symm; clear hw; subst hw'; clear HA)
  go_quiet (fail)
  go_wp2
  refine bodyPost_ret (v := .tuple #[.bool a, .bool b]) (by simp [results, Tryz.results12, go_sem]) rfl ⟨rfl, _, rfl⟩
end Go.Proofs.YtoahlnmhjinneaaGreatDoor

set_option linter.unusedSimpArgs false
set_option linter.unusedVariables false
namespace Go.Proofs.YtoahlnmhjinneaaGreatDoor
open Go.RowKit Go.Maps Go.Lib
variable {w w' w1 W : World}
theorem num_ok (n : Nat) (w : World) : Calls Tryz.prog 8 #[.int .i64 n] w fun e w' => e = .returned (.int .i64 n) ∧ w' = w := by
  go_enter Tryz.func8, Tryz.ntmps8
  go_wp2
  go_ret
  exact ⟨rfl, rfl⟩
def StR (w : World) (v : Value) (l : List L) : Prop := ∃ ai cap, v = .slice ai l.length cap ∧ (l.length ≤ 1000000000000 ∧ l.length ≤ cap) ∧ ∀ i x, l[i]? = some x → ∃ g off, ai = some ⟨g, off, none⟩ ∧ g < w.heap.size ∧ w.cell? ⟨g, off + i, none⟩ = some (.string (bs x))
theorem StR.below {v : Value} {l : List L} (h : StR w v l) (hb : Below w.heap.size w w') : StR w' v l := by
  obtain ⟨ai, cap, rfl, hn, hr⟩ := h
  refine ⟨ai, cap, rfl, hn, fun i m hm => ?_⟩
  obtain ⟨g, off, e, hg, h0⟩ := hr i m hm
  exact ⟨g, off, e, Nat.lt_of_lt_of_le hg hb.size, (World.cell?_of_block (hb.block g hg)).trans h0⟩
set_option maxHeartbeats 8000000 in
set_option maxRecDepth 100000 in
theorem same_yes (l : List L) (va vb : Value) (w : World) (ha : StR w va l) (hb : StR w vb l) : Calls Tryz.prog 9 #[va, vb] w fun e w' => e = .returned (.bool true) ∧ ∃ m, w' = w.drewN m := by
  obtain ⟨ai, ac, rfl, ⟨hn, -⟩, hr⟩ := ha
  obtain ⟨bi, bc, rfl, -, hs⟩ := hb
  have HP : Hid (∀ m i, i < l.length → ∃ g1 o1 g2 o2 T, ai = some ⟨g1, o1, none⟩ ∧ bi = some ⟨g2, o2, none⟩ ∧ (w.drewN m).cell? ⟨g1, o1 + i, none⟩ = some (.string T) ∧ (w.drewN m).cell? ⟨g2, o2 + i, none⟩ = some (.string T)) := fun m i hi => by
    have hx : l[i]? = some l[i] := List.getElem?_eq_getElem hi
    obtain ⟨g1, o1, e1, -, h1⟩ := hr i _ hx
    obtain ⟨g2, o2, e2, -, h2⟩ := hs i _ hx
    exact ⟨g1, o1, g2, o2, _, e1, e2, h1, h2⟩
  clear hr hs
  generalize l.length = n at *
  have hnn : ((n : Int) != n) = false := by simp
  go_enter Tryz.func9, Tryz.ntmps9
  go_wp2_with fail
  go_loopw [5] (fun iv wr => ∃ i : Nat, iv = .int .i64 i ∧ i ≤ n ∧ ∃ m, wr = w.drewN m) (fun iv _ => n - (RowKit.intOf iv).toNat)
  case atStart => exact ⟨0, rfl, Nat.zero_le _, 0, rfl⟩
  case round =>
    obtain ⟨i, rfl, hi, m, rfl⟩ := hrel
    by_cases hlt : i < n
    · obtain ⟨g1, o1, g2, o2, T, rfl, rfl, c1, c2⟩ := HP.out m i hlt
      have hdec : decide ((i : Int) < n) = true := by simp; omega
      have hii : (i : Int) < n := by omega
      have HW : Hid (∀ k, ∃ m', (w.drewN m).drewN k = w.drewN m') := fun k => ⟨m + k, by rw [World.drewN_drewN]⟩
      have hTT : (T.toList == T.toList) = true := by simp
      have hTN : (T.toList != T.toList) = false := by simp
      clear HP
      generalize w.drewN m = WO at *
      go_wp2_with fail
      go_quiet (fail)
      go_wp2
      exact ⟨⟨i + 1, by simp, by omega, HW.out _⟩, by simp only [RowKit.intOf]; omega⟩
    · have hdec : decide ((i : Int) < n) = false := by simp; omega
      go_wp2
      go_ret
      exact ⟨rfl, m, rfl⟩
end Go.Proofs.YtoahlnmhjinneaaGreatDoor
