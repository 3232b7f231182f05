import Derived.Test.YtbbocgeapofloaiGreatDoorAy
import Derived.Test.YtbbocgeapofloaiGreatDoorAo
import Derived.Test.YtbbocgeapofloaiGreatDoorAv
set_option linter.unusedVariables false
set_option linter.unusedSimpArgs false
set_option linter.unusedSimpArgs false
set_option linter.unusedVariables false
namespace Go.Proofs.YtbbocgeapofloaiGreatDoor
open Go.RowKit Go.Maps Go.Lib

variable {X : Nat} {w w' w'' wr : World} {s t : ByteArray} {lv : Value} {x x' : Sc} {F : Nat → Prop} {cs : List Value}

/-- The document's own tokens in memory, as they are answered. -/
def RAns (w : World) (v : Value) (l : List Tok) : Prop := ∃ F X cs, w.ownsRow 0 68 5 v l.length cs ∧ RToks F X w l cs

theorem app_nil26 (b : Option Addr) (n c : Nat) (h : n ≤ c) (w : World) : (Builtin.append_ #[26, 26] 26 #[.slice b n c, .slice none 0 0]).run Tryz.prog w = .ok (.slice b n c) w := by
  cases b <;> simp [Builtin.append_, underlying, Tryz.underlying26, Tryz.sizeOf68, Builtin.lenOf, Builtin.firstCells, h, storeCells, Result.andThen]

set_option maxHeartbeats 4000000 in
set_option maxRecDepth 10000 in
theorem last_ref (h : SAt X w s lv x) : Calls Tryz.prog 14 #[.pointer (some ⟨X, 0, none⟩)] w fun en w' => ∃ v, en = .returned v ∧ Below w.heap.size w w' ∧ ((x.last = [] ∧ v = .slice none 0 0) ∨ (x.last = [txtTok x] ∧ v = .slice (some ⟨w.heap.size, 0, none⟩) 1 1 ∧ w'.heap[w.heap.size]? = some (.cells (tokCells (txtTok x) (.slice none 0 0)).toArray 68))) := by
  have c3 : w.cell? ⟨X, 3, none⟩ = some (.string ⟨x.more.toArray⟩) := h.cell 3 rfl
  have c4 : w.cell? ⟨X, 4, none⟩ = some (.int .i64 x.frm) := h.cell 4 rfl
  have c5 : w.cell? ⟨X, 5, none⟩ = some (.int .i64 x.err) := h.cell 5 rfl
  unfold Sc.last
  clear h
  by_cases he : x.err = 0
  · have e0 : (x.err != 0) = false := by simpa using he
    by_cases hm : x.more = []
    · rw [if_pos (Or.inr hm)]
      have em : x.more.isEmpty = true := by rw [hm]; rfl
      clear he hm
      go_enter Tryz.func14, Tryz.ntmps14
      go_wp2
      go_ret
      exact ⟨_, rfl, Below.refl _ _, Or.inl ⟨trivial, rfl⟩⟩
    · rw [if_neg (by rintro (h | h); exact h he; exact hm h)]
      have em : x.more.isEmpty = false := by simpa using hm
      clear he hm
      go_enter Tryz.func14, Tryz.ntmps14
      go_wp2_with fail
      have d3 : (w.alloc (.cells #[.int .i64 3, .string ⟨#[]⟩, .slice none 0 0, .string ⟨x.more.toArray⟩, .int .i64 x.frm] 68)).cell? ⟨X, 3, none⟩ = some (.string ⟨x.more.toArray⟩) := cell_alloc _ c3
      have d4 : (w.alloc (.cells #[.int .i64 3, .string ⟨#[]⟩, .slice none 0 0, .string ⟨x.more.toArray⟩, .int .i64 x.frm] 68)).cell? ⟨X, 4, none⟩ = some (.int .i64 x.frm) := cell_alloc _ c4
      go_region_held3 (fun W => W.cell? ⟨X, 3, none⟩ = some (.string ⟨x.more.toArray⟩) ∧ W.cell? ⟨X, 4, none⟩ = some (.int .i64 x.frm))
        (first | exact ⟨c3, c4⟩ | exact ⟨d3, d4⟩)
        (fail)
      all_goals
        go_wp2
        go_ret
        exact ⟨_, rfl, ((Below.refl _ _).alloc (Nat.le_refl _) _).drew, Or.inr ⟨trivial, rfl, Below_new _ _⟩⟩
  · have e0 : (x.err != 0) = true := by simpa using he
    rw [if_pos (Or.inl he)]
    clear he
    go_enter Tryz.func14, Tryz.ntmps14
    go_wp2
    go_ret
    exact ⟨_, rfl, Below.refl _ _, Or.inl ⟨trivial, rfl⟩⟩

/-- The tokens, with the last one. -/
theorem add_last (h : RS F X w s lv cs x) {w1 : World} (b : Below w.heap.size w w1) (v : Value) (hv : (x.last = [] ∧ v = .slice none 0 0) ∨ (x.last = [txtTok x] ∧ v = .slice (some ⟨w.heap.size, 0, none⟩) 1 1 ∧ w1.heap[w.heap.size]? = some (.cells (tokCells (txtTok x) (.slice none 0 0)).toArray 68))) (hn : x.l.length ≤ 1099511627776) :
    ∃ v' w2, (Builtin.append_ #[26, 26] 26 #[lv, v]).run Tryz.prog w1 = .ok v' w2 ∧ RAns w2 v' (x.l ++ x.last) ∧ w1.grownBy w2 lv.ownBlock := by
  have row1 : w1.ownsRow 0 68 5 lv x.l.length cs := owns_of h.row fun k e => b.block k (h.lt k (h.own k e).1)
  have toks1 : RToks F X w1 x.l cs := h.toks.frame fun k _ _ _ _ _ a _ => ⟨b.block k (h.lt k a), a⟩
  rcases hv with ⟨e1, rfl⟩ | ⟨e1, rfl, hb⟩
  · obtain ⟨ai, ac, rfl, hle⟩ : ∃ ai ac, lv = .slice ai x.l.length ac ∧ x.l.length ≤ ac := by
      rcases row1.2 with ⟨rfl, hn⟩ | ⟨g, cap, cur, rfl, hbb, hg, hc, hm, hcs, htk⟩
      · exact ⟨none, 0, by rw [hn], by omega⟩
      · exact ⟨_, _, rfl, hc⟩
    refine ⟨_, w1, app_nil26 ai _ ac hle w1, ⟨F, X, cs, ?_, ?_⟩, ⟨rfl, rfl, rfl, Nat.le_refl _, fun _ _ _ => rfl⟩⟩
    · rw [e1, List.append_nil]; exact row1
    · rw [e1, List.append_nil]; exact toks1
  · obtain ⟨i0, hi, hz0, hz1, hz2⟩ := info_parts info56
    have hcell : ∀ j u, (tokCells (txtTok x) (.slice none 0 0))[j]? = some u → w1.cell? ((⟨w.heap.size, 0, none⟩ : Addr).add j) = some u := by
      intro j u hj
      rw [Addr.add_mid, Nat.zero_add]
      refine cell_of hb ?_
      simpa using hj
    obtain ⟨v', w2, hr, ho, hgr, _, hat⟩ := run_append_own_at (P := Tryz.prog) w1 0 26 26 68 i0 _ 5 72 Tryz.underlying26 hi hz0 hz1 hz2 rfl (by decide) lv x.l.length cs row1 ⟨w.heap.size, 0, none⟩ 1 1 (tokCells (txtTok x) (.slice none 0 0)) rfl hcell (tok_one _ _ rfl) (by unfold maxLen; omega) (by omega) (Nat.zero_le _)
    refine ⟨v', w2, hr, ⟨F, X, cs ++ tokCells (txtTok x) (.slice none 0 0), ?_, ?_⟩, hgr⟩
    · rw [e1]; simp only [List.length_append, List.length_cons, List.length_nil, Nat.zero_add]; exact ho
    · rw [e1]
      refine (toks1.frame fun k n xs u hu e a c => ⟨?_, a⟩).app ⟨.slice none 0 0, [], by simp, World.ownsRow_nil _ _ _ _, by intro k e; simp [Value.ownBlock] at e, rfl⟩
      exact hgr.block k (own_lt hu e) (fun e2 => tag_ne hu row1 (by decide) e e2.symm)

theorem wpList_app26 {ops : Array Oper} {rest : List Oper} {o : Oper} {a : Act} {w : World} {Q : Exit → Act → World → Prop} (hgd : o.guard = none) (s x : Operand) (ho : o.op = Op.call { callee := Callee.builtin Builtin.append, args := #[s, x], argTypes := #[26, 26] }) (hty : o.type = 26)
    (v1 v2 : Value) (hs : a.eval s = v1) (hx : a.eval x = v2) {v' : Value} {w' : World} (hr : (Builtin.append_ #[26, 26] 26 #[v1, v2]).run Tryz.prog w = .ok v' w') (h : wpList Tryz.prog ops Q rest (a.put o.dst v') w') : wpList Tryz.prog ops Q (o :: rest) a w := by
  refine wpList_plain hgd fun K hK => ?_
  unfold Oper.wp execOp
  simp only [ho, hty, resolve, invoke, builtin, Sem.run_bind, Sem.run_pure, Result.andThen_ok, List.map_toArray, List.map_cons, List.map_nil, hs, hx, hr]
  exact hK _ _ h

theorem read_len (s : ByteArray) : (readS s).l.length ≤ 3 * s.size + 3 := by
  have key : ∀ (f : Nat) (x : Sc), x.err = 0 → x.i ≤ s.size → x.l.length ≤ 3 * x.i → (readF s f x).l.length ≤ 3 * s.size + 3 := by
    intro f
    induction f with
    | zero => intro x he hi hl; show x.l.length ≤ _; omega
    | succ f ih =>
      intro x he hi hl
      simp only [readF]
      split
      · rename_i hc
        rcases done_piece (g := fun _ => []) he hc.1 (rel_any x) with ⟨h1, h2, h3, h4, _⟩ | ⟨h1, h2, _⟩
        · exact ih _ h1 h3 (by have := h4.2.2; omega)
        · rw [readF_err h1, h2]; omega
      · omega
  exact key _ Sc.zero rfl (Nat.zero_le _) (Nat.zero_le _)

set_option maxHeartbeats 4000000 in
set_option maxRecDepth 10000 in
/-- The document's own All. -/
theorem refAll_ok (s : ByteArray) (w : World) (hs : s.size ≤ 2147483648) : Calls Tryz.prog 5 #[.string s] w fun en w' => ∃ v, en = .returned (.tuple #[v, .int .i64 (refAll s).2.1, .int .i64 (refAll s).2.2]) ∧ RAns w' v (refAll s).1 ∧ Below w.heap.size w w' := by
  have hrd := read_ref s w (by omega)
  have hlen := read_len s
  unfold refAll
  by_cases he : (readS s).err = 0
  · rw [if_neg (by simpa using he)]
    have e0 : ((readS s).err != 0) = false := by simpa using he
    clear he
    go_enter Tryz.func5, Tryz.ntmps5
    go_wp2_with fail
    refine hrd.mono ?_
    rintro e w1 ⟨rfl, F, lv, cs, rs, b1, hF⟩
    have c5 : w1.cell? ⟨w.heap.size, 5, none⟩ = some (.int .i64 (readS s).err) := rs.sat.cell 5 rfl
    have hla := last_ref rs.sat
    have RS1 := hide rs
    have B1 := hide b1
    have HF := hide hF
    clear rs b1 hF hrd
    go_wp2_with fail
    refine hla.mono ?_
    rintro e w2 ⟨v, rfl, b2, hv⟩
    have c2 : w2.cell? ⟨w.heap.size, 2, none⟩ = some lv := (b2.cell (RS1.out.lt _ RS1.out.has)).trans (RS1.out.sat.cell 2 rfl)
    obtain ⟨v', w3, hrun, an, gr⟩ := add_last RS1.out b2 v hv (by omega)
    have AN := hide an
    have GR := hide gr
    have B2 := hide b2
    clear an gr b2 hv hla
    go_wp2_with (at_builtin; refine wpList_app26 rfl (.tmp 27) (.tmp 28) rfl rfl _ _ rfl rfl hrun ?_)
    go_ret3
    refine ⟨v', rfl, AN.out, ?_⟩
    have hz := B1.out.size
    have hz2 := B2.out.size
    refine (B1.out.trans (below_less B2.out hz)).trans ⟨GR.out.os, GR.out.tape, GR.out.output, GR.out.size, fun k hk => GR.out.block k (by omega) (fun e => ?_)⟩
    have := HF.out k (RS1.out.own k e.symm).1
    omega
  · rw [if_pos (by simpa using he)]
    have e0 : ((readS s).err != 0) = true := by simpa using he
    clear he
    go_enter Tryz.func5, Tryz.ntmps5
    go_wp2_with fail
    refine hrd.mono ?_
    rintro e w1 ⟨rfl, F, lv, cs, rs, b1, hF⟩
    have c5 : w1.cell? ⟨w.heap.size, 5, none⟩ = some (.int .i64 (readS s).err) := rs.sat.cell 5 rfl
    have c6 : w1.cell? ⟨w.heap.size, 6, none⟩ = some (.int .i64 (readS s).at_) := rs.sat.cell 6 rfl
    have B1 := hide b1
    clear rs b1 hF hrd
    go_wp2_with fail
    go_quiet (fail)
    go_wp2
    go_ret3
    exact ⟨_, rfl, ⟨fun _ => False, 0, [], World.ownsRow_nil _ _ _ _, rfl⟩, below_drewN B1.out _⟩
end Go.Proofs.YtbbocgeapofloaiGreatDoor
