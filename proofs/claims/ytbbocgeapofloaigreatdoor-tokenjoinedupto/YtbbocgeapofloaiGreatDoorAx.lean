import Derived.Test.YtbbocgeapofloaiGreatDoorAu
set_option linter.unusedVariables false
set_option linter.unusedSimpArgs false
set_option linter.unusedSimpArgs false
set_option linter.unusedVariables false
namespace Go.Proofs.YtbbocgeapofloaiGreatDoor
open Go.RowKit Go.Maps Go.Lib

variable {X : Nat} {w w' w'' wr : World} {s t : ByteArray} {lv : Value} {x x' : Sc}

/-- The attributes in memory, while they are read. -/
structure AI (X : Nat) (w : World) (s : ByteArray) (lv : Value) (y : Sc × Ats) (wr : World) (x : Sc) (l : Ats) (v : Value) (f : Nat) : Prop where
  se : SE X w s lv x wr
  row : wr.ownsRow 0 114 2 v l.length (attrCells l)
  own : ∀ k, v.ownBlock = some k → w.heap.size ≤ k
  le : x.err = 0 → x.i ≤ s.size
  eq : attrsF s f x l = y
  fuel : x.err = 0 → s.size + 1 < x.i + f
  len : l.length ≤ s.size + 1 ∧ (x.err = 0 → l.length ≤ x.i)

/-- A row beside the reader stays. -/
theorem row_stays {l : Ats} {v : Value} {w1 w2 : World} (h : w1.ownsRow 0 114 2 v l.length (attrCells l)) (hX : v.ownBlock ≠ some X) (b : But X w1 w2) : w2.ownsRow 0 114 2 v l.length (attrCells l) :=
  owns_of h fun k e => b.block k (own_lt h e) (fun e2 => hX (by rw [e, e2]))

/-- The attributes of a row, one by one. -/
theorem rattr_cells {l : Ats} {g cap : Nat} (h : w.ownsRow 0 114 2 (.slice (some ⟨g, 0, none⟩) l.length cap) l.length (attrCells l)) (i : Nat) (hi : i < l.length) :
    w.cell? ⟨g, i * 2, none⟩ = some (strV (l[i]).1) ∧ w.cell? ⟨g, i * 2 + 1, none⟩ = some (strV (l[i]).2) := by
  have hc := h.cells (g := g) rfl
  have key : ∀ (l : Ats) (i : Nat) (hi : i < l.length), (attrCells l)[i * 2]? = some (strV (l[i]).1) ∧ (attrCells l)[i * 2 + 1]? = some (strV (l[i]).2) := by
    intro l
    induction l with
    | nil => intro i hi; cases hi
    | cons x l ih =>
      intro i hi
      cases i with
      | zero => exact ⟨rfl, rfl⟩
      | succ i =>
        have := ih i (by simpa using hi)
        have e1 : (i + 1) * 2 = i * 2 + 2 := by omega
        rw [e1]
        simpa [attrCells] using this
  obtain ⟨k1, k2⟩ := key l i hi
  have h1 := hc _ _ k1
  have h2 := hc _ _ k2
  rw [Addr.add_mid, Nat.zero_add] at h1 h2
  exact ⟨h1, h2⟩

theorem rattr_at {l : Ats} {ai : Option Addr} {ac : Nat} (h : w.ownsRow 0 114 2 (.slice ai l.length ac) l.length (attrCells l)) (i : Nat) (hi : i < l.length) :
    ∃ g, ai = some ⟨g, 0, none⟩ ∧ w.cell? ⟨g, i * 2, none⟩ = some (.string ⟨(l[i]).1.toArray⟩) := by
  have h' := h
  rcases h'.2 with ⟨e, e0⟩ | ⟨ga, ca', cur, e, _⟩
  · omega
  cases e
  exact ⟨ga, rfl, (rattr_cells h i hi).1⟩

set_option maxHeartbeats 2000000 in
theorem must_err (h : SAt X w s lv x) (he : x.err ≠ 0) (t : ByteArray) (ht : 0 < t.size) : Calls Tryz.prog 32 #[.pointer (some ⟨X, 0, none⟩), .string t] w fun en w' => en = .returned (.tuple #[]) ∧ SE X w s lv x w' := by
  have c5 : w.cell? ⟨X, 5, none⟩ = some (.int .i64 x.err) := h.cell 5 rfl
  have e0 : (x.err == 0) = false := by simpa using he
  have hd : decide ((0 : Int) < t.size) = true := by simp; omega
  have H := hide (SE.refl h)
  clear h he
  go_enter Tryz.func32, Tryz.ntmps32
  go_wp2_with fail
  refine wp_loop_rounds 1 ?_
  rw [rounds_succ]
  go_wp2_with fail
  go_end0
  exact ⟨rfl, H.out⟩

theorem must_any (h : SAt X w s lv x) (hs : s.size ≤ 1125899906842624) (hi : x.err = 0 → x.i ≤ s.size) (t : ByteArray) (h0 : 0 < t.size) (ht : t.size ≤ 1024) : Calls Tryz.prog 32 #[.pointer (some ⟨X, 0, none⟩), .string t] w fun en w' => en = .returned (.tuple #[]) ∧ SE X w s lv (Sc.mustL s (drp t 0) x) w' := by
  by_cases he : x.err = 0
  · exact must_sc h hs (hi he) t (by omega)
  · rw [mustL_err s _ he]; exact must_err h he t h0

theorem wpList_app54 {ops : Array Oper} {rest : List Oper} {o : Oper} {a : Act} {w : World} {Q : Exit → Act → World → Prop} (hgd : o.guard = none) (s x : Operand) (ho : o.op = Op.call { callee := Callee.builtin Builtin.append, args := #[s, x], argTypes := #[66, 66] }) (hty : o.type = 66)
    (v1 v2 : Value) (hs : a.eval s = v1) (hx : a.eval x = v2) {v' : Value} {w' : World} (hr : (Builtin.append_ #[66, 66] 66 #[v1, v2]).run Tryz.prog w = .ok v' w') (h : wpList Tryz.prog ops Q rest (a.put o.dst v') w') : wpList Tryz.prog ops Q (o :: rest) a w := by
  refine wpList_plain hgd fun K hK => ?_
  unfold Oper.wp execOp
  simp only [ho, hty, resolve, invoke, builtin, Sem.run_bind, Sem.run_pure, Result.andThen_ok, List.map_toArray, List.map_cons, List.map_nil, hs, hx, hr]
  exact hK _ _ h

theorem blanks_e (x : Sc) (s : ByteArray) : (x.blanks s).err = x.err := rfl
theorem twice_le (h : x.err = 0 → x.i ≤ s.size) (l : Ats) : (x.twice s l).err = 0 → (x.twice s l).i ≤ s.size := by
  intro he
  have h0 : x.err = 0 := by
    by_cases e : x.err = 0
    · exact e
    · exfalso
      have hn : x.name s = (x, ⟨#[]⟩) := by unfold Sc.name; rw [if_neg e]
      have : x.twice s l = x := by
        unfold Sc.twice; rw [hn]; simp only; split
        · unfold Sc.fail; rw [if_neg e]
        · rfl
      rw [this] at he; exact e he
  by_cases hb : Ch.begins (cur s x.i) = true
  · obtain ⟨n1, n2⟩ := name_yes h0 hb
    unfold Sc.twice
    rw [n1]
    have hle := nend_le (s := s) (h h0)
    split
    · rw [fail_i]; exact hle
    · exact hle
  · exfalso
    have hn := name_no (s := s) h0 hb
    have hwe := wrong_err x s h0
    have : x.twice s l = x.wrong s := by
      unfold Sc.twice; rw [hn]; simp only; split
      · unfold Sc.fail; rw [if_neg hwe]
      · rfl
    rw [this] at he; exact hwe he
theorem blanks_le (h : x.err = 0 → x.i ≤ s.size) : (x.blanks s).err = 0 → (x.blanks s).i ≤ s.size := by
  intro he
  rw [blanks_e] at he
  rw [blanks_gap he]
  exact gap_le (h he)
theorem must_le (h : x.err = 0 → x.i ≤ s.size) {c : UInt8} (hc : 32 ≤ c.toNat ∧ c.toNat < 128) : (Sc.mustL s [c] x).err = 0 → (Sc.mustL s [c] x).i ≤ s.size := by
  by_cases he : x.err = 0
  · rw [must_one he hc]
    split
    · rename_i hq
      have := cur_pos (s := s) (i := x.i) (by omega)
      intro _; show x.i + 1 ≤ _; omega
    · intro e; exact absurd e (wrong_err x s he)
  · rw [mustL_err s _ he]; exact h
theorem equal_le (h : x.err = 0 → x.i ≤ s.size) (l : Ats) : (x.equal s l).err = 0 → (x.equal s l).i ≤ s.size :=
  blanks_le (must_le (blanks_le (twice_le h l)) (by decide))

/-- So far: does the name stand there? -/
def Sc.tw (x : Sc) (s : ByteArray) (l : Ats) (k : Nat) : Sc := x.twice s (l.take k)
theorem tw_zero (x : Sc) (s : ByteArray) (l : Ats) : x.tw s l 0 = (x.name s).1 := by unfold Sc.tw Sc.twice; simp
theorem tw_all (x : Sc) (s : ByteArray) (l : Ats) : x.tw s l l.length = x.twice s l := by unfold Sc.tw; rw [List.take_length]
theorem fail_fail (x : Sc) (e a : Int) (he : e ≠ 0) : (x.fail e a).fail e a = x.fail e a := by
  unfold Sc.fail
  by_cases h : x.err = 0
  · rw [if_pos h, if_neg (by simpa using he)]
  · rw [if_neg h, if_neg h]
theorem any_succ (l : Ats) (k : Nat) (hk : k < l.length) (p : List UInt8 × List UInt8 → Bool) : (l.take (k + 1)).any p = ((l.take k).any p || p l[k]) := by
  rw [List.take_succ_eq_append_getElem hk, List.any_append]; simp
theorem tw_same (x : Sc) (s : ByteArray) (l : Ats) (k : Nat) (hk : k < l.length) (h : ((l[k]).1 == (x.name s).2.data.toList) = false) : x.tw s l (k + 1) = x.tw s l k := by
  unfold Sc.tw Sc.twice
  rw [any_succ l k hk, h, Bool.or_false]
theorem tw_fail (x : Sc) (s : ByteArray) (l : Ats) (k : Nat) (hk : k < l.length) (h : ((l[k]).1 == (x.name s).2.data.toList) = true) : x.tw s l (k + 1) = (x.tw s l k).fail 5 x.i := by
  unfold Sc.tw Sc.twice
  rw [any_succ l k hk, h, Bool.or_true, if_pos rfl]
  split
  · rw [fail_fail _ _ _ (by decide)]
  · rfl
end Go.Proofs.YtbbocgeapofloaiGreatDoor
set_option linter.unusedSimpArgs false
set_option linter.unusedVariables false
namespace Go.Proofs.YtbbocgeapofloaiGreatDoor
open Go.RowKit Go.Maps Go.Lib

variable {X : Nat} {w w' w'' wr : World} {s t : ByteArray} {lv : Value} {x x' : Sc}

theorem rattr_news (w : World) (a b : List UInt8) : ∀ j u, [strV a, strV b][j]? = some u → (w.alloc (.cells #[strV a, strV b] 114)).cell? ((⟨w.heap.size, 0, none⟩ : Addr).add j) = some u := by
  intro j u hj
  have hb : (w.alloc (.cells #[strV a, strV b] 114)).heap[w.heap.size]? = some (.cells #[strV a, strV b] 114) := Below_new _ _
  match j, hj with
  | 0, hj => cases hj; exact cell_of hb rfl
  | 1, hj => cases hj; exact cell_of hb rfl

/-- One attribute more. -/
theorem attr_more (W : World) {ai : Option Addr} {ac : Nat} {l : Ats} (row : W.ownsRow 0 114 2 (.slice ai l.length ac) l.length (attrCells l)) (a b : List UInt8) (hl : l.length ≤ 1099511627778) :
    ∃ v' W', (Builtin.append_ #[66, 66] 66 #[.slice ai l.length ac, .slice (some ⟨W.heap.size, 0, none⟩) 1 1]).run Tryz.prog (W.alloc (.cells #[strV a, strV b] 114)) = .ok v' W' ∧ W'.ownsRow 0 114 2 v' (l ++ [(a, b)]).length (attrCells (l ++ [(a, b)])) ∧ (W.alloc (.cells #[strV a, strV b] 114)).grownBy W' (Value.slice ai l.length ac).ownBlock ∧ (v'.ownBlock = (Value.slice ai l.length ac).ownBlock ∨ v'.ownBlock = some (W.heap.size + 1)) := by
  obtain ⟨i0, hi, hz0, hz1, hz2⟩ := info_parts info75
  obtain ⟨v', W', hrun, r1, r2, _, r4⟩ := run_append_own_at (P := Tryz.prog) (W.alloc (.cells #[strV a, strV b] 114)) 0 66 66 114 i0 _ 2 32 Tryz.underlying66 hi hz0 hz1 hz2 rfl (by decide) (.slice ai l.length ac) l.length (attrCells l) (row.alloc _) ⟨W.heap.size, 0, none⟩ 1 1 [strV a, strV b] rfl (rattr_news W a b) (attr_one a b) (by unfold maxLen; omega) (by omega) (Nat.zero_le _)
  refine ⟨v', W', hrun, ?_, r2, by simpa using r4⟩
  have e1 : (l ++ [(a, b)]).length = l.length + 1 := by simp
  have e2 : attrCells (l ++ [(a, b)]) = attrCells l ++ [strV a, strV b] := by simp [attrCells]
  rw [e1, e2]; exact r1

theorem attr_le {l : Ats} (he : x.err = 0) (hi : x.i ≤ s.size) (hbl : ¬ Tk.blank (cur s x.i) = true) (q47 : x.is s 47 = false) (q62 : x.is s 62 = false) : (x.attr s l).1.err = 0 → x.i < (x.attr s l).1.i ∧ (x.attr s l).1.i ≤ s.size := by
  have h47 : ¬ cur s x.i = 47 := fun e => by rw [(is_cur he (c := 47) (by omega)).2 e] at q47; cases q47
  have h62 : ¬ cur s x.i = 62 := fun e => by rw [(is_cur he (c := 62) (by omega)).2 e] at q62; cases q62
  have hA : InA x ⟨fun j => if j = .text then x.more else [], fun _ => x.frm, 0, l, l.map Prod.fst, 0, x.l⟩ l [] 0 := ⟨⟨rfl, rfl, fun _ => rfl⟩, rfl, rfl, rfl, rfl, rfl⟩
  rcases runs_attr (g := fun _ => []) he hi hA hbl h47 h62 with ⟨_, h2, h3, _⟩ | ⟨h1, _⟩
  · exact fun _ => ⟨h2, h3⟩
  · exact fun e => absurd e h1

theorem se_more {w9 W' : World} {o : Obj} {ro : Option Nat} (h : SE X w s lv x w9) (g : (w9.alloc o).grownBy W' ro) (hlt : X < w.heap.size) (hr : ∀ k, ro = some k → w.heap.size ≤ k) : SE X w s lv x W' := by
  have hz := h.2.size
  have hb : ∀ k, k < w.heap.size → W'.heap[k]? = w9.heap[k]? := fun k hk => by
    rw [g.block k (by simp; omega) (fun e => by have := hr k e.symm; omega)]
    exact Below.heap_alloc _ _ k (by omega)
  refine ⟨(hb X hlt).trans h.1, ⟨g.os.trans h.2.os, g.tape.trans h.2.tape, g.output.trans h.2.output, ?_, fun k hk hX => (hb k hk).trans (h.2.block k hk hX)⟩⟩
  have := g.size
  simp at this; omega

theorem AI.next {y : Sc × Ats} {l : Ats} {ai : Option Addr} {ac f : Nat} {B : Sc} {w9 W' : World} {o : Obj} {v' : Value} (hlt : X < w.heap.size) (U : AI X w s lv y wr x l (.slice ai l.length ac) (f + 1)) (he : x.err = 0) (hB : x.blanks s = B) (hBi : x.i < B.i)
    (q47 : B.is s 47 = false) (q62 : B.is s 62 = false) (heq : attrsF s f (B.attr s l).1 (l ++ [(B.attr s l).2]) = y) (R9 : SE X w s lv (B.attr s l).1 w9) (row : W'.ownsRow 0 114 2 v' (l ++ [(B.attr s l).2]).length (attrCells (l ++ [(B.attr s l).2])))
    (g : (w9.alloc o).grownBy W' (Value.slice ai l.length ac).ownBlock) (hat : v'.ownBlock = (Value.slice ai l.length ac).ownBlock ∨ v'.ownBlock = some (w9.heap.size + 1)) :
    AI X w s lv y W' (B.attr s l).1 (l ++ [(B.attr s l).2]) v' f ∧ left X s.size W' < left X s.size wr := by
  have hle := U.le he
  have hfu := U.fuel he
  have hln := U.len.2 he
  have hBe : B.err = 0 := by rw [← hB]; exact he
  have hBl : B.i ≤ s.size := by rw [← hB] at hBe ⊢; exact blanks_le U.le hBe
  have hbl : ¬ Tk.blank (cur s B.i) = true := by rw [← hB, blanks_gap he]; exact gap_end s x.i
  have ha := attr_le (l := l) hBe hBl hbl q47 q62
  have se := se_more R9 g hlt U.own
  have hz := R9.2.size
  have hlen : (l ++ [(B.attr s l).2]).length = l.length + 1 := by simp
  refine ⟨⟨se, row, ?_, fun e => (ha e).2, heq, fun e => by have := ha e; omega, ⟨by omega, fun e => by have := ha e; omega⟩⟩, ?_⟩
  · intro k e
    rcases hat with h | h
    · exact U.own k (h.symm.trans e)
    · rw [h] at e; cases e; omega
  · rw [left_eq se.1 s.size, left_eq U.se.1 s.size, if_pos he]
    split
    · rename_i e; have := ha e; omega
    · omega

set_option maxHeartbeats 4000000 in
set_option maxRecDepth 10000 in
theorem attrs_sc (h : SAt X w s lv x) (hs : s.size ≤ 1125899906842624) (hsz : s.size ≤ 1099511627776) (hi : x.err = 0 → x.i ≤ s.size) :
    Calls Tryz.prog 37 #[.pointer (some ⟨X, 0, none⟩)] w fun en w' => ∃ v, en = .returned v ∧ SE X w s lv (x.attrs s).1 w' ∧ w'.ownsRow 0 114 2 v (x.attrs s).2.length (attrCells (x.attrs s).2) ∧ (∀ k, v.ownBlock = some k → w.heap.size ≤ k) := by
  have hlt := h.lt
  have h0 : AI X w s lv (x.attrs s) w x [] (.slice none 0 0) (s.size + 2) := ⟨SE.refl h, World.ownsRow_nil _ _ _ _, by intro k e; simp [Value.ownBlock] at e, hi, rfl, fun _ => by omega, ⟨by simp, fun _ => by simp⟩⟩
  generalize x.attrs s = y at *
  have H0 := hide h0
  have hbl := fun W x' (b : SAt X W s lv x') (hi : x'.err = 0 → x'.i ≤ s.size) => blanks_sc b hs hi
  have his := fun W x' (b : SAt X W s lv x') c (hc : c < 256) => is_sc b c hc
  have hnm := fun W x' (b : SAt X W s lv x') (hi : x'.err = 0 → x'.i ≤ s.size) => name_sc b hs hi
  have hfl := fun W x' (b : SAt X W s lv x') (e a : Int) => fail_sc b e a
  have hmu := fun W x' (b : SAt X W s lv x') (hi : x'.err = 0 → x'.i ≤ s.size) => must_any b hs hi ⟨#[61]⟩ (by decide) (by decide)
  have hvl := fun W x' (b : SAt X W s lv x') (hi : x'.i ≤ s.size) => value_sc b hs hi
  have HBL := hide hbl
  have HIS := hide his
  have HNM := hide hnm
  have HFL := hide hfl
  have HMU := hide hmu
  have HVL := hide hvl
  clear h h0 hi hbl his hnm hfl hmu hvl
  go_enter Tryz.func37, Tryz.ntmps37
  go_wp2_with fail
  go_loopw [3, 4, 5, 6, 7, 8] (fun v _ _ _ _ _ wr => ∃ x' l' f, AI X w s lv y wr x' l' v f) (fun _ _ _ _ _ _ wr => left X s.size wr)
  case atStart => exact ⟨_, _, _, H0.out⟩
  case round =>
    obtain ⟨x', l', f, u⟩ := hrel
    obtain ⟨ai, ac, rfl⟩ := slice_len u.row
    have hleft := left_eq u.se.1 s.size
    have hbl := HBL.out wr x' u.se.1 u.le
    by_cases hsk : x'.skip s = 0
    · rw [hsk] at hbl
      have hy : y = (x'.blanks s, l') := by
        have := u.eq
        cases f with
        | zero =>
          by_cases he : x'.err = 0
          · have := u.fuel he; have := u.le he; omega
          · rw [attrsF_err he] at this; rw [blanks_err he]; exact this.symm
        | succ f => simp only [attrsF] at this; rw [if_pos (Or.inl hsk)] at this; exact this.symm
      subst hy
      have U := hide u
      clear u hleft hsk
      go_wp2_with fail
      refine hbl.mono ?_
      rintro e w1 ⟨rfl, r1⟩
      have R1 := hide r1
      clear r1
      go_wp2
      go_ret
      refine ⟨_, rfl, U.out.se.on R1.out, row_stays U.out.row ?_ R1.out.2, U.out.own⟩
      intro e
      have := U.out.own X e
      omega
    · have he : x'.err = 0 := by
        by_cases he : x'.err = 0
        · exact he
        · exact absurd (by unfold Sc.skip; rw [if_neg he]) hsk
      have hk0 : ((x'.skip s : Int) == 0) = false := by simpa using hsk
      have hB := blanks_le u.le
      have hBe : (x'.blanks s).err = 0 := he
      have hBi : x'.i < (x'.blanks s).i := by show x'.i < x'.i + x'.skip s; omega
      have hBl := hB hBe
      have hb0 : ((x'.blanks s).err != 0) = false := by rw [hBe]; rfl
      have hfu := u.fuel he
      have hxl := u.le he
      rw [if_pos he] at hleft
      obtain ⟨f, rfl⟩ : ∃ g, f = g + 1 := ⟨f - 1, by omega⟩
      have heq := u.eq
      simp only [attrsF] at heq
      have hlen := u.len.2 he
      have hX : (Value.slice ai (List.length l') ac).ownBlock ≠ some X := by
        intro e
        have := u.own X e
        omega
      have U := hide u
      clear u
      generalize hbb : x'.blanks s = B at *
      have i47 := fun W (b : SAt X W s lv B) => HIS.out W B b 47 (by decide)
      have i62 := fun W (b : SAt X W s lv B) => HIS.out W B b 62 (by decide)
      cases q47 : B.is s 47
      · cases q62 : B.is s 62
        · rw [if_neg (by rw [q47, q62]; simp [hsk, hBe])] at heq
          rw [q47] at i47
          rw [q62] at i62
          have HEQ := hide heq
          have HE := hide he
          have HBE := hide hBe
          have HBN := hide hbb
          have I1 := hide i47
          have I2 := hide i62
          have HLEFT := hide hleft
          have Q1 := hide q47
          have Q2 := hide q62
          clear heq he hBe hbb i47 i62 hsk q47 q62 hleft
          go_wp2_with fail
          refine hbl.mono ?_
          rintro e w1 ⟨rfl, r1⟩
          have R1 := hide (U.out.se.on r1)
          have ROW1 := hide (row_stays U.out.row hX r1.2)
          have c15 : w1.cell? ⟨X, 5, none⟩ = some (.int .i64 B.err) := r1.1.cell 5 rfl
          clear r1 hbl
          go_wp2_with fail
          refine (I1.out _ R1.out.1).mono ?_
          rintro e w2 ⟨rfl, b2⟩
          have R2 := hide (R1.out.below hlt b2)
          have ROW2 := hide (owns_of ROW1.out fun k e => b2.block k (own_lt ROW1.out e))
          clear b2
          go_wp2_with fail
          refine (I2.out _ R2.out.1).mono ?_
          rintro e w3 ⟨rfl, b3⟩
          have R3 := hide (R2.out.below hlt b3)
          have ROW3 := hide (owns_of ROW2.out fun k e => b3.block k (own_lt ROW2.out e))
          have c31 : w3.cell? ⟨X, 1, none⟩ = some (.int .i64 B.i) := R3.out.1.cell 1 rfl
          clear b3 I1 I2
          go_wp2_with fail
          refine (HNM.out _ B R3.out.1 (fun _ => hBl)).mono ?_
          rintro e w4 ⟨rfl, r4⟩
          have R4 := hide (R3.out.on r4)
          have ROW4 := hide (row_stays ROW3.out hX r4.2)
          clear r4
          go_wp2_with fail
          go_loopw [7] (fun iv wr2 => ∃ k : Nat, iv = .int .i64 k ∧ k ≤ l'.length ∧ SE X w s lv (B.tw s l' k) wr2 ∧ wr2.ownsRow 0 114 2 (.slice ai l'.length ac) l'.length (attrCells l')) (fun iv _ => l'.length - (RowKit.intOf iv).toNat)
          case atStart => exact ⟨0, rfl, Nat.zero_le _, by rw [tw_zero]; exact R4.out, ROW4.out⟩
          case round =>
            obtain ⟨k, rfl, hk, se5, row5⟩ := hrel
            by_cases hlt5 : k < l'.length
            · have hdec : decide ((k : Int) < (l'.length : Int)) = true := by simp; omega
              have hwk : IntKind.i64.wrap ((k : Int) + 1) = (k : Int) + 1 := by rw [IntKind.wrap_i64]; omega
              obtain ⟨g, hai, cg⟩ := rattr_at row5 k hlt5
              have hnl : (B.name s).2.toList = (B.name s).2.data.toList := Lib.toList_data _
              have hkl : (⟨(l'[k]).1.toArray⟩ : ByteArray).toList = (l'[k]).1 := by rw [Lib.toList_data]
              cases hq : ((l'[k]).1 == (B.name s).2.data.toList)
              · have htw := tw_same B s l' k hlt5 hq
                have SE5 := hide se5
                have ROW5 := hide row5
                have hq2 : ((⟨(l'[k]).1.toArray⟩ : ByteArray).toList == (B.name s).2.toList) = false := by rw [hnl, hkl]; exact hq
                clear se5 row5 hq hnl hkl
                generalize (⟨(l'[k]).1.toArray⟩ : ByteArray) = nk at *
                generalize (B.name s).2 = NB at *
                subst hai
                go_wp2_with fail
                refine ⟨⟨k + 1, by simp, by omega, by rw [htw]; exact SE5.out, ROW5.out⟩, by simp only [RowKit.intOf]; omega⟩
              · have htw := tw_fail B s l' k hlt5 hq
                have hfl := HFL.out _ _ se5.1 5 B.i
                have SE5 := hide se5
                have ROW5 := hide row5
                have hq2 : ((⟨(l'[k]).1.toArray⟩ : ByteArray).toList == (B.name s).2.toList) = true := by rw [hnl, hkl]; exact hq
                clear se5 row5 hq hnl hkl
                generalize (⟨(l'[k]).1.toArray⟩ : ByteArray) = nk at *
                generalize (B.name s).2 = NB at *
                subst hai
                go_wp2_with fail
                refine hfl.mono ?_
                rintro e w6 ⟨rfl, r6⟩
                have R6 := hide r6
                clear r6 hfl
                go_wp2
                refine ⟨⟨k + 1, by simp, by omega, by rw [htw]; exact SE5.out.on R6.out, row_stays ROW5.out hX R6.out.2⟩, by simp only [RowKit.intOf]; omega⟩
            · have hke : k = l'.length := by omega
              subst hke
              rw [tw_all] at se5
              have htl := twice_le hB l'
              have hbl5 := HBL.out _ _ se5.1 htl
              have SE5 := hide se5
              have ROW5 := hide row5
              have hdec : decide ((l'.length : Int) < (l'.length : Int)) = false := by simp
              clear se5 row5
              have hel := equal_le hB l'
              have hbl6 := blanks_le htl
              have hmu6 := must_le hbl6 (c := 61) (by decide)
              go_wp2_with fail
              refine hbl5.mono ?_
              rintro e w6 ⟨rfl, r6⟩
              have R6 := hide (SE5.out.on r6)
              have ROW6 := hide (row_stays ROW5.out hX r6.2)
              clear r6 hbl5
              go_wp2_with fail
              refine (HMU.out _ _ R6.out.1 hbl6).mono ?_
              rintro e w7 ⟨rfl, r7⟩
              have R7 := hide (R6.out.on r7)
              have ROW7 := hide (row_stays ROW6.out hX r7.2)
              clear r7
              go_wp2_with fail
              refine (HBL.out _ _ R7.out.1 hmu6).mono ?_
              rintro e w8 ⟨rfl, r8⟩
              have R8 : Hid (SE X w s lv (B.equal s l') w8) := hide (R7.out.on r8)
              have ROW8 := hide (row_stays ROW7.out hX r8.2)
              have c85 : w8.cell? ⟨X, 5, none⟩ = some (.int .i64 (B.equal s l').err) := R8.out.1.cell 5 rfl
              clear r8 hbl6 hmu6 htl
              have hadd := fun (W : World) (row : W.ownsRow 0 114 2 (.slice ai l'.length ac) l'.length (attrCells l')) (a b : List UInt8) => attr_more W row a b (by omega)
              have HADD := hide hadd
              clear hadd
              by_cases hee : (B.equal s l').err = 0
              · have e80 : ((B.equal s l').err == 0) = true := by rw [hee]; rfl
                have hat : B.attr s l' = (((B.equal s l').value s).1, ((B.name s).2.data.toList, ((B.equal s l').value s).2)) := by unfold Sc.attr; rw [if_pos hee]
                have hvl := HVL.out _ _ R8.out.1 (hel hee)
                have HEL := hide (hel hee)
                have HEE := hide hee
                have HAT := hide hat
                clear hee hat hel
                go_wp2_with fail
                refine hvl.mono ?_
                rintro e w9 ⟨rfl, r9⟩
                have R9 := hide (R8.out.on r9)
                have ROW9 := hide (row_stays ROW8.out hX r9.2)
                clear r9 hvl
                obtain ⟨v', W', hrun, row10, gr, hat4⟩ := HADD.out w9 ROW9.out (B.name s).2.data.toList ((B.equal s l').value s).2
                have hN : strV (B.name s).2.data.toList = .string (B.name s).2 := by unfold strV; simp
                rw [hN] at hrun gr
                unfold strV at hrun gr
                have ROW10 := hide row10
                have GR := hide gr
                have HAT4 := hide hat4
                clear row10 gr hat4
                go_wp2_with (at_builtin; refine wpList_app54 rfl (.tmp 64) (.tmp 68) rfl rfl _ _ rfl rfl hrun ?_)
                have hfin := AI.next (o := .cells #[.string (B.name s).2, .string ⟨((B.equal s l').value s).2.toArray⟩] 114) (w9 := w9) (W' := W') (v' := v') hlt U.out HE.out HBN.out hBi Q1.out Q2.out HEQ.out (by rw [HAT.out]; exact R9.out) (by rw [HAT.out]; exact ROW10.out) GR.out HAT4.out
                exact ⟨⟨_, _, _, hfin.1⟩, hfin.2⟩
              · have e80 : ((B.equal s l').err == 0) = false := by simpa using hee
                have hat : B.attr s l' = (B.equal s l', ((B.name s).2.data.toList, [])) := by unfold Sc.attr; rw [if_neg hee]
                have HAT := hide hat
                clear hee hat hel
                obtain ⟨v', W', hrun, row10, gr, hat4⟩ := HADD.out w8 ROW8.out (B.name s).2.data.toList []
                have hN : strV (B.name s).2.data.toList = .string (B.name s).2 := by unfold strV; simp
                rw [hN] at hrun gr
                unfold strV at hrun gr
                have ROW10 := hide row10
                have GR := hide gr
                have HAT4 := hide hat4
                clear row10 gr hat4
                go_wp2_with (at_builtin; refine wpList_app54 rfl (.tmp 64) (.tmp 68) rfl rfl _ _ rfl rfl hrun ?_)
                have hfin := AI.next (o := .cells #[.string (B.name s).2, .string ⟨([] : List UInt8).toArray⟩] 114) (w9 := w8) (W' := W') (v' := v') hlt U.out HE.out HBN.out hBi Q1.out Q2.out HEQ.out (by rw [HAT.out]; exact R8.out) (by rw [HAT.out]; exact ROW10.out) GR.out HAT4.out
                exact ⟨⟨_, _, _, hfin.1⟩, hfin.2⟩
        · rw [if_pos (Or.inr (Or.inr (Or.inr q62)))] at heq
          rw [q47] at i47
          rw [q62] at i62
          have I1 := hide i47
          have I2 := hide i62
          subst heq
          clear he hBe hbb i47 i62 hsk q47 q62 hleft
          go_wp2_with fail
          refine hbl.mono ?_
          rintro e w1 ⟨rfl, r1⟩
          have R1 := hide (U.out.se.on r1)
          have ROW1 := hide (row_stays U.out.row hX r1.2)
          have c15 : w1.cell? ⟨X, 5, none⟩ = some (.int .i64 B.err) := r1.1.cell 5 rfl
          clear r1 hbl
          go_wp2_with fail
          refine (I1.out _ R1.out.1).mono ?_
          rintro e w2 ⟨rfl, b2⟩
          have R2 := hide (R1.out.below hlt b2)
          have ROW2 := hide (owns_of ROW1.out fun k e => b2.block k (own_lt ROW1.out e))
          clear b2
          go_wp2_with fail
          refine (I2.out _ R2.out.1).mono ?_
          rintro e w3 ⟨rfl, b3⟩
          have R3 := hide (R2.out.below hlt b3)
          have ROW3 := hide (owns_of ROW2.out fun k e => b3.block k (own_lt ROW2.out e))
          clear b3 I1 I2
          go_wp2
          go_ret
          exact ⟨_, rfl, R3.out, ROW3.out, U.out.own⟩
      · rw [if_pos (Or.inr (Or.inr (Or.inl q47)))] at heq
        rw [q47] at i47
        have I1 := hide i47
        subst heq
        clear he hBe hbb i47 i62 hsk q47 hleft
        go_wp2_with fail
        refine hbl.mono ?_
        rintro e w1 ⟨rfl, r1⟩
        have R1 := hide (U.out.se.on r1)
        have ROW1 := hide (row_stays U.out.row hX r1.2)
        have c15 : w1.cell? ⟨X, 5, none⟩ = some (.int .i64 B.err) := r1.1.cell 5 rfl
        clear r1 hbl
        go_wp2_with fail
        refine (I1.out _ R1.out.1).mono ?_
        rintro e w2 ⟨rfl, b2⟩
        have R2 := hide (R1.out.below hlt b2)
        have ROW2 := hide (owns_of ROW1.out fun k e => b2.block k (own_lt ROW1.out e))
        clear b2
        go_wp2
        go_ret
        exact ⟨_, rfl, R2.out, ROW2.out, U.out.own⟩
end Go.Proofs.YtbbocgeapofloaiGreatDoor
