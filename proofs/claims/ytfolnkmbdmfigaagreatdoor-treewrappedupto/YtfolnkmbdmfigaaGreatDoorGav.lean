import Derived.Test.YtfolnkmbdmfigaaGreatDoorGao
import Derived.Test.YtfolnkmbdmfigaaGreatDoorGal
set_option linter.unusedVariables false
set_option linter.unusedSimpArgs false
set_option linter.unusedSimpArgs false
set_option linter.unusedVariables false
namespace Go.Proofs.YtfolnkmbdmfigaaGreatDoor
open Go.RowKit Go.Maps Go.Lib
variable {X : Nat} {w w' w'' wr : World} {s t : ByteArray} {lv : Value} {x x' : Sc}
structure AI (X : Nat) (w : World) (s : ByteArray) (lv : Value) (y : Sc × Ats) (wr : World) (x : Sc) (l : Ats) (v : Value) (f : Nat) : Prop where
  se : SE X w s lv x wr
  row : wr.ownsRow 0 82 2 v l.length (attrCells l)
  own : ∀ k, v.ownBlock = some k → w.heap.size ≤ k
  le : x.err = 0 → x.i ≤ s.size
  eq : attrsF s f x l = y
  fuel : x.err = 0 → s.size + 1 < x.i + f
  len : l.length ≤ s.size + 1 ∧ (x.err = 0 → l.length ≤ x.i)
theorem row_stays {l : Ats} {v : Value} {w1 w2 : World} (h : w1.ownsRow 0 82 2 v l.length (attrCells l)) (hX : v.ownBlock ≠ some X) (b : But X w1 w2) : w2.ownsRow 0 82 2 v l.length (attrCells l) :=
  owns_of h fun k e => b.block k (own_lt h e) (fun e2 => hX (by rw [e, e2]))
theorem rattr_cells {l : Ats} {g cap : Nat} (h : w.ownsRow 0 82 2 (.slice (some ⟨g, 0, none⟩) l.length cap) l.length (attrCells l)) (i : Nat) (hi : i < l.length) :
    w.cell? ⟨g, i * 2, none⟩ = some (strV (l[i]).1) ∧ w.cell? ⟨g, i * 2 + 1, none⟩ = some (strV (l[i]).2) := by
  have hc := h.cells (g := g) rfl
  have key : ∀ (l : Ats) (i : Nat) (hi : i < l.length), (attrCells l)[i * 2]? = some (strV (l[i]).1) ∧ (attrCells l)[i * 2 + 1]? = some (strV (l[i]).2) := by
    intro l
    induction l with
    | nil => intro i hi; cases hi
    | cons x l ih =>
      intro i hi
      cases i with
      | zero => exact ⟨rfl, rfl⟩
      | succ i =>
        have := ih i (by simpa using hi)
        have e1 : (i + 1) * 2 = i * 2 + 2 := by omega
        rw [e1]
        simpa [attrCells] using this
  obtain ⟨k1, k2⟩ := key l i hi
  have h1 := hc _ _ k1
  have h2 := hc _ _ k2
  rw [Addr.add_mid, Nat.zero_add] at h1 h2
  exact ⟨h1, h2⟩
theorem rattr_at {l : Ats} {ai : Option Addr} {ac : Nat} (h : w.ownsRow 0 82 2 (.slice ai l.length ac) l.length (attrCells l)) (i : Nat) (hi : i < l.length) :
    ∃ g, ai = some ⟨g, 0, none⟩ ∧ w.cell? ⟨g, i * 2, none⟩ = some (.string ⟨(l[i]).1.toArray⟩) := by
  have h' := h
  rcases h'.2 with ⟨e, e0⟩ | ⟨ga, ca', cur, e, _⟩
  · omega
  cases e
  exact ⟨ga, rfl, (rattr_cells h i hi).1⟩
set_option maxHeartbeats 2000000 in
theorem must_err (h : SAt X w s lv x) (he : x.err ≠ 0) (t : ByteArray) (ht : 0 < t.size) : Calls Tryz.prog 66 #[.pointer (some ⟨X, 0, none⟩), .string t] w fun en w' => en = .returned (.tuple #[]) ∧ SE X w s lv x w' := by
  have c5 : w.cell? ⟨X, 5, none⟩ = some (.int .i64 x.err) := h.cell 5 rfl
  have e0 : (x.err == 0) = false := by simpa using he
  have hd : decide ((0 : Int) < t.size) = true := by simp; omega
  have H := hide (SE.refl h)
  clear h he
  go_enter Tryz.func66, Tryz.ntmps66
  go_wp2_with fail
  refine wp_loop_rounds 1 ?_
  rw [rounds_succ]
  go_wp2_with fail
  go_end0
  exact ⟨rfl, H.out⟩
theorem must_any (h : SAt X w s lv x) (hs : s.size ≤ 1125899906842624) (hi : x.err = 0 → x.i ≤ s.size) (t : ByteArray) (h0 : 0 < t.size) (ht : t.size ≤ 1024) : Calls Tryz.prog 66 #[.pointer (some ⟨X, 0, none⟩), .string t] w fun en w' => en = .returned (.tuple #[]) ∧ SE X w s lv (Sc.mustL s (drp t 0) x) w' := by
  by_cases he : x.err = 0
  · exact must_sc h hs (hi he) t (by omega)
  · rw [mustL_err s _ he]; exact must_err h he t h0
theorem wpList_app54 {ops : Array Oper} {rest : List Oper} {o : Oper} {a : Act} {w : World} {Q : Exit → Act → World → Prop} (hgd : o.guard = none) (s x : Operand) (ho : o.op = Op.call { callee := Callee.builtin Builtin.append, args := #[s, x], argTypes := #[70, 70] }) (hty : o.type = 70)
    (v1 v2 : Value) (hs : a.eval s = v1) (hx : a.eval x = v2) {v' : Value} {w' : World} (hr : (Builtin.append_ #[70, 70] 70 #[v1, v2]).run Tryz.prog w = .ok v' w') (h : wpList Tryz.prog ops Q rest (a.put o.dst v') w') : wpList Tryz.prog ops Q (o :: rest) a w := by
  refine wpList_plain hgd fun K hK => ?_
  unfold Oper.wp execOp
  simp only [ho, hty, resolve, invoke, builtin, Sem.run_bind, Sem.run_pure, Result.andThen_ok, List.map_toArray, List.map_cons, List.map_nil, hs, hx, hr]
  exact hK _ _ h
theorem blanks_e (x : Sc) (s : ByteArray) : (x.blanks s).err = x.err := rfl
theorem twice_le (h : x.err = 0 → x.i ≤ s.size) (l : Ats) : (x.twice s l).err = 0 → (x.twice s l).i ≤ s.size := by
  intro he
  have h0 : x.err = 0 := by
    by_cases e : x.err = 0
    · exact e
    · exfalso
      have hn : x.name s = (x, ⟨#[]⟩) := by unfold Sc.name; rw [if_neg e]
      have : x.twice s l = x := by
        unfold Sc.twice; rw [hn]; simp only; split
        · unfold Sc.fail; rw [if_neg e]
        · rfl
      rw [this] at he; exact e he
  by_cases hb : Ch.begins (cur s x.i) = true
  · obtain ⟨n1, n2⟩ := name_yes h0 hb
    unfold Sc.twice
    rw [n1]
    have hle := nend_le (s := s) (h h0)
    split
    · rw [fail_i]; exact hle
    · exact hle
  · exfalso
    have hn := name_no (s := s) h0 hb
    have hwe := wrong_err x s h0
    have : x.twice s l = x.wrong s := by
      unfold Sc.twice; rw [hn]; simp only; split
      · unfold Sc.fail; rw [if_neg hwe]
      · rfl
    rw [this] at he; exact hwe he
theorem blanks_le (h : x.err = 0 → x.i ≤ s.size) : (x.blanks s).err = 0 → (x.blanks s).i ≤ s.size := by
  intro he
  rw [blanks_e] at he
  rw [blanks_gap he]
  exact gap_le (h he)
theorem must_le (h : x.err = 0 → x.i ≤ s.size) {c : UInt8} (hc : 32 ≤ c.toNat ∧ c.toNat < 128) : (Sc.mustL s [c] x).err = 0 → (Sc.mustL s [c] x).i ≤ s.size := by
  by_cases he : x.err = 0
  · rw [must_one he hc]
    split
    · rename_i hq
      have := cur_pos (s := s) (i := x.i) (by omega)
      intro _; show x.i + 1 ≤ _; omega
    · intro e; exact absurd e (wrong_err x s he)
  · rw [mustL_err s _ he]; exact h
theorem equal_le (h : x.err = 0 → x.i ≤ s.size) (l : Ats) : (x.equal s l).err = 0 → (x.equal s l).i ≤ s.size :=
  blanks_le (must_le (blanks_le (twice_le h l)) (by decide))
def Sc.tw (x : Sc) (s : ByteArray) (l : Ats) (k : Nat) : Sc := x.twice s (l.take k)
theorem tw_zero (x : Sc) (s : ByteArray) (l : Ats) : x.tw s l 0 = (x.name s).1 := by unfold Sc.tw Sc.twice; simp
theorem tw_all (x : Sc) (s : ByteArray) (l : Ats) : x.tw s l l.length = x.twice s l := by unfold Sc.tw; rw [List.take_length]
theorem fail_fail (x : Sc) (e a : Int) (he : e ≠ 0) : (x.fail e a).fail e a = x.fail e a := by
  unfold Sc.fail
  by_cases h : x.err = 0
  · rw [if_pos h, if_neg (by simpa using he)]
  · rw [if_neg h, if_neg h]
theorem any_succ (l : Ats) (k : Nat) (hk : k < l.length) (p : List UInt8 × List UInt8 → Bool) : (l.take (k + 1)).any p = ((l.take k).any p || p l[k]) := by
  rw [List.take_succ_eq_append_getElem hk, List.any_append]; simp
theorem tw_same (x : Sc) (s : ByteArray) (l : Ats) (k : Nat) (hk : k < l.length) (h : ((l[k]).1 == (x.name s).2.data.toList) = false) : x.tw s l (k + 1) = x.tw s l k := by
  unfold Sc.tw Sc.twice
  rw [any_succ l k hk, h, Bool.or_false]
theorem tw_fail (x : Sc) (s : ByteArray) (l : Ats) (k : Nat) (hk : k < l.length) (h : ((l[k]).1 == (x.name s).2.data.toList) = true) : x.tw s l (k + 1) = (x.tw s l k).fail 5 x.i := by
  unfold Sc.tw Sc.twice
  rw [any_succ l k hk, h, Bool.or_true, if_pos rfl]
  split
  · rw [fail_fail _ _ _ (by decide)]
  · rfl
end Go.Proofs.YtfolnkmbdmfigaaGreatDoor

set_option linter.unusedSimpArgs false
set_option linter.unusedVariables false
namespace Go.Proofs.YtfolnkmbdmfigaaGreatDoor
open Go.RowKit Go.Maps Go.Lib
variable {X : Nat} {w w' w'' wr : World} {s t : ByteArray} {lv : Value} {x x' : Sc}
theorem rattr_news (w : World) (a b : List UInt8) : ∀ j u, [strV a, strV b][j]? = some u → (w.alloc (.cells #[strV a, strV b] 82)).cell? ((⟨w.heap.size, 0, none⟩ : Addr).add j) = some u := by
  intro j u hj
  have hb : (w.alloc (.cells #[strV a, strV b] 82)).heap[w.heap.size]? = some (.cells #[strV a, strV b] 82) := Below_new _ _
  match j, hj with
  | 0, hj => cases hj; exact cell_of hb rfl
  | 1, hj => cases hj; exact cell_of hb rfl
theorem attr_more (W : World) {ai : Option Addr} {ac : Nat} {l : Ats} (row : W.ownsRow 0 82 2 (.slice ai l.length ac) l.length (attrCells l)) (a b : List UInt8) (hl : l.length ≤ 1099511627778) :
    ∃ v' W', (Builtin.append_ #[70, 70] 70 #[.slice ai l.length ac, .slice (some ⟨W.heap.size, 0, none⟩) 1 1]).run Tryz.prog (W.alloc (.cells #[strV a, strV b] 82)) = .ok v' W' ∧ W'.ownsRow 0 82 2 v' (l ++ [(a, b)]).length (attrCells (l ++ [(a, b)])) ∧ (W.alloc (.cells #[strV a, strV b] 82)).grownBy W' (Value.slice ai l.length ac).ownBlock ∧ (v'.ownBlock = (Value.slice ai l.length ac).ownBlock ∨ v'.ownBlock = some (W.heap.size + 1)) := by
  obtain ⟨i0, hi, hz0, hz1, hz2⟩ := info_parts info75
  obtain ⟨v', W', hrun, r1, r2, _, r4⟩ := run_append_own_at (P := Tryz.prog) (W.alloc (.cells #[strV a, strV b] 82)) 0 70 70 82 i0 _ 2 32 Tryz.underlying70 hi hz0 hz1 hz2 rfl (by decide) (.slice ai l.length ac) l.length (attrCells l) (row.alloc _) ⟨W.heap.size, 0, none⟩ 1 1 [strV a, strV b] rfl (rattr_news W a b) (attr_one a b) (by unfold maxLen; omega) (by omega) (Nat.zero_le _)
  refine ⟨v', W', hrun, ?_, r2, by simpa using r4⟩
  have e1 : (l ++ [(a, b)]).length = l.length + 1 := by simp
  have e2 : attrCells (l ++ [(a, b)]) = attrCells l ++ [strV a, strV b] := by simp [attrCells]
  rw [e1, e2]; exact r1
theorem attr_le {l : Ats} (he : x.err = 0) (hi : x.i ≤ s.size) (hbl : ¬ Tk.blank (cur s x.i) = true) (q47 : x.is s 47 = false) (q62 : x.is s 62 = false) : (x.attr s l).1.err = 0 → x.i < (x.attr s l).1.i ∧ (x.attr s l).1.i ≤ s.size := by
  have h47 : ¬ cur s x.i = 47 := fun e => by rw [(is_cur he (c := 47) (by omega)).2 e] at q47; cases q47
  have h62 : ¬ cur s x.i = 62 := fun e => by rw [(is_cur he (c := 62) (by omega)).2 e] at q62; cases q62
  have hA : InA x ⟨fun j => if j = .text then x.more else [], fun _ => x.frm, 0, l, l.map Prod.fst, 0, x.l⟩ l [] 0 := ⟨⟨rfl, rfl, fun _ => rfl⟩, rfl, rfl, rfl, rfl, rfl⟩
  rcases runs_attr (g := fun _ => []) he hi hA hbl h47 h62 with ⟨_, h2, h3, _⟩ | ⟨h1, _⟩
  · exact fun _ => ⟨h2, h3⟩
  · exact fun e => absurd e h1
theorem se_more {w9 W' : World} {o : Obj} {ro : Option Nat} (h : SE X w s lv x w9) (g : (w9.alloc o).grownBy W' ro) (hlt : X < w.heap.size) (hr : ∀ k, ro = some k → w.heap.size ≤ k) : SE X w s lv x W' := by
  have hz := h.2.size
  have hb : ∀ k, k < w.heap.size → W'.heap[k]? = w9.heap[k]? := fun k hk => by
    rw [g.block k (by simp; omega) (fun e => by have := hr k e.symm; omega)]
    exact Below.heap_alloc _ _ k (by omega)
  refine ⟨(hb X hlt).trans h.1, ⟨g.os.trans h.2.os, g.tape.trans h.2.tape, g.output.trans h.2.output, ?_, fun k hk hX => (hb k hk).trans (h.2.block k hk hX)⟩⟩
  have := g.size
  simp at this; omega
theorem AI.next {y : Sc × Ats} {l : Ats} {ai : Option Addr} {ac f : Nat} {B : Sc} {w9 W' : World} {o : Obj} {v' : Value} (hlt : X < w.heap.size) (U : AI X w s lv y wr x l (.slice ai l.length ac) (f + 1)) (he : x.err = 0) (hB : x.blanks s = B) (hBi : x.i < B.i)
    (q47 : B.is s 47 = false) (q62 : B.is s 62 = false) (heq : attrsF s f (B.attr s l).1 (l ++ [(B.attr s l).2]) = y) (R9 : SE X w s lv (B.attr s l).1 w9) (row : W'.ownsRow 0 82 2 v' (l ++ [(B.attr s l).2]).length (attrCells (l ++ [(B.attr s l).2])))
    (g : (w9.alloc o).grownBy W' (Value.slice ai l.length ac).ownBlock) (hat : v'.ownBlock = (Value.slice ai l.length ac).ownBlock ∨ v'.ownBlock = some (w9.heap.size + 1)) :
    AI X w s lv y W' (B.attr s l).1 (l ++ [(B.attr s l).2]) v' f ∧ left X s.size W' < left X s.size wr := by
  have hle := U.le he
  have hfu := U.fuel he
  have hln := U.len.2 he
  have hBe : B.err = 0 := by rw [← hB]; exact he
  have hBl : B.i ≤ s.size := by rw [← hB] at hBe ⊢; exact blanks_le U.le hBe
  have hbl : ¬ Tk.blank (cur s B.i) = true := by rw [← hB, blanks_gap he]; exact gap_end s x.i
  have ha := attr_le (l := l) hBe hBl hbl q47 q62
  have se := se_more R9 g hlt U.own
  have hz := R9.2.size
  have hlen : (l ++ [(B.attr s l).2]).length = l.length + 1 := by simp
  refine ⟨⟨se, row, ?_, fun e => (ha e).2, heq, fun e => by have := ha e; omega, ⟨by omega, fun e => by have := ha e; omega⟩⟩, ?_⟩
  · intro k e
    rcases hat with h | h
    · exact U.own k (h.symm.trans e)
    · rw [h] at e; cases e; omega
  · rw [left_eq se.1 s.size, left_eq U.se.1 s.size, if_pos he]
    split
    · rename_i e; have := ha e; omega
    · omega
set_option maxHeartbeats 4000000 in
set_option maxRecDepth 10000 in
theorem attrs_sc (h : SAt X w s lv x) (hs : s.size ≤ 1125899906842624) (hsz : s.size ≤ 1099511627776) (hi : x.err = 0 → x.i ≤ s.size) :
    Calls Tryz.prog 71 #[.pointer (some ⟨X, 0, none⟩)] w fun en w' => ∃ v, en = .returned v ∧ SE X w s lv (x.attrs s).1 w' ∧ w'.ownsRow 0 82 2 v (x.attrs s).2.length (attrCells (x.attrs s).2) ∧ (∀ k, v.ownBlock = some k → w.heap.size ≤ k) := by
  have hlt := h.lt
  have h0 : AI X w s lv (x.attrs s) w x [] (.slice none 0 0) (s.size + 2) := ⟨SE.refl h, World.ownsRow_nil _ _ _ _, by intro k e; simp [Value.ownBlock] at e, hi, rfl, fun _ => by omega, ⟨by simp, fun _ => by simp⟩⟩
  generalize x.attrs s = y at *
  have H0 := hide h0
  have hbl := fun W x' (b : SAt X W s lv x') (hi : x'.err = 0 → x'.i ≤ s.size) => blanks_sc b hs hi
  have his := fun W x' (b : SAt X W s lv x') c (hc : c < 256) => is_sc b c hc
  have hnm := fun W x' (b : SAt X W s lv x') (hi : x'.err = 0 → x'.i ≤ s.size) => name_sc b hs hi
  have hfl := fun W x' (b : SAt X W s lv x') (e a : Int) => fail_sc b e a
  have hmu := fun W x' (b : SAt X W s lv x') (hi : x'.err = 0 → x'.i ≤ s.size) => must_any b hs hi ⟨#[61]⟩ (by decide) (by decide)
  have hvl := fun W x' (b : SAt X W s lv x') (hi : x'.i ≤ s.size) => value_sc b hs hi
  have HBL := hide hbl
  have HIS := hide his
  have HNM := hide hnm
  have HFL := hide hfl
  have HMU := hide hmu
  have HVL := hide hvl
  clear h h0 hi hbl his hnm hfl hmu hvl
  go_enter Tryz.func71, Tryz.ntmps71
  go_wp2_with fail
  go_loopw [3, 4, 5, 6, 7, 8] (fun v _ _ _ _ _ wr => ∃ x' l' f, AI X w s lv y wr x' l' v f) (fun _ _ _ _ _ _ wr => left X s.size wr)
  case atStart => exact ⟨_, _, _, H0.out⟩
  case round =>
    obtain ⟨x', l', f, u⟩ := hrel
    obtain ⟨ai, ac, rfl⟩ := slice_len u.row
    have hleft := left_eq u.se.1 s.size
    have hbl := HBL.out wr x' u.se.1 u.le
    by_cases hsk : x'.skip s = 0
    · rw [hsk] at hbl
      have hy : y = (x'.blanks s, l') := by
        have := u.eq
        cases f with
        | zero =>
          by_cases he : x'.err = 0
          · have := u.fuel he; have := u.le he; omega
          · rw [attrsF_err he] at this; rw [blanks_err he]; exact this.symm
        | succ f => simp only [attrsF] at this; rw [if_pos (Or.inl hsk)] at this; exact this.symm
      subst hy
      have U := hide u
      clear u hleft hsk
      go_wp2_with fail
      refine hbl.mono ?_
      rintro e w1 ⟨rfl, r1⟩
      have R1 := hide r1
      clear r1
      go_wp2
      go_ret
      refine ⟨_, rfl, U.out.se.on R1.out, row_stays U.out.row ?_ R1.out.2, U.out.own⟩
      intro e
      have := U.out.own X e
      omega
    · have he : x'.err = 0 := by
        by_cases he : x'.err = 0
        · exact he
        · exact absurd (by unfold Sc.skip; rw [if_neg he]) hsk
      have hk0 : ((x'.skip s : Int) == 0) = false := by simpa using hsk
      have hB := blanks_le u.le
      have hBe : (x'.blanks s).err = 0 := he
      have hBi : x'.i < (x'.blanks s).i := by show x'.i < x'.i + x'.skip s; omega
      have hBl := hB hBe
      have hb0 : ((x'.blanks s).err != 0) = false := by rw [hBe]; rfl
      have hfu := u.fuel he
      have hxl := u.le he
      rw [if_pos he] at hleft
      obtain ⟨f, rfl⟩ : ∃ g, f = g + 1 := ⟨f - 1, by omega⟩
      have heq := u.eq
      simp only [attrsF] at heq
      have hlen := u.len.2 he
      have hX : (Value.slice ai (List.length l') ac).ownBlock ≠ some X := by
        intro e
        have := u.own X e
        omega
      have U := hide u
      clear u
      generalize hbb : x'.blanks s = B at *
      have i47 := fun W (b : SAt X W s lv B) => HIS.out W B b 47 (by decide)
      have i62 := fun W (b : SAt X W s lv B) => HIS.out W B b 62 (by decide)
      cases q47 : B.is s 47
      · cases q62 : B.is s 62
        · rw [if_neg (by rw [q47, q62]; simp [hsk, hBe])] at heq
          rw [q47] at i47
          rw [q62] at i62
          have HEQ := hide heq
          have HE := hide he
          have HBE := hide hBe
          have HBN := hide hbb
          have I1 := hide i47
          have I2 := hide i62
          have HLEFT := hide hleft
          have Q1 := hide q47
          have Q2 := hide q62
          clear heq he hBe hbb i47 i62 hsk q47 q62 hleft
          go_wp2_with fail
          refine hbl.mono ?_
          rintro e w1 ⟨rfl, r1⟩
          have R1 := hide (U.out.se.on r1)
          have ROW1 := hide (row_stays U.out.row hX r1.2)
          have c15 : w1.cell? ⟨X, 5, none⟩ = some (.int .i64 B.err) := r1.1.cell 5 rfl
          clear r1 hbl
          go_wp2_with fail
          refine (I1.out _ R1.out.1).mono ?_
          rintro e w2 ⟨rfl, b2⟩
          have R2 := hide (R1.out.below hlt b2)
          have ROW2 := hide (owns_of ROW1.out fun k e => b2.block k (own_lt ROW1.out e))
          clear b2
          go_wp2_with fail
          refine (I2.out _ R2.out.1).mono ?_
          rintro e w3 ⟨rfl, b3⟩
          have R3 := hide (R2.out.below hlt b3)
          have ROW3 := hide (owns_of ROW2.out fun k e => b3.block k (own_lt ROW2.out e))
          have c31 : w3.cell? ⟨X, 1, none⟩ = some (.int .i64 B.i) := R3.out.1.cell 1 rfl
          clear b3 I1 I2
          go_wp2_with fail
          refine (HNM.out _ B R3.out.1 (fun _ => hBl)).mono ?_
          rintro e w4 ⟨rfl, r4⟩
          have R4 := hide (R3.out.on r4)
          have ROW4 := hide (row_stays ROW3.out hX r4.2)
          clear r4
          go_wp2_with fail
          go_loopw [7] (fun iv wr2 => ∃ k : Nat, iv = .int .i64 k ∧ k ≤ l'.length ∧ SE X w s lv (B.tw s l' k) wr2 ∧ wr2.ownsRow 0 82 2 (.slice ai l'.length ac) l'.length (attrCells l')) (fun iv _ => l'.length - (RowKit.intOf iv).toNat)
          case atStart => exact ⟨0, rfl, Nat.zero_le _, by rw [tw_zero]; exact R4.out, ROW4.out⟩
          case round =>
            obtain ⟨k, rfl, hk, se5, row5⟩ := hrel
            by_cases hlt5 : k < l'.length
            · have hdec : decide ((k : Int) < (l'.length : Int)) = true := by simp; omega
              have hwk : IntKind.i64.wrap ((k : Int) + 1) = (k : Int) + 1 := by rw [IntKind.wrap_i64]; omega
              obtain ⟨g, hai, cg⟩ := rattr_at row5 k hlt5
              have hnl : (B.name s).2.toList = (B.name s).2.data.toList := Lib.toList_data _
              have hkl : (⟨(l'[k]).1.toArray⟩ : ByteArray).toList = (l'[k]).1 := by rw [Lib.toList_data]
              cases hq : ((l'[k]).1 == (B.name s).2.data.toList)
              · have htw := tw_same B s l' k hlt5 hq
                have SE5 := hide se5
                have ROW5 := hide row5
                have hq2 : ((⟨(l'[k]).1.toArray⟩ : ByteArray).toList == (B.name s).2.toList) = false := by rw [hnl, hkl]; exact hq
                clear se5 row5 hq hnl hkl
                generalize (⟨(l'[k]).1.toArray⟩ : ByteArray) = nk at *
                generalize (B.name s).2 = NB at *
                subst hai
                go_wp2_with fail
                refine ⟨⟨k + 1, by simp, by omega, by rw [htw]; exact SE5.out, ROW5.out⟩, by simp only [RowKit.intOf]; omega⟩
              · have htw := tw_fail B s l' k hlt5 hq
                have hfl := HFL.out _ _ se5.1 5 B.i
                have SE5 := hide se5
                have ROW5 := hide row5
                have hq2 : ((⟨(l'[k]).1.toArray⟩ : ByteArray).toList == (B.name s).2.toList) = true := by rw [hnl, hkl]; exact hq
                clear se5 row5 hq hnl hkl
                generalize (⟨(l'[k]).1.toArray⟩ : ByteArray) = nk at *
                generalize (B.name s).2 = NB at *
                subst hai
                go_wp2_with fail
                refine hfl.mono ?_
                rintro e w6 ⟨rfl, r6⟩
                have R6 := hide r6
                clear r6 hfl
                go_wp2
                refine ⟨⟨k + 1, by simp, by omega, by rw [htw]; exact SE5.out.on R6.out, row_stays ROW5.out hX R6.out.2⟩, by simp only [RowKit.intOf]; omega⟩
            · have hke : k = l'.length := by omega
              subst hke
              rw [tw_all] at se5
              have htl := twice_le hB l'
              have hbl5 := HBL.out _ _ se5.1 htl
              have SE5 := hide se5
              have ROW5 := hide row5
              have hdec : decide ((l'.length : Int) < (l'.length : Int)) = false := by simp
              clear se5 row5
              have hel := equal_le hB l'
              have hbl6 := blanks_le htl
              have hmu6 := must_le hbl6 (c := 61) (by decide)
              go_wp2_with fail
              refine hbl5.mono ?_
              rintro e w6 ⟨rfl, r6⟩
              have R6 := hide (SE5.out.on r6)
              have ROW6 := hide (row_stays ROW5.out hX r6.2)
              clear r6 hbl5
              go_wp2_with fail
              refine (HMU.out _ _ R6.out.1 hbl6).mono ?_
              rintro e w7 ⟨rfl, r7⟩
              have R7 := hide (R6.out.on r7)
              have ROW7 := hide (row_stays ROW6.out hX r7.2)
              clear r7
              go_wp2_with fail
              refine (HBL.out _ _ R7.out.1 hmu6).mono ?_
              rintro e w8 ⟨rfl, r8⟩
              have R8 : Hid (SE X w s lv (B.equal s l') w8) := hide (R7.out.on r8)
              have ROW8 := hide (row_stays ROW7.out hX r8.2)
              have c85 : w8.cell? ⟨X, 5, none⟩ = some (.int .i64 (B.equal s l').err) := R8.out.1.cell 5 rfl
              clear r8 hbl6 hmu6 htl
              have hadd := fun (W : World) (row : W.ownsRow 0 82 2 (.slice ai l'.length ac) l'.length (attrCells l')) (a b : List UInt8) => attr_more W row a b (by omega)
              have HADD := hide hadd
              clear hadd
              by_cases hee : (B.equal s l').err = 0
              · have e80 : ((B.equal s l').err == 0) = true := by rw [hee]; rfl
                have hat : B.attr s l' = (((B.equal s l').value s).1, ((B.name s).2.data.toList, ((B.equal s l').value s).2)) := by unfold Sc.attr; rw [if_pos hee]
                have hvl := HVL.out _ _ R8.out.1 (hel hee)
                have HEL := hide (hel hee)
                have HEE := hide hee
                have HAT := hide hat
                clear hee hat hel
                go_wp2_with fail
                refine hvl.mono ?_
                rintro e w9 ⟨rfl, r9⟩
                have R9 := hide (R8.out.on r9)
                have ROW9 := hide (row_stays ROW8.out hX r9.2)
                clear r9 hvl
                obtain ⟨v', W', hrun, row10, gr, hat4⟩ := HADD.out w9 ROW9.out (B.name s).2.data.toList ((B.equal s l').value s).2
                have hN : strV (B.name s).2.data.toList = .string (B.name s).2 := by unfold strV; simp
                rw [hN] at hrun gr
                unfold strV at hrun gr
                have ROW10 := hide row10
                have GR := hide gr
                have HAT4 := hide hat4
                clear row10 gr hat4
                go_wp2_with (at_builtin; refine wpList_app54 rfl (.tmp 64) (.tmp 68) rfl rfl _ _ rfl rfl hrun ?_)
                have hfin := AI.next (o := .cells #[.string (B.name s).2, .string ⟨((B.equal s l').value s).2.toArray⟩] 82) (w9 := w9) (W' := W') (v' := v') hlt U.out HE.out HBN.out hBi Q1.out Q2.out HEQ.out (by rw [HAT.out]; exact R9.out) (by rw [HAT.out]; exact ROW10.out) GR.out HAT4.out
                exact ⟨⟨_, _, _, hfin.1⟩, hfin.2⟩
              · have e80 : ((B.equal s l').err == 0) = false := by simpa using hee
                have hat : B.attr s l' = (B.equal s l', ((B.name s).2.data.toList, [])) := by unfold Sc.attr; rw [if_neg hee]
                have HAT := hide hat
                clear hee hat hel
                obtain ⟨v', W', hrun, row10, gr, hat4⟩ := HADD.out w8 ROW8.out (B.name s).2.data.toList []
                have hN : strV (B.name s).2.data.toList = .string (B.name s).2 := by unfold strV; simp
                rw [hN] at hrun gr
                unfold strV at hrun gr
                have ROW10 := hide row10
                have GR := hide gr
                have HAT4 := hide hat4
                clear row10 gr hat4
                go_wp2_with (at_builtin; refine wpList_app54 rfl (.tmp 64) (.tmp 68) rfl rfl _ _ rfl rfl hrun ?_)
                have hfin := AI.next (o := .cells #[.string (B.name s).2, .string ⟨([] : List UInt8).toArray⟩] 82) (w9 := w8) (W' := W') (v' := v') hlt U.out HE.out HBN.out hBi Q1.out Q2.out HEQ.out (by rw [HAT.out]; exact R8.out) (by rw [HAT.out]; exact ROW10.out) GR.out HAT4.out
                exact ⟨⟨_, _, _, hfin.1⟩, hfin.2⟩
        · rw [if_pos (Or.inr (Or.inr (Or.inr q62)))] at heq
          rw [q47] at i47
          rw [q62] at i62
          have I1 := hide i47
          have I2 := hide i62
          subst heq
          clear he hBe hbb i47 i62 hsk q47 q62 hleft
          go_wp2_with fail
          refine hbl.mono ?_
          rintro e w1 ⟨rfl, r1⟩
          have R1 := hide (U.out.se.on r1)
          have ROW1 := hide (row_stays U.out.row hX r1.2)
          have c15 : w1.cell? ⟨X, 5, none⟩ = some (.int .i64 B.err) := r1.1.cell 5 rfl
          clear r1 hbl
          go_wp2_with fail
          refine (I1.out _ R1.out.1).mono ?_
          rintro e w2 ⟨rfl, b2⟩
          have R2 := hide (R1.out.below hlt b2)
          have ROW2 := hide (owns_of ROW1.out fun k e => b2.block k (own_lt ROW1.out e))
          clear b2
          go_wp2_with fail
          refine (I2.out _ R2.out.1).mono ?_
          rintro e w3 ⟨rfl, b3⟩
          have R3 := hide (R2.out.below hlt b3)
          have ROW3 := hide (owns_of ROW2.out fun k e => b3.block k (own_lt ROW2.out e))
          clear b3 I1 I2
          go_wp2
          go_ret
          exact ⟨_, rfl, R3.out, ROW3.out, U.out.own⟩
      · rw [if_pos (Or.inr (Or.inr (Or.inl q47)))] at heq
        rw [q47] at i47
        have I1 := hide i47
        subst heq
        clear he hBe hbb i47 i62 hsk q47 hleft
        go_wp2_with fail
        refine hbl.mono ?_
        rintro e w1 ⟨rfl, r1⟩
        have R1 := hide (U.out.se.on r1)
        have ROW1 := hide (row_stays U.out.row hX r1.2)
        have c15 : w1.cell? ⟨X, 5, none⟩ = some (.int .i64 B.err) := r1.1.cell 5 rfl
        clear r1 hbl
        go_wp2_with fail
        refine (I1.out _ R1.out.1).mono ?_
        rintro e w2 ⟨rfl, b2⟩
        have R2 := hide (R1.out.below hlt b2)
        have ROW2 := hide (owns_of ROW1.out fun k e => b2.block k (own_lt ROW1.out e))
        clear b2
        go_wp2
        go_ret
        exact ⟨_, rfl, R2.out, ROW2.out, U.out.own⟩
end Go.Proofs.YtfolnkmbdmfigaaGreatDoor

set_option linter.unusedSimpArgs false
set_option linter.unusedVariables false
namespace Go.Proofs.YtfolnkmbdmfigaaGreatDoor
open Go.RowKit Go.Maps Go.Lib
variable {X : Nat} {w w' w'' wr : World} {s t : ByteArray} {lv : Value} {x x' : Sc} {F : Nat → Prop} {cs : List Value}

def Same3 (x y : Sc) : Prop := y.l = x.l ∧ y.more = x.more ∧ y.frm = x.frm
theorem Same3.refl (x : Sc) : Same3 x x := ⟨rfl, rfl, rfl⟩
theorem Same3.trans {x y z : Sc} (h : Same3 x y) (k : Same3 y z) : Same3 x z := ⟨k.1.trans h.1, k.2.1.trans h.2.1, k.2.2.trans h.2.2⟩
theorem fail_s (x : Sc) (e a : Int) : Same3 x (x.fail e a) := by unfold Sc.fail; split <;> exact ⟨rfl, rfl, rfl⟩
theorem wrong_s (x : Sc) (s : ByteArray) : Same3 x (x.wrong s) := by
  unfold Sc.wrong; repeat' split
  all_goals exact fail_s _ _ _
theorem at_s (x : Sc) (j : Nat) : Same3 x { x with i := j } := ⟨rfl, rfl, rfl⟩
theorem blanks_s (x : Sc) (s : ByteArray) : Same3 x (x.blanks s) := ⟨rfl, rfl, rfl⟩
theorem name_s (x : Sc) (s : ByteArray) : Same3 x (x.name s).1 := by
  unfold Sc.name; repeat' split
  all_goals first | exact wrong_s _ _ | exact ⟨rfl, rfl, rfl⟩
theorem mustL_s (s : ByteArray) : ∀ (l : List UInt8) (x : Sc), Same3 x (Sc.mustL s l x) := by
  intro l
  induction l with
  | nil => intro x; exact Same3.refl x
  | cons c l ih =>
    intro x
    simp only [Sc.mustL]
    repeat' split
    · exact (at_s x _).trans (ih _)
    · exact (wrong_s x s).trans (ih _)
    · exact Same3.refl x
theorem untilF_s (s t : ByteArray) (frm : Nat) : ∀ (f : Nat) (x : Sc), Same3 x (untilF s t frm f x).1 := by
  intro f
  induction f with
  | zero => intro x; exact Same3.refl x
  | succ f ih =>
    intro x
    simp only [untilF]
    repeat' split
    · exact at_s x _
    · exact (wrong_s x s).trans (ih _)
    · exact (at_s x _).trans (ih _)
    · exact Same3.refl x
theorem until_s (x : Sc) (s t : ByteArray) : Same3 x (x.until s t).1 := untilF_s s t x.i _ x
theorem char_s (x : Sc) (s : ByteArray) (bar : Nat) : Same3 x (x.char s bar).1 := by
  unfold Sc.char; repeat' split
  all_goals first | exact wrong_s _ _ | exact fail_s _ _ _ | exact ⟨rfl, rfl, rfl⟩
theorem valF_s (s : ByteArray) (q : Nat) : ∀ (f : Nat) (x : Sc) (t : List UInt8), Same3 x (valF s q f x t).1 := by
  intro f
  induction f with
  | zero => intro x t; exact Same3.refl x
  | succ f ih =>
    intro x t
    simp only [valF]
    split
    · exact (char_s x s q).trans (ih _ _)
    · exact Same3.refl x
theorem value_s (x : Sc) (s : ByteArray) : Same3 x (x.value s).1 := by
  unfold Sc.value; split
  · exact ((at_s x _).trans (valF_s s _ _ _ _)).trans (at_s _ _)
  · exact wrong_s x s
theorem twice_s (x : Sc) (s : ByteArray) (l : Ats) : Same3 x (x.twice s l) := by
  unfold Sc.twice; split
  · exact (name_s x s).trans (fail_s _ _ _)
  · exact name_s x s
theorem equal_s (x : Sc) (s : ByteArray) (l : Ats) : Same3 x (x.equal s l) := (((twice_s x s l).trans (blanks_s _ s)).trans (mustL_s s _ _)).trans (blanks_s _ s)
theorem attr_s (x : Sc) (s : ByteArray) (l : Ats) : Same3 x (x.attr s l).1 := by
  unfold Sc.attr; split
  · exact (equal_s x s l).trans (value_s _ s)
  · exact equal_s x s l
theorem attrsF_s (s : ByteArray) : ∀ (f : Nat) (x : Sc) (l : Ats), Same3 x (attrsF s f x l).1 := by
  intro f
  induction f with
  | zero => intro x l; exact Same3.refl x
  | succ f ih =>
    intro x l
    simp only [attrsF]
    split
    · exact blanks_s x s
    · exact ((blanks_s x s).trans (attr_s _ s l)).trans (ih _ _)
theorem attrs_s (x : Sc) (s : ByteArray) : Same3 x (x.attrs s).1 := attrsF_s s _ x []
def Fits (s : ByteArray) (x : Sc) : Prop := x.err = 0 → x.i ≤ s.size
theorem name_f (h : Fits s x) : Fits s (x.name s).1 := by
  intro he
  by_cases h0 : x.err = 0
  · by_cases hb : Ch.begins (cur s x.i) = true
    · rw [(name_yes h0 hb).1]; exact nend_le (h h0)
    · rw [name_no (s := s) h0 hb] at he; exact absurd he (wrong_err x s h0)
  · have hn : x.name s = (x, ⟨#[]⟩) := by unfold Sc.name; rw [if_neg h0]
    rw [hn] at he; exact absurd he h0
theorem blanks_f (h : Fits s x) : Fits s (x.blanks s) := blanks_le h
theorem mustL_f (s : ByteArray) : ∀ (l : List UInt8) (x : Sc), Fits s x → Fits s (Sc.mustL s l x) := by
  intro l
  induction l with
  | nil => intro x h; exact h
  | cons c l ih =>
    intro x h
    simp only [Sc.mustL]
    repeat' split
    · rename_i h1 h2
      refine ih _ fun _ => ?_
      have := is_lt h2
      show x.i + 1 ≤ _; omega
    · rename_i h1 h2
      exact ih _ fun e => absurd e (wrong_err x s h1)
    · exact h
theorem until_f (t : ByteArray) (hz : t.size ≠ 0) (h : Fits s x) : Fits s (x.until s t).1 := by
  have key : ∀ (f : Nat) (x : Sc) (frm : Nat), Fits s x → Fits s (untilF s t frm f x).1 := by
    intro f
    induction f with
    | zero => intro x frm h; exact h
    | succ f ih =>
      intro x frm h
      by_cases he : x.err = 0
      · rw [until_step _ _ _ _ _ he hz]
        split
        · rename_i hh
          intro _
          have := Ch.has_size hh (by have : t.data.toList.length = t.size := by simp
                                     omega)
          have h2 : t.data.toList.length = t.size := by simp
          show x.i + t.size ≤ _; omega
        · split
          · rename_i hc
            have := cur_pos hc
            exact ih _ _ fun _ => by show x.i + wid s x.i ≤ _; omega
          · exact ih _ _ fun e => absurd e (wrong_err x s he)
      · rw [until_err _ _ _ _ _ he]; exact h
  exact key _ _ _ h
theorem attrs_f (h : Fits s x) : Fits s (x.attrs s).1 := by
  by_cases he : x.err = 0
  · have hA : InA x ⟨fun j => if j = .text then x.more else [], fun _ => x.frm, 0, [], [], 0, x.l⟩ [] [] 0 := ⟨⟨rfl, rfl, fun _ => rfl⟩, rfl, rfl, rfl, rfl, rfl⟩
    rcases runs_attrs (g := fun _ => []) (s := s) (s.size + 2) x [] _ he (h he) (by omega) hA with ⟨_, _, h3, _⟩ | ⟨h1, _⟩
    · exact fun _ => h3
    · exact fun e => absurd e h1
  · unfold Sc.attrs; rw [attrsF_err he]; exact h
structure Kit (X : Nat) (s : ByteArray) (lv : Value) : Prop where
  is_ : ∀ W x, SAt X W s lv x → ∀ c : Nat, c < 256 → Calls Tryz.prog 65 #[.pointer (some ⟨X, 0, none⟩), .int .u8 c] W fun en w' => en = .returned (.bool (x.is s c)) ∧ SE X W s lv x w'
  must : ∀ W x, SAt X W s lv x → Fits s x → ∀ t : ByteArray, 0 < t.size → t.size ≤ 1024 → Calls Tryz.prog 66 #[.pointer (some ⟨X, 0, none⟩), .string t] W fun en w' => en = .returned (.tuple #[]) ∧ SE X W s lv (Sc.mustL s (drp t 0) x) w'
  until_ : ∀ W x, SAt X W s lv x → Fits s x → ∀ t : ByteArray, t.size ≤ 1024 → Calls Tryz.prog 67 #[.pointer (some ⟨X, 0, none⟩), .string t] W fun en w' => en = .returned (.string (x.until s t).2) ∧ SE X W s lv (x.until s t).1 w'
  name : ∀ W x, SAt X W s lv x → Fits s x → Calls Tryz.prog 68 #[.pointer (some ⟨X, 0, none⟩)] W fun en w' => en = .returned (.string (x.name s).2) ∧ SE X W s lv (x.name s).1 w'
  blanks : ∀ W x, SAt X W s lv x → Fits s x → Calls Tryz.prog 69 #[.pointer (some ⟨X, 0, none⟩)] W fun en w' => en = .returned (.int .i64 (x.skip s)) ∧ SE X W s lv (x.blanks s) w'
  texted : ∀ W x, SAt X W s lv x → ∀ (t : ByteArray) (a : Int), x.more.length + t.size ≤ 1125899906842624 → Calls Tryz.prog 43 #[.pointer (some ⟨X, 0, none⟩), .string t, .int .i64 a] W fun en w' => en = .returned (.tuple #[]) ∧ SE X W s lv (x.texted t a) w'
  attrs : ∀ W x, SAt X W s lv x → Fits s x → Calls Tryz.prog 71 #[.pointer (some ⟨X, 0, none⟩)] W fun en w' => ∃ v, en = .returned v ∧ SE X W s lv (x.attrs s).1 w' ∧ w'.ownsRow 0 82 2 v (x.attrs s).2.length (attrCells (x.attrs s).2) ∧ (∀ k, v.ownBlock = some k → W.heap.size ≤ k)
theorem kit_of (X : Nat) (s : ByteArray) (lv : Value) (hs : s.size ≤ 1099511627776) : Kit X s lv where
  is_ := fun W x b c hc => (is_sc b c hc).mono fun en w' ⟨h1, h2⟩ => ⟨h1, SE.fromBelow b h2⟩
  must := fun W x b hf t h0 h1 => must_any b (by omega) hf t h0 h1
  until_ := fun W x b hf t h1 => until_sc b (by omega) hf t h1
  name := fun W x b hf => name_sc b (by omega) hf
  blanks := fun W x b hf => blanks_sc b (by omega) hf
  texted := fun W x b t a h => texted_sc b t a h
  attrs := fun W x b hf => attrs_sc b (by omega) hs hf
theorem tell_after (h : RS F X w s lv cs x) {w1 : World} {y : Sc} (k : SE X w s lv y w1) (hl : Same3 x y) (t : Tok) (v : Value) (ha : w1.ownsRow 0 82 2 v t.attrs.length (attrCells t.attrs)) (hv : ∀ k, v.ownBlock = some k → w.heap.size ≤ k) (hn : y.l.length ≤ 1099511627776) :
    Calls Tryz.prog 70 #[.pointer (some ⟨X, 0, none⟩), .agg #[.int .i64 t.kind, strV t.name, v, strV t.text, .int .i64 t.at_]] w1 fun en w' => en = .returned (.tuple #[]) ∧ RSE F X w s (y.told t) w' := by
  obtain ⟨lv2, cs2, rs2, f2⟩ := h.ofSE k hl.1
  obtain ⟨ai, ac, rfl⟩ := slice_len ha
  have hX : X < w.heap.size := h.lt X h.has
  refine (told_rs rs2 t ai t.attrs.length ac ha (fun k e => ⟨Or.inr ⟨hv k e, own_lt ha e⟩, fun e2 => by have := hv k e; omega⟩) hn).mono ?_
  rintro en w' ⟨rfl, r⟩
  exact ⟨rfl, RSE.on ⟨lv2, cs2, rs2, f2⟩ fun _ _ _ => r⟩
theorem tell_next {w1 : World} {y : Sc} (h : RSE F X w s y w1) (t : Tok) (hat : t.attrs = []) (hn : y.l.length ≤ 1099511627776) :
    Calls Tryz.prog 70 #[.pointer (some ⟨X, 0, none⟩), .agg #[.int .i64 t.kind, strV t.name, .slice none 0 0, strV t.text, .int .i64 t.at_]] w1 fun en w' => en = .returned (.tuple #[]) ∧ RSE F X w s (y.told t) w' := by
  obtain ⟨lv2, cs2, rs2, f2⟩ := h
  have ha : w1.ownsRow 0 82 2 (.slice none 0 0) t.attrs.length (attrCells t.attrs) := by rw [hat]; exact World.ownsRow_nil _ _ _ _
  refine (told_rs rs2 t none 0 0 ha (by intro k e; simp [Value.ownBlock] at e) hn).mono ?_
  rintro en w' ⟨rfl, r⟩
  exact ⟨rfl, RSE.on ⟨lv2, cs2, rs2, f2⟩ fun _ _ _ => r⟩
theorem strV_back (b : ByteArray) : strV b.data.toList = .string b := by unfold strV; simp
end Go.Proofs.YtfolnkmbdmfigaaGreatDoor

set_option linter.unusedSimpArgs false
set_option linter.unusedVariables false
namespace Go.Proofs.YtfolnkmbdmfigaaGreatDoor
open Go.RowKit Go.Maps Go.Lib
variable {X : Nat} {w w' w'' wr : World} {s t : ByteArray} {lv : Value} {x x' : Sc} {F : Nat → Prop} {cs : List Value}
theorem se_inc {w1 : World} {y : Sc} (k : SE X w s lv y w1) (I J : Nat) (hJ : J = I + 1) : SE X w s lv { y with i := J } (w1.setCell ⟨X, 1, none⟩ (.int .i64 ((I : Int) + 1))) := by
  rw [show ((I : Int) + 1) = (J : Int) by omega]
  exact k.set (x' := { y with i := J }) 1 (.int .i64 (J : Int)) rfl
theorem until_size (x : Sc) (s t : ByteArray) : (x.until s t).2.size ≤ s.size := by
  have key : ∀ (f : Nat) (x : Sc) (frm : Nat), (untilF s t frm f x).2.size ≤ s.size := by
    intro f
    induction f with
    | zero => intro x frm; exact Nat.zero_le _
    | succ f ih =>
      intro x frm
      simp only [untilF]
      repeat' split
      · simp only [ByteArray.size_extract]; omega
      · exact ih _ _
      · exact ih _ _
      · exact Nat.zero_le _
  exact key _ _ _
set_option maxHeartbeats 4000000 in
set_option maxRecDepth 10000 in
theorem markup_rs (h : RS F X w s lv cs x) (hs : s.size ≤ 1099511627776) (he : x.err = 0) (hi : x.i < s.size) (hn : x.l.length ≤ 1099511627770) (hm : x.more.length ≤ s.size) :
    Calls Tryz.prog 41 #[.pointer (some ⟨X, 0, none⟩)] w fun en w' => en = .returned (.tuple #[]) ∧ RSE F X w s (x.markup s) w' := by
  have c1 : w.cell? ⟨X, 1, none⟩ = some (.int .i64 x.i) := h.sat.cell 1 rfl
  have f1 := h.sat.free 1
  have hlt := h.sat.lt
  have kit := kit_of X s lv hs
  obtain ⟨J, hJ⟩ : ∃ J, J = x.i + 1 := ⟨_, rfl⟩
  have hwr : IntKind.i64.wrap ((x.i : Int) + 1) = (x.i : Int) + 1 := by rw [IntKind.wrap_i64]; omega
  have R0 := hide (se_inc (SE.refl h.sat) x.i J hJ)
  have hmk : x.markup s = Sc.behind { x with i := J } s x.i := by unfold Sc.markup; rw [hJ]
  rw [hmk]
  have hx0 : Same3 x { x with i := J } := at_s x J
  have hxe : ({ x with i := J } : Sc).err = 0 := he
  have hxi : ({ x with i := J } : Sc).i = J := rfl
  have hxf : Fits s { x with i := J } := fun _ => by show J ≤ _; omega
  generalize ({ x with i := J } : Sc) = x1 at *
  have K := hide kit
  have H := hide h
  have HS := hide hx0
  have HXE := hide hxe
  have HXF := hide hxf
  clear kit h hx0 hmk he hxe hxf
  have i33 := fun W (b : SAt X W s lv x1) => K.out.is_ W x1 b 33 (by decide)
  have i63 := fun W (b : SAt X W s lv x1) => K.out.is_ W x1 b 63 (by decide)
  have i47 := fun W (b : SAt X W s lv x1) => K.out.is_ W x1 b 47 (by decide)
  unfold Sc.behind
  cases q33 : x1.is s 33
  · rw [q33] at i33
    have I33 := hide i33
    clear i33 q33
    simp only [Bool.false_eq_true, if_false]
    cases q63 : x1.is s 63
    · rw [q63] at i63
      have I63 := hide i63
      clear i63 q63
      simp only [Bool.false_eq_true, if_false]
      cases q47 : x1.is s 47
      · rw [q47] at i47
        have I47 := hide i47
        clear i47 q47
        simp only [Bool.false_eq_true, if_false]
        have hns : Same3 x (x1.name s).1 := HS.out.trans (name_s _ s)
        have hnf : Fits s (x1.name s).1 := name_f HXF.out
        have hnm := fun W (b : SAt X W s lv x1) => K.out.name W x1 b HXF.out
        unfold Sc.openTag
        generalize x1.name s = N at *
        have hat := fun W (b : SAt X W s lv N.1) => K.out.attrs W N.1 b hnf
        have has : Same3 x (N.1.attrs s).1 := hns.trans (attrs_s _ s)
        have haf : Fits s (N.1.attrs s).1 := attrs_f hnf
        generalize N.1.attrs s = A at *
        have hi2 := fun W (b : SAt X W s lv A.1) => K.out.is_ W A.1 b 47 (by decide)
        unfold Sc.openTail
        have HNM := hide hnm
        have HAT := hide hat
        have HAS := hide has
        have HAF := hide haf
        have HJ := hide hJ
        clear hnm hat has haf hns hnf hJ
        cases q2 : A.1.is s 47
        · rw [q2] at hi2
          have I2 := hide hi2
          clear hi2 q2
          simp only [Bool.false_eq_true, if_false]
          go_enter Tryz.func41, Tryz.ntmps41
          go_wp2_with fail
          refine (I33.out _ R0.out.1).mono ?_
          rintro e w1 ⟨rfl, r1⟩
          have R1 := hide (R0.out.on r1)
          clear r1 I33
          go_wp2_with fail
          refine (I63.out _ R1.out.1).mono ?_
          rintro e w2 ⟨rfl, r2⟩
          have R2 := hide (R1.out.on r2)
          clear r2 I63
          go_wp2_with fail
          refine (I47.out _ R2.out.1).mono ?_
          rintro e w3 ⟨rfl, r3⟩
          have R3 := hide (R2.out.on r3)
          clear r3 I47
          go_wp2_with fail
          refine (HNM.out _ R3.out.1).mono ?_
          rintro e w4 ⟨rfl, r4⟩
          have R4 := hide (R3.out.on r4)
          clear r4
          go_wp2_with fail
          refine (HAT.out _ R4.out.1).mono ?_
          rintro e w5 ⟨v, rfl, r5, row5, own5⟩
          obtain ⟨ai, ac, rfl⟩ := slice_len row5
          have R5 := hide (R4.out.on r5)
          have ROW5 := hide row5
          have OWN5 : Hid (∀ k, (Value.slice ai A.2.length ac).ownBlock = some k → w.heap.size ≤ k) := hide fun k e => Nat.le_trans R4.out.2.size (own5 k e)
          clear r5 row5 own5
          have hvX : Hid ((Value.slice ai A.2.length ac).ownBlock ≠ some X) := hide fun e => by have := OWN5.out X e; omega
          go_wp2_with fail
          refine (I2.out _ R5.out.1).mono ?_
          rintro e w6 ⟨rfl, r6⟩
          have R6 := hide (R5.out.on r6)
          have ROW6 := hide (row_stays ROW5.out hvX.out r6.2)
          clear r6
          go_wp2_with fail
          refine (K.out.must _ _ R6.out.1 HAF.out ⟨#[62]⟩ (by decide) (by decide)).mono ?_
          rintro e w7 ⟨rfl, r7⟩
          have R7 := hide (R6.out.on r7)
          have ROW7 := hide (row_stays ROW6.out hvX.out r7.2)
          clear r7
          have hsm : Same3 x (Sc.mustL s [62] A.1) := HAS.out.trans (mustL_s s _ _)
          have htl := tell_after H.out R7.out hsm ⟨1, N.2.data.toList, A.2, [], x.i⟩ (.slice ai A.2.length ac) ROW7.out OWN5.out (by show (Sc.mustL s [62] A.1).l.length ≤ _; rw [hsm.1]; omega)
          simp only [strV_back] at htl
          go_wp2_with fail
          refine htl.mono ?_
          rintro e w8 ⟨rfl, r8⟩
          have R8 := hide r8
          clear r8 htl hsm
          go_wp2
          go_end0
          exact ⟨rfl, R8.out⟩
        · have hli := is_lt q2
          rw [q2] at hi2
          have I2 := hide hi2
          clear hi2 q2
          simp only [if_true]
          have hwr2 : IntKind.i64.wrap ((A.1.i : Int) + 1) = (A.1.i : Int) + 1 := by rw [IntKind.wrap_i64]; omega
          have RR := hide (fun w1 (r : SE X w s lv A.1 w1) => se_inc r A.1.i (A.1.i + 1) rfl)
          have HS2 : Hid (Same3 x { A.1 with i := A.1.i + 1 }) := hide (HAS.out.trans (at_s _ _))
          have HF2 : Hid (Fits s { A.1 with i := A.1.i + 1 }) := hide fun _ => by show A.1.i + 1 ≤ _; omega
          generalize hA2 : ({ A.1 with i := A.1.i + 1 } : Sc) = A2 at *
          clear hA2
          go_enter Tryz.func41, Tryz.ntmps41
          go_wp2_with fail
          refine (I33.out _ R0.out.1).mono ?_
          rintro e w1 ⟨rfl, r1⟩
          have R1 := hide (R0.out.on r1)
          clear r1 I33
          go_wp2_with fail
          refine (I63.out _ R1.out.1).mono ?_
          rintro e w2 ⟨rfl, r2⟩
          have R2 := hide (R1.out.on r2)
          clear r2 I63
          go_wp2_with fail
          refine (I47.out _ R2.out.1).mono ?_
          rintro e w3 ⟨rfl, r3⟩
          have R3 := hide (R2.out.on r3)
          clear r3 I47
          go_wp2_with fail
          refine (HNM.out _ R3.out.1).mono ?_
          rintro e w4 ⟨rfl, r4⟩
          have R4 := hide (R3.out.on r4)
          clear r4
          go_wp2_with fail
          refine (HAT.out _ R4.out.1).mono ?_
          rintro e w5 ⟨v, rfl, r5, row5, own5⟩
          obtain ⟨ai, ac, rfl⟩ := slice_len row5
          have R5 := hide (R4.out.on r5)
          have ROW5 := hide row5
          have OWN5 : Hid (∀ k, (Value.slice ai A.2.length ac).ownBlock = some k → w.heap.size ≤ k) := hide fun k e => Nat.le_trans R4.out.2.size (own5 k e)
          clear r5 row5 own5
          have hvX : Hid ((Value.slice ai A.2.length ac).ownBlock ≠ some X) := hide fun e => by have := OWN5.out X e; omega
          go_wp2_with fail
          refine (I2.out _ R5.out.1).mono ?_
          rintro e w6 ⟨rfl, r6⟩
          have R6 := hide (R5.out.on r6)
          have ROW6 := hide (row_stays ROW5.out hvX.out r6.2)
          have c61 : w6.cell? ⟨X, 1, none⟩ = some (.int .i64 (A.1.i : Int)) := R6.out.1.cell 1 rfl
          have f61 := R6.out.1.free 1
          have RS6 := hide (RR.out w6 R6.out)
          have ROWS6 := hide (owns_of ROW6.out fun k e => Below.heap_setCell w6 ⟨X, 1, none⟩ (.int .i64 ((A.1.i : Int) + 1)) k (fun e2 => hvX.out (by rw [e]; exact congrArg some e2)))
          clear r6
          go_wp2_with fail
          refine (K.out.must _ _ RS6.out.1 HF2.out ⟨#[62]⟩ (by decide) (by decide)).mono ?_
          rintro e w7 ⟨rfl, r7⟩
          have R7 := hide (RS6.out.on r7)
          have ROW7 := hide (row_stays ROWS6.out hvX.out r7.2)
          clear r7
          have hsm : Same3 x (Sc.mustL s [62] A2) := HS2.out.trans (mustL_s s _ _)
          have htl := tell_after H.out R7.out hsm ⟨1, N.2.data.toList, A.2, [], x.i⟩ (.slice ai A.2.length ac) ROW7.out OWN5.out (by show (Sc.mustL s [62] A2).l.length ≤ _; rw [hsm.1]; omega)
          simp only [strV_back] at htl
          go_wp2_with fail
          refine htl.mono ?_
          rintro e w8 ⟨rfl, r8⟩
          have htn := tell_next r8 ⟨2, N.2.data.toList, [], [], x.i⟩ rfl (by have := told_len (Sc.mustL s [62] A2) ⟨1, N.2.data.toList, A.2, [], x.i⟩; have h5 := hsm.1; show (Sc.told (Sc.mustL s [62] A2) ⟨1, N.2.data.toList, A.2, [], x.i⟩).l.length ≤ _; rw [h5] at this; omega)
          simp only [strV_back] at htn
          clear htl hsm r8
          go_wp2_with fail
          refine htn.mono ?_
          rintro e w9 ⟨rfl, r9⟩
          have R9 := hide r9
          clear r9 htn
          go_wp2
          go_end0
          exact ⟨rfl, R9.out⟩
      · have hlt2 : J < s.size := by have := is_lt q47; omega
        rw [q47] at i47
        have I47 := hide i47
        clear i47 q47
        simp only [if_true]
        obtain ⟨J2, hJ2⟩ : ∃ J2, J2 = J + 1 := ⟨_, rfl⟩
        have hwr2 : IntKind.i64.wrap ((J : Int) + 1) = (J : Int) + 1 := by rw [IntKind.wrap_i64]; omega
        have e2 : ({ x1 with i := x1.i + 1 } : Sc) = { x1 with i := J2 } := by rw [hxi, hJ2]
        rw [e2]
        have hx2 : Same3 x { x1 with i := J2 } := HS.out.trans (at_s x1 J2)
        have hf2 : Fits s { x1 with i := J2 } := fun _ => by show J2 ≤ _; omega
        have R2' := fun w1 (r : SE X w s lv x1 w1) => se_inc r J J2 hJ2
        clear e2
        generalize ({ x1 with i := J2 } : Sc) = x2 at *
        have HS2 := hide hx2
        have HF2 := hide hf2
        have RR := hide R2'
        have HJ := hide hJ
        have HJ2 := hide hJ2
        clear hx2 hf2 R2' hJ hJ2
        unfold Sc.closeTag
        go_enter Tryz.func41, Tryz.ntmps41
        go_wp2_with fail
        refine (I33.out _ R0.out.1).mono ?_
        rintro e w1 ⟨rfl, r1⟩
        have R1 := hide (R0.out.on r1)
        clear r1 I33
        go_wp2_with fail
        refine (I63.out _ R1.out.1).mono ?_
        rintro e w2 ⟨rfl, r2⟩
        have R2 := hide (R1.out.on r2)
        clear r2 I63
        go_wp2_with fail
        refine (I47.out _ R2.out.1).mono ?_
        rintro e w3 ⟨rfl, r3⟩
        have R3 := hide (R2.out.on r3)
        have c31 : w3.cell? ⟨X, 1, none⟩ = some (.int .i64 (J : Int)) := by have := R3.out.1.cell (i := 1) (v := .int .i64 (x1.i : Int)) rfl; rw [hxi] at this; exact this
        have f31 := R3.out.1.free 1
        have R4 := hide (RR.out w3 R3.out)
        clear r3 I47
        go_wp2_with fail
        refine (K.out.name _ _ R4.out.1 HF2.out).mono ?_
        rintro e w5 ⟨rfl, r5⟩
        have R5 := hide (R4.out.on r5)
        clear r5
        go_wp2_with fail
        refine (K.out.blanks _ _ R5.out.1 (name_f HF2.out)).mono ?_
        rintro e w6 ⟨rfl, r6⟩
        have R6 := hide (R5.out.on r6)
        clear r6
        go_wp2_with fail
        refine (K.out.must _ _ R6.out.1 (blanks_f (name_f HF2.out)) ⟨#[62]⟩ (by decide) (by decide)).mono ?_
        rintro e w7 ⟨rfl, r7⟩
        have R7 := hide (R6.out.on r7)
        clear r7
        have hsm : Same3 x (Sc.mustL s [62] ((x2.name s).1.blanks s)) := ((HS2.out.trans (name_s _ s)).trans (blanks_s _ s)).trans (mustL_s s _ _)
        have htl := tell_after H.out R7.out hsm ⟨2, (x2.name s).2.data.toList, [], [], x.i⟩ (.slice none 0 0) (World.ownsRow_nil _ _ _ _) (by intro k e; simp [Value.ownBlock] at e) (by show (Sc.mustL s [62] ((x2.name s).1.blanks s)).l.length ≤ _; rw [hsm.1]; omega)
        simp only [strV_back] at htl
        go_wp2_with fail
        refine htl.mono ?_
        rintro e w8 ⟨rfl, r8⟩
        go_wp2
        refine bodyPost_ret (results_none rfl _ _ _) rfl ?_
        exact ⟨rfl, r8⟩
    · have hlt2 : J < s.size := by have := is_lt q63; omega
      rw [q63] at i63
      have I63 := hide i63
      clear i63 q63 i47
      simp only [if_true]
      obtain ⟨J2, hJ2⟩ : ∃ J2, J2 = J + 1 := ⟨_, rfl⟩
      have hwr2 : IntKind.i64.wrap ((J : Int) + 1) = (J : Int) + 1 := by rw [IntKind.wrap_i64]; omega
      have e2 : ({ x1 with i := x1.i + 1 } : Sc) = { x1 with i := J2 } := by rw [hxi, hJ2]
      rw [e2]
      have hx2 : Same3 x { x1 with i := J2 } := HS.out.trans (at_s x1 J2)
      have hf2 : Fits s { x1 with i := J2 } := fun _ => by show J2 ≤ _; omega
      have R2' := fun w1 (r : SE X w s lv x1 w1) => se_inc r J J2 hJ2
      clear e2
      generalize ({ x1 with i := J2 } : Sc) = x2 at *
      have HS2 := hide hx2
      have HF2 := hide hf2
      have RR := hide R2'
      have HJ := hide hJ
      have HJ2 := hide hJ2
      clear hx2 hf2 R2' hJ hJ2
      unfold Sc.order
      go_enter Tryz.func41, Tryz.ntmps41
      go_wp2_with fail
      refine (I33.out _ R0.out.1).mono ?_
      rintro e w1 ⟨rfl, r1⟩
      have R1 := hide (R0.out.on r1)
      clear r1 I33
      go_wp2_with fail
      refine (I63.out _ R1.out.1).mono ?_
      rintro e w2 ⟨rfl, r2⟩
      have R2 := hide (R1.out.on r2)
      have c21 : w2.cell? ⟨X, 1, none⟩ = some (.int .i64 (J : Int)) := by have := R2.out.1.cell (i := 1) (v := .int .i64 (x1.i : Int)) rfl; rw [hxi] at this; exact this
      have f21 := R2.out.1.free 1
      have R3 := hide (RR.out w2 R2.out)
      clear r2 I63
      go_wp2_with fail
      refine (K.out.name _ _ R3.out.1 HF2.out).mono ?_
      rintro e w4 ⟨rfl, r4⟩
      have R4 := hide (R3.out.on r4)
      clear r4
      go_wp2_with fail
      refine (K.out.until_ _ _ R4.out.1 (name_f HF2.out) ⟨#[63, 62]⟩ (by decide)).mono ?_
      rintro e w5 ⟨rfl, r5⟩
      have R5 := hide (R4.out.on r5)
      clear r5
      go_wp2
      refine bodyPost_ret (results_none rfl _ _ _) rfl ?_
      exact ⟨rfl, H.out.ofSE R5.out ((HS2.out.trans (name_s _ s)).trans (until_s _ s _)).1⟩
  · have hlt2 : J < s.size := by have := is_lt q33; omega
    rw [q33] at i33
    have I33 := hide i33
    clear i33 q33 i63 i47
    simp only [if_true]
    obtain ⟨J2, hJ2⟩ : ∃ J2, J2 = J + 1 := ⟨_, rfl⟩
    have hwr2 : IntKind.i64.wrap ((J : Int) + 1) = (J : Int) + 1 := by rw [IntKind.wrap_i64]; omega
    have e2 : ({ x1 with i := x1.i + 1 } : Sc) = { x1 with i := J2 } := by rw [hxi, hJ2]
    rw [e2]
    have hx2 : Same3 x { x1 with i := J2 } := HS.out.trans (at_s x1 J2)
    have hf2 : Fits s { x1 with i := J2 } := fun _ => by show J2 ≤ _; omega
    have R2' := fun w1 (r : SE X w s lv x1 w1) => se_inc r J J2 hJ2
    have hx2i : ({ x1 with i := J2 } : Sc).i = J2 := rfl
    clear e2
    generalize ({ x1 with i := J2 } : Sc) = x2 at *
    have HS2 := hide hx2
    have HF2 := hide hf2
    have RR := hide R2'
    have HJ := hide hJ
    have HJ2 := hide hJ2
    clear hx2 hf2 R2' hJ hJ2
    have i91 := fun W (b : SAt X W s lv x2) => K.out.is_ W x2 b 91 (by decide)
    unfold Sc.bang
    cases q91 : x2.is s 91
    · rw [q91] at i91
      have I91 := hide i91
      clear i91 q91
      simp only [Bool.false_eq_true, if_false]
      go_enter Tryz.func41, Tryz.ntmps41
      go_wp2_with fail
      refine (I33.out _ R0.out.1).mono ?_
      rintro e w1 ⟨rfl, r1⟩
      have R1 := hide (R0.out.on r1)
      have c11 : w1.cell? ⟨X, 1, none⟩ = some (.int .i64 (J : Int)) := by have := R1.out.1.cell (i := 1) (v := .int .i64 (x1.i : Int)) rfl; rw [hxi] at this; exact this
      have f11 := R1.out.1.free 1
      have R2 := hide (RR.out w1 R1.out)
      clear r1 I33
      go_wp2_with fail
      refine (I91.out _ R2.out.1).mono ?_
      rintro e w3 ⟨rfl, r3⟩
      have R3 := hide (R2.out.on r3)
      clear r3 I91
      go_wp2_with fail
      refine (K.out.must _ _ R3.out.1 HF2.out ⟨#[45, 45]⟩ (by decide) (by decide)).mono ?_
      rintro e w4 ⟨rfl, r4⟩
      have R4 := hide (R3.out.on r4)
      clear r4
      go_wp2_with fail
      refine (K.out.until_ _ _ R4.out.1 (mustL_f s _ _ HF2.out) ⟨#[45, 45]⟩ (by decide)).mono ?_
      rintro e w5 ⟨rfl, r5⟩
      have R5 := hide (R4.out.on r5)
      clear r5
      go_wp2_with fail
      refine (K.out.must _ _ R5.out.1 (until_f _ (by decide) (mustL_f s _ _ HF2.out)) ⟨#[62]⟩ (by decide) (by decide)).mono ?_
      rintro e w6 ⟨rfl, r6⟩
      have R6 := hide (R5.out.on r6)
      clear r6
      go_wp2
      refine bodyPost_ret (results_none rfl _ _ _) rfl ?_
      exact ⟨rfl, H.out.ofSE (x' := x2.remark s) R6.out (((HS2.out.trans (mustL_s s _ _)).trans (until_s _ s _)).trans (mustL_s s _ _)).1⟩
    · rw [q91] at i91
      have I91 := hide i91
      clear i91 q91
      simp only [if_true]
      unfold Sc.cdata
      have hYs : Same3 x (Sc.mustL s [91, 67, 68, 65, 84, 65, 91] x2) := HS2.out.trans (mustL_s s _ _)
      have hYf : Fits s (Sc.mustL s [91, 67, 68, 65, 84, 65, 91] x2) := mustL_f s _ _ HF2.out
      have hmu := fun W (b : SAt X W s lv x2) => K.out.must W x2 b HF2.out ⟨#[91, 67, 68, 65, 84, 65, 91]⟩ (by decide) (by decide)
      have hd : drp ⟨#[91, 67, 68, 65, 84, 65, 91]⟩ 0 = [91, 67, 68, 65, 84, 65, 91] := rfl
      rw [hd] at hmu
      generalize Sc.mustL s [91, 67, 68, 65, 84, 65, 91] x2 = Y at *
      have hun := fun W (b : SAt X W s lv Y) => K.out.until_ W Y b hYf ⟨#[93, 93, 62]⟩ (by decide)
      have hUs : Same3 x (Y.until s ⟨#[93, 93, 62]⟩).1 := hYs.trans (until_s Y s _)
      have hUb : (Y.until s ⟨#[93, 93, 62]⟩).2.size ≤ s.size := until_size Y s _
      have hmo : (Y.until s ⟨#[93, 93, 62]⟩).1.more.length + (Y.until s ⟨#[93, 93, 62]⟩).2.size ≤ 1125899906842624 := by rw [hUs.2.1]; omega
      generalize Y.until s ⟨#[93, 93, 62]⟩ = U at *
      generalize hG : (if U.1.err = 0 ∧ U.2.data.toList ≠ [] then U.1.texted U.2 Y.i else U.1) = G at *
      have HG := hide hG
      have HMU := hide hmu
      have HUN := hide hun
      have HYS := hide hYs
      have HUS := hide hUs
      clear hmu hun hYs hUs hYf hd hG
      go_enter Tryz.func41, Tryz.ntmps41
      go_wp2_with fail
      refine (I33.out _ R0.out.1).mono ?_
      rintro e w1 ⟨rfl, r1⟩
      have R1 := hide (R0.out.on r1)
      have c11 : w1.cell? ⟨X, 1, none⟩ = some (.int .i64 (J : Int)) := by have := R1.out.1.cell (i := 1) (v := .int .i64 (x1.i : Int)) rfl; rw [hxi] at this; exact this
      have f11 := R1.out.1.free 1
      have R2 := hide (RR.out w1 R1.out)
      clear r1 I33
      go_wp2_with fail
      refine (I91.out _ R2.out.1).mono ?_
      rintro e w3 ⟨rfl, r3⟩
      have R3 := hide (R2.out.on r3)
      clear r3 I91
      go_wp2_with fail
      refine (HMU.out _ R3.out.1).mono ?_
      rintro e w4 ⟨rfl, r4⟩
      have R4 := hide (R3.out.on r4)
      have c41 : w4.cell? ⟨X, 1, none⟩ = some (.int .i64 (Y.i : Int)) := R4.out.1.cell 1 rfl
      clear r4
      go_wp2_with fail
      refine (HUN.out _ R4.out.1).mono ?_
      rintro e w5 ⟨rfl, r5⟩
      have R5 := hide (R4.out.on r5)
      have c55 : w5.cell? ⟨X, 5, none⟩ = some (.int .i64 U.1.err) := R5.out.1.cell 5 rfl
      clear r5
      by_cases hue : U.1.err = 0
      · have e0 : (U.1.err == 0) = true := by simpa using hue
        have htl : U.2.toList = U.2.data.toList := Lib.toList_data _
        cases hb : U.2.toList.isEmpty
        · have hne : U.2.data.toList ≠ [] := by
            intro e
            rw [htl, e] at hb; cases hb
          have hG2 := HG.out
          rw [if_pos ⟨hue, hne⟩] at hG2
          have HG2 := hide hG2
          clear hG2
          have htx := K.out.texted w5 U.1 R5.out.1 U.2 Y.i hmo
          clear hue hne htl
          go_wp2_with fail
          refine htx.mono ?_
          rintro e w6 ⟨rfl, r6⟩
          have R6 := hide (R5.out.on r6)
          clear r6 htx
          go_wp2
          refine bodyPost_ret (results_none rfl _ _ _) rfl ?_
          exact ⟨rfl, by rw [← HG2.out]; exact H.out.ofSE R6.out HUS.out.1⟩
        · have hne : ¬ (U.1.err = 0 ∧ U.2.data.toList ≠ []) := by
            rintro ⟨_, e⟩
            apply e
            rw [← htl]
            simpa using hb
          have hG2 := HG.out
          rw [if_neg hne] at hG2
          have HG2 := hide hG2
          clear hue hne htl hG2
          go_wp2
          refine bodyPost_ret (results_none rfl _ _ _) rfl ?_
          exact ⟨rfl, by rw [← HG2.out]; exact H.out.ofSE R5.out HUS.out.1⟩
      · have e0 : (U.1.err == 0) = false := by simpa using hue
        have hG2 := HG.out
        rw [if_neg (fun e => hue e.1)] at hG2
        have HG2 := hide hG2
        clear hue hG2
        go_wp2
        refine bodyPost_ret (results_none rfl _ _ _) rfl ?_
        exact ⟨rfl, by rw [← HG2.out]; exact H.out.ofSE R5.out HUS.out.1⟩
end Go.Proofs.YtfolnkmbdmfigaaGreatDoor

set_option linter.unusedSimpArgs false
set_option linter.unusedVariables false
namespace Go.Proofs.YtfolnkmbdmfigaaGreatDoor
open Go.RowKit Go.Maps Go.Lib
variable {X : Nat} {w w' w'' wr : World} {s t : ByteArray} {lv : Value} {x x' : Sc} {F : Nat → Prop} {cs : List Value}
theorem rel_any (x : Sc) : Rel x ⟨fun j => if j = .text then x.more else [], fun _ => x.frm, 0, [], [], 0, x.l⟩ := ⟨⟨rfl, rfl, fun _ => rfl⟩, rfl, rfl, rfl⟩
structure RI2 (X : Nat) (w : World) (s : ByteArray) (y : Sc) (wr : World) (x : Sc) (f : Nat) : Prop where
  rs : RSE (fun k => k = X) X w s x wr
  eq : readF s f x = y
  ok : x.err = 0 → x.i ≤ s.size ∧ s.size < x.i + f ∧ x.more.length ≤ x.i ∧ x.l.length ≤ 3 * x.i
theorem piece_ok (he : x.err = 0) (hi : x.i < s.size) : (x.piece s).err = 0 → x.i < (x.piece s).i ∧ (x.piece s).i ≤ s.size ∧ (x.piece s).more.length + x.i ≤ x.more.length + (x.piece s).i ∧ (x.piece s).l.length ≤ x.l.length + 3 := by
  rcases done_piece (g := fun _ => []) he hi (rel_any x) with ⟨_, h2, h3, h4, _⟩ | ⟨h1, _⟩
  · exact fun _ => ⟨h2, h3, h4.2.1, h4.2.2⟩
  · exact fun e => absurd e h1
theorem RSE.past (h : RSE F X w s x w') (b : Below w'.heap.size w' w'') : RSE F X w s x w'' := h.on fun _ _ rs => rs.below b
theorem RSE.sat (h : RSE F X w s x w') : ∃ lv, SAt X w' s lv x := by obtain ⟨lv, cs, r, _⟩ := h; exact ⟨lv, r.sat⟩
theorem markup_on (h : RSE F X w s x wr) (hs : s.size ≤ 274877906944) (he : x.err = 0) (hi : x.i < s.size) (hm : x.more.length ≤ x.i) (hl : x.l.length ≤ 3 * x.i) : Calls Tryz.prog 41 #[.pointer (some ⟨X, 0, none⟩)] wr fun en w' => en = .returned (.tuple #[]) ∧ RSE F X w s (x.markup s) w' := by
  obtain ⟨lv, cs, r, f⟩ := h
  refine (markup_rs r (by omega) he hi (by omega) (by omega)).mono ?_
  rintro en w' ⟨rfl, r2⟩
  exact ⟨rfl, RSE.on ⟨lv, cs, r, f⟩ fun _ _ _ => r2⟩
theorem char_on (h : RSE F X w s x wr) (hs : s.size ≤ 274877906944) : Calls Tryz.prog 42 #[.pointer (some ⟨X, 0, none⟩), .int .u8 60] wr fun en w' => en = .returned (.string (x.char s 60).2) ∧ RSE F X w s (x.char s 60).1 w' := by
  obtain ⟨lv, cs, r, f⟩ := h
  refine (char_sc r.sat (by omega) 60).mono ?_
  rintro en w' ⟨rfl, r2⟩
  exact ⟨rfl, RSE.on ⟨lv, cs, r, f⟩ fun _ _ _ => r.ofSE r2 (char_s x s 60).1⟩
theorem texted_on (h : RSE F X w s x wr) (t : ByteArray) (a : Int) (hz : x.more.length + t.size ≤ 1125899906842624) : Calls Tryz.prog 43 #[.pointer (some ⟨X, 0, none⟩), .string t, .int .i64 a] wr fun en w' => en = .returned (.tuple #[]) ∧ RSE F X w s (x.texted t a) w' := by
  obtain ⟨lv, cs, r, f⟩ := h
  refine (texted_sc r.sat t a hz).mono ?_
  rintro en w' ⟨rfl, r2⟩
  exact ⟨rfl, RSE.on ⟨lv, cs, r, f⟩ fun _ _ _ => r.ofSE r2 rfl⟩
theorem RI2.next {y : Sc} {f : Nat} (h : RI2 X w s y wr x (f + 1)) (he : x.err = 0) (hi : x.i < s.size) (r : RSE (fun k => k = X) X w s (x.piece s) w') : RI2 X w s y w' (x.piece s) f ∧ left X s.size w' < left X s.size wr := by
  have hp := piece_ok he hi
  obtain ⟨o1, o2, o3, o4⟩ := h.ok he
  have heq := h.eq
  simp only [readF] at heq
  rw [if_pos ⟨hi, he⟩] at heq
  refine ⟨⟨r, heq, fun e => ?_⟩, ?_⟩
  · obtain ⟨p1, p2, p3, p4⟩ := hp e
    omega
  · obtain ⟨lv1, s1⟩ := r.sat
    obtain ⟨lv2, s2⟩ := h.rs.sat
    rw [left_eq s1 s.size, left_eq s2 s.size, if_pos he]
    split
    · rename_i e; have := hp e; omega
    · omega
set_option maxHeartbeats 4000000 in
set_option maxRecDepth 10000 in
theorem read_ref (s : ByteArray) (w : World) (hs : s.size ≤ 274877906944) : Calls Tryz.prog 26 #[.string s] w fun en w' => en = .returned (.pointer (some ⟨w.heap.size, 0, none⟩)) ∧ ∃ F lv cs, RS F w.heap.size w' s lv cs (readS s) ∧ Below w.heap.size w w' ∧ ∀ k, F k → w.heap.size ≤ k := by
  have hb0 : (w.alloc (.cells #[.string s, .int .i64 0, .slice none 0 0, .string ⟨#[]⟩, .int .i64 0, .int .i64 0, .int .i64 0] 65)).heap[w.heap.size]? = some (.cells #[.string s, .int .i64 0, .slice none 0 0, .string ⟨#[]⟩, .int .i64 0, .int .i64 0, .int .i64 0] 65) := Below_new _ _
  have hsat : SAt w.heap.size (w.alloc (.cells #[.string s, .int .i64 0, .slice none 0 0, .string ⟨#[]⟩, .int .i64 0, .int .i64 0, .int .i64 0] 65)) s (.slice none 0 0) Sc.zero := hb0
  have h0 : RI2 w.heap.size (w.alloc (.cells #[.string s, .int .i64 0, .slice none 0 0, .string ⟨#[]⟩, .int .i64 0, .int .i64 0, .int .i64 0] 65)) s (readS s) (w.alloc (.cells #[.string s, .int .i64 0, .slice none 0 0, .string ⟨#[]⟩, .int .i64 0, .int .i64 0, .int .i64 0] 65)) Sc.zero (s.size + 1) :=
    ⟨(RS.first hsat rfl).below (Below.refl _ _), rfl, fun _ => ⟨Nat.zero_le _, by show s.size < 0 + _; omega, Nat.zero_le _, Nat.zero_le _⟩⟩
  have hfin : ∀ wr x f, RI2 w.heap.size (w.alloc (.cells #[.string s, .int .i64 0, .slice none 0 0, .string ⟨#[]⟩, .int .i64 0, .int .i64 0, .int .i64 0] 65)) s (readS s) wr x f → x = readS s → ∃ F lv cs, RS F w.heap.size wr s lv cs (readS s) ∧ Below w.heap.size w wr ∧ ∀ k, F k → w.heap.size ≤ k := by
    rintro wr x f ⟨⟨lv, cs, r, fr⟩, _, _⟩ rfl
    refine ⟨_, lv, cs, r, ((Below.refl _ w).alloc (Nat.le_refl _) _).trans ⟨fr.os, fr.tape, fr.output, fr.size, fun k hk => fr.block k (by simp; omega) (by omega)⟩, ?_⟩
    rintro k (e | e)
    · omega
    · have := e.1; simp at this; omega
  have H0 := hide h0
  have HF := hide hfin
  clear h0 hfin hsat hb0
  go_enter Tryz.func26, Tryz.ntmps26
  go_wp2_with fail
  generalize hw1 : w.alloc (.cells #[.string s, .int .i64 0, .slice none 0 0, .string ⟨#[]⟩, .int .i64 0, .int .i64 0, .int .i64 0] 65) = w1 at *
  clear hw1
  go_loopw [4, 5] (fun _ _ wr => ∃ x' f, RI2 w.heap.size w1 s (readS s) wr x' f) (fun _ _ wr => left w.heap.size s.size wr)
  case atStart => exact ⟨_, _, H0.out⟩
  case round =>
    obtain ⟨x', f, u⟩ := hrel
    obtain ⟨lv', sat'⟩ := u.rs.sat
    have c1 : wr.cell? ⟨w.heap.size, 1, none⟩ = some (.int .i64 x'.i) := sat'.cell 1 rfl
    have c5 : wr.cell? ⟨w.heap.size, 5, none⟩ = some (.int .i64 x'.err) := sat'.cell 5 rfl
    clear sat'
    by_cases he : x'.err = 0
    · have e0 : (x'.err == 0) = true := by simpa using he
      by_cases hi : x'.i < s.size
      · have hd : decide ((x'.i : Int) < (s.size : Int)) = true := by simp; omega
        obtain ⟨o1, o2, o3, o4⟩ := u.ok he
        obtain ⟨f, rfl⟩ : ∃ g, f = g + 1 := ⟨f - 1, by omega⟩
        have hgt : s[x'.i] = s.get! x'.i := (Utf8W.get!_of_lt s x'.i hi).symm
        have hnx := fun w' (r : RSE (fun k => k = w.heap.size) w.heap.size w1 s (x'.piece s) w') => u.next he hi r
        have hmk := fun W (r : RSE (fun k => k = w.heap.size) w.heap.size w1 s x' W) => markup_on r hs he hi o3 o4
        have hch := fun W (r : RSE (fun k => k = w.heap.size) w.heap.size w1 s x' W) => char_on r hs
        have U := hide u.rs
        have HN := hide hnx
        have HM := hide hmk
        have HC := hide hch
        have hcg := char_grow x' s 60 he o1
        clear u hnx hmk hch
        unfold Sc.piece at HN
        by_cases h60 : (s.get! x'.i).toNat = 60
        · have hq : (((s.get! x'.i).toNat : Int) == 60) = true := by simp; omega
          rw [if_pos h60] at HN
          clear he h60 hcg
          go_wp2_with fail
          refine (HM.out _ U.out).mono ?_
          rintro e w2 ⟨rfl, r2⟩
          have R2 := hide (HN.out w2 r2)
          clear r2
          go_wp2
          exact ⟨⟨_, _, R2.out.1⟩, R2.out.2⟩
        · have hq : (((s.get! x'.i).toNat : Int) == 60) = false := by simp; omega
          rw [if_neg h60] at HN
          by_cases hce : (x'.char s 60).1.err = 0
          · have e1 : ((x'.char s 60).1.err == 0) = true := by simpa using hce
            rw [if_pos hce] at HN
            obtain ⟨g1, g2, g3⟩ := hcg.1 hce
            have htx := fun W (r : RSE (fun k => k = w.heap.size) w.heap.size w1 s (x'.char s 60).1 W) => texted_on r (x'.char s 60).2 x'.i (by rw [(char_s x' s 60).2.1]; omega)
            have HT := hide htx
            clear he h60 hcg hce htx
            go_wp2_with fail
            refine (HC.out _ U.out).mono ?_
            rintro e w2 ⟨rfl, r2⟩
            obtain ⟨lv2, sat2⟩ := r2.sat
            have c25 : w2.cell? ⟨w.heap.size, 5, none⟩ = some (.int .i64 (x'.char s 60).1.err) := sat2.cell 5 rfl
            have R2 := hide r2
            clear r2 sat2
            go_wp2_with fail
            refine (HT.out _ R2.out).mono ?_
            rintro e w3 ⟨rfl, r3⟩
            have R3 := hide (HN.out w3 r3)
            clear r3
            go_wp2
            exact ⟨⟨_, _, R3.out.1⟩, R3.out.2⟩
          · have e1 : ((x'.char s 60).1.err == 0) = false := by simpa using hce
            rw [if_neg hce] at HN
            clear he h60 hcg hce
            go_wp2_with fail
            refine (HC.out _ U.out).mono ?_
            rintro e w2 ⟨rfl, r2⟩
            obtain ⟨lv2, sat2⟩ := r2.sat
            have c25 : w2.cell? ⟨w.heap.size, 5, none⟩ = some (.int .i64 (x'.char s 60).1.err) := sat2.cell 5 rfl
            have R2 := hide (HN.out w2 r2)
            clear r2 sat2
            go_wp2
            exact ⟨⟨_, _, R2.out.1⟩, R2.out.2⟩
      · have hd : decide ((x'.i : Int) < (s.size : Int)) = false := by simp; omega
        have hx : x' = readS s := by
          rw [← u.eq]
          cases f with
          | zero => rfl
          | succ f => simp only [readF]; rw [if_neg (fun e => hi e.1)]
        have R := hide (HF.out wr x' f u hx)
        clear u he hx
        go_wp2
        go_ret
        exact ⟨rfl, R.out⟩
    · have e0 : (x'.err == 0) = false := by simpa using he
      have hx : x' = readS s := by rw [← u.eq, readF_err he]
      have R := hide (HF.out wr x' f u hx)
      clear u he hx
      by_cases hi : x'.i < s.size
      · have hd : decide ((x'.i : Int) < (s.size : Int)) = true := by simp; omega
        go_wp2
        go_ret
        exact ⟨rfl, R.out⟩
      · have hd : decide ((x'.i : Int) < (s.size : Int)) = false := by simp; omega
        go_wp2
        go_ret
        exact ⟨rfl, R.out⟩
end Go.Proofs.YtfolnkmbdmfigaaGreatDoor

set_option linter.unusedSimpArgs false
set_option linter.unusedVariables false
namespace Go.Proofs.YtfolnkmbdmfigaaGreatDoor
open Go.RowKit Go.Maps Go.Lib
variable {X : Nat} {w w' w'' wr : World} {s t : ByteArray} {lv : Value} {x x' : Sc} {F : Nat → Prop} {cs : List Value}
def RAns (w : World) (v : Value) (l : List Tok) : Prop := ∃ F X cs, w.ownsRow 0 72 5 v l.length cs ∧ RToks F X w l cs
theorem app_nil26 (b : Option Addr) (n c : Nat) (h : n ≤ c) (w : World) : (Builtin.append_ #[62, 62] 62 #[.slice b n c, .slice none 0 0]).run Tryz.prog w = .ok (.slice b n c) w := by
  cases b <;> simp [Builtin.append_, underlying, Tryz.underlying62, Tryz.sizeOf72, Builtin.lenOf, Builtin.firstCells, h, storeCells, Result.andThen]
set_option maxHeartbeats 4000000 in
set_option maxRecDepth 10000 in
theorem last_ref (h : SAt X w s lv x) : Calls Tryz.prog 27 #[.pointer (some ⟨X, 0, none⟩)] w fun en w' => ∃ v, en = .returned v ∧ Below w.heap.size w w' ∧ ((x.last = [] ∧ v = .slice none 0 0) ∨ (x.last = [txtTok x] ∧ v = .slice (some ⟨w.heap.size, 0, none⟩) 1 1 ∧ w'.heap[w.heap.size]? = some (.cells (tokCells (txtTok x) (.slice none 0 0)).toArray 72))) := by
  have c3 : w.cell? ⟨X, 3, none⟩ = some (.string ⟨x.more.toArray⟩) := h.cell 3 rfl
  have c4 : w.cell? ⟨X, 4, none⟩ = some (.int .i64 x.frm) := h.cell 4 rfl
  have c5 : w.cell? ⟨X, 5, none⟩ = some (.int .i64 x.err) := h.cell 5 rfl
  unfold Sc.last
  clear h
  by_cases he : x.err = 0
  · have e0 : (x.err != 0) = false := by simpa using he
    by_cases hm : x.more = []
    · rw [if_pos (Or.inr hm)]
      have em : x.more.isEmpty = true := by rw [hm]; rfl
      clear he hm
      go_enter Tryz.func27, Tryz.ntmps27
      go_wp2
      go_ret
      exact ⟨_, rfl, Below.refl _ _, Or.inl ⟨trivial, rfl⟩⟩
    · rw [if_neg (by rintro (h | h); exact h he; exact hm h)]
      have em : x.more.isEmpty = false := by simpa using hm
      clear he hm
      go_enter Tryz.func27, Tryz.ntmps27
      go_wp2_with fail
      have d3 : (w.alloc (.cells #[.int .i64 3, .string ⟨#[]⟩, .slice none 0 0, .string ⟨x.more.toArray⟩, .int .i64 x.frm] 72)).cell? ⟨X, 3, none⟩ = some (.string ⟨x.more.toArray⟩) := cell_alloc _ c3
      have d4 : (w.alloc (.cells #[.int .i64 3, .string ⟨#[]⟩, .slice none 0 0, .string ⟨x.more.toArray⟩, .int .i64 x.frm] 72)).cell? ⟨X, 4, none⟩ = some (.int .i64 x.frm) := cell_alloc _ c4
      go_region_held3 (fun W => W.cell? ⟨X, 3, none⟩ = some (.string ⟨x.more.toArray⟩) ∧ W.cell? ⟨X, 4, none⟩ = some (.int .i64 x.frm))
        (first | exact ⟨c3, c4⟩ | exact ⟨d3, d4⟩)
        (fail)
      all_goals
        go_wp2
        go_ret
        exact ⟨_, rfl, ((Below.refl _ _).alloc (Nat.le_refl _) _).drew, Or.inr ⟨trivial, rfl, Below_new _ _⟩⟩
  · have e0 : (x.err != 0) = true := by simpa using he
    rw [if_pos (Or.inl he)]
    clear he
    go_enter Tryz.func27, Tryz.ntmps27
    go_wp2
    go_ret
    exact ⟨_, rfl, Below.refl _ _, Or.inl ⟨trivial, rfl⟩⟩
theorem add_last (h : RS F X w s lv cs x) {w1 : World} (b : Below w.heap.size w w1) (v : Value) (hv : (x.last = [] ∧ v = .slice none 0 0) ∨ (x.last = [txtTok x] ∧ v = .slice (some ⟨w.heap.size, 0, none⟩) 1 1 ∧ w1.heap[w.heap.size]? = some (.cells (tokCells (txtTok x) (.slice none 0 0)).toArray 72))) (hn : x.l.length ≤ 1099511627776) :
    ∃ v' w2, (Builtin.append_ #[62, 62] 62 #[lv, v]).run Tryz.prog w1 = .ok v' w2 ∧ RAns w2 v' (x.l ++ x.last) ∧ w1.grownBy w2 lv.ownBlock := by
  have row1 : w1.ownsRow 0 72 5 lv x.l.length cs := owns_of h.row fun k e => b.block k (h.lt k (h.own k e).1)
  have toks1 : RToks F X w1 x.l cs := h.toks.frame fun k _ _ _ _ _ a _ => ⟨b.block k (h.lt k a), a⟩
  rcases hv with ⟨e1, rfl⟩ | ⟨e1, rfl, hb⟩
  · obtain ⟨ai, ac, rfl, hle⟩ : ∃ ai ac, lv = .slice ai x.l.length ac ∧ x.l.length ≤ ac := by
      rcases row1.2 with ⟨rfl, hn⟩ | ⟨g, cap, cur, rfl, hbb, hg, hc, hm, hcs, htk⟩
      · exact ⟨none, 0, by rw [hn], by omega⟩
      · exact ⟨_, _, rfl, hc⟩
    refine ⟨_, w1, app_nil26 ai _ ac hle w1, ⟨F, X, cs, ?_, ?_⟩, ⟨rfl, rfl, rfl, Nat.le_refl _, fun _ _ _ => rfl⟩⟩
    · rw [e1, List.append_nil]; exact row1
    · rw [e1, List.append_nil]; exact toks1
  · obtain ⟨i0, hi, hz0, hz1, hz2⟩ := info_parts info56
    have hcell : ∀ j u, (tokCells (txtTok x) (.slice none 0 0))[j]? = some u → w1.cell? ((⟨w.heap.size, 0, none⟩ : Addr).add j) = some u := by
      intro j u hj
      rw [Addr.add_mid, Nat.zero_add]
      refine cell_of hb ?_
      simpa using hj
    obtain ⟨v', w2, hr, ho, hgr, _, hat⟩ := run_append_own_at (P := Tryz.prog) w1 0 62 62 72 i0 _ 5 72 Tryz.underlying62 hi hz0 hz1 hz2 rfl (by decide) lv x.l.length cs row1 ⟨w.heap.size, 0, none⟩ 1 1 (tokCells (txtTok x) (.slice none 0 0)) rfl hcell (tok_one _ _ rfl) (by unfold maxLen; omega) (by omega) (Nat.zero_le _)
    refine ⟨v', w2, hr, ⟨F, X, cs ++ tokCells (txtTok x) (.slice none 0 0), ?_, ?_⟩, hgr⟩
    · rw [e1]; simp only [List.length_append, List.length_cons, List.length_nil, Nat.zero_add]; exact ho
    · rw [e1]
      refine (toks1.frame fun k n xs u hu e a c => ⟨?_, a⟩).app ⟨.slice none 0 0, [], by simp, World.ownsRow_nil _ _ _ _, by intro k e; simp [Value.ownBlock] at e, rfl⟩
      exact hgr.block k (own_lt hu e) (fun e2 => tag_ne hu row1 (by decide) e e2.symm)
theorem wpList_app26 {ops : Array Oper} {rest : List Oper} {o : Oper} {a : Act} {w : World} {Q : Exit → Act → World → Prop} (hgd : o.guard = none) (s x : Operand) (ho : o.op = Op.call { callee := Callee.builtin Builtin.append, args := #[s, x], argTypes := #[62, 62] }) (hty : o.type = 62)
    (v1 v2 : Value) (hs : a.eval s = v1) (hx : a.eval x = v2) {v' : Value} {w' : World} (hr : (Builtin.append_ #[62, 62] 62 #[v1, v2]).run Tryz.prog w = .ok v' w') (h : wpList Tryz.prog ops Q rest (a.put o.dst v') w') : wpList Tryz.prog ops Q (o :: rest) a w := by
  refine wpList_plain hgd fun K hK => ?_
  unfold Oper.wp execOp
  simp only [ho, hty, resolve, invoke, builtin, Sem.run_bind, Sem.run_pure, Result.andThen_ok, List.map_toArray, List.map_cons, List.map_nil, hs, hx, hr]
  exact hK _ _ h
theorem read_len (s : ByteArray) : (readS s).l.length ≤ 3 * s.size + 3 := by
  have key : ∀ (f : Nat) (x : Sc), x.err = 0 → x.i ≤ s.size → x.l.length ≤ 3 * x.i → (readF s f x).l.length ≤ 3 * s.size + 3 := by
    intro f
    induction f with
    | zero => intro x he hi hl; show x.l.length ≤ _; omega
    | succ f ih =>
      intro x he hi hl
      simp only [readF]
      split
      · rename_i hc
        rcases done_piece (g := fun _ => []) he hc.1 (rel_any x) with ⟨h1, h2, h3, h4, _⟩ | ⟨h1, h2, _⟩
        · exact ih _ h1 h3 (by have := h4.2.2; omega)
        · rw [readF_err h1, h2]; omega
      · omega
  exact key _ Sc.zero rfl (Nat.zero_le _) (Nat.zero_le _)
end Go.Proofs.YtfolnkmbdmfigaaGreatDoor

set_option linter.unusedSimpArgs false
set_option linter.unusedVariables false
namespace Go.Proofs.YtfolnkmbdmfigaaGreatDoor
open Go.RowKit Go.Lib

def encs (cs : List Int) : List UInt8 := cs.flatMap Lib.encodeRune
def escC (q : Bool) (c : Int) : List UInt8 := if Ch.refFor c q = [] then Lib.encodeRune c else Ch.refFor c q
def escs (q : Bool) (cs : List Int) : List UInt8 := cs.flatMap (escC q)
theorem enc_low {c : Int} (h0 : 0 ≤ c) (h1 : c < 128) : ∃ u : UInt8, (u.toNat : Int) = c ∧ Lib.encodeRune c = [u] := by
  have hu := Ch.u8_back (x := c) h0 (by omega)
  refine ⟨c.toNat.toUInt8, hu, ?_⟩
  have := Ch.encode_ascii (c := c.toNat.toUInt8) (by omega)
  rw [hu] at this
  exact this
theorem enc_high {c : Int} (hm : Ch.may c = true) (h1 : 128 ≤ c) : ∀ u ∈ Lib.encodeRune c, 128 ≤ (u.toNat : Int) := by
  have hv := Ch.valid_of_may hm
  have hd := Ch.dec_enc hv []
  rw [List.append_nil] at hd
  have hz := Ch.txt_size (Lib.encodeRune c)
  have hp := Ch.enc_pos c
  have hb0 : 128 ≤ Ch.bz (Ch.txt (Lib.encodeRune c)) 0 := by
    rcases Ch.decode_byte (Ch.txt (Lib.encodeRune c)) 0 (by omega) with ⟨a1, a2, a3⟩ | ⟨a1, _⟩
    · rw [hd] at a3
      simp only [Prod.mk.injEq] at a3
      omega
    · exact a1
  have hb := Ch.bytes_high (s := Ch.txt (Lib.encodeRune c)) (i := 0) (by omega) hb0
  rw [hd] at hb
  intro u hu
  obtain ⟨k, hk, e⟩ := List.getElem_of_mem hu
  have := hb k (Nat.zero_le _) (by simpa using hk)
  rw [Ch.bz_txt, List.getElem?_eq_getElem hk] at this
  rw [← e]; exact this
theorem escL_enc {q : Bool} {c : Int} (hm : Ch.may c = true) : Ch.escL q (Lib.encodeRune c) = escC q c := by
  unfold escC
  have h0 : 0 ≤ c := by have := (Ch.may_iff c).1 hm; omega
  by_cases h1 : c < 128
  · obtain ⟨u, hu, he⟩ := enc_low h0 h1
    rw [he]
    simp only [Ch.escL, List.flatMap_cons, List.flatMap_nil, List.append_nil, Ch.escB, hu]
  · rw [Ch.refFor_high q (by omega), if_pos rfl]
    have hh := enc_high hm (by omega)
    have key : ∀ l : List UInt8, (∀ u ∈ l, 128 ≤ (u.toNat : Int)) → Ch.escL q l = l := by
      intro l
      induction l with
      | nil => intro _; rfl
      | cons u l ih =>
        intro h
        have e1 : Ch.escL q (u :: l) = Ch.escB q u ++ Ch.escL q l := by simp [Ch.escL]
        rw [e1, ih (fun v hv => h v (by simp [hv])), Ch.escB_plain (Ch.refFor_high q (h u (by simp)))]
        rfl
    exact key _ hh
theorem escL_encs {q : Bool} : ∀ {cs : List Int}, (∀ c ∈ cs, Ch.may c = true) → Ch.escL q (encs cs) = escs q cs
  | [], _ => rfl
  | c :: cs, h => by
    have e1 : encs (c :: cs) = Lib.encodeRune c ++ encs cs := by simp [encs]
    have e2 : escs q (c :: cs) = escC q c ++ escs q cs := by simp [escs]
    rw [e1, e2, Ch.escL_append, escL_enc (h c (by simp)), escL_encs (fun d hd => h d (by simp [hd]))]
variable {s : ByteArray} {p : Nat} {c : Int} {x : Sc} {q : Bool}
theorem has_append {a b : List UInt8} : Ch.has s p (a ++ b) = true ↔ Ch.has s p a = true ∧ Ch.has s (p + a.length) b = true := by
  induction a generalizing p with
  | nil => simp [Ch.has]
  | cons u a ih =>
    simp only [List.cons_append, Ch.has, Bool.and_eq_true, List.length_cons]
    rw [ih, show p + 1 + a.length = p + (a.length + 1) by omega, and_assoc]
theorem cur_enc (hm : Ch.may c = true) (h : Ch.has s p (Lib.encodeRune c) = true) : cur s p = c ∧ wid s p = (Lib.encodeRune c).length := by
  have h0 : 0 ≤ c := by have := (Ch.may_iff c).1 hm; omega
  have hv := Ch.valid_of_may hm
  have hd := Ch.dec_enc hv []
  have hok := Ch.ok_enc hm []
  rw [List.append_nil] at hd hok
  have hz := Ch.txt_size (Lib.encodeRune c)
  have hp := Ch.enc_pos c
  have hb := Ch.has_bz s _ p h
  have hlt : p < s.size := by have := Ch.has_size h (by omega); omega
  have hdec : Utf8.decode s p = Utf8.decode (Ch.txt (Lib.encodeRune c)) 0 := by
    refine Ch.decode_prefix (s := Ch.txt (Lib.encodeRune c)) (t := s) (i := 0) (j := p) (by omega) hok (fun k hk => ?_)
    rw [hd] at hk
    have hk' : k < (Lib.encodeRune c).length := hk
    rw [Nat.zero_add, hb k hk', Ch.bz_txt, List.getElem?_eq_getElem hk']
  have hok2 : Ch.okAt s p = true := by rw [Ch.okAt_of hdec]; exact hok
  unfold cur wid
  rw [if_pos hlt, if_pos hok2, hdec, hd]
  exact ⟨by simp only; omega, rfl⟩
theorem ref_enc (hr : ¬ Ch.refFor c q = []) (h : Ch.has s p (Ch.refFor c q) = true) : Ch.refAt s p = (c, ((Ch.refFor c q).length : Int)) ∧ cur s p = 38 := by
  have he := Ch.refAt_esc (c := c) (q := q) [] hr
  rw [List.append_nil] at he
  have hb := Ch.has_bz s _ p h
  obtain ⟨l, hl⟩ := Ch.refFor_head hr
  have hlen : 0 < (Ch.refFor c q).length := by rw [hl]; simp
  have hsm := Ch.refAt_same (u := Ch.txt (Ch.refFor c q)) (v := Ch.tail s p) (by rw [he]; simp only; omega) (fun j hj => by
    rw [he] at hj
    have hj' : j < (Ch.refFor c q).length := by simpa using hj
    rw [Ch.tail_bz, hb j hj', Ch.bz_txt, List.getElem?_eq_getElem hj'])
  rw [Ch.refAt_tail] at hsm
  refine ⟨by rw [hsm, he], (cur_bz (by omega) (by omega)).2 ?_⟩
  have := hb 0 hlen
  rw [Nat.add_zero] at this
  rw [this]
  simp [hl]
theorem char_esc (he : x.err = 0) (bar : Nat) (hbar : bar = 60 ∨ (bar = 34 ∧ q = true)) (hm : Ch.may c = true) (h : Ch.has s x.i (escC q c) = true) :
    x.char s bar = ({ x with i := x.i + (escC q c).length }, ⟨(Lib.encodeRune c).toArray⟩) ∧ x.i < s.size ∧ (s.get! x.i).toNat ≠ bar ∧ (s.get! x.i).toNat ≠ 60 := by
  have hb60 : bar = 60 ∨ bar = 34 := by omega
  rw [char_cur he bar (by omega)]
  by_cases hr : Ch.refFor c q = []
  · have hesc : escC q c = Lib.encodeRune c := by unfold escC; rw [if_pos hr]
    rw [hesc] at h ⊢
    obtain ⟨h1, h2⟩ := cur_enc hm h
    have h0 : 0 ≤ c := by have := (Ch.may_iff c).1 hm; omega
    have hc60 : c ≠ 60 := by rintro rfl; cases q <;> cases hr
    have hc38 : c ≠ 38 := by rintro rfl; cases q <;> cases hr
    have hcb : c ≠ (bar : Int) := by
      rcases hbar with e | ⟨e, e2⟩
      · rw [e]; exact hc60
      · rw [e]; rintro rfl; subst e2; cases hr
    have hp := cur_pos (s := s) (i := x.i) (by omega)
    have b60 := cur_byte (s := s) (i := x.i) (c := 60) (by omega)
    have bb := cur_byte (s := s) (i := x.i) (c := bar) (by omega)
    rw [if_neg (by rw [h1]; rintro (e | e | e); omega; exact hc60 e; exact hcb e), if_neg (by rw [h1]; exact hc38), h2]
    refine ⟨?_, hp.1, fun e => hcb (h1.symm.trans (bb.2 ⟨hp.1, e⟩)), fun e => hc60 (h1.symm.trans (b60.2 ⟨hp.1, e⟩))⟩
    congr 1
    apply ByteArray.ext
    apply Array.ext'
    rw [bytes_extract, show x.i + (Lib.encodeRune c).length - x.i = (Lib.encodeRune c).length by omega, ← h2, ← enc_cur (by omega), h1]
  · have hesc : escC q c = Ch.refFor c q := by unfold escC; rw [if_neg hr]
    rw [hesc] at h ⊢
    obtain ⟨h1, h2⟩ := ref_enc hr h
    obtain ⟨l, hl⟩ := Ch.refFor_head hr
    have hp := cur_pos (s := s) (i := x.i) (by omega)
    have hlen : ((Ch.refFor c q).length : Int) ≠ 0 := by rw [hl]; simp; omega
    have b38 := (cur_byte (s := s) (i := x.i) (c := 38) (by omega)).1 h2
    rw [if_neg (by rw [h2]; rintro (e | e | e) <;> omega), if_pos h2, h1, if_neg hlen]
    refine ⟨?_, hp.1, by omega, by omega⟩
    simp
theorem read_esc : ∀ (cs : List Int) (x : Sc) (f : Nat), x.err = 0 → (∀ c ∈ cs, Ch.may c = true) → Ch.has s x.i (escs false cs) = true →
    readF s (f + cs.length) x = readF s f { x with i := x.i + (escs false cs).length, more := x.more ++ encs cs, frm := if x.more = [] ∧ cs ≠ [] then (x.i : Int) else x.frm } := by
  intro cs
  induction cs with
  | nil => intro x f he _ _; simp [escs, encs]
  | cons c cs ih =>
    intro x f he hm h
    have e1 : encs (c :: cs) = Lib.encodeRune c ++ encs cs := by simp [encs]
    have e2 : escs false (c :: cs) = escC false c ++ escs false cs := by simp [escs]
    rw [e2, has_append] at h
    obtain ⟨h1, h2, h3, h4⟩ := char_esc (q := false) he 60 (Or.inl rfl) (hm c (by simp)) h.1
    have hp : x.piece s = { x with i := x.i + (escC false c).length, more := x.more ++ Lib.encodeRune c, frm := if x.more = [] then (x.i : Int) else x.frm } := by
      unfold Sc.piece
      rw [if_neg h4, h1]
      simp only
      rw [if_pos he]
      rfl
    rw [List.length_cons, ← Nat.add_assoc]
    conv => lhs; unfold readF
    rw [if_pos ⟨h2, he⟩, hp, ih { x with i := x.i + (escC false c).length, more := x.more ++ Lib.encodeRune c, frm := if x.more = [] then (x.i : Int) else x.frm } f he (fun d hd => hm d (by simp [hd])) h.2, e1, e2]
    congr 1
    simp only [Sc.mk.injEq, List.length_append, List.append_assoc, true_and, and_true]
    refine ⟨by omega, ?_⟩
    have hne := Ch.enc_pos c
    have hne2 : ¬ (x.more ++ Lib.encodeRune c = []) := by
      intro e
      have := congrArg List.length e
      rw [List.length_append] at this
      simp only [List.length_nil] at this
      omega
    rw [if_neg (fun e => hne2 e.1)]
    by_cases hx : x.more = []
    · rw [if_pos hx, if_pos ⟨hx, by simp⟩]
    · rw [if_neg hx, if_neg (fun e => hx e.1)]
theorem val_esc : ∀ (cs : List Int) (x : Sc) (t : List UInt8) (f : Nat), x.err = 0 → (∀ c ∈ cs, Ch.may c = true) → Ch.has s x.i (escs true cs) = true →
    valF s 34 (f + cs.length) x t = valF s 34 f { x with i := x.i + (escs true cs).length } (t ++ encs cs) := by
  intro cs
  induction cs with
  | nil => intro x t f he _ _; simp [escs, encs]
  | cons c cs ih =>
    intro x t f he hm h
    have e1 : encs (c :: cs) = Lib.encodeRune c ++ encs cs := by simp [encs]
    have e2 : escs true (c :: cs) = escC true c ++ escs true cs := by simp [escs]
    rw [e2, has_append] at h
    obtain ⟨h1, h2, h3, h4⟩ := char_esc (q := true) he 34 (Or.inr ⟨rfl, rfl⟩) (hm c (by simp)) h.1
    have his : x.is s 34 = false := by simp [Sc.is, he, h2, h3]
    rw [List.length_cons, ← Nat.add_assoc]
    conv => lhs; unfold valF
    rw [if_pos ⟨he, his⟩, h1]
    simp only
    rw [ih { x with i := x.i + (escC true c).length } _ f he (fun d hd => hm d (by simp [hd])) h.2, e1, e2]
    congr 1
    · simp only [Sc.mk.injEq, List.length_append, and_true, true_and]; omega
    · simp
end Go.Proofs.YtfolnkmbdmfigaaGreatDoor
