import Derived.Test.YtbbocgeapofloaiGreatDoorAx
set_option linter.unusedVariables false
set_option linter.unusedSimpArgs false
set_option linter.unusedSimpArgs false
set_option linter.unusedVariables false
namespace Go.Proofs.YtbbocgeapofloaiGreatDoor
open Go.RowKit Go.Maps Go.Lib

variable {X : Nat} {w w' w'' wr : World} {s t : ByteArray} {lv : Value} {x x' : Sc} {F : Nat → Prop} {cs : List Value}

/-! What the parts without tokens leave alone. -/

/-- The tokens and the text that waits. -/
def Same3 (x y : Sc) : Prop := y.l = x.l ∧ y.more = x.more ∧ y.frm = x.frm
theorem Same3.refl (x : Sc) : Same3 x x := ⟨rfl, rfl, rfl⟩
theorem Same3.trans {x y z : Sc} (h : Same3 x y) (k : Same3 y z) : Same3 x z := ⟨k.1.trans h.1, k.2.1.trans h.2.1, k.2.2.trans h.2.2⟩
theorem fail_s (x : Sc) (e a : Int) : Same3 x (x.fail e a) := by unfold Sc.fail; split <;> exact ⟨rfl, rfl, rfl⟩
theorem wrong_s (x : Sc) (s : ByteArray) : Same3 x (x.wrong s) := by
  unfold Sc.wrong; repeat' split
  all_goals exact fail_s _ _ _
theorem at_s (x : Sc) (j : Nat) : Same3 x { x with i := j } := ⟨rfl, rfl, rfl⟩
theorem blanks_s (x : Sc) (s : ByteArray) : Same3 x (x.blanks s) := ⟨rfl, rfl, rfl⟩
theorem name_s (x : Sc) (s : ByteArray) : Same3 x (x.name s).1 := by
  unfold Sc.name; repeat' split
  all_goals first | exact wrong_s _ _ | exact ⟨rfl, rfl, rfl⟩
theorem mustL_s (s : ByteArray) : ∀ (l : List UInt8) (x : Sc), Same3 x (Sc.mustL s l x) := by
  intro l
  induction l with
  | nil => intro x; exact Same3.refl x
  | cons c l ih =>
    intro x
    simp only [Sc.mustL]
    repeat' split
    · exact (at_s x _).trans (ih _)
    · exact (wrong_s x s).trans (ih _)
    · exact Same3.refl x
theorem untilF_s (s t : ByteArray) (frm : Nat) : ∀ (f : Nat) (x : Sc), Same3 x (untilF s t frm f x).1 := by
  intro f
  induction f with
  | zero => intro x; exact Same3.refl x
  | succ f ih =>
    intro x
    simp only [untilF]
    repeat' split
    · exact at_s x _
    · exact (wrong_s x s).trans (ih _)
    · exact (at_s x _).trans (ih _)
    · exact Same3.refl x
theorem until_s (x : Sc) (s t : ByteArray) : Same3 x (x.until s t).1 := untilF_s s t x.i _ x
theorem char_s (x : Sc) (s : ByteArray) (bar : Nat) : Same3 x (x.char s bar).1 := by
  unfold Sc.char; repeat' split
  all_goals first | exact wrong_s _ _ | exact fail_s _ _ _ | exact ⟨rfl, rfl, rfl⟩
theorem valF_s (s : ByteArray) (q : Nat) : ∀ (f : Nat) (x : Sc) (t : List UInt8), Same3 x (valF s q f x t).1 := by
  intro f
  induction f with
  | zero => intro x t; exact Same3.refl x
  | succ f ih =>
    intro x t
    simp only [valF]
    split
    · exact (char_s x s q).trans (ih _ _)
    · exact Same3.refl x
theorem value_s (x : Sc) (s : ByteArray) : Same3 x (x.value s).1 := by
  unfold Sc.value; split
  · exact ((at_s x _).trans (valF_s s _ _ _ _)).trans (at_s _ _)
  · exact wrong_s x s
theorem twice_s (x : Sc) (s : ByteArray) (l : Ats) : Same3 x (x.twice s l) := by
  unfold Sc.twice; split
  · exact (name_s x s).trans (fail_s _ _ _)
  · exact name_s x s
theorem equal_s (x : Sc) (s : ByteArray) (l : Ats) : Same3 x (x.equal s l) := (((twice_s x s l).trans (blanks_s _ s)).trans (mustL_s s _ _)).trans (blanks_s _ s)
theorem attr_s (x : Sc) (s : ByteArray) (l : Ats) : Same3 x (x.attr s l).1 := by
  unfold Sc.attr; split
  · exact (equal_s x s l).trans (value_s _ s)
  · exact equal_s x s l
theorem attrsF_s (s : ByteArray) : ∀ (f : Nat) (x : Sc) (l : Ats), Same3 x (attrsF s f x l).1 := by
  intro f
  induction f with
  | zero => intro x l; exact Same3.refl x
  | succ f ih =>
    intro x l
    simp only [attrsF]
    split
    · exact blanks_s x s
    · exact ((blanks_s x s).trans (attr_s _ s l)).trans (ih _ _)
theorem attrs_s (x : Sc) (s : ByteArray) : Same3 x (x.attrs s).1 := attrsF_s s _ x []

/-! Where they end. -/
def Fits (s : ByteArray) (x : Sc) : Prop := x.err = 0 → x.i ≤ s.size
theorem name_f (h : Fits s x) : Fits s (x.name s).1 := by
  intro he
  by_cases h0 : x.err = 0
  · by_cases hb : Ch.begins (cur s x.i) = true
    · rw [(name_yes h0 hb).1]; exact nend_le (h h0)
    · rw [name_no (s := s) h0 hb] at he; exact absurd he (wrong_err x s h0)
  · have hn : x.name s = (x, ⟨#[]⟩) := by unfold Sc.name; rw [if_neg h0]
    rw [hn] at he; exact absurd he h0
theorem blanks_f (h : Fits s x) : Fits s (x.blanks s) := blanks_le h
theorem mustL_f (s : ByteArray) : ∀ (l : List UInt8) (x : Sc), Fits s x → Fits s (Sc.mustL s l x) := by
  intro l
  induction l with
  | nil => intro x h; exact h
  | cons c l ih =>
    intro x h
    simp only [Sc.mustL]
    repeat' split
    · rename_i h1 h2
      refine ih _ fun _ => ?_
      have := is_lt h2
      show x.i + 1 ≤ _; omega
    · rename_i h1 h2
      exact ih _ fun e => absurd e (wrong_err x s h1)
    · exact h
theorem until_f (t : ByteArray) (hz : t.size ≠ 0) (h : Fits s x) : Fits s (x.until s t).1 := by
  have key : ∀ (f : Nat) (x : Sc) (frm : Nat), Fits s x → Fits s (untilF s t frm f x).1 := by
    intro f
    induction f with
    | zero => intro x frm h; exact h
    | succ f ih =>
      intro x frm h
      by_cases he : x.err = 0
      · rw [until_step _ _ _ _ _ he hz]
        split
        · rename_i hh
          intro _
          have := Ch.has_size hh (by have : t.data.toList.length = t.size := by simp
                                     omega)
          have h2 : t.data.toList.length = t.size := by simp
          show x.i + t.size ≤ _; omega
        · split
          · rename_i hc
            have := cur_pos hc
            exact ih _ _ fun _ => by show x.i + wid s x.i ≤ _; omega
          · exact ih _ _ fun e => absurd e (wrong_err x s he)
      · rw [until_err _ _ _ _ _ he]; exact h
  exact key _ _ _ h
theorem attrs_f (h : Fits s x) : Fits s (x.attrs s).1 := by
  by_cases he : x.err = 0
  · have hA : InA x ⟨fun j => if j = .text then x.more else [], fun _ => x.frm, 0, [], [], 0, x.l⟩ [] [] 0 := ⟨⟨rfl, rfl, fun _ => rfl⟩, rfl, rfl, rfl, rfl, rfl⟩
    rcases runs_attrs (g := fun _ => []) (s := s) (s.size + 2) x [] _ he (h he) (by omega) hA with ⟨_, _, h3, _⟩ | ⟨h1, _⟩
    · exact fun _ => h3
    · exact fun e => absurd e h1
  · unfold Sc.attrs; rw [attrsF_err he]; exact h
theorem attrs_len (s : ByteArray) : ∀ (f : Nat) (x : Sc) (l : Ats), (attrsF s f x l).2.length ≤ l.length + f := by
  intro f
  induction f with
  | zero => intro x l; simp [attrsF]
  | succ f ih =>
    intro x l
    simp only [attrsF]
    split
    · simp only; omega
    · have := ih ((x.blanks s).attr s l).1 (l ++ [((x.blanks s).attr s l).2])
      simp at this ⊢; omega

/-- The calls that markup makes, at whatever state. -/
structure Kit (X : Nat) (s : ByteArray) (lv : Value) : Prop where
  is_ : ∀ W x, SAt X W s lv x → ∀ c : Nat, c < 256 → Calls Tryz.prog 31 #[.pointer (some ⟨X, 0, none⟩), .int .u8 c] W fun en w' => en = .returned (.bool (x.is s c)) ∧ SE X W s lv x w'
  must : ∀ W x, SAt X W s lv x → Fits s x → ∀ t : ByteArray, 0 < t.size → t.size ≤ 1024 → Calls Tryz.prog 32 #[.pointer (some ⟨X, 0, none⟩), .string t] W fun en w' => en = .returned (.tuple #[]) ∧ SE X W s lv (Sc.mustL s (drp t 0) x) w'
  until_ : ∀ W x, SAt X W s lv x → Fits s x → ∀ t : ByteArray, t.size ≤ 1024 → Calls Tryz.prog 33 #[.pointer (some ⟨X, 0, none⟩), .string t] W fun en w' => en = .returned (.string (x.until s t).2) ∧ SE X W s lv (x.until s t).1 w'
  name : ∀ W x, SAt X W s lv x → Fits s x → Calls Tryz.prog 34 #[.pointer (some ⟨X, 0, none⟩)] W fun en w' => en = .returned (.string (x.name s).2) ∧ SE X W s lv (x.name s).1 w'
  blanks : ∀ W x, SAt X W s lv x → Fits s x → Calls Tryz.prog 35 #[.pointer (some ⟨X, 0, none⟩)] W fun en w' => en = .returned (.int .i64 (x.skip s)) ∧ SE X W s lv (x.blanks s) w'
  texted : ∀ W x, SAt X W s lv x → ∀ (t : ByteArray) (a : Int), x.more.length + t.size ≤ 1125899906842624 → Calls Tryz.prog 21 #[.pointer (some ⟨X, 0, none⟩), .string t, .int .i64 a] W fun en w' => en = .returned (.tuple #[]) ∧ SE X W s lv (x.texted t a) w'
  attrs : ∀ W x, SAt X W s lv x → Fits s x → Calls Tryz.prog 37 #[.pointer (some ⟨X, 0, none⟩)] W fun en w' => ∃ v, en = .returned v ∧ SE X W s lv (x.attrs s).1 w' ∧ w'.ownsRow 0 114 2 v (x.attrs s).2.length (attrCells (x.attrs s).2) ∧ (∀ k, v.ownBlock = some k → W.heap.size ≤ k)

theorem kit_of (X : Nat) (s : ByteArray) (lv : Value) (hs : s.size ≤ 1099511627776) : Kit X s lv where
  is_ := fun W x b c hc => (is_sc b c hc).mono fun en w' ⟨h1, h2⟩ => ⟨h1, SE.fromBelow b h2⟩
  must := fun W x b hf t h0 h1 => must_any b (by omega) hf t h0 h1
  until_ := fun W x b hf t h1 => until_sc b (by omega) hf t h1
  name := fun W x b hf => name_sc b (by omega) hf
  blanks := fun W x b hf => blanks_sc b (by omega) hf
  texted := fun W x b t a h => texted_sc b t a h
  attrs := fun W x b hf => attrs_sc b (by omega) hs hf

/-- A tag that is told, behind parts that tell nothing. -/
theorem tell_after (h : RS F X w s lv cs x) {w1 : World} {y : Sc} (k : SE X w s lv y w1) (hl : Same3 x y) (t : Tok) (v : Value) (ha : w1.ownsRow 0 114 2 v t.attrs.length (attrCells t.attrs)) (hv : ∀ k, v.ownBlock = some k → w.heap.size ≤ k) (hn : y.l.length ≤ 1099511627776) :
    Calls Tryz.prog 36 #[.pointer (some ⟨X, 0, none⟩), .agg #[.int .i64 t.kind, strV t.name, v, strV t.text, .int .i64 t.at_]] w1 fun en w' => en = .returned (.tuple #[]) ∧ RSE F X w s (y.told t) w' := by
  obtain ⟨lv2, cs2, rs2, f2⟩ := h.ofSE k hl.1
  obtain ⟨ai, ac, rfl⟩ := slice_len ha
  have hX : X < w.heap.size := h.lt X h.has
  refine (told_rs rs2 t ai t.attrs.length ac ha (fun k e => ⟨Or.inr ⟨hv k e, own_lt ha e⟩, fun e2 => by have := hv k e; omega⟩) hn).mono ?_
  rintro en w' ⟨rfl, r⟩
  exact ⟨rfl, RSE.on ⟨lv2, cs2, rs2, f2⟩ fun _ _ _ => r⟩
theorem tell_next {w1 : World} {y : Sc} (h : RSE F X w s y w1) (t : Tok) (hat : t.attrs = []) (hn : y.l.length ≤ 1099511627776) :
    Calls Tryz.prog 36 #[.pointer (some ⟨X, 0, none⟩), .agg #[.int .i64 t.kind, strV t.name, .slice none 0 0, strV t.text, .int .i64 t.at_]] w1 fun en w' => en = .returned (.tuple #[]) ∧ RSE F X w s (y.told t) w' := by
  obtain ⟨lv2, cs2, rs2, f2⟩ := h
  have ha : w1.ownsRow 0 114 2 (.slice none 0 0) t.attrs.length (attrCells t.attrs) := by rw [hat]; exact World.ownsRow_nil _ _ _ _
  refine (told_rs rs2 t none 0 0 ha (by intro k e; simp [Value.ownBlock] at e) hn).mono ?_
  rintro en w' ⟨rfl, r⟩
  exact ⟨rfl, RSE.on ⟨lv2, cs2, rs2, f2⟩ fun _ _ _ => r⟩
theorem strV_back (b : ByteArray) : strV b.data.toList = .string b := by unfold strV; simp
end Go.Proofs.YtbbocgeapofloaiGreatDoor
set_option linter.unusedSimpArgs false
set_option linter.unusedVariables false
namespace Go.Proofs.YtbbocgeapofloaiGreatDoor
open Go.RowKit Go.Maps Go.Lib

variable {X : Nat} {w w' w'' wr : World} {s t : ByteArray} {lv : Value} {x x' : Sc} {F : Nat → Prop} {cs : List Value}

theorem se_inc {w1 : World} {y : Sc} (k : SE X w s lv y w1) (I J : Nat) (hJ : J = I + 1) : SE X w s lv { y with i := J } (w1.setCell ⟨X, 1, none⟩ (.int .i64 ((I : Int) + 1))) := by
  rw [show ((I : Int) + 1) = (J : Int) by omega]
  exact k.set (x' := { y with i := J }) 1 (.int .i64 (J : Int)) rfl

theorem until_size (x : Sc) (s t : ByteArray) : (x.until s t).2.size ≤ s.size := by
  have key : ∀ (f : Nat) (x : Sc) (frm : Nat), (untilF s t frm f x).2.size ≤ s.size := by
    intro f
    induction f with
    | zero => intro x frm; exact Nat.zero_le _
    | succ f ih =>
      intro x frm
      simp only [untilF]
      repeat' split
      · simp only [ByteArray.size_extract]; omega
      · exact ih _ _
      · exact ih _ _
      · exact Nat.zero_le _
  exact key _ _ _

set_option maxHeartbeats 4000000 in
set_option maxRecDepth 10000 in
theorem markup_rs (h : RS F X w s lv cs x) (hs : s.size ≤ 1099511627776) (he : x.err = 0) (hi : x.i < s.size) (hn : x.l.length ≤ 1099511627770) (hm : x.more.length ≤ s.size) :
    Calls Tryz.prog 19 #[.pointer (some ⟨X, 0, none⟩)] w fun en w' => en = .returned (.tuple #[]) ∧ RSE F X w s (x.markup s) w' := by
  have c1 : w.cell? ⟨X, 1, none⟩ = some (.int .i64 x.i) := h.sat.cell 1 rfl
  have f1 := h.sat.free 1
  have hlt := h.sat.lt
  have kit := kit_of X s lv hs
  obtain ⟨J, hJ⟩ : ∃ J, J = x.i + 1 := ⟨_, rfl⟩
  have hwr : IntKind.i64.wrap ((x.i : Int) + 1) = (x.i : Int) + 1 := by rw [IntKind.wrap_i64]; omega
  have R0 := hide (se_inc (SE.refl h.sat) x.i J hJ)
  have hmk : x.markup s = Sc.behind { x with i := J } s x.i := by unfold Sc.markup; rw [hJ]
  rw [hmk]
  have hx0 : Same3 x { x with i := J } := at_s x J
  have hxe : ({ x with i := J } : Sc).err = 0 := he
  have hxi : ({ x with i := J } : Sc).i = J := rfl
  have hxf : Fits s { x with i := J } := fun _ => by show J ≤ _; omega
  generalize ({ x with i := J } : Sc) = x1 at *
  have K := hide kit
  have H := hide h
  have HS := hide hx0
  have HXE := hide hxe
  have HXF := hide hxf
  clear kit h hx0 hmk he hxe hxf
  have i33 := fun W (b : SAt X W s lv x1) => K.out.is_ W x1 b 33 (by decide)
  have i63 := fun W (b : SAt X W s lv x1) => K.out.is_ W x1 b 63 (by decide)
  have i47 := fun W (b : SAt X W s lv x1) => K.out.is_ W x1 b 47 (by decide)
  unfold Sc.behind
  cases q33 : x1.is s 33
  · rw [q33] at i33
    have I33 := hide i33
    clear i33 q33
    simp only [Bool.false_eq_true, if_false]
    cases q63 : x1.is s 63
    · rw [q63] at i63
      have I63 := hide i63
      clear i63 q63
      simp only [Bool.false_eq_true, if_false]
      cases q47 : x1.is s 47
      · rw [q47] at i47
        have I47 := hide i47
        clear i47 q47
        simp only [Bool.false_eq_true, if_false]
        have hns : Same3 x (x1.name s).1 := HS.out.trans (name_s _ s)
        have hnf : Fits s (x1.name s).1 := name_f HXF.out
        have hnm := fun W (b : SAt X W s lv x1) => K.out.name W x1 b HXF.out
        unfold Sc.openTag
        generalize x1.name s = N at *
        have hat := fun W (b : SAt X W s lv N.1) => K.out.attrs W N.1 b hnf
        have has : Same3 x (N.1.attrs s).1 := hns.trans (attrs_s _ s)
        have haf : Fits s (N.1.attrs s).1 := attrs_f hnf
        generalize N.1.attrs s = A at *
        have hi2 := fun W (b : SAt X W s lv A.1) => K.out.is_ W A.1 b 47 (by decide)
        unfold Sc.openTail
        have HNM := hide hnm
        have HAT := hide hat
        have HAS := hide has
        have HAF := hide haf
        have HJ := hide hJ
        clear hnm hat has haf hns hnf hJ
        cases q2 : A.1.is s 47
        · rw [q2] at hi2
          have I2 := hide hi2
          clear hi2 q2
          simp only [Bool.false_eq_true, if_false]
          go_enter Tryz.func19, Tryz.ntmps19
          go_wp2_with fail
          refine (I33.out _ R0.out.1).mono ?_
          rintro e w1 ⟨rfl, r1⟩
          have R1 := hide (R0.out.on r1)
          clear r1 I33
          go_wp2_with fail
          refine (I63.out _ R1.out.1).mono ?_
          rintro e w2 ⟨rfl, r2⟩
          have R2 := hide (R1.out.on r2)
          clear r2 I63
          go_wp2_with fail
          refine (I47.out _ R2.out.1).mono ?_
          rintro e w3 ⟨rfl, r3⟩
          have R3 := hide (R2.out.on r3)
          clear r3 I47
          go_wp2_with fail
          refine (HNM.out _ R3.out.1).mono ?_
          rintro e w4 ⟨rfl, r4⟩
          have R4 := hide (R3.out.on r4)
          clear r4
          go_wp2_with fail
          refine (HAT.out _ R4.out.1).mono ?_
          rintro e w5 ⟨v, rfl, r5, row5, own5⟩
          obtain ⟨ai, ac, rfl⟩ := slice_len row5
          have R5 := hide (R4.out.on r5)
          have ROW5 := hide row5
          have OWN5 : Hid (∀ k, (Value.slice ai A.2.length ac).ownBlock = some k → w.heap.size ≤ k) := hide fun k e => Nat.le_trans R4.out.2.size (own5 k e)
          clear r5 row5 own5
          have hvX : Hid ((Value.slice ai A.2.length ac).ownBlock ≠ some X) := hide fun e => by have := OWN5.out X e; omega
          go_wp2_with fail
          refine (I2.out _ R5.out.1).mono ?_
          rintro e w6 ⟨rfl, r6⟩
          have R6 := hide (R5.out.on r6)
          have ROW6 := hide (row_stays ROW5.out hvX.out r6.2)
          clear r6
          go_wp2_with fail
          refine (K.out.must _ _ R6.out.1 HAF.out ⟨#[62]⟩ (by decide) (by decide)).mono ?_
          rintro e w7 ⟨rfl, r7⟩
          have R7 := hide (R6.out.on r7)
          have ROW7 := hide (row_stays ROW6.out hvX.out r7.2)
          clear r7
          have hsm : Same3 x (Sc.mustL s [62] A.1) := HAS.out.trans (mustL_s s _ _)
          have htl := tell_after H.out R7.out hsm ⟨1, N.2.data.toList, A.2, [], x.i⟩ (.slice ai A.2.length ac) ROW7.out OWN5.out (by show (Sc.mustL s [62] A.1).l.length ≤ _; rw [hsm.1]; omega)
          simp only [strV_back] at htl
          go_wp2_with fail
          refine htl.mono ?_
          rintro e w8 ⟨rfl, r8⟩
          have R8 := hide r8
          clear r8 htl hsm
          go_wp2
          go_end0
          exact ⟨rfl, R8.out⟩
        · have hli := is_lt q2
          rw [q2] at hi2
          have I2 := hide hi2
          clear hi2 q2
          simp only [if_true]
          have hwr2 : IntKind.i64.wrap ((A.1.i : Int) + 1) = (A.1.i : Int) + 1 := by rw [IntKind.wrap_i64]; omega
          have RR := hide (fun w1 (r : SE X w s lv A.1 w1) => se_inc r A.1.i (A.1.i + 1) rfl)
          have HS2 : Hid (Same3 x { A.1 with i := A.1.i + 1 }) := hide (HAS.out.trans (at_s _ _))
          have HF2 : Hid (Fits s { A.1 with i := A.1.i + 1 }) := hide fun _ => by show A.1.i + 1 ≤ _; omega
          generalize hA2 : ({ A.1 with i := A.1.i + 1 } : Sc) = A2 at *
          clear hA2
          go_enter Tryz.func19, Tryz.ntmps19
          go_wp2_with fail
          refine (I33.out _ R0.out.1).mono ?_
          rintro e w1 ⟨rfl, r1⟩
          have R1 := hide (R0.out.on r1)
          clear r1 I33
          go_wp2_with fail
          refine (I63.out _ R1.out.1).mono ?_
          rintro e w2 ⟨rfl, r2⟩
          have R2 := hide (R1.out.on r2)
          clear r2 I63
          go_wp2_with fail
          refine (I47.out _ R2.out.1).mono ?_
          rintro e w3 ⟨rfl, r3⟩
          have R3 := hide (R2.out.on r3)
          clear r3 I47
          go_wp2_with fail
          refine (HNM.out _ R3.out.1).mono ?_
          rintro e w4 ⟨rfl, r4⟩
          have R4 := hide (R3.out.on r4)
          clear r4
          go_wp2_with fail
          refine (HAT.out _ R4.out.1).mono ?_
          rintro e w5 ⟨v, rfl, r5, row5, own5⟩
          obtain ⟨ai, ac, rfl⟩ := slice_len row5
          have R5 := hide (R4.out.on r5)
          have ROW5 := hide row5
          have OWN5 : Hid (∀ k, (Value.slice ai A.2.length ac).ownBlock = some k → w.heap.size ≤ k) := hide fun k e => Nat.le_trans R4.out.2.size (own5 k e)
          clear r5 row5 own5
          have hvX : Hid ((Value.slice ai A.2.length ac).ownBlock ≠ some X) := hide fun e => by have := OWN5.out X e; omega
          go_wp2_with fail
          refine (I2.out _ R5.out.1).mono ?_
          rintro e w6 ⟨rfl, r6⟩
          have R6 := hide (R5.out.on r6)
          have ROW6 := hide (row_stays ROW5.out hvX.out r6.2)
          have c61 : w6.cell? ⟨X, 1, none⟩ = some (.int .i64 (A.1.i : Int)) := R6.out.1.cell 1 rfl
          have f61 := R6.out.1.free 1
          have RS6 := hide (RR.out w6 R6.out)
          have ROWS6 := hide (owns_of ROW6.out fun k e => Below.heap_setCell w6 ⟨X, 1, none⟩ (.int .i64 ((A.1.i : Int) + 1)) k (fun e2 => hvX.out (by rw [e]; exact congrArg some e2)))
          clear r6
          go_wp2_with fail
          refine (K.out.must _ _ RS6.out.1 HF2.out ⟨#[62]⟩ (by decide) (by decide)).mono ?_
          rintro e w7 ⟨rfl, r7⟩
          have R7 := hide (RS6.out.on r7)
          have ROW7 := hide (row_stays ROWS6.out hvX.out r7.2)
          clear r7
          have hsm : Same3 x (Sc.mustL s [62] A2) := HS2.out.trans (mustL_s s _ _)
          have htl := tell_after H.out R7.out hsm ⟨1, N.2.data.toList, A.2, [], x.i⟩ (.slice ai A.2.length ac) ROW7.out OWN5.out (by show (Sc.mustL s [62] A2).l.length ≤ _; rw [hsm.1]; omega)
          simp only [strV_back] at htl
          go_wp2_with fail
          refine htl.mono ?_
          rintro e w8 ⟨rfl, r8⟩
          have htn := tell_next r8 ⟨2, N.2.data.toList, [], [], x.i⟩ rfl (by have := told_len (Sc.mustL s [62] A2) ⟨1, N.2.data.toList, A.2, [], x.i⟩; have h5 := hsm.1; show (Sc.told (Sc.mustL s [62] A2) ⟨1, N.2.data.toList, A.2, [], x.i⟩).l.length ≤ _; rw [h5] at this; omega)
          simp only [strV_back] at htn
          clear htl hsm r8
          go_wp2_with fail
          refine htn.mono ?_
          rintro e w9 ⟨rfl, r9⟩
          have R9 := hide r9
          clear r9 htn
          go_wp2
          go_end0
          exact ⟨rfl, R9.out⟩
      · have hlt2 : J < s.size := by have := is_lt q47; omega
        rw [q47] at i47
        have I47 := hide i47
        clear i47 q47
        simp only [if_true]
        obtain ⟨J2, hJ2⟩ : ∃ J2, J2 = J + 1 := ⟨_, rfl⟩
        have hwr2 : IntKind.i64.wrap ((J : Int) + 1) = (J : Int) + 1 := by rw [IntKind.wrap_i64]; omega
        have e2 : ({ x1 with i := x1.i + 1 } : Sc) = { x1 with i := J2 } := by rw [hxi, hJ2]
        rw [e2]
        have hx2 : Same3 x { x1 with i := J2 } := HS.out.trans (at_s x1 J2)
        have hf2 : Fits s { x1 with i := J2 } := fun _ => by show J2 ≤ _; omega
        have R2' := fun w1 (r : SE X w s lv x1 w1) => se_inc r J J2 hJ2
        clear e2
        generalize ({ x1 with i := J2 } : Sc) = x2 at *
        have HS2 := hide hx2
        have HF2 := hide hf2
        have RR := hide R2'
        have HJ := hide hJ
        have HJ2 := hide hJ2
        clear hx2 hf2 R2' hJ hJ2
        unfold Sc.closeTag
        go_enter Tryz.func19, Tryz.ntmps19
        go_wp2_with fail
        refine (I33.out _ R0.out.1).mono ?_
        rintro e w1 ⟨rfl, r1⟩
        have R1 := hide (R0.out.on r1)
        clear r1 I33
        go_wp2_with fail
        refine (I63.out _ R1.out.1).mono ?_
        rintro e w2 ⟨rfl, r2⟩
        have R2 := hide (R1.out.on r2)
        clear r2 I63
        go_wp2_with fail
        refine (I47.out _ R2.out.1).mono ?_
        rintro e w3 ⟨rfl, r3⟩
        have R3 := hide (R2.out.on r3)
        have c31 : w3.cell? ⟨X, 1, none⟩ = some (.int .i64 (J : Int)) := by have := R3.out.1.cell (i := 1) (v := .int .i64 (x1.i : Int)) rfl; rw [hxi] at this; exact this
        have f31 := R3.out.1.free 1
        have R4 := hide (RR.out w3 R3.out)
        clear r3 I47
        go_wp2_with fail
        refine (K.out.name _ _ R4.out.1 HF2.out).mono ?_
        rintro e w5 ⟨rfl, r5⟩
        have R5 := hide (R4.out.on r5)
        clear r5
        go_wp2_with fail
        refine (K.out.blanks _ _ R5.out.1 (name_f HF2.out)).mono ?_
        rintro e w6 ⟨rfl, r6⟩
        have R6 := hide (R5.out.on r6)
        clear r6
        go_wp2_with fail
        refine (K.out.must _ _ R6.out.1 (blanks_f (name_f HF2.out)) ⟨#[62]⟩ (by decide) (by decide)).mono ?_
        rintro e w7 ⟨rfl, r7⟩
        have R7 := hide (R6.out.on r7)
        clear r7
        have hsm : Same3 x (Sc.mustL s [62] ((x2.name s).1.blanks s)) := ((HS2.out.trans (name_s _ s)).trans (blanks_s _ s)).trans (mustL_s s _ _)
        have htl := tell_after H.out R7.out hsm ⟨2, (x2.name s).2.data.toList, [], [], x.i⟩ (.slice none 0 0) (World.ownsRow_nil _ _ _ _) (by intro k e; simp [Value.ownBlock] at e) (by show (Sc.mustL s [62] ((x2.name s).1.blanks s)).l.length ≤ _; rw [hsm.1]; omega)
        simp only [strV_back] at htl
        go_wp2_with fail
        refine htl.mono ?_
        rintro e w8 ⟨rfl, r8⟩
        go_wp2
        refine bodyPost_ret (results_none rfl _ _ _) rfl ?_
        exact ⟨rfl, r8⟩
    · have hlt2 : J < s.size := by have := is_lt q63; omega
      rw [q63] at i63
      have I63 := hide i63
      clear i63 q63 i47
      simp only [if_true]
      obtain ⟨J2, hJ2⟩ : ∃ J2, J2 = J + 1 := ⟨_, rfl⟩
      have hwr2 : IntKind.i64.wrap ((J : Int) + 1) = (J : Int) + 1 := by rw [IntKind.wrap_i64]; omega
      have e2 : ({ x1 with i := x1.i + 1 } : Sc) = { x1 with i := J2 } := by rw [hxi, hJ2]
      rw [e2]
      have hx2 : Same3 x { x1 with i := J2 } := HS.out.trans (at_s x1 J2)
      have hf2 : Fits s { x1 with i := J2 } := fun _ => by show J2 ≤ _; omega
      have R2' := fun w1 (r : SE X w s lv x1 w1) => se_inc r J J2 hJ2
      clear e2
      generalize ({ x1 with i := J2 } : Sc) = x2 at *
      have HS2 := hide hx2
      have HF2 := hide hf2
      have RR := hide R2'
      have HJ := hide hJ
      have HJ2 := hide hJ2
      clear hx2 hf2 R2' hJ hJ2
      unfold Sc.order
      go_enter Tryz.func19, Tryz.ntmps19
      go_wp2_with fail
      refine (I33.out _ R0.out.1).mono ?_
      rintro e w1 ⟨rfl, r1⟩
      have R1 := hide (R0.out.on r1)
      clear r1 I33
      go_wp2_with fail
      refine (I63.out _ R1.out.1).mono ?_
      rintro e w2 ⟨rfl, r2⟩
      have R2 := hide (R1.out.on r2)
      have c21 : w2.cell? ⟨X, 1, none⟩ = some (.int .i64 (J : Int)) := by have := R2.out.1.cell (i := 1) (v := .int .i64 (x1.i : Int)) rfl; rw [hxi] at this; exact this
      have f21 := R2.out.1.free 1
      have R3 := hide (RR.out w2 R2.out)
      clear r2 I63
      go_wp2_with fail
      refine (K.out.name _ _ R3.out.1 HF2.out).mono ?_
      rintro e w4 ⟨rfl, r4⟩
      have R4 := hide (R3.out.on r4)
      clear r4
      go_wp2_with fail
      refine (K.out.until_ _ _ R4.out.1 (name_f HF2.out) ⟨#[63, 62]⟩ (by decide)).mono ?_
      rintro e w5 ⟨rfl, r5⟩
      have R5 := hide (R4.out.on r5)
      clear r5
      go_wp2
      refine bodyPost_ret (results_none rfl _ _ _) rfl ?_
      exact ⟨rfl, H.out.ofSE R5.out ((HS2.out.trans (name_s _ s)).trans (until_s _ s _)).1⟩
  · have hlt2 : J < s.size := by have := is_lt q33; omega
    rw [q33] at i33
    have I33 := hide i33
    clear i33 q33 i63 i47
    simp only [if_true]
    obtain ⟨J2, hJ2⟩ : ∃ J2, J2 = J + 1 := ⟨_, rfl⟩
    have hwr2 : IntKind.i64.wrap ((J : Int) + 1) = (J : Int) + 1 := by rw [IntKind.wrap_i64]; omega
    have e2 : ({ x1 with i := x1.i + 1 } : Sc) = { x1 with i := J2 } := by rw [hxi, hJ2]
    rw [e2]
    have hx2 : Same3 x { x1 with i := J2 } := HS.out.trans (at_s x1 J2)
    have hf2 : Fits s { x1 with i := J2 } := fun _ => by show J2 ≤ _; omega
    have R2' := fun w1 (r : SE X w s lv x1 w1) => se_inc r J J2 hJ2
    have hx2i : ({ x1 with i := J2 } : Sc).i = J2 := rfl
    clear e2
    generalize ({ x1 with i := J2 } : Sc) = x2 at *
    have HS2 := hide hx2
    have HF2 := hide hf2
    have RR := hide R2'
    have HJ := hide hJ
    have HJ2 := hide hJ2
    clear hx2 hf2 R2' hJ hJ2
    have i91 := fun W (b : SAt X W s lv x2) => K.out.is_ W x2 b 91 (by decide)
    unfold Sc.bang
    cases q91 : x2.is s 91
    · rw [q91] at i91
      have I91 := hide i91
      clear i91 q91
      simp only [Bool.false_eq_true, if_false]
      go_enter Tryz.func19, Tryz.ntmps19
      go_wp2_with fail
      refine (I33.out _ R0.out.1).mono ?_
      rintro e w1 ⟨rfl, r1⟩
      have R1 := hide (R0.out.on r1)
      have c11 : w1.cell? ⟨X, 1, none⟩ = some (.int .i64 (J : Int)) := by have := R1.out.1.cell (i := 1) (v := .int .i64 (x1.i : Int)) rfl; rw [hxi] at this; exact this
      have f11 := R1.out.1.free 1
      have R2 := hide (RR.out w1 R1.out)
      clear r1 I33
      go_wp2_with fail
      refine (I91.out _ R2.out.1).mono ?_
      rintro e w3 ⟨rfl, r3⟩
      have R3 := hide (R2.out.on r3)
      clear r3 I91
      go_wp2_with fail
      refine (K.out.must _ _ R3.out.1 HF2.out ⟨#[45, 45]⟩ (by decide) (by decide)).mono ?_
      rintro e w4 ⟨rfl, r4⟩
      have R4 := hide (R3.out.on r4)
      clear r4
      go_wp2_with fail
      refine (K.out.until_ _ _ R4.out.1 (mustL_f s _ _ HF2.out) ⟨#[45, 45]⟩ (by decide)).mono ?_
      rintro e w5 ⟨rfl, r5⟩
      have R5 := hide (R4.out.on r5)
      clear r5
      go_wp2_with fail
      refine (K.out.must _ _ R5.out.1 (until_f _ (by decide) (mustL_f s _ _ HF2.out)) ⟨#[62]⟩ (by decide) (by decide)).mono ?_
      rintro e w6 ⟨rfl, r6⟩
      have R6 := hide (R5.out.on r6)
      clear r6
      go_wp2
      refine bodyPost_ret (results_none rfl _ _ _) rfl ?_
      exact ⟨rfl, H.out.ofSE (x' := x2.remark s) R6.out (((HS2.out.trans (mustL_s s _ _)).trans (until_s _ s _)).trans (mustL_s s _ _)).1⟩
    · rw [q91] at i91
      have I91 := hide i91
      clear i91 q91
      simp only [if_true]
      unfold Sc.cdata
      have hYs : Same3 x (Sc.mustL s [91, 67, 68, 65, 84, 65, 91] x2) := HS2.out.trans (mustL_s s _ _)
      have hYf : Fits s (Sc.mustL s [91, 67, 68, 65, 84, 65, 91] x2) := mustL_f s _ _ HF2.out
      have hmu := fun W (b : SAt X W s lv x2) => K.out.must W x2 b HF2.out ⟨#[91, 67, 68, 65, 84, 65, 91]⟩ (by decide) (by decide)
      have hd : drp ⟨#[91, 67, 68, 65, 84, 65, 91]⟩ 0 = [91, 67, 68, 65, 84, 65, 91] := rfl
      rw [hd] at hmu
      generalize Sc.mustL s [91, 67, 68, 65, 84, 65, 91] x2 = Y at *
      have hun := fun W (b : SAt X W s lv Y) => K.out.until_ W Y b hYf ⟨#[93, 93, 62]⟩ (by decide)
      have hUs : Same3 x (Y.until s ⟨#[93, 93, 62]⟩).1 := hYs.trans (until_s Y s _)
      have hUb : (Y.until s ⟨#[93, 93, 62]⟩).2.size ≤ s.size := until_size Y s _
      have hmo : (Y.until s ⟨#[93, 93, 62]⟩).1.more.length + (Y.until s ⟨#[93, 93, 62]⟩).2.size ≤ 1125899906842624 := by rw [hUs.2.1]; omega
      generalize Y.until s ⟨#[93, 93, 62]⟩ = U at *
      generalize hG : (if U.1.err = 0 ∧ U.2.data.toList ≠ [] then U.1.texted U.2 Y.i else U.1) = G at *
      have HG := hide hG
      have HMU := hide hmu
      have HUN := hide hun
      have HYS := hide hYs
      have HUS := hide hUs
      clear hmu hun hYs hUs hYf hd hG
      go_enter Tryz.func19, Tryz.ntmps19
      go_wp2_with fail
      refine (I33.out _ R0.out.1).mono ?_
      rintro e w1 ⟨rfl, r1⟩
      have R1 := hide (R0.out.on r1)
      have c11 : w1.cell? ⟨X, 1, none⟩ = some (.int .i64 (J : Int)) := by have := R1.out.1.cell (i := 1) (v := .int .i64 (x1.i : Int)) rfl; rw [hxi] at this; exact this
      have f11 := R1.out.1.free 1
      have R2 := hide (RR.out w1 R1.out)
      clear r1 I33
      go_wp2_with fail
      refine (I91.out _ R2.out.1).mono ?_
      rintro e w3 ⟨rfl, r3⟩
      have R3 := hide (R2.out.on r3)
      clear r3 I91
      go_wp2_with fail
      refine (HMU.out _ R3.out.1).mono ?_
      rintro e w4 ⟨rfl, r4⟩
      have R4 := hide (R3.out.on r4)
      have c41 : w4.cell? ⟨X, 1, none⟩ = some (.int .i64 (Y.i : Int)) := R4.out.1.cell 1 rfl
      clear r4
      go_wp2_with fail
      refine (HUN.out _ R4.out.1).mono ?_
      rintro e w5 ⟨rfl, r5⟩
      have R5 := hide (R4.out.on r5)
      have c55 : w5.cell? ⟨X, 5, none⟩ = some (.int .i64 U.1.err) := R5.out.1.cell 5 rfl
      clear r5
      by_cases hue : U.1.err = 0
      · have e0 : (U.1.err == 0) = true := by simpa using hue
        have htl : U.2.toList = U.2.data.toList := Lib.toList_data _
        cases hb : U.2.toList.isEmpty
        · have hne : U.2.data.toList ≠ [] := by
            intro e
            rw [htl, e] at hb; cases hb
          have hG2 := HG.out
          rw [if_pos ⟨hue, hne⟩] at hG2
          have HG2 := hide hG2
          clear hG2
          have htx := K.out.texted w5 U.1 R5.out.1 U.2 Y.i hmo
          clear hue hne htl
          go_wp2_with fail
          refine htx.mono ?_
          rintro e w6 ⟨rfl, r6⟩
          have R6 := hide (R5.out.on r6)
          clear r6 htx
          go_wp2
          refine bodyPost_ret (results_none rfl _ _ _) rfl ?_
          exact ⟨rfl, by rw [← HG2.out]; exact H.out.ofSE R6.out HUS.out.1⟩
        · have hne : ¬ (U.1.err = 0 ∧ U.2.data.toList ≠ []) := by
            rintro ⟨_, e⟩
            apply e
            rw [← htl]
            simpa using hb
          have hG2 := HG.out
          rw [if_neg hne] at hG2
          have HG2 := hide hG2
          clear hue hne htl hG2
          go_wp2
          refine bodyPost_ret (results_none rfl _ _ _) rfl ?_
          exact ⟨rfl, by rw [← HG2.out]; exact H.out.ofSE R5.out HUS.out.1⟩
      · have e0 : (U.1.err == 0) = false := by simpa using hue
        have hG2 := HG.out
        rw [if_neg (fun e => hue e.1)] at hG2
        have HG2 := hide hG2
        clear hue hG2
        go_wp2
        refine bodyPost_ret (results_none rfl _ _ _) rfl ?_
        exact ⟨rfl, by rw [← HG2.out]; exact H.out.ofSE R5.out HUS.out.1⟩
end Go.Proofs.YtbbocgeapofloaiGreatDoor
set_option linter.unusedSimpArgs false
set_option linter.unusedVariables false
namespace Go.Proofs.YtbbocgeapofloaiGreatDoor
open Go.RowKit Go.Maps Go.Lib

variable {X : Nat} {w w' w'' wr : World} {s t : ByteArray} {lv : Value} {x x' : Sc} {F : Nat → Prop} {cs : List Value}

theorem rel_any (x : Sc) : Rel x ⟨fun j => if j = .text then x.more else [], fun _ => x.frm, 0, [], [], 0, x.l⟩ := ⟨⟨rfl, rfl, fun _ => rfl⟩, rfl, rfl, rfl⟩

/-- The document's own reader, on its way. -/
structure RI2 (X : Nat) (w : World) (s : ByteArray) (y : Sc) (wr : World) (x : Sc) (f : Nat) : Prop where
  rs : RSE (fun k => k = X) X w s x wr
  eq : readF s f x = y
  ok : x.err = 0 → x.i ≤ s.size ∧ s.size < x.i + f ∧ x.more.length ≤ x.i ∧ x.l.length ≤ 3 * x.i

theorem piece_ok (he : x.err = 0) (hi : x.i < s.size) : (x.piece s).err = 0 → x.i < (x.piece s).i ∧ (x.piece s).i ≤ s.size ∧ (x.piece s).more.length + x.i ≤ x.more.length + (x.piece s).i ∧ (x.piece s).l.length ≤ x.l.length + 3 := by
  rcases done_piece (g := fun _ => []) he hi (rel_any x) with ⟨_, h2, h3, h4, _⟩ | ⟨h1, _⟩
  · exact fun _ => ⟨h2, h3, h4.2.1, h4.2.2⟩
  · exact fun e => absurd e h1

theorem RSE.past (h : RSE F X w s x w') (b : Below w'.heap.size w' w'') : RSE F X w s x w'' := h.on fun _ _ rs => rs.below b
theorem RSE.drawn (h : RSE F X w s x w') (n : Nat) : RSE F X w s x (w'.drewN n) := h.past (below_drewN (Below.refl _ _) n)
theorem RSE.sat (h : RSE F X w s x w') : ∃ lv, SAt X w' s lv x := by obtain ⟨lv, cs, r, _⟩ := h; exact ⟨lv, r.sat⟩

/-- A piece of markup, at a reader on its way. -/
theorem markup_on (h : RSE F X w s x wr) (hs : s.size ≤ 274877906944) (he : x.err = 0) (hi : x.i < s.size) (hm : x.more.length ≤ x.i) (hl : x.l.length ≤ 3 * x.i) : Calls Tryz.prog 19 #[.pointer (some ⟨X, 0, none⟩)] wr fun en w' => en = .returned (.tuple #[]) ∧ RSE F X w s (x.markup s) w' := by
  obtain ⟨lv, cs, r, f⟩ := h
  refine (markup_rs r (by omega) he hi (by omega) (by omega)).mono ?_
  rintro en w' ⟨rfl, r2⟩
  exact ⟨rfl, RSE.on ⟨lv, cs, r, f⟩ fun _ _ _ => r2⟩
theorem char_on (h : RSE F X w s x wr) (hs : s.size ≤ 274877906944) : Calls Tryz.prog 20 #[.pointer (some ⟨X, 0, none⟩), .int .u8 60] wr fun en w' => en = .returned (.string (x.char s 60).2) ∧ RSE F X w s (x.char s 60).1 w' := by
  obtain ⟨lv, cs, r, f⟩ := h
  refine (char_sc r.sat (by omega) 60).mono ?_
  rintro en w' ⟨rfl, r2⟩
  exact ⟨rfl, RSE.on ⟨lv, cs, r, f⟩ fun _ _ _ => r.ofSE r2 (char_s x s 60).1⟩
theorem texted_on (h : RSE F X w s x wr) (t : ByteArray) (a : Int) (hz : x.more.length + t.size ≤ 1125899906842624) : Calls Tryz.prog 21 #[.pointer (some ⟨X, 0, none⟩), .string t, .int .i64 a] wr fun en w' => en = .returned (.tuple #[]) ∧ RSE F X w s (x.texted t a) w' := by
  obtain ⟨lv, cs, r, f⟩ := h
  refine (texted_sc r.sat t a hz).mono ?_
  rintro en w' ⟨rfl, r2⟩
  exact ⟨rfl, RSE.on ⟨lv, cs, r, f⟩ fun _ _ _ => r.ofSE r2 rfl⟩
theorem RI2.next {y : Sc} {f : Nat} (h : RI2 X w s y wr x (f + 1)) (he : x.err = 0) (hi : x.i < s.size) (r : RSE (fun k => k = X) X w s (x.piece s) w') : RI2 X w s y w' (x.piece s) f ∧ left X s.size w' < left X s.size wr := by
  have hp := piece_ok he hi
  obtain ⟨o1, o2, o3, o4⟩ := h.ok he
  have heq := h.eq
  simp only [readF] at heq
  rw [if_pos ⟨hi, he⟩] at heq
  refine ⟨⟨r, heq, fun e => ?_⟩, ?_⟩
  · obtain ⟨p1, p2, p3, p4⟩ := hp e
    omega
  · obtain ⟨lv1, s1⟩ := r.sat
    obtain ⟨lv2, s2⟩ := h.rs.sat
    rw [left_eq s1 s.size, left_eq s2 s.size, if_pos he]
    split
    · rename_i e; have := hp e; omega
    · omega

set_option maxHeartbeats 4000000 in
set_option maxRecDepth 10000 in
theorem read_ref (s : ByteArray) (w : World) (hs : s.size ≤ 274877906944) : Calls Tryz.prog 13 #[.string s] w fun en w' => en = .returned (.pointer (some ⟨w.heap.size, 0, none⟩)) ∧ ∃ F lv cs, RS F w.heap.size w' s lv cs (readS s) ∧ Below w.heap.size w w' ∧ ∀ k, F k → w.heap.size ≤ k := by
  have hb0 : (w.alloc (.cells #[.string s, .int .i64 0, .slice none 0 0, .string ⟨#[]⟩, .int .i64 0, .int .i64 0, .int .i64 0] 45)).heap[w.heap.size]? = some (.cells #[.string s, .int .i64 0, .slice none 0 0, .string ⟨#[]⟩, .int .i64 0, .int .i64 0, .int .i64 0] 45) := Below_new _ _
  have hsat : SAt w.heap.size (w.alloc (.cells #[.string s, .int .i64 0, .slice none 0 0, .string ⟨#[]⟩, .int .i64 0, .int .i64 0, .int .i64 0] 45)) s (.slice none 0 0) Sc.zero := hb0
  have h0 : RI2 w.heap.size (w.alloc (.cells #[.string s, .int .i64 0, .slice none 0 0, .string ⟨#[]⟩, .int .i64 0, .int .i64 0, .int .i64 0] 45)) s (readS s) (w.alloc (.cells #[.string s, .int .i64 0, .slice none 0 0, .string ⟨#[]⟩, .int .i64 0, .int .i64 0, .int .i64 0] 45)) Sc.zero (s.size + 1) :=
    ⟨(RS.first hsat rfl).below (Below.refl _ _), rfl, fun _ => ⟨Nat.zero_le _, by show s.size < 0 + _; omega, Nat.zero_le _, Nat.zero_le _⟩⟩
  have hfin : ∀ wr x f, RI2 w.heap.size (w.alloc (.cells #[.string s, .int .i64 0, .slice none 0 0, .string ⟨#[]⟩, .int .i64 0, .int .i64 0, .int .i64 0] 45)) s (readS s) wr x f → x = readS s → ∃ F lv cs, RS F w.heap.size wr s lv cs (readS s) ∧ Below w.heap.size w wr ∧ ∀ k, F k → w.heap.size ≤ k := by
    rintro wr x f ⟨⟨lv, cs, r, fr⟩, _, _⟩ rfl
    refine ⟨_, lv, cs, r, ((Below.refl _ w).alloc (Nat.le_refl _) _).trans ⟨fr.os, fr.tape, fr.output, fr.size, fun k hk => fr.block k (by simp; omega) (by omega)⟩, ?_⟩
    rintro k (e | e)
    · omega
    · have := e.1; simp at this; omega
  have H0 := hide h0
  have HF := hide hfin
  clear h0 hfin hsat hb0
  go_enter Tryz.func13, Tryz.ntmps13
  go_wp2_with fail
  generalize hw1 : w.alloc (.cells #[.string s, .int .i64 0, .slice none 0 0, .string ⟨#[]⟩, .int .i64 0, .int .i64 0, .int .i64 0] 45) = w1 at *
  clear hw1
  go_loopw [4, 5] (fun _ _ wr => ∃ x' f, RI2 w.heap.size w1 s (readS s) wr x' f) (fun _ _ wr => left w.heap.size s.size wr)
  case atStart => exact ⟨_, _, H0.out⟩
  case round =>
    obtain ⟨x', f, u⟩ := hrel
    obtain ⟨lv', sat'⟩ := u.rs.sat
    have c1 : wr.cell? ⟨w.heap.size, 1, none⟩ = some (.int .i64 x'.i) := sat'.cell 1 rfl
    have c5 : wr.cell? ⟨w.heap.size, 5, none⟩ = some (.int .i64 x'.err) := sat'.cell 5 rfl
    clear sat'
    by_cases he : x'.err = 0
    · have e0 : (x'.err == 0) = true := by simpa using he
      by_cases hi : x'.i < s.size
      · have hd : decide ((x'.i : Int) < (s.size : Int)) = true := by simp; omega
        obtain ⟨o1, o2, o3, o4⟩ := u.ok he
        obtain ⟨f, rfl⟩ : ∃ g, f = g + 1 := ⟨f - 1, by omega⟩
        have hgt : s[x'.i] = s.get! x'.i := (Utf8W.get!_of_lt s x'.i hi).symm
        have hnx := fun w' (r : RSE (fun k => k = w.heap.size) w.heap.size w1 s (x'.piece s) w') => u.next he hi r
        have hmk := fun W (r : RSE (fun k => k = w.heap.size) w.heap.size w1 s x' W) => markup_on r hs he hi o3 o4
        have hch := fun W (r : RSE (fun k => k = w.heap.size) w.heap.size w1 s x' W) => char_on r hs
        have U := hide u.rs
        have HN := hide hnx
        have HM := hide hmk
        have HC := hide hch
        have hcg := char_grow x' s 60 he o1
        clear u hnx hmk hch
        unfold Sc.piece at HN
        by_cases h60 : (s.get! x'.i).toNat = 60
        · have hq : (((s.get! x'.i).toNat : Int) == 60) = true := by simp; omega
          rw [if_pos h60] at HN
          clear he h60 hcg
          go_wp2_with fail
          refine (HM.out _ U.out).mono ?_
          rintro e w2 ⟨rfl, r2⟩
          have R2 := hide (HN.out w2 r2)
          clear r2
          go_wp2
          exact ⟨⟨_, _, R2.out.1⟩, R2.out.2⟩
        · have hq : (((s.get! x'.i).toNat : Int) == 60) = false := by simp; omega
          rw [if_neg h60] at HN
          by_cases hce : (x'.char s 60).1.err = 0
          · have e1 : ((x'.char s 60).1.err == 0) = true := by simpa using hce
            rw [if_pos hce] at HN
            obtain ⟨g1, g2, g3⟩ := hcg.1 hce
            have htx := fun W (r : RSE (fun k => k = w.heap.size) w.heap.size w1 s (x'.char s 60).1 W) => texted_on r (x'.char s 60).2 x'.i (by rw [(char_s x' s 60).2.1]; omega)
            have HT := hide htx
            clear he h60 hcg hce htx
            go_wp2_with fail
            refine (HC.out _ U.out).mono ?_
            rintro e w2 ⟨rfl, r2⟩
            obtain ⟨lv2, sat2⟩ := r2.sat
            have c25 : w2.cell? ⟨w.heap.size, 5, none⟩ = some (.int .i64 (x'.char s 60).1.err) := sat2.cell 5 rfl
            have R2 := hide r2
            clear r2 sat2
            go_wp2_with fail
            refine (HT.out _ R2.out).mono ?_
            rintro e w3 ⟨rfl, r3⟩
            have R3 := hide (HN.out w3 r3)
            clear r3
            go_wp2
            exact ⟨⟨_, _, R3.out.1⟩, R3.out.2⟩
          · have e1 : ((x'.char s 60).1.err == 0) = false := by simpa using hce
            rw [if_neg hce] at HN
            clear he h60 hcg hce
            go_wp2_with fail
            refine (HC.out _ U.out).mono ?_
            rintro e w2 ⟨rfl, r2⟩
            obtain ⟨lv2, sat2⟩ := r2.sat
            have c25 : w2.cell? ⟨w.heap.size, 5, none⟩ = some (.int .i64 (x'.char s 60).1.err) := sat2.cell 5 rfl
            have R2 := hide (HN.out w2 r2)
            clear r2 sat2
            go_wp2
            exact ⟨⟨_, _, R2.out.1⟩, R2.out.2⟩
      · have hd : decide ((x'.i : Int) < (s.size : Int)) = false := by simp; omega
        have hx : x' = readS s := by
          rw [← u.eq]
          cases f with
          | zero => rfl
          | succ f => simp only [readF]; rw [if_neg (fun e => hi e.1)]
        have R := hide (HF.out wr x' f u hx)
        clear u he hx
        go_wp2
        go_ret
        exact ⟨rfl, R.out⟩
    · have e0 : (x'.err == 0) = false := by simpa using he
      have hx : x' = readS s := by rw [← u.eq, readF_err he]
      have R := hide (HF.out wr x' f u hx)
      clear u he hx
      by_cases hi : x'.i < s.size
      · have hd : decide ((x'.i : Int) < (s.size : Int)) = true := by simp; omega
        go_wp2
        go_ret
        exact ⟨rfl, R.out⟩
      · have hd : decide ((x'.i : Int) < (s.size : Int)) = false := by simp; omega
        go_wp2
        go_ret
        exact ⟨rfl, R.out⟩
end Go.Proofs.YtbbocgeapofloaiGreatDoor
