import Derived.Shelf.Strconv.Clone
import Derived.Test.YtgognegkcplcpaaGreatDoorProg
import Derived.WalkKit
import Derived.Outline
import Derived.WalkSpells
import Derived.LaidEql
import Derived.Stop.Asserts
import Derived.RowKitTokens
import Derived.Test.YtgognegkcplcpaaGreatDoorGal
import Derived.Test.YtgognegkcplcpaaGreatDoorGai
set_option linter.unusedVariables false
set_option linter.unusedSimpArgs false
set_option linter.unusedSimpArgs false
set_option linter.unusedVariables false
namespace Go.Proofs.YtgognegkcplcpaaGreatDoor
open Go.RowKit Go.Maps Go.Lib
variable {X : Nat} {w w' w'' wr : World} {s t : ByteArray} {lv : Value} {x x' : Sc} {F : Nat → Prop} {cs : List Value}

def Same3 (x y : Sc) : Prop := y.l = x.l ∧ y.more = x.more ∧ y.frm = x.frm
theorem Same3.refl (x : Sc) : Same3 x x := ⟨rfl, rfl, rfl⟩
theorem Same3.trans {x y z : Sc} (h : Same3 x y) (k : Same3 y z) : Same3 x z := ⟨k.1.trans h.1, k.2.1.trans h.2.1, k.2.2.trans h.2.2⟩
theorem fail_s (x : Sc) (e a : Int) : Same3 x (x.fail e a) := by unfold Sc.fail; split <;> exact ⟨rfl, rfl, rfl⟩
theorem wrong_s (x : Sc) (s : ByteArray) : Same3 x (x.wrong s) := by
  unfold Sc.wrong; repeat' split
  all_goals exact fail_s _ _ _
theorem at_s (x : Sc) (j : Nat) : Same3 x { x with i := j } := ⟨rfl, rfl, rfl⟩
theorem blanks_s (x : Sc) (s : ByteArray) : Same3 x (x.blanks s) := ⟨rfl, rfl, rfl⟩
theorem name_s (x : Sc) (s : ByteArray) : Same3 x (x.name s).1 := by
  unfold Sc.name; repeat' split
  all_goals first | exact wrong_s _ _ | exact ⟨rfl, rfl, rfl⟩
theorem mustL_s (s : ByteArray) : ∀ (l : List UInt8) (x : Sc), Same3 x (Sc.mustL s l x) := by
  intro l
  induction l with
  | nil => intro x; exact Same3.refl x
  | cons c l ih =>
    intro x
    simp only [Sc.mustL]
    repeat' split
    · exact (at_s x _).trans (ih _)
    · exact (wrong_s x s).trans (ih _)
    · exact Same3.refl x
theorem untilF_s (s t : ByteArray) (frm : Nat) : ∀ (f : Nat) (x : Sc), Same3 x (untilF s t frm f x).1 := by
  intro f
  induction f with
  | zero => intro x; exact Same3.refl x
  | succ f ih =>
    intro x
    simp only [untilF]
    repeat' split
    · exact at_s x _
    · exact (wrong_s x s).trans (ih _)
    · exact (at_s x _).trans (ih _)
    · exact Same3.refl x
theorem until_s (x : Sc) (s t : ByteArray) : Same3 x (x.until s t).1 := untilF_s s t x.i _ x
theorem char_s (x : Sc) (s : ByteArray) (bar : Nat) : Same3 x (x.char s bar).1 := by
  unfold Sc.char; repeat' split
  all_goals first | exact wrong_s _ _ | exact fail_s _ _ _ | exact ⟨rfl, rfl, rfl⟩
theorem valF_s (s : ByteArray) (q : Nat) : ∀ (f : Nat) (x : Sc) (t : List UInt8), Same3 x (valF s q f x t).1 := by
  intro f
  induction f with
  | zero => intro x t; exact Same3.refl x
  | succ f ih =>
    intro x t
    simp only [valF]
    split
    · exact (char_s x s q).trans (ih _ _)
    · exact Same3.refl x
theorem value_s (x : Sc) (s : ByteArray) : Same3 x (x.value s).1 := by
  unfold Sc.value; split
  · exact ((at_s x _).trans (valF_s s _ _ _ _)).trans (at_s _ _)
  · exact wrong_s x s
theorem twice_s (x : Sc) (s : ByteArray) (l : Ats) : Same3 x (x.twice s l) := by
  unfold Sc.twice; split
  · exact (name_s x s).trans (fail_s _ _ _)
  · exact name_s x s
theorem equal_s (x : Sc) (s : ByteArray) (l : Ats) : Same3 x (x.equal s l) := (((twice_s x s l).trans (blanks_s _ s)).trans (mustL_s s _ _)).trans (blanks_s _ s)
theorem attr_s (x : Sc) (s : ByteArray) (l : Ats) : Same3 x (x.attr s l).1 := by
  unfold Sc.attr; split
  · exact (equal_s x s l).trans (value_s _ s)
  · exact equal_s x s l
theorem attrsF_s (s : ByteArray) : ∀ (f : Nat) (x : Sc) (l : Ats), Same3 x (attrsF s f x l).1 := by
  intro f
  induction f with
  | zero => intro x l; exact Same3.refl x
  | succ f ih =>
    intro x l
    simp only [attrsF]
    split
    · exact blanks_s x s
    · exact ((blanks_s x s).trans (attr_s _ s l)).trans (ih _ _)
theorem attrs_s (x : Sc) (s : ByteArray) : Same3 x (x.attrs s).1 := attrsF_s s _ x []
def Fits (s : ByteArray) (x : Sc) : Prop := x.err = 0 → x.i ≤ s.size
theorem name_f (h : Fits s x) : Fits s (x.name s).1 := by
  intro he
  by_cases h0 : x.err = 0
  · by_cases hb : Ch.begins (cur s x.i) = true
    · rw [(name_yes h0 hb).1]; exact nend_le (h h0)
    · rw [name_no (s := s) h0 hb] at he; exact absurd he (wrong_err x s h0)
  · have hn : x.name s = (x, ⟨#[]⟩) := by unfold Sc.name; rw [if_neg h0]
    rw [hn] at he; exact absurd he h0
theorem blanks_f (h : Fits s x) : Fits s (x.blanks s) := blanks_le h
theorem mustL_f (s : ByteArray) : ∀ (l : List UInt8) (x : Sc), Fits s x → Fits s (Sc.mustL s l x) := by
  intro l
  induction l with
  | nil => intro x h; exact h
  | cons c l ih =>
    intro x h
    simp only [Sc.mustL]
    repeat' split
    · rename_i h1 h2
      refine ih _ fun _ => ?_
      have := is_lt h2
      show x.i + 1 ≤ _; omega
    · rename_i h1 h2
      exact ih _ fun e => absurd e (wrong_err x s h1)
    · exact h
theorem until_f (t : ByteArray) (hz : t.size ≠ 0) (h : Fits s x) : Fits s (x.until s t).1 := by
  have key : ∀ (f : Nat) (x : Sc) (frm : Nat), Fits s x → Fits s (untilF s t frm f x).1 := by
    intro f
    induction f with
    | zero => intro x frm h; exact h
    | succ f ih =>
      intro x frm h
      by_cases he : x.err = 0
      · rw [until_step _ _ _ _ _ he hz]
        split
        · rename_i hh
          intro _
          have := Ch.has_size hh (by have : t.data.toList.length = t.size := by simp
                                     omega)
          have h2 : t.data.toList.length = t.size := by simp
          show x.i + t.size ≤ _; omega
        · split
          · rename_i hc
            have := cur_pos hc
            exact ih _ _ fun _ => by show x.i + wid s x.i ≤ _; omega
          · exact ih _ _ fun e => absurd e (wrong_err x s he)
      · rw [until_err _ _ _ _ _ he]; exact h
  exact key _ _ _ h
theorem attrs_f (h : Fits s x) : Fits s (x.attrs s).1 := by
  by_cases he : x.err = 0
  · have hA : InA x ⟨fun j => if j = .text then x.more else [], fun _ => x.frm, 0, [], [], 0, x.l⟩ [] [] 0 := ⟨⟨rfl, rfl, fun _ => rfl⟩, rfl, rfl, rfl, rfl, rfl⟩
    rcases runs_attrs (g := fun _ => []) (s := s) (s.size + 2) x [] _ he (h he) (by omega) hA with ⟨_, _, h3, _⟩ | ⟨h1, _⟩
    · exact fun _ => h3
    · exact fun e => absurd e h1
  · unfold Sc.attrs; rw [attrsF_err he]; exact h
structure Kit (X : Nat) (s : ByteArray) (lv : Value) : Prop where
  is_ : ∀ W x, SAt X W s lv x → ∀ c : Nat, c < 256 → Calls Tryz.prog 40 #[.pointer (some ⟨X, 0, none⟩), .int .u8 c] W fun en w' => en = .returned (.bool (x.is s c)) ∧ SE X W s lv x w'
  must : ∀ W x, SAt X W s lv x → Fits s x → ∀ t : ByteArray, 0 < t.size → t.size ≤ 1024 → Calls Tryz.prog 41 #[.pointer (some ⟨X, 0, none⟩), .string t] W fun en w' => en = .returned (.tuple #[]) ∧ SE X W s lv (Sc.mustL s (drp t 0) x) w'
  until_ : ∀ W x, SAt X W s lv x → Fits s x → ∀ t : ByteArray, t.size ≤ 1024 → Calls Tryz.prog 42 #[.pointer (some ⟨X, 0, none⟩), .string t] W fun en w' => en = .returned (.string (x.until s t).2) ∧ SE X W s lv (x.until s t).1 w'
  name : ∀ W x, SAt X W s lv x → Fits s x → Calls Tryz.prog 43 #[.pointer (some ⟨X, 0, none⟩)] W fun en w' => en = .returned (.string (x.name s).2) ∧ SE X W s lv (x.name s).1 w'
  blanks : ∀ W x, SAt X W s lv x → Fits s x → Calls Tryz.prog 44 #[.pointer (some ⟨X, 0, none⟩)] W fun en w' => en = .returned (.int .i64 (x.skip s)) ∧ SE X W s lv (x.blanks s) w'
  texted : ∀ W x, SAt X W s lv x → ∀ (t : ByteArray) (a : Int), x.more.length + t.size ≤ 1125899906842624 → Calls Tryz.prog 28 #[.pointer (some ⟨X, 0, none⟩), .string t, .int .i64 a] W fun en w' => en = .returned (.tuple #[]) ∧ SE X W s lv (x.texted t a) w'
  attrs : ∀ W x, SAt X W s lv x → Fits s x → Calls Tryz.prog 46 #[.pointer (some ⟨X, 0, none⟩)] W fun en w' => ∃ v, en = .returned v ∧ SE X W s lv (x.attrs s).1 w' ∧ w'.ownsRow 0 76 2 v (x.attrs s).2.length (attrCells (x.attrs s).2) ∧ (∀ k, v.ownBlock = some k → W.heap.size ≤ k)
theorem kit_of (X : Nat) (s : ByteArray) (lv : Value) (hs : s.size ≤ 1099511627776) : Kit X s lv where
  is_ := fun W x b c hc => (is_sc b c hc).mono fun en w' ⟨h1, h2⟩ => ⟨h1, SE.fromBelow b h2⟩
  must := fun W x b hf t h0 h1 => must_any b (by omega) hf t h0 h1
  until_ := fun W x b hf t h1 => until_sc b (by omega) hf t h1
  name := fun W x b hf => name_sc b (by omega) hf
  blanks := fun W x b hf => blanks_sc b (by omega) hf
  texted := fun W x b t a h => texted_sc b t a h
  attrs := fun W x b hf => attrs_sc b (by omega) hs hf
theorem tell_after (h : RS F X w s lv cs x) {w1 : World} {y : Sc} (k : SE X w s lv y w1) (hl : Same3 x y) (t : Tok) (v : Value) (ha : w1.ownsRow 0 76 2 v t.attrs.length (attrCells t.attrs)) (hv : ∀ k, v.ownBlock = some k → w.heap.size ≤ k) (hn : y.l.length ≤ 1099511627776) :
    Calls Tryz.prog 45 #[.pointer (some ⟨X, 0, none⟩), .agg #[.int .i64 t.kind, strV t.name, v, strV t.text, .int .i64 t.at_]] w1 fun en w' => en = .returned (.tuple #[]) ∧ RSE F X w s (y.told t) w' := by
  obtain ⟨lv2, cs2, rs2, f2⟩ := h.ofSE k hl.1
  obtain ⟨ai, ac, rfl⟩ := slice_len ha
  have hX : X < w.heap.size := h.lt X h.has
  refine (told_rs rs2 t ai t.attrs.length ac ha (fun k e => ⟨Or.inr ⟨hv k e, own_lt ha e⟩, fun e2 => by have := hv k e; omega⟩) hn).mono ?_
  rintro en w' ⟨rfl, r⟩
  exact ⟨rfl, RSE.on ⟨lv2, cs2, rs2, f2⟩ fun _ _ _ => r⟩
theorem tell_next {w1 : World} {y : Sc} (h : RSE F X w s y w1) (t : Tok) (hat : t.attrs = []) (hn : y.l.length ≤ 1099511627776) :
    Calls Tryz.prog 45 #[.pointer (some ⟨X, 0, none⟩), .agg #[.int .i64 t.kind, strV t.name, .slice none 0 0, strV t.text, .int .i64 t.at_]] w1 fun en w' => en = .returned (.tuple #[]) ∧ RSE F X w s (y.told t) w' := by
  obtain ⟨lv2, cs2, rs2, f2⟩ := h
  have ha : w1.ownsRow 0 76 2 (.slice none 0 0) t.attrs.length (attrCells t.attrs) := by rw [hat]; exact World.ownsRow_nil _ _ _ _
  refine (told_rs rs2 t none 0 0 ha (by intro k e; simp [Value.ownBlock] at e) hn).mono ?_
  rintro en w' ⟨rfl, r⟩
  exact ⟨rfl, RSE.on ⟨lv2, cs2, rs2, f2⟩ fun _ _ _ => r⟩
theorem strV_back (b : ByteArray) : strV b.data.toList = .string b := by unfold strV; simp
end Go.Proofs.YtgognegkcplcpaaGreatDoor

set_option linter.unusedSimpArgs false
set_option linter.unusedVariables false
namespace Go.Proofs.YtgognegkcplcpaaGreatDoor
open Go.RowKit Go.Maps Go.Lib
variable {X : Nat} {w w' w'' wr : World} {s t : ByteArray} {lv : Value} {x x' : Sc} {F : Nat → Prop} {cs : List Value}
theorem se_inc {w1 : World} {y : Sc} (k : SE X w s lv y w1) (I J : Nat) (hJ : J = I + 1) : SE X w s lv { y with i := J } (w1.setCell ⟨X, 1, none⟩ (.int .i64 ((I : Int) + 1))) := by
  rw [show ((I : Int) + 1) = (J : Int) by omega]
  exact k.set (x' := { y with i := J }) 1 (.int .i64 (J : Int)) rfl
theorem until_size (x : Sc) (s t : ByteArray) : (x.until s t).2.size ≤ s.size := by
  have key : ∀ (f : Nat) (x : Sc) (frm : Nat), (untilF s t frm f x).2.size ≤ s.size := by
    intro f
    induction f with
    | zero => intro x frm; exact Nat.zero_le _
    | succ f ih =>
      intro x frm
      simp only [untilF]
      repeat' split
      · simp only [ByteArray.size_extract]; omega
      · exact ih _ _
      · exact ih _ _
      · exact Nat.zero_le _
  exact key _ _ _
set_option maxHeartbeats 4000000 in
set_option maxRecDepth 10000 in
theorem markup_rs (h : RS F X w s lv cs x) (hs : s.size ≤ 1099511627776) (he : x.err = 0) (hi : x.i < s.size) (hn : x.l.length ≤ 1099511627770) (hm : x.more.length ≤ s.size) :
    Calls Tryz.prog 26 #[.pointer (some ⟨X, 0, none⟩)] w fun en w' => en = .returned (.tuple #[]) ∧ RSE F X w s (x.markup s) w' := by
  have c1 : w.cell? ⟨X, 1, none⟩ = some (.int .i64 x.i) := h.sat.cell 1 rfl
  have f1 := h.sat.free 1
  have hlt := h.sat.lt
  have kit := kit_of X s lv hs
  obtain ⟨J, hJ⟩ : ∃ J, J = x.i + 1 := ⟨_, rfl⟩
  have hwr : IntKind.i64.wrap ((x.i : Int) + 1) = (x.i : Int) + 1 := by rw [IntKind.wrap_i64]; omega
  have R0 := hide (se_inc (SE.refl h.sat) x.i J hJ)
  have hmk : x.markup s = Sc.behind { x with i := J } s x.i := by unfold Sc.markup; rw [hJ]
  rw [hmk]
  have hx0 : Same3 x { x with i := J } := at_s x J
  have hxe : ({ x with i := J } : Sc).err = 0 := he
  have hxi : ({ x with i := J } : Sc).i = J := rfl
  have hxf : Fits s { x with i := J } := fun _ => by show J ≤ _; omega
  generalize ({ x with i := J } : Sc) = x1 at *
  have K := hide kit
  have H := hide h
  have HS := hide hx0
  have HXE := hide hxe
  have HXF := hide hxf
  clear kit h hx0 hmk he hxe hxf
  have i33 := fun W (b : SAt X W s lv x1) => K.out.is_ W x1 b 33 (by decide)
  have i63 := fun W (b : SAt X W s lv x1) => K.out.is_ W x1 b 63 (by decide)
  have i47 := fun W (b : SAt X W s lv x1) => K.out.is_ W x1 b 47 (by decide)
  unfold Sc.behind
  cases q33 : x1.is s 33
  · rw [q33] at i33
    have I33 := hide i33
    clear i33 q33
    simp only [Bool.false_eq_true, if_false]
    cases q63 : x1.is s 63
    · rw [q63] at i63
      have I63 := hide i63
      clear i63 q63
      simp only [Bool.false_eq_true, if_false]
      cases q47 : x1.is s 47
      · rw [q47] at i47
        have I47 := hide i47
        clear i47 q47
        simp only [Bool.false_eq_true, if_false]
        have hns : Same3 x (x1.name s).1 := HS.out.trans (name_s _ s)
        have hnf : Fits s (x1.name s).1 := name_f HXF.out
        have hnm := fun W (b : SAt X W s lv x1) => K.out.name W x1 b HXF.out
        unfold Sc.openTag
        generalize x1.name s = N at *
        have hat := fun W (b : SAt X W s lv N.1) => K.out.attrs W N.1 b hnf
        have has : Same3 x (N.1.attrs s).1 := hns.trans (attrs_s _ s)
        have haf : Fits s (N.1.attrs s).1 := attrs_f hnf
        generalize N.1.attrs s = A at *
        have hi2 := fun W (b : SAt X W s lv A.1) => K.out.is_ W A.1 b 47 (by decide)
        unfold Sc.openTail
        have HNM := hide hnm
        have HAT := hide hat
        have HAS := hide has
        have HAF := hide haf
        have HJ := hide hJ
        clear hnm hat has haf hns hnf hJ
        cases q2 : A.1.is s 47
        · rw [q2] at hi2
          have I2 := hide hi2
          clear hi2 q2
          simp only [Bool.false_eq_true, if_false]
          go_enter Tryz.func26, Tryz.ntmps26
          go_wp2_with fail
          refine (I33.out _ R0.out.1).mono ?_
          rintro e w1 ⟨rfl, r1⟩
          have R1 := hide (R0.out.on r1)
          clear r1 I33
          go_wp2_with fail
          refine (I63.out _ R1.out.1).mono ?_
          rintro e w2 ⟨rfl, r2⟩
          have R2 := hide (R1.out.on r2)
          clear r2 I63
          go_wp2_with fail
          refine (I47.out _ R2.out.1).mono ?_
          rintro e w3 ⟨rfl, r3⟩
          have R3 := hide (R2.out.on r3)
          clear r3 I47
          go_wp2_with fail
          refine (HNM.out _ R3.out.1).mono ?_
          rintro e w4 ⟨rfl, r4⟩
          have R4 := hide (R3.out.on r4)
          clear r4
          go_wp2_with fail
          refine (HAT.out _ R4.out.1).mono ?_
          rintro e w5 ⟨v, rfl, r5, row5, own5⟩
          obtain ⟨ai, ac, rfl⟩ := slice_len row5
          have R5 := hide (R4.out.on r5)
          have ROW5 := hide row5
          have OWN5 : Hid (∀ k, (Value.slice ai A.2.length ac).ownBlock = some k → w.heap.size ≤ k) := hide fun k e => Nat.le_trans R4.out.2.size (own5 k e)
          clear r5 row5 own5
          have hvX : Hid ((Value.slice ai A.2.length ac).ownBlock ≠ some X) := hide fun e => by have := OWN5.out X e; omega
          go_wp2_with fail
          refine (I2.out _ R5.out.1).mono ?_
          rintro e w6 ⟨rfl, r6⟩
          have R6 := hide (R5.out.on r6)
          have ROW6 := hide (row_stays ROW5.out hvX.out r6.2)
          clear r6
          go_wp2_with fail
          refine (K.out.must _ _ R6.out.1 HAF.out ⟨#[62]⟩ (by decide) (by decide)).mono ?_
          rintro e w7 ⟨rfl, r7⟩
          have R7 := hide (R6.out.on r7)
          have ROW7 := hide (row_stays ROW6.out hvX.out r7.2)
          clear r7
          have hsm : Same3 x (Sc.mustL s [62] A.1) := HAS.out.trans (mustL_s s _ _)
          have htl := tell_after H.out R7.out hsm ⟨1, N.2.data.toList, A.2, [], x.i⟩ (.slice ai A.2.length ac) ROW7.out OWN5.out (by show (Sc.mustL s [62] A.1).l.length ≤ _; rw [hsm.1]; omega)
          simp only [strV_back] at htl
          go_wp2_with fail
          refine htl.mono ?_
          rintro e w8 ⟨rfl, r8⟩
          have R8 := hide r8
          clear r8 htl hsm
          go_wp2
          go_end0
          exact ⟨rfl, R8.out⟩
        · have hli := is_lt q2
          rw [q2] at hi2
          have I2 := hide hi2
          clear hi2 q2
          simp only [if_true]
          have hwr2 : IntKind.i64.wrap ((A.1.i : Int) + 1) = (A.1.i : Int) + 1 := by rw [IntKind.wrap_i64]; omega
          have RR := hide (fun w1 (r : SE X w s lv A.1 w1) => se_inc r A.1.i (A.1.i + 1) rfl)
          have HS2 : Hid (Same3 x { A.1 with i := A.1.i + 1 }) := hide (HAS.out.trans (at_s _ _))
          have HF2 : Hid (Fits s { A.1 with i := A.1.i + 1 }) := hide fun _ => by show A.1.i + 1 ≤ _; omega
          generalize hA2 : ({ A.1 with i := A.1.i + 1 } : Sc) = A2 at *
          clear hA2
          go_enter Tryz.func26, Tryz.ntmps26
          go_wp2_with fail
          refine (I33.out _ R0.out.1).mono ?_
          rintro e w1 ⟨rfl, r1⟩
          have R1 := hide (R0.out.on r1)
          clear r1 I33
          go_wp2_with fail
          refine (I63.out _ R1.out.1).mono ?_
          rintro e w2 ⟨rfl, r2⟩
          have R2 := hide (R1.out.on r2)
          clear r2 I63
          go_wp2_with fail
          refine (I47.out _ R2.out.1).mono ?_
          rintro e w3 ⟨rfl, r3⟩
          have R3 := hide (R2.out.on r3)
          clear r3 I47
          go_wp2_with fail
          refine (HNM.out _ R3.out.1).mono ?_
          rintro e w4 ⟨rfl, r4⟩
          have R4 := hide (R3.out.on r4)
          clear r4
          go_wp2_with fail
          refine (HAT.out _ R4.out.1).mono ?_
          rintro e w5 ⟨v, rfl, r5, row5, own5⟩
          obtain ⟨ai, ac, rfl⟩ := slice_len row5
          have R5 := hide (R4.out.on r5)
          have ROW5 := hide row5
          have OWN5 : Hid (∀ k, (Value.slice ai A.2.length ac).ownBlock = some k → w.heap.size ≤ k) := hide fun k e => Nat.le_trans R4.out.2.size (own5 k e)
          clear r5 row5 own5
          have hvX : Hid ((Value.slice ai A.2.length ac).ownBlock ≠ some X) := hide fun e => by have := OWN5.out X e; omega
          go_wp2_with fail
          refine (I2.out _ R5.out.1).mono ?_
          rintro e w6 ⟨rfl, r6⟩
          have R6 := hide (R5.out.on r6)
          have ROW6 := hide (row_stays ROW5.out hvX.out r6.2)
          have c61 : w6.cell? ⟨X, 1, none⟩ = some (.int .i64 (A.1.i : Int)) := R6.out.1.cell 1 rfl
          have f61 := R6.out.1.free 1
          have RS6 := hide (RR.out w6 R6.out)
          have ROWS6 := hide (owns_of ROW6.out fun k e => Below.heap_setCell w6 ⟨X, 1, none⟩ (.int .i64 ((A.1.i : Int) + 1)) k (fun e2 => hvX.out (by rw [e]; exact congrArg some e2)))
          clear r6
          go_wp2_with fail
          refine (K.out.must _ _ RS6.out.1 HF2.out ⟨#[62]⟩ (by decide) (by decide)).mono ?_
          rintro e w7 ⟨rfl, r7⟩
          have R7 := hide (RS6.out.on r7)
          have ROW7 := hide (row_stays ROWS6.out hvX.out r7.2)
          clear r7
          have hsm : Same3 x (Sc.mustL s [62] A2) := HS2.out.trans (mustL_s s _ _)
          have htl := tell_after H.out R7.out hsm ⟨1, N.2.data.toList, A.2, [], x.i⟩ (.slice ai A.2.length ac) ROW7.out OWN5.out (by show (Sc.mustL s [62] A2).l.length ≤ _; rw [hsm.1]; omega)
          simp only [strV_back] at htl
          go_wp2_with fail
          refine htl.mono ?_
          rintro e w8 ⟨rfl, r8⟩
          have htn := tell_next r8 ⟨2, N.2.data.toList, [], [], x.i⟩ rfl (by have := told_len (Sc.mustL s [62] A2) ⟨1, N.2.data.toList, A.2, [], x.i⟩; have h5 := hsm.1; show (Sc.told (Sc.mustL s [62] A2) ⟨1, N.2.data.toList, A.2, [], x.i⟩).l.length ≤ _; rw [h5] at this; omega)
          simp only [strV_back] at htn
          clear htl hsm r8
          go_wp2_with fail
          refine htn.mono ?_
          rintro e w9 ⟨rfl, r9⟩
          have R9 := hide r9
          clear r9 htn
          go_wp2
          go_end0
          exact ⟨rfl, R9.out⟩
      · have hlt2 : J < s.size := by have := is_lt q47; omega
        rw [q47] at i47
        have I47 := hide i47
        clear i47 q47
        simp only [if_true]
        obtain ⟨J2, hJ2⟩ : ∃ J2, J2 = J + 1 := ⟨_, rfl⟩
        have hwr2 : IntKind.i64.wrap ((J : Int) + 1) = (J : Int) + 1 := by rw [IntKind.wrap_i64]; omega
        have e2 : ({ x1 with i := x1.i + 1 } : Sc) = { x1 with i := J2 } := by rw [hxi, hJ2]
        rw [e2]
        have hx2 : Same3 x { x1 with i := J2 } := HS.out.trans (at_s x1 J2)
        have hf2 : Fits s { x1 with i := J2 } := fun _ => by show J2 ≤ _; omega
        have R2' := fun w1 (r : SE X w s lv x1 w1) => se_inc r J J2 hJ2
        clear e2
        generalize ({ x1 with i := J2 } : Sc) = x2 at *
        have HS2 := hide hx2
        have HF2 := hide hf2
        have RR := hide R2'
        have HJ := hide hJ
        have HJ2 := hide hJ2
        clear hx2 hf2 R2' hJ hJ2
        unfold Sc.closeTag
        go_enter Tryz.func26, Tryz.ntmps26
        go_wp2_with fail
        refine (I33.out _ R0.out.1).mono ?_
        rintro e w1 ⟨rfl, r1⟩
        have R1 := hide (R0.out.on r1)
        clear r1 I33
        go_wp2_with fail
        refine (I63.out _ R1.out.1).mono ?_
        rintro e w2 ⟨rfl, r2⟩
        have R2 := hide (R1.out.on r2)
        clear r2 I63
        go_wp2_with fail
        refine (I47.out _ R2.out.1).mono ?_
        rintro e w3 ⟨rfl, r3⟩
        have R3 := hide (R2.out.on r3)
        have c31 : w3.cell? ⟨X, 1, none⟩ = some (.int .i64 (J : Int)) := by have := R3.out.1.cell (i := 1) (v := .int .i64 (x1.i : Int)) rfl; rw [hxi] at this; exact this
        have f31 := R3.out.1.free 1
        have R4 := hide (RR.out w3 R3.out)
        clear r3 I47
        go_wp2_with fail
        refine (K.out.name _ _ R4.out.1 HF2.out).mono ?_
        rintro e w5 ⟨rfl, r5⟩
        have R5 := hide (R4.out.on r5)
        clear r5
        go_wp2_with fail
        refine (K.out.blanks _ _ R5.out.1 (name_f HF2.out)).mono ?_
        rintro e w6 ⟨rfl, r6⟩
        have R6 := hide (R5.out.on r6)
        clear r6
        go_wp2_with fail
        refine (K.out.must _ _ R6.out.1 (blanks_f (name_f HF2.out)) ⟨#[62]⟩ (by decide) (by decide)).mono ?_
        rintro e w7 ⟨rfl, r7⟩
        have R7 := hide (R6.out.on r7)
        clear r7
        have hsm : Same3 x (Sc.mustL s [62] ((x2.name s).1.blanks s)) := ((HS2.out.trans (name_s _ s)).trans (blanks_s _ s)).trans (mustL_s s _ _)
        have htl := tell_after H.out R7.out hsm ⟨2, (x2.name s).2.data.toList, [], [], x.i⟩ (.slice none 0 0) (World.ownsRow_nil _ _ _ _) (by intro k e; simp [Value.ownBlock] at e) (by show (Sc.mustL s [62] ((x2.name s).1.blanks s)).l.length ≤ _; rw [hsm.1]; omega)
        simp only [strV_back] at htl
        go_wp2_with fail
        refine htl.mono ?_
        rintro e w8 ⟨rfl, r8⟩
        go_wp2
        refine bodyPost_ret (results_none rfl _ _ _) rfl ?_
        exact ⟨rfl, r8⟩
    · have hlt2 : J < s.size := by have := is_lt q63; omega
      rw [q63] at i63
      have I63 := hide i63
      clear i63 q63 i47
      simp only [if_true]
      obtain ⟨J2, hJ2⟩ : ∃ J2, J2 = J + 1 := ⟨_, rfl⟩
      have hwr2 : IntKind.i64.wrap ((J : Int) + 1) = (J : Int) + 1 := by rw [IntKind.wrap_i64]; omega
      have e2 : ({ x1 with i := x1.i + 1 } : Sc) = { x1 with i := J2 } := by rw [hxi, hJ2]
      rw [e2]
      have hx2 : Same3 x { x1 with i := J2 } := HS.out.trans (at_s x1 J2)
      have hf2 : Fits s { x1 with i := J2 } := fun _ => by show J2 ≤ _; omega
      have R2' := fun w1 (r : SE X w s lv x1 w1) => se_inc r J J2 hJ2
      clear e2
      generalize ({ x1 with i := J2 } : Sc) = x2 at *
      have HS2 := hide hx2
      have HF2 := hide hf2
      have RR := hide R2'
      have HJ := hide hJ
      have HJ2 := hide hJ2
      clear hx2 hf2 R2' hJ hJ2
      unfold Sc.order
      go_enter Tryz.func26, Tryz.ntmps26
      go_wp2_with fail
      refine (I33.out _ R0.out.1).mono ?_
      rintro e w1 ⟨rfl, r1⟩
      have R1 := hide (R0.out.on r1)
      clear r1 I33
      go_wp2_with fail
      refine (I63.out _ R1.out.1).mono ?_
      rintro e w2 ⟨rfl, r2⟩
      have R2 := hide (R1.out.on r2)
      have c21 : w2.cell? ⟨X, 1, none⟩ = some (.int .i64 (J : Int)) := by have := R2.out.1.cell (i := 1) (v := .int .i64 (x1.i : Int)) rfl; rw [hxi] at this; exact this
      have f21 := R2.out.1.free 1
      have R3 := hide (RR.out w2 R2.out)
      clear r2 I63
      go_wp2_with fail
      refine (K.out.name _ _ R3.out.1 HF2.out).mono ?_
      rintro e w4 ⟨rfl, r4⟩
      have R4 := hide (R3.out.on r4)
      clear r4
      go_wp2_with fail
      refine (K.out.until_ _ _ R4.out.1 (name_f HF2.out) ⟨#[63, 62]⟩ (by decide)).mono ?_
      rintro e w5 ⟨rfl, r5⟩
      have R5 := hide (R4.out.on r5)
      clear r5
      go_wp2
      refine bodyPost_ret (results_none rfl _ _ _) rfl ?_
      exact ⟨rfl, H.out.ofSE R5.out ((HS2.out.trans (name_s _ s)).trans (until_s _ s _)).1⟩
  · have hlt2 : J < s.size := by have := is_lt q33; omega
    rw [q33] at i33
    have I33 := hide i33
    clear i33 q33 i63 i47
    simp only [if_true]
    obtain ⟨J2, hJ2⟩ : ∃ J2, J2 = J + 1 := ⟨_, rfl⟩
    have hwr2 : IntKind.i64.wrap ((J : Int) + 1) = (J : Int) + 1 := by rw [IntKind.wrap_i64]; omega
    have e2 : ({ x1 with i := x1.i + 1 } : Sc) = { x1 with i := J2 } := by rw [hxi, hJ2]
    rw [e2]
    have hx2 : Same3 x { x1 with i := J2 } := HS.out.trans (at_s x1 J2)
    have hf2 : Fits s { x1 with i := J2 } := fun _ => by show J2 ≤ _; omega
    have R2' := fun w1 (r : SE X w s lv x1 w1) => se_inc r J J2 hJ2
    have hx2i : ({ x1 with i := J2 } : Sc).i = J2 := rfl
    clear e2
    generalize ({ x1 with i := J2 } : Sc) = x2 at *
    have HS2 := hide hx2
    have HF2 := hide hf2
    have RR := hide R2'
    have HJ := hide hJ
    have HJ2 := hide hJ2
    clear hx2 hf2 R2' hJ hJ2
    have i91 := fun W (b : SAt X W s lv x2) => K.out.is_ W x2 b 91 (by decide)
    unfold Sc.bang
    cases q91 : x2.is s 91
    · rw [q91] at i91
      have I91 := hide i91
      clear i91 q91
      simp only [Bool.false_eq_true, if_false]
      go_enter Tryz.func26, Tryz.ntmps26
      go_wp2_with fail
      refine (I33.out _ R0.out.1).mono ?_
      rintro e w1 ⟨rfl, r1⟩
      have R1 := hide (R0.out.on r1)
      have c11 : w1.cell? ⟨X, 1, none⟩ = some (.int .i64 (J : Int)) := by have := R1.out.1.cell (i := 1) (v := .int .i64 (x1.i : Int)) rfl; rw [hxi] at this; exact this
      have f11 := R1.out.1.free 1
      have R2 := hide (RR.out w1 R1.out)
      clear r1 I33
      go_wp2_with fail
      refine (I91.out _ R2.out.1).mono ?_
      rintro e w3 ⟨rfl, r3⟩
      have R3 := hide (R2.out.on r3)
      clear r3 I91
      go_wp2_with fail
      refine (K.out.must _ _ R3.out.1 HF2.out ⟨#[45, 45]⟩ (by decide) (by decide)).mono ?_
      rintro e w4 ⟨rfl, r4⟩
      have R4 := hide (R3.out.on r4)
      clear r4
      go_wp2_with fail
      refine (K.out.until_ _ _ R4.out.1 (mustL_f s _ _ HF2.out) ⟨#[45, 45]⟩ (by decide)).mono ?_
      rintro e w5 ⟨rfl, r5⟩
      have R5 := hide (R4.out.on r5)
      clear r5
      go_wp2_with fail
      refine (K.out.must _ _ R5.out.1 (until_f _ (by decide) (mustL_f s _ _ HF2.out)) ⟨#[62]⟩ (by decide) (by decide)).mono ?_
      rintro e w6 ⟨rfl, r6⟩
      have R6 := hide (R5.out.on r6)
      clear r6
      go_wp2
      refine bodyPost_ret (results_none rfl _ _ _) rfl ?_
      exact ⟨rfl, H.out.ofSE (x' := x2.remark s) R6.out (((HS2.out.trans (mustL_s s _ _)).trans (until_s _ s _)).trans (mustL_s s _ _)).1⟩
    · rw [q91] at i91
      have I91 := hide i91
      clear i91 q91
      simp only [if_true]
      unfold Sc.cdata
      have hYs : Same3 x (Sc.mustL s [91, 67, 68, 65, 84, 65, 91] x2) := HS2.out.trans (mustL_s s _ _)
      have hYf : Fits s (Sc.mustL s [91, 67, 68, 65, 84, 65, 91] x2) := mustL_f s _ _ HF2.out
      have hmu := fun W (b : SAt X W s lv x2) => K.out.must W x2 b HF2.out ⟨#[91, 67, 68, 65, 84, 65, 91]⟩ (by decide) (by decide)
      have hd : drp ⟨#[91, 67, 68, 65, 84, 65, 91]⟩ 0 = [91, 67, 68, 65, 84, 65, 91] := rfl
      rw [hd] at hmu
      generalize Sc.mustL s [91, 67, 68, 65, 84, 65, 91] x2 = Y at *
      have hun := fun W (b : SAt X W s lv Y) => K.out.until_ W Y b hYf ⟨#[93, 93, 62]⟩ (by decide)
      have hUs : Same3 x (Y.until s ⟨#[93, 93, 62]⟩).1 := hYs.trans (until_s Y s _)
      have hUb : (Y.until s ⟨#[93, 93, 62]⟩).2.size ≤ s.size := until_size Y s _
      have hmo : (Y.until s ⟨#[93, 93, 62]⟩).1.more.length + (Y.until s ⟨#[93, 93, 62]⟩).2.size ≤ 1125899906842624 := by rw [hUs.2.1]; omega
      generalize Y.until s ⟨#[93, 93, 62]⟩ = U at *
      generalize hG : (if U.1.err = 0 ∧ U.2.data.toList ≠ [] then U.1.texted U.2 Y.i else U.1) = G at *
      have HG := hide hG
      have HMU := hide hmu
      have HUN := hide hun
      have HYS := hide hYs
      have HUS := hide hUs
      clear hmu hun hYs hUs hYf hd hG
      go_enter Tryz.func26, Tryz.ntmps26
      go_wp2_with fail
      refine (I33.out _ R0.out.1).mono ?_
      rintro e w1 ⟨rfl, r1⟩
      have R1 := hide (R0.out.on r1)
      have c11 : w1.cell? ⟨X, 1, none⟩ = some (.int .i64 (J : Int)) := by have := R1.out.1.cell (i := 1) (v := .int .i64 (x1.i : Int)) rfl; rw [hxi] at this; exact this
      have f11 := R1.out.1.free 1
      have R2 := hide (RR.out w1 R1.out)
      clear r1 I33
      go_wp2_with fail
      refine (I91.out _ R2.out.1).mono ?_
      rintro e w3 ⟨rfl, r3⟩
      have R3 := hide (R2.out.on r3)
      clear r3 I91
      go_wp2_with fail
      refine (HMU.out _ R3.out.1).mono ?_
      rintro e w4 ⟨rfl, r4⟩
      have R4 := hide (R3.out.on r4)
      have c41 : w4.cell? ⟨X, 1, none⟩ = some (.int .i64 (Y.i : Int)) := R4.out.1.cell 1 rfl
      clear r4
      go_wp2_with fail
      refine (HUN.out _ R4.out.1).mono ?_
      rintro e w5 ⟨rfl, r5⟩
      have R5 := hide (R4.out.on r5)
      have c55 : w5.cell? ⟨X, 5, none⟩ = some (.int .i64 U.1.err) := R5.out.1.cell 5 rfl
      clear r5
      by_cases hue : U.1.err = 0
      · have e0 : (U.1.err == 0) = true := by simpa using hue
        have htl : U.2.toList = U.2.data.toList := Lib.toList_data _
        cases hb : U.2.toList.isEmpty
        · have hne : U.2.data.toList ≠ [] := by
            intro e
            rw [htl, e] at hb; cases hb
          have hG2 := HG.out
          rw [if_pos ⟨hue, hne⟩] at hG2
          have HG2 := hide hG2
          clear hG2
          have htx := K.out.texted w5 U.1 R5.out.1 U.2 Y.i hmo
          clear hue hne htl
          go_wp2_with fail
          refine htx.mono ?_
          rintro e w6 ⟨rfl, r6⟩
          have R6 := hide (R5.out.on r6)
          clear r6 htx
          go_wp2
          refine bodyPost_ret (results_none rfl _ _ _) rfl ?_
          exact ⟨rfl, by rw [← HG2.out]; exact H.out.ofSE R6.out HUS.out.1⟩
        · have hne : ¬ (U.1.err = 0 ∧ U.2.data.toList ≠ []) := by
            rintro ⟨_, e⟩
            apply e
            rw [← htl]
            simpa using hb
          have hG2 := HG.out
          rw [if_neg hne] at hG2
          have HG2 := hide hG2
          clear hue hne htl hG2
          go_wp2
          refine bodyPost_ret (results_none rfl _ _ _) rfl ?_
          exact ⟨rfl, by rw [← HG2.out]; exact H.out.ofSE R5.out HUS.out.1⟩
      · have e0 : (U.1.err == 0) = false := by simpa using hue
        have hG2 := HG.out
        rw [if_neg (fun e => hue e.1)] at hG2
        have HG2 := hide hG2
        clear hue hG2
        go_wp2
        refine bodyPost_ret (results_none rfl _ _ _) rfl ?_
        exact ⟨rfl, by rw [← HG2.out]; exact H.out.ofSE R5.out HUS.out.1⟩
end Go.Proofs.YtgognegkcplcpaaGreatDoor

set_option linter.unusedSimpArgs false
set_option linter.unusedVariables false
namespace Go.Proofs.YtgognegkcplcpaaGreatDoor
open Go.RowKit Go.Maps Go.Lib
variable {X : Nat} {w w' w'' wr : World} {s t : ByteArray} {lv : Value} {x x' : Sc} {F : Nat → Prop} {cs : List Value}
theorem rel_any (x : Sc) : Rel x ⟨fun j => if j = .text then x.more else [], fun _ => x.frm, 0, [], [], 0, x.l⟩ := ⟨⟨rfl, rfl, fun _ => rfl⟩, rfl, rfl, rfl⟩
structure RI2 (X : Nat) (w : World) (s : ByteArray) (y : Sc) (wr : World) (x : Sc) (f : Nat) : Prop where
  rs : RSE (fun k => k = X) X w s x wr
  eq : readF s f x = y
  ok : x.err = 0 → x.i ≤ s.size ∧ s.size < x.i + f ∧ x.more.length ≤ x.i ∧ x.l.length ≤ 3 * x.i
theorem piece_ok (he : x.err = 0) (hi : x.i < s.size) : (x.piece s).err = 0 → x.i < (x.piece s).i ∧ (x.piece s).i ≤ s.size ∧ (x.piece s).more.length + x.i ≤ x.more.length + (x.piece s).i ∧ (x.piece s).l.length ≤ x.l.length + 3 := by
  rcases done_piece (g := fun _ => []) he hi (rel_any x) with ⟨_, h2, h3, h4, _⟩ | ⟨h1, _⟩
  · exact fun _ => ⟨h2, h3, h4.2.1, h4.2.2⟩
  · exact fun e => absurd e h1
theorem RSE.past (h : RSE F X w s x w') (b : Below w'.heap.size w' w'') : RSE F X w s x w'' := h.on fun _ _ rs => rs.below b
theorem RSE.sat (h : RSE F X w s x w') : ∃ lv, SAt X w' s lv x := by obtain ⟨lv, cs, r, _⟩ := h; exact ⟨lv, r.sat⟩
theorem markup_on (h : RSE F X w s x wr) (hs : s.size ≤ 274877906944) (he : x.err = 0) (hi : x.i < s.size) (hm : x.more.length ≤ x.i) (hl : x.l.length ≤ 3 * x.i) : Calls Tryz.prog 26 #[.pointer (some ⟨X, 0, none⟩)] wr fun en w' => en = .returned (.tuple #[]) ∧ RSE F X w s (x.markup s) w' := by
  obtain ⟨lv, cs, r, f⟩ := h
  refine (markup_rs r (by omega) he hi (by omega) (by omega)).mono ?_
  rintro en w' ⟨rfl, r2⟩
  exact ⟨rfl, RSE.on ⟨lv, cs, r, f⟩ fun _ _ _ => r2⟩
theorem char_on (h : RSE F X w s x wr) (hs : s.size ≤ 274877906944) : Calls Tryz.prog 27 #[.pointer (some ⟨X, 0, none⟩), .int .u8 60] wr fun en w' => en = .returned (.string (x.char s 60).2) ∧ RSE F X w s (x.char s 60).1 w' := by
  obtain ⟨lv, cs, r, f⟩ := h
  refine (char_sc r.sat (by omega) 60).mono ?_
  rintro en w' ⟨rfl, r2⟩
  exact ⟨rfl, RSE.on ⟨lv, cs, r, f⟩ fun _ _ _ => r.ofSE r2 (char_s x s 60).1⟩
theorem texted_on (h : RSE F X w s x wr) (t : ByteArray) (a : Int) (hz : x.more.length + t.size ≤ 1125899906842624) : Calls Tryz.prog 28 #[.pointer (some ⟨X, 0, none⟩), .string t, .int .i64 a] wr fun en w' => en = .returned (.tuple #[]) ∧ RSE F X w s (x.texted t a) w' := by
  obtain ⟨lv, cs, r, f⟩ := h
  refine (texted_sc r.sat t a hz).mono ?_
  rintro en w' ⟨rfl, r2⟩
  exact ⟨rfl, RSE.on ⟨lv, cs, r, f⟩ fun _ _ _ => r.ofSE r2 rfl⟩
theorem RI2.next {y : Sc} {f : Nat} (h : RI2 X w s y wr x (f + 1)) (he : x.err = 0) (hi : x.i < s.size) (r : RSE (fun k => k = X) X w s (x.piece s) w') : RI2 X w s y w' (x.piece s) f ∧ left X s.size w' < left X s.size wr := by
  have hp := piece_ok he hi
  obtain ⟨o1, o2, o3, o4⟩ := h.ok he
  have heq := h.eq
  simp only [readF] at heq
  rw [if_pos ⟨hi, he⟩] at heq
  refine ⟨⟨r, heq, fun e => ?_⟩, ?_⟩
  · obtain ⟨p1, p2, p3, p4⟩ := hp e
    omega
  · obtain ⟨lv1, s1⟩ := r.sat
    obtain ⟨lv2, s2⟩ := h.rs.sat
    rw [left_eq s1 s.size, left_eq s2 s.size, if_pos he]
    split
    · rename_i e; have := hp e; omega
    · omega
set_option maxHeartbeats 4000000 in
set_option maxRecDepth 10000 in
theorem read_ref (s : ByteArray) (w : World) (hs : s.size ≤ 274877906944) : Calls Tryz.prog 16 #[.string s] w fun en w' => en = .returned (.pointer (some ⟨w.heap.size, 0, none⟩)) ∧ ∃ F lv cs, RS F w.heap.size w' s lv cs (readS s) ∧ Below w.heap.size w w' ∧ ∀ k, F k → w.heap.size ≤ k := by
  have hb0 : (w.alloc (.cells #[.string s, .int .i64 0, .slice none 0 0, .string ⟨#[]⟩, .int .i64 0, .int .i64 0, .int .i64 0] 40)).heap[w.heap.size]? = some (.cells #[.string s, .int .i64 0, .slice none 0 0, .string ⟨#[]⟩, .int .i64 0, .int .i64 0, .int .i64 0] 40) := Below_new _ _
  have hsat : SAt w.heap.size (w.alloc (.cells #[.string s, .int .i64 0, .slice none 0 0, .string ⟨#[]⟩, .int .i64 0, .int .i64 0, .int .i64 0] 40)) s (.slice none 0 0) Sc.zero := hb0
  have h0 : RI2 w.heap.size (w.alloc (.cells #[.string s, .int .i64 0, .slice none 0 0, .string ⟨#[]⟩, .int .i64 0, .int .i64 0, .int .i64 0] 40)) s (readS s) (w.alloc (.cells #[.string s, .int .i64 0, .slice none 0 0, .string ⟨#[]⟩, .int .i64 0, .int .i64 0, .int .i64 0] 40)) Sc.zero (s.size + 1) :=
    ⟨(RS.first hsat rfl).below (Below.refl _ _), rfl, fun _ => ⟨Nat.zero_le _, by show s.size < 0 + _; omega, Nat.zero_le _, Nat.zero_le _⟩⟩
  have hfin : ∀ wr x f, RI2 w.heap.size (w.alloc (.cells #[.string s, .int .i64 0, .slice none 0 0, .string ⟨#[]⟩, .int .i64 0, .int .i64 0, .int .i64 0] 40)) s (readS s) wr x f → x = readS s → ∃ F lv cs, RS F w.heap.size wr s lv cs (readS s) ∧ Below w.heap.size w wr ∧ ∀ k, F k → w.heap.size ≤ k := by
    rintro wr x f ⟨⟨lv, cs, r, fr⟩, _, _⟩ rfl
    refine ⟨_, lv, cs, r, ((Below.refl _ w).alloc (Nat.le_refl _) _).trans ⟨fr.os, fr.tape, fr.output, fr.size, fun k hk => fr.block k (by simp; omega) (by omega)⟩, ?_⟩
    rintro k (e | e)
    · omega
    · have := e.1; simp at this; omega
  have H0 := hide h0
  have HF := hide hfin
  clear h0 hfin hsat hb0
  go_enter Tryz.func16, Tryz.ntmps16
  go_wp2_with fail
  generalize hw1 : w.alloc (.cells #[.string s, .int .i64 0, .slice none 0 0, .string ⟨#[]⟩, .int .i64 0, .int .i64 0, .int .i64 0] 40) = w1 at *
  clear hw1
  go_loopw [4, 5] (fun _ _ wr => ∃ x' f, RI2 w.heap.size w1 s (readS s) wr x' f) (fun _ _ wr => left w.heap.size s.size wr)
  case atStart => exact ⟨_, _, H0.out⟩
  case round =>
    obtain ⟨x', f, u⟩ := hrel
    obtain ⟨lv', sat'⟩ := u.rs.sat
    have c1 : wr.cell? ⟨w.heap.size, 1, none⟩ = some (.int .i64 x'.i) := sat'.cell 1 rfl
    have c5 : wr.cell? ⟨w.heap.size, 5, none⟩ = some (.int .i64 x'.err) := sat'.cell 5 rfl
    clear sat'
    by_cases he : x'.err = 0
    · have e0 : (x'.err == 0) = true := by simpa using he
      by_cases hi : x'.i < s.size
      · have hd : decide ((x'.i : Int) < (s.size : Int)) = true := by simp; omega
        obtain ⟨o1, o2, o3, o4⟩ := u.ok he
        obtain ⟨f, rfl⟩ : ∃ g, f = g + 1 := ⟨f - 1, by omega⟩
        have hgt : s[x'.i] = s.get! x'.i := (Utf8W.get!_of_lt s x'.i hi).symm
        have hnx := fun w' (r : RSE (fun k => k = w.heap.size) w.heap.size w1 s (x'.piece s) w') => u.next he hi r
        have hmk := fun W (r : RSE (fun k => k = w.heap.size) w.heap.size w1 s x' W) => markup_on r hs he hi o3 o4
        have hch := fun W (r : RSE (fun k => k = w.heap.size) w.heap.size w1 s x' W) => char_on r hs
        have U := hide u.rs
        have HN := hide hnx
        have HM := hide hmk
        have HC := hide hch
        have hcg := char_grow x' s 60 he o1
        clear u hnx hmk hch
        unfold Sc.piece at HN
        by_cases h60 : (s.get! x'.i).toNat = 60
        · have hq : (((s.get! x'.i).toNat : Int) == 60) = true := by simp; omega
          rw [if_pos h60] at HN
          clear he h60 hcg
          go_wp2_with fail
          refine (HM.out _ U.out).mono ?_
          rintro e w2 ⟨rfl, r2⟩
          have R2 := hide (HN.out w2 r2)
          clear r2
          go_wp2
          exact ⟨⟨_, _, R2.out.1⟩, R2.out.2⟩
        · have hq : (((s.get! x'.i).toNat : Int) == 60) = false := by simp; omega
          rw [if_neg h60] at HN
          by_cases hce : (x'.char s 60).1.err = 0
          · have e1 : ((x'.char s 60).1.err == 0) = true := by simpa using hce
            rw [if_pos hce] at HN
            obtain ⟨g1, g2, g3⟩ := hcg.1 hce
            have htx := fun W (r : RSE (fun k => k = w.heap.size) w.heap.size w1 s (x'.char s 60).1 W) => texted_on r (x'.char s 60).2 x'.i (by rw [(char_s x' s 60).2.1]; omega)
            have HT := hide htx
            clear he h60 hcg hce htx
            go_wp2_with fail
            refine (HC.out _ U.out).mono ?_
            rintro e w2 ⟨rfl, r2⟩
            obtain ⟨lv2, sat2⟩ := r2.sat
            have c25 : w2.cell? ⟨w.heap.size, 5, none⟩ = some (.int .i64 (x'.char s 60).1.err) := sat2.cell 5 rfl
            have R2 := hide r2
            clear r2 sat2
            go_wp2_with fail
            refine (HT.out _ R2.out).mono ?_
            rintro e w3 ⟨rfl, r3⟩
            have R3 := hide (HN.out w3 r3)
            clear r3
            go_wp2
            exact ⟨⟨_, _, R3.out.1⟩, R3.out.2⟩
          · have e1 : ((x'.char s 60).1.err == 0) = false := by simpa using hce
            rw [if_neg hce] at HN
            clear he h60 hcg hce
            go_wp2_with fail
            refine (HC.out _ U.out).mono ?_
            rintro e w2 ⟨rfl, r2⟩
            obtain ⟨lv2, sat2⟩ := r2.sat
            have c25 : w2.cell? ⟨w.heap.size, 5, none⟩ = some (.int .i64 (x'.char s 60).1.err) := sat2.cell 5 rfl
            have R2 := hide (HN.out w2 r2)
            clear r2 sat2
            go_wp2
            exact ⟨⟨_, _, R2.out.1⟩, R2.out.2⟩
      · have hd : decide ((x'.i : Int) < (s.size : Int)) = false := by simp; omega
        have hx : x' = readS s := by
          rw [← u.eq]
          cases f with
          | zero => rfl
          | succ f => simp only [readF]; rw [if_neg (fun e => hi e.1)]
        have R := hide (HF.out wr x' f u hx)
        clear u he hx
        go_wp2
        go_ret
        exact ⟨rfl, R.out⟩
    · have e0 : (x'.err == 0) = false := by simpa using he
      have hx : x' = readS s := by rw [← u.eq, readF_err he]
      have R := hide (HF.out wr x' f u hx)
      clear u he hx
      by_cases hi : x'.i < s.size
      · have hd : decide ((x'.i : Int) < (s.size : Int)) = true := by simp; omega
        go_wp2
        go_ret
        exact ⟨rfl, R.out⟩
      · have hd : decide ((x'.i : Int) < (s.size : Int)) = false := by simp; omega
        go_wp2
        go_ret
        exact ⟨rfl, R.out⟩
end Go.Proofs.YtgognegkcplcpaaGreatDoor

namespace Go.Proofs.YtgognegkcplcpaaGreatDoor
open Go.RowKit Go.Maps Go.Lib
variable {F F' : Nat → Prop} {R : Nat} {w w' w'' wr : World} {s s' : Src} {p : Ptr} {st : St} {c : Int} {a : Addr} {pt : Part} {v : Value} {m : Rd} {N n : Nat}
structure Head (F : Nat → Prop) (R : Nat) (w : World) (m : Rd) (N : Nat) (wr : World) (s' : Src) (p' : Ptr) (st' : St) (pt : Part) (n : Nat) : Prop where
  rg : RG F R w s' p' st' wr
  part : PartAt (Grow F w wr) R wr s'.now pt
  lim : Lim n pt st'
  le : n + s'.rest.size ≤ N
  ok : s'.Ok
  eq : reads s'.bare pt st' = m
theorem Head.more (h : Head F R w m N wr s' p st pt n) (hm : s'.more = true) (hb : Below wr.heap.size wr w') : ReadEnd F R w a m (.returned (.iface 170 (.pointer (some a)))) w' := by
  have e := (reads_more hm).symm.trans h.eq
  subst e
  refine ⟨s'.now, p, h.rg.below hb, rfl, ?_⟩
  exact h.part.keep (fun k hk _ => hb.block k (h.rg.1.lt k hk)) (fun k hk => hk.elim Or.inl (fun x => Or.inr ⟨x.1, Nat.lt_of_lt_of_le x.2 hb.size⟩))
theorem Head.call (h : Head F R w m N wr s' p st pt n) (gl : Gl w a) (lo : Low F) (hN : N ≤ 274877906944) (hr : RF (Grow F w wr) R wr s'.took.1 p st w') :
    ∃ f cs, s'.now = .func (.func f) #[] cs ∧ (∀ args w, (callFunc f args).run Tryz.prog w = .ok (.enter f args) w) ∧
      Calls Tryz.prog f (#[.pointer (some ⟨R, 0, none⟩), .int .i32 s'.took.2] ++ cs) w' (PartEnd (Grow (Grow F w wr) wr w') R w' s'.took.1 (stepPart pt s'.next st s'.took.2)) := by
  have hl := h.rg.1.lt
  have pa : PartAt (Grow (Grow F w wr) wr w') R w' s'.took.1.now pt := by
    rw [took_now]
    exact h.part.grow hr.2.1.size (fun k hk hR => hr.2.2 k (hl k hk) hR)
  have gl1 := gl.frame h.rg.2 lo
  have lo1 : Low (Grow F w wr) := lo.grow gl.size
  have gl2 := gl1.frame hr.2.1 lo1
  have lo2 : Low (Grow (Grow F w wr) wr w') := lo1.grow gl1.size
  have ht := h.lim.tiny (by have := h.le; omega)
  have hok := h.ok
  have hc := part_call pt _ hr.1 pa h.lim.sound (took_leg s') ht (h.lim.both (by have := h.le; omega)) (by unfold Src.Fits; rw [took_at]; unfold Src.Ok at hok; omega) gl2.tab (lo2 2 (by omega))
  rw [took_now, took_at] at hc
  exact hc
theorem Head.go {p2 : Ptr} {w2 : World} {pt' : Part} (h : Head F R w m N wr s' p st pt n) (hm : s'.more = false) (hr : RF (Grow F w wr) R wr s'.took.1 p st w')
    (he : (stepPart pt s'.next st s'.took.2).res = .go pt') (hp : RG (Grow (Grow F w wr) wr w') R w' s'.took.1 p2 (stepPart pt s'.next st s'.took.2).st w2) (hv : PartAt (Grow (Grow (Grow F w wr) wr w') w' w2) R w2 v pt') :
    Head F R w m N (w2.setCell ⟨R, 4, none⟩ v) { s'.took.1 with now := v } p2 (stepPart pt s'.next st s'.took.2).st pt' (n + 1) ∧ s'.took.1.rest.size < s'.rest.size := by
  have hk := took_less h.lim.sound h.lim.quote he
  have ho := took_ok h.ok
  have r2 : RG F R w s'.took.1 p2 (stepPart pt s'.next st s'.took.2).st w2 := (h.rg.on hr.rg).on (hp.iff (fun k => Grow.trans h.rg.2.size hr.2.1.size k))
  refine ⟨⟨r2.set (s' := { s'.took.1 with now := v }) 4 v rfl, ?_, h.lim.step he, ?_, ho.1, ?_⟩, hk.1⟩
  · refine hv.keep (fun k _ hR => Below.heap_setCell _ _ _ _ hR) (fun k hk => ?_)
    have hsz : (w2.setCell ⟨R, 4, none⟩ v).heap.size = w2.heap.size := by simp [World.setCell]
    unfold Grow at hk ⊢
    rw [hsz]
    have := h.rg.2.size; have := hr.2.1.size; have := hp.2.size
    rcases hk with ((hk | hk) | hk) | hk
    · exact Or.inl hk
    · exact Or.inr (by omega)
    · exact Or.inr (by omega)
    · exact Or.inr (by omega)
  · have := h.le; show n + 1 + s'.took.1.rest.size ≤ N; omega
  · rw [← h.eq, reads_step h.lim hm, he]; rfl
theorem Head.stop {p2 : Ptr} {w2 : World} (h : Head F R w m N wr s' p st pt n) (hm : s'.more = false) (hr : RF (Grow F w wr) R wr s'.took.1 p st w')
    (he : (stepPart pt s'.next st s'.took.2).res = .stop) (hp : RG (Grow (Grow F w wr) wr w') R w' s'.took.1 p2 (stepPart pt s'.next st s'.took.2).st w2) :
    RI F R w m N (w2.setCell ⟨R, 4, none⟩ .nilFunc) ∧ restLen R (w2.setCell ⟨R, 4, none⟩ .nilFunc) < 2 * s'.rest.size + 1 := by
  have r2 : RG F R w s'.took.1 p2 (stepPart pt s'.next st s'.took.2).st w2 := (h.rg.on hr.rg).on (hp.iff (fun k => Grow.trans h.rg.2.size hr.2.1.size k))
  have r3 := r2.set (s' := { s'.took.1 with now := .nilFunc }) 4 .nilFunc rfl
  have ho := took_ok h.ok
  have e := h.eq
  rw [reads_step h.lim hm, he] at e
  subst e
  refine ⟨⟨_, _, _, r3, Or.inr ⟨rfl, rfl, rfl, rfl⟩⟩, ?_⟩
  rw [restLen_nil r3.1 rfl]
  show 2 * s'.took.1.rest.size < _
  omega
theorem Head.fail {p2 : Ptr} {w2 : World} {no q : Int} (h : Head F R w m N wr s' p st pt n) (hm : s'.more = false) (hr : RF (Grow F w wr) R wr s'.took.1 p st w')
    (he : (stepPart pt s'.next st s'.took.2).res = .fail no q) (hp : RG (Grow (Grow F w wr) wr w') R w' s'.took.1 p2 (stepPart pt s'.next st s'.took.2).st w2) :
    ReadEnd F R w a m (.returned (wrongV no q)) (w2.setCell ⟨R, 4, none⟩ .nilFunc) := by
  have r2 : RG F R w s'.took.1 p2 (stepPart pt s'.next st s'.took.2).st w2 := (h.rg.on hr.rg).on (hp.iff (fun k => Grow.trans h.rg.2.size hr.2.1.size k))
  have r3 := r2.set (s' := { s'.took.1 with now := .nilFunc }) 4 .nilFunc rfl
  have e := h.eq
  rw [reads_step h.lim hm, he] at e
  subst e
  exact ⟨.nilFunc, p2, r3, rfl, rfl⟩
theorem RI.over (hg : RG F R w s' p st wr) (h1 : s'.now = .nilFunc) (h2 : m.s = s'.bare) (h3 : m.st = st) (h4 : m.ret = .over) : ReadEnd F R w a m (.returned .nilIface) wr := by
  obtain ⟨r0, n0, a0, e0, nw, no0, f0, cl0⟩ := s'
  simp only at h1
  subst h1
  obtain ⟨ms, mp, mst, mr⟩ := m
  cases h2; cases h3; cases h4
  exact ⟨.nilFunc, p, hg, rfl, rfl⟩
theorem neq_fn (f : Nat) (cs : Array Value) (w : World) : (binOp .neq 61 (.func (.func f) #[] cs) .nilFunc).run Tryz.prog w = .ok (.bool true) w := by kernel_rfl
theorem neq_nil (w : World) : (binOp .neq 61 .nilFunc .nilFunc).run Tryz.prog w = .ok (.bool false) w := by kernel_rfl
set_option maxHeartbeats 4000000 in
set_option maxRecDepth 10000 in
theorem read_ok (h : Rep F R w s p st) (hpt : PartAt F R w s.now pt) (hl : Lim n pt st) (gl : Gl w a) (lo : Low F) (hn : n + s.rest.size ≤ N) (hN : N ≤ 274877906944) (hok : s.Ok) :
    Calls Tryz.prog 36 #[.pointer (some ⟨R, 0, none⟩)] w (ReadEnd F R w a (reads s.bare pt st)) := by
  have h0 : RI F R w (reads s.bare pt st) N w := ⟨s, p, st, RG.refl h, Or.inl ⟨pt, n, hpt.grow (Nat.le_refl _) (fun _ _ _ => rfl), hl, hn, hok, rfl⟩⟩
  generalize reads s.bare pt st = m at *
  have H0 := hide h0
  have GL := hide gl
  have LO := hide lo
  have hR4 := lo.lt h.inR
  clear h hpt hl gl lo hn hok h0
  have hnf := neq_fn
  have hnn := neq_nil
  go_enter Tryz.func36, Tryz.ntmps36
  go_wp2
  go_loopw [] (fun wr => RI F R w m N wr) (fun wr => restLen R wr)
  case atStart => exact H0.out
  case round =>
    obtain ⟨s', p', st', rg, hc⟩ := hrel
    rcases hc with ⟨pt', n', hp', hl', hle, hok', heq⟩ | ⟨hno, hs, hst, hov⟩
    · have hd : Head F R w m N wr s' p' st' pt' n' := ⟨rg, hp', hl', hle, hok', heq⟩
      obtain ⟨f, cs, hf⟩ := hp'.func
      have c4 : wr.cell? ⟨R, 4, none⟩ = some s'.now := rg.1.cell 4 rfl
      have hmu := restLen_go rg.1 hf
      rw [hf] at c4
      have gl1 := GL.out.frame rg.2 LO.out
      by_cases hm : s'.more = true
      · have htk := take_more rg.1 gl1.tabs a gl1.more hm
        have HD := hide hd
        clear hd rg hp' hl' heq hle hok' hf hmu gl1
        go_wp2_with (go_at_call 63; refine htk.mono ?_; rintro e w1 ⟨rfl, b1⟩)
        go_ret
        exact HD.out.more hm b1
      · have hm' : s'.more = false := by simpa using hm
        have htk := take_go rg.1 gl1.tabs hR4 (by unfold Src.Ok at hok'; omega) (by unfold Src.Ok at hok'; omega) hm'
        have hcl := fun w1 (x : RF (Grow F w wr) R wr s'.took.1 p' st' w1) => hd.call GL.out LO.out hN x
        have HD := hide hd
        have HMU := hide hmu
        have HF := hide hf
        have HCL := hide hcl
        have hnow := took_now s'
        rw [hf] at hnow
        clear hd rg hp' hl' heq hle hok' hf hmu gl1 hcl hm
        unfold tookEnd at htk
        obtain ⟨c, hc⟩ : ∃ c, c = s'.took.2 := ⟨_, rfl⟩
        have HC := hide hc
        rw [← hc] at htk HCL
        clear hc
        go_wp2_with (go_at_call 63; refine htk.mono ?_; rintro e w1 ⟨rfl, rf1⟩; have c4' : w1.cell? ⟨R, 4, none⟩ = some (.func (.func f) #[] cs) := by (rw [← hnow]; exact rf1.1.cell 4 rfl))
        obtain ⟨f', cs', hf', hen, hcall⟩ := HCL.out _ rf1
        rw [HF.out] at hf'
        simp only [Value.func.injEq, Fn.func.injEq, true_and] at hf'
        obtain ⟨rfl, rfl⟩ := hf'
        rw [hen]
        go_wp2_with fail
        refine hcall.mono ?_
        rintro e w2 ⟨p2, r2, fr2, hP⟩
        have rg2 : RG (Grow (Grow F w wr) wr w1) R w1 s'.took.1 p2 (stepPart pt' s'.next st' c).st w2 := ⟨r2, fr2⟩
        have d4 : w2.cell? ⟨R, 4, none⟩ = some (.func (.func f) #[] cs) := by rw [← hnow]; exact r2.cell 4 rfl
        have f4 := r2.free 4
        have RF1 := hide rf1
        have RG2 := hide rg2
        clear rf1 rg2 r2 fr2 HCL htk hcall c4' c4
        generalize hres : (stepPart pt' s'.next st' c).res = res at hP
        cases res with
        | go pt2 =>
          obtain ⟨v', rfl, hv'⟩ := hP
          obtain ⟨f2, cs2, rfl⟩ := hv'.func
          have hsto := store_of w2 ⟨R, 4, none⟩ _ (.func (.func f2) #[] cs2) rfl d4 f4
          have E := hide (HD.out.go hm' RF1.out (HC.out.symm ▸ hres) (HC.out.symm ▸ RG2.out) hv')
          clear hv'
          go_wp2
          go_roundw
          case rel =>
            obtain ⟨hd2, hlt⟩ := E.out
            exact ⟨_, _, _, hd2.rg, Or.inl ⟨pt2, n' + 1, hd2.part, hd2.lim, hd2.le, hd2.ok, hd2.eq⟩⟩
          case measure =>
            obtain ⟨hd2, hlt⟩ := E.out
            rw [restLen_go hd2.rg.1 rfl, HMU.out]
            show 2 * s'.took.1.rest.size + 1 < _
            omega
        | stop =>
          simp only at hP
          subst hP
          have hsto := store_of w2 ⟨R, 4, none⟩ _ .nilFunc rfl d4 f4
          have E := hide (HD.out.stop hm' RF1.out (HC.out.symm ▸ hres) (HC.out.symm ▸ RG2.out))
          go_wp2
          go_roundw
          case rel => exact E.out.1
          case measure =>
            rw [HMU.out]
            exact E.out.2
        | fail no q =>
          simp only at hP
          subst hP
          have hsto := store_of w2 ⟨R, 4, none⟩ _ .nilFunc rfl d4 f4
          have E := hide (HD.out.fail (a := a) hm' RF1.out (HC.out.symm ▸ hres) (HC.out.symm ▸ RG2.out))
          unfold wrongV at *
          go_wp2
          go_ret
          exact E.out
    · have c4 : wr.cell? ⟨R, 4, none⟩ = some s'.now := rg.1.cell 4 rfl
      rw [hno] at c4
      have E := hide (RI.over (a := a) rg hno hs hst hov)
      clear rg hs hst hov
      go_wp2
      go_ret
      exact E.out
end Go.Proofs.YtgognegkcplcpaaGreatDoor

namespace Go.Proofs
open Go.Shelf
def Tryz.lays316_ren : Go.Shelf.Ren := ⟨fun | 316 => 99 | n => n, fun | 0 => 0 | 3 => 3 | 4 => 4 | 5 => 5 | 9 => 9 | 37 => 62 | 127 => 133 | n => n, fun | n => n⟩
theorem Tryz.lays316 : Go.Proofs.LaysM.n316 Tryz.prog Tryz.lays316_ren := {
  mixed := by kernel_rfl
  f316 := Tryz.func99.trans (congrArg some (by kernel_rfl))
  t0 := Tryz.underlying0
  a0 := Tryz.isAgg0
  z0 := Tryz.sizeOf0
  v0 := Tryz.zeroValue0
  i0 := by kernel_rfl
  t3 := Tryz.underlying3
  a3 := Tryz.isAgg3
  z3 := Tryz.sizeOf3
  v3 := Tryz.zeroValue3
  i3 := by kernel_rfl
  t4 := Tryz.underlying4
  a4 := Tryz.isAgg4
  z4 := Tryz.sizeOf4
  v4 := Tryz.zeroValue4
  i4 := by kernel_rfl
  t5 := Tryz.underlying5
  a5 := Tryz.isAgg5
  z5 := Tryz.sizeOf5
  v5 := Tryz.zeroValue5
  i5 := by kernel_rfl
  t9 := Tryz.underlying9
  a9 := Tryz.isAgg9
  z9 := Tryz.sizeOf9
  v9 := Tryz.zeroValue9
  i9 := by kernel_rfl
  t37 := Tryz.underlying62
  a37 := Tryz.isAgg62
  z37 := Tryz.sizeOf62
  v37 := Tryz.zeroValue62
  i37 := by kernel_rfl
  t127 := Tryz.underlying133
  a127 := Tryz.isAgg133
  z127 := Tryz.sizeOf133
  v127 := Tryz.zeroValue133
  i127 := by kernel_rfl }
end Go.Proofs
namespace Go.Proofs.YtgognegkcplcpaaGreatDoor
open Go.RowKit
theorem clone_any (s : ByteArray) (w : World) (hlim : s.size ≤ 281474976710656) :
    Calls Tryz.prog 66 #[.string s] w fun e w' => e = .returned (.string s) ∧ Below w.heap.size w w' := by
  have hc := Any.stringslite_Clone Tryz.lays316 s w hlim
  go_enter Tryz.func66, Tryz.ntmps66
  go_wp2_with (go_at_call 99; refine hc.mono ?_; rintro e w1 ⟨rfl, b1⟩)
  go_ret
  exact ⟨rfl, b1⟩
end Go.Proofs.YtgognegkcplcpaaGreatDoor

namespace Go.Proofs.YtgognegkcplcpaaGreatDoor
open Go.RowKit Go.Extern.Stop Go.Stop Go.Extern
theorem isTypeOf (v : Value) (w : World) : (Extern.ReflectliteType.typeOf #[.iface 170 v]).run Tryz.prog w = .ok (.iface 141 (.agg #[.pointer (some ⟨5, 170, none⟩)])) w := by kernel_rfl
theorem isComparable (w : World) : (callFunc 150 #[.agg #[.pointer (some ⟨5, 170, none⟩)]]).run Tryz.prog w = .ok (.value (.bool true)) w := by kernel_rfl
theorem isMethodComparable (v : Value) (w : World) : (Go.method 300 141 v "Comparable").run Tryz.prog w = .ok (150, v) w := by kernel_rfl
theorem isComp : (Tryz.prog.info? 170).map (·.comparable) = some true := by kernel_rfl
theorem isSize : (Tryz.prog.info? 188).map (·.size) = some 1 := by kernel_rfl
theorem noIsE (v : Value) (xT : TypeId) (w : World) : (Instr.typeAssert (.iface 69 v) xT 143 true).run Tryz.prog w = .ok (.tuple #[.nilIface, .bool false]) w := run_typeAssert_lacksB Tryz.underlying143 (by kernel_rfl) (by kernel_rfl) v xT w
theorem noUnwrapE (v : Value) (xT : TypeId) (w : World) : (Instr.typeAssert (.iface 69 v) xT 146 true).run Tryz.prog w = .ok (.tuple #[.nilIface, .bool false]) w := run_typeAssert_lacksB Tryz.underlying146 (by kernel_rfl) (by kernel_rfl) v xT w
theorem noUnwrapsE (v : Value) (xT : TypeId) (w : World) : (Instr.typeAssert (.iface 69 v) xT 147 true).run Tryz.prog w = .ok (.tuple #[.nilIface, .bool false]) w := run_typeAssert_lacksB Tryz.underlying147 (by kernel_rfl) (by kernel_rfl) v xT w
theorem eql_nil_more (a : Addr) (w : World) : (binOp .eql 79 .nilIface (.iface 170 (.pointer (some a)))).run Tryz.prog w = .ok (.bool false) w := by kernel_rfl
theorem eql_wrong_more (n p : Int) (a : Addr) (w : World) : (binOp .eql 79 (.iface 69 (.agg #[.int .i64 n, .int .i64 p])) (.iface 170 (.pointer (some a)))).run Tryz.prog w = .ok (.bool false) w := by kernel_rfl
theorem is_nil (a : Addr) (w : World) : Calls Tryz.prog 37 #[.nilIface, .iface 170 (.pointer (some a))] w fun e w' => e = .returned (.bool false) ∧ w' = w := by
  have h := eql_nil_more a
  go_enter Tryz.func37, Tryz.ntmps37
  go_wp2
  go_ret
  exact ⟨rfl, rfl⟩
set_option maxHeartbeats 1000000 in
theorem is_same (a : Addr) (w : World) :
    Calls Tryz.prog 37 #[.iface 170 (.pointer (some a)), .iface 170 (.pointer (some a))] w fun e w' => e = .returned (.bool true) ∧ w' = w := by
  obtain ⟨i, hi, hcmp⟩ := Option.map_eq_some_iff.1 isComp
  obtain ⟨j, hj, hjs⟩ := Option.map_eq_some_iff.1 isSize
  have h8 := @run_callFunc_extern Tryz.prog 64 _ Extern.ReflectliteType.typeOf Tryz.func64 (by kernel_rfl) (by kernel_rfl) (by kernel_rfl) (by kernel_rfl)
  have tT := isTypeOf
  have cT := isComparable
  have mR := isMethodComparable
  have heq := run_eql_iface_ptr_same (P := Tryz.prog) w a Tryz.underlying79 Tryz.underlying170 hi hcmp hj
  go_enter Tryz.func37, Tryz.ntmps37
  go_wp2
  refine wp_loop_rounds 1 ?_
  rw [rounds_succ]
  go_wp2
  go_ret
  exact ⟨rfl, rfl⟩
set_option maxHeartbeats 1000000 in
theorem is_wrong (n p : Int) (a : Addr) (w : World) : Calls Tryz.prog 37 #[.iface 69 (.agg #[.int .i64 n, .int .i64 p]), .iface 170 (.pointer (some a))] w fun e w' => e = .returned (.bool false) ∧ w' = w := by
  have h8 := @run_callFunc_extern Tryz.prog 64 _ Extern.ReflectliteType.typeOf Tryz.func64 (by kernel_rfl) (by kernel_rfl) (by kernel_rfl) (by kernel_rfl)
  have tT := isTypeOf
  have cT := isComparable
  have mR := isMethodComparable
  have h := eql_wrong_more n p a
  have n1 := noIsE
  have n2 := noUnwrapE
  have n3 := noUnwrapsE
  go_enter Tryz.func37, Tryz.ntmps37
  go_wp2
  refine wp_loop_rounds 1 ?_
  rw [rounds_succ]
  go_wp2
  go_ret
  exact ⟨rfl, rfl⟩
end Go.Proofs.YtgognegkcplcpaaGreatDoor

namespace Go.Proofs.YtgognegkcplcpaaGreatDoor
open Go.RowKit Go.Extern.Stop Go.Stop Go.Extern
theorem as_nil (t : Value) (w : World) :
    Calls Tryz.prog 39 #[.nilIface, t] w fun e w' => e = .returned (.bool false) ∧ w' = w := by
  go_enter Tryz.func39, Tryz.ntmps39
  go_wp2
  go_ret
  exact ⟨rfl, rfl⟩
theorem valueOf87 (t : Addr) (w : World) : (callFunc 67 #[.iface 88 (.pointer (some t))]).run Tryz.prog w = .ok (.value (.agg #[.pointer (some ⟨5, 88, none⟩), .pointer (some ⟨w.heap.size, 0, none⟩), .int .u64 150])) (w.alloc (.cells #[.pointer (some t)] 88)) := by kernel_rfl
theorem type87 (a : Addr) (w : World) : (callFunc 68 #[.agg #[.pointer (some ⟨5, 88, none⟩), .pointer (some a), .int .u64 150]]).run Tryz.prog w = .ok (.value (.iface 141 (.agg #[.pointer (some ⟨5, 88, none⟩)]))) w := by kernel_rfl
theorem methodKind (h : Value) (w : World) : (Go.method 300 141 (.agg #[h]) "Kind").run Tryz.prog w = .ok (140, h) w := by kernel_rfl
theorem methodElem (h : Value) (w : World) : (Go.method 300 141 (.agg #[h]) "Elem").run Tryz.prog w = .ok (151, .agg #[h]) w := by kernel_rfl
theorem methodImplements (h : Value) (w : World) : (Go.method 300 141 (.agg #[h]) "Implements").run Tryz.prog w = .ok (152, .agg #[h]) w := by kernel_rfl
theorem methodAssignableTo (h : Value) (w : World) : (Go.method 300 141 (.agg #[h]) "AssignableTo").run Tryz.prog w = .ok (149, .agg #[h]) w := by kernel_rfl
theorem kind87 (w : World) : (callFunc 140 #[.pointer (some ⟨5, 88, none⟩)]).run Tryz.prog w = .ok (.value (.int .u8 22)) w := by kernel_rfl
theorem kind68 (w : World) : (callFunc 140 #[.pointer (some ⟨5, 69, none⟩)]).run Tryz.prog w = .ok (.value (.int .u8 25)) w := by kernel_rfl
theorem elem87 (w : World) : (callFunc 151 #[.agg #[.pointer (some ⟨5, 88, none⟩)]]).run Tryz.prog w = .ok (.value (.iface 141 (.agg #[.pointer (some ⟨5, 69, none⟩)]))) w := by kernel_rfl
theorem implements68 (w : World) : (callFunc 152 #[.agg #[.pointer (some ⟨5, 69, none⟩)], .iface 141 (.agg #[.pointer (some ⟨5, 79, none⟩)])]).run Tryz.prog w = .ok (.value (.bool true)) w := by kernel_rfl
theorem typeOf68 (v : Value) (w : World) : (callFunc 64 #[.iface 69 v]).run Tryz.prog w = .ok (.value (.iface 141 (.agg #[.pointer (some ⟨5, 69, none⟩)]))) w := by kernel_rfl
theorem assignable68 (w : World) : (callFunc 149 #[.agg #[.pointer (some ⟨5, 69, none⟩)], .iface 141 (.agg #[.pointer (some ⟨5, 69, none⟩)])]).run Tryz.prog w = .ok (.value (.bool true)) w := by kernel_rfl
theorem valueOf68 (n p : Int) (w : World) : (callFunc 67 #[.iface 69 (.agg #[.int .i64 n, .int .i64 p])]).run Tryz.prog w = .ok (.value (.agg #[.pointer (some ⟨5, 69, none⟩), .pointer (some ⟨w.heap.size, 0, none⟩), .int .u64 153])) (w.alloc (.cells #[.int .i64 n, .int .i64 p] 69)) := by kernel_rfl
end Go.Proofs.YtgognegkcplcpaaGreatDoor

namespace Go.Proofs.YtgognegkcplcpaaGreatDoor
open Go.RowKit Go.Extern.Stop Go.Stop Go.Extern
theorem parts87 (a : Addr) (w : World) : (ReflectliteValue.parts (.agg #[.pointer (some ⟨5, 88, none⟩), .pointer (some a), .int .u64 150])).run Tryz.prog w = .ok (some (88, a, 150)) w := by kernel_rfl
theorem elemOf87 (w : World) : (Rtype.elem? 88).run Tryz.prog w = .ok (some 69) w := by kernel_rfl
theorem mk68 (p : Addr) (w : World) : (ReflectliteValue.mk 69 p ReflectliteValue.flagAddr).run Tryz.prog w = .ok (.agg #[.pointer (some ⟨5, 69, none⟩), .pointer (some p), .int .u64 409]) w := by kernel_rfl
theorem parts68a (a : Addr) (w : World) : (ReflectliteValue.parts (.agg #[.pointer (some ⟨5, 69, none⟩), .pointer (some a), .int .u64 409])).run Tryz.prog w = .ok (some (69, a, 409)) w := by kernel_rfl
theorem parts68 (a : Addr) (w : World) : (ReflectliteValue.parts (.agg #[.pointer (some ⟨5, 69, none⟩), .pointer (some a), .int .u64 153])).run Tryz.prog w = .ok (some (69, a, 153)) w := by kernel_rfl
theorem direct68 (w : World) : (Rtype.directlyAssignable 69 69).run Tryz.prog w = .ok true w := by kernel_rfl
theorem isNil87 (a p : Addr) (W : World) (ha : W.cell? a = some (.pointer (some p))) :
    (callFunc 69 #[.agg #[.pointer (some ⟨5, 88, none⟩), .pointer (some a), .int .u64 150]]).run Tryz.prog W = .ok (.value (.bool false)) W := by
  have h8 := @run_callFunc_extern Tryz.prog 69 _ (ReflectliteValue.method (ReflectliteValue.valueError "reflectlite.Value.IsNil" 0) ReflectliteValue.isNil) Tryz.func69 (by kernel_rfl) (by kernel_rfl) (by kernel_rfl) (by kernel_rfl)
  rw [h8]
  have e1 : (ReflectliteValue.method (ReflectliteValue.valueError "reflectlite.Value.IsNil" 0) ReflectliteValue.isNil #[.agg #[.pointer (some ⟨5, 88, none⟩), .pointer (some a), .int .u64 150]]).run Tryz.prog W = _ := Sem.run_bind' Tryz.prog (ReflectliteValue.parts (.agg #[.pointer (some ⟨5, 88, none⟩), .pointer (some a), .int .u64 150])) _ W
  rw [e1, parts87]
  simp [ReflectliteValue.isNil, loadVar, isAgg, underlying, Tryz.underlying88, ha, Result.andThen]
theorem elemV87 (a p : Addr) (W : World) (ha : W.cell? a = some (.pointer (some p))) :
    (callFunc 100 #[.agg #[.pointer (some ⟨5, 88, none⟩), .pointer (some a), .int .u64 150]]).run Tryz.prog W = .ok (.value (.agg #[.pointer (some ⟨5, 69, none⟩), .pointer (some p), .int .u64 409])) W := by
  have h8 := @run_callFunc_extern Tryz.prog 100 _ (ReflectliteValue.method (ReflectliteValue.valueError "reflectlite.Value.Elem" 0) ReflectliteValue.elem) Tryz.func100 (by kernel_rfl) (by kernel_rfl) (by kernel_rfl) (by kernel_rfl)
  rw [h8]
  have e1 : (ReflectliteValue.method (ReflectliteValue.valueError "reflectlite.Value.Elem" 0) ReflectliteValue.elem #[.agg #[.pointer (some ⟨5, 88, none⟩), .pointer (some a), .int .u64 150]]).run Tryz.prog W = _ := Sem.run_bind' Tryz.prog (ReflectliteValue.parts (.agg #[.pointer (some ⟨5, 88, none⟩), .pointer (some a), .int .u64 150])) _ W
  rw [e1, parts87]
  simp [ReflectliteValue.elem, loadVar, isAgg, underlying, Tryz.underlying88, ha, Result.andThen, elemOf87, mk68]
theorem load68 (b : Nat) (n p : Int) (W : World) (h0 : W.cell? ⟨b, 0, none⟩ = some (.int .i64 n)) (h1 : W.cell? ⟨b, 1, none⟩ = some (.int .i64 p)) :
    (loadVar 69 ⟨b, 0, none⟩).run Tryz.prog W = .ok (.agg #[.int .i64 n, .int .i64 p]) W := by
  simp [loadVar, Tryz.isAgg69, Tryz.sizeOf69, loadCells, loadCellsFrom, h0, h1, Addr.add, Result.andThen]
theorem set68 (t b : Nat) (n p : Int) (o1 o2 : Value) (W : World) (hb0 : W.cell? ⟨b, 0, none⟩ = some (.int .i64 n)) (hb1 : W.cell? ⟨b, 1, none⟩ = some (.int .i64 p)) (ht0 : W.cell? ⟨t, 0, none⟩ = some o1) (ht1 : W.cell? ⟨t, 1, none⟩ = some o2) (hf0 : W.frozen? ⟨t, 0, none⟩ = false) (hf1 : W.frozen? ⟨t, 1, none⟩ = false) :
    (callFunc 101 #[.agg #[.pointer (some ⟨5, 69, none⟩), .pointer (some ⟨t, 0, none⟩), .int .u64 409], .agg #[.pointer (some ⟨5, 69, none⟩), .pointer (some ⟨b, 0, none⟩), .int .u64 153]]).run Tryz.prog W = .ok (.value (.tuple #[])) ((W.setCell ⟨t, 0, none⟩ (.int .i64 n)).setCell ⟨t, 1, none⟩ (.int .i64 p)) := by
  have h8 := @run_callFunc_extern Tryz.prog 101 _ ReflectliteValue.set Tryz.func101 (by kernel_rfl) (by kernel_rfl) (by kernel_rfl) (by kernel_rfl)
  rw [h8]
  have e1 : (ReflectliteValue.set #[.agg #[.pointer (some ⟨5, 69, none⟩), .pointer (some ⟨t, 0, none⟩), .int .u64 409], .agg #[.pointer (some ⟨5, 69, none⟩), .pointer (some ⟨b, 0, none⟩), .int .u64 153]]).run Tryz.prog W = _ := Sem.run_bind' Tryz.prog (ReflectliteValue.parts (.agg #[.pointer (some ⟨5, 69, none⟩), .pointer (some ⟨t, 0, none⟩), .int .u64 409])) _ W
  have l68 := load68 b n p W hb0 hb1
  rw [e1, parts68a]
  clear e1 h8
  simp only [Array.getLit, List.getElem_toArray, List.getElem_cons_succ, List.getElem_cons_zero, Sem.run_bind, parts68, Result.andThen]
  simp [ReflectliteValue.flagAddr, l68, Result.andThen, direct68, storeVar, Tryz.sizeOf69, Value.cells, storeCells, Addr.add]
  have k1 : (W.setCell ⟨t, 0, none⟩ (.int .i64 n)).cell? ⟨t, 1, none⟩ = some o2 := by rw [World.cell?_setCell_other]; exact ht1; simp
  have k2 : (W.setCell ⟨t, 0, none⟩ (.int .i64 n)).frozen? ⟨t, 1, none⟩ = false := (World.frozen?_setCell _ _ _ _).trans hf1
  rw [run_store Tryz.prog W ⟨t, 0, none⟩ _ _ (by rfl), ht0, hf0]
  simp only [Bool.false_eq_true, if_false]
  rw [run_store Tryz.prog _ ⟨t, 1, none⟩ _ _ (by rfl), k1, k2]
  rfl
end Go.Proofs.YtgognegkcplcpaaGreatDoor

namespace Go.Proofs.YtgognegkcplcpaaGreatDoor
open Go.RowKit Go.Extern.Stop Go.Stop Go.Extern
def V87 (b : Nat) : Array Value := #[.pointer (some ⟨5, 88, none⟩), .pointer (some ⟨b, 0, none⟩), .int .u64 150]
set_option maxHeartbeats 4000000 in
set_option maxRecDepth 10000 in
theorem as_hit (t : Nat) (n p : Int) (o1 o2 : Value) (w : World) (hg : w.cell? ⟨1, 0, none⟩ = some (.iface 141 (.agg #[.pointer (some ⟨5, 79, none⟩)]))) (ht0 : w.cell? ⟨t, 0, none⟩ = some o1) (ht1 : w.cell? ⟨t, 1, none⟩ = some o2) (hf0 : w.frozen? ⟨t, 0, none⟩ = false) (hf1 : w.frozen? ⟨t, 1, none⟩ = false) :
    Calls Tryz.prog 39 #[.iface 69 (.agg #[.int .i64 n, .int .i64 p]), .iface 88 (.pointer (some ⟨t, 0, none⟩))] w fun ev w' => ev = .returned (.bool true) ∧
      w' = (((((w.alloc (.cells #[.pointer (some ⟨t, 0, none⟩)] 88)).alloc (.cells (V87 w.heap.size) 120)).alloc (.cells (V87 w.heap.size) 120)).alloc (.cells #[.int .i64 n, .int .i64 p] 69)).setCell ⟨t, 0, none⟩ (.int .i64 n)).setCell ⟨t, 1, none⟩ (.int .i64 p) := by
  have htl : t < w.heap.size := World.block_lt_of_cell? w _ ht0
  have hgl : 1 < w.heap.size := World.block_lt_of_cell? w _ hg
  have f6 := valueOf87
  have f7 := type87
  have mK := methodKind
  have mE := methodElem
  have mI := methodImplements
  have mA := methodAssignableTo
  have k1 := kind87
  have k2 := kind68
  have e1 := elem87
  have i1 := implements68
  have t1 := typeOf68 (.agg #[.int .i64 n, .int .i64 p])
  have a1 := assignable68
  have v1 := valueOf68 n p
  have n8 := isNil87 ⟨w.heap.size, 0, none⟩ ⟨t, 0, none⟩ ((w.alloc (.cells #[.pointer (some ⟨t, 0, none⟩)] 88)).alloc (.cells #[.pointer (some ⟨5, 88, none⟩), .pointer (some ⟨w.heap.size, 0, none⟩), .int .u64 150] 120)) (by simp)
  have el := elemV87 ⟨w.heap.size, 0, none⟩ ⟨t, 0, none⟩ (((w.alloc (.cells #[.pointer (some ⟨t, 0, none⟩)] 88)).alloc (.cells #[.pointer (some ⟨5, 88, none⟩), .pointer (some ⟨w.heap.size, 0, none⟩), .int .u64 150] 120)).alloc (.cells #[.pointer (some ⟨5, 88, none⟩), .pointer (some ⟨w.heap.size, 0, none⟩), .int .u64 150] 120)) (by rw [World.cell?_alloc_lt _ _ ⟨w.heap.size, 0, none⟩ (by simp; omega)]; simp)
  have hg2 : ((w.alloc (.cells #[.pointer (some ⟨t, 0, none⟩)] 88)).alloc (.cells #[.pointer (some ⟨5, 88, none⟩), .pointer (some ⟨w.heap.size, 0, none⟩), .int .u64 150] 120)).cell? ⟨1, 0, none⟩ = some (.iface 141 (.agg #[.pointer (some ⟨5, 79, none⟩)])) := by
    rw [World.cell?_alloc_lt _ _ ⟨1, 0, none⟩ (by simp; omega), World.cell?_alloc_lt _ _ ⟨1, 0, none⟩ hgl]; exact hg
  have old : ∀ (W : World) (o : Obj) (i : Nat) (v : Value), t < W.heap.size → W.cell? ⟨t, i, none⟩ = some v → (W.alloc o).cell? ⟨t, i, none⟩ = some v := fun W o i v hl h => by rw [World.cell?_alloc_lt _ _ ⟨t, i, none⟩ hl]; exact h
  have oldF : ∀ (W : World) (o : Obj) (i : Nat), t < W.heap.size → W.frozen? ⟨t, i, none⟩ = false → (W.alloc o).frozen? ⟨t, i, none⟩ = false := fun W o i hl h => by rw [World.frozen?_alloc_old _ _ ⟨t, i, none⟩ (Nat.ne_of_lt hl)]; exact h
  have st := set68 t (w.heap.size + 1 + 1 + 1) n p o1 o2 ((((w.alloc (.cells #[.pointer (some ⟨t, 0, none⟩)] 88)).alloc (.cells #[.pointer (some ⟨5, 88, none⟩), .pointer (some ⟨w.heap.size, 0, none⟩), .int .u64 150] 120)).alloc (.cells #[.pointer (some ⟨5, 88, none⟩), .pointer (some ⟨w.heap.size, 0, none⟩), .int .u64 150] 120)).alloc (.cells #[.int .i64 n, .int .i64 p] 69))
    (by rw [World.cell?_alloc_at _ _ _ _ (by simp)]; rfl)
    (by rw [World.cell?_alloc_at _ _ _ _ (by simp)]; rfl)
    (old _ _ _ _ (by simp; omega) (old _ _ _ _ (by simp; omega) (old _ _ _ _ (by simp; omega) (old _ _ _ _ htl ht0))))
    (old _ _ _ _ (by simp; omega) (old _ _ _ _ (by simp; omega) (old _ _ _ _ (by simp; omega) (old _ _ _ _ htl ht1))))
    (oldF _ _ _ (by simp; omega) (oldF _ _ _ (by simp; omega) (oldF _ _ _ (by simp; omega) (oldF _ _ _ htl hf0))))
    (oldF _ _ _ (by simp; omega) (oldF _ _ _ (by simp; omega) (oldF _ _ _ (by simp; omega) (oldF _ _ _ htl hf1))))
  clear old oldF
  go_enter Tryz.func39, Tryz.ntmps39
  go_wp2
  refine wp_loop_rounds 1 ?_
  rw [rounds_succ]
  go_wp2
  go_ret
  refine ⟨rfl, ?_⟩
  rfl
end Go.Proofs.YtgognegkcplcpaaGreatDoor

namespace Go.Proofs.YtgognegkcplcpaaGreatDoor
open Go.RowKit Go.Maps Go.Lib
variable {F F' G : Nat → Prop} {R : Nat} {w w' w'' wr : World} {s s' : Src} {p : Ptr} {st : St} {c : Int} {a : Addr} {pt : Part} {v : Value} {m : Rd} {N n : Nat}
abbrev nilS : Value := .slice none 0 0
def Told (G : Nat → Prop) (R : Nat) (w : World) (av : Value) (k : Nat) : Prop := G k ∧ k ≠ R ∧ ((∃ cur, w.heap[k]? = some (.cells cur 49 (0, 0))) ∨ ((∃ cur, w.heap[k]? = some (.cells cur 52 (0, 0))) ∧ av.ownBlock ≠ some k))
def Rest (G : Nat → Prop) (R : Nat) (w : World) (av : Value) (k : Nat) : Prop := G k ∧ ¬ Told G R w av k
def Ans (A : Nat → Prop) (w : World) (v : Value) (l : List Tok) : Prop := ∃ cs, w.ownsRow 0 49 5 v l.length cs ∧ Toks A 0 w nilS l cs ∧ ∀ k, v.ownBlock = some k → A k
theorem not_told {k : Nat} {t : TypeId} {cur : Array Value} {av : Value} (h : w.heap[k]? = some (.cells cur t (0, 0))) (h1 : t ≠ 49) (h2 : t = 52 → av.ownBlock = some k) : ¬ Told G R w av k := by
  rintro ⟨_, _, ⟨c, hc⟩ | ⟨⟨c, hc⟩, hn⟩⟩
  · rw [h] at hc; simp only [Option.some.injEq, Obj.cells.injEq] at hc; exact h1 hc.2.1
  · rw [h] at hc; simp only [Option.some.injEq, Obj.cells.injEq] at hc; exact hn (h2 hc.2.1)
theorem Toks.free {l : List Tok} {cs : List Value} {av : Value} (h : Toks G R w av l cs) (lo : Low G) (hk : ∀ k, k ≠ R → w'.heap[k]? = w.heap[k]?) : Toks (Told G R w av) 0 w' nilS l cs := by
  induction h with
  | nil => exact .nil
  | cons t v l cs ho hf hl ih =>
    refine .cons t v l cs (owns_of ho fun k hv => hk k (hf k hv).2.1) (fun k hv => ?_) ih
    obtain ⟨cur, hc⟩ := owns_blk ho hv
    refine ⟨⟨(hf k hv).1, (hf k hv).2.1, Or.inr ⟨⟨cur, hc⟩, (hf k hv).2.2⟩⟩, ?_, nil_block k⟩
    intro e
    exact lo k (by omega) (hf k hv).1
theorem Rep.release (h : Rep G R w s p st) (lo : Low G) :
    Rep (Rest G R w p.attrs) R (w.setCell ⟨R, 5, none⟩ nilS) s { p with told := nilS } { st with told := [] } ∧ Ans (Told G R w p.attrs) (w.setCell ⟨R, 5, none⟩ nilS) p.told st.told := by
  have hk : ∀ k, k ≠ R → (w.setCell ⟨R, 5, none⟩ nilS).heap[k]? = w.heap[k]? := fun k hk => Below.heap_setCell _ _ _ _ hk
  have hsz : (w.setCell ⟨R, 5, none⟩ nilS).heap.size = w.heap.size := by simp [World.setCell]
  have hb := set_of (i := 5) h.blk nilS
  obtain ⟨cs, h1, h2⟩ := h.own.told
  refine ⟨⟨?_, ⟨h.inR, fun x => x.2.1 rfl⟩, fun k x => by rw [hsz]; exact h.lt k x.1, ?_⟩, cs, owns_of h1 fun k e => hk k (h.own.toldF k e).2, h2.free lo hk, fun k e => ?_⟩
  · rw [hb]; rfl
  · refine ⟨fun i => owns_of (h.own.run i) fun k e => hk k (h.own.runF i k e).2, fun i k e => ?_, h.own.apart, ⟨[], owns_nil _ _ _, .nil⟩, fun k e => absurd e (nil_block k), owns_of h.own.attrs fun k e => hk k (h.own.attrsF k e).2, fun k e => ?_, ?_⟩
    · obtain ⟨cur, hc⟩ := owns_blk (h.own.run i) e
      exact ⟨⟨(h.own.runF i k e).1, not_told hc (by decide) (fun e => absurd e (by decide))⟩, (h.own.runF i k e).2⟩
    · obtain ⟨cur, hc⟩ := owns_blk h.own.attrs e
      exact ⟨⟨(h.own.attrsF k e).1, not_told hc (by decide) (fun _ => e)⟩, (h.own.attrsF k e).2⟩
    · rcases h.own.names with hn | ⟨b, x1, x2, x3, x4⟩
      · exact Or.inl hn
      · refine Or.inr ⟨b, x1, ⟨x2, ?_⟩, x3, map_of x4 (hk b x3)⟩
        obtain ⟨es, cl, hm, _⟩ := x4
        rintro ⟨_, _, ⟨c, hc⟩ | ⟨⟨c, hc⟩, _⟩⟩
        · rw [hm] at hc; cases hc
        · rw [hm] at hc; cases hc
  · obtain ⟨cur, hc⟩ := owns_blk h1 e
    exact ⟨(h.own.toldF k e).1, (h.own.toldF k e).2, Or.inl ⟨cur, hc⟩⟩
theorem PartAt.release (h : PartAt G R w v pt) {av : Value} (hk : ∀ k, k ≠ R → w'.heap[k]? = w.heap[k]?) : PartAt (Rest G R w av) R w' v pt := by
  have bx : ∀ {b x t}, Box G R w b x t → t ≠ 49 → t ≠ 52 → Box (Rest G R w av) R w' b x t := fun h h1 h2 => ⟨(hk _ h.2.2).trans h.1, ⟨h.2.1, not_told h.1 h1 (fun e => absurd e h2)⟩, h.2.2⟩
  cases pt with
  | plain k => exact h
  | word l k => obtain ⟨b1, b2, e, x1, x2⟩ := h; exact ⟨b1, b2, e, bx x1 (by decide) (by decide), bx x2 (by decide) (by decide)⟩
  | name i k => obtain ⟨b1, b2, b3, e, x1, x2, x3⟩ := h; exact ⟨b1, b2, b3, e, bx x1 (by decide) (by decide), bx x2 (by decide) (by decide), bx x3 (by decide) (by decide)⟩
  | ref i k => obtain ⟨b1, b2, b3, e, x1, x2, x3⟩ := h; exact ⟨b1, b2, b3, e, bx x1 (by decide) (by decide), bx x2 (by decide) (by decide), bx x3 (by decide) (by decide)⟩
def Src.zero (no fat : Int) (closed : Bool) : Src := ⟨⟨#[]⟩, 0, 0, false, .nilFunc, no, fat, closed⟩
def Ptr.zero : Ptr := ⟨nilS, fun _ => nilS, nilS, .map none⟩
def St.zero : St := ⟨fun _ => [], fun _ => 0, 0, [], [], 0, []⟩
theorem Own.zero (F : Nat → Prop) (R : Nat) (w : World) : Own F R w Ptr.zero St.zero :=
  ⟨fun _ => owns_nil w 5 1, fun _ k e => absurd e (nil_block k), fun _ _ k _ e => absurd e (nil_block k), ⟨[], owns_nil w 49 5, .nil⟩, fun k e => absurd e (nil_block k), owns_nil w 52 2, fun k e => absurd e (nil_block k), Or.inl ⟨rfl, rfl⟩⟩
structure PR where
  s : Src
  pt : Option Part
  st : St
def Alive (F : Nat → Prop) (R : Nat) (w : World) (r : PR) : Prop :=
  ∃ v p, Rep F R w { r.s with now := v } p r.st ∧ match r.pt with | some pt => PartAt F R w v pt | none => v = .nilFunc
def tells (m : Rd) : PR × List Tok :=
  match m.ret with
  | .more => (⟨m.s, some m.pt, { m.st with told := [] }⟩, m.st.told)
  | .over => (⟨m.s, none, { m.st with told := [] }⟩, m.st.told)
  | .fail no q => (⟨Src.zero no q m.s.closed, none, St.zero⟩, m.st.told)
def AnsEnd (F : Nat → Prop) (R : Nat) (w : World) (x : PR × List Tok) (e : Ending) (w' : World) : Prop :=
  ∃ (v : Value) (A F' : Nat → Prop), e = .returned v ∧ Ans A w' v x.2 ∧ Alive F' R w' x.1 ∧ Frame F w w' ∧ (∀ k, A k → Grow F w w' k ∧ ¬ F' k) ∧ (∀ k, F' k → Grow F w w' k)
theorem Ans.frame {A : Nat → Prop} {l : List Tok} (h : Ans A w v l) (hk : ∀ k, A k → w'.heap[k]? = w.heap[k]?) : Ans A w' v l := by
  obtain ⟨cs, h1, h2, h3⟩ := h
  exact ⟨cs, owns_of h1 fun k e => hk k (h3 k e), h2.frame fun k n xs v ho hv a b c => ⟨hk k a, a, c⟩, h3⟩
theorem ans_end {w1 w4 : World} {s1 : Src} {p1 p' : Ptr} {st1 : St} {x : PR} {v' : Value} (rg1 : RG F R w s1 p1 st1 w1) (lo : Low (Grow F w w1))
    (r4 : RG (Rest (Grow F w w1) R w1 p1.attrs) R (w1.setCell ⟨R, 5, none⟩ nilS) { x.s with now := v' } p' x.st w4)
    (hx : match x.pt with | some pt => PartAt (Grow (Rest (Grow F w w1) R w1 p1.attrs) (w1.setCell ⟨R, 5, none⟩ nilS) w4) R w4 v' pt | none => v' = .nilFunc) :
    AnsEnd F R w (x, st1.told) (.returned p1.told) w4 := by
  have hk : ∀ k, k ≠ R → (w1.setCell ⟨R, 5, none⟩ nilS).heap[k]? = w1.heap[k]? := fun k hk => Below.heap_setCell _ _ _ _ hk
  have hsz : (w1.setCell ⟨R, 5, none⟩ nilS).heap.size = w1.heap.size := by simp [World.setCell]
  have hz := rg1.2.size
  have hz4 := r4.2.size
  obtain ⟨rr, an⟩ := rg1.1.release lo
  refine ⟨p1.told, Told (Grow F w w1) R w1 p1.attrs, Grow (Rest (Grow F w w1) R w1 p1.attrs) (w1.setCell ⟨R, 5, none⟩ nilS) w4, rfl, ?_, ⟨v', p', r4.1, hx⟩, ?_, ?_, ?_⟩
  · refine an.frame fun k hA => r4.2.block k (by rw [hsz]; exact rg1.1.lt k hA.1) (fun x => x.2 hA)
  · refine ⟨r4.2.os.trans rg1.2.os, r4.2.tape.trans rg1.2.tape, r4.2.output.trans rg1.2.output, by omega, fun k hl hf => ?_⟩
    have hkR : k ≠ R := fun e => by
      subst e
      rcases rg1.1.inR with x | x
      · exact hf x
      · omega
    rw [r4.2.block k (by omega) (fun x => x.1.elim hf (fun y => by omega)), hk k hkR]
    exact rg1.2.block k hl hf
  · intro k hA
    refine ⟨hA.1.elim Or.inl (fun y => Or.inr ⟨y.1, by omega⟩), ?_⟩
    rintro (y | y)
    · exact y.2 hA
    · have := rg1.1.lt k hA.1; omega
  · rintro k (y | y)
    · exact y.1.elim Or.inl (fun z => Or.inr ⟨z.1, by omega⟩)
    · exact Or.inr ⟨by omega, y.2⟩
set_option maxHeartbeats 1000000 in
theorem keepRest_ok (h : Rep F R w s p st) (hz : s.rest.size ≤ 1099511627776) : Calls Tryz.prog 38 #[.pointer (some ⟨R, 0, none⟩)] w fun e w' => e = .returned (.tuple #[]) ∧ RF F R w s p st w' := by
  have c0 : w.cell? ⟨R, 0, none⟩ = some (.string s.rest) := h.cell 0 rfl
  have hc := clone_any s.rest w (by omega)
  have H := hide (RF.refl h)
  clear h
  go_enter Tryz.func38, Tryz.ntmps38
  go_wp2_with (go_at_call 66; refine hc.mono ?_; rintro e w1 ⟨rfl, b1⟩; have R1 := hide (H.out.below b1); have d0 : w1.cell? ⟨R, 0, none⟩ = some (.string s.rest) := R1.out.1.cell 0 rfl; have g0 := R1.out.1.free 0)
  go_end0
  exact ⟨rfl, R1.out.set 0 _ rfl⟩
end Go.Proofs.YtgognegkcplcpaaGreatDoor
