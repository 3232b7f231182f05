import Derived.Deep.RegionLaw
import Derived.Test.YtbbocgeapofloaiGreatDoorAq
set_option linter.unusedVariables false
set_option linter.unusedSimpArgs false
namespace Go.Proofs.YtbbocgeapofloaiGreatDoor
open Go.RowKit Go.Maps Go.Lib

variable {X : Nat} {w w' w'' wr : World} {s t : ByteArray} {lv : Value} {x x' : Sc}

theorem fail_err (x : Sc) (e a : Int) (h : x.err = 0) (he : e ≠ 0) : (x.fail e a).err ≠ 0 := by
  unfold Sc.fail; rw [if_pos h]; exact he

/-- What a character adds. -/
theorem char_grow (x : Sc) (s : ByteArray) (bar : Nat) (h : x.err = 0) (hi : x.i ≤ s.size) :
    ((x.char s bar).1.err = 0 → x.i < (x.char s bar).1.i ∧ (x.char s bar).1.i ≤ s.size ∧ (x.char s bar).2.size ≤ (x.char s bar).1.i - x.i) ∧ ((x.char s bar).1.err ≠ 0 → (x.char s bar).2.size = 0 ∧ (x.char s bar).1.i = x.i) := by
  unfold Sc.char
  split
  · rename_i hlt
    split
    · exact ⟨fun e => absurd e (wrong_err x s h), fun _ => ⟨rfl, wrong_i x s⟩⟩
    split
    · split
      · exact ⟨fun e => absurd e (fail_err x _ _ h (by decide)), fun _ => ⟨rfl, fail_i x _ _⟩⟩
      · rename_i hn
        unfold refR at hn ⊢
        by_cases hz : (Ch.refAt s x.i).2 = 0
        · rw [if_pos hz] at hn; simp at hn
        · rw [if_neg hz] at hn ⊢
          have hr := Ch.refAt_spec hz
          refine ⟨fun _ => ?_, fun e => absurd h e⟩
          have := enc_le (Ch.refAt s x.i).1
          have e2 : (⟨(Lib.encodeRune (Ch.refAt s x.i).1).toArray⟩ : ByteArray).size = (Lib.encodeRune (Ch.refAt s x.i).1).length := by show (Lib.encodeRune (Ch.refAt s x.i).1).toArray.size = _; simp
          simp only [e2]
          omega
    · split
      · exact ⟨fun e => absurd e (fail_err x _ _ h (by decide)), fun _ => ⟨rfl, fail_i x _ _⟩⟩
      · rename_i hn
        refine ⟨fun _ => ?_, fun e => absurd h e⟩
        unfold Ch.at2 at hn ⊢
        have hw := Ch.decode_width s x.i hlt
        split
        · simp only [Int.toNat_natCast, ByteArray.size_extract]; omega
        · rename_i hh; rw [if_neg hh] at hn; exact absurd rfl hn
  · exact ⟨fun e => absurd e (wrong_err x s h), fun _ => ⟨rfl, wrong_i x s⟩⟩

structure VI (X : Nat) (w : World) (s : ByteArray) (lv : Value) (q i0 : Nat) (y : Sc × List UInt8) (wr : World) (x : Sc) (t : List UInt8) (f : Nat) : Prop where
  se : SE X w s lv x wr
  le : x.i ≤ s.size
  ge : i0 ≤ x.i
  len : t.length ≤ x.i - i0
  eq : valF s q f x t = y
  fuel : x.err = 0 → s.size + 1 < x.i + f

theorem strV_app (l : List UInt8) (t : ByteArray) : (⟨l.toArray⟩ : ByteArray) ++ t = ⟨(l ++ t.data.toList).toArray⟩ := strV_add l t

set_option maxHeartbeats 4000000 in
set_option maxRecDepth 10000 in
theorem value_sc (h : SAt X w s lv x) (hs : s.size ≤ 1125899906842624) (hi : x.i ≤ s.size) :
    Calls Tryz.prog 61 #[.pointer (some ⟨X, 0, none⟩)] w fun en w' => en = .returned (.string ⟨(x.value s).2.toArray⟩) ∧ SE X w s lv (x.value s).1 w' := by
  have c0 : w.cell? ⟨X, 0, none⟩ = some (.string s) := h.cell 0 rfl
  have c1 : w.cell? ⟨X, 1, none⟩ = some (.int .i64 x.i) := h.cell 1 rfl
  have f1 := h.free 1
  have hlt := h.lt
  have i34 := fun W (b : SAt X W s lv x) => is_sc b 34 (by decide)
  have i39 := fun W (b : SAt X W s lv x) => is_sc b 39 (by decide)
  have H := hide (SE.refl h)
  unfold Sc.value
  by_cases hq : x.is s 34 = true ∨ x.is s 39 = true
  · rw [if_pos hq]
    have hil : x.i < s.size := hq.elim is_lt is_lt
    have he0 : x.err = 0 := by
      rcases hq with hq | hq
      · simp [Sc.is] at hq; exact hq.1
      · simp [Sc.is] at hq; exact hq.1
    have hgt : s[x.i] = s.get! x.i := (Utf8W.get!_of_lt s x.i hil).symm
    have hqlt := UInt8.toNat_lt (s.get! x.i)
    generalize hy : valF s (s.get! x.i).toNat (s.size + 2) { x with i := x.i + 1 } [] = y at *
    generalize (s.get! x.i) = qb at *
    have hwr : IntKind.i64.wrap ((x.i : Int) + 1) = (x.i : Int) + 1 := by rw [IntKind.wrap_i64]; omega
    have hisq := fun W x' (b : SAt X W s lv x') => is_sc b qb.toNat hqlt
    have hchr := fun W x' (b : SAt X W s lv x') => char_sc b hs qb.toNat
    have hgrow := fun x' => char_grow x' s qb.toNat
    have HQ := hide hisq
    have HCH := hide hchr
    have HG := hide hgrow
    have HY := hide hy
    have HE0 := hide he0
    have I1 := hide i34
    have I2 := hide i39
    clear hisq hchr hgrow hy he0 h i34 i39
    cases q1 : x.is s 34
    · have q2 : x.is s 39 = true := hq.resolve_left (by rw [q1]; simp)
      rw [q1] at I1
      rw [q2] at I2
      clear hq q1 q2
      go_enter Tryz.func61, Tryz.ntmps61
      go_wp2_with fail
      refine (I1.out _ H.out.1).mono ?_
      rintro e w1 ⟨rfl, b1⟩
      have R1 := hide (H.out.below hlt b1)
      go_wp2_with fail
      refine (I2.out _ R1.out.1).mono ?_
      rintro e w2 ⟨rfl, b2⟩
      have R2 := hide (R1.out.below hlt b2)
      have k0 : w2.cell? ⟨X, 0, none⟩ = some (.string s) := R2.out.1.cell 0 rfl
      have k1 : w2.cell? ⟨X, 1, none⟩ = some (.int .i64 x.i) := R2.out.1.cell 1 rfl
      have kf := R2.out.1.free 1
      clear I1 I2 b1 b2 R1
      go_wp2_with fail
      go_quiet (fail)
      go_wp2_with fail
      go_loopw [4, 5] (fun tv _ wr => ∃ x' t' f, tv = .string ⟨t'.toArray⟩ ∧ VI X w s lv qb.toNat (x.i + 1) y wr x' t' f) (fun _ _ wr => left X s.size wr)
      case atStart =>
        refine ⟨{ x with i := x.i + 1 }, [], s.size + 2, rfl, ?_, by show x.i + 1 ≤ s.size; omega, Nat.le_refl _, Nat.zero_le _, HY.out, fun _ => by show s.size + 1 < x.i + 1 + (s.size + 2); omega⟩
        exact (R2.out.drewN nq).set (x' := { x with i := x.i + 1 }) 1 (.int .i64 ((x.i : Int) + 1)) (by show _ = scCells s lv { x with i := x.i + 1 }; simp [scCells])
      case round =>
        obtain ⟨x', t', f, rfl, u⟩ := hrel
        have d1 : wr.cell? ⟨X, 1, none⟩ = some (.int .i64 x'.i) := u.se.1.cell 1 rfl
        have d5 : wr.cell? ⟨X, 5, none⟩ = some (.int .i64 x'.err) := u.se.1.cell 5 rfl
        have df := u.se.1.free 1
        have hle := u.le
        have hleft := left_eq u.se.1 s.size
        have hwr2 : IntKind.i64.wrap ((x'.i : Int) + 1) = (x'.i : Int) + 1 := by rw [IntKind.wrap_i64]; omega
        by_cases he : x'.err = 0
        · have e0 : (x'.err == 0) = true := by simpa using he
          have hfu := u.fuel he
          rw [if_pos he] at hleft
          obtain ⟨g, rfl⟩ : ∃ g, f = g + 1 := ⟨f - 1, by omega⟩
          have heq := u.eq
          unfold valF at heq
          have hisc := HQ.out wr x' u.se.1
          cases hb : x'.is s qb.toNat
          · rw [if_pos ⟨he, hb⟩] at heq
            rw [hb] at hisc
            have hg := HG.out x' he hle
            have U := hide u
            have HEQ := hide heq
            have HGR := hide hg
            have HE := hide he
            have hlen := u.len
            have hsz : (⟨t'.toArray⟩ : ByteArray).size = t'.length := by show t'.toArray.size = _; simp
            have hcs : (x'.char s qb.toNat).2.size ≤ s.size := by
              by_cases hce : (x'.char s qb.toNat).1.err = 0
              · have := hg.1 hce; omega
              · have := hg.2 hce; omega
            have hadd := fun w => run_string_add_sum (P := Tryz.prog) w ⟨t'.toArray⟩ (x'.char s qb.toNat).2 (by rw [hsz]; omega)
            simp only [strV_add] at hadd
            clear u heq hg he hb
            go_wp2_with fail
            refine hisc.mono ?_
            rintro e w5 ⟨rfl, b5⟩
            have R5 := hide (U.out.se.below hlt b5)
            go_wp2_with fail
            refine (HCH.out _ x' R5.out.1).mono ?_
            rintro e w6 ⟨rfl, r6⟩
            have R6 := hide (R5.out.on r6)
            clear r6
            go_wp2
            go_roundw
            case rel =>
              by_cases hce : (x'.char s qb.toNat).1.err = 0
              · have hx := HGR.out.1 hce
                have := U.out.ge
                refine ⟨_, _, g, rfl, R6.out, hx.2.1, by omega, ?_, HEQ.out, fun _ => by omega⟩
                simp only [List.length_append]
                have e9 : (x'.char s qb.toNat).2.data.toList.length = (x'.char s qb.toNat).2.size := by simp
                omega
              · have hx := HGR.out.2 hce
                have := U.out.ge
                refine ⟨_, _, g, rfl, R6.out, by omega, by omega, ?_, HEQ.out, fun e => absurd e hce⟩
                simp only [List.length_append]
                have e9 : (x'.char s qb.toNat).2.data.toList.length = (x'.char s qb.toNat).2.size := by simp
                omega
            case measure =>
              rw [left_eq R6.out.1 s.size, hleft]
              by_cases hce : (x'.char s qb.toNat).1.err = 0
              · rw [if_pos hce]
                have hx := HGR.out.1 hce
                omega
              · rw [if_neg hce]
                omega
          · rw [if_neg (by rw [hb]; simp)] at heq
            rw [hb] at hisc
            subst heq
            have U := hide u
            clear u he hb
            go_wp2_with fail
            refine hisc.mono ?_
            rintro e w5 ⟨rfl, b5⟩
            have R5 := hide (U.out.se.below hlt b5)
            have m1 : w5.cell? ⟨X, 1, none⟩ = some (.int .i64 x'.i) := R5.out.1.cell 1 rfl
            have mf := R5.out.1.free 1
            go_wp2
            go_ret
            exact ⟨rfl, R5.out.set (x' := { x' with i := x'.i + 1 }) 1 (.int .i64 ((x'.i : Int) + 1)) (by show _ = scCells s lv { x' with i := x'.i + 1 }; simp [scCells])⟩
        · have e0 : (x'.err == 0) = false := by simpa using he
          have hy2 : y = (x', t') := by
            rw [← u.eq]
            cases f with
            | zero => rfl
            | succ f => unfold valF; rw [if_neg (by simp [he])]
          subst hy2
          have U := hide u
          clear u he
          go_wp2
          go_ret
          exact ⟨rfl, U.out.se.set (x' := { x' with i := x'.i + 1 }) 1 (.int .i64 ((x'.i : Int) + 1)) (by show _ = scCells s lv { x' with i := x'.i + 1 }; simp [scCells])⟩
    · rw [q1] at I1
      clear hq q1 I2
      go_enter Tryz.func61, Tryz.ntmps61
      go_wp2_with fail
      refine (I1.out _ H.out.1).mono ?_
      rintro e w2 ⟨rfl, b1⟩
      have R2 := hide (H.out.below hlt b1)
      have k0 : w2.cell? ⟨X, 0, none⟩ = some (.string s) := R2.out.1.cell 0 rfl
      have k1 : w2.cell? ⟨X, 1, none⟩ = some (.int .i64 x.i) := R2.out.1.cell 1 rfl
      have kf := R2.out.1.free 1
      clear I1 b1
      go_wp2_with fail
      go_quiet (fail)
      go_wp2_with fail
      go_loopw [4, 5] (fun tv _ wr => ∃ x' t' f, tv = .string ⟨t'.toArray⟩ ∧ VI X w s lv qb.toNat (x.i + 1) y wr x' t' f) (fun _ _ wr => left X s.size wr)
      case atStart =>
        refine ⟨{ x with i := x.i + 1 }, [], s.size + 2, rfl, ?_, by show x.i + 1 ≤ s.size; omega, Nat.le_refl _, Nat.zero_le _, HY.out, fun _ => by show s.size + 1 < x.i + 1 + (s.size + 2); omega⟩
        exact (R2.out.drewN nq).set (x' := { x with i := x.i + 1 }) 1 (.int .i64 ((x.i : Int) + 1)) (by show _ = scCells s lv { x with i := x.i + 1 }; simp [scCells])
      case round =>
        obtain ⟨x', t', f, rfl, u⟩ := hrel
        have d1 : wr.cell? ⟨X, 1, none⟩ = some (.int .i64 x'.i) := u.se.1.cell 1 rfl
        have d5 : wr.cell? ⟨X, 5, none⟩ = some (.int .i64 x'.err) := u.se.1.cell 5 rfl
        have df := u.se.1.free 1
        have hle := u.le
        have hleft := left_eq u.se.1 s.size
        have hwr2 : IntKind.i64.wrap ((x'.i : Int) + 1) = (x'.i : Int) + 1 := by rw [IntKind.wrap_i64]; omega
        by_cases he : x'.err = 0
        · have e0 : (x'.err == 0) = true := by simpa using he
          have hfu := u.fuel he
          rw [if_pos he] at hleft
          obtain ⟨g, rfl⟩ : ∃ g, f = g + 1 := ⟨f - 1, by omega⟩
          have heq := u.eq
          unfold valF at heq
          have hisc := HQ.out wr x' u.se.1
          cases hb : x'.is s qb.toNat
          · rw [if_pos ⟨he, hb⟩] at heq
            rw [hb] at hisc
            have hg := HG.out x' he hle
            have U := hide u
            have HEQ := hide heq
            have HGR := hide hg
            have HE := hide he
            have hlen := u.len
            have hsz : (⟨t'.toArray⟩ : ByteArray).size = t'.length := by show t'.toArray.size = _; simp
            have hcs : (x'.char s qb.toNat).2.size ≤ s.size := by
              by_cases hce : (x'.char s qb.toNat).1.err = 0
              · have := hg.1 hce; omega
              · have := hg.2 hce; omega
            have hadd := fun w => run_string_add_sum (P := Tryz.prog) w ⟨t'.toArray⟩ (x'.char s qb.toNat).2 (by rw [hsz]; omega)
            simp only [strV_add] at hadd
            clear u heq hg he hb
            go_wp2_with fail
            refine hisc.mono ?_
            rintro e w5 ⟨rfl, b5⟩
            have R5 := hide (U.out.se.below hlt b5)
            go_wp2_with fail
            refine (HCH.out _ x' R5.out.1).mono ?_
            rintro e w6 ⟨rfl, r6⟩
            have R6 := hide (R5.out.on r6)
            clear r6
            go_wp2
            go_roundw
            case rel =>
              by_cases hce : (x'.char s qb.toNat).1.err = 0
              · have hx := HGR.out.1 hce
                have := U.out.ge
                refine ⟨_, _, g, rfl, R6.out, hx.2.1, by omega, ?_, HEQ.out, fun _ => by omega⟩
                simp only [List.length_append]
                have e9 : (x'.char s qb.toNat).2.data.toList.length = (x'.char s qb.toNat).2.size := by simp
                omega
              · have hx := HGR.out.2 hce
                have := U.out.ge
                refine ⟨_, _, g, rfl, R6.out, by omega, by omega, ?_, HEQ.out, fun e => absurd e hce⟩
                simp only [List.length_append]
                have e9 : (x'.char s qb.toNat).2.data.toList.length = (x'.char s qb.toNat).2.size := by simp
                omega
            case measure =>
              rw [left_eq R6.out.1 s.size, hleft]
              by_cases hce : (x'.char s qb.toNat).1.err = 0
              · rw [if_pos hce]
                have hx := HGR.out.1 hce
                omega
              · rw [if_neg hce]
                omega
          · rw [if_neg (by rw [hb]; simp)] at heq
            rw [hb] at hisc
            subst heq
            have U := hide u
            clear u he hb
            go_wp2_with fail
            refine hisc.mono ?_
            rintro e w5 ⟨rfl, b5⟩
            have R5 := hide (U.out.se.below hlt b5)
            have m1 : w5.cell? ⟨X, 1, none⟩ = some (.int .i64 x'.i) := R5.out.1.cell 1 rfl
            have mf := R5.out.1.free 1
            go_wp2
            go_ret
            exact ⟨rfl, R5.out.set (x' := { x' with i := x'.i + 1 }) 1 (.int .i64 ((x'.i : Int) + 1)) (by show _ = scCells s lv { x' with i := x'.i + 1 }; simp [scCells])⟩
        · have e0 : (x'.err == 0) = false := by simpa using he
          have hy2 : y = (x', t') := by
            rw [← u.eq]
            cases f with
            | zero => rfl
            | succ f => unfold valF; rw [if_neg (by simp [he])]
          subst hy2
          have U := hide u
          clear u he
          go_wp2
          go_ret
          exact ⟨rfl, U.out.se.set (x' := { x' with i := x'.i + 1 }) 1 (.int .i64 ((x'.i : Int) + 1)) (by show _ = scCells s lv { x' with i := x'.i + 1 }; simp [scCells])⟩
  · rw [if_neg hq]
    have q1 : x.is s 34 = false := by simpa using (not_or.1 hq).1
    have q2 : x.is s 39 = false := by simpa using (not_or.1 hq).2
    rw [q1] at i34
    rw [q2] at i39
    have hwr := fun W (b : SE X w s lv x W) => wrong_sc b.1 hs
    have HW := hide hwr
    have I1 := hide i34
    have I2 := hide i39
    clear h hq q1 q2 hwr i34 i39
    go_enter Tryz.func61, Tryz.ntmps61
    go_wp2_with fail
    refine (I1.out _ H.out.1).mono ?_
    rintro e w1 ⟨rfl, b1⟩
    have R1 := hide (H.out.below hlt b1)
    go_wp2_with fail
    refine (I2.out _ R1.out.1).mono ?_
    rintro e w2 ⟨rfl, b2⟩
    have R2 := hide (R1.out.below hlt b2)
    go_wp2_with fail
    refine (HW.out _ R2.out).mono ?_
    rintro e w3 ⟨rfl, r3⟩
    go_wp2
    go_ret
    exact ⟨rfl, R2.out.on r3⟩
end Go.Proofs.YtbbocgeapofloaiGreatDoor
namespace Go.Proofs.YtbbocgeapofloaiGreatDoor
open Go.RowKit Go.Maps Go.Lib

variable {X : Nat} {w w' w'' wr : World} {s t : ByteArray} {lv : Value} {x x' : Sc}

theorem info56 : (Tryz.prog.info? 68).map (fun i => (i.zero, i.size, i.bytes)) = some (some (.agg #[.int .i64 0, .string ⟨#[]⟩, .slice none 0 0, .string ⟨#[]⟩, .int .i64 0]), 5, 72) := by kernel_rfl
theorem info75 : (Tryz.prog.info? 114).map (fun i => (i.zero, i.size, i.bytes)) = some (some (.agg #[.string ⟨#[]⟩, .string ⟨#[]⟩]), 2, 32) := by kernel_rfl
theorem rtok_news (w : World) (t : Tok) (v : Value) : ∀ j u, (tokCells t v)[j]? = some u → (w.alloc (.cells (tokCells t v).toArray 68)).cell? ((⟨w.heap.size, 0, none⟩ : Addr).add j) = some u := by
  intro j u hu
  rw [Addr.add_lit, Nat.zero_add, cell_of (heap_alloc_new w _) (v := u)]
  rw [List.getElem?_toArray]; exact hu

set_option maxHeartbeats 4000000 in
set_option maxRecDepth 100000 in
/-- A tag, where no text waits. -/
theorem told_tag {cs : List Value} (h : SAt X w s lv x) (hown : w.ownsRow 0 68 5 lv x.l.length cs) (hX : lv.ownBlock ≠ some X) (t : Tok) (ai : Option Addr) (an ac : Nat) (he : x.err = 0) (hm : x.more = []) (hn : x.l.length ≤ 1099511627776) :
    Calls Tryz.prog 36 #[.pointer (some ⟨X, 0, none⟩), .agg #[.int .i64 t.kind, strV t.name, .slice ai an ac, strV t.text, .int .i64 t.at_]] w fun en w' => en = .returned (.tuple #[]) ∧ ∃ v' w1 o1 o2, ((w.alloc o1).drew.alloc o2).grownBy w1 lv.ownBlock ∧ w1.ownsRow 0 68 5 v' (x.l.length + 1) (cs ++ tokCells t (.slice ai an ac)) ∧ (v'.ownBlock = lv.ownBlock ∨ v'.ownBlock = some (w.heap.size + 1 + 1)) ∧ w' = w1.setCell ⟨X, 2, none⟩ v' := by
  obtain ⟨ti, tc, rfl⟩ := slice_len hown
  obtain ⟨i0, hi, hz0, hz1, hz2⟩ := info_parts info56
  have c2 : w.cell? ⟨X, 2, none⟩ = some (.slice ti x.l.length tc) := h.cell 2 rfl
  have c3 : w.cell? ⟨X, 3, none⟩ = some (.string ⟨x.more.toArray⟩) := h.cell 3 rfl
  have c5 : w.cell? ⟨X, 5, none⟩ = some (.int .i64 x.err) := h.cell 5 rfl
  have hlt := h.lt
  have e0 : (x.err != 0) = false := by simpa using he
  have em : x.more.isEmpty = true := by rw [hm]; rfl
  have HO := hide hown
  have HA := hide h
  clear hown h he hm
  generalize x.l.length = n at *
  have d2 : (w.alloc (.cells #[.int .i64 t.kind, strV t.name, .slice ai an ac, strV t.text, .int .i64 t.at_] 68)).cell? ⟨X, 2, none⟩ = some (.slice ti n tc) := cell_alloc _ c2
  have d3 : (w.alloc (.cells #[.int .i64 t.kind, strV t.name, .slice ai an ac, strV t.text, .int .i64 t.at_] 68)).cell? ⟨X, 3, none⟩ = some (.string ⟨x.more.toArray⟩) := cell_alloc _ c3
  have d5 : (w.alloc (.cells #[.int .i64 t.kind, strV t.name, .slice ai an ac, strV t.text, .int .i64 t.at_] 68)).cell? ⟨X, 5, none⟩ = some (.int .i64 x.err) := cell_alloc _ c5
  go_enter Tryz.func36, Tryz.ntmps36
  go_wp2_with fail
  have hnews : ∀ j u, (tokCells t (.slice ai an ac))[j]? = some u → ((w.alloc (.cells #[.int .i64 t.kind, strV t.name, .slice ai an ac, strV t.text, .int .i64 t.at_] 68)).drew.alloc (.cells (tokCells t (.slice ai an ac)).toArray 68)).cell? ((⟨w.heap.size + 1, 0, none⟩ : Addr).add j) = some u := by
    have h9 := rtok_news (w.alloc (.cells #[.int .i64 t.kind, strV t.name, .slice ai an ac, strV t.text, .int .i64 t.at_] 68)).drew t (.slice ai an ac)
    have e9 : (w.alloc (.cells #[.int .i64 t.kind, strV t.name, .slice ai an ac, strV t.text, .int .i64 t.at_] 68)).drew.heap.size = w.heap.size + 1 := by simp [World.drew]
    rw [e9] at h9
    exact h9
  have HNW := hide hnews
  clear hnews
  go_region_law
    (first | (
      refine step_own_at rfl (.tmp 39) (.tmp 41) 26 rfl 68 i0 _ 5 72 Tryz.underlying26 hi hz0 hz1 hz2 rfl (by decide) (.slice ti n tc) n cs (by simp [Act.eval, Act.put]) ((HO.out.alloc _).drew.alloc _) ⟨w.heap.size + 1, 0, none⟩ 1 1 (tokCells t (.slice ai an ac)) (by simp [Act.eval, Act.put]) rfl HNW.out (tok_one _ _ rfl) (by unfold maxLen; omega) (by omega) ?_
      intro v' w1 ho hg hat
      obtain ⟨ao', cap', rfl⟩ := slice_len ho
      have hb1 : w1.heap[X]? = some (.cells (scCells s (.slice ti n tc) x) 45 (0, 0)) := by
        rw [hg.block X (by simp; omega) (fun e => hX e.symm)]
        exact (Below.heap_alloc _ _ X (by simp; omega)).trans ((Below.heap_alloc w _ X hlt).trans HA.out)
      have g2 := cell_of hb1 (i := 2) rfl
      have gf := free_of (i := 2) hb1
      have HOW := hide ho
      have HG := hide hg
      have HAT := hide hat
      clear ho hg hat hb1))
  all_goals
    go_wp2
    go_end0
    exact ⟨rfl, _, _, _, _, HG.out, HOW.out, by simpa using HAT.out, rfl⟩
end Go.Proofs.YtbbocgeapofloaiGreatDoor
