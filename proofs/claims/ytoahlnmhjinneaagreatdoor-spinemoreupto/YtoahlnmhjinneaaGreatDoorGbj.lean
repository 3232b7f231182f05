import Derived.Test.YtoahlnmhjinneaaGreatDoorGbi
set_option linter.unusedVariables false
set_option linter.unusedSimpArgs false
set_option linter.unusedSimpArgs false
set_option linter.unusedVariables false
namespace Go.Proofs.YtoahlnmhjinneaaGreatDoor
open Go.RowKit Go.Maps Go.Lib
variable {w w' w1 W wr : World} {v u vq va vt vr vm : Value} {qs more r : List L} {b1 b2 : Brs} {X1 X2 n : Nat}
theorem imp_b {p q : Bool} (h : p = true → q = true) : p = false ∨ (p = true ∧ q = true) := by
  cases p
  · exact Or.inl rfl
  · exact Or.inr ⟨rfl, h rfl⟩
theorem LeS.live {s s' : Sta} (h : LeS s s') : decide (0 < s.due.length) = true → decide (0 < s'.due.length) = true := by
  intro h1
  have h2 : 0 < s.due.length := by simpa using h1
  have h3 := h.due _ (List.getElem_mem h2)
  have := List.length_pos_of_mem h3
  simpa using this
theorem LL.round {ri : Option Addr} {rc : Nat} (hT : TabB W.heap.size W) (hr : StR W (.slice ri r.length rc) r) (hrk : ∀ k, (Value.slice ri r.length rc).ownBlock = some k → k < W.heap.size) (hle : ∀ row, LeS (walkS b1 row) (walkS b2 row)) (hl : r.length ≤ 1048576) (hn : n ≤ r.length) (M : LL W b1 b2 X1 X2 n wr) :
    ∃ p1 q1 p2 q2 p3 q3 p4 q4 : Bool, ((p1 = false ∨ (p1 = true ∧ q1 = true)) ∧ (p2 = false ∨ (p2 = true ∧ q2 = true)) ∧ (p3 = false ∨ (p3 = true ∧ q3 = true)) ∧ (p4 = false ∨ (p4 = true ∧ q4 = true))) ∧ Calls Tryz.prog 11 #[.pointer (some ⟨X1, 0, none⟩), .slice ri n rc] wr fun e w1 => ∃ m1 : Nat, e = .returned (.int .i64 (m1 : Nat)) ∧ Hid (Calls Tryz.prog 11 #[.pointer (some ⟨X2, 0, none⟩), .slice ri n rc] w1 fun e w2 => ∃ m2 : Nat, e = .returned (.int .i64 (m2 : Nat)) ∧
      Hid (Calls Tryz.prog 12 #[.pointer (some ⟨X1, 0, none⟩), .int .i64 (m1 : Nat)] w2 fun e w3 => e = .returned (.tuple #[.bool p1, .bool p2]) ∧ Hid (Calls Tryz.prog 12 #[.pointer (some ⟨X2, 0, none⟩), .int .i64 (m2 : Nat)] w3 fun e w4 => e = .returned (.tuple #[.bool q1, .bool q2]) ∧
        Hid (Calls Tryz.prog 13 #[.pointer (some ⟨X1, 0, none⟩), .int .i64 (m1 : Nat)] w4 fun e w5 => e = .returned (.bool p3) ∧ Hid (Calls Tryz.prog 13 #[.pointer (some ⟨X2, 0, none⟩), .int .i64 (m2 : Nat)] w5 fun e w6 => e = .returned (.bool q3) ∧
          Hid (Calls Tryz.prog 14 #[.pointer (some ⟨X1, 0, none⟩), .int .i64 (m1 : Nat)] w6 fun e w7 => e = .returned (.bool p4) ∧ Hid (Calls Tryz.prog 14 #[.pointer (some ⟨X2, 0, none⟩), .int .i64 (m2 : Nat)] w7 fun e w8 => e = .returned (.bool q4) ∧ Hid (LL W b1 b2 X1 X2 (n + 1) w8)))))))) := by
  obtain ⟨S1, S2, F1, F2, i1, i2, hap, ⟨l1, l2⟩, hbl⟩ := M
  have hnn : n * (n + 1) ≤ 1048576 * 1048577 := Nat.mul_le_mul (by omega) (by omega)
  have htl : (r.take n).length = n := by rw [List.length_take]; omega
  have htt : (r.take n).take n = r.take n := by rw [List.take_take, Nat.min_self]
  have hs := (hr.take hn).below hbl
  have hk : ∀ k, (Value.slice ri n rc).ownBlock = some k → k < W.heap.size := fun k e => hrk k (by cases ri with | none => cases e | some a => exact e)
  obtain ⟨y1, y2, y3, y4⟩ := hle (r.take n)
  have y0 := (hle (r.take n)).live
  refine ⟨_, _, _, _, _, _, _, _, ⟨imp_b y2, imp_b y3, imp_b y4, imp_b y0⟩, (walked_ok i1 (hT.on hbl) hbl.size (by omega) hs (fun k e h => by have := hk k e; have := i1.low k h; omega)).mono ?_⟩
  rintro e w1 ⟨m1, rfl, S1', e1, hl1, F1', j1, f1, n1⟩
  rw [htl, htt] at e1
  rw [htl] at hl1
  have hb1 := hbl.trans (f1.up i1.low hbl.size)
  have i2' := i2.fr f1 fun k h2 h1 => hap k h1 h2
  have hap1 : ∀ k, F1' k → ¬ F2 k := fun k h1 h2 => by
    rcases n1 k h1 with h | h | h
    · exact hap k h h2
    · exact h
    · have := i2.lt h2
      omega
  refine ⟨m1, rfl, hide ((walked_ok i2' (hT.on hb1) hb1.size (by omega) ((hr.take hn).below hb1) (fun k e h => by have := hk k e; have := i2.low k h; omega)).mono ?_)⟩
  rintro e w2 ⟨m2, rfl, S2', e2, hl2, F2', j2, f2, n2⟩
  rw [htl, htt] at e2
  rw [htl] at hl2
  have hb2 := hb1.trans (f2.up i2.low hb1.size)
  have j1' := j1.fr f2 hap1
  have hap2 : ∀ k, F1' k → ¬ F2' k := fun k h1 h2 => by
    rcases n2 k h2 with h | h | h
    · exact hap1 k h1 h
    · exact h
    · have := j1.lt h1
      omega
  have e3 : (n + 1) * (n + 1 + 1) = n * (n + 1) + 2 * (n + 1) := by rw [← Nat.mul_comm (n + 1 + 1), Nat.add_mul n 2]
  refine ⟨m2, rfl, hide ((j1'.keep e1).mono ?_)⟩
  rintro e w3 ⟨rfl, m3, rfl⟩
  refine ⟨rfl, hide (((j2.drewN m3).keep e2).mono ?_)⟩
  rintro e w4 ⟨rfl, m4, rfl⟩
  refine ⟨rfl, hide ((((j1'.drewN m3).drewN m4).text e1).mono ?_)⟩
  rintro e w5 ⟨rfl, rfl⟩
  refine ⟨rfl, hide ((((j2.drewN m3).drewN m4).text e2).mono ?_)⟩
  rintro e w6 ⟨rfl, rfl⟩
  refine ⟨rfl, hide ((((j1'.drewN m3).drewN m4).live e1).mono ?_)⟩
  rintro e w7 ⟨rfl, rfl⟩
  refine ⟨rfl, hide ((((j2.drewN m3).drewN m4).live e2).mono ?_)⟩
  rintro e w8 ⟨rfl, rfl⟩
  exact ⟨rfl, hide ⟨S1', S2', F1', F2', (j1'.drewN m3).drewN m4, (j2.drewN m3).drewN m4, hap2, ⟨by omega, by omega⟩, belowN (belowN hb2 m3) m4⟩⟩
end Go.Proofs.YtoahlnmhjinneaaGreatDoor

set_option linter.unusedSimpArgs false
set_option linter.unusedVariables false
namespace Go.Proofs.YtoahlnmhjinneaaGreatDoor
open Go.RowKit Go.Maps Go.Lib
variable {w w' w1 W wr : World} {v u vq va vt vr vm : Value} {qs more r : List L} {b1 b2 : Brs} {X1 X2 n : Nat}
set_option maxHeartbeats 16000000 in
set_option maxRecDepth 100000 in
theorem spineMore_bad {y : Nat × Nat × Nat} (hy : needed 0 (qs ++ more) = .error y) (hT : TabB W.heap.size W) (hq : StR W vq qs) (hm : StR W vm more) (hr : StR W vr r) (hqk : ∀ k, vq.ownBlock = some k → k < W.heap.size) (hl : qs.length + more.length + r.length ≤ 1048576) :
    Calls Tryz.prog 3 #[vq, vm, vr] W fun e w' => e = .returned (.bool true) ∧ Below W.heap.size W w' := by
  have H1 := hide (law_head (r := r) (vr := vr) hq hm (by omega) hqk)
  have HB := hide (fun va vt w (M : LM W qs more r vq va vt vr w) => M.bad hT (by omega) hy)
  have hy1 : (((y.1 : Nat) : Int) != 0) = true := by simpa using needed_ne _ 0 hy
  have hy3 : (((y.1 : Nat) : Int) != ((y.1 : Nat) : Int)) = false := by simp
  obtain ⟨qi, qc, rfl, -⟩ := id hq
  obtain ⟨mi, mc, rfl, -⟩ := id hm
  obtain ⟨ri, rc, rfl, -⟩ := id hr
  have HM := hide (num_ok y.1)
  clear hq hm hr hqk hl hT hy
  generalize LM W qs more r (.slice qi qs.length qc) = MM at *
  generalize y.1 = y1 at *
  generalize qs.length = ql at *
  generalize more.length = ml at *
  generalize r.length = rl at *
  go_enter Tryz.func3, Tryz.ntmps3
  go_wp2_with (first
    | (go_at_call 4; refine H1.out.mono ?_; rintro e w1 ⟨a, n, c, a2, n2, c2, w2, rfl, hr2, H2⟩; clear H1)
    | (at_builtin; refine Lib.wpList_append_run _ rfl _ _ _ _ rfl _ _ rfl rfl _ _ hr2 ?_)
    | (go_at_call 4; refine H2.out.mono ?_; rintro e w3 ⟨a3, n3, c3, a4, n4, c4, w4, rfl, hr4, H3⟩; have H4 := hide (HB.out _ _ _ H3.out); clear H2 H3 HB)
    | (at_builtin; refine Lib.wpList_append_run _ rfl _ _ _ _ rfl _ _ rfl rfl _ _ hr4 ?_)
    | (go_at_call 5; refine H4.out.mono ?_; rintro e w5 ⟨⟨s5, x5, y5, z5, rfl⟩, H5⟩; clear H4)
    | (go_at_call 5; refine H5.out.mono ?_; rintro e w6 ⟨⟨y6, z6, rfl⟩, H6⟩; clear H5)
    | (go_at_call 6; refine H6.out.mono ?_; rintro e w7 ⟨⟨y7, z7, rfl⟩, H7⟩; clear H6)
    | (go_at_call 6; refine H7.out.mono ?_; rintro e w8 ⟨⟨y8, z8, rfl⟩, H8⟩; clear H7)
    | (go_at_call 7; refine H8.out.mono ?_; rintro e w9 ⟨⟨y9, z9, rfl⟩, H9⟩; clear H8)
    | (go_at_call 8; refine (HM.out _).mono ?_; rintro e w0 ⟨rfl, hw⟩; have hw' := hw.symm; clear hw HM; subst hw')
    | (go_at_call 9; refine H9.out.mono ?_; rintro e w10 ⟨rfl, H10⟩; clear H9)
    | (go_at_call 10; refine H10.out.mono ?_; rintro e w11 ⟨rfl, H11⟩; clear H10))
  first | exact ⟨rfl, H11⟩ | (go_ret; exact ⟨rfl, H11⟩)
end Go.Proofs.YtoahlnmhjinneaaGreatDoor

set_option linter.unusedSimpArgs false
set_option linter.unusedVariables false
namespace Go.Proofs.YtoahlnmhjinneaaGreatDoor
open Go.RowKit Go.Maps Go.Lib
variable {w w' w1 W wr : World} {v u vq va vt vr vm : Value} {qs more r : List L} {b1 b2 : Brs} {X1 X2 n : Nat}
set_option maxHeartbeats 32000000 in
set_option maxRecDepth 100000 in
theorem spineMore_good {r0 : List Np} (hy : needed 0 (qs ++ more) = .ok r0) (hT : TabB W.heap.size W) (hq : StR W vq qs) (hm : StR W vm more) (hr : StR W vr r) (hqk : ∀ k, vq.ownBlock = some k → k < W.heap.size) (hrk : ∀ k, vr.ownBlock = some k → k < W.heap.size) (hl : qs.length + more.length + r.length ≤ 1048576) :
    Calls Tryz.prog 3 #[vq, vm, vr] W fun e w' => e = .returned (.bool true) ∧ Below W.heap.size W w' := by
  have H1 := hide (law_head (r := r) (vr := vr) hq hm (by omega) hqk)
  have HB := hide (fun va vt w (M : LM W qs more r vq va vt vr w) => M.good (by omega) hy)
  obtain ⟨qi, qc, rfl, -⟩ := id hq
  obtain ⟨mi, mc, rfl, -⟩ := id hm
  obtain ⟨ri, rc, rfl, ⟨hrl, hrc⟩, -⟩ := id hr
  have HR := hide (fun b1 b2 X1 X2 n wr (hle : ∀ row, LeS (walkS b1 row) (walkS b2 row)) (hn : n ≤ r.length) (M : LL W b1 b2 X1 X2 n wr) => M.round hT hr hrk hle (by omega) hn)
  have HE : Hid (∀ b1 b2 X1 X2 n wr, LL W b1 b2 X1 X2 n wr → Calls Tryz.prog 10 #[] wr fun e w' => e = .returned (.bool true) ∧ Below W.heap.size W w') := hide fun b1 b2 X1 X2 n wr M => by
    obtain ⟨_, _, _, _, _, _, _, _, hbl⟩ := M
    refine (alive_ok (hT.on hbl)).mono ?_
    rintro e w11 ⟨h, hb⟩
    exact ⟨h, bon hbl hb⟩
  have HM := hide (num_ok 0)
  have hl1 : r.length ≤ 1048576 := by omega
  clear hq hm hr hqk hrk hl hT hy hrl
  generalize LM W qs more r (.slice qi qs.length qc) = MM at *
  generalize LL W = NN at *
  generalize qs.length = ql at *
  generalize more.length = ml at *
  generalize r.length = rl at *
  go_enter Tryz.func3, Tryz.ntmps3
  go_wp2_with (first
    | (go_at_call 4; refine H1.out.mono ?_; rintro e w1 ⟨a, n, c, a2, n2, c2, w2, rfl, hr2, H2⟩; clear H1)
    | (at_builtin; refine Lib.wpList_append_run _ rfl _ _ _ _ rfl _ _ rfl rfl _ _ hr2 ?_)
    | (go_at_call 4; refine H2.out.mono ?_; rintro e w3 ⟨a3, n3, c3, a4, n4, c4, w4, rfl, hr4, H3⟩; obtain ⟨b1, b2, hle, h4⟩ := HB.out _ _ _ H3.out; have HL := hide hle; have H4 := hide h4; clear H2 H3 HB hle h4)
    | (at_builtin; refine Lib.wpList_append_run _ rfl _ _ _ _ rfl _ _ rfl rfl _ _ hr4 ?_)
    | (go_at_call 5; refine H4.out.mono ?_; rintro e w5 ⟨X1, rfl, H5⟩; clear H4)
    | (go_at_call 5; refine H5.out.mono ?_; rintro e w6 ⟨X2, rfl, H6⟩; clear H5)
    | (go_at_call 6; refine H6.out.mono ?_; rintro e w7 ⟨a7, n7, c7, rfl, H7⟩; clear H6)
    | (go_at_call 6; refine H7.out.mono ?_; rintro e w8 ⟨a8, n8, c8, rfl, H8⟩; clear H7)
    | (go_at_call 7; refine H8.out.mono ?_; rintro e w9 ⟨⟨a9, n9, c9, rfl⟩, H9⟩; clear H8)
    | (go_at_call 8; refine (HM.out _).mono ?_; rintro e w0 ⟨rfl, hw⟩; have hw' := hw.symm; clear hw; subst hw')
    | (go_at_call 9; refine H9.out.mono ?_; rintro e w10 ⟨rfl, H10⟩; clear H9))
  go_loopw [30] (fun nv wr => ∃ n : Nat, nv = .int .i64 n ∧ n ≤ rl + 1 ∧ NN b1 b2 X1 X2 n wr) (fun nv _ => rl + 1 - (RowKit.intOf nv).toNat)
  case atStart => exact ⟨0, rfl, Nat.zero_le _, H10.out⟩
  case round =>
    rename World => WO
    obtain ⟨n, rfl, hn, hM⟩ := hrel
    clear H10 HM
    by_cases hlt : n ≤ rl
    · obtain ⟨p1, q1, p2, q2, p3, q3, p4, q4, ⟨k1, k2, k3, k4⟩, ha⟩ := HR.out _ _ _ _ _ _ HL.out hlt hM
      have HA := hide ha
      have hdec : decide ((n : Int) ≤ rl) = true := by simp; omega
      have hn1 : (n : Int) ≤ (rc : Int) := by omega
      have hn0 : (0 : Int) ≤ (n : Int) := by omega
      clear HR HE HL hM ha
      rcases k1 with rfl | ⟨rfl, rfl⟩ <;> rcases k2 with rfl | ⟨rfl, rfl⟩ <;> rcases k3 with rfl | ⟨rfl, rfl⟩ <;> rcases k4 with rfl | ⟨rfl, rfl⟩ <;>
      (go_wp2_with (first
        | (go_at_call 11; refine HA.out.mono ?_; rintro e w1 ⟨m1, rfl, HA1⟩; clear HA)
        | (go_at_call 11; refine HA1.out.mono ?_; rintro e w2 ⟨m2, rfl, HA2⟩; clear HA1)
        | (go_at_call 12; refine HA2.out.mono ?_; rintro e w3 ⟨rfl, HA3⟩; clear HA2)
        | (go_at_call 12; refine HA3.out.mono ?_; rintro e w4 ⟨rfl, HA4⟩; clear HA3)
        | (go_at_call 13; refine HA4.out.mono ?_; rintro e w5 ⟨rfl, HA5⟩; clear HA4)
        | (go_at_call 13; refine HA5.out.mono ?_; rintro e w6 ⟨rfl, HA6⟩; clear HA5)
        | (go_at_call 14; refine HA6.out.mono ?_; rintro e w7 ⟨rfl, HA7⟩; clear HA6)
        | (go_at_call 14; refine HA7.out.mono ?_; rintro e w8 ⟨rfl, HA8⟩; clear HA7))
       exact ⟨⟨n + 1, by simp, by omega, HA8.out⟩, by simp only [RowKit.intOf]; omega⟩)
    · have HA := hide (HE.out _ _ _ _ _ _ hM)
      have hdec : decide ((n : Int) ≤ rl) = false := by simp; omega
      clear HR HE HL hM
      go_wp2_with (go_at_call 10; refine HA.out.mono ?_; rintro e w11 ⟨rfl, H11⟩; clear HA)
      first | exact ⟨rfl, H11⟩ | (go_ret; exact ⟨rfl, H11⟩)
theorem spineMore_ok (hT : TabB W.heap.size W) (hq : StR W vq qs) (hm : StR W vm more) (hr : StR W vr r) (hqk : ∀ k, vq.ownBlock = some k → k < W.heap.size) (hrk : ∀ k, vr.ownBlock = some k → k < W.heap.size) (hl : qs.length + more.length + r.length ≤ 1048576) :
    Calls Tryz.prog 3 #[vq, vm, vr] W fun e w' => e = .returned (.bool true) ∧ Below W.heap.size W w' := by
  cases h : needed 0 (qs ++ more) with
  | error y => exact spineMore_bad h hT hq hm hr hqk hl
  | ok r0 => exact spineMore_good h hT hq hm hr hqk hrk hl
end Go.Proofs.YtoahlnmhjinneaaGreatDoor
