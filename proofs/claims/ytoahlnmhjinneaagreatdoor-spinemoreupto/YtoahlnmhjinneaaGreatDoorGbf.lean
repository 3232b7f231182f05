import Derived.Test.YtoahlnmhjinneaaGreatDoorGaw
import Derived.Test.YtoahlnmhjinneaaGreatDoorGbe
import Derived.Test.YtoahlnmhjinneaaGreatDoorGai
import Derived.Test.YtoahlnmhjinneaaGreatDoorGax
import Derived.Test.YtoahlnmhjinneaaGreatDoorGay
set_option linter.unusedVariables false
set_option linter.unusedSimpArgs false
set_option linter.unusedSimpArgs false
set_option linter.unusedVariables false
namespace Go.Proofs.YtoahlnmhjinneaaGreatDoor
open Go.RowKit Go.Maps Go.Lib
variable {w w' w1 w2 WO wr W W0 : World} {I : Inv} {F : Nat → Prop} {TOT rest t acc : List Np} {fv : Value}
theorem along_all (hI : InvOK I) (hfv : Tkr fv I) : (∀ s : Stps, ∀ i x, s.get i = some x → ∀ j y, x.preds.get j = some y → CdOK I fv y) ∧ ∀ p : Prds, ∀ j y, p.get j = some y → CdOK I fv y := by
  refine ⟨fun s => Stps.rec (motive_1 := fun s => ∀ i x, s.get i = some x → ∀ j y, x.preds.get j = some y → CdOK I fv y) (motive_2 := fun p => ∀ j y, p.get j = some y → CdOK I fv y) ?_ ?_ ?_ ?_ s, fun s => Prds.rec (motive_1 := fun s => ∀ i x, s.get i = some x → ∀ j y, x.preds.get j = some y → CdOK I fv y) (motive_2 := fun p => ∀ j y, p.get j = some y → CdOK I fv y) ?_ ?_ ?_ ?_ s⟩
  all_goals first
    | (intro i x h; cases h; done)
    | (intro d t p m ih1 ih2 i x h
       cases i with
       | zero => cases h; exact ih1
       | succ i => exact ih2 i x h)
    | (intro o k s a t m ih1 ih2 ih3 i x h
       cases i with
       | zero => cases h; exact condN_ok hI _ ih1 (along_ok hI hfv _ ih2)
       | succ i => exact ih3 i x h)
theorem along_any (hI : InvOK I) (hfv : Tkr fv I) (s : Stps) : AlOK I fv s := along_ok hI hfv s ((along_all hI hfv).1 s)
def MidQ (I : Inv) (F : Nat → Prop) (acc : List Np) (W0 : World) (qs : List L) (i : Nat) (wr : World) : Prop := ∃ F' pre, I F' (acc ++ pre) wr ∧ Fr F W0 wr ∧ (∀ k, F' k → F k ∨ W0.heap.size ≤ k) ∧ (acc ++ pre).length + (qs.length - i) * 1001 ≤ Nmax ∧ needed 0 qs = (match needed i (qs.drop i) with | .error e => .error e | .ok r => .ok (pre ++ r))
def QPost (I : Inv) (F : Nat → Prop) (acc : List Np) (W : World) (qs : List L) (e : Ending) (w' : World) : Prop := Fr F W w' ∧ match needed 0 qs with
  | .error y => e = .returned (.tuple #[.int .i64 y.1, .int .i64 y.2.1, .int .i64 y.2.2])
  | .ok r => e = .returned (.tuple #[.int .i64 0, .int .i64 0, .int .i64 0]) ∧ ∃ F', I F' (acc ++ r) w' ∧ ∀ k, F' k → F k ∨ W.heap.size ≤ k
theorem StR.fr {v : Value} {l : List L} (h : StR W0 v l) (hf : Fr F W0 wr) (ha : ∀ k, v.ownBlock = some k → ¬ F k) : StR wr v l := by
  obtain ⟨ai, cap, rfl, hn, hr⟩ := h
  refine ⟨ai, cap, rfl, hn, fun i m hm => ?_⟩
  obtain ⟨g, off, e, hg, h0⟩ := hr i m hm
  subst e
  exact ⟨g, off, rfl, Nat.lt_of_lt_of_le hg hf.size, (World.cell?_of_block (hf.block g hg (ha g rfl))).trans h0⟩
theorem err_ne {q : L} {y : Nat × Nat} (h : parse q = .error y) : y.1 ≠ 0 := by
  have := parse_sim q
  rw [h] at this
  exact this.1
theorem queries_path {p : List Stp} {si : Option Addr} {sn sc : Nat} (hI : InvOK I) (hfv : Tkr fv I) (hT : TOT.length ≤ Nmax) (hs : slS W0 (fun k => ¬ F k) 79 112 (.slice si sn sc) (Stps.of p)) (hp : p ≠ []) (hl : lS (Stps.of p) ≤ 1000) (M : MidN I F TOT W0 wr (pathN p ++ rest)) :
    Calls Tryz.prog 31 #[fv, .slice none 0 0, .slice si sn sc, .bool true] wr fun e w' => e = .returned (.tuple #[]) ∧ Hid (MidN I F TOT W0 w' rest) := by
  have hfr := M.fr
  have main := M.part hI (Below.refl _ _) (f := 31) (args := #[fv, .slice none 0 0, .slice si sn sc, .bool true]) fun F' acc' k1 k3 k2 k4 => ?_
  · exact main.mono fun e w2 ⟨r1, r2, r3⟩ => ⟨r1, r2⟩
  have hA : ∀ k, (k < W0.heap.size ∧ ¬ F k) → ¬ F' k := fun k hk hF => by
    rcases k2 k hF with h | h
    · exact hk.2 h
    · omega
  refine along_any hI hfv (Stps.of p) F' acc' wr [] (.slice none 0 0) si sn sc true k1 ⟨none, 0, rfl, ⟨by simp, by simp⟩, fun i m hm => by simp at hm⟩ (fun k e => by cases e) ((hfr.slS hs).on (Below.refl _ _) hA) (Or.inr ?_) (by simp only [bareT, List.flatMap_nil, List.length_nil]; omega) ?_
  · rw [Stps.len_of]
    intro h
    exact hp (List.eq_nil_of_length_eq_zero h)
  · exact MidN.len M hT k4
theorem needQ_get {ls : List (List Stp)} {j : Nat} {p : List Stp} (h : ls[j]? = some p) : needQ (ls.drop j) = pathN p ++ needQ (ls.drop (j + 1)) := by
  obtain ⟨hl, e⟩ := List.getElem?_eq_some_iff.1 h
  rw [List.drop_eq_getElem_cons hl, e, needQ, List.flatMap_cons]
  rfl
theorem QS.at' {A : Nat → Prop} {ls : List (List Stp)} {pi : Option Addr} {pn pc j : Nat} {p : List Stp} (h : QS w A 52 79 112 (.slice pi pn pc) ls) (hj : ls[j]? = some p) : ∃ g si sn sc, pi = some ⟨g, 0, none⟩ ∧ A g ∧ g < w.heap.size ∧ w.cell? ⟨g, j, none⟩ = some (.slice si sn sc) ∧ slS w A 79 112 (.slice si sn sc) (Stps.of p) := by
  rcases h with ⟨h, _⟩ | ⟨g, cap', cur, e, ha, hb, hn, h0, hr⟩
  · have := List.eq_nil_of_length_eq_zero h
    subst this
    simp at hj
  · cases e
    obtain ⟨u, h1, h2⟩ := hr j p hj
    obtain ⟨si, sc, rfl, _⟩ := h2.len
    exact ⟨g, si, _, sc, rfl, ha, blk_lt hb, h1, h2⟩
end Go.Proofs.YtoahlnmhjinneaaGreatDoor

set_option linter.unusedSimpArgs false
set_option linter.unusedVariables false
namespace Go.Proofs.YtoahlnmhjinneaaGreatDoor
open Go.RowKit Go.Maps Go.Lib
variable {w w' w1 w2 WO wr W W0 : World} {I : Inv} {F : Nat → Prop} {TOT rest t acc : List Np} {fv : Value}
theorem queries_bad {qs : List L} {i : Nat} {q : L} {y : Nat × Nat} (hq : qs[i]? = some q) (hp : parse q = .error y) (M : MidQ I F acc W qs i wr) :
    Calls Tryz.prog 30 #[.string (bs q)] wr fun e w' => e = .returned (.tuple #[.slice none 0 0, .int .i64 y.1, .int .i64 y.2]) ∧ Hid (QPost I F acc W qs (.returned (.tuple #[.int .i64 y.1, .int .i64 y.2, .int .i64 (i + 1 : Nat)])) w') := by
  obtain ⟨F', pre, m1, m2, m3, m4, m5⟩ := M
  obtain ⟨hl, e⟩ := List.getElem?_eq_some_iff.1 hq
  rw [List.drop_eq_getElem_cons hl, e, needed, hp] at m5
  refine (parse_ok q wr).mono ?_
  rintro e w' ⟨h1, h2⟩
  rw [hp] at h2
  refine ⟨h2, hide ⟨m2.on h1, ?_⟩⟩
  rw [m5]
theorem queries_good {qs : List L} {i : Nat} {q : L} {ls : List (List Stp)} (hI : InvOK I) (hfv : Tkr fv I) (hq : qs[i]? = some q) (hp : parse q = .ok ls) (M : MidQ I F acc W qs i wr) :
    Calls Tryz.prog 30 #[.string (bs q)] wr fun e w' => ∃ pi pn pc, ∃ RR : Nat → World → Prop, e = .returned (.tuple #[.slice pi pn pc, .int .i64 0, .int .i64 0]) ∧ pn ≤ 1000 ∧ Hid (RR 0 w') ∧ Hid (∀ wr, RR pn wr → MidQ I F acc W qs (i + 1) wr) ∧
      Hid (∀ wr j, j < pn → RR j wr → ∃ g si sn sc, pi = some ⟨g, 0, none⟩ ∧ wr.cell? ⟨g, j, none⟩ = some (.slice si sn sc) ∧ Hid (Calls Tryz.prog 31 #[fv, .slice none 0 0, .slice si sn sc, .bool true] wr fun e w' => e = .returned (.tuple #[]) ∧ Hid (RR (j + 1) w'))) := by
  obtain ⟨F', pre, m1, m2, m3, m4, m5⟩ := M
  obtain ⟨hl, e⟩ := List.getElem?_eq_some_iff.1 hq
  rw [List.drop_eq_getElem_cons hl, e, needed, hp] at m5
  obtain ⟨hn1, hn2⟩ := parse_needs hp
  have hlt : ∀ k, F' k → k < wr.heap.size := fun k hk => hI.lt _ _ _ k m1 hk
  refine (parse_ok q wr).mono ?_
  rintro e w1 ⟨h1, h2⟩
  rw [hp] at h2
  obtain ⟨v, he, hv⟩ := h2
  have hv0 : QS w1 (fun b => wr.heap.size ≤ b) 52 79 112 v ls := hv
  have hsh : ∃ pi pc, v = .slice pi ls.length pc ∧ ls.length ≤ 1000 := by
    rcases hv0 with ⟨h, rfl⟩ | ⟨g, cap, cur, rfl, _, _, hn, _⟩
    · exact ⟨_, _, by rw [h], by omega⟩
    · exact ⟨_, _, rfl, hn⟩
  obtain ⟨pi, pc, rfl, hpn⟩ := hsh
  have hTot : (acc ++ pre ++ needQ ls).length ≤ Nmax := by
    have : 1 ≤ qs.length - i := by omega
    have h3 : 1 * 1001 ≤ (qs.length - i) * 1001 := Nat.mul_le_mul_right _ this
    rw [List.length_append]
    omega
  have hi1 := hI.below _ _ _ _ m1 h1
  refine ⟨pi, _, pc, fun j wr' => MidN I F' (acc ++ pre ++ needQ ls) w1 wr' (needQ (ls.drop j)), he, hpn, hide ?_, hide ?_, hide ?_⟩
  · exact MidN.start hi1
  · rintro wr' ⟨F2, acc2, k1, k2, k3, k4⟩
    rw [List.drop_length, show needQ [] = [] from rfl, List.append_nil] at k4
    subst k4
    refine ⟨F2, pre ++ needQ ls, by rw [← List.append_assoc]; exact k1, (m2.on h1).trans k2 fun k hk hF => ?_, fun k hk => ?_, ?_, ?_⟩
    · rcases m3 k hF with h | h
      · exact h
      · omega
    · rcases k3 k hk with h | h
      · exact m3 k h
      · have := (m2.on h1).size
        exact Or.inr (by omega)
    · rw [← List.append_assoc, List.length_append]
      have e3 : qs.length - i = qs.length - (i + 1) + 1 := by omega
      rw [e3, Nat.add_mul] at m4
      omega
    · rw [m5]
      cases needed (i + 1) (qs.drop (i + 1)) with
      | error e => rfl
      | ok r => simp
  · intro wr' j hj M
    have hpj : ls[j]? = some ls[j] := List.getElem?_eq_getElem hj
    rw [needQ_get hpj] at M
    obtain ⟨g, si, sn, sc, e1, hg, hgl, a0, hs⟩ := hv0.at' hpj
    have hF : ∀ k, wr.heap.size ≤ k → ¬ F' k := fun k hk hF => by have := hlt k hF; omega
    obtain ⟨hp1, hp2⟩ := hn2 _ (List.getElem_mem hj)
    exact ⟨g, si, sn, sc, e1, (World.cell?_of_block (M.fr.block g hgl (hF g hg))).trans a0, hide (queries_path hI hfv hTot (hs.on (Below.refl _ _) hF) hp1 hp2 M)⟩
set_option maxHeartbeats 32000000 in
set_option maxRecDepth 100000 in
theorem queries_ok (hI : InvOK I) (hfv : Tkr fv I) (qs : List L) (v : Value) (h0 : I F acc W) (hq : StR W v qs) (hap : ∀ k, v.ownBlock = some k → ¬ F k) (hN : acc.length + qs.length * 1001 ≤ Nmax) : Calls Tryz.prog 17 #[fv, v] W (QPost I F acc W qs) := by
  have M0 : Hid (MidQ I F acc W qs 0 W) := hide ⟨F, [], by rw [List.append_nil]; exact h0, Fr.refl _ _, fun k h => Or.inl h, by simpa using hN, by rw [List.drop_zero]; cases needed 0 qs <;> rfl⟩
  have HFIN : Hid (∀ wr, MidQ I F acc W qs qs.length wr → QPost I F acc W qs (.returned (.tuple #[.int .i64 0, .int .i64 0, .int .i64 0])) wr) := fun wr ⟨F', pre, m1, m2, m3, m4, m5⟩ => by
    rw [List.drop_length, needed] at m5
    simp only [List.append_nil] at m5
    refine ⟨m2, ?_⟩
    rw [m5]
    exact ⟨rfl, F', m1, m3⟩
  have HR : Hid (∀ wr i, i < qs.length → MidQ I F acc W qs i wr → ∃ Q, (∃ g off, (match v with | .slice ai _ _ => ai | _ => none) = some ⟨g, off, none⟩ ∧ wr.cell? ⟨g, off + i, none⟩ = some (.string Q)) ∧
     ((∃ y1 y2 : Nat, (((y1 : Nat) : Int) != 0) = true ∧ Hid (Calls Tryz.prog 30 #[.string Q] wr fun e w' => e = .returned (.tuple #[.slice none 0 0, .int .i64 y1, .int .i64 y2]) ∧ Hid (QPost I F acc W qs (.returned (.tuple #[.int .i64 y1, .int .i64 y2, .int .i64 (i + 1 : Nat)])) w'))) ∨
      Hid (Calls Tryz.prog 30 #[.string Q] wr fun e w' => ∃ pi pn pc, ∃ RR : Nat → World → Prop, e = .returned (.tuple #[.slice pi pn pc, .int .i64 0, .int .i64 0]) ∧ pn ≤ 1000 ∧ Hid (RR 0 w') ∧ Hid (∀ wr, RR pn wr → MidQ I F acc W qs (i + 1) wr) ∧
      Hid (∀ wr j, j < pn → RR j wr → ∃ g si sn sc, pi = some ⟨g, 0, none⟩ ∧ wr.cell? ⟨g, j, none⟩ = some (.slice si sn sc) ∧ Hid (Calls Tryz.prog 31 #[fv, .slice none 0 0, .slice si sn sc, .bool true] wr fun e w' => e = .returned (.tuple #[]) ∧ Hid (RR (j + 1) w')))))) := fun wr i hi M => by
    have hx : qs[i]? = some qs[i] := List.getElem?_eq_getElem hi
    have hfr : Fr F W wr := by obtain ⟨_, _, _, h, _⟩ := M; exact h
    obtain ⟨ai, cap, e, hn, hr⟩ := hq.fr hfr hap
    obtain ⟨g, off, e2, hg, h1⟩ := hr i _ hx
    refine ⟨_, ⟨g, off, by rw [e]; exact e2, h1⟩, ?_⟩
    cases hp : parse qs[i] with
    | error y => exact Or.inl ⟨y.1, y.2, by simpa using err_ne hp, hide (queries_bad hx hp M)⟩
    | ok ls => exact Or.inr (hide (queries_good hI hfv hx hp M))
  obtain ⟨ai, cap, rfl, hn, -⟩ := hq
  simp only at HR
  obtain ⟨RN, hRN⟩ : ∃ RN : Nat → World → Prop, ∀ i wr, RN i wr = MidQ I F acc W qs i wr := ⟨_, fun _ _ => rfl⟩
  simp only [← hRN] at M0 HFIN HR
  have hn1 := hn.1
  clear hRN h0 hap hN hI hfv hn
  generalize qs.length = n at *
  go_enter Tryz.func17, Tryz.ntmps17
  go_wp2_with fail
  go_loopw [4, 5, 6, 7, 8, 9, 10, 11, 13, 16, 17, 18, 19, 20, 21, 22, 23, 24, 25, 26, 27, 28, 29, 30, 31, 32, 33, 34, 35, 36, 37, 38, 39, 40, 41, 42, 43] (fun _ _ _ _ _ _ _ _ _ u16 _ _ _ _ _ _ _ _ _ _ _ _ _ _ _ _ _ _ _ _ _ _ _ _ _ _ _ wr => ∃ i : Nat, u16 = .int .i64 i ∧ i ≤ n ∧ Hid (RN i wr)) (fun _ _ _ _ _ _ _ _ _ u16 _ _ _ _ _ _ _ _ _ _ _ _ _ _ _ _ _ _ _ _ _ _ _ _ _ _ _ _ => n - (RowKit.intOf u16).toNat)
  case atStart => exact ⟨0, rfl, Nat.zero_le _, M0⟩
  case round =>
    rename World => WO
    obtain ⟨i, rfl, hi, HM⟩ := hrel
    by_cases hlt : i < n
    · obtain ⟨Q, ⟨g, off, rfl, c0⟩, hh⟩ := HR.out _ i hlt HM.out
      have hdec : decide ((i : Int) < n) = true := by simp; omega
      have hii : (i : Int) < n := by omega
      have hwr : IntKind.i64.wrap ((i : Int) + 1) = (i : Int) + 1 := by rw [IntKind.wrap_i64]; omega
      clear HR HFIN HM M0
      rcases hh with ⟨y1, y2, hy, HE⟩ | HO
      · go_wp2_with (go_at_call 30; refine HE.out.mono ?_; rintro e w7 ⟨rfl, h7⟩; clear HE)
        exact bodyPost_ret (v := .tuple #[.int .i64 y1, .int .i64 y2, .int .i64 (i + 1 : Nat)]) (by simp [results, Tryz.results17, go_sem]) rfl h7.out
      · go_wp2_with (go_at_call 30; refine HO.out.mono ?_; rintro e w7 ⟨pi, pn, pc, RR, rfl, hpn, HR0, HRE, HRR⟩; clear HO)
        clear c0
        go_loopw [13, 35, 36, 37, 38, 39, 40, 41, 42] (fun _ u35 _ _ _ _ _ _ _ wr => ∃ j : Nat, u35 = .int .i64 j ∧ j ≤ pn ∧ Hid (RR j wr)) (fun _ u35 _ _ _ _ _ _ _ _ => pn - (RowKit.intOf u35).toNat)
        case atStart => exact ⟨0, rfl, Nat.zero_le _, HR0⟩
        case round =>
          rename World => WP
          obtain ⟨j, rfl, hj, HJ⟩ := hrel
          by_cases hlj : j < pn
          · obtain ⟨g', si, sn, sc, rfl, a0, HD⟩ := HRR.out _ j hlj HJ.out
            have hdj : decide ((j : Int) < pn) = true := by simp; omega
            have hjj : (j : Int) < pn := by omega
            clear HRR HJ HR0 HRE
            go_wp2_with (go_at_call 31; refine HD.out.mono ?_; rintro e w8 ⟨rfl, h8⟩; clear HD)
            exact ⟨⟨j + 1, by simp, by omega, h8⟩, by simp only [RowKit.intOf]; omega⟩
          · have hdj : decide ((j : Int) < pn) = false := by simp; omega
            obtain rfl : j = pn := by omega
            have HE := hide (HRE.out _ HJ.out)
            clear HRR HJ HR0 HRE
            go_wp2
            exact ⟨⟨i + 1, by simp, by omega, HE⟩, by simp only [RowKit.intOf]; omega⟩
    · have hdec : decide ((i : Int) < n) = false := by simp; omega
      obtain rfl : i = n := by omega
      go_wp2
      refine bodyPost_ret (v := .tuple #[.int .i64 0, .int .i64 0, .int .i64 0]) (by simp [results, Tryz.results17, go_sem]) rfl (HFIN.out _ HM.out)
end Go.Proofs.YtoahlnmhjinneaaGreatDoor

set_option linter.unusedSimpArgs false
set_option linter.unusedVariables false
namespace Go.Proofs.YtoahlnmhjinneaaGreatDoor
open Go.RowKit Go.Maps Go.Lib
variable {w w' w1 w2 W : World} {bA bM : Nat} {F : Nat → Prop} {acc : List Np}
theorem paths_tkr (bA bM : Nat) : Tkr (.func (.func 18) #[] #[.pointer (some ⟨bM, 0, none⟩), .pointer (some ⟨bA, 0, none⟩)]) (PathI bA bM) :=
  Or.inr ⟨_, _, rfl, fun F acc W v ms wh pre => paths_take wh pre⟩
theorem PathI.new {b : Nat} (h1 : w.heap[bA]? = some (.cells #[.slice none 0 0] 22 (0, 0))) (h2 : w.heap[bM]? = some (.cells #[.map (some b)] 44 (0, 0))) (h3 : MapN w 9 b []) : PathI bA bM (fun k => k = bA ∨ k = bM ∨ k = b) [] w :=
  ⟨.slice none 0 0, b, [], h1, h2, h3, rfl, World.ownsRow_nil _ _ _ _, fun k => by simp [Value.ownBlock]⟩
theorem strC_row {v : Value} {l : List L} (h : w.ownsRow 0 9 1 v l.length (strC l)) (hl : l.length ≤ 1000000000000) : StR w v l := by
  rcases h.2 with ⟨rfl, hz⟩ | ⟨g, cap, cur, rfl, hb, hg, hnc, _, _, _⟩
  · have : l = [] := List.eq_nil_of_length_eq_zero hz
    subst this
    exact ⟨none, 0, rfl, ⟨by simp, by simp⟩, fun i m hm => by simp at hm⟩
  · refine ⟨some ⟨g, 0, none⟩, cap, rfl, ⟨hl, hnc⟩, fun i x hx => ⟨g, 0, rfl, blk_lt hg, ?_⟩⟩
    have hil := (List.getElem?_eq_some_iff.1 hx).1
    rw [Nat.zero_add, h.cellAt i (by omega)]
    unfold strC
    rw [List.getElem?_map, hx]
    rfl
def PPost (W : World) (qs : List L) (e : Ending) (w' : World) : Prop := Below W.heap.size W w' ∧ match needed 0 qs with
  | .error y => e = .returned (.tuple #[.slice none 0 0, .int .i64 y.1, .int .i64 y.2.1, .int .i64 y.2.2])
  | .ok r => ∃ u, e = .returned (.tuple #[u, .int .i64 0, .int .i64 0, .int .i64 0]) ∧ StR w' u (TxA r)
theorem needed_ne : ∀ (l : List L) (i : Nat) {y : Nat × Nat × Nat}, needed i l = .error y → y.1 ≠ 0
  | [], i, y, h => by simp [needed] at h
  | q :: l, i, y, h => by
    rw [needed] at h
    cases hp : parse q with
    | error e => rw [hp] at h; cases h; exact err_ne hp
    | ok ls =>
      rw [hp] at h
      simp only at h
      cases hn : needed (i + 1) l with
      | error e => rw [hn] at h; cases h; exact needed_ne l (i + 1) hn
      | ok r => rw [hn] at h; cases h
theorem needed_len : ∀ (l : List L) (i : Nat) {r : List Np}, needed i l = .ok r → r.length ≤ l.length * 1001
  | [], i, r, h => by rw [needed] at h; cases h; simp
  | q :: l, i, r, h => by
    rw [needed] at h
    cases hp : parse q with
    | error e => rw [hp] at h; cases h
    | ok ls =>
      rw [hp] at h
      simp only at h
      cases hn : needed (i + 1) l with
      | error e => rw [hn] at h; cases h
      | ok r2 =>
        rw [hn] at h
        cases h
        have h1 := needed_len l (i + 1) hn
        have h2 := (parse_needs hp).1
        rw [List.length_append, List.length_cons, Nat.add_mul]
        omega
set_option maxHeartbeats 8000000 in
set_option maxRecDepth 100000 in
theorem paths_ok (qs : List L) (v : Value) (W : World) (hq : StR W v qs) (hn : qs.length ≤ 2197802) (hv : ∀ k, v.ownBlock = some k → k < W.heap.size) : Calls Tryz.prog 6 #[v] W (PPost W qs) := by
  obtain ⟨W0, hW0⟩ : ∃ W0, (((W.alloc (.cells #[.slice none 0 0] 22)).alloc (.map #[] 0)).alloc (.cells #[.map (some (W.heap.size + 1))] 44)) = W0 := ⟨_, rfl⟩
  have a1 := (Below.refl W.heap.size W).alloc (Nat.le_refl _) (.cells #[.slice none 0 0] 22)
  have a2 := a1.alloc (by simp) (.map #[] 0)
  have a3 := a2.alloc (by simp; omega) (.cells #[.map (some (W.heap.size + 1))] 44)
  have b1 : W0.heap[W.heap.size]? = some (.cells #[.slice none 0 0] 22 (0, 0)) := by
    rw [← hW0, Below.heap_alloc _ _ _ (by simp; omega), Below.heap_alloc _ _ _ (by simp)]
    exact Below_new W _
  have b2 : MapN W0 9 (W.heap.size + 1) [] := by
    have h := MapN.new (W.alloc (.cells #[.slice none 0 0] 22)) 9
    rw [World.size_alloc] at h
    refine h.of ?_
    rw [← hW0]
    exact Below.heap_alloc _ _ _ (by simp)
  have b3 : W0.heap[W.heap.size + 1 + 1]? = some (.cells #[.map (some (W.heap.size + 1))] 44 (0, 0)) := by
    have h := Below_new ((W.alloc (.cells #[.slice none 0 0] 22)).alloc (.map #[] 0)) (.cells #[.map (some (W.heap.size + 1))] 44)
    rw [World.size_alloc, World.size_alloc] at h
    rw [← hW0]
    exact h
  have hb0 : Below W.heap.size W W0 := by rw [← hW0]; exact a3
  have HQ := hide (queries_ok PathI.ok (paths_tkr W.heap.size (W.heap.size + 1 + 1)) qs v (PathI.new b1 b3 b2) (hq.below hb0) (fun k e hF => by have := hv k e; omega) (by simp only [List.length_nil]; unfold Nmax; omega))
  have HF : Hid (∀ e w', QPost (PathI W.heap.size (W.heap.size + 1 + 1)) (fun k => k = W.heap.size ∨ k = W.heap.size + 1 + 1 ∨ k = W.heap.size + 1) [] W0 qs e w' → Below W.heap.size W w') := fun e w' h => hb0.trans ((h.1.up (K := W.heap.size) (fun k hk => by omega) hb0.size))
  have HN := hn
  obtain ⟨ai, cap, rfl, -⟩ := hq
  have hw0 : ∀ X, Below W.heap.size W X → W.heap.size ≤ X.heap.size := fun X h => h.size
  unfold PPost
  cases hnd : needed 0 qs with
  | error y =>
    have hy : (((y.1 : Nat) : Int) != 0) = true := by simpa using needed_ne qs 0 hnd
    have HC : Hid (Calls Tryz.prog 17 #[.func (.func 18) #[] #[.pointer (some ⟨W.heap.size + 1 + 1, 0, none⟩), .pointer (some ⟨W.heap.size, 0, none⟩)], .slice ai qs.length cap] W0 fun e w' => e = .returned (.tuple #[.int .i64 y.1, .int .i64 y.2.1, .int .i64 y.2.2]) ∧ Below W.heap.size W w') := hide (HQ.out.mono fun e w' h => by
      have h2 := h.2
      rw [hnd] at h2
      exact ⟨h2, HF.out _ _ h⟩)
    obtain ⟨y1, y2, y3⟩ := y
    simp only at HC hy ⊢
    clear HQ HF b1 b2 b3 hb0 a1 a2 a3 hv hw0 hnd
    generalize qs.length = n at *
    have hmm := mk_map
    go_enter Tryz.func6, Tryz.ntmps6
    go_wp2_with (go_at_call 17; refine HC.out.mono ?_; rintro e w5 ⟨rfl, h5⟩; clear HC)
    exact bodyPost_ret (v := .tuple #[.slice none 0 0, .int .i64 y1, .int .i64 y2, .int .i64 y3]) (by simp [results, Tryz.results6, go_sem]) rfl ⟨h5, rfl⟩
  | ok r =>
    have hrl := needed_len qs 0 hnd
    have HC : Hid (Calls Tryz.prog 17 #[.func (.func 18) #[] #[.pointer (some ⟨W.heap.size + 1 + 1, 0, none⟩), .pointer (some ⟨W.heap.size, 0, none⟩)], .slice ai qs.length cap] W0 fun e w' => e = .returned (.tuple #[.int .i64 0, .int .i64 0, .int .i64 0]) ∧ ∃ a5 n5 c5, w'.cell? ⟨W.heap.size, 0, none⟩ = some (.slice a5 n5 c5) ∧ Hid (Below W.heap.size W w' ∧ StR w' (.slice a5 n5 c5) (TxA r))) := hide (HQ.out.mono fun e w' h => by
      have h2 := h.2
      rw [hnd] at h2
      obtain ⟨h3, F', h4, h5⟩ := h2
      obtain ⟨v', b', kv', q1, q2, q3, q4, q5, q6⟩ := h4.ex
      obtain ⟨a5, n5, c5, rfl⟩ := own_shape q5
      have hl := TxA_len ([] ++ r)
      exact ⟨h3, a5, n5, c5, cell_of q1 rfl, hide ⟨HF.out _ _ h, strC_row q5 (by simp only [List.nil_append] at hl ⊢; omega)⟩⟩)
    clear HQ HF b1 b2 b3 hb0 a1 a2 a3 hv hw0 hnd
    generalize qs.length = n at *
    have hmm := mk_map
    go_enter Tryz.func6, Tryz.ntmps6
    go_wp2_with (go_at_call 17; refine HC.out.mono ?_; rintro e w5 ⟨rfl, a5, n5, c5, d5, h5⟩; clear HC)
    exact bodyPost_ret (v := .tuple #[.slice a5 n5 c5, .int .i64 0, .int .i64 0, .int .i64 0]) (by simp [results, Tryz.results6, go_sem]) rfl ⟨h5.out.1, _, rfl, h5.out.2⟩
end Go.Proofs.YtoahlnmhjinneaaGreatDoor

set_option linter.unusedSimpArgs false
set_option linter.unusedVariables false
namespace Go.Proofs.YtoahlnmhjinneaaGreatDoor
open Go.RowKit Go.Maps Go.Lib
variable {w w' w0 w1 w2 w3 W wr : World} {X : Nat} {u1 u2 v : Value} {F : Nat → Prop} {b : Brs} {xs : List (Br × Nat)} {i j : Nat} {m : Mk} {x : Br × Nat} {acc : List Np}
theorem grow_tkr (X : Nat) (u1 u2 : Value) : Tkr (.func (.func 16) #[.pointer (some ⟨X, 0, none⟩)] #[]) (GI X u1 u2) :=
  Or.inl ⟨_, rfl, fun F acc W v ms wh pre => grow_take wh pre⟩
set_option maxHeartbeats 4000000 in
set_option maxRecDepth 100000 in
theorem newb_ok (w : World) : Calls Tryz.prog 15 #[] w fun e w' => e = .returned (.slice (some ⟨w.heap.size + 1, 0, none⟩) 1 1) ∧ w' = (w.alloc (.map #[] 0)).alloc (.cells #[.bool false, .string ⟨#[]⟩, .map (some w.heap.size), .bool false, .bool false] 74) := by
  have hmm := mk_map
  go_enter Tryz.func15, Tryz.ntmps15
  go_wp2
  go_ret
  exact ⟨rfl, rfl⟩
def br0 (k : Nat) : Br × Nat := ((⟨(false, []), [], false, false⟩ : Br), k)
theorem BR.new (w : World) (h1 : MapN w 72 i []) (h2 : w.heap[j]? = some (.cells #[.bool false, .string ⟨#[]⟩, .map (some i), .bool false, .bool false] 74 (0, 0))) : BR w (.slice (some ⟨j, 0, none⟩) 1 1) [br0 i] := by
  refine ⟨⟨rfl, Or.inr ⟨j, 1, _, rfl, Nat.zero_le _, h2, Nat.le_refl _, by unfold maxLen; omega, rfl, rfl⟩⟩, fun x hx => ?_, by simp⟩
  rw [List.mem_singleton] at hx
  subst hx
  exact h1
def NPost (W : World) (qs : List L) (e : Ending) (w' : World) : Prop := Below W.heap.size W w' ∧ match needed 0 qs with
  | .error y => e = .returned (.tuple #[.pointer none, .int .i64 y.1, .int .i64 y.2.1, .int .i64 y.2.2])
  | .ok r => ∃ X mn F, e = .returned (.tuple #[.pointer (some ⟨X, 0, none⟩), .int .i64 0, .int .i64 0, .int .i64 0]) ∧ GI X (.slice none 0 0) (.map (some mn)) F r w' ∧ MapN w' 9 mn [] ∧ ¬ F mn ∧ W.heap.size ≤ mn ∧ ∀ k, F k → W.heap.size ≤ k
set_option maxHeartbeats 8000000 in
set_option maxRecDepth 100000 in
theorem new_ok (qs : List L) (v : Value) (W : World) (hq : StR W v qs) (hn : qs.length ≤ 2197802) (hv : ∀ k, v.ownBlock = some k → k < W.heap.size) : Calls Tryz.prog 5 #[v] W (NPost W qs) := by
  obtain ⟨W0, hW0⟩ : ∃ W0, ((((W.alloc (.map #[] 0)).alloc (.cells #[.bool false, .string ⟨#[]⟩, .map (some W.heap.size), .bool false, .bool false] 74)).alloc (.map #[] 0)).alloc (.cells #[.slice (some ⟨W.heap.size + 1, 0, none⟩) 1 1, .slice none 0 0, .map (some (W.heap.size + 1 + 1))] 47)) = W0 := ⟨_, rfl⟩
  have a1 := (Below.refl W.heap.size W).alloc (Nat.le_refl _) (.map #[] 0)
  have a2 := a1.alloc (by simp) (.cells #[.bool false, .string ⟨#[]⟩, .map (some W.heap.size), .bool false, .bool false] 74)
  have a3 := a2.alloc (by simp; omega) (.map #[] 0)
  have a4 := a3.alloc (by simp; omega) (.cells #[.slice (some ⟨W.heap.size + 1, 0, none⟩) 1 1, .slice none 0 0, .map (some (W.heap.size + 1 + 1))] 47)
  have hb0 : Below W.heap.size W W0 := by rw [← hW0]; exact a4
  have b1 : MapN W0 72 W.heap.size [] := by
    refine (MapN.new W 72).of ?_
    rw [← hW0, Below.heap_alloc _ _ _ (by simp; omega), Below.heap_alloc _ _ _ (by simp; omega), Below.heap_alloc _ _ _ (by simp)]
  have b2 : W0.heap[W.heap.size + 1]? = some (.cells #[.bool false, .string ⟨#[]⟩, .map (some W.heap.size), .bool false, .bool false] 74 (0, 0)) := by
    have h := Below_new (W.alloc (.map #[] 0)) (.cells #[.bool false, .string ⟨#[]⟩, .map (some W.heap.size), .bool false, .bool false] 74)
    rw [World.size_alloc] at h
    rw [← hW0, Below.heap_alloc _ _ _ (by simp), Below.heap_alloc _ _ _ (by simp)]
    exact h
  have b3 : MapN W0 9 (W.heap.size + 1 + 1) [] := by
    have h := MapN.new ((W.alloc (.map #[] 0)).alloc (.cells #[.bool false, .string ⟨#[]⟩, .map (some W.heap.size), .bool false, .bool false] 74)) 9
    rw [World.size_alloc, World.size_alloc] at h
    refine h.of ?_
    rw [← hW0]
    exact Below.heap_alloc _ _ _ (by simp)
  have b4 : W0.heap[W.heap.size + 1 + 1 + 1]? = some (.cells #[.slice (some ⟨W.heap.size + 1, 0, none⟩) 1 1, .slice none 0 0, .map (some (W.heap.size + 1 + 1))] 47 (0, 0)) := by
    have h := Below_new (((W.alloc (.map #[] 0)).alloc (.cells #[.bool false, .string ⟨#[]⟩, .map (some W.heap.size), .bool false, .bool false] 74)).alloc (.map #[] 0)) (.cells #[.slice (some ⟨W.heap.size + 1, 0, none⟩) 1 1, .slice none 0 0, .map (some (W.heap.size + 1 + 1))] 47)
    rw [World.size_alloc, World.size_alloc, World.size_alloc] at h
    rw [← hW0]
    exact h
  have hgi : GI (W.heap.size + 1 + 1 + 1) (.slice none 0 0) (.map (some (W.heap.size + 1 + 1))) (fun k => k = W.heap.size + 1 + 1 + 1 ∨ k = W.heap.size + 1 ∨ k = W.heap.size) [] W0 := by
    refine ⟨⟨⟨_, [br0 W.heap.size], b4, BR.new W0 b1 b2, rfl, fun k => ?_⟩, ?_, ?_⟩, ?_, newB_wf⟩
    · unfold BOwn
      simp only [Value.ownBlock, List.map_cons, List.map_nil, List.mem_singleton, br0, Option.some.injEq]
      constructor <;> omega
    · intro x hx y hy
      have hx' : x = ⟨(false, []), [], false, false⟩ := by simpa [growAll, newB] using hx
      subst hx'
      simp at hy
    · intro x hx
      have hx' : x = ⟨(false, []), [], false, false⟩ := by simpa [growAll, newB] using hx
      subst hx'
      simp
    · show newB.length ≤ _
      simp [newB]
  have HQ := hide (queries_ok GI.ok (grow_tkr (W.heap.size + 1 + 1 + 1) (.slice none 0 0) (.map (some (W.heap.size + 1 + 1)))) qs v hgi (hq.below hb0) (fun k e hF => by have := hv k e; omega) (by simp only [List.length_nil]; unfold Nmax; omega))
  have HF : Hid (∀ e w', QPost (GI (W.heap.size + 1 + 1 + 1) (.slice none 0 0) (.map (some (W.heap.size + 1 + 1)))) (fun k => k = W.heap.size + 1 + 1 + 1 ∨ k = W.heap.size + 1 ∨ k = W.heap.size) [] W0 qs e w' → Below W.heap.size W w' ∧ MapN w' 9 (W.heap.size + 1 + 1) []) := fun e w' h => ⟨hb0.trans (h.1.up (K := W.heap.size) (fun k hk => by omega) hb0.size), b3.of (h.1.block _ b3.lt (by omega))⟩
  have hW0s : W.heap.size + 1 + 1 < W0.heap.size := b3.lt
  have HB := hide (newb_ok W)
  obtain ⟨ai, cap, rfl, -⟩ := hq
  unfold NPost
  cases hnd : needed 0 qs with
  | error y =>
    have hy : (((y.1 : Nat) : Int) != 0) = true := by simpa using needed_ne qs 0 hnd
    have HC : Hid (Calls Tryz.prog 17 #[.func (.func 16) #[.pointer (some ⟨W.heap.size + 1 + 1 + 1, 0, none⟩)] #[], .slice ai qs.length cap] W0 fun e w' => e = .returned (.tuple #[.int .i64 y.1, .int .i64 y.2.1, .int .i64 y.2.2]) ∧ Below W.heap.size W w') := hide (HQ.out.mono fun e w' h => by
      have h2 := h.2
      rw [hnd] at h2
      exact ⟨h2, (HF.out _ _ h).1⟩)
    obtain ⟨y1, y2, y3⟩ := y
    simp only at HC hy ⊢
    clear HQ HF b1 b2 b3 b4 hb0 a1 a2 a3 a4 hv hnd hgi hW0s
    generalize qs.length = n at *
    have hmm := mk_map
    go_enter Tryz.func5, Tryz.ntmps5
    go_wp2_with (first | (go_at_call 15; refine HB.out.mono ?_; rintro e w4 ⟨rfl, rfl⟩; clear HB) | (go_at_call 17; refine HC.out.mono ?_; rintro e w5 ⟨rfl, h5⟩; clear HC))
    exact bodyPost_ret (v := .tuple #[.pointer none, .int .i64 y1, .int .i64 y2, .int .i64 y3]) (by simp [results, Tryz.results5, go_sem]) rfl ⟨h5, rfl⟩
  | ok r =>
    have HC : Hid (Calls Tryz.prog 17 #[.func (.func 16) #[.pointer (some ⟨W.heap.size + 1 + 1 + 1, 0, none⟩)] #[], .slice ai qs.length cap] W0 fun e w' => e = .returned (.tuple #[.int .i64 0, .int .i64 0, .int .i64 0]) ∧ Hid (Below W.heap.size W w' ∧ ∃ mn F, GI (W.heap.size + 1 + 1 + 1) (.slice none 0 0) (.map (some mn)) F r w' ∧ MapN w' 9 mn [] ∧ ¬ F mn ∧ W.heap.size ≤ mn ∧ ∀ k, F k → W.heap.size ≤ k)) := hide (HQ.out.mono fun e w' h => by
      have h2 := h.2
      rw [hnd] at h2
      obtain ⟨h3, F', h4, h5⟩ := h2
      rw [List.nil_append] at h4
      obtain ⟨q1, q2⟩ := HF.out _ _ h
      refine ⟨h3, hide ⟨q1, _, F', h4, q2, fun hF => ?_, by omega, fun k hk => ?_⟩⟩
      · rcases h5 _ hF with h | h
        · omega
        · omega
      · rcases h5 k hk with h | h
        · omega
        · have := hb0.size
          omega)
    clear HQ HF b1 b2 b3 b4 hb0 a1 a2 a3 a4 hv hnd hgi hW0s
    generalize qs.length = n at *
    have hmm := mk_map
    go_enter Tryz.func5, Tryz.ntmps5
    go_wp2_with (first | (go_at_call 15; refine HB.out.mono ?_; rintro e w4 ⟨rfl, rfl⟩; clear HB) | (go_at_call 17; refine HC.out.mono ?_; rintro e w5 ⟨rfl, h5⟩; clear HC))
    obtain ⟨q1, mn, F, q2⟩ := h5.out
    exact bodyPost_ret (v := .tuple #[.pointer (some ⟨W.heap.size + 1 + 1 + 1, 0, none⟩), .int .i64 0, .int .i64 0, .int .i64 0]) (by simp [results, Tryz.results5, go_sem]) rfl ⟨q1, _, mn, F, rfl, q2⟩
end Go.Proofs.YtoahlnmhjinneaaGreatDoor
