import Derived.Lib.RuneBytes
import Derived.Test.YtigpjemceodjcaaDoorGan
import Derived.Test.YtigpjemceodjcaaDoorGaa
import Derived.Test.YtigpjemceodjcaaDoorGah
set_option linter.unusedVariables false
set_option linter.unusedSimpArgs false
set_option linter.unusedSimpArgs false
set_option linter.unusedVariables false
namespace Go.Proofs.YtigpjemceodjcaaDoor
open Go.RowKit Go.Maps Go.Lib
variable {w w' w1 w2 WO wr W : World} {A A' : Nat → Prop} {tS tP tS' tP' : TypeId} {v v' va vb : Value}

def Stps.get : Stps → Nat → Option Stp
  | .nil, _ => none
  | .cons d t p _, 0 => some ⟨d, t, p⟩
  | .cons _ _ _ m, i + 1 => m.get i
def Prds.get : Prds → Nat → Option Prd
  | .nil, _ => none
  | .cons o k s a t _, 0 => some ⟨o, k, s, a, t⟩
  | .cons _ _ _ _ _ m, i + 1 => m.get i
theorem Stps.get_lt : ∀ (s : Stps) (i : Nat), i < s.len → ∃ x, s.get i = some x
  | .nil, i, h => by simp [Stps.len] at h
  | .cons d t p m, 0, h => ⟨_, rfl⟩
  | .cons d t p m, i + 1, h => Stps.get_lt m i (by simp [Stps.len] at h; omega)
theorem Prds.get_lt : ∀ (s : Prds) (i : Nat), i < s.len → ∃ x, s.get i = some x
  | .nil, i, h => by simp [Prds.len] at h
  | .cons o k s a t m, 0, h => ⟨_, rfl⟩
  | .cons o k s a t m, i + 1, h => Prds.get_lt m i (by simp [Prds.len] at h; omega)
theorem rowS.at {g : Nat} : ∀ (s : Stps) (k i : Nat) (x : Stp), rowS w A tS tP g k s → s.get i = some x → w.cell? ⟨g, (k + i) * 3, none⟩ = some (.bool x.deep) ∧ w.cell? ⟨g, (k + i) * 3 + 1, none⟩ = some (.string (bs x.test)) ∧ ∃ v, w.cell? ⟨g, (k + i) * 3 + 2, none⟩ = some v ∧ slP w A tS tP v x.preds
  | .nil, k, i, x, h, hg => by simp [Stps.get] at hg
  | .cons d t p m, k, 0, x, h, hg => by
    simp only [Stps.get, Option.some.injEq] at hg
    subst hg
    simp only [rowS] at h
    exact ⟨h.1, h.2.1, h.2.2.1⟩
  | .cons d t p m, k, i + 1, x, h, hg => by
    simp only [rowS] at h
    have := rowS.at m (k + 1) i x h.2.2.2 hg
    rw [show k + 1 + i = k + (i + 1) by omega] at this
    exact this
theorem rowP.at {g : Nat} : ∀ (s : Prds) (k i : Nat) (x : Prd), rowP w A tS tP g k s → s.get i = some x → w.cell? ⟨g, (k + i) * 5, none⟩ = some (.string (bs x.op)) ∧ (∃ v, w.cell? ⟨g, (k + i) * 5 + 1, none⟩ = some v ∧ slP w A tS tP v x.kids) ∧ (∃ v, w.cell? ⟨g, (k + i) * 5 + 2, none⟩ = some v ∧ slS w A tS tP v x.steps) ∧ w.cell? ⟨g, (k + i) * 5 + 3, none⟩ = some (.string (bs x.attr)) ∧ w.cell? ⟨g, (k + i) * 5 + 4, none⟩ = some (.string (bs x.text))
  | .nil, k, i, x, h, hg => by simp [Prds.get] at hg
  | .cons o ks ss a t m, k, 0, x, h, hg => by
    simp only [Prds.get, Option.some.injEq] at hg
    subst hg
    simp only [rowP] at h
    exact ⟨h.1, h.2.1, h.2.2.1, h.2.2.2.1, h.2.2.2.2.1⟩
  | .cons o ks ss a t m, k, i + 1, x, h, hg => by
    simp only [rowP] at h
    have := rowP.at m (k + 1) i x h.2.2.2.2.2 hg
    rw [show k + 1 + i = k + (i + 1) by omega] at this
    exact this
theorem slS.len {s : Stps} (h : slS w A tS tP v s) : ∃ ai cap, v = .slice ai s.len cap ∧ s.len ≤ 1000 := by
  rcases h with ⟨h, rfl⟩ | ⟨g, cap, cur, rfl, _, _, hn, _⟩
  · exact ⟨_, _, by rw [h], by omega⟩
  · exact ⟨_, _, rfl, hn⟩
theorem slP.len {s : Prds} (h : slP w A tS tP v s) : ∃ ai cap, v = .slice ai s.len cap ∧ s.len ≤ 1000 := by
  rcases h with ⟨h, rfl⟩ | ⟨g, cap, cur, rfl, _, _, hn, _⟩
  · exact ⟨_, _, by rw [h], by omega⟩
  · exact ⟨_, _, rfl, hn⟩
theorem slS.at {s : Stps} {ai : Option Addr} {n cap i : Nat} {x : Stp} (h : slS w A tS tP (.slice ai n cap) s) (hx : s.get i = some x) : ∃ g, ai = some ⟨g, 0, none⟩ ∧ A g ∧ (∃ cur, w.heap[g]? = some (.cells cur tS (0, 0))) ∧ w.cell? ⟨g, i * 3, none⟩ = some (.bool x.deep) ∧ w.cell? ⟨g, i * 3 + 1, none⟩ = some (.string (bs x.test)) ∧ ∃ v, w.cell? ⟨g, i * 3 + 2, none⟩ = some v ∧ slP w A tS tP v x.preds := by
  rcases h with ⟨h, _⟩ | ⟨g, cap', cur, e, ha, hb, hn, h0, hr⟩
  · exfalso
    cases s with
    | nil => simp [Stps.get] at hx
    | cons d t p m => simp [Stps.len] at h
  · cases e
    have := rowS.at s 0 i x hr hx
    rw [Nat.zero_add] at this
    exact ⟨g, rfl, ha, ⟨cur, hb⟩, this⟩
theorem slP.at {s : Prds} {ai : Option Addr} {n cap i : Nat} {x : Prd} (h : slP w A tS tP (.slice ai n cap) s) (hx : s.get i = some x) : ∃ g, ai = some ⟨g, 0, none⟩ ∧ A g ∧ (∃ cur, w.heap[g]? = some (.cells cur tP (0, 0))) ∧ w.cell? ⟨g, i * 5, none⟩ = some (.string (bs x.op)) ∧ (∃ v, w.cell? ⟨g, i * 5 + 1, none⟩ = some v ∧ slP w A tS tP v x.kids) ∧ (∃ v, w.cell? ⟨g, i * 5 + 2, none⟩ = some v ∧ slS w A tS tP v x.steps) ∧ w.cell? ⟨g, i * 5 + 3, none⟩ = some (.string (bs x.attr)) ∧ w.cell? ⟨g, i * 5 + 4, none⟩ = some (.string (bs x.text)) := by
  rcases h with ⟨h, _⟩ | ⟨g, cap', cur, e, ha, hb, hn, h0, hr⟩
  · exfalso
    cases s with
    | nil => simp [Prds.get] at hx
    | cons o k s a t m => simp [Prds.len] at h
  · cases e
    have := rowP.at s 0 i x hr hx
    rw [Nat.zero_add] at this
    exact ⟨g, rfl, ha, ⟨cur, hb⟩, this⟩
theorem slS.drew {s : Stps} (h : slS w A tS tP v s) (n : Nat) : slS (w.drewN n) A tS tP v s := by
  have hm : Move A A w (w.drewN n) := fun b hb hl => ⟨hb, rfl⟩
  exact h.move hm
theorem slP.drew {s : Prds} (h : slP w A tS tP v s) (n : Nat) : slP (w.drewN n) A tS tP v s := by
  have hm : Move A A w (w.drewN n) := fun b hb hl => ⟨hb, rfl⟩
  exact h.move hm
def EqS (f : FuncId) (tS' tP' : TypeId) (s : Stps) : Prop := ∀ (w : World) (A A' : Nat → Prop) (va vb : Value), slS w A 53 71 va s → slS w A' tS' tP' vb s → Calls Tryd.prog f #[va, vb] w fun e w' => e = .returned (.bool true) ∧ ∃ m, w' = w.drewN m
def EqP (f : FuncId) (tS' tP' : TypeId) (s : Prds) : Prop := ∀ (w : World) (A A' : Nat → Prop) (va vb : Value), slP w A 53 71 va s → slP w A' tS' tP' vb s → Calls Tryd.prog f #[va, vb] w fun e w' => e = .returned (.bool true) ∧ ∃ m, w' = w.drewN m
set_option maxHeartbeats 16000000 in
set_option maxRecDepth 100000 in
theorem eqS_loop (s : Stps) (hs : ∀ i x, s.get i = some x → EqP 21 53 71 x.preds) : EqS 11 53 71 s := by
  intro w A A' va vb h1 h2
  obtain ⟨ai, ac, rfl, hn⟩ := h1.len
  obtain ⟨bi, bc, rfl, -⟩ := h2.len
  have HP : Hid (∀ m i, i < s.len → ∃ g1 g2 d T p1 p2, ai = some ⟨g1, 0, none⟩ ∧ bi = some ⟨g2, 0, none⟩ ∧ (((w.drewN m).cell? ⟨g1, i * 3, none⟩ = some (.bool d) ∧ (w.drewN m).cell? ⟨g1, i * 3 + 1, none⟩ = some (.string T) ∧ (w.drewN m).cell? ⟨g1, i * 3 + 2, none⟩ = some p1) ∧ ((w.drewN m).cell? ⟨g2, i * 3, none⟩ = some (.bool d) ∧ (w.drewN m).cell? ⟨g2, i * 3 + 1, none⟩ = some (.string T) ∧ (w.drewN m).cell? ⟨g2, i * 3 + 2, none⟩ = some p2)) ∧ ∀ k, Calls Tryd.prog 21 #[p1, p2] ((w.drewN m).drewN k) fun e w' => e = .returned (.bool true) ∧ ∃ j, w' = ((w.drewN m).drewN k).drewN j) := fun m i hi => by
    obtain ⟨x, hx⟩ := s.get_lt i hi
    obtain ⟨g1, e1, -, -, a0, a1, p1, a2, q1⟩ := h1.at hx
    obtain ⟨g2, e2, -, -, b0, b1, p2, b2, q2⟩ := h2.at hx
    exact ⟨g1, g2, _, _, p1, p2, e1, e2, ⟨⟨a0, a1, a2⟩, b0, b1, b2⟩, fun k => hs i x hx _ A A' p1 p2 ((q1.drew m).drew k) ((q2.drew m).drew k)⟩
  clear h1 h2 hs
  generalize s.len = n at *
  have hnn : ((n : Int) != n) = false := by simp
  go_enter Tryd.func11, Tryd.ntmps11
  go_wp2_with fail
  go_loopw [5, 6] (fun iv _ wr => ∃ i : Nat, iv = .int .i64 i ∧ i ≤ n ∧ ∃ m, wr = w.drewN m) (fun iv _ _ => n - (RowKit.intOf iv).toNat)
  case atStart => exact ⟨0, rfl, Nat.zero_le _, 0, rfl⟩
  case round =>
    obtain ⟨i, rfl, hi, m, rfl⟩ := hrel
    by_cases hlt : i < n
    · obtain ⟨g1, g2, d, T, p1, p2, rfl, rfl, ⟨⟨a0, a1, a2⟩, b0, b1, b2⟩, hcl⟩ := HP.out m i hlt
      have hdec : decide ((i : Int) < n) = true := by simp; omega
      have hii : (i : Int) < n := by omega
      have HCL := hide hcl
      clear hcl
      have HW : Hid (∀ k, ∃ m', (w.drewN m).drewN k = w.drewN m') := fun k => ⟨m + k, by rw [World.drewN_drewN]⟩
      clear HP
      generalize w.drewN m = WO at *
      have hTT : (T.toList == T.toList) = true := by simp
      cases d <;>
      · go_wp2_with fail
        go_quiet (first | (go_at_call 21; refine Calls.quiet_of (HCL.out _)))
        go_wp2
        go_quiet (fail)
        go_wp2
        exact ⟨⟨i + 1, by simp, by omega, HW.out _⟩, by simp only [RowKit.intOf]; omega⟩
    · have hdec : decide ((i : Int) < n) = false := by simp; omega
      go_wp2
      go_ret
      exact ⟨rfl, m, rfl⟩
set_option maxHeartbeats 16000000 in
set_option maxRecDepth 100000 in
theorem eqP_loop (s : Prds) (hs : ∀ i x, s.get i = some x → EqP 21 53 71 x.kids ∧ EqS 11 53 71 x.steps) : EqP 21 53 71 s := by
  intro w A A' va vb h1 h2
  obtain ⟨ai, ac, rfl, hn⟩ := h1.len
  obtain ⟨bi, bc, rfl, -⟩ := h2.len
  have HP : Hid (∀ m i, i < s.len → ∃ g1 g2 O AT T k1 k2 p1 p2, ai = some ⟨g1, 0, none⟩ ∧ bi = some ⟨g2, 0, none⟩ ∧ (((w.drewN m).cell? ⟨g1, i * 5, none⟩ = some (.string O) ∧ (w.drewN m).cell? ⟨g1, i * 5 + 1, none⟩ = some k1 ∧ (w.drewN m).cell? ⟨g1, i * 5 + 2, none⟩ = some p1 ∧ (w.drewN m).cell? ⟨g1, i * 5 + 3, none⟩ = some (.string AT) ∧ (w.drewN m).cell? ⟨g1, i * 5 + 4, none⟩ = some (.string T)) ∧ ((w.drewN m).cell? ⟨g2, i * 5, none⟩ = some (.string O) ∧ (w.drewN m).cell? ⟨g2, i * 5 + 1, none⟩ = some k2 ∧ (w.drewN m).cell? ⟨g2, i * 5 + 2, none⟩ = some p2 ∧ (w.drewN m).cell? ⟨g2, i * 5 + 3, none⟩ = some (.string AT) ∧ (w.drewN m).cell? ⟨g2, i * 5 + 4, none⟩ = some (.string T))) ∧ (∀ k, Calls Tryd.prog 21 #[k1, k2] ((w.drewN m).drewN k) fun e w' => e = .returned (.bool true) ∧ ∃ j, w' = ((w.drewN m).drewN k).drewN j) ∧ ∀ k, Calls Tryd.prog 11 #[p1, p2] ((w.drewN m).drewN k) fun e w' => e = .returned (.bool true) ∧ ∃ j, w' = ((w.drewN m).drewN k).drewN j) := fun m i hi => by
    obtain ⟨x, hx⟩ := s.get_lt i hi
    obtain ⟨g1, e1, -, -, a0, ⟨k1, a1, r1⟩, ⟨p1, a2, q1⟩, a3, a4⟩ := h1.at hx
    obtain ⟨g2, e2, -, -, b0, ⟨k2, b1, r2⟩, ⟨p2, b2, q2⟩, b3, b4⟩ := h2.at hx
    exact ⟨g1, g2, _, _, _, k1, k2, p1, p2, e1, e2, ⟨⟨a0, a1, a2, a3, a4⟩, b0, b1, b2, b3, b4⟩, fun k => (hs i x hx).1 _ A A' k1 k2 ((r1.drew m).drew k) ((r2.drew m).drew k), fun k => (hs i x hx).2 _ A A' p1 p2 ((q1.drew m).drew k) ((q2.drew m).drew k)⟩
  clear h1 h2 hs
  generalize s.len = n at *
  have hnn : ((n : Int) != n) = false := by simp
  go_enter Tryd.func21, Tryd.ntmps21
  go_wp2_with fail
  go_loopw [5, 6, 7] (fun iv _ _ wr => ∃ i : Nat, iv = .int .i64 i ∧ i ≤ n ∧ ∃ m, wr = w.drewN m) (fun iv _ _ _ => n - (RowKit.intOf iv).toNat)
  case atStart => exact ⟨0, rfl, Nat.zero_le _, 0, rfl⟩
  case round =>
    obtain ⟨i, rfl, hi, m, rfl⟩ := hrel
    by_cases hlt : i < n
    · obtain ⟨g1, g2, O, AT, T, k1, k2, p1, p2, rfl, rfl, ⟨⟨a0, a1, a2, a3, a4⟩, b0, b1, b2, b3, b4⟩, hck, hcl⟩ := HP.out m i hlt
      have hdec : decide ((i : Int) < n) = true := by simp; omega
      have hii : (i : Int) < n := by omega
      have HCL := hide hcl
      have HCK := hide hck
      clear hcl hck
      have HW : Hid (∀ k, ∃ m', (w.drewN m).drewN k = w.drewN m') := fun k => ⟨m + k, by rw [World.drewN_drewN]⟩
      clear HP
      generalize w.drewN m = WO at *
      have hTT : (T.toList == T.toList) = true := by simp
      have hOO : (O.toList == O.toList) = true := by simp
      have hAA : (AT.toList == AT.toList) = true := by simp
      go_wp2_with fail
      go_quiet (first | (go_at_call 21; refine Calls.quiet_of (HCK.out _)))
      go_wp2
      have HCL2 : Hid (∀ k, Calls Tryd.prog 11 #[p1, p2] ((WO.drewN nq).drewN k) fun e w' => e = .returned (.bool true) ∧ ∃ j, w' = ((WO.drewN nq).drewN k).drewN j) := fun k => by rw [World.drewN_drewN]; exact HCL.out _
      have HW2 : Hid (∀ k, ∃ m', (WO.drewN nq).drewN k = w.drewN m') := fun k => by rw [World.drewN_drewN]; exact HW.out _
      have HCE : Hid (((WO.drewN nq).cell? ⟨g1, i * 5, none⟩ = some (.string O) ∧ (WO.drewN nq).cell? ⟨g1, i * 5 + 2, none⟩ = some p1 ∧ (WO.drewN nq).cell? ⟨g1, i * 5 + 3, none⟩ = some (.string AT) ∧ (WO.drewN nq).cell? ⟨g1, i * 5 + 4, none⟩ = some (.string T)) ∧ ((WO.drewN nq).cell? ⟨g2, i * 5, none⟩ = some (.string O) ∧ (WO.drewN nq).cell? ⟨g2, i * 5 + 2, none⟩ = some p2 ∧ (WO.drewN nq).cell? ⟨g2, i * 5 + 3, none⟩ = some (.string AT) ∧ (WO.drewN nq).cell? ⟨g2, i * 5 + 4, none⟩ = some (.string T))) := ⟨⟨a0, a2, a3, a4⟩, b0, b2, b3, b4⟩
      clear HCL HCK HW a0 a1 a2 a3 a4 b0 b1 b2 b3 b4
      generalize WO.drewN nq = WP at *
      obtain ⟨⟨a0, a2, a3, a4⟩, b0, b2, b3, b4⟩ := HCE.out
      clear HCE
      go_quiet (first | (go_at_call 11; refine Calls.quiet_of (HCL2.out _)))
      go_wp2
      go_quiet (fail)
      go_wp2
      exact ⟨⟨i + 1, by simp, by omega, HW2.out _⟩, by simp only [RowKit.intOf]; omega⟩
    · have hdec : decide ((i : Int) < n) = false := by simp; omega
      go_wp2
      go_ret
      exact ⟨rfl, m, rfl⟩
theorem eq_all : (∀ s : Stps, ∀ i x, s.get i = some x → EqP 21 53 71 x.preds) ∧ ∀ s : Prds, ∀ i x, s.get i = some x → EqP 21 53 71 x.kids ∧ EqS 11 53 71 x.steps := by
  refine ⟨fun s => Stps.rec (motive_1 := fun s => ∀ i x, s.get i = some x → EqP 21 53 71 x.preds) (motive_2 := fun s => ∀ i x, s.get i = some x → EqP 21 53 71 x.kids ∧ EqS 11 53 71 x.steps) ?_ ?_ ?_ ?_ s, fun s => Prds.rec (motive_1 := fun s => ∀ i x, s.get i = some x → EqP 21 53 71 x.preds) (motive_2 := fun s => ∀ i x, s.get i = some x → EqP 21 53 71 x.kids ∧ EqS 11 53 71 x.steps) ?_ ?_ ?_ ?_ s⟩
  all_goals first
    | (intro i x h; cases h; done)
    | (intro d t p m ih1 ih2 i x h
       cases i with
       | zero => cases h; exact eqP_loop _ ih1
       | succ i => exact ih2 i x h)
    | (intro o k s a t m ih1 ih2 ih3 i x h
       cases i with
       | zero => cases h; exact ⟨eqP_loop _ ih1, eqS_loop _ ih2⟩
       | succ i => exact ih3 i x h)
theorem eqS_ok (s : Stps) : EqS 11 53 71 s := eqS_loop s (eq_all.1 s)
set_option maxHeartbeats 16000000 in
set_option maxRecDepth 100000 in
theorem smS_loop (s : Stps) (hs : ∀ i x, s.get i = some x → EqP 34 69 80 x.preds) : EqS 20 69 80 s := by
  intro w A A' va vb h1 h2
  obtain ⟨ai, ac, rfl, hn⟩ := h1.len
  obtain ⟨bi, bc, rfl, -⟩ := h2.len
  have HP : Hid (∀ m i, i < s.len → ∃ g1 g2 d T p1 p2, ai = some ⟨g1, 0, none⟩ ∧ bi = some ⟨g2, 0, none⟩ ∧ (((w.drewN m).cell? ⟨g1, i * 3, none⟩ = some (.bool d) ∧ (w.drewN m).cell? ⟨g1, i * 3 + 1, none⟩ = some (.string T) ∧ (w.drewN m).cell? ⟨g1, i * 3 + 2, none⟩ = some p1) ∧ ((w.drewN m).cell? ⟨g2, i * 3, none⟩ = some (.bool d) ∧ (w.drewN m).cell? ⟨g2, i * 3 + 1, none⟩ = some (.string T) ∧ (w.drewN m).cell? ⟨g2, i * 3 + 2, none⟩ = some p2)) ∧ ∀ k, Calls Tryd.prog 34 #[p1, p2] ((w.drewN m).drewN k) fun e w' => e = .returned (.bool true) ∧ ∃ j, w' = ((w.drewN m).drewN k).drewN j) := fun m i hi => by
    obtain ⟨x, hx⟩ := s.get_lt i hi
    obtain ⟨g1, e1, -, -, a0, a1, p1, a2, q1⟩ := h1.at hx
    obtain ⟨g2, e2, -, -, b0, b1, p2, b2, q2⟩ := h2.at hx
    exact ⟨g1, g2, _, _, p1, p2, e1, e2, ⟨⟨a0, a1, a2⟩, b0, b1, b2⟩, fun k => hs i x hx _ A A' p1 p2 ((q1.drew m).drew k) ((q2.drew m).drew k)⟩
  clear h1 h2 hs
  generalize s.len = n at *
  have hnn : ((n : Int) != n) = false := by simp
  go_enter Tryd.func20, Tryd.ntmps20
  go_wp2_with fail
  go_loopw [5, 6] (fun iv _ wr => ∃ i : Nat, iv = .int .i64 i ∧ i ≤ n ∧ ∃ m, wr = w.drewN m) (fun iv _ _ => n - (RowKit.intOf iv).toNat)
  case atStart => exact ⟨0, rfl, Nat.zero_le _, 0, rfl⟩
  case round =>
    obtain ⟨i, rfl, hi, m, rfl⟩ := hrel
    by_cases hlt : i < n
    · obtain ⟨g1, g2, d, T, p1, p2, rfl, rfl, ⟨⟨a0, a1, a2⟩, b0, b1, b2⟩, hcl⟩ := HP.out m i hlt
      have hdec : decide ((i : Int) < n) = true := by simp; omega
      have hii : (i : Int) < n := by omega
      have HCL := hide hcl
      clear hcl
      have HW : Hid (∀ k, ∃ m', (w.drewN m).drewN k = w.drewN m') := fun k => ⟨m + k, by rw [World.drewN_drewN]⟩
      clear HP
      generalize w.drewN m = WO at *
      have hTT : (T.toList == T.toList) = true := by simp
      cases d <;>
      · go_wp2_with fail
        go_quiet (first | (go_at_call 34; refine Calls.quiet_of (HCL.out _)))
        go_wp2
        go_quiet (fail)
        go_wp2
        exact ⟨⟨i + 1, by simp, by omega, HW.out _⟩, by simp only [RowKit.intOf]; omega⟩
    · have hdec : decide ((i : Int) < n) = false := by simp; omega
      go_wp2
      go_ret
      exact ⟨rfl, m, rfl⟩
set_option maxHeartbeats 16000000 in
set_option maxRecDepth 100000 in
theorem smP_loop (s : Prds) (hs : ∀ i x, s.get i = some x → EqP 34 69 80 x.kids ∧ EqS 20 69 80 x.steps) : EqP 34 69 80 s := by
  intro w A A' va vb h1 h2
  obtain ⟨ai, ac, rfl, hn⟩ := h1.len
  obtain ⟨bi, bc, rfl, -⟩ := h2.len
  have HP : Hid (∀ m i, i < s.len → ∃ g1 g2 O AT T k1 k2 p1 p2, ai = some ⟨g1, 0, none⟩ ∧ bi = some ⟨g2, 0, none⟩ ∧ (((w.drewN m).cell? ⟨g1, i * 5, none⟩ = some (.string O) ∧ (w.drewN m).cell? ⟨g1, i * 5 + 1, none⟩ = some k1 ∧ (w.drewN m).cell? ⟨g1, i * 5 + 2, none⟩ = some p1 ∧ (w.drewN m).cell? ⟨g1, i * 5 + 3, none⟩ = some (.string AT) ∧ (w.drewN m).cell? ⟨g1, i * 5 + 4, none⟩ = some (.string T)) ∧ ((w.drewN m).cell? ⟨g2, i * 5, none⟩ = some (.string O) ∧ (w.drewN m).cell? ⟨g2, i * 5 + 1, none⟩ = some k2 ∧ (w.drewN m).cell? ⟨g2, i * 5 + 2, none⟩ = some p2 ∧ (w.drewN m).cell? ⟨g2, i * 5 + 3, none⟩ = some (.string AT) ∧ (w.drewN m).cell? ⟨g2, i * 5 + 4, none⟩ = some (.string T))) ∧ (∀ k, Calls Tryd.prog 34 #[k1, k2] ((w.drewN m).drewN k) fun e w' => e = .returned (.bool true) ∧ ∃ j, w' = ((w.drewN m).drewN k).drewN j) ∧ ∀ k, Calls Tryd.prog 20 #[p1, p2] ((w.drewN m).drewN k) fun e w' => e = .returned (.bool true) ∧ ∃ j, w' = ((w.drewN m).drewN k).drewN j) := fun m i hi => by
    obtain ⟨x, hx⟩ := s.get_lt i hi
    obtain ⟨g1, e1, -, -, a0, ⟨k1, a1, r1⟩, ⟨p1, a2, q1⟩, a3, a4⟩ := h1.at hx
    obtain ⟨g2, e2, -, -, b0, ⟨k2, b1, r2⟩, ⟨p2, b2, q2⟩, b3, b4⟩ := h2.at hx
    exact ⟨g1, g2, _, _, _, k1, k2, p1, p2, e1, e2, ⟨⟨a0, a1, a2, a3, a4⟩, b0, b1, b2, b3, b4⟩, fun k => (hs i x hx).1 _ A A' k1 k2 ((r1.drew m).drew k) ((r2.drew m).drew k), fun k => (hs i x hx).2 _ A A' p1 p2 ((q1.drew m).drew k) ((q2.drew m).drew k)⟩
  clear h1 h2 hs
  generalize s.len = n at *
  have hnn : ((n : Int) != n) = false := by simp
  go_enter Tryd.func34, Tryd.ntmps34
  go_wp2_with fail
  go_loopw [5, 6, 7] (fun iv _ _ wr => ∃ i : Nat, iv = .int .i64 i ∧ i ≤ n ∧ ∃ m, wr = w.drewN m) (fun iv _ _ _ => n - (RowKit.intOf iv).toNat)
  case atStart => exact ⟨0, rfl, Nat.zero_le _, 0, rfl⟩
  case round =>
    obtain ⟨i, rfl, hi, m, rfl⟩ := hrel
    by_cases hlt : i < n
    · obtain ⟨g1, g2, O, AT, T, k1, k2, p1, p2, rfl, rfl, ⟨⟨a0, a1, a2, a3, a4⟩, b0, b1, b2, b3, b4⟩, hck, hcl⟩ := HP.out m i hlt
      have hdec : decide ((i : Int) < n) = true := by simp; omega
      have hii : (i : Int) < n := by omega
      have HCL := hide hcl
      have HCK := hide hck
      clear hcl hck
      have HW : Hid (∀ k, ∃ m', (w.drewN m).drewN k = w.drewN m') := fun k => ⟨m + k, by rw [World.drewN_drewN]⟩
      clear HP
      generalize w.drewN m = WO at *
      have hTT : (T.toList == T.toList) = true := by simp
      have hOO : (O.toList == O.toList) = true := by simp
      have hAA : (AT.toList == AT.toList) = true := by simp
      go_wp2_with fail
      go_quiet (first | (go_at_call 34; refine Calls.quiet_of (HCK.out _)))
      go_wp2
      have HCL2 : Hid (∀ k, Calls Tryd.prog 20 #[p1, p2] ((WO.drewN nq).drewN k) fun e w' => e = .returned (.bool true) ∧ ∃ j, w' = ((WO.drewN nq).drewN k).drewN j) := fun k => by rw [World.drewN_drewN]; exact HCL.out _
      have HW2 : Hid (∀ k, ∃ m', (WO.drewN nq).drewN k = w.drewN m') := fun k => by rw [World.drewN_drewN]; exact HW.out _
      have HCE : Hid (((WO.drewN nq).cell? ⟨g1, i * 5, none⟩ = some (.string O) ∧ (WO.drewN nq).cell? ⟨g1, i * 5 + 2, none⟩ = some p1 ∧ (WO.drewN nq).cell? ⟨g1, i * 5 + 3, none⟩ = some (.string AT) ∧ (WO.drewN nq).cell? ⟨g1, i * 5 + 4, none⟩ = some (.string T)) ∧ ((WO.drewN nq).cell? ⟨g2, i * 5, none⟩ = some (.string O) ∧ (WO.drewN nq).cell? ⟨g2, i * 5 + 2, none⟩ = some p2 ∧ (WO.drewN nq).cell? ⟨g2, i * 5 + 3, none⟩ = some (.string AT) ∧ (WO.drewN nq).cell? ⟨g2, i * 5 + 4, none⟩ = some (.string T))) := ⟨⟨a0, a2, a3, a4⟩, b0, b2, b3, b4⟩
      clear HCL HCK HW a0 a1 a2 a3 a4 b0 b1 b2 b3 b4
      generalize WO.drewN nq = WP at *
      obtain ⟨⟨a0, a2, a3, a4⟩, b0, b2, b3, b4⟩ := HCE.out
      clear HCE
      go_quiet (first | (go_at_call 20; refine Calls.quiet_of (HCL2.out _)))
      go_wp2
      go_quiet (fail)
      go_wp2
      exact ⟨⟨i + 1, by simp, by omega, HW2.out _⟩, by simp only [RowKit.intOf]; omega⟩
    · have hdec : decide ((i : Int) < n) = false := by simp; omega
      go_wp2
      go_ret
      exact ⟨rfl, m, rfl⟩
theorem sm_all : (∀ s : Stps, ∀ i x, s.get i = some x → EqP 34 69 80 x.preds) ∧ ∀ s : Prds, ∀ i x, s.get i = some x → EqP 34 69 80 x.kids ∧ EqS 20 69 80 x.steps := by
  refine ⟨fun s => Stps.rec (motive_1 := fun s => ∀ i x, s.get i = some x → EqP 34 69 80 x.preds) (motive_2 := fun s => ∀ i x, s.get i = some x → EqP 34 69 80 x.kids ∧ EqS 20 69 80 x.steps) ?_ ?_ ?_ ?_ s, fun s => Prds.rec (motive_1 := fun s => ∀ i x, s.get i = some x → EqP 34 69 80 x.preds) (motive_2 := fun s => ∀ i x, s.get i = some x → EqP 34 69 80 x.kids ∧ EqS 20 69 80 x.steps) ?_ ?_ ?_ ?_ s⟩
  all_goals first
    | (intro i x h; cases h; done)
    | (intro d t p m ih1 ih2 i x h
       cases i with
       | zero => cases h; exact smP_loop _ ih1
       | succ i => exact ih2 i x h)
    | (intro o k s a t m ih1 ih2 ih3 i x h
       cases i with
       | zero => cases h; exact ⟨smP_loop _ ih1, smS_loop _ ih2⟩
       | succ i => exact ih3 i x h)
theorem smS_ok (s : Stps) : EqS 20 69 80 s := smS_loop s (sm_all.1 s)
end Go.Proofs.YtigpjemceodjcaaDoor

namespace Go.Proofs.YtigpjemceodjcaaDoor.Ch
open Go
def numFrom (u : ByteArray) (b : Int) : Nat → Nat → Int → Int × Int
  | 0, _, _ => (0, 0)
  | f + 1, pos, n =>
    if bz u pos = 59 then (if may n = true then (n, (pos : Int) + 1) else (0, 0))
    else if b ≤ dig 16 (bz u pos) then (0, 0)
    else numFrom u b f (pos + 1) (if n ≤ 1114111 then n * b + dig 16 (bz u pos) else n)
def num (u : ByteArray) (b : Int) : Int × Int := numFrom u b (u.size + 1) 0 0
end Go.Proofs.YtigpjemceodjcaaDoor.Ch

namespace Go.Proofs.YtigpjemceodjcaaDoor.Ch
open Go
def bytes (s : ByteArray) (i n : Nat) : List UInt8 := (s.data.toList.drop i).take n
end Go.Proofs.YtigpjemceodjcaaDoor.Ch

namespace Go.Proofs.YtigpjemceodjcaaDoor.Ch
open Go
theorem bytes_high {s : ByteArray} {i : Nat} (hi : i < s.size) (h : 128 ≤ bz s i) : ∀ j, i ≤ j → j < i + (Utf8.decode s i).2 → 128 ≤ bz s j := by
  have one : ∀ j, i ≤ j → j < i + 1 → 128 ≤ bz s j := fun j a b => by
    obtain rfl : i = j := by omega
    exact h
  by_cases a2 : bz s i < 192
  · rw [decode_none (Or.inl ⟨h, a2⟩)]; exact one
  by_cases a3 : bz s i < 224
  · by_cases c1 : cont s (i + 1)
    · rw [decode_two (by omega) a3 c1]
      split
      · intro j x y
        unfold cont at c1
        have : j = i ∨ j = i + 1 := by omega
        rcases this with rfl | rfl <;> omega
      · exact one
    · rw [decode_two_no (by omega) a3 c1]; exact one
  by_cases a4 : bz s i < 240
  · by_cases c1 : cont s (i + 1)
    · by_cases c2 : cont s (i + 2)
      · rw [decode_three (by omega) a4 c1 c2]
        split
        · intro j x y
          unfold cont at c1 c2
          have : j = i ∨ j = i + 1 ∨ j = i + 2 := by omega
          rcases this with rfl | rfl | rfl <;> omega
        · exact one
      · rw [decode_three_no (by omega) a4 (Or.inr c2)]; exact one
    · rw [decode_three_no (by omega) a4 (Or.inl c1)]; exact one
  by_cases a5 : bz s i < 248
  · by_cases c1 : cont s (i + 1)
    · by_cases c2 : cont s (i + 2)
      · by_cases c3 : cont s (i + 3)
        · rw [decode_four (by omega) a5 c1 c2 c3]
          split
          · intro j x y
            unfold cont at c1 c2 c3
            have : j = i ∨ j = i + 1 ∨ j = i + 2 ∨ j = i + 3 := by omega
            rcases this with rfl | rfl | rfl | rfl <;> omega
          · exact one
        · rw [decode_four_no (by omega) a5 (Or.inr (Or.inr c3))]; exact one
      · rw [decode_four_no (by omega) a5 (Or.inr (Or.inl c2))]; exact one
    · rw [decode_four_no (by omega) a5 (Or.inl c1)]; exact one
  · rw [decode_none (Or.inr (by omega))]; exact one
end Go.Proofs.YtigpjemceodjcaaDoor.Ch

namespace Go.Proofs.YtigpjemceodjcaaDoor.Ch
open Go
theorem decode_same {s t : ByteArray} {i j : Nat} (h0 : bz s i = bz t j) (hge : 128 ≤ bz s i)
    (h1 : cont s (i + 1) → bz s (i + 1) = bz t (j + 1)) (n1 : ¬ cont s (i + 1) → ¬ cont t (j + 1))
    (h2 : cont s (i + 1) → cont s (i + 2) → bz s (i + 2) = bz t (j + 2)) (n2 : cont s (i + 1) → ¬ cont s (i + 2) → ¬ cont t (j + 2))
    (h3 : cont s (i + 1) → cont s (i + 2) → cont s (i + 3) → bz s (i + 3) = bz t (j + 3)) (n3 : cont s (i + 1) → cont s (i + 2) → ¬ cont s (i + 3) → ¬ cont t (j + 3)) :
    Utf8.decode t j = Utf8.decode s i := by
  have c1 : ∀ (h : cont s (i + 1)), cont t (j + 1) := fun h => by unfold cont at *; rw [← h1 h]; exact h
  have c2 : ∀ (h : cont s (i + 1)), cont s (i + 2) → cont t (j + 2) := fun h k => by unfold cont at *; rw [← h2 h k]; exact k
  have c3 : ∀ (h : cont s (i + 1)), cont s (i + 2) → cont s (i + 3) → cont t (j + 3) := fun h k l => by unfold cont at *; rw [← h3 h k l]; exact l
  by_cases a2 : bz s i < 192
  · rw [decode_none (Or.inl ⟨hge, a2⟩), decode_none (Or.inl ⟨by omega, by omega⟩)]
  by_cases a3 : bz s i < 224
  · by_cases k1 : cont s (i + 1)
    · rw [decode_two (by omega) a3 k1, decode_two (by omega) (by omega) (c1 k1)]
      simp only [acc, Nat.zero_add, h0, h1 k1]
    · rw [decode_two_no (by omega) a3 k1, decode_two_no (by omega) (by omega) (n1 k1)]
  by_cases a4 : bz s i < 240
  · by_cases k1 : cont s (i + 1)
    · by_cases k2 : cont s (i + 2)
      · rw [decode_three (by omega) a4 k1 k2, decode_three (by omega) (by omega) (c1 k1) (c2 k1 k2)]
        simp only [acc, Nat.zero_add, Nat.reduceAdd, h0, h1 k1, h2 k1 k2]
      · rw [decode_three_no (by omega) a4 (Or.inr k2), decode_three_no (by omega) (by omega) (Or.inr (n2 k1 k2))]
    · rw [decode_three_no (by omega) a4 (Or.inl k1), decode_three_no (by omega) (by omega) (Or.inl (n1 k1))]
  by_cases a5 : bz s i < 248
  · by_cases k1 : cont s (i + 1)
    · by_cases k2 : cont s (i + 2)
      · by_cases k3 : cont s (i + 3)
        · rw [decode_four (by omega) a5 k1 k2 k3, decode_four (by omega) (by omega) (c1 k1) (c2 k1 k2) (c3 k1 k2 k3)]
          simp only [acc, Nat.zero_add, Nat.reduceAdd, h0, h1 k1, h2 k1 k2, h3 k1 k2 k3]
        · rw [decode_four_no (by omega) a5 (Or.inr (Or.inr k3)), decode_four_no (by omega) (by omega) (Or.inr (Or.inr (n3 k1 k2 k3)))]
      · rw [decode_four_no (by omega) a5 (Or.inr (Or.inl k2)), decode_four_no (by omega) (by omega) (Or.inr (Or.inl (n2 k1 k2)))]
    · rw [decode_four_no (by omega) a5 (Or.inl k1), decode_four_no (by omega) (by omega) (Or.inl (n1 k1))]
  · rw [decode_none (Or.inr (by omega)), decode_none (Or.inr (by omega))]
def txt (l : List UInt8) : ByteArray := ⟨l.toArray⟩
theorem bz_txt (l : List UInt8) (i : Nat) : bz (txt l) i = (match l[i]? with | some c => (c.toNat : Int) | none => -1) := by
  unfold bz
  have hs : (txt l).size = l.length := by show l.toArray.size = _; simp
  rw [hs]
  by_cases h : i < l.length
  · rw [if_pos h, List.getElem?_eq_getElem h]
    have h2 : i < (txt l).size := by rw [hs]; exact h
    have e : (txt l).get! i = (txt l)[i] := by simp [ByteArray.get!, h2]; rfl
    rw [e]
    have e2 : (txt l)[i] = l[i] := rfl
    rw [e2]
    rfl
  · rw [if_neg h, List.getElem?_eq_none (by omega)]
theorem bz_app (a b : List UInt8) (i : Nat) : bz (txt (a ++ b)) (a.length + i) = bz (txt b) i := by
  rw [bz_txt, bz_txt, List.getElem?_append_right (by omega), Nat.add_sub_cancel_left]
theorem bz_app_left (a b : List UInt8) (i : Nat) (h : i < a.length) : bz (txt (a ++ b)) i = bz (txt a) i := by
  rw [bz_txt, bz_txt, List.getElem?_append_left h]
theorem bz_head (c : UInt8) (l : List UInt8) : bz (txt (c :: l)) 0 = (c.toNat : Int) := by
  rw [bz_txt]; rfl
theorem decode_shift {s t : ByteArray} {i j : Nat} (hi : i < s.size) (h : ∀ k, bz s (i + k) = bz t (j + k)) : Utf8.decode t j = Utf8.decode s i := by
  have h0 := h 0
  simp only [Nat.add_zero] at h0
  have hs0 : 0 ≤ bz s i := by unfold bz; rw [if_pos hi]; omega
  by_cases ha : bz s i < 128
  · rw [decode_one hs0 ha, decode_one (by omega) (by omega), h0]
  · have hc : ∀ k, cont s (i + k) ↔ cont t (j + k) := fun k => by unfold cont; rw [h k]
    exact decode_same h0 (by omega) (fun _ => h 1) (fun n q => n ((hc 1).2 q)) (fun _ _ => h 2) (fun _ n q => n ((hc 2).2 q)) (fun _ _ _ => h 3) (fun _ _ n q => n ((hc 3).2 q))
end Go.Proofs.YtigpjemceodjcaaDoor.Ch

namespace Go.Proofs.YtigpjemceodjcaaDoor.Ch
open Go
theorem decode_prefix {s t : ByteArray} {i j : Nat} (h : i < s.size) (ho : okAt s i = true) (hb : ∀ k, k < (Utf8.decode s i).2 → bz s (i + k) = bz t (j + k)) : Utf8.decode t j = Utf8.decode s i := by
  have h0 : 0 ≤ bz s i := by unfold bz; rw [if_pos h]; omega
  have hbd := bz_bd s i
  have nb : Utf8.decode s i ≠ (65533, 1) := fun e => by rw [okAt_bad e] at ho; cases ho
  have hw := decode_width s i h
  have b0 := hb 0 (by omega)
  simp only [Nat.add_zero] at b0
  by_cases a1 : bz s i < 128
  · rw [decode_one h0 a1, decode_one (by omega) (by omega), b0]
  by_cases a2 : bz s i < 192
  · exact absurd (decode_none (Or.inl ⟨by omega, a2⟩)) nb
  by_cases a3 : bz s i < 224
  · by_cases c1 : cont s (i + 1)
    · have hd := decode_two (by omega) a3 c1
      by_cases hz : 128 ≤ acc s i (bz s i - 192) 1
      · rw [if_pos hz] at hd
        rw [hd] at hb
        have b1 := hb 1 (by simp)
        have d1 : cont t (j + 1) := by unfold cont at *; rw [← b1]; exact c1
        rw [decode_two (by omega) a3 c1, decode_two (by omega) (by omega) d1]
        simp only [acc, Nat.zero_add, b0, b1]
      · rw [if_neg hz] at hd; exact absurd hd nb
    · exact absurd (decode_two_no (by omega) a3 c1) nb
  by_cases a4 : bz s i < 240
  · by_cases c1 : cont s (i + 1)
    · by_cases c2 : cont s (i + 2)
      · have hd := decode_three (by omega) a4 c1 c2
        by_cases hz : 2048 ≤ acc s i (bz s i - 224) 2 ∧ Utf8.valid (acc s i (bz s i - 224) 2) = true
        · rw [if_pos hz] at hd
          rw [hd] at hb
          have b1 := hb 1 (by simp)
          have b2 := hb 2 (by simp)
          have d1 : cont t (j + 1) := by unfold cont at *; rw [← b1]; exact c1
          have d2 : cont t (j + 2) := by unfold cont at *; rw [← b2]; exact c2
          rw [decode_three (by omega) a4 c1 c2, decode_three (by omega) (by omega) d1 d2]
          simp only [acc, Nat.zero_add, Nat.reduceAdd, b0, b1, b2]
        · rw [if_neg hz] at hd; exact absurd hd nb
      · exact absurd (decode_three_no (by omega) a4 (Or.inr c2)) nb
    · exact absurd (decode_three_no (by omega) a4 (Or.inl c1)) nb
  by_cases a5 : bz s i < 248
  · by_cases c1 : cont s (i + 1)
    · by_cases c2 : cont s (i + 2)
      · by_cases c3 : cont s (i + 3)
        · have hd := decode_four (by omega) a5 c1 c2 c3
          by_cases hz : 65536 ≤ acc s i (bz s i - 240) 3 ∧ Utf8.valid (acc s i (bz s i - 240) 3) = true
          · rw [if_pos hz] at hd
            rw [hd] at hb
            have b1 := hb 1 (by simp)
            have b2 := hb 2 (by simp)
            have b3 := hb 3 (by simp)
            have d1 : cont t (j + 1) := by unfold cont at *; rw [← b1]; exact c1
            have d2 : cont t (j + 2) := by unfold cont at *; rw [← b2]; exact c2
            have d3 : cont t (j + 3) := by unfold cont at *; rw [← b3]; exact c3
            rw [decode_four (by omega) a5 c1 c2 c3, decode_four (by omega) (by omega) d1 d2 d3]
            simp only [acc, Nat.zero_add, Nat.reduceAdd, b0, b1, b2, b3]
          · rw [if_neg hz] at hd; exact absurd hd nb
        · exact absurd (decode_four_no (by omega) a5 (Or.inr (Or.inr c3))) nb
      · exact absurd (decode_four_no (by omega) a5 (Or.inr (Or.inl c2))) nb
    · exact absurd (decode_four_no (by omega) a5 (Or.inl c1)) nb
  · exact absurd (decode_none (Or.inr (by omega))) nb
theorem okSame {s t : ByteArray} {i j : Nat} (h : Utf8.decode t j = Utf8.decode s i) : okAt t j = okAt s i := by
  unfold okAt; rw [h]
section
variable {a b ab : ByteArray}
def joined (a b ab : ByteArray) : Prop := ab.size = a.size + b.size ∧ (∀ k, k < a.size → bz ab k = bz a k) ∧ ∀ k, bz ab (a.size + k) = bz b k
theorem join_ok (hj : joined a b ab) {p : Nat} (hp : p < a.size) (ho : okAt a p = true) : Utf8.decode ab p = Utf8.decode a p := by
  have hw := decode_width a p hp
  exact decode_prefix hp ho (fun k hk => (hj.2.1 (p + k) (by omega)).symm)
theorem join_second (hj : joined a b ab) {k : Nat} (hk : k < b.size) : Utf8.decode ab (a.size + k) = Utf8.decode b k :=
  decode_shift (s := b) (t := ab) (i := k) (j := a.size + k) hk (fun i => by rw [Nat.add_assoc, hj.2.2])
theorem badFrom_ge (s : ByteArray) : ∀ f p, p ≤ s.size → p ≤ badFrom s f p := by
  intro f
  induction f with
  | zero => intro p _; exact Nat.le_refl _
  | succ f ih =>
    intro p hp
    rw [badFrom.eq_2]
    by_cases h : p < s.size
    · have hw := decode_width s p h
      rw [if_pos h]
      split
      · have := ih (p + (Utf8.decode s p).2) hw.1; omega
      · omega
    · rw [if_neg h]; exact hp
theorem nameFrom_le (s : ByteArray) : ∀ f p, p ≤ s.size → nameFrom s f p ≤ s.size := by
  intro f
  induction f with
  | zero => intro p h; exact h
  | succ f ih =>
    intro p h
    rw [nameFrom.eq_2]
    by_cases hp : p < s.size
    · rw [if_pos hp]
      split
      · exact ih _ (decode_width s p hp).1
      · exact h
    · rw [if_neg hp]; exact Nat.le_refl _
theorem badFrom_fuel (s : ByteArray) : ∀ F F' p, p ≤ s.size → s.size < p + F → s.size < p + F' → badFrom s F p = badFrom s F' p := by
  intro F
  induction F with
  | zero => intro F' p h0 h h'; omega
  | succ F ih =>
    intro F' p h0 h h'
    obtain ⟨F', rfl⟩ : ∃ k, F' = k + 1 := ⟨F' - 1, by omega⟩
    rw [badFrom.eq_2, badFrom.eq_2]
    by_cases hp : p < s.size
    · have hw := decode_width s p hp
      rw [if_pos hp, if_pos hp]
      split
      · exact ih F' _ hw.1 (by omega) (by omega)
      · rfl
    · rw [if_neg hp, if_neg hp]
theorem bad_second (hj : joined a b ab) : ∀ F k, k ≤ b.size → badFrom ab F (a.size + k) = if F = 0 then a.size + k else a.size + badFrom b F k := by
  intro F
  induction F with
  | zero => intro k _; rfl
  | succ F ih =>
    intro k hk
    rw [if_neg (by omega), badFrom.eq_2, badFrom.eq_2]
    by_cases h : k < b.size
    · have hd := join_second hj h
      have hw := decode_width b k h
      rw [if_pos (by rw [hj.1]; omega), if_pos h, okSame hd, hd]
      split
      · rw [Nat.add_assoc, ih _ hw.1]
        split
        · rename_i e; subst e; rfl
        · rfl
      · rfl
    · rw [if_neg (by rw [hj.1]; omega), if_neg h, hj.1]
theorem bad_first (hj : joined a b ab) : ∀ f p F, p ≤ a.size → a.size < p + f → ab.size < p + F →
    badFrom a f p ≤ badFrom ab F p ∧ (badFrom a f p = a.size → badFrom ab F p = a.size + bad b) := by
  intro f
  induction f with
  | zero => intro p F h1 h2; omega
  | succ f ih =>
    intro p F h1 h2 h3
    have hsz := hj.1
    obtain ⟨F, rfl⟩ : ∃ k, F = k + 1 := ⟨F - 1, by omega⟩
    by_cases hp : p < a.size
    · have hw := decode_width a p hp
      cases hok : okAt a p
      · have e : badFrom a (f + 1) p = p := by rw [badFrom.eq_2, if_pos hp, if_neg (by rw [hok]; decide)]
        rw [e]
        exact ⟨badFrom_ge ab _ _ (by omega), fun h => by omega⟩
      · have hd := join_ok hj hp hok
        have e : badFrom a (f + 1) p = badFrom a f (p + (Utf8.decode a p).2) := by rw [badFrom.eq_2, if_pos hp, if_pos hok]
        have e2 : badFrom ab (F + 1) p = badFrom ab F (p + (Utf8.decode a p).2) := by
          rw [badFrom.eq_2, if_pos (by omega), if_pos (by rw [okSame hd]; exact hok), hd]
        rw [e, e2]
        exact ih _ _ hw.1 (by omega) (by omega)
    · obtain rfl : p = a.size := by omega
      have e : badFrom a (f + 1) a.size = a.size := by rw [badFrom.eq_2, if_neg hp]
      have e2 : badFrom ab (F + 1) a.size = a.size + badFrom b (F + 1) 0 := by
        have h := bad_second hj (F + 1) 0 (by omega)
        rw [if_neg (by omega)] at h
        exact h
      rw [e, e2]
      refine ⟨by omega, fun _ => ?_⟩
      rw [bad, badFrom_fuel b (F + 1) (b.size + 1) 0 (by omega) (by omega) (by omega)]
theorem inName_same {s t : ByteArray} {p : Nat} (h : Utf8.decode t p = Utf8.decode s p) : inName t p = inName s p := by
  unfold inName; rw [okSame h, h]
end
end Go.Proofs.YtigpjemceodjcaaDoor.Ch

set_option linter.unusedSimpArgs false
set_option linter.unusedVariables false
namespace Go.Proofs.YtigpjemceodjcaaDoor
open Go

variable {q l r T a b : L} {c : UInt8}
theorem bsz (l : L) : (bs l).size = l.length := by simp [bs, ByteArray.size]
theorem jn (a b : L) : Ch.joined (bs a) (bs b) (bs (a ++ b)) := ⟨by simp [bsz], fun k hk => Ch.bz_app_left a b k (by simpa [bsz] using hk), fun k => by rw [bsz]; exact Ch.bz_app a b k⟩
def Gd (l : L) : Prop := Ch.bad (bs l) = l.length
def wd (l : L) : Nat := (Utf8.decode (bs l) 0).2
theorem gd_from {p f : Nat} (hp : p ≤ l.length) (hf : l.length < p + f) (h : Ch.badFrom (bs l) f p = l.length) : Gd (l.drop p) := by
  have hj := jn (l.take p) (l.drop p)
  rw [List.take_append_drop] at hj
  have h2 := Ch.bad_second hj f 0 (Nat.zero_le _)
  rw [if_neg (by omega), bsz, List.length_take, Nat.min_eq_left hp, Nat.add_zero, h] at h2
  unfold Gd Ch.bad
  rw [Ch.badFrom_fuel (bs (l.drop p)) _ f 0 (Nat.zero_le _) (by omega) (by rw [bsz, List.length_drop]; omega), List.length_drop]
  omega
theorem gd_step (h : Gd l) (hl : l ≠ []) : Ch.okAt (bs l) 0 = true ∧ 1 ≤ wd l ∧ wd l ≤ l.length ∧ Gd (l.drop (wd l)) := by
  have h0 : 0 < l.length := List.length_pos_iff.2 hl
  have hw := Ch.decode_width (bs l) 0 (by rw [bsz]; exact h0)
  have h' := h
  unfold Gd Ch.bad at h
  rw [Ch.badFrom.eq_2, if_pos (by rw [bsz]; exact h0)] at h
  cases hok : Ch.okAt (bs l) 0 with
  | false => rw [hok] at h; simp at h; omega
  | true =>
    rw [if_pos hok, Nat.zero_add] at h
    rw [bsz, Nat.zero_add] at hw
    exact ⟨rfl, hw.2.1, hw.1, gd_from hw.1 (by rw [bsz]; show l.length < wd l + _; unfold wd; omega) h⟩
theorem dec_ascii (hc : c.toNat < 128) (r : L) : Utf8.decode (bs (c :: r)) 0 = (c.toNat, 1) := by
  have h0 := Ch.bz_head c r
  have := Ch.decode_one (s := bs (c :: r)) (i := 0) (by show 0 ≤ Ch.bz (Ch.txt (c :: r)) 0; omega) (by show Ch.bz (Ch.txt (c :: r)) 0 < 128; omega)
  rw [this]
  show ((Ch.bz (Ch.txt (c :: r)) 0).toNat, 1) = _
  rw [h0]; rfl
theorem gd_cons (h : Gd (c :: r)) (hc : c.toNat < 128) : Gd r := by
  have := (gd_step h (by simp)).2.2.2
  unfold wd at this
  rw [dec_ascii hc] at this
  exact this
theorem gd_nil : Gd [] := rfl
theorem gd_skip (h : Gd l) : Gd (skip l) := by
  unfold skip Lib.trimLeftS
  induction l with
  | nil => exact h
  | cons c r ih =>
    rw [List.dropWhile_cons]
    split
    · next hc =>
      refine ih (gd_cons h ?_)
      simp at hc
      rcases hc with rfl | rfl | rfl | rfl <;> decide
    · exact h
def Stop (T : L) : Prop := T = [] ∨ Ch.okAt (bs T) 0 = false ∨ (Ch.begins ((Utf8.decode (bs T) 0).1 : Int) = false ∧ Ch.goesOn ((Utf8.decode (bs T) 0).1 : Int) = false)
theorem stop_no {pos : Nat} (hT : Stop T) (h : 0 < T.length) : Ch.inName (bs (a ++ T)) (bs a).size = false := by
  have hd := Ch.join_second (jn a T) (k := 0) (by rw [bsz]; exact h)
  rw [Nat.add_zero] at hd
  unfold Ch.inName
  rw [Ch.okSame hd, hd]
  rcases hT with rfl | hT | ⟨h1, h2⟩
  · simp at h
  · rw [hT]; rfl
  · rw [h1, h2]; simp
theorem name_run (hT : Stop T) : ∀ f p F, p ≤ a.length → a.length < p + f → (a ++ T).length < p + F → Ch.badFrom (bs a) f p = a.length → Ch.nameFrom (bs (a ++ T)) F p = Ch.nameFrom (bs a) f p := by
  intro f
  induction f with
  | zero => intro p F h1 h2; omega
  | succ f ih =>
    intro p F h1 h2 h3 hb
    have hj := jn a T
    have hsz := hj.1
    rw [List.length_append] at h3
    obtain ⟨F, rfl⟩ : ∃ k, F = k + 1 := ⟨F - 1, by omega⟩
    by_cases hp : p < a.length
    · have hp' : p < (bs a).size := by rw [bsz]; exact hp
      have hw := Ch.decode_width (bs a) p hp'
      rw [Ch.badFrom.eq_2, if_pos hp'] at hb
      cases hok : Ch.okAt (bs a) p with
      | false => rw [hok] at hb; simp at hb; omega
      | true =>
        rw [if_pos hok] at hb
        have hd := Ch.join_ok hj hp' hok
        rw [Ch.nameFrom.eq_2, Ch.nameFrom.eq_2, if_pos (by rw [hsz]; omega), if_pos hp', Ch.inName_same hd, hd]
        split
        · exact ih _ _ (by rw [bsz] at hw; omega) (by omega) (by rw [List.length_append]; omega) hb
        · rfl
    · obtain rfl : p = a.length := by omega
      have e : Ch.nameFrom (bs a) (f + 1) a.length = a.length := by rw [Ch.nameFrom.eq_2, if_neg (by rw [bsz]; omega), bsz]
      rw [e, Ch.nameFrom.eq_2]
      split
      · next h =>
        rw [bsz, List.length_append] at h
        have hs := stop_no (a := a) (pos := 0) hT (by omega)
        rw [bsz] at hs
        rw [hs]; simp
      · next h => rw [bsz, List.length_append] at h ⊢; omega
theorem nm_app (h : Gd l) (hT : Stop T) : nm (l ++ T) = nm l := by
  unfold nm Ch.name
  exact name_run hT _ 0 _ (Nat.zero_le _) (by rw [bsz]; omega) (by rw [bsz]; omega) h
theorem nmq_le (l : L) : nm l ≤ l.length := by have := Ch.nameFrom_le (bs l) ((bs l).size + 1) 0 (Nat.zero_le _); rwa [bsz] at this
theorem name_bad : ∀ f p, p ≤ l.length → l.length < p + f → Ch.badFrom (bs l) f p = l.length → ∃ F, l.length < Ch.nameFrom (bs l) f p + F ∧ Ch.badFrom (bs l) F (Ch.nameFrom (bs l) f p) = l.length := by
  intro f
  induction f with
  | zero => intro p h1 h2; omega
  | succ f ih =>
    intro p h1 h2 hb
    by_cases hp : p < l.length
    · have hp' : p < (bs l).size := by rw [bsz]; exact hp
      have hw := Ch.decode_width (bs l) p hp'
      rw [Ch.nameFrom.eq_2, if_pos hp']
      split
      · next hin =>
        rw [Ch.badFrom.eq_2, if_pos hp'] at hb
        have hok : Ch.okAt (bs l) p = true := by
          unfold Ch.inName at hin
          simp only [Bool.and_eq_true] at hin
          exact hin.1
        rw [if_pos hok] at hb
        exact ih _ (by rw [bsz] at hw; omega) (by omega) hb
      · exact ⟨f + 1, h2, hb⟩
    · obtain rfl : p = l.length := by omega
      rw [Ch.nameFrom.eq_2, if_neg (by rw [bsz]; omega), bsz]
      exact ⟨f + 1, h2, hb⟩
theorem gd_name (h : Gd l) : Gd (l.drop (nm l)) := by
  obtain ⟨F, h1, h2⟩ := name_bad (l := l) ((bs l).size + 1) 0 (Nat.zero_le _) (by rw [bsz]; omega) h
  exact gd_from (nmq_le l) h1 h2
theorem nm_sign (hc : c.toNat < 128) (hb : Ch.begins (c.toNat : Int) = false) (r : L) : nm (c :: r) = 0 := by
  unfold nm Ch.name
  rw [Ch.nameFrom.eq_2]
  have : Ch.inName (bs (c :: r)) 0 = false := by
    unfold Ch.inName
    rw [dec_ascii hc]
    simp only [hb]
    simp
  rw [this]
  simp [bsz]
theorem cut_run : ∀ f p F, p ≤ q.length → q.length < p + f → Ch.badFrom (bs q) f p = Ch.bad (bs q) → Ch.bad (bs q) < p + F → Ch.badFrom (bs (cutAt q)) F p = Ch.bad (bs q) := by
  have hle := Ch.badFrom_le (bs q) ((bs q).size + 1) 0 (Nat.zero_le _)
  have hle' : Ch.bad (bs q) ≤ q.length := by rw [bsz] at hle; unfold Ch.bad; rw [bsz]; exact hle
  have hlen : (cutAt q).length = Ch.bad (bs q) := by unfold cutAt; rw [List.length_take]; exact Nat.min_eq_left hle'
  have hj := jn (cutAt q) (q.drop (Ch.bad (bs q)))
  have hq : cutAt q ++ q.drop (Ch.bad (bs q)) = q := List.take_append_drop _ _
  rw [hq] at hj
  intro f
  induction f with
  | zero => intro p F h1 h2; omega
  | succ f ih =>
    intro p F h1 h2 hb hF
    have hge := Ch.badFrom_ge (bs q) (f + 1) p (by rw [bsz]; exact h1)
    rw [hb] at hge
    by_cases hp : p < q.length
    · have hp' : p < (bs q).size := by rw [bsz]; exact hp
      have hw := Ch.decode_width (bs q) p hp'
      rw [Ch.badFrom.eq_2, if_pos hp'] at hb
      obtain ⟨F, rfl⟩ : ∃ k, F = k + 1 := ⟨F - 1, by omega⟩
      split at hb
      · next hok =>
        have hge2 := Ch.badFrom_ge (bs q) f (p + (Utf8.decode (bs q) p).2) hw.1
        rw [hb] at hge2
        have hd : Utf8.decode (bs (cutAt q)) p = Utf8.decode (bs q) p := Ch.decode_prefix hp' hok (fun k hk => hj.2.1 (p + k) (by rw [bsz, hlen]; omega))
        rw [Ch.badFrom.eq_2, if_pos (by rw [bsz, hlen]; omega), Ch.okSame hd, if_pos hok, hd]
        exact ih _ _ (by rw [bsz] at hw; omega) (by omega) hb (by omega)
      · rw [Ch.badFrom.eq_2, if_neg (by rw [bsz, hlen]; omega), bsz, hlen]
    · obtain ⟨F, rfl⟩ : ∃ k, F = k + 1 := ⟨F - 1, by omega⟩
      rw [Ch.badFrom.eq_2, if_neg (by rw [bsz, hlen]; omega), bsz, hlen]
def cutT (q : L) : L := q.drop (Ch.bad (bs q))
theorem cut_app (q : L) : cutAt q ++ cutT q = q := List.take_append_drop _ _
theorem badq_le (q : L) : Ch.bad (bs q) ≤ q.length := by have := Ch.badFrom_le (bs q) ((bs q).size + 1) 0 (Nat.zero_le _); unfold Ch.bad; rw [bsz] at this ⊢; exact this
theorem cut_len (q : L) : (cutAt q).length = Ch.bad (bs q) := by unfold cutAt; rw [List.length_take]; exact Nat.min_eq_left (badq_le q)
theorem cut_good (q : L) : Gd (cutAt q) := by
  unfold Gd
  rw [cut_len]
  exact cut_run ((bs q).size + 1) 0 _ (Nat.zero_le _) (by rw [bsz]; omega) rfl (by rw [bsz, cut_len]; omega)
theorem bad_stop (s : ByteArray) : ∀ f p, p ≤ s.size → s.size < p + f → Ch.badFrom s f p = s.size ∨ (Ch.badFrom s f p < s.size ∧ Ch.okAt s (Ch.badFrom s f p) = false) := by
  intro f
  induction f with
  | zero => intro p h1 h2; omega
  | succ f ih =>
    intro p h1 h2
    rw [Ch.badFrom.eq_2]
    split
    · next hp =>
      have hw := Ch.decode_width s p hp
      split
      · exact ih _ hw.1 (by omega)
      · next hok => exact Or.inr ⟨hp, by simpa using hok⟩
    · exact Or.inl rfl
theorem cut_stop (q : L) : cutT q = [] ∨ Ch.okAt (bs (cutT q)) 0 = false := by
  have h := bad_stop (bs q) ((bs q).size + 1) 0 (Nat.zero_le _) (by omega)
  change Ch.bad (bs q) = _ ∨ (Ch.bad (bs q) < _ ∧ Ch.okAt (bs q) (Ch.bad (bs q)) = false) at h
  rw [bsz] at h
  rcases h with h | ⟨h1, h2⟩
  · exact Or.inl (by unfold cutT; rw [h]; simp)
  · right
    have hj := jn (cutAt q) (cutT q)
    rw [cut_app] at hj
    have hd := Ch.join_second hj (k := 0) (by rw [bsz]; unfold cutT; rw [List.length_drop]; omega)
    rw [bsz, cut_len, Nat.add_zero] at hd
    rw [← Ch.okSame hd]; exact h2
theorem okw_eq (h : l <:+ q) (hl : l ≠ []) : okw q l = if Ch.okAt (bs l) 0 = true then wd l else 0 := by
  obtain ⟨a, rfl⟩ := h
  have h0 : 0 < l.length := List.length_pos_iff.2 hl
  have hd := Ch.join_second (jn a l) (k := 0) (by rw [bsz]; exact h0)
  rw [bsz, Nat.add_zero] at hd
  unfold okw
  rw [List.length_append, Nat.add_sub_cancel, Ch.at2_pos _ _ (by rw [bsz, List.length_append]; omega), Ch.okSame hd, hd]
  split
  · rfl
  · rfl
end Go.Proofs.YtigpjemceodjcaaDoor
