import Derived.Test.YtoahlnmhjinneaaGreatDoorGaq
set_option linter.unusedVariables false
set_option linter.unusedSimpArgs false
set_option linter.unusedSimpArgs false
set_option linter.unusedVariables false
namespace Go.Proofs.YtoahlnmhjinneaaGreatDoor
open Go
def sumK (b : Brs) : Nat := (b.map fun x => x.kids.length).sum
def KS (b : Brs) : Prop := sumK b + 1 = b.length
theorem sumK_mod {f : Br → Br} {c : Nat} (hf : ∀ x, (f x).kids.length = x.kids.length + c) : ∀ (b : Brs) (i : Nat), i < b.length → sumK (b.modify i f) = sumK b + c
  | [], i, h => by simp at h
  | x :: b, 0, h => by
    simp only [sumK, List.modify_zero_cons, List.map_cons, List.sum_cons, hf]
    omega
  | x :: b, i + 1, h => by
    have ih := sumK_mod hf b i (by simpa using h)
    simp only [sumK, List.modify_succ_cons, List.map_cons, List.sum_cons] at ih ⊢
    omega
theorem kidB_ks {b : Brs} {i : Nat} {m : Mk} (hi : i < b.length) (h : KS b) : KS (kidB b i m).1 := by
  unfold kidB
  split
  · exact h
  · unfold KS at *
    have e : sumK (b.modify i (fun x => { x with kids := x.kids ++ [(m, b.length)] }) ++ [⟨m, [], false, false⟩]) = sumK (b.modify i (fun x => { x with kids := x.kids ++ [(m, b.length)] })) := by
      unfold sumK; rw [List.map_append, List.sum_append]; simp
    rw [e, sumK_mod (c := 1) (fun x => by simp) b i hi, List.length_append, List.length_modify, List.length_singleton]
    omega
theorem growTo_ks : ∀ (l : List Mk) {b : Brs} {i : Nat}, i < b.length → WfB b → KS b → KS (growTo b i l).1
  | [], b, i, _, _, h => h
  | m :: l, b, i, hi, hw, h => by
    obtain ⟨h1, h2, _, _⟩ := kidB_wf m hi hw
    exact growTo_ks l h2 h1 (kidB_ks hi h)
theorem growB_ks {b : Brs} {p : Np} (hw : WfB b) (h : KS b) : KS (growB b p) := by
  unfold growB
  split
  · exact h
  · have h1 := growTo_ks p.1 hw.1 hw h
    obtain ⟨_, h2, _, _⟩ := growTo_wf p.1 hw.1 hw
    unfold KS at *
    rw [sumK_mod (f := fun x => { x with nd := true, wh := x.wh || p.2 }) (c := 0) (fun x => rfl) _ _ h2, List.length_modify]
    omega
theorem growAll_ks : ∀ (l : List Np) {b : Brs}, WfB b → KS b → KS (growAll b l)
  | [], b, _, h => h
  | p :: l, b, hw, h => growAll_ks l (growB_wf p hw).1 (growB_ks hw h)
theorem newB_ks : KS newB := rfl
def sumT (b : Brs) (m : Nat) : Nat := sumK (b.take m)
theorem sumT_succ {b : Brs} {m : Nat} {x : Br} (h : b[m]? = some x) : sumT b (m + 1) = sumT b m + x.kids.length := by
  obtain ⟨hl, e⟩ := List.getElem?_eq_some_iff.1 h
  unfold sumT sumK
  rw [List.take_succ_eq_append_getElem hl, List.map_append, List.sum_append, e]
  simp
theorem sumT_mono {b : Brs} {m n : Nat} (h : m ≤ n) : sumT b m ≤ sumT b n := by
  unfold sumT sumK
  have e : b.take n = b.take m ++ (b.drop m).take (n - m) := by
    rw [← List.take_append_drop m (b.take n), List.take_take, List.drop_take]
    congr 2
    omega
  rw [e, List.map_append, List.sum_append]
  omega
theorem sumT_le {b : Brs} (h : KS b) (m : Nat) : sumT b m ≤ b.length := by
  have h1 := sumT_mono (b := b) (m := m) (n := max m b.length) (by omega)
  have h2 : sumT b (max m b.length) = sumK b := by unfold sumT; rw [List.take_of_length_le (by omega)]
  unfold KS at h
  omega
end Go.Proofs.YtoahlnmhjinneaaGreatDoor
