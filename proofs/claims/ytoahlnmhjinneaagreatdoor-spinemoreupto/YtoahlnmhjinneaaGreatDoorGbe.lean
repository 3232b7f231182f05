import Derived.Test.YtoahlnmhjinneaaGreatDoorGat
import Derived.Test.YtoahlnmhjinneaaGreatDoorGav
set_option linter.unusedVariables false
set_option linter.unusedSimpArgs false
set_option linter.unusedSimpArgs false
set_option linter.unusedVariables false
namespace Go.Proofs.YtoahlnmhjinneaaGreatDoor
open Go
mutual
def cntS : Stps → Nat
  | .nil => 0
  | .cons _ _ p m => cntP p + cntS m
def cntP : Prds → Nat
  | .nil => 0
  | .cons o k s _ _ m => (if joinB o then cntP k else cntS s + 1) + cntP m
end
theorem cnt_len : (∀ (s : Stps) (at_ : List Mk), (stepsN at_ s).length = cntS s) ∧ ∀ (p : Prds) (at_ : List Mk), (predsN at_ p).length = cntP p := by
  refine ⟨fun s => Stps.rec (motive_1 := fun s => ∀ at_ : List Mk, (stepsN at_ s).length = cntS s) (motive_2 := fun p => ∀ at_ : List Mk, (predsN at_ p).length = cntP p) ?_ ?_ ?_ ?_ s, fun s => Prds.rec (motive_1 := fun s => ∀ at_ : List Mk, (stepsN at_ s).length = cntS s) (motive_2 := fun p => ∀ at_ : List Mk, (predsN at_ p).length = cntP p) ?_ ?_ ?_ ?_ s⟩
  all_goals first
    | (intro at_; simp [stepsN, cntS]; done)
    | (intro at_; simp [predsN, cntP]; done)
    | (intro d t p m ih1 ih2 at_
       rw [stepsN, List.length_append, ih1, ih2, cntS])
    | (intro o k s a t m ih1 ih2 ih3 at_
       rw [predsN, List.length_append, ih3, cntP]
       by_cases h : joinB o
       · rw [if_pos h, if_pos (by unfold joinB at h; exact h), ih1]
       · rw [if_neg h, if_neg (by unfold joinB at h; exact h), List.length_append, ih2, List.length_singleton])
theorem joinB_iff (o : L) : joinB o ↔ (isJoin o = true ∨ o = wNot) := by
  unfold joinB isJoin
  simp [wOr, wAnd, wNot, or_assoc]
def lenB (s : Stps) : Prop := lS s ≤ (wSteps s).length ∧ cntS s ≤ (wSteps s).length ∧ lS s ≤ (wInner s).length + 1 ∧ cntS s ≤ (wInner s).length
def lenC2 (o : L) (k : Prds) (s : Stps) (a t : L) : Prop := lP k + lS s ≤ (wCond o k s a t).length + 2 ∧ (if joinB o then cntP k else cntS s + 1) ≤ (wCond o k s a t).length + 2
theorem lenC_ok {d : Nat} {o : L} {k : Prds} {s : Stps} {a t : L} (hk : (∀ d op, okKids d op k → lP k ≤ (wKids op k).length + 2 ∧ cntP k ≤ (wKids op k).length + 2) ∧ (∀ d, okHead d k → k.len = 1 → lP k ≤ (wHead k).length + 2 ∧ cntP k ≤ (wHead k).length + 2)) (hs : ∀ d, okS d s → lenB s) (h : okC d o k s a t) : lenC2 o k s a t := by
  rw [okC.eq_def] at h
  unfold lenC2
  rw [wCond]
  split at h
  · next hj =>
    obtain ⟨⟨h1, h2, -, -⟩, h3⟩ := h
    rw [if_pos hj, if_pos ((joinB_iff o).2 (Or.inl hj)), h2, lS]
    have := hk.1 _ _ h3
    omega
  · next hj =>
    rw [if_neg hj]
    split at h
    · next hn =>
      obtain ⟨⟨h1, h2, -, -⟩, h3⟩ := h
      rw [if_pos hn, if_pos ((joinB_iff o).2 (Or.inr hn)), h2, lS]
      cases d with
      | zero => exact h3.elim
      | succ d =>
        have := hk.2 _ h3 h1
        simp only [List.length_append, List.length_cons, List.length_nil]
        omega
    · next hn =>
      obtain ⟨-, h2, h3, -⟩ := h
      rw [if_neg hn, if_neg (fun e => ((joinB_iff o).1 e).elim hj hn), h2, lP]
      obtain ⟨-, -, e1, e2⟩ := hs _ h3
      simp only [List.length_append]
      omega
theorem testOf_len (d : Bool) (t : L) : (slashM (d, t)).length = (slashOf d).length + (testOf t).length := by
  unfold slashM slashOf testOf
  rw [List.length_append]
theorem slashOf_len (d : Bool) : (slashOf d).length = if d = true then 2 else 1 := by cases d <;> rfl
theorem len_all : (∀ s : Stps, ∀ d, okS d s → lenB s) ∧ ∀ p : Prds, (∀ d, okPs d p → lP p ≤ (wPreds p).length ∧ cntP p ≤ (wPreds p).length) ∧ (∀ d op, okKids d op p → lP p ≤ (wMore op p).length ∧ cntP p ≤ (wMore op p).length) ∧ (∀ d op, okKids d op p → lP p ≤ (wKids op p).length + 2 ∧ cntP p ≤ (wKids op p).length + 2) ∧ (∀ d, okHead d p → p.len = 1 → lP p ≤ (wHead p).length + 2 ∧ cntP p ≤ (wHead p).length + 2) := by
  refine ⟨fun s => Stps.rec (motive_1 := fun s => ∀ d, okS d s → lenB s) (motive_2 := fun p => (∀ d, okPs d p → lP p ≤ (wPreds p).length ∧ cntP p ≤ (wPreds p).length) ∧ (∀ d op, okKids d op p → lP p ≤ (wMore op p).length ∧ cntP p ≤ (wMore op p).length) ∧ (∀ d op, okKids d op p → lP p ≤ (wKids op p).length + 2 ∧ cntP p ≤ (wKids op p).length + 2) ∧ (∀ d, okHead d p → p.len = 1 → lP p ≤ (wHead p).length + 2 ∧ cntP p ≤ (wHead p).length + 2)) ?_ ?_ ?_ ?_ s, fun s => Prds.rec (motive_1 := fun s => ∀ d, okS d s → lenB s) (motive_2 := fun p => (∀ d, okPs d p → lP p ≤ (wPreds p).length ∧ cntP p ≤ (wPreds p).length) ∧ (∀ d op, okKids d op p → lP p ≤ (wMore op p).length ∧ cntP p ≤ (wMore op p).length) ∧ (∀ d op, okKids d op p → lP p ≤ (wKids op p).length + 2 ∧ cntP p ≤ (wKids op p).length + 2) ∧ (∀ d, okHead d p → p.len = 1 → lP p ≤ (wHead p).length + 2 ∧ cntP p ≤ (wHead p).length + 2)) ?_ ?_ ?_ ?_ s⟩
  all_goals first
    | (intro d _; simp [lenB, lS, cntS]; done)
    | (refine ⟨fun d _ => ?_, fun d op _ => ?_, fun d op _ => ?_, fun d _ _ => ?_⟩ <;> simp [lP, cntP]; done)
    | (intro de t p m ih1 ih2 d h
       rw [okS] at h
       obtain ⟨x1, x2⟩ := ih1.1 _ h.2.2.1
       obtain ⟨y1, y2, -, -⟩ := ih2 _ h.2.2.2
       have e1 := testOf_len de t
       have e2 := slashOf_len de
       unfold lenB
       rw [lS, cntS, wSteps, wInner]
       simp only [List.length_append]
       cases de <;> simp at e2 ⊢ <;> omega)
    | (intro o k s a t m ih1 ih2 ih3
       have key : ∀ d, okC d o k s a t → lenC2 o k s a t := fun d h => lenC_ok ⟨ih1.2.2.1, ih1.2.2.2⟩ ih2 h
       have kid : ∀ d op, okKid d op o k s a t → lP k + lS s ≤ (wKid op o k s a t).length + 2 ∧ (if joinB o then cntP k else cntS s + 1) ≤ (wKid op o k s a t).length + 2 := fun d op h => by
         have hc : ∃ d', okC d' o k s a t := by
           rw [okKid.eq_def] at h
           split at h
           · cases d with
             | zero => exact h.elim
             | succ d => exact ⟨_, h⟩
           · exact ⟨_, h⟩
         obtain ⟨d', hc⟩ := hc
         obtain ⟨x1, x2⟩ := key _ hc
         have hle : (wCond o k s a t).length ≤ (wKid op o k s a t).length := by rw [wKid]; split <;> simp <;> omega
         omega
       refine ⟨fun d h => ?_, fun d op h => ?_, fun d op h => ?_, fun d h hl => ?_⟩
       · rw [okPs.eq_def] at h
         cases d with
         | zero => exact h.1.elim
         | succ d =>
           obtain ⟨x1, x2⟩ := key _ h.1
           obtain ⟨y1, y2⟩ := ih3.1 _ h.2
           rw [lP, cntP, wPreds]
           simp only [List.length_cons, List.length_append]
           omega
       · rw [okKids] at h
         obtain ⟨x1, x2⟩ := kid _ _ h.1
         obtain ⟨y1, y2⟩ := ih3.2.1 _ _ h.2
         rw [lP, cntP, wMore]
         simp only [List.length_cons, List.length_append]
         omega
       · rw [okKids] at h
         obtain ⟨x1, x2⟩ := kid _ _ h.1
         obtain ⟨y1, y2⟩ := ih3.2.1 _ _ h.2
         rw [lP, cntP, wKids]
         simp only [List.length_append]
         omega
       · rw [okHead] at h
         obtain ⟨x1, x2⟩ := key _ h
         have : m = .nil := by
           cases m with
           | nil => rfl
           | cons _ _ _ _ _ _ => simp [Prds.len] at hl
         rw [this, lP, cntP, wHead, lP, cntP]
         omega)
theorem plainQ_sum : ∀ ls : List (List Stp), (∀ p ∈ ls, okS 8 (Stps.of p)) → (needQ ls).length ≤ (plainQ ls).length + 1 ∧ ∀ p ∈ ls, lS (Stps.of p) ≤ (plainQ ls).length
  | [], _ => ⟨by simp [needQ, plainQ], fun p hp => by simp at hp⟩
  | [p], h => by
    obtain ⟨x1, x2, -, -⟩ := len_all.1 _ _ (h p (by simp))
    refine ⟨?_, fun q hq => ?_⟩
    · simp only [needQ, plainQ, List.flatMap_cons, List.flatMap_nil, List.append_nil, pathN, List.length_append, cnt_len.1, List.length_singleton]
      omega
    · obtain rfl : q = p := by simpa using hq
      simp only [plainQ]
      exact x1
  | p :: q :: l, h => by
    obtain ⟨x1, x2, -, -⟩ := len_all.1 _ _ (h p (by simp))
    obtain ⟨y1, y2⟩ := plainQ_sum (q :: l) fun r hr => h r (List.mem_cons_of_mem _ hr)
    have e : needQ (p :: q :: l) = pathN p ++ needQ (q :: l) := by unfold needQ; rw [List.flatMap_cons]
    refine ⟨?_, fun r hr => ?_⟩
    · rw [e, plainQ, List.length_append]
      simp only [pathN, List.length_append, cnt_len.1, List.length_singleton, List.length_cons, List.length_nil]
      omega
    · rw [plainQ]
      simp only [List.length_append, List.length_cons]
      rcases List.mem_cons.1 hr with rfl | hr
      · omega
      · have := y2 r hr
        omega
theorem parse_needs {q : L} {ls : List (List Stp)} (h : parse q = .ok ls) : (needQ ls).length ≤ 1001 ∧ ∀ p ∈ ls, p ≠ [] ∧ lS (Stps.of p) ≤ 1000 := by
  have h1 := plain_len h
  have h2 := parse_okQ h
  obtain ⟨h3, h4⟩ := plainQ_sum ls fun p hp => (h2.2 p hp).2
  exact ⟨by omega, fun p hp => ⟨(h2.2 p hp).1, by have := h4 p hp; omega⟩⟩
end Go.Proofs.YtoahlnmhjinneaaGreatDoor
