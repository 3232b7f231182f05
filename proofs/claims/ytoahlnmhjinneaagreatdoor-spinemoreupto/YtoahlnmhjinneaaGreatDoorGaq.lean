import Derived.Test.YtoahlnmhjinneaaGreatDoorGab
set_option linter.unusedVariables false
set_option linter.unusedSimpArgs false
set_option linter.unusedSimpArgs false
set_option linter.unusedVariables false
namespace Go.Proofs.YtoahlnmhjinneaaGreatDoor
open Go

abbrev Mk := Bool × L
structure Br where
  sg : Mk
  kids : List (Mk × Nat)
  nd : Bool
  wh : Bool
def Br.kid (x : Br) (m : Mk) : Option Nat := (x.kids.find? fun y => y.1 == m).map (·.2)
abbrev Brs := List Br
def newB : Brs := [⟨(false, []), [], false, false⟩]
def kidB (b : Brs) (i : Nat) (m : Mk) : Brs × Nat := match (b[i]?).bind (·.kid m) with
  | some k => (b, k)
  | none => (b.modify i (fun x => { x with kids := x.kids ++ [(m, b.length)] }) ++ [⟨m, [], false, false⟩], b.length)
def growTo (b : Brs) (i : Nat) : List Mk → Brs × Nat
  | [] => (b, i)
  | m :: l => growTo (kidB b i m).1 (kidB b i m).2 l
def nowhere (p : List Mk) : Bool := p.dropLast.any (·.2 == [35]) || p == [(false, [35])]
def growB (b : Brs) (p : List Mk × Bool) : Brs := if nowhere p.1 = true then b else
  (growTo b 0 p.1).1.modify (growTo b 0 p.1).2 fun x => { x with nd := true, wh := x.wh || p.2 }
def growAll (b : Brs) (l : List (List Mk × Bool)) : Brs := l.foldl growB b
def ExtB (b b' : Brs) : Prop := ∀ (k : Nat) (x : Br), b[k]? = some x → ∃ x' : Br, b'[k]? = some x' ∧ x'.sg = x.sg ∧ (∀ y ∈ x.kids, y ∈ x'.kids) ∧ (x.nd = true → x'.nd = true) ∧ (x.wh = true → x'.wh = true)
theorem ExtB.refl (b : Brs) : ExtB b b := fun k x h => ⟨x, h, rfl, fun _ y => y, fun y => y, fun y => y⟩
theorem ExtB.trans {b b' b'' : Brs} (h : ExtB b b') (h' : ExtB b' b'') : ExtB b b'' := fun k x hx => by
  obtain ⟨x', h1, h2, h3, h4, h5⟩ := h k x hx
  obtain ⟨x'', g1, g2, g3, g4, g5⟩ := h' k x' h1
  exact ⟨x'', g1, g2.trans h2, fun y hy => g3 y (h3 y hy), fun y => g4 (h4 y), fun y => g5 (h5 y)⟩
theorem ExtB.len {b b' : Brs} (h : ExtB b b') : b.length ≤ b'.length := by
  by_cases h0 : b.length = 0
  · omega
  · obtain ⟨x', h1, _⟩ := h (b.length - 1) b[b.length - 1] (List.getElem?_eq_getElem (by omega))
    have := (List.getElem?_eq_some_iff.1 h1).1
    omega
theorem ExtB.mod (b : Brs) (i : Nat) (f : Br → Br) (hf : ∀ x, (f x).sg = x.sg ∧ (∀ y ∈ x.kids, y ∈ (f x).kids) ∧ (x.nd = true → (f x).nd = true) ∧ (x.wh = true → (f x).wh = true)) : ExtB b (b.modify i f) := fun k x h => by
  rw [List.getElem?_modify, h]
  by_cases e : i = k
  · exact ⟨f x, by simp [e], hf x⟩
  · exact ⟨x, by simp [e], rfl, fun _ y => y, fun y => y, fun y => y⟩
theorem ExtB.push (b : Brs) (x : Br) : ExtB b (b ++ [x]) := fun k y h => ⟨y, by rw [List.getElem?_append_left (List.getElem?_eq_some_iff.1 h).1]; exact h, rfl, fun _ y => y, fun y => y, fun y => y⟩
theorem kidB_ext (b : Brs) (i : Nat) (m : Mk) : ExtB b (kidB b i m).1 := by
  unfold kidB
  split
  · exact ExtB.refl b
  · exact (ExtB.mod b i (fun x => { x with kids := x.kids ++ [(m, b.length)] }) fun x => ⟨rfl, fun y hy => List.mem_append_left _ hy, fun y => y, fun y => y⟩).trans (ExtB.push _ _)
theorem growTo_ext : ∀ (l : List Mk) (b : Brs) (i : Nat), ExtB b (growTo b i l).1
  | [], b, i => ExtB.refl b
  | m :: l, b, i => (kidB_ext b i m).trans (growTo_ext l _ _)
theorem growB_ext (b : Brs) (p : List Mk × Bool) : ExtB b (growB b p) := by
  unfold growB
  split
  · exact ExtB.refl b
  · exact (growTo_ext p.1 b 0).trans (ExtB.mod _ _ (fun x => { x with nd := true, wh := x.wh || p.2 }) fun x => ⟨rfl, fun y hy => hy, fun _ => rfl, fun h => by simp [h]⟩)
theorem growAll_ext : ∀ (l : List (List Mk × Bool)) (b : Brs), ExtB b (growAll b l)
  | [], b => ExtB.refl b
  | p :: l, b => (growB_ext b p).trans (growAll_ext l (growB b p))
theorem growAll_append (b : Brs) (l l' : List (List Mk × Bool)) : growAll b (l ++ l') = growAll (growAll b l) l' := by
  unfold growAll; rw [List.foldl_append]
structure Sta where
  due : List Nat
  nd : Bool
  wh : Bool
  tx : Bool
def fitsM (m : Mk) (name : L) : Bool := m.2 == [42] || (m.2 == name && name != [35])
def kidsAt (b : Brs) (j : Nat) : List Nat := match b[j]? with | some x => x.kids.map (·.2) | none => []
def deepAt (b : Brs) (j : Nat) : Bool := match b[j]? with | some x => x.sg.1 | none => false
def fitsAt (b : Brs) (j : Nat) (name : L) : Bool := match b[j]? with | some x => fitsM x.sg name | none => false
def ndAt (b : Brs) (j : Nat) : Bool := match b[j]? with | some x => x.nd | none => false
def whAt (b : Brs) (j : Nat) : Bool := match b[j]? with | some x => x.wh | none => false
def txAt (b : Brs) (j : Nat) : Bool := match b[j]? with | some x => x.sg.2 == [35] | none => false
def startS (b : Brs) : Sta := ⟨(List.range b.length).filter fun k => (kidsAt b 0).contains k, false, false, false⟩
def nextDue (b : Brs) (due : List Nat) (name : L) : List Nat := (List.range b.length).filter fun k => (due.contains k && deepAt b k) || due.any fun j => fitsAt b j name && (kidsAt b j).contains k
def nextS (b : Brs) (s : Sta) (name : L) : Sta :=
  ⟨nextDue b s.due name, s.due.any fun j => fitsAt b j name && ndAt b j, s.wh || s.due.any fun j => fitsAt b j name && whAt b j, (nextDue b s.due name).any (txAt b)⟩
def walkS (b : Brs) (r : List L) : Sta := r.foldl (nextS b) (startS b)
structure LeS (s s' : Sta) : Prop where
  due : ∀ k ∈ s.due, k ∈ s'.due
  nd : s.nd = true → s'.nd = true
  wh : s.wh = true → s'.wh = true
  tx : s.tx = true → s'.tx = true
variable {b b' : Brs}
theorem ExtB.kids (h : ExtB b b') {j k : Nat} (hk : k ∈ kidsAt b j) : k ∈ kidsAt b' j := by
  unfold kidsAt at *
  cases e : b[j]? with
  | none => rw [e] at hk; simp at hk
  | some x =>
    obtain ⟨x', h1, h2, h3, _⟩ := h j x e
    rw [e] at hk
    rw [h1]
    obtain ⟨y, hy, rfl⟩ := List.mem_map.1 hk
    exact List.mem_map.2 ⟨y, h3 y hy, rfl⟩
theorem ExtB.fits (h : ExtB b b') {j : Nat} {name : L} (hk : fitsAt b j name = true) : fitsAt b' j name = true := by
  unfold fitsAt at *
  cases e : b[j]? with
  | none => rw [e] at hk; simp at hk
  | some x => obtain ⟨x', h1, h2, _⟩ := h j x e; rw [e] at hk; rw [h1]; simp only at hk ⊢; rw [h2]; exact hk
theorem ExtB.deep (h : ExtB b b') {j : Nat} (hk : deepAt b j = true) : deepAt b' j = true := by
  unfold deepAt at *
  cases e : b[j]? with
  | none => rw [e] at hk; simp at hk
  | some x => obtain ⟨x', h1, h2, _⟩ := h j x e; rw [e] at hk; rw [h1]; simp only at hk ⊢; rw [h2]; exact hk
theorem ExtB.tx (h : ExtB b b') {j : Nat} (hk : txAt b j = true) : txAt b' j = true := by
  unfold txAt at *
  cases e : b[j]? with
  | none => rw [e] at hk; simp at hk
  | some x => obtain ⟨x', h1, h2, _⟩ := h j x e; rw [e] at hk; rw [h1]; simp only at hk ⊢; rw [h2]; exact hk
theorem ExtB.ndx (h : ExtB b b') {j : Nat} (hk : ndAt b j = true) : ndAt b' j = true := by
  unfold ndAt at *
  cases e : b[j]? with
  | none => rw [e] at hk; simp at hk
  | some x => obtain ⟨x', h1, _, _, h4, _⟩ := h j x e; rw [e] at hk; rw [h1]; exact h4 hk
theorem ExtB.whx (h : ExtB b b') {j : Nat} (hk : whAt b j = true) : whAt b' j = true := by
  unfold whAt at *
  cases e : b[j]? with
  | none => rw [e] at hk; simp at hk
  | some x => obtain ⟨x', h1, _, _, _, h5⟩ := h j x e; rw [e] at hk; rw [h1]; exact h5 hk
theorem startS_le (h : ExtB b b') : LeS (startS b) (startS b') := by
  refine ⟨fun k hk => ?_, fun h => h, fun h => h, fun h => h⟩
  simp only [startS, List.mem_filter, List.mem_range, List.contains_iff_mem] at hk ⊢
  exact ⟨Nat.lt_of_lt_of_le hk.1 h.len, h.kids hk.2⟩
theorem nextDue_le (h : ExtB b b') {d d' : List Nat} (hd : ∀ k ∈ d, k ∈ d') (name : L) : ∀ k ∈ nextDue b d name, k ∈ nextDue b' d' name := by
  intro k hk
  simp only [nextDue, List.mem_filter, List.mem_range, Bool.or_eq_true, Bool.and_eq_true, List.contains_iff_mem, List.any_eq_true] at hk ⊢
  refine ⟨Nat.lt_of_lt_of_le hk.1 h.len, ?_⟩
  rcases hk.2 with ⟨h1, h2⟩ | ⟨j, h1, h2, h3⟩
  · exact Or.inl ⟨hd k h1, h.deep h2⟩
  · exact Or.inr ⟨j, hd j h1, h.fits h2, h.kids h3⟩
theorem nextS_le (h : ExtB b b') {s s' : Sta} (hs : LeS s s') (name : L) : LeS (nextS b s name) (nextS b' s' name) := by
  refine ⟨nextDue_le h hs.due name, ?_, ?_, ?_⟩
  · simp only [nextS, List.any_eq_true, Bool.and_eq_true]
    rintro ⟨j, h1, h2, h3⟩
    exact ⟨j, hs.due j h1, h.fits h2, h.ndx h3⟩
  · simp only [nextS, List.any_eq_true, Bool.and_eq_true, Bool.or_eq_true]
    rintro (h1 | ⟨j, h1, h2, h3⟩)
    · exact Or.inl (hs.wh h1)
    · exact Or.inr ⟨j, hs.due j h1, h.fits h2, h.whx h3⟩
  · simp only [nextS, List.any_eq_true]
    rintro ⟨j, h1, h2⟩
    exact ⟨j, nextDue_le h hs.due name j h1, h.tx h2⟩
theorem walkS_le (h : ExtB b b') (r : List L) : LeS (walkS b r) (walkS b' r) := by
  unfold walkS
  have : ∀ (r : List L) (s s' : Sta), LeS s s' → LeS (r.foldl (nextS b) s) (r.foldl (nextS b') s') := by
    intro r
    induction r with
    | nil => intro s s' hs; exact hs
    | cons n r ih => intro s s' hs; exact ih _ _ (nextS_le h hs n)
  exact this r _ _ (startS_le h)
end Go.Proofs.YtoahlnmhjinneaaGreatDoor

set_option linter.unusedSimpArgs false
set_option linter.unusedVariables false
namespace Go.Proofs.YtoahlnmhjinneaaGreatDoor
open Go

abbrev Np := List Mk × Bool
def marksS : Stps → List Mk
  | .nil => []
  | .cons d t _ m => (d, t) :: marksS m
def endN (at_ : List Mk) (whole : Bool) : Np := (at_, whole && (match at_.getLast? with | some m => m.2 != [35] | none => true))
mutual
def stepsN (at_ : List Mk) : Stps → List Np
  | .nil => []
  | .cons d t p m => predsN (at_ ++ [(d, t)]) p ++ stepsN (at_ ++ [(d, t)]) m
def predsN (at_ : List Mk) : Prds → List Np
  | .nil => []
  | .cons o k s a _ m => (if o = [111, 114] ∨ o = [97, 110, 100] ∨ o = [110, 111, 116] then predsN at_ k else stepsN at_ s ++ [endN (at_ ++ marksS s) (o != [104, 97, 115] && a == [])]) ++ predsN at_ m
end
def pathN (p : List Stp) : List Np := stepsN [] (Stps.of p) ++ [endN (marksS (Stps.of p)) true]
def needQ (ls : List (List Stp)) : List Np := ls.flatMap pathN
def needed : Nat → List L → Except (Nat × Nat × Nat) (List Np)
  | _, [] => .ok []
  | i, q :: l => match parse q with
    | .error e => .error (e.1, e.2, i + 1)
    | .ok ls => match needed (i + 1) l with
      | .error e => .error e
      | .ok r => .ok (needQ ls ++ r)
theorem needed_ok : ∀ (l l' : List L) (i : Nat) (r : List Np), needed i l = .ok r → needed i (l ++ l') = (match needed (i + l.length) l' with | .error e => .error e | .ok r' => .ok (r ++ r'))
  | [], l', i, r, h => by
    simp only [needed, Except.ok.injEq] at h
    subst h
    simp only [List.nil_append, List.length_nil, Nat.add_zero]
    cases needed i l' <;> rfl
  | q :: l, l', i, r, h => by
    simp only [List.cons_append, needed] at h ⊢
    cases hp : parse q with
    | error e => rw [hp] at h; simp at h
    | ok ls =>
      rw [hp] at h
      simp only at h ⊢
      cases hn : needed (i + 1) l with
      | error e => rw [hn] at h; simp at h
      | ok r1 =>
        rw [hn] at h
        simp only [Except.ok.injEq] at h
        subst h
        rw [needed_ok l l' (i + 1) r1 hn, List.length_cons, show i + 1 + l.length = i + (l.length + 1) by omega]
        cases needed (i + (l.length + 1)) l' with
        | error e => rfl
        | ok r' => simp
theorem needed_error : ∀ (l l' : List L) (i : Nat) (e : Nat × Nat × Nat), needed i l = .error e → needed i (l ++ l') = .error e
  | [], l', i, e, h => by simp [needed] at h
  | q :: l, l', i, e, h => by
    simp only [List.cons_append, needed] at h ⊢
    cases hp : parse q with
    | error e' => rw [hp] at h; simpa using h
    | ok ls =>
      rw [hp] at h
      simp only at h ⊢
      cases hn : needed (i + 1) l with
      | error e' => rw [hn] at h; rw [needed_error l l' (i + 1) e' hn]; exact h
      | ok r => rw [hn] at h; simp at h
theorem needed_at : ∀ (l : List L) (i j : Nat) (r : List Np), needed i l = .ok r → needed j l = .ok r
  | [], i, j, r, h => h
  | q :: l, i, j, r, h => by
    simp only [needed] at h ⊢
    cases hp : parse q with
    | error e => rw [hp] at h; simp at h
    | ok ls =>
      rw [hp] at h
      simp only at h ⊢
      cases hn : needed (i + 1) l with
      | error e => rw [hn] at h; simp at h
      | ok r1 => rw [hn] at h; rw [needed_at l (i + 1) (j + 1) r1 hn]; exact h
theorem needed_prefix {l l' : List L} {i : Nat} {r : List Np} (h : needed i (l ++ l') = .ok r) : ∃ r1 r2, needed i l = .ok r1 ∧ needed 0 l' = .ok r2 ∧ r = r1 ++ r2 := by
  cases hl : needed i l with
  | error e => rw [needed_error l l' i e hl] at h; simp at h
  | ok r1 =>
    rw [needed_ok l l' i r1 hl] at h
    cases hl' : needed (i + l.length) l' with
    | error e => rw [hl'] at h; simp at h
    | ok r2 =>
      rw [hl'] at h
      simp only [Except.ok.injEq] at h
      exact ⟨r1, r2, rfl, needed_at l' _ 0 r2 hl', h.symm⟩
def slashM (m : Mk) : L := (if m.1 = true then [47, 47] else [47]) ++ (if m.2 = [35] then [116, 101, 120, 116, 40, 41] else m.2)
def writtenN (p : Np) : L := p.1.flatMap slashM ++ (if p.2 = true then [35] else [])
def addU (acc : List L) (x : L) : List L := if acc.contains x = true then acc else acc ++ [x]
def uniq (l : List L) : List L := l.foldl addU []
theorem addU_mem {acc : List L} {x : L} : x ∈ addU acc x := by
  unfold addU
  split
  · next h => simpa using h
  · simp
theorem addU_sub {acc : List L} {x y : L} (h : y ∈ acc) : y ∈ addU acc x := by
  unfold addU
  split
  · exact h
  · exact List.mem_append_left _ h
theorem foldU_sub : ∀ (l acc : List L) (y : L), y ∈ acc → y ∈ l.foldl addU acc
  | [], acc, y, h => h
  | x :: l, acc, y, h => foldU_sub l _ y (addU_sub h)
theorem foldU_mem : ∀ (l acc : List L) (y : L), y ∈ l → y ∈ l.foldl addU acc
  | [], acc, y, h => by simp at h
  | x :: l, acc, y, h => by
    rcases List.mem_cons.1 h with rfl | h
    · exact foldU_sub l _ y addU_mem
    · exact foldU_mem l _ y h
theorem foldU_same : ∀ (l acc : List L), (∀ y ∈ l, y ∈ acc) → l.foldl addU acc = acc
  | [], acc, h => rfl
  | x :: l, acc, h => by
    have hx : addU acc x = acc := by unfold addU; rw [if_pos (by simpa using h x (List.mem_cons_self ..))]
    rw [List.foldl_cons, hx]
    exact foldU_same l acc fun y hy => h y (List.mem_cons_of_mem _ hy)
theorem uniq_twice (a b : List L) (h : ∀ y ∈ b, y ∈ a) : uniq (a ++ b) = uniq a := by
  unfold uniq
  rw [List.foldl_append]
  exact foldU_same b _ fun y hy => foldU_mem a [] y (h y hy)
end Go.Proofs.YtoahlnmhjinneaaGreatDoor

set_option linter.unusedSimpArgs false
set_option linter.unusedVariables false
namespace Go.Proofs.YtoahlnmhjinneaaGreatDoor
open Go
def boolT (b : Bool) : L := if b = true then [116, 114, 117, 101] else [102, 97, 108, 115, 101]
def dueT (dec : Nat → L) (l : List Nat) : L := l.flatMap fun k => 32 :: dec k
def keyS (dec : Nat → L) (s : Sta) : L := boolT s.nd ++ (boolT s.wh ++ (boolT s.tx ++ dueT dec s.due))
theorem boolT_inj {a b : Bool} {x y : L} (h : boolT a ++ x = boolT b ++ y) : a = b ∧ x = y := by
  cases a <;> cases b <;> simp [boolT] at h ⊢ <;> exact h
theorem dueT_head (dec : Nat → L) (l : List Nat) : dueT dec l = [] ∨ ∃ r, dueT dec l = 32 :: r := by
  cases l with
  | nil => exact Or.inl rfl
  | cons k l => exact Or.inr ⟨dec k ++ dueT dec l, by simp [dueT]⟩
theorem cut_32 : ∀ (a b x y : L), (∀ c ∈ a, c ≠ 32) → (∀ c ∈ b, c ≠ 32) → (x = [] ∨ ∃ r, x = 32 :: r) → (y = [] ∨ ∃ r, y = 32 :: r) → a ++ x = b ++ y → a = b ∧ x = y
  | [], [], x, y, _, _, _, _, h => ⟨rfl, h⟩
  | [], c :: b, x, y, _, hb, hx, _, h => by
    exfalso
    rcases hx with rfl | ⟨r, rfl⟩
    · simp at h
    · simp only [List.nil_append, List.cons_append, List.cons.injEq] at h
      exact hb c (List.mem_cons_self ..) h.1.symm
  | c :: a, [], x, y, ha, _, _, hy, h => by
    exfalso
    rcases hy with rfl | ⟨r, rfl⟩
    · simp at h
    · simp only [List.nil_append, List.cons_append, List.cons.injEq] at h
      exact ha c (List.mem_cons_self ..) h.1
  | c :: a, d :: b, x, y, ha, hb, hx, hy, h => by
    simp only [List.cons_append, List.cons.injEq] at h
    obtain ⟨rfl, h⟩ := h
    obtain ⟨rfl, e⟩ := cut_32 a b x y (fun c hc => ha c (List.mem_cons_of_mem _ hc)) (fun c hc => hb c (List.mem_cons_of_mem _ hc)) hx hy h
    exact ⟨rfl, e⟩
theorem dueT_inj {dec : Nat → L} (hi : ∀ a b, dec a = dec b → a = b) (hd : ∀ a, ∀ c ∈ dec a, c ≠ 32) : ∀ (l l' : List Nat), dueT dec l = dueT dec l' → l = l'
  | [], [], _ => rfl
  | [], k :: l, h => by simp [dueT] at h
  | k :: l, [], h => by simp [dueT] at h
  | k :: l, k' :: l', h => by
    have e : ∀ k l, dueT dec (k :: l) = 32 :: (dec k ++ dueT dec l) := fun k l => by simp [dueT]
    rw [e, e, List.cons.injEq] at h
    obtain ⟨h1, h2⟩ := cut_32 _ _ _ _ (hd k) (hd k') (dueT_head dec l) (dueT_head dec l') h.2
    rw [hi _ _ h1, dueT_inj hi hd l l' h2]
theorem keyS_inj {dec : Nat → L} (hi : ∀ a b, dec a = dec b → a = b) (hd : ∀ a, ∀ c ∈ dec a, c ≠ 32) {s s' : Sta} (h : keyS dec s = keyS dec s') : s = s' := by
  unfold keyS at h
  obtain ⟨h1, h⟩ := boolT_inj h
  obtain ⟨h2, h⟩ := boolT_inj h
  obtain ⟨h3, h⟩ := boolT_inj h
  have h4 := dueT_inj hi hd _ _ h
  cases s; cases s'; simp_all
theorem rising_eq : ∀ (l l' : List Nat), l.Pairwise (· < ·) → l'.Pairwise (· < ·) → (∀ x, x ∈ l ↔ x ∈ l') → l = l'
  | [], [], _, _, _ => rfl
  | [], b :: l', _, _, h => by have := (h b).2 (List.mem_cons_self ..); simp at this
  | a :: l, [], _, _, h => by have := (h a).1 (List.mem_cons_self ..); simp at this
  | a :: l, b :: l', h1, h2, h => by
    have p1 := List.pairwise_cons.1 h1
    have p2 := List.pairwise_cons.1 h2
    have e : a = b := by
      have ha := (h a).1 (List.mem_cons_self ..)
      have hb := (h b).2 (List.mem_cons_self ..)
      rcases List.mem_cons.1 ha with e | ha
      · exact e
      · rcases List.mem_cons.1 hb with e | hb
        · exact e.symm
        · have := p2.1 a ha
          have := p1.1 b hb
          omega
    subst e
    rw [rising_eq l l' p1.2 p2.2 fun x => ?_]
    constructor
    · intro hx
      rcases List.mem_cons.1 ((h x).1 (List.mem_cons_of_mem _ hx)) with rfl | hx'
      · have := p1.1 x hx; omega
      · exact hx'
    · intro hx
      rcases List.mem_cons.1 ((h x).2 (List.mem_cons_of_mem _ hx)) with rfl | hx'
      · have := p2.1 x hx; omega
      · exact hx'
theorem filter_rising (n : Nat) (p : Nat → Bool) : ((List.range n).filter p).Pairwise (· < ·) := List.pairwise_lt_range.filter _
theorem due_of {b : Brs} {l due : List Nat} {name : L} (hl : l.Pairwise (· < ·)) (hm : ∀ k, k ∈ l ↔ k < b.length ∧ ((k ∈ due ∧ deepAt b k = true) ∨ ∃ j ∈ due, fitsAt b j name = true ∧ k ∈ kidsAt b j)) : l = nextDue b due name := by
  refine rising_eq _ _ hl (filter_rising _ _) fun k => ?_
  rw [hm]
  simp only [nextDue, List.mem_filter, List.mem_range, Bool.or_eq_true, Bool.and_eq_true, List.contains_iff_mem, List.any_eq_true]
theorem start_of {b : Brs} {l : List Nat} (hl : l.Pairwise (· < ·)) (hm : ∀ k, k ∈ l ↔ k < b.length ∧ k ∈ kidsAt b 0) : l = (startS b).due := by
  refine rising_eq _ _ hl (filter_rising _ _) fun k => ?_
  rw [hm]
  simp only [startS, List.mem_filter, List.mem_range, List.contains_iff_mem]
end Go.Proofs.YtoahlnmhjinneaaGreatDoor

set_option linter.unusedSimpArgs false
set_option linter.unusedVariables false
namespace Go.Proofs.YtoahlnmhjinneaaGreatDoor
open Go
def WfB (b : Brs) : Prop := 0 < b.length ∧ ∀ (i : Nat) (x : Br), b[i]? = some x → (∀ y ∈ x.kids, y.2 < b.length) ∧ (x.kids.map (·.1)).Nodup
theorem newB_wf : WfB newB := by
  refine ⟨by decide, fun i x h => ?_⟩
  unfold newB at h
  cases i with
  | zero => simp at h; subst h; exact ⟨fun y hy => by simp at hy, by simp⟩
  | succ i => simp at h
theorem kid_none {x : Br} {m : Mk} (h : x.kid m = none) : m ∉ x.kids.map (·.1) := by
  intro hm
  obtain ⟨y, hy, rfl⟩ := List.mem_map.1 hm
  unfold Br.kid at h
  rw [Option.map_eq_none_iff, List.find?_eq_none] at h
  exact h y hy (by simp)
theorem kid_some {x : Br} {m : Mk} {k : Nat} (h : x.kid m = some k) : (m, k) ∈ x.kids := by
  unfold Br.kid at h
  obtain ⟨y, hy, rfl⟩ := Option.map_eq_some_iff.1 h
  have h1 := List.mem_of_find?_eq_some hy
  have h2 := List.find?_some hy
  simp only [beq_iff_eq] at h2
  subst h2
  exact h1
theorem kidB_wf {b : Brs} {i : Nat} (m : Mk) (hi : i < b.length) (h : WfB b) : WfB (kidB b i m).1 ∧ (kidB b i m).2 < (kidB b i m).1.length ∧ (kidB b i m).1.length ≤ b.length + 1 ∧ b.length ≤ (kidB b i m).1.length := by
  have hx : b[i]? = some b[i] := List.getElem?_eq_getElem hi
  unfold kidB
  rw [hx, Option.bind_some]
  cases hk : b[i].kid m with
  | some k => exact ⟨h, (h.2 i _ hx).1 _ (kid_some hk), by simp, by simp⟩
  | none =>
    simp only
    refine ⟨⟨by simp, fun j y hy => ?_⟩, by simp, by simp, by simp⟩
    rw [List.length_append, List.length_modify, List.length_singleton]
    by_cases hj : j < b.length
    · rw [List.getElem?_append_left (by simpa using hj), List.getElem?_modify, List.getElem?_eq_getElem hj] at hy
      by_cases e : i = j
      · subst e
        simp only [if_true, Option.map_eq_map, Option.map_some, Option.some.injEq] at hy
        subst hy
        obtain ⟨h1, h2⟩ := h.2 i _ hx
        refine ⟨fun z hz => ?_, ?_⟩
        · rcases List.mem_append.1 hz with hz | hz
          · have := h1 z hz; omega
          · obtain rfl : z = (m, b.length) := by simpa using hz
            simp
        · rw [List.map_append, List.nodup_append]
          refine ⟨h2, by simp, fun a ha c hc => ?_⟩
          obtain rfl : c = m := by simpa using hc
          rintro rfl
          exact kid_none hk ha
      · simp only [if_neg e, Option.map_eq_map, Option.map_some, Option.some.injEq] at hy
        have hyy : b[j] = y := by simpa using hy
        obtain ⟨h1, h2⟩ := h.2 j y (by rw [List.getElem?_eq_getElem hj, hyy])
        exact ⟨fun z hz => by have := h1 z hz; omega, h2⟩
    · rw [List.getElem?_append_right (by simp; omega)] at hy
      rw [List.length_modify] at hy
      cases hjj : j - b.length with
      | zero => rw [hjj] at hy; simp at hy; subst hy; exact ⟨fun z hz => by simp at hz, by simp⟩
      | succ n => rw [hjj] at hy; simp at hy
theorem growTo_wf : ∀ (l : List Mk) {b : Brs} {i : Nat}, i < b.length → WfB b → WfB (growTo b i l).1 ∧ (growTo b i l).2 < (growTo b i l).1.length ∧ (growTo b i l).1.length ≤ b.length + l.length ∧ b.length ≤ (growTo b i l).1.length
  | [], b, i, hi, h => ⟨h, hi, by simp [growTo], by simp [growTo]⟩
  | m :: l, b, i, hi, h => by
    obtain ⟨h1, h2, h3, h4⟩ := kidB_wf m hi h
    obtain ⟨g1, g2, g3, g4⟩ := growTo_wf l h2 h1
    exact ⟨g1, g2, by simp only [growTo, List.length_cons]; omega, by simp only [growTo]; omega⟩
theorem growB_wf (p : Np) {b : Brs} (h : WfB b) : WfB (growB b p) ∧ (growB b p).length ≤ b.length + p.1.length ∧ b.length ≤ (growB b p).length := by
  unfold growB
  split
  · exact ⟨h, by omega, by omega⟩
  · obtain ⟨h1, h2, h3, h4⟩ := growTo_wf p.1 h.1 h
    refine ⟨⟨by rw [List.length_modify]; exact h1.1, fun j y hy => ?_⟩, by rw [List.length_modify]; exact h3, by rw [List.length_modify]; exact h4⟩
    rw [List.length_modify]
    rw [List.getElem?_modify] at hy
    cases hj : (growTo b 0 p.1).1[j]? with
    | none => rw [hj] at hy; simp at hy
    | some z =>
      rw [hj] at hy
      have hz := h1.2 j z hj
      by_cases e : (growTo b 0 p.1).2 = j
      · simp [e] at hy; subst hy; exact hz
      · simp [e] at hy; subst hy; exact hz
theorem growAll_wf : ∀ (l : List Np) {b : Brs}, WfB b → WfB (growAll b l) ∧ b.length ≤ (growAll b l).length
  | [], b, h => ⟨h, Nat.le_refl _⟩
  | p :: l, b, h => by
    obtain ⟨h1, _, h3⟩ := growB_wf p h
    obtain ⟨g1, g2⟩ := growAll_wf l h1
    exact ⟨g1, Nat.le_trans h3 g2⟩
end Go.Proofs.YtoahlnmhjinneaaGreatDoor

set_option linter.unusedSimpArgs false
set_option linter.unusedVariables false
namespace Go.Proofs.YtoahlnmhjinneaaGreatDoor
open Go
def UpB (b : Brs) : Prop := ∀ x ∈ b, (x.kids.map (·.2)).Pairwise (· < ·) ∧ ∀ y ∈ x.kids, y.2 < b.length
theorem newB_up : UpB newB := by
  intro x hx
  have hx' : x = ⟨(false, []), [], false, false⟩ := by simpa [newB] using hx
  subst hx'
  exact ⟨by simp, fun y hy => by simp at hy⟩
theorem modify_mem {b : Brs} {i : Nat} {f : Br → Br} {y : Br} (h : y ∈ b.modify i f) : ∃ z ∈ b, y = z ∨ y = f z := by
  obtain ⟨j, hj⟩ := List.mem_iff_getElem?.1 h
  rw [List.getElem?_modify] at hj
  cases hb : b[j]? with
  | none => rw [hb] at hj; simp at hj
  | some z =>
    rw [hb] at hj
    refine ⟨z, List.mem_of_getElem? hb, ?_⟩
    by_cases e : i = j
    · simp [e] at hj; exact Or.inr hj.symm
    · simp [e] at hj; exact Or.inl hj.symm
theorem kidB_up {b : Brs} {i : Nat} {m : Mk} (h : UpB b) : UpB (kidB b i m).1 := by
  unfold kidB
  split
  · exact h
  · intro y hy
    rw [List.length_append, List.length_modify, List.length_singleton]
    rcases List.mem_append.1 hy with hy | hy
    · obtain ⟨z, hz, rfl | rfl⟩ := modify_mem hy
      · exact ⟨(h _ hz).1, fun q hq => by have := (h _ hz).2 q hq; omega⟩
      · obtain ⟨h1, h2⟩ := h z hz
        refine ⟨?_, fun q hq => ?_⟩
        · rw [List.map_append, List.pairwise_append]
          refine ⟨h1, by simp, fun a ha c hc => ?_⟩
          simp only [List.map_cons, List.map_nil, List.mem_singleton] at hc
          subst hc
          obtain ⟨q, hq, rfl⟩ := List.mem_map.1 ha
          exact h2 q hq
        · rcases List.mem_append.1 hq with hq | hq
          · have := h2 q hq; omega
          · rw [List.mem_singleton] at hq; subst hq; simp
    · rw [List.mem_singleton] at hy
      subst hy
      exact ⟨by simp, fun q hq => by simp at hq⟩
theorem growTo_up : ∀ (l : List Mk) {b : Brs} {i : Nat}, UpB b → UpB (growTo b i l).1
  | [], b, i, h => h
  | m :: l, b, i, h => growTo_up l (kidB_up h)
theorem growB_up {b : Brs} {p : Np} (h : UpB b) : UpB (growB b p) := by
  unfold growB
  split
  · exact h
  · intro y hy
    rw [List.length_modify]
    obtain ⟨z, hz, rfl | rfl⟩ := modify_mem hy
    · exact growTo_up p.1 h _ hz
    · exact growTo_up p.1 h z hz
theorem growAll_up : ∀ (l : List Np) {b : Brs}, UpB b → UpB (growAll b l)
  | [], b, h => h
  | p :: l, b, h => growAll_up l (growB_up h)
theorem start_list {b : Brs} {x : Br} {l : List Nat} (h0 : b[0]? = some x) (hu : UpB b) (hp : l.Pairwise (· ≤ ·)) (hm : l.Perm (x.kids.map (·.2))) : l = (startS b).due := by
  have hx := hu x (List.mem_of_getElem? h0)
  have hnd : l.Nodup := hm.nodup_iff.2 (hx.1.imp (fun h => Nat.ne_of_lt h))
  have hlt : l.Pairwise (· < ·) := by
    have := hp.and hnd
    exact this.imp (fun h => by have := h.1; have := h.2; omega)
  refine start_of hlt fun k => ?_
  have hk : kidsAt b 0 = x.kids.map (·.2) := by unfold kidsAt; rw [h0]
  rw [hk, hm.mem_iff]
  constructor
  · intro h
    obtain ⟨y, hy, rfl⟩ := List.mem_map.1 h
    exact ⟨hx.2 y hy, h⟩
  · exact fun h => h.2
end Go.Proofs.YtoahlnmhjinneaaGreatDoor

set_option linter.unusedSimpArgs false
set_option linter.unusedVariables false
namespace Go.Proofs.YtoahlnmhjinneaaGreatDoor
open Go
def pathsN (r : List Np) : List L := uniq (r.map writtenN)
theorem more_ok {qs more : List L} {r : List Np} (h : needed 0 (qs ++ more) = .ok r) : ∃ r1, needed 0 qs = .ok r1 ∧ needed 0 ((qs ++ more) ++ qs) = .ok (r ++ r1) ∧ pathsN (r ++ r1) = pathsN r ∧ ∀ row, LeS (walkS (growAll newB r1) row) (walkS (growAll newB r) row) := by
  obtain ⟨r1, r2, h1, h2, rfl⟩ := needed_prefix h
  refine ⟨r1, h1, ?_, ?_, fun row => ?_⟩
  · rw [needed_ok _ qs 0 _ h, needed_at qs 0 _ r1 h1]
  · unfold pathsN
    rw [List.map_append (l₁ := r1 ++ r2)]
    refine uniq_twice _ _ fun y hy => ?_
    rw [List.map_append]
    exact List.mem_append_left _ hy
  · rw [growAll_append]
    exact walkS_le (growAll_ext r2 _) row
theorem more_bad {qs more : List L} {e : Nat × Nat × Nat} (h : needed 0 (qs ++ more) = .error e) : needed 0 ((qs ++ more) ++ qs) = .error e := needed_error _ qs 0 e h
end Go.Proofs.YtoahlnmhjinneaaGreatDoor
