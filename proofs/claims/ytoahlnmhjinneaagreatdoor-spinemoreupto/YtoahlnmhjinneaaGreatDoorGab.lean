import Derived.Lib.SlTrimSet
import Derived.Test.YtoahlnmhjinneaaGreatDoorGaa
set_option linter.unusedVariables false
set_option linter.unusedSimpArgs false
set_option linter.unusedSimpArgs false
set_option linter.unusedVariables false
namespace Go.Proofs.YtoahlnmhjinneaaGreatDoor
open Go

abbrev L := List UInt8
abbrev Rs (α : Type) := Except (Nat × Nat) (α × L)
def bs (l : L) : ByteArray := ⟨l.toArray⟩
mutual
inductive Stps where
  | nil
  | cons (deep : Bool) (test : L) (preds : Prds) (more : Stps)
inductive Prds where
  | nil
  | cons (op : L) (kids : Prds) (steps : Stps) (attr text : L) (more : Prds)
end
structure Stp where
  deep : Bool
  test : L
  preds : Prds
structure Prd where
  op : L
  kids : Prds
  steps : Stps
  attr : L
  text : L
def Stps.of : List Stp → Stps
  | [] => .nil
  | s :: l => .cons s.deep s.test s.preds (Stps.of l)
def Prds.of : List Prd → Prds
  | [] => .nil
  | p :: l => .cons p.op p.kids p.steps p.attr p.text (Prds.of l)
def skip (l : L) : L := Lib.trimLeftS l [9, 10, 13, 32]
def nm (l : L) : Nat := Ch.name (bs l)
def part (l : L) : L := if 0 < nm l then l.take (nm l) else if Lib.hasPrefix l [47, 47] = true ∨ Lib.hasPrefix l [33, 61] = true then l.take 2 else l.take 1
def pass (n : Nat) (l : L) : L := skip (l.drop n)
def bad (cut : Bool) (l : L) : Nat × Nat := (if l = [] ∧ cut = true then 2 else 3, l.length)
def want (cut : Bool) (p l : L) : Except (Nat × Nat) L := if part l = p then .ok (pass p.length l) else .error (bad cut l)
def calls (word l : L) : Bool := part l == word && Lib.hasPrefix (skip (l.drop word.length)) [40]
abbrev wNot : L := [110, 111, 116]
abbrev wText : L := [116, 101, 120, 116]
def name (cut : Bool) (l : L) : Rs L := if nm l = 0 ∨ calls wNot l = true ∨ calls wText l = true then .error (bad cut l) else .ok (l.take (nm l), pass (nm l) l)
def quoteOf (c : UInt8) (l : L) : L := (l.drop 1).takeWhile (· != c)
def quotedBy (cut : Bool) (c : UInt8) (l : L) : Rs L := if (l.drop 1).contains c = true then .ok (quoteOf c l, pass ((quoteOf c l).length + 2) l) else .error (bad cut [])
def quoted (cut : Bool) (l : L) : Rs L := if part l = [34] then quotedBy cut 34 l else if part l = [39] then quotedBy cut 39 l else .error (bad cut l)
def thn {α β : Type} (x : Rs α) (f : α → L → Rs β) : Rs β := match x with
  | .error e => .error e
  | .ok (a, l) => f a l
def wnt {β : Type} (x : Except (Nat × Nat) L) (f : L → Rs β) : Rs β := match x with
  | .error e => .error e
  | .ok l => f l
def within (cut : Bool) (inn : Option (L → Rs Prd)) (o s : L) (l : L) : Rs Prd := match inn with
  | none => .error (8, l.length)
  | some f => wnt (want cut o l) fun l => thn (f l) fun p l => wnt (want cut s l) fun l => .ok (p, l)
def preds (cut : Bool) (inn : Option (L → Rs Prd)) : Nat → L → Rs (List Prd)
  | 0, l => .ok ([], l)
  | f + 1, l => if part l = [91] then thn (within cut inn [91] [93] l) fun p l => thn (preds cut inn f l) fun ps l => .ok (p :: ps, l) else .ok ([], l)
def test (cut : Bool) (l : L) : Rs L :=
  if part l = [42] then .ok ([42], pass 1 l)
  else if calls wText l = true then wnt (want cut wText l) fun l => wnt (want cut [40] l) fun l => wnt (want cut [41] l) fun l => .ok ([35], l)
  else name cut l
def step (cut : Bool) (inn : Option (L → Rs Prd)) (deep : Bool) (l : L) : Rs Stp := thn (test cut l) fun t l => thn (preds cut inn (l.length + 1) l) fun ps l => .ok (⟨deep, t, Prds.of ps⟩, l)
def slash (cut : Bool) (l : L) : Rs Bool := if part l = [47, 47] then .ok (true, pass 2 l) else wnt (want cut [47] l) fun l => .ok (false, l)
def goesOn (s : Stp) (l : L) : Bool := s.test != [35] && (part l == [47] || part l == [47, 47])
def pathMore (cut : Bool) (inn : Option (L → Rs Prd)) : Nat → Stp → L → Rs (List Stp)
  | 0, _, l => .ok ([], l)
  | f + 1, s, l => if goesOn s l = true then thn (slash cut l) fun d l => thn (step cut inn d l) fun s l => thn (pathMore cut inn f s l) fun ss l => .ok (s :: ss, l) else .ok ([], l)
def path (cut : Bool) (inn : Option (L → Rs Prd)) (l : L) : Rs (List Stp) := thn (slash cut l) fun d l => thn (step cut inn d l) fun s l => thn (pathMore cut inn (l.length + 1) s l) fun ss l => .ok (s :: ss, l)
def attr (cut : Bool) (l : L) : Rs L := wnt (want cut [64] l) fun l => name cut l
def valMore (cut : Bool) (inn : Option (L → Rs Prd)) : Nat → Stp → L → Rs (List Stp × L)
  | 0, _, l => .ok (([], []), l)
  | f + 1, s, l => if goesOn s l = true then thn (slash cut l) fun d l => if d = false ∧ part l = [64] then thn (attr cut l) fun a l => .ok (([], a), l) else
      thn (step cut inn d l) fun s l => thn (valMore cut inn f s l) fun x l => .ok ((s :: x.1, x.2), l) else .ok (([], []), l)
def vsteps (cut : Bool) (inn : Option (L → Rs Prd)) (deep : Bool) (l : L) : Rs Prd := thn (step cut inn deep l) fun s l => thn (valMore cut inn (l.length + 1) s l) fun x l => .ok (⟨[], .nil, Stps.of (s :: x.1), x.2, []⟩, l)
def dot (cut : Bool) (inn : Option (L → Rs Prd)) (l : L) : Rs Prd := wnt (want cut [46] l) fun l => if part l = [47, 47] then vsteps cut inn true (pass 2 l) else .ok (⟨[], .nil, .nil, [], []⟩, l)
def value (cut : Bool) (inn : Option (L → Rs Prd)) (l : L) : Rs Prd :=
  if part l = [46] then dot cut inn l else if part l = [64] then thn (attr cut l) fun a l => .ok (⟨[], .nil, .nil, a, []⟩, l) else vsteps cut inn false l
abbrev wHas : L := [104, 97, 115]
def compared (cut : Bool) (p : Prd) (l : L) : Rs Prd :=
  if part l = [61] then thn (quoted cut (pass 1 l)) fun t l => .ok (⟨[61], p.kids, p.steps, p.attr, t⟩, l)
  else if part l = [33, 61] then thn (quoted cut (pass 2 l)) fun t l => .ok (⟨[33, 61], p.kids, p.steps, p.attr, t⟩, l)
  else .ok (⟨wHas, p.kids, p.steps, p.attr, p.text⟩, l)
def one (cut : Bool) (inn : Option (L → Rs Prd)) (l : L) : Rs Prd :=
  if calls wNot l = true then wnt (want cut wNot l) fun l => thn (within cut inn [40] [41] l) fun p l => .ok (⟨wNot, Prds.of [p], .nil, [], []⟩, l)
  else if part l = [40] then within cut inn [40] [41] l
  else thn (value cut inn l) fun p l => compared cut p l
def joinMore (word : L) (read : L → Rs Prd) : Nat → L → Rs (List Prd)
  | 0, l => .ok ([], l)
  | f + 1, l => if part l = word then thn (read (pass word.length l)) fun p l => thn (joinMore word read f l) fun ps l => .ok (p :: ps, l) else .ok ([], l)
def joined (word : L) (read : L → Rs Prd) (l : L) : Rs Prd := thn (read l) fun p l => if part l = word then thn (joinMore word read (l.length + 1) l) fun ps l => .ok (⟨word, Prds.of (p :: ps), .nil, [], []⟩, l) else .ok (p, l)
abbrev wOr : L := [111, 114]
abbrev wAnd : L := [97, 110, 100]
def both (cut : Bool) (inn : Option (L → Rs Prd)) : L → Rs Prd := joined wAnd (one cut inn)
def cond (cut : Bool) (inn : Option (L → Rs Prd)) : L → Rs Prd := joined wOr (both cut inn)
def condAt (cut : Bool) : Nat → L → Rs Prd
  | 0 => cond cut none
  | d + 1 => cond cut (some (condAt cut d))
def inAt (cut : Bool) : Nat → Option (L → Rs Prd)
  | 0 => none
  | d + 1 => some (condAt cut d)
theorem condAt_eq (cut : Bool) (d : Nat) : condAt cut d = cond cut (inAt cut d) := by cases d <;> rfl
def pathsMore (cut : Bool) : Nat → L → Rs (List (List Stp))
  | 0, l => .ok ([], l)
  | f + 1, l => if part l = [124] then thn (path cut (inAt cut 8) (pass 1 l)) fun p l => thn (pathsMore cut f l) fun ps l => .ok (p :: ps, l) else .ok ([], l)
def query (cut : Bool) (l : L) : Rs (List (List Stp)) := thn (path cut (inAt cut 8) (pass 0 l)) fun p l => thn (pathsMore cut (l.length + 1) l) fun ps l => if l = [] ∧ cut = false then .ok (p :: ps, l) else .error (bad cut l)
def cutAt (q : L) : L := q.take (Ch.bad (bs q))
def isCut (q : L) : Bool := decide ((cutAt q).length < q.length)
def parse (q : L) : Except (Nat × Nat) (List (List Stp)) :=
  if 500 < q.length then .error (1, 0) else match query (isCut q) (cutAt q) with
    | .error e => .error (e.1, (cutAt q).length - e.2)
    | .ok x => .ok x.1

theorem skip_suf (l : L) : skip l <:+ l := List.dropWhile_suffix _
theorem pass_suf (n : Nat) (l : L) : pass n l <:+ l := (skip_suf _).trans (List.drop_suffix _ _)
theorem pass_lt {n : Nat} {l : L} (hn : 0 < n) (hl : l ≠ []) : (pass n l).length < l.length := by
  have h1 := (skip_suf (l.drop n)).length_le
  have h2 : l.length ≠ 0 := fun e => hl (List.length_eq_zero_iff.1 e)
  simp only [List.length_drop] at h1
  unfold pass; omega
theorem part_nil : part [] = [] := by simp [part]
theorem part_ne {l p : L} (h : part l = p) (hp : p ≠ []) : l ≠ [] := by rintro rfl; exact hp (h.symm.trans part_nil)
def Suf {α : Type} (l : L) (x : Rs α) : Prop := ∀ a l', x = .ok (a, l') → l' <:+ l
def SufW (l : L) (x : Except (Nat × Nat) L) : Prop := ∀ l', x = .ok l' → l' <:+ l
theorem Suf.ok {α : Type} {l l' : L} {a : α} (h : l' <:+ l) : Suf l (.ok (a, l')) := by intro b l'' e; cases e; exact h
theorem Suf.error {α : Type} {l : L} {e : Nat × Nat} : Suf (α := α) l (.error e) := by intro b l'' h; cases h
theorem Suf.thn {α β : Type} {l : L} {x : Rs α} {f : α → L → Rs β} (h : Suf l x) (hf : ∀ a l', Suf l' (f a l')) : Suf l (thn x f) := by
  intro b l'' e
  cases x with
  | error y => cases e
  | ok y => obtain ⟨a, l'⟩ := y; exact (hf a l' b l'' e).trans (h a l' rfl)
theorem Suf.wnt {β : Type} {l : L} {x : Except (Nat × Nat) L} {f : L → Rs β} (h : SufW l x) (hf : ∀ l', Suf l' (f l')) : Suf l (wnt x f) := by
  intro b l'' e
  cases x with
  | error y => cases e
  | ok l' => exact (hf l' b l'' e).trans (h l' rfl)
theorem Suf.from {α : Type} {l l' : L} {x : Rs α} (h : Suf l' x) (hl : l' <:+ l) : Suf l x := fun a l'' e => (h a l'' e).trans hl
theorem want_suf (cut : Bool) (p l : L) : SufW l (want cut p l) := by
  intro l' h; unfold want at h; split at h
  · cases h; exact pass_suf _ _
  · cases h
theorem want_lt {cut : Bool} {p l l' : L} (hp : p ≠ []) (h : want cut p l = .ok l') : l'.length < l.length := by
  unfold want at h; split at h
  · next e => cases h; exact pass_lt (by cases p; exact absurd rfl hp; simp) (part_ne e hp)
  · cases h
theorem name_suf (cut : Bool) (l : L) : Suf l (name cut l) := by
  unfold name; split
  · exact Suf.error
  · exact Suf.ok (pass_suf _ _)
theorem quotedBy_suf (cut : Bool) (c : UInt8) (l : L) : Suf l (quotedBy cut c l) := by
  unfold quotedBy; split
  · exact Suf.ok (pass_suf _ _)
  · exact Suf.error
theorem quoted_suf (cut : Bool) (l : L) : Suf l (quoted cut l) := by
  unfold quoted; split
  · exact quotedBy_suf _ _ _
  · split
    · exact quotedBy_suf _ _ _
    · exact Suf.error
def SufI (inn : Option (L → Rs Prd)) : Prop := ∀ f, inn = some f → ∀ l, Suf l (f l)
variable {cut : Bool} {inn : Option (L → Rs Prd)}
theorem within_suf (hi : SufI inn) (o s l : L) : Suf l (within cut inn o s l) := by
  unfold within; cases inn with
  | none => exact Suf.error
  | some f => exact Suf.wnt (want_suf _ _ _) fun l => Suf.thn (hi f rfl l) fun p l => Suf.wnt (want_suf _ _ _) fun l => Suf.ok (List.suffix_refl _)
theorem within_lt (hi : SufI inn) {o s l l' : L} {p : Prd} (ho : o ≠ []) (h : within cut inn o s l = .ok (p, l')) : l'.length < l.length := by
  unfold within at h; cases inn with
  | none => cases h
  | some f =>
    simp only [wnt] at h
    cases e : want cut o l with
    | error y => rw [e] at h; cases h
    | ok l1 =>
      rw [e] at h
      have := (Suf.thn (hi f rfl l1) (fun p l => Suf.wnt (want_suf cut s l) fun l => Suf.ok (a := p) (List.suffix_refl l)) p l' h).length_le
      have := want_lt ho e
      omega
theorem preds_suf (hi : SufI inn) : ∀ f l, Suf l (preds cut inn f l)
  | 0, l => Suf.ok (List.suffix_refl _)
  | f + 1, l => by
    unfold preds; split
    · exact Suf.thn (within_suf hi _ _ _) fun p l => Suf.thn (preds_suf hi f l) fun ps l => Suf.ok (List.suffix_refl _)
    · exact Suf.ok (List.suffix_refl _)
theorem test_suf (l : L) : Suf l (test cut l) := by
  unfold test; split
  · exact Suf.ok (pass_suf _ _)
  · split
    · exact Suf.wnt (want_suf _ _ _) fun l => Suf.wnt (want_suf _ _ _) fun l => Suf.wnt (want_suf _ _ _) fun l => Suf.ok (List.suffix_refl _)
    · exact name_suf _ _
theorem step_suf (hi : SufI inn) (d : Bool) (l : L) : Suf l (step cut inn d l) := Suf.thn (test_suf l) fun t l => Suf.thn (preds_suf hi _ _) fun ps l => Suf.ok (List.suffix_refl _)
theorem slash_suf (l : L) : Suf l (slash cut l) := by
  unfold slash; split
  · exact Suf.ok (pass_suf _ _)
  · exact Suf.wnt (want_suf _ _ _) fun l => Suf.ok (List.suffix_refl _)
theorem slash_lt {l l' : L} {d : Bool} (h : slash cut l = .ok (d, l')) : l'.length < l.length := by
  unfold slash at h; split at h
  · next e => cases h; exact pass_lt (by decide) (part_ne e (by decide))
  · simp only [wnt] at h
    cases e : want cut [47] l with
    | error y => rw [e] at h; cases h
    | ok l1 => rw [e] at h; cases h; exact want_lt (by decide) e
theorem pathMore_suf (hi : SufI inn) : ∀ f s l, Suf l (pathMore cut inn f s l)
  | 0, _, l => Suf.ok (List.suffix_refl _)
  | f + 1, s, l => by
    unfold pathMore; split
    · exact Suf.thn (slash_suf l) fun d l => Suf.thn (step_suf hi d l) fun s l => Suf.thn (pathMore_suf hi f s l) fun ss l => Suf.ok (List.suffix_refl _)
    · exact Suf.ok (List.suffix_refl _)
theorem path_suf (hi : SufI inn) (l : L) : Suf l (path cut inn l) := Suf.thn (slash_suf l) fun d l => Suf.thn (step_suf hi d l) fun s l => Suf.thn (pathMore_suf hi _ s l) fun ss l => Suf.ok (List.suffix_refl _)
theorem attr_suf (l : L) : Suf l (attr cut l) := Suf.wnt (want_suf _ _ _) fun l => name_suf _ _
theorem valMore_suf (hi : SufI inn) : ∀ f s l, Suf l (valMore cut inn f s l)
  | 0, _, l => Suf.ok (List.suffix_refl _)
  | f + 1, s, l => by
    unfold valMore; split
    · refine Suf.thn (slash_suf l) fun d l => ?_
      split
      · exact Suf.thn (attr_suf l) fun a l => Suf.ok (List.suffix_refl _)
      · exact Suf.thn (step_suf hi d l) fun s l => Suf.thn (valMore_suf hi f s l) fun ss l => Suf.ok (List.suffix_refl _)
    · exact Suf.ok (List.suffix_refl _)
theorem vsteps_suf (hi : SufI inn) (d : Bool) (l : L) : Suf l (vsteps cut inn d l) := Suf.thn (step_suf hi d l) fun s l => Suf.thn (valMore_suf hi _ s l) fun ss l => Suf.ok (List.suffix_refl _)
theorem dot_suf (hi : SufI inn) (l : L) : Suf l (dot cut inn l) := by
  refine Suf.wnt (want_suf _ _ _) fun l => ?_
  split
  · exact (vsteps_suf hi _ _).from (pass_suf _ _)
  · exact Suf.ok (List.suffix_refl _)
theorem value_suf (hi : SufI inn) (l : L) : Suf l (value cut inn l) := by
  unfold value; split
  · exact dot_suf hi l
  · split
    · exact Suf.thn (attr_suf l) fun a l => Suf.ok (List.suffix_refl _)
    · exact vsteps_suf hi _ _
theorem compared_suf (p : Prd) (l : L) : Suf l (compared cut p l) := by
  unfold compared; split
  · exact (Suf.thn (quoted_suf _ _) fun a l => Suf.ok (List.suffix_refl _)).from (pass_suf _ _)
  · split
    · exact (Suf.thn (quoted_suf _ _) fun a l => Suf.ok (List.suffix_refl _)).from (pass_suf _ _)
    · exact Suf.ok (List.suffix_refl _)
theorem one_suf (hi : SufI inn) (l : L) : Suf l (one cut inn l) := by
  unfold one; split
  · exact Suf.wnt (want_suf _ _ _) fun l => Suf.thn (within_suf hi _ _ _) fun p l => Suf.ok (List.suffix_refl _)
  · split
    · exact within_suf hi _ _ _
    · exact Suf.thn (value_suf hi l) fun p l => compared_suf p l
theorem joinMore_suf {word : L} {read : L → Rs Prd} (hr : ∀ l, Suf l (read l)) : ∀ f l, Suf l (joinMore word read f l)
  | 0, l => Suf.ok (List.suffix_refl _)
  | f + 1, l => by
    unfold joinMore; split
    · exact (Suf.thn (hr _) fun p l => Suf.thn (joinMore_suf hr f l) fun ps l => Suf.ok (List.suffix_refl _)).from (pass_suf _ _)
    · exact Suf.ok (List.suffix_refl _)
theorem joined_suf {word : L} {read : L → Rs Prd} (hr : ∀ l, Suf l (read l)) (l : L) : Suf l (joined word read l) := by
  refine Suf.thn (hr l) fun p l => ?_
  split
  · exact Suf.thn (joinMore_suf hr _ _) fun ps l => Suf.ok (List.suffix_refl _)
  · exact Suf.ok (List.suffix_refl _)
theorem cond_suf (hi : SufI inn) (l : L) : Suf l (cond cut inn l) := joined_suf (fun l => joined_suf (one_suf hi) l) l
theorem condAt_suf : ∀ d l, Suf l (condAt cut d l)
  | 0, l => cond_suf (fun f e => by cases e) l
  | d + 1, l => cond_suf (fun f e => by cases e; exact condAt_suf d) l
theorem inAt_suf : ∀ d, SufI (inAt cut d)
  | 0 => fun f e => by cases e
  | d + 1 => fun f e => by cases e; exact condAt_suf d
end Go.Proofs.YtoahlnmhjinneaaGreatDoor
