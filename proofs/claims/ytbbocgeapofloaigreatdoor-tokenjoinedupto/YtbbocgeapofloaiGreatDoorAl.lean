import Derived.Test.YtbbocgeapofloaiGreatDoorAk
set_option linter.unusedVariables false
set_option linter.unusedSimpArgs false
namespace Go.Proofs.YtbbocgeapofloaiGreatDoor
open Go.RowKit Go.Maps Go.Lib

/-! The reader's loop, as plain Lean: what a step adds at most; the loop. -/

theorem clear_less (st : St) (i j : Rn) : ((st.clear i).run j).length ≤ (st.run j).length := by
  simp only [St.clear, St.setRun]; split <;> simp
theorem tellText_len (st : St) (j : Rn) : (st.tellText.run j).length ≤ (st.run j).length := by
  unfold St.tellText; split
  · omega
  · exact clear_less _ _ _
theorem tellText_told (st : St) : st.tellText.told.length ≤ st.told.length + 1 := by
  unfold St.tellText; split
  · omega
  · simp [St.clear, St.setRun]
theorem tellText_same (st : St) : st.tellText.attrs = st.attrs ∧ st.tellText.names = st.names ∧ st.tellText.quote = st.quote := by
  unfold St.tellText; split <;> exact ⟨rfl, rfl, rfl⟩

/-- What a step adds at most, and what comes of it. -/
structure Adds (st : St) (c : Int) (o : Out) : Prop where
  run : ∀ i, (o.st.run i).length ≤ (st.run i).length + 12
  told : o.st.told.length ≤ st.told.length + 4
  attrs : o.st.attrs.length ≤ st.attrs.length + 1
  names : o.st.names.length ≤ st.names.length + 1
  quote : 0 ≤ st.quote → 0 ≤ o.st.quote
  ref : ∀ i k, o.res = .go (.ref i k) → (o.st.run .ref).length ≤ 4
  neg : c = -1 ∨ c = -2 → 0 ≤ st.quote → ∀ pt, o.res ≠ .go pt

theorem put_same (st : St) (i : Rn) (c q : Int) : (st.put i c q).told = st.told ∧ (st.put i c q).attrs = st.attrs ∧ (st.put i c q).names = st.names ∧ (st.put i c q).quote = st.quote := ⟨rfl, rfl, rfl, rfl⟩

theorem Adds.fail0 {st : St} {c : Int} {no q : Int} : Adds st c ⟨st, .fail no q⟩ :=
  ⟨fun _ => by simp, by simp, by simp, by simp, fun h => h, fun _ _ e => (by cases e), fun _ _ _ e => (by cases e)⟩
theorem Adds.go0 {st : St} {c : Int} {pt : Part} (h0 : 0 ≤ c) (hr : ∀ i k, pt ≠ .ref i k) : Adds st c ⟨st, .go pt⟩ :=
  ⟨fun _ => by simp, by simp, by simp, by simp, fun h => h, fun i k e => absurd (by cases e; rfl) (hr i k), fun h => by omega⟩
theorem begins_pos {c : Int} (h : Ch.begins c = true) : 0 ≤ c := by have := (Ch.begins_iff c).1 h; omega
theorem goesOn_pos {c : Int} (h : Ch.goesOn c = true) : 0 ≤ c := by have := (Ch.goesOn_iff c).1 h; omega
theorem blank_pos {c : Int} (h : Tk.blank c = true) : 0 ≤ c := by simp [Tk.blank] at h; omega

/-- From another state on. -/
theorem Adds.via {st st1 : St} {c : Int} {pt : Part} (h0 : 0 ≤ c) (hr : ∀ i k, pt ≠ .ref i k) (h1 : ∀ i, (st1.run i).length ≤ (st.run i).length + 12) (h2 : st1.told.length ≤ st.told.length + 4) (h3 : st1.attrs.length ≤ st.attrs.length + 1) (h4 : st1.names.length ≤ st.names.length + 1) (h5 : 0 ≤ st.quote → 0 ≤ st1.quote) : Adds st c ⟨st1, .go pt⟩ :=
  ⟨h1, h2, h3, h4, h5, fun i k e => absurd (by cases e; rfl) (hr i k), fun h => by omega⟩

theorem tellOpening_adds (st : St) (c : Int) (pt : Part) (h0 : 0 ≤ c) (hr : ∀ i k, pt ≠ .ref i k) : Adds st c ⟨st.tellOpening, .go pt⟩ := by
  refine .via h0 hr (fun i => ?_) ?_ ?_ ?_ ?_
  · show (st.tellText.run i).length ≤ _; have := tellText_len st i; omega
  · show (st.tellText.told ++ [_]).length ≤ _; have := tellText_told st; simp; omega
  · show ([] : List (List UInt8 × List UInt8)).length ≤ _; simp
  · show ([] : List (List UInt8)).length ≤ _; simp
  · show _ → 0 ≤ st.tellText.quote; rw [(tellText_same st).2.2]; exact id
theorem tellClosing_adds (st : St) (c : Int) (pt : Part) (h0 : 0 ≤ c) (hr : ∀ i k, pt ≠ .ref i k) : Adds st c ⟨st.tellClosing, .go pt⟩ := by
  refine .via h0 hr (fun i => ?_) ?_ ?_ ?_ ?_
  · show (st.tellText.run i).length ≤ _; have := tellText_len st i; omega
  · show (st.tellText.told ++ [_]).length ≤ _; have := tellText_told st; simp; omega
  · show st.tellText.attrs.length ≤ _; rw [(tellText_same st).1]; omega
  · show st.tellText.names.length ≤ _; rw [(tellText_same st).2.1]; omega
  · show _ → 0 ≤ st.tellText.quote; rw [(tellText_same st).2.2]; exact id
theorem put_adds (st : St) (i : Rn) (c q d : Int) (pt : Part) (h0 : 0 ≤ d) (hr : ∀ i k, pt ≠ .ref i k) : Adds st d ⟨st.put i c q, .go pt⟩ :=
  .via h0 hr (fun j => by have := put_len st i j c q; omega) (by simp [put_same]) (by simp [put_same]) (by simp [put_same]) (fun h => h)

theorem stPart_adds (q : Int) (st : St) (c : Int) : Adds st c (stPart q st c) := by
  unfold stPart
  split
  · exact .go0 (blank_pos (by assumption)) (fun _ _ => by simp)
  split
  · exact .go0 (by omega) (fun _ _ => by simp)
  split
  · exact tellOpening_adds st c _ (by omega) (fun _ _ => by simp)
  · exact .fail0
/-- At a state that differs by what a step may add before. -/
theorem Adds.after {st st1 : St} {c : Int} {o : Out} (h : Adds st1 c o) (h1 : ∀ i, (o.st.run i).length ≤ (st.run i).length + 12) (h2 : st1.told.length ≤ st.told.length) (h3 : st1.attrs.length ≤ st.attrs.length) (h4 : o.st.names.length ≤ st.names.length + 1) (h5 : st1.quote = st.quote) : Adds st c o :=
  ⟨h1, by have := h.told; omega, by have := h.attrs; omega, h4, fun x => h.quote (h5 ▸ x), h.ref, fun x y => h.neg x (h5 ▸ y)⟩
theorem stName1_adds (i : Rn) (k : Pl) (q : Int) (st : St) (c : Int) : Adds st c (stName1 i k q st c) := by
  unfold stName1; split
  · exact put_adds st i c q c _ (begins_pos (by assumption)) (fun _ _ => by simp)
  · exact .fail0
theorem stAttr_adds (q : Int) (st : St) (c : Int) : Adds st c (stAttr q st c) := by
  unfold stAttr
  split
  · exact .go0 (blank_pos (by assumption)) (fun _ _ => by simp)
  split
  · exact .go0 (by omega) (fun _ _ => by simp)
  · exact .fail0
theorem stAttr_st (q : Int) (st : St) (c : Int) : (stAttr q st c).st = st := by
  unfold stAttr; repeat' split
  all_goals rfl
theorem stRemark_adds (q : Int) (st : St) (c : Int) : Adds st c (stRemark q st c) := by
  unfold stRemark
  split
  · exact .go0 (by omega) (fun _ _ => by simp)
  split
  · exact .fail0
  · exact .go0 (by omega) (fun _ _ => by simp)
theorem stOrder_adds (q : Int) (st : St) (c : Int) : Adds st c (stOrder q st c) := by
  unfold stOrder
  split
  · exact .go0 (by omega) (fun _ _ => by simp)
  split
  · exact .fail0
  · exact .go0 (by omega) (fun _ _ => by simp)
theorem stSection_len (q : Int) (st : St) (c : Int) (i : Rn) : ((stSection q st c).st.run i).length ≤ (st.run i).length + 4 := by
  unfold stSection; repeat' split
  all_goals first | (exact put_len st .text i c q) | (simp; done)
theorem stSection_adds (q : Int) (st : St) (c : Int) : Adds st c (stSection q st c) := by
  unfold stSection
  split
  · exact .go0 (by omega) (fun _ _ => by simp)
  split
  · exact .fail0
  · exact put_adds st _ c q c _ (by omega) (fun _ _ => by simp)
theorem stBracket_len (q : Int) (st : St) (c : Int) (i : Rn) : ((stBracket q st c).st.run i).length ≤ (st.run i).length + 8 := by
  unfold stBracket; split
  · simp
  · have := stSection_len q (st.put .text 93 (q - 1)) c i
    have := put_len st .text i 93 (q - 1)
    omega
theorem stSection_names (q : Int) (st : St) (c : Int) : (stSection q st c).st.names = st.names := by
  unfold stSection; repeat' split
  all_goals rfl
theorem stBracket_names (q : Int) (st : St) (c : Int) : (stBracket q st c).st.names = st.names := by
  unfold stBracket; split
  · rfl
  · exact stSection_names _ _ _
theorem stBracket_adds (q : Int) (st : St) (c : Int) : Adds st c (stBracket q st c) := by
  unfold stBracket
  split
  · exact .go0 (by omega) (fun _ _ => by simp)
  · refine (stSection_adds q (st.put .text 93 (q - 1)) c).after (fun i => ?_) (by simp [put_same]) (by simp [put_same]) ?_ rfl
    · have := stSection_len q (st.put .text 93 (q - 1)) c i
      have := put_len st .text i 93 (q - 1)
      omega
    · rw [stSection_names]; simp [put_same]

theorem ref_adds (st : St) (i : Rn) (k : Pl) (q : Int) : Adds st 38 ⟨(st.clear .ref).put .ref 38 q, .go (.ref i k)⟩ := by
  refine ⟨fun j => ?_, by simp [put_same, St.clear, St.setRun], by simp [put_same, St.clear, St.setRun], by simp [put_same, St.clear, St.setRun], fun h => h, fun _ _ _ => ?_, fun h => by omega⟩
  · have h1 := put_len (st.clear .ref) .ref j 38 q
    have h2 := clear_less st .ref j
    show (((st.clear .ref).put .ref 38 q).run j).length ≤ _
    omega
  · have h1 := put_len (st.clear .ref) .ref .ref 38 q
    have h2 : ((st.clear .ref).run .ref).length = 0 := by simp [St.clear, St.setRun]
    show (((st.clear .ref).put .ref 38 q).run .ref).length ≤ _
    omega

theorem step_adds (k : Pl) (q : Int) (st : St) (c : Int) : Adds st c (step k q st c) := by
  cases k with
  | between =>
    simp only [step]
    split
    · exact .via (by omega) (fun _ _ => by simp) (fun _ => by simp) (by simp) (by simp) (by simp) (fun h => h)
    split
    · rename_i e; subst e; exact ref_adds st _ _ q
    split
    · refine ⟨fun i => ?_, ?_, ?_, ?_, ?_, fun _ _ e => (by cases e), fun _ _ _ e => (by cases e)⟩
      · show (st.tellText.run i).length ≤ _; have := tellText_len st i; omega
      · show st.tellText.told.length ≤ _; have := tellText_told st; omega
      · show st.tellText.attrs.length ≤ _; rw [(tellText_same st).1]; omega
      · show st.tellText.names.length ≤ _; rw [(tellText_same st).2.1]; omega
      · show _ → 0 ≤ st.tellText.quote; rw [(tellText_same st).2.2]; exact id
    split
    · exact .fail0
    · refine ⟨fun j => ?_, by simp [put_same], by simp [put_same], by simp [put_same], fun h => h, fun _ _ e => (by cases e), fun h => ?_⟩
      · have := put_len st .text j c q
        show ((st.put .text c q).run j).length ≤ _
        omega
      · omega
  | less =>
    simp only [step]
    split
    · exact .via (by omega) (fun _ _ => by simp) (fun i => by have := clear_less st .name i; omega) (by simp [St.clear, St.setRun]) (by simp [St.clear, St.setRun]) (by simp [St.clear, St.setRun]) (fun h => h)
    split
    · exact .go0 (by omega) (fun _ _ => by simp)
    split
    · exact .go0 (by omega) (fun _ _ => by simp)
    · unfold stName1; split
      · refine .via (begins_pos (by assumption)) (fun _ _ => by simp) (fun i => ?_) (by simp [put_same, St.clear, St.setRun]) (by simp [put_same, St.clear, St.setRun]) (by simp [put_same, St.clear, St.setRun]) (fun h => h)
        have h1 := put_len (st.clear .name) .name i c q
        have h2 := clear_less st .name i
        omega
      · exact ⟨fun i => by have := clear_less st .name i; show ((st.clear .name).run i).length ≤ _; omega, by simp [St.clear, St.setRun], by simp [St.clear, St.setRun], by simp [St.clear, St.setRun], fun h => h, fun _ _ e => (by cases e), fun _ _ _ e => (by cases e)⟩
  | bang =>
    simp only [step]
    split
    · exact .go0 (by omega) (fun _ _ => by simp)
    split
    · exact .go0 (by omega) (fun _ _ => by simp)
    · exact .fail0
  | remark => exact stRemark_adds q st c
  | dash =>
    simp only [step]
    split
    · exact .go0 (by omega) (fun _ _ => by simp)
    · exact stRemark_adds q st c
  | orderName =>
    simp only [step]
    split
    · exact .go0 (begins_pos (by assumption)) (fun _ _ => by simp)
    · exact .fail0
  | order => exact stOrder_adds q st c
  | mark =>
    simp only [step]
    split
    · exact .go0 (by omega) (fun _ _ => by simp)
    · exact stOrder_adds q st c
  | section_ => exact stSection_adds q st c
  | bracket => exact stBracket_adds q st c
  | brackets =>
    simp only [step]
    split
    · exact .go0 (by omega) (fun _ _ => by simp)
    · refine (stBracket_adds q (st.put .text 93 (q - 2)) c).after (fun i => ?_) (by simp [put_same]) (by simp [put_same]) ?_ rfl
      · have := stBracket_len q (st.put .text 93 (q - 2)) c i
        have := put_len st .text i 93 (q - 2)
        omega
      · rw [stBracket_names]; simp [put_same]
  | part => exact stPart_adds q st c
  | blanks =>
    simp only [step]
    split
    · unfold stName1
      rw [if_pos (by assumption)]
      refine .via (begins_pos (by assumption)) (fun _ _ => by simp) (fun i => ?_) (by simp [put_same, St.clear, St.setRun]) (by simp [put_same, St.clear, St.setRun]) (by simp [put_same, St.clear, St.setRun]) (fun h => h)
      have h1 := put_len (st.clear .attr) .attr i c q
      have h2 := clear_less st .attr i
      omega
    · exact stPart_adds q st c
  | newAttr =>
    simp only [step]
    split
    · exact .fail0
    · refine (stAttr_adds q { st with names := st.names ++ [st.run .attr] } c).after (fun i => ?_) (by simp) (by simp) ?_ rfl
      · rw [stAttr_st]; simp
      · rw [stAttr_st]; simp
  | attrP => exact stAttr_adds q st c
  | equals =>
    simp only [step]
    split
    · exact .go0 (blank_pos (by assumption)) (fun _ _ => by simp)
    split
    · exact .via (by omega) (fun _ _ => by simp) (fun _ => by simp) (by simp) (by simp) (by simp) (fun _ => by show 0 ≤ c; omega)
    · exact .fail0
  | valueP =>
    simp only [step]
    split
    · rename_i e
      refine ⟨fun i => ?_, by simp [St.addAttr, St.clear, St.setRun], by simp [St.addAttr, St.clear, St.setRun], by simp [St.addAttr, St.clear, St.setRun], fun h => h, fun _ _ e => (by cases e), fun h h' => by omega⟩
      have := clear_less { st with attrs := st.attrs ++ [(st.run .attr, st.run .value)] } .value i
      show ((St.clear { st with attrs := st.attrs ++ [(st.run .attr, st.run .value)] } .value).run i).length ≤ _
      refine Nat.le_trans this ?_
      simp
    split
    · rename_i e; subst e; exact ref_adds st _ _ q
    split
    · exact .fail0
    · exact put_adds st _ c q c _ (by omega) (fun _ _ => by simp)
  | slash =>
    simp only [step]
    split
    · refine .via (by omega) (fun _ _ => by simp) (fun i => ?_) ?_ ?_ ?_ ?_
      · have h1 := (tellOpening_adds st 0 (.plain .between) (by omega) (fun _ _ => by simp)).run i
        have h2 := tellText_len st.tellOpening i
        have h3 : (st.tellOpening.run i).length ≤ (st.run i).length := tellText_len st i
        show (st.tellOpening.tellText.run i).length ≤ _
        omega
      · have h1 : st.tellOpening.told.length ≤ st.told.length + 2 := by
          show (st.tellText.told ++ [_]).length ≤ _; have := tellText_told st; simp; omega
        have h2 := tellText_told st.tellOpening
        show (st.tellOpening.tellText.told ++ [_]).length ≤ _
        simp; omega
      · show st.tellOpening.tellText.attrs.length ≤ _; rw [(tellText_same _).1]; show ([] : List (List UInt8 × List UInt8)).length ≤ _; simp
      · show st.tellOpening.tellText.names.length ≤ _; rw [(tellText_same _).2.1]; show ([] : List (List UInt8)).length ≤ _; simp
      · show _ → 0 ≤ st.tellOpening.tellText.quote; rw [(tellText_same _).2.2]; show _ → 0 ≤ st.tellText.quote; rw [(tellText_same _).2.2]; exact id
    · exact .fail0
  | closing =>
    simp only [step]
    split
    · exact .go0 (blank_pos (by assumption)) (fun _ _ => by simp)
    split
    · exact tellClosing_adds st c _ (by omega) (fun _ _ => by simp)
    · exact .fail0

theorem putFrom_len (i j : Rn) (t : ByteArray) (q : Int) : ∀ f pos st, ((putFrom i t q f pos st).run j).length ≤ (st.run j).length + 4 * (t.size - pos) := by
  intro f
  induction f with
  | zero => intro pos st; simp [putFrom]
  | succ f ih =>
    intro pos st
    unfold putFrom
    split
    · rename_i hp
      have h1 := ih (pos + (Utf8.decode t pos).2) (st.put i ((Utf8.decode t pos).1 : Int) q)
      have h2 := put_len st i j ((Utf8.decode t pos).1 : Int) q
      have h3 := Ch.decode_width t pos hp
      omega
    · omega
theorem putFrom_same (i : Rn) (t : ByteArray) (q : Int) : ∀ f pos st, (putFrom i t q f pos st).told = st.told ∧ (putFrom i t q f pos st).attrs = st.attrs ∧ (putFrom i t q f pos st).names = st.names ∧ (putFrom i t q f pos st).quote = st.quote := by
  intro f
  induction f with
  | zero => intro pos st; exact ⟨rfl, rfl, rfl, rfl⟩
  | succ f ih =>
    intro pos st
    unfold putFrom
    split
    · exact ih _ _
    · exact ⟨rfl, rfl, rfl, rfl⟩

theorem putFrom_other (i j : Rn) (t : ByteArray) (q : Int) (hj : j ≠ i) : ∀ f pos st, (putFrom i t q f pos st).run j = st.run j := by
  intro f
  induction f with
  | zero => intro pos st; rfl
  | succ f ih =>
    intro pos st
    unfold putFrom
    split
    · rw [ih]; simp [St.put, St.setRun, hj]
    · rfl

def Part.extra (pt : Part) (st : St) : Nat := match pt with | .ref _ _ => 16 * (st.run .ref).length + 120 | _ => 0

/-- What there can be behind n characters. -/
structure Lim (n : Nat) (pt : Part) (st : St) : Prop where
  run : ∀ i, i ≠ .ref → (st.run i).length + pt.extra st ≤ 256 * n
  ref : (st.run .ref).length ≤ 256 * n
  told : st.told.length ≤ 4 * n
  attrs : st.attrs.length ≤ n
  names : st.names.length ≤ n
  quote : 0 ≤ st.quote
  sound : pt.Sound

theorem Lim.tiny {n : Nat} {pt : Part} {st : St} (h : Lim n pt st) (hn : n ≤ 274877906944) : st.Tiny := by
  refine ⟨fun i => ?_, by have := h.told; omega, by have := h.attrs; omega, by have := h.names; omega⟩
  by_cases hi : i = .ref
  · subst hi; have := h.ref; omega
  · have := h.run i hi; omega

theorem Lim.both {n : Nat} {pt : Part} {st : St} (h : Lim n pt st) (hn : n ≤ 274877906944) : ∀ i k, pt = .ref i k → (st.run i).length + 16 * (st.run .ref).length + 120 ≤ 70368744177664 := by
  rintro i k rfl
  have h1 := h.run i h.sound
  simp only [Part.extra] at h1
  omega

theorem sound_stName (i : Rn) (k : Pl) (q : Int) (st : St) (c : Int) : ∀ pt, (stName i k q st c).res = .go pt → pt.Sound := by
  intro pt e
  unfold stName stName1 at e
  repeat' split at e
  all_goals first | (cases e; simp [Part.Sound]; done) | (cases e; done) | exact step_sound k q st c pt e

/-- A plain step keeps the limits. -/
theorem Lim.plain {n : Nat} {pt : Part} {st : St} {o : Out} {c : Int} (h : Lim n pt st) (ha : Adds st c o) {pt' : Part} (e : o.res = .go pt') (hs : pt'.Sound) : Lim (n + 1) pt' o.st := by
  have hx : pt'.extra o.st ≤ 184 := by
    cases pt' with
    | ref i k => have := ha.ref i k e; show 16 * (o.st.run .ref).length + 120 ≤ 184; omega
    | plain k => exact Nat.zero_le _
    | word l k => exact Nat.zero_le _
    | name i k => exact Nat.zero_le _
  refine ⟨fun i hi => ?_, ?_, ?_, ?_, ?_, ha.quote h.quote, hs⟩
  · have := h.run i hi; have := ha.run i; omega
  · have := h.ref; have := ha.run .ref; omega
  · have := h.told; have := ha.told; omega
  · have := h.attrs; have := ha.attrs; omega
  · have := h.names; have := ha.names; omega

theorem stName_adds (i : Rn) (k : Pl) (q : Int) (st : St) (c : Int) : Adds st c (stName i k q st c) := by
  unfold stName
  split
  · exact stName1_adds i k q st c
  split
  · rename_i h
    refine put_adds st i c q c _ ?_ (fun _ _ => by simp)
    simp only [Bool.or_eq_true] at h
    exact h.elim begins_pos goesOn_pos
  · exact step_adds k q st c
theorem stWord_adds (x : UInt8) (l : List UInt8) (k : Pl) (q : Int) (st : St) (c : Int) : Adds st c (stWord x l k q st c) := by
  unfold stWord
  split
  · split
    · exact .go0 (by omega) (fun _ _ => by simp)
    · exact .go0 (by omega) (fun _ _ => by simp)
  · exact .fail0

/-- A step keeps the limits. -/
theorem Lim.step {n : Nat} {pt : Part} {st : St} {q c : Int} (h : Lim n pt st) {pt' : Part} (e : (stepPart pt q st c).res = .go pt') : Lim (n + 1) pt' (stepPart pt q st c).st := by
  cases pt with
  | plain k => exact h.plain (step_adds k q st c) e (step_sound k q st c pt' e)
  | word l k =>
    cases l with
    | nil => exact absurd rfl h.sound.1
    | cons x l =>
      refine h.plain (stWord_adds x l k q st c) e ?_
      have hl := h.sound.2
      simp only [stepPart, stWord] at e
      split at e
      · split at e
        · cases e; trivial
        · cases e; exact ⟨by assumption, by simp at hl; omega⟩
      · cases e
  | name i k => exact h.plain (stName_adds i k q st c) e (sound_stName i k q st c pt' e)
  | ref i k =>
    have hi := h.sound
    simp only [stepPart, stRef] at e ⊢
    split at e
    · rename_i hc
      rw [if_pos hc]
      split at e
      · rename_i h59
        rw [if_pos h59]
        have hp := fun j => put_len st .ref j 59 q
        have hsm := put_same st .ref 59 q
        generalize st.put .ref 59 q = st1 at *
        unfold stRefEnd at e ⊢
        split at e
        · rename_i hz
          rw [if_pos hz]
          cases e
          have hul := unesc_len ⟨(st1.run .ref).toArray⟩ (((⟨(st1.run .ref).toArray⟩ : ByteArray).size) + 1) 0 []
          have hsz : (⟨(st1.run .ref).toArray⟩ : ByteArray).size = (st1.run .ref).length := by show (st1.run .ref).toArray.size = _; simp
          have hul2 : (Ch.unesc ⟨(st1.run .ref).toArray⟩).1.length ≤ 4 * ((st1.run .ref).length + 1) := by
            unfold Ch.unesc; rw [hsz] at hul ⊢; simpa using hul
          have htz : (⟨(Ch.unesc ⟨(st1.run .ref).toArray⟩).1.toArray⟩ : ByteArray).size ≤ 4 * ((st1.run .ref).length + 1) := by
            show (Ch.unesc ⟨(st1.run .ref).toArray⟩).1.toArray.size ≤ _; simpa using hul2
          generalize (⟨(Ch.unesc ⟨(st1.run .ref).toArray⟩).1.toArray⟩ : ByteArray) = t at *
          have hpl := fun j => putFrom_len i j t (st1.runAt .ref) (t.size + 1) 0 st1
          have hps := putFrom_same i t (st1.runAt .ref) (t.size + 1) 0 st1
          refine ⟨fun j hj => ?_, ?_, ?_, ?_, ?_, ?_, trivial⟩
          · show ((putFrom i t (st1.runAt .ref) (t.size + 1) 0 st1).run j).length + 0 ≤ _
            have h1 := hpl j
            have h2 := hp j
            have h3 := hp .ref
            have h4 := h.run j hj
            simp only [Part.extra] at h4
            omega
          · show ((putFrom i t (st1.runAt .ref) (t.size + 1) 0 st1).run .ref).length ≤ _
            rw [putFrom_other i .ref t _ (Ne.symm hi)]
            have h1 := h.ref
            have h2 := hp .ref
            omega
          · show (putFrom i t (st1.runAt .ref) (t.size + 1) 0 st1).told.length ≤ _; rw [hps.1, hsm.1]; have := h.told; omega
          · show (putFrom i t (st1.runAt .ref) (t.size + 1) 0 st1).attrs.length ≤ _; rw [hps.2.1, hsm.2.1]; have := h.attrs; omega
          · show (putFrom i t (st1.runAt .ref) (t.size + 1) 0 st1).names.length ≤ _; rw [hps.2.2.1, hsm.2.2.1]; have := h.names; omega
          · show 0 ≤ (putFrom i t (st1.runAt .ref) (t.size + 1) 0 st1).quote; rw [hps.2.2.2, hsm.2.2.2]; exact h.quote
        · cases e
      · rename_i h59
        rw [if_neg h59]
        cases e
        have hp := fun j => put_len st .ref j c q
        refine ⟨fun j hj => ?_, ?_, Nat.le_trans h.told (by omega), Nat.le_trans h.attrs (by omega), Nat.le_trans h.names (by omega), h.quote, hi⟩
        · have h1 := h.run j hj
          have h2 := hp j
          have h3 := hp .ref
          have h4 : ((st.put .ref c q).run j) = st.run j := by simp [St.put, St.setRun, hj]
          simp only [Part.extra] at h1 ⊢
          rw [h4]
          omega
        · have h1 := h.ref
          have h3 := hp .ref
          show ((st.put .ref c q).run .ref).length ≤ _
          omega
    · cases e
end Go.Proofs.YtbbocgeapofloaiGreatDoor
namespace Go.Proofs.YtbbocgeapofloaiGreatDoor
open Go.RowKit Go.Maps Go.Lib

inductive Ret | more | over | fail (no q : Int)

structure Rd where
  s : Src
  pt : Part
  st : St
  ret : Ret

/-- The reader's loop. -/
def mrun : Nat → Src → Part → St → Rd
  | 0, s, pt, st => ⟨s, pt, st, .more⟩
  | n + 1, s, pt, st => if s.more = true then ⟨s, pt, st, .more⟩ else
      match (stepPart pt s.took.1.at_ st s.took.2).res with
      | .go pt' => mrun n s.took.1 pt' (stepPart pt s.took.1.at_ st s.took.2).st
      | .stop => ⟨s.took.1, pt, (stepPart pt s.took.1.at_ st s.took.2).st, .over⟩
      | .fail no q => ⟨s.took.1, pt, (stepPart pt s.took.1.at_ st s.took.2).st, .fail no q⟩

def reads (s : Src) (pt : Part) (st : St) : Rd := mrun (s.rest.size + 1) s pt st

/-- The source without its part. -/
def Src.bare (s : Src) : Src := { s with now := .nilFunc }
theorem took_bare (s : Src) : s.bare.took = (s.took.1.bare, s.took.2) := by
  unfold Src.took Src.bare; simp only; repeat' split
  all_goals rfl
theorem more_bare (s : Src) : s.bare.more = s.more := rfl

theorem stepPart_adds (pt : Part) (q : Int) (st : St) (c : Int) (h : pt.Sound) (hc : c = -1 ∨ c = -2) (hq : 0 ≤ st.quote) : ∀ pt', (stepPart pt q st c).res ≠ .go pt' := by
  cases pt with
  | plain k => exact (step_adds k q st c).neg hc hq
  | word l k =>
    cases l with
    | nil => exact absurd rfl h.1
    | cons x l => exact (stWord_adds x l k q st c).neg hc hq
  | name i k => exact (stName_adds i k q st c).neg hc hq
  | ref i k =>
    intro pt' e
    simp only [stepPart, stRef] at e
    split at e
    · rename_i hi; have := inRef_pos hi; omega
    · cases e

/-- A step of which another one comes has taken a character. -/
theorem took_less {s : Src} {pt pt' : Part} {st : St} {q : Int} (h : pt.Sound) (hq : 0 ≤ st.quote) (e : (stepPart pt q st s.took.2).res = .go pt') : s.took.1.rest.size < s.rest.size ∧ s.rest.size ≠ 0 ∧ Ch.okAt s.rest 0 = true := by
  have hn := stepPart_adds pt q st s.took.2 h
  unfold Src.took at hn e ⊢
  split
  · rename_i h0
    rw [if_pos h0] at hn e
    exact absurd e (hn (Or.inl rfl) hq pt')
  · rename_i h0
    rw [if_neg h0] at hn e
    split
    · rename_i h1
      have := Ch.decode_width s.rest 0 (by omega)
      refine ⟨?_, h0, h1⟩
      simp; omega
    · rename_i h1
      rw [if_neg h1] at hn e
      exact absurd e (hn (Or.inr rfl) hq pt')

/-- More rounds than bytes change nothing. -/
theorem mrun_more : ∀ (n m k : Nat) (s : Src) (pt : Part) (st : St), Lim k pt st → s.rest.size < n → n ≤ m → mrun m s pt st = mrun n s pt st := by
  intro n
  induction n with
  | zero => intro m k s pt st _ h; omega
  | succ n ih =>
    intro m k s pt st hl h hm
    obtain ⟨m, rfl⟩ : ∃ j, m = j + 1 := ⟨m - 1, by omega⟩
    simp only [mrun]
    split
    · rfl
    · split
      · rename_i pt' e
        have hk := took_less hl.sound hl.quote e
        exact ih m (k + 1) _ _ _ (hl.step e) (by omega) (by omega)
      · rfl
      · rfl

theorem mrun_bare : ∀ (n : Nat) (s : Src) (pt : Part) (st : St), mrun n s.bare pt st = { mrun n s pt st with s := (mrun n s pt st).s.bare } := by
  intro n
  induction n with
  | zero => intro s pt st; rfl
  | succ n ih =>
    intro s pt st
    simp only [mrun, more_bare, took_bare]
    split
    · rfl
    · have : s.took.1.bare.at_ = s.took.1.at_ := rfl
      rw [this]
      cases (stepPart pt s.took.1.at_ st s.took.2).res with
      | go pt' => simp only []; exact ih _ _ _
      | stop => rfl
      | fail no q => rfl
end Go.Proofs.YtbbocgeapofloaiGreatDoor
namespace Go.Proofs.YtbbocgeapofloaiGreatDoor
open Go.RowKit Go.Maps Go.Lib

variable {F F' : Nat → Prop} {R : Nat} {w w' w'' : World} {s s' : Src} {p : Ptr} {st : St} {c : Int} {a : Addr} {pt : Part} {v : Value}

/-- What the package's variables hold. -/
structure Gl (w : World) (a : Addr) : Prop where
  tabs : Utf8Tabs 3 4 w
  tab : Tab w
  more : More w (.iface 162 (.pointer (some a)))
  et : w.cell? ⟨1, 0, none⟩ = some (.iface 132 (.agg #[.pointer (some ⟨5, 71, none⟩)]))

/-- None of the package's variables is the reader's own. -/
def Low (F : Nat → Prop) : Prop := ∀ k, k ≤ 4 → ¬ F k

theorem Gl.size (h : Gl w a) : 4 < w.heap.size := tabs_size h.tabs
theorem Gl.frame (h : Gl w a) (fr : Frame F w w') (hl : Low F) : Gl w' a := by
  have h4 := h.size
  have hb : ∀ k, k ≤ 4 → w'.heap[k]? = w.heap[k]? := fun k hk => fr.block k (by omega) (hl k hk)
  refine ⟨⟨fun c hc => ?_, fun i hi => ⟨?_, ?_⟩⟩, tab_frame h.tab fr (hl 2 (by omega)), ?_, ?_⟩
  · exact (World.cell?_of_block (hb 3 (by omega))).trans (h.tabs.1 c hc)
  · exact (World.cell?_of_block (hb 4 (by omega))).trans (h.tabs.2 i hi).1
  · exact (World.cell?_of_block (hb 4 (by omega))).trans (h.tabs.2 i hi).2
  · exact (World.cell?_of_block (hb 0 (by omega))).trans h.more
  · exact (World.cell?_of_block (hb 1 (by omega))).trans h.et
theorem Low.grow (hl : Low F) (h4 : 4 < w.heap.size) : Low (Grow F w w') := fun k hk h => h.elim (hl k hk) (fun x => by omega)
theorem Low.lt (hl : Low F) (h : F R) : 4 < R := by
  by_cases e : R ≤ 4
  · exact absurd h (hl R e)
  · omega

theorem PartAt.keep (h : PartAt F R w v pt) (hk : ∀ k, F k → k ≠ R → w'.heap[k]? = w.heap[k]?) (hF : ∀ k, F k → F' k) : PartAt F' R w' v pt := by
  have bx : ∀ {b x t}, Box F R w b x t → Box F' R w' b x t := fun h => ⟨(hk _ h.2.1 h.2.2).trans h.1, hF _ h.2.1, h.2.2⟩
  cases pt with
  | plain k => exact h
  | word l k => obtain ⟨b1, b2, e, x1, x2⟩ := h; exact ⟨b1, b2, e, bx x1, bx x2⟩
  | name i k => obtain ⟨b1, b2, b3, e, x1, x2, x3⟩ := h; exact ⟨b1, b2, b3, e, bx x1, bx x2, bx x3⟩
  | ref i k => obtain ⟨b1, b2, b3, e, x1, x2, x3⟩ := h; exact ⟨b1, b2, b3, e, bx x1, bx x2, bx x3⟩

/-- The reader in w', on from w; its boxes may have turned. -/
def RG (F : Nat → Prop) (R : Nat) (w : World) (s : Src) (p : Ptr) (st : St) (w' : World) : Prop := Rep (Grow F w w') R w' s p st ∧ Frame F w w'
theorem RG.refl (h : Rep F R w s p st) : RG F R w s p st w := ⟨h.grow0, Frame.refl _ _⟩
theorem RF.rg (h : RF F R w s p st w') : RG F R w s p st w' := ⟨h.1, h.2.1⟩
theorem RG.below (h : RG F R w s p st w') (hb : Below w'.heap.size w' w'') : RG F R w s p st w'' :=
  ⟨(h.1.below hb).join h.2.size hb.size, h.2.trans (Frame.below hb)⟩
theorem RG.on {p' : Ptr} {st' : St} (h : RG F R w s p st w') (k : RG (Grow F w w') R w' s' p' st' w'') : RG F R w s' p' st' w'' :=
  ⟨k.1.join h.2.size k.2.size, h.2.trans k.2⟩
theorem RG.iff (h : RG F R w s p st w') (hF : ∀ k, F k ↔ F' k) : RG F' R w s p st w' := by
  refine ⟨h.1.mono (fun k hk => hk.elim (fun x => Or.inl ((hF k).1 x)) Or.inr) (fun k hk => h.1.lt k (hk.elim (fun x => Or.inl ((hF k).2 x)) Or.inr)), ⟨h.2.os, h.2.tape, h.2.output, h.2.size, fun k hk hf => h.2.block k hk (fun x => hf ((hF k).1 x))⟩⟩
theorem RG.set (h : RG F R w s p st w') (i : Nat) (v : Value) (hc : (cellsOf s p st).setIfInBounds i v = cellsOf s' p st) : RG F R w s' p st (w'.setCell ⟨R, i, none⟩ v) := by
  have hsz : (w'.setCell ⟨R, i, none⟩ v).heap.size = w'.heap.size := by simp [World.setCell]
  have r := h.1.scalar (s' := s') (st' := st) i v hc (fun o => o)
  have hG : ∀ k, Grow F w w' k → Grow F w (w'.setCell ⟨R, i, none⟩ v) k := fun k hk => by unfold Grow at *; rw [hsz]; exact hk
  have hG' : ∀ k, Grow F w (w'.setCell ⟨R, i, none⟩ v) k → Grow F w w' k := fun k hk => by unfold Grow at *; rw [hsz] at hk; exact hk
  refine ⟨r.mono hG (fun k hk => r.lt k (hG' k hk)), ⟨h.2.os, h.2.tape, h.2.output, by rw [hsz]; exact h.2.size, fun k hk hf => ?_⟩⟩
  rw [Below.heap_setCell _ _ _ _ ?_]
  · exact h.2.block k hk hf
  · intro e
    have e' : k = R := e
    subst e'
    rcases h.1.inR with x | x
    · exact hf x
    · omega

theorem PartAt.grow (h : PartAt F R w' v pt) (_hs : w'.heap.size ≤ w''.heap.size) (hk : ∀ k, F k → k ≠ R → w''.heap[k]? = w'.heap[k]?) : PartAt (Grow F w' w'') R w'' v pt :=
  h.keep hk (fun _ x => Or.inl x)

/-- A part is a function value. -/
theorem PartAt.func (h : PartAt F R w v pt) : ∃ f cs, v = .func (.func f) #[] cs := by
  cases pt with
  | plain k => exact ⟨_, _, h⟩
  | word l k => obtain ⟨b1, b2, e, _⟩ := h; exact ⟨_, _, e⟩
  | name i k => obtain ⟨b1, b2, b3, e, _⟩ := h; exact ⟨_, _, e⟩
  | ref i k => obtain ⟨b1, b2, b3, e, _⟩ := h; exact ⟨_, _, e⟩

/-- The places fit. -/
def Src.Ok (s : Src) : Prop := 0 ≤ s.next ∧ s.next + s.rest.size ≤ 1099511627776

def ReadEnd (F : Nat → Prop) (R : Nat) (w : World) (a : Addr) (m : Rd) (e : Ending) (w' : World) : Prop :=
  ∃ v p', RG F R w { m.s with now := v } p' m.st w' ∧
    match m.ret with
    | .more => e = .returned (.iface 162 (.pointer (some a))) ∧ PartAt (Grow F w w') R w' v m.pt
    | .over => e = .returned .nilIface ∧ v = .nilFunc
    | .fail no q => e = .returned (wrongV no q) ∧ v = .nilFunc

/-- The loop's head. -/
def RI (F : Nat → Prop) (R : Nat) (w : World) (m : Rd) (N : Nat) (wr : World) : Prop :=
  ∃ (s' : Src) (p' : Ptr) (st' : St), RG F R w s' p' st' wr ∧
    ((∃ pt n, PartAt (Grow F w wr) R wr s'.now pt ∧ Lim n pt st' ∧ n + s'.rest.size ≤ N ∧ s'.Ok ∧ reads s'.bare pt st' = m) ∨
      (s'.now = .nilFunc ∧ m.s = s'.bare ∧ m.st = st' ∧ m.ret = .over))

def restLen (R : Nat) (w : World) : Nat :=
  (match w.cell? ⟨R, 0, none⟩ with | some (.string b) => 2 * b.size | _ => 0) + (match w.cell? ⟨R, 4, none⟩ with | some .nilFunc => 0 | _ => 1)
theorem restLen_go (h : Rep F R w s p st) {f : Nat} {cs : Array Value} (e : s.now = .func (.func f) #[] cs) : restLen R w = 2 * s.rest.size + 1 := by
  have c0 : w.cell? ⟨R, 0, none⟩ = some (.string s.rest) := h.cell 0 rfl
  have c4 : w.cell? ⟨R, 4, none⟩ = some s.now := h.cell 4 rfl
  simp only [restLen, c0, c4, e]
theorem restLen_nil (h : Rep F R w s p st) (e : s.now = .nilFunc) : restLen R w = 2 * s.rest.size := by
  have c0 : w.cell? ⟨R, 0, none⟩ = some (.string s.rest) := h.cell 0 rfl
  have c4 : w.cell? ⟨R, 4, none⟩ = some s.now := h.cell 4 rfl
  simp only [restLen, c0, c4, e, Nat.add_zero]

theorem took_leg (s : Src) : Leg s.took.2 := by
  unfold Src.took
  split
  · exact Or.inr (Or.inl rfl)
  · split
    · rename_i h
      simp only [Ch.okAt, Bool.and_eq_true] at h
      exact Or.inl h.1
    · exact Or.inr (Or.inr rfl)
theorem took_at (s : Src) : s.took.1.at_ = s.next := by
  unfold Src.took; repeat' split
  all_goals rfl
theorem took_ok (h : s.Ok) : s.took.1.Ok ∧ s.took.1.rest.size ≤ s.rest.size := by
  unfold Src.took Src.Ok at *
  split
  · exact ⟨h, Nat.le_refl _⟩
  · split
    · have := Ch.decode_width s.rest 0 (by omega)
      simp only [ByteArray.size_extract]
      omega
    · exact ⟨h, Nat.le_refl _⟩
theorem took_now (s : Src) : s.took.1.now = s.now := by
  unfold Src.took; repeat' split
  all_goals rfl

theorem reads_more (h : s.more = true) : reads s.bare pt st = ⟨s.bare, pt, st, .more⟩ := by
  unfold reads mrun; rw [more_bare, if_pos h]

theorem reads_step {n : Nat} (hl : Lim n pt st) (h : s.more = false) :
    reads s.bare pt st = match (stepPart pt s.next st s.took.2).res with
      | .go pt' => reads s.took.1.bare pt' (stepPart pt s.next st s.took.2).st
      | .stop => ⟨s.took.1.bare, pt, (stepPart pt s.next st s.took.2).st, .over⟩
      | .fail no q => ⟨s.took.1.bare, pt, (stepPart pt s.next st s.took.2).st, .fail no q⟩ := by
  have ha : s.took.1.bare.at_ = s.next := took_at s
  conv => lhs; unfold reads
  simp only [mrun, more_bare, h, Bool.false_eq_true, if_false, took_bare, ha]
  generalize he : (stepPart pt s.next st s.took.2).res = r
  cases r with
  | go pt' =>
    have hk := took_less hl.sound hl.quote he
    exact mrun_more (s.took.1.rest.size + 1) s.rest.size (n + 1) s.took.1.bare _ _ (hl.step he) (Nat.lt_succ_self _) (by omega)
  | stop => rfl
  | fail no q => rfl
end Go.Proofs.YtbbocgeapofloaiGreatDoor
