import Derived.Test.YtbbocgeapofloaiGreatDoorAu
import Derived.Test.YtbbocgeapofloaiGreatDoorAo
set_option linter.unusedVariables false
set_option linter.unusedSimpArgs false
set_option linter.unusedSimpArgs false
set_option linter.unusedVariables false
namespace Go.Proofs.YtbbocgeapofloaiGreatDoor
open Go.RowKit Go.Maps Go.Lib

variable {g : St → List Tok} {s : ByteArray} {i : Nat} {pt pt' : Part} {st st' : St} {no q c : Int} {S : Src}

/-! The machine of the code, and the machine place by place. -/

theorem took_cur (h1 : S.rest = s.extract i s.size) (hi : i ≤ s.size) : S.took.2 = cur s i ∧ (0 ≤ cur s i → S.took.1.rest = s.extract (i + wid s i) s.size ∧ S.took.1.next = S.next + wid s i) := by
  have hz : S.rest.size = s.size - i := by rw [h1]; simp [ByteArray.size_extract]
  rw [Ch.tail_extract] at h1
  have hc := cur_tail s i 0
  rw [Nat.add_zero] at hc
  unfold Src.took
  by_cases h0 : i < s.size
  · have hw := wid_tail (s := s) (k := i) (j := 0) (by omega)
    rw [Nat.add_zero] at hw
    rw [if_neg (by omega), h1]
    have hz' : 0 < (Ch.tail s i).size := by rw [Ch.tail_size]; omega
    unfold cur at hc
    rw [if_pos hz', if_pos h0] at hc
    unfold cur
    rw [if_pos h0]
    by_cases ho : Ch.okAt (Ch.tail s i) 0 = true
    · rw [if_pos ho] at hc ⊢
      refine ⟨hc, fun _ => ?_⟩
      simp only
      have hw' : (Utf8.decode (Ch.tail s i) 0).2 = wid s i := hw
      rw [hw']
      refine ⟨?_, rfl⟩
      rw [Ch.tail_extract, Ch.tail_tail, ← Ch.tail_extract]
    · rw [if_neg ho] at hc ⊢
      refine ⟨hc, fun h => ?_⟩
      rw [← hc] at h; omega
  · rw [if_pos (by omega)]
    unfold cur
    rw [if_neg h0]
    exact ⟨rfl, fun h => by omega⟩

theorem stepPart_stop {o : St} (h : stepPart pt q st c = ⟨o, .stop⟩) : o = st.tellText := by
  have key : ∀ (k : Pl) (st : St), step k q st c = ⟨o, .stop⟩ → o = st.tellText := by
    intro k st h
    have := step_stop h
    subst this
    simp only [step] at h
    repeat' split at h
    all_goals first | (cases h; done) | (cases h; rfl)
  cases pt with
  | plain k => exact key k st h
  | word l k =>
    cases l with
    | nil => simp only [stepPart] at h; cases h
    | cons x l =>
      simp only [stepPart, stWord] at h
      repeat' split at h
      all_goals cases h
  | name i k =>
    simp only [stepPart, stName, stName1] at h
    repeat' split at h
    all_goals first | (cases h; done) | exact key k st h
  | ref i k =>
    simp only [stepPart, stRef] at h
    split at h
    · split at h
      · unfold stRefEnd at h
        split at h <;> cases h
      · cases h
    · cases h

theorem reads_runs (g : St → List Tok) (s : ByteArray) : ∀ (n i : Nat) (S : Src) (pt : Part) (st : St) (k : Nat), s.size - i < n → i ≤ s.size → S.rest = s.extract i s.size → S.next = (i : Int) → S.ended = true → Lim k pt st →
    (∃ no q, (reads S pt st).ret = .fail no q ∧ runs g s i pt st = ((reads S pt st).st.told, no, q)) ∨ ((reads S pt st).ret = .over ∧ ∃ st', runs g s i pt st = (g st', 0, 0) ∧ (reads S pt st).st = st'.tellText) := by
  intro n
  induction n with
  | zero => intro i S pt st k h; omega
  | succ n ih =>
    intro i S pt st k hn hi hr hx he hl
    obtain ⟨h1, h2⟩ := took_cur hr hi
    have hm : S.more = false := by simp [Src.more, he]
    rw [reads_eq hl hm, h1, hx]
    generalize hs : stepPart pt i st (cur s i) = o
    obtain ⟨o, r⟩ := o
    cases r with
    | go pt' =>
      have hres : (stepPart pt S.next st S.took.2).res = .go pt' := by rw [h1, hx, hs]
      have hk := took_less hl.sound hl.quote hres
      have h0 : 0 ≤ cur s i := by
        by_cases h0 : 0 ≤ cur s i
        · exact h0
        · exfalso
          have hneg : cur s i = -1 ∨ cur s i = -2 := by rcases cur_neg h0 with ⟨_, h⟩ | ⟨_, h⟩ <;> omega
          exact stepPart_adds pt i st (cur s i) hl.sound hneg hl.quote pt' (by rw [hs])
      have hc := cur_pos h0
      obtain ⟨h3, h4⟩ := h2 h0
      rw [runs_go hs h0]
      have hst : (stepPart pt S.next st S.took.2).st = o := by rw [h1, hx, hs]
      have hlim := hl.step hres
      rw [hst] at hlim
      exact ih (i + wid s i) S.took.1 pt' o (k + 1) (by omega) (by omega) h3 (by rw [h4, hx]; omega) ((took_flags S).1.trans he) hlim
    | stop =>
      refine Or.inr ⟨rfl, st, runs_stop hs, ?_⟩
      exact stepPart_stop hs
    | fail no q => exact Or.inl ⟨no, q, rfl, runs_fail hs⟩

/-- The end of a text that was cut: what is left there is read. -/
theorem reads_end : ∀ (n : Nat) (S : Src) (pt : Part) (st : St) (k : Nat), S.rest.size < n → Lim k pt st → S.ended = false →
    ((reads S pt st).ret = .more → reads { S with ended := true } pt st = reads { (reads S pt st).s with ended := true } (reads S pt st).pt (reads S pt st).st) ∧
    (∀ no q, (reads S pt st).ret = .fail no q → (reads { S with ended := true } pt st).ret = .fail no q ∧ (reads { S with ended := true } pt st).st = (reads S pt st).st) := by
  intro n
  induction n with
  | zero => intro S pt st k h; omega
  | succ n ih =>
    intro S pt st k hn hl he
    by_cases hm : S.more = true
    · rw [reads_at hm]
      exact ⟨fun _ => rfl, fun _ _ e => (by cases e)⟩
    · have hm' : S.more = false := by simpa using hm
      have hm2 : ({ S with ended := true } : Src).more = false := by simp [Src.more]
      have ht : ({ S with ended := true } : Src).took = ({ S.took.1 with ended := true }, S.took.2) := by
        unfold Src.took; repeat' split
        all_goals rfl
      rw [reads_eq hl hm', reads_eq (s := { S with ended := true }) hl hm2, ht]
      generalize hr : (stepPart pt S.next st S.took.2).res = r
      cases r with
      | go pt' =>
        have hk := took_less hl.sound hl.quote hr
        exact ih S.took.1 pt' _ (k + 1) (by omega) (hl.step hr) ((took_flags S).1.trans he)
      | stop => exact ⟨fun e => (by cases e), fun _ _ e => (by cases e)⟩
      | fail no q => exact ⟨fun e => (by cases e), fun _ _ e => ⟨e, rfl⟩⟩

theorem mrun_closed (b : Bool) : ∀ (n : Nat) (S : Src) (pt : Part) (st : St), mrun n { S with closed := b } pt st = { mrun n S pt st with s := { (mrun n S pt st).s with closed := b } } := by
  intro n
  induction n with
  | zero => intro S pt st; rfl
  | succ n ih =>
    intro S pt st
    have ht : ({ S with closed := b } : Src).took = ({ S.took.1 with closed := b }, S.took.2) := by
      unfold Src.took; repeat' split
      all_goals rfl
    have hm : ({ S with closed := b } : Src).more = S.more := rfl
    simp only [mrun, ht, hm]
    split
    · rfl
    · cases (stepPart pt S.took.1.at_ st S.took.2).res with
      | go pt' => simp only []; exact ih _ _ _
      | stop => rfl
      | fail no q => rfl
end Go.Proofs.YtbbocgeapofloaiGreatDoor
set_option linter.unusedSimpArgs false
set_option linter.unusedVariables false
namespace Go.Proofs.YtbbocgeapofloaiGreatDoor
open Go.RowKit Go.Maps Go.Lib

/-- What the document's own reader answers for a whole text. -/
def refAll (s : ByteArray) : List Tok × Int × Int := if (readS s).err ≠ 0 then ([], (readS s).err, (readS s).at_) else ((readS s).l ++ (readS s).last, 0, 0)

theorem rel0 : Rel Sc.zero St.zero := ⟨⟨rfl, rfl, fun h => absurd rfl h⟩, rfl, rfl, rfl⟩

def srcOf (b : ByteArray) (e : Bool) : Src := { Src.zero 0 0 false with rest := b, ended := e }

theorem runs_told (b : ByteArray) : runs (fun st => st.told) b 0 (.plain .between) St.zero = ((readS b).l, (readS b).err, (readS b).at_) := by
  have h := runs_read (g := fun st => st.told) (s := b) (fun x => x.l) (fun x st he h => h.tag.told) (b.size + 1) Sc.zero St.zero rfl (Nat.zero_le _) (by show b.size < 0 + _; omega) rel0
  have h2 : runs (fun st => st.told) b 0 (.plain .between) St.zero = (readF b (b.size + 1) Sc.zero).fin fun x => x.l := h
  rw [h2]
  unfold Sc.fin readS
  split
  · rename_i he
    have := readF_over (fun st => st.told) (s := b) (b.size + 1) Sc.zero St.zero rfl (Nat.zero_le _) (by show b.size < 0 + _; omega) rel0 he
    rw [he, this.2]; rfl
  · rfl
theorem runs_last (b : ByteArray) : runs (fun st => st.tellText.told) b 0 (.plain .between) St.zero = if (readS b).err = 0 then ((readS b).l ++ (readS b).last, 0, 0) else ((readS b).l, (readS b).err, (readS b).at_) :=
  runs_read (g := fun st => st.tellText.told) (s := b) (fun x => x.l ++ x.last) (fun x st he h => tell_last x st he h) (b.size + 1) Sc.zero St.zero rfl (Nat.zero_le _) (by show b.size < 0 + _; omega) rel0

theorem fail_ne {S : Src} {pt : Part} {st : St} {k : Nat} {no q : Int} (hl : Lim k pt st) (h : (reads S pt st).ret = .fail no q) : no ≠ 0 := by
  have key : ∀ (n : Nat) (S : Src) (pt : Part) (st : St), (mrun n S pt st).ret = .fail no q → no ≠ 0 := by
    intro n
    induction n with
    | zero => intro S pt st h; simp only [mrun] at h; cases h
    | succ n ih =>
      intro S pt st h
      simp only [mrun] at h
      split at h
      · cases h
      · have hends := stepPart_ends pt S.took.1.at_ st S.took.2
        cases hr : (stepPart pt S.took.1.at_ st S.took.2).res with
        | go pt2 => rw [hr] at h; exact ih _ _ _ h
        | stop => rw [hr] at h; cases h
        | fail a b => rw [hr] at h; cases h; exact hends.fail _ _ hr
  exact key _ S pt st h

/-- The tokens, the last text among them, and the error. -/
theorem reads_whole (b : ByteArray) : ((readS b).err = 0 → (reads (srcOf b true) (.plain .between) St.zero).ret = .over ∧ (reads (srcOf b true) (.plain .between) St.zero).st.told = (readS b).l ++ (readS b).last) ∧
    ((readS b).err ≠ 0 → (reads (srcOf b true) (.plain .between) St.zero).ret = .fail (readS b).err (readS b).at_ ∧ (reads (srcOf b true) (.plain .between) St.zero).st.told = (readS b).l) := by
  have hr : (srcOf b true).rest = b.extract 0 b.size := by show b = _; simp
  have hends := fun no q (h : (reads (srcOf b true) (.plain .between) St.zero).ret = .fail no q) => h
  have h := reads_runs (fun st => st.tellText.told) b (b.size + 1) 0 (srcOf b true) (.plain .between) St.zero 0 (by omega) (Nat.zero_le _) hr rfl rfl (lim0 0)
  have h2 := reads_runs (fun st => st.told) b (b.size + 1) 0 (srcOf b true) (.plain .between) St.zero 0 (by omega) (Nat.zero_le _) hr rfl rfl (lim0 0)
  rw [runs_last] at h
  rw [runs_told] at h2
  constructor
  · intro he
    rw [if_pos he] at h
    rcases h with ⟨no, q, h1, h3⟩ | ⟨h1, st', h3, h4⟩
    · exfalso
      rcases h2 with ⟨no', q', k1, k3⟩ | ⟨k1, _⟩
      · have hno := fail_ne (lim0 0) k1
        simp only [Prod.mk.injEq] at k3
        exact hno (k3.2.1.symm.trans he)
      · rw [h1] at k1; cases k1
    · refine ⟨h1, ?_⟩
      rw [h4]
      exact (congrArg Prod.fst h3).symm
  · intro he
    rw [if_neg he] at h
    rcases h2 with ⟨no, q, k1, k3⟩ | ⟨k1, st', k3, k4⟩
    · simp only [Prod.mk.injEq] at k3
      exact ⟨by rw [k1, k3.2.1, k3.2.2], k3.1.symm⟩
    · simp only [Prod.mk.injEq] at k3
      exact absurd k3.2.1 he
end Go.Proofs.YtbbocgeapofloaiGreatDoor
set_option linter.unusedSimpArgs false
set_option linter.unusedVariables false
namespace Go.Proofs.YtbbocgeapofloaiGreatDoor
open Go.RowKit Go.Maps Go.Lib

theorem not_full (t : ByteArray) (h0 : 0 < t.size) (h : Tk.full t = false) : Ch.okAt t 0 = false := by
  apply Ch.okAt_bad
  unfold Tk.full at h
  rw [if_neg (by omega)] at h
  rw [decode_at, decode_first4 _ _ _ _ _ (by omega) (UInt8.toNat_lt _) (UInt8.toNat_lt _) (UInt8.toNat_lt _) (UInt8.toNat_lt _)]
  simp only [fullN, Bool.or_eq_false_iff, decide_eq_false_iff_not] at h
  rw [Nat.sub_zero]
  have h1 := h.1
  generalize (t.get! 0).toNat = b0 at *
  unfold first4
  by_cases a1 : firstT b0 = 240
  · rw [a1] at h1; omega
  by_cases a2 : firstT b0 = 241
  · rw [if_neg a1, if_pos a2]
  rw [if_neg a1, if_neg a2]
  unfold slowN
  rw [if_pos (by omega)]

/-- Where more bytes are needed no character can be taken. -/
theorem took_short {S : Src} (h : S.more = true) : S.took.2 = -1 ∨ S.took.2 = -2 := by
  simp only [Src.more, Bool.and_eq_true, Bool.not_eq_true'] at h
  unfold Src.took
  by_cases h0 : S.rest.size = 0
  · rw [if_pos h0]; exact Or.inl rfl
  · rw [if_neg h0, if_neg (by rw [not_full _ (by omega) h.2]; simp)]; exact Or.inr rfl

theorem fail_told {pt : Part} {q : Int} {st o : St} {c : Int} {no p : Int} (h : stepPart pt q st c = ⟨o, .fail no p⟩) : o.told = st.told := by
  have key : ∀ (k : Pl) (st : St), step k q st c = ⟨o, .fail no p⟩ → o.told = st.told := by
    intro k st h
    cases k <;> simp only [step, stPart, stName1, stAttr, stRemark, stOrder, stSection, stBracket] at h <;> (repeat' split at h) <;> first | (cases h; done) | (cases h; rfl)
  cases pt with
  | plain k => exact key k st h
  | word l k =>
    cases l with
    | nil => simp only [stepPart] at h; cases h
    | cons x l =>
      simp only [stepPart, stWord] at h
      repeat' split at h
      all_goals first | (cases h; done) | (cases h; rfl)
  | name i k =>
    simp only [stepPart, stName, stName1] at h
    repeat' split at h
    all_goals first | (cases h; done) | exact key k st h | (cases h; rfl)
  | ref i k =>
    simp only [stepPart, stRef] at h
    split at h
    · split at h
      · unfold stRefEnd at h
        split at h <;> cases h
        rfl
      · cases h
    · cases h; rfl

/-- The end, where more bytes would be needed: nothing more is told but a text. -/
theorem reads_shut {S : Src} {pt : Part} {st : St} {k : Nat} (hl : Lim k pt st) (hm : S.more = true) :
    (∃ no q, (reads { S with ended := true } pt st).ret = .fail no q ∧ (reads { S with ended := true } pt st).st.told = st.told) ∨ ((reads { S with ended := true } pt st).ret = .over ∧ (reads { S with ended := true } pt st).st = st.tellText) := by
  have hm2 : ({ S with ended := true } : Src).more = false := by simp [Src.more]
  have ht : ({ S with ended := true } : Src).took = ({ S.took.1 with ended := true }, S.took.2) := by
    unfold Src.took; repeat' split
    all_goals rfl
  have hn : ({ S with ended := true } : Src).next = S.next := rfl
  rw [reads_eq hl hm2, ht, hn]
  generalize hs : stepPart pt S.next st S.took.2 = o
  obtain ⟨o, r⟩ := o
  cases r with
  | go pt' =>
    exfalso
    exact stepPart_adds pt S.next st S.took.2 hl.sound (took_short hm) hl.quote pt' (by rw [hs])
  | stop => exact Or.inr ⟨rfl, stepPart_stop hs⟩
  | fail no q => exact Or.inl ⟨no, q, rfl, fail_told hs⟩

theorem reads_stay (g : St → List Tok) (s : ByteArray) : ∀ (n i : Nat) (S : Src) (pt : Part) (st : St) (k : Nat), s.size - i < n → i ≤ s.size → S.rest = s.extract i s.size → S.next = (i : Int) → S.ended = false → Lim k pt st → (reads S pt st).ret = .more →
    ∃ j, j ≤ s.size ∧ runs g s i pt st = runs g s j (reads S pt st).pt (reads S pt st).st ∧ (reads S pt st).s.rest = s.extract j s.size := by
  intro n
  induction n with
  | zero => intro i S pt st k h; omega
  | succ n ih =>
    intro i S pt st k hn hi hr hx he hl hret
    by_cases hm : S.more = true
    · rw [reads_at hm]
      exact ⟨i, hi, rfl, hr⟩
    · have hm' : S.more = false := by simpa using hm
      obtain ⟨h1, h2⟩ := took_cur hr hi
      rw [reads_eq hl hm', h1, hx] at hret ⊢
      generalize hs : stepPart pt i st (cur s i) = o at *
      obtain ⟨o, r⟩ := o
      cases r with
      | go pt' =>
        have hres : (stepPart pt S.next st S.took.2).res = .go pt' := by rw [h1, hx, hs]
        have h0 : 0 ≤ cur s i := by
          by_cases h0 : 0 ≤ cur s i
          · exact h0
          · exfalso
            have hneg : cur s i = -1 ∨ cur s i = -2 := by rcases cur_neg h0 with ⟨_, h⟩ | ⟨_, h⟩ <;> omega
            exact stepPart_adds pt i st (cur s i) hl.sound hneg hl.quote pt' (by rw [hs])
        have hc := cur_pos h0
        obtain ⟨h3, h4⟩ := h2 h0
        rw [runs_go hs h0]
        have hst : (stepPart pt S.next st S.took.2).st = o := by rw [h1, hx, hs]
        have hlim := hl.step hres
        rw [hst] at hlim
        exact ih (i + wid s i) S.took.1 pt' o (k + 1) (by omega) (by omega) h3 (by rw [h4, hx]; omega) ((took_flags S).1.trans he) hlim hret
      | stop => cases hret
      | fail no q => cases hret

theorem reads_flags {S : Src} {pt : Part} {st : St} : (reads S pt st).s.no = S.no ∧ (reads S pt st).s.fat = S.fat := by
  have key : ∀ (n : Nat) (S : Src) (pt : Part) (st : St), (mrun n S pt st).s.no = S.no ∧ (mrun n S pt st).s.fat = S.fat := by
    intro n
    induction n with
    | zero => intro S pt st; exact ⟨rfl, rfl⟩
    | succ n ih =>
      intro S pt st
      have hf := took_flags S
      simp only [mrun]
      split
      · exact ⟨rfl, rfl⟩
      · cases (stepPart pt S.took.1.at_ st S.took.2).res with
        | go pt' =>
          have := ih S.took.1 pt' (stepPart pt S.took.1.at_ st S.took.2).st
          exact ⟨this.1.trans hf.2.1, this.2.trans hf.2.2.1⟩
        | stop => exact ⟨hf.2.1, hf.2.2.1⟩
        | fail no q => exact ⟨hf.2.1, hf.2.2.1⟩
  exact key _ S pt st

def rdOf (b : ByteArray) : Rd := reads (srcOf b false) (.plain .between) St.zero

theorem rd_cases (b : ByteArray) :
    ((rdOf b).ret = .more ∧ (rdOf b).st.told = (readS b).l ∧ reads (srcOf b true) (.plain .between) St.zero = reads { (rdOf b).s with ended := true } (rdOf b).pt (rdOf b).st ∧ (∃ n, Lim n (rdOf b).pt (rdOf b).st) ∧ (rdOf b).s.more = true ∧ (rdOf b).s.no = 0 ∧ (rdOf b).s.fat = 0 ∧ (rdOf b).s.closed = false ∧ (rdOf b).s.now = .nilFunc) ∨
    ((rdOf b).ret = .fail (readS b).err (readS b).at_ ∧ (readS b).err ≠ 0 ∧ (rdOf b).st.told = (readS b).l ∧ (rdOf b).s.closed = false) := by
  have hw := reads_whole b
  have hcut := reads_cut ⟨#[]⟩ (b.size + 1) (srcOf b false) (.plain .between) St.zero 0 (by show b.size < _; omega) (lim0 0) rfl
  have hend := reads_end (b.size + 1) (srcOf b false) (.plain .between) St.zero 0 (by show b.size < _; omega) (lim0 0) rfl
  have hmore := reads_stay (fun st => st.told) b (b.size + 1) 0 (srcOf b false) (.plain .between) St.zero 0 (by omega) (Nat.zero_le _) (by show b = _; simp) rfl rfl (lim0 0)
  have e1 : ({ srcOf b false with ended := true } : Src) = srcOf b true := rfl
  rw [e1] at hend
  rw [runs_told] at hmore
  have hno := fun no q => fail_ne (S := srcOf b false) (no := no) (q := q) (lim0 0)
  unfold rdOf
  generalize reads (srcOf b false) (.plain .between) St.zero = m at *
  cases hret : m.ret with
  | more =>
    obtain ⟨c1, stay⟩ := hcut.more hret
    have e2 := hend.1 hret
    obtain ⟨n, hl, _⟩ := stay.lim
    obtain ⟨j, hj, hr, hrest⟩ := hmore hret
    refine Or.inl ⟨rfl, ?_, e2, ⟨n, hl⟩, stay.more, stay.no, stay.fat, stay.closed, stay.now⟩
    obtain ⟨h1, _⟩ := took_cur hrest hj
    have hsh := took_short stay.more
    rw [h1] at hsh
    generalize hs : stepPart m.pt j m.st (cur b j) = o
    obtain ⟨o, r⟩ := o
    cases r with
    | go pt' => exact absurd (by rw [hs]) (stepPart_adds m.pt j m.st (cur b j) hl.sound hsh hl.quote pt')
    | stop =>
      rw [runs_stop hs] at hr
      exact (congrArg Prod.fst hr).symm
    | fail no q =>
      rw [runs_fail hs] at hr
      rw [← fail_told hs]
      exact (congrArg Prod.fst hr).symm
  | over => exact absurd hret hcut.over
  | fail no q =>
    obtain ⟨f1, f2⟩ := hend.2 no q hret
    have hn := hno no q hret
    have herr : (readS b).err ≠ 0 := by
      intro e
      have := (hw.1 e).1
      rw [f1] at this; cases this
    obtain ⟨w1, w2⟩ := hw.2 herr
    rw [f1] at w1
    cases w1
    rw [f2] at w2
    exact Or.inr ⟨rfl, herr, w2, (hcut.fail _ _ hret).2.2⟩

theorem src_new (b : ByteArray) : ({ PR.new.s with rest := PR.new.s.rest ++ b } : Src).bare = srcOf b false := by
  have h : (⟨#[]⟩ : ByteArray) ++ b = b := by
    apply ByteArray.ext
    simp [ByteArray.data_append]
  simp only [PR.new, Src.zero, Src.bare, srcOf, h]
theorem write_new (b : ByteArray) : PR.new.write b = tells (rdOf b) := by
  unfold PR.write
  rw [if_neg (by rintro (h | h); cases h; exact h rfl)]
  show tells (reads ({ PR.new.s with rest := PR.new.s.rest ++ b } : Src).bare (.plain .between) St.zero) = _
  rw [src_new]; rfl

/-- Behind each piece just what is told by then. -/
theorem write_ref (b : ByteArray) : (PR.new.write b).2 = (readS b).l := by
  rw [write_new]
  unfold tells
  rcases rd_cases b with ⟨h1, h2, _⟩ | ⟨h1, _, h2, _⟩
  · rw [h1]; exact h2
  · rw [h1]; exact h2

theorem reads_closed (S : Src) (pt : Part) (st : St) (b : Bool) : reads { S with closed := b } pt st = { reads S pt st with s := { (reads S pt st).s with closed := b } } := mrun_closed b _ S pt st
theorem reads_pre (T : List Tok) (S : Src) (pt : Part) (st : St) : reads S pt (st.pre T) = { reads S pt st with st := (reads S pt st).st.pre T } := pre_mrun T _ S pt st

/-- At the end the last text, and what is wrong. -/
theorem close_ref (b : ByteArray) : (PR.new.write b).1.close.2 = (readS b).last ∧ (PR.new.write b).1.close.1.err = ((readS b).err, (readS b).at_) ∧ (PR.new.write b).1.close.1.s.closed = true := by
  have hw := reads_whole b
  rw [write_new]
  rcases rd_cases b with ⟨h1, h2, h3, ⟨n, hl⟩, hm, hno, hfat, hcl, hnow⟩ | ⟨h1, h2, h3, hcl⟩
  · unfold tells
    rw [h1]
    simp only
    unfold PR.close
    simp only
    rw [hcl, if_neg (show ¬ (false = true) by simp), if_neg (show ¬ ((rdOf b).s.no ≠ 0) by rw [hno]; simp)]
    have hb : ({ (rdOf b).s with closed := true, ended := true } : Src).bare = { ({ (rdOf b).s with ended := true } : Src) with closed := true } := by
      simp only [Src.bare, hnow]
    have hst : (rdOf b).st = ({ (rdOf b).st with told := [] } : St).pre (rdOf b).st.told := by simp [St.pre]
    rw [h3] at hw
    rw [hst, reads_pre] at hw
    simp only at hw
    rw [hb, reads_closed]
    have hkeep := reads_flags (S := { (rdOf b).s with ended := true }) (pt := (rdOf b).pt) (st := { (rdOf b).st with told := [] })
    generalize reads { (rdOf b).s with ended := true } (rdOf b).pt { (rdOf b).st with told := [] } = m at *
    unfold shut tells
    by_cases he : (readS b).err = 0
    · obtain ⟨w1, w2⟩ := hw.1 he
      simp only [w1]
      have w2' : (rdOf b).st.told ++ m.st.told = (readS b).l ++ (readS b).last := w2
      rw [h2] at w2'
      refine ⟨List.append_cancel_left w2', ?_, rfl⟩
      have hat : (readS b).at_ = 0 := by
        have := readF_over (fun st => st.told) (s := b) (b.size + 1) Sc.zero St.zero rfl (Nat.zero_le _) (by show b.size < 0 + _; omega) rel0 he
        exact this.2
      unfold PR.err Src.zero
      simp only [if_true]
      rw [hkeep.1, hkeep.2, he, hat]
      simp only [hno, hfat]
    · obtain ⟨w1, w2⟩ := hw.2 he
      simp only [w1]
      have w2' : (rdOf b).st.told ++ m.st.told = (readS b).l := w2
      rw [h2] at w2'
      have hnil : m.st.told = [] := by simpa using w2'
      refine ⟨?_, rfl, rfl⟩
      rw [hnil]
      unfold Sc.last; rw [if_pos (Or.inl he)]
  · unfold tells
    rw [h1]
    simp only
    unfold PR.close
    simp [Src.zero, hcl, h2, PR.err, Sc.last]

theorem all_ref (b : ByteArray) : allP b = refAll b := by
  obtain ⟨h1, h2, _⟩ := close_ref b
  unfold allP refAll
  rw [h2, write_ref, h1]
end Go.Proofs.YtbbocgeapofloaiGreatDoor
