import Derived.Test.YtoahlnmhjinneaaGreatDoorGbb
import Derived.Test.YtoahlnmhjinneaaGreatDoorGax
import Derived.Test.YtoahlnmhjinneaaGreatDoorGaz
import Derived.Test.YtoahlnmhjinneaaGreatDoorGbc
import Derived.Test.YtoahlnmhjinneaaGreatDoorGau
set_option linter.unusedVariables false
set_option linter.unusedSimpArgs false
set_option linter.unusedSimpArgs false
set_option linter.unusedVariables false
namespace Go.Proofs.YtoahlnmhjinneaaGreatDoor
open Go.RowKit Go.Maps Go.Lib
variable {w w' W W' w0 w1 w3 : World} {v vs : Value} {xs : List (Br × Nat)} {b : Brs} {F : Nat → Prop} {X lo : Nat} {S : List Sta} {ys : List (Sta × Value)}
def valD (l : L) : Nat := l.foldl (fun a d => a * 10 + (d.toNat - 48)) 0
theorem digit (k : Nat) (h : k < 10) : (UInt8.ofNat (48 + k)).toNat = 48 + k := by
  rw [UInt8.toNat_ofNat']
  omega
theorem dec_val (k : Nat) : valD (dec k) = k := by
  induction k using Nat.strongRecOn with
  | ind k ih =>
    unfold dec
    rw [Lib.decDigits]
    split
    · next h => simp only [valD, List.foldl_cons, List.foldl_nil]; rw [digit k h]; omega
    · next h =>
      have h1 := ih (k / 10) (by omega)
      unfold dec valD at h1
      unfold valD
      rw [List.foldl_append, List.foldl_cons, List.foldl_nil, h1, digit (k % 10) (by omega)]
      omega
theorem dec_inj (a c : Nat) (h : dec a = dec c) : a = c := by rw [← dec_val a, h, dec_val]
theorem dec_32 (k : Nat) : ∀ d ∈ dec k, d ≠ 32 := by
  induction k using Nat.strongRecOn with
  | ind k ih =>
    intro d hd e
    have key : ∀ j, j < 10 → UInt8.ofNat (48 + j) ≠ 32 := fun j hj e => by
      have := congrArg UInt8.toNat e
      rw [digit j hj] at this
      simp at this
      omega
    unfold dec at hd
    rw [Lib.decDigits] at hd
    split at hd
    · next h => rw [List.mem_singleton] at hd; exact key k h (hd ▸ e)
    · next h =>
      rcases List.mem_append.1 hd with hd | hd
      · exact ih (k / 10) (by omega) d hd e
      · rw [List.mem_singleton] at hd; exact key (k % 10) (by omega) (hd ▸ e)
theorem keyS_eq {s s' : Sta} (h : keyS dec s = keyS dec s') : s = s' := keyS_inj dec_inj dec_32 h
def keysFrom : Nat → List Sta → List (Lit × Nat)
  | _, [] => []
  | i, s :: l => (.string (keyS dec s), i) :: keysFrom (i + 1) l
def keysL (S : List Sta) : List (Lit × Nat) := keysFrom 0 S
theorem keysFrom_app : ∀ (S : List Sta) (i : Nat) (x : Sta), keysFrom i (S ++ [x]) = keysFrom i S ++ [(.string (keyS dec x), i + S.length)]
  | [], i, x => by simp [keysFrom]
  | s :: S, i, x => by
    simp only [List.cons_append, keysFrom, keysFrom_app S (i + 1) x, List.length_cons]
    congr 4
    omega
theorem keysL_app (S : List Sta) (x : Sta) : keysL (S ++ [x]) = keysL S ++ [(.string (keyS dec x), S.length)] := by
  unfold keysL
  rw [keysFrom_app, Nat.zero_add]
theorem keysFrom_fnd : ∀ (S : List Sta) (i : Nat) (x : Sta), (∀ n, fnd (keysFrom i S) (.string (keyS dec x)) = some n → i ≤ n ∧ S[n - i]? = some x) ∧ (fnd (keysFrom i S) (.string (keyS dec x)) = none → x ∉ S)
  | [], i, x => ⟨fun n h => by simp [keysFrom, fnd] at h, fun _ h => by simp at h⟩
  | s :: S, i, x => by
    obtain ⟨h1, h2⟩ := keysFrom_fnd S (i + 1) x
    have e : fnd (keysFrom i (s :: S)) (.string (keyS dec x)) = if (keyS dec s == keyS dec x) = true then some i else fnd (keysFrom (i + 1) S) (.string (keyS dec x)) := by
      simp only [keysFrom]
      unfold fnd
      rw [List.find?_cons]
      show (match (keyS dec s == keyS dec x) with | true => _ | false => _ : Option (Lit × Nat)).map _ = _
      cases keyS dec s == keyS dec x <;> rfl
    rw [e]
    by_cases hk : keyS dec s = keyS dec x
    · have hb : (keyS dec s == keyS dec x) = true := by simpa using hk
      rw [if_pos hb]
      have := keyS_eq hk
      subst this
      exact ⟨fun n h => by cases h; exact ⟨Nat.le_refl _, by simp⟩, fun h => by cases h⟩
    · have hb : ¬ ((keyS dec s == keyS dec x) = true) := by simpa using hk
      rw [if_neg hb]
      refine ⟨fun n h => ?_, fun h hm => ?_⟩
      · obtain ⟨q1, q2⟩ := h1 n h
        refine ⟨by omega, ?_⟩
        rw [show n - i = (n - (i + 1)) + 1 by omega, List.getElem?_cons_succ]
        exact q2
      · rcases List.mem_cons.1 hm with rfl | hm
        · exact hk rfl
        · exact h2 h hm
theorem keysL_len (S : List Sta) : (keysL S).length = S.length := by
  have : ∀ (S : List Sta) (i : Nat), (keysFrom i S).length = S.length := fun S => by
    induction S with
    | nil => intro i; rfl
    | cons s S ih => intro i; simp only [keysFrom, List.length_cons, ih]
  exact this S 0
def stC (y : Sta × Value) : List Value := [y.2, .bool y.1.nd, .bool y.1.wh, .bool y.1.tx]
def stCells (ys : List (Sta × Value)) : List Value := ys.flatMap stC
theorem stCells_at : ∀ (ys : List (Sta × Value)) (k : Nat) (y : Sta × Value) (c : Nat) (u : Value), ys[k]? = some y → (stC y)[c]? = some u → (stCells ys)[k * 4 + c]? = some u
  | [], k, x, c, u, h, _ => by simp at h
  | y :: xs, 0, x, c, u, h, hc => by
    obtain rfl : y = x := by simpa using h
    have hl : c < 4 := by have := (List.getElem?_eq_some_iff.1 hc).1; simpa [stC] using this
    show (stC y ++ stCells xs)[0 * 4 + c]? = _
    rw [List.getElem?_append_left (by simp [stC]; omega)]; simpa using hc
  | y :: xs, k + 1, x, c, u, h, hc => by
    have := stCells_at xs k x c u (by simpa using h) hc
    show (stC y ++ stCells xs)[(k + 1) * 4 + c]? = _
    rw [List.getElem?_append_right (by simp [stC]; omega)]
    rw [← this]; congr 1; simp [stC]; omega
def WfS (b : Brs) (s : Sta) : Prop := s.due.Pairwise (· < ·) ∧ ∀ k ∈ s.due, k < b.length
structure PlB (b : Brs) : Prop where
  wf : WfB b
  up : UpB b
  ks : KS b
  short : Short b
  few : ∀ y ∈ b, y.kids.length ≤ b.length
  len : b.length ≤ 2300000000000
def SOwn (X : Nat) (v vs : Value) (mn : Nat) (xs : List (Br × Nat)) (ys : List (Sta × Value)) (k : Nat) : Prop := k = X ∨ BOwn v xs k ∨ vs.ownBlock = some k ∨ k = mn ∨ ∃ y ∈ ys, y.2.ownBlock = some k
structure SpM (X : Nat) (w : World) (v vs : Value) (mn : Nat) (xs : List (Br × Nat)) (ys : List (Sta × Value)) : Prop where
  box : w.heap[X]? = some (.cells #[v, vs, .map (some mn)] 47 (0, 0))
  br : BR w v xs
  row : w.ownsRow 0 69 4 vs ys.length (stCells ys)
  due : ∀ y ∈ ys, w.ownsRow 0 3 1 y.2 y.1.due.length (dueC y.1.due)
  map : MapN w 9 mn (keysL (ys.map (·.1)))
  mnX : ¬ BOwn v xs mn
structure SpI (X lo : Nat) (F : Nat → Prop) (b : Brs) (S : List Sta) (w : World) : Prop where
  ex : ∃ v vs mn xs ys, SpM X w v vs mn xs ys ∧ xs.map (·.1) = b ∧ ys.map (·.1) = S ∧ ∀ k, F k ↔ SOwn X v vs mn xs ys k
  low : ∀ k, F k → lo ≤ k
  pl : PlB b
  wfs : ∀ s ∈ S, WfS b s
theorem SpM.lt {mn : Nat} (h : SpM X w v vs mn xs ys) {k : Nat} (hk : SOwn X v vs mn xs ys k) : k < w.heap.size := by
  rcases hk with rfl | hk | hk | rfl | ⟨y, hy, hk⟩
  · exact blk_lt h.box
  · exact h.br.lt hk
  · exact own_lt h.row hk
  · exact h.map.lt
  · exact own_lt (h.due y hy) hk
theorem SpM.of {mn : Nat} (h : SpM X w v vs mn xs ys) (hb : ∀ k, SOwn X v vs mn xs ys k → w'.heap[k]? = w.heap[k]?) : SpM X w' v vs mn xs ys :=
  ⟨(hb X (Or.inl rfl)).trans h.box, h.br.of fun k hk => hb k (Or.inr (Or.inl hk)), owns_of h.row fun k e => hb k (Or.inr (Or.inr (Or.inl e))), fun y hy => owns_of (h.due y hy) fun k e => hb k (Or.inr (Or.inr (Or.inr (Or.inr ⟨y, hy, e⟩)))), h.map.of (hb mn (Or.inr (Or.inr (Or.inr (Or.inl rfl))))), h.mnX⟩
theorem SpI.below (h : SpI X lo F b S w) (hb : Below w.heap.size w w') : SpI X lo F b S w' := by
  obtain ⟨v, vs, mn, xs, ys, m, e1, e2, e3⟩ := h.ex
  exact ⟨⟨v, vs, mn, xs, ys, m.of fun k hk => hb.block k (m.lt hk), e1, e2, e3⟩, h.low, h.pl, h.wfs⟩
theorem SpI.lt (h : SpI X lo F b S w) {k : Nat} (hk : F k) : k < w.heap.size := by
  obtain ⟨v, vs, mn, xs, ys, m, e1, e2, e3⟩ := h.ex
  exact m.lt ((e3 k).1 hk)
theorem SpI.fr {G : Nat → Prop} (h : SpI X lo F b S w) (hf : Fr G w w') (hd : ∀ k, F k → ¬ G k) : SpI X lo F b S w' := by
  obtain ⟨v, vs, mn, xs, ys, m, e1, e2, e3⟩ := h.ex
  exact ⟨⟨v, vs, mn, xs, ys, m.of fun k hk => hf.block k (m.lt hk) (hd k ((e3 k).2 hk)), e1, e2, e3⟩, h.low, h.pl, h.wfs⟩
end Go.Proofs.YtoahlnmhjinneaaGreatDoor

set_option linter.unusedSimpArgs false
set_option linter.unusedVariables false
namespace Go.Proofs.YtoahlnmhjinneaaGreatDoor
open Go.RowKit Go.Maps Go.Lib
variable {w w' W W' w0 w1 w3 : World} {v vs : Value} {xs : List (Br × Nat)} {b : Brs} {F : Nat → Prop} {X lo : Nat} {S : List Sta} {ys : List (Sta × Value)}
theorem info69f : (Tryz.prog.info? 69).map (fun i => (i.zero, i.size, i.bytes)) = some (some (.agg #[.slice none 0 0, .bool false, .bool false, .bool false]), 4, 32) := by kernel_rfl
def SPost (X lo : Nat) (F D : Nat → Prop) (b : Brs) (S' : List Sta) (w w' : World) : Prop := ∃ F', SpI X lo F' b S' w' ∧ Fr F w w' ∧ ∀ k, F' k → F k ∨ D k ∨ w.heap.size ≤ k
theorem SpM.put {mn : Nat} {x : Sta} {da : Option Addr} {dn dc : Nat} {v' : Value} (h : SpM X w0 v vs mn xs ys) (hd : w0.ownsRow 0 3 1 (.slice da dn dc) x.due.length (dueC x.due)) (hdm : (Value.slice da dn dc).ownBlock ≠ some mn)
    (hm : MapN w1 9 mn (keysL (ys.map (·.1)) ++ [(.string (keyS dec x), ys.length)])) (hg1 : w0.grownBy w1 (some mn)) (hr : w3.ownsRow 0 69 4 v' (ys.length + 1) (stCells ys ++ stC (x, .slice da dn dc))) (hg3 : (w1.drew.alloc (.cells (stC (x, .slice da dn dc)).toArray 69)).grownBy w3 vs.ownBlock) :
    (w3.cell? ⟨X, 1, none⟩ = some vs ∧ w3.frozen? ⟨X, 1, none⟩ = false) ∧ SpM X (w3.setCell ⟨X, 1, none⟩ v') v v' mn xs (ys ++ [(x, .slice da dn dc)]) := by
  obtain ⟨es, clk, hbm⟩ := h.map.isMap
  have hXm : X ≠ mn := fun e => by have := h.box; rw [e, hbm] at this; cases this
  have hvX := row_box h.row h.box (by decide)
  have hvm := row_map h.row hbm
  have up : ∀ k, k < w0.heap.size → k ≠ mn → vs.ownBlock ≠ some k → w3.heap[k]? = w0.heap[k]? := fun k hk h1 h2 => by
    have hk1 := Nat.lt_of_lt_of_le hk hg1.size
    rw [hg3.block k (by simp; omega) (fun e => h2 e.symm), Below.heap_alloc _ _ _ (by exact hk1)]
    exact hg1.block k hk (fun e => h1 (Option.some.inj e))
  have x3 := (up X (blk_lt h.box) hXm hvX).trans h.box
  have hv'X : v'.ownBlock ≠ some X := row_box hr x3 (by decide)
  have set_other : ∀ k, k ≠ X → (w3.setCell ⟨X, 1, none⟩ v').heap[k]? = w3.heap[k]? := fun k hk => Below.heap_setCell _ _ _ _ hk
  have due_up : ∀ (d : Value) (n : Nat) (l : List Value), w0.ownsRow 0 3 1 d n l → d.ownBlock ≠ some mn → (w3.setCell ⟨X, 1, none⟩ v').ownsRow 0 3 1 d n l := fun d n l ho hne => owns_of ho fun k e => by
    obtain ⟨cur, fz, hk⟩ := own_cells ho e
    have hkX : k ≠ X := fun e' => by rw [e', h.box] at hk; cases hk
    rw [set_other k hkX]
    refine up k (blk_lt hk) (fun e' => hne (by rw [e, e'])) fun e' => ?_
    obtain ⟨cur', fz', hk'⟩ := own_cells h.row e'
    rw [hk] at hk'
    cases hk'
  refine ⟨⟨cell_of x3 rfl, free_of x3⟩, ⟨by rw [set_of x3]; rfl, ?_, ?_, ?_, ?_, h.mnX⟩⟩
  · refine h.br.of fun k hk => ?_
    have hkl := h.br.lt hk
    have hkX : k ≠ X := fun e => by
      rcases hk with e' | e'
      · exact row_box h.br.row h.box (by decide) (by rw [e', e])
      · obtain ⟨y, hy, e2⟩ := List.mem_map.1 e'
        obtain ⟨es', clk', hby⟩ := (h.br.map y hy).isMap
        rw [e2, e, h.box] at hby
        cases hby
    rw [set_other k hkX]
    refine up k hkl (fun e => h.mnX (e ▸ hk)) fun e => ?_
    obtain ⟨cur', fz', hk'⟩ := own_cells h.row e
    rcases hk with e' | e'
    · obtain ⟨cur, fz, hk2⟩ := own_cells h.br.row e'
      rw [hk'] at hk2
      cases hk2
    · obtain ⟨y, hy, e2⟩ := List.mem_map.1 e'
      obtain ⟨es', clk', hby⟩ := (h.br.map y hy).isMap
      rw [e2, hk'] at hby
      cases hby
  · have e : stCells (ys ++ [(x, .slice da dn dc)]) = stCells ys ++ stC (x, .slice da dn dc) := by unfold stCells; rw [List.flatMap_append, List.flatMap_cons, List.flatMap_nil, List.append_nil]
    rw [e, List.length_append, List.length_singleton]
    exact owns_of hr fun k e => set_other k fun e' => hv'X (by rw [e, e'])
  · intro y hy
    rcases List.mem_append.1 hy with hy | hy
    · refine due_up _ _ _ (h.due y hy) fun e => row_map (h.due y hy) hbm e
    · rw [List.mem_singleton] at hy
      subst hy
      exact due_up _ _ _ hd hdm
  · rw [List.map_append, List.map_cons, List.map_nil, keysL_app, List.length_map]
    refine hm.of ?_
    have hml := hm.lt
    rw [set_other mn (fun e => hXm e.symm), hg3.block mn (by simp; omega) (fun e => hvm e.symm), Below.heap_alloc _ _ _ (by exact hml)]
    rfl
end Go.Proofs.YtoahlnmhjinneaaGreatDoor

set_option linter.unusedSimpArgs false
set_option linter.unusedVariables false
namespace Go.Proofs.YtoahlnmhjinneaaGreatDoor
open Go.RowKit Go.Maps Go.Lib
variable {w w' W W' w0 w1 w3 : World} {v vs : Value} {xs : List (Br × Nat)} {b : Brs} {F : Nat → Prop} {X lo : Nat} {S : List Sta} {ys : List (Sta × Value)}
theorem keyS9b (t : L) (h : t.length ≤ 100000000000000) : keyOf Tryz.prog 9 (.string (bs t)) = some (.string t) := by
  have e : (bs t).size = t.length := bs_size t
  have hm : (bs t).size ≤ maxLen := by rw [e]; unfold maxLen; omega
  simp [keyOf, mapKey, Tryz.underlying9, hm]
  simp [bs]
theorem keyS_len {s : Sta} (hl : s.due.length ≤ 2300000000000) (hk : ∀ k ∈ s.due, k ≤ 2300000000000) : (keyS dec s).length ≤ 100000000000000 := by
  have h1 : ∀ c, (boolT c).length ≤ 5 := fun c => by cases c <;> simp [boolT]
  have h2 := dueT_len hk
  have a1 := h1 s.nd
  have a2 := h1 s.wh
  have a3 := h1 s.tx
  unfold keyS
  simp only [List.length_append]
  omega
abbrev TabB (lo : Nat) (w : World) : Prop := Lib.TabBelow Tryz.prog lo w "internal/strconv.uint64pow10" .u64 Lib.pow10Tab
theorem rise_len : ∀ (l : List Nat) (a n : Nat), l.Pairwise (· < ·) → (∀ k ∈ l, a ≤ k ∧ k < n) → l.length ≤ n - a
  | [], a, n, _, _ => by simp
  | k :: l, a, n, h, hk => by
    have h1 := hk k (List.mem_cons_self ..)
    have h2 := List.pairwise_cons.1 h
    have h3 := rise_len l (k + 1) n h2.2 fun x hx => ⟨h2.1 x hx, (hk x (List.mem_cons_of_mem _ hx)).2⟩
    rw [List.length_cons]
    omega
theorem WfS.len {s : Sta} (h : WfS b s) : s.due.length ≤ b.length := by
  have := rise_len s.due 0 b.length h.1 fun k hk => ⟨Nat.zero_le _, h.2 k hk⟩
  omega
abbrev C4s (W : World) (k : Nat) (da : Option Addr) (dn dc : Nat) (p q r : Bool) : Prop := W.cell? ⟨k, 0, none⟩ = some (.slice da dn dc) ∧ W.cell? ⟨k, 1, none⟩ = some (.bool p) ∧ W.cell? ⟨k, 2, none⟩ = some (.bool q) ∧ W.cell? ⟨k, 3, none⟩ = some (.bool r)
set_option maxHeartbeats 16000000 in
set_option maxRecDepth 100000 in
theorem number_ok {da : Option Addr} {dn dc : Nat} (x : Sta) (h : SpI X lo F b S w) (hx : WfS b x) (hd : w.ownsRow 0 3 1 (.slice da dn dc) x.due.length (dueC x.due)) (hdF : ∀ k, (Value.slice da dn dc).ownBlock = some k → ¬ F k ∧ lo ≤ k) (hT : TabB lo w) (hlo : lo ≤ w.heap.size) (hS : S.length ≤ 1000000000000) :
    Calls Tryz.prog 39 #[.pointer (some ⟨X, 0, none⟩), .agg (aT da dn dc x.nd x.wh x.tx)] w fun e w' => ∃ (n : Nat) (S' : List Sta), e = .returned (.int .i64 (n : Nat)) ∧ S'[n]? = some x ∧ (S' = S ∨ (S' = S ++ [x] ∧ x ∉ S)) ∧ SPost X lo F (fun k => (Value.slice da dn dc).ownBlock = some k) b S' w w' := by
  have hxl := hx.len
  have hpl := h.pl.len
  have hkk : ∀ k ∈ x.due, k ≤ 2300000000000 := fun k hk => by have := hx.2 k hk; omega
  have hKl := keyS_len (s := x) (by omega) hkk
  have hb0 := (Below.refl w.heap.size w).alloc (Nat.le_refl _) (.cells (aT da dn dc x.nd x.wh x.tx) 69)
  have hB := Below_new w (.cells (aT da dn dc x.nd x.wh x.tx) 69)
  have hd0 : (w.alloc (.cells (aT da dn dc x.nd x.wh x.tx) 69)).ownsRow 0 3 1 (.slice da dn dc) x.due.length (dueC x.due) := owns_of hd fun k e => hb0.block k (own_lt hd e)
  have hT0 : Tab (w.alloc (.cells (aT da dn dc x.nd x.wh x.tx) 69)) := hT _ (below_less hb0 hlo)
  have HKey := hide (key_ok x.nd x.wh x.tx hd0 (by omega) hkk hT0)
  have hc4 : C4s (w.alloc (.cells (aT da dn dc x.nd x.wh x.tx) 69)) w.heap.size da dn dc x.nd x.wh x.tx := ⟨cell_of hB rfl, cell_of hB rfl, cell_of hB rfl, cell_of hB rfl⟩
  obtain ⟨v, vs, mn, xs, ys, m, e1, e2, e3⟩ := h.ex
  have hyl : ys.length = S.length := by rw [← e2]; simp
  have hsv : ∃ sa sc, vs = .slice sa ys.length sc := by
    rcases m.row.2 with ⟨h', h0⟩ | ⟨g, c, cur, h', _⟩
    · exact ⟨_, _, by rw [h', h0]⟩
    · exact ⟨_, _, h'⟩
  obtain ⟨sa, sc, rfl⟩ := hsv
  have hkey := keyS9b (keyS dec x) hKl
  have hf12 := keysFrom_fnd S 0 x
  have hbw : ∀ {w5 : World}, Below (w.alloc (.cells (aT da dn dc x.nd x.wh x.tx) 69)).heap.size (w.alloc (.cells (aT da dn dc x.nd x.wh x.tx) 69)) w5 → Below w.heap.size w w5 := fun h5 => hb0.trans (below_less h5 hb0.size)
  have H5 : Hid (∀ w5, Below (w.alloc (.cells (aT da dn dc x.nd x.wh x.tx) 69)).heap.size (w.alloc (.cells (aT da dn dc x.nd x.wh x.tx) 69)) w5 → (w5.cell? ⟨X, 2, none⟩ = some (.map (some mn)) ∧ w5.cell? ⟨X, 1, none⟩ = some (.slice sa ys.length sc)) ∧ Hid (MapN w5 9 mn (keysL S))) := fun w5 h5 => by
    have m5 := m.of fun k hk => (hbw h5).block k (m.lt hk)
    have hm5 := m5.map
    rw [e2] at hm5
    exact ⟨⟨cell_of m5.box rfl, cell_of m5.box rfl⟩, hide hm5⟩
  cases hf : fnd (keysL S) (.string (keyS dec x)) with
  | some n =>
    obtain ⟨_, hn⟩ := hf12.1 n hf
    rw [Nat.sub_zero] at hn
    have hcc : (fnd (keysL S) (.string (keyS dec x))).getD 0 = n := by rw [hf]; rfl
    have hok : (fnd (keysL S) (.string (keyS dec x))).isSome = true := by rw [hf]; rfl
    have HE : Hid (∀ w5, Below (w.alloc (.cells (aT da dn dc x.nd x.wh x.tx) 69)).heap.size (w.alloc (.cells (aT da dn dc x.nd x.wh x.tx) 69)) w5 → SPost X lo F (fun k => (Value.slice da dn dc).ownBlock = some k) b S w w5) := fun w5 h5 => ⟨F, h.below (hbw h5), Fr.below (hbw h5), fun k hk => Or.inl hk⟩
    obtain ⟨d0, d1, d2, d3⟩ := hc4
    clear h hd hdF hT hd0 hT0 m e3 hf12 hbw hf hb0 hB
    generalize keyS dec x = KK at *
    go_enter Tryz.func39, Tryz.ntmps39
    go_wp2_with (first
      | (go_at_call 59; refine HKey.out.mono ?_; rintro e w5 ⟨rfl, h5⟩; obtain ⟨⟨x2, x1⟩, HM⟩ := H5.out _ h5; have HF := hide (HE.out _ h5); clear HKey H5 HE h5)
      | (at_lookup; refine wpList_lookN rfl _ _ 44 rfl lawS Tryz.underlying44 rfl HM.out _ _ rfl hkey _ _ hcc hok ?_))
    go_ret
    exact ⟨n, S, rfl, hn, Or.inl rfl, HF.out⟩
  | none =>
    have hnot := hf12.2 hf
    have hcc : (fnd (keysL S) (.string (keyS dec x))).getD 0 = 0 := by rw [hf]; rfl
    have hok : (fnd (keysL S) (.string (keyS dec x))).isSome = false := by rw [hf]; rfl
    obtain ⟨i0, hi0, hz0, hz1, hz2⟩ := info_parts info69f
    obtain ⟨es, clk, hbm⟩ := m.map.isMap
    have hdm : (Value.slice da dn dc).ownBlock ≠ some mn := fun e => (hdF mn e).1 ((e3 mn).2 (Or.inr (Or.inr (Or.inr (Or.inl rfl)))))
    have hXm : X ≠ mn := fun e => by have := m.box; rw [e, hbm] at this; cases this
    have hml := m.map.lt
    have HU : Hid (∀ w5 w6, Below (w.alloc (.cells (aT da dn dc x.nd x.wh x.tx) 69)).heap.size (w.alloc (.cells (aT da dn dc x.nd x.wh x.tx) 69)) w5 → w5.grownBy w6 (some mn) → (w6.cell? ⟨X, 1, none⟩ = some (.slice sa ys.length sc) ∧ C4s w6 w.heap.size da dn dc x.nd x.wh x.tx) ∧ Hid ((w6.drew.alloc (.cells #[.slice da dn dc, .bool x.nd, .bool x.wh, .bool x.tx] 69)).ownsRow 0 69 4 (.slice sa ys.length sc) ys.length (stCells ys) ∧ ∀ j u, [Value.slice da dn dc, .bool x.nd, .bool x.wh, .bool x.tx][j]? = some u → (w6.drew.alloc (.cells #[.slice da dn dc, .bool x.nd, .bool x.wh, .bool x.tx] 69)).cell? ((⟨w6.heap.size, 0, none⟩ : Addr).add j) = some u)) := fun w5 w6 h5 hg6 => by
      have m5 := m.of fun k hk => (hbw h5).block k (m.lt hk)
      have x6 := (hg6.block _ (blk_lt m5.box) (fun e => hXm (Option.some.inj e))).trans m5.box
      have b5 := (h5.block _ (blk_lt hB)).trans hB
      have b6 := (hg6.block _ (blk_lt b5) (fun e => by have := Option.some.inj e; omega)).trans b5
      refine ⟨⟨cell_of x6 rfl, cell_of b6 rfl, cell_of b6 rfl, cell_of b6 rfl, cell_of b6 rfl⟩, hide ⟨owns_of m5.row fun k e => ?_, fun j u hj => ?_⟩⟩
      · have hk := own_lt m5.row e
        have hk1 := Nat.lt_of_lt_of_le hk hg6.size
        rw [Below.heap_alloc _ _ _ (by exact hk1)]
        exact hg6.block k hk (fun e' => row_map m5.row (m5.map.isMap.choose_spec.choose_spec) (by rw [e, e']))
      · have hh := Below_new w6.drew (.cells #[.slice da dn dc, .bool x.nd, .bool x.wh, .bool x.tx] 69)
        have hc := cell_of (i := j) hh (by simpa using hj)
        unfold Addr.add
        split
        · next h0 => rw [h0] at hc; exact hc
        · simpa using hc
    have HV : Hid (∀ w5 w6 w7 v', Below (w.alloc (.cells (aT da dn dc x.nd x.wh x.tx) 69)).heap.size (w.alloc (.cells (aT da dn dc x.nd x.wh x.tx) 69)) w5 → MapN w6 9 mn (keysL S ++ [(.string (keyS dec x), ys.length)]) → w5.grownBy w6 (some mn) → w7.ownsRow 0 69 4 v' (ys.length + 1) (stCells ys ++ [.slice da dn dc, .bool x.nd, .bool x.wh, .bool x.tx]) → (w6.drew.alloc (.cells #[.slice da dn dc, .bool x.nd, .bool x.wh, .bool x.tx] 69)).grownBy w7 (Value.slice sa ys.length sc).ownBlock → (v'.ownBlock = (Value.slice sa ys.length sc).ownBlock ∨ v'.ownBlock = some (w6.drew.alloc (.cells #[.slice da dn dc, .bool x.nd, .bool x.wh, .bool x.tx] 69)).heap.size) →
        (w7.cell? ⟨X, 1, none⟩ = some (.slice sa ys.length sc) ∧ w7.frozen? ⟨X, 1, none⟩ = false) ∧ Hid (SPost X lo F (fun k => (Value.slice da dn dc).ownBlock = some k) b (S ++ [x]) w (w7.setCell ⟨X, 1, none⟩ v'))) := fun w5 w6 w7 v' h5 hm6 hg6 ho7 hg7 hat => by
      have m5 := m.of fun k hk => (hbw h5).block k (m.lt hk)
      have hd5 : w5.ownsRow 0 3 1 (.slice da dn dc) x.due.length (dueC x.due) := owns_of hd fun k e => (hbw h5).block k (own_lt hd e)
      have hm6' : MapN w6 9 mn (keysL (ys.map (·.1)) ++ [(.string (keyS dec x), ys.length)]) := by rw [e2]; exact hm6
      obtain ⟨q1, q2⟩ := m5.put hd5 hdm hm6' hg6 ho7 hg7
      have hs5 := (hbw h5).size
      have hs6 := hg6.size
      refine ⟨q1, hide ⟨SOwn X v v' mn xs (ys ++ [(x, .slice da dn dc)]), ⟨⟨v, v', mn, xs, _, q2, e1, by rw [List.map_append, e2]; rfl, fun k => Iff.rfl⟩, ?_, h.pl, ?_⟩, ?_, ?_⟩⟩
      · rintro k (rfl | hk | hk | rfl | ⟨y, hy, hk⟩)
        · exact h.low _ ((e3 _).2 (Or.inl rfl))
        · exact h.low _ ((e3 _).2 (Or.inr (Or.inl hk)))
        · rcases hat with h1 | h1
          · exact h.low _ ((e3 _).2 (Or.inr (Or.inr (Or.inl (h1 ▸ hk)))))
          · rw [h1] at hk
            have : k = w6.heap.size + 1 := by simpa using hk.symm
            omega
        · exact h.low _ ((e3 _).2 (Or.inr (Or.inr (Or.inr (Or.inl rfl)))))
        · rcases List.mem_append.1 hy with hy | hy
          · exact h.low _ ((e3 _).2 (Or.inr (Or.inr (Or.inr (Or.inr ⟨y, hy, hk⟩)))))
          · rw [List.mem_singleton] at hy
            subst hy
            exact (hdF k hk).2
      · intro s hs
        rcases List.mem_append.1 hs with hs | hs
        · exact h.wfs s hs
        · rw [List.mem_singleton] at hs; subst hs; exact hx
      · have f1 : Fr F w w6 := (Fr.below (hbw h5)).gr hg6 fun k e _ => by cases e; exact (e3 _).2 (Or.inr (Or.inr (Or.inr (Or.inl rfl))))
        have f2 : Fr F w w7 := ((f1.drewN 1).alloc _).gr hg7 fun k e _ => (e3 k).2 (Or.inr (Or.inr (Or.inl e)))
        exact f2.set _ _ fun _ => (e3 X).2 (Or.inl rfl)
      · rintro k (rfl | hk | hk | rfl | ⟨y, hy, hk⟩)
        · exact Or.inl ((e3 _).2 (Or.inl rfl))
        · exact Or.inl ((e3 _).2 (Or.inr (Or.inl hk)))
        · rcases hat with h1 | h1
          · exact Or.inl ((e3 _).2 (Or.inr (Or.inr (Or.inl (h1 ▸ hk)))))
          · rw [h1] at hk
            have : k = w6.heap.size + 1 := by simpa using hk.symm
            exact Or.inr (Or.inr (by omega))
        · exact Or.inl ((e3 _).2 (Or.inr (Or.inr (Or.inr (Or.inl rfl)))))
        · rcases List.mem_append.1 hy with hy | hy
          · exact Or.inl ((e3 _).2 (Or.inr (Or.inr (Or.inr (Or.inr ⟨y, hy, hk⟩)))))
          · rw [List.mem_singleton] at hy
            subst hy
            exact Or.inr (Or.inl hk)
    have hkl : (keysL S).length < 4611686018427387904 := by rw [keysL_len]; omega
    have hSn : (S ++ [x])[ys.length]? = some x := by rw [hyl]; simp
    have hys : ys.length ≤ 1000000000000 := by omega
    obtain ⟨d0, d1, d2, d3⟩ := hc4
    clear h hd hdF hT hd0 hT0 m e3 hf12 hbw hb0 hB hbm hdm hXm hml e1 e2 hyl
    generalize keyS dec x = KK at *
    generalize stCells ys = SC at *
    generalize ys.length = n at *
    generalize x.nd = p at *
    generalize x.wh = q at *
    generalize x.tx = r at *
    go_enter Tryz.func39, Tryz.ntmps39
    go_wp2_with (first
      | (go_at_call 59; refine HKey.out.mono ?_; rintro e w5 ⟨rfl, h5⟩; obtain ⟨⟨x2, x1⟩, HM⟩ := H5.out _ h5; have HB5 := hide h5; clear HKey H5 h5 d0 d1 d2 d3)
      | (at_lookup; refine wpList_lookN rfl _ _ 44 rfl lawS Tryz.underlying44 rfl HM.out _ _ rfl hkey _ _ hcc hok ?_)
      | (at_mapUpdate; refine wpList_putN rfl _ _ _ 44 rfl lawS Tryz.underlying44 rfl HM.out _ _ n rfl rfl hkey hf hkl (by omega) ?_; intro w6 hm6 hg6; have HM6 := hide hm6; have HG6 := hide hg6; obtain ⟨⟨k0, d0, d1, d2, d3⟩, HO6⟩ := HU.out _ _ HB5.out hg6; clear HM HU hm6 hg6 x1 x2))
    have x0a : ∀ o, (w6.alloc o).cell? ⟨X, 1, none⟩ = some (.slice sa n sc) := fun o => cell_alloc o k0
    have y0a : ∀ o, (w6.alloc o).cell? ⟨w.heap.size, 0, none⟩ = some (.slice da dn dc) := fun o => cell_alloc o d0
    have y1a : ∀ o, (w6.alloc o).cell? ⟨w.heap.size, 1, none⟩ = some (.bool p) := fun o => cell_alloc o d1
    have y2a : ∀ o, (w6.alloc o).cell? ⟨w.heap.size, 2, none⟩ = some (.bool q) := fun o => cell_alloc o d2
    have y3a : ∀ o, (w6.alloc o).cell? ⟨w.heap.size, 3, none⟩ = some (.bool r) := fun o => cell_alloc o d3
    go_region_law
      (first | (
        refine step_own_at rfl (.tmp 36) (.tmp 38) 45 rfl 69 i0 _ 4 32 Tryz.underlying45 hi0 hz0 hz1 hz2 rfl (by decide) (.slice sa n sc) n SC (by simp [Act.eval, Act.put]) HO6.out.1 ⟨w6.heap.size, 0, none⟩ 1 1 [.slice da dn dc, .bool p, .bool q, .bool r] (by simp [Act.eval, Act.put]) rfl HO6.out.2 (by simp [Value.oneCell']) (by unfold maxLen; omega) (by omega) ?_
        intro v7 w7 ho hg hat
        obtain ⟨a7, n7, c7, rfl⟩ := own_shape ho
        obtain ⟨⟨x7, f7⟩, H7⟩ := HV.out _ _ _ _ HB5.out HM6.out HG6.out ho hg hat
        clear ho hg hat))
    all_goals
      go_wp2
      go_ret
      exact ⟨n, S ++ [x], rfl, hSn, Or.inr ⟨rfl, hnot⟩, H7.out⟩
end Go.Proofs.YtoahlnmhjinneaaGreatDoor

set_option linter.unusedSimpArgs false
set_option linter.unusedVariables false
namespace Go.Proofs.YtoahlnmhjinneaaGreatDoor
open Go.RowKit Go.Maps Go.Lib
variable {w w' W W' w0 w1 w3 w5 : World} {v vs : Value} {xs : List (Br × Nat)} {b : Brs} {F : Nat → Prop} {X lo : Nat} {S : List Sta} {ys : List (Sta × Value)}
def SAns (X lo : Nat) (F : Nat → Prop) (b : Brs) (S : List Sta) (x : Sta) (w : World) (e : Ending) (w' : World) : Prop := ∃ (n : Nat) (S' : List Sta), e = .returned (.int .i64 (n : Nat)) ∧ S'[n]? = some x ∧ (S' = S ∨ (S' = S ++ [x] ∧ x ∉ S)) ∧ SPost X lo F (fun _ => False) b S' w w'
theorem startS_wf (b : Brs) : WfS b (startS b) := ⟨filter_rising _ _, fun k hk => List.mem_range.1 (List.mem_filter.1 hk).1⟩
theorem nextS_wf (b : Brs) (s : Sta) (name : L) : WfS b (nextS b s name) := ⟨filter_rising _ _, fun k hk => List.mem_range.1 (List.mem_filter.1 hk).1⟩
theorem SpI.number {da : Option Addr} {dn dc : Nat} (x : Sta) (h : SpI X lo F b S w) (hx : WfS b x) (hb : Below w.heap.size w w5) (hd : w5.ownsRow 0 3 1 (.slice da dn dc) x.due.length (dueC x.due)) (ho : ∀ k, (Value.slice da dn dc).ownBlock = some k → w.heap.size ≤ k) (hT : TabB lo w) (hlo : lo ≤ w.heap.size) (hS : S.length ≤ 1000000000000) :
    Calls Tryz.prog 39 #[.pointer (some ⟨X, 0, none⟩), .agg (aT da dn dc x.nd x.wh x.tx)] w5 (SAns X lo F b S x w) := by
  refine (number_ok x (h.below hb) hx hd (fun k e => ⟨fun hF => ?_, ?_⟩) (hT.on (below_less hb hlo)) (Nat.le_trans hlo hb.size) hS).mono ?_
  · have := ho k e
    have := h.lt hF
    omega
  · have := ho k e
    omega
  rintro e w' ⟨n, S', h1, h2, h3, F', h4, h5, h6⟩
  refine ⟨n, S', h1, h2, h3, F', h4, (Fr.below hb).trans h5 fun _ _ h => h, fun k hk => ?_⟩
  rcases h6 k hk with h7 | h7 | h7
  · exact Or.inl h7
  · exact Or.inr (Or.inr (ho k h7))
  · exact Or.inr (Or.inr (Nat.le_trans hb.size h7))
set_option maxHeartbeats 8000000 in
set_option maxRecDepth 100000 in
theorem spStart_ok (h : SpI X lo F b S w) (hT : TabB lo w) (hlo : lo ≤ w.heap.size) (hS : S.length ≤ 1000000000000) : Calls Tryz.prog 26 #[.pointer (some ⟨X, 0, none⟩)] w (SAns X lo F b S (startS b) w) := by
  obtain ⟨v, vs, mn, xs, ys, m, e1, e2, e3⟩ := h.ex
  have c0 : w.cell? ⟨X, 0, none⟩ = some v := cell_of m.box rfl
  have HS := hide (start_ok m.br e1 h.pl.wf h.pl.up h.pl.short h.pl.few h.pl.len)
  have HN : Hid (∀ w5 da dn dc, Below w.heap.size w w5 → w5.ownsRow 0 3 1 (.slice da dn dc) (startS b).due.length (dueC (startS b).due) → (∀ k, (Value.slice da dn dc).ownBlock = some k → w.heap.size ≤ k) → Calls Tryz.prog 39 #[.pointer (some ⟨X, 0, none⟩), .agg #[.slice da dn dc, .bool false, .bool false, .bool false]] w5 (SAns X lo F b S (startS b) w)) := fun w5 da dn dc hb hd ho => h.number (startS b) (startS_wf b) hb hd ho hT hlo hS
  obtain ⟨va, vn, vc, rfl⟩ := own_shape m.br.row
  clear h hT m e3
  generalize (startS b) = ST at *
  go_enter Tryz.func26, Tryz.ntmps26
  go_wp2_with (first
    | (go_at_call 41; refine HS.out.mono ?_; rintro e w5 ⟨da, dn, dc, rfl, h5, h6, h7⟩; have HC := hide (HN.out _ _ _ _ h6 h5 h7); clear HS HN h5 h6 h7)
    | (go_at_call 39; refine HC.out.mono ?_; rintro e w8 ⟨n, S', rfl, h8⟩; have H8 := hide h8; clear HC h8))
  go_ret
  exact ⟨n, S', rfl, H8.out⟩
end Go.Proofs.YtoahlnmhjinneaaGreatDoor

set_option linter.unusedSimpArgs false
set_option linter.unusedVariables false
namespace Go.Proofs.YtoahlnmhjinneaaGreatDoor
open Go.RowKit Go.Maps Go.Lib
variable {w w' W W' w0 w1 w3 w5 : World} {v vs : Value} {xs : List (Br × Nat)} {b : Brs} {F : Nat → Prop} {X lo : Nat} {S : List Sta} {ys : List (Sta × Value)}
theorem SpM.state {mn st : Nat} {y : Sta × Value} (m : SpM X w v vs mn xs ys) (hy : ys[st]? = some y) : ∃ g cap da dn dc, vs = .slice (some ⟨g, 0, none⟩) ys.length cap ∧ y.2 = .slice da dn dc ∧ w.cell? ⟨g, st * 4, none⟩ = some (.slice da dn dc) ∧ w.cell? ⟨g, st * 4 + 1, none⟩ = some (.bool y.1.nd) ∧ w.cell? ⟨g, st * 4 + 2, none⟩ = some (.bool y.1.wh) ∧ w.cell? ⟨g, st * 4 + 3, none⟩ = some (.bool y.1.tx) ∧ w.ownsRow 0 3 1 (.slice da dn dc) y.1.due.length (dueC y.1.due) := by
  have hil := (List.getElem?_eq_some_iff.1 hy).1
  have hd := m.due y (List.mem_of_getElem? hy)
  obtain ⟨da, dn, dc, hyv⟩ := own_shape hd
  rcases m.row.2 with ⟨_, hz⟩ | ⟨g, cap, cur, rfl, hb, hg, hnc, _, _, _⟩
  · omega
  · have f := fun c (hc : c < 4) u hu => (m.row.cellAt (st * 4 + c) (by omega)).trans (stCells_at ys st y c u hy hu)
    exact ⟨g, cap, da, dn, dc, rfl, hyv, f 0 (by omega) _ (by rw [← hyv]; rfl), f 1 (by omega) _ rfl, f 2 (by omega) _ rfl, f 3 (by omega) _ rfl, by rw [← hyv]; exact hd⟩
set_option maxHeartbeats 16000000 in
set_option maxRecDepth 100000 in
theorem spNext_ok {st : Nat} {s : Sta} (h : SpI X lo F b S w) (hs : S[st]? = some s) (name : L) (hT : TabB lo w) (hlo : lo ≤ w.heap.size) (hS : S.length ≤ 1000000000000) : Calls Tryz.prog 25 #[.pointer (some ⟨X, 0, none⟩), .int .i64 (st : Nat), .string (bs name)] w (SAns X lo F b S (nextS b s name) w) := by
  obtain ⟨v, vs, mn, xs, ys, m, e1, e2, e3⟩ := h.ex
  have hws := h.wfs s (List.mem_of_getElem? hs)
  have hyx : ∃ y, ys[st]? = some y ∧ y.1 = s := by
    rw [← e2, List.getElem?_map] at hs
    obtain ⟨y, hy, rfl⟩ := Option.map_eq_some_iff.1 hs
    exact ⟨y, hy, rfl⟩
  obtain ⟨y, hy, rfl⟩ := hyx
  obtain ⟨g, cap, da, dn, dc, rfl, -, a0, a1, a2, a3, hrow⟩ := m.state hy
  have hlt := (List.getElem?_eq_some_iff.1 hy).1
  have c0 : w.cell? ⟨X, 0, none⟩ = some v := cell_of m.box rfl
  have c1 : w.cell? ⟨X, 1, none⟩ = some (.slice (some ⟨g, 0, none⟩) ys.length cap) := cell_of m.box rfl
  have HA := hide (answered_yes st c1 hlt)
  have hii : (st : Int) < (ys.length : Int) := by omega
  have HX : Hid (∀ w', Below w.heap.size w w' → Calls Tryz.prog 40 #[v, .agg #[.slice da dn dc, .bool y.1.nd, .bool y.1.wh, .bool y.1.tx], .string (bs name)] w' fun e w5 => ∃ va vn vc, e = .returned (.agg #[.slice va vn vc, .bool (nextS b y.1 name).nd, .bool (nextS b y.1 name).wh, .bool (nextS b y.1 name).tx]) ∧ Hid (Calls Tryz.prog 39 #[.pointer (some ⟨X, 0, none⟩), .agg #[.slice va vn vc, .bool (nextS b y.1 name).nd, .bool (nextS b y.1 name).wh, .bool (nextS b y.1 name).tx]] w5 (SAns X lo F b S (nextS b y.1 name) w))) := fun w' hb => by
    have m' := m.of fun k hk => hb.block k (m.lt hk)
    have hr' : w'.ownsRow 0 3 1 (.slice da dn dc) y.1.due.length (dueC y.1.due) := owns_of hrow fun k e => hb.block k (own_lt hrow e)
    refine (next_ok y.1.nd y.1.wh y.1.tx name m'.br e1 h.pl.wf h.pl.short h.pl.ks h.pl.len hws.1 hws.2 hws.len hr').mono ?_
    rintro e w5 ⟨va, vn, vc, q1, q2, q3, q4⟩
    have hbb : Below w.heap.size w w5 := hb.trans (below_less q3 hb.size)
    exact ⟨va, vn, vc, q1, hide (h.number (nextS b y.1 name) (nextS_wf b y.1 name) hbb q2 (fun k e => Nat.le_trans hb.size (q4 k e)) hT hlo hS)⟩
  obtain ⟨va, vn, vc, rfl⟩ := own_shape m.br.row
  clear h hT m e3 hs hws hrow hy hlt e1 e2
  generalize nextS b y.1 name = ST at *
  generalize ys.length = n at *
  generalize y.1.nd = p at *
  generalize y.1.wh = q at *
  generalize y.1.tx = r at *
  go_enter Tryz.func25, Tryz.ntmps25
  go_wp2_with (go_at_call 27; refine HA.out.mono ?_; rintro e w5 ⟨rfl, hw⟩; have hw' := hw.symm; clear hw; subst hw'; clear HA)
  go_region_with
    ((first
      | (go_at_call 40; (first | refine (HX.out _ (belowN (Below.refl _ _) 1)).mono ?_ | refine (HX.out _ (Below.drew (Below.refl _ _))).mono ?_ | refine (HX.out _ (Below.refl _ _)).mono ?_); rintro e w6 ⟨a6, n6, c6, rfl, H6⟩)
      | (go_at_call 39; refine H6.out.mono ?_; rintro e w8 ⟨n8, S8, rfl, h8⟩)))
  all_goals
    have H8 := hide h8
    clear h8 HX H6
    go_wp2
    go_ret
    exact ⟨n8, S8, rfl, H8.out⟩
end Go.Proofs.YtoahlnmhjinneaaGreatDoor

set_option linter.unusedSimpArgs false
set_option linter.unusedVariables false
namespace Go.Proofs.YtoahlnmhjinneaaGreatDoor
open Go.RowKit Go.Maps Go.Lib
variable {w w' W W' w0 w1 w3 w5 wr : World} {v vs : Value} {xs : List (Br × Nat)} {b : Brs} {F : Nat → Prop} {X lo : Nat} {S S1 : List Sta} {ys : List (Sta × Value)}
theorem SPost.trans {S2 : List Sta} (h : SPost X lo F (fun _ => False) b S w w1) (k : ∀ F', SpI X lo F' b S w1 → SPost X lo F' (fun _ => False) b S2 w1 w') : SPost X lo F (fun _ => False) b S2 w w' := by
  obtain ⟨F', h1, h2, h3⟩ := h
  obtain ⟨F2, k1, k2, k3⟩ := k F' h1
  refine ⟨F2, k1, h2.trans k2 fun i hi hF => ?_, fun j hj => ?_⟩
  · rcases h3 i hF with h | h | h
    · exact h
    · exact h.elim
    · omega
  · rcases k3 j hj with h | h | h
    · exact h3 j h
    · exact h.elim
    · exact Or.inr (Or.inr (Nat.le_trans h2.size h))
theorem StR.fru {v : Value} {l : List L} (h : StR W v l) (hf : Fr F W wr) (ha : ∀ k, v.ownBlock = some k → ¬ F k) : StR wr v l := by
  obtain ⟨ai, cap, rfl, hn, hr⟩ := h
  refine ⟨ai, cap, rfl, hn, fun i m hm => ?_⟩
  obtain ⟨g, off, e, hg, h0⟩ := hr i m hm
  subst e
  exact ⟨g, off, rfl, Nat.lt_of_lt_of_le hg hf.size, (World.cell?_of_block (hf.block g hg (ha g rfl))).trans h0⟩
def MidW (X lo : Nat) (F : Nat → Prop) (b : Brs) (S : List Sta) (r : List L) (W : World) (i n : Nat) (wr : World) : Prop := ∃ S1 : List Sta, S1[n]? = some (walkS b (r.take i)) ∧ S1.length ≤ S.length + 1 + i ∧ SPost X lo F (fun _ => False) b S1 W wr
def WPost (X lo : Nat) (F : Nat → Prop) (b : Brs) (S : List Sta) (r : List L) (W : World) (e : Ending) (w' : World) : Prop := ∃ n : Nat, e = .returned (.int .i64 (n : Nat)) ∧ MidW X lo F b S r W r.length n w'
theorem walk_start {r : List L} (h : SpI X lo F b S W) (hT : TabB lo W) (hlo : lo ≤ W.heap.size) (hS : S.length ≤ 1000000000000) : Calls Tryz.prog 26 #[.pointer (some ⟨X, 0, none⟩)] W fun e w' => ∃ n : Nat, e = .returned (.int .i64 (n : Nat)) ∧ Hid (MidW X lo F b S r W 0 n w') := by
  refine (spStart_ok h hT hlo hS).mono ?_
  rintro e w' ⟨n, S', rfl, h1, h2, h3⟩
  refine ⟨n, rfl, hide ⟨S', h1, ?_, h3⟩⟩
  rcases h2 with rfl | ⟨rfl, -⟩
  · omega
  · simp
theorem walk_round {r : List L} {i n : Nat} {ai : Option Addr} {cap : Nat} (hT : TabB lo W) (hlo : lo ≤ W.heap.size) (hF : ∀ k, F k → lo ≤ k) (hS : S.length + 1 + r.length ≤ 1000000000000) (hr : StR W (.slice ai r.length cap) r) (ha : ∀ k, (Value.slice ai r.length cap).ownBlock = some k → ¬ F k) (hi : i < r.length) (M : MidW X lo F b S r W i n wr) :
    ∃ g off T, ai = some ⟨g, off, none⟩ ∧ wr.cell? ⟨g, off + i, none⟩ = some (.string T) ∧ Hid (Calls Tryz.prog 25 #[.pointer (some ⟨X, 0, none⟩), .int .i64 (n : Nat), .string T] wr fun e w' => ∃ n' : Nat, e = .returned (.int .i64 (n' : Nat)) ∧ Hid (MidW X lo F b S r W (i + 1) n' w')) := by
  obtain ⟨S1, m1, m2, F', m3, m4, m5⟩ := M
  have hx : r[i]? = some r[i] := List.getElem?_eq_getElem hi
  obtain ⟨ai', cap', e, hn, hrr⟩ := hr.fru m4 ha
  cases e
  obtain ⟨g, off, e, hg, h0⟩ := hrr i _ hx
  have hbl : Below lo W wr := m4.up hF hlo
  refine ⟨g, off, _, e, h0, hide ?_⟩
  refine (spNext_ok m3 m1 r[i] (hT.on hbl) (Nat.le_trans hlo m4.size) (by omega)).mono ?_
  rintro e w' ⟨n', S2, rfl, k1, k2, k3⟩
  refine ⟨n', rfl, hide ⟨S2, ?_, ?_, ?_⟩⟩
  · rw [k1, List.take_succ_eq_append_getElem hi]
    unfold walkS
    rw [List.foldl_append]
    rfl
  · rcases k2 with rfl | ⟨rfl, -⟩
    · omega
    · rw [List.length_append, List.length_singleton]
      omega
  · obtain ⟨F2, q1, q2, q3⟩ := k3
    refine ⟨F2, q1, m4.trans q2 fun i hi hF => ?_, fun j hj => ?_⟩
    · rcases m5 i hF with h | h | h
      · exact h
      · exact h.elim
      · omega
    · rcases q3 j hj with h | h | h
      · exact m5 j h
      · exact h.elim
      · exact Or.inr (Or.inr (Nat.le_trans m4.size h))
set_option maxHeartbeats 8000000 in
set_option maxRecDepth 100000 in
theorem walked_ok {r : List L} {vr : Value} (h : SpI X lo F b S W) (hT : TabB lo W) (hlo : lo ≤ W.heap.size) (hS : S.length + 1 + r.length ≤ 1000000000000) (hr : StR W vr r) (ha : ∀ k, vr.ownBlock = some k → ¬ F k) : Calls Tryz.prog 11 #[.pointer (some ⟨X, 0, none⟩), vr] W (WPost X lo F b S r W) := by
  have hF := h.low
  have HS := hide (walk_start (r := r) h hT hlo (by omega))
  obtain ⟨ai, cap, rfl, ⟨hn, hc⟩, hrr⟩ := id hr
  have HR : Hid (∀ i n wr, i < r.length → MidW X lo F b S r W i n wr → ∃ g off T, ai = some ⟨g, off, none⟩ ∧ wr.cell? ⟨g, off + i, none⟩ = some (.string T) ∧ Hid (Calls Tryz.prog 25 #[.pointer (some ⟨X, 0, none⟩), .int .i64 (n : Nat), .string T] wr fun e w' => ∃ n' : Nat, e = .returned (.int .i64 (n' : Nat)) ∧ Hid (MidW X lo F b S r W (i + 1) n' w'))) := fun i n wr hi M => walk_round hT hlo hF hS hr ha hi M
  have HE : Hid (∀ n w', MidW X lo F b S r W r.length n w' → WPost X lo F b S r W (.returned (.int .i64 (n : Nat))) w') := fun n w' h => ⟨n, rfl, h⟩
  clear hrr hr ha hS h hT hF
  generalize MidW X lo F b S r W = RR at *
  generalize WPost X lo F b S r W = PP at *
  generalize r.length = len at *
  go_enter Tryz.func11, Tryz.ntmps11
  go_wp2_with (go_at_call 26; refine HS.out.mono ?_; rintro e w5 ⟨n0, rfl, h5⟩; clear HS)
  go_loopw [5, 6] (fun av iv wr => ∃ i n : Nat, av = .int .i64 (n : Nat) ∧ iv = .int .i64 i ∧ i ≤ len ∧ RR i n wr) (fun _ iv _ => len - (RowKit.intOf iv).toNat)
  case atStart => exact ⟨0, n0, rfl, rfl, Nat.zero_le _, h5.out⟩
  case round =>
    obtain ⟨i, n, rfl, rfl, hi, hM⟩ := hrel
    clear h5
    by_cases hlt : i < len
    · obtain ⟨g, off, T, rfl, c1, HC⟩ := HR.out i n _ hlt hM
      have hdec : decide ((i : Int) < len) = true := by simp; omega
      have hii : (i : Int) < len := by omega
      clear HR hM
      go_wp2_with (go_at_call 25; refine HC.out.mono ?_; rintro e w6 ⟨n', rfl, h6⟩)
      exact ⟨⟨i + 1, n', rfl, by simp, by omega, h6.out⟩, by simp only [RowKit.intOf]; omega⟩
    · have hdec : decide ((i : Int) < len) = false := by simp; omega
      have hi2 : i = len := by omega
      rw [hi2] at hM
      have H9 := hide (HE.out n _ hM)
      clear HE HR hM
      go_wp2
      exact H9.out
end Go.Proofs.YtoahlnmhjinneaaGreatDoor
