import Derived.Maps.OwnSet
import Derived.Maps.Views
import Derived.Maps.Keyed
import Derived.DeepKeys4
import Derived.Deep.RegionLaw
import Derived.Test.YtoahlnmhjinneaaGreatDoorGav
import Derived.Test.YtoahlnmhjinneaaGreatDoorGau
import Derived.Test.YtoahlnmhjinneaaGreatDoorGaq
import Derived.Test.YtoahlnmhjinneaaGreatDoorGad
set_option linter.unusedVariables false
set_option linter.unusedSimpArgs false
set_option linter.unusedSimpArgs false
set_option linter.unusedVariables false
namespace Go.Proofs.YtoahlnmhjinneaaGreatDoor
open Go.RowKit Go.Maps Go.Lib
variable {w w' w1 w2 W : World}
def fnd (kv : List (Lit × Nat)) (kl : Lit) : Option Nat := (kv.find? fun p => p.1.sameKey kl).map (·.2)
structure MapN (w : World) (kt : TypeId) (b : Nat) (kv : List (Lit × Nat)) : Prop where
  ex : ∃ D : DataW Unit, w.ownsMap Tryz.prog kt (plainElem Tryz.prog 3) b kv.length D ∧ (∀ kl, Maps.has D kl = (fnd kv kl).isSome) ∧ ∀ kl z, D.atKey kl z = match fnd kv kl with | some n => .lit (.int .i64 (n : Nat)) | none => z
variable {kt : TypeId} {b : Nat} {kv : List (Lit × Nat)}
theorem MapN.lt (h : MapN w kt b kv) : b < w.heap.size := by obtain ⟨D, h, _⟩ := h.ex; exact h.lt
theorem MapN.of (h : MapN w kt b kv) (hb : w'.heap[b]? = w.heap[b]?) : MapN w' kt b kv := by
  obtain ⟨D, ⟨es, clock, e, F, hs, hD⟩, h2⟩ := h.ex
  exact ⟨D, ⟨es, clock, hb.trans e, F, hs, hD⟩, h2⟩
theorem MapN.isMap (h : MapN w kt b kv) : ∃ es clock, w.heap[b]? = some (.map es clock) := by
  obtain ⟨D, ⟨es, clock, e, _⟩, _⟩ := h.ex
  exact ⟨es, clock, e⟩
theorem MapN.new (w : World) (kt : TypeId) : MapN (w.alloc (.map #[] 0)) kt w.heap.size [] :=
  ⟨.map [], World.ownsMap_made w Tryz.prog kt _, fun kl => rfl, fun kl z => rfl⟩
theorem fnd_app (kv : List (Lit × Nat)) (kl : Lit) (n : Nat) (k' : Lit) : fnd (kv ++ [(kl, n)]) k' = match fnd kv k' with | some m => some m | none => if kl.sameKey k' = true then some n else none := by
  unfold fnd
  rw [List.find?_append]
  cases h : kv.find? (fun p => p.1.sameKey k') with
  | some p => rfl
  | none =>
    simp only [Option.none_or, Option.map_none, List.find?_cons, List.find?_nil]
    cases kl.sameKey k' <;> rfl
theorem wpList_lookN {ops : Array Oper} {rest : List Oper} {o : Oper} {a : Act} {Q : Exit → Act → World → Prop} (hg : o.guard = none) (m x : Operand) (t : TypeId) (hop : o.op = Op.lookup t m x true)
    (K : Keyed Tryz.prog kt) (ht : Tryz.prog.underlying t = some (.map kt 3)) (hm : a.eval m = .map (some b)) (h : MapN w kt b kv) (key : Value) (kl : Lit) (hx : a.eval x = key) (hkey : keyOf Tryz.prog kt key = some kl) (c : Nat) (ok : Bool) (hc : (fnd kv kl).getD 0 = c) (hok : (fnd kv kl).isSome = ok)
    (hK : wpList Tryz.prog ops Q rest (a.put o.dst (.tuple #[.int .i64 (c : Nat), .bool ok])) w) :
    wpList Tryz.prog ops Q (o :: rest) a w := by
  obtain ⟨D, h1, h2, h3⟩ := h.ex
  refine wpList_lookup_own_ok_int w hg m x t hop kt 3 .i64 K ht Tryz.underlying3 (Tryz.zeroValue3 _) b kv.length D hm h1 key kl hx hkey ?_
  intro c' hat _
  rw [h3] at hat
  rw [h2, hok]
  have e : c' = (c : Int) := by
    rw [← hc]
    cases hf : fnd kv kl with
    | none => rw [hf] at hat; simp only at hat; cases hat; rfl
    | some n => rw [hf] at hat; simp only at hat; cases hat; rfl
  rw [e]
  exact hK
theorem wpList_putN {ops : Array Oper} {rest : List Oper} {o : Oper} {a : Act} {Q : Exit → Act → World → Prop} (hg : o.guard = none) (m x v : Operand) (t : TypeId) (hop : o.op = Op.mapUpdate t m x v)
    (K : Keyed Tryz.prog kt) (ht : Tryz.prog.underlying t = some (.map kt 3)) (hm : a.eval m = .map (some b)) (h : MapN w kt b kv) (key : Value) (kl : Lit) (n : Nat) (hx : a.eval x = key) (hv : a.eval v = .int .i64 (n : Nat)) (hkey : keyOf Tryz.prog kt key = some kl) (hn : fnd kv kl = none) (hl : kv.length < 4611686018427387904) (hnn : n < 4611686018427387904)
    (hK : ∀ w', MapN w' kt b (kv ++ [(kl, n)]) → w.grownBy w' (some b) → wpList Tryz.prog ops Q rest (a.put o.dst undef) w') :
    wpList Tryz.prog ops Q (o :: rest) a w := by
  obtain ⟨D, h1, h2, h3⟩ := h.ex
  have hwf : (Lit.int .i64 (n : Nat)).wf = true := by
    have e1 : IntKind.i64.min = -9223372036854775808 := by decide
    have e2 : IntKind.i64.max = 9223372036854775807 := by decide
    simp [Lit.wf, e1, e2]
    omega
  refine wpList_mapUpdate_own w hg m x v t hop kt 3 K ht (plainElem Tryz.prog 3) b kv.length D hm h1 (by unfold maxLen; omega) key (.int .i64 (n : Nat)) kl hx hv hkey (.lit (.int .i64 (n : Nat))) [] (plainElem_int Tryz.underlying3 hwf) ?_
  intro w' hown hgr
  refine hK w' ⟨_, by rw [List.length_append, List.length_singleton]; exact hown, fun k' => ?_, fun k' z => ?_⟩ hgr
  · rw [fnd_app]
    by_cases e : k' = kl
    · subst e
      rw [has_put_same h1.isMap (K.key hkey), hn]
      simp [WideAt.sameKey_self (K.key hkey)]
    · rw [has_put_other e, h2, sameKey_ne (fun h => e h.symm)]
      cases fnd kv k' <;> rfl
  · rw [fnd_app]
    by_cases e : k' = kl
    · subst e
      rw [atKey_put_same h1.isMap (K.key hkey), hn]
      simp [WideAt.sameKey_self (K.key hkey)]
    · rw [atKey_put_other e, h3, sameKey_ne (fun h => e h.symm)]
      cases fnd kv k' <;> rfl
theorem lawS : Keyed Tryz.prog 9 := string_keyed Tryz.underlying9
theorem keyS9 (t : L) (h : t.length ≤ 1000000000000) : keyOf Tryz.prog 9 (.string (bs t)) = some (.string t) := by
  have e : (bs t).size = t.length := bs_size t
  have hm : (bs t).size ≤ maxLen := by rw [e]; unfold maxLen; omega
  simp [keyOf, mapKey, Tryz.underlying9, hm]
  simp [bs]
end Go.Proofs.YtoahlnmhjinneaaGreatDoor

set_option linter.unusedSimpArgs false
set_option linter.unusedVariables false
namespace Go.Proofs.YtoahlnmhjinneaaGreatDoor
open Go.RowKit Go.Maps Go.Lib
variable {w w' w1 w2 W : World} {bA bM : Nat} {F : Nat → Prop} {acc : List Np}
def TxA (acc : List Np) : List L := uniq (acc.map writtenN)
def strC (l : List L) : List Value := l.map fun x => .string (bs x)
structure PathI (bA bM : Nat) (F : Nat → Prop) (acc : List Np) (w : World) : Prop where
  ex : ∃ v b kv, w.heap[bA]? = some (.cells #[v] 22 (0, 0)) ∧ w.heap[bM]? = some (.cells #[.map (some b)] 44 (0, 0)) ∧ MapN w 9 b kv ∧ kv.map (·.1) = (TxA acc).map Lit.string ∧ w.ownsRow 0 9 1 v (TxA acc).length (strC (TxA acc)) ∧ (∀ k, F k ↔ k = bA ∨ k = bM ∨ k = b ∨ v.ownBlock = some k)
theorem PathI.ok : InvOK (PathI bA bM) := by
  refine ⟨fun F acc W W' h hb => ?_, fun F acc W k h hk => ?_⟩
  · obtain ⟨v, b, kv, h1, h2, h3, h4, h5, h6⟩ := h.ex
    exact ⟨v, b, kv, (hb.block _ (blk_lt h1)).trans h1, (hb.block _ (blk_lt h2)).trans h2, h3.of (hb.block _ h3.lt), h4, owns_of h5 fun k e => hb.block k (own_lt h5 e), h6⟩
  · obtain ⟨v, b, kv, h1, h2, h3, h4, h5, h6⟩ := h.ex
    rcases (h6 k).1 hk with rfl | rfl | rfl | e
    · exact blk_lt h1
    · exact blk_lt h2
    · exact h3.lt
    · exact own_lt h5 e
theorem TxA_app (acc : List Np) (p : Np) : TxA (acc ++ [p]) = addU (TxA acc) (writtenN p) := by
  unfold TxA uniq
  rw [List.map_append, List.foldl_append]
  rfl
theorem fnd_keys : ∀ (kv : List (Lit × Nat)) (l : List L), kv.map (·.1) = l.map Lit.string → ∀ x : L, (fnd kv (.string x)).isSome = l.contains x
  | [], [], _, x => rfl
  | [], y :: l, h, x => by simp at h
  | p :: kv, [], h, x => by simp at h
  | p :: kv, y :: l, h, x => by
    simp only [List.map_cons, List.cons.injEq] at h
    have ih := fnd_keys kv l h.2 x
    have e : (fnd (p :: kv) (.string x)).isSome = (p.1.sameKey (.string x) || (fnd kv (.string x)).isSome) := by
      unfold fnd
      rw [List.find?_cons]
      cases p.1.sameKey (.string x) <;> rfl
    rw [e, ih, h.1, List.contains_cons]
    congr 1
    show (y == x) = (x == y)
    rw [Bool.eq_iff_iff, beq_iff_eq, beq_iff_eq]
    exact eq_comm
theorem Fr.gr {row : Option Nat} (h : Fr F w w1) (hg : w1.grownBy w2 row) (hF : ∀ k, row = some k → k < w.heap.size → F k) : Fr F w w2 :=
  ⟨hg.os.trans h.os, hg.tape.trans h.tape, hg.output.trans h.output, Nat.le_trans h.size hg.size, fun k hk hf => (hg.block k (Nat.lt_of_lt_of_le hk h.size) (fun e => hf (hF k e.symm hk))).trans (h.block k hk hf)⟩
theorem uniq_len : ∀ (l acc : List L), (l.foldl addU acc).length ≤ acc.length + l.length
  | [], acc => by simp
  | x :: l, acc => by
    have := uniq_len l (addU acc x)
    have h2 : (addU acc x).length ≤ acc.length + 1 := by unfold addU; split <;> simp
    rw [List.foldl_cons, List.length_cons]
    omega
theorem TxA_len (acc : List Np) : (TxA acc).length ≤ acc.length := by
  have := uniq_len (acc.map writtenN) []
  simp only [List.length_nil, Nat.zero_add, List.length_map] at this
  exact this
theorem info9 : (Tryz.prog.info? 9).map (fun i => (i.zero, i.size, i.bytes)) = some (some (.string ⟨#[]⟩), 1, 16) := by kernel_rfl
theorem row_map {B : Nat} {e : TypeId} {s : Nat} {v : Value} {n b : Nat} {xs : List Value} {es : Array MapEntry} {c : Nat} (h : w.ownsRow B e s v n xs) (hm : w.heap[b]? = some (.map es c)) : v.ownBlock ≠ some b := by
  intro hv
  rcases h.2 with ⟨h', _⟩ | ⟨g, cap, cur, h', _, hg, _⟩
  · rw [h'] at hv; cases hv
  · rw [h'] at hv
    have : g = b := by simpa [Value.ownBlock] using hv
    subst this
    rw [hm] at hg
    cases hg
theorem row_box {B : Nat} {e t : TypeId} {s : Nat} {v : Value} {n b : Nat} {xs : List Value} {cs : Array Value} {fz : Nat × Nat} (h : w.ownsRow B e s v n xs) (hm : w.heap[b]? = some (.cells cs t fz)) (ht : t ≠ e) : v.ownBlock ≠ some b := by
  intro hv
  rcases h.2 with ⟨h', _⟩ | ⟨g, cap, cur, h', _, hg, _⟩
  · rw [h'] at hv; cases hv
  · rw [h'] at hv
    have : g = b := by simpa [Value.ownBlock] using hv
    subst this
    rw [hm] at hg
    cases hg
    exact ht rfl
set_option maxHeartbeats 8000000 in
set_option maxRecDepth 100000 in
theorem paths_take {v : Value} {ms : List Mk} (wh : Bool) (pre : TkPre (PathI bA bM) F acc W v ms) : Calls Tryz.prog 18 #[v, .bool wh, .pointer (some ⟨bM, 0, none⟩), .pointer (some ⟨bA, 0, none⟩)] W (TkPost (PathI bA bM) F (acc ++ [(ms, wh)]) W) := by
  have hlen := pre.len
  have HW := hide (written_ok ms wh v W pre.row (by omega))
  have hTl : (writtenN (ms, wh)).length ≤ 1001 := by
    unfold writtenN
    rw [List.length_append]
    have e : (ms.flatMap slashM).length = (bareT ms).length := rfl
    show (ms.flatMap slashM).length + _ ≤ 1001
    rw [e]
    split <;> simp <;> omega
  have hacc := pre.acc
  have hkey := keyS9 (writtenN (ms, wh)) (by omega)
  have htx := TxA_app acc (ms, wh)
  have htl := TxA_len acc
  obtain ⟨i0, hi, hz0, hz1, hz2⟩ := info_parts info9
  obtain ⟨v0, b, kv, p1, p2, p3, p4, p5, p6⟩ := pre.inv.ex
  obtain ⟨es, clk, hbm⟩ := p3.isMap
  obtain ⟨a0, n0, c0, rfl⟩ := own_shape p5
  have hfk := fnd_keys kv _ p4 (writtenN (ms, wh))
  have hkl : kv.length = (TxA acc).length := by have := congrArg List.length p4; simpa using this
  have hab : bA ≠ b := fun e => by rw [e, hbm] at p1; cases p1
  have hmb : bM ≠ b := fun e => by rw [e, hbm] at p2; cases p2
  have ham : bA ≠ bM := fun e => by rw [e, p2] at p1; cases p1
  have hvb := row_map p5 hbm
  have hva := row_box p5 p1 (by decide)
  have hvm := row_box p5 p2 (by decide)
  have hinv := pre.inv
  have HP : Hid (∀ w1, Below W.heap.size W w1 → (w1.cell? ⟨bM, 0, none⟩ = some (.map (some b)) ∧ w1.cell? ⟨bA, 0, none⟩ = some (.slice a0 n0 c0)) ∧ Hid (MapN w1 9 b kv)) := fun w1 hb =>
    ⟨⟨cell_of ((hb.block _ (blk_lt p2)).trans p2) rfl, cell_of ((hb.block _ (blk_lt p1)).trans p1) rfl⟩, hide (p3.of (hb.block _ p3.lt))⟩
  have HZ : Hid (∀ w1, Below W.heap.size W w1 → PathI bA bM F acc w1 ∧ Fr F W w1) := fun w1 hb => ⟨PathI.ok.below _ _ _ _ hinv hb, Fr.below hb⟩
  obtain ⟨ai, cap, rfl, -⟩ := pre.row
  clear pre
  generalize writtenN (ms, wh) = T at *
  by_cases hcon : (TxA acc).contains T = true
  · have hok : (fnd kv (.string T)).isSome = true := by rw [hfk, hcon]
    have HE : Hid (∀ w1, Below W.heap.size W w1 → TkPost (PathI bA bM) F (acc ++ [(ms, wh)]) W (.returned (.tuple #[])) w1) := fun w1 hb => by
      obtain ⟨h1, h2⟩ := HZ.out w1 hb
      obtain ⟨v', b', kv', q1, q2, q3, q4, q5, q6⟩ := h1.ex
      have e : TxA (acc ++ [(ms, wh)]) = TxA acc := by rw [htx]; unfold addU; rw [if_pos hcon]
      refine ⟨rfl, F, ⟨v', b', kv', q1, q2, q3, by rw [e]; exact q4, by rw [e]; exact q5, q6⟩, h2, fun k hk => Or.inl hk⟩
    clear HZ p1 p2 p3 p4 p5 p6 hinv htx htl hfk hkl hab hmb ham hvb hva hvm hbm hTl hlen hacc
    generalize (acc ++ [(ms, wh)]) = ACC at *
    generalize ms.length = nn at *
    obtain ⟨cc, hcc⟩ : ∃ cc, (fnd kv (.string T)).getD 0 = cc := ⟨_, rfl⟩
    go_enter Tryz.func18, Tryz.ntmps18
    go_wp2_with (first
      | (go_at_call 19; refine HW.out.mono ?_; rintro e w5 ⟨rfl, h5⟩; obtain ⟨⟨d0, d1⟩, HM⟩ := HP.out _ h5; have H5 := hide (HE.out _ h5); clear HW HP HE h5)
      | (at_lookup; refine wpList_lookN rfl _ _ 44 rfl lawS Tryz.underlying44 rfl HM.out _ _ rfl hkey _ _ hcc hok ?_))
    go_end0
    exact H5.out
  · have hcon' : (TxA acc).contains T = false := by simpa using hcon
    have hok : (fnd kv (.string T)).isSome = false := by rw [hfk, hcon']
    have hnone : fnd kv (.string T) = none := by simpa using hok
    have hcc : (fnd kv (.string T)).getD 0 = 0 := by rw [hnone]; rfl
    have e1 : TxA (acc ++ [(ms, wh)]) = TxA acc ++ [T] := by rw [htx]; unfold addU; rw [if_neg hcon]
    have hn0 : n0 = (TxA acc).length := by
      rcases p5.2 with ⟨h, h'⟩ | ⟨g, c, cur, h, _⟩
      · cases h; exact h'.symm
      · cases h; rfl
    have hNm : (TxA acc).length < 2200000000 := by unfold Nmax at hacc; omega
    have HU : Hid (∀ w1 w2 w3 v', Below W.heap.size W w1 → MapN w2 9 b (kv ++ [(.string T, (TxA acc).length)]) → w1.grownBy w2 (some b) → w3.ownsRow 0 9 1 v' ((TxA acc).length + 1) (strC (TxA acc) ++ [.string (bs T)]) → (w2.alloc (.cells #[.string (bs T)] 9)).grownBy w3 (Value.slice a0 n0 c0).ownBlock → (v'.ownBlock = (Value.slice a0 n0 c0).ownBlock ∨ v'.ownBlock = some (w2.alloc (.cells #[.string (bs T)] 9)).heap.size) → w3.cell? ⟨bA, 0, none⟩ = some (.slice a0 n0 c0) ∧ w3.frozen? ⟨bA, 0, none⟩ = false ∧ Hid (TkPost (PathI bA bM) F (acc ++ [(ms, wh)]) W (.returned (.tuple #[])) (w3.setCell ⟨bA, 0, none⟩ v'))) := fun w1 w2 w3 v' hb hm2 hg2 ho3 hg3 hat => by
      have q1 := (hb.block _ (blk_lt p1)).trans p1
      have q2 := (hb.block _ (blk_lt p2)).trans p2
      have r1 := (hg2.block _ (blk_lt q1) (fun e => hab (by cases e; rfl))).trans q1
      have r2 := (hg2.block _ (blk_lt q2) (fun e => hmb (by cases e; rfl))).trans q2
      have s1 := (Below.heap_alloc w2 (.cells #[.string (bs T)] 9) _ (blk_lt r1)).trans r1
      have s2 := (Below.heap_alloc w2 (.cells #[.string (bs T)] 9) _ (blk_lt r2)).trans r2
      have t1 := (hg3.block _ (blk_lt s1) (fun e => hva e.symm)).trans s1
      have t2 := (hg3.block _ (blk_lt s2) (fun e => hvm e.symm)).trans s2
      have hm3 : MapN w3 9 b (kv ++ [(.string T, (TxA acc).length)]) := by
        have hx := hm2.lt
        refine hm2.of ?_
        rw [hg3.block b (by simp; omega) (fun e => hvb e.symm)]
        exact Below.heap_alloc _ _ _ hx
      have hb2 : v'.ownBlock ≠ some bA := row_box ho3 t1 (by decide)
      refine ⟨cell_of t1 rfl, free_of t1, hide ⟨rfl, fun k => k = bA ∨ k = bM ∨ k = b ∨ v'.ownBlock = some k, ⟨v', b, kv ++ [(.string T, (TxA acc).length)], set_of t1 _, (Below.heap_setCell _ _ _ _ (fun e => ham e.symm)).trans t2, hm3.of (Below.heap_setCell _ _ _ _ (fun e => hab e.symm)), ?_, ?_, fun k => Iff.rfl⟩, ?_, ?_⟩⟩
      · rw [e1, List.map_append, List.map_append, p4]; rfl
      · rw [e1, List.length_append, List.length_singleton]
        have e2 : strC (TxA acc ++ [T]) = strC (TxA acc) ++ [.string (bs T)] := by unfold strC; rw [List.map_append]; rfl
        rw [e2]
        exact owns_of ho3 fun k e => Below.heap_setCell _ _ _ _ (fun e' => hb2 (by rw [e, e']))
      · have f1 : Fr F W w1 := Fr.below hb
        have f2 : Fr F W w2 := f1.gr hg2 fun k e _ => by cases e; exact (p6 _).2 (Or.inr (Or.inr (Or.inl rfl)))
        have f3 : Fr F W w3 := (f2.alloc _).gr hg3 fun k e _ => (p6 k).2 (Or.inr (Or.inr (Or.inr e)))
        exact f3.set _ _ fun _ => (p6 bA).2 (Or.inl rfl)
      · rintro k (rfl | rfl | rfl | e)
        · exact Or.inl ((p6 _).2 (Or.inl rfl))
        · exact Or.inl ((p6 _).2 (Or.inr (Or.inl rfl)))
        · exact Or.inl ((p6 _).2 (Or.inr (Or.inr (Or.inl rfl))))
        · rcases hat with h | h
          · exact Or.inl ((p6 _).2 (Or.inr (Or.inr (Or.inr (h ▸ e)))))
          · rw [h] at e
            have h1 := hb.size
            have h2 := hg2.size
            have h3 : k = w2.heap.size + 1 := by simpa using e.symm
            exact Or.inr (by omega)
    have HO : Hid (∀ w1 w2, Below W.heap.size W w1 → w1.grownBy w2 (some b) → (w2.alloc (.cells #[.string (bs T)] 9)).ownsRow 0 9 1 (.slice a0 n0 c0) (TxA acc).length (strC (TxA acc)) ∧ w2.cell? ⟨bA, 0, none⟩ = some (.slice a0 n0 c0)) := fun w1 w2 hb hg2 => by
      have q1 := (hb.block _ (blk_lt p1)).trans p1
      have r1 := (hg2.block _ (blk_lt q1) (fun e => hab (by cases e; rfl))).trans q1
      refine ⟨owns_of p5 fun k e => ?_, cell_of r1 rfl⟩
      have hk := own_lt p5 e
      have hk1 := Nat.lt_of_lt_of_le hk hb.size
      rw [Below.heap_alloc _ _ _ (Nat.lt_of_lt_of_le hk1 hg2.size), hg2.block k hk1 (fun e' => hvb (by rw [e, e'])), hb.block k hk]
    clear HZ p1 p2 p3 p4 p5 p6 hinv htx htl hfk hab hmb ham hvb hva hvm hbm hTl hlen hacc e1
    generalize (acc ++ [(ms, wh)]) = ACC at *
    generalize ms.length = nn at *
    generalize strC (TxA acc) = SC at *
    generalize (TxA acc).length = N at *
    subst hn0
    go_enter Tryz.func18, Tryz.ntmps18
    go_wp2_with (first
      | (go_at_call 19; refine HW.out.mono ?_; rintro e w5 ⟨rfl, h5⟩; obtain ⟨⟨d0, d1⟩, HM⟩ := HP.out _ h5; have H5 := hide h5; clear HW HP h5)
      | (at_lookup; refine wpList_lookN rfl _ _ 44 rfl lawS Tryz.underlying44 rfl HM.out _ _ rfl hkey _ _ hcc hok ?_)
      | (at_mapUpdate; refine wpList_putN rfl _ _ _ 44 rfl lawS Tryz.underlying44 rfl HM.out _ _ n0 rfl rfl hkey hnone (by omega) (by omega) ?_; intro w6 hm6 hg6; have HM6 := hide hm6; have HG6 := hide hg6; obtain ⟨o6, d6⟩ := HO.out _ _ H5.out hg6; have HO6 := hide o6; clear HM HO hm6 hg6 o6 d0 d1)
      | (at_builtin; refine wpList_append_own_at (w := _) rfl _ _ 22 rfl 0 9 i0 _ 1 16 Tryz.underlying22 hi hz0 hz1 hz2 rfl (by decide) _ _ _ rfl HO6.out ⟨w6.heap.size, 0, none⟩ 1 1 [.string (bs T)] rfl rfl (cell_one_new _ _ _) (by simp [Value.oneCell']) (by unfold maxLen; omega) (by omega) (Nat.zero_le _) ?_; intro v7 w7 ho7 hg7 _ hat7; obtain ⟨d7, f7, H7⟩ := HU.out _ _ _ _ H5.out HM6.out HG6.out ho7 hg7 hat7; obtain ⟨a7, n7, c7, rfl⟩ := own_shape ho7; clear HU ho7 hg7 hat7))
    go_end0
    exact H7.out
theorem mk_map (t : TypeId) (w : World) : (Instr.makeMap t none).run Tryz.prog w = .ok (.map (some w.heap.size)) (w.alloc (.map #[] 0)) := rfl
end Go.Proofs.YtoahlnmhjinneaaGreatDoor

set_option linter.unusedSimpArgs false
set_option linter.unusedVariables false
namespace Go.Proofs.YtoahlnmhjinneaaGreatDoor
open Go.RowKit Go.Maps Go.Lib
variable {w w' w1 w2 W : World}
theorem laidOut : laidOutB Tryz.prog = true := by kernel_rfl
theorem row72 : (72 : TypeId) < Tryz.prog.types.size := of_decide_eq_true (by kernel_rfl)
theorem wide72 : (match Tryz.prog.underlying 72 with | some (.array _ _) | some (.struct _) => true | _ => false) = true := by rw [Tryz.underlying72]
set_option maxRecDepth 100000 in
theorem lawM : Keyed Tryz.prog 72 := Keyed.of_law (deep_law_laid laidOut (m := 2) (by omega) row72 (by kernel_rfl) wide72)
def klit (m : Mk) : Lit := .string (keyBytes [.bool m.1, .string m.2])
set_option maxRecDepth 100000 in
theorem keyType72 : Tryz.prog.keyType 72 = true := by kernel_rfl
theorem formed72 (a b : Value) : (Value.agg #[a, b]).formed Tryz.prog 72 = true := by
  have : Tryz.prog.cellsOf 72 = 2 := by kernel_rfl
  simp [Value.formed, Tryz.underlying72, this]
theorem cells4 : Tryz.prog.cellsOf 4 = 1 := by kernel_rfl
theorem cells9 : Tryz.prog.cellsOf 9 = 1 := by kernel_rfl
theorem cells72 : Tryz.prog.cellsOf 72 = 2 := by kernel_rfl
theorem keyM (m : Mk) (h : m.2.length ≤ 1000000) : keyOf Tryz.prog 72 (.agg #[.bool m.1, .string (bs m.2)]) = some (klit m) := by
  have e : (bs m.2).size = m.2.length := bs_size m.2
  have hm : (bs m.2).size ≤ maxLen := by rw [e]; unfold maxLen; omega
  obtain ⟨n, hn⟩ : ∃ n, Tryz.prog.types.size + 1 = n + 1 + 1 := by
    have h : 72 < Tryz.prog.types.size := row72
    generalize Tryz.prog.types.size = s at h ⊢
    exact ⟨s - 1, by omega⟩
  unfold keyOf
  rw [Tryz.underlying72]
  simp only [keyType72, formed72, Bool.and_self, if_true]
  rw [hn]
  simp [Program.keyLits, Tryz.underlying72, cells72, cells4, cells9, Tryz.underlying4, Tryz.underlying9, hm, Value.cells, klit]
  simp [bs]
theorem bs_inj {a b : L} (h : bs a = bs b) : a = b := by
  have := congrArg (fun x : ByteArray => x.data.toList) h
  simpa [bs] using this
theorem klit_inj {m m' : Mk} (h : m.2.length ≤ 1000000) (h' : m'.2.length ≤ 1000000) (e : klit m = klit m') : m = m' := by
  have e1 := keyM m h
  have e2 := keyM m' h'
  rw [e] at e1
  have e3 := lawM.inj e1 e2
  have f0 := congrArg (fun v : Value => match v with | .agg a => a[0]? | _ => none) e3
  have f1 := congrArg (fun v : Value => match v with | .agg a => a[1]? | _ => none) e3
  simp only [List.getElem?_toArray, List.getElem?_cons_zero, List.getElem?_cons_succ, Option.some.injEq, Value.bool.injEq, Value.string.injEq] at f0 f1
  exact Prod.ext f0 (bs_inj f1)
def kidsL (x : Br) : List (Lit × Nat) := x.kids.map fun y => (klit y.1, y.2)
def Short (b : Brs) : Prop := ∀ x ∈ b, ∀ y ∈ x.kids, y.1.2.length ≤ 1000000
theorem kid_fnd {x : Br} {m : Mk} (hm : m.2.length ≤ 1000000) (hx : ∀ y ∈ x.kids, y.1.2.length ≤ 1000000) : fnd (kidsL x) (klit m) = x.kid m := by
  unfold fnd kidsL Br.kid
  revert hx
  generalize x.kids = ks
  induction ks with
  | nil => intro _; rfl
  | cons y l ih =>
    intro hx
    have ih' := ih fun z hz => hx z (List.mem_cons_of_mem _ hz)
    rw [List.map_cons, List.find?_cons, List.find?_cons]
    by_cases e : y.1 = m
    · have e1 : (klit y.1).sameKey (klit m) = true := by rw [e]; exact WideAt.sameKey_self (lawM.key (keyM m hm))
      rw [e1, e]
      simp
    · have e1 : (klit y.1).sameKey (klit m) = false := sameKey_ne fun h => e (klit_inj (hx y (List.mem_cons_self ..)) hm h)
      have e2 : (y.1 == m) = false := by simpa using e
      rw [e1, e2]
      exact ih'
def brC (x : Br × Nat) : List Value := [.bool x.1.sg.1, .string (bs x.1.sg.2), .map (some x.2), .bool x.1.nd, .bool x.1.wh]
def brCells (xs : List (Br × Nat)) : List Value := xs.flatMap brC
theorem brCells_at : ∀ (xs : List (Br × Nat)) (k : Nat) (x : Br × Nat) (c : Nat) (u : Value), xs[k]? = some x → (brC x)[c]? = some u → (brCells xs)[k * 5 + c]? = some u
  | [], k, x, c, u, h, _ => by simp at h
  | y :: xs, 0, x, c, u, h, hc => by
    obtain rfl : y = x := by simpa using h
    have hl : c < 5 := by have := (List.getElem?_eq_some_iff.1 hc).1; simpa [brC] using this
    show (brC y ++ brCells xs)[0 * 5 + c]? = _
    rw [List.getElem?_append_left (by simp [brC]; omega)]; simpa using hc
  | y :: xs, k + 1, x, c, u, h, hc => by
    have := brCells_at xs k x c u (by simpa using h) hc
    show (brC y ++ brCells xs)[(k + 1) * 5 + c]? = _
    rw [List.getElem?_append_right (by simp [brC]; omega)]
    rw [← this]; congr 1; simp [brC]; omega
structure BR (w : World) (v : Value) (xs : List (Br × Nat)) : Prop where
  row : w.ownsRow 0 74 5 v xs.length (brCells xs)
  map : ∀ x ∈ xs, MapN w 72 x.2 (kidsL x.1)
  nd : (xs.map (·.2)).Nodup
def BOwn (v : Value) (xs : List (Br × Nat)) (k : Nat) : Prop := v.ownBlock = some k ∨ k ∈ xs.map (·.2)
theorem BR.lt {v : Value} {xs : List (Br × Nat)} (h : BR w v xs) {k : Nat} (hk : BOwn v xs k) : k < w.heap.size := by
  rcases hk with e | e
  · exact own_lt h.row e
  · obtain ⟨x, hx, rfl⟩ := List.mem_map.1 e
    exact (h.map x hx).lt
theorem BR.of {v : Value} {xs : List (Br × Nat)} (h : BR w v xs) (hb : ∀ k, BOwn v xs k → w'.heap[k]? = w.heap[k]?) : BR w' v xs :=
  ⟨owns_of h.row fun k e => hb k (Or.inl e), fun x hx => (h.map x hx).of (hb _ (Or.inr (List.mem_map_of_mem hx))), h.nd⟩
theorem BR.at {v : Value} {xs : List (Br × Nat)} {i : Nat} {x : Br × Nat} (h : BR w v xs) (hi : xs[i]? = some x) : ∃ g cap, v = .slice (some ⟨g, 0, none⟩) xs.length cap ∧ g < w.heap.size ∧ xs.length ≤ cap ∧ w.cell? ⟨g, i * 5, none⟩ = some (.bool x.1.sg.1) ∧ w.cell? ⟨g, i * 5 + 1, none⟩ = some (.string (bs x.1.sg.2)) ∧ w.cell? ⟨g, i * 5 + 2, none⟩ = some (.map (some x.2)) ∧ w.cell? ⟨g, i * 5 + 3, none⟩ = some (.bool x.1.nd) ∧ w.cell? ⟨g, i * 5 + 4, none⟩ = some (.bool x.1.wh) := by
  have hil := (List.getElem?_eq_some_iff.1 hi).1
  have hr := h.row
  rcases hr.2 with ⟨_, hz⟩ | ⟨g, cap, cur, rfl, hb, hg, hnc, _, _, _⟩
  · omega
  · have f := fun c (hc : c < 5) u hu => (hr.cellAt (i * 5 + c) (by omega)).trans (brCells_at xs i x c u hi hu)
    exact ⟨g, cap, rfl, blk_lt hg, hnc, f 0 (by omega) _ rfl, f 1 (by omega) _ rfl, f 2 (by omega) _ rfl, f 3 (by omega) _ rfl, f 4 (by omega) _ rfl⟩
structure BrI (X : Nat) (u1 u2 : Value) (F : Nat → Prop) (b : Brs) (w : World) : Prop where
  ex : ∃ v xs, w.heap[X]? = some (.cells #[v, u1, u2] 47 (0, 0)) ∧ BR w v xs ∧ xs.map (·.1) = b ∧ (∀ k, F k ↔ k = X ∨ BOwn v xs k)
  short : Short b
  few : ∀ x ∈ b, x.kids.length ≤ b.length
end Go.Proofs.YtoahlnmhjinneaaGreatDoor

set_option linter.unusedSimpArgs false
set_option linter.unusedVariables false
namespace Go.Proofs.YtoahlnmhjinneaaGreatDoor
open Go.RowKit Go.Maps Go.Lib
variable {w w' w0 w1 w2 w3 W : World} {X : Nat} {u1 u2 v : Value} {F : Nat → Prop} {b : Brs} {xs : List (Br × Nat)} {i : Nat} {m : Mk} {x : Br × Nat}
def kidF (m : Mk) (n : Nat) (x : Br × Nat) : Br × Nat := ({ x.1 with kids := x.1.kids ++ [(m, n)] }, x.2)
theorem kidF_fst (xs : List (Br × Nat)) (i : Nat) (m : Mk) (n : Nat) : (xs.modify i (kidF m n)).map (·.1) = (xs.map (·.1)).modify i fun x => { x with kids := x.kids ++ [(m, n)] } := by
  refine List.ext_getElem? fun j => ?_
  rw [List.getElem?_map, List.getElem?_modify, List.getElem?_modify, List.getElem?_map]
  cases xs[j]? with
  | none => rfl
  | some y =>
    simp only [Option.map_eq_map, Option.map_some]
    split <;> rfl
theorem kidF_snd (xs : List (Br × Nat)) (i : Nat) (m : Mk) (n : Nat) : (xs.modify i (kidF m n)).map (·.2) = xs.map (·.2) := by
  refine List.ext_getElem? fun j => ?_
  rw [List.getElem?_map, List.getElem?_modify, List.getElem?_map]
  cases xs[j]? with
  | none => rfl
  | some y =>
    simp only [Option.map_eq_map, Option.map_some]
    split <;> rfl
theorem kidF_cells (xs : List (Br × Nat)) (i : Nat) (m : Mk) (n : Nat) : brCells (xs.modify i (kidF m n)) = brCells xs := by
  have e : (xs.modify i (kidF m n)).map brC = xs.map brC := by
    refine List.ext_getElem? fun j => ?_
    rw [List.getElem?_map, List.getElem?_modify, List.getElem?_map]
    cases xs[j]? with
    | none => rfl
    | some y =>
      simp only [Option.map_eq_map, Option.map_some]
      split <;> rfl
  unfold brCells
  rw [List.flatMap_def, List.flatMap_def, e]
theorem kidF_mem {y : Br × Nat} {n : Nat} (h : y ∈ xs.modify i (kidF m n)) (hx : xs[i]? = some x) : y = kidF m n x ∨ ∃ j, j ≠ i ∧ xs[j]? = some y := by
  obtain ⟨j, hj⟩ := List.mem_iff_getElem?.1 h
  rw [List.getElem?_modify] at hj
  by_cases e : i = j
  · subst e
    rw [hx] at hj
    simp at hj
    exact Or.inl hj.symm
  · right
    refine ⟨j, fun h => e h.symm, ?_⟩
    cases hxs : xs[j]? with
    | none => rw [hxs] at hj; simp at hj
    | some z => rw [hxs] at hj; simp [e] at hj; rw [hj]
theorem nodup_ne {j : Nat} {y : Br × Nat} (h : (xs.map (·.2)).Nodup) (hi : xs[i]? = some x) (hj : xs[j]? = some y) (hne : j ≠ i) : y.2 ≠ x.2 := by
  intro e
  have h1 : (xs.map (·.2))[i]? = some x.2 := by rw [List.getElem?_map, hi]; rfl
  have h2 : (xs.map (·.2))[j]? = some y.2 := by rw [List.getElem?_map, hj]; rfl
  have hil := (List.getElem?_eq_some_iff.1 h1).1
  rw [← e, ← h2] at h1
  exact hne ((List.getElem?_inj hil h).1 h1).symm
theorem BR.put {n : Nat} {v' : Value} (h : BR w0 v xs) (hx : xs[i]? = some x) (hn : n = xs.length) (hm : MapN w1 72 x.2 (kidsL x.1 ++ [(klit m, n)])) (hg1 : w0.grownBy w1 (some x.2))
    (hr : w3.ownsRow 0 74 5 v' (n + 1) (brCells xs ++ brC ((⟨m, [], false, false⟩ : Br), w1.heap.size))) (hg3 : ((w1.drew.alloc (.map #[] 0)).alloc (.cells (brC ((⟨m, [], false, false⟩ : Br), w1.heap.size)).toArray 74)).grownBy w3 v.ownBlock) :
    BR w3 v' (xs.modify i (kidF m n) ++ [((⟨m, [], false, false⟩ : Br), w1.heap.size)]) := by
  have hxm : x ∈ xs := List.mem_of_getElem? hx
  obtain ⟨es, clk, hbx⟩ := (h.map x hxm).isMap
  have hvx := row_map h.row hbx
  have up : ∀ k, k < w0.heap.size → k ≠ x.2 → v.ownBlock ≠ some k → w3.heap[k]? = w0.heap[k]? := fun k hk h1 h2 => by
    have hk1 := Nat.lt_of_lt_of_le hk hg1.size
    rw [hg3.block k (by simp; omega) (fun e => h2 e.symm), Below.heap_alloc _ _ _ (by simp; omega), Below.heap_alloc _ _ _ (by exact hk1)]
    exact hg1.block k hk (fun e => h1 (by cases e; rfl))
  refine ⟨?_, fun y hy => ?_, ?_⟩
  · rw [List.length_append, List.length_modify, List.length_singleton, ← hn]
    have e : brCells (xs.modify i (kidF m n) ++ [((⟨m, [], false, false⟩ : Br), w1.heap.size)]) = brCells xs ++ brC ((⟨m, [], false, false⟩ : Br), w1.heap.size) := by
      rw [← kidF_cells xs i m n]
      unfold brCells
      rw [List.flatMap_append, List.flatMap_cons, List.flatMap_nil, List.append_nil]
    rw [e]
    exact hr
  · rcases List.mem_append.1 hy with hy | hy
    · rcases kidF_mem hy hx with rfl | ⟨j, hj, hyj⟩
      · have e : kidsL (kidF m n x).1 = kidsL x.1 ++ [(klit m, n)] := by unfold kidsL kidF; rw [List.map_append]; rfl
        rw [e]
        have hl := hm.lt
        refine hm.of ?_
        show w3.heap[x.2]? = w1.heap[x.2]?
        rw [hg3.block x.2 (by simp; omega) (fun e => hvx e.symm), Below.heap_alloc _ _ _ (by simp; omega), Below.heap_alloc _ _ _ (by exact hl)]
        rfl
      · have hym : y ∈ xs := List.mem_of_getElem? hyj
        have hy2 := h.map y hym
        obtain ⟨es2, clk2, hby⟩ := hy2.isMap
        exact hy2.of (up _ hy2.lt (nodup_ne h.nd hx hyj hj) (row_map h.row hby))
    · rw [List.mem_singleton] at hy
      subst hy
      have hnew := MapN.new w1.drew 72
      refine hnew.of ?_
      have hv1 : v.ownBlock ≠ some w1.heap.size := fun e => by
        have := own_lt h.row e
        have := hg1.size
        omega
      show w3.heap[w1.heap.size]? = (w1.drew.alloc (.map #[] 0)).heap[w1.drew.heap.size]?
      rw [hg3.block w1.heap.size (by simp; omega) (fun e => hv1 e.symm), Below.heap_alloc _ _ _ (by simp)]
      rfl
  · rw [List.map_append, kidF_snd, List.nodup_append]
    refine ⟨h.nd, by simp, fun a ha c hc => ?_⟩
    simp only [List.map_cons, List.map_nil, List.mem_singleton] at hc
    subst hc
    have := h.lt (k := a) (Or.inr ha)
    have := hg1.size
    omega
theorem kidB_some {k : Nat} (hb : b[i]?.bind (·.kid m) = some k) : kidB b i m = (b, k) := by unfold kidB; rw [hb]
theorem kidB_none (hb : b[i]?.bind (·.kid m) = none) : kidB b i m = (b.modify i (fun x => { x with kids := x.kids ++ [(m, b.length)] }) ++ [⟨m, [], false, false⟩], b.length) := by unfold kidB; rw [hb]
theorem kidB_short (h : Short b) (hm : m.2.length ≤ 1000000) : Short (kidB b i m).1 := by
  intro y hy z hz
  cases hb : b[i]?.bind (·.kid m) with
  | some k => rw [kidB_some hb] at hy; exact h y hy z hz
  | none =>
    rw [kidB_none hb] at hy
    rcases List.mem_append.1 hy with hy | hy
    · obtain ⟨j, hj⟩ := List.mem_iff_getElem?.1 hy
      rw [List.getElem?_modify] at hj
      cases hbj : b[j]? with
      | none => rw [hbj] at hj; simp at hj
      | some q =>
        rw [hbj] at hj
        have hq := h q (List.mem_of_getElem? hbj)
        by_cases e : i = j
        · simp [e] at hj
          subst hj
          rcases List.mem_append.1 hz with hz | hz
          · exact hq z hz
          · rw [List.mem_singleton] at hz; subst hz; exact hm
        · simp [e] at hj
          subst hj
          exact hq z hz
    · rw [List.mem_singleton] at hy
      subst hy
      simp at hz
theorem kidB_few (h : ∀ x ∈ b, x.kids.length ≤ b.length) : ∀ x ∈ (kidB b i m).1, x.kids.length ≤ (kidB b i m).1.length := by
  intro y hy
  cases hb : b[i]?.bind (·.kid m) with
  | some k => rw [kidB_some hb] at hy ⊢; exact h y hy
  | none =>
    rw [kidB_none hb] at hy ⊢
    simp only [List.length_append, List.length_modify, List.length_singleton]
    rcases List.mem_append.1 hy with hy | hy
    · obtain ⟨j, hj⟩ := List.mem_iff_getElem?.1 hy
      rw [List.getElem?_modify] at hj
      cases hbj : b[j]? with
      | none => rw [hbj] at hj; simp at hj
      | some q =>
        rw [hbj] at hj
        have hq := h q (List.mem_of_getElem? hbj)
        by_cases e : i = j
        · simp [e] at hj
          subst hj
          simp only [List.length_append, List.length_singleton]
          omega
        · simp [e] at hj
          subst hj
          omega
    · rw [List.mem_singleton] at hy
      subst hy
      simp
end Go.Proofs.YtoahlnmhjinneaaGreatDoor

set_option linter.unusedSimpArgs false
set_option linter.unusedVariables false
namespace Go.Proofs.YtoahlnmhjinneaaGreatDoor
open Go.RowKit Go.Maps Go.Lib
variable {w w' w0 w1 w2 w3 W : World} {X : Nat} {u1 u2 v : Value} {F : Nat → Prop} {b : Brs} {xs : List (Br × Nat)} {i : Nat} {m : Mk} {x : Br × Nat}
theorem info74 : (Tryz.prog.info? 74).map (fun i => (i.zero, i.size, i.bytes)) = some (some (.agg #[.bool false, .string ⟨#[]⟩, .map none, .bool false, .bool false]), 5, 40) := by kernel_rfl
def BPost (X : Nat) (u1 u2 : Value) (F : Nat → Prop) (b' : Brs) (w w' : World) : Prop := ∃ F', BrI X u1 u2 F' b' w' ∧ Fr F w w' ∧ ∀ k, F' k → F k ∨ w.heap.size ≤ k
theorem br_news (w : World) (x : Br × Nat) : ∀ j u, (brC x)[j]? = some u → (w.alloc (.cells (brC x).toArray 74)).cell? ((⟨w.heap.size, 0, none⟩ : Addr).add j) = some u := by
  intro j u hj
  have h := Below_new w (.cells (brC x).toArray 74)
  have hl : j < 5 := by have := (List.getElem?_eq_some_iff.1 hj).1; simpa [brC] using this
  have := cell_of (i := j) h (by simpa using hj)
  unfold Addr.add
  split
  · next h0 => rw [h0] at this; exact this
  · simpa using this
set_option maxHeartbeats 16000000 in
set_option maxRecDepth 100000 in
theorem kid_ok (h : BrI X u1 u2 F b w) (hi : i < b.length) (hm : m.2.length ≤ 1000) (hl : b.length ≤ 2300000000000) :
    Calls Tryz.prog 29 #[.pointer (some ⟨X, 0, none⟩), .int .i64 i, .agg #[.bool m.1, .string (bs m.2)]] w fun e w' => e = .returned (.int .i64 ((kidB b i m).2 : Nat)) ∧ BPost X u1 u2 F (kidB b i m).1 w w' := by
  obtain ⟨v, xs, p1, p2, p3, p4⟩ := h.ex
  have hxl : xs.length = b.length := by rw [← p3]; simp
  have hx : xs[i]? = some xs[i] := List.getElem?_eq_getElem (by omega)
  generalize xs[i] = x at hx
  have hbx : b[i]? = some x.1 := by rw [← p3, List.getElem?_map, hx]; rfl
  have hxm : x ∈ xs := List.mem_of_getElem? hx
  obtain ⟨g, cap, rfl, hg, hnc, g0, g1, g2, g3, g4⟩ := p2.at hx
  have hB := Below_new w (.cells #[.bool m.1, .string (bs m.2)] 72)
  have hb0 := (Below.refl w.heap.size w).alloc (Nat.le_refl _) (.cells #[.bool m.1, .string (bs m.2)] 72)
  have hkey := keyM m (by omega)
  have hfnd := kid_fnd (x := x.1) (m := m) (by omega) (h.short x.1 (List.mem_of_getElem? hbx))
  have c0 : (w.alloc (.cells #[.bool m.1, .string (bs m.2)] 72)).cell? ⟨X, 0, none⟩ = some (.slice (some ⟨g, 0, none⟩) xs.length cap) := cell_of ((hb0.block _ (blk_lt p1)).trans p1) rfl
  have c1 : (w.alloc (.cells #[.bool m.1, .string (bs m.2)] 72)).cell? ⟨g, i * 5 + 2, none⟩ = some (.map (some x.2)) := (World.cell?_of_block (hb0.block g hg)).trans g2
  have d0 : (w.alloc (.cells #[.bool m.1, .string (bs m.2)] 72)).cell? ⟨w.heap.size, 0, none⟩ = some (.bool m.1) := cell_of hB rfl
  have d1 : (w.alloc (.cells #[.bool m.1, .string (bs m.2)] 72)).cell? ⟨w.heap.size, 1, none⟩ = some (.string (bs m.2)) := cell_of hB rfl
  have HM := hide ((p2.map x hxm).of (hb0.block _ (p2.map x hxm).lt))
  have hii : (i : Int) < (xs.length : Int) := by omega
  cases hk : x.1.kid m with
  | some k =>
    rw [kidB_some (by rw [hbx]; exact hk)]
    have hcc : (fnd (kidsL x.1) (klit m)).getD 0 = k := by rw [hfnd, hk]; rfl
    have hok : (fnd (kidsL x.1) (klit m)).isSome = true := by rw [hfnd, hk]; rfl
    have HE : Hid (BPost X u1 u2 F b w (w.alloc (.cells #[.bool m.1, .string (bs m.2)] 72))) := hide ⟨F, ⟨⟨_, xs, (hb0.block _ (blk_lt p1)).trans p1, p2.of fun k hk => hb0.block k (p2.lt hk), p3, p4⟩, h.short, h.few⟩, Fr.below hb0, fun k hk => Or.inl hk⟩
    clear h p1 p2 p4 hg g0 g1 g2 g3 g4 hB hb0 hbx hxm hfnd hk hx hnc
    generalize bs m.2 = T at *
    generalize m.1 = d at *
    generalize xs.length = n at *
    go_enter Tryz.func29, Tryz.ntmps29
    go_wp2_with (at_lookup; refine wpList_lookN rfl _ _ 70 rfl lawM Tryz.underlying70 rfl HM.out _ _ rfl hkey _ _ hcc hok ?_)
    go_ret
    exact ⟨rfl, HE.out⟩
  | none =>
    rw [kidB_none (by rw [hbx]; exact hk)]
    have hnone : fnd (kidsL x.1) (klit m) = none := by rw [hfnd, hk]
    have hcc : (fnd (kidsL x.1) (klit m)).getD 0 = 0 := by rw [hnone]; rfl
    have hok : (fnd (kidsL x.1) (klit m)).isSome = false := by rw [hnone]; rfl
    obtain ⟨i0, hi0, hz0, hz1, hz2⟩ := info_parts info74
    obtain ⟨es, clk, hbm⟩ := (p2.map x hxm).isMap
    have hX2 : X ≠ x.2 := fun e => by rw [e, hbm] at p1; cases p1
    have hX1 := (p2.map x hxm).lt
    have hvX := row_box p2.row p1 (by decide)
    have hv2 := row_map p2.row hbm
    have hXl := blk_lt p1
    have p2' : BR (w.alloc (.cells #[.bool m.1, .string (bs m.2)] 72)) (.slice (some ⟨g, 0, none⟩) xs.length cap) xs := p2.of fun k hk => hb0.block k (p2.lt hk)
    have p1' := (hb0.block _ hXl).trans p1
    have hkl : (kidsL x.1).length < 4611686018427387904 := by
      have := h.few x.1 (List.mem_of_getElem? hbx)
      unfold kidsL
      rw [List.length_map]
      omega
    have HU : Hid (∀ w1, (w.alloc (.cells #[.bool m.1, .string (bs m.2)] 72)).grownBy w1 (some x.2) → (w1.cell? ⟨X, 0, none⟩ = some (.slice (some ⟨g, 0, none⟩) xs.length cap) ∧ w1.cell? ⟨w.heap.size, 0, none⟩ = some (.bool m.1) ∧ w1.cell? ⟨w.heap.size, 1, none⟩ = some (.string (bs m.2))) ∧
        Hid (((w1.drew.alloc (.map #[] 0)).alloc (.cells #[.bool m.1, .string (bs m.2), .map (some w1.heap.size), .bool false, .bool false] 74)).ownsRow 0 74 5 (.slice (some ⟨g, 0, none⟩) xs.length cap) xs.length (brCells xs) ∧ ∀ j u, [Value.bool m.1, .string (bs m.2), .map (some w1.heap.size), .bool false, .bool false][j]? = some u → ((w1.drew.alloc (.map #[] 0)).alloc (.cells #[.bool m.1, .string (bs m.2), .map (some w1.heap.size), .bool false, .bool false] 74)).cell? ((⟨w1.heap.size + 1, 0, none⟩ : Addr).add j) = some u)) := fun w1 hg1 => by
      have q1 := (hg1.block _ (blk_lt p1') (fun e => hX2 (Option.some.inj e))).trans p1'
      have q2 := (hg1.block _ (blk_lt hB) (fun e => by have := Option.some.inj e; omega)).trans hB
      have hnw := br_news (w1.drew.alloc (.map #[] 0)) ((⟨m, [], false, false⟩ : Br), w1.heap.size)
      rw [World.size_alloc] at hnw
      refine ⟨⟨cell_of q1 rfl, cell_of q2 rfl, cell_of q2 rfl⟩, hide ⟨owns_of p2'.row fun k e => ?_, hnw⟩⟩
      have hk := own_lt p2'.row e
      have hk1 := Nat.lt_of_lt_of_le hk hg1.size
      rw [Below.heap_alloc _ _ _ (by simp; omega), Below.heap_alloc _ _ _ (by exact hk1)]
      exact hg1.block k hk (fun e' => hv2 (by rw [e, e']))
    have HV : Hid (∀ w1 w3 v', MapN w1 72 x.2 (kidsL x.1 ++ [(klit m, xs.length)]) → (w.alloc (.cells #[.bool m.1, .string (bs m.2)] 72)).grownBy w1 (some x.2) → w3.ownsRow 0 74 5 v' (xs.length + 1) (brCells xs ++ [.bool m.1, .string (bs m.2), .map (some w1.heap.size), .bool false, .bool false]) →
        ((w1.drew.alloc (.map #[] 0)).alloc (.cells #[.bool m.1, .string (bs m.2), .map (some w1.heap.size), .bool false, .bool false] 74)).grownBy w3 (Value.slice (some ⟨g, 0, none⟩) xs.length cap).ownBlock → (v'.ownBlock = (Value.slice (some ⟨g, 0, none⟩) xs.length cap).ownBlock ∨ v'.ownBlock = some ((w1.drew.alloc (.map #[] 0)).alloc (.cells #[.bool m.1, .string (bs m.2), .map (some w1.heap.size), .bool false, .bool false] 74)).heap.size) →
        w3.cell? ⟨X, 0, none⟩ = some (.slice (some ⟨g, 0, none⟩) xs.length cap) ∧ w3.frozen? ⟨X, 0, none⟩ = false ∧ Hid (BPost X u1 u2 F (b.modify i (fun x => { x with kids := x.kids ++ [(m, b.length)] }) ++ [⟨m, [], false, false⟩]) w (w3.setCell ⟨X, 0, none⟩ v'))) := fun w1 w3 v' hm1 hg1 ho3 hg3 hat => by
      have q1 := (hg1.block _ (blk_lt p1') (fun e => hX2 (Option.some.inj e))).trans p1'
      have hX1' := blk_lt q1
      have r1 : w3.heap[X]? = some (.cells #[.slice (some ⟨g, 0, none⟩) xs.length cap, u1, u2] 47 (0, 0)) := by
        rw [hg3.block X (by simp; omega) (fun e => hvX e.symm), Below.heap_alloc _ _ _ (by simp; omega), Below.heap_alloc _ _ _ (by exact hX1')]
        exact q1
      have hbr := BR.put (m := m) p2' hx rfl hm1 hg1 ho3 hg3
      have hvx : v'.ownBlock ≠ some X := row_box ho3 r1 (by decide)
      have s1 := set_of (i := 0) r1 v'
      have hXn : X ∉ xs.map (·.2) := fun hmem => by
        obtain ⟨y, hy, e⟩ := List.mem_map.1 hmem
        obtain ⟨es', clk', hby⟩ := (p2.map y hy).isMap
        rw [e, p1] at hby
        cases hby
      have hmem : ∀ k, k ∈ (xs.modify i (kidF m xs.length) ++ [((⟨m, [], false, false⟩ : Br), w1.heap.size)]).map (·.2) ↔ (k ∈ xs.map (·.2) ∨ k = w1.heap.size) := fun k => by
        rw [List.map_append, kidF_snd]; simp
      have hs1 := hg1.size
      have hs0 := hb0.size
      have hbs : (w.alloc (.cells #[.bool m.1, .string (bs m.2)] 72)).heap.size = w.heap.size + 1 := by simp
      refine ⟨cell_of r1 rfl, free_of r1, hide ⟨fun k => k = X ∨ BOwn v' (xs.modify i (kidF m xs.length) ++ [((⟨m, [], false, false⟩ : Br), w1.heap.size)]) k, ⟨⟨v', _, s1, hbr.of fun k hk => Below.heap_setCell _ _ _ _ (fun e => ?_), ?_, fun k => Iff.rfl⟩, ?_, ?_⟩, ?_, ?_⟩⟩
      · have e' : k = X := e
        rcases hk with h1 | h1
        · exact hvx (by rw [h1, e'])
        · rcases (hmem k).1 h1 with h2 | h2
          · exact hXn (e' ▸ h2)
          · rw [h2] at e'; omega
      · rw [List.map_append, kidF_fst, p3, hxl]; rfl
      · have := kidB_short (b := b) (i := i) (m := m) h.short (by omega)
        rw [kidB_none (by rw [hbx]; exact hk)] at this
        exact this
      · have := kidB_few (b := b) (i := i) (m := m) h.few
        rw [kidB_none (by rw [hbx]; exact hk)] at this
        exact this
      · have f1 : Fr F w w1 := (Fr.below hb0).gr hg1 fun k e _ => by cases e; exact (p4 _).2 (Or.inr (Or.inr (List.mem_map_of_mem hxm)))
        have f2 : Fr F w w3 := ((f1.drewN 1).alloc _ |>.alloc _).gr hg3 fun k e _ => (p4 k).2 (Or.inr (Or.inl e))
        exact f2.set _ _ fun _ => (p4 X).2 (Or.inl rfl)
      · rintro k (rfl | e | e)
        · exact Or.inl ((p4 _).2 (Or.inl rfl))
        · rcases hat with h1 | h1
          · exact Or.inl ((p4 _).2 (Or.inr (Or.inl (h1 ▸ e))))
          · rw [h1] at e
            have : k = w1.heap.size + 1 + 1 := by simpa using e.symm
            exact Or.inr (by omega)
        · rcases (hmem k).1 e with h2 | h2
          · exact Or.inl ((p4 _).2 (Or.inr (Or.inr h2)))
          · exact Or.inr (by omega)
    have hbl : b.length = xs.length := hxl.symm
    rw [hbl] at HV hl ⊢
    clear h p1 p2 p4 hg g0 g1 g2 g3 g4 hb0 hbx hxm hfnd hk hx hnc p1' p2' hbm hX2 hX1 hvX hv2 hxl hbl hB
    generalize (b.modify i (fun x => { x with kids := x.kids ++ [(m, xs.length)] }) ++ [⟨m, [], false, false⟩]) = B2 at *
    generalize brCells xs = BC at *
    generalize bs m.2 = T at *
    generalize m.1 = d at *
    generalize xs.length = n at *
    have hmm := mk_map
    go_enter Tryz.func29, Tryz.ntmps29
    go_wp2_with (first
      | (at_lookup; refine wpList_lookN rfl _ _ 70 rfl lawM Tryz.underlying70 rfl HM.out _ _ rfl hkey _ _ hcc hok ?_)
      | (at_mapUpdate; refine wpList_putN rfl _ _ _ 70 rfl lawM Tryz.underlying70 rfl HM.out _ _ n rfl rfl hkey hnone hkl (by omega) ?_; intro w6 hm6 hg6; have HM6 := hide hm6; have HG6 := hide hg6; obtain ⟨⟨k0, k1, k2⟩, HO6⟩ := HU.out _ hg6; clear HM HU hm6 hg6 c0 c1 d0 d1))
    have x0a : ∀ o, (w6.alloc o).cell? ⟨X, 0, none⟩ = some (.slice (some ⟨g, 0, none⟩) n cap) := fun o => cell_alloc o k0
    have x1a : ∀ o, (w6.alloc o).cell? ⟨w.heap.size, 0, none⟩ = some (.bool d) := fun o => cell_alloc o k1
    have x2a : ∀ o, (w6.alloc o).cell? ⟨w.heap.size, 1, none⟩ = some (.string T) := fun o => cell_alloc o k2
    have x0b : ∀ o o', ((w6.alloc o).alloc o').cell? ⟨X, 0, none⟩ = some (.slice (some ⟨g, 0, none⟩) n cap) := fun o o' => cell_alloc o' (x0a o)
    have x1b : ∀ o o', ((w6.alloc o).alloc o').cell? ⟨w.heap.size, 0, none⟩ = some (.bool d) := fun o o' => cell_alloc o' (x1a o)
    have x2b : ∀ o o', ((w6.alloc o).alloc o').cell? ⟨w.heap.size, 1, none⟩ = some (.string T) := fun o o' => cell_alloc o' (x2a o)
    go_region_law
      (first | (
        refine step_own_at rfl (.tmp 35) (.tmp 39) 42 rfl 74 i0 _ 5 40 Tryz.underlying42 hi0 hz0 hz1 hz2 rfl (by decide) (.slice (some ⟨g, 0, none⟩) n cap) n BC (by simp [Act.eval, Act.put]) HO6.out.1 ⟨w6.heap.size + 1, 0, none⟩ 1 1 [.bool d, .string T, .map (some w6.heap.size), .bool false, .bool false] (by simp [Act.eval, Act.put]) rfl HO6.out.2 (by simp [Value.oneCell']) (by unfold maxLen; omega) (by omega) ?_
        intro v7 w7 ho hg hat
        obtain ⟨a7, n7, c7, rfl⟩ := own_shape ho
        obtain ⟨x7, f7, H7⟩ := HV.out _ _ _ HM6.out HG6.out ho hg hat
        clear ho hg hat))
    all_goals
      go_wp2
      go_ret
      exact ⟨rfl, H7.out⟩
end Go.Proofs.YtoahlnmhjinneaaGreatDoor

set_option linter.unusedSimpArgs false
set_option linter.unusedVariables false
namespace Go.Proofs.YtoahlnmhjinneaaGreatDoor
open Go.RowKit Go.Maps Go.Lib
variable {w w' w0 w1 w2 w3 W wr : World} {X : Nat} {u1 u2 v : Value} {F : Nat → Prop} {b : Brs} {xs : List (Br × Nat)} {i j : Nat} {m : Mk} {x : Br × Nat}
theorem growTo_app : ∀ (l : List Mk) (b : Brs) (i : Nat) (m : Mk), growTo b i (l ++ [m]) = kidB (growTo b i l).1 (growTo b i l).2 m
  | [], b, i, m => by simp [growTo]
  | n :: l, b, i, m => by simp only [List.cons_append, growTo]; exact growTo_app l _ _ m
theorem test_len {ms : List Mk} (h : m ∈ ms) : m.2.length ≤ (bareT ms).length := by
  induction ms with
  | nil => simp at h
  | cons y l ih =>
    have e : bareT (y :: l) = slashM y ++ bareT l := by unfold bareT; rw [List.flatMap_cons]
    rw [e, List.length_append]
    rcases List.mem_cons.1 h with rfl | h
    · have h1 : m.2.length ≤ (slashM m).length := by
        unfold slashM
        rw [List.length_append]
        split <;> split <;> simp_all <;> omega
      omega
    · have := ih h
      omega
def endF (wh : Bool) (x : Br × Nat) : Br × Nat := ({ x.1 with nd := true, wh := x.1.wh || wh }, x.2)
theorem endF_fst (xs : List (Br × Nat)) (i : Nat) (wh : Bool) : (xs.modify i (endF wh)).map (·.1) = (xs.map (·.1)).modify i fun x => { x with nd := true, wh := x.wh || wh } := by
  refine List.ext_getElem? fun j => ?_
  rw [List.getElem?_map, List.getElem?_modify, List.getElem?_modify, List.getElem?_map]
  cases xs[j]? with
  | none => rfl
  | some y =>
    simp only [Option.map_eq_map, Option.map_some]
    split <;> rfl
theorem endF_snd (xs : List (Br × Nat)) (i : Nat) (wh : Bool) : (xs.modify i (endF wh)).map (·.2) = xs.map (·.2) := by
  refine List.ext_getElem? fun j => ?_
  rw [List.getElem?_map, List.getElem?_modify, List.getElem?_map]
  cases xs[j]? with
  | none => rfl
  | some y =>
    simp only [Option.map_eq_map, Option.map_some]
    split <;> rfl
theorem endF_cells : ∀ (xs : List (Br × Nat)) (i : Nat) (x : Br × Nat) (wh : Bool), xs[i]? = some x → ((brCells xs).set (i * 5 + 3) (.bool true)).set (i * 5 + 4) (.bool (x.1.wh || wh)) = brCells (xs.modify i (endF wh))
  | [], i, x, wh, h => by simp at h
  | y :: xs, 0, x, wh, h => by
    obtain rfl : y = x := by simpa using h
    rfl
  | y :: xs, i + 1, x, wh, h => by
    have ih := endF_cells xs i x wh (by simpa using h)
    have e : (y :: xs).modify (i + 1) (endF wh) = y :: xs.modify i (endF wh) := by simp
    rw [e]
    show ((brC y ++ brCells xs).set ((i + 1) * 5 + 3) _).set ((i + 1) * 5 + 4) _ = brC y ++ brCells (xs.modify i (endF wh))
    rw [← ih, List.set_append_right _ _ (by simp [brC]; omega), List.set_append_right _ _ (by simp [brC]; omega)]
    congr 2
    · congr 1
      simp [brC]; omega
    · simp [brC]; omega
theorem BrI.fin {g n cap : Nat} {wh : Bool} (p1 : w.heap[X]? = some (.cells #[.slice (some ⟨g, 0, none⟩) n cap, u1, u2] 47 (0, 0))) (p2 : BR w (.slice (some ⟨g, 0, none⟩) n cap) xs) (p4 : ∀ k, F k ↔ k = X ∨ BOwn (.slice (some ⟨g, 0, none⟩) n cap) xs k) (hx : xs[i]? = some x) (hn : n = xs.length) (hs : Short (xs.map (·.1))) (hf : ∀ y ∈ xs.map (·.1), y.kids.length ≤ (xs.map (·.1)).length) :
    BrI X u1 u2 F ((xs.map (·.1)).modify i fun x => { x with nd := true, wh := x.wh || wh }) ((w.setCell ⟨g, i * 5 + 3, none⟩ (.bool true)).setCell ⟨g, i * 5 + 4, none⟩ (.bool (x.1.wh || wh))) ∧ Fr F w ((w.setCell ⟨g, i * 5 + 3, none⟩ (.bool true)).setCell ⟨g, i * 5 + 4, none⟩ (.bool (x.1.wh || wh))) := by
  have hgX : X ≠ g := fun e => row_box p2.row p1 (by decide) (by rw [e]; rfl)
  have hFg : F g := (p4 g).2 (Or.inr (Or.inl rfl))
  have other : ∀ k, k ≠ g → ((w.setCell ⟨g, i * 5 + 3, none⟩ (.bool true)).setCell ⟨g, i * 5 + 4, none⟩ (.bool (x.1.wh || wh))).heap[k]? = w.heap[k]? := fun k hk => by
    rw [Below.heap_setCell _ _ _ _ hk, Below.heap_setCell _ _ _ _ hk]
  have r := p2.row
  rw [← hn] at r
  have r1 := (r.stored (i * 5 + 3) (.bool true)).1
  have r2 := (r1.stored (i * 5 + 4) (.bool (x.1.wh || wh))).1
  rw [endF_cells xs i x wh hx] at r2
  have hmap : ∀ y, y ∈ xs.modify i (endF wh) → ∃ z ∈ xs, y.2 = z.2 ∧ y.1.kids = z.1.kids := fun y hy => by
    obtain ⟨j, hj⟩ := List.mem_iff_getElem?.1 hy
    rw [List.getElem?_modify] at hj
    cases hxs : xs[j]? with
    | none => rw [hxs] at hj; simp at hj
    | some z =>
      rw [hxs] at hj
      have hz := List.mem_of_getElem? hxs
      by_cases e : i = j
      · simp [e] at hj; subst hj; exact ⟨z, hz, rfl, rfl⟩
      · simp [e] at hj; subst hj; exact ⟨z, hz, rfl, rfl⟩
  have hbr : BR ((w.setCell ⟨g, i * 5 + 3, none⟩ (.bool true)).setCell ⟨g, i * 5 + 4, none⟩ (.bool (x.1.wh || wh))) (.slice (some ⟨g, 0, none⟩) n cap) (xs.modify i (endF wh)) := by
    refine ⟨by rw [List.length_modify, ← hn]; exact r2, fun y hy => ?_, by rw [endF_snd]; exact p2.nd⟩
    obtain ⟨z, hz, e1, e2⟩ := hmap y hy
    have e3 : kidsL y.1 = kidsL z.1 := by unfold kidsL; rw [e2]
    rw [e1, e3]
    have hm := p2.map z hz
    obtain ⟨es, clk, hbz⟩ := hm.isMap
    refine hm.of (other _ fun e => ?_)
    exact row_map p2.row hbz (by rw [e]; rfl)
  refine ⟨⟨⟨_, xs.modify i (endF wh), (other X hgX).trans p1, hbr, endF_fst xs i wh, fun k => ?_⟩, ?_, ?_⟩, ((Fr.refl F w).set _ _ fun _ => hFg).set _ _ fun _ => hFg⟩
  · rw [p4 k]
    unfold BOwn
    rw [endF_snd]
  · rw [← endF_fst]
    intro y hy z hz
    obtain ⟨y', hy', rfl⟩ := List.mem_map.1 hy
    obtain ⟨q, hq, -, e2⟩ := hmap y' hy'
    rw [e2] at hz
    exact hs q.1 (List.mem_map_of_mem hq) z hz
  · rw [← endF_fst]
    intro y hy
    obtain ⟨y', hy', rfl⟩ := List.mem_map.1 hy
    obtain ⟨q, hq, -, e2⟩ := hmap y' hy'
    rw [e2]
    have := hf q.1 (List.mem_map_of_mem hq)
    simpa using this
end Go.Proofs.YtoahlnmhjinneaaGreatDoor

set_option linter.unusedSimpArgs false
set_option linter.unusedVariables false
namespace Go.Proofs.YtoahlnmhjinneaaGreatDoor
open Go.RowKit Go.Maps Go.Lib
variable {w w' w0 w1 w2 w3 W wr : World} {X : Nat} {u1 u2 v : Value} {F : Nat → Prop} {b : Brs} {xs : List (Br × Nat)} {i j : Nat} {m : Mk} {x : Br × Nat} {acc : List Np}
structure GI (X : Nat) (u1 u2 : Value) (F : Nat → Prop) (acc : List Np) (w : World) : Prop where
  br : BrI X u1 u2 F (growAll newB acc) w
  len : (growAll newB acc).length ≤ 1 + 1000 * acc.length
  wf : WfB (growAll newB acc)
theorem BrI.below (h : BrI X u1 u2 F b w) (hb : Below w.heap.size w w') : BrI X u1 u2 F b w' := by
  obtain ⟨v, xs, p1, p2, p3, p4⟩ := h.ex
  exact ⟨⟨v, xs, (hb.block _ (blk_lt p1)).trans p1, p2.of fun k hk => hb.block k (p2.lt hk), p3, p4⟩, h.short, h.few⟩
theorem BrI.lt (h : BrI X u1 u2 F b w) {k : Nat} (hk : F k) : k < w.heap.size := by
  obtain ⟨v, xs, p1, p2, p3, p4⟩ := h.ex
  rcases (p4 k).1 hk with rfl | h
  · exact blk_lt p1
  · exact p2.lt h
theorem GI.ok : InvOK (GI X u1 u2) := ⟨fun F acc W W' h hb => ⟨h.br.below hb, h.len, h.wf⟩, fun F acc W k h hk => h.br.lt hk⟩
def MidG (X : Nat) (u1 u2 : Value) (F : Nat → Prop) (W : World) (b : Brs) (ms : List Mk) (i : Nat) (wr : World) : Prop := ∃ F', BrI X u1 u2 F' (growTo b 0 (ms.take i)).1 wr ∧ Fr F W wr ∧ ∀ k, F' k → F k ∨ W.heap.size ≤ k
def atG (b : Brs) (ms : List Mk) (i : Nat) : Nat := (growTo b 0 (ms.take i)).2
theorem grow_round {ai : Option Addr} {n cap : Nat} {ms : List Mk} (hwf : WfB b) (hbl : b.length ≤ 2200000000000) (hr : MkR W (.slice ai n cap) ms) (hap : ∀ k, (Value.slice ai n cap).ownBlock = some k → ¬ F k) (hlen : (bareT ms).length ≤ 1000) (hi : i < ms.length) (M : MidG X u1 u2 F W b ms i wr) :
    ∃ g d T pi pn pc, ai = some ⟨g, 0, none⟩ ∧ (wr.cell? ⟨g, i * 3, none⟩ = some (.bool d) ∧ wr.cell? ⟨g, i * 3 + 1, none⟩ = some (.string T) ∧ wr.cell? ⟨g, i * 3 + 2, none⟩ = some (.slice pi pn pc)) ∧ ((wr.alloc (.cells (aS d T (.slice pi pn pc)) 79)).cell? ⟨wr.heap.size, 0, none⟩ = some (.bool d) ∧ (wr.alloc (.cells (aS d T (.slice pi pn pc)) 79)).cell? ⟨wr.heap.size, 1, none⟩ = some (.string T)) ∧
      Hid (Calls Tryz.prog 29 #[.pointer (some ⟨X, 0, none⟩), .int .i64 (atG b ms i : Nat), .agg #[.bool d, .string T]] (wr.alloc (.cells (aS d T (.slice pi pn pc)) 79)) fun e w' => e = .returned (.int .i64 (atG b ms (i + 1) : Nat)) ∧ Hid (MidG X u1 u2 F W b ms (i + 1) w')) := by
  obtain ⟨F', m1, m2, m3⟩ := M
  have hx : ms[i]? = some ms[i] := List.getElem?_eq_getElem hi
  have hml := test_len (List.getElem_mem hi)
  have htk : ms.take (i + 1) = ms.take i ++ [ms[i]] := List.take_succ_eq_append_getElem hi
  obtain ⟨ai', cap', e, hn, hrr⟩ := hr.fr m2 hap
  cases e
  obtain ⟨g, pi, pn, pc, e, hg, a0, a1, a2⟩ := hrr i _ hx
  generalize ms[i] = m at *
  have hB := Below_new wr (.cells (aS m.1 (bs m.2) (.slice pi pn pc)) 79)
  have hb0 := (Below.refl wr.heap.size wr).alloc (Nat.le_refl _) (.cells (aS m.1 (bs m.2) (.slice pi pn pc)) 79)
  obtain ⟨g1, g2, g3, g4⟩ := growTo_wf (ms.take i) hwf.1 hwf
  have hmn : ms.length ≤ 1000 := Nat.le_trans (bareT_len ms) hlen
  have htl : (ms.take i).length ≤ ms.length := by simp; omega
  refine ⟨g, m.1, bs m.2, pi, pn, pc, e, ⟨a0, a1, a2⟩, ⟨(cells3 hB).1, (cells3 hB).2.1⟩, hide ?_⟩
  unfold atG MidG
  rw [htk, growTo_app]
  refine (kid_ok (m1.below hb0) g2 (by omega) (by omega)).mono ?_
  rintro e w' ⟨h1, F2, k1, k2, k3⟩
  refine ⟨h1, hide ⟨F2, k1, (m2.on hb0).trans k2 fun k hk hF => ?_, fun k hk => ?_⟩⟩
  · rcases m3 k hF with h | h
    · exact h
    · omega
  · rcases k3 k hk with h | h
    · exact m3 k h
    · have := (m2.on hb0).size
      exact Or.inr (by omega)
theorem grow_end {ms : List Mk} {wh : Bool} (hw : WfB b) (hnw : nowhere ms = false) (hacc : b = growAll newB acc) (hl : b.length ≤ 1 + 1000 * acc.length) (hlen : (bareT ms).length ≤ 1000) (M : MidG X u1 u2 F W b ms ms.length wr) :
    ∃ g n cap c, wr.cell? ⟨X, 0, none⟩ = some (.slice (some ⟨g, 0, none⟩) n cap) ∧ ((atG b ms ms.length : Nat) : Int) < (n : Int) ∧ wr.frozen? ⟨g, atG b ms ms.length * 5 + 3, none⟩ = false ∧ (∃ c0, wr.cell? ⟨g, atG b ms ms.length * 5 + 3, none⟩ = some (.bool c0)) ∧ (wr.setCell ⟨g, atG b ms ms.length * 5 + 3, none⟩ (.bool true)).cell? ⟨g, atG b ms ms.length * 5 + 4, none⟩ = some (.bool c) ∧ (wr.setCell ⟨g, atG b ms ms.length * 5 + 3, none⟩ (.bool true)).frozen? ⟨g, atG b ms ms.length * 5 + 4, none⟩ = false ∧
      Hid (TkPost (GI X u1 u2) F (acc ++ [(ms, wh)]) W (.returned (.tuple #[])) ((wr.setCell ⟨g, atG b ms ms.length * 5 + 3, none⟩ (.bool true)).setCell ⟨g, atG b ms ms.length * 5 + 4, none⟩ (.bool (c || wh)))) := by
  obtain ⟨F', m1, m2, m3⟩ := M
  rw [List.take_length] at m1
  have hat : atG b ms ms.length = (growTo b 0 ms).2 := by unfold atG; rw [List.take_length]
  obtain ⟨g1, g2, g3, g4⟩ := growTo_wf ms hw.1 hw
  obtain ⟨v, xs, p1, p2, p3, p4⟩ := m1.ex
  rw [← hat] at g2
  generalize atG b ms ms.length = k at *
  have hxl : xs.length = (growTo b 0 ms).1.length := by rw [← p3]; simp
  have hx : xs[k]? = some xs[k] := List.getElem?_eq_getElem (by omega)
  generalize xs[k] = x at hx
  obtain ⟨g, cap, rfl, hg, hnc, c0, c1, c2, c3, c4⟩ := p2.at hx
  have hs := m1.short
  have hf := m1.few
  rw [← p3] at hs hf
  obtain ⟨q1, q2⟩ := BrI.fin (wh := wh) p1 p2 p4 hx rfl hs hf
  have hga : growAll newB (acc ++ [(ms, wh)]) = (growTo b 0 ms).1.modify k fun x => { x with nd := true, wh := x.wh || wh } := by
    rw [growAll_append, ← hacc]
    unfold growAll growB
    rw [List.foldl_cons, List.foldl_nil, if_neg (by rw [hnw]; decide), hat]
  have hgb : ∃ cur, wr.heap[g]? = some (.cells cur 74 (0, 0)) := by
    rcases p2.row.2 with ⟨h, _⟩ | ⟨g', cap', cur, h, _, hgg, _⟩
    · cases h
    · cases h; exact ⟨cur, hgg⟩
  obtain ⟨cur, hgb⟩ := hgb
  have hgs := set_of (i := k * 5 + 3) hgb (.bool true)
  have hbl := bareT_len ms
  refine ⟨g, xs.length, cap, x.1.wh, cell_of p1 rfl, by omega, free_of hgb, ⟨_, c3⟩, ?_, free_of hgs, hide ⟨rfl, F', ⟨?_, ?_, ?_⟩, m2.trans q2 fun k' hk' hF => ?_, m3⟩⟩
  · rw [← c4]
    exact World.cell?_setCell_other _ _ _ _ (by intro e; injection e with _ e; omega)
  · rw [hga, ← p3]
    exact q1
  · rw [hga, List.length_modify, List.length_append, List.length_singleton]
    omega
  · rw [growAll_append, ← hacc]
    exact (growAll_wf [(ms, wh)] hw).1
  · rcases m3 k' hF with h | h
    · exact h
    · omega
end Go.Proofs.YtoahlnmhjinneaaGreatDoor
