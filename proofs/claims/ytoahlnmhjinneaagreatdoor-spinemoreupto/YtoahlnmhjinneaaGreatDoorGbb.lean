import Derived.RangeFuncOwn
import Derived.Sort.MapsRangeIn
import Derived.Shelf.SlIterI.Keys
import Derived.RangeFuncFrom
import Derived.Maps.OwnIn
import Derived.Shelf.SlIter.Collect
import Derived.Lib.SlKeysI
import Derived.Lib.SlicesCompact
import Derived.Deep.MidRow
import Derived.Laws.Rows
import Derived.Lib.AppendStr
import Derived.Lib.RuneBytes
import Derived.Test.YtoahlnmhjinneaaGreatDoorGax
import Derived.Test.YtoahlnmhjinneaaGreatDoorGba
import Derived.Test.YtoahlnmhjinneaaGreatDoorGaq
import Derived.Test.YtoahlnmhjinneaaGreatDoorGad
set_option linter.unusedVariables false
set_option linter.unusedSimpArgs false
set_option linter.unusedSimpArgs false
set_option linter.unusedVariables false
namespace Go.Proofs.YtoahlnmhjinneaaGreatDoor
open Go.RowKit Go.Maps Go.Lib
variable {kv : List (Lit × Nat)} {left : Lit → Bool} {kl : Lit} {n : Nat}
def valsN (kv : List (Lit × Nat)) : List Int := kv.map fun p => (p.2 : Int)
theorem left_step : ∀ (kv : List (Lit × Nat)), (kv.map (·.1)).Nodup → WideAt.IsKeyLit kl → left kl = true → fnd kv kl = some n → (valsN (kv.filter fun p => !(left p.1 && !p.1.sameKey kl))).Perm (valsN (kv.filter fun p => !left p.1) ++ [(n : Int)])
  | [], _, _, _, hf => by cases hf
  | p :: kv, hnd, hk, hl, hf => by
    rw [List.map_cons, List.nodup_cons] at hnd
    by_cases e : p.1 = kl
    · have e1 : p.1.sameKey kl = true := by rw [e]; exact WideAt.sameKey_self hk
      have hn : p.2 = n := by
        unfold fnd at hf
        rw [List.find?_cons, e1] at hf
        simpa using hf
      have hsame : (kv.filter fun p => !(left p.1 && !p.1.sameKey kl)) = kv.filter fun p => !left p.1 := by
        refine List.filter_congr fun q hq => ?_
        have : q.1.sameKey kl = false := sameKey_ne fun h => hnd.1 (by rw [e, ← h]; exact List.mem_map_of_mem hq)
        rw [this]
        simp
      rw [List.filter_cons_of_pos (by rw [e1]; simp), List.filter_cons_of_neg (by rw [e, hl]; simp), hsame]
      unfold valsN
      rw [List.map_cons, hn]
      exact List.perm_append_comm (l₁ := [(n : Int)])
    · have e1 : p.1.sameKey kl = false := sameKey_ne e
      have hf' : fnd kv kl = some n := by
        unfold fnd at hf ⊢
        rw [List.find?_cons, e1] at hf
        exact hf
      have ih := left_step kv hnd.2 hk hl hf'
      by_cases h2 : left p.1 = true
      · rw [List.filter_cons_of_neg (by rw [e1, h2]; simp), List.filter_cons_of_neg (by rw [h2]; simp)]
        exact ih
      · rw [List.filter_cons_of_pos (by rw [e1]; simp [h2]), List.filter_cons_of_pos (by simp [h2])]
        unfold valsN at ih ⊢
        rw [List.map_cons, List.map_cons, List.cons_append]
        exact ih.cons _
set_option maxRecDepth 100000 in
set_option maxHeartbeats 2000000 in
theorem values1 (F : Fence) (n : Nat) (h83 : F.fn 83) (hro : F.round = none) (hn : 1 ≤ n) (l Bm b : Nat) (kv : List (Lit × Nat)) (hnd : (kv.map (·.1)).Nodup) (hkk : ∀ p ∈ kv, WideAt.IsKeyLit p.1) (J Jx : List Int → World → Prop)
    (hY : ∀ pre x W, J pre W → pre.length < kv.length → YieldAt F (n - 1) Tryz.prog l #[.int .i64 x] W fun e W' => (e = .returned (.bool true) ∧ J (pre ++ [x]) W' ∧ KeepsWalks W W') ∨ (e = .returned (.bool false) ∧ Jx (pre ++ [x]) W'))
    (W : World) (hJ : AbidesFrom W.heap.size J) (hm : W.cell? ⟨Bm, 0, none⟩ = some (.map (some b))) (hM : MapN W 72 b kv) (h0 : J [] W) :
    CallsIn F n Tryz.prog 83 #[.func (.yield l) #[] #[], .pointer (some ⟨Bm, 0, none⟩)] W fun e W' => (∃ v, e = .returned v) ∧ ((∃ xs, xs.Perm (valsN kv) ∧ J xs W') ∨ (∃ pre, True ∧ Jx pre W')) := by
  obtain ⟨D, hown, hhas, hat⟩ := hM.ex
  refine callsIn_of_wp Tryz.func83 rfl h83 ?_ hro
  simp only [Tryz.ntmps83, List.size_toArray, List.length_cons, List.length_nil, Nat.reduceAdd, Nat.reduceSub, Array.replicate_succ, Array.replicate_zero, List.push_toArray, List.append_toArray, List.nil_append, List.cons_append]
  gi_wp2_with (first
    | (gi_at_range; refine wpListIn_range_own _ rfl _ 70 rfl 72 3 lawM Tryz.underlying70 _ b kv.length _ rfl hown ?_; intro w0 hrg0 hg0 hs0)
    | gi_in)
  go_frame
  gi_loopw [4] (fun _ wr => ∃ (left : Lit → Bool) (cnt : Nat) (ss : List Int), wr.ranges Tryz.prog 72 (plainElem Tryz.prog 3) b W.heap.size kv.length D left cnt ∧ (∀ kl, left kl = true → Maps.has D kl = true) ∧ ss.Perm (valsN (kv.filter fun p => !left p.1)) ∧ J ss wr)
    (fun _ wr => wr.rangeLeft b W.heap.size)
  case atStart =>
    refine ⟨_, _, [], hrg0, fun _ h => h, ?_, hJ [] W w0 none h0 hg0 (fun r e => by cases e)⟩
    have : (kv.filter fun p => !Maps.has D p.1) = [] := by
      rw [List.filter_eq_nil_iff]
      intro p hp
      rw [hhas]
      have : (fnd kv p.1).isSome = true := by
        unfold fnd
        rw [Option.isSome_map, List.find?_isSome]
        exact ⟨p, hp, WideAt.sameKey_self (hkk p hp)⟩
      rw [this]
      decide
    rw [this]
    exact List.Perm.refl _
  case round =>
    obtain ⟨left, cnt, ss, hrg, hlf, hP, hJs⟩ := hrel
    gi_wp2_with (first
      | (gi_at_next; refine wpListIn_next_ranges _ rfl _ rfl 72 lawM (plainElem Tryz.prog 3) (id : Value → Value) (Value.int .i64) (fun key kl _ => ⟨key, rfl⟩) (fun v y hv => by obtain ⟨c, rfl, _⟩ := plainElem_int_inv Tryz.underlying3 hv; exact ⟨c, rfl⟩) b W.heap.size kv.length _ _ _ rfl hrg ?_ ?_)
      | gi_in)
    · intro hc0 hl0
      gi_wp2
      go_end0
      refine ⟨⟨_, rfl⟩, Or.inl ⟨ss, ?_, hJs⟩⟩
      have : (kv.filter fun p => !left p.1) = kv := List.filter_eq_self.2 fun p _ => by rw [hl0]; rfl
      rw [this] at hP
      exact hP
    · intro x c kl yd yp w2 cnt2 hkey hlk hv hat2 hrg2 hlt hg2 hs2 hen
      obtain ⟨c', ec, ez, _⟩ := plainElem_int_inv Tryz.underlying3 hv
      obtain rfl : c = c' := by simpa using ec
      have hy : yd = DataW.lit (.int .i64 c) := (Prod.mk.inj ez).1
      have hsome : ∃ m : Nat, fnd kv kl = some m := by
        have h1 := hlf kl hlk
        rw [hhas] at h1
        exact Option.isSome_iff_exists.1 h1
      obtain ⟨m, hm'⟩ := hsome
      have hcm : c = (m : Int) := by
        have h2 := hat2 (.lit (.int .i64 0))
        simp only [hat, hm', hy] at h2
        cases h2
        rfl
      subst hcm
      have hP2 := left_step (left := left) kv hnd (lawM.key hkey) hlk hm'
      have hlen : ss.length < kv.length := by
        have h3 := hP2.length_eq
        have h4 := hP.length_eq
        have h5 : (valsN (kv.filter fun p => !(left p.1 && !p.1.sameKey kl))).length ≤ kv.length := by unfold valsN; rw [List.length_map]; exact List.length_filter_le _ _
        rw [List.length_append, List.length_singleton] at h3
        omega
      have hJ2 : J ss w2 := hJ _ wr w2 (some W.heap.size) hJs hg2 (fun r e => by cases e; exact ⟨Nat.le_refl _, hrg.iter_walk⟩)
      obtain ⟨fn, tmps, assign, body, hyy, hR⟩ := hY ss (m : Int) w2 hJ2 hlen
      clear hs2
      gi_wp2
      refine hR.mono ?_
      rintro e W3 (⟨rfl, hJ3, hk3⟩ | ⟨rfl, hJx3⟩)
      · gi_wp2
        have hrg3 := hrg2.of_walks hk3
        go_roundw
        case rel =>
          refine ⟨_, cnt2, ss ++ [(m : Int)], hrg3, fun k' h => hlf k' (by simp at h; exact h.1), ?_, hJ3⟩
          exact (hP.append_right _).trans hP2.symm
        case measure => rw [hrg3.left_eq, hrg.left_eq]; exact hlt
      · gi_wp2
        refine bodyPost_ret (results_none rfl _ _ _) rfl ?_
        exact ⟨⟨_, rfl⟩, Or.inr ⟨_, trivial, hJx3⟩⟩
end Go.Proofs.YtoahlnmhjinneaaGreatDoor

set_option linter.unusedSimpArgs false
set_option linter.unusedVariables false
namespace Go.Proofs.YtoahlnmhjinneaaGreatDoor
open Go.RowKit Go.Maps Go.Lib
variable {kv : List (Lit × Nat)} {w w' W W' : World} {v : Value} {xs : List Int}
set_option maxHeartbeats 4000000 in
set_option maxRecDepth 100000 in
theorem values_ok (b : Nat) (w : World) : Calls Tryz.prog 62 #[.map (some b)] w fun e w' => e = .returned (.func (.func 83) #[] #[.pointer (some ⟨w.heap.size, 0, none⟩)]) ∧ w' = w.alloc (.cells #[.map (some b)] 70) := by
  go_enter Tryz.func62, Tryz.ntmps62
  go_wp2
  go_ret
  exact ⟨rfl, rfl⟩
theorem values_stops (n : Nat) (hn : 1 ≤ n) (Bm b : Nat) (hBm : Bm < w.heap.size) (hm : w.cell? ⟨Bm, 0, none⟩ = some (.map (some b))) (hM : MapN w 72 b kv) (hnd : (kv.map (·.1)).Nodup) (hkk : ∀ p ∈ kv, WideAt.IsKeyLit p.1) :
    SeqStopsK Fence.wide n Tryz.prog 83 #[.pointer (some ⟨Bm, 0, none⟩)] (fun x : Int => #[Value.int .i64 x]) KeepsWalks (fun ys => ys.Perm (valsN kv)) (fun _ => True) kv.length w := fun l J Jx W hW hJ _ hY h0 =>
  values1 Fence.wide n trivial rfl hn l Bm b kv hnd hkk J Jx hY W hJ ((World.cell?_of_block (hW.block Bm hBm)).trans hm) (hM.of (hW.block b hM.lt)) h0
def intC (l : List Int) : List Value := l.map (Value.int .i64)
structure ApI (w : World) (v : Value) (xs ys : List Int) (W : World) : Prop where
  ex : ∃ v1, W.heap[w.heap.size]? = some (.cells #[v1] 67 (0, 0)) ∧ W.ownsRow 0 3 1 v1 (xs ++ ys).length (intC (xs ++ ys)) ∧ (∀ k, v1.ownBlock = some k → v.ownBlock = some k ∨ w.heap.size ≤ k)
  fr : Fr (fun k => v.ownBlock = some k) w W
theorem own_cells {B : Nat} {e : TypeId} {s n : Nat} {xs : List Value} (h : w.ownsRow B e s v n xs) {k : Nat} (hk : v.ownBlock = some k) : ∃ cur fz, w.heap[k]? = some (.cells cur e fz) := by
  rcases h.2 with ⟨h', _⟩ | ⟨g, cap, cur, h', _, hg, _⟩
  · rw [h'] at hk; cases hk
  · rw [h'] at hk
    cases hk
    exact ⟨_, _, hg⟩
theorem ApI.own (w : World) (v : Value) (xs : List Int) : OwnFrom (w.heap.size + 1) (fun ys W => ApI w v xs ys W) := fun ys W W' row h hg hr => by
  obtain ⟨v1, h1, h2, h3⟩ := h.ex
  have ne : ∀ (k : Nat) (cur : Array Value) (fz : Nat × Nat) (e : TypeId), W.heap[k]? = some (.cells cur e fz) → W'.heap[k]? = W.heap[k]? := fun k cur fz e hk => hg.block k (blk_lt hk) fun er => by
    obtain ⟨_, o, ho, hc⟩ := hr k er.symm
    rw [hk] at ho
    cases ho
    cases hc
  refine ⟨⟨v1, (ne _ _ _ _ h1).trans h1, owns_of h2 fun k e => ?_, h3⟩, h.fr.gr hg fun k e hk => ?_⟩
  · obtain ⟨cur, fz, hk⟩ := own_cells h2 e
    exact ne _ _ _ _ hk
  · have := (hr k e).1
    omega
theorem info3 : (Tryz.prog.info? 3).map (fun i => (i.zero, i.size, i.bytes)) = some (some (.int .i64 0), 1, 8) := by kernel_rfl
theorem ApI.put {ys : List Int} {x : Int} {v1 v' : Value} {w3 : World} (h1 : W.heap[w.heap.size]? = some (.cells #[v1] 67 (0, 0))) (h2 : W.ownsRow 0 3 1 v1 (xs ++ ys).length (intC (xs ++ ys))) (h3 : ∀ k, v1.ownBlock = some k → v.ownBlock = some k ∨ w.heap.size ≤ k) (hf : Fr (fun k => v.ownBlock = some k) w W)
    (ho : w3.ownsRow 0 3 1 v' ((xs ++ ys).length + 1) (intC (xs ++ ys) ++ [.int .i64 x])) (hg : (W.alloc (.cells #[.int .i64 x] 3)).grownBy w3 v1.ownBlock) (hat : v'.ownBlock = v1.ownBlock ∨ v'.ownBlock = some (W.alloc (.cells #[.int .i64 x] 3)).heap.size) :
    (w3.cell? ⟨w.heap.size, 0, none⟩ = some v1 ∧ w3.frozen? ⟨w.heap.size, 0, none⟩ = false) ∧ KeepsOthers W (w3.setCell ⟨w.heap.size, 0, none⟩ v') ∧ KeepsWalks W (w3.setCell ⟨w.heap.size, 0, none⟩ v') ∧ ApI w v xs (ys ++ [x]) (w3.setCell ⟨w.heap.size, 0, none⟩ v') := by
  have hne := row_box h2 h1 (by decide)
  have hlt := blk_lt h1
  have b3 : w3.heap[w.heap.size]? = some (.cells #[v1] 67 (0, 0)) := by
    rw [hg.block _ (by simp; omega) (fun e => hne e.symm), Below.heap_alloc _ _ _ hlt]
    exact h1
  have hvb : v'.ownBlock ≠ some w.heap.size := row_box ho b3 (by decide)
  have hcell : ∀ (j : Nat) (o : Obj), v1.ownBlock = some j → (W.alloc (.cells #[.int .i64 x] 3)).heap[j]? = some o → o.isCells = true := fun j o e hj => by
    obtain ⟨cur, fz, hk⟩ := own_cells h2 e
    rw [Below.heap_alloc _ _ _ (blk_lt hk), hk] at hj
    cases hj
    rfl
  refine ⟨⟨cell_of b3 rfl, free_of b3⟩, ((KeepsOthers.alloc W _).trans (KeepsOthers.of_grownBy hg hcell)).trans (KeepsOthers.setCell _ _ _), ((KeepsWalks.alloc W _).trans (KeepsWalks.of_grownBy hg fun j o e hj => ?_)).trans (KeepsWalks.setCell _ _ _), ⟨⟨v', ?_, ?_, ?_⟩, ?_⟩⟩
  · have := hcell j o e hj
    cases o <;> simp_all [Obj.isCells, Obj.isWalk]
  · rw [set_of b3]; rfl
  · have e : intC (xs ++ (ys ++ [x])) = intC (xs ++ ys) ++ [.int .i64 x] := by unfold intC; rw [← List.append_assoc, List.map_append]; rfl
    have e2 : (xs ++ (ys ++ [x])).length = (xs ++ ys).length + 1 := by simp; omega
    rw [e, e2]
    exact owns_of ho fun k e => Below.heap_setCell _ _ _ _ (fun e' => hvb (by rw [e, e']))
  · intro k e
    rcases hat with h | h
    · exact h3 k (h ▸ e)
    · rw [h] at e
      have h4 := hf.size
      have : k = W.heap.size + 1 := by simpa using e.symm
      exact Or.inr (by omega)
  · refine Fr.set ?_ _ _ (fun h => absurd h (Nat.lt_irrefl _))
    refine (hf.alloc _).gr hg fun k e hk => ?_
    rcases h3 k e with h | h
    · exact h
    · omega
set_option maxHeartbeats 8000000 in
set_option maxRecDepth 100000 in
theorem appendSeq_ok (w : World) (hrow : w.ownsRow 0 3 1 v xs.length (intC xs)) (Bm b : Nat) (hBm : Bm < w.heap.size) (hm : w.cell? ⟨Bm, 0, none⟩ = some (.map (some b))) (hM : MapN w 72 b kv) (hnd : (kv.map (·.1)).Nodup) (hkk : ∀ p ∈ kv, WideAt.IsKeyLit p.1) (hl : xs.length + kv.length ≤ 10000000000000) :
    Calls Tryz.prog 61 #[v, .func (.func 83) #[] #[.pointer (some ⟨Bm, 0, none⟩)]] w fun e w' => ∃ v' ys, e = .returned v' ∧ ys.Perm (valsN kv) ∧ w'.ownsRow 0 3 1 v' (xs ++ ys).length (intC (xs ++ ys)) ∧ Fr (fun k => v.ownBlock = some k) w w' ∧ ∀ k, v'.ownBlock = some k → v.ownBlock = some k ∨ w.heap.size ≤ k := by
  obtain ⟨i0, hi, hz0, hz1, hz2⟩ := info_parts info3
  have hb0 := (Below.refl w.heap.size w).alloc (Nat.le_refl _) (.cells #[v] 67)
  have hseq := values_stops (w := w.alloc (.cells #[v] 67)) (kv := kv) (3 - 1) (by omega) Bm b (by simp; omega) ((World.cell?_of_block (hb0.block Bm hBm)).trans hm) (hM.of (hb0.block b hM.lt)) hnd hkk
  have hI0 : ApI w v xs [] (w.alloc (.cells #[v] 67)) := ⟨⟨v, Below_new w _, by rw [List.append_nil]; exact owns_of hrow fun k e => hb0.block k (own_lt hrow e), fun k h => Or.inl h⟩, Fr.below hb0⟩
  obtain ⟨va, vn, vc, rfl⟩ := own_shape hrow
  refine (callsIn_wide (n := 3)).1 ?_
  refine callsIn_of_wp_marks Tryz.func61 rfl trivial ?_ rfl
  simp only [Tryz.ntmps61, List.size_toArray, List.length_cons, List.length_nil, Nat.reduceAdd, Nat.reduceSub, Array.replicate_succ, Array.replicate_zero, List.push_toArray, List.append_toArray, List.nil_append, List.cons_append]
  gi_wp2
  have hsz : (w.alloc (.cells #[.slice va vn vc] 67)).heap.size = w.heap.size + 1 := by simp
  refine wpIn_rangeFunc_ownF rfl (by omega) (gf := 83) (lb := #[.pointer (some ⟨Bm, 0, none⟩)]) rfl trivial (enters_of Tryz.func83 (by kernel_rfl) rfl) hseq (fun h k => h.trans k) (fun W l o o' _ hl hc hw => KeepsWalks.putObj o' hl hw) (Below.refl _ _) (fun _ => rfl)
    (fun ys W => ApI w (.slice va vn vc) xs ys W) (fun _ _ _ => False) (by rw [hsz]; exact ApI.own w _ xs) (fun c s A B row hs _ _ => hs) hI0
    (fun x => { tmps := #[.slice va vn vc, .func (.func 83) #[] #[.pointer (some ⟨Bm, 0, none⟩)], .pointer (some ⟨w.heap.size, 0, none⟩), undef, .slice none 0 0, .int .i64 x, .func (.func 83) #[] #[.pointer (some ⟨Bm, 0, none⟩)], .int .i64 x, undef, undef, undef, undef, undef], defers := [] }) ?assign ?body ?done ?stop
  case assign =>
    intro l x W K hK
    gi_wp2_with gi_round_op_a
    exact hK
  case body =>
    rintro l ys x W hI hlen
    obtain ⟨v1, h1, h2, h3⟩ := hI.ex
    have hf := hI.fr
    obtain ⟨a1, n1, c1, rfl⟩ := own_shape h2
    have d0 : W.cell? ⟨w.heap.size, 0, none⟩ = some (.slice a1 n1 c1) := cell_of h1 rfl
    have hll : (xs ++ ys).length + 1 ≤ 10000000000000 := by rw [List.length_append]; omega
    have HP := hide (fun v' w3 => ApI.put (w := w) (v := .slice va vn vc) (xs := xs) (ys := ys) (x := x) (v' := v') (w3 := w3) h1 h2 h3 hf)
    have HR := hide (owns_of (w' := W.alloc (.cells #[.int .i64 x] 3)) h2 fun k e => Below.heap_alloc _ _ _ (own_lt h2 e))
    clear h1 h2 h3 hf hI hI0 hseq hb0 hrow hm hM hnd hkk hlen hl
    gi_wp2_with (first
      | (gi_at_builtin; refine wpListIn_append_own_at (w := _) rfl _ _ 67 rfl 0 3 i0 _ 1 8 Tryz.underlying67 hi hz0 hz1 hz2 rfl (by decide) _ _ _ rfl HR.out ⟨W.heap.size, 0, none⟩ 1 1 [.int .i64 x] rfl rfl (cell_one_new _ _ _) (by simp [Value.oneCell']) (by unfold maxLen; omega) (by omega) (Nat.zero_le _) ?_; intro v7 w7 ho7 hg7 _ hat7; obtain ⟨⟨d7, f7⟩, H7⟩ := HP.out _ _ ho7 hg7 hat7; have H8 := hide H7; obtain ⟨a7, n7, c7, rfl⟩ := own_shape ho7; clear HP HR ho7 hg7 hat7 H7)
      | gi_round_op_a)
    exact H8.out
  case done =>
    rintro D ys W hD hS hI hK
    obtain ⟨v1, h1, h2, h3⟩ := hI.ex
    have hf := hI.fr
    obtain ⟨a1, n1, c1, rfl⟩ := own_shape h2
    have d0 : W.cell? ⟨w.heap.size, 0, none⟩ = some (.slice a1 n1 c1) := cell_of h1 rfl
    have HI := hide hI
    have H2 := hide h2
    clear h1 h2 hI hI0 hseq hb0 hrow hm hM hnd hkk hl
    gi_wp2
    refine ⟨by simp, .inl ⟨_, _, rfl, run_takeDeferred hK, ?_⟩⟩
    have hgp := grownBy_putObj' W D (.deferred none)
    refine ⟨.slice a1 n1 c1, by simp [results, Tryz.results61, go_sem], .slice a1 n1 c1, ys, rfl, hS, owns_of H2.out fun k e => ?_, hf.gr hgp fun k e hk => ?_, h3⟩
    · obtain ⟨cur, fz, hk⟩ := own_cells H2.out e
      refine hgp.block k (blk_lt hk) fun e' => ?_
      have : k = D := Option.some.inj e'
      rw [this, hK] at hk
      cases hk
    · have := Option.some.inj e
      omega
  case stop =>
    rintro D c pre W hD _ hF
    exact hF.elim
end Go.Proofs.YtoahlnmhjinneaaGreatDoor

set_option linter.unusedSimpArgs false
set_option linter.unusedVariables false
namespace Go.Proofs.YtoahlnmhjinneaaGreatDoor
open Go.RowKit Go.Maps Go.Lib Go.Sort
variable {kv : List (Lit × Nat)} {w w' W W' : World} {v : Value} {xs zs : List Int}
def srt (zs : List Int) : List Int := zs.mergeSort fun x y => decide (x ≤ y)
theorem srt_len (zs : List Int) : (srt zs).length = zs.length := by unfold srt; simp
theorem sort_row (h : w.ownsRow 0 3 1 v zs.length (intC zs)) (hl : zs.length ≤ 10000000000000) : Calls Tryz.prog 63 #[v] w fun e w' => e = .returned (.tuple #[]) ∧ w'.ownsRow 0 3 1 v zs.length (intC (srt zs)) ∧ w.grownBy w' v.ownBlock := by
  rcases h.2 with ⟨rfl, hz⟩ | ⟨g, cap, cur, rfl, hb, hg, hnc, hcm, hcs, htk⟩
  · have : zs = [] := List.eq_nil_of_length_eq_zero hz
    subst this
    refine (Tryz.slices_Sort_int_none none 0 w).mono ?_
    rintro e w' ⟨rfl, rfl⟩
    exact ⟨rfl, by simpa [srt, intC] using h, ⟨rfl, rfl, rfl, Nat.le_refl _, fun _ _ _ => rfl⟩⟩
  · refine (Tryz.slices_Sort_int g 0 cap zs w (holds_of_block_i hg (by rw [Nat.mul_one] at htk; exact htk)) (blk_lt hg) (by omega)).mono ?_
    rintro e w' ⟨rfl, n, os, rfl⟩
    exact ⟨rfl, ownsRow_sorted_i (srt_len zs) (Nat.zero_le _) hg hnc hcm hcs, grownBy_sorted_i _⟩
theorem own_cut {g n cap m : Nat} {ys : List Value} (h : w.ownsRow 0 3 1 (.slice (some ⟨g, 0, none⟩) n cap) n ys) (hm : m ≤ n) : w.ownsRow 0 3 1 (.slice (some ⟨g, 0, none⟩) m cap) m (ys.take m) := by
  have hl := h.1
  rcases h.2 with ⟨h', _⟩ | ⟨g', cap', cur, h', hb, hg, hnc, hcm, hcs, htk⟩
  · cases h'
  · cases h'
    refine ⟨by rw [List.length_take]; omega, Or.inr ⟨g, cap, cur, rfl, hb, hg, by omega, hcm, hcs, ?_⟩⟩
    rw [← htk, List.take_take]
    congr 1
    omega
theorem compact_le (zs : List Int) : (Lib.compact zs).length ≤ zs.length := by
  have key : ∀ (d : Array Int) (m : Nat), (compactUpTo d m).length ≤ m := fun d m => by
    induction m with
    | zero => simp [compactUpTo]
    | succ m ih => rw [compactUpTo_succ, List.length_append]; split <;> simp <;> omega
  exact key _ _
theorem compact_row (h : w.ownsRow 0 3 1 v zs.length (intC zs)) (hl : zs.length ≤ 10000000000000) : Calls Tryz.prog 64 #[v] w fun e w' => ∃ v', e = .returned v' ∧ w'.ownsRow 0 3 1 v' (Lib.compact zs).length (intC (Lib.compact zs)) ∧ w.grownBy w' v.ownBlock ∧ v'.ownBlock = v.ownBlock := by
  rcases h.2 with ⟨rfl, hz⟩ | ⟨g, cap, cur, rfl, hb, hg, hnc, hcm, hcs, htk⟩
  · have : zs = [] := List.eq_nil_of_length_eq_zero hz
    subst this
    refine (Tryz.slices_Compact_int_empty none 0 w).mono ?_
    rintro e w' ⟨rfl, rfl⟩
    exact ⟨_, rfl, by simpa [Lib.compact, compactUpTo, intC] using h, ⟨rfl, rfl, rfl, Nat.le_refl _, fun _ _ _ => rfl⟩, rfl⟩
  · refine (Tryz.slices_Compact_int g 0 cap zs w (holds_of_block_i hg (by rw [Nat.mul_one] at htk; exact htk)) (by omega) hnc).mono ?_
    rintro e w' ⟨rfl, q, rfl⟩
    have hle := compact_le zs
    have hlen : (Lib.compact zs ++ List.replicate (zs.length - (Lib.compact zs).length) (0 : Int)).length = zs.length := by rw [List.length_append, List.length_replicate]; omega
    have e0 : putRow (Value.int .i64) (Sort.ahead w q) g 0 (Lib.compact zs ++ List.replicate (zs.length - (Lib.compact zs).length) (0 : Int)).toArray = grow (putRow encZ (Sort.ahead w q) g 0 (Lib.compact zs ++ List.replicate (zs.length - (Lib.compact zs).length) (0 : Int)).toArray) #[] := by
      unfold grow
      rw [Array.append_empty]
    rw [e0]
    have r := ownsRow_sorted_i (n := q) (os := #[]) hlen (Nat.zero_le _) hg hnc hcm hcs
    refine ⟨_, rfl, ?_, grownBy_sorted_i _, rfl⟩
    have r2 := own_cut r hle
    have e1 : ((Lib.compact zs ++ List.replicate (zs.length - (Lib.compact zs).length) (0 : Int)).map encZ).take (Lib.compact zs).length = intC (Lib.compact zs) := by
      rw [← List.map_take, List.take_left]
      rfl
    rw [e1] at r2
    exact r2
theorem compact_up (d : Array Int) (hs : ∀ i j, i < j → j < d.size → d[i]! ≤ d[j]!) : ∀ m, m ≤ d.size → (compactUpTo d m).Pairwise (· < ·) ∧ (∀ x, x ∈ compactUpTo d m ↔ ∃ j, j < m ∧ d[j]! = x) := by
  intro m
  induction m with
  | zero => intro _; exact ⟨by simp [compactUpTo], fun x => by simp [compactUpTo]⟩
  | succ m ih =>
    intro hm
    obtain ⟨h1, h2⟩ := ih (by omega)
    rw [compactUpTo_succ]
    cases hk : keeps d m with
    | true =>
      refine ⟨?_, fun x => ?_⟩
      · simp only [if_true]
        rw [List.pairwise_append]
        refine ⟨h1, by simp, fun a ha c hc => ?_⟩
        rw [List.mem_singleton] at hc
        subst hc
        obtain ⟨j, hj, rfl⟩ := (h2 a).1 ha
        have hne : d[m]! ≠ d[m - 1]! := fun e => by rw [keeps_neg (by omega) e] at hk; cases hk
        have h3 := hs (m - 1) m (by omega) (by omega)
        have h4 : d[j]! ≤ d[m - 1]! := by
          by_cases e : j = m - 1
          · rw [e]; exact Int.le_refl _
          · exact hs j (m - 1) (by omega) (by omega)
        omega
      · simp only [if_true, List.mem_append, List.mem_singleton, h2]
        constructor
        · rintro (⟨j, hj, rfl⟩ | rfl)
          · exact ⟨j, by omega, rfl⟩
          · exact ⟨m, by omega, rfl⟩
        · rintro ⟨j, hj, rfl⟩
          by_cases e : j = m
          · right; rw [e]
          · left; exact ⟨j, by omega, rfl⟩
    | false =>
      have hm0 : 0 < m := Nat.pos_of_ne_zero fun e => by rw [keeps_lt_one d m (by omega)] at hk; cases hk
      have he : d[m]! = d[m - 1]! := Classical.byContradiction fun hne => by rw [keeps_pos hne] at hk; cases hk
      refine ⟨by simpa using h1, fun x => ?_⟩
      simp only [Bool.false_eq_true, if_false, List.append_nil, h2]
      constructor
      · rintro ⟨j, hj, rfl⟩
        exact ⟨j, by omega, rfl⟩
      · rintro ⟨j, hj, rfl⟩
        by_cases e : j = m
        · exact ⟨m - 1, by omega, by rw [e, he]⟩
        · exact ⟨j, by omega, rfl⟩
theorem compact_srt (zs : List Int) : (Lib.compact (srt zs)).Pairwise (· < ·) ∧ ∀ x, x ∈ Lib.compact (srt zs) ↔ x ∈ zs := by
  have hp : (srt zs).Pairwise (· ≤ ·) := by
    have := List.pairwise_mergeSort (le := fun x y : Int => decide (x ≤ y)) (fun a b c h1 h2 => by simp at *; omega) (fun a b => by simp; omega) zs
    unfold srt
    exact this.imp (fun h => by simpa using h)
  have hget : ∀ i, i < (srt zs).length → (srt zs).toArray[i]! = (srt zs)[i]! := fun i hi => by simp [hi]
  obtain ⟨h1, h2⟩ := compact_up (srt zs).toArray (fun i j hij hj => by
    have hj' : j < (srt zs).length := by simpa using hj
    have hi' : i < (srt zs).length := by omega
    have := (List.pairwise_iff_getElem.1 hp) i j hi' hj' hij
    simpa [hi', hj'] using this) (srt zs).length (by simp)
  refine ⟨h1, fun x => (h2 x).trans ?_⟩
  have hm : x ∈ srt zs ↔ x ∈ zs := by unfold srt; exact List.mem_mergeSort
  rw [← hm, List.mem_iff_getElem]
  constructor
  · rintro ⟨j, hj, rfl⟩
    exact ⟨j, hj, by simp [hj]⟩
  · rintro ⟨j, hj, rfl⟩
    exact ⟨j, hj, by simp [hj]⟩
end Go.Proofs.YtoahlnmhjinneaaGreatDoor

set_option linter.unusedSimpArgs false
set_option linter.unusedVariables false
namespace Go.Proofs.YtoahlnmhjinneaaGreatDoor
open Go.RowKit Go.Maps Go.Lib Go.Sort
variable {kv : List (Lit × Nat)} {w w' W W' : World} {v : Value} {xs zs : List Int}
set_option maxHeartbeats 4000000 in
set_option maxRecDepth 100000 in
theorem collect_ok (w : World) (Bm b : Nat) (hBm : Bm < w.heap.size) (hm : w.cell? ⟨Bm, 0, none⟩ = some (.map (some b))) (hM : MapN w 72 b kv) (hnd : (kv.map (·.1)).Nodup) (hkk : ∀ p ∈ kv, WideAt.IsKeyLit p.1) (hl : kv.length ≤ 10000000000000) :
    Calls Tryz.prog 87 #[.func (.func 83) #[] #[.pointer (some ⟨Bm, 0, none⟩)]] w fun e w' => ∃ va vn vc ys, e = .returned (.slice va vn vc) ∧ ys.Perm (valsN kv) ∧ w'.ownsRow 0 3 1 (.slice va vn vc) ys.length (intC ys) ∧ Below w.heap.size w w' ∧ ∀ k, (Value.slice va vn vc).ownBlock = some k → w.heap.size ≤ k := by
  have h0 := appendSeq_ok (v := .slice none 0 0) (xs := []) w (World.ownsRow_nil _ _ _ _) Bm b hBm hm hM hnd hkk (by simp; omega)
  have HA : Hid (Calls Tryz.prog 61 #[.slice none 0 0, .func (.func 83) #[] #[.pointer (some ⟨Bm, 0, none⟩)]] w fun e w' => ∃ va vn vc ys, e = .returned (.slice va vn vc) ∧ ys.Perm (valsN kv) ∧ w'.ownsRow 0 3 1 (.slice va vn vc) ys.length (intC ys) ∧ Below w.heap.size w w' ∧ ∀ k, (Value.slice va vn vc).ownBlock = some k → w.heap.size ≤ k) := hide (h0.mono fun e w' ⟨v', ys, h1, h2, h3, h4, h5⟩ => by
    obtain ⟨va, vn, vc, rfl⟩ := own_shape h3
    refine ⟨va, vn, vc, ys, h1, h2, by simpa using h3, h4.up (fun k hk => by cases hk) (Nat.le_refl _), fun k e => ?_⟩
    rcases h5 k e with h | h
    · cases h
    · exact h)
  clear h0 hm hM hnd hkk hl
  go_enter Tryz.func87, Tryz.ntmps87
  go_wp2_with (go_at_call 61; refine HA.out.mono ?_; rintro e w5 ⟨va, vn, vc, ys, rfl, h5⟩; have H5 := hide h5; clear HA h5)
  go_ret
  exact ⟨va, vn, vc, ys, rfl, H5.out⟩
set_option maxHeartbeats 4000000 in
set_option maxRecDepth 100000 in
theorem sorted_ok (w : World) (Bm b : Nat) (hBm : Bm < w.heap.size) (hm : w.cell? ⟨Bm, 0, none⟩ = some (.map (some b))) (hM : MapN w 72 b kv) (hnd : (kv.map (·.1)).Nodup) (hkk : ∀ p ∈ kv, WideAt.IsKeyLit p.1) (hl : kv.length ≤ 10000000000000) :
    Calls Tryz.prog 67 #[.func (.func 83) #[] #[.pointer (some ⟨Bm, 0, none⟩)]] w fun e w' => ∃ va vn vc ys, e = .returned (.slice va vn vc) ∧ ys.Perm (valsN kv) ∧ w'.ownsRow 0 3 1 (.slice va vn vc) ys.length (intC (srt ys)) ∧ Below w.heap.size w w' ∧ ∀ k, (Value.slice va vn vc).ownBlock = some k → w.heap.size ≤ k := by
  have HA := hide (collect_ok w Bm b hBm hm hM hnd hkk hl)
  have HS : Hid (∀ w1 va vn vc (ys : List Int), ys.Perm (valsN kv) → w1.ownsRow 0 3 1 (.slice va vn vc) ys.length (intC ys) → Below w.heap.size w w1 → (∀ k, (Value.slice va vn vc).ownBlock = some k → w.heap.size ≤ k) → Calls Tryz.prog 63 #[.slice va vn vc] w1 fun e w' => e = .returned (.tuple #[]) ∧ w'.ownsRow 0 3 1 (.slice va vn vc) ys.length (intC (srt ys)) ∧ Below w.heap.size w w') := fun w1 va vn vc ys hp hr hb ho => by
    have hyl : ys.length = kv.length := by rw [hp.length_eq]; simp [valsN]
    refine (sort_row hr (by omega)).mono ?_
    rintro e w' ⟨h1, h2, h3⟩
    exact ⟨h1, h2, hb.grown h3 hb.size ho⟩
  clear hm hM hnd hkk hl
  go_enter Tryz.func67, Tryz.ntmps67
  go_wp2_with (first | (go_at_call 87; refine HA.out.mono ?_; rintro e w5 ⟨va, vn, vc, ys, rfl, p1, p2, p3, p4⟩; have HC := hide (HS.out _ _ _ _ _ p1 p2 p3 p4); have P1 := hide p1; have P4 := hide p4; clear HA HS p1 p2 p3 p4) | (go_at_call 63; refine HC.out.mono ?_; rintro e w6 ⟨rfl, p5, p6⟩; have P5 := hide p5; have P6 := hide p6; clear HC p5 p6))
  go_ret
  exact ⟨va, vn, vc, ys, rfl, P1.out, P5.out, P6.out, P4.out⟩
end Go.Proofs.YtoahlnmhjinneaaGreatDoor

set_option linter.unusedSimpArgs false
set_option linter.unusedVariables false
namespace Go.Proofs.YtoahlnmhjinneaaGreatDoor
open Go.RowKit Go.Maps Go.Lib Go.Sort
variable {kv : List (Lit × Nat)} {w w' W W' : World} {v : Value} {xs : List (Br × Nat)} {b : Brs} {x : Br × Nat}
def dueC (l : List Nat) : List Value := l.map fun k => .int .i64 (k : Nat)
theorem intC_due (l : List Int) (h : ∀ z ∈ l, 0 ≤ z) : intC l = dueC (l.map Int.toNat) := by
  unfold intC dueC
  rw [List.map_map]
  refine List.map_congr_left fun z hz => ?_
  have := h z hz
  simp only [Function.comp]
  congr 1
  omega
theorem kidsL_ok (x : Br) (hs : ∀ y ∈ x.kids, y.1.2.length ≤ 1000000) (hn : (x.kids.map (·.1)).Nodup) : ((kidsL x).map (·.1)).Nodup ∧ (∀ p ∈ kidsL x, WideAt.IsKeyLit p.1) := by
  refine ⟨?_, fun p hp => ?_⟩
  · unfold kidsL
    rw [List.map_map]
    unfold List.Nodup at hn ⊢
    rw [List.pairwise_map] at hn ⊢
    refine hn.imp_of_mem fun ha hb hne e => hne ?_
    exact klit_inj (hs _ ha) (hs _ hb) e
  · unfold kidsL at hp
    obtain ⟨y, hy, rfl⟩ := List.mem_map.1 hp
    exact lawM.key (keyM y.1 (hs y hy))
theorem vals_kids (x : Br) : valsN (kidsL x) = (x.kids.map (·.2)).map fun k : Nat => (k : Int) := by
  unfold valsN kidsL
  rw [List.map_map, List.map_map]
  rfl
theorem start_due (h0 : b[0]? = some x.1) (hu : UpB b) {ys : List Int} (hp : ys.Perm (valsN (kidsL x.1))) : intC (srt ys) = dueC (startS b).due ∧ ys.length = (startS b).due.length := by
  rw [vals_kids] at hp
  have hpos : ∀ z ∈ srt ys, 0 ≤ z := fun z hz => by
    have : z ∈ ys := by unfold srt at hz; exact List.mem_mergeSort.1 hz
    obtain ⟨k, _, rfl⟩ := List.mem_map.1 (hp.mem_iff.1 this)
    omega
  have hs : (srt ys).Pairwise (· ≤ ·) := by
    have := List.pairwise_mergeSort (le := fun x y : Int => decide (x ≤ y)) (fun a b c h1 h2 => by simp at *; omega) (fun a b => by simp; omega) ys
    unfold srt
    exact this.imp (fun h => by simpa using h)
  have hpm : ((srt ys).map Int.toNat).Perm (x.1.kids.map (·.2)) := by
    have h1 : (srt ys).Perm ((x.1.kids.map (·.2)).map fun k : Nat => (k : Int)) := by unfold srt; exact (List.mergeSort_perm ys _).trans hp
    have h2 := h1.map Int.toNat
    rw [List.map_map] at h2
    have e : (x.1.kids.map (·.2)).map (Int.toNat ∘ fun k : Nat => (k : Int)) = x.1.kids.map (·.2) := by
      conv => rhs; rw [← List.map_id (x.1.kids.map (·.2))]
      refine List.map_congr_left fun k _ => ?_
      simp
    rw [e] at h2
    exact h2
  have hl := start_list h0 hu (by rw [List.pairwise_map]; exact hs.imp (fun h => by omega)) hpm
  rw [intC_due _ hpos, hl]
  refine ⟨rfl, ?_⟩
  rw [← hl, List.length_map, srt_len]
theorem info69s : (Tryz.prog.info? 69).map (·.size) = some 4 := by kernel_rfl
end Go.Proofs.YtoahlnmhjinneaaGreatDoor

set_option linter.unusedSimpArgs false
set_option linter.unusedVariables false
namespace Go.Proofs.YtoahlnmhjinneaaGreatDoor
open Go.RowKit Go.Maps Go.Lib Go.Sort
variable {kv : List (Lit × Nat)} {w w' W W' : World} {v : Value} {xs : List (Br × Nat)} {b : Brs} {x : Br × Nat}
theorem set4 {g : Nat} {t : TypeId} {a0 a1 a2 a3 : Value} (h : w.heap[g]? = some (.cells #[a0, a1, a2, a3] t (0, 0))) (b0 b1 b2 b3 : Value) : (w.setCells g 0 [b0, b1, b2, b3]).heap[g]? = some (.cells #[b0, b1, b2, b3] t (0, 0)) := by
  have h1 := set_of (i := 0) h b0
  have h2 := set_of (i := 1) h1 b1
  have h3 := set_of (i := 2) h2 b2
  have h4 := set_of (i := 3) h3 b3
  exact h4
theorem there4 {g : Nat} {t : TypeId} {a0 a1 a2 a3 : Value} (h : w.heap[g]? = some (.cells #[a0, a1, a2, a3] t (0, 0))) : w.there g 0 4 := fun j hj => by
  refine ⟨?_, free_of h⟩
  rw [Nat.zero_add]
  match j, hj with
  | 0, _ => rw [cell_of (i := 0) h rfl]; rfl
  | 1, _ => rw [cell_of (i := 1) h rfl]; rfl
  | 2, _ => rw [cell_of (i := 2) h rfl]; rfl
  | 3, _ => rw [cell_of (i := 3) h rfl]; rfl
abbrev aT (va : Option Addr) (vn vc : Nat) (p q r : Bool) : Array Value := #[.slice va vn vc, .bool p, .bool q, .bool r]
theorem one4 (va : Option Addr) (vn vc : Nat) (p q r : Bool) : (aT va vn vc p q r).all (·.oneCell') = true := by simp [aT, Value.oneCell']
theorem size4 (va : Option Addr) (vn vc : Nat) (p q r : Bool) : (Tryz.prog.info? 69).map (·.size) = some (aT va vn vc p q r).size := info69s
set_option maxHeartbeats 8000000 in
set_option maxRecDepth 100000 in
theorem start_ok (h : BR w v xs) (hb : xs.map (·.1) = b) (hw : WfB b) (hu : UpB b) (hs : Short b) (hf : ∀ y ∈ b, y.kids.length ≤ b.length) (hl : b.length ≤ 2300000000000) : Calls Tryz.prog 41 #[v] w fun e w' => ∃ va vn vc, e = .returned (.agg #[.slice va vn vc, .bool false, .bool false, .bool false]) ∧ w'.ownsRow 0 3 1 (.slice va vn vc) (startS b).due.length (dueC (startS b).due) ∧ Below w.heap.size w w' ∧ ∀ k, (Value.slice va vn vc).ownBlock = some k → w.heap.size ≤ k := by
  have hxl : xs.length = b.length := by rw [← hb]; simp
  have h0 := hw.1
  have hx : xs[0]? = some xs[0] := List.getElem?_eq_getElem (by omega)
  generalize xs[0] = x at hx
  have hbx : b[0]? = some x.1 := by rw [← hb, List.getElem?_map, hx]; rfl
  have hxm : x ∈ xs := List.mem_of_getElem? hx
  obtain ⟨g, cap, rfl, hg, hnc, g0, g1, g2, g3, g4⟩ := h.at hx
  rw [Nat.zero_mul, Nat.zero_add] at g2
  obtain ⟨hk1, hk2⟩ := kidsL_ok x.1 (hs x.1 (List.mem_of_getElem? hbx)) (hw.2 0 _ hbx).2
  have hkl : (kidsL x.1).length ≤ 10000000000000 := by have := hf x.1 (List.mem_of_getElem? hbx); unfold kidsL; rw [List.length_map]; omega
  have hR := Below_new w (.cells #[.slice none 0 0, .bool false, .bool false, .bool false] 69)
  have hb1 := (Below.refl w.heap.size w).alloc (Nat.le_refl _) (.cells #[.slice none 0 0, .bool false, .bool false, .bool false] 69)
  have c2 : (w.alloc (.cells #[.slice none 0 0, .bool false, .bool false, .bool false] 69)).cell? ⟨g, 2, none⟩ = some (.map (some x.2)) := (World.cell?_of_block (hb1.block g hg)).trans g2
  have HV := hide (values_ok x.2 (w.alloc (.cells #[.slice none 0 0, .bool false, .bool false, .bool false] 69)))
  have hb2 := hb1.alloc hb1.size (.cells #[.map (some x.2)] 70)
  have hB2 := Below_new (w.alloc (.cells #[.slice none 0 0, .bool false, .bool false, .bool false] 69)) (.cells #[.map (some x.2)] 70)
  have hM := (h.map x hxm).of (hb2.block _ (h.map x hxm).lt)
  rw [World.size_alloc] at hB2
  have HS := hide (sorted_ok _ (w.heap.size + 1) x.2 (blk_lt hB2) (cell_of hB2 rfl) hM hk1 hk2 hkl)
  have HE : Hid (∀ w6 va vn vc (ys : List Int), ys.Perm (valsN (kidsL x.1)) → w6.ownsRow 0 3 1 (.slice va vn vc) ys.length (intC (srt ys)) → Below ((w.alloc (.cells #[.slice none 0 0, .bool false, .bool false, .bool false] 69)).alloc (.cells #[.map (some x.2)] 70)).heap.size ((w.alloc (.cells #[.slice none 0 0, .bool false, .bool false, .bool false] 69)).alloc (.cells #[.map (some x.2)] 70)) w6 → (∀ k, (Value.slice va vn vc).ownBlock = some k → ((w.alloc (.cells #[.slice none 0 0, .bool false, .bool false, .bool false] 69)).alloc (.cells #[.map (some x.2)] 70)).heap.size ≤ k) →
      w6.there w.heap.size 0 4 ∧ Hid ((w6.setCells w.heap.size 0 [.slice va vn vc, .bool false, .bool false, .bool false]).heap[w.heap.size]? = some (.cells #[.slice va vn vc, .bool false, .bool false, .bool false] 69 (0, 0)) ∧ (w6.setCells w.heap.size 0 [.slice va vn vc, .bool false, .bool false, .bool false]).ownsRow 0 3 1 (.slice va vn vc) (startS b).due.length (dueC (startS b).due) ∧ Below w.heap.size w (w6.setCells w.heap.size 0 [.slice va vn vc, .bool false, .bool false, .bool false]) ∧ ∀ k, (Value.slice va vn vc).ownBlock = some k → w.heap.size ≤ k)) := fun w6 va vn vc ys hp hr hbb ho => by
    have hR6 : w6.heap[w.heap.size]? = some (.cells #[.slice none 0 0, .bool false, .bool false, .bool false] 69 (0, 0)) := by
      rw [hbb.block _ (by simp; omega), Below.heap_alloc _ _ _ (by simp)]
      exact hR
    obtain ⟨e1, e2⟩ := start_due hbx hu hp
    rw [e1, e2] at hr
    have hne : (Value.slice va vn vc).ownBlock ≠ some w.heap.size := row_box hr hR6 (by decide)
    have hbw : Below w.heap.size w w6 := hb2.trans (below_less hbb hb2.size)
    refine ⟨there4 hR6, hide ⟨set4 hR6 _ _ _ _, owns_of hr fun k e => setCells_other (fun e' => hne (by rw [e, e'])) _ _ _, ?_, fun k e => Nat.le_trans hb2.size (ho k e)⟩⟩
    obtain ⟨s1, s2, s3, s4⟩ := setCells_rest (g := w.heap.size) [.slice va vn vc, .bool false, .bool false, .bool false] 0 w6
    refine ⟨s1.trans hbw.os, s2.trans hbw.tape, s3.trans hbw.output, by rw [s4]; exact hbw.size, fun k hk => ?_⟩
    rw [setCells_other (by omega)]
    exact hbw.block k hk
  have hlt0 : (0 : Int) < (xs.length : Int) := by omega
  clear h hw hu hs hf hl hg hnc g0 g1 g2 g3 g4 hk1 hk2 hkl hR hb1 hb2 hB2 hM hbx hxm hx hb
  generalize xs.length = n at *
  generalize (startS b).due = dd at *
  go_enter Tryz.func41, Tryz.ntmps41
  go_wp2_with (first
    | (go_at_call 62; refine HV.out.mono ?_; rintro e w5 ⟨rfl, rfl⟩; clear HV)
    | (go_at_call 67; refine HS.out.mono ?_; rintro e w6 ⟨va, vn, vc, ys, rfl, q1, q2, q3, q4⟩; obtain ⟨hth, H6⟩ := HE.out _ _ _ _ _ q1 q2 q3 q4; have HTH := hide hth; clear hth; clear HS HE q1 q2 q3 q4)
    | (refine wpList_store_mid rfl 69 (.tmp 2) (.tmp 9) rfl w.heap.size 0 (aT va vn vc false false false) rfl rfl HTH.out (size4 ..) (one4 ..) ?_))
  obtain ⟨q1, q2⟩ := H6.out
  exact bodyPost_ret (v := .agg #[.slice va vn vc, .bool false, .bool false, .bool false]) (results_cell_row (p := 2) (ty := 69) Tryz.results41 _ _ w.heap.size 69 _ (0, 0) _ rfl q1 Tryz.underlying69 rfl info69s) rfl ⟨va, vn, vc, rfl, q2⟩
end Go.Proofs.YtoahlnmhjinneaaGreatDoor

set_option linter.unusedSimpArgs false
set_option linter.unusedVariables false
namespace Go.Proofs.YtoahlnmhjinneaaGreatDoor
open Go.RowKit Go.Maps Go.Lib
variable {w w' W W' : World} {v : Value} {o : L}
theorem conv_own {w : World} {v : Value} {l : List UInt8} {B : Nat} (h : w.ownsRow B 5 1 v l.length (Lib.byteCells l)) : (convert 116 9 v).run Tryz.prog w = .ok (.string (bs l)) w := by
  rcases h.2 with ⟨rfl, hn⟩ | ⟨g, cap, cur, rfl, _, hg, hc, _, hcs, ht⟩
  · obtain rfl : l = [] := List.eq_nil_of_length_eq_zero hn
    exact run_convert_bytes_nil w 116 5 Tryz.underlying116 Tryz.underlying5 0 0 9 Tryz.underlying9
  · have hx : strOfNums (l.map fun b => (b.toNat : Int)) = ⟨l.toArray⟩ := by
      unfold strOfNums
      congr 2
      rw [List.map_map]
      conv => rhs; rw [← List.map_id l]
      apply List.map_congr_left
      intro b _
      simp
    have := run_convert_bytes_arg (P := Tryz.prog) w 116 5 Tryz.underlying116 Tryz.underlying5 g 0 l.length cap (l.map fun b => (b.toNat : Int)) (by simp) ?_ 9 Tryz.underlying9
    · rw [this, hx]; rfl
    · intro i hi
      rw [Nat.zero_add, cell_of hg (v := .int .u8 ((l.map fun b => (b.toNat : Int)).getD i 0)) ?_]
      rw [← Array.getElem?_toList]
      have h1 : (cur.toList.take (l.length * 1))[i]? = cur.toList[i]? := by rw [List.getElem?_take, if_pos (by omega)]
      rw [← h1, ht]
      simp [Lib.byteCells, hi]
structure KB (w W : World) (v : Value) (o : L) : Prop where
  row : W.ownsRow w.heap.size 5 1 v o.length (Lib.byteCells o)
  below : Below w.heap.size w W
theorem KB.put {s : ByteArray} {v' : Value} (h : KB w W v o) (ho : W'.ownsRow w.heap.size 5 1 v' (o.length + s.size) (Lib.byteCells o ++ Lib.strCells s)) (hg : W.grownBy W' v.ownBlock) : KB w W' v' (o ++ s.data.toList) := by
  refine ⟨?_, h.below.grown hg h.below.size fun k e => (h.row.lt k e).1⟩
  have e1 : Lib.byteCells (o ++ s.data.toList) = Lib.byteCells o ++ Lib.strCells s := by simp [Lib.byteCells, Lib.strCells]
  have e2 : (o ++ s.data.toList).length = o.length + s.size := by simp
  rw [e1, e2]
  exact ho
theorem KB.on (h : KB w W v o) (hb : Below W.heap.size W W') : KB w W' v o := by
  refine ⟨?_, h.below.trans (below_less hb h.below.size)⟩
  have hr := h.row
  refine ⟨hr.1, ?_⟩
  rcases hr.2 with h' | ⟨g, cap, cur, h1, h2, h3, h4⟩
  · exact Or.inl h'
  · exact Or.inr ⟨g, cap, cur, h1, h2, (hb.block _ (blk_lt h3)).trans h3, h4⟩
set_option maxHeartbeats 4000000 in
set_option maxRecDepth 100000 in
theorem bool98_ok (c : Bool) (h : KB w W v o) (hl : o.length ≤ 100000000000000) : Calls Tryz.prog 98 #[v, .bool c] W fun e w' => ∃ va vn vc, e = .returned (.slice va vn vc) ∧ KB w w' (.slice va vn vc) (o ++ boolT c) := by
  obtain ⟨i0, hi, hz0, hz1, hz2⟩ := info_parts infoB
  obtain ⟨va, vn, vc, rfl⟩ := own_shape h.row
  have H := hide h
  have hbs := h.below.size
  clear h
  cases c with
  | true =>
    go_enter Tryz.func98, Tryz.ntmps98
    go_wp2_with (at_builtin; refine Lib.wpList_append_own_string (w := _) rfl _ _ 116 9 rfl w.heap.size 5 i0 Tryz.underlying116 Tryz.underlying9 hi hz0 hz1 hz2 _ _ _ rfl H.out.row ⟨#[116, 114, 117, 101]⟩ rfl ?c3 ?c4 ?c5 ?_)
    case c3 => show _ + 4 ≤ _; unfold maxLen; omega
    case c4 => show _ + 4 ≤ _; omega
    case c5 => exact hbs
    intro v' w2 ho hg _
    have hk := H.out.put ho hg
    obtain ⟨a2, n2, c2, rfl⟩ := own_shape ho
    have HK := hide hk
    clear ho hg hk H
    go_wp2
    go_ret
    exact ⟨a2, n2, c2, rfl, HK.out⟩
  | false =>
    go_enter Tryz.func98, Tryz.ntmps98
    go_wp2_with (at_builtin; refine Lib.wpList_append_own_string (w := _) rfl _ _ 116 9 rfl w.heap.size 5 i0 Tryz.underlying116 Tryz.underlying9 hi hz0 hz1 hz2 _ _ _ rfl H.out.row ⟨#[102, 97, 108, 115, 101]⟩ rfl ?c3 ?c4 ?c5 ?_)
    case c3 => show _ + 5 ≤ _; unfold maxLen; omega
    case c4 => show _ + 5 ≤ _; omega
    case c5 => exact hbs
    intro v' w2 ho hg _
    have hk := H.out.put ho hg
    obtain ⟨a2, n2, c2, rfl⟩ := own_shape ho
    have HK := hide hk
    clear ho hg hk H
    go_wp2
    go_ret
    exact ⟨a2, n2, c2, rfl, HK.out⟩
set_option maxHeartbeats 4000000 in
set_option maxRecDepth 100000 in
theorem bool_ok (c : Bool) (h : KB w W v o) (hl : o.length ≤ 100000000000000) : Calls Tryz.prog 81 #[v, .bool c] W fun e w' => ∃ va vn vc, e = .returned (.slice va vn vc) ∧ KB w w' (.slice va vn vc) (o ++ boolT c) := by
  have HB := hide (bool98_ok c h hl)
  obtain ⟨va, vn, vc, rfl⟩ := own_shape h.row
  clear h hl
  go_enter Tryz.func81, Tryz.ntmps81
  go_wp2_with (go_at_call 98; refine HB.out.mono ?_; rintro e w5 ⟨a2, n2, c2, rfl, h5⟩; have H5 := hide h5; clear HB h5)
  go_ret
  exact ⟨a2, n2, c2, rfl, H5.out⟩
end Go.Proofs.YtoahlnmhjinneaaGreatDoor

set_option linter.unusedSimpArgs false
set_option linter.unusedVariables false
namespace Go.Proofs.YtoahlnmhjinneaaGreatDoor
open Go.RowKit Go.Maps Go.Lib
variable {w w' W W' wb : World} {v : Value} {o : L} {l : List Nat}
abbrev Tab (w : World) : Prop := Lib.TabIs Tryz.prog w "internal/strconv.uint64pow10" .u64 Lib.pow10Tab
def dec (k : Nat) : L := Lib.decDigits k
theorem KB.blank {v' : Value} (h : KB wb W v o) (ho : W'.ownsRow wb.heap.size 5 1 v' (o.length + 1) (Lib.byteCells o ++ [.int .u8 32])) (hg : (W.alloc (.cells #[.int .u8 32] 5)).grownBy W' v.ownBlock) : KB wb W' v' (o ++ [32]) := by
  have hb : Below wb.heap.size wb (W.alloc (.cells #[.int .u8 32] 5)) := h.below.alloc h.below.size _
  refine ⟨?_, hb.grown hg hb.size fun k e => (h.row.lt k e).1⟩
  have e1 : Lib.byteCells (o ++ [32]) = Lib.byteCells o ++ [.int .u8 32] := by simp [Lib.byteCells]
  rw [e1, List.length_append, List.length_singleton]
  exact ho
theorem KB.int (h : KB wb W v o) (k : Nat) (hk : k ≤ 2300000000000) (hl : o.length ≤ 100000000000000) (hT : Tab wb) : Calls Tryz.prog 82 #[v, .int .i64 ((k : Nat) : Int), .int .i64 10] W fun e w' => ∃ va vn vc, e = .returned (.slice va vn vc) ∧ KB wb w' (.slice va vn vc) (o ++ dec k) := by
  refine (Tryz.strconv_AppendInt_10 wb.heap.size o.length (k : Int) (by omega) (by omega) v (Lib.byteCells o) W h.row h.below.size (by omega) ((Lib.tabBelow_of_tabIs hT).on h.below)).mono ?_
  rintro e w' ⟨v', h1, h2, h3, _⟩
  obtain ⟨va, vn, vc, rfl⟩ := own_shape h2
  rw [Lib.itoa_nonneg] at h2
  refine ⟨va, vn, vc, h1, ?_, h.below.trans h3⟩
  have e1 : Lib.byteCells (o ++ dec k) = Lib.byteCells o ++ Lib.byteCells (Lib.decDigits k) := by unfold Lib.byteCells dec; rw [List.map_append]
  rw [e1, List.length_append]
  exact h2
theorem dec_le : ∀ (n k : Nat), k < 10 ^ (n + 1) → (dec k).length ≤ n + 1
  | 0, k, h => by unfold dec; rw [Lib.decDigits, dif_pos (by simpa using h)]; simp
  | n + 1, k, h => by
    unfold dec
    rw [Lib.decDigits]
    split
    · simp
    · rw [List.length_append, List.length_singleton]
      have := dec_le n (k / 10) (Nat.div_lt_of_lt_mul (by rw [Nat.pow_succ] at h; omega))
      unfold dec at this
      omega
theorem dec_len (k : Nat) (hk : k ≤ 2300000000000) : (dec k).length ≤ 21 := by
  have := dec_le 19 k (by omega)
  omega
theorem dueT_take {i : Nat} (hi : i < l.length) : dueT dec (l.take (i + 1)) = (dueT dec (l.take i) ++ [32]) ++ dec l[i] := by
  rw [List.take_succ_eq_append_getElem hi]
  unfold dueT
  rw [List.flatMap_append, List.flatMap_cons, List.flatMap_nil, List.append_nil, List.append_assoc]
  rfl
theorem dueT_len (h : ∀ k ∈ l, k ≤ 2300000000000) : (dueT dec l).length ≤ l.length * 22 := by
  induction l with
  | nil => simp [dueT]
  | cons k l ih =>
    have e : dueT dec (k :: l) = 32 :: (dec k ++ dueT dec l) := by simp [dueT]
    have h1 := dec_len k (h k (List.mem_cons_self ..))
    have h2 := ih fun x hx => h x (List.mem_cons_of_mem _ hx)
    rw [e, List.length_cons, List.length_append, List.length_cons]
    omega
def boolsT (p q r : Bool) (i : Nat) : L := ([p, q, r].take i).flatMap boolT
theorem boolsT_len (p q r : Bool) (i : Nat) : (boolsT p q r i).length ≤ 15 := by
  have h1 : ∀ c, (boolT c).length ≤ 5 := fun c => by cases c <;> simp [boolT]
  have e : ∀ l : List Bool, (l.flatMap boolT).length ≤ l.length * 5 := fun l => by
    induction l with
    | nil => simp
    | cons c l ih => rw [List.flatMap_cons, List.length_append, List.length_cons]; have := h1 c; omega
  have := e ([p, q, r].take i)
  have h3 : ([p, q, r].take i).length ≤ 3 := by simp; omega
  unfold boolsT
  omega
set_option maxHeartbeats 16000000 in
set_option maxRecDepth 100000 in
theorem key_ok {fa : Option Addr} {fn fc : Nat} (p q r : Bool) (hd : w.ownsRow 0 3 1 (.slice fa fn fc) l.length (dueC l)) (hl : l.length ≤ 2300000000000) (hk : ∀ k ∈ l, k ≤ 2300000000000) (hT : Tab w) : Calls Tryz.prog 59 #[.agg (aT fa fn fc p q r)] w fun e w' => e = .returned (.string (bs (keyS dec ⟨l, p, q, r⟩))) ∧ Below w.heap.size w w' := by
  have hfn : fn = l.length := by
    rcases hd.2 with ⟨h', h0⟩ | ⟨g, c, cur, h', _⟩
    · cases h'; exact h0.symm
    · cases h'; rfl
  obtain ⟨i0, hi0, hz0, hz1, hz2⟩ := info_parts infoB
  have hb1 := (Below.refl w.heap.size w).alloc (Nat.le_refl _) (.cells (aT fa fn fc p q r) 69)
  have hB1 := Below_new w (.cells (aT fa fn fc p q r) 69)
  have c0 : (w.alloc (.cells (aT fa fn fc p q r) 69)).cell? ⟨w.heap.size, 1, none⟩ = some (.bool p) := cell_of hB1 rfl
  have c1 : (w.alloc (.cells (aT fa fn fc p q r) 69)).cell? ⟨w.heap.size, 2, none⟩ = some (.bool q) := cell_of hB1 rfl
  have c2 : (w.alloc (.cells (aT fa fn fc p q r) 69)).cell? ⟨w.heap.size, 3, none⟩ = some (.bool r) := cell_of hB1 rfl
  obtain ⟨wb, hwb⟩ : ∃ wb, (w.alloc (.cells (aT fa fn fc p q r) 69)).alloc (.cells #[.bool p, .bool q, .bool r] 4) = wb := ⟨_, rfl⟩
  have hb2 : Below w.heap.size w wb := by rw [← hwb]; exact hb1.alloc hb1.size _
  have hBx : wb.heap[w.heap.size]? = some (.cells (aT fa fn fc p q r) 69 (0, 0)) := by rw [← hwb, Below.heap_alloc _ _ _ (by simp)]; exact hB1
  have hBy : wb.heap[w.heap.size + 1]? = some (.cells #[.bool p, .bool q, .bool r] 4 (0, 0)) := by
    have hh := Below_new (w.alloc (.cells (aT fa fn fc p q r) 69)) (.cells #[.bool p, .bool q, .bool r] 4)
    rw [World.size_alloc] at hh
    rw [← hwb]
    exact hh
  have hTb : Tab wb := ((Lib.tabBelow_of_tabIs hT).on hb2).here
  have M0 : Hid (KB wb wb (.slice none 0 0) (boolsT p q r 0)) := hide ⟨World.ownsRow_nil _ _ _ _, Below.refl _ _⟩
  have H1 : Hid (∀ W i v, i < 3 → KB wb W v (boolsT p q r i) → ∃ c, W.cell? ⟨w.heap.size + 1, i, none⟩ = some (.bool c) ∧ Hid (Calls Tryz.prog 81 #[v, .bool c] W fun e w' => ∃ va vn vc, e = .returned (.slice va vn vc) ∧ Hid (KB wb w' (.slice va vn vc) (boolsT p q r (i + 1))))) := fun W i v hi h => by
    have hl15 := boolsT_len p q r i
    have hby := (h.below.block _ (blk_lt hBy)).trans hBy
    have main : ∀ c, boolsT p q r (i + 1) = boolsT p q r i ++ boolT c → Calls Tryz.prog 81 #[v, .bool c] W fun e w' => ∃ va vn vc, e = .returned (.slice va vn vc) ∧ Hid (KB wb w' (.slice va vn vc) (boolsT p q r (i + 1))) := fun c e => by
      rw [e]
      exact (bool_ok c h (by omega)).mono fun e w' ⟨va, vn, vc, h1, h2⟩ => ⟨va, vn, vc, h1, hide h2⟩
    have hi' : i = 0 ∨ i = 1 ∨ i = 2 := by omega
    rcases hi' with rfl | rfl | rfl
    · exact ⟨p, cell_of hby rfl, hide (main p (by simp [boolsT]))⟩
    · exact ⟨q, cell_of hby rfl, hide (main q (by simp [boolsT]))⟩
    · exact ⟨r, cell_of hby rfl, hide (main r (by simp [boolsT]))⟩
  have HX : Hid (∀ W v o, KB wb W v o → W.cell? ⟨w.heap.size, 0, none⟩ = some (.slice fa fn fc) ∧ ∃ a n c, v = .slice a n c) := fun W v o h => ⟨cell_of ((h.below.block _ (blk_lt hBx)).trans hBx) rfl, own_shape h.row⟩
  have HS : Hid (∀ W v o, KB wb W v o → ∃ a n c, v = .slice a n c) := fun W v o h => own_shape h.row
  have H2 : Hid (∀ W j v, j < fn → KB wb W v (boolsT p q r 3 ++ dueT dec (l.take j)) → ∃ g k, fa = some ⟨g, 0, none⟩ ∧ W.cell? ⟨g, j, none⟩ = some (.int .i64 ((k : Nat) : Int)) ∧ (∃ N zc, N ≤ 100000000000000 ∧ (W.alloc (.cells #[.int .u8 32] 5)).ownsRow wb.heap.size 5 1 v N zc ∧ wb.heap.size ≤ (W.alloc (.cells #[.int .u8 32] 5)).heap.size ∧ Hid (∀ v' W', W'.ownsRow wb.heap.size 5 1 v' (N + 1) (zc ++ [.int .u8 32]) → (W.alloc (.cells #[.int .u8 32] 5)).grownBy W' v.ownBlock → Calls Tryz.prog 82 #[v', .int .i64 ((k : Nat) : Int), .int .i64 10] W' fun e w' => ∃ va vn vc, e = .returned (.slice va vn vc) ∧ Hid (KB wb w' (.slice va vn vc) (boolsT p q r 3 ++ dueT dec (l.take (j + 1))))))) := fun W j v hj h => by
    rw [hfn] at hj
    have hlj : l[j]? = some l[j] := List.getElem?_eq_getElem hj
    have hkj := hk _ (List.getElem_mem hj)
    have h15 := boolsT_len p q r 3
    have h22 := dueT_len (l := l.take j) fun x hx => hk x (List.mem_of_mem_take hx)
    have hlt : (l.take j).length ≤ l.length := by simp; omega
    have hOl : (boolsT p q r 3 ++ dueT dec (l.take j)).length ≤ 60000000000000 := by rw [List.length_append]; omega
    have hW : Below w.heap.size w W := hb2.trans (below_less h.below hb2.size)
    rcases hd.2 with ⟨h', h0⟩ | ⟨g, c', cur, h', hbb, hgg, _⟩
    · omega
    · cases h'
      refine ⟨g, l[j], rfl, ?_, (boolsT p q r 3 ++ dueT dec (l.take j)).length, Lib.byteCells (boolsT p q r 3 ++ dueT dec (l.take j)), ?_, ?_, ?_, hide fun v' W' ho hg => ?_⟩
      rotate_left
      · omega
      · exact (h.on ((Below.refl _ W).alloc (Nat.le_refl _) _)).row
      · have := h.below.size
        simp
        omega
      · have hkb := h.blank ho hg
        rw [dueT_take hj, ← List.append_assoc, ← List.append_assoc]
        exact (hkb.int l[j] hkj (by rw [List.length_append, List.length_singleton]; omega) hTb).mono fun e w' ⟨va, vn, vc, h1, h2⟩ => ⟨va, vn, vc, h1, hide h2⟩
      · rw [World.cell?_of_block (hW.block g (blk_lt hgg)), hd.cellAt j (by omega)]
        unfold dueC
        rw [List.getElem?_map, hlj]
        rfl
  have HE : Hid (∀ W v, KB wb W v (boolsT p q r 3 ++ dueT dec (l.take fn)) → (convert 116 9 v).run Tryz.prog W = .ok (.string (bs (keyS dec ⟨l, p, q, r⟩))) W ∧ Below w.heap.size w W) := fun W v h => by
    have e : keyS dec ⟨l, p, q, r⟩ = boolsT p q r 3 ++ dueT dec (l.take fn) := by
      rw [hfn, List.take_length]
      simp [keyS, boolsT]
    rw [e]
    exact ⟨conv_own h.row, hb2.trans (below_less h.below hb2.size)⟩
  have hlf : fn ≤ 2300000000000 := by omega
  have M1 : Hid (∀ W v, KB wb W v (boolsT p q r 3) → KB wb W v (boolsT p q r 3 ++ dueT dec (l.take 0))) := fun W v h => by
    rw [List.take_zero, show dueT dec [] = [] from rfl, List.append_nil]; exact h
  clear hd hl hk hT hTb hfn hb1 hB1 hb2 hBx hBy
  obtain ⟨R1, hR1⟩ : ∃ R1 : Nat → Value → World → Prop, ∀ i v W, R1 i v W = KB wb W v (boolsT p q r i) := ⟨_, fun _ _ _ => rfl⟩
  obtain ⟨R2, hR2⟩ : ∃ R2 : Nat → Value → World → Prop, ∀ j v W, R2 j v W = KB wb W v (boolsT p q r 3 ++ dueT dec (l.take j)) := ⟨_, fun _ _ _ => rfl⟩
  have HX3 : Hid (∀ W v, R1 3 v W → W.cell? ⟨w.heap.size, 0, none⟩ = some (.slice fa fn fc)) := fun W v h => (HX.out W v _ (by rw [← hR1]; exact h)).1
  have HS1 : Hid (∀ i W v, R1 i v W → ∃ a n c, v = .slice a n c) := fun i W v h => HS.out W v _ (by rw [← hR1]; exact h)
  have HS2 : Hid (∀ i W v, R2 i v W → ∃ a n c, v = .slice a n c) := fun i W v h => HS.out W v _ (by rw [← hR2]; exact h)
  simp only [← hR1, ← hR2] at M0 H1 H2 HE M1
  clear hR1 hR2 HX HS
  generalize keyS dec ⟨l, p, q, r⟩ = KEY at *
  have HWB := hide hwb
  clear hwb
  go_enter Tryz.func59, Tryz.ntmps59
  go_wp2_with fail
  rw [HWB.out]
  clear c0 c1 c2
  go_loopw [3, 5, 16, 17, 18, 19, 20, 21, 22, 23] (fun u3 _ u16 _ _ _ _ _ _ _ wr => ∃ i : Nat, u16 = .int .i64 i ∧ i ≤ 3 ∧ Hid (R1 i u3 wr)) (fun _ _ u16 _ _ _ _ _ _ _ _ => 3 - (RowKit.intOf u16).toNat)
  case atStart => exact ⟨0, rfl, by omega, M0⟩
  case round =>
    rename World => WO
    obtain ⟨i, rfl, hi, HM⟩ := hrel
    obtain ⟨a3, n3, c3, rfl⟩ := HS1.out _ _ _ HM.out
    by_cases hlt : i < 3
    · obtain ⟨c, a0, HC⟩ := H1.out _ i _ hlt HM.out
      have hdec : decide ((i : Int) < 3) = true := by simp; omega
      have hii : (i : Int) < 3 := by omega
      clear H1 H2 HE HM M0 M1 HX3 HS1 HS2
      go_wp2_with (go_at_call 81; refine HC.out.mono ?_; rintro e w5 ⟨a5, n5, c5, rfl, h5⟩; clear HC)
      exact ⟨⟨i + 1, by simp, by omega, h5⟩, by simp only [RowKit.intOf]; omega⟩
    · have hdec : decide ((i : Int) < 3) = false := by simp; omega
      have hi3 : i = 3 := by omega
      have HM3 := HM.out
      rw [hi3] at HM3
      have d0 := HX3.out _ _ HM3
      have HM1 := hide (M1.out _ _ HM3)
      clear HM3 hi3
      clear H1 HM M0 M1 HX3 HS1
      go_wp2_with fail
      clear d0
      go_loopw [3, 7, 27, 28, 29, 30, 31, 32, 33, 34, 35, 36] (fun u3 _ u27 _ _ _ _ _ _ _ _ _ wr => ∃ j : Nat, u27 = .int .i64 j ∧ j ≤ fn ∧ Hid (R2 j u3 wr)) (fun _ _ u27 _ _ _ _ _ _ _ _ _ _ => fn - (RowKit.intOf u27).toNat)
      case atStart => exact ⟨0, rfl, Nat.zero_le _, HM1⟩
      case round =>
        rename World => WP
        obtain ⟨j, rfl, hj, HJ⟩ := hrel
        obtain ⟨b3, m3, e3, rfl⟩ := HS2.out _ _ _ HJ.out
        by_cases hlj : j < fn
        · obtain ⟨g, k, rfl, a0, N, zc, hN, hown, hsz, HC⟩ := H2.out _ j _ hlj HJ.out
          have hdj : decide ((j : Int) < fn) = true := by simp; omega
          have hjj : (j : Int) < fn := by omega
          have HO := hide hown
          have HZ := hide hsz
          clear H2 HE HJ HM1 HS2 hown hsz
          go_wp2_with (first
            | (at_builtin; refine wpList_append_own_at (w := _) rfl _ _ 116 rfl wb.heap.size 5 i0 _ 1 1 Tryz.underlying116 hi0 hz0 hz1 hz2 rfl (by decide) _ _ _ rfl HO.out ⟨WP.heap.size, 0, none⟩ 1 1 [.int .u8 32] rfl rfl (cell_one_new _ _ _) (by simp [Value.oneCell']) (by unfold maxLen; omega) (by omega) HZ.out ?_; intro v7 w7 ho7 hg7 _ hat7; have HC7 := hide (HC.out _ _ ho7 hg7); obtain ⟨a7, n7, c7, rfl⟩ := own_shape ho7; clear HC ho7 hg7 hat7 HO HZ)
            | (go_at_call 82; refine HC7.out.mono ?_; rintro e w8 ⟨a8, n8, c8, rfl, h8⟩; clear HC7))
          exact ⟨⟨j + 1, by simp, by omega, h8⟩, by simp only [RowKit.intOf]; omega⟩
        · have hdj : decide ((j : Int) < fn) = false := by simp; omega
          obtain rfl : j = fn := by omega
          obtain ⟨hcv, hbw⟩ := HE.out _ _ HJ.out
          have HBW := hide hbw
          clear H2 HE HJ HM1 HS2 hbw
          go_wp2
          go_ret
          exact ⟨rfl, HBW.out⟩
end Go.Proofs.YtoahlnmhjinneaaGreatDoor
