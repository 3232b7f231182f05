import Derived.Test.YtgognegkcplcpaaGreatDoorGao
set_option linter.unusedVariables false
set_option linter.unusedSimpArgs false
set_option linter.unusedSimpArgs false
set_option linter.unusedVariables false
namespace Go.Proofs.YtgognegkcplcpaaGreatDoor
open Go.RowKit Go.Maps Go.Lib
variable {F F' G A B : Nat → Prop} {R : Nat} {w w' w'' wr w1 : World} {a : Addr} {v v1 v2 lv : Value} {N n : Nat} {l l1 l2 : List Tok}
def spoiltV : Value := .string ⟨#[115, 112, 111, 105, 108, 116]⟩
structure Spo (K : Nat) (w0 : World) (g n : Nat) (Gv : Nat → Option Addr) (M C : Nat → Nat) (wr : World) (ik i k : Nat) : Prop where
  row : n ≠ 0 → K ≤ g ∧ ∃ cur, wr.heap[g]? = some (.cells cur 49 (0, 0))
  attr : ∀ j, j < n → wr.cell? ⟨g, j * 5 + 2, none⟩ = some (.slice (Gv j) (M j) (C j))
  kind : ∀ j, j < n → ∃ z, wr.cell? ⟨g, j * 5, none⟩ = some (.int .i64 z)
  rows : ∀ j m, j < n → m < M j → ∃ h x, Gv j = some ⟨h, 0, none⟩ ∧ K ≤ h ∧ (∃ cur, wr.heap[h]? = some (.cells cur 52 (0, 0))) ∧ wr.cell? ⟨h, m * 2, none⟩ = some (.string x)
  doneK : ∀ j, j < ik → j < n → wr.cell? ⟨g, j * 5, none⟩ = some (.int .i64 (-9))
  doneA : ∀ j m h, (j < i ∨ (j = i ∧ m < k)) → j < n → m < M j → Gv j = some ⟨h, 0, none⟩ → wr.cell? ⟨h, m * 2, none⟩ = some spoiltV
  past : Below K w0 wr
  len : ∀ j, j < n → M j ≤ 9223372036854775807
variable {K g : Nat} {w0 : World} {Gv : Nat → Option Addr} {M C : Nat → Nat} {ik i k : Nat}
theorem tag_set {w : World} {b : Nat} {t : TypeId} (p : Addr) (v : Value) (h : ∃ cur, w.heap[b]? = some (.cells cur t (0, 0))) (hp : p = ⟨p.block, p.off, none⟩) : ∃ cur, (w.setCell p v).heap[b]? = some (.cells cur t (0, 0)) := by
  obtain ⟨cur, h⟩ := h
  by_cases e : p.block = b
  · rw [hp, e]; exact ⟨_, set_of h v⟩
  · exact ⟨cur, (Below.heap_setCell w p v b (fun x => e x.symm)).trans h⟩
theorem Spo.apart (h : Spo K w0 g n Gv M C wr ik i k) {j m : Nat} (hj : j < n) (hm : m < M j) {b : Nat} (e : Gv j = some ⟨b, 0, none⟩) : b ≠ g := by
  rintro rfl
  obtain ⟨h', x, e', _, ⟨cur, hc⟩, _⟩ := h.rows j m hj hm
  rw [e] at e'
  cases e'
  obtain ⟨_, cur2, hc2⟩ := h.row (by omega)
  rw [hc] at hc2
  cases hc2
theorem Spo.setKind (h : Spo K w0 g n Gv M C wr i i 0) (hi : i < n) : Spo K w0 g n Gv M C (wr.setCell ⟨g, i * 5, none⟩ (.int .i64 (-9))) (i + 1) i 0 := by
  have hf : ∀ b o, b ≠ g → (wr.setCell ⟨g, i * 5, none⟩ (.int .i64 (-9))).cell? ⟨b, o, none⟩ = wr.cell? ⟨b, o, none⟩ := fun b o hb => World.cell?_setCell_other _ _ _ _ (by simp [Ne.symm hb])
  have ho : ∀ o, o ≠ i * 5 → (wr.setCell ⟨g, i * 5, none⟩ (.int .i64 (-9))).cell? ⟨g, o, none⟩ = wr.cell? ⟨g, o, none⟩ := fun o hb => World.cell?_setCell_other _ _ _ _ (by simp [Ne.symm hb])
  obtain ⟨z, hz⟩ := h.kind i hi
  have hs : (wr.setCell ⟨g, i * 5, none⟩ (.int .i64 (-9))).cell? ⟨g, i * 5, none⟩ = some (.int .i64 (-9)) := World.cell?_setCell_same _ _ _ hz
  have hK := (h.row (by omega)).1
  refine ⟨fun hn => ⟨hK, tag_set _ _ (h.row hn).2 rfl⟩, fun j hj => by rw [ho _ (by omega)]; exact h.attr j hj, fun j hj => ?_, fun j m hj hm => ?_, fun j hj hn => ?_, fun j m b hd hj hm e => ?_, ?_, h.len⟩
  · by_cases e : j = i
    · subst e; exact ⟨_, hs⟩
    · rw [ho _ (by omega)]; exact h.kind j hj
  · obtain ⟨b, x, e, hb, hc, hx⟩ := h.rows j m hj hm
    exact ⟨b, x, e, hb, tag_set _ _ hc rfl, by rw [hf b _ (h.apart hj hm e)]; exact hx⟩
  · by_cases e : j = i
    · subst e; exact hs
    · rw [ho _ (by omega)]; exact h.doneK j (by omega) hn
  · rw [hf b _ (h.apart hj hm e)]; exact h.doneA j m b hd hj hm e
  · have hz : (wr.setCell ⟨g, i * 5, none⟩ (.int .i64 (-9))).heap.size = wr.heap.size := by simp [World.setCell]
    exact h.past.trans ⟨rfl, rfl, rfl, by rw [hz]; exact Nat.le_refl _, fun k hk => Below.heap_setCell _ _ _ _ (by show k ≠ g; omega)⟩
theorem Spo.setName (h : Spo K w0 g n Gv M C wr (i + 1) i k) (hi : i < n) (hk : k < M i) {b : Nat} (e : Gv i = some ⟨b, 0, none⟩) : Spo K w0 g n Gv M C (wr.setCell ⟨b, k * 2, none⟩ spoiltV) (i + 1) i (k + 1) := by
  obtain ⟨b', x, e', hbK, hc, hx⟩ := h.rows i k hi hk
  rw [e] at e'
  cases e'
  have hbg := h.apart hi hk e
  have hg : ∀ o, (wr.setCell ⟨b, k * 2, none⟩ spoiltV).cell? ⟨g, o, none⟩ = wr.cell? ⟨g, o, none⟩ := fun o => World.cell?_setCell_other _ _ _ _ (by simp [hbg])
  have hs : (wr.setCell ⟨b, k * 2, none⟩ spoiltV).cell? ⟨b, k * 2, none⟩ = some spoiltV := World.cell?_setCell_same _ _ _ hx
  have hc2 : ∀ d o, ¬ (d = b ∧ o = k * 2) → (wr.setCell ⟨b, k * 2, none⟩ spoiltV).cell? ⟨d, o, none⟩ = wr.cell? ⟨d, o, none⟩ := fun d o hne => World.cell?_setCell_other _ _ _ _ (by
    simp only [ne_eq, Addr.mk.injEq, and_true]; rintro ⟨h1, h2⟩; exact hne ⟨h1.symm, h2.symm⟩)
  refine ⟨fun hn => ⟨(h.row hn).1, tag_set _ _ (h.row hn).2 rfl⟩, fun j hj => by rw [hg]; exact h.attr j hj, fun j hj => by rw [hg]; exact h.kind j hj, fun j m hj hm => ?_, fun j hj hn => by rw [hg]; exact h.doneK j hj hn, fun j m d hd hj hm ed => ?_, ?_, h.len⟩
  · obtain ⟨d, y, ed, hd, hcd, hy⟩ := h.rows j m hj hm
    by_cases q : d = b ∧ m * 2 = k * 2
    · obtain ⟨rfl, q⟩ := q
      exact ⟨d, _, ed, hd, tag_set _ _ hcd rfl, by rw [q]; exact hs⟩
    · exact ⟨d, y, ed, hd, tag_set _ _ hcd rfl, by rw [hc2 d _ q]; exact hy⟩
  · by_cases q : d = b ∧ m * 2 = k * 2
    · obtain ⟨rfl, q⟩ := q
      rw [q]; exact hs
    · rw [hc2 d _ q]
      refine h.doneA j m d ?_ hj hm ed
      rcases hd with hd | ⟨rfl, hd⟩
      · exact Or.inl hd
      · right
        refine ⟨rfl, ?_⟩
        by_cases e2 : m = k
        · subst e2
          rw [e] at ed
          cases ed
          exact absurd ⟨rfl, rfl⟩ q
        · omega
  · have hz : (wr.setCell ⟨b, k * 2, none⟩ spoiltV).heap.size = wr.heap.size := by simp [World.setCell]
    exact h.past.trans ⟨rfl, rfl, rfl, by rw [hz]; exact Nat.le_refl _, fun k' hk' => Below.heap_setCell _ _ _ _ (by show k' ≠ b; omega)⟩
theorem Spo.next (h : Spo K w0 g n Gv M C wr (i + 1) i k) (hk : ¬ k < M i) : Spo K w0 g n Gv M C wr (i + 1) (i + 1) 0 :=
  ⟨h.row, h.attr, h.kind, h.rows, h.doneK, fun j m b hd hj hm e => by
    refine h.doneA j m b ?_ hj hm e
    by_cases q : j = i
    · subst q; exact Or.inr ⟨rfl, by omega⟩
    · exact Or.inl (by omega), h.past, h.len⟩
theorem Spo.keep (h : Spo K w0 g n Gv M C wr ik i k) (hK : K ≤ wr.heap.size) (b : Below wr.heap.size wr w') : Spo K w0 g n Gv M C w' ik i k := by
  have hc : ∀ p x, wr.cell? p = some x → w'.cell? p = some x := fun p x hp => (b.cell (World.block_lt_of_cell? wr p hp)).trans hp
  have ht : ∀ {d : Nat} {t : TypeId}, (∃ cur, wr.heap[d]? = some (Obj.cells cur t (0, 0))) → ∃ cur, w'.heap[d]? = some (Obj.cells cur t (0, 0)) := fun ⟨cur, h⟩ => ⟨cur, (b.block _ (blk_lt h)).trans h⟩
  refine ⟨fun hn => ⟨(h.row hn).1, ht (h.row hn).2⟩, fun j hj => hc _ _ (h.attr j hj), fun j hj => ?_, fun j m hj hm => ?_, fun j hj hn => hc _ _ (h.doneK j hj hn), fun j m d hd hj hm e => hc _ _ (h.doneA j m d hd hj hm e), h.past.trans (below_less b hK), h.len⟩
  · obtain ⟨z, hz⟩ := h.kind j hj
    exact ⟨z, hc _ _ hz⟩
  · obtain ⟨d, x, e, hd, hcd, hx⟩ := h.rows j m hj hm
    exact ⟨d, x, e, hd, ht hcd, hc _ _ hx⟩
theorem Ans.spo (h : Ans A w1 v l) (hA : ∀ k, A k → K ≤ k) (b : Below K w w1) : ∃ g Gv M C bl cl, v = .slice bl l.length cl ∧ (l.length ≠ 0 → bl = some ⟨g, 0, none⟩) ∧ Spo K w g l.length Gv M C w1 0 0 0 := by
  obtain ⟨bl, cl, rfl, _⟩ := slice_of h
  by_cases hn : l.length = 0
  · exact ⟨0, fun _ => none, fun _ => 0, fun _ => 0, bl, cl, rfl, fun e => absurd hn e, ⟨fun e => absurd hn e, fun j hj => by omega, fun j hj => by omega, fun j m hj => by omega, fun j hj hn => by omega, fun j m d hd hj => by omega, b, fun j hj => by omega⟩⟩
  · have hat := fun j hj => h.at j hj
    obtain ⟨cs, o1, t1, a1⟩ := h
    have o1' := o1
    rcases o1'.2 with ⟨e, e0⟩ | ⟨g, cap, cur, e, _, hg, _⟩
    · exact absurd e0 hn
    cases e
    have key : ∀ (l : List Tok) (cs : List Value), Toks A 0 w1 nilS l cs → ∀ (i : Nat) (hi : i < l.length), ∃ va, w1.ownsRow 0 52 2 va (l[i]).attrs.length (attrCells (l[i]).attrs) ∧ cs[i * 5]? = some (.int .i64 (l[i]).kind) ∧ cs[i * 5 + 2]? = some va ∧ ∀ k, va.ownBlock = some k → A k := by
      intro l cs h
      induction h with
      | nil => intro i hi; cases hi
      | cons t v l cs ho hf hl ih =>
        intro i hi
        cases i with
        | zero => exact ⟨v, ho, rfl, rfl, fun k e => (hf k e).1⟩
        | succ i =>
          obtain ⟨va, a0, a1, a2, a3⟩ := ih i (by simpa using hi)
          have e1 : ∀ j, (i + 1) * 5 + j = (tokCells t v).length + (i * 5 + j) := fun j => by show _ = 5 + _; omega
          have e2 : ∀ j, (tokCells t v ++ cs)[(i + 1) * 5 + j]? = cs[i * 5 + j]? := fun j => by rw [e1, List.getElem?_append_right (Nat.le_add_right _ _), Nat.add_sub_cancel_left]
          exact ⟨va, a0, (e2 0).trans a1, (e2 2).trans a2, a3⟩
    have hc := o1.cells (g := g) rfl
    have up : ∀ j u, cs[j]? = some u → w1.cell? ⟨g, j, none⟩ = some u := fun j u hj => by
      have := hc j u hj
      rwa [Addr.add_mid, Nat.zero_add] at this
    have ex : ∀ j, ∃ (q : Option Addr × Nat × Nat), (hj : j < l.length) → w1.cell? ⟨g, j * 5 + 2, none⟩ = some (.slice q.1 q.2.1 q.2.2) ∧ (∃ z, w1.cell? ⟨g, j * 5, none⟩ = some (.int .i64 z)) ∧ (∀ m, m < q.2.1 → ∃ h x, q.1 = some ⟨h, 0, none⟩ ∧ K ≤ h ∧ (∃ cur, w1.heap[h]? = some (.cells cur 52 (0, 0))) ∧ w1.cell? ⟨h, m * 2, none⟩ = some (.string x)) ∧ q.2.1 ≤ 9223372036854775807 := by
      intro j
      by_cases hj : j < l.length
      · obtain ⟨va, ow, k0, k2, kA⟩ := key l cs t1 j hj
        obtain ⟨ao, ca, rfl⟩ := slice_len ow
        refine ⟨(ao, (l[j]).attrs.length, ca), fun _ => ⟨up _ _ k2, ⟨_, up _ _ k0⟩, fun m hm => ?_, ?_⟩⟩
        rotate_left
        · have ow' := ow
          have hmx : maxLen = 9223372036854775807 := rfl
          rcases ow'.2 with ⟨e, e0⟩ | ⟨ga, ca', cur', e, _, hga, h1, h2, _⟩
          · simp only; omega
          · simp only; omega
        have ow' := ow
        rcases ow'.2 with ⟨e, e0⟩ | ⟨ga, ca', cur', e, _, hga, _⟩
        · simp only at hm; omega
        cases e
        have ac := attr_cells ow m hm
        exact ⟨ga, _, rfl, hA ga (kA ga rfl), ⟨cur', hga⟩, ac.1⟩
      · exact ⟨(none, 0, 0), fun h => absurd h hj⟩
    have exf := fun j => Classical.choose_spec (ex j)
    refine ⟨g, fun j => (Classical.choose (ex j)).1, fun j => (Classical.choose (ex j)).2.1, fun j => (Classical.choose (ex j)).2.2, _, _, rfl, fun _ => rfl, ⟨fun _ => ⟨hA g (a1 g rfl), cur, hg⟩, fun j hj => (exf j hj).1, fun j hj => (exf j hj).2.1, fun j m hj hm => (exf j hj).2.2.1 m hm, fun j hj => by omega, fun j m d hd => by omega, b, fun j hj => (exf j hj).2.2.2⟩⟩
end Go.Proofs.YtgognegkcplcpaaGreatDoor

set_option linter.unusedSimpArgs false
set_option linter.unusedVariables false
namespace Go.Proofs.YtgognegkcplcpaaGreatDoor
open Go.RowKit Go.Maps Go.Lib
variable {F F' G A B : Nat → Prop} {R : Nat} {w w' w'' wr w1 : World} {a : Addr} {v v1 v2 lv : Value} {N n : Nat} {l l1 l2 : List Tok}
set_option maxHeartbeats 8000000 in
set_option maxRecDepth 10000 in
theorem tokenOwn_ok (b : ByteArray) (w : World) (gl : Gl w a) (hb : b.size ≤ 2147483648) : Calls Tryz.prog 7 #[.string b] w fun e w' => e = .returned (.bool true) ∧ Below w.heap.size w w' := by
  have hgl := fun w' (h : Below w.heap.size w w') => gl.below gl.size h
  have hall : ∀ w', Below w.heap.size w w' → Calls Tryz.prog 9 #[.string b] w' (AllEnd w' (refAll b)) := fun w' h => by
    have := all_ok b w' (hgl w' h) hb
    rw [all_ref] at this
    exact this
  have href := fun w' => refAll_ok b w' hb
  have hali := fun w' (h : Below w.heap.size w w') => alive_ok (hgl w' h)
  have HLI := hide hali
  have HR := hide href
  have HAL := hide hall
  have hnum := num_ok
  clear hgl hali href gl hall
  unfold AllEnd at HAL
  generalize refAll b = Z at *
  obtain ⟨T, no, q⟩ := Z
  simp only at HAL HR
  go_enter Tryz.func7, Tryz.ntmps7
  go_wp2_with fail
  refine (HAL.out w (Below.refl _ _)).mono ?_
  rintro e w1 ⟨lv, A, rfl, an, b1, hA, _⟩
  obtain ⟨g, Gv, M, C, bl, cl, rfl, hbl, sp⟩ := an.spo hA b1
  have hz1 := b1.size
  have hT : (T.length : Int) ≤ 9223372036854775807 := by obtain ⟨_, _, _, hm⟩ := slice_of an; have : maxLen = 9223372036854775807 := rfl; omega
  generalize T.length = L at *
  have SP := hide sp
  have HBL := hide hbl
  clear sp hbl an hA b1
  go_wp2_with fail
  go_loopw [6, 7] (fun iv _ wr => ∃ i : Nat, iv = .int .i64 i ∧ i ≤ L ∧ Spo w.heap.size w g L Gv M C wr i i 0) (fun iv _ _ => L - (RowKit.intOf iv).toNat)
  case atStart => exact ⟨0, rfl, Nat.zero_le _, SP.out⟩
  case round =>
    obtain ⟨i, rfl, hi, sp⟩ := hrel
    by_cases hlt : i < L
    · have hdec : decide ((i : Int) < (L : Int)) = true := by simp; omega
      have hwi : IntKind.i64.wrap ((i : Int) + 1) = (i : Int) + 1 := by rw [IntKind.wrap_i64]; omega
      have hb2 := HBL.out (by omega)
      subst hb2
      obtain ⟨z, hz⟩ := sp.kind i hlt
      obtain ⟨_, cur, hcur⟩ := sp.row (by omega)
      have hfr : wr.frozen? ⟨g, i * 5, none⟩ = false := free_of hcur
      have SP2 := hide (sp.setKind hlt)
      have hML := sp.len i hlt
      clear sp hcur
      go_wp2_with fail
      go_loopw [7] (fun kv wr2 => ∃ k : Nat, kv = .int .i64 k ∧ k ≤ M i ∧ Spo w.heap.size w g L Gv M C wr2 (i + 1) i k) (fun kv _ => M i - (RowKit.intOf kv).toNat)
      case atStart => exact ⟨0, rfl, Nat.zero_le _, SP2.out⟩
      case round =>
        obtain ⟨k, rfl, hk, sp3⟩ := hrel
        have cat := sp3.attr i hlt
        by_cases hkl : k < M i
        · have hdk : decide ((k : Int) < (M i : Int)) = true := by simp; omega
          have hwk : IntKind.i64.wrap ((k : Int) + 1) = (k : Int) + 1 := by rw [IntKind.wrap_i64]; omega
          obtain ⟨h, x, eh, hK, ⟨cur2, hcur2⟩, hx⟩ := sp3.rows i k hlt hkl
          have hfr2 : wr.frozen? ⟨h, k * 2, none⟩ = false := free_of hcur2
          have SP4 := hide (sp3.setName hlt hkl eh)
          rw [eh] at cat
          clear sp3 hcur2
          unfold spoiltV at SP4
          go_wp2_with fail
          exact ⟨⟨k + 1, by simp, by omega, SP4.out⟩, by simp only [RowKit.intOf]; omega⟩
        · have hdk : decide ((k : Int) < (M i : Int)) = false := by simp; omega
          have SP4 := hide (sp3.next hkl)
          clear sp3
          go_wp2_with fail
          exact ⟨⟨i + 1, by simp, by omega, SP4.out⟩, by simp only [RowKit.intOf]; omega⟩
    · have hdec : decide ((i : Int) < (L : Int)) = false := by simp; omega
      obtain rfl : L = i := by omega
      have hwz : w.heap.size ≤ wr.heap.size := sp.past.size
      have hcall := HAL.out wr sp.past
      have SP2 := hide sp
      clear sp
      go_wp2_with fail
      refine hcall.mono ?_
      rintro e w2 ⟨mv, A2, rfl, an2, b2, _, _⟩
      have SP3 := hide (SP2.out.keep hwz b2)
      have AN2 := hide an2
      have hwz2 : w.heap.size ≤ w2.heap.size := Nat.le_trans hwz b2.size
      clear an2 b2 hcall
      go_wp2_with fail
      refine (HR.out _).mono ?_
      rintro e w3 ⟨rv, rfl, ra, b3⟩
      have SP4 := hide (SP3.out.keep hwz2 b3)
      have AN3 := hide (AN2.out.past b3)
      have RA := hide ra.view
      have hwz3 : w.heap.size ≤ w3.heap.size := Nat.le_trans hwz2 b3.size
      clear ra b3
      go_wp2_with fail
      go_loopw [14, 15] (fun iv _ wr => ∃ i : Nat, iv = .int .i64 i ∧ i ≤ L ∧ Below w3.heap.size w3 wr) (fun iv _ _ => L - (RowKit.intOf iv).toNat)
      case atStart => exact ⟨0, rfl, Nat.zero_le _, Below.refl _ _⟩
      case round =>
        obtain ⟨i, rfl, hi, br⟩ := hrel
        have sp5 := SP4.out.keep hwz3 br
        by_cases hlt : i < L
        · have hdec : decide ((i : Int) < (L : Int)) = true := by simp; omega
          have hwi : IntKind.i64.wrap ((i : Int) + 1) = (i : Int) + 1 := by rw [IntKind.wrap_i64]; omega
          have hb2 := HBL.out (by omega)
          subst hb2
          have ck := sp5.doneK i hlt hlt
          have hML := sp5.len i hlt
          have BR := hide br
          clear br sp5
          go_wp2_with fail
          go_loopw [15] (fun kv wr2 => ∃ k : Nat, kv = .int .i64 k ∧ k ≤ M i ∧ Below w3.heap.size w3 wr2) (fun kv _ => M i - (RowKit.intOf kv).toNat)
          case atStart => exact ⟨0, rfl, Nat.zero_le _, BR.out⟩
          case round =>
            obtain ⟨k, rfl, hk, br6⟩ := hrel
            have sp6 := SP4.out.keep hwz3 br6
            have cat := sp6.attr i hlt
            by_cases hkl : k < M i
            · have hdk : decide ((k : Int) < (M i : Int)) = true := by simp; omega
              have hwk : IntKind.i64.wrap ((k : Int) + 1) = (k : Int) + 1 := by rw [IntKind.wrap_i64]; omega
              obtain ⟨h, x, eh, hK, hcur2, hx⟩ := sp6.rows i k hlt hkl
              have hx2 := sp6.doneA i k h (Or.inl hlt) hlt hkl eh
              unfold spoiltV at hx2
              rw [eh] at cat
              have BR6 := hide br6
              clear sp6 hcur2 br6 hx
              go_wp2_with fail
              exact ⟨⟨k + 1, by simp, by omega, BR6.out⟩, by simp only [RowKit.intOf]; omega⟩
            · have hdk : decide ((k : Int) < (M i : Int)) = false := by simp; omega
              have BR6 := hide br6
              clear sp6 br6
              go_wp2_with fail
              exact ⟨⟨i + 1, by simp, by omega, BR6.out⟩, by simp only [RowKit.intOf]; omega⟩
        · have hdec : decide ((i : Int) < (L : Int)) = false := by simp; omega
          have B7 := hide (SP4.out.past.trans (below_less br hwz3))
          have AN7 := hide (AN3.out.past br)
          have RA7 := hide (RA.out.past br)
          clear br sp5
          go_wp2_with fail
          refine (same_ok AN7.out RA7.out).mono ?_
          rintro e w8 ⟨rfl, b8⟩
          have B8 := hide (B7.out.trans (below_less b8 B7.out.size))
          clear b8
          go_wp2_with (first | (go_at_call 12; refine (hnum _ _).mono ?_; rintro e wx ⟨rfl, hwx⟩; have hwy := hwx.symm; clear hwx; subst hwy) | (go_at_call 13; refine (HLI.out _ B8.out).mono ?_; rintro e w9 ⟨rfl, b9⟩; have B9 := hide (B8.out.trans (below_less b9 B8.out.size)); clear b9))
          go_ret
          exact ⟨rfl, B9.out⟩
end Go.Proofs.YtgognegkcplcpaaGreatDoor
