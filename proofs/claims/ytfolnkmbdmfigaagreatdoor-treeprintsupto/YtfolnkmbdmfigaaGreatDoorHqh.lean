import Derived.Lib.SmallJoins
import Derived.Test.YtfolnkmbdmfigaaGreatDoorGaw
import Derived.Test.YtfolnkmbdmfigaaGreatDoorHqg
import Derived.Test.YtfolnkmbdmfigaaGreatDoorGbb
import Derived.Test.YtfolnkmbdmfigaaGreatDoorHqe
import Derived.Test.YtfolnkmbdmfigaaGreatDoorHqf
set_option linter.unusedVariables false
set_option linter.unusedSimpArgs false
set_option linter.unusedSimpArgs false
set_option linter.unusedVariables false
namespace Go.Proofs.YtfolnkmbdmfigaaGreatDoor
open Go.RowKit Go.Lib
variable {s : ByteArray} {p : Nat} {c : Int} {x y z : Sc} {q : Bool}

def GoodT (t : List UInt8) : Prop := TextOf t ∧ t ≠ []
def GoodE (n : List UInt8) (a : Ats) : Prop := NameOf n ∧ (∀ x ∈ a, NameOf x.1 ∧ TextOf x.2) ∧ Dist [] a
theorem makes_good {f : Fo} {l : List Tok} (h : Makes f l) : ∀ b, Chain b l → f.All GoodT GoodE ∧ f.Apart b := by
  induction h with
  | nil => intro b _; exact ⟨trivial, trivial⟩
  | text t r l h1 h2 h ih =>
    intro b hc
    obtain ⟨c1, c2, c3⟩ := hc
    rcases c1 with ⟨k, _⟩ | ⟨k, _⟩ | ⟨k, k1, k2, k3, k4⟩
    · exact absurd k h1
    · exact absurd k h2
    · obtain ⟨i1, i2⟩ := ih _ c3
      have e : (t.kind == 3) = true := by simpa using k
      rw [e] at i2
      exact ⟨⟨⟨k3, k4⟩, i1⟩, c2 k, i2⟩
  | elem t c k r lk lr h1 h2 hn hk hr ihk ihr =>
    intro b hc
    obtain ⟨c1, c2, c3⟩ := hc
    have e : (t.kind == 3) = false := by rw [h1]; rfl
    rw [e, chain_append] at c3
    obtain ⟨d1, d2, d3, d4⟩ := c3
    obtain ⟨i1, i2⟩ := ihk _ d1
    have e2 : (c.kind == 3) = false := by rw [h2]; rfl
    rw [e2] at d4
    obtain ⟨j1, j2⟩ := ihr _ d4
    rcases c1 with ⟨k, k1, k2, k3, k4⟩ | ⟨k, _⟩ | ⟨k, _⟩
    · exact ⟨⟨⟨k1, k2, k3⟩, i1, j1⟩, i2, j2⟩
    · omega
    · omega
end Go.Proofs.YtfolnkmbdmfigaaGreatDoor

set_option linter.unusedSimpArgs false
set_option linter.unusedVariables false
namespace Go.Proofs.YtfolnkmbdmfigaaGreatDoor
open Go.RowKit Go.Lib

structure Root (n : List UInt8) (a : Ats) (f : Fo) : Prop where
  name : GoodE n a
  all : f.All GoodT GoodE
  apart : f.Apart false
  deep : 1 + f.deep ≤ 30
def toksOf (s : ByteArray) : List Tok := (readS s).l ++ (readS s).last
theorem toks_chain (s : ByteArray) (he : (readS s).err = 0) : Chain false (toksOf s) := by
  have := refAll_chain s
  unfold refAll at this
  rw [if_neg (by simpa using he)] at this
  exact this
theorem toks_all {s : ByteArray} (h : (refAll s).2.1 = 0) : (readS s).err = 0 ∧ (readS s).l ++ (readS s).last = (refAll s).1 := by
  unfold refAll at h ⊢
  by_cases he : (readS s).err = 0
  · rw [if_neg (by simpa using he)]; exact ⟨he, rfl⟩
  · rw [if_pos he] at h; exact absurd h he
end Go.Proofs.YtfolnkmbdmfigaaGreatDoor

set_option linter.unusedSimpArgs false
set_option linter.unusedVariables false
namespace Go.Proofs.YtfolnkmbdmfigaaGreatDoor
open Go.RowKit Go.Lib

theorem tagA_shown (l : Ats) : (l.flatMap tagA).length ≤ (l.flatMap shownA).length := by
  induction l with
  | nil => simp
  | cons a l ih =>
    rw [List.flatMap_cons, List.flatMap_cons, List.length_append, List.length_append]
    have : (tagA a).length ≤ (shownA a).length := by
      unfold tagA shownA
      simp only [List.length_cons, List.length_append, List.length_nil]
      omega
    omega
theorem cost_cons (t : Tok) (l : List Tok) : cost (t :: l) = (showT t).length + cost l := by simp [cost]
theorem open_cost {t : Tok} (h : t.kind = 1) : 1 + t.name.length + (t.attrs.flatMap tagA).length + 2 ≤ (showT t).length := by
  unfold showT
  rw [if_pos h]
  have := tagA_shown t.attrs
  simp only [List.length_cons, List.length_append, List.length_nil]
  omega
theorem close_cost {t : Tok} (h : t.kind = 2) : (showT t).length = t.name.length + 3 := by
  unfold showT
  rw [if_neg (by omega), if_pos h]
  simp only [List.length_cons, List.length_append, List.length_nil]
  omega
theorem makes_len {f : Fo} {l : List Tok} (h : Makes f l) : f.plain.length ≤ cost l ∧ f.value.length ≤ f.plain.length := by
  induction h with
  | nil => simp [Fo.plain, Fo.value]
  | text t r l h1 h2 h ih =>
    rw [cost_cons]
    have h3 : showT t = Ch.escL false t.text ++ marks := by unfold showT; rw [if_neg h1, if_neg h2]
    have h7 := Ch.escL_ge false t.text
    rw [h3]
    simp only [Fo.plain, Fo.value, List.length_append]
    omega
  | elem t c k r lk lr h1 h2 hn hk hr ih1 ih2 =>
    have e1 := open_cost h1
    have e2 := close_cost h2
    have e3 := congrArg List.length hn
    rw [cost_cons, cost_append, cost_cons]
    simp only [Fo.plain, Fo.value, List.length_append, List.length_cons, List.length_nil]
    by_cases hz : k.isNil = true
    · rw [if_pos hz]
      have hk0 : k.value = [] := by cases k <;> simp [Fo.isNil, Fo.value] at hz ⊢
      rw [hk0]
      simp only [List.length_cons, List.length_nil]
      omega
    · rw [if_neg hz]
      simp only [List.length_append, List.length_cons, List.length_nil]
      omega
theorem root_long {s : ByteArray} {nodes : List Nd} {q : Int} (h : parseN s = (nodes, 0, q)) : q = 0 ∧ ∃ n a f, Root n a f ∧ nodes = (Fo.elem n a f .nil).flat 0 (-1) ∧ (Fo.elem n a f .nil).plain.length ≤ 64 * s.size ∧ (Fo.elem n a f .nil).value.length ≤ 64 * s.size := by
  have h0 := h
  unfold parseN at h
  split at h
  · rename_i hx
    simp only [Prod.mk.injEq] at h
    exact absurd h.2.1 hx
  · rename_i hx
    split at h
    · rename_i hy
      simp only [Prod.mk.injEq] at h
      exact absurd h.2.1 hy
    · rename_i hy
      split at h
      · simp only [Prod.mk.injEq] at h
        exact absurd h.2.1 (by decide)
      · rename_i hz
        simp only [Prod.mk.injEq] at h
        refine ⟨h.2.2.symm, ?_⟩
        have he : (readS s).err = 0 := by simpa using hy
        have hx0 : (grow Gr.zero (toksOf s)).1 = 0 := Classical.byContradiction fun e => hx e
        have hst : (grow Gr.zero (toksOf s)).2.2.stack = [] := Classical.byContradiction fun e => hz (Or.inl e)
        have hne : (grow Gr.zero (toksOf s)).2.2.nodes ≠ [] := fun e => hz (Or.inr e)
        obtain ⟨n, a, f, hd, e⟩ := doc_of (toksOf s) (grow Gr.zero (toksOf s)).2.2 (grow Gr.zero (toksOf s)).2.1 (by rw [← hx0]) hst hne
        have hc := toks_chain s he
        have hcost := readS_cost s
        obtain ⟨⟨b1, t, ls, c, b2, el, _, _, k1, k2, k3, mk, k4, k5⟩, dp⟩ := hd
        have hcost2 : cost (toksOf s) ≤ 64 * s.size := hcost
        rw [el, cost_append, cost_cons, cost_append, cost_cons] at hcost2
        have hm := makes_len (Makes.elem t c f .nil ls [] k1 k4 (by rw [k5, k2]) mk .nil)
        rw [k2, k3, cost_cons, cost_append, cost_cons] at hm
        have hc0 : cost ([] : List Tok) = 0 := rfl
        rw [hc0] at hm
        refine ⟨n, a, f, ?_, by rw [← e, ← h.1]; rfl, by omega, by omega⟩
        rw [el, chain_append] at hc
        obtain ⟨_, c1, _, c3⟩ := hc
        have e3 : (t.kind == 3) = false := by rw [k1]; rfl
        rw [e3, chain_append] at c3
        obtain ⟨i1, i2⟩ := makes_good mk _ c3.1
        rcases c1 with ⟨_, j1, j2, j3, _⟩ | ⟨k, _⟩ | ⟨k, _⟩
        · subst k2; subst k3
          exact ⟨⟨j1, j2, j3⟩, i1, i2, dp⟩
        · omega
        · omega
theorem sub_long {P : List UInt8 → Prop} {Q : List UInt8 → Ats → Prop} : ∀ (f : Fo) {l : List Nd} {m : Nat} {u : Int} {b : Bool}, IsAt l m u f → f.All P Q → f.Apart b → ∀ j, m ≤ j → j < m + f.size →
    ∃ u' x, Single x ∧ IsAt l j u' x ∧ x.All P Q ∧ x.Apart false ∧ x.deep ≤ f.deep ∧ j + x.size ≤ m + f.size ∧ x.plain.length ≤ f.plain.length ∧ x.value.length ≤ f.value.length
  | .nil, _, _, _, _, _, _, _, j, h1, h2 => by simp only [Fo.size] at h2; omega
  | .text t r, l, m, u, b, h, ha, hp, j, h1, h2 => by
    obtain ⟨e1, e2⟩ := h.text
    simp only [Fo.size] at h2
    by_cases hj : j = m
    · subst hj
      exact ⟨u, .text t .nil, Or.inl ⟨t, rfl⟩, .of_text e1, ⟨ha.1, trivial⟩, ⟨rfl, trivial⟩, by simp [Fo.deep], by simp only [Fo.size]; omega, by simp [Fo.plain], by simp [Fo.value]⟩
    · obtain ⟨u', x, a, b1, c, d, e, g, i1, i2⟩ := sub_long r e2 ha.2 hp.2 j (by omega) (by omega)
      exact ⟨u', x, a, b1, c, d, by simpa [Fo.deep] using e, by simp only [Fo.size]; omega, by simp only [Fo.plain, List.length_append]; omega, by simp only [Fo.value, List.length_append]; omega⟩
  | .elem n a k r, l, m, u, b, h, ha, hp, j, h1, h2 => by
    obtain ⟨e1, e2, e3⟩ := h.elem
    simp only [Fo.size] at h2
    by_cases hj : j = m
    · subst hj
      exact ⟨u, .elem n a k .nil, Or.inr ⟨n, a, k, rfl⟩, .of_elem e1 e2, ⟨ha.1, ha.2.1, trivial⟩, ⟨hp.1, trivial⟩, by simp only [Fo.deep]; omega, by simp only [Fo.size]; omega, by simp only [Fo.plain, List.length_append, List.length_nil]; omega, by simp [Fo.value]⟩
    · by_cases hk : j < m + 1 + k.size
      · obtain ⟨u', x, a1, b1, c, d, e, g, i1, i2⟩ := sub_long k e2 ha.2.1 hp.1 j (by omega) hk
        have hne : ¬ k.isNil = true := fun h => by cases k <;> simp [Fo.isNil, Fo.size] at h hk; omega
        exact ⟨u', x, a1, b1, c, d, by simp only [Fo.deep]; omega, by simp only [Fo.size]; omega, by simp only [Fo.plain, if_neg hne, List.length_append]; omega, by simp only [Fo.value, List.length_append]; omega⟩
      · obtain ⟨u', x, a1, b1, c, d, e, g, i1, i2⟩ := sub_long r e3 ha.2.2 hp.2 j (by omega) (by omega)
        exact ⟨u', x, a1, b1, c, d, by simp only [Fo.deep]; omega, by simp only [Fo.size]; omega, by simp only [Fo.plain, List.length_append]; omega, by simp only [Fo.value, List.length_append]; omega⟩
end Go.Proofs.YtfolnkmbdmfigaaGreatDoor

set_option linter.unusedSimpArgs false
set_option linter.unusedVariables false
namespace Go.Proofs.YtfolnkmbdmfigaaGreatDoor
open Go.RowKit Go.Maps Go.Lib
variable {A K : Nat → Prop} {w w' w1 wr : World} {nv : Value} {av kv : Nat → Value} {l : List Nd} {tN tA : TypeId} {a : Addr}
theorem Nodes.narrow (h : Nodes tN tA A K w nv l av kv) : Nodes tN tA (fun k => A k ∧ k < w.heap.size) (fun k => K k ∧ k < w.heap.size) w nv l av kv :=
  ⟨h.row, fun k e => ⟨h.rowK k e, own_lt h.row e⟩, h.attr, fun i k hi e => ⟨h.attrA i k hi e, own_lt (h.attr i _ (List.getElem?_eq_getElem hi)) e⟩, h.kid, fun i k hi e => ⟨⟨(h.kidK i k hi e).1, own_lt (h.kid i _ (List.getElem?_eq_getElem hi)) e⟩, (h.kidK i k hi e).2⟩, h.apart, h.knil⟩
def WEnd (w : World) (S : List UInt8) (no q : Int) (e : Ending) (w' : World) : Prop := e = .returned (.tuple #[.string ⟨S.toArray⟩, .int .i64 no, .int .i64 q]) ∧ Below w.heap.size w w'
theorem writer_new (w1 : World) (v : Value) : WR w1.heap.size [] v (w1.alloc (.cells #[.pointer none, .slice none 0 0, v] 110)) :=
  ⟨.pointer none, .slice none 0 0, Or.inl rfl, Below_new w1 _, ⟨rfl, Or.inl ⟨rfl, rfl⟩⟩, fun e => by cases e⟩
def Way (n : Nat) (l : List Nd) (m : Nat) (S : List UInt8) : Prop := ∀ (A K : Nat → Prop) (v : Value) (av kv : Nat → Value) (b : Nat) (w : World), (∀ k, A k → k < b) → (∀ k, K k → k < b) → Nodes 42 44 A K w v l av kv → WR b [] v w →
  Calls Tryz.prog n #[.pointer (some ⟨b, 0, none⟩), .int .i64 (m : Int)] w fun e w' => e = .returned (.tuple #[]) ∧ WR b S v w' ∧ Below b w w'
theorem way_plain {x : Fo} {m : Nat} {u : Int} (hs : Single x) (ha : x.All (fun _ => True) (fun n _ => n ≠ [])) (hx : IsAt l m u x) (hz : x.plain.length ≤ 549755813888) : Way 32 l m x.plain := fun A K v av kv b w hA hK hn hw => by
  have := wplain_ok hA hK hn.knil x.size x m u [] w (Nat.le_refl _) hs ha hx hn hw (by simp only [List.length_nil]; omega)
  simpa using this
theorem way_value {x : Fo} {m : Nat} {u : Int} (hs : Single x) (hx : IsAt l m u x) (hz : x.value.length ≤ 549755813888) : Way 33 l m x.value := fun A K v av kv b w hA hK hn hw => by
  have := wvalue_ok hA hK x.size x m u [] w (Nat.le_refl _) hs hx hn hw (by simp only [List.length_nil]; omega)
  simpa using this
set_option maxHeartbeats 8000000 in
set_option maxRecDepth 100000 in
theorem write_bad (s : ByteArray) (k : Int) (n : Nat) (gl : Gl w a) (hb : s.size ≤ 268435456) (h0 : (parseN s).2.1 ≠ 0) : Calls Tryz.prog 31 #[.string s, .int .i64 k, .func (.func n) #[] #[]] w (WEnd w [] (parseN s).2.1 (parseN s).2.2) := by
  have hp := parse_ok s w gl hb
  have hne : ((parseN s).2.1 != 0) = true := by simpa using h0
  have HP := hide hp
  clear hp gl h0
  generalize parseN s = x at *
  obtain ⟨L, no, q⟩ := x
  simp only at hne ⊢
  go_enter Tryz.func31, Tryz.ntmps31
  go_wp2_with (go_at_call 9; refine HP.out.mono ?_; rintro e w1 ⟨v, rfl, hn, hb1, hv⟩; have B1 := hide hb1; clear hn hb1 hv)
  go_ret3
  exact ⟨rfl, B1.out⟩
set_option maxHeartbeats 8000000 in
set_option maxRecDepth 100000 in
theorem write_range (s : ByteArray) (k : Int) (n : Nat) (gl : Gl w a) (hb : s.size ≤ 268435456) (h0 : (parseN s).2.1 = 0) (hk : k < 0 ∨ ((parseN s).1.length : Int) ≤ k) : Calls Tryz.prog 31 #[.string s, .int .i64 k, .func (.func n) #[] #[]] w (WEnd w [] 9 0) := by
  have hp := parse_ok s w gl hb
  have HP := hide hp
  clear hp gl
  generalize parseN s = x at *
  obtain ⟨L, no, q⟩ := x
  simp only at h0 hk ⊢
  subst h0
  by_cases hk0 : k < 0
  · have hd : decide (k < 0) = true := by simpa using hk0
    clear hk
    go_enter Tryz.func31, Tryz.ntmps31
    go_wp2_with (go_at_call 9; refine HP.out.mono ?_; rintro e w1 ⟨v, rfl, hn, hb1, hv⟩; have B1 := hide hb1; clear hn hb1 hv)
    go_ret3
    exact ⟨rfl, B1.out⟩
  · have hd : decide (k < 0) = false := by simpa using hk0
    have hge : (L.length : Int) ≤ k := by omega
    have hd2 : decide (k ≥ (L.length : Int)) = true := by simpa using hge
    have hd3 : decide ((L.length : Int) ≤ k) = true := by simpa using hge
    clear hk
    go_enter Tryz.func31, Tryz.ntmps31
    go_wp2_with (go_at_call 9; refine HP.out.mono ?_; rintro e w1 ⟨v, rfl, ⟨A, K, av, kv, hn, _⟩, hb1, hv⟩; obtain ⟨ai, ac, rfl⟩ := slice_len hn.row; have B1 := hide hb1; clear hn hb1 hv)
    go_ret3
    exact ⟨rfl, B1.out⟩
set_option maxHeartbeats 8000000 in
set_option maxRecDepth 100000 in
theorem write_ok32 (s : ByteArray) (m : Nat) (S : List UInt8) (gl : Gl w a) (hb : s.size ≤ 268435456) (h0 : (parseN s).2.1 = 0) (hm : m < (parseN s).1.length) (hway : Way 32 (parseN s).1 m S) : Calls Tryz.prog 31 #[.string s, .int .i64 (m : Int), .func (.func 32) #[] #[]] w (WEnd w S 0 0) := by
  have hp := parse_ok s w gl hb
  have HP := hide hp
  have HW := hide hway
  clear hp gl hway
  generalize parseN s = x at *
  obtain ⟨L, no, q⟩ := x
  simp only at h0 hm HP HW ⊢
  subst h0
  have hd : decide ((m : Int) < 0) = false := by simp
  have hd2 : decide ((m : Int) ≥ (L.length : Int)) = false := by simp; omega
  have hd3 : decide ((L.length : Int) ≤ (m : Int)) = false := by simp; omega
  have hd4 : decide (L.length ≤ m) = false := by simp; omega
  go_enter Tryz.func31, Tryz.ntmps31
  go_wp2_with (go_at_call 9; refine HP.out.mono ?_; rintro e w1 ⟨v, rfl, ⟨A, K, av, kv, hn, _⟩, hb1, hv⟩; obtain ⟨ai, ac, rfl⟩ := slice_len hn.row; have HN := hide hn.narrow; have B1 := hide hb1; clear hn hb1 hv)
  have hsz := B1.out.size
  have hcall := HW.out _ _ _ _ _ w1.heap.size (w1.alloc (.cells #[.pointer none, .slice none 0 0, .slice ai L.length ac] 110)) (fun k x => x.2) (fun k x => x.2) (HN.out.frame (fun k hk _ => Below.heap_alloc _ _ _ hk) (fun k hk _ => Below.heap_alloc _ _ _ hk) (fun _ _ x => x)) (writer_new w1 _)
  have HC := hide hcall
  have hb2 : Below w.heap.size w (w1.alloc (.cells #[.pointer none, .slice none 0 0, .slice ai L.length ac] 110)) := B1.out.alloc hsz _
  have HB2 := hide hb2
  clear hcall hb2
  refine HC.out.mono ?_
  rintro e w2 ⟨rfl, r2, b2⟩
  have hst := wstring_ok r2
  have hst' := wstring_ok (w := w2.drew) ⟨r2.ex⟩
  have B2 := hide (HB2.out.trans (below_less b2 hsz))
  clear r2 b2
  go_wp2_with (go_at_call 48; refine hst.mono ?_; rintro e w3 ⟨rfl, b3⟩; have B3 := hide (B2.out.trans (below_less b3 hsz)); clear b3)
  go_ret3
  exact ⟨rfl, B3.out⟩
set_option maxHeartbeats 8000000 in
set_option maxRecDepth 100000 in
theorem write_ok33 (s : ByteArray) (m : Nat) (S : List UInt8) (gl : Gl w a) (hb : s.size ≤ 268435456) (h0 : (parseN s).2.1 = 0) (hm : m < (parseN s).1.length) (hway : Way 33 (parseN s).1 m S) : Calls Tryz.prog 31 #[.string s, .int .i64 (m : Int), .func (.func 33) #[] #[]] w (WEnd w S 0 0) := by
  have hp := parse_ok s w gl hb
  have HP := hide hp
  have HW := hide hway
  clear hp gl hway
  generalize parseN s = x at *
  obtain ⟨L, no, q⟩ := x
  simp only at h0 hm HP HW ⊢
  subst h0
  have hd : decide ((m : Int) < 0) = false := by simp
  have hd2 : decide ((m : Int) ≥ (L.length : Int)) = false := by simp; omega
  have hd3 : decide ((L.length : Int) ≤ (m : Int)) = false := by simp; omega
  have hd4 : decide (L.length ≤ m) = false := by simp; omega
  go_enter Tryz.func31, Tryz.ntmps31
  go_wp2_with (go_at_call 9; refine HP.out.mono ?_; rintro e w1 ⟨v, rfl, ⟨A, K, av, kv, hn, _⟩, hb1, hv⟩; obtain ⟨ai, ac, rfl⟩ := slice_len hn.row; have HN := hide hn.narrow; have B1 := hide hb1; clear hn hb1 hv)
  have hsz := B1.out.size
  have hcall := HW.out _ _ _ _ _ w1.heap.size (w1.alloc (.cells #[.pointer none, .slice none 0 0, .slice ai L.length ac] 110)) (fun k x => x.2) (fun k x => x.2) (HN.out.frame (fun k hk _ => Below.heap_alloc _ _ _ hk) (fun k hk _ => Below.heap_alloc _ _ _ hk) (fun _ _ x => x)) (writer_new w1 _)
  have HC := hide hcall
  have hb2 : Below w.heap.size w (w1.alloc (.cells #[.pointer none, .slice none 0 0, .slice ai L.length ac] 110)) := B1.out.alloc hsz _
  have HB2 := hide hb2
  clear hcall hb2
  refine HC.out.mono ?_
  rintro e w2 ⟨rfl, r2, b2⟩
  have hst := wstring_ok r2
  have hst' := wstring_ok (w := w2.drew) ⟨r2.ex⟩
  have B2 := hide (HB2.out.trans (below_less b2 hsz))
  clear r2 b2
  go_wp2_with (go_at_call 48; refine hst.mono ?_; rintro e w3 ⟨rfl, b3⟩; have B3 := hide (B2.out.trans (below_less b3 hsz)); clear b3)
  go_ret3
  exact ⟨rfl, B3.out⟩
end Go.Proofs.YtfolnkmbdmfigaaGreatDoor

set_option linter.unusedSimpArgs false
set_option linter.unusedVariables false
namespace Go.Proofs.YtfolnkmbdmfigaaGreatDoor
open Go.RowKit Go.Maps Go.Lib
variable {w w' w1 wr : World} {a : Addr}
set_option maxHeartbeats 4000000 in
set_option maxRecDepth 100000 in
theorem print_by (s : ByteArray) (S : List UInt8) (no q : Int) (h : Calls Tryz.prog 31 #[.string s, .int .i64 0, .func (.func 32) #[] #[]] w (WEnd w S no q)) : Calls Tryz.prog 14 #[.string s] w (WEnd w S no q) := by
  go_enter Tryz.func14, Tryz.ntmps14
  go_wp2_with (go_at_call 31; refine h.mono ?_; rintro e w1 ⟨rfl, b1⟩)
  go_ret3
  exact ⟨rfl, b1⟩
set_option maxHeartbeats 4000000 in
set_option maxRecDepth 100000 in
theorem sub_by (s : ByteArray) (k : Int) (S : List UInt8) (no q : Int) (h : Calls Tryz.prog 31 #[.string s, .int .i64 k, .func (.func 32) #[] #[]] w (WEnd w S no q)) : Calls Tryz.prog 15 #[.string s, .int .i64 k] w (WEnd w S no q) := by
  go_enter Tryz.func15, Tryz.ntmps15
  go_wp2_with (go_at_call 31; refine h.mono ?_; rintro e w1 ⟨rfl, b1⟩)
  go_ret3
  exact ⟨rfl, b1⟩
set_option maxHeartbeats 4000000 in
set_option maxRecDepth 100000 in
theorem value_by (s : ByteArray) (k : Int) (S : List UInt8) (no q : Int) (h : Calls Tryz.prog 31 #[.string s, .int .i64 k, .func (.func 33) #[] #[]] w (WEnd w S no q)) : Calls Tryz.prog 16 #[.string s, .int .i64 k] w (WEnd w S no q) := by
  go_enter Tryz.func16, Tryz.ntmps16
  go_wp2_with (go_at_call 31; refine h.mono ?_; rintro e w1 ⟨rfl, b1⟩)
  go_ret3
  exact ⟨rfl, b1⟩
structure Leaf (l : List Nd) (m : Nat) (x : Fo) : Prop where
  ex : ∃ u, IsAt l m u x
  one : Single x
  all : x.All (fun _ => True) (fun n _ => n ≠ [])
  len : x.plain.length ≤ 549755813888
  vlen : x.value.length ≤ 549755813888
  lt : m < l.length
theorem name_some {n : List UInt8} (h : NameOf n) : n ≠ [] := by
  obtain ⟨s0, q, hb, rfl⟩ := h
  have h0 : 0 ≤ cur s0 q := by have := (Ch.begins_iff _).1 hb; omega
  have hq := cur_pos h0
  have hle : nend s0 q ≤ s0.size := nend_le (by omega)
  have hin : inN (cur s0 q) = true := by unfold inN; rw [hb]; rfl
  have hgt : q < nend s0 q := by
    have := nend_ge s0 (q + wid s0 q)
    rw [nend_yes hin]; omega
  intro e
  have := congrArg List.length e
  rw [bytes_len _ _ _ (by omega)] at this
  simp only [List.length_nil] at this
  omega
theorem all_names : ∀ (f : Fo), f.All GoodT GoodE → f.All (fun _ => True) (fun n _ => n ≠ [])
  | .nil, _ => trivial
  | .text t r, h => ⟨trivial, all_names r h.2⟩
  | .elem n a k r, h => ⟨name_some h.1.1, all_names k h.2.1, all_names r h.2.2⟩
structure Whole (s : ByteArray) (l : List Nd) (n : List UInt8) (a : Ats) (f : Fo) : Prop where
  root : Root n a f
  nodes : l = (Fo.elem n a f .nil).flat 0 (-1)
  plain : (Fo.elem n a f .nil).plain.length ≤ 64 * s.size
  value : (Fo.elem n a f .nil).value.length ≤ 64 * s.size
theorem whole_of {s : ByteArray} (h : (parseN s).2.1 = 0) : (parseN s).2.2 = 0 ∧ ∃ n a f, Whole s (parseN s).1 n a f := by
  have e : parseN s = ((parseN s).1, 0, (parseN s).2.2) := by rw [← h]
  obtain ⟨hq, n, a, f, h1, h2, h3, h4⟩ := root_long e
  exact ⟨hq, n, a, f, h1, h2, h3, h4⟩
theorem Whole.len {s : ByteArray} {l : List Nd} {n : List UInt8} {a : Ats} {f : Fo} (h : Whole s l n a f) : l.length = 1 + f.size := by
  rw [h.nodes, flat_len]; simp only [Fo.size, Nat.add_zero]
theorem Whole.first {s : ByteArray} {l : List Nd} {n : List UInt8} {a : Ats} {f : Fo} (h : Whole s l n a f) (hs : s.size ≤ 4294967296) : Leaf l 0 (Fo.elem n a f .nil) := by
  refine ⟨⟨-1, by rw [h.nodes]; exact isAt_whole _ _⟩, Or.inr ⟨n, a, f, rfl⟩, all_names _ ⟨h.root.name, h.root.all, trivial⟩, by have := h.plain; omega, by have := h.value; omega, by rw [h.len]; omega⟩
theorem Whole.leaf {s : ByteArray} {l : List Nd} {n : List UInt8} {a : Ats} {f : Fo} (h : Whole s l n a f) (hs : s.size ≤ 4294967296) (m : Nat) (hm : m < l.length) : ∃ x, Leaf l m x ∧ x.All GoodT GoodE ∧ x.Apart false ∧ x.deep ≤ 30 ∧ m + x.size ≤ l.length ∧ x.plain.length ≤ 64 * s.size := by
  have h0 := h.first hs
  obtain ⟨u, h1⟩ := h0.ex
  have hl := h.len
  obtain ⟨u', x, x1, x2, x3, x4, x5, x6, x7, x8⟩ := sub_long (Fo.elem n a f .nil) (b := false) h1 ⟨h.root.name, h.root.all, trivial⟩ ⟨h.root.apart, trivial⟩ m (Nat.zero_le _) (by simp only [Fo.size]; omega)
  have hd := h.root.deep
  refine ⟨x, ⟨⟨u', x2⟩, x1, all_names _ x3, Nat.le_trans x7 h0.len, Nat.le_trans x8 h0.vlen, hm⟩, x3, x4, ?_, ?_, Nat.le_trans x7 h.plain⟩
  · have : (Fo.elem n a f .nil).deep ≤ 30 := by simp only [Fo.deep]; omega
    omega
  · simp only [Fo.size] at x6; omega
theorem print_bad (s : ByteArray) (gl : Gl w a) (hb : s.size ≤ 268435456) (h0 : (parseN s).2.1 ≠ 0) : Calls Tryz.prog 14 #[.string s] w (WEnd w [] (parseN s).2.1 (parseN s).2.2) := print_by s _ _ _ (write_bad s 0 32 gl hb h0)
theorem print_good (s : ByteArray) (gl : Gl w a) (hb : s.size ≤ 268435456) (h0 : (parseN s).2.1 = 0) {x : Fo} (hx : Leaf (parseN s).1 0 x) : Calls Tryz.prog 14 #[.string s] w (WEnd w x.plain 0 0) := by
  obtain ⟨u, hu⟩ := hx.ex
  exact print_by s _ _ _ (write_ok32 s 0 x.plain gl hb h0 hx.lt (way_plain hx.one hx.all hu hx.len))
theorem sub_bad (s : ByteArray) (k : Int) (gl : Gl w a) (hb : s.size ≤ 268435456) (h0 : (parseN s).2.1 ≠ 0) : Calls Tryz.prog 15 #[.string s, .int .i64 k] w (WEnd w [] (parseN s).2.1 (parseN s).2.2) := sub_by s k _ _ _ (write_bad s k 32 gl hb h0)
theorem sub_range (s : ByteArray) (k : Int) (gl : Gl w a) (hb : s.size ≤ 268435456) (h0 : (parseN s).2.1 = 0) (hk : k < 0 ∨ ((parseN s).1.length : Int) ≤ k) : Calls Tryz.prog 15 #[.string s, .int .i64 k] w (WEnd w [] 9 0) := sub_by s k _ _ _ (write_range s k 32 gl hb h0 hk)
theorem sub_good (s : ByteArray) (m : Nat) (gl : Gl w a) (hb : s.size ≤ 268435456) (h0 : (parseN s).2.1 = 0) {x : Fo} (hx : Leaf (parseN s).1 m x) : Calls Tryz.prog 15 #[.string s, .int .i64 (m : Int)] w (WEnd w x.plain 0 0) := by
  obtain ⟨u, hu⟩ := hx.ex
  exact sub_by s _ _ _ _ (write_ok32 s m x.plain gl hb h0 hx.lt (way_plain hx.one hx.all hu hx.len))
theorem value_bad (s : ByteArray) (k : Int) (gl : Gl w a) (hb : s.size ≤ 268435456) (h0 : (parseN s).2.1 ≠ 0) : Calls Tryz.prog 16 #[.string s, .int .i64 k] w (WEnd w [] (parseN s).2.1 (parseN s).2.2) := value_by s k _ _ _ (write_bad s k 33 gl hb h0)
theorem value_range (s : ByteArray) (k : Int) (gl : Gl w a) (hb : s.size ≤ 268435456) (h0 : (parseN s).2.1 = 0) (hk : k < 0 ∨ ((parseN s).1.length : Int) ≤ k) : Calls Tryz.prog 16 #[.string s, .int .i64 k] w (WEnd w [] 9 0) := value_by s k _ _ _ (write_range s k 33 gl hb h0 hk)
theorem value_good (s : ByteArray) (m : Nat) (gl : Gl w a) (hb : s.size ≤ 268435456) (h0 : (parseN s).2.1 = 0) {x : Fo} (hx : Leaf (parseN s).1 m x) : Calls Tryz.prog 16 #[.string s, .int .i64 (m : Int)] w (WEnd w x.value 0 0) := by
  obtain ⟨u, hu⟩ := hx.ex
  exact value_by s _ _ _ _ (write_ok33 s m x.value gl hb h0 hx.lt (way_value hx.one hu hx.vlen))
end Go.Proofs.YtfolnkmbdmfigaaGreatDoor

set_option linter.unusedSimpArgs false
set_option linter.unusedVariables false
namespace Go.Proofs.YtfolnkmbdmfigaaGreatDoor
open Go.RowKit

theorem rx_bytes_of {T : ByteArray} {l : List UInt8} (h : T.data.toList = l) : T = ⟨l.toArray⟩ := by
  subst h; rfl
theorem rx_get_at (s : ByteArray) (pos : Nat) (h : pos < s.size) : s.get! pos = s[pos] := by
  simp [ByteArray.get!, h]; rfl
theorem rx_esc_step {s : ByteArray} {q : Bool} {pos : Nat} {T X : ByteArray} (h : pos < s.size) (hT : T.data.toList = Ch.escL q (s.data.toList.take pos)) (hX : X.data.toList = Ch.escB q s[pos]) :
    (T ++ X).data.toList = Ch.escL q (s.data.toList.take (pos + 1)) := by
  rw [Joins.data_append, hT, hX, Ch.take_get s pos h, Ch.escL_append, rx_get_at s pos h]
  simp [Ch.escL]
theorem rx_escB_le (q : Bool) (c : UInt8) : (Ch.escB q c).length ≤ 6 := by
  unfold Ch.escB
  split
  · simp
  · exact Ch.refFor_le _ _
theorem rx_esc_round {s : ByteArray} {q : Bool} {pos : Nat} {T X : ByteArray} (h : pos < s.size) (hT : Hid (T.data.toList = Ch.escL q (s.data.toList.take pos))) (hTs : T.size ≤ 6 * pos) (hX : X.data.toList = Ch.escB q s[pos]) :
    (∃ (pos_1 : Nat) (T_1 : ByteArray), Value.string (T ++ X) = Value.string T_1 ∧ Value.int .i64 ((pos : Int) + 1) = Value.int .i64 (pos_1 : Int) ∧ Hid (T_1.data.toList = Ch.escL q (s.data.toList.take pos_1)) ∧ pos_1 ≤ s.size ∧ T_1.size ≤ 6 * pos_1) ∧
    s.size - (intOf (Value.int .i64 ((pos : Int) + 1))).toNat < s.size - (intOf (Value.int .i64 (pos : Int))).toNat := by
  have hxs : X.size ≤ 6 := by
    have := rx_escB_le q s[pos]
    rw [← hX] at this
    simpa using this
  refine ⟨⟨pos + 1, T ++ X, rfl, rfl, rx_esc_step h hT.out hX, by omega, ?_⟩, by simp [intOf]; omega⟩
  rw [ByteArray.size_append]; omega
theorem rx_one_byte {s : ByteArray} {pos : Nat} (h : pos < s.size) : (s.extract pos (pos + 1)).data.toList = [s[pos]] := by
  rw [extract_bytes, show pos + 1 - pos = 1 by omega, Ch.bytes_one h, rx_get_at s pos h]
set_option maxHeartbeats 4000000 in
set_option maxRecDepth 1000000 in
theorem escapeR_any (s : ByteArray) (q : Bool) (w : World) (hs : s.size ≤ 1099511627776) :
    Calls Tryz.prog 34 #[.string s, .bool q] w fun e w' => e = .returned (.string ⟨(Ch.esc s q).toArray⟩) ∧ w' = w := by
  go_enter Tryz.func34, Tryz.ntmps34
  go_wp2
  go_loop [5, 6, 7] (fun t i _ => ∃ (pos : Nat) (T : ByteArray), t = .string T ∧ i = .int .i64 pos ∧ Hid (T.data.toList = Ch.escL q (s.data.toList.take pos)) ∧ pos ≤ s.size ∧ T.size ≤ 6 * pos) (fun _ i _ => s.size - (intOf i).toNat)
  case atStart => exact ⟨0, ⟨#[]⟩, rfl, rfl, rfl, by omega, by decide⟩
  case round =>
    obtain ⟨pos, T, rfl, rfl, HT, hl, hTs⟩ := hrel
    by_cases hp : pos < s.size
    · go_wp2
      all_goals refine rx_esc_round hp HT hTs ?_
      all_goals try rw [rx_one_byte hp]
      all_goals simp only [beq_iff_eq, beq_eq_false_iff_ne, ne_eq] at *
      all_goals simp [Ch.escB, Ch.refFor, *]
    · go_wp2
      go_ret
      refine ⟨?_, rfl⟩
      have := HT.out
      rw [List.take_of_length_le (by simp; omega)] at this
      rw [rx_bytes_of this]; rfl
end Go.Proofs.YtfolnkmbdmfigaaGreatDoor

set_option linter.unusedSimpArgs false
set_option linter.unusedVariables false
namespace Go.Proofs.YtfolnkmbdmfigaaGreatDoor
open Go.RowKit Go.Maps Go.Lib
variable {A K : Nat → Prop} {w w' w1 wr : World} {nv : Value} {av kv : Nat → Value} {l : List Nd}
theorem Nodes.later (h : Nodes 76 82 A K w nv l av kv) (hb : Below w.heap.size w w') : Nodes 76 82 A K w' nv l av kv :=
  h.frame (fun k hk _ => hb.block k hk) (fun k hk _ => hb.block k hk) (fun _ _ x => x)
set_option maxHeartbeats 8000000 in
set_option maxRecDepth 100000 in
theorem rplain_text (t : List UInt8) (m : Nat) (u : Int) (w : World) (hnd : l[m]? = some ⟨[], [], t, [], u⟩) (hn : Nodes 76 82 A K w nv l av kv) (hz : t.length ≤ 1099511627776) :
    Calls Tryz.prog 17 #[nv, .int .i64 (m : Int)] w fun e w' => e = .returned (.string ⟨(Ch.escL false t).toArray⟩) ∧ Below w.heap.size w w' := by
  have hm := (List.getElem?_eq_some_iff.1 hnd).1
  obtain ⟨g, cap, rfl, hml, hKg, q0, q1, q2, q3, q4⟩ := hn.cells m _ hnd
  obtain ⟨ai, ac, hai⟩ := slice_len (hn.attr m _ hnd)
  obtain ⟨ki, kc, hki⟩ := slice_len (hn.kid m _ hnd)
  rw [hai] at q1
  rw [hki] at q3
  have hmx : (l.length : Int) ≤ 9223372036854775807 := by have : maxLen = 9223372036854775807 := rfl; omega
  have hge : ¬ (m : Int) < 0 := by omega
  have hmi : (m : Int) < l.length := by omega
  have hesc : Ch.esc ⟨t.toArray⟩ false = Ch.escL false t := by unfold Ch.esc; simp
  have hcall := fun w => escapeR_any ⟨t.toArray⟩ false w (by simpa only [ByteArray.size, List.size_toArray] using hz)
  rw [hesc] at hcall
  generalize Ch.escL false t = V at *
  have HCL := hide hcall
  clear hcall hesc hn hnd
  unfold strV at q0 q2
  simp only [List.length_nil] at q1 q3
  go_enter Tryz.func17, Tryz.ntmps17
  go_wp2_with (go_at_call 34; refine (HCL.out _).mono ?_; rintro e w1 ⟨rfl, rfl⟩)
  go_ret
  exact ⟨rfl, (Below.refl _ w).alloc (Nat.le_refl _) _⟩
set_option maxHeartbeats 16000000 in
set_option maxRecDepth 100000 in
theorem rplain_elem (nd : Nd) (m : Nat) (w : World) (P : Nat → List UInt8) (hnd : l[m]? = some nd) (hnn : nd.name ≠ []) (hn : Nodes 76 82 A K w nv l av kv)
    (hz : (headP nd.name nd.attrs nd.attrs.length).length ≤ 1099511627776) (hP : ∀ i, (P i).length ≤ 1099511627776) (hP0 : P 0 = []) (hnl : nd.name.length ≤ 1099511627776)
    (hkids : ∀ i (hi : i < nd.kids.length) W, Below w.heap.size w W → ∃ t, P (i + 1) = P i ++ t ∧ Calls Tryz.prog 17 #[nv, .int .i64 (nd.kids[i] : Int)] W fun e w' => e = .returned (.string ⟨t.toArray⟩) ∧ Below W.heap.size W w') :
    Calls Tryz.prog 17 #[nv, .int .i64 (m : Int)] w fun e w' => e = .returned (.string ⟨(headP nd.name nd.attrs nd.attrs.length ++ (if nd.kids = [] then [47, 62] else [62] ++ (P nd.kids.length ++ ([60, 47] ++ (nd.name ++ [62]))))).toArray⟩) ∧ Below w.heap.size w w' := by
  have hm := (List.getElem?_eq_some_iff.1 hnd).1
  obtain ⟨g, cap, rfl, hml, hKg, q0, q1, q2, q3, q4⟩ := hn.cells m _ hnd
  have har := hn.attr m _ hnd
  have hkr := hn.kid m _ hnd
  obtain ⟨ai, ac, hai⟩ := slice_len har
  obtain ⟨ki, kc, hki⟩ := slice_len hkr
  rw [hai] at q1 har
  rw [hki] at q3 hkr
  have hmx : (l.length : Int) ≤ 9223372036854775807 := by have : maxLen = 9223372036854775807 := rfl; omega
  have hge : ¬ (m : Int) < 0 := by omega
  have hmi : (m : Int) < l.length := by omega
  have hle := headP_le nd.name nd.attrs
  have h0 : headP nd.name nd.attrs 0 = 60 :: nd.name := by simp [headP]
  have a0 := add_rows2 [60] nd.name (headP nd.name nd.attrs 0) (by rw [h0]; rfl) (by simp only [List.length_cons, List.length_nil]; omega)
  have hattr : ∀ W, Below w.heap.size w W → ∀ i (hi : i < nd.attrs.length), ∃ ga, ai = some ⟨ga, 0, none⟩ ∧ (nd.attrs.length : Int) ≤ 9223372036854775807 ∧ ∃ x y : List UInt8, headP nd.name nd.attrs (i + 1) = headP nd.name nd.attrs i ++ (32 :: (x ++ ([61, 34] ++ (Ch.escL true y ++ [34])))) ∧ y.length ≤ 1099511627776 ∧ W.cell? ⟨ga, i * 2, none⟩ = some (.string ⟨x.toArray⟩) ∧ W.cell? ⟨ga, i * 2 + 1, none⟩ = some (.string ⟨y.toArray⟩) := by
    intro W hW i hi
    obtain ⟨ga, ca, e, x1, x2, hmm⟩ := attr_two har i hi
    cases e
    have hga : ga < w.heap.size := own_lt har rfl
    have h7 := Ch.escL_ge true (nd.attrs[i]).2
    have hnx := headP_next nd.name nd.attrs i hi
    have hl := hle (i + 1)
    rw [hnx, List.length_append] at hl
    unfold tagA at hl
    simp only [List.length_cons, List.length_append, List.length_nil] at hl
    exact ⟨ga, rfl, by have : maxLen = 9223372036854775807 := rfl; omega, (nd.attrs[i]).1, (nd.attrs[i]).2, hnx, by omega, (World.cell?_of_block (hW.block ga hga)).trans x1, (World.cell?_of_block (hW.block ga hga)).trans x2⟩
  have hkid : ∀ W, Below w.heap.size w W → ∀ i, i < nd.kids.length → ∃ ga, ki = some ⟨ga, 0, none⟩ ∧ (nd.kids.length : Int) ≤ 9223372036854775807 ∧ ∃ (z : Int) (t : List UInt8), W.cell? ⟨ga, i, none⟩ = some (.int .i64 z) ∧ P (i + 1) = P i ++ t ∧ Calls Tryz.prog 17 #[.slice (some ⟨g, 0, none⟩) l.length cap, .int .i64 z] W fun e w' => e = .returned (.string ⟨t.toArray⟩) ∧ Below W.heap.size W w' := by
    intro W hW i hi
    obtain ⟨ga, ca, e, x1, hmm⟩ := kid_cell (n := 0) hkr i hi
    obtain ⟨t, h1, h2⟩ := hkids i hi W hW
    cases e
    exact ⟨ga, rfl, by have : maxLen = 9223372036854775807 := rfl; omega, _, t, (World.cell?_of_block (hW.block ga (own_lt hkr rfl))).trans x1, h1, h2⟩
  have hkz : nd.kids = [] ↔ nd.kids.length = 0 := by simp
  have hne0 : nd.name.isEmpty = false := by cases h0 : nd.name with | nil => exact absurd h0 hnn | cons a r => rfl
  obtain ⟨O, hO⟩ : ∃ O : Obj, Obj.cells #[.string ⟨nd.name.toArray⟩, .slice ai nd.attrs.length ac, .string ⟨nd.text.toArray⟩, .slice ki nd.kids.length kc, .int .i64 nd.up] 76 = O := ⟨_, rfl⟩
  have hbox : ∀ W, Below (w.heap.size + 1) (w.alloc O) W → W.cell? ⟨w.heap.size, 0, none⟩ = some (.string ⟨nd.name.toArray⟩) ∧ W.cell? ⟨w.heap.size, 1, none⟩ = some (.slice ai nd.attrs.length ac) ∧ W.cell? ⟨w.heap.size, 3, none⟩ = some (.slice ki nd.kids.length kc) := fun W hW => by
    have hx : W.heap[w.heap.size]? = some (.cells #[.string ⟨nd.name.toArray⟩, .slice ai nd.attrs.length ac, .string ⟨nd.text.toArray⟩, .slice ki nd.kids.length kc, .int .i64 nd.up] 76) := by
      rw [hW.block w.heap.size (by omega), hO]; exact Below_new _ _
    exact ⟨cell_of hx rfl, cell_of hx rfl, cell_of hx rfl⟩
  have hdown : ∀ W, Below (w.heap.size + 1) (w.alloc O) W → Below w.heap.size w W := fun W hW => ((Below.refl _ w).alloc (Nat.le_refl _) O).trans (below_less hW (by omega))
  have HAT := hide hattr
  have HKD := hide hkid
  have HKZ := hide hkz
  have HLE := hide hle
  have HBX := hide hbox
  have HDN := hide hdown
  have HZ := hide hz
  have HP := hide hP
  have HP0 := hide hP0
  clear hattr hkid hkids hle hbox hdown hn har hkr hai hki hnd h0 hz hP hP0 hkz
  generalize hH : headP nd.name nd.attrs = H at *
  have HH := hide hH
  clear hH
  unfold strV at q0 q2
  generalize hna : nd.attrs.length = NA at *
  generalize hnk : nd.kids.length = NK at *
  have HNA := hide hna
  have HNK := hide hnk
  clear hna hnk
  obtain ⟨b0, b1, b3⟩ := HBX.out _ (Below.refl _ _)
  obtain ⟨RES, hR⟩ : ∃ R, H NA ++ (if nd.kids = [] then [47, 62] else [62] ++ (P NK ++ ([60, 47] ++ (nd.name ++ [62])))) = R := ⟨_, rfl⟩
  rw [hR]
  have HR := hide hR
  clear hR
  go_enter Tryz.func17, Tryz.ntmps17
  go_wp2_with fail
  try rw [hO]
  go_loopw [6, 7, 8] (fun sv iv _ wr => ∃ k : Nat, sv = .string ⟨(H k).toArray⟩ ∧ iv = .int .i64 k ∧ k ≤ NA ∧ Below (w.heap.size + 1) (w.alloc O) wr) (fun _ iv _ _ => NA - (RowKit.intOf iv).toNat)
  case atStart => exact ⟨0, rfl, rfl, Nat.zero_le _, Below.refl _ _⟩
  case round =>
    obtain ⟨k, rfl, rfl, hk, hb⟩ := hrel
    obtain ⟨e0, e1, e3⟩ := HBX.out _ hb
    have HB := hide hb
    clear hb b0 b1 b3 q0 q1 q2 q3 q4
    by_cases hlt : k < NA
    · obtain ⟨ga, rfl, hmax, x, y, hnx, hyl, g1, g2⟩ := HAT.out _ (HDN.out _ HB.out) k hlt
      have hdec : decide ((k : Int) < NA) = true := by simp; omega
      have hki : (k : Int) < NA := by omega
      have hesc : Ch.esc ⟨y.toArray⟩ true = Ch.escL true y := by unfold Ch.esc; simp
      have hcall := fun w => escapeR_any ⟨y.toArray⟩ true w (by simpa [ByteArray.size] using hyl)
      rw [hesc] at hcall
      have hl1 := HLE.out (k + 1)
      have hl2 := HZ.out
      obtain ⟨V, hV⟩ : ∃ V, Ch.escL true y = V := ⟨_, rfl⟩
      rw [hV] at hcall hnx
      obtain ⟨X1, hX1⟩ : ∃ X, H k ++ [32] = X := ⟨_, rfl⟩
      obtain ⟨X2, hX2⟩ : ∃ X, X1 ++ x = X := ⟨_, rfl⟩
      obtain ⟨X3, hX3⟩ : ∃ X, X2 ++ [61, 34] = X := ⟨_, rfl⟩
      obtain ⟨X4, hX4⟩ : ∃ X, X3 ++ V = X := ⟨_, rfl⟩
      have e5 : X4 ++ [34] = H (k + 1) := by rw [hnx, ← hX4, ← hX3, ← hX2, ← hX1]; simp
      have n0 := congrArg List.length e5
      have n1 := congrArg List.length hX1
      have n2 := congrArg List.length hX2
      have n3 := congrArg List.length hX3
      have n4 := congrArg List.length hX4
      simp only [List.length_append, List.length_cons, List.length_nil] at n0 n1 n2 n3 n4
      have p1 := add_rows2 (H k) [32] X1 hX1 (by simp only [List.length_cons, List.length_nil]; omega)
      have p2 := add_rows2 X1 x X2 hX2 (by omega)
      have p3 := add_rows2 X2 [61, 34] X3 hX3 (by simp only [List.length_cons, List.length_nil]; omega)
      have p4 := add_rows2 X3 V X4 hX4 (by omega)
      have p5 := add_rows2 X4 [34] (H (k + 1)) e5 (by simp only [List.length_cons, List.length_nil]; omega)
      have HCL := hide hcall
      clear hcall hnx hyl hesc hl1 hl2 hV hX1 hX2 hX3 hX4 e5 n0 n1 n2 n3 n4 hO
      go_wp2_with (go_at_call 34; refine (HCL.out _).mono ?_; rintro e w2 ⟨rfl, rfl⟩)
      exact ⟨⟨k + 1, rfl, by simp, by omega, HB.out⟩, by simp only [RowKit.intOf]; omega⟩
    · have hdec : decide ((k : Int) < NA) = false := by simp; omega
      obtain rfl : NA = k := by omega
      have hl2 := HZ.out
      by_cases hz0 : NK = 0
      · have hkz := HKZ.out.2 hz0
        have p1 := add_rows2 (H NA) [47, 62] (H NA ++ [47, 62]) rfl (by simp only [List.length_cons, List.length_nil]; omega)
        have hR := HR.out
        rw [if_pos hkz] at hR
        rw [hR] at p1
        subst hz0
        clear hO hR
        go_wp2
        go_ret
        exact ⟨rfl, HDN.out _ HB.out⟩
      · have hkz : ¬ nd.kids = [] := fun e => hz0 (HKZ.out.1 e)
        have hR := HR.out
        rw [if_neg hkz] at hR
        have hzi : ((NK : Int) == 0) = false := by rw [beq_eq_false_iff_ne]; omega
        obtain ⟨T, hT⟩ : ∃ T, H NA ++ [62] = T := ⟨_, rfl⟩
        have nT := congrArg List.length hT
        simp only [List.length_append, List.length_cons, List.length_nil] at nT
        have p1 := add_rows2 (H NA) [62] T hT (by simp only [List.length_cons, List.length_nil]; omega)
        have hE : H NA ++ ([62] ++ (P NK ++ ([60, 47] ++ (nd.name ++ [62])))) = T ++ P NK ++ [60, 47] ++ nd.name ++ [62] := by rw [← hT]; simp
        rw [hE] at hR
        have HR2 := hide hR
        clear hR
        have hT0 : T = T ++ P 0 := by rw [HP0.out, List.append_nil]
        have HT0 := hide hT0
        clear hO hT hE hT0
        go_wp2_with fail
        go_loopw [6, 9, 10] (fun sv iv _ wr => ∃ j : Nat, sv = .string ⟨(T ++ P j).toArray⟩ ∧ iv = .int .i64 j ∧ j ≤ NK ∧ Below (w.heap.size + 1) (w.alloc O) wr) (fun _ iv _ _ => NK - (RowKit.intOf iv).toNat)
        case atStart => exact ⟨0, by rw [← HT0.out], rfl, Nat.zero_le _, HB.out⟩
        case round =>
          obtain ⟨j, rfl, rfl, hj, hb⟩ := hrel
          obtain ⟨d0, d1, d3⟩ := HBX.out _ hb
          have HB2 := hide hb
          clear hb e0 e1 e3
          by_cases hlj : j < NK
          · obtain ⟨gb, rfl, hmax, z, tt, g1, hnx, hcall⟩ := HKD.out _ (HDN.out _ HB2.out) j hlj
            have hdj : decide ((j : Int) < NK) = true := by simp; omega
            have hji : (j : Int) < NK := by omega
            have hp1 := HP.out (j + 1)
            have hp2 := HP.out j
            have e5 : T ++ P j ++ tt = T ++ P (j + 1) := by rw [hnx]; simp
            have nt := congrArg List.length e5
            simp only [List.length_append] at nt
            have p2 := add_rows2 (T ++ P j) tt (T ++ P (j + 1)) e5 (by simp only [List.length_append]; omega)
            have hsz : w.heap.size + 1 ≤ wr.heap.size := by have h1 := HB2.out.size; simp at h1; omega
            have HCL := hide hcall
            clear hcall hnx hp1 hp2 e5 nt
            generalize hQ : T ++ P (j + 1) = Q at *
            have HQ := hide hQ
            clear hQ
            go_wp2_with (go_at_call 17; refine HCL.out.mono ?_; rintro e w2 ⟨rfl, b2⟩; have B2 := hide b2; clear b2)
            exact ⟨⟨j + 1, by rw [← HQ.out], by simp, by omega, HB2.out.trans (below_less B2.out hsz)⟩, by simp only [RowKit.intOf]; omega⟩
          · have hdj : decide ((j : Int) < NK) = false := by simp; omega
            obtain rfl : NK = j := by omega
            have hp2 := HP.out NK
            have hR := HR2.out
            have p2 := add_rows2 (T ++ P NK) [60, 47] (T ++ P NK ++ [60, 47]) rfl (by simp only [List.length_append, List.length_cons, List.length_nil]; omega)
            have p3 := add_rows2 (T ++ P NK ++ [60, 47]) nd.name (T ++ P NK ++ [60, 47] ++ nd.name) rfl (by simp only [List.length_append, List.length_cons, List.length_nil]; omega)
            have p4 := add_rows2 (T ++ P NK ++ [60, 47] ++ nd.name) [62] RES hR (by simp only [List.length_append, List.length_cons, List.length_nil]; omega)
            generalize T ++ P NK ++ [60, 47] ++ nd.name = X3 at *
            generalize T ++ P NK ++ [60, 47] = X2 at *
            generalize T ++ P NK = X1 at *
            clear hR hp2
            go_wp2
            go_ret
            exact ⟨rfl, HDN.out _ HB2.out⟩
theorem rplain_ok : ∀ (N : Nat) (x : Fo) (m : Nat) (u : Int) (w : World), x.size ≤ N → Single x → x.All (fun _ => True) (fun n _ => n ≠ []) → IsAt l m u x → Nodes 76 82 A K w nv l av kv → x.plain.length ≤ 549755813888 →
    Calls Tryz.prog 17 #[nv, .int .i64 (m : Int)] w fun e w' => e = .returned (.string ⟨x.plain.toArray⟩) ∧ Below w.heap.size w w' := by
  intro N
  induction N with
  | zero => intro x m u w hN hs; rcases hs with ⟨t, rfl⟩ | ⟨n, a, k, rfl⟩ <;> simp [Fo.size] at hN
  | succ N ih =>
    intro x m u w hN hs hall hx hn hz
    rcases hs with ⟨t, rfl⟩ | ⟨n, a, k, rfl⟩
    · have hnd := hx.text.1
      have hp : (Fo.text t .nil).plain = Ch.escL false t := by simp [Fo.plain]
      have h7 := Ch.escL_ge false t
      rw [hp] at hz ⊢
      exact rplain_text t m u w hnd hn (by omega)
    · obtain ⟨hnd, hat, _⟩ := hx.elem
      have hkz : k.tops (m + 1) = [] ↔ k.isNil = true := by cases k <;> simp [Fo.tops, Fo.isNil]
      have hp : (Fo.elem n a k .nil).plain = headP n a a.length ++ (if k.tops (m + 1) = [] then [47, 62] else [62] ++ (k.plain ++ ([60, 47] ++ (n ++ [62])))) := by
        simp only [hkz, Fo.plain, headP, List.take_length, List.append_nil]
      have hk0 : k.tops (m + 1) = [] → k.plain = [] := by cases k <;> simp [Fo.tops, Fo.plain]
      have hl1 : (headP n a a.length).length = 1 + n.length + (a.flatMap tagA).length := by
        unfold headP; rw [List.take_length]; simp only [List.length_cons, List.length_append]; omega
      have hz2 : (headP n a a.length).length ≤ 549755813888 ∧ k.plain.length ≤ 549755813888 := by
        rw [hp] at hz
        by_cases h0 : k.tops (m + 1) = []
        · rw [hk0 h0]
          rw [if_pos h0] at hz
          simp only [List.length_append, List.length_cons, List.length_nil] at hz ⊢
          omega
        · rw [if_neg h0] at hz
          simp only [List.length_append, List.length_cons, List.length_nil] at hz
          omega
      have hle := upto_le Fo.plain k
      rw [parts_plain] at hle
      have := rplain_elem ⟨n, a, [], k.tops (m + 1), u⟩ m w (upto Fo.plain k) hnd hall.1 hn (by show (headP n a a.length).length ≤ _; omega) (fun i => by have := hle i; omega) (by simp [upto]) (by show n.length ≤ _; omega) ?_
      · rw [hp]
        have e3 : (k.tops (m + 1)).length = k.parts.length := (parts_len k (m + 1)).symm
        simp only [e3, upto_all, parts_plain] at this
        exact this
      · intro i hi W hW
        have hi2 : i < k.parts.length := by rw [parts_len k (m + 1)]; exact hi
        obtain ⟨t1, t2, t3⟩ := parts_at k (m + 1) hat i hi hi2
        have hnx := upto_next Fo.plain k i hi2
        have hl2 := hle (i + 1)
        rw [hnx, List.length_append] at hl2
        exact ⟨k.parts[i].plain, hnx, ih k.parts[i] (k.tops (m + 1))[i] m W (by simp only [Fo.size] at hN; omega) t2 (parts_all k hall.2.1 i hi2) t1 (hn.later hW) (by omega)⟩
end Go.Proofs.YtfolnkmbdmfigaaGreatDoor

set_option linter.unusedSimpArgs false
set_option linter.unusedVariables false
namespace Go.Proofs.YtfolnkmbdmfigaaGreatDoor
open Go.RowKit Go.Maps Go.Lib
variable {A K : Nat → Prop} {w w' w1 wr : World} {nv : Value} {av kv : Nat → Value} {l : List Nd}
set_option maxHeartbeats 8000000 in
set_option maxRecDepth 100000 in
theorem rvalue_text (t : List UInt8) (m : Nat) (u : Int) (w : World) (hnd : l[m]? = some ⟨[], [], t, [], u⟩) (hn : Nodes 76 82 A K w nv l av kv) :
    Calls Tryz.prog 18 #[nv, .int .i64 (m : Int)] w fun e w' => e = .returned (.string ⟨t.toArray⟩) ∧ Below w.heap.size w w' := by
  have hm := (List.getElem?_eq_some_iff.1 hnd).1
  obtain ⟨g, cap, rfl, hml, hKg, q0, q1, q2, q3, q4⟩ := hn.cells m _ hnd
  have hmx : (l.length : Int) ≤ 9223372036854775807 := by have : maxLen = 9223372036854775807 := rfl; omega
  have hge : ¬ (m : Int) < 0 := by omega
  have hmi : (m : Int) < l.length := by omega
  clear hn hnd
  unfold strV at q0 q2
  go_enter Tryz.func18, Tryz.ntmps18
  go_wp2
  go_ret
  exact ⟨rfl, Below.refl _ _⟩
set_option maxHeartbeats 16000000 in
set_option maxRecDepth 100000 in
theorem rvalue_elem (nd : Nd) (m : Nat) (w : World) (P : Nat → List UInt8) (hnd : l[m]? = some nd) (hnn : nd.name ≠ []) (hn : Nodes 76 82 A K w nv l av kv)
    (hP : ∀ i, (P i).length ≤ 1099511627776) (hP0 : P 0 = [])
    (hkids : ∀ i (hi : i < nd.kids.length) W, Below w.heap.size w W → ∃ t, P (i + 1) = P i ++ t ∧ Calls Tryz.prog 18 #[nv, .int .i64 (nd.kids[i] : Int)] W fun e w' => e = .returned (.string ⟨t.toArray⟩) ∧ Below W.heap.size W w') :
    Calls Tryz.prog 18 #[nv, .int .i64 (m : Int)] w fun e w' => e = .returned (.string ⟨(P nd.kids.length).toArray⟩) ∧ Below w.heap.size w w' := by
  have hm := (List.getElem?_eq_some_iff.1 hnd).1
  obtain ⟨g, cap, rfl, hml, hKg, q0, q1, q2, q3, q4⟩ := hn.cells m _ hnd
  have hkr := hn.kid m _ hnd
  obtain ⟨ki, kc, hki⟩ := slice_len hkr
  rw [hki] at q3 hkr
  have hmx : (l.length : Int) ≤ 9223372036854775807 := by have : maxLen = 9223372036854775807 := rfl; omega
  have hge : ¬ (m : Int) < 0 := by omega
  have hmi : (m : Int) < l.length := by omega
  have hgw : g < w.heap.size := World.block_lt_of_cell? w _ q0
  have hcell : ∀ W, Below w.heap.size w W → W.cell? ⟨g, m * 5 + 3, none⟩ = some (.slice ki nd.kids.length kc) := fun W hW => (World.cell?_of_block (hW.block g hgw)).trans q3
  have hkid : ∀ W, Below w.heap.size w W → ∀ i, i < nd.kids.length → ∃ ga, ki = some ⟨ga, 0, none⟩ ∧ (nd.kids.length : Int) ≤ 9223372036854775807 ∧ ∃ (z : Int) (t : List UInt8), W.cell? ⟨ga, i, none⟩ = some (.int .i64 z) ∧ P (i + 1) = P i ++ t ∧ Calls Tryz.prog 18 #[.slice (some ⟨g, 0, none⟩) l.length cap, .int .i64 z] W fun e w' => e = .returned (.string ⟨t.toArray⟩) ∧ Below W.heap.size W w' := by
    intro W hW i hi
    obtain ⟨ga, ca, e, x1, hmm⟩ := kid_cell (n := 0) hkr i hi
    obtain ⟨t, h1, h2⟩ := hkids i hi W hW
    cases e
    exact ⟨ga, rfl, by have : maxLen = 9223372036854775807 := rfl; omega, _, t, (World.cell?_of_block (hW.block ga (own_lt hkr rfl))).trans x1, h1, h2⟩
  have hne0 : nd.name.isEmpty = false := by cases h0 : nd.name with | nil => exact absurd h0 hnn | cons a r => rfl
  have HKD := hide hkid
  have HCL := hide hcell
  have HP := hide hP
  have HP0 := hide hP0
  clear hkid hkids hn hkr hki hnd hP hP0 hcell q1 q2 q4 hnn
  unfold strV at q0
  generalize nd.kids.length = NK at *
  go_enter Tryz.func18, Tryz.ntmps18
  go_wp2_with fail
  go_loopw [5, 6, 7] (fun sv iv _ wr => ∃ j : Nat, sv = .string ⟨(P j).toArray⟩ ∧ iv = .int .i64 j ∧ j ≤ NK ∧ Below w.heap.size w wr) (fun _ iv _ _ => NK - (RowKit.intOf iv).toNat)
  case atStart => exact ⟨0, by rw [HP0.out], rfl, Nat.zero_le _, Below.refl _ _⟩
  case round =>
    obtain ⟨j, rfl, rfl, hj, hb⟩ := hrel
    have d3 := HCL.out _ hb
    have HB := hide hb
    clear hb q0 q3
    by_cases hlj : j < NK
    · obtain ⟨gb, rfl, hmax, z, tt, g1, hnx, hcall⟩ := HKD.out _ HB.out j hlj
      have hdj : decide ((j : Int) < NK) = true := by simp; omega
      have hji : (j : Int) < NK := by omega
      have hp1 := HP.out (j + 1)
      have nt := congrArg List.length hnx
      simp only [List.length_append] at nt
      have p2 := add_rows2 (P j) tt (P (j + 1)) hnx.symm (by omega)
      have hsz := HB.out.size
      have HCX := hide hcall
      clear hcall hnx hp1 nt
      generalize hQ : P (j + 1) = Q at *
      have HQ := hide hQ
      clear hQ
      go_wp2_with (go_at_call 18; refine HCX.out.mono ?_; rintro e w2 ⟨rfl, b2⟩; have B2 := hide b2; clear b2)
      exact ⟨⟨j + 1, by rw [← HQ.out], by simp, by omega, HB.out.trans (below_less B2.out hsz)⟩, by simp only [RowKit.intOf]; omega⟩
    · have hdj : decide ((j : Int) < NK) = false := by simp; omega
      obtain rfl : NK = j := by omega
      go_wp2
      go_ret
      exact ⟨rfl, HB.out⟩
theorem rvalue_ok : ∀ (N : Nat) (x : Fo) (m : Nat) (u : Int) (w : World), x.size ≤ N → Single x → x.All (fun _ => True) (fun n _ => n ≠ []) → IsAt l m u x → Nodes 76 82 A K w nv l av kv → x.value.length ≤ 549755813888 →
    Calls Tryz.prog 18 #[nv, .int .i64 (m : Int)] w fun e w' => e = .returned (.string ⟨x.value.toArray⟩) ∧ Below w.heap.size w w' := by
  intro N
  induction N with
  | zero => intro x m u w hN hs; rcases hs with ⟨t, rfl⟩ | ⟨n, a, k, rfl⟩ <;> simp [Fo.size] at hN
  | succ N ih =>
    intro x m u w hN hs hall hx hn hz
    rcases hs with ⟨t, rfl⟩ | ⟨n, a, k, rfl⟩
    · have hnd := hx.text.1
      have hp : (Fo.text t .nil).value = t := by simp [Fo.value]
      rw [hp] at hz ⊢
      exact rvalue_text t m u w hnd hn
    · obtain ⟨hnd, hat, _⟩ := hx.elem
      have hp : (Fo.elem n a k .nil).value = k.value := by simp [Fo.value]
      rw [hp] at hz ⊢
      have hle := upto_le Fo.value k
      rw [parts_value] at hle
      have := rvalue_elem ⟨n, a, [], k.tops (m + 1), u⟩ m w (upto Fo.value k) hnd hall.1 hn (fun i => by have := hle i; omega) (by simp [upto]) ?_
      · have e3 : (k.tops (m + 1)).length = k.parts.length := (parts_len k (m + 1)).symm
        simp only [e3, upto_all, parts_value] at this
        exact this
      · intro i hi W hW
        have hi2 : i < k.parts.length := by rw [parts_len k (m + 1)]; exact hi
        obtain ⟨t1, t2, t3⟩ := parts_at k (m + 1) hat i hi hi2
        have hnx := upto_next Fo.value k i hi2
        have hl2 := hle (i + 1)
        rw [hnx, List.length_append] at hl2
        exact ⟨k.parts[i].value, hnx, ih k.parts[i] (k.tops (m + 1))[i] m W (by simp only [Fo.size] at hN; omega) t2 (parts_all k hall.2.1 i hi2) t1 (hn.later hW) (by omega)⟩
end Go.Proofs.YtfolnkmbdmfigaaGreatDoor

set_option linter.unusedSimpArgs false
set_option linter.unusedVariables false
namespace Go.Proofs.YtfolnkmbdmfigaaGreatDoor
open Go.RowKit Go.Maps Go.Lib
variable {w w' w1 wr : World} {a : Addr}
def alive1 : ByteArray := ⟨#[60, 97, 62, 60, 98, 47, 62, 120, 60, 47, 97, 62]⟩
def alive2 : ByteArray := ⟨#[60, 97, 32, 107, 61, 39, 49, 39, 62, 60, 47, 97, 62]⟩
theorem alive1_all : refAll alive1 = ([⟨1, [97], [], [], 0⟩, ⟨1, [98], [], [], 3⟩, ⟨2, [98], [], [], 3⟩, ⟨3, [], [], [120], 7⟩, ⟨2, [97], [], [], 8⟩], 0, 0) := by rw [← all_ref]; kernel_rfl
theorem alive2_all : refAll alive2 = ([⟨1, [97], [([107], [49])], [], 0⟩, ⟨2, [97], [], [], 9⟩], 0, 0) := by rw [← all_ref]; kernel_rfl
def leaf2 : Fo := .elem [97] [([107], [49])] .nil .nil
theorem alive1_parse : parseN alive1 = ([⟨[97], [], [], [1, 2], -1⟩, ⟨[98], [], [], [], 0⟩, ⟨[], [], [120], [], 0⟩], 0, 0) := by
  obtain ⟨h1, h2⟩ := toks_all (s := alive1) (by rw [alive1_all])
  unfold parseN
  rw [h2, h1, alive1_all]
  rfl
theorem alive2_parse : parseN alive2 = ([⟨[97], [([107], [49])], [], [], -1⟩], 0, 0) := by
  obtain ⟨h1, h2⟩ := toks_all (s := alive2) (by rw [alive2_all])
  unfold parseN
  rw [h2, h1, alive2_all]
  rfl
theorem leaf2_plain : leaf2.plain = [60, 97, 32, 107, 61, 34, 49, 34, 47, 62] := by rfl
theorem leaf2_ok : Leaf (parseN alive2).1 0 leaf2 := by
  rw [alive2_parse]
  refine ⟨⟨-1, isAt_whole leaf2 (-1)⟩, Or.inr ⟨_, _, _, rfl⟩, ⟨by simp, trivial, trivial⟩, ?_, ?_, by decide⟩
  · rw [leaf2_plain]; decide
  · decide
theorem Gl.up (gl : Gl w a) (h : Below w.heap.size w w') : Gl w' a := gl.frame (F := fun _ => False) (Frame.below h) (fun _ _ x => x)
theorem num_ok (n : Int) (w : World) : Calls Tryz.prog 12 #[.int .i64 n] w fun e w' => e = .returned (.int .i64 n) ∧ w' = w := by
  go_enter Tryz.func12, Tryz.ntmps12
  go_wp2
  go_ret
  exact ⟨rfl, rfl⟩
set_option maxHeartbeats 8000000 in
set_option maxRecDepth 100000 in
theorem alive_ok (gl : Gl w a) : Calls Tryz.prog 13 #[] w fun e w' => e = .returned (.bool true) ∧ Below w.heap.size w w' := by
  have h1 := parse_ok alive1 w gl (by decide)
  rw [alive1_parse] at h1
  have h2 : ∀ W, Below w.heap.size w W → Calls Tryz.prog 14 #[.string alive2] W (WEnd W [60, 97, 32, 107, 61, 34, 49, 34, 47, 62] 0 0) := fun W hW => by
    have := print_good (w := W) alive2 (gl.up hW) (by decide) (by rw [alive2_parse]) leaf2_ok
    rw [leaf2_plain] at this
    exact this
  have H1 := hide h1
  have H2 := hide h2
  clear h1 h2 gl
  unfold alive1 at H1
  unfold alive2 at H2
  go_enter Tryz.func13, Tryz.ntmps13
  go_wp2_with (first
    | (go_at_call 9; refine H1.out.mono ?_; rintro e w1 ⟨v, rfl, ⟨A, K, av, kv, hn, _⟩, b1, _⟩; obtain ⟨g, cap, rfl, hml, hKg, q0, q1, q2, q3, q4⟩ := hn.cells 2 ⟨[], [], [120], [], 0⟩ rfl; have hlt := World.block_lt_of_cell? w1 _ q2; have B1 := hide b1; clear hn b1 q0 q1 q3 q4 hml)
    | (go_at_call 14; refine (H2.out _ B1.out).mono ?_; rintro e w2 ⟨rfl, b2⟩; have r2 : w2.cell? ⟨g, 12, none⟩ = some (.string ⟨#[120]⟩) := (World.cell?_of_block (b2.block g hlt)).trans q2; have B2 := hide (B1.out.trans (below_less b2 B1.out.size)); clear b2)
    | (go_at_call 12; refine (num_ok _ _).mono ?_; rintro e w3 ⟨rfl, rfl⟩))
  go_ret
  exact ⟨rfl, B2.out⟩
end Go.Proofs.YtfolnkmbdmfigaaGreatDoor
