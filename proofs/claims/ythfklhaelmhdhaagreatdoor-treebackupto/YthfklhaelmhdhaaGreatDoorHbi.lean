import Derived.Test.YthfklhaelmhdhaaGreatDoorHbh
set_option linter.unusedVariables false
set_option linter.unusedSimpArgs false
set_option linter.unusedSimpArgs false
set_option linter.unusedVariables false
namespace Go.Proofs.YthfklhaelmhdhaaGreatDoor
open Go.RowKit Go.Maps Go.Lib
variable {A K : Nat → Prop} {w w' w1 wr : World} {a : Addr} {nv : Value} {av kv : Nat → Value} {l : List Nd}
theorem Nodes.view (h : Nodes 42 44 A K w nv l av kv) {g cap : Nat} (hv : nv = .slice (some ⟨g, 0, none⟩) l.length cap) (o n : Nat) (ho : o + n ≤ l.length) : NView w (some ⟨g, o * 5, none⟩) ((l.drop o).take n) := by
  have hlen : ((l.drop o).take n).length ≤ l.length := by simp; omega
  refine ⟨?_, fun i x hi => ?_⟩
  · by_cases h0 : l.length = 0
    · omega
    · obtain ⟨g', cap', _, hml, _⟩ := h.cells 0 _ (List.getElem?_eq_getElem (by omega))
      have : maxLen = 9223372036854775807 := rfl
      omega
  · rw [List.getElem?_take] at hi
    split at hi
    · rename_i hin
      rw [List.getElem?_drop] at hi
      obtain ⟨g', cap', e, hml, _, c0, c1, c2, c3, c4⟩ := h.cells (o + i) x hi
      rw [hv] at e
      cases e
      have e1 : (o + i) * 5 = o * 5 + i * 5 := by omega
      rw [e1] at c0 c1 c2 c3 c4
      exact ⟨g, o * 5, _, _, rfl, c0, c1, c2, c3, c4, h.attr _ _ hi, h.kid _ _ hi⟩
    · cases hi
theorem Nodes.viewAll (h : Nodes 42 44 A K w nv l av kv) {g cap : Nat} (hv : nv = .slice (some ⟨g, 0, none⟩) l.length cap) : NView w (some ⟨g, 0, none⟩) l := by
  have := h.view hv 0 l.length (by omega)
  rw [List.drop_zero, List.take_length, Nat.zero_mul] at this
  exact this
theorem flat_bounds : ∀ (f : Fo) (m : Nat) (u : Int), ∀ nd ∈ f.flat m u, (∀ q ∈ nd.kids, q < m + f.size) ∧ (nd.up = u ∨ ((m : Int) ≤ nd.up ∧ nd.up < (m : Int) + f.size))
  | .nil, m, u, nd, h => by simp [Fo.flat] at h
  | .text t r, m, u, nd, h => by
    simp only [Fo.flat, List.mem_cons] at h
    simp only [Fo.size]
    rcases h with rfl | h
    · exact ⟨fun q hq => by simp at hq, Or.inl rfl⟩
    · obtain ⟨x, y⟩ := flat_bounds r (m + 1) u nd h
      exact ⟨fun q hq => by have := x q hq; omega, y.imp id fun z => by omega⟩
  | .elem n a k r, m, u, nd, h => by
    simp only [Fo.flat, List.mem_cons, List.mem_append] at h
    simp only [Fo.size]
    rcases h with rfl | h | h
    · exact ⟨fun q hq => by have := tops_lt k (m + 1) q hq; omega, Or.inl rfl⟩
    · obtain ⟨x, y⟩ := flat_bounds k (m + 1) m nd h
      exact ⟨fun q hq => by have := x q hq; omega, Or.inr (by omega)⟩
    · obtain ⟨x, y⟩ := flat_bounds r (m + 1 + k.size) u nd h
      exact ⟨fun q hq => by have := x q hq; omega, y.imp id fun z => by omega⟩
theorem escL_pos' {t : List UInt8} (h : t ≠ []) : 1 ≤ (Ch.escL false t).length := by
  have := Ch.escL_ge false t
  cases t with
  | nil => exact absurd rfl h
  | cons a l => simp only [List.length_cons] at this; omega
theorem size_le_plain : ∀ (f : Fo), f.All GoodT GoodE → f.size ≤ f.plain.length
  | .nil, _ => by simp [Fo.size]
  | .text t r, h => by
    have h1 := size_le_plain r h.2
    have h2 := escL_pos' h.1.2
    simp only [Fo.size, Fo.plain, List.length_append]; omega
  | .elem n a k r, h => by
    have h1 := size_le_plain k h.2.1
    have h2 := size_le_plain r h.2.2
    simp only [Fo.size, Fo.plain, List.length_append, List.length_cons]
    by_cases hz : k.isNil = true
    · have : k.size = 0 := by cases k <;> simp [Fo.isNil, Fo.size] at hz ⊢
      rw [if_pos hz]; simp only [List.length_cons, List.length_nil]; omega
    · rw [if_neg hz]; simp only [List.length_cons, List.length_append]; omega
theorem alike_self {m : Nat} {u : Int} (f : Fo) (hm : m + f.size ≤ 1099511627776) (hu : -1 ≤ u ∧ u ≤ 1099511627776) : AlikeN (f.flat m u) (f.flat m u) 0 := by
  refine ⟨rfl, fun i x y hx hy => ?_⟩
  obtain rfl : x = y := Option.some.inj (hx.symm.trans hy)
  obtain ⟨b1, b2⟩ := flat_bounds f m u x (List.mem_of_getElem? hx)
  refine ⟨⟨rfl, rfl, rfl, rfl, fun k p q hp hq => ?_⟩, fun _ => ⟨by omega, ?_⟩⟩
  · obtain rfl : p = q := Option.some.inj (hp.symm.trans hq)
    have := b1 p (List.mem_of_getElem? hp)
    omega
  · rcases b2 with e | e <;> omega
end Go.Proofs.YthfklhaelmhdhaaGreatDoor

set_option linter.unusedSimpArgs false
set_option linter.unusedVariables false
namespace Go.Proofs.YthfklhaelmhdhaaGreatDoor
open Go.RowKit Go.Maps Go.Lib
variable {A K : Nat → Prop} {w w' w1 wr : World} {a : Addr} {nv : Value} {av kv : Nat → Value} {l : List Nd}
theorem eqlN_nil (W : World) : (binOp .eql 22 (.slice none 0 0) (.slice none 0 0)).run Tryz.prog W = .ok (.bool true) W := by kernel_rfl
theorem Nodes.after' (h : Nodes 42 44 A K w nv l av kv) (hb : Below w.heap.size w w') : Nodes 42 44 A K w' nv l av kv :=
  h.frame (fun k hk _ => hb.block k hk) (fun k hk _ => hb.block k hk) (fun _ _ x => x)
set_option maxHeartbeats 8000000 in
set_option maxRecDepth 100000 in
theorem treeBack_bad (s : ByteArray) (w : World) (gl : Gl w a) (hb : s.size ≤ 268435456) (h0 : (parseN s).2.1 ≠ 0) : Calls Tryz.prog 5 #[.string s] w fun e w' => e = .returned (.bool true) ∧ Below w.heap.size w w' := by
  have h1 := parse_ok s w gl hb
  have h2 : ∀ W, Calls Tryz.prog 10 #[.string s] W (RParseEnd W (parseN s)) := fun W => rparse_ok s W hb
  have hP : ∀ W, Below w.heap.size w W → Calls Tryz.prog 14 #[.string s] W (WEnd W [] (parseN s).2.1 (parseN s).2.2) := fun W hW => print_bad s (gl.up hW) hb h0
  have h3 : ∀ W, Below w.heap.size w W → Calls Tryz.prog 13 #[] W fun e w' => e = .returned (.bool true) ∧ Below W.heap.size W w' := fun W hW => alive_ok (gl.up hW)
  have H1 := hide h1
  have H2 := hide h2
  have HP := hide hP
  have H3 := hide h3
  clear h1 h2 h3 hP gl
  generalize parseN s = x at *
  obtain ⟨L, no, q⟩ := x
  have hno : (no != no) = false := by simp
  have hz : (no != 0) = true := by simpa using h0
  have hnil := eqlN_nil
  go_enter Tryz.func5, Tryz.ntmps5
  go_wp2_with (first
    | (go_at_call 9; refine H1.out.mono ?_; rintro e w1 ⟨v, rfl, _, b1, hv⟩; have hv' := hv h0; unfold nilS at hv'; subst hv'; have B1 := hide b1; clear b1 hv)
    | (go_at_call 10; refine (H2.out _).mono ?_; rintro e w2 ⟨v2, rfl, _, b2⟩; have B2 := hide (bon' B1.out b2); clear b2)
    | (go_at_call 14; refine (HP.out _ B2.out).mono ?_; rintro e w3 ⟨rfl, b3⟩; have B3 := hide (bon' B2.out b3); clear b3)
    | (go_at_call 12; refine (num_ok _ _).mono ?_; rintro e w5 ⟨rfl, rfl⟩)
    | (go_at_call 13; refine (H3.out _ B3.out).mono ?_; rintro e w6 ⟨rfl, b6⟩; have B6 := hide (bon' B3.out b6); clear b6))
  go_ret
  exact ⟨rfl, B6.out⟩
set_option maxHeartbeats 8000000 in
set_option maxRecDepth 100000 in
theorem treeBack_good (s : ByteArray) (w : World) (gl : Gl w a) (hb : s.size ≤ 1048576) (h0 : (parseN s).2.1 = 0) : Calls Tryz.prog 5 #[.string s] w fun e w' => e = .returned (.bool true) ∧ Below w.heap.size w w' := by
  have h1 := parse_ok s w gl (by omega)
  have h2 : ∀ W, Calls Tryz.prog 10 #[.string s] W (RParseEnd W (parseN s)) := fun W => rparse_ok s W (by omega)
  obtain ⟨hq0, n, at_, f, hw⟩ := whole_of h0
  have hx := hw.first (by omega)
  have hpl := hw.plain
  have hpt : parseN ⟨(Fo.elem n at_ f .nil).plain.toArray⟩ = ((parseN s).1, 0, 0) := by rw [parse_root hw.root (t := ⟨(Fo.elem n at_ f .nil).plain.toArray⟩) (by simp), hw.nodes]
  have hal : AlikeN (parseN s).1 (parseN s).1 0 := by
    have hl := hw.len
    rw [hw.nodes]
    refine alike_self _ ?_ (by omega)
    have h3 := readS_len s
    have h4 : (parseN s).1.length ≤ 64 * s.size := by
      rw [hw.nodes, flat_len]
      have := size_le_plain (Fo.elem n at_ f .nil) ⟨hw.root.name, hw.root.all, trivial⟩
      have := hw.plain
      omega
    rw [hw.nodes, flat_len] at h4
    omega
  obtain ⟨x, hxe⟩ : ∃ x, Fo.elem n at_ f .nil = x := ⟨_, rfl⟩
  rw [hxe] at hx hpt hpl
  have hP : ∀ W, Below w.heap.size w W → Calls Tryz.prog 14 #[.string s] W (WEnd W x.plain 0 0) := fun W hW => print_good s (gl.up hW) (by omega) h0 hx
  have hS : ∀ W, Below w.heap.size w W → Calls Tryz.prog 15 #[.string s, .int .i64 0] W (WEnd W x.plain 0 0) := fun W hW => sub_good s 0 (gl.up hW) (by omega) h0 hx
  have hsz : (⟨x.plain.toArray⟩ : ByteArray).size ≤ 268435456 := by simp only [ByteArray.size, List.size_toArray]; omega
  have h1t : ∀ W, Below w.heap.size w W → Calls Tryz.prog 9 #[.string ⟨x.plain.toArray⟩] W (ParseEnd W ((parseN s).1, 0, 0)) := fun W hW => by
    have := parse_ok ⟨x.plain.toArray⟩ W (gl.up hW) hsz
    rw [hpt] at this
    exact this
  have hPt : ∀ W, Below w.heap.size w W → Calls Tryz.prog 14 #[.string ⟨x.plain.toArray⟩] W (WEnd W x.plain 0 0) := fun W hW => print_good _ (gl.up hW) hsz (by rw [hpt]) (by rw [hpt]; exact hx)
  have h4 : ∀ v v2 A K av kv A2 K2 av2 kv2 W, Nodes 42 44 A K W v (parseN s).1 av kv → Nodes 42 44 A2 K2 W v2 (parseN s).1 av2 kv2 → Calls Tryz.prog 19 #[v, v2, .int .i64 0] W fun e w' => e = .returned (.bool true) ∧ Below W.heap.size W w' := fun v v2 A K av kv A2 K2 av2 kv2 W n1 n2 => by
    have hl := hw.len
    obtain ⟨g1, c1, e1, _⟩ := n1.cells 0 _ (List.getElem?_eq_getElem (by omega))
    obtain ⟨g2, c2, e2, _⟩ := n2.cells 0 _ (List.getElem?_eq_getElem (by omega))
    have v1 := n1.viewAll e1
    have v2 := n2.viewAll e2
    rw [e1, e2]
    exact alike_ok _ _ _ _ 0 v1 v2 hal (by omega)
  have H1 := hide h1
  have H2 := hide h2
  have HP := hide hP
  have HS := hide hS
  have H1T := hide h1t
  have HPT := hide hPt
  have H4 := hide h4
  clear h1 h2 hP gl hS h1t hPt h4 hw hx hpl hpt hal hxe hsz
  generalize parseN s = xx at *
  obtain ⟨L, no, q⟩ := xx
  simp only at h0 hq0
  subst h0
  subst hq0
  generalize x.plain = PL at *
  have hpl : (PL == PL) = true := by simp
  go_enter Tryz.func5, Tryz.ntmps5
  go_wp2_with (first
    | (go_at_call 9; first | (refine H1.out.mono ?_; rintro e w1 ⟨v, rfl, ⟨A1, K1, av1, kv1, hn, _⟩, b1, hv⟩; have N1 := hide hn; have B1 := hide b1; clear b1 hv hn H1) | (refine (H1T.out _ B3.out).mono ?_; rintro e w4 ⟨v4, rfl, ⟨A4, K4, av4, kv4, hn, _⟩, b4, hv⟩; have N4 := hide (N3.out.after' b4); have M4 := hide hn; have B4 := hide (bon' B3.out b4); clear b4 hv hn))
    | (go_at_call 10; refine (H2.out _).mono ?_; rintro e w2 ⟨v2, rfl, _, b2⟩; have N2 := hide (N1.out.after' b2); have B2 := hide (bon' B1.out b2); clear b2)
    | (go_at_call 14; first | (refine (HP.out _ B2.out).mono ?_; rintro e w3 ⟨rfl, b3⟩; have N3 := hide (N2.out.after' b3); have B3 := hide (bon' B2.out b3); clear b3 HP) | (refine (HPT.out _ B4.out).mono ?_; rintro e w5 ⟨rfl, b5⟩; have N5 := hide (N4.out.after' b5); have M5 := hide (M4.out.after' b5); have B5 := hide (bon' B4.out b5); clear b5))
    | (go_at_call 15; refine (HS.out _ B5.out).mono ?_; rintro e w6 ⟨rfl, b6⟩; have N6 := hide (N5.out.after' b6); have M6 := hide (M5.out.after' b6); have B6 := hide (bon' B5.out b6); clear b6)
    | (go_at_call 19; refine (H4.out _ _ _ _ _ _ _ _ _ _ _ N6.out M6.out).mono ?_; rintro e w7 ⟨rfl, b7⟩; have B7 := hide (bon' B6.out b7); clear b7)
    | (go_at_call 12; refine (num_ok _ _).mono ?_; rintro e w8 ⟨rfl, rfl⟩))
  go_ret
  exact ⟨rfl, B7.out⟩
theorem treeBack_ok (s : ByteArray) (w : World) (gl : Gl w a) (hb : s.size ≤ 1048576) : Calls Tryz.prog 5 #[.string s] w fun e w' => e = .returned (.bool true) ∧ Below w.heap.size w w' := by
  by_cases h0 : (parseN s).2.1 = 0
  · exact treeBack_good s w gl hb h0
  · exact treeBack_bad s w gl (by omega) h0
end Go.Proofs.YthfklhaelmhdhaaGreatDoor
