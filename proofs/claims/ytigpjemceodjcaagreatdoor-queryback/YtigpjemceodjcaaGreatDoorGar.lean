import Derived.Test.YtigpjemceodjcaaGreatDoorGaq
set_option linter.unusedVariables false
set_option linter.unusedSimpArgs false
set_option linter.unusedSimpArgs false
set_option linter.unusedVariables false
namespace Go.Proofs.YtigpjemceodjcaaGreatDoor
open Go.RowKit Go.Maps Go.Lib
variable {w w' w1 W : World} {b : Nat} {o : L}

abbrev aP (O : ByteArray) (ki : Option Addr) (nk kc : Nat) (si : Option Addr) (ns sc : Nat) (A T : ByteArray) : Array Value := #[.string O, .slice ki nk kc, .slice si ns sc, .string A, .string T]
def PB (w : World) (b : Nat) (vk vs : Value) (p : Prd) : Prop := slP w (fun k => k < b) 51 86 vk p.kids ∧ slS w (fun k => k < b) 51 86 vs p.steps
theorem Wr.slP {vk : Value} {p : Prds} (h : Wr b w w') (s : slP w (fun k => k < b) 51 86 vk p) : slP w' (fun k => k < b) 51 86 vk p := slP.move (fun k hk _ => ⟨hk, h.below.block k hk⟩) s
theorem Wr.slS {vk : Value} {p : Stps} (h : Wr b w w') (s : slS w (fun k => k < b) 51 86 vk p) : slS w' (fun k => k < b) 51 86 vk p := slS.move (fun k hk _ => ⟨hk, h.below.block k hk⟩) s
theorem Wr.pb {vk vs : Value} {p : Prd} (h : Wr b w w') (s : PB w b vk vs p) : PB w' b vk vs p := ⟨h.slP s.1, h.slS s.2⟩
def WG (b : Nat) (o T : L) (w : World) (e : Ending) (w' : World) : Prop := e = .returned (.tuple #[]) ∧ WB b (o ++ T) w' ∧ Wr b w w'
def CallP (f : FuncId) (b : Nat) (p : Prd) (T : L) : Prop := ∀ w o ki nk kc si ns sc, WB b o w → PB w b (.slice ki nk kc) (.slice si ns sc) p → o.length + T.length ≤ 1000000 →
  Calls Tryz.prog f #[.pointer (some ⟨b, 0, none⟩), .agg (aP (bs p.op) ki nk kc si ns sc (bs p.attr) (bs p.text))] w (WG b o T w)
theorem wr_alloc (h : WB b o w) (x : Obj) : Wr b w (w.alloc x) ∧ WB b o (w.alloc x) := by
  have hb := (Below.refl w.heap.size w).alloc (Nat.le_refl _) x
  exact ⟨Wr.past (Nat.le_of_lt h.lt) hb, h.below hb⟩
theorem Wr.box {k : Nat} {a : Array Value} {t : TypeId} (h : Wr b w w') (e : w.heap[k]? = some (.cells a t (0, 0))) (n : k ≠ b) (ht : t ≠ 5) : w'.heap[k]? = some (.cells a t (0, 0)) :=
  h.keep k _ e n (by intro c fz e; cases e; exact ht rfl)
theorem put1 (h : WB b o w) (t : L) (hlen : o.length + t.length ≤ 1000000) : Calls Tryz.prog 22 #[.pointer (some ⟨b, 0, none⟩), .string (bs t)] w fun e w' => e = .returned (.tuple #[.int .i64 t.length, .nilIface]) ∧ Hid (WB b (o ++ t) w' ∧ Wr b w w') := (put_ok h t hlen).mono fun e w' ⟨h1, h2⟩ => ⟨h1, hide h2⟩
set_option maxHeartbeats 4000000 in
set_option maxRecDepth 100000 in
theorem brk_ok (p : Prd) (T : L) (hc : CallP 38 b p T) : CallP 52 b p (40 :: (T ++ [41])) := by
  intro w o ki nk kc si ns sc hw hv hl
  simp only [List.length_cons, List.length_append, List.length_nil] at hl
  obtain ⟨wa, wb⟩ := wr_alloc hw (.cells (aP (bs p.op) ki nk kc si ns sc (bs p.attr) (bs p.text)) 86)
  have hB := Below_new w (.cells (aP (bs p.op) ki nk kc si ns sc (bs p.attr) (bs p.text)) 86)
  have hne : w.heap.size ≠ b := by have := hw.lt; omega
  have H1 := hide (put1 wb [40] (by simp; omega))
  have HF : Hid (∀ W1, WB b (o ++ [40]) W1 ∧ Wr b (w.alloc (.cells (aP (bs p.op) ki nk kc si ns sc (bs p.attr) (bs p.text)) 86)) W1 → W1.heap[w.heap.size]? = some (.cells (aP (bs p.op) ki nk kc si ns sc (bs p.attr) (bs p.text)) 86 (0, 0)) ∧ Hid (Calls Tryz.prog 38 #[.pointer (some ⟨b, 0, none⟩), .agg (aP (bs p.op) ki nk kc si ns sc (bs p.attr) (bs p.text))] W1 fun e w' => e = .returned (.tuple #[]) ∧ Hid (WB b (o ++ [40] ++ T) w' ∧ Wr b w w'))) := fun W1 h1 => by
    refine ⟨h1.2.box hB hne (by decide), hide ?_⟩
    refine (hc W1 _ ki nk kc si ns sc h1.1 (h1.2.pb (wa.pb hv)) (by simp; omega)).mono ?_
    rintro e w' ⟨h, k, r⟩
    exact ⟨h, hide ⟨k, (wa.trans h1.2).trans r⟩⟩
  have HE : Hid (∀ W2, WB b (o ++ [40] ++ T) W2 ∧ Wr b w W2 → Calls Tryz.prog 22 #[.pointer (some ⟨b, 0, none⟩), .string (bs [41])] W2 fun e w' => e = .returned (.tuple #[.int .i64 1, .nilIface]) ∧ Hid (WG b o (40 :: (T ++ [41])) w (.returned (.tuple #[])) w')) := fun W2 h2 => by
    refine (put1 h2.1 [41] (by simp; omega)).mono ?_
    rintro e w' ⟨h, k⟩
    refine ⟨h, hide ⟨rfl, ?_, h2.2.trans k.out.2⟩⟩
    have := k.out.1
    simp only [List.append_assoc, List.cons_append, List.nil_append] at this ⊢
    exact this
  clear hc hl wa wb hB hw hv
  generalize bs p.op = O at *
  generalize bs p.attr = A at *
  generalize bs p.text = X at *
  go_enter Tryz.func52, Tryz.ntmps52
  go_wp2_with (first | (go_at_call 22; refine H1.out.mono ?_; rintro e w1 ⟨rfl, h1⟩; obtain ⟨hb1, hc1⟩ := HF.out _ h1.out; obtain ⟨⟨c0, c1, c2, c3, c4⟩, -⟩ := cells5 hb1; clear h1 H1 HF hb1) | (go_at_call 38; refine hc1.out.mono ?_; rintro e w2 ⟨rfl, h2⟩; have h3 := hide (HE.out _ h2.out); clear hc1 h2 HE c0 c1 c2 c3 c4) | (go_at_call 22; refine h3.out.mono ?_; rintro e w3 ⟨rfl, h4⟩; clear h3))
  go_end0
  exact h4.out
end Go.Proofs.YtigpjemceodjcaaGreatDoor
