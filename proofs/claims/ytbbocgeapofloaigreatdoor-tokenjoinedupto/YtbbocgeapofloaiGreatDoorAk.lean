import Derived.BigQuiet
import Derived.Deep.QuietTactic
import Derived.Shelf.Unicode.DecodeSlow
import Derived.Lib.DecodeN
import Derived.Test.YtbbocgeapofloaiGreatDoorAj
import Derived.Test.YtbbocgeapofloaiGreatDoorAa
set_option linter.unusedVariables false
set_option linter.unusedSimpArgs false
namespace Go.Proofs.YtbbocgeapofloaiGreatDoor
open Go.RowKit Go.Maps Go.Lib

/-- Is a whole character there, or none that bytes to come could make one? n: how many bytes there are; f: what utf8's table says of the first; b1, b2: the next two. -/
def fullN (n f b1 b2 : Nat) : Bool := decide (f % 8 ≤ n) || ((decide (1 < n) && (decide (b1 < accLo (f / 16)) || decide (accHi (f / 16) < b1))) || (decide (2 < n) && (decide (b2 < 128) || decide (191 < b2))))

theorem below_drewN {B : Nat} {a w : World} (h : Below B a w) (n : Nat) : Below B a (w.drewN n) := h.trans ⟨rfl, rfl, rfl, Nat.le_refl _, fun _ _ => rfl⟩

def Past (w : World) (b : Bool) (e : Ending) (w' : World) : Prop := e = .returned (.bool b) ∧ Below w.heap.size w w'

set_option maxHeartbeats 4000000 in
set_option maxRecDepth 10000 in
theorem full_one (s : ByteArray) (f lo hi a : Nat) (hf : (f = 2 ∧ a = 0) ∨ (f = 19 ∧ a = 1) ∨ (f = 3 ∧ a = 0) ∨ (f = 35 ∧ a = 2) ∨ (f = 52 ∧ a = 3) ∨ (f = 4 ∧ a = 0) ∨ (f = 68 ∧ a = 4)) (w : World) (hn : s.size = 1) (x0 : UInt8) (hs0 : s[0]'(by omega) = x0)
    (hc0 : w.cell? ⟨3, x0.toNat, none⟩ = some (.int .u8 f)) (ha0 : w.cell? ⟨4, 2 * a, none⟩ = some (.int .u8 lo)) (ha1 : w.cell? ⟨4, 2 * a + 1, none⟩ = some (.int .u8 hi)) (h34 : 4 < w.heap.size) :
    Calls Tryz.prog 84 #[.string s] w (Past w false) := by
  have l0 := x0.toNat_lt
  have hz0 : (0 : Int) < (s.size : Int) := by omega
  rcases hf with ⟨rfl, rfl⟩ | ⟨rfl, rfl⟩ | ⟨rfl, rfl⟩ | ⟨rfl, rfl⟩ | ⟨rfl, rfl⟩ | ⟨rfl, rfl⟩ | ⟨rfl, rfl⟩
  all_goals
    simp only [Nat.reduceMul, Nat.reduceAdd] at ha0 ha1
    go_enter Tryz.func84, Tryz.ntmps84
    go_wp2_with fail
    go_quiet (fail)
    go_wp2
    go_ret
    exact ⟨rfl, (below_drewN ((Below.refl _ w).alloc (Nat.le_refl _) _) _)⟩

set_option maxHeartbeats 4000000 in
set_option maxRecDepth 10000 in
theorem full_two (s : ByteArray) (f lo hi a : Nat) (hf : (f = 19 ∧ a = 1) ∨ (f = 3 ∧ a = 0) ∨ (f = 35 ∧ a = 2) ∨ (f = 52 ∧ a = 3) ∨ (f = 4 ∧ a = 0) ∨ (f = 68 ∧ a = 4)) (w : World) (hn : s.size = 2) (x0 x1 : UInt8) (hs0 : s[0]'(by omega) = x0) (hs1 : s[1]'(by omega) = x1)
    (hc0 : w.cell? ⟨3, x0.toNat, none⟩ = some (.int .u8 f)) (ha0 : w.cell? ⟨4, 2 * a, none⟩ = some (.int .u8 lo)) (ha1 : w.cell? ⟨4, 2 * a + 1, none⟩ = some (.int .u8 hi)) (h34 : 4 < w.heap.size) :
    Calls Tryz.prog 84 #[.string s] w (Past w (decide (x1.toNat < lo) || decide (hi < x1.toNat))) := by
  have l0 := x0.toNat_lt
  have l1 := x1.toNat_lt
  have hz0 : (0 : Int) < (s.size : Int) := by omega
  have hz1 : (1 : Int) < (s.size : Int) := by omega
  by_cases hl : x1.toNat < lo
  · have e1 : (x1.toNat : Int) < (lo : Int) := by omega
    rw [show (decide (x1.toNat < lo) || decide (hi < x1.toNat)) = true by simp [hl]]
    rcases hf with ⟨rfl, rfl⟩ | ⟨rfl, rfl⟩ | ⟨rfl, rfl⟩ | ⟨rfl, rfl⟩ | ⟨rfl, rfl⟩ | ⟨rfl, rfl⟩
    all_goals
      simp only [Nat.reduceMul, Nat.reduceAdd] at ha0 ha1
      go_enter Tryz.func84, Tryz.ntmps84
      go_wp2_with fail
      go_quiet (fail)
      go_wp2
      go_ret
      exact ⟨rfl, (below_drewN ((Below.refl _ w).alloc (Nat.le_refl _) _) _)⟩
  · have e1 : ¬ ((x1.toNat : Int) < (lo : Int)) := by omega
    have e1' : decide ((x1.toNat : Int) < (lo : Int)) = false := by simpa using e1
    by_cases hh : hi < x1.toNat
    · have e2 : (hi : Int) < (x1.toNat : Int) := by omega
      rw [show (decide (x1.toNat < lo) || decide (hi < x1.toNat)) = true by simp [hh]]
      rcases hf with ⟨rfl, rfl⟩ | ⟨rfl, rfl⟩ | ⟨rfl, rfl⟩ | ⟨rfl, rfl⟩ | ⟨rfl, rfl⟩ | ⟨rfl, rfl⟩
      all_goals
        simp only [Nat.reduceMul, Nat.reduceAdd] at ha0 ha1
        go_enter Tryz.func84, Tryz.ntmps84
        go_wp2_with fail
        go_quiet (fail)
        go_wp2
        go_ret
        exact ⟨rfl, (below_drewN ((Below.refl _ w).alloc (Nat.le_refl _) _) _)⟩
    · have e2 : ¬ ((hi : Int) < (x1.toNat : Int)) := by omega
      have e2' : decide ((hi : Int) < (x1.toNat : Int)) = false := by simpa using e2
      rw [show (decide (x1.toNat < lo) || decide (hi < x1.toNat)) = false by simp [hl, hh]]
      rcases hf with ⟨rfl, rfl⟩ | ⟨rfl, rfl⟩ | ⟨rfl, rfl⟩ | ⟨rfl, rfl⟩ | ⟨rfl, rfl⟩ | ⟨rfl, rfl⟩
      all_goals
        simp only [Nat.reduceMul, Nat.reduceAdd] at ha0 ha1
        go_enter Tryz.func84, Tryz.ntmps84
        go_wp2_with fail
        go_quiet (fail)
        go_wp2
        go_ret
        exact ⟨rfl, (below_drewN ((Below.refl _ w).alloc (Nat.le_refl _) _) _)⟩
end Go.Proofs.YtbbocgeapofloaiGreatDoor
namespace Go.Proofs.YtbbocgeapofloaiGreatDoor
open Go.RowKit Go.Maps Go.Lib

set_option maxHeartbeats 4000000 in
set_option maxRecDepth 10000 in
theorem full_three (s : ByteArray) (f lo hi a : Nat) (hf : (f = 52 ∧ a = 3) ∨ (f = 4 ∧ a = 0) ∨ (f = 68 ∧ a = 4)) (w : World) (hn : s.size = 3) (x0 x1 x2 : UInt8) (hs0 : s[0]'(by omega) = x0) (hs1 : s[1]'(by omega) = x1) (hs2 : s[2]'(by omega) = x2)
    (hc0 : w.cell? ⟨3, x0.toNat, none⟩ = some (.int .u8 f)) (ha0 : w.cell? ⟨4, 2 * a, none⟩ = some (.int .u8 lo)) (ha1 : w.cell? ⟨4, 2 * a + 1, none⟩ = some (.int .u8 hi)) (_h34 : 4 < w.heap.size) :
    Calls Tryz.prog 84 #[.string s] w (Past w (decide (x1.toNat < lo) || decide (hi < x1.toNat) || (decide (x2.toNat < 128) || decide (191 < x2.toNat)))) := by
  have l0 := x0.toNat_lt
  have l1 := x1.toNat_lt
  have l2 := x2.toNat_lt
  have hz0 : (0 : Int) < (s.size : Int) := by omega
  have hz1 : (1 : Int) < (s.size : Int) := by omega
  have hz2 : (2 : Int) < (s.size : Int) := by omega
  by_cases hl : x1.toNat < lo
  · have e1 : (x1.toNat : Int) < (lo : Int) := by omega
    rw [show (decide (x1.toNat < lo) || decide (hi < x1.toNat) || (decide (x2.toNat < 128) || decide (191 < x2.toNat))) = true by simp [hl]]
    rcases hf with ⟨rfl, rfl⟩ | ⟨rfl, rfl⟩ | ⟨rfl, rfl⟩
    all_goals
      simp only [Nat.reduceMul, Nat.reduceAdd] at ha0 ha1
      go_enter Tryz.func84, Tryz.ntmps84
      go_wp2_with fail
      go_quiet (fail)
      go_wp2
      go_ret
      exact ⟨rfl, (below_drewN ((Below.refl _ w).alloc (Nat.le_refl _) _) _)⟩
  · have e1 : ¬ ((x1.toNat : Int) < (lo : Int)) := by omega
    have e1' : decide ((x1.toNat : Int) < (lo : Int)) = false := by simpa using e1
    by_cases hh : hi < x1.toNat
    · have e2 : (hi : Int) < (x1.toNat : Int) := by omega
      rw [show (decide (x1.toNat < lo) || decide (hi < x1.toNat) || (decide (x2.toNat < 128) || decide (191 < x2.toNat))) = true by simp [hh]]
      rcases hf with ⟨rfl, rfl⟩ | ⟨rfl, rfl⟩ | ⟨rfl, rfl⟩
      all_goals
        simp only [Nat.reduceMul, Nat.reduceAdd] at ha0 ha1
        go_enter Tryz.func84, Tryz.ntmps84
        go_wp2_with fail
        go_quiet (fail)
        go_wp2
        go_ret
        exact ⟨rfl, (below_drewN ((Below.refl _ w).alloc (Nat.le_refl _) _) _)⟩
    · have e2 : ¬ ((hi : Int) < (x1.toNat : Int)) := by omega
      have e2' : decide ((hi : Int) < (x1.toNat : Int)) = false := by simpa using e2
      by_cases hm : x2.toNat < 128
      · have e3 : (x2.toNat : Int) < 128 := by omega
        rw [show (decide (x1.toNat < lo) || decide (hi < x1.toNat) || (decide (x2.toNat < 128) || decide (191 < x2.toNat))) = true by simp [hm]]
        rcases hf with ⟨rfl, rfl⟩ | ⟨rfl, rfl⟩ | ⟨rfl, rfl⟩
        all_goals
          simp only [Nat.reduceMul, Nat.reduceAdd] at ha0 ha1
          go_enter Tryz.func84, Tryz.ntmps84
          go_wp2_with fail
          go_quiet (fail)
          go_wp2
          go_ret
          exact ⟨rfl, (below_drewN ((Below.refl _ w).alloc (Nat.le_refl _) _) _)⟩
      · have e3 : ¬ ((x2.toNat : Int) < 128) := by omega
        by_cases hq : 191 < x2.toNat
        · have e4 : (191 : Int) < (x2.toNat : Int) := by omega
          rw [show (decide (x1.toNat < lo) || decide (hi < x1.toNat) || (decide (x2.toNat < 128) || decide (191 < x2.toNat))) = true by simp [hq]]
          rcases hf with ⟨rfl, rfl⟩ | ⟨rfl, rfl⟩ | ⟨rfl, rfl⟩
          all_goals
            simp only [Nat.reduceMul, Nat.reduceAdd] at ha0 ha1
            go_enter Tryz.func84, Tryz.ntmps84
            go_wp2_with fail
            go_quiet (fail)
            go_wp2
            go_ret
            exact ⟨rfl, (below_drewN ((Below.refl _ w).alloc (Nat.le_refl _) _) _)⟩
        · have e4 : ¬ ((191 : Int) < (x2.toNat : Int)) := by omega
          rw [show (decide (x1.toNat < lo) || decide (hi < x1.toNat) || (decide (x2.toNat < 128) || decide (191 < x2.toNat))) = false by simp [hl, hh, hm, hq]]
          rcases hf with ⟨rfl, rfl⟩ | ⟨rfl, rfl⟩ | ⟨rfl, rfl⟩
          all_goals
            simp only [Nat.reduceMul, Nat.reduceAdd] at ha0 ha1
            go_enter Tryz.func84, Tryz.ntmps84
            go_wp2_with fail
            go_quiet (fail)
            go_wp2
            go_ret
            exact ⟨rfl, (below_drewN ((Below.refl _ w).alloc (Nat.le_refl _) _) _)⟩

set_option maxHeartbeats 4000000 in
set_option maxRecDepth 10000 in
theorem full_big (s : ByteArray) (f : Nat) (hf : f = 240 ∨ f = 241 ∨ f = 2 ∨ f = 19 ∨ f = 3 ∨ f = 35 ∨ f = 52 ∨ f = 4 ∨ f = 68) (w : World) (hn : 0 < s.size) (hfn : f % 8 ≤ s.size) (x0 : UInt8) (hs0 : s[0]'hn = x0)
    (hc0 : w.cell? ⟨3, x0.toNat, none⟩ = some (.int .u8 f)) :
    Calls Tryz.prog 84 #[.string s] w (Past w true) := by
  have l0 := x0.toNat_lt
  have hz0 : (0 : Int) < (s.size : Int) := by omega
  have hz : ((s.size : Int) == 0) = false := by
    have : (s.size : Int) ≠ 0 := by omega
    simpa using this
  rcases hf with rfl | rfl | rfl | rfl | rfl | rfl | rfl | rfl | rfl
  all_goals
    simp only [Nat.reduceMod] at hfn
    go_enter Tryz.func84, Tryz.ntmps84
    go_wp2
    go_ret
    exact ⟨rfl, Below.refl _ _⟩

theorem full_none (s : ByteArray) (w : World) (hn : s.size = 0) : Calls Tryz.prog 84 #[.string s] w (Past w false) := by
  go_enter Tryz.func84, Tryz.ntmps84
  go_wp2
  go_ret
  exact ⟨rfl, Below.refl _ _⟩
end Go.Proofs.YtbbocgeapofloaiGreatDoor
namespace Go.Proofs.YtbbocgeapofloaiGreatDoor
open Go.RowKit Go.Maps Go.Lib

def Tk.full (t : ByteArray) : Bool := if t.size = 0 then false else fullN t.size (firstT (t.get! 0).toNat) (t.get! 1).toNat (t.get! 2).toNat

theorem tabs_size {w : World} (hT : Utf8Tabs 3 4 w) : 4 < w.heap.size := by
  have h := (hT.2 0 (by omega)).1
  exact World.block_lt_of_cell? w _ h

/-- utf8.FullRuneInString. -/
theorem full_any (t : ByteArray) (w : World) (hT : Utf8Tabs 3 4 w) : Calls Tryz.prog 84 #[.string t] w (Past w (Tk.full t)) := by
  have h34 := tabs_size hT
  unfold Tk.full
  by_cases h0 : t.size = 0
  · rw [if_pos h0]; exact full_none t w h0
  rw [if_neg h0]
  have hs0 : t[0]'(by omega) = t.get! 0 := (Utf8W.get!_of_lt t 0 (by omega)).symm
  have l0 := (t.get! 0).toNat_lt
  have hc0 := hT.1 (t.get! 0).toNat (by omega)
  have hfc := firstT_cases (t.get! 0).toNat
  generalize firstT (t.get! 0).toNat = f at *
  by_cases hb : f % 8 ≤ t.size
  · rw [show fullN t.size f (t.get! 1).toNat (t.get! 2).toNat = true by simp [fullN, hb]]
    exact full_big t f hfc w (by omega) hb _ hs0 hc0
  have ha := hT.2 (f / 16) (by rcases hfc with h | h | h | h | h | h | h | h | h <;> subst h <;> decide)
  by_cases h1 : t.size = 1
  · rw [show fullN t.size f (t.get! 1).toNat (t.get! 2).toNat = false by
      rw [h1] at hb ⊢
      simp only [fullN, Bool.or_eq_false_iff, Bool.and_eq_false_iff, decide_eq_false_iff_not]
      exact ⟨hb, Or.inl (by omega), Or.inl (by omega)⟩]
    exact full_one t f _ _ (f / 16) (by rcases hfc with h | h | h | h | h | h | h | h | h <;> subst h <;> first | omega | (simp at hb; omega) | simp) w h1 _ hs0 hc0 ha.1 ha.2 h34
  have hs1 : t[1]'(by omega) = t.get! 1 := (Utf8W.get!_of_lt t 1 (by omega)).symm
  by_cases h2 : t.size = 2
  · rw [show fullN t.size f (t.get! 1).toNat (t.get! 2).toNat = (decide ((t.get! 1).toNat < accLo (f / 16)) || decide (accHi (f / 16) < (t.get! 1).toNat)) by
      rw [h2] at hb ⊢
      simp [fullN, hb]]
    exact full_two t f _ _ (f / 16) (by rcases hfc with h | h | h | h | h | h | h | h | h <;> subst h <;> first | omega | (simp at hb; omega) | simp) w h2 _ _ hs0 hs1 hc0 ha.1 ha.2 h34
  have h3 : t.size = 3 := by rcases hfc with h | h | h | h | h | h | h | h | h <;> subst h <;> simp at hb <;> omega
  have hs2 : t[2]'(by omega) = t.get! 2 := (Utf8W.get!_of_lt t 2 (by omega)).symm
  rw [show fullN t.size f (t.get! 1).toNat (t.get! 2).toNat = (decide ((t.get! 1).toNat < accLo (f / 16)) || decide (accHi (f / 16) < (t.get! 1).toNat) || (decide ((t.get! 2).toNat < 128) || decide (191 < (t.get! 2).toNat))) by
      rw [h3] at hb ⊢
      simp [fullN, hb]]
  exact full_three t f _ _ (f / 16) (by rcases hfc with h | h | h | h | h | h | h | h | h <;> subst h <;> first | omega | (simp at hb; omega) | simp) w h3 _ _ _ hs0 hs1 hs2 hc0 ha.1 ha.2 h34
end Go.Proofs.YtbbocgeapofloaiGreatDoor
namespace Go.Proofs.YtbbocgeapofloaiGreatDoor
open Go Go.Lib

/-- What the first byte tells. -/
def first4 (n b0 b1 b2 b3 : Nat) : Nat × Nat :=
  if firstT b0 = 240 then (b0, 1) else if firstT b0 = 241 then (65533, 1) else slowN n b0 b1 b2 b3 (firstT b0 % 8) (accLo (firstT b0 / 16)) (accHi (firstT b0 / 16))

set_option maxRecDepth 100000 in
set_option maxHeartbeats 4000000 in
theorem decode_first4 (n b0 b1 b2 b3 : Nat) (hn : 1 ≤ n) (h0 : b0 < 256) (h1 : b1 < 256) (h2 : b2 < 256) (h3 : b3 < 256) : decodeN n b0 b1 b2 b3 = first4 n b0 b1 b2 b3 := by
  unfold first4
  by_cases a1 : b0 < 128
  · have hf : firstT b0 = 240 := by simp [firstT, a1]
    rw [if_pos hf]
    unfold decodeN
    repeat' split
    all_goals first | (exfalso; omega) | (apply Prod.ext <;> simp only <;> omega)
  by_cases a2 : b0 < 194
  · have hf : firstT b0 = 241 := by simp [firstT, a1, a2]
    rw [hf, if_neg (by omega), if_pos rfl]
    unfold decodeN
    repeat' split
    all_goals first | (exfalso; omega) | (apply Prod.ext <;> simp only <;> omega)
  by_cases a3 : b0 < 224
  · have hf : firstT b0 = 2 := by simp [firstT, a1, a2, a3]
    rw [hf, if_neg (by omega), if_neg (by omega)]
    exact (slow_C2 n b0 b1 b2 b3 hn h1 h2 h3 (by omega)).symm
  by_cases a4 : b0 = 224
  · have hf : firstT b0 = 19 := by subst a4; rfl
    rw [hf, if_neg (by omega), if_neg (by omega)]
    exact (slow_E0 n b0 b1 b2 b3 hn h1 h2 h3 a4).symm
  by_cases a5 : b0 < 237
  · have hf : firstT b0 = 3 := by simp [firstT, a1, a2, a3, a4, a5]
    rw [hf, if_neg (by omega), if_neg (by omega)]
    exact (slow_E1 n b0 b1 b2 b3 hn h1 h2 h3 (by omega)).symm
  by_cases a6 : b0 = 237
  · have hf : firstT b0 = 35 := by subst a6; rfl
    rw [hf, if_neg (by omega), if_neg (by omega)]
    exact (slow_ED n b0 b1 b2 b3 hn h1 h2 h3 a6).symm
  by_cases a7 : b0 < 240
  · have hf : firstT b0 = 3 := by simp [firstT, a1, a2, a3, a4, a5, a6, a7]
    rw [hf, if_neg (by omega), if_neg (by omega)]
    exact (slow_E1 n b0 b1 b2 b3 hn h1 h2 h3 (by omega)).symm
  by_cases a8 : b0 = 240
  · have hf : firstT b0 = 52 := by subst a8; rfl
    rw [hf, if_neg (by omega), if_neg (by omega)]
    exact (slow_F0 n b0 b1 b2 b3 hn h1 h2 h3 a8).symm
  by_cases a9 : b0 < 244
  · have hf : firstT b0 = 4 := by simp [firstT, a1, a2, a3, a4, a5, a6, a7, a8, a9]
    rw [hf, if_neg (by omega), if_neg (by omega)]
    exact (slow_F1 n b0 b1 b2 b3 hn h1 h2 h3 (by omega)).symm
  by_cases a10 : b0 = 244
  · have hf : firstT b0 = 68 := by subst a10; rfl
    rw [hf, if_neg (by omega), if_neg (by omega)]
    exact (slow_F4 n b0 b1 b2 b3 hn h1 h2 h3 a10).symm
  · have hf : firstT b0 = 241 := by simp [firstT, a1, a2, a3, a4, a5, a6, a7, a8, a9, a10]
    rw [hf, if_neg (by omega), if_pos rfl]
    unfold decodeN
    repeat' split
    all_goals first | (exfalso; omega) | (apply Prod.ext <;> simp only <;> omega)

theorem firstT_sz (b : Nat) : firstT b = 240 ∨ firstT b = 241 ∨ (2 ≤ firstT b % 8 ∧ firstT b % 8 ≤ 4) := by
  unfold firstT
  repeat' split
  all_goals omega

/-- A first character that is whole stays what it is. -/
theorem first4_cut (n m b0 b1 b2 b3 c1 c2 c3 : Nat) (hn : 1 ≤ n) (hm : n ≤ m) (e1 : 1 < n → c1 = b1) (e2 : 2 < n → c2 = b2) (e3 : 3 < n → c3 = b3) (hf : fullN n (firstT b0) b1 b2 = true) :
    fullN m (firstT b0) c1 c2 = true ∧ first4 m b0 c1 c2 c3 = first4 n b0 b1 b2 b3 := by
  simp only [fullN, Bool.or_eq_true, Bool.and_eq_true, decide_eq_true_eq] at hf ⊢
  have hz := firstT_sz b0
  unfold first4 slowN
  generalize firstT b0 = f at *
  generalize accLo (f / 16) = lo at *
  generalize accHi (f / 16) = hi at *
  by_cases f1 : f = 240
  · rw [if_pos f1, if_pos f1]; exact ⟨by omega, rfl⟩
  by_cases f2 : f = 241
  · rw [if_neg f1, if_pos f2, if_neg f1, if_pos f2]; exact ⟨by omega, rfl⟩
  rw [if_neg f1, if_neg f2, if_neg f1, if_neg f2]
  have hz2 : 2 ≤ f % 8 ∧ f % 8 ≤ 4 := by omega
  clear hz f1 f2
  generalize f % 8 = sz at *
  rcases hf with hf | ⟨h1, h2⟩ | ⟨h1, h2⟩
  · refine ⟨Or.inl (by omega), ?_⟩
    have x1 := e1 (by omega)
    subst x1
    rw [if_neg (by omega : ¬ m < sz), if_neg (by omega : ¬ n < sz)]
    by_cases z2 : sz ≤ 2
    · simp only [z2, if_true]
    · have x2 := e2 (by omega)
      subst x2
      by_cases z3 : sz ≤ 3
      · simp only [z2, z3, if_true, if_false]
      · have x3 := e3 (by omega)
        subst x3
        rfl
  · have x1 := e1 (by omega)
    subst x1
    refine ⟨Or.inr (Or.inl ⟨by omega, h2⟩), ?_⟩
    simp only [h2, if_true]
    repeat' split
    all_goals rfl
  · have x1 := e1 (by omega)
    have x2 := e2 (by omega)
    subst x1; subst x2
    refine ⟨Or.inr (Or.inr ⟨by omega, h2⟩), ?_⟩
    by_cases z : n < sz
    · rw [if_pos z]
      by_cases y : m < sz
      · rw [if_pos y]
      · rw [if_neg y]
        by_cases u : c1 < lo ∨ hi < c1
        · rw [if_pos u]
        · rw [if_neg u, if_neg (by omega), if_pos h2]
    · rw [if_neg z, if_neg (by omega)]
      by_cases u : c1 < lo ∨ hi < c1
      · rw [if_pos u, if_pos u]
      · rw [if_neg u, if_neg u]
        by_cases z2 : sz ≤ 2
        · simp only [z2, if_true]
        · simp only [z2, if_false, h2, if_true]

theorem get_app (a b : ByteArray) (k : Nat) (h : k < a.size) : (a ++ b).get! k = a.get! k := by
  show (a ++ b).data[k]! = a.data[k]!
  have h' : k < a.data.size := h
  rw [ByteArray.data_append]
  rw [getElem!_pos a.data k h', getElem!_pos (a.data ++ b.data) k (by simp; omega), Array.getElem_append_left h']

theorem full_cut (a b : ByteArray) (h : Tk.full a = true) : Tk.full (a ++ b) = true ∧ Utf8.decode (a ++ b) 0 = Utf8.decode a 0 := by
  have h0 : 0 < a.size := by
    by_cases e : a.size = 0
    · simp [Tk.full, e] at h
    · omega
  have hs : (a ++ b).size = a.size + b.size := ByteArray.size_append
  unfold Tk.full at h ⊢
  rw [if_neg (by omega)] at h
  rw [if_neg (by omega), hs, decode_at, decode_at, hs, get_app a b 0 h0]
  rw [decode_first4 _ _ _ _ _ (by omega) (UInt8.toNat_lt _) (UInt8.toNat_lt _) (UInt8.toNat_lt _) (UInt8.toNat_lt _), decode_first4 _ _ _ _ _ (by omega) (UInt8.toNat_lt _) (UInt8.toNat_lt _) (UInt8.toNat_lt _) (UInt8.toNat_lt _)]
  exact first4_cut a.size (a.size + b.size) _ _ _ _ _ _ _ (by omega) (by omega) (fun x => by rw [get_app a b _ x]) (fun x => by rw [get_app a b _ x]) (fun x => by rw [get_app a b _ x]) h
end Go.Proofs.YtbbocgeapofloaiGreatDoor
namespace Go.Proofs.YtbbocgeapofloaiGreatDoor
open Go.RowKit Go.Maps Go.Lib

variable {F : Nat → Prop} {R : Nat} {w w' : World} {s : Src} {p : Ptr} {st : St} {c : Int}

/-- What is handed on, and what is left. -/
def Src.took (s : Src) : Src × Int :=
  if s.rest.size = 0 then ({ s with at_ := s.next }, -1)
  else if Ch.okAt s.rest 0 = true then ({ s with at_ := s.next, rest := s.rest.extract (Utf8.decode s.rest 0).2 s.rest.size, next := s.next + (Utf8.decode s.rest 0).2 }, ((Utf8.decode s.rest 0).1 : Int))
  else ({ s with at_ := s.next }, -2)
/-- More bytes are needed. -/
def Src.more (s : Src) : Bool := !s.ended && !Tk.full s.rest

theorem tabs_below (hT : Utf8Tabs 3 4 w) (hb : Below w.heap.size w w') : Utf8Tabs 3 4 w' := by
  have h4 := tabs_size hT
  refine ⟨fun c hc => (hb.cell (by show 3 < w.heap.size; omega)).trans (hT.1 c hc), fun i hi => ⟨(hb.cell (by show 4 < w.heap.size; omega)).trans (hT.2 i hi).1, (hb.cell (by show 4 < w.heap.size; omega)).trans (hT.2 i hi).2⟩⟩

/-- errMore's value. -/
def More (w : World) (m : Value) : Prop := w.cell? ⟨0, 0, none⟩ = some m

set_option maxHeartbeats 2000000 in
theorem take_more (h : Rep F R w s p st) (hT : Utf8Tabs 3 4 w) (a : Addr) (hm : More w (.iface 162 (.pointer (some a)))) (hmo : s.more = true) :
    Calls Tryz.prog 51 #[.pointer (some ⟨R, 0, none⟩)] w fun e w' => e = .returned (.tuple #[.int .i32 0, .iface 162 (.pointer (some a))]) ∧ Below w.heap.size w w' := by
  have c0 : w.cell? ⟨R, 0, none⟩ = some (.string s.rest) := h.cell 0 rfl
  have c3 : w.cell? ⟨R, 3, none⟩ = some (.bool s.ended) := h.cell 3 rfl
  have hR := h.lt R h.inR
  have h4 := tabs_size hT
  simp only [Src.more, Bool.and_eq_true, Bool.not_eq_true'] at hmo
  have hf := full_any s.rest w hT
  rw [hmo.2] at hf
  rw [hmo.1] at c3
  unfold More at hm
  have H := hide h
  clear h hT hmo
  go_enter Tryz.func51, Tryz.ntmps51
  go_wp2_with (go_at_call 84; refine hf.mono ?_; rintro e w1 ⟨rfl, bl1⟩)
  have hm1 : w1.cell? ⟨0, 0, none⟩ = some (.iface 162 (.pointer (some a))) := (bl1.cell (p := ⟨0, 0, none⟩) (by show 0 < w.heap.size; omega)).trans hm
  go_region_held3 (fun W => W.cell? ⟨0, 0, none⟩ = some (.iface 162 (.pointer (some a))))
    (first | exact hm1)
    (fail)
  all_goals
    go_wp2
    go_ret2
    exact ⟨rfl, bl1.drew⟩

theorem tabs_setR (hT : Utf8Tabs 3 4 w) (hR5 : 4 < R) (i : Nat) (v : Value) : Utf8Tabs 3 4 (w.setCell ⟨R, i, none⟩ v) := by
  refine ⟨fun c hc => ?_, fun j hj => ⟨?_, ?_⟩⟩
  · rw [World.cell?_of_block (Below.heap_setCell w _ v 3 (by show 3 ≠ R; omega))]; exact hT.1 c hc
  · rw [World.cell?_of_block (Below.heap_setCell w _ v 4 (by show 4 ≠ R; omega))]; exact (hT.2 j hj).1
  · rw [World.cell?_of_block (Below.heap_setCell w _ v 4 (by show 4 ≠ R; omega))]; exact (hT.2 j hj).2

/-- Behind the look at the bytes: what take does from there on, in the world in which the place is set. -/
theorem take_core (h : Rep F R w s p st) (hT : Utf8Tabs 3 4 w) (hR5 : 4 < R) (h0 : 0 < s.rest.size) (hz : s.rest.size ≤ 1099511627776) (w1 : World) (bl1 : Below w.heap.size w w1) :
    Calls Tryz.prog 85 #[.string s.rest] (w1.setCell ⟨R, 2, none⟩ (.int .i64 s.next)) fun e w2 => e = .returned (.tuple #[.int .i32 ((Utf8.decode s.rest 0).1 : Int), .int .i64 ((Utf8.decode s.rest 0).2 : Int)]) ∧ Below (w1.setCell ⟨R, 2, none⟩ (.int .i64 s.next)).heap.size (w1.setCell ⟨R, 2, none⟩ (.int .i64 s.next)) w2 := by
  have h1 := Tryz.utf8_DecodeRuneInString s.rest _ (tabs_setR (tabs_below hT bl1) hR5 2 (.int .i64 s.next))
  have e : Lib.decodeGo s.rest = Utf8.decode s.rest 0 := by unfold Lib.decodeGo; rw [if_neg (by omega)]
  rw [e] at h1
  exact h1
end Go.Proofs.YtbbocgeapofloaiGreatDoor
namespace Go.Proofs.YtbbocgeapofloaiGreatDoor
open Go.RowKit Go.Maps Go.Lib

variable {F : Nat → Prop} {R : Nat} {w w' w'' : World} {s s' : Src} {p : Ptr} {st : St} {c : Int}

/-- The reader in w', on from w. -/
def RF (F : Nat → Prop) (R : Nat) (w : World) (s : Src) (p : Ptr) (st : St) (w' : World) : Prop := Rep (Grow F w w') R w' s p st ∧ Frame F w w' ∧ ∀ k, k < w.heap.size → k ≠ R → w'.heap[k]? = w.heap[k]?

theorem RF.refl (h : Rep F R w s p st) : RF F R w s p st w := ⟨h.grow0, Frame.refl _ _, fun _ _ _ => rfl⟩
theorem RF.below (h : RF F R w s p st w') (hb : Below w'.heap.size w' w'') : RF F R w s p st w'' :=
  ⟨(h.1.below hb).join h.2.1.size hb.size, h.2.1.trans (Frame.below hb), fun k hk hR => (hb.block k (Nat.lt_of_lt_of_le hk h.2.1.size)).trans (h.2.2 k hk hR)⟩
theorem RF.set (h : RF F R w s p st w') (i : Nat) (v : Value) (hc : (cellsOf s p st).setIfInBounds i v = cellsOf s' p st) : RF F R w s' p st (w'.setCell ⟨R, i, none⟩ v) := by
  have hsz : (w'.setCell ⟨R, i, none⟩ v).heap.size = w'.heap.size := by simp [World.setCell]
  have r := h.1.scalar (s' := s') (st' := st) i v hc (fun o => o)
  have hG : ∀ k, Grow F w w' k → Grow F w (w'.setCell ⟨R, i, none⟩ v) k := fun k hk => by unfold Grow at *; rw [hsz]; exact hk
  have hG' : ∀ k, Grow F w (w'.setCell ⟨R, i, none⟩ v) k → Grow F w w' k := fun k hk => by unfold Grow at *; rw [hsz] at hk; exact hk
  refine ⟨r.mono hG (fun k hk => r.lt k (hG' k hk)), ⟨h.2.1.os, h.2.1.tape, h.2.1.output, by rw [hsz]; exact h.2.1.size, fun k hk hf => ?_⟩, fun k hk hR => ?_⟩
  · rw [Below.heap_setCell _ _ _ _ ?_]
    · exact h.2.1.block k hk hf
    · intro e
      have e' : k = R := e
      subst e'
      rcases h.1.inR with x | x
      · exact hf x
      · omega
  · rw [Below.heap_setCell _ _ _ _ hR]
    exact h.2.2 k hk hR

def tookEnd (F : Nat → Prop) (R : Nat) (w : World) (s : Src) (p : Ptr) (st : St) (e : Ending) (w' : World) : Prop :=
  e = .returned (.tuple #[.int .i32 s.took.2, .nilIface]) ∧ RF F R w s.took.1 p st w'

set_option maxHeartbeats 4000000 in
set_option maxRecDepth 10000 in
theorem take_go (h : Rep F R w s p st) (hT : Utf8Tabs 3 4 w) (hR5 : 4 < R) (hz : s.rest.size ≤ 1099511627776) (hn : 0 ≤ s.next ∧ s.next ≤ 1152921504606846976) (hmo : s.more = false) :
    Calls Tryz.prog 51 #[.pointer (some ⟨R, 0, none⟩)] w (tookEnd F R w s p st) := by
  have c0 : w.cell? ⟨R, 0, none⟩ = some (.string s.rest) := h.cell 0 rfl
  have c1 : w.cell? ⟨R, 1, none⟩ = some (.int .i64 s.next) := h.cell 1 rfl
  have c2 : w.cell? ⟨R, 2, none⟩ = some (.int .i64 s.at_) := h.cell 2 rfl
  have c3 : w.cell? ⟨R, 3, none⟩ = some (.bool s.ended) := h.cell 3 rfl
  have f0 := h.free 0
  have f1 := h.free 1
  have f2 := h.free 2
  have hR := h.lt R h.inR
  have hful := full_any s.rest w hT
  have hcore := fun h0 => take_core h hT hR5 h0 hz
  have hset : ∀ w1, Below w.heap.size w w1 → RF F R w { s with at_ := s.next } p st (w1.setCell ⟨R, 2, none⟩ (.int .i64 s.next)) := fun w1 b => ((RF.refl h).below b).set 2 _ rfl
  have H := hide h
  have HC := hide hcore
  have HS := hide hset
  clear h hT hcore hset
  by_cases h0 : s.rest.size = 0
  · have htk : s.took = ({ s with at_ := s.next }, -1) := by simp [Src.took, h0]
    unfold tookEnd
    rw [htk]
    have he : s.rest.toList.isEmpty = true := by
      rw [Go.ByteArray.toList_eq]
      have : s.rest.data.toList = [] := List.eq_nil_of_length_eq_zero (by simpa using h0)
      rw [this]; rfl
    clear htk h0 hz hn HC
    rcases (Bool.eq_false_or_eq_true s.ended).symm with hen | hen
    · have hfu : Tk.full s.rest = true := by simp [Src.more, hen] at hmo; exact hmo
      rw [hfu] at hful
      rw [hen] at c3
      clear hmo hfu hen
      go_enter Tryz.func51, Tryz.ntmps51
      go_wp2_with (go_at_call 84; refine hful.mono ?_; rintro e w1 ⟨rfl, bl1⟩; have c0' := (bl1.cell hR).trans c0; have c1' := (bl1.cell hR).trans c1; have c2' := (bl1.cell hR).trans c2; have f2' : w1.frozen? ⟨R, 2, none⟩ = false := (World.frozen?_of_block (bl1.block R hR)).trans f2)
      go_ret2
      exact ⟨rfl, HS.out _ bl1⟩
    · rw [hen] at c3
      clear hmo hen
      go_enter Tryz.func51, Tryz.ntmps51
      go_wp2_with fail
      go_ret2
      exact ⟨rfl, HS.out _ (Below.refl _ _)⟩
  · have he : s.rest.toList.isEmpty = false := by
      rw [Go.ByteArray.toList_eq]
      cases hl : s.rest.data.toList with
      | nil => exact absurd (by have := congrArg List.length hl; simpa using this) h0
      | cons a b => rfl
    have hw := Ch.decode_width s.rest 0 (by omega)
    have hw1 : 1 ≤ (Utf8.decode s.rest 0).2 := hw.2.1
    have hw2 : (Utf8.decode s.rest 0).2 ≤ s.rest.size := by omega
    have hbf := Ch.bad_first_char s.rest (by omega)
    have HC2 := hide (HC.out (by omega))
    clear HC
    have HC := HC2
    clear HC2 hw
    unfold tookEnd
    cases hok : Ch.okAt s.rest 0
    · have htk : s.took = ({ s with at_ := s.next }, -2) := by simp [Src.took, h0, hok]
      rw [htk]
      rw [hok] at hbf
      simp only [Bool.false_eq_true, if_false] at hbf
      have HBF := hide hbf
      clear htk hok hbf h0
      rcases (Bool.eq_false_or_eq_true s.ended).symm with hen | hen
      · have hfu : Tk.full s.rest = true := by simp [Src.more, hen] at hmo; exact hmo
        rw [hfu] at hful
        rw [hen] at c3
        clear hmo hfu hen
        go_enter Tryz.func51, Tryz.ntmps51
        go_wp2_with (go_at_call 84; refine hful.mono ?_; rintro e w1 ⟨rfl, bl1⟩; have c0' := (bl1.cell hR).trans c0; have c1' := (bl1.cell hR).trans c1; have c2' := (bl1.cell hR).trans c2; have f2' : w1.frozen? ⟨R, 2, none⟩ = false := (World.frozen?_of_block (bl1.block R hR)).trans f2)
        refine (HC.out w1 bl1).mono ?_
        rintro e w2 ⟨rfl, bl2⟩
        have R2 := hide ((HS.out w1 bl1).below bl2)
        have d0 : w2.cell? ⟨R, 0, none⟩ = some (.string s.rest) := R2.out.1.cell 0 rfl
        have d1 : w2.cell? ⟨R, 1, none⟩ = some (.int .i64 s.next) := R2.out.1.cell 1 rfl
        have hbad := badC_any (s.rest.extract 0 (Utf8.decode s.rest 0).2) w2 (by simp; omega)
        rw [HBF.out] at hbad
        generalize ((Utf8.decode s.rest 0).1 : Int) = rn at *
        generalize (Utf8.decode s.rest 0).2 = wd at *
        go_wp2_with (go_at_call 86; refine hbad.mono ?_; rintro e w3 ⟨rfl, bl3⟩)
        go_ret2
        exact ⟨rfl, R2.out.below bl3⟩
      · rw [hen] at c3
        clear hmo hen
        go_enter Tryz.func51, Tryz.ntmps51
        go_wp2_with fail
        refine (HC.out w (Below.refl _ _)).mono ?_
        rintro e w2 ⟨rfl, bl2⟩
        have R2 := hide ((HS.out w (Below.refl _ _)).below bl2)
        have d0 : w2.cell? ⟨R, 0, none⟩ = some (.string s.rest) := R2.out.1.cell 0 rfl
        have d1 : w2.cell? ⟨R, 1, none⟩ = some (.int .i64 s.next) := R2.out.1.cell 1 rfl
        have hbad := badC_any (s.rest.extract 0 (Utf8.decode s.rest 0).2) w2 (by simp; omega)
        rw [HBF.out] at hbad
        generalize ((Utf8.decode s.rest 0).1 : Int) = rn at *
        generalize (Utf8.decode s.rest 0).2 = wd at *
        go_wp2_with (go_at_call 86; refine hbad.mono ?_; rintro e w3 ⟨rfl, bl3⟩)
        go_ret2
        exact ⟨rfl, R2.out.below bl3⟩
    · have htk : s.took = ({ s with at_ := s.next, rest := s.rest.extract (Utf8.decode s.rest 0).2 s.rest.size, next := s.next + (Utf8.decode s.rest 0).2 }, ((Utf8.decode s.rest 0).1 : Int)) := by simp [Src.took, h0, hok]
      rw [htk]
      rw [hok] at hbf
      simp only [if_true] at hbf
      have HBF := hide hbf
      clear htk hok hbf h0
      rcases (Bool.eq_false_or_eq_true s.ended).symm with hen | hen
      · have hfu : Tk.full s.rest = true := by simp [Src.more, hen] at hmo; exact hmo
        rw [hfu] at hful
        rw [hen] at c3
        clear hmo hfu hen
        go_enter Tryz.func51, Tryz.ntmps51
        go_wp2_with (go_at_call 84; refine hful.mono ?_; rintro e w1 ⟨rfl, bl1⟩; have c0' := (bl1.cell hR).trans c0; have c1' := (bl1.cell hR).trans c1; have c2' := (bl1.cell hR).trans c2; have f2' : w1.frozen? ⟨R, 2, none⟩ = false := (World.frozen?_of_block (bl1.block R hR)).trans f2)
        refine (HC.out w1 bl1).mono ?_
        rintro e w2 ⟨rfl, bl2⟩
        have R2 := hide ((HS.out w1 bl1).below bl2)
        have d0 : w2.cell? ⟨R, 0, none⟩ = some (.string s.rest) := R2.out.1.cell 0 rfl
        have d1 : w2.cell? ⟨R, 1, none⟩ = some (.int .i64 s.next) := R2.out.1.cell 1 rfl
        have hbad := badC_any (s.rest.extract 0 (Utf8.decode s.rest 0).2) w2 (by simp; omega)
        rw [HBF.out] at hbad
        go_wp2_with (go_at_call 86; refine hbad.mono ?_; rintro e w3 ⟨rfl, bl3⟩; have R3 := hide (R2.out.below bl3); have g0 : w3.cell? ⟨R, 0, none⟩ = some (.string s.rest) := R3.out.1.cell 0 rfl; have g1 : w3.cell? ⟨R, 1, none⟩ = some (.int .i64 s.next) := R3.out.1.cell 1 rfl; have q0 := R3.out.1.free 0; have q1 := R3.out.1.free 1)
        go_ret2
        refine ⟨rfl, ?_⟩
        exact (R3.out.set (s' := { s with at_ := s.next, rest := s.rest.extract (Utf8.decode s.rest 0).2 s.rest.size }) 0 (.string (s.rest.extract (Utf8.decode s.rest 0).2 s.rest.size)) rfl).set 1 (.int .i64 (s.next + (Utf8.decode s.rest 0).2)) rfl
      · rw [hen] at c3
        clear hmo hen
        go_enter Tryz.func51, Tryz.ntmps51
        go_wp2_with fail
        refine (HC.out w (Below.refl _ _)).mono ?_
        rintro e w2 ⟨rfl, bl2⟩
        have R2 := hide ((HS.out w (Below.refl _ _)).below bl2)
        have d0 : w2.cell? ⟨R, 0, none⟩ = some (.string s.rest) := R2.out.1.cell 0 rfl
        have d1 : w2.cell? ⟨R, 1, none⟩ = some (.int .i64 s.next) := R2.out.1.cell 1 rfl
        have hbad := badC_any (s.rest.extract 0 (Utf8.decode s.rest 0).2) w2 (by simp; omega)
        rw [HBF.out] at hbad
        go_wp2_with (go_at_call 86; refine hbad.mono ?_; rintro e w3 ⟨rfl, bl3⟩; have R3 := hide (R2.out.below bl3); have g0 : w3.cell? ⟨R, 0, none⟩ = some (.string s.rest) := R3.out.1.cell 0 rfl; have g1 : w3.cell? ⟨R, 1, none⟩ = some (.int .i64 s.next) := R3.out.1.cell 1 rfl; have q0 := R3.out.1.free 0; have q1 := R3.out.1.free 1)
        go_ret2
        refine ⟨rfl, ?_⟩
        exact (R3.out.set (s' := { s with at_ := s.next, rest := s.rest.extract (Utf8.decode s.rest 0).2 s.rest.size }) 0 (.string (s.rest.extract (Utf8.decode s.rest 0).2 s.rest.size)) rfl).set 1 (.int .i64 (s.next + (Utf8.decode s.rest 0).2)) rfl
end Go.Proofs.YtbbocgeapofloaiGreatDoor
