import Derived.Shelf.Small.Wraps
import Derived.Shelf.Strings.BuilderK
import Derived.Shelf.Strings.BuilderRune
import Derived.Shelf.Strings.Prefix
import Derived.Shelf.Unicode.DecodeAny
import Derived.Test.YtfolnkmbdmfigaaGreatDoorProg
import Derived.Laws.RangeString
import Derived.Laws.RangeAny
import Derived.Maps.AppendAt
import Derived.WalkKit
import Derived.WalkSpells
import Derived.Outline
import Derived.Lib.Strings
import Derived.Lib.IndexBytes
import Derived.BigCall
import Derived.Lib.RuneBytes
import Derived.BigQuiet
import Derived.Deep.QuietTactic
set_option linter.unusedVariables false
set_option linter.unusedSimpArgs false
namespace Go.Proofs
open Go.Shelf
def Tryz.lays169_ren : Go.Shelf.Ren := ⟨fun | 169 => 48 | n => n, fun | 70 => 106 | 9 => 9 | 0 => 0 | 72 => 108 | 37 => 87 | 127 => 137 | 3 => 3 | 5 => 5 | n => n, fun | n => n⟩
theorem Tryz.lays169 : Go.Proofs.Lays.n169 Tryz.prog Tryz.lays169_ren := {
  mixed := by kernel_rfl
  f169 := Tryz.func48.trans (congrArg some (by kernel_rfl))
  t0 := Tryz.underlying0
  a0 := Tryz.isAgg0
  z0 := Tryz.sizeOf0
  v0 := Tryz.zeroValue0
  t3 := Tryz.underlying3
  a3 := Tryz.isAgg3
  z3 := Tryz.sizeOf3
  v3 := Tryz.zeroValue3
  t9 := Tryz.underlying9
  a9 := Tryz.isAgg9
  z9 := Tryz.sizeOf9
  v9 := Tryz.zeroValue9
  t37 := Tryz.underlying87
  a37 := Tryz.isAgg87
  z37 := Tryz.sizeOf87
  v37 := Tryz.zeroValue87
  t70 := Tryz.underlying106
  a70 := Tryz.isAgg106
  z70 := Tryz.sizeOf106
  v70 := Tryz.zeroValue106
  t72 := Tryz.underlying108
  a72 := Tryz.isAgg108
  z72 := Tryz.sizeOf108
  v72 := Tryz.zeroValue108
  t127 := Tryz.underlying137
  a127 := Tryz.isAgg137
  z127 := Tryz.sizeOf137
  v127 := Tryz.zeroValue137 }
theorem Tryz.Builder_Extra_169 : Builder.Extra Tryz.prog Tryz.lays169_ren := {
  sizeBuilder := by kernel_rfl
  liesBuilder := by kernel_rfl
  t5 := Tryz.underlying5
  a5 := Tryz.isAgg5
  z5 := Tryz.sizeOf5
  v5 := Tryz.zeroValue5
  infoByte := by kernel_rfl
  cellsByte := by kernel_rfl
  sizeByte := by kernel_rfl
  neB5 := by decide }
open Go.RowKit in
theorem Tryz.Builder_String_any_k (B b : Nat) (l : List UInt8) (w : World) (h : Lib.IsBuilderF 108 5 B b (Lib.byteCells l) w) (hBw : B ≤ w.heap.size) :
    Calls Tryz.prog 48 #[.pointer (some ⟨b, 0, none⟩)] w fun e w' => e = .returned (.string ⟨l.toArray⟩) ∧ (Lib.IsBuilderF 108 5 B b (Lib.byteCells l) w' ∧ Below B w w' ∧ Lib.OthersKept 5 (some b) w w') := Any.Builder_String_any_k Tryz.lays169 Tryz.Builder_Extra_169 B b l w h hBw
def Tryz.lays103_ren : Go.Shelf.Ren := ⟨fun | 103 => 145 | 210 => 155 | 206 => 154 | n => n, fun | 9 => 9 | 4 => 4 | 24 => 198 | 3 => 3 | n => n, fun | n => n⟩
theorem Tryz.lays103 : Go.Proofs.Lays.n103 Tryz.prog Tryz.lays103_ren := {
  mixed := by kernel_rfl
  f103 := Tryz.func145.trans (congrArg some (by kernel_rfl))
  f206 := Tryz.func154.trans (congrArg some (by kernel_rfl))
  f210 := Tryz.func155.trans (congrArg some (by kernel_rfl))
  t3 := Tryz.underlying3
  a3 := Tryz.isAgg3
  z3 := Tryz.sizeOf3
  v3 := Tryz.zeroValue3
  t4 := Tryz.underlying4
  a4 := Tryz.isAgg4
  z4 := Tryz.sizeOf4
  v4 := Tryz.zeroValue4
  t9 := Tryz.underlying9
  a9 := Tryz.isAgg9
  z9 := Tryz.sizeOf9
  v9 := Tryz.zeroValue9
  t24 := Tryz.underlying198
  a24 := Tryz.isAgg198
  z24 := Tryz.sizeOf198
  v24 := Tryz.zeroValue198 }
open Go.RowKit in
theorem Tryz.strings_CutPrefix (s p : ByteArray) (w : World) :
    Calls Tryz.prog 145 #[.string s, .string p] w fun e w' => e = .returned (.tuple #[.string ⟨(Lib.trimPrefix s.data.toList p.data.toList).toArray⟩, .bool (Lib.hasPrefix s.data.toList p.data.toList)]) ∧ w' = w := Any.strings_CutPrefix Tryz.lays103 s p w
def Tryz.lays99_ren : Go.Shelf.Ren := ⟨fun | 99 => 143 | 206 => 154 | n => n, fun | 9 => 9 | 4 => 4 | 3 => 3 | n => n, fun | n => n⟩
theorem Tryz.lays99 : Go.Proofs.Lays.n99 Tryz.prog Tryz.lays99_ren := {
  mixed := by kernel_rfl
  f99 := Tryz.func143.trans (congrArg some (by kernel_rfl))
  f206 := Tryz.func154.trans (congrArg some (by kernel_rfl))
  t3 := Tryz.underlying3
  a3 := Tryz.isAgg3
  z3 := Tryz.sizeOf3
  v3 := Tryz.zeroValue3
  t4 := Tryz.underlying4
  a4 := Tryz.isAgg4
  z4 := Tryz.sizeOf4
  v4 := Tryz.zeroValue4
  t9 := Tryz.underlying9
  a9 := Tryz.isAgg9
  z9 := Tryz.sizeOf9
  v9 := Tryz.zeroValue9 }
open Go.RowKit Go.Lib in
theorem Tryz.strings_HasPrefix (s p : ByteArray) (w : World) :
    Calls Tryz.prog 143 #[.string s, .string p] w fun e w' => e = .returned (.bool (Lib.hasPrefix s.data.toList p.data.toList)) ∧ w' = w := Any.strings_HasPrefix Tryz.lays99 s p w
def Tryz.lays197_ren : Go.Shelf.Ren := ⟨fun | 197 => 122 | 260 => 147 | n => n, fun | 9 => 9 | 21 => 21 | 3 => 3 | 4 => 4 | 5 => 5 | 105 => 168 | 119 => 202 | 0 => 0 | 46 => 201 | 139 => 205 | 138 => 204 | n => n, fun | 3 => 3 | 4 => 4 | n => n⟩
theorem Tryz.lays197 : Go.Proofs.Lays.n197 Tryz.prog Tryz.lays197_ren := {
  mixed := by kernel_rfl
  f197 := Tryz.func122.trans (congrArg some (by kernel_rfl))
  f260 := Tryz.func147.trans (congrArg some (by kernel_rfl))
  t0 := Tryz.underlying0
  a0 := Tryz.isAgg0
  z0 := Tryz.sizeOf0
  v0 := Tryz.zeroValue0
  t3 := Tryz.underlying3
  a3 := Tryz.isAgg3
  z3 := Tryz.sizeOf3
  v3 := Tryz.zeroValue3
  t4 := Tryz.underlying4
  a4 := Tryz.isAgg4
  z4 := Tryz.sizeOf4
  v4 := Tryz.zeroValue4
  t5 := Tryz.underlying5
  a5 := Tryz.isAgg5
  z5 := Tryz.sizeOf5
  v5 := Tryz.zeroValue5
  t9 := Tryz.underlying9
  a9 := Tryz.isAgg9
  z9 := Tryz.sizeOf9
  v9 := Tryz.zeroValue9
  t21 := Tryz.underlying21
  a21 := Tryz.isAgg21
  z21 := Tryz.sizeOf21
  v21 := Tryz.zeroValue21
  t46 := Tryz.underlying201
  a46 := Tryz.isAgg201
  z46 := Tryz.sizeOf201
  v46 := Tryz.zeroValue201
  t105 := Tryz.underlying168
  a105 := Tryz.isAgg168
  z105 := Tryz.sizeOf168
  v105 := Tryz.zeroValue168
  t119 := Tryz.underlying202
  a119 := Tryz.isAgg202
  z119 := Tryz.sizeOf202
  t138 := Tryz.underlying204
  a138 := Tryz.isAgg204
  z138 := Tryz.sizeOf204
  v138 := Tryz.zeroValue204
  t139 := Tryz.underlying205
  a139 := Tryz.isAgg205
  z139 := Tryz.sizeOf205
  v139 := Tryz.zeroValue205
  g3 := by kernel_rfl
  g4 := by kernel_rfl }
open Go.RowKit Go.Lib in
theorem Tryz.utf8_DecodeRuneInString (s : ByteArray) (w : World) (hT : Lib.Utf8Tabs 3 4 w) :
    Calls Tryz.prog 122 #[.string s] w fun e w' => e = .returned (.tuple #[.int .i32 (Lib.decodeGo s).1, .int .i64 (Lib.decodeGo s).2]) ∧ Below w.heap.size w w' := Any.utf8_DecodeRuneInString Tryz.lays197 s w hT
def Tryz.lays242_ren : Go.Shelf.Ren := ⟨fun | 242 => 87 | 278 => 120 | n => n, fun | 37 => 87 | 21 => 21 | 51 => 171 | 4 => 4 | 5 => 5 | 46 => 201 | 72 => 108 | n => n, fun | n => n⟩
theorem Tryz.lays242 : Go.Proofs.Lays.n242 Tryz.prog Tryz.lays242_ren := {
  mixed := by kernel_rfl
  f242 := Tryz.func87.trans (congrArg some (by kernel_rfl))
  f278 := Tryz.func120.trans (congrArg some (by kernel_rfl))
  t4 := Tryz.underlying4
  a4 := Tryz.isAgg4
  z4 := Tryz.sizeOf4
  v4 := Tryz.zeroValue4
  t5 := Tryz.underlying5
  a5 := Tryz.isAgg5
  z5 := Tryz.sizeOf5
  v5 := Tryz.zeroValue5
  t21 := Tryz.underlying21
  a21 := Tryz.isAgg21
  z21 := Tryz.sizeOf21
  v21 := Tryz.zeroValue21
  t37 := Tryz.underlying87
  a37 := Tryz.isAgg87
  z37 := Tryz.sizeOf87
  v37 := Tryz.zeroValue87
  t46 := Tryz.underlying201
  a46 := Tryz.isAgg201
  z46 := Tryz.sizeOf201
  v46 := Tryz.zeroValue201
  t51 := Tryz.underlying171
  a51 := Tryz.isAgg171
  z51 := Tryz.sizeOf171
  v51 := Tryz.zeroValue171 }
theorem Tryz.Builder_Extra_242 : Builder.Extra Tryz.prog Tryz.lays242_ren where
  sizeBuilder := by kernel_rfl
  liesBuilder := by kernel_rfl
  t5 := Tryz.underlying5
  a5 := Tryz.isAgg5
  z5 := Tryz.sizeOf5
  v5 := Tryz.zeroValue5
  infoByte := by kernel_rfl
  cellsByte := by kernel_rfl
  sizeByte := by kernel_rfl
  neB5 := by decide
theorem Tryz.utf8_AppendRune_own (B : Nat) (v : Value) (n : Nat) (xs : List Value) (r : Int) (hr0 : -2147483648 ≤ r) (hr1 : r ≤ 2147483647) (w : World) (hown : w.ownsRowF B 5 1 v n xs) (hlen : n + 4 ≤ 140737488355328) (hBw : B ≤ w.heap.size) :
    Calls Tryz.prog 87 #[v, .int .i32 r] w fun e w' => ∃ v', e = .returned v' ∧ w'.ownsRowF B 5 1 v' (n + (Lib.runeCells r).length) (xs ++ Lib.runeCells r) ∧ ∃ o, (w.alloc o).grownBy w' v.ownBlock :=
  Any.utf8_AppendRune_own Tryz.lays242 Tryz.Builder_Extra_242 B v n xs r hr0 hr1 w hown hlen hBw
end Go.Proofs

namespace Go.Proofs.YtfolnkmbdmfigaaGreatDoor.Ch
open Go
def may (r : Int) : Bool := r == 9 || r == 10 || r == 13 || (decide (32 ≤ r) && decide (r ≤ 55295)) || (decide (57344 ≤ r) && decide (r ≤ 65533)) || (decide (65536 ≤ r) && decide (r ≤ 1114111))
theorem may_iff (r : Int) : may r = true ↔ r = 9 ∨ r = 10 ∨ r = 13 ∨ (32 ≤ r ∧ r ≤ 55295) ∨ (57344 ≤ r ∧ r ≤ 65533) ∨ (65536 ≤ r ∧ r ≤ 1114111) := by
  simp only [may, Bool.or_eq_true, Bool.and_eq_true, beq_iff_eq, decide_eq_true_eq]
  omega
theorem may_false {r : Int} (h : ¬ (r = 9 ∨ r = 10 ∨ r = 13 ∨ (32 ≤ r ∧ r ≤ 55295) ∨ (57344 ≤ r ∧ r ≤ 65533) ∨ (65536 ≤ r ∧ r ≤ 1114111))) : may r = false := by
  cases e : may r
  · rfl
  · exact absurd ((may_iff r).1 e) h
def bz (s : ByteArray) (i : Nat) : Int := if i < s.size then ((s.get! i).toNat : Int) else -1
theorem bz_bd (s : ByteArray) (i : Nat) : -1 ≤ bz s i ∧ bz s i ≤ 255 := by
  unfold bz
  have := (s.get! i).toNat_lt
  split <;> omega
def okAt (s : ByteArray) (i : Nat) : Bool := may (Utf8.decode s i).1 && ((Utf8.decode s i).1 != 65533 || (Utf8.decode s i).2 == 3)
def acc (s : ByteArray) (i : Nat) (r0 : Int) : Nat → Int
  | 0 => r0
  | k + 1 => 64 * acc s i r0 k + bz s (i + (k + 1)) - 128
def cont (s : ByteArray) (i : Nat) : Prop := 128 ≤ bz s i ∧ bz s i < 192
theorem cont_iff (s : ByteArray) (i k : Nat) : ((decide (i + k < s.size) && (s.get! (i + k)).toNat / 64 == 2) = true) ↔ cont s (i + k) := by
  unfold cont bz
  by_cases h : i + k < s.size
  · simp [h]; omega
  · simp [h]
theorem bz_get {s : ByteArray} {i : Nat} (h : 0 ≤ bz s i) : i < s.size ∧ ((s.get! i).toNat : Int) = bz s i := by
  unfold bz at *
  split at h
  · exact ⟨‹_›, by simp [*]⟩
  · omega
theorem decode_one {s : ByteArray} {i : Nat} (h0 : 0 ≤ bz s i) (h1 : bz s i < 128) : Utf8.decode s i = ((bz s i).toNat, 1) := by
  obtain ⟨hi, hb⟩ := bz_get h0
  have e : (s.get! i).toNat < 128 := by omega
  simp only [Utf8.decode, Nat.add_zero, e, if_true]
  congr 1
  omega
theorem decode_none {s : ByteArray} {i : Nat} (h : (128 ≤ bz s i ∧ bz s i < 192) ∨ 248 ≤ bz s i) : Utf8.decode s i = (65533, 1) := by
  obtain ⟨hi, hb⟩ := bz_get (s := s) (i := i) (by omega)
  have h3 := (s.get! i).toNat_lt
  have e1 : ¬ (s.get! i).toNat < 128 := by omega
  have e2 : ((s.get! i).toNat / 32 == 6) = false := by simp; omega
  have e3 : ((s.get! i).toNat / 16 == 14) = false := by simp; omega
  have e4 : ((s.get! i).toNat / 8 == 30) = false := by simp; omega
  simp [Utf8.decode, e1, e2, e3, e4, Utf8.runeError]
theorem cont_false {s : ByteArray} {i k : Nat} (h : ¬ cont s (i + k)) : (decide (i + k < s.size) && (s.get! (i + k)).toNat / 64 == 2) = false := by
  rw [Bool.eq_false_iff]; intro e; exact h ((cont_iff s i k).1 e)
theorem cont_true {s : ByteArray} {i k : Nat} (h : cont s (i + k)) : (decide (i + k < s.size) && (s.get! (i + k)).toNat / 64 == 2) = true := (cont_iff s i k).2 h
theorem decode_two {s : ByteArray} {i : Nat} (h0 : 192 ≤ bz s i) (h1 : bz s i < 224) (c1 : cont s (i + 1)) :
    Utf8.decode s i = if 128 ≤ acc s i (bz s i - 192) 1 then ((acc s i (bz s i - 192) 1).toNat, 2) else (65533, 1) := by
  obtain ⟨hi, hb⟩ := bz_get (s := s) (i := i) (by omega)
  obtain ⟨hi1, hb1⟩ := bz_get (s := s) (i := i + 1) (by unfold cont at c1; omega)
  have k1 := cont_true c1
  have e1 : ¬ (s.get! i).toNat < 128 := by omega
  have e2 : ((s.get! i).toNat / 32 == 6) = true := by simp; omega
  unfold cont at c1
  simp only [Utf8.decode, Nat.add_zero, e1, e2, k1, if_false, if_true, Bool.and_self, Utf8.runeError, acc]
  simp only [Nat.zero_add]
  have hc : (((s.get! i).toNat % 32 * 64 + (s.get! (i + 1)).toNat % 64 : Nat) : Int) = 64 * (bz s i - 192) + bz s (i + 1) - 128 := by omega
  by_cases h : 128 ≤ (s.get! i).toNat % 32 * 64 + (s.get! (i + 1)).toNat % 64
  · rw [if_pos (by simpa using h), if_pos (by omega)]
    congr 1; omega
  · rw [if_neg (by simpa using h), if_neg (by omega)]
theorem decode_two_no {s : ByteArray} {i : Nat} (h0 : 192 ≤ bz s i) (h1 : bz s i < 224) (c1 : ¬ cont s (i + 1)) : Utf8.decode s i = (65533, 1) := by
  obtain ⟨hi, hb⟩ := bz_get (s := s) (i := i) (by omega)
  have k1 := cont_false c1
  have e1 : ¬ (s.get! i).toNat < 128 := by omega
  have e3 : ((s.get! i).toNat / 16 == 14) = false := by simp; omega
  have e4 : ((s.get! i).toNat / 8 == 30) = false := by simp; omega
  simp only [Utf8.decode, Nat.add_zero, e1, e3, e4, k1, if_false, Bool.and_false, Bool.false_and, Utf8.runeError, Bool.false_eq_true]
set_option maxRecDepth 100000 in
theorem decode_three {s : ByteArray} {i : Nat} (h0 : 224 ≤ bz s i) (h1 : bz s i < 240) (c1 : cont s (i + 1)) (c2 : cont s (i + 2)) :
    Utf8.decode s i = if 2048 ≤ acc s i (bz s i - 224) 2 ∧ Utf8.valid (acc s i (bz s i - 224) 2) = true then ((acc s i (bz s i - 224) 2).toNat, 3) else (65533, 1) := by
  obtain ⟨hi, hb⟩ := bz_get (s := s) (i := i) (by omega)
  obtain ⟨hi1, hb1⟩ := bz_get (s := s) (i := i + 1) (by unfold cont at c1; omega)
  obtain ⟨hi2, hb2⟩ := bz_get (s := s) (i := i + 2) (by unfold cont at c2; omega)
  have k1 := cont_true c1
  have k2 := cont_true c2
  have e1 : ¬ (s.get! i).toNat < 128 := by omega
  have e2 : ((s.get! i).toNat / 32 == 6) = false := by simp; omega
  have e3 : ((s.get! i).toNat / 16 == 14) = true := by simp; omega
  unfold cont at c1 c2
  simp only [Utf8.decode, Nat.add_zero, e1, e2, e3, k1, k2, if_false, if_true, Bool.and_self, Bool.false_and, Utf8.runeError, acc, Bool.false_eq_true]
  simp only [Nat.zero_add, Nat.reduceAdd]
  have hc : (((s.get! i).toNat % 16 * 4096 + (s.get! (i + 1)).toNat % 64 * 64 + (s.get! (i + 2)).toNat % 64 : Nat) : Int) = 64 * (64 * (bz s i - 224) + bz s (i + 1) - 128) + bz s (i + 2) - 128 := by omega
  generalize 64 * (64 * (bz s i - 224) + bz s (i + 1) - 128) + bz s (i + 2) - 128 = z at hc ⊢
  generalize (s.get! i).toNat % 16 * 4096 + (s.get! (i + 1)).toNat % 64 * 64 + (s.get! (i + 2)).toNat % 64 = c at hc ⊢
  subst hc
  by_cases h : 2048 ≤ c ∧ Utf8.valid c = true
  · rw [if_pos (by rw [Bool.and_eq_true, decide_eq_true_eq]; exact h), if_pos ⟨by omega, h.2⟩]
    congr 1
  · rw [if_neg (by rw [Bool.and_eq_true, decide_eq_true_eq]; exact h), if_neg (fun q => h ⟨by omega, q.2⟩)]
theorem decode_three_no {s : ByteArray} {i : Nat} (h0 : 224 ≤ bz s i) (h1 : bz s i < 240) (c1 : ¬ cont s (i + 1) ∨ ¬ cont s (i + 2)) : Utf8.decode s i = (65533, 1) := by
  obtain ⟨hi, hb⟩ := bz_get (s := s) (i := i) (by omega)
  have e1 : ¬ (s.get! i).toNat < 128 := by omega
  have e2 : ((s.get! i).toNat / 32 == 6) = false := by simp; omega
  have e4 : ((s.get! i).toNat / 8 == 30) = false := by simp; omega
  rcases c1 with c1 | c1
  all_goals have k1 := cont_false c1
  all_goals simp only [Utf8.decode, Nat.add_zero, e1, e2, e4, k1, if_false, Bool.and_false, Bool.false_and, Utf8.runeError, Bool.false_eq_true]
set_option maxRecDepth 100000 in
theorem decode_four {s : ByteArray} {i : Nat} (h0 : 240 ≤ bz s i) (h1 : bz s i < 248) (c1 : cont s (i + 1)) (c2 : cont s (i + 2)) (c3 : cont s (i + 3)) :
    Utf8.decode s i = if 65536 ≤ acc s i (bz s i - 240) 3 ∧ Utf8.valid (acc s i (bz s i - 240) 3) = true then ((acc s i (bz s i - 240) 3).toNat, 4) else (65533, 1) := by
  obtain ⟨hi, hb⟩ := bz_get (s := s) (i := i) (by omega)
  obtain ⟨hi1, hb1⟩ := bz_get (s := s) (i := i + 1) (by unfold cont at c1; omega)
  obtain ⟨hi2, hb2⟩ := bz_get (s := s) (i := i + 2) (by unfold cont at c2; omega)
  obtain ⟨hi3, hb3⟩ := bz_get (s := s) (i := i + 3) (by unfold cont at c3; omega)
  have k1 := cont_true c1
  have k2 := cont_true c2
  have k3 := cont_true c3
  have e1 : ¬ (s.get! i).toNat < 128 := by omega
  have e2 : ((s.get! i).toNat / 32 == 6) = false := by simp; omega
  have e3 : ((s.get! i).toNat / 16 == 14) = false := by simp; omega
  have e4 : ((s.get! i).toNat / 8 == 30) = true := by simp; omega
  unfold cont at c1 c2 c3
  simp only [Utf8.decode, Nat.add_zero, e1, e2, e3, e4, k1, k2, k3, if_false, if_true, Bool.and_self, Bool.false_and, Utf8.runeError, acc, Bool.false_eq_true]
  simp only [Nat.zero_add, Nat.reduceAdd]
  have hc : (((s.get! i).toNat % 8 * 262144 + (s.get! (i + 1)).toNat % 64 * 4096 + (s.get! (i + 2)).toNat % 64 * 64 + (s.get! (i + 3)).toNat % 64 : Nat) : Int) = 64 * (64 * (64 * (bz s i - 240) + bz s (i + 1) - 128) + bz s (i + 2) - 128) + bz s (i + 3) - 128 := by omega
  generalize 64 * (64 * (64 * (bz s i - 240) + bz s (i + 1) - 128) + bz s (i + 2) - 128) + bz s (i + 3) - 128 = z at hc ⊢
  generalize (s.get! i).toNat % 8 * 262144 + (s.get! (i + 1)).toNat % 64 * 4096 + (s.get! (i + 2)).toNat % 64 * 64 + (s.get! (i + 3)).toNat % 64 = c at hc ⊢
  subst hc
  by_cases h : 65536 ≤ c ∧ Utf8.valid c = true
  · rw [if_pos (by rw [Bool.and_eq_true, decide_eq_true_eq]; exact h), if_pos ⟨by omega, h.2⟩]
    congr 1
  · rw [if_neg (by rw [Bool.and_eq_true, decide_eq_true_eq]; exact h), if_neg (fun q => h ⟨by omega, q.2⟩)]
theorem decode_four_no {s : ByteArray} {i : Nat} (h0 : 240 ≤ bz s i) (h1 : bz s i < 248) (c1 : ¬ cont s (i + 1) ∨ ¬ cont s (i + 2) ∨ ¬ cont s (i + 3)) : Utf8.decode s i = (65533, 1) := by
  obtain ⟨hi, hb⟩ := bz_get (s := s) (i := i) (by omega)
  have e1 : ¬ (s.get! i).toNat < 128 := by omega
  have e2 : ((s.get! i).toNat / 32 == 6) = false := by simp; omega
  have e3 : ((s.get! i).toNat / 16 == 14) = false := by simp; omega
  rcases c1 with c1 | c1 | c1
  all_goals have k1 := cont_false c1
  all_goals simp only [Utf8.decode, Nat.add_zero, e1, e2, e3, k1, if_false, Bool.and_false, Bool.false_and, Utf8.runeError, Bool.false_eq_true]
theorem okAt_bad {s : ByteArray} {i : Nat} (h : Utf8.decode s i = (65533, 1)) : okAt s i = false := by
  simp [okAt, h]
theorem acc_bd {s : ByteArray} {i : Nat} {r0 : Int} (k : Nat) (h0 : 0 ≤ r0) (h1 : r0 ≤ 255) (hk : k ≤ 3) (hc : ∀ j, 1 ≤ j → j ≤ k → cont s (i + j)) : 0 ≤ acc s i r0 k ∧ acc s i r0 k ≤ 67108863 := by
  have a1 : k = 0 ∨ k = 1 ∨ k = 2 ∨ k = 3 := by omega
  rcases a1 with rfl | rfl | rfl | rfl
  · simp [acc]; omega
  · have c1 := hc 1 (by omega) (by omega)
    unfold cont at c1
    simp only [acc, Nat.zero_add]; omega
  · have c1 := hc 1 (by omega) (by omega)
    have c2 := hc 2 (by omega) (by omega)
    unfold cont at c1 c2
    simp only [acc, Nat.zero_add, Nat.reduceAdd]; omega
  · have c1 := hc 1 (by omega) (by omega)
    have c2 := hc 2 (by omega) (by omega)
    have c3 := hc 3 (by omega) (by omega)
    unfold cont at c1 c2 c3
    simp only [acc, Nat.zero_add, Nat.reduceAdd]; omega
def lead (a : Int) : Nat × Int :=
  if 0 ≤ a ∧ a < 128 then (1, a) else if 192 ≤ a ∧ a < 224 then (2, a - 192) else if 224 ≤ a ∧ a < 240 then (3, a - 224) else if 240 ≤ a ∧ a < 248 then (4, a - 240) else (0, 0)
def few (n : Nat) (r : Int) : Bool := (n == 2 && decide (r < 128)) || (n == 3 && decide (r < 2048)) || (n == 4 && decide (r < 65536))
def at2 (s : ByteArray) (i : Nat) : Int × Int := if i < s.size ∧ okAt s i = true then (((Utf8.decode s i).1 : Int), ((Utf8.decode s i).2 : Int)) else (0, 0)
theorem at2_bad {s : ByteArray} {i : Nat} (h : Utf8.decode s i = (65533, 1)) : at2 s i = (0, 0) := by
  simp [at2, okAt_bad h]
theorem at2_short {s : ByteArray} {i k : Nat} (hk : 1 ≤ k) (hkn : k < (lead (bz s i)).1) (hc : ¬ cont s (i + k)) : at2 s i = (0, 0) := by
  apply at2_bad
  unfold lead at hkn
  split at hkn
  · simp at hkn; omega
  · split at hkn
    · simp at hkn
      have : k = 1 := by omega
      subst this
      exact decode_two_no (by omega) (by omega) hc
    · split at hkn
      · simp at hkn
        have : k = 1 ∨ k = 2 := by omega
        refine decode_three_no (by omega) (by omega) ?_
        rcases this with rfl | rfl
        · exact Or.inl hc
        · exact Or.inr hc
      · split at hkn
        · simp at hkn
          have : k = 1 ∨ k = 2 ∨ k = 3 := by omega
          refine decode_four_no (by omega) (by omega) ?_
          rcases this with rfl | rfl | rfl
          · exact Or.inl hc
          · exact Or.inr (Or.inl hc)
          · exact Or.inr (Or.inr hc)
        · simp at hkn
theorem valid_of_may {r : Int} (h : may r = true) : Utf8.valid r = true := by
  rw [may_iff] at h
  simp [Utf8.valid]; omega
theorem at2_full {s : ByteArray} {i : Nat} (hc : ∀ j, 1 ≤ j → j < (lead (bz s i)).1 → cont s (i + j)) :
    at2 s i = if (few (lead (bz s i)).1 (acc s i (lead (bz s i)).2 ((lead (bz s i)).1 - 1)) || !may (acc s i (lead (bz s i)).2 ((lead (bz s i)).1 - 1))) = true then (0, 0)
      else (acc s i (lead (bz s i)).2 ((lead (bz s i)).1 - 1), ((lead (bz s i)).1 : Int)) := by
  have hbd := bz_bd s i
  unfold lead at hc ⊢
  split at hc
  · rename_i h
    simp only [h, and_self, if_true, Nat.sub_self, acc] at hc ⊢
    have hd := decode_one h.1 h.2
    have hi := (bz_get h.1).1
    have ht : (((bz s i).toNat : Nat) : Int) = bz s i := by omega
    simp only [at2, okAt, hd, ht, hi, few]
    cases hm : may (bz s i)
    · simp
    · have : (bz s i != 65533) = true := by simp; omega
      have : ¬ ((bz s i).toNat = 65533) := by omega
      simp [this]
  · rename_i hn1
    split at hc
    · rename_i h
      simp only [hn1, h, and_self, if_true, if_false, Nat.reduceSub] at hc ⊢
      have c1 := hc 1 (by omega) (by omega)
      have hb := acc_bd (s := s) (i := i) (r0 := bz s i - 192) 1 (by omega) (by omega) (by omega) (fun j a b => hc j a (by omega))
      have hi := (bz_get (s := s) (i := i) (by omega)).1
      have hd := decode_two h.1 h.2 c1
      have hup : acc s i (bz s i - 192) 1 ≤ 2047 := by unfold cont at c1; simp only [acc, Nat.zero_add]; omega
      generalize acc s i (bz s i - 192) 1 = z at *
      by_cases hz : 128 ≤ z
      · rw [if_pos hz] at hd
        have ht : ((z.toNat : Nat) : Int) = z := by omega
        have hne : ¬ z.toNat = 65533 := by omega
        have hf : few 2 z = false := by simp [few]; omega
        simp only [at2, okAt, hd, ht, hi, hf]
        cases hm : may z
        · simp
        · simp [hne]
      · rw [if_neg hz] at hd
        have hf : few 2 z = true := by simp [few]; omega
        rw [at2_bad hd]; simp [hf]
    · rename_i hn2
      split at hc
      · rename_i h
        simp only [hn1, hn2, h, and_self, if_true, if_false, Nat.reduceSub] at hc ⊢
        have c1 := hc 1 (by omega) (by omega)
        have c2 := hc 2 (by omega) (by omega)
        have hb := acc_bd (s := s) (i := i) (r0 := bz s i - 224) 2 (by omega) (by omega) (by omega) (fun j a b => hc j a (by omega))
        have hi := (bz_get (s := s) (i := i) (by omega)).1
        have hd := decode_three h.1 h.2 c1 c2
        generalize acc s i (bz s i - 224) 2 = z at *
        by_cases hz : 2048 ≤ z
        · have hf : few 3 z = false := by simp [few]; omega
          cases hm : may z
          · simp only [hf, Bool.not_false, Bool.or_true, if_true]
            by_cases hv : Utf8.valid z = true
            · rw [if_pos ⟨hz, hv⟩] at hd
              have ht : ((z.toNat : Nat) : Int) = z := by omega
              simp [at2, okAt, hd, ht, hm]
            · rw [if_neg (fun q => hv q.2)] at hd
              exact at2_bad hd
          · rw [if_pos ⟨hz, valid_of_may hm⟩] at hd
            have ht : ((z.toNat : Nat) : Int) = z := by omega
            simp [at2, okAt, hd, ht, hm, hi, hf]
        · rw [if_neg (fun q => hz q.1)] at hd
          have hf : few 3 z = true := by simp [few]; omega
          rw [at2_bad hd]; simp [hf]
      · rename_i hn3
        split at hc
        · rename_i h
          simp only [hn1, hn2, hn3, h, and_self, if_true, if_false, Nat.reduceSub] at hc ⊢
          have c1 := hc 1 (by omega) (by omega)
          have c2 := hc 2 (by omega) (by omega)
          have c3 := hc 3 (by omega) (by omega)
          have hb := acc_bd (s := s) (i := i) (r0 := bz s i - 240) 3 (by omega) (by omega) (by omega) (fun j a b => hc j a (by omega))
          have hi := (bz_get (s := s) (i := i) (by omega)).1
          have hd := decode_four h.1 h.2 c1 c2 c3
          generalize acc s i (bz s i - 240) 3 = z at *
          by_cases hz : 65536 ≤ z
          · have hf : few 4 z = false := by simp [few]; omega
            cases hm : may z
            · simp only [hf, Bool.not_false, Bool.or_true, if_true]
              by_cases hv : Utf8.valid z = true
              · rw [if_pos ⟨hz, hv⟩] at hd
                have ht : ((z.toNat : Nat) : Int) = z := by omega
                simp [at2, okAt, hd, ht, hm]
              · rw [if_neg (fun q => hv q.2)] at hd
                exact at2_bad hd
            · rw [if_pos ⟨hz, valid_of_may hm⟩] at hd
              have ht : ((z.toNat : Nat) : Int) = z := by omega
              have hne : ¬ z.toNat = 65533 := by omega
              simp [at2, okAt, hd, ht, hm, hi, hf, hne]
          · rw [if_neg (fun q => hz q.1)] at hd
            have hf : few 4 z = true := by simp [few]; omega
            rw [at2_bad hd]; simp [hf]
        · rename_i hn4
          simp only [hn1, hn2, hn3, hn4, if_false, Nat.zero_sub, acc] at hc ⊢
          have hm : may 0 = false := by decide
          simp only [hm, Bool.not_false, Bool.or_true, if_true]
          by_cases hs : bz s i = -1
          · have : ¬ i < s.size := by
              intro hi
              unfold bz at hs
              rw [if_pos hi] at hs
              omega
            simp [at2, this]
          · exact at2_bad (decode_none (by omega))
end Go.Proofs.YtfolnkmbdmfigaaGreatDoor.Ch

namespace Go.Proofs.YtfolnkmbdmfigaaGreatDoor.Ch
open Go
def begins (r : Int) : Bool := (decide (65 ≤ r) && decide (r ≤ 90)) || (decide (97 ≤ r) && decide (r ≤ 122)) || r == 95 || decide (128 ≤ r)
def goesOn (r : Int) : Bool := (decide (48 ≤ r) && decide (r ≤ 57)) || r == 45 || r == 46
theorem begins_iff (r : Int) : begins r = true ↔ (65 ≤ r ∧ r ≤ 90) ∨ (97 ≤ r ∧ r ≤ 122) ∨ r = 95 ∨ 128 ≤ r := by
  simp only [begins, Bool.or_eq_true, Bool.and_eq_true, beq_iff_eq, decide_eq_true_eq]; omega
theorem goesOn_iff (r : Int) : goesOn r = true ↔ (48 ≤ r ∧ r ≤ 57) ∨ r = 45 ∨ r = 46 := by
  simp only [goesOn, Bool.or_eq_true, Bool.and_eq_true, beq_iff_eq, decide_eq_true_eq]; omega
def dig (d r : Int) : Int := if 48 ≤ r ∧ r ≤ 57 then r - 48 else if 97 ≤ r ∧ r ≤ 102 then r - 87 else if 65 ≤ r ∧ r ≤ 70 then r - 55 else d
def refFor (r : Int) (q : Bool) : List UInt8 :=
  if r = 38 then [38, 97, 109, 112, 59] else if r = 60 then [38, 108, 116, 59] else if r = 62 then [38, 103, 116, 59] else if r = 13 then [38, 35, 49, 51, 59]
  else if q = false then [] else if r = 34 then [38, 113, 117, 111, 116, 59] else if r = 9 then [38, 35, 57, 59] else if r = 10 then [38, 35, 49, 48, 59] else []
def chAt (s : ByteArray) (i : Nat) (r : Int) : Bool := if r = 65533 then (bz s i == 239 && bz s (i + 1) == 191 && bz s (i + 2) == 189) else may r
theorem decode_width (s : ByteArray) (i : Nat) (h : i < s.size) : i + (Utf8.decode s i).2 ≤ s.size ∧ 1 ≤ (Utf8.decode s i).2 ∧ (Utf8.decode s i).2 ≤ 4 := by
  simp only [Utf8.decode]
  repeat' split
  all_goals simp_all
  all_goals omega
theorem chAt_decode (s : ByteArray) (i : Nat) (h : i < s.size) : chAt s i (Utf8.decode s i).1 = okAt s i := by
  unfold chAt okAt
  by_cases he : (Utf8.decode s i).1 = 65533
  · have hm : may ((65533 : Nat) : Int) = true := by decide
    rw [if_pos (by rw [he]; rfl), he, hm]
    simp only [bne_self_eq_false, Bool.false_or, Bool.true_and]
    rw [Bool.eq_iff_iff]
    simp only [Bool.and_eq_true, beq_iff_eq]
    have hb := bz_bd s i
    have hi0 : 0 ≤ bz s i := by unfold bz; rw [if_pos h]; omega
    constructor
    · rintro ⟨⟨h0, h1⟩, h2⟩
      have hd := decode_three (s := s) (i := i) (by omega) (by omega) (by unfold cont; omega) (by unfold cont; omega)
      have ha : acc s i (bz s i - 224) 2 = 65533 := by simp only [acc, Nat.zero_add, Nat.reduceAdd, h0, h1, h2]; decide
      rw [ha] at hd
      rw [if_pos ⟨by decide, by decide⟩] at hd
      rw [hd]
    · intro h3
      by_cases a1 : bz s i < 128
      · rw [decode_one hi0 a1] at h3; simp at h3
      by_cases a2 : bz s i < 192
      · rw [decode_none (Or.inl ⟨by omega, a2⟩)] at h3; simp at h3
      by_cases a3 : bz s i < 224
      · by_cases c1 : cont s (i + 1)
        · rw [decode_two (by omega) a3 c1] at h3; split at h3 <;> simp at h3
        · rw [decode_two_no (by omega) a3 c1] at h3; simp at h3
      by_cases a4 : bz s i < 240
      · by_cases c1 : cont s (i + 1)
        · by_cases c2 : cont s (i + 2)
          · have hd := decode_three (by omega) a4 c1 c2
            rw [hd] at h3 he
            split at h3
            · rename_i hz
              rw [if_pos hz] at he
              simp only at he
              have hz2 : acc s i (bz s i - 224) 2 = 65533 := by omega
              unfold cont at c1 c2
              simp only [acc, Nat.zero_add, Nat.reduceAdd] at hz2
              omega
            · simp at h3
          · rw [decode_three_no (by omega) a4 (Or.inr c2)] at h3; simp at h3
        · rw [decode_three_no (by omega) a4 (Or.inl c1)] at h3; simp at h3
      by_cases a5 : bz s i < 248
      · by_cases c1 : cont s (i + 1)
        · by_cases c2 : cont s (i + 2)
          · by_cases c3 : cont s (i + 3)
            · rw [decode_four (by omega) a5 c1 c2 c3] at h3; split at h3 <;> simp at h3
            · rw [decode_four_no (by omega) a5 (Or.inr (Or.inr c3))] at h3; simp at h3
          · rw [decode_four_no (by omega) a5 (Or.inr (Or.inl c2))] at h3; simp at h3
        · rw [decode_four_no (by omega) a5 (Or.inl c1)] at h3; simp at h3
      · rw [decode_none (Or.inr (by omega))] at h3; simp at h3
  · rw [if_neg (by omega)]
    have : ((Utf8.decode s i).1 != 65533) = true := by simp [he]
    simp [this]
end Go.Proofs.YtfolnkmbdmfigaaGreatDoor.Ch

namespace Go.Proofs.YtfolnkmbdmfigaaGreatDoor
open Go.RowKit
def Apd (B : Nat) (v : Value) (n : Nat) (xs news : List Value) (w : World) (e : Ending) (w' : World) : Prop :=
  ∃ v', e = .returned v' ∧ w'.ownsRow B 5 1 v' (n + news.length) (xs ++ news) ∧ (∃ o, (w.alloc o).grownBy w' v.ownBlock) ∧ (v'.ownBlock = v.ownBlock ∨ v'.ownBlock = some (w.heap.size + 1))
set_option maxHeartbeats 4000000 in
set_option maxRecDepth 100000 in
theorem apd_ascii (B : Nat) (v : Value) (n : Nat) (xs : List Value) (r : Int) (h0 : 0 ≤ r) (h1 : r ≤ 127) (w : World) (hown : w.ownsRow B 5 1 v n xs) (hlen : n + 4 ≤ 140737488355328) (hBw : B ≤ w.heap.size) :
    Calls Tryz.prog 87 #[v, .int .i32 r] w (Apd B v n xs [.int .u8 (r)] w) := by
  obtain ⟨i0, hi, hz0, hz1, hz2⟩ := info_parts Tryz.Builder_Extra_242.infoByte
  go_enter Tryz.func87, Tryz.ntmps87
  go_wp2_with (at_builtin; refine wpList_append_own_at _ rfl _ _ 87 rfl B 5 i0 (.int .u8 0) 1 1 Tryz.underlying87 hi hz0 hz1 hz2 rfl (by decide) _ _ _ rfl (hown.alloc _) ⟨w.heap.size, 0, none⟩ 1 1 [.int .u8 (r)] rfl rfl ?c1 ?c2 ?c3 ?c4 ?c5 ?_)
  case c1 =>
    intro j u hj
    match j, hj with
    | 0, hj => simp at hj; subst hj; simp [Addr.add]
    | (j + 1), hj => simp at hj
  case c2 => intro u hu; simp at hu; subst hu; rfl
  case c3 => unfold maxLen; omega
  case c4 => omega
  case c5 => simp; omega
  intro v' w2 hown' hgrow _ hat
  go_wp2
  go_ret
  exact ⟨_, rfl, hown', ⟨_, hgrow⟩, by simpa using hat⟩
set_option maxHeartbeats 4000000 in
set_option maxRecDepth 100000 in
theorem apd_two (B : Nat) (v : Value) (n : Nat) (xs : List Value) (r : Int) (h0 : 128 ≤ r) (h1 : r ≤ 2047) (w : World) (hown : w.ownsRow B 5 1 v n xs) (hlen : n + 4 ≤ 140737488355328) (hBw : B ≤ w.heap.size) :
    Calls Tryz.prog 120 #[v, .int .i32 r] w (Apd B v n xs [.int .u8 (192 + r / 64), .int .u8 (128 + r % 64)] w) := by
  obtain ⟨i0, hi, hz0, hz1, hz2⟩ := info_parts Tryz.Builder_Extra_242.infoByte
  go_enter Tryz.func120, Tryz.ntmps120
  go_wp2_with (at_builtin; refine wpList_append_own_at _ rfl _ _ 87 rfl B 5 i0 (.int .u8 0) 1 1 Tryz.underlying87 hi hz0 hz1 hz2 rfl (by decide) _ _ _ rfl (hown.alloc _) ⟨w.heap.size, 0, none⟩ 2 2 [.int .u8 (192 + r / 64), .int .u8 (128 + r % 64)] rfl rfl ?c1 ?c2 ?c3 ?c4 ?c5 ?_)
  case c1 =>
    intro j u hj
    match j, hj with
    | 0, hj => simp at hj; subst hj; simp [Addr.add]
    | 1, hj => simp at hj; subst hj; simp [Addr.add]
    | (j + 2), hj => simp at hj
  case c2 => intro u hu; simp at hu; rcases hu with rfl | rfl <;> rfl
  case c3 => unfold maxLen; omega
  case c4 => omega
  case c5 => simp; omega
  intro v' w2 hown' hgrow _ hat
  go_wp2
  go_ret
  exact ⟨_, rfl, hown', ⟨_, hgrow⟩, by simpa using hat⟩
set_option maxHeartbeats 4000000 in
set_option maxRecDepth 100000 in
theorem apd_lo (B : Nat) (v : Value) (n : Nat) (xs : List Value) (r : Int) (h0 : 2048 ≤ r) (h1 : r < 55296) (w : World) (hown : w.ownsRow B 5 1 v n xs) (hlen : n + 4 ≤ 140737488355328) (hBw : B ≤ w.heap.size) :
    Calls Tryz.prog 120 #[v, .int .i32 r] w (Apd B v n xs [.int .u8 (224 + r / 4096), .int .u8 (128 + r / 64 % 64), .int .u8 (128 + r % 64)] w) := by
  obtain ⟨i0, hi, hz0, hz1, hz2⟩ := info_parts Tryz.Builder_Extra_242.infoByte
  go_enter Tryz.func120, Tryz.ntmps120
  go_wp2_with (at_builtin; refine wpList_append_own_at _ rfl _ _ 87 rfl B 5 i0 (.int .u8 0) 1 1 Tryz.underlying87 hi hz0 hz1 hz2 rfl (by decide) _ _ _ rfl (hown.alloc _) ⟨w.heap.size, 0, none⟩ 3 3 [.int .u8 (224 + r / 4096), .int .u8 (128 + r / 64 % 64), .int .u8 (128 + r % 64)] rfl rfl ?c1 ?c2 ?c3 ?c4 ?c5 ?_)
  case c1 =>
    intro j u hj
    match j, hj with
    | 0, hj => simp at hj; subst hj; simp [Addr.add]
    | 1, hj => simp at hj; subst hj; simp [Addr.add]
    | 2, hj => simp at hj; subst hj; simp [Addr.add]
    | (j + 3), hj => simp at hj
  case c2 => intro u hu; simp at hu; rcases hu with rfl | rfl | rfl <;> rfl
  case c3 => unfold maxLen; omega
  case c4 => omega
  case c5 => simp; omega
  intro v' w2 hown' hgrow _ hat
  go_wp2
  go_ret
  exact ⟨_, rfl, hown', ⟨_, hgrow⟩, by simpa using hat⟩
set_option maxHeartbeats 4000000 in
set_option maxRecDepth 100000 in
theorem apd_hi (B : Nat) (v : Value) (n : Nat) (xs : List Value) (r : Int) (h0 : 57343 < r) (h1 : r ≤ 65535) (w : World) (hown : w.ownsRow B 5 1 v n xs) (hlen : n + 4 ≤ 140737488355328) (hBw : B ≤ w.heap.size) :
    Calls Tryz.prog 120 #[v, .int .i32 r] w (Apd B v n xs [.int .u8 (224 + r / 4096), .int .u8 (128 + r / 64 % 64), .int .u8 (128 + r % 64)] w) := by
  obtain ⟨i0, hi, hz0, hz1, hz2⟩ := info_parts Tryz.Builder_Extra_242.infoByte
  go_enter Tryz.func120, Tryz.ntmps120
  go_wp2_with (at_builtin; refine wpList_append_own_at _ rfl _ _ 87 rfl B 5 i0 (.int .u8 0) 1 1 Tryz.underlying87 hi hz0 hz1 hz2 rfl (by decide) _ _ _ rfl (hown.alloc _) ⟨w.heap.size, 0, none⟩ 3 3 [.int .u8 (224 + r / 4096), .int .u8 (128 + r / 64 % 64), .int .u8 (128 + r % 64)] rfl rfl ?c1 ?c2 ?c3 ?c4 ?c5 ?_)
  case c1 =>
    intro j u hj
    match j, hj with
    | 0, hj => simp at hj; subst hj; simp [Addr.add]
    | 1, hj => simp at hj; subst hj; simp [Addr.add]
    | 2, hj => simp at hj; subst hj; simp [Addr.add]
    | (j + 3), hj => simp at hj
  case c2 => intro u hu; simp at hu; rcases hu with rfl | rfl | rfl <;> rfl
  case c3 => unfold maxLen; omega
  case c4 => omega
  case c5 => simp; omega
  intro v' w2 hown' hgrow _ hat
  go_wp2
  go_ret
  exact ⟨_, rfl, hown', ⟨_, hgrow⟩, by simpa using hat⟩
set_option maxHeartbeats 4000000 in
set_option maxRecDepth 100000 in
theorem apd_four (B : Nat) (v : Value) (n : Nat) (xs : List Value) (r : Int) (h0 : 65536 ≤ r) (h1 : r ≤ 1114111) (w : World) (hown : w.ownsRow B 5 1 v n xs) (hlen : n + 4 ≤ 140737488355328) (hBw : B ≤ w.heap.size) :
    Calls Tryz.prog 120 #[v, .int .i32 r] w (Apd B v n xs [.int .u8 (240 + r / 262144), .int .u8 (128 + r / 4096 % 64), .int .u8 (128 + r / 64 % 64), .int .u8 (128 + r % 64)] w) := by
  obtain ⟨i0, hi, hz0, hz1, hz2⟩ := info_parts Tryz.Builder_Extra_242.infoByte
  go_enter Tryz.func120, Tryz.ntmps120
  go_wp2_with (at_builtin; refine wpList_append_own_at _ rfl _ _ 87 rfl B 5 i0 (.int .u8 0) 1 1 Tryz.underlying87 hi hz0 hz1 hz2 rfl (by decide) _ _ _ rfl (hown.alloc _) ⟨w.heap.size, 0, none⟩ 4 4 [.int .u8 (240 + r / 262144), .int .u8 (128 + r / 4096 % 64), .int .u8 (128 + r / 64 % 64), .int .u8 (128 + r % 64)] rfl rfl ?c1 ?c2 ?c3 ?c4 ?c5 ?_)
  case c1 =>
    intro j u hj
    match j, hj with
    | 0, hj => simp at hj; subst hj; simp [Addr.add]
    | 1, hj => simp at hj; subst hj; simp [Addr.add]
    | 2, hj => simp at hj; subst hj; simp [Addr.add]
    | 3, hj => simp at hj; subst hj; simp [Addr.add]
    | (j + 4), hj => simp at hj
  case c2 => intro u hu; simp at hu; rcases hu with rfl | rfl | rfl | rfl <;> rfl
  case c3 => unfold maxLen; omega
  case c4 => omega
  case c5 => simp; omega
  intro v' w2 hown' hgrow _ hat
  go_wp2
  go_ret
  exact ⟨_, rfl, hown', ⟨_, hgrow⟩, by simpa using hat⟩
def Scalar (r : Int) : Prop := (0 ≤ r ∧ r < 55296) ∨ (57343 < r ∧ r ≤ 1114111)
theorem apd_non (B : Nat) (v : Value) (n : Nat) (xs : List Value) (r : Int) (hr : Scalar r) (h0 : 128 ≤ r) (w : World) (hown : w.ownsRow B 5 1 v n xs) (hlen : n + 4 ≤ 140737488355328) (hBw : B ≤ w.heap.size) :
    Calls Tryz.prog 120 #[v, .int .i32 r] w (Apd B v n xs (Lib.runeCells r) w) := by
  unfold Scalar at hr
  by_cases c1 : r ≤ 2047
  · rw [show Lib.runeCells r = [.int .u8 (192 + r / 64), .int .u8 (128 + r % 64)] by simp [Lib.runeCells, Lib.encodeRuneZ_two (by omega) c1]]
    exact apd_two B v n xs r (by omega) c1 w hown hlen hBw
  by_cases c2 : r < 55296
  · rw [show Lib.runeCells r = [.int .u8 (224 + r / 4096), .int .u8 (128 + r / 64 % 64), .int .u8 (128 + r % 64)] by simp [Lib.runeCells, Lib.encodeRuneZ_three (Or.inl ⟨by omega, c2⟩)]]
    exact apd_lo B v n xs r (by omega) c2 w hown hlen hBw
  by_cases c4 : r ≤ 65535
  · rw [show Lib.runeCells r = [.int .u8 (224 + r / 4096), .int .u8 (128 + r / 64 % 64), .int .u8 (128 + r % 64)] by simp [Lib.runeCells, Lib.encodeRuneZ_three (Or.inr ⟨by omega, c4⟩)]]
    exact apd_hi B v n xs r (by omega) c4 w hown hlen hBw
  · rw [show Lib.runeCells r = [.int .u8 (240 + r / 262144), .int .u8 (128 + r / 4096 % 64), .int .u8 (128 + r / 64 % 64), .int .u8 (128 + r % 64)] by simp [Lib.runeCells, Lib.encodeRuneZ_four (show 65536 ≤ r by omega) (show r ≤ 1114111 by omega)]]
    exact apd_four B v n xs r (by omega) (by omega) w hown hlen hBw
set_option maxHeartbeats 4000000 in
set_option maxRecDepth 100000 in
theorem appendRune_at (B : Nat) (v : Value) (n : Nat) (xs : List Value) (r : Int) (hr : Scalar r) (w : World) (hown : w.ownsRow B 5 1 v n xs) (hlen : n + 4 ≤ 140737488355328) (hBw : B ≤ w.heap.size) :
    Calls Tryz.prog 87 #[v, .int .i32 r] w (Apd B v n xs (Lib.runeCells r) w) := by
  by_cases c : r ≤ 127
  · have h0 : 0 ≤ r := by unfold Scalar at hr; omega
    rw [show Lib.runeCells r = [.int .u8 r] by simp [Lib.runeCells, Lib.encodeRuneZ_one h0 c]]
    exact apd_ascii B v n xs r h0 c w hown hlen hBw
  · have hc := apd_non B v n xs r hr (by omega) w hown hlen hBw
    have h1 : 128 ≤ r := by omega
    have h2 : r ≤ 1114111 := by unfold Scalar at hr; omega
    generalize Lib.runeCells r = news at *
    clear hr c
    go_enter Tryz.func87, Tryz.ntmps87
    go_wp2_with (go_at_call 120; refine hc.mono ?_)
    rintro e w1 ⟨v', rfl, h1, h2, h3⟩
    go_wp2
    go_ret
    exact ⟨_, rfl, h1, h2, h3⟩
end Go.Proofs.YtfolnkmbdmfigaaGreatDoor

namespace Go.Proofs.YtfolnkmbdmfigaaGreatDoor
open Go.RowKit
theorem ret_bool {a b : Bool} (h : a = b) : Ending.returned (.bool a) = .returned (.bool b) := by rw [h]
theorem ret_int {k : IntKind} {a b : Int} (h : a = b) : Ending.returned (.int k a) = .returned (.int k b) := by rw [h]
set_option maxHeartbeats 400000 in
theorem character_any (r : Int) (w : World) :
    Calls Tryz.prog 144 #[.int .i32 r] w fun e w' => e = .returned (.bool (Ch.may r)) ∧ w' = w := by
  go_enter Tryz.func144, Tryz.ntmps144
  go_wp2
  all_goals go_ret
  all_goals refine ⟨ret_bool ?_, rfl⟩
  all_goals try simp only [beq_iff_eq, beq_eq_false_iff_ne, ne_eq] at *
  all_goals rw [Bool.eq_iff_iff, Ch.may_iff]
  all_goals first | omega | (simp; done) | (simp; omega)
set_option maxHeartbeats 400000 in
theorem May_any (r : Int) (w : World) :
    Calls Tryz.prog 103 #[.int .i64 r] w fun e w' => e = .returned (.bool (Ch.may r)) ∧ w' = w := by
  go_enter Tryz.func103, Tryz.ntmps103
  go_wp2
  all_goals go_ret
  all_goals refine ⟨ret_bool ?_, rfl⟩
  all_goals try simp only [beq_iff_eq, beq_eq_false_iff_ne, ne_eq] at *
  all_goals rw [Bool.eq_iff_iff, Ch.may_iff]
  all_goals first | omega | (simp; done) | (simp; omega)
set_option maxHeartbeats 400000 in
theorem byteAt_any (s : ByteArray) (i : Nat) (w : World) (_hs : s.size ≤ maxLen) :
    Calls Tryz.prog 102 #[.string s, .int .i64 i] w fun e w' => e = .returned (.int .i64 (Ch.bz s i)) ∧ w' = w := by
  unfold maxLen at _hs
  by_cases h : i < s.size
  · go_enter Tryz.func102, Tryz.ntmps102
    go_wp2
    go_ret
    refine ⟨ret_int ?_, rfl⟩
    have e : (s.get! i) = s[i] := by
      simp [ByteArray.get!, h]; rfl
    have hl := (s[i]).toNat_lt
    rw [IntWalk.wrap64_in _ (by omega), Ch.bz, if_pos h, e]
  · go_enter Tryz.func102, Tryz.ntmps102
    go_wp2
    go_ret
    refine ⟨ret_int ?_, rfl⟩
    rw [Ch.bz, if_neg h]
set_option maxHeartbeats 400000 in
theorem beginsName_any (r : Int) (w : World) :
    Calls Tryz.prog 141 #[.int .i32 r] w fun e w' => e = .returned (.bool (Ch.begins r)) ∧ w' = w := by
  go_enter Tryz.func141, Tryz.ntmps141
  go_wp2
  all_goals go_ret
  all_goals refine ⟨ret_bool ?_, rfl⟩
  all_goals try simp only [beq_iff_eq, beq_eq_false_iff_ne, ne_eq] at *
  all_goals rw [Bool.eq_iff_iff, Ch.begins_iff]
  all_goals first | omega | (simp; done) | (simp; omega)
set_option maxHeartbeats 400000 in
theorem begins_any (r : Int) (w : World) :
    Calls Tryz.prog 134 #[.int .i64 r] w fun e w' => e = .returned (.bool (Ch.begins r)) ∧ w' = w := by
  go_enter Tryz.func134, Tryz.ntmps134
  go_wp2
  all_goals go_ret
  all_goals refine ⟨ret_bool ?_, rfl⟩
  all_goals try simp only [beq_iff_eq, beq_eq_false_iff_ne, ne_eq] at *
  all_goals rw [Bool.eq_iff_iff, Ch.begins_iff]
  all_goals first | omega | (simp; done) | (simp; omega)
set_option maxHeartbeats 400000 in
theorem goesOnInName_any (r : Int) (w : World) :
    Calls Tryz.prog 142 #[.int .i32 r] w fun e w' => e = .returned (.bool (Ch.goesOn r)) ∧ w' = w := by
  go_enter Tryz.func142, Tryz.ntmps142
  go_wp2
  all_goals go_ret
  all_goals refine ⟨ret_bool ?_, rfl⟩
  all_goals try simp only [beq_iff_eq, beq_eq_false_iff_ne, ne_eq] at *
  all_goals rw [Bool.eq_iff_iff, Ch.goesOn_iff]
  all_goals first | omega | (simp; done) | (simp; omega)
set_option maxHeartbeats 400000 in
theorem digitC_any (r : Int) (w : World) (h0 : -2147483648 ≤ r) (h1 : r ≤ 2147483647) :
    Calls Tryz.prog 156 #[.int .i32 r] w fun e w' => e = .returned (.int .i32 (Ch.dig 16 r)) ∧ w' = w := by
  go_enter Tryz.func156, Tryz.ntmps156
  go_wp2
  all_goals go_ret
  all_goals refine ⟨ret_int ?_, rfl⟩
  all_goals unfold Ch.dig
  all_goals repeat' split
  all_goals omega
set_option maxHeartbeats 400000 in
theorem digitR_any (r : Int) (w : World) (h0 : -2147483648 ≤ r) (h1 : r ≤ 2147483647) :
    Calls Tryz.prog 135 #[.int .i64 r] w fun e w' => e = .returned (.int .i64 (Ch.dig (-1) r)) ∧ w' = w := by
  go_enter Tryz.func135, Tryz.ntmps135
  go_wp2
  all_goals go_ret
  all_goals refine ⟨ret_int ?_, rfl⟩
  all_goals unfold Ch.dig
  all_goals repeat' split
  all_goals omega
theorem referenceFor_any (r : Int) (q : Bool) (w : World) : Calls Tryz.prog 78 #[.int .i32 r, .bool q] w fun e w' => e = .returned (.string ⟨(Ch.refFor r q).toArray⟩) ∧ w' = w := by
  go_enter Tryz.func78, Tryz.ntmps78
  go_wp2
  all_goals go_ret
  all_goals refine ⟨?_, rfl⟩
  all_goals simp only [beq_iff_eq, beq_eq_false_iff_ne, ne_eq, Bool.not_eq_true', Bool.not_eq_false'] at *
  all_goals simp [Ch.refFor, *]
theorem byteAt_int (s : ByteArray) (j : Int) (w : World) (hs : s.size ≤ maxLen) (h : 0 ≤ j) :
    Calls Tryz.prog 102 #[.string s, .int .i64 j] w fun e w' => e = .returned (.int .i64 (Ch.bz s j.toNat)) ∧ w' = w := by
  obtain ⟨n, rfl⟩ := Int.eq_ofNat_of_zero_le h
  rw [Int.toNat_natCast]
  exact byteAt_any s n w hs
end Go.Proofs.YtfolnkmbdmfigaaGreatDoor

namespace Go.Proofs.YtfolnkmbdmfigaaGreatDoor
open Go.RowKit
theorem hide {p : Prop} (h : p) : Hid p := h
theorem lead_cases (a : Int) (h : -1 ≤ a ∧ a ≤ 255) : (0 ≤ a ∧ a < 128 ∧ Ch.lead a = (1, a)) ∨ (192 ≤ a ∧ a < 224 ∧ Ch.lead a = (2, a - 192)) ∨ (224 ≤ a ∧ a < 240 ∧ Ch.lead a = (3, a - 224)) ∨ (240 ≤ a ∧ a < 248 ∧ Ch.lead a = (4, a - 240)) ∨ (a < 0 ∧ Ch.lead a = (0, 0)) ∨ (128 ≤ a ∧ a < 192 ∧ Ch.lead a = (0, 0)) ∨ (248 ≤ a ∧ Ch.lead a = (0, 0)) := by
  unfold Ch.lead
  repeat' split
  all_goals simp
  all_goals omega
theorem acc_step (s : ByteArray) (i m : Nat) (r0 : Int) (h : 1 ≤ m) : Ch.acc s i r0 (m + 1 - 1) = 64 * Ch.acc s i r0 (m - 1) + Ch.bz s (i + m) - 128 := by
  obtain ⟨k, rfl⟩ : ∃ k, m = k + 1 := ⟨m - 1, by omega⟩
  simp [Ch.acc]
theorem lead_bd (a : Int) (h : -1 ≤ a ∧ a ≤ 255) : (Ch.lead a).1 ≤ 4 ∧ 0 ≤ (Ch.lead a).2 ∧ (Ch.lead a).2 ≤ 255 := by
  unfold Ch.lead
  repeat' split
  all_goals simp
  all_goals omega
set_option maxHeartbeats 4000000 in
theorem At_any (s : ByteArray) (i : Nat) (w : World) (hs : s.size ≤ 1125899906842624) (hi : i ≤ s.size) :
    Calls Tryz.prog 75 #[.string s, .int .i64 i] w fun e w' => e = .returned (.tuple #[.int .i64 (Ch.at2 s i).1, .int .i64 (Ch.at2 s i).2]) ∧ w' = w := by
  have hm : s.size ≤ maxLen := by unfold maxLen; omega
  have hbd := Ch.bz_bd s i
  have hlb := lead_bd (Ch.bz s i) hbd
  have hlc := lead_cases (Ch.bz s i) hbd
  rcases hlc with ⟨h0, h1, hl⟩ | ⟨h0, h1, hl⟩ | ⟨h0, h1, hl⟩ | ⟨h0, h1, hl⟩ | ⟨h0, hl⟩ | ⟨h0, h1, hl⟩ | ⟨h0, hl⟩
  all_goals
    have HL := hide hl
    clear hl
    go_enter Tryz.func75, Tryz.ntmps75
    go_wp2_with (go_at_call 102; refine (byteAt_int _ _ _ hm (by omega)).mono ?_; rintro e w' ⟨rfl, rfl⟩; rw [Int.toNat_natCast])
    go_loop [8, 9] (fun r k => ∃ m : Nat, 1 ≤ m ∧ (m ≤ (Ch.lead (Ch.bz s i)).1 ∨ m = 1) ∧ k = .int .i64 m ∧ r = .int .i64 (Ch.acc s i (Ch.lead (Ch.bz s i)).2 (m - 1)) ∧ ∀ j, 1 ≤ j → j < m → Ch.cont s (i + j)) (fun _ k => 5 - (intOf k).toNat)
    case atStart =>
      refine ⟨1, Nat.le_refl _, Or.inr rfl, rfl, ?_, fun j a b => by omega⟩
      rw [HL.out]; rfl
    case round =>
      obtain ⟨m, hm1, hm2, rfl, rfl, hc⟩ := hrel
      have HC := hide hc
      clear hc
      by_cases hlt : m < (Ch.lead (Ch.bz s i)).1
      · have hlt' := hlt
        rw [HL.out] at hlt'
        simp only at hlt'
        first
          | (exfalso; omega)
          | (have hb := Ch.acc_bd (s := s) (i := i) (r0 := (Ch.lead (Ch.bz s i)).2) (m - 1) (by omega) (by omega) (by omega) (fun j a b => HC.out j a (by omega))
             have hb2 := Ch.bz_bd s (i + m)
             have hj : ((i : Int) + (m : Int)).toNat = i + m := by omega
             by_cases c : Ch.cont s (i + m)
             · have c' := c
               unfold Ch.cont at c'
               have hst := hide (acc_step s i m (Ch.lead (Ch.bz s i)).2 hm1)
               have HC2 : Hid (∀ j, 1 ≤ j → j < m + 1 → Ch.cont s (i + j)) := fun j a b => by
                 by_cases e : j = m
                 · rw [e]; exact c
                 · exact HC.out j a (by omega)
               have HJ := hide hj
               clear hj c
               generalize Ch.acc s i (Ch.lead (Ch.bz s i)).2 (m - 1) = z at *
               go_wp2_with (go_at_call 102; refine (byteAt_int _ _ _ hm (by omega)).mono ?_; rintro e w' ⟨rfl, rfl⟩; rw [HJ.out])
               go_round
               case rel => exact ⟨m + 1, by omega, Or.inl (by omega), by go_num, by rw [hst.out], HC2.out⟩
               case measure => simp [intOf]; omega
             · have hsh := hide (Ch.at2_short hm1 hlt c)
               have c' : Ch.bz s (i + m) < 128 ∨ 192 ≤ Ch.bz s (i + m) := by unfold Ch.cont at c; omega
               have HJ := hide hj
               clear hj c
               rcases c' with c' | c'
               all_goals
                 go_wp2_with (go_at_call 102; refine (byteAt_int _ _ _ hm (by omega)).mono ?_; rintro e w' ⟨rfl, rfl⟩; rw [HJ.out])
                 go_ret2
                 refine ⟨?_, rfl⟩
                 rw [hsh.out]
                 rfl)
      · have hfull := Ch.at2_full (s := s) (i := i) (fun j a b => HC.out j a (by omega))
        have hmm : (Ch.lead (Ch.bz s i)).1 - 1 = m - 1 := by rcases hm2 with h | h <;> omega
        have hb := Ch.acc_bd (s := s) (i := i) (r0 := (Ch.lead (Ch.bz s i)).2) (m - 1) (by omega) (by omega) (by rcases hm2 with h | h <;> omega) (fun j a b => HC.out j a (by omega))
        rw [hmm] at hfull
        clear hmm
        have hlt' := hlt
        rw [HL.out] at hlt'
        simp only at hlt'
        generalize Ch.acc s i (Ch.lead (Ch.bz s i)).2 (m - 1) = z at *
        rw [HL.out] at hfull
        simp only at hfull
        have HF := hide hfull
        clear hfull
        cases hmay : Ch.may z
        all_goals
          go_wp2_with (go_at_call 103; refine (May_any _ _).mono ?_; rintro e w' ⟨rfl, rfl⟩)
          all_goals go_ret2
          all_goals refine ⟨?_, rfl⟩
          all_goals rw [HF.out]
          all_goals split
          all_goals first
            | rfl
            | (rename_i hcond; exfalso; simp [Ch.few, hmay] at hcond; done)
            | (rename_i hcond; exfalso; simp [Ch.few, hmay] at hcond; omega)
end Go.Proofs.YtfolnkmbdmfigaaGreatDoor

namespace Go.Proofs.YtfolnkmbdmfigaaGreatDoor.Ch
open Go
def has (s : ByteArray) (i : Nat) : List UInt8 → Bool
  | [] => true
  | c :: l => bz s i == (c.toNat : Int) && has s (i + 1) l
theorem drop_cons (s : ByteArray) (i : Nat) (h : i < s.size) : s.data.toList.drop i = s.get! i :: s.data.toList.drop (i + 1) := by
  rw [List.drop_eq_getElem_cons (by simpa using h)]
  congr 1
  simp [ByteArray.get!, h]
theorem drop_nil (s : ByteArray) (i : Nat) (h : ¬ i < s.size) : s.data.toList.drop i = [] := by
  apply List.drop_eq_nil_of_le
  simpa using h
theorem prefix_has (s : ByteArray) (l : List UInt8) : ∀ i, l.isPrefixOf (s.data.toList.drop i) = has s i l := by
  induction l with
  | nil => intro i; simp [has]
  | cons c l ih =>
    intro i
    by_cases h : i < s.size
    · rw [drop_cons s i h]
      simp only [List.isPrefixOf, has, ih]
      congr 1
      rw [Bool.eq_iff_iff, beq_iff_eq, beq_iff_eq]
      simp only [bz, h, if_true]
      constructor
      · intro e; rw [e]
      · intro e; exact (UInt8.toNat_inj.1 (by omega))
    · rw [drop_nil s i h]
      simp [has, List.isPrefixOf, bz, h]
theorem extract_list (s : ByteArray) (i : Nat) : (s.extract i s.size).data.toList = s.data.toList.drop i := by
  simp [List.take_of_length_le]
theorem hasPrefix_walk (s : ByteArray) (i : Nat) (l : List UInt8) : Lib.hasPrefix (List.take (s.size - i) (List.drop i s.data.toList)) l = has s i l := by
  rw [List.take_of_length_le (by simp), Lib.hasPrefix, prefix_has]
def badFrom (s : ByteArray) : Nat → Nat → Nat
  | 0, pos => pos
  | f + 1, pos => if pos < s.size then (if okAt s pos = true then badFrom s f (pos + (Utf8.decode s pos).2) else pos) else s.size
def bad (s : ByteArray) : Nat := badFrom s (s.size + 1) 0
def inName (s : ByteArray) (pos : Nat) : Bool := okAt s pos && (begins (Utf8.decode s pos).1 || (decide (0 < pos) && goesOn (Utf8.decode s pos).1))
def nameFrom (s : ByteArray) : Nat → Nat → Nat
  | 0, pos => pos
  | f + 1, pos => if pos < s.size then (if inName s pos = true then nameFrom s f (pos + (Utf8.decode s pos).2) else pos) else s.size
def name (s : ByteArray) : Nat := nameFrom s (s.size + 1) 0
theorem at2_pos (s : ByteArray) (i : Nat) (h : i < s.size) : at2 s i = if okAt s i = true then (((Utf8.decode s i).1 : Int), ((Utf8.decode s i).2 : Int)) else (0, 0) := by
  simp [at2, h]
end Go.Proofs.YtfolnkmbdmfigaaGreatDoor.Ch

namespace Go.Proofs.YtfolnkmbdmfigaaGreatDoor
open Go.RowKit
set_option maxHeartbeats 1000000 in
theorem characterAt_any (s : ByteArray) (i : Nat) (r : Int) (w : World) (_hs : s.size ≤ 1125899906842624) (hi : i ≤ s.size) :
    Calls Tryz.prog 117 #[.string s, .int .i64 i, .int .i32 r] w fun e w' => e = .returned (.bool (Ch.chAt s i r)) ∧ w' = w := by
  by_cases hr : r = 65533
  · have hb : (r == 65533) = true := by simp [hr]
    have hp := Ch.hasPrefix_walk s i [239, 191, 189]
    have hq : Ch.has s i [239, 191, 189] = Ch.chAt s i r := by
      simp [Ch.has, Ch.chAt, hr, Bool.and_assoc, Nat.add_assoc]
    rw [hq] at hp
    have HP := hide hp
    clear hp hq hr
    go_enter Tryz.func117, Tryz.ntmps117
    go_wp2_with (go_at_call 143; refine (Tryz.strings_HasPrefix _ _ _).mono ?_; rintro e w' ⟨rfl, rfl⟩)
    go_ret
    refine ⟨ret_bool ?_, rfl⟩
    exact HP.out
  · have hb : (r == 65533) = false := by simp [hr]
    have hc : Ch.chAt s i r = Ch.may r := by simp [Ch.chAt, hr]
    have HC := hide hc
    clear hc hr
    go_enter Tryz.func117, Tryz.ntmps117
    go_wp2_with (go_at_call 144; refine (character_any _ _).mono ?_; rintro e w' ⟨rfl, rfl⟩)
    go_ret
    exact ⟨ret_bool HC.out.symm, rfl⟩
theorem below_iter (w : World) (s : ByteArray) (pos : Nat) : Below w.heap.size w (w.iter s pos) :=
  (Below.refl _ w).alloc (Nat.le_refl _) _
set_option maxHeartbeats 2000000 in
set_option maxRecDepth 1000000 in
theorem badC_any (s : ByteArray) (w : World) (hs : s.size ≤ 1125899906842624) :
    Calls Tryz.prog 123 #[.string s] w fun e w' => e = .returned (.int .i64 (Ch.bad s)) ∧ Below w.heap.size w w' := by
  go_enter Tryz.func123, Tryz.ntmps123
  go_wp2
  go_loopw [] (fun w' => ∃ (pos fuel : Nat), w' = w.iter s pos ∧ Ch.badFrom s fuel pos = Ch.bad s ∧ s.size < pos + fuel ∧ pos ≤ s.size) (fun w' => s.size - w'.iterPos w.heap.size)
  case atStart => exact ⟨0, s.size + 1, rfl, rfl, by omega, by omega⟩
  case round =>
    obtain ⟨pos, fuel, rfl, hc, hb, hl⟩ := hrel
    obtain ⟨f, rfl⟩ : ∃ f, fuel = f + 1 := ⟨fuel - 1, by omega⟩
    have HC := hide hc
    clear hc
    by_cases hp : pos < s.size
    · have hnx : ∀ ty, (Instr.next (.pointer (some ⟨w.heap.size, 0, none⟩)) true ty).run Tryz.prog (w.iter s pos) = _ := fun ty => run_next_any w s pos ty hp
      have hwd := Ch.decode_width s pos hp
      have hch := Ch.chAt_decode s pos hp
      cases hok : Ch.okAt s pos
      · rw [hok] at hch
        go_wp2_with (go_at_call 117; refine (characterAt_any _ _ _ _ hs hl).mono ?_; rintro e w' ⟨rfl, rfl⟩)
        go_ret
        refine ⟨ret_int ?_, ?_⟩
        · have := HC.out; simp only [Ch.badFrom, hp, hok] at this; simp at this; omega
        · exact below_iter w s _
      · rw [hok] at hch
        go_wp2_with (go_at_call 117; refine (characterAt_any _ _ _ _ hs hl).mono ?_; rintro e w' ⟨rfl, rfl⟩)
        go_roundw
        case rel =>
          refine ⟨pos + (Utf8.decode s pos).2, f, rfl, ?_, by omega, by omega⟩
          have := HC.out; simp only [Ch.badFrom, hp, hok] at this; simpa using this
        case measure =>
          simp
          omega
    · have hnx : ∀ ty, (Instr.next (.pointer (some ⟨w.heap.size, 0, none⟩)) true ty).run Tryz.prog (w.iter s pos) = _ := fun ty => run_next_end w s pos ty hp
      go_wp2
      go_ret
      refine ⟨ret_int ?_, ?_⟩
      · have := HC.out; simp only [Ch.badFrom, hp] at this; simp at this; omega
      · exact below_iter w s _
end Go.Proofs.YtfolnkmbdmfigaaGreatDoor

namespace Go.Proofs.YtfolnkmbdmfigaaGreatDoor
open Go.RowKit
theorem info43 : ∃ j, Tryz.prog.info? 108 = some j ∧ j.size = 2 := Option.map_eq_some_iff.1 Tryz.Builder_Extra_242.sizeBuilder
set_option maxHeartbeats 1000000 in
set_option maxRecDepth 100000 in
theorem copyCheck_used (b : Nat) (w : World) (c0 : w.cell? ⟨b, 0, none⟩ = some (.pointer (some ⟨b, 0, none⟩))) :
    Calls Tryz.prog 77 #[.pointer (some ⟨b, 0, none⟩)] w fun e w' => e = .returned (.tuple #[]) ∧ w' = w := by
  obtain ⟨j, hj, _⟩ := info43
  go_enter Tryz.func77, Tryz.ntmps77
  go_wp2
  rw [Lib.run_neq_ptr_same w _ Tryz.underlying106 hj]
  go_wp2
  go_end0
  exact ⟨rfl, rfl⟩
set_option maxHeartbeats 1000000 in
set_option maxRecDepth 100000 in
theorem copyCheck_fresh (b : Nat) (w : World) (c0 : w.cell? ⟨b, 0, none⟩ = some (.pointer none)) (hsh : w.shape? b = some (108, 2)) (f0 : w.frozen? ⟨b, 0, none⟩ = false) :
    Calls Tryz.prog 77 #[.pointer (some ⟨b, 0, none⟩)] w fun e w' => e = .returned (.tuple #[]) ∧ w' = w.setCell ⟨b, 0, none⟩ (.pointer (some ⟨b, 0, none⟩)) := by
  obtain ⟨j, hj, hjs⟩ := info43
  go_enter Tryz.func77, Tryz.ntmps77
  go_wp2
  rw [Lib.run_to_unsafe w ⟨b, 0, none⟩ Tryz.underlying106 Tryz.underlying148 hj (by rw [hjs]; decide) hsh (Nat.zero_lt_succ 1)]
  simp only [Result.andThen]
  rw [Oper.upon_value]
  go_wp2
  rw [run_callFunc_extern Tryz.func104 (by kernel_rfl) (by kernel_rfl) (by kernel_rfl) (e := Extern.AbiNoEscape.same) (by kernel_rfl)]
  rw [Lib.run_noEscape]
  simp only [Result.andThen]
  rw [Oper.upon_value]
  go_wp2
  rw [Lib.run_from_unsafe w ⟨b, 0, none⟩ Tryz.underlying148 Tryz.underlying106 hj hsh Tryz.Builder_Extra_242.liesBuilder]
  simp only [Result.andThen]
  rw [Oper.upon_value]
  go_wp2
  go_end0
  exact ⟨rfl, rfl⟩
theorem copyCheck_k (B b : Nat) (bs : List Value) (w : World) (h : Lib.IsBuilderF 108 5 B b bs w) :
    Calls Tryz.prog 77 #[.pointer (some ⟨b, 0, none⟩)] w fun e w' => e = .returned (.tuple #[]) ∧ (Lib.BuilderAtF 108 5 B b (.pointer (some ⟨b, 0, none⟩)) bs w' ∧ Below B w w' ∧ Lib.OthersKept 5 (some b) w w') := by
  rcases h with h | h
  · refine (copyCheck_fresh b w h.cell0 h.shape h.frozen0).mono ?_
    rintro e w' ⟨rfl, rfl⟩
    exact ⟨rfl, h.used _, (Below.refl B w).setCell (p := ⟨b, 0, none⟩) h.1 _, (Lib.OthersKept.refl _ _ w).setCell ⟨b, 0, none⟩ rfl _⟩
  · refine (copyCheck_used b w h.cell0).mono ?_
    rintro e w' ⟨rfl, rfl⟩
    exact ⟨rfl, h, Below.refl B _, Lib.OthersKept.refl _ _ _⟩
theorem builder_cells {b : Nat} {v : Value} {w : World} (hbk : w.heap[b]? = some (.cells #[.pointer (some ⟨b, 0, none⟩), v] 108 (0, 0))) :
    w.cell? ⟨b, 0, none⟩ = some (.pointer (some ⟨b, 0, none⟩)) ∧ w.cell? ⟨b, 1, none⟩ = some v ∧ w.frozen? ⟨b, 1, none⟩ = false ∧ b < w.heap.size :=
  ⟨by rw [Lib.cell_of_heap hbk]; rfl, by rw [Lib.cell_of_heap hbk]; rfl, Lib.frozen_of_heap hbk 1, (Array.getElem?_eq_some_iff.1 hbk).1⟩
set_option maxHeartbeats 2000000 in
set_option maxRecDepth 100000 in
theorem writeString_k (B b : Nat) (bs : List Value) (s : ByteArray) (w : World) (h : Lib.IsBuilderF 108 5 B b bs w) (hlen : bs.length + s.size ≤ 140737488355328) (hBw : B ≤ w.heap.size) :
    Calls Tryz.prog 49 #[.pointer (some ⟨b, 0, none⟩), .string s] w fun e w' => e = .returned (.tuple #[.int .i64 s.size, .nilIface]) ∧ (Lib.BuilderAtF 108 5 B b (.pointer (some ⟨b, 0, none⟩)) (bs ++ Lib.strCells s) w' ∧ Below B w w' ∧ Lib.OthersKept 5 (some b) w w') := by
  obtain ⟨i0, hi, hz0, hz1, hz2⟩ := info_parts Tryz.Builder_Extra_242.infoByte
  go_enter Tryz.func49, Tryz.ntmps49
  go_wp2_with (go_at_call 77; refine (copyCheck_k B b bs _ h).mono ?_)
  rintro e w1 ⟨rfl, h1, hb1, hk1⟩
  obtain ⟨hB, v, hbk, hown, hne⟩ := h1
  obtain ⟨c0, c1, _, hlt⟩ := builder_cells hbk
  go_wp2_with (at_builtin; refine Lib.wpList_append_own_stringF _ rfl _ _ 87 9 rfl B 5 i0 Tryz.underlying87 Tryz.underlying9 hi hz0 hz1 hz2 _ _ _ rfl hown s rfl ?c3 ?c4 ?c5 ?_)
  case c3 => unfold maxLen; omega
  case c4 => omega
  case c5 => have := hb1.size; omega
  intro v' w2 hown' hgrow _
  have hb2 : w2.heap[b]? = some (.cells #[.pointer (some ⟨b, 0, none⟩), v] 108 (0, 0)) := by
    rw [hgrow.block b hlt (fun e => hne e.symm)]
    exact hbk
  obtain ⟨d0, d1, f1, _⟩ := builder_cells hb2
  obtain ⟨ao, n', cap, rfl⟩ : ∃ ao n' cap, v' = .slice ao n' cap := by
    rcases hown'.2 with ⟨hv, _⟩ | ⟨g, cap, cur, fz, hv, _⟩ <;> exact ⟨_, _, _, hv⟩
  go_wp2
  go_ret2
  refine ⟨rfl, ?_, ?_, (hk1.grown hgrow (Lib.ownsRowF_kind hown)).setCell ⟨b, 1, none⟩ rfl _⟩
  · exact Lib.BuilderAtF.put (T := 108) (e := 5) hB hb2 (bs' := bs ++ Lib.strCells s) (by simpa [Lib.strCells_length] using hown') (by decide)
  · exact (hb1.grown hgrow (by have := hb1.size; omega) (fun k hk => (hown.lt k hk).1)).setCell (p := ⟨b, 1, none⟩) hB _
set_option maxHeartbeats 4000000 in
set_option maxRecDepth 100000 in
theorem writeRune_k (B b : Nat) (bs : List Value) (r : Int) (hr0 : -2147483648 ≤ r) (hr1 : r ≤ 2147483647) (w : World) (h : Lib.IsBuilderF 108 5 B b bs w) (hlen : bs.length + 4 ≤ 140737488355328) (hBw : B ≤ w.heap.size) :
    Calls Tryz.prog 119 #[.pointer (some ⟨b, 0, none⟩), .int .i32 r] w fun e w' => e = .returned (.tuple #[.int .i64 (Lib.runeCells r).length, .nilIface]) ∧ (Lib.BuilderAtF 108 5 B b (.pointer (some ⟨b, 0, none⟩)) (bs ++ Lib.runeCells r) w' ∧ Below B w w' ∧ Lib.OthersKept 5 (some b) w w') := by
  have hk4 := Lib.runeCells_le r
  go_enter Tryz.func119, Tryz.ntmps119
  go_wp2_with (go_at_call 77; refine (copyCheck_k B b bs _ h).mono ?_)
  rintro e w1 ⟨rfl, h1, hb1, hk1⟩
  obtain ⟨hB, v, hbk, hown, hne⟩ := h1
  obtain ⟨ao, cap, rfl⟩ : ∃ ao cap, v = .slice ao bs.length cap := by
    rcases hown.2 with ⟨hv, h0⟩ | ⟨g, cap, cur, fz, hv, _⟩
    · exact ⟨none, 0, by rw [hv, h0]⟩
    · exact ⟨_, _, hv⟩
  obtain ⟨c0, c1, _, hlt⟩ := builder_cells hbk
  go_wp2_with (go_at_call 87; refine (Tryz.utf8_AppendRune_own B _ bs.length bs r hr0 hr1 _ hown hlen (by have := hb1.size; omega)).mono ?_)
  rintro e w2 ⟨v', rfl, hown', o, hgrow⟩
  have hb2 : w2.heap[b]? = some (.cells #[.pointer (some ⟨b, 0, none⟩), .slice ao bs.length cap] 108 (0, 0)) := by
    rw [hgrow.block b (by simp; omega) (fun e => hne e.symm), Lib.alloc_old w1 _ b hlt]
    exact hbk
  obtain ⟨d0, d1, f1, _⟩ := builder_cells hb2
  obtain ⟨g, cap', rfl⟩ : ∃ g cap', v' = .slice (some ⟨g, 0, none⟩) (bs.length + (Lib.runeCells r).length) cap' := by
    rcases hown'.2 with ⟨_, h0⟩ | ⟨g, cap', cur, fz, hv, _⟩
    · omega
    · exact ⟨g, cap', hv⟩
  go_wp2
  go_ret2
  refine ⟨?_, ?_, ?_, ((hk1.alloc _).grown hgrow (Lib.ownsRowF_kind (hown.alloc _))).setCell ⟨b, 1, none⟩ rfl _⟩
  · have e : ((bs.length : Int) + ((Lib.runeCells r).length : Int) - (bs.length : Int)) = ((Lib.runeCells r).length : Int) := by omega
    simp [e]
  · exact Lib.BuilderAtF.put (T := 108) (e := 5) hB hb2 (bs' := bs ++ Lib.runeCells r) (by simpa using hown') (by decide)
  · exact ((hb1.alloc (by have := hb1.size; omega) _).grown hgrow (by have := hb1.size; simp; omega) (fun k hk => (hown.lt k hk).1)).setCell (p := ⟨b, 1, none⟩) hB _
end Go.Proofs.YtfolnkmbdmfigaaGreatDoor

namespace Go.Proofs.YtfolnkmbdmfigaaGreatDoor.Ch
open Go
def numFrom (u : ByteArray) (b : Int) : Nat → Nat → Int → Int × Int
  | 0, _, _ => (0, 0)
  | f + 1, pos, n =>
    if bz u pos = 59 then (if may n = true then (n, (pos : Int) + 1) else (0, 0))
    else if b ≤ dig 16 (bz u pos) then (0, 0)
    else numFrom u b f (pos + 1) (if n ≤ 1114111 then n * b + dig 16 (bz u pos) else n)
theorem dig_high {r : Int} (h : 128 ≤ r) (d : Int) : dig d r = d := by
  unfold dig
  rw [if_neg (by omega), if_neg (by omega), if_neg (by omega)]
theorem dig_bd (r : Int) : 0 ≤ dig 16 r ∧ dig 16 r ≤ 16 := by
  unfold dig
  repeat' split
  all_goals omega
theorem dig_end (r : Int) (h : r < 0) : dig 16 r = 16 := by
  unfold dig
  rw [if_neg (by omega), if_neg (by omega), if_neg (by omega)]
theorem decode_byte (u : ByteArray) (pos : Nat) (h : pos < u.size) : (0 ≤ bz u pos ∧ bz u pos < 128 ∧ Utf8.decode u pos = ((bz u pos).toNat, 1)) ∨ (128 ≤ bz u pos ∧ 128 ≤ (Utf8.decode u pos).1) := by
  have h0 : 0 ≤ bz u pos := by unfold bz; rw [if_pos h]; omega
  by_cases hb : bz u pos < 128
  · exact Or.inl ⟨h0, hb, decode_one h0 hb⟩
  · refine Or.inr ⟨by omega, ?_⟩
    have hg : ((u.get! pos).toNat : Int) = bz u pos := (bz_get h0).2
    have e : u.get! pos = u[pos] := by simp [ByteArray.get!, h]; rfl
    exact (decode_high u pos h (by rw [← e]; omega)).1
theorem num_end {u : ByteArray} {b : Int} {f pos : Nat} {n : Int} {X : Int × Int} (hb : b ≤ 16) (hp : ¬ pos < u.size) (h : numFrom u b (f + 1) pos n = X) : X = (0, 0) := by
  have hz : bz u pos = -1 := by unfold bz; rw [if_neg hp]
  subst h
  unfold numFrom
  rw [hz, if_neg (by omega), dig_end _ (by omega), if_pos hb]
theorem num_semi {u : ByteArray} {b : Int} {f pos : Nat} {n : Int} {X : Int × Int} (hs : bz u pos = 59) (h : numFrom u b (f + 1) pos n = X) : X = if may n = true then (n, (pos : Int) + 1) else (0, 0) := by
  subst h
  unfold numFrom
  rw [if_pos hs]
theorem num_no {u : ByteArray} {b : Int} {f pos : Nat} {n : Int} {X : Int × Int} (hs : ¬ bz u pos = 59) (hd : b ≤ dig 16 (bz u pos)) (h : numFrom u b (f + 1) pos n = X) : X = (0, 0) := by
  subst h
  unfold numFrom
  rw [if_neg hs, if_pos hd]
theorem num_on {u : ByteArray} {b : Int} {f pos : Nat} {n : Int} {X : Int × Int} (hs : ¬ bz u pos = 59) (hd : ¬ b ≤ dig 16 (bz u pos)) (h : numFrom u b (f + 1) pos n = X) :
    numFrom u b f (pos + 1) (if n ≤ 1114111 then n * b + dig 16 (bz u pos) else n) = X := by
  subst h
  rw [numFrom.eq_2, if_neg hs, if_neg hd]
def num (u : ByteArray) (b : Int) : Int × Int := numFrom u b (u.size + 1) 0 0
theorem numFrom_may (u : ByteArray) (b : Int) : ∀ f pos n, (numFrom u b f pos n = (0, 0)) ∨ (may (numFrom u b f pos n).1 = true ∧ (pos : Int) + 1 ≤ (numFrom u b f pos n).2 ∧ (numFrom u b f pos n).2 ≤ u.size) := by
  intro f
  induction f with
  | zero => intro pos n; exact Or.inl rfl
  | succ f ih =>
    intro pos n
    unfold numFrom
    split
    · rename_i h
      have hp : pos < u.size := (bz_get (s := u) (i := pos) (by omega)).1
      split
      · exact Or.inr ⟨by assumption, by simp, by simp; omega⟩
      · exact Or.inl rfl
    · split
      · exact Or.inl rfl
      · rcases ih (pos + 1) (if n ≤ 1114111 then n * b + dig 16 (bz u pos) else n) with h | ⟨h1, h2, h3⟩
        · exact Or.inl h
        · exact Or.inr ⟨h1, by omega, h3⟩
end Go.Proofs.YtfolnkmbdmfigaaGreatDoor.Ch

namespace Go.Proofs.YtfolnkmbdmfigaaGreatDoor
open Go.RowKit
def numC (u : ByteArray) (b ahead : Int) : Int × Int := if (Ch.num u b).2 = 0 then (0, 0) else ((Ch.num u b).1, ahead + (Ch.num u b).2)
theorem numC_none {u : ByteArray} {b ahead : Int} (h : Ch.num u b = (0, 0)) : numC u b ahead = (0, 0) := by simp [numC, h]
theorem numC_some {u : ByteArray} {b ahead n : Int} {pos : Nat} (h : Ch.num u b = (n, (pos : Int) + 1)) : numC u b ahead = (n, ahead + pos + 1) := by
  have : ¬ ((pos : Int) + 1 = 0) := by omega
  simp [numC, h, this, Int.add_assoc]
theorem num_parts {u : ByteArray} {b n : Int} {f pos : Nat} {X : Int × Int} {c : Nat} (HC : Hid (Ch.numFrom u b (f + 1) pos n = X)) (HB : Hid (Ch.bz u pos = c)) (h : ¬ c = 59) :
    (b ≤ Ch.dig 16 c ∧ Hid (X = (0, 0))) ∨ (Ch.dig 16 c < b ∧ Hid (Ch.numFrom u b f (pos + 1) (if n ≤ 1114111 then n * b + Ch.dig 16 c else n) = X)) := by
  have hb := HB.out
  by_cases hd : b ≤ Ch.dig 16 c
  · exact Or.inl ⟨hd, Ch.num_no (by omega) (by rw [hb]; exact hd) HC.out⟩
  · refine Or.inr ⟨by omega, ?_⟩
    have := Ch.num_on (by omega) (by rw [hb]; exact hd) HC.out
    rw [hb] at this
    exact this
set_option maxHeartbeats 4000000 in
set_option maxRecDepth 1000000 in
theorem numbered_any (u : ByteArray) (b ahead : Int) (w : World) (hu : u.size ≤ 1125899906842624) (hb : b = 10 ∨ b = 16) (ha0 : 0 ≤ ahead) (ha1 : ahead ≤ 8) :
    Calls Tryz.prog 146 #[.string u, .int .i32 b, .int .i64 ahead] w fun e w' => e = .returned (.tuple #[.int .i32 (numC u b ahead).1, .int .i64 (numC u b ahead).2]) ∧ Below w.heap.size w w' := by
  rcases hb with rfl | rfl
  all_goals
    go_enter Tryz.func146, Tryz.ntmps146
    go_wp2
    go_loopw [8] (fun n w' => ∃ (pos fuel : Nat) (z : Int), w' = w.iter u pos ∧ n = .int .i32 z ∧ 0 ≤ z ∧ z ≤ 17825791 ∧ Hid (Ch.numFrom u _ fuel pos z = Ch.num u _) ∧ u.size < pos + fuel ∧ pos ≤ u.size) (fun _ w' => u.size - w'.iterPos w.heap.size)
    case atStart => exact ⟨0, u.size + 1, 0, rfl, rfl, by omega, by omega, rfl, by omega, by omega⟩
    case round =>
      obtain ⟨pos, fuel, z, rfl, rfl, hz0, hz1, HC, hf, hl⟩ := hrel
      obtain ⟨f, rfl⟩ : ∃ f, fuel = f + 1 := ⟨fuel - 1, by omega⟩
      by_cases hp : pos < u.size
      · have hnx0 := fun ty => run_next_any (P := Tryz.prog) w u pos ty hp
        rcases Ch.decode_byte u pos hp with ⟨h0, h1, hd⟩ | ⟨h0, h1⟩
        · obtain ⟨c, hc⟩ : ∃ c : Nat, Ch.bz u pos = c := ⟨(Ch.bz u pos).toNat, by omega⟩
          rw [hc] at hd h0 h1
          rw [Int.toNat_natCast] at hd
          rw [hd] at hnx0
          have hnx : ∀ ty, (Instr.next (.pointer (some ⟨w.heap.size, 0, none⟩)) true ty).run Tryz.prog (w.iter u pos) = .ok (.tuple #[.bool true, .int .i64 pos, .int .i32 c]) (w.iter u (pos + 1)) := hnx0
          clear hnx0 hd
          have HB := hide hc
          clear hc
          by_cases h59 : c = 59
          · have hq : ((c : Int) == 59) = true := by simp; omega
            have HN := hide (Ch.num_semi (by rw [HB.out]; omega) HC.out)
            cases hm : Ch.may z
            all_goals
              go_wp2_with (go_at_call 144; refine (character_any _ _).mono ?_; rintro e w' ⟨rfl, rfl⟩)
              go_ret2
              refine ⟨?_, below_iter w u _⟩
              have hn := HN.out
              rw [hm] at hn
              simp only [if_true, Bool.false_eq_true, if_false] at hn
              first
                | (rw [numC_none hn]; rfl)
                | (rw [numC_some hn]; rfl)
          · have hq : ((c : Int) == 59) = false := by simp; omega
            have hdb := Ch.dig_bd c
            rcases num_parts HC HB h59 with ⟨hge, HN⟩ | ⟨hge, HN⟩
            · go_wp2_with (go_at_call 156; refine (digitC_any _ _ (by omega) (by omega)).mono ?_; rintro e w' ⟨rfl, rfl⟩)
              go_ret2
              refine ⟨?_, below_iter w u _⟩
              rw [numC_none HN.out]; rfl
            · replace HN := HN.out
              by_cases hle : z ≤ 1114111
              · rw [if_pos hle] at HN
                have HN' := hide HN
                clear HN
                go_wp2_with (go_at_call 156; refine (digitC_any _ _ (by omega) (by omega)).mono ?_; rintro e w' ⟨rfl, rfl⟩)
                go_roundw
                case rel => exact ⟨pos + 1, f, _, rfl, rfl, by omega, by omega, HN', by omega, by omega⟩
                case measure => simp; omega
              · rw [if_neg hle] at HN
                have HN' := hide HN
                clear HN
                go_wp2_with (go_at_call 156; refine (digitC_any _ _ (by omega) (by omega)).mono ?_; rintro e w' ⟨rfl, rfl⟩)
                go_roundw
                case rel => exact ⟨pos + 1, f, _, rfl, rfl, by omega, by omega, HN', by omega, by omega⟩
                case measure => simp; omega
        · have hd1 := decode_le u pos
          have hwd := Ch.decode_width u pos hp
          have hnx : ∀ ty, (Instr.next (.pointer (some ⟨w.heap.size, 0, none⟩)) true ty).run Tryz.prog (w.iter u pos) = _ := hnx0
          have hq : (((Utf8.decode u pos).1 : Int) == 59) = false := by simp; omega
          have hdg : Ch.dig 16 ((Utf8.decode u pos).1 : Int) = 16 := Ch.dig_high (by omega) 16
          have HN := hide (Ch.num_no (by omega) (by rw [Ch.dig_high h0 16]; decide) HC.out)
          go_wp2_with (go_at_call 156; refine (digitC_any _ _ (by omega) (by omega)).mono ?_; rintro e w' ⟨rfl, rfl⟩; rw [hdg])
          go_ret2
          refine ⟨?_, below_iter w u _⟩
          rw [numC_none HN.out]; rfl
      · have hnx : ∀ ty, (Instr.next (.pointer (some ⟨w.heap.size, 0, none⟩)) true ty).run Tryz.prog (w.iter u pos) = _ := fun ty => run_next_end w u pos ty hp
        go_wp2
        go_ret2
        refine ⟨?_, below_iter w u _⟩
        rw [numC_none (Ch.num_end (by decide) hp HC.out)]; rfl
end Go.Proofs.YtfolnkmbdmfigaaGreatDoor

namespace Go.Proofs.YtfolnkmbdmfigaaGreatDoor.Ch
open Go
def tail (s : ByteArray) (k : Nat) : ByteArray := ⟨(s.data.toList.drop k).toArray⟩
theorem tail_size (s : ByteArray) (k : Nat) : (tail s k).size = s.size - k := by
  show (tail s k).data.size = s.data.size - k
  simp [tail]
theorem tail_bz (s : ByteArray) (k j : Nat) : bz (tail s k) j = bz s (k + j) := by
  unfold bz
  rw [tail_size]
  by_cases h : k + j < s.size
  · have h1 : j < s.size - k := by omega
    have h2 : j < (tail s k).size := by rw [tail_size]; exact h1
    rw [if_pos h1, if_pos h]
    have e1 : (tail s k).get! j = (tail s k).data.toList[j]'(by simpa using h2) := by
      have : (tail s k).get! j = (tail s k)[j] := by simp [ByteArray.get!, h2]; rfl
      rw [this]; rfl
    have e2 : s.get! (k + j) = s.data.toList[k + j]'(by simpa using h) := by
      have : s.get! (k + j) = s[k + j] := by simp [ByteArray.get!, h]; rfl
      rw [this]; rfl
    rw [e1, e2]
    simp [tail]
  · rw [if_neg (by omega), if_neg h]
theorem tail_extract (s : ByteArray) (k : Nat) : s.extract k s.size = tail s k := by
  apply ByteArray.ext
  apply Array.toList_inj.1
  rw [extract_list]
  simp [tail]
theorem tail_tail (s : ByteArray) (k j : Nat) : tail (tail s k) j = tail s (k + j) := by
  apply ByteArray.ext
  apply Array.toList_inj.1
  simp [tail]
theorem tail_has (s : ByteArray) (k : Nat) (l : List UInt8) : ∀ i, has (tail s k) i l = has s (k + i) l := by
  induction l with
  | nil => intro i; rfl
  | cons c l ih => intro i; simp only [has, tail_bz, ih, Nat.add_assoc]
theorem tail_num (s : ByteArray) (b : Int) (k : Nat) : ∀ f pos n, numFrom (tail s k) b f pos n = if (numFrom s b f (k + pos) n).2 = 0 then (0, 0) else ((numFrom s b f (k + pos) n).1, (numFrom s b f (k + pos) n).2 - k) := by
  intro f
  induction f with
  | zero => intro pos n; rfl
  | succ f ih =>
    intro pos n
    rw [numFrom.eq_2, numFrom.eq_2, tail_bz]
    split
    · split
      · have : ¬ (((k + pos : Nat) : Int) + 1 = 0) := by omega
        simp only [this, if_false]
        congr 1
        omega
      · rfl
    · split
      · rfl
      · rw [ih]; rfl
def numAt (s : ByteArray) (p : Nat) (b : Int) : Int × Int := if (numFrom s b (s.size - p + 1) p 0).2 = 0 then (0, 0) else ((numFrom s b (s.size - p + 1) p 0).1, (numFrom s b (s.size - p + 1) p 0).2 - p)
theorem numAt_zero (s : ByteArray) (b : Int) : numAt s 0 b = num s b := by
  unfold numAt num
  simp only [Nat.sub_zero, Int.ofNat_zero, Int.sub_zero]
  split
  · rcases numFrom_may s b (s.size + 1) 0 0 with h | ⟨_, h, _⟩
    · rw [h]
    · omega
  · rfl
theorem numAt_tail (s : ByteArray) (k p : Nat) (b : Int) : numAt (tail s k) p b = numAt s (k + p) b := by
  unfold numAt
  rw [tail_size, tail_num, show s.size - k - p + 1 = s.size - (k + p) + 1 by omega]
  rcases numFrom_may s b (s.size - (k + p) + 1) (k + p) 0 with h | ⟨_, h, _⟩
  · rw [h]; rfl
  · have h1 : ¬ (numFrom s b (s.size - (k + p) + 1) (k + p) 0).2 = 0 := by omega
    simp only [h1, if_false]
    have h2 : ¬ (numFrom s b (s.size - (k + p) + 1) (k + p) 0).2 - (k : Int) = 0 := by omega
    simp only [h2, if_false]
    congr 1
    omega
def refAt (s : ByteArray) (i : Nat) : Int × Int :=
  if has s i [38, 108, 116, 59] = true then (60, 4) else if has s i [38, 103, 116, 59] = true then (62, 4) else if has s i [38, 97, 109, 112, 59] = true then (38, 5)
  else if has s i [38, 113, 117, 111, 116, 59] = true then (34, 6) else if has s i [38, 97, 112, 111, 115, 59] = true then (39, 6)
  else if has s i [38, 35, 120] = true then (if (numAt s (i + 3) 16).2 = 0 then (0, 0) else ((numAt s (i + 3) 16).1, 3 + (numAt s (i + 3) 16).2))
  else if has s i [38, 35] = true then (if (numAt s (i + 2) 10).2 = 0 then (0, 0) else ((numAt s (i + 2) 10).1, 2 + (numAt s (i + 2) 10).2))
  else (0, 0)
theorem refAt_tail (s : ByteArray) (k : Nat) : refAt (tail s k) 0 = refAt s k := by
  simp only [refAt, tail_has, numAt_tail, Nat.add_zero, Nat.zero_add]
end Go.Proofs.YtfolnkmbdmfigaaGreatDoor.Ch

namespace Go.Proofs.YtfolnkmbdmfigaaGreatDoor
open Go.RowKit
def tab : Array Value := #[.string ⟨#[38, 108, 116, 59]⟩, .int .i32 60, .string ⟨#[38, 103, 116, 59]⟩, .int .i32 62, .string ⟨#[38, 97, 109, 112, 59]⟩, .int .i32 38, .string ⟨#[38, 113, 117, 111, 116, 59]⟩, .int .i32 34, .string ⟨#[38, 97, 112, 111, 115, 59]⟩, .int .i32 39]
def Tab (w : World) : Prop := ∃ t fr, w.heap[2]? = some (.cells tab t fr)
def nm : Nat → List UInt8
  | 0 => [38, 108, 116, 59]
  | 1 => [38, 103, 116, 59]
  | 2 => [38, 97, 109, 112, 59]
  | 3 => [38, 113, 117, 111, 116, 59]
  | _ => [38, 97, 112, 111, 115, 59]
theorem idx0 (w : World) : (Instr.index 197 (.agg tab) (.int .i64 0)).run Tryz.prog w = .ok (.agg #[.string ⟨#[38, 108, 116, 59]⟩, .int .i32 60]) w := by kernel_rfl
theorem idx1 (w : World) : (Instr.index 197 (.agg tab) (.int .i64 1)).run Tryz.prog w = .ok (.agg #[.string ⟨#[38, 103, 116, 59]⟩, .int .i32 62]) w := by kernel_rfl
theorem idx2 (w : World) : (Instr.index 197 (.agg tab) (.int .i64 2)).run Tryz.prog w = .ok (.agg #[.string ⟨#[38, 97, 109, 112, 59]⟩, .int .i32 38]) w := by kernel_rfl
theorem idx3 (w : World) : (Instr.index 197 (.agg tab) (.int .i64 3)).run Tryz.prog w = .ok (.agg #[.string ⟨#[38, 113, 117, 111, 116, 59]⟩, .int .i32 34]) w := by kernel_rfl
theorem idx4 (w : World) : (Instr.index 197 (.agg tab) (.int .i64 4)).run Tryz.prog w = .ok (.agg #[.string ⟨#[38, 97, 112, 111, 115, 59]⟩, .int .i32 39]) w := by kernel_rfl
theorem hasPrefix_zero (u : ByteArray) (l : List UInt8) : Lib.hasPrefix u.data.toList l = Ch.has u 0 l := by
  rw [Lib.hasPrefix, ← Ch.prefix_has u l 0]; rfl
theorem below_drews {B : Nat} {a w : World} (h : Below B a w) (n : Nat) : Below B a (w.drewN n) := h.trans ⟨rfl, rfl, rfl, Nat.le_refl _, fun _ _ => rfl⟩
theorem no_step {u : ByteArray} {m : Nat} (h : Hid (∀ j, j < m → Ch.has u 0 (nm j) = false)) (hb : Ch.has u 0 (nm m) = false) : ∀ j, j < m + 1 → Ch.has u 0 (nm j) = false := by
  intro j hj
  by_cases e : j = m
  · rw [e]; exact hb
  · exact h.out j (by omega)
theorem cutPrefix_any (u : ByteArray) (a : Array UInt8) (w : World) (b : Bool) (h : Ch.has u 0 a.toList = b) :
    Calls Tryz.prog 145 #[.string u, .string ⟨a⟩] w fun e w' => e = .returned (.tuple #[.string (if b = true then Ch.tail u a.toList.length else u), .bool b]) ∧ w' = w := by
  refine (Tryz.strings_CutPrefix u ⟨a⟩ w).mono ?_
  rintro e w' ⟨rfl, rfl⟩
  have hp := hasPrefix_zero u a.toList
  rw [h] at hp
  refine ⟨?_, rfl⟩
  cases b
  · simp [Lib.trimPrefix, hp]
  · simp [Lib.trimPrefix, hp, Ch.tail]
theorem cut_yes (u : ByteArray) (a : Array UInt8) (w : World) (h : Ch.has u 0 a.toList = true) :
    Calls Tryz.prog 145 #[.string u, .string ⟨a⟩] w fun e w' => e = .returned (.tuple #[.string (Ch.tail u a.toList.length), .bool true]) ∧ w' = w :=
  cutPrefix_any u a w true h
theorem cut_no (u : ByteArray) (a : Array UInt8) (w : World) (h : Ch.has u 0 a.toList = false) :
    Calls Tryz.prog 145 #[.string u, .string ⟨a⟩] w fun e w' => e = .returned (.tuple #[.string u, .bool false]) ∧ w' = w :=
  cutPrefix_any u a w false h
theorem numC_at (u : ByteArray) (k : Nat) (b ahead : Int) : numC (Ch.tail u k) b ahead = if (Ch.numAt u k b).2 = 0 then (0, 0) else ((Ch.numAt u k b).1, ahead + (Ch.numAt u k b).2) := by
  unfold numC
  rw [← Ch.numAt_zero, Ch.numAt_tail, Nat.add_zero]
theorem ref_hex {u : ByteArray} (h : ∀ j, j < 5 → Ch.has u 0 (nm j) = false) (hb : Ch.has u 0 [38, 35, 120] = true) : Ch.refAt u 0 = numC (Ch.tail u 3) 16 3 := by
  have h0 := h 0 (by omega); have h1 := h 1 (by omega); have h2 := h 2 (by omega); have h3 := h 3 (by omega); have h4 := h 4 (by omega)
  simp only [nm] at h0 h1 h2 h3 h4
  rw [numC_at]
  simp [Ch.refAt, h0, h1, h2, h3, h4, hb]
theorem ref_dec {u : ByteArray} (h : ∀ j, j < 5 → Ch.has u 0 (nm j) = false) (hb : Ch.has u 0 [38, 35, 120] = false) (hc : Ch.has u 0 [38, 35] = true) : Ch.refAt u 0 = numC (Ch.tail u 2) 10 2 := by
  have h0 := h 0 (by omega); have h1 := h 1 (by omega); have h2 := h 2 (by omega); have h3 := h 3 (by omega); have h4 := h 4 (by omega)
  simp only [nm] at h0 h1 h2 h3 h4
  rw [numC_at]
  simp [Ch.refAt, h0, h1, h2, h3, h4, hb, hc]
theorem ref_none {u : ByteArray} (h : ∀ j, j < 5 → Ch.has u 0 (nm j) = false) (hb : Ch.has u 0 [38, 35, 120] = false) (hc : Ch.has u 0 [38, 35] = false) : Ch.refAt u 0 = (0, 0) := by
  have h0 := h 0 (by omega); have h1 := h 1 (by omega); have h2 := h 2 (by omega); have h3 := h 3 (by omega); have h4 := h 4 (by omega)
  simp only [nm] at h0 h1 h2 h3 h4
  simp [Ch.refAt, h0, h1, h2, h3, h4, hb, hc]
def nmOf : Nat → Int × Int
  | 0 => (60, 4)
  | 1 => (62, 4)
  | 2 => (38, 5)
  | 3 => (34, 6)
  | _ => (39, 6)
theorem ref_named {u : ByteArray} {m : Nat} (hm : m < 5) (h : ∀ j, j < m → Ch.has u 0 (nm j) = false) (hb : Ch.has u 0 (nm m) = true) : Ch.refAt u 0 = nmOf m := by
  have hcs : m = 0 ∨ m = 1 ∨ m = 2 ∨ m = 3 ∨ m = 4 := by omega
  rcases hcs with rfl | rfl | rfl | rfl | rfl
  · simp only [nm] at hb
    simp [Ch.refAt, hb, nmOf]
  · have h0 := h 0 (by omega)
    simp only [nm] at hb h0
    simp [Ch.refAt, hb, nmOf, h0]
  · have h0 := h 0 (by omega); have h1 := h 1 (by omega)
    simp only [nm] at hb h0 h1
    simp [Ch.refAt, hb, nmOf, h0, h1]
  · have h0 := h 0 (by omega); have h1 := h 1 (by omega); have h2 := h 2 (by omega)
    simp only [nm] at hb h0 h1 h2
    simp [Ch.refAt, hb, nmOf, h0, h1, h2]
  · have h0 := h 0 (by omega); have h1 := h 1 (by omega); have h2 := h 2 (by omega); have h3 := h 3 (by omega)
    simp only [nm] at hb h0 h1 h2 h3
    simp [Ch.refAt, hb, nmOf, h0, h1, h2, h3]
set_option maxHeartbeats 4000000 in
set_option maxRecDepth 1000000 in
theorem reference_any (u : ByteArray) (w : World) (hu : u.size ≤ 1125899906842624) (hT : Tab w) :
    Calls Tryz.prog 118 #[.string u] w fun e w' => e = .returned (.tuple #[.int .i32 (Ch.refAt u 0).1, .int .i64 (Ch.refAt u 0).2]) ∧ Below w.heap.size w w' := by
  obtain ⟨tt, fr, hg⟩ := hT
  go_enter Tryz.func118, Tryz.ntmps118
  go_wp2_with (refine wpList_load_row rfl 197 _ rfl 2 rfl tt _ fr _ hg Tryz.underlying197 rfl (by kernel_rfl) ?_)
  go_loopw [11] (fun k wr => ∃ m : Nat, m ≤ 5 ∧ k = .int .i64 m ∧ Below w.heap.size w wr ∧ Hid (∀ j, j < m → Ch.has u 0 (nm j) = false)) (fun k _ => 5 - (intOf k).toNat)
  case atStart => exact ⟨0, by omega, rfl, Below.refl _ _, fun j h => by omega⟩
  case round =>
    obtain ⟨m, hm, rfl, hbw, HNO⟩ := hrel
    have hcs : m = 0 ∨ m = 1 ∨ m = 2 ∨ m = 3 ∨ m = 4 ∨ m = 5 := by omega
    rcases hcs with rfl | rfl | rfl | rfl | rfl | rfl
    rotate_right
    · cases hb : Ch.has u 0 [38, 35, 120]
      · cases hc : Ch.has u 0 [38, 35]
        · have HR := hide (ref_none HNO.out hb hc)
          go_wp2_with (first | (go_at_call_of 145 (Value.string { data := #[38, 35, 120] }); refine (cut_no u #[38, 35, 120] _ hb).mono ?_; rintro e w' ⟨rfl, rfl⟩) | (go_at_call 145; refine (cut_no u #[38, 35] _ hc).mono ?_; rintro e w' ⟨rfl, rfl⟩))
          go_ret2
          refine ⟨?_, hbw⟩
          rw [HR.out]; rfl
        · have HR := hide (ref_dec HNO.out hb hc)
          have hts : (Ch.tail u 2).size ≤ 1125899906842624 := by rw [Ch.tail_size]; omega
          go_wp2_with (first | (go_at_call_of 145 (Value.string { data := #[38, 35, 120] }); refine (cut_no u #[38, 35, 120] _ hb).mono ?_; rintro e w' ⟨rfl, rfl⟩) | (go_at_call 145; refine (cut_yes u #[38, 35] _ hc).mono ?_; rintro e w' ⟨rfl, rfl⟩) | (go_at_call 146; refine (numbered_any (Ch.tail u 2) 10 2 _ hts (Or.inl rfl) (by decide) (by decide)).mono ?_; rintro e w1 ⟨rfl, hb1⟩))
          go_ret2
          refine ⟨?_, hbw.trans (hb1.mono hbw.size)⟩
          rw [HR.out]; rfl
      · have HR := hide (ref_hex HNO.out hb)
        have hts : (Ch.tail u 3).size ≤ 1125899906842624 := by rw [Ch.tail_size]; omega
        go_wp2_with (first | (go_at_call_of 145 (Value.string { data := #[38, 35, 120] }); refine (cut_yes u #[38, 35, 120] _ hb).mono ?_; rintro e w' ⟨rfl, rfl⟩) | (go_at_call 146; refine (numbered_any (Ch.tail u 3) 16 3 _ hts (Or.inr rfl) (by decide) (by decide)).mono ?_; rintro e w1 ⟨rfl, hb1⟩))
        go_ret2
        refine ⟨?_, hbw.trans (hb1.mono hbw.size)⟩
        rw [HR.out]; rfl
    · have hi := idx0
      have hpf := hasPrefix_zero u [38, 108, 116, 59]
      cases hb : Ch.has u 0 [38, 108, 116, 59]
      · rw [hb] at hpf
        go_wp2_with (go_at_call 143; refine (Tryz.strings_HasPrefix _ _ _).mono ?_; rintro e w' ⟨rfl, rfl⟩)
        exact ⟨⟨1, by omega, rfl, hbw.alloc hbw.size _, no_step HNO hb⟩, by decide⟩
      · rw [hb] at hpf
        have HR := hide (ref_named (m := 0) (by omega) HNO.out hb)
        go_wp2_with (go_at_call 143; refine (Tryz.strings_HasPrefix _ _ _).mono ?_; rintro e w' ⟨rfl, rfl⟩)
        go_quiet (fail)
        go_wp2
        go_ret2
        refine ⟨?_, below_drews (hbw.alloc hbw.size _) _⟩
        rw [HR.out]; rfl
    · have hi := idx1
      have hpf := hasPrefix_zero u [38, 103, 116, 59]
      cases hb : Ch.has u 0 [38, 103, 116, 59]
      · rw [hb] at hpf
        go_wp2_with (go_at_call 143; refine (Tryz.strings_HasPrefix _ _ _).mono ?_; rintro e w' ⟨rfl, rfl⟩)
        exact ⟨⟨2, by omega, rfl, hbw.alloc hbw.size _, no_step HNO hb⟩, by decide⟩
      · rw [hb] at hpf
        have HR := hide (ref_named (m := 1) (by omega) HNO.out hb)
        go_wp2_with (go_at_call 143; refine (Tryz.strings_HasPrefix _ _ _).mono ?_; rintro e w' ⟨rfl, rfl⟩)
        go_quiet (fail)
        go_wp2
        go_ret2
        refine ⟨?_, below_drews (hbw.alloc hbw.size _) _⟩
        rw [HR.out]; rfl
    · have hi := idx2
      have hpf := hasPrefix_zero u [38, 97, 109, 112, 59]
      cases hb : Ch.has u 0 [38, 97, 109, 112, 59]
      · rw [hb] at hpf
        go_wp2_with (go_at_call 143; refine (Tryz.strings_HasPrefix _ _ _).mono ?_; rintro e w' ⟨rfl, rfl⟩)
        exact ⟨⟨3, by omega, rfl, hbw.alloc hbw.size _, no_step HNO hb⟩, by decide⟩
      · rw [hb] at hpf
        have HR := hide (ref_named (m := 2) (by omega) HNO.out hb)
        go_wp2_with (go_at_call 143; refine (Tryz.strings_HasPrefix _ _ _).mono ?_; rintro e w' ⟨rfl, rfl⟩)
        go_quiet (fail)
        go_wp2
        go_ret2
        refine ⟨?_, below_drews (hbw.alloc hbw.size _) _⟩
        rw [HR.out]; rfl
    · have hi := idx3
      have hpf := hasPrefix_zero u [38, 113, 117, 111, 116, 59]
      cases hb : Ch.has u 0 [38, 113, 117, 111, 116, 59]
      · rw [hb] at hpf
        go_wp2_with (go_at_call 143; refine (Tryz.strings_HasPrefix _ _ _).mono ?_; rintro e w' ⟨rfl, rfl⟩)
        exact ⟨⟨4, by omega, rfl, hbw.alloc hbw.size _, no_step HNO hb⟩, by decide⟩
      · rw [hb] at hpf
        have HR := hide (ref_named (m := 3) (by omega) HNO.out hb)
        go_wp2_with (go_at_call 143; refine (Tryz.strings_HasPrefix _ _ _).mono ?_; rintro e w' ⟨rfl, rfl⟩)
        go_quiet (fail)
        go_wp2
        go_ret2
        refine ⟨?_, below_drews (hbw.alloc hbw.size _) _⟩
        rw [HR.out]; rfl
    · have hi := idx4
      have hpf := hasPrefix_zero u [38, 97, 112, 111, 115, 59]
      cases hb : Ch.has u 0 [38, 97, 112, 111, 115, 59]
      · rw [hb] at hpf
        go_wp2_with (go_at_call 143; refine (Tryz.strings_HasPrefix _ _ _).mono ?_; rintro e w' ⟨rfl, rfl⟩)
        exact ⟨⟨5, by omega, rfl, hbw.alloc hbw.size _, no_step HNO hb⟩, by decide⟩
      · rw [hb] at hpf
        have HR := hide (ref_named (m := 4) (by omega) HNO.out hb)
        go_wp2_with (go_at_call 143; refine (Tryz.strings_HasPrefix _ _ _).mono ?_; rintro e w' ⟨rfl, rfl⟩)
        go_quiet (fail)
        go_wp2
        go_ret2
        refine ⟨?_, below_drews (hbw.alloc hbw.size _) _⟩
        rw [HR.out]; rfl
end Go.Proofs.YtfolnkmbdmfigaaGreatDoor
