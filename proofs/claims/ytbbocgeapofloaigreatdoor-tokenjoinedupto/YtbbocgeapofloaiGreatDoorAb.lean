import Derived.Shelf.Small.Wraps
import Derived.Shelf.Strings.BuilderK
import Derived.Shelf.Strings.BuilderRune
import Derived.Shelf.Strings.Prefix
import Derived.Shelf.Unicode.DecodeAny
import Derived.WalkKit
import Derived.WalkSpells
import Derived.Outline
import Derived.BigCall
import Derived.Test.YtbbocgeapofloaiGreatDoorProg
import Derived.Test.YtbbocgeapofloaiGreatDoorAa
set_option linter.unusedVariables false
set_option linter.unusedSimpArgs false
namespace Go.Proofs
open Go.Shelf
def Tryz.lays169_ren : Go.Shelf.Ren := ⟨fun | 169 => 82 | n => n, fun | 70 => 121 | 9 => 9 | 0 => 0 | 72 => 123 | 37 => 53 | 127 => 152 | 3 => 3 | 5 => 5 | n => n, fun | n => n⟩
theorem Tryz.lays169 : Go.Proofs.Lays.n169 Tryz.prog Tryz.lays169_ren := {
  mixed := by kernel_rfl
  f169 := Tryz.func82.trans (congrArg some (by kernel_rfl))
  t0 := Tryz.underlying0
  a0 := Tryz.isAgg0
  z0 := Tryz.sizeOf0
  v0 := Tryz.zeroValue0
  t3 := Tryz.underlying3
  a3 := Tryz.isAgg3
  z3 := Tryz.sizeOf3
  v3 := Tryz.zeroValue3
  t9 := Tryz.underlying9
  a9 := Tryz.isAgg9
  z9 := Tryz.sizeOf9
  v9 := Tryz.zeroValue9
  t37 := Tryz.underlying53
  a37 := Tryz.isAgg53
  z37 := Tryz.sizeOf53
  v37 := Tryz.zeroValue53
  t70 := Tryz.underlying121
  a70 := Tryz.isAgg121
  z70 := Tryz.sizeOf121
  v70 := Tryz.zeroValue121
  t72 := Tryz.underlying123
  a72 := Tryz.isAgg123
  z72 := Tryz.sizeOf123
  v72 := Tryz.zeroValue123
  t127 := Tryz.underlying152
  a127 := Tryz.isAgg152
  z127 := Tryz.sizeOf152
  v127 := Tryz.zeroValue152 }
theorem Tryz.Builder_Extra_169 : Builder.Extra Tryz.prog Tryz.lays169_ren := {
  sizeBuilder := by kernel_rfl
  liesBuilder := by kernel_rfl
  t5 := Tryz.underlying5
  a5 := Tryz.isAgg5
  z5 := Tryz.sizeOf5
  v5 := Tryz.zeroValue5
  infoByte := by kernel_rfl
  cellsByte := by kernel_rfl
  sizeByte := by kernel_rfl
  neB5 := by decide }
open Go.RowKit in
theorem Tryz.Builder_String_any_k (B b : Nat) (l : List UInt8) (w : World) (h : Lib.IsBuilderF 123 5 B b (Lib.byteCells l) w) (hBw : B ≤ w.heap.size) :
    Calls Tryz.prog 82 #[.pointer (some ⟨b, 0, none⟩)] w fun e w' => e = .returned (.string ⟨l.toArray⟩) ∧ (Lib.IsBuilderF 123 5 B b (Lib.byteCells l) w' ∧ Below B w w' ∧ Lib.OthersKept 5 (some b) w w') := Any.Builder_String_any_k Tryz.lays169 Tryz.Builder_Extra_169 B b l w h hBw
def Tryz.lays103_ren : Go.Shelf.Ren := ⟨fun | 103 => 101 | 210 => 109 | 206 => 108 | n => n, fun | 9 => 9 | 4 => 4 | 24 => 149 | 3 => 3 | n => n, fun | n => n⟩
theorem Tryz.lays103 : Go.Proofs.Lays.n103 Tryz.prog Tryz.lays103_ren := {
  mixed := by kernel_rfl
  f103 := Tryz.func101.trans (congrArg some (by kernel_rfl))
  f206 := Tryz.func108.trans (congrArg some (by kernel_rfl))
  f210 := Tryz.func109.trans (congrArg some (by kernel_rfl))
  t3 := Tryz.underlying3
  a3 := Tryz.isAgg3
  z3 := Tryz.sizeOf3
  v3 := Tryz.zeroValue3
  t4 := Tryz.underlying4
  a4 := Tryz.isAgg4
  z4 := Tryz.sizeOf4
  v4 := Tryz.zeroValue4
  t9 := Tryz.underlying9
  a9 := Tryz.isAgg9
  z9 := Tryz.sizeOf9
  v9 := Tryz.zeroValue9
  t24 := Tryz.underlying149
  a24 := Tryz.isAgg149
  z24 := Tryz.sizeOf149
  v24 := Tryz.zeroValue149 }
open Go.RowKit in
theorem Tryz.strings_CutPrefix (s p : ByteArray) (w : World) :
    Calls Tryz.prog 101 #[.string s, .string p] w fun e w' => e = .returned (.tuple #[.string ⟨(Lib.trimPrefix s.data.toList p.data.toList).toArray⟩, .bool (Lib.hasPrefix s.data.toList p.data.toList)]) ∧ w' = w := Any.strings_CutPrefix Tryz.lays103 s p w
def Tryz.lays99_ren : Go.Shelf.Ren := ⟨fun | 99 => 99 | 206 => 108 | n => n, fun | 9 => 9 | 4 => 4 | 3 => 3 | n => n, fun | n => n⟩
theorem Tryz.lays99 : Go.Proofs.Lays.n99 Tryz.prog Tryz.lays99_ren := {
  mixed := by kernel_rfl
  f99 := Tryz.func99.trans (congrArg some (by kernel_rfl))
  f206 := Tryz.func108.trans (congrArg some (by kernel_rfl))
  t3 := Tryz.underlying3
  a3 := Tryz.isAgg3
  z3 := Tryz.sizeOf3
  v3 := Tryz.zeroValue3
  t4 := Tryz.underlying4
  a4 := Tryz.isAgg4
  z4 := Tryz.sizeOf4
  v4 := Tryz.zeroValue4
  t9 := Tryz.underlying9
  a9 := Tryz.isAgg9
  z9 := Tryz.sizeOf9
  v9 := Tryz.zeroValue9 }
open Go.RowKit Go.Lib in
theorem Tryz.strings_HasPrefix (s p : ByteArray) (w : World) :
    Calls Tryz.prog 99 #[.string s, .string p] w fun e w' => e = .returned (.bool (Lib.hasPrefix s.data.toList p.data.toList)) ∧ w' = w := Any.strings_HasPrefix Tryz.lays99 s p w
def Tryz.lays197_ren : Go.Shelf.Ren := ⟨fun | 197 => 85 | 260 => 104 | n => n, fun | 9 => 9 | 21 => 21 | 3 => 3 | 4 => 4 | 5 => 5 | 105 => 125 | 119 => 154 | 0 => 0 | 46 => 153 | 139 => 157 | 138 => 156 | n => n, fun | 3 => 3 | 4 => 4 | n => n⟩
theorem Tryz.lays197 : Go.Proofs.Lays.n197 Tryz.prog Tryz.lays197_ren := {
  mixed := by kernel_rfl
  f197 := Tryz.func85.trans (congrArg some (by kernel_rfl))
  f260 := Tryz.func104.trans (congrArg some (by kernel_rfl))
  t0 := Tryz.underlying0
  a0 := Tryz.isAgg0
  z0 := Tryz.sizeOf0
  v0 := Tryz.zeroValue0
  t3 := Tryz.underlying3
  a3 := Tryz.isAgg3
  z3 := Tryz.sizeOf3
  v3 := Tryz.zeroValue3
  t4 := Tryz.underlying4
  a4 := Tryz.isAgg4
  z4 := Tryz.sizeOf4
  v4 := Tryz.zeroValue4
  t5 := Tryz.underlying5
  a5 := Tryz.isAgg5
  z5 := Tryz.sizeOf5
  v5 := Tryz.zeroValue5
  t9 := Tryz.underlying9
  a9 := Tryz.isAgg9
  z9 := Tryz.sizeOf9
  v9 := Tryz.zeroValue9
  t21 := Tryz.underlying21
  a21 := Tryz.isAgg21
  z21 := Tryz.sizeOf21
  v21 := Tryz.zeroValue21
  t46 := Tryz.underlying153
  a46 := Tryz.isAgg153
  z46 := Tryz.sizeOf153
  v46 := Tryz.zeroValue153
  t105 := Tryz.underlying125
  a105 := Tryz.isAgg125
  z105 := Tryz.sizeOf125
  v105 := Tryz.zeroValue125
  t119 := Tryz.underlying154
  a119 := Tryz.isAgg154
  z119 := Tryz.sizeOf154
  t138 := Tryz.underlying156
  a138 := Tryz.isAgg156
  z138 := Tryz.sizeOf156
  v138 := Tryz.zeroValue156
  t139 := Tryz.underlying157
  a139 := Tryz.isAgg157
  z139 := Tryz.sizeOf157
  v139 := Tryz.zeroValue157
  g3 := by kernel_rfl
  g4 := by kernel_rfl }
open Go.RowKit Go.Lib in
theorem Tryz.utf8_DecodeRuneInString (s : ByteArray) (w : World) (hT : Lib.Utf8Tabs 3 4 w) :
    Calls Tryz.prog 85 #[.string s] w fun e w' => e = .returned (.tuple #[.int .i32 (Lib.decodeGo s).1, .int .i64 (Lib.decodeGo s).2]) ∧ Below w.heap.size w w' := Any.utf8_DecodeRuneInString Tryz.lays197 s w hT
def Tryz.lays242_ren : Go.Shelf.Ren := ⟨fun | 242 => 50 | 278 => 83 | n => n, fun | 37 => 53 | 21 => 21 | 51 => 129 | 4 => 4 | 5 => 5 | 46 => 153 | 72 => 123 | n => n, fun | n => n⟩
theorem Tryz.lays242 : Go.Proofs.Lays.n242 Tryz.prog Tryz.lays242_ren := {
  mixed := by kernel_rfl
  f242 := Tryz.func50.trans (congrArg some (by kernel_rfl))
  f278 := Tryz.func83.trans (congrArg some (by kernel_rfl))
  t4 := Tryz.underlying4
  a4 := Tryz.isAgg4
  z4 := Tryz.sizeOf4
  v4 := Tryz.zeroValue4
  t5 := Tryz.underlying5
  a5 := Tryz.isAgg5
  z5 := Tryz.sizeOf5
  v5 := Tryz.zeroValue5
  t21 := Tryz.underlying21
  a21 := Tryz.isAgg21
  z21 := Tryz.sizeOf21
  v21 := Tryz.zeroValue21
  t37 := Tryz.underlying53
  a37 := Tryz.isAgg53
  z37 := Tryz.sizeOf53
  v37 := Tryz.zeroValue53
  t46 := Tryz.underlying153
  a46 := Tryz.isAgg153
  z46 := Tryz.sizeOf153
  v46 := Tryz.zeroValue153
  t51 := Tryz.underlying129
  a51 := Tryz.isAgg129
  z51 := Tryz.sizeOf129
  v51 := Tryz.zeroValue129 }
theorem Tryz.Builder_Extra_242 : Builder.Extra Tryz.prog Tryz.lays242_ren where
  sizeBuilder := by kernel_rfl
  liesBuilder := by kernel_rfl
  t5 := Tryz.underlying5
  a5 := Tryz.isAgg5
  z5 := Tryz.sizeOf5
  v5 := Tryz.zeroValue5
  infoByte := by kernel_rfl
  cellsByte := by kernel_rfl
  sizeByte := by kernel_rfl
  neB5 := by decide
theorem Tryz.utf8_AppendRune_own (B : Nat) (v : Value) (n : Nat) (xs : List Value) (r : Int) (hr0 : -2147483648 ≤ r) (hr1 : r ≤ 2147483647) (w : World) (hown : w.ownsRowF B 5 1 v n xs) (hlen : n + 4 ≤ 140737488355328) (hBw : B ≤ w.heap.size) :
    Calls Tryz.prog 50 #[v, .int .i32 r] w fun e w' => ∃ v', e = .returned v' ∧ w'.ownsRowF B 5 1 v' (n + (Lib.runeCells r).length) (xs ++ Lib.runeCells r) ∧ ∃ o, (w.alloc o).grownBy w' v.ownBlock :=
  Any.utf8_AppendRune_own Tryz.lays242 Tryz.Builder_Extra_242 B v n xs r hr0 hr1 w hown hlen hBw
end Go.Proofs
namespace Go.Proofs.YtbbocgeapofloaiGreatDoor
open Go.RowKit

theorem ret_bool {a b : Bool} (h : a = b) : Ending.returned (.bool a) = .returned (.bool b) := by rw [h]
theorem ret_int {k : IntKind} {a b : Int} (h : a = b) : Ending.returned (.int k a) = .returned (.int k b) := by rw [h]
set_option maxHeartbeats 400000 in
theorem character_any (r : Int) (w : World) :
    Calls Tryz.prog 100 #[.int .i32 r] w fun e w' => e = .returned (.bool (Ch.may r)) ∧ w' = w := by
  go_enter Tryz.func100, Tryz.ntmps100
  go_wp2
  all_goals go_ret
  all_goals refine ⟨ret_bool ?_, rfl⟩
  all_goals try simp only [beq_iff_eq, beq_eq_false_iff_ne, ne_eq] at *
  all_goals rw [Bool.eq_iff_iff, Ch.may_iff]
  all_goals first | omega | (simp; done) | (simp; omega)

set_option maxHeartbeats 400000 in
theorem May_any (r : Int) (w : World) :
    Calls Tryz.prog 66 #[.int .i64 r] w fun e w' => e = .returned (.bool (Ch.may r)) ∧ w' = w := by
  go_enter Tryz.func66, Tryz.ntmps66
  go_wp2
  all_goals go_ret
  all_goals refine ⟨ret_bool ?_, rfl⟩
  all_goals try simp only [beq_iff_eq, beq_eq_false_iff_ne, ne_eq] at *
  all_goals rw [Bool.eq_iff_iff, Ch.may_iff]
  all_goals first | omega | (simp; done) | (simp; omega)

set_option maxHeartbeats 400000 in
theorem byteAt_any (s : ByteArray) (i : Nat) (w : World) (_hs : s.size ≤ maxLen) :
    Calls Tryz.prog 65 #[.string s, .int .i64 i] w fun e w' => e = .returned (.int .i64 (Ch.bz s i)) ∧ w' = w := by
  unfold maxLen at _hs
  by_cases h : i < s.size
  · go_enter Tryz.func65, Tryz.ntmps65
    go_wp2
    go_ret
    refine ⟨ret_int ?_, rfl⟩
    have e : (s.get! i) = s[i] := by
      simp [ByteArray.get!, h]; rfl
    have hl := (s[i]).toNat_lt
    rw [IntWalk.wrap64_in _ (by omega), Ch.bz, if_pos h, e]
  · go_enter Tryz.func65, Tryz.ntmps65
    go_wp2
    go_ret
    refine ⟨ret_int ?_, rfl⟩
    rw [Ch.bz, if_neg h]

set_option maxHeartbeats 400000 in
theorem beginsName_any (r : Int) (w : World) :
    Calls Tryz.prog 97 #[.int .i32 r] w fun e w' => e = .returned (.bool (Ch.begins r)) ∧ w' = w := by
  go_enter Tryz.func97, Tryz.ntmps97
  go_wp2
  all_goals go_ret
  all_goals refine ⟨ret_bool ?_, rfl⟩
  all_goals try simp only [beq_iff_eq, beq_eq_false_iff_ne, ne_eq] at *
  all_goals rw [Bool.eq_iff_iff, Ch.begins_iff]
  all_goals first | omega | (simp; done) | (simp; omega)

set_option maxHeartbeats 400000 in
theorem begins_any (r : Int) (w : World) :
    Calls Tryz.prog 90 #[.int .i64 r] w fun e w' => e = .returned (.bool (Ch.begins r)) ∧ w' = w := by
  go_enter Tryz.func90, Tryz.ntmps90
  go_wp2
  all_goals go_ret
  all_goals refine ⟨ret_bool ?_, rfl⟩
  all_goals try simp only [beq_iff_eq, beq_eq_false_iff_ne, ne_eq] at *
  all_goals rw [Bool.eq_iff_iff, Ch.begins_iff]
  all_goals first | omega | (simp; done) | (simp; omega)

set_option maxHeartbeats 400000 in
theorem goesOnInName_any (r : Int) (w : World) :
    Calls Tryz.prog 98 #[.int .i32 r] w fun e w' => e = .returned (.bool (Ch.goesOn r)) ∧ w' = w := by
  go_enter Tryz.func98, Tryz.ntmps98
  go_wp2
  all_goals go_ret
  all_goals refine ⟨ret_bool ?_, rfl⟩
  all_goals try simp only [beq_iff_eq, beq_eq_false_iff_ne, ne_eq] at *
  all_goals rw [Bool.eq_iff_iff, Ch.goesOn_iff]
  all_goals first | omega | (simp; done) | (simp; omega)

set_option maxHeartbeats 400000 in
theorem digitC_any (r : Int) (w : World) (h0 : -2147483648 ≤ r) (h1 : r ≤ 2147483647) :
    Calls Tryz.prog 110 #[.int .i32 r] w fun e w' => e = .returned (.int .i32 (Ch.dig 16 r)) ∧ w' = w := by
  go_enter Tryz.func110, Tryz.ntmps110
  go_wp2
  all_goals go_ret
  all_goals refine ⟨ret_int ?_, rfl⟩
  all_goals unfold Ch.dig
  all_goals repeat' split
  all_goals omega

set_option maxHeartbeats 400000 in
theorem digitR_any (r : Int) (w : World) (h0 : -2147483648 ≤ r) (h1 : r ≤ 2147483647) :
    Calls Tryz.prog 91 #[.int .i64 r] w fun e w' => e = .returned (.int .i64 (Ch.dig (-1) r)) ∧ w' = w := by
  go_enter Tryz.func91, Tryz.ntmps91
  go_wp2
  all_goals go_ret
  all_goals refine ⟨ret_int ?_, rfl⟩
  all_goals unfold Ch.dig
  all_goals repeat' split
  all_goals omega

theorem byteAt_int (s : ByteArray) (j : Int) (w : World) (hs : s.size ≤ maxLen) (h : 0 ≤ j) :
    Calls Tryz.prog 65 #[.string s, .int .i64 j] w fun e w' => e = .returned (.int .i64 (Ch.bz s j.toNat)) ∧ w' = w := by
  obtain ⟨n, rfl⟩ := Int.eq_ofNat_of_zero_le h
  rw [Int.toNat_natCast]
  exact byteAt_any s n w hs
end Go.Proofs.YtbbocgeapofloaiGreatDoor
namespace Go.Proofs.YtbbocgeapofloaiGreatDoor
open Go.RowKit

theorem hide {p : Prop} (h : p) : Hid p := h

theorem ret_two {a b c d : Int} (h : a = c) (h2 : b = d) : Ending.returned (.tuple #[.int .i64 a, .int .i64 b]) = .returned (.tuple #[.int .i64 c, .int .i64 d]) := by rw [h, h2]

theorem lead_cases (a : Int) (h : -1 ≤ a ∧ a ≤ 255) : (0 ≤ a ∧ a < 128 ∧ Ch.lead a = (1, a)) ∨ (192 ≤ a ∧ a < 224 ∧ Ch.lead a = (2, a - 192)) ∨ (224 ≤ a ∧ a < 240 ∧ Ch.lead a = (3, a - 224)) ∨ (240 ≤ a ∧ a < 248 ∧ Ch.lead a = (4, a - 240)) ∨ (a < 0 ∧ Ch.lead a = (0, 0)) ∨ (128 ≤ a ∧ a < 192 ∧ Ch.lead a = (0, 0)) ∨ (248 ≤ a ∧ Ch.lead a = (0, 0)) := by
  unfold Ch.lead
  repeat' split
  all_goals simp
  all_goals omega

theorem acc_step (s : ByteArray) (i m : Nat) (r0 : Int) (h : 1 ≤ m) : Ch.acc s i r0 (m + 1 - 1) = 64 * Ch.acc s i r0 (m - 1) + Ch.bz s (i + m) - 128 := by
  obtain ⟨k, rfl⟩ : ∃ k, m = k + 1 := ⟨m - 1, by omega⟩
  simp [Ch.acc]

theorem lead_bd (a : Int) (h : -1 ≤ a ∧ a ≤ 255) : (Ch.lead a).1 ≤ 4 ∧ 0 ≤ (Ch.lead a).2 ∧ (Ch.lead a).2 ≤ 255 := by
  unfold Ch.lead
  repeat' split
  all_goals simp
  all_goals omega

set_option maxHeartbeats 4000000 in
theorem At_any (s : ByteArray) (i : Nat) (w : World) (hs : s.size ≤ 1125899906842624) (hi : i ≤ s.size) :
    Calls Tryz.prog 41 #[.string s, .int .i64 i] w fun e w' => e = .returned (.tuple #[.int .i64 (Ch.at2 s i).1, .int .i64 (Ch.at2 s i).2]) ∧ w' = w := by
  have hm : s.size ≤ maxLen := by unfold maxLen; omega
  have hbd := Ch.bz_bd s i
  have hlb := lead_bd (Ch.bz s i) hbd
  have hlc := lead_cases (Ch.bz s i) hbd
  rcases hlc with ⟨h0, h1, hl⟩ | ⟨h0, h1, hl⟩ | ⟨h0, h1, hl⟩ | ⟨h0, h1, hl⟩ | ⟨h0, hl⟩ | ⟨h0, h1, hl⟩ | ⟨h0, hl⟩
  all_goals
    have HL := hide hl
    clear hl
    go_enter Tryz.func41, Tryz.ntmps41
    go_wp2_with (go_at_call 65; refine (byteAt_int _ _ _ hm (by omega)).mono ?_; rintro e w' ⟨rfl, rfl⟩; rw [Int.toNat_natCast])
    go_loop [8, 9] (fun r k => ∃ m : Nat, 1 ≤ m ∧ (m ≤ (Ch.lead (Ch.bz s i)).1 ∨ m = 1) ∧ k = .int .i64 m ∧ r = .int .i64 (Ch.acc s i (Ch.lead (Ch.bz s i)).2 (m - 1)) ∧ ∀ j, 1 ≤ j → j < m → Ch.cont s (i + j)) (fun _ k => 5 - (intOf k).toNat)
    case atStart =>
      refine ⟨1, Nat.le_refl _, Or.inr rfl, rfl, ?_, fun j a b => by omega⟩
      rw [HL.out]; rfl
    case round =>
      obtain ⟨m, hm1, hm2, rfl, rfl, hc⟩ := hrel
      have HC := hide hc
      clear hc
      by_cases hlt : m < (Ch.lead (Ch.bz s i)).1
      · have hlt' := hlt
        rw [HL.out] at hlt'
        simp only at hlt'
        first
          | (exfalso; omega)
          | (have hb := Ch.acc_bd (s := s) (i := i) (r0 := (Ch.lead (Ch.bz s i)).2) (m - 1) (by omega) (by omega) (by omega) (fun j a b => HC.out j a (by omega))
             have hb2 := Ch.bz_bd s (i + m)
             have hj : ((i : Int) + (m : Int)).toNat = i + m := by omega
             by_cases c : Ch.cont s (i + m)
             · have c' := c
               unfold Ch.cont at c'
               have hst := hide (acc_step s i m (Ch.lead (Ch.bz s i)).2 hm1)
               have HC2 : Hid (∀ j, 1 ≤ j → j < m + 1 → Ch.cont s (i + j)) := fun j a b => by
                 by_cases e : j = m
                 · rw [e]; exact c
                 · exact HC.out j a (by omega)
               have HJ := hide hj
               clear hj c
               generalize Ch.acc s i (Ch.lead (Ch.bz s i)).2 (m - 1) = z at *
               go_wp2_with (go_at_call 65; refine (byteAt_int _ _ _ hm (by omega)).mono ?_; rintro e w' ⟨rfl, rfl⟩; rw [HJ.out])
               go_round
               case rel => exact ⟨m + 1, by omega, Or.inl (by omega), by go_num, by rw [hst.out], HC2.out⟩
               case measure => simp [intOf]; omega
             · have hsh := hide (Ch.at2_short hm1 hlt c)
               have c' : Ch.bz s (i + m) < 128 ∨ 192 ≤ Ch.bz s (i + m) := by unfold Ch.cont at c; omega
               have HJ := hide hj
               clear hj c
               rcases c' with c' | c'
               all_goals
                 go_wp2_with (go_at_call 65; refine (byteAt_int _ _ _ hm (by omega)).mono ?_; rintro e w' ⟨rfl, rfl⟩; rw [HJ.out])
                 go_ret2
                 refine ⟨?_, rfl⟩
                 rw [hsh.out]
                 rfl)
      · have hfull := Ch.at2_full (s := s) (i := i) (fun j a b => HC.out j a (by omega))
        have hmm : (Ch.lead (Ch.bz s i)).1 - 1 = m - 1 := by rcases hm2 with h | h <;> omega
        have hb := Ch.acc_bd (s := s) (i := i) (r0 := (Ch.lead (Ch.bz s i)).2) (m - 1) (by omega) (by omega) (by rcases hm2 with h | h <;> omega) (fun j a b => HC.out j a (by omega))
        rw [hmm] at hfull
        clear hmm
        have hlt' := hlt
        rw [HL.out] at hlt'
        simp only at hlt'
        generalize Ch.acc s i (Ch.lead (Ch.bz s i)).2 (m - 1) = z at *
        rw [HL.out] at hfull
        simp only at hfull
        have HF := hide hfull
        clear hfull
        cases hmay : Ch.may z
        all_goals
          go_wp2_with (go_at_call 66; refine (May_any _ _).mono ?_; rintro e w' ⟨rfl, rfl⟩)
          all_goals go_ret2
          all_goals refine ⟨?_, rfl⟩
          all_goals rw [HF.out]
          all_goals split
          all_goals first
            | rfl
            | (rename_i hcond; exfalso; simp [Ch.few, hmay] at hcond; done)
            | (rename_i hcond; exfalso; simp [Ch.few, hmay] at hcond; omega)
end Go.Proofs.YtbbocgeapofloaiGreatDoor
namespace Go.Proofs.YtbbocgeapofloaiGreatDoor
open Go.RowKit

set_option maxHeartbeats 1000000 in
theorem characterAt_any (s : ByteArray) (i : Nat) (r : Int) (w : World) (_hs : s.size ≤ 1125899906842624) (hi : i ≤ s.size) :
    Calls Tryz.prog 79 #[.string s, .int .i64 i, .int .i32 r] w fun e w' => e = .returned (.bool (Ch.chAt s i r)) ∧ w' = w := by
  by_cases hr : r = 65533
  · have hb : (r == 65533) = true := by simp [hr]
    have hp := Ch.hasPrefix_walk s i [239, 191, 189]
    have hq : Ch.has s i [239, 191, 189] = Ch.chAt s i r := by
      simp [Ch.has, Ch.chAt, hr, Bool.and_assoc, Nat.add_assoc]
    rw [hq] at hp
    have HP := hide hp
    clear hp hq hr
    go_enter Tryz.func79, Tryz.ntmps79
    go_wp2_with (go_at_call 99; refine (Tryz.strings_HasPrefix _ _ _).mono ?_; rintro e w' ⟨rfl, rfl⟩)
    go_ret
    refine ⟨ret_bool ?_, rfl⟩
    exact HP.out
  · have hb : (r == 65533) = false := by simp [hr]
    have hc : Ch.chAt s i r = Ch.may r := by simp [Ch.chAt, hr]
    have HC := hide hc
    clear hc hr
    go_enter Tryz.func79, Tryz.ntmps79
    go_wp2_with (go_at_call 100; refine (character_any _ _).mono ?_; rintro e w' ⟨rfl, rfl⟩)
    go_ret
    exact ⟨ret_bool HC.out.symm, rfl⟩

theorem below_iter (w : World) (s : ByteArray) (pos : Nat) : Below w.heap.size w (w.iter s pos) :=
  (Below.refl _ w).alloc (Nat.le_refl _) _

set_option maxHeartbeats 2000000 in
set_option maxRecDepth 1000000 in
theorem badC_any (s : ByteArray) (w : World) (hs : s.size ≤ 1125899906842624) :
    Calls Tryz.prog 86 #[.string s] w fun e w' => e = .returned (.int .i64 (Ch.bad s)) ∧ Below w.heap.size w w' := by
  go_enter Tryz.func86, Tryz.ntmps86
  go_wp2
  go_loopw [] (fun w' => ∃ (pos fuel : Nat), w' = w.iter s pos ∧ Ch.badFrom s fuel pos = Ch.bad s ∧ s.size < pos + fuel ∧ pos ≤ s.size) (fun w' => s.size - w'.iterPos w.heap.size)
  case atStart => exact ⟨0, s.size + 1, rfl, rfl, by omega, by omega⟩
  case round =>
    obtain ⟨pos, fuel, rfl, hc, hb, hl⟩ := hrel
    obtain ⟨f, rfl⟩ : ∃ f, fuel = f + 1 := ⟨fuel - 1, by omega⟩
    have HC := hide hc
    clear hc
    by_cases hp : pos < s.size
    · have hnx : ∀ ty, (Instr.next (.pointer (some ⟨w.heap.size, 0, none⟩)) true ty).run Tryz.prog (w.iter s pos) = _ := fun ty => run_next_any w s pos ty hp
      have hwd := Ch.decode_width s pos hp
      have hch := Ch.chAt_decode s pos hp
      cases hok : Ch.okAt s pos
      · rw [hok] at hch
        go_wp2_with (go_at_call 79; refine (characterAt_any _ _ _ _ hs hl).mono ?_; rintro e w' ⟨rfl, rfl⟩)
        go_ret
        refine ⟨ret_int ?_, ?_⟩
        · have := HC.out; simp only [Ch.badFrom, hp, hok] at this; simp at this; omega
        · exact below_iter w s _
      · rw [hok] at hch
        go_wp2_with (go_at_call 79; refine (characterAt_any _ _ _ _ hs hl).mono ?_; rintro e w' ⟨rfl, rfl⟩)
        go_roundw
        case rel =>
          refine ⟨pos + (Utf8.decode s pos).2, f, rfl, ?_, by omega, by omega⟩
          have := HC.out; simp only [Ch.badFrom, hp, hok] at this; simpa using this
        case measure =>
          simp
          omega
    · have hnx : ∀ ty, (Instr.next (.pointer (some ⟨w.heap.size, 0, none⟩)) true ty).run Tryz.prog (w.iter s pos) = _ := fun ty => run_next_end w s pos ty hp
      go_wp2
      go_ret
      refine ⟨ret_int ?_, ?_⟩
      · have := HC.out; simp only [Ch.badFrom, hp] at this; simp at this; omega
      · exact below_iter w s _

end Go.Proofs.YtbbocgeapofloaiGreatDoor
namespace Go.Proofs.YtbbocgeapofloaiGreatDoor
open Go.RowKit

theorem name_stop {s : ByteArray} {f pos : Nat} (hp : pos < s.size) (hi : Ch.inName s pos = false) (h : Ch.nameFrom s (f + 1) pos = Ch.name s) : (pos : Int) = (Ch.name s : Int) := by
  simp only [Ch.nameFrom, hp, hi] at h; simp at h; omega
theorem name_on {s : ByteArray} {f pos : Nat} (hp : pos < s.size) (hi : Ch.inName s pos = true) (h : Ch.nameFrom s (f + 1) pos = Ch.name s) : Ch.nameFrom s f (pos + (Utf8.decode s pos).2) = Ch.name s := by
  simp only [Ch.nameFrom, hp, hi] at h; simpa using h
theorem name_end {s : ByteArray} {f pos : Nat} (hp : ¬ pos < s.size) (h : Ch.nameFrom s (f + 1) pos = Ch.name s) : (s.size : Int) = (Ch.name s : Int) := by
  simp only [Ch.nameFrom, hp] at h; simp at h; omega

set_option maxHeartbeats 4000000 in
set_option maxRecDepth 1000000 in
theorem nameC_any (s : ByteArray) (w : World) (hs : s.size ≤ 1125899906842624) :
    Calls Tryz.prog 78 #[.string s] w fun e w' => e = .returned (.int .i64 (Ch.name s)) ∧ Below w.heap.size w w' := by
  go_enter Tryz.func78, Tryz.ntmps78
  go_wp2
  go_loopw [] (fun w' => ∃ (pos fuel : Nat), w' = w.iter s pos ∧ Ch.nameFrom s fuel pos = Ch.name s ∧ s.size < pos + fuel ∧ pos ≤ s.size) (fun w' => s.size - w'.iterPos w.heap.size)
  case atStart => exact ⟨0, s.size + 1, rfl, rfl, by omega, by omega⟩
  case round =>
    obtain ⟨pos, fuel, rfl, hc, hb, hl⟩ := hrel
    obtain ⟨f, rfl⟩ : ∃ f, fuel = f + 1 := ⟨fuel - 1, by omega⟩
    have HC := hide hc
    clear hc
    by_cases hp : pos < s.size
    · have hnx : ∀ ty, (Instr.next (.pointer (some ⟨w.heap.size, 0, none⟩)) true ty).run Tryz.prog (w.iter s pos) = _ := fun ty => run_next_any w s pos ty hp
      have hwd := Ch.decode_width s pos hp
      have hch := Ch.chAt_decode s pos hp
      cases hok : Ch.okAt s pos <;> cases hbe : Ch.begins (Utf8.decode s pos).1 <;> cases hgo : Ch.goesOn (Utf8.decode s pos).1 <;> by_cases h0 : 0 < pos
      all_goals rw [hok] at hch
      all_goals
        go_wp2_with (first | (go_at_call 97; refine (beginsName_any _ _).mono ?_; rintro e w' ⟨rfl, rfl⟩) | (go_at_call 98; refine (goesOnInName_any _ _).mono ?_; rintro e w' ⟨rfl, rfl⟩) | (go_at_call 79; refine (characterAt_any _ _ _ _ hs hl).mono ?_; rintro e w' ⟨rfl, rfl⟩))
        first
          | (go_ret
             exact ⟨ret_int (name_stop hp (by simp [Ch.inName, hok, hbe, hgo, h0]) HC.out), below_iter w s _⟩)
          | (go_roundw
             case rel => exact ⟨pos + (Utf8.decode s pos).2, f, rfl, name_on hp (by simp [Ch.inName, hok, hbe, hgo, h0]) HC.out, by omega, by omega⟩
             case measure => simp; omega)
    · have hnx : ∀ ty, (Instr.next (.pointer (some ⟨w.heap.size, 0, none⟩)) true ty).run Tryz.prog (w.iter s pos) = _ := fun ty => run_next_end w s pos ty hp
      go_wp2
      go_ret
      exact ⟨ret_int (name_end hp HC.out), below_iter w s _⟩

theorem goes_cases {r : Int} {b : Bool} (h : Ch.goesOn r = b) : (b = true ∧ 48 ≤ r ∧ r ≤ 57) ∨ (b = true ∧ ¬ 48 ≤ r ∧ (r == 45) = true) ∨ (b = true ∧ ¬ 48 ≤ r ∧ (r == 45) = false ∧ (r == 46) = true) ∨ (b = false ∧ ¬ 48 ≤ r ∧ (r == 45) = false ∧ (r == 46) = false) ∨ (b = false ∧ 57 < r ∧ (r == 45) = false ∧ (r == 46) = false) := by
  subst h
  cases e : Ch.goesOn r
  · have : ¬ ((48 ≤ r ∧ r ≤ 57) ∨ r = 45 ∨ r = 46) := fun q => by rw [(Ch.goesOn_iff r).2 q] at e; cases e
    simp only [Bool.false_eq_true, false_and, false_or, true_and, beq_eq_false_iff_ne, ne_eq]; omega
  · have := (Ch.goesOn_iff r).1 e
    simp only [true_and, beq_eq_false_iff_ne, beq_iff_eq, ne_eq]; omega

set_option maxHeartbeats 4000000 in
set_option maxRecDepth 1000000 in
theorem nameR_any (s : ByteArray) (w : World) (hs : s.size ≤ 1125899906842624) :
    Calls Tryz.prog 59 #[.string s] w fun e w' => e = .returned (.int .i64 (Ch.name s)) ∧ w' = w := by
  go_enter Tryz.func59, Tryz.ntmps59
  go_wp2
  go_loop [3, 4, 5, 6] (fun i _ _ _ => ∃ (pos fuel : Nat), i = .int .i64 pos ∧ Ch.nameFrom s fuel pos = Ch.name s ∧ s.size < pos + fuel ∧ pos ≤ s.size) (fun i _ _ _ => s.size - (intOf i).toNat)
  case atStart => exact ⟨0, s.size + 1, rfl, rfl, by omega, by omega⟩
  case round =>
    obtain ⟨pos, fuel, rfl, hc, hb, hl⟩ := hrel
    obtain ⟨f, rfl⟩ : ∃ f, fuel = f + 1 := ⟨fuel - 1, by omega⟩
    have HC := hide hc
    clear hc
    by_cases hp : pos < s.size
    · have hwd := Ch.decode_width s pos hp
      have hat := Ch.at2_pos s pos hp
      cases hok : Ch.okAt s pos
      · rw [hok] at hat
        simp only [Bool.false_eq_true, if_false] at hat
        have HA := hide hat
        clear hat
        by_cases h0 : 0 < pos
        all_goals
          go_wp2_with (first | (go_at_call 41; refine (At_any _ _ _ hs hl).mono ?_; rintro e w' ⟨rfl, rfl⟩; rw [HA.out]) | (go_at_call 90; refine (begins_any _ _).mono ?_; rintro e w' ⟨rfl, rfl⟩))
          go_ret
          exact ⟨ret_int (name_stop hp (by simp [Ch.inName, hok]) HC.out), rfl⟩
      · rw [hok] at hat
        simp only [if_true] at hat
        have HA := hide hat
        clear hat
        cases hbe : Ch.begins (Utf8.decode s pos).1 <;> cases hgo : Ch.goesOn (Utf8.decode s pos).1 <;> by_cases h0 : 0 < pos
        all_goals
          have HG := hide hgo
          clear hgo
          rcases goes_cases HG.out with ⟨e1, e2, e3⟩ | ⟨e1, e2, e3⟩ | ⟨e1, e2, e3, e4⟩ | ⟨e1, e2, e3, e4⟩ | ⟨e1, e2, e3, e4⟩
          all_goals first
            | (cases e1; done)
            | (clear e1
               go_wp2_with (first | (go_at_call 41; refine (At_any _ _ _ hs hl).mono ?_; rintro e w' ⟨rfl, rfl⟩; rw [HA.out]) | (go_at_call 90; refine (begins_any _ _).mono ?_; rintro e w' ⟨rfl, rfl⟩))
               first
                 | (go_ret
                    exact ⟨ret_int (name_stop hp (by simp [Ch.inName, hok, hbe, HG.out, h0]) HC.out), rfl⟩)
                 | (go_round
                    case rel => exact ⟨pos + (Utf8.decode s pos).2, f, by go_num, name_on hp (by simp [Ch.inName, hok, hbe, HG.out, h0]) HC.out, by omega, by omega⟩
                    case measure => simp [intOf]; omega))
    · go_wp2
      go_ret
      exact ⟨ret_int (by have := name_end hp HC.out; omega), rfl⟩
end Go.Proofs.YtbbocgeapofloaiGreatDoor
namespace Go.Proofs.YtbbocgeapofloaiGreatDoor
open Go.RowKit

theorem info43 : ∃ j, Tryz.prog.info? 123 = some j ∧ j.size = 2 := Option.map_eq_some_iff.1 Tryz.Builder_Extra_242.sizeBuilder

set_option maxHeartbeats 1000000 in
set_option maxRecDepth 100000 in
theorem copyCheck_used (b : Nat) (w : World) (c0 : w.cell? ⟨b, 0, none⟩ = some (.pointer (some ⟨b, 0, none⟩))) :
    Calls Tryz.prog 103 #[.pointer (some ⟨b, 0, none⟩)] w fun e w' => e = .returned (.tuple #[]) ∧ w' = w := by
  obtain ⟨j, hj, _⟩ := info43
  go_enter Tryz.func103, Tryz.ntmps103
  go_wp2
  rw [Lib.run_neq_ptr_same w _ Tryz.underlying121 hj]
  go_wp2
  go_end0
  exact ⟨rfl, rfl⟩

set_option maxHeartbeats 1000000 in
set_option maxRecDepth 100000 in
theorem copyCheck_fresh (b : Nat) (w : World) (c0 : w.cell? ⟨b, 0, none⟩ = some (.pointer none)) (hsh : w.shape? b = some (123, 2)) (f0 : w.frozen? ⟨b, 0, none⟩ = false) :
    Calls Tryz.prog 103 #[.pointer (some ⟨b, 0, none⟩)] w fun e w' => e = .returned (.tuple #[]) ∧ w' = w.setCell ⟨b, 0, none⟩ (.pointer (some ⟨b, 0, none⟩)) := by
  obtain ⟨j, hj, hjs⟩ := info43
  go_enter Tryz.func103, Tryz.ntmps103
  go_wp2
  rw [Lib.run_to_unsafe w ⟨b, 0, none⟩ Tryz.underlying121 Tryz.underlying103 hj (by rw [hjs]; decide) hsh (Nat.zero_lt_succ 1)]
  simp only [Result.andThen]
  rw [Oper.upon_value]
  go_wp2
  rw [run_callFunc_extern Tryz.func111 (by kernel_rfl) (by kernel_rfl) (by kernel_rfl) (e := Extern.AbiNoEscape.same) (by kernel_rfl)]
  rw [Lib.run_noEscape]
  simp only [Result.andThen]
  rw [Oper.upon_value]
  go_wp2
  rw [Lib.run_from_unsafe w ⟨b, 0, none⟩ Tryz.underlying103 Tryz.underlying121 hj hsh Tryz.Builder_Extra_242.liesBuilder]
  simp only [Result.andThen]
  rw [Oper.upon_value]
  go_wp2
  go_end0
  exact ⟨rfl, rfl⟩

theorem copyCheck_k (B b : Nat) (bs : List Value) (w : World) (h : Lib.IsBuilderF 123 5 B b bs w) :
    Calls Tryz.prog 103 #[.pointer (some ⟨b, 0, none⟩)] w fun e w' => e = .returned (.tuple #[]) ∧ (Lib.BuilderAtF 123 5 B b (.pointer (some ⟨b, 0, none⟩)) bs w' ∧ Below B w w' ∧ Lib.OthersKept 5 (some b) w w') := by
  rcases h with h | h
  · refine (copyCheck_fresh b w h.cell0 h.shape h.frozen0).mono ?_
    rintro e w' ⟨rfl, rfl⟩
    exact ⟨rfl, h.used _, (Below.refl B w).setCell (p := ⟨b, 0, none⟩) h.1 _, (Lib.OthersKept.refl _ _ w).setCell ⟨b, 0, none⟩ rfl _⟩
  · refine (copyCheck_used b w h.cell0).mono ?_
    rintro e w' ⟨rfl, rfl⟩
    exact ⟨rfl, h, Below.refl B _, Lib.OthersKept.refl _ _ _⟩

/-- What a builder's cells are behind a call that has grown its row. -/
theorem builder_cells {b : Nat} {v : Value} {w : World} (hbk : w.heap[b]? = some (.cells #[.pointer (some ⟨b, 0, none⟩), v] 123 (0, 0))) :
    w.cell? ⟨b, 0, none⟩ = some (.pointer (some ⟨b, 0, none⟩)) ∧ w.cell? ⟨b, 1, none⟩ = some v ∧ w.frozen? ⟨b, 1, none⟩ = false ∧ b < w.heap.size :=
  ⟨by rw [Lib.cell_of_heap hbk]; rfl, by rw [Lib.cell_of_heap hbk]; rfl, Lib.frozen_of_heap hbk 1, (Array.getElem?_eq_some_iff.1 hbk).1⟩

set_option maxHeartbeats 4000000 in
set_option maxRecDepth 100000 in
theorem writeRune_k (B b : Nat) (bs : List Value) (r : Int) (hr0 : -2147483648 ≤ r) (hr1 : r ≤ 2147483647) (w : World) (h : Lib.IsBuilderF 123 5 B b bs w) (hlen : bs.length + 4 ≤ 140737488355328) (hBw : B ≤ w.heap.size) :
    Calls Tryz.prog 81 #[.pointer (some ⟨b, 0, none⟩), .int .i32 r] w fun e w' => e = .returned (.tuple #[.int .i64 (Lib.runeCells r).length, .nilIface]) ∧ (Lib.BuilderAtF 123 5 B b (.pointer (some ⟨b, 0, none⟩)) (bs ++ Lib.runeCells r) w' ∧ Below B w w' ∧ Lib.OthersKept 5 (some b) w w') := by
  have hk4 := Lib.runeCells_le r
  go_enter Tryz.func81, Tryz.ntmps81
  go_wp2_with (go_at_call 103; refine (copyCheck_k B b bs _ h).mono ?_)
  rintro e w1 ⟨rfl, h1, hb1, hk1⟩
  obtain ⟨hB, v, hbk, hown, hne⟩ := h1
  obtain ⟨ao, cap, rfl⟩ : ∃ ao cap, v = .slice ao bs.length cap := by
    rcases hown.2 with ⟨hv, h0⟩ | ⟨g, cap, cur, fz, hv, _⟩
    · exact ⟨none, 0, by rw [hv, h0]⟩
    · exact ⟨_, _, hv⟩
  obtain ⟨c0, c1, _, hlt⟩ := builder_cells hbk
  go_wp2_with (go_at_call 50; refine (Tryz.utf8_AppendRune_own B _ bs.length bs r hr0 hr1 _ hown hlen (by have := hb1.size; omega)).mono ?_)
  rintro e w2 ⟨v', rfl, hown', o, hgrow⟩
  have hb2 : w2.heap[b]? = some (.cells #[.pointer (some ⟨b, 0, none⟩), .slice ao bs.length cap] 123 (0, 0)) := by
    rw [hgrow.block b (by simp; omega) (fun e => hne e.symm), Lib.alloc_old w1 _ b hlt]
    exact hbk
  obtain ⟨d0, d1, f1, _⟩ := builder_cells hb2
  obtain ⟨g, cap', rfl⟩ : ∃ g cap', v' = .slice (some ⟨g, 0, none⟩) (bs.length + (Lib.runeCells r).length) cap' := by
    rcases hown'.2 with ⟨_, h0⟩ | ⟨g, cap', cur, fz, hv, _⟩
    · omega
    · exact ⟨g, cap', hv⟩
  go_wp2
  go_ret2
  refine ⟨?_, ?_, ?_, ((hk1.alloc _).grown hgrow (Lib.ownsRowF_kind (hown.alloc _))).setCell ⟨b, 1, none⟩ rfl _⟩
  · have e : ((bs.length : Int) + ((Lib.runeCells r).length : Int) - (bs.length : Int)) = ((Lib.runeCells r).length : Int) := by omega
    simp [e]
  · exact Lib.BuilderAtF.put (T := 123) (e := 5) hB hb2 (bs' := bs ++ Lib.runeCells r) (by simpa using hown') (by decide)
  · exact ((hb1.alloc (by have := hb1.size; omega) _).grown hgrow (by have := hb1.size; simp; omega) (fun k hk => (hown.lt k hk).1)).setCell (p := ⟨b, 1, none⟩) hB _
end Go.Proofs.YtbbocgeapofloaiGreatDoor
namespace Go.Proofs.YtbbocgeapofloaiGreatDoor
open Go.RowKit

def numC (u : ByteArray) (b ahead : Int) : Int × Int := if (Ch.num u b).2 = 0 then (0, 0) else ((Ch.num u b).1, ahead + (Ch.num u b).2)

theorem numC_none {u : ByteArray} {b ahead : Int} (h : Ch.num u b = (0, 0)) : numC u b ahead = (0, 0) := by simp [numC, h]
theorem numC_some {u : ByteArray} {b ahead n : Int} {pos : Nat} (h : Ch.num u b = (n, (pos : Int) + 1)) : numC u b ahead = (n, ahead + pos + 1) := by
  have : ¬ ((pos : Int) + 1 = 0) := by omega
  simp [numC, h, this, Int.add_assoc]

theorem num_parts {u : ByteArray} {b n : Int} {f pos : Nat} {X : Int × Int} {c : Nat} (HC : Hid (Ch.numFrom u b (f + 1) pos n = X)) (HB : Hid (Ch.bz u pos = c)) (h : ¬ c = 59) :
    (b ≤ Ch.dig 16 c ∧ Hid (X = (0, 0))) ∨ (Ch.dig 16 c < b ∧ Hid (Ch.numFrom u b f (pos + 1) (if n ≤ 1114111 then n * b + Ch.dig 16 c else n) = X)) := by
  have hb := HB.out
  by_cases hd : b ≤ Ch.dig 16 c
  · exact Or.inl ⟨hd, Ch.num_no (by omega) (by rw [hb]; exact hd) HC.out⟩
  · refine Or.inr ⟨by omega, ?_⟩
    have := Ch.num_on (by omega) (by rw [hb]; exact hd) HC.out
    rw [hb] at this
    exact this

set_option maxHeartbeats 4000000 in
set_option maxRecDepth 1000000 in
theorem numbered_any (u : ByteArray) (b ahead : Int) (w : World) (hu : u.size ≤ 1125899906842624) (hb : b = 10 ∨ b = 16) (ha0 : 0 ≤ ahead) (ha1 : ahead ≤ 8) :
    Calls Tryz.prog 102 #[.string u, .int .i32 b, .int .i64 ahead] w fun e w' => e = .returned (.tuple #[.int .i32 (numC u b ahead).1, .int .i64 (numC u b ahead).2]) ∧ Below w.heap.size w w' := by
  rcases hb with rfl | rfl
  all_goals
    go_enter Tryz.func102, Tryz.ntmps102
    go_wp2
    go_loopw [8] (fun n w' => ∃ (pos fuel : Nat) (z : Int), w' = w.iter u pos ∧ n = .int .i32 z ∧ 0 ≤ z ∧ z ≤ 17825791 ∧ Hid (Ch.numFrom u _ fuel pos z = Ch.num u _) ∧ u.size < pos + fuel ∧ pos ≤ u.size) (fun _ w' => u.size - w'.iterPos w.heap.size)
    case atStart => exact ⟨0, u.size + 1, 0, rfl, rfl, by omega, by omega, rfl, by omega, by omega⟩
    case round =>
      obtain ⟨pos, fuel, z, rfl, rfl, hz0, hz1, HC, hf, hl⟩ := hrel
      obtain ⟨f, rfl⟩ : ∃ f, fuel = f + 1 := ⟨fuel - 1, by omega⟩
      by_cases hp : pos < u.size
      · have hnx0 := fun ty => run_next_any (P := Tryz.prog) w u pos ty hp
        rcases Ch.decode_byte u pos hp with ⟨h0, h1, hd⟩ | ⟨h0, h1⟩
        · obtain ⟨c, hc⟩ : ∃ c : Nat, Ch.bz u pos = c := ⟨(Ch.bz u pos).toNat, by omega⟩
          rw [hc] at hd h0 h1
          rw [Int.toNat_natCast] at hd
          rw [hd] at hnx0
          have hnx : ∀ ty, (Instr.next (.pointer (some ⟨w.heap.size, 0, none⟩)) true ty).run Tryz.prog (w.iter u pos) = .ok (.tuple #[.bool true, .int .i64 pos, .int .i32 c]) (w.iter u (pos + 1)) := hnx0
          clear hnx0 hd
          have HB := hide hc
          clear hc
          by_cases h59 : c = 59
          · have hq : ((c : Int) == 59) = true := by simp; omega
            have HN := hide (Ch.num_semi (by rw [HB.out]; omega) HC.out)
            cases hm : Ch.may z
            all_goals
              go_wp2_with (go_at_call 100; refine (character_any _ _).mono ?_; rintro e w' ⟨rfl, rfl⟩)
              go_ret2
              refine ⟨?_, below_iter w u _⟩
              have hn := HN.out
              rw [hm] at hn
              simp only [if_true, Bool.false_eq_true, if_false] at hn
              first
                | (rw [numC_none hn]; rfl)
                | (rw [numC_some hn]; rfl)
          · have hq : ((c : Int) == 59) = false := by simp; omega
            have hdb := Ch.dig_bd c
            rcases num_parts HC HB h59 with ⟨hge, HN⟩ | ⟨hge, HN⟩
            · go_wp2_with (go_at_call 110; refine (digitC_any _ _ (by omega) (by omega)).mono ?_; rintro e w' ⟨rfl, rfl⟩)
              go_ret2
              refine ⟨?_, below_iter w u _⟩
              rw [numC_none HN.out]; rfl
            · replace HN := HN.out
              by_cases hle : z ≤ 1114111
              · rw [if_pos hle] at HN
                have HN' := hide HN
                clear HN
                go_wp2_with (go_at_call 110; refine (digitC_any _ _ (by omega) (by omega)).mono ?_; rintro e w' ⟨rfl, rfl⟩)
                go_roundw
                case rel => exact ⟨pos + 1, f, _, rfl, rfl, by omega, by omega, HN', by omega, by omega⟩
                case measure => simp; omega
              · rw [if_neg hle] at HN
                have HN' := hide HN
                clear HN
                go_wp2_with (go_at_call 110; refine (digitC_any _ _ (by omega) (by omega)).mono ?_; rintro e w' ⟨rfl, rfl⟩)
                go_roundw
                case rel => exact ⟨pos + 1, f, _, rfl, rfl, by omega, by omega, HN', by omega, by omega⟩
                case measure => simp; omega
        · have hd1 := decode_le u pos
          have hwd := Ch.decode_width u pos hp
          have hnx : ∀ ty, (Instr.next (.pointer (some ⟨w.heap.size, 0, none⟩)) true ty).run Tryz.prog (w.iter u pos) = _ := hnx0
          have hq : (((Utf8.decode u pos).1 : Int) == 59) = false := by simp; omega
          have hdg : Ch.dig 16 ((Utf8.decode u pos).1 : Int) = 16 := Ch.dig_high (by omega) 16
          have HN := hide (Ch.num_no (by omega) (by rw [Ch.dig_high h0 16]; decide) HC.out)
          go_wp2_with (go_at_call 110; refine (digitC_any _ _ (by omega) (by omega)).mono ?_; rintro e w' ⟨rfl, rfl⟩; rw [hdg])
          go_ret2
          refine ⟨?_, below_iter w u _⟩
          rw [numC_none HN.out]; rfl
      · have hnx : ∀ ty, (Instr.next (.pointer (some ⟨w.heap.size, 0, none⟩)) true ty).run Tryz.prog (w.iter u pos) = _ := fun ty => run_next_end w u pos ty hp
        go_wp2
        go_ret2
        refine ⟨?_, below_iter w u _⟩
        rw [numC_none (Ch.num_end (by decide) hp HC.out)]; rfl
end Go.Proofs.YtbbocgeapofloaiGreatDoor
