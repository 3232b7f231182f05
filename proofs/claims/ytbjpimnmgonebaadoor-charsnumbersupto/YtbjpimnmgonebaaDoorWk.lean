import Derived.Test.YtbjpimnmgonebaaDoorWj
import Derived.Laws.BytesArg
namespace Go.Proofs.YtbjpimnmgonebaaDoor
open Go.RowKit

theorem has_take (s : ByteArray) (i : Nat) (l : List UInt8) : (Ch.bytes s i l.length == l) = Ch.has s i l := by
  rw [← Ch.prefix_has, Bool.eq_iff_iff, beq_iff_eq, List.isPrefixOf_iff_prefix, List.prefix_iff_eq_take]
  unfold Ch.bytes
  exact eq_comm

set_option maxHeartbeats 1000000 in
theorem is_any (s : ByteArray) (i : Nat) (a : Array UInt8) (w : World) (hs : s.size ≤ 1125899906842624) (_hi : i ≤ s.size) (ha0 : 0 < a.size) (ha : a.size ≤ 16) :
    Calls Tryd.prog 38 #[.string s, .int .i64 i, .string ⟨a⟩] w fun e w' => e = .returned (.bool (Ch.has s i a.toList)) ∧ w' = w := by
  have hsz : (⟨a⟩ : ByteArray).size = a.size := rfl
  by_cases h : i + a.size ≤ s.size
  · go_enter Tryd.func38, Tryd.ntmps38
    go_wp2
    go_ret
    refine ⟨ret_bool ?_, rfl⟩
    rw [← has_take, Go.ByteArray.toList_eq, Go.ByteArray.toList_eq, extract_bytes, show i + a.size - i = a.toList.length by simp]
  · have hf : Ch.has s i a.toList = false := by
      cases e : Ch.has s i a.toList
      · rfl
      · have := Ch.has_size e (by simpa using ha0)
        simp at this
        omega
    have HF := hide hf
    clear hf
    go_enter Tryd.func38, Tryd.ntmps38
    go_wp2
    go_ret
    exact ⟨ret_bool HF.out.symm, rfl⟩

theorem Below_new (w : World) (o : Obj) : (w.alloc o).heap[w.heap.size]? = some o := heap_alloc_new w o

theorem conv_new (w : World) (xs : List Int) (n : Nat) (hn : xs.length = n) :
    (convert 41 9 (.slice (some ⟨w.heap.size, 0, none⟩) n n)).run Tryd.prog (w.alloc (.cells (xs.map (Value.int .u8)).toArray 5)) = .ok (.string (strOfNums xs)) (w.alloc (.cells (xs.map (Value.int .u8)).toArray 5)) := by
  refine run_convert_bytes_arg _ 41 5 Tryd.underlying41 Tryd.underlying5 w.heap.size 0 n n xs hn ?_ 9 Tryd.underlying9
  intro i hi
  have hlt : i < xs.length := by omega
  rw [Lib.cell_of_heap (Below_new w _)]
  simp [hlt]

theorem encode_nums {r : Int} {xs : List Int} (h : Lib.encodeRuneZ r = xs) : strOfNums xs = ⟨(Lib.encodeRune r).toArray⟩ := by
  subst h; rfl

set_option maxHeartbeats 1000000 in
theorem write1 (r : Int) (w : World) (h0 : 0 ≤ r) (h1 : r < 128) :
    Calls Tryd.prog 19 #[.int .i64 r] w fun e w' => e = .returned (.string ⟨(Lib.encodeRune r).toArray⟩) ∧ Below w.heap.size w w' := by
  have hcv := conv_new w [r] 1 rfl
  rw [encode_nums (Lib.encodeRuneZ_one h0 (by omega))] at hcv
  have hcv' : (convert 41 9 (.slice (some ⟨w.heap.size, 0, none⟩) 1 1)).run Tryd.prog (w.alloc (.cells #[.int .u8 r] 5)) = _ := hcv
  clear hcv
  go_enter Tryd.func19, Tryd.ntmps19
  go_wp2
  go_ret
  exact ⟨rfl, (Below.refl _ w).alloc (Nat.le_refl _) _⟩

set_option maxHeartbeats 1000000 in
theorem write2 (r : Int) (w : World) (h0 : 128 ≤ r) (h1 : r < 2048) :
    Calls Tryd.prog 19 #[.int .i64 r] w fun e w' => e = .returned (.string ⟨(Lib.encodeRune r).toArray⟩) ∧ Below w.heap.size w w' := by
  have hcv := conv_new w [192 + r / 64, 128 + r % 64] 2 rfl
  rw [encode_nums (Lib.encodeRuneZ_two h0 (by omega))] at hcv
  have hcv' : (convert 41 9 (.slice (some ⟨w.heap.size, 0, none⟩) 2 2)).run Tryd.prog (w.alloc (.cells #[.int .u8 (192 + r / 64), .int .u8 (128 + r % 64)] 5)) = _ := hcv
  clear hcv
  go_enter Tryd.func19, Tryd.ntmps19
  go_wp2
  go_ret
  exact ⟨rfl, (Below.refl _ w).alloc (Nat.le_refl _) _⟩

set_option maxHeartbeats 1000000 in
theorem write3 (r : Int) (w : World) (h0 : 2048 ≤ r) (h1 : r < 55296) :
    Calls Tryd.prog 19 #[.int .i64 r] w fun e w' => e = .returned (.string ⟨(Lib.encodeRune r).toArray⟩) ∧ Below w.heap.size w w' := by
  have hcv := conv_new w [224 + r / 4096, 128 + r / 64 % 64, 128 + r % 64] 3 rfl
  rw [encode_nums (Lib.encodeRuneZ_three (by omega))] at hcv
  have hcv' : (convert 41 9 (.slice (some ⟨w.heap.size, 0, none⟩) 3 3)).run Tryd.prog (w.alloc (.cells #[.int .u8 (224 + r / 4096), .int .u8 (128 + r / 64 % 64), .int .u8 (128 + r % 64)] 5)) = _ := hcv
  clear hcv
  go_enter Tryd.func19, Tryd.ntmps19
  go_wp2
  go_ret
  exact ⟨rfl, (Below.refl _ w).alloc (Nat.le_refl _) _⟩

set_option maxHeartbeats 1000000 in
theorem write4 (r : Int) (w : World) (h0 : 57344 ≤ r) (h1 : r < 65536) :
    Calls Tryd.prog 19 #[.int .i64 r] w fun e w' => e = .returned (.string ⟨(Lib.encodeRune r).toArray⟩) ∧ Below w.heap.size w w' := by
  have hcv := conv_new w [224 + r / 4096, 128 + r / 64 % 64, 128 + r % 64] 3 rfl
  rw [encode_nums (Lib.encodeRuneZ_three (by omega))] at hcv
  have hcv' : (convert 41 9 (.slice (some ⟨w.heap.size, 0, none⟩) 3 3)).run Tryd.prog (w.alloc (.cells #[.int .u8 (224 + r / 4096), .int .u8 (128 + r / 64 % 64), .int .u8 (128 + r % 64)] 5)) = _ := hcv
  clear hcv
  go_enter Tryd.func19, Tryd.ntmps19
  go_wp2
  go_ret
  exact ⟨rfl, (Below.refl _ w).alloc (Nat.le_refl _) _⟩

set_option maxHeartbeats 1000000 in
theorem write5 (r : Int) (w : World) (h0 : 65536 ≤ r) (h1 : r ≤ 1114111) :
    Calls Tryd.prog 19 #[.int .i64 r] w fun e w' => e = .returned (.string ⟨(Lib.encodeRune r).toArray⟩) ∧ Below w.heap.size w w' := by
  have hcv := conv_new w [240 + r / 262144, 128 + r / 4096 % 64, 128 + r / 64 % 64, 128 + r % 64] 4 rfl
  rw [encode_nums (Lib.encodeRuneZ_four h0 (by omega))] at hcv
  have hcv' : (convert 41 9 (.slice (some ⟨w.heap.size, 0, none⟩) 4 4)).run Tryd.prog (w.alloc (.cells #[.int .u8 (240 + r / 262144), .int .u8 (128 + r / 4096 % 64), .int .u8 (128 + r / 64 % 64), .int .u8 (128 + r % 64)] 5)) = _ := hcv
  clear hcv
  go_enter Tryd.func19, Tryd.ntmps19
  go_wp2
  go_ret
  exact ⟨rfl, (Below.refl _ w).alloc (Nat.le_refl _) _⟩

theorem Write_any (r : Int) (w : World) (hm : Ch.may r = true) :
    Calls Tryd.prog 19 #[.int .i64 r] w fun e w' => e = .returned (.string ⟨(Lib.encodeRune r).toArray⟩) ∧ Below w.heap.size w w' := by
  have h := (Ch.may_iff r).1 hm
  by_cases c1 : r < 128
  · exact write1 r w (by omega) c1
  by_cases c2 : r < 2048
  · exact write2 r w (by omega) c2
  by_cases c3 : r < 55296
  · exact write3 r w (by omega) c3
  by_cases c4 : r < 65536
  · exact write4 r w (by omega) c4
  · exact write5 r w (by omega) (by omega)
end Go.Proofs.YtbjpimnmgonebaaDoor
