import Derived.Test.YtbjpimnmgonebaaDoorWe
import Derived.Test.YtbjpimnmgonebaaDoorPn
namespace Go.Proofs.YtbjpimnmgonebaaDoor
open Go.RowKit

def numC (u : ByteArray) (b ahead : Int) : Int × Int := if (Ch.num u b).2 = 0 then (0, 0) else ((Ch.num u b).1, ahead + (Ch.num u b).2)

theorem numC_none {u : ByteArray} {b ahead : Int} (h : Ch.num u b = (0, 0)) : numC u b ahead = (0, 0) := by simp [numC, h]
theorem numC_some {u : ByteArray} {b ahead n : Int} {pos : Nat} (h : Ch.num u b = (n, (pos : Int) + 1)) : numC u b ahead = (n, ahead + pos + 1) := by
  have : ¬ ((pos : Int) + 1 = 0) := by omega
  simp [numC, h, this, Int.add_assoc]

theorem num_parts {u : ByteArray} {b n : Int} {f pos : Nat} {X : Int × Int} {c : Nat} (HC : Hid (Ch.numFrom u b (f + 1) pos n = X)) (HB : Hid (Ch.bz u pos = c)) (h : ¬ c = 59) :
    (b ≤ Ch.dig 16 c ∧ Hid (X = (0, 0))) ∨ (Ch.dig 16 c < b ∧ Hid (Ch.numFrom u b f (pos + 1) (if n ≤ 1114111 then n * b + Ch.dig 16 c else n) = X)) := by
  have hb := HB.out
  by_cases hd : b ≤ Ch.dig 16 c
  · exact Or.inl ⟨hd, Ch.num_no (by omega) (by rw [hb]; exact hd) HC.out⟩
  · refine Or.inr ⟨by omega, ?_⟩
    have := Ch.num_on (by omega) (by rw [hb]; exact hd) HC.out
    rw [hb] at this
    exact this

set_option maxHeartbeats 4000000 in
set_option maxRecDepth 1000000 in
theorem numbered_any (u : ByteArray) (b ahead : Int) (w : World) (hu : u.size ≤ 1125899906842624) (hb : b = 10 ∨ b = 16) (ha0 : 0 ≤ ahead) (ha1 : ahead ≤ 8) :
    Calls Tryd.prog 35 #[.string u, .int .i32 b, .int .i64 ahead] w fun e w' => e = .returned (.tuple #[.int .i32 (numC u b ahead).1, .int .i64 (numC u b ahead).2]) ∧ Below w.heap.size w w' := by
  rcases hb with rfl | rfl
  all_goals
    go_enter Tryd.func35, Tryd.ntmps35
    go_wp2
    go_loopw [8] (fun n w' => ∃ (pos fuel : Nat) (z : Int), w' = w.iter u pos ∧ n = .int .i32 z ∧ 0 ≤ z ∧ z ≤ 17825791 ∧ Hid (Ch.numFrom u _ fuel pos z = Ch.num u _) ∧ u.size < pos + fuel ∧ pos ≤ u.size) (fun _ w' => u.size - w'.iterPos w.heap.size)
    case atStart => exact ⟨0, u.size + 1, 0, rfl, rfl, by omega, by omega, rfl, by omega, by omega⟩
    case round =>
      obtain ⟨pos, fuel, z, rfl, rfl, hz0, hz1, HC, hf, hl⟩ := hrel
      obtain ⟨f, rfl⟩ : ∃ f, fuel = f + 1 := ⟨fuel - 1, by omega⟩
      by_cases hp : pos < u.size
      · have hnx0 := fun ty => run_next_any (P := Tryd.prog) w u pos ty hp
        rcases Ch.decode_byte u pos hp with ⟨h0, h1, hd⟩ | ⟨h0, h1⟩
        · obtain ⟨c, hc⟩ : ∃ c : Nat, Ch.bz u pos = c := ⟨(Ch.bz u pos).toNat, by omega⟩
          rw [hc] at hd h0 h1
          rw [Int.toNat_natCast] at hd
          rw [hd] at hnx0
          have hnx : ∀ ty, (Instr.next (.pointer (some ⟨w.heap.size, 0, none⟩)) true ty).run Tryd.prog (w.iter u pos) = .ok (.tuple #[.bool true, .int .i64 pos, .int .i32 c]) (w.iter u (pos + 1)) := hnx0
          clear hnx0 hd
          have HB := hide hc
          clear hc
          by_cases h59 : c = 59
          · have hq : ((c : Int) == 59) = true := by simp; omega
            have HN := hide (Ch.num_semi (by rw [HB.out]; omega) HC.out)
            cases hm : Ch.may z
            all_goals
              go_wp2_with (go_at_call 32; refine (character_any _ _).mono ?_; rintro e w' ⟨rfl, rfl⟩)
              go_ret2
              refine ⟨?_, below_iter w u _⟩
              have hn := HN.out
              rw [hm] at hn
              simp only [if_true, Bool.false_eq_true, if_false] at hn
              first
                | (rw [numC_none hn]; rfl)
                | (rw [numC_some hn]; rfl)
          · have hq : ((c : Int) == 59) = false := by simp; omega
            have hdb := Ch.dig_bd c
            rcases num_parts HC HB h59 with ⟨hge, HN⟩ | ⟨hge, HN⟩
            · go_wp2_with (go_at_call 42; refine (digitC_any _ _ (by omega) (by omega)).mono ?_; rintro e w' ⟨rfl, rfl⟩)
              go_ret2
              refine ⟨?_, below_iter w u _⟩
              rw [numC_none HN.out]; rfl
            · replace HN := HN.out
              by_cases hle : z ≤ 1114111
              · rw [if_pos hle] at HN
                have HN' := hide HN
                clear HN
                go_wp2_with (go_at_call 42; refine (digitC_any _ _ (by omega) (by omega)).mono ?_; rintro e w' ⟨rfl, rfl⟩)
                go_roundw
                case rel => exact ⟨pos + 1, f, _, rfl, rfl, by omega, by omega, HN', by omega, by omega⟩
                case measure => simp; omega
              · rw [if_neg hle] at HN
                have HN' := hide HN
                clear HN
                go_wp2_with (go_at_call 42; refine (digitC_any _ _ (by omega) (by omega)).mono ?_; rintro e w' ⟨rfl, rfl⟩)
                go_roundw
                case rel => exact ⟨pos + 1, f, _, rfl, rfl, by omega, by omega, HN', by omega, by omega⟩
                case measure => simp; omega
        · have hd1 := decode_le u pos
          have hwd := Ch.decode_width u pos hp
          have hnx : ∀ ty, (Instr.next (.pointer (some ⟨w.heap.size, 0, none⟩)) true ty).run Tryd.prog (w.iter u pos) = _ := hnx0
          have hq : (((Utf8.decode u pos).1 : Int) == 59) = false := by simp; omega
          have hdg : Ch.dig 16 ((Utf8.decode u pos).1 : Int) = 16 := Ch.dig_high (by omega) 16
          have HN := hide (Ch.num_no (by omega) (by rw [Ch.dig_high h0 16]; decide) HC.out)
          go_wp2_with (go_at_call 42; refine (digitC_any _ _ (by omega) (by omega)).mono ?_; rintro e w' ⟨rfl, rfl⟩; rw [hdg])
          go_ret2
          refine ⟨?_, below_iter w u _⟩
          rw [numC_none HN.out]; rfl
      · have hnx : ∀ ty, (Instr.next (.pointer (some ⟨w.heap.size, 0, none⟩)) true ty).run Tryd.prog (w.iter u pos) = _ := fun ty => run_next_end w u pos ty hp
        go_wp2
        go_ret2
        refine ⟨?_, below_iter w u _⟩
        rw [numC_none (Ch.num_end (by decide) hp HC.out)]; rfl
end Go.Proofs.YtbjpimnmgonebaaDoor
