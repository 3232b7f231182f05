import Derived.Test.YtbjpimnmgonebaaDoorWm
import Derived.Lib.SmallJoins
namespace Go.Proofs.YtbjpimnmgonebaaDoor
open Go.RowKit

theorem bytes_of {T : ByteArray} {l : List UInt8} (h : T.data.toList = l) : T = ⟨l.toArray⟩ := by
  subst h; rfl

theorem bz_at (s : ByteArray) (pos : Nat) (h : pos < s.size) : (s[pos].toNat : Int) = Ch.bz s pos := by
  have e : (s.get! pos) = s[pos] := by
    simp [ByteArray.get!, h]; rfl
  rw [Ch.bz, if_pos h, e]

set_option maxHeartbeats 4000000 in
set_option maxRecDepth 1000000 in
theorem unescapeR_any (s : ByteArray) (w : World) (hs : s.size ≤ 140737488351232) :
    Calls Tryd.prog 14 #[.string s] w fun e w' => e = .returned (.tuple #[.string ⟨(Ch.unesc s).1.toArray⟩, .int .i64 (Ch.unesc s).2.1, .int .i64 (Ch.unesc s).2.2]) ∧ Below w.heap.size w w' := by
  have hs2 : s.size ≤ 1125899906842624 := by omega
  go_enter Tryd.func14, Tryd.ntmps14
  go_wp2
  go_loopw [5, 6, 7, 8, 9, 10] (fun t i _ _ _ _ wr => ∃ (pos fuel : Nat) (T : ByteArray), t = .string T ∧ i = .int .i64 pos ∧ Below w.heap.size w wr ∧ Hid (Ch.unescFrom s fuel pos T.data.toList = Ch.unesc s) ∧ s.size < pos + fuel ∧ pos ≤ s.size ∧ T.size ≤ pos) (fun _ i _ _ _ _ _ => s.size - (intOf i).toNat)
  case atStart => exact ⟨0, s.size + 1, ⟨#[]⟩, rfl, rfl, Below.refl _ _, rfl, by omega, by omega, by decide⟩
  case round =>
    obtain ⟨pos, fuel, T, rfl, rfl, hbw, HC, hf, hl, hTs⟩ := hrel
    obtain ⟨f, rfl⟩ : ∃ f, fuel = f + 1 := ⟨fuel - 1, by omega⟩
    by_cases hp : pos < s.size
    · have hwd := Ch.decode_width s pos hp
      have hat := Ch.at2_pos s pos hp
      cases hok : Ch.okAt s pos
      · rw [hok] at hat
        simp only [Bool.false_eq_true, if_false] at hat
        have HA := hide hat
        clear hat
        have HN := hide (Ch.unesc_char hp hok HC.out)
        go_wp2_with (go_at_call 21; refine (At_any _ _ _ hs2 hl).mono ?_; rintro e w' ⟨rfl, rfl⟩; rw [HA.out])
        go_ret3
        refine ⟨?_, hbw⟩
        rw [HN.out]; rfl
      · rw [hok] at hat
        simp only [if_true] at hat
        have HA := hide hat
        clear hat
        have hz : (((Utf8.decode s pos).2 : Int) == 0) = false := by rw [beq_eq_false_iff_ne]; omega
        have hbz := bz_at s pos hp
        by_cases h38 : Ch.bz s pos = 38
        · have hq : ((s[pos].toNat : Int) != 38) = false := by rw [hbz, h38]; rfl
          have H38 := hide h38
          clear hbz h38
          by_cases hr : (Ch.refAt s pos).2 = 0
          · have HN := hide (Ch.unesc_noref hp hok H38.out hr HC.out)
            have hR : refR s pos = ([], -1) := by simp [refR, hr]
            have HR := hide hR
            clear hR hr
            go_wp2_with (first | (go_at_call 21; refine (At_any _ _ _ hs2 hl).mono ?_; rintro e w' ⟨rfl, rfl⟩; rw [HA.out]) | (go_at_call 28; refine (Ref_any _ _ _ hs2 hl).mono ?_; rintro e w1 ⟨rfl, b1⟩; rw [HR.out]))
            go_ret3
            refine ⟨?_, below_on hbw b1⟩
            rw [HN.out]; rfl
          · have HN := hide (Ch.unesc_ref hp hok H38.out hr HC.out)
            obtain ⟨r1, r2, r3, r4⟩ := Ch.refAt_spec hr
            have hR : refR s pos = (Lib.encodeRune (Ch.refAt s pos).1, (pos : Int) + (Ch.refAt s pos).2) := by simp [refR, hr]
            have hel := Ch.encode_le (Ch.refAt s pos).1
            obtain ⟨n, hn⟩ : ∃ n : Nat, (Ch.refAt s pos).2 = n := ⟨(Ch.refAt s pos).2.toNat, by omega⟩
            rw [hn] at r2 r3 hR HN
            rw [Int.toNat_natCast] at HN
            have HR := hide hR
            clear hR hr r1 r4 hn
            generalize Lib.encodeRune (Ch.refAt s pos).1 = L at *
            go_wp2_with (first | (go_at_call 21; refine (At_any _ _ _ hs2 hl).mono ?_; rintro e w' ⟨rfl, rfl⟩; rw [HA.out]) | (go_at_call 28; refine (Ref_any _ _ _ hs2 hl).mono ?_; rintro e w1 ⟨rfl, b1⟩; rw [HR.out]))
            have hT : (T ++ ⟨L.toArray⟩).data.toList = T.data.toList ++ L := by
              rw [Joins.data_append]
            have hLs : (⟨L.toArray⟩ : ByteArray).size = L.length := by
              show L.toArray.size = _
              simp
            have hsz : (T ++ ⟨L.toArray⟩).size ≤ pos + n := by
              rw [ByteArray.size_append, hLs]; omega
            exact ⟨⟨pos + n, f, _, rfl, by go_num, below_on hbw b1, by rw [hT]; exact HN, by omega, by omega, hsz⟩, by simp [intOf]; omega⟩
        · have hq : ((s[pos].toNat : Int) != 38) = true := by rw [hbz, bne_iff_ne]; exact h38
          have HN := hide (Ch.unesc_on hp hok h38 HC.out)
          rw [Ch.encode_decode hp hok] at HN
          clear hbz h38
          go_wp2_with (go_at_call 21; refine (At_any _ _ _ hs2 hl).mono ?_; rintro e w' ⟨rfl, rfl⟩; rw [HA.out])
          have hT : (T ++ s.extract pos (pos + (Utf8.decode s pos).2)).data.toList = T.data.toList ++ Ch.bytes s pos (Utf8.decode s pos).2 := by
            rw [Joins.data_append, extract_bytes, Nat.add_sub_cancel_left]
          have hsz : (T ++ s.extract pos (pos + (Utf8.decode s pos).2)).size ≤ pos + (Utf8.decode s pos).2 := by
            have := extract_size s pos (pos + (Utf8.decode s pos).2)
            rw [ByteArray.size_append]; omega
          exact ⟨⟨pos + (Utf8.decode s pos).2, f, _, rfl, by go_num, hbw, by rw [hT]; exact HN, by omega, by omega, hsz⟩, by simp [intOf]; omega⟩
    · have HN := hide (Ch.unesc_end hp HC.out)
      go_wp2
      go_ret3
      refine ⟨?_, hbw⟩
      rw [HN.out, bytes_of (T := T) rfl]
      rfl
end Go.Proofs.YtbjpimnmgonebaaDoor
