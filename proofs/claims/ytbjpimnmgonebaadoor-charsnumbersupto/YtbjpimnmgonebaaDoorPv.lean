import Derived.Test.YtbjpimnmgonebaaDoorPu
namespace Go.Proofs.YtbjpimnmgonebaaDoor.Ch
open Go

/-- Enough steps are enough. -/
theorem unesc_fuel (s : ByteArray) : ∀ F F' pos acc, pos ≤ s.size → s.size < pos + F → s.size < pos + F' → unescFrom s F pos acc = unescFrom s F' pos acc := by
  intro F
  induction F with
  | zero => intro F' pos acc h0 h h'; omega
  | succ F ih =>
    intro F' pos acc h0 h h'
    obtain ⟨F', rfl⟩ : ∃ k, F' = k + 1 := ⟨F' - 1, by omega⟩
    rw [unescFrom.eq_2, unescFrom.eq_2]
    by_cases hp : pos < s.size
    · rw [if_pos hp, if_pos hp]
      by_cases ho : okAt s pos = true
      · rw [if_pos ho, if_pos ho]
        by_cases h38 : bz s pos = 38
        · rw [if_pos h38, if_pos h38]
          by_cases hr : (refAt s pos).2 = 0
          · rw [if_pos hr, if_pos hr]
          · rw [if_neg hr, if_neg hr]
            obtain ⟨_, r2, r3, _⟩ := refAt_spec hr
            exact ih F' _ _ (by omega) (by omega) (by omega)
        · rw [if_neg h38, if_neg h38]
          have hw := decode_width s pos hp
          exact ih F' _ _ (by omega) (by omega) (by omega)
      · rw [if_neg ho, if_neg ho]
    · rw [if_neg hp, if_neg hp]

/-- C4's answer from a place on, with steps enough. -/
def un (s : ByteArray) (pos : Nat) (acc : List UInt8) : List UInt8 × Int × Int := unescFrom s (s.size + 1) pos acc

theorem un_step {s : ByteArray} {pos : Nat} {acc : List UInt8} (F : Nat) (h0 : pos ≤ s.size) (h : s.size < pos + F) : unescFrom s F pos acc = un s pos acc :=
  unesc_fuel s _ _ _ _ h0 h (by omega)

theorem un_end {s : ByteArray} {pos : Nat} {acc : List UInt8} (hp : ¬ pos < s.size) : un s pos acc = (acc, 0, 0) := unesc_end hp rfl
theorem un_on {s : ByteArray} {pos : Nat} {acc : List UInt8} (hp : pos < s.size) (ho : okAt s pos = true) (h38 : ¬ bz s pos = 38) :
    un s pos acc = un s (pos + (Utf8.decode s pos).2) (acc ++ Lib.encodeRune (Utf8.decode s pos).1) := by
  have hw := decode_width s pos hp
  have := unesc_on hp ho h38 (rfl : un s pos acc = _)
  rw [← this]
  exact un_step _ (by omega) (by omega)
theorem un_noref {s : ByteArray} {pos : Nat} {acc : List UInt8} (hp : pos < s.size) (ho : okAt s pos = true) (h38 : bz s pos = 38) (hr : (refAt s pos).2 = 0) : un s pos acc = ([], 4, (pos : Int)) := unesc_noref hp ho h38 hr rfl
theorem un_ref {s : ByteArray} {pos : Nat} {acc : List UInt8} (hp : pos < s.size) (ho : okAt s pos = true) (h38 : bz s pos = 38) (hr : ¬ (refAt s pos).2 = 0) :
    un s pos acc = un s (pos + (refAt s pos).2.toNat) (acc ++ Lib.encodeRune (refAt s pos).1) := by
  obtain ⟨_, r2, r3, _⟩ := refAt_spec hr
  have := unesc_ref hp ho h38 hr (rfl : un s pos acc = _)
  rw [← this]
  exact un_step _ (by omega) (by omega)

/-- Nothing, or an &: what may stand behind so that no character goes on. -/
def stops (B : List UInt8) : Prop := ¬ cont (txt B) 0

theorem bz_mid (A B : List UInt8) (s : ByteArray) (k : Nat) (h : k < s.size) : bz (txt (A ++ s.data.toList ++ B)) (A.length + k) = bz s k := by
  rw [List.append_assoc, bz_app, bz_app_left _ _ _ (by simpa using h), txt_self]

theorem decode_in (A B : List UInt8) (s : ByteArray) (p : Nat) (hB : stops B) (hp : p < s.size) : Utf8.decode (txt (A ++ s.data.toList ++ B)) (A.length + p) = Utf8.decode s p := by
  have hb := fun k hk => bz_mid A B s k hk
  have hend : ∀ k, ¬ k < s.size → bz s k = -1 := fun k hk => by unfold bz; rw [if_neg hk]
  have hno : ∀ k, k ≤ s.size → (cont s k → bz s k = bz (txt (A ++ s.data.toList ++ B)) (A.length + k)) ∧ (¬ cont s k → ¬ cont (txt (A ++ s.data.toList ++ B)) (A.length + k)) := by
    intro k hk
    by_cases hks : k < s.size
    · have := hb k hks
      exact ⟨fun _ => this.symm, fun hn q => hn (by unfold cont at *; rw [← this]; exact q)⟩
    · obtain rfl : k = s.size := by omega
      refine ⟨fun q => by unfold cont at q; rw [hend _ hks] at q; omega, fun _ q => hB ?_⟩
      have e := bz_app (A ++ s.data.toList) B 0
      rw [Nat.add_zero, List.length_append] at e
      have hl : s.data.toList.length = s.size := by simp
      rw [hl] at e
      unfold cont at *
      rw [← e]; exact q
  have hlt : ∀ k, cont s k → k < s.size := by
    intro k hk
    by_cases h : k < s.size
    · exact h
    · unfold cont at hk; rw [hend _ h] at hk; omega
  have h0 := hb p hp
  have hs0 : 0 ≤ bz s p := by unfold bz; rw [if_pos hp]; omega
  by_cases ha : bz s p < 128
  · rw [decode_one hs0 ha, decode_one (by omega) (by omega), h0]
  · refine decode_same (s := s) (i := p) h0.symm (by omega) ?_ ?_ ?_ ?_ ?_ ?_
    · exact (hno (p + 1) (by omega)).1
    · exact (hno (p + 1) (by omega)).2
    · exact fun h1 => (hno (p + 2) (by have := hlt _ h1; omega)).1
    · exact fun h1 => (hno (p + 2) (by have := hlt _ h1; omega)).2
    · exact fun _ h2 => (hno (p + 3) (by have := hlt _ h2; omega)).1
    · exact fun _ h2 => (hno (p + 3) (by have := hlt _ h2; omega)).2

/-- A text that is right and has no &: it is gone through as it stands, wherever it stands. -/
theorem run_plain (A B : List UInt8) (s : ByteArray) (hB : stops B) (hno : ∀ k, k < s.size → ¬ bz s k = 38) : ∀ f p acc, p ≤ s.size → s.size < p + f → badFrom s f p = s.size →
    un (txt (A ++ s.data.toList ++ B)) (A.length + p) acc = un (txt (A ++ s.data.toList ++ B)) (A.length + s.size) (acc ++ s.data.toList.drop p) := by
  intro f
  induction f with
  | zero => intro p acc h1 h2; omega
  | succ f ih =>
    intro p acc h1 h2 hbad
    by_cases hp : p < s.size
    · rw [badFrom.eq_2, if_pos hp] at hbad
      cases hok : okAt s p
      · rw [hok, if_neg (by decide)] at hbad; omega
      · rw [hok, if_pos rfl] at hbad
        have hd := decode_in A B s p hB hp
        have hb := bz_mid A B s p hp
        have hw := decode_width s p hp
        have hsz : A.length + p < (txt (A ++ s.data.toList ++ B)).size := by
          rw [txt_size]; simp; omega
        have hacc : (acc ++ bytes s p (Utf8.decode s p).2) ++ s.data.toList.drop (p + (Utf8.decode s p).2) = acc ++ s.data.toList.drop p := by
          have e : s.data.toList.drop (p + (Utf8.decode s p).2) = (s.data.toList.drop p).drop (Utf8.decode s p).2 := by rw [List.drop_drop]
          rw [List.append_assoc, e]
          unfold bytes
          rw [List.take_append_drop]
        rw [un_on hsz (by rw [okAt_of hd]; exact hok) (by rw [hb]; exact hno p hp), hd, Nat.add_assoc, ih _ _ hw.1 (by omega) hbad, encode_decode hp hok, hacc]
    · obtain rfl : p = s.size := by omega
      rw [List.drop_eq_nil_of_le (by simp), List.append_nil]

/-- A number's decimal digits. -/
def decF : Nat → Nat → List UInt8
  | 0, _ => []
  | f + 1, n => if n < 10 then [UInt8.ofNat (48 + n)] else decF f (n / 10) ++ [UInt8.ofNat (48 + n % 10)]

def bothN (c : Int) (r : Nat) : Prop := (c = r ∧ r ≤ 1114111) ∨ (1114111 < c ∧ 1114111 < r)

theorem digit_byte (d : Nat) (h : d < 10) : ((UInt8.ofNat (48 + d)).toNat : Int) = 48 + d := by
  have : (UInt8.ofNat (48 + d)).toNat = 48 + d := by
    simp; omega
  omega
theorem dig_digit (d : Nat) (h : d < 10) : dig 16 (48 + (d : Int)) = d := by
  unfold dig
  rw [if_pos (by omega)]; omega

theorem num_digit {u : ByteArray} {F pos : Nat} {c : Int} (d : Nat) (h : d < 10) (hb : bz u pos = 48 + (d : Int)) :
    numFrom u 10 (F + 1) pos c = numFrom u 10 F (pos + 1) (if c ≤ 1114111 then c * 10 + d else c) := by
  rw [numFrom.eq_2, hb, if_neg (by omega), dig_digit d h, if_neg (by omega)]

theorem num_dec (u : ByteArray) : ∀ f n a F, n < 10 ^ f → (∀ k (hk : k < (decF f n).length), bz u (a + k) = (((decF f n)[k]).toNat : Int)) →
    ∃ v, bothN v n ∧ numFrom u 10 (F + (decF f n).length) a 0 = numFrom u 10 F (a + (decF f n).length) v := by
  intro f
  induction f with
  | zero => intro n a F hn; simp at hn; subst hn; intro _; exact ⟨0, Or.inl ⟨rfl, by omega⟩, rfl⟩
  | succ f ih =>
    intro n a F hn hk
    by_cases h10 : n < 10
    · have e : decF (f + 1) n = [UInt8.ofNat (48 + n)] := by simp [decF, h10]
      rw [e] at hk ⊢
      have hb := hk 0 (by simp)
      simp only [List.getElem_cons_zero, Nat.add_zero] at hb
      rw [digit_byte n h10] at hb
      refine ⟨n, Or.inl ⟨rfl, by omega⟩, ?_⟩
      simp only [List.length_singleton]
      rw [num_digit n h10 hb]
      simp
    · have e : decF (f + 1) n = decF f (n / 10) ++ [UInt8.ofNat (48 + n % 10)] := by simp [decF, h10]
      have hn' : n / 10 < 10 ^ f := by
        rw [Nat.pow_succ] at hn
        exact Nat.div_lt_of_lt_mul (by omega)
      rw [e] at hk ⊢
      obtain ⟨v, hv, hvn⟩ := ih (n / 10) a (F + 1) hn' (fun k hk' => by
        have := hk k (by simp; omega)
        rw [List.getElem_append_left hk'] at this
        exact this)
      have hb := hk (decF f (n / 10)).length (by simp)
      simp only [List.getElem_concat_length] at hb
      rw [digit_byte (n % 10) (by omega)] at hb
      refine ⟨if v ≤ 1114111 then v * 10 + ((n % 10 : Nat) : Int) else v, ?_, ?_⟩
      · unfold bothN at *
        split <;> omega
      · simp only [List.length_append, List.length_singleton]
        rw [show F + ((decF f (n / 10)).length + 1) = F + 1 + (decF f (n / 10)).length by omega, hvn, num_digit (n % 10) (by omega) hb, Nat.add_assoc]

theorem decF_pos (f n : Nat) : 1 ≤ (decF (f + 1) n).length := by
  unfold decF
  split <;> simp
theorem decF_le (f n : Nat) : (decF f n).length ≤ f := by
  induction f generalizing n with
  | zero => simp [decF]
  | succ f ih =>
    unfold decF
    split
    · simp
    · have := ih (n / 10); simp; omega
theorem decF_digit (f n : Nat) : ∀ x ∈ decF f n, 48 ≤ x.toNat ∧ x.toNat ≤ 57 := by
  induction f generalizing n with
  | zero => simp [decF]
  | succ f ih =>
    unfold decF
    split
    · rename_i h
      intro x hx
      simp only [List.mem_singleton] at hx
      have := digit_byte n h
      subst hx; omega
    · intro x hx
      rw [List.mem_append, List.mem_singleton] at hx
      rcases hx with hx | hx
      · exact ih _ x hx
      · have := digit_byte (n % 10) (by omega)
        subst hx; omega

theorem bothN_may {c : Int} {r : Nat} (h : bothN c r) : may c = may (r : Int) := by
  rcases h with ⟨h, _⟩ | ⟨h1, h2⟩
  · rw [h]
  · rw [may_false (by omega), may_false (by omega)]
theorem bothN_of_may {c : Int} {r : Nat} (h : bothN c r) (hm : may (r : Int) = true) : c = r := by
  rcases h with ⟨h, _⟩ | ⟨h1, h2⟩
  · exact h
  · rw [may_false (by omega)] at hm; cases hm

/-- A reference by its number. -/
theorem refAt_num (f n : Nat) (Z : List UInt8) (hn : n < 10 ^ (f + 1)) : refAt (txt ([38, 35] ++ decF (f + 1) n ++ [59] ++ Z)) 0 = if may (n : Int) = true then ((n : Int), ((decF (f + 1) n).length : Int) + 3) else (0, 0) := by
  have hp := decF_pos f n
  have hdg := decF_digit (f + 1) n
  generalize hD : decF (f + 1) n = D at *
  have hnum := fun F => num_dec (txt ([38, 35] ++ D ++ [59] ++ Z)) (f + 1) n 2 F hn (by
    intro k hk
    rw [hD] at hk
    rw [bz_txt]
    simp only [hD]
    rw [show [38, 35] ++ D ++ [59] ++ Z = [38, 35] ++ (D ++ ([59] ++ Z)) by simp, List.getElem?_append_right (by simp), List.getElem?_append_left (by simpa using hk)]
    simp [List.getElem?_eq_getElem hk])
  rw [hD] at hnum
  obtain ⟨d, D', hDD⟩ : ∃ d D', D = d :: D' := by
    cases D with
    | nil => simp at hp
    | cons d D' => exact ⟨d, D', rfl⟩
  have hd := hdg d (by rw [hDD]; simp)
  have h120 : ¬ d = 120 := fun e => by subst e; revert hd; decide
  have hsz : (txt ([38, 35] ++ D ++ [59] ++ Z)).size - 2 + 1 = (Z.length + 2) + D.length := by
    rw [txt_size]; simp; omega
  have hb59 : bz (txt ([38, 35] ++ D ++ [59] ++ Z)) (2 + D.length) = 59 := by
    rw [bz_txt, show [38, 35] ++ D ++ [59] ++ Z = ([38, 35] ++ D) ++ (59 :: Z) by simp, List.getElem?_append_right (by simp; omega)]
    simp [Nat.add_comm 2 D.length]
  have hnA : numAt (txt ([38, 35] ++ D ++ [59] ++ Z)) 2 10 = if may (n : Int) = true then ((n : Int), (D.length : Int) + 1) else (0, 0) := by
    obtain ⟨v, hv, hvn⟩ := hnum (Z.length + 2)
    unfold numAt
    rw [hsz, hvn, numFrom.eq_2, if_pos hb59, bothN_may hv]
    cases hm : may (n : Int)
    · simp
    · rw [bothN_of_may hv hm]
      have : ¬ (((2 + D.length : Nat) : Int) + 1 = 0) := by omega
      simp only [if_true, this, if_false]
      congr 1
      omega
  have f1 : has (txt ([38, 35] ++ D ++ [59] ++ Z)) 0 [38, 108, 116, 59] = false := by rw [has_txt]; simp [List.isPrefixOf]
  have f2 : has (txt ([38, 35] ++ D ++ [59] ++ Z)) 0 [38, 103, 116, 59] = false := by rw [has_txt]; simp [List.isPrefixOf]
  have f3 : has (txt ([38, 35] ++ D ++ [59] ++ Z)) 0 [38, 97, 109, 112, 59] = false := by rw [has_txt]; simp [List.isPrefixOf]
  have f4 : has (txt ([38, 35] ++ D ++ [59] ++ Z)) 0 [38, 113, 117, 111, 116, 59] = false := by rw [has_txt]; simp [List.isPrefixOf]
  have f5 : has (txt ([38, 35] ++ D ++ [59] ++ Z)) 0 [38, 97, 112, 111, 115, 59] = false := by rw [has_txt]; simp [List.isPrefixOf]
  have f6 : has (txt ([38, 35] ++ D ++ [59] ++ Z)) 0 [38, 35, 120] = false := by
    rw [has_txt, hDD]
    simp [List.isPrefixOf]
    exact fun e => h120 e.symm
  have f7 : has (txt ([38, 35] ++ D ++ [59] ++ Z)) 0 [38, 35] = true := by rw [has_txt]; simp [List.isPrefixOf]
  unfold refAt
  rw [f1, f2, f3, f4, f5, f6, f7, Nat.zero_add, hnA]
  cases hm : may (n : Int)
  · simp
  · have : ¬ ((D.length : Int) + 1 = 0) := by omega
    simp only [Bool.false_eq_true, if_false, if_true, this]
    congr 1
    omega

theorem stops_amp (Y : List UInt8) : stops (38 :: Y) := by
  unfold stops cont
  rw [bz_head]
  decide
theorem stops_nil : stops [] := by
  unfold stops cont
  rw [bz_txt]
  simp

/-- A number stands for its character, whatever stands beside; if there is none, it is no reference. -/
theorem numbers (s : ByteArray) (f n : Nat) (hn : n < 10 ^ (f + 1)) (hbad : bad s = s.size) (hno : ∀ k, k < s.size → ¬ bz s k = 38) :
    unesc (txt (s.data.toList ++ ([38, 35] ++ decF (f + 1) n ++ [59] ++ s.data.toList))) = if may (n : Int) = true then (s.data.toList ++ Lib.encodeRune (n : Int) ++ s.data.toList, 0, 0) else ([], 4, (s.size : Int)) := by
  have hX : s.data.toList ++ ([38, 35] ++ decF (f + 1) n ++ [59] ++ s.data.toList) = [] ++ s.data.toList ++ ([38, 35] ++ decF (f + 1) n ++ [59] ++ s.data.toList) := by simp
  have hl : s.data.toList.length = s.size := by simp
  have h1 := run_plain [] ([38, 35] ++ decF (f + 1) n ++ [59] ++ s.data.toList) s (by simpa using stops_amp _) hno (s.size + 1) 0 [] (by omega) (by omega) hbad
  rw [← hX] at h1
  simp only [List.length_nil, Nat.zero_add, List.drop_zero, List.nil_append] at h1
  have h0 : unesc (txt (s.data.toList ++ ([38, 35] ++ decF (f + 1) n ++ [59] ++ s.data.toList))) = un (txt (s.data.toList ++ ([38, 35] ++ decF (f + 1) n ++ [59] ++ s.data.toList))) 0 [] := rfl
  have hra0 := refAt_num f n s.data.toList hn
  have hte : tail (txt (s.data.toList ++ ([38, 35] ++ decF (f + 1) n ++ [59] ++ s.data.toList))) s.size = txt ([38, 35] ++ decF (f + 1) n ++ [59] ++ s.data.toList) := by
    apply ByteArray.ext
    apply Array.toList_inj.1
    show (s.data.toList ++ ([38, 35] ++ decF (f + 1) n ++ [59] ++ s.data.toList)).toArray.toList.drop s.size = _
    rw [List.toList_toArray, List.drop_left' hl]
    rfl
  have hra : refAt (txt (s.data.toList ++ ([38, 35] ++ decF (f + 1) n ++ [59] ++ s.data.toList))) s.size = if may (n : Int) = true then ((n : Int), ((decF (f + 1) n).length : Int) + 3) else (0, 0) := by
    rw [← refAt_tail, hte]; exact hra0
  have hsz : s.size < (txt (s.data.toList ++ ([38, 35] ++ decF (f + 1) n ++ [59] ++ s.data.toList))).size := by
    rw [txt_size]; simp
  have hb38 : bz (txt (s.data.toList ++ ([38, 35] ++ decF (f + 1) n ++ [59] ++ s.data.toList))) s.size = 38 := by
    have := tail_bz (txt (s.data.toList ++ ([38, 35] ++ decF (f + 1) n ++ [59] ++ s.data.toList))) s.size 0
    rw [hte] at this
    exact this.symm.trans (bz_head 38 _)
  have hok : okAt (txt (s.data.toList ++ ([38, 35] ++ decF (f + 1) n ++ [59] ++ s.data.toList))) s.size = true := by
    unfold okAt
    rw [decode_one (by omega) (by omega), hb38]; decide
  rw [h0, h1]
  cases hm : may (n : Int)
  · rw [hm] at hra
    simp only [Bool.false_eq_true, if_false] at hra ⊢
    exact un_noref hsz hok hb38 (by rw [hra])
  · rw [hm] at hra
    simp only [if_true] at hra ⊢
    rw [un_ref hsz hok hb38 (by rw [hra]; simp only; omega), hra]
    simp only
    have hY : s.data.toList ++ ([38, 35] ++ decF (f + 1) n ++ [59] ++ s.data.toList) = (s.data.toList ++ [38, 35] ++ decF (f + 1) n ++ [59]) ++ s.data.toList ++ [] := by simp
    have hlen : s.size + (((decF (f + 1) n).length : Int) + 3).toNat = (s.data.toList ++ [38, 35] ++ decF (f + 1) n ++ [59]).length + 0 := by
      simp; omega
    have h2 := run_plain (s.data.toList ++ [38, 35] ++ decF (f + 1) n ++ [59]) [] s stops_nil hno (s.size + 1) 0 (s.data.toList ++ Lib.encodeRune (n : Int)) (by omega) (by omega) hbad
    rw [← hY, ← hlen, List.drop_zero] at h2
    rw [h2]
    refine un_end ?_
    rw [txt_size]
    simp; omega
end Go.Proofs.YtbjpimnmgonebaaDoor.Ch
