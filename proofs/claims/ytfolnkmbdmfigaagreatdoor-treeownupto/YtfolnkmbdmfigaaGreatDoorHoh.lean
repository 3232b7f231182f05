import Derived.Test.YtfolnkmbdmfigaaGreatDoorHog
set_option linter.unusedVariables false
set_option linter.unusedSimpArgs false
set_option linter.unusedSimpArgs false
set_option linter.unusedVariables false
namespace Go.Proofs.YtfolnkmbdmfigaaGreatDoor
open Go.RowKit Go.Maps Go.Lib

def spoilV : Value := .string ⟨#[115, 112, 111, 105, 108, 116]⟩
def Tag (w : World) (b : Nat) (t : TypeId) : Prop := ∃ cur, w.heap[b]? = some (.cells cur t (0, 0))
theorem Tag.one {w : World} {b : Nat} {t u : TypeId} (h : Tag w b t) (k : Tag w b u) : t = u := by
  obtain ⟨c, h⟩ := h
  obtain ⟨d, k⟩ := k
  rw [h] at k
  simp only [Option.some.injEq, Obj.cells.injEq] at k
  exact k.2.1
theorem Tag.set {w : World} {b : Nat} {t : TypeId} (d o : Nat) (v : Value) (h : Tag w b t) : Tag (w.setCell ⟨d, o, none⟩ v) b t := by
  obtain ⟨cur, h⟩ := h
  by_cases e : d = b
  · subst e; exact ⟨_, set_of h v⟩
  · exact ⟨cur, (Below.heap_setCell w ⟨d, o, none⟩ v b (fun x => e x.symm)).trans h⟩
theorem Tag.lt {w : World} {b : Nat} {t : TypeId} (h : Tag w b t) : b < w.heap.size := by obtain ⟨c, h⟩ := h; exact blk_lt h
structure Spoil (B : Nat) (w0 : World) (g n : Nat) (Ga Gk : Nat → Option Addr) (Ma Ca Mk Ck : Nat → Nat) (wr : World) (iu ik kk ia ka : Nat) : Prop where
  row : n ≠ 0 → B ≤ g ∧ Tag wr g 42
  attr : ∀ j, j < n → wr.cell? ⟨g, j * 5 + 1, none⟩ = some (.slice (Ga j) (Ma j) (Ca j))
  kids : ∀ j, j < n → wr.cell? ⟨g, j * 5 + 3, none⟩ = some (.slice (Gk j) (Mk j) (Ck j))
  up : ∀ j, j < n → ∃ z, wr.cell? ⟨g, j * 5 + 4, none⟩ = some (.int .i64 z)
  krow : ∀ j m, j < n → m < Mk j → ∃ h z, Gk j = some ⟨h, 0, none⟩ ∧ B ≤ h ∧ Tag wr h 3 ∧ wr.cell? ⟨h, m, none⟩ = some (.int .i64 z)
  arow : ∀ j m, j < n → m < Ma j → ∃ h x, Ga j = some ⟨h, 0, none⟩ ∧ B ≤ h ∧ Tag wr h 44 ∧ wr.cell? ⟨h, m * 2 + 1, none⟩ = some (.string x)
  doneU : ∀ j, j < iu → j < n → wr.cell? ⟨g, j * 5 + 4, none⟩ = some (.int .i64 (-9))
  doneK : ∀ j m h, (j < ik ∨ (j = ik ∧ m < kk)) → j < n → m < Mk j → Gk j = some ⟨h, 0, none⟩ → wr.cell? ⟨h, m, none⟩ = some (.int .i64 (-9))
  doneA : ∀ j m h, (j < ia ∨ (j = ia ∧ m < ka)) → j < n → m < Ma j → Ga j = some ⟨h, 0, none⟩ → wr.cell? ⟨h, m * 2 + 1, none⟩ = some spoilV
  past : Below B w0 wr
  len : ∀ j, j < n → (Ma j : Int) ≤ 9223372036854775807 ∧ (Mk j : Int) ≤ 9223372036854775807
variable {B g n : Nat} {w0 wr : World} {Ga Gk : Nat → Option Addr} {Ma Ca Mk Ck : Nat → Nat} {iu ik kk ia ka : Nat}
theorem Spoil.store {b o : Nat} {t : TypeId} {v : Value} (h : Spoil B w0 g n Ga Gk Ma Ca Mk Ck wr iu ik kk ia ka) (hb : B ≤ b) (ht : Tag wr b t) {old : Value} (hx : wr.cell? ⟨b, o, none⟩ = some old)
    (hv : (t = 42 ∧ (∃ i, o = i * 5 + 4) ∧ v = .int .i64 (-9)) ∨ (t = 3 ∧ v = .int .i64 (-9)) ∨ (t = 44 ∧ v = spoilV)) :
    Spoil B w0 g n Ga Gk Ma Ca Mk Ck (wr.setCell ⟨b, o, none⟩ v) iu ik kk ia ka ∧ (wr.setCell ⟨b, o, none⟩ v).cell? ⟨b, o, none⟩ = some v := by
  have hs : (wr.setCell ⟨b, o, none⟩ v).cell? ⟨b, o, none⟩ = some v := World.cell?_setCell_same _ _ _ hx
  have hc : ∀ d p, ¬ (d = b ∧ p = o) → (wr.setCell ⟨b, o, none⟩ v).cell? ⟨d, p, none⟩ = wr.cell? ⟨d, p, none⟩ := fun d p hne => World.cell?_setCell_other _ _ _ _ (by
    simp only [ne_eq, Addr.mk.injEq, and_true]; rintro ⟨h1, h2⟩; exact hne ⟨h1.symm, h2.symm⟩)
  -- a cell of a row of a kind: as it was, or set
  have key : ∀ d p u, Tag wr d u → ∀ x, wr.cell? ⟨d, p, none⟩ = some x → ((wr.setCell ⟨b, o, none⟩ v).cell? ⟨d, p, none⟩ = some x) ∨ (u = t ∧ p = o ∧ (wr.setCell ⟨b, o, none⟩ v).cell? ⟨d, p, none⟩ = some v) := fun d p u hu x hd => by
    by_cases e : d = b ∧ p = o
    · obtain ⟨rfl, rfl⟩ := e
      exact Or.inr ⟨hu.one ht, rfl, hs⟩
    · exact Or.inl (by rw [hc d p e]; exact hd)
  refine ⟨⟨fun hn => ⟨(h.row hn).1, (h.row hn).2.set _ _ _⟩, fun j hj => ?_, fun j hj => ?_, fun j hj => ?_, fun j m hj hm => ?_, fun j m hj hm => ?_, fun j hj hn => ?_, fun j m d hd hj hm e => ?_, fun j m d hd hj hm e => ?_, ?_, h.len⟩, hs⟩
  · rcases key g _ 42 (h.row (by omega)).2 _ (h.attr j hj) with e | ⟨e1, e2, e3⟩
    · exact e
    · rcases hv with ⟨_, ⟨i, hi⟩, _⟩ | ⟨x, _⟩ | ⟨x, _⟩
      · omega
      · rw [x] at e1; exact absurd e1 (by decide)
      · rw [x] at e1; exact absurd e1 (by decide)
  · rcases key g _ 42 (h.row (by omega)).2 _ (h.kids j hj) with e | ⟨e1, e2, e3⟩
    · exact e
    · rcases hv with ⟨_, ⟨i, hi⟩, _⟩ | ⟨x, _⟩ | ⟨x, _⟩
      · omega
      · rw [x] at e1; exact absurd e1 (by decide)
      · rw [x] at e1; exact absurd e1 (by decide)
  · obtain ⟨z, hz⟩ := h.up j hj
    rcases key g _ 42 (h.row (by omega)).2 _ hz with e | ⟨e1, e2, e3⟩
    · exact ⟨z, e⟩
    · rcases hv with ⟨_, _, x⟩ | ⟨x, _⟩ | ⟨x, _⟩
      · exact ⟨-9, by rw [e3, x]⟩
      · rw [x] at e1; exact absurd e1 (by decide)
      · rw [x] at e1; exact absurd e1 (by decide)
  · obtain ⟨d, z, e0, hd, hT, hz⟩ := h.krow j m hj hm
    rcases key d _ 3 hT _ hz with e | ⟨e1, e2, e3⟩
    · exact ⟨d, z, e0, hd, hT.set _ _ _, e⟩
    · rcases hv with ⟨x, _⟩ | ⟨_, x⟩ | ⟨x, _⟩
      · rw [x] at e1; exact absurd e1 (by decide)
      · exact ⟨d, -9, e0, hd, hT.set _ _ _, by rw [e3, x]⟩
      · rw [x] at e1; exact absurd e1 (by decide)
  · obtain ⟨d, z, e0, hd, hT, hz⟩ := h.arow j m hj hm
    rcases key d _ 44 hT _ hz with e | ⟨e1, e2, e3⟩
    · exact ⟨d, z, e0, hd, hT.set _ _ _, e⟩
    · rcases hv with ⟨x, _⟩ | ⟨x, _⟩ | ⟨_, x⟩
      · rw [x] at e1; exact absurd e1 (by decide)
      · rw [x] at e1; exact absurd e1 (by decide)
      · exact ⟨d, _, e0, hd, hT.set _ _ _, by rw [e3, x]; rfl⟩
  · rcases key g _ 42 (h.row (by omega)).2 _ (h.doneU j hj hn) with e | ⟨e1, e2, e3⟩
    · exact e
    · rcases hv with ⟨_, _, x⟩ | ⟨x, _⟩ | ⟨x, _⟩
      · rw [e3, x]
      · rw [x] at e1; exact absurd e1 (by decide)
      · rw [x] at e1; exact absurd e1 (by decide)
  · obtain ⟨d', z, e0, _, hT, _⟩ := h.krow j m hj hm
    rw [e] at e0
    cases e0
    rcases key d _ 3 hT _ (h.doneK j m d hd hj hm e) with e | ⟨e1, e2, e3⟩
    · exact e
    · rcases hv with ⟨x, _⟩ | ⟨_, x⟩ | ⟨x, _⟩
      · rw [x] at e1; exact absurd e1 (by decide)
      · rw [e3, x]
      · rw [x] at e1; exact absurd e1 (by decide)
  · obtain ⟨d', z, e0, _, hT, _⟩ := h.arow j m hj hm
    rw [e] at e0
    cases e0
    rcases key d _ 44 hT _ (h.doneA j m d hd hj hm e) with e | ⟨e1, e2, e3⟩
    · exact e
    · rcases hv with ⟨x, _⟩ | ⟨x, _⟩ | ⟨_, x⟩
      · rw [x] at e1; exact absurd e1 (by decide)
      · rw [x] at e1; exact absurd e1 (by decide)
      · rw [e3, x]
  · have hz : (wr.setCell ⟨b, o, none⟩ v).heap.size = wr.heap.size := by simp [World.setCell]
    exact h.past.trans ⟨rfl, rfl, rfl, by rw [hz]; exact Nat.le_refl _, fun k hk => Below.heap_setCell _ _ _ _ (by show k ≠ b; omega)⟩
theorem Spoil.nextU (h : Spoil B w0 g n Ga Gk Ma Ca Mk Ck wr iu ik kk ia ka) (hx : wr.cell? ⟨g, iu * 5 + 4, none⟩ = some (.int .i64 (-9))) : Spoil B w0 g n Ga Gk Ma Ca Mk Ck wr (iu + 1) ik kk ia ka := by
  have key : ∀ j, j < iu + 1 → j < n → wr.cell? ⟨g, j * 5 + 4, none⟩ = some (.int .i64 (-9)) := fun j hj hn => by
    by_cases e : j = iu
    · subst e; exact hx
    · exact h.doneU j (by omega) hn
  exact { h with doneU := key }
theorem Spoil.nextK (h : Spoil B w0 g n Ga Gk Ma Ca Mk Ck wr iu ik kk ia ka) {b : Nat} (e : Gk ik = some ⟨b, 0, none⟩) (hx : wr.cell? ⟨b, kk, none⟩ = some (.int .i64 (-9))) : Spoil B w0 g n Ga Gk Ma Ca Mk Ck wr iu ik (kk + 1) ia ka := by
  have key : ∀ j m d, (j < ik ∨ (j = ik ∧ m < kk + 1)) → j < n → m < Mk j → Gk j = some ⟨d, 0, none⟩ → wr.cell? ⟨d, m, none⟩ = some (.int .i64 (-9)) := fun j m d hd hj hm ed => by
    by_cases q : j = ik ∧ m = kk
    · obtain ⟨rfl, rfl⟩ := q
      rw [e] at ed; cases ed; exact hx
    · exact h.doneK j m d (by omega) hj hm ed
  exact { h with doneK := key }
theorem Spoil.nextA (h : Spoil B w0 g n Ga Gk Ma Ca Mk Ck wr iu ik kk ia ka) {b : Nat} (e : Ga ia = some ⟨b, 0, none⟩) (hx : wr.cell? ⟨b, ka * 2 + 1, none⟩ = some spoilV) : Spoil B w0 g n Ga Gk Ma Ca Mk Ck wr iu ik kk ia (ka + 1) := by
  have key : ∀ j m d, (j < ia ∨ (j = ia ∧ m < ka + 1)) → j < n → m < Ma j → Ga j = some ⟨d, 0, none⟩ → wr.cell? ⟨d, m * 2 + 1, none⟩ = some spoilV := fun j m d hd hj hm ed => by
    by_cases q : j = ia ∧ m = ka
    · obtain ⟨rfl, rfl⟩ := q
      rw [e] at ed; cases ed; exact hx
    · exact h.doneA j m d (by omega) hj hm ed
  exact { h with doneA := key }
theorem Spoil.endK (h : Spoil B w0 g n Ga Gk Ma Ca Mk Ck wr iu ik kk ia ka) (hk : Mk ik ≤ kk) : Spoil B w0 g n Ga Gk Ma Ca Mk Ck wr iu (ik + 1) 0 ia ka :=
  { h with doneK := fun j m d hd hj hm ed => h.doneK j m d (by
      by_cases q : j = ik
      · subst q; exact Or.inr ⟨rfl, by omega⟩
      · exact Or.inl (by omega)) hj hm ed }
theorem Spoil.endA (h : Spoil B w0 g n Ga Gk Ma Ca Mk Ck wr iu ik kk ia ka) (hk : Ma ia ≤ ka) : Spoil B w0 g n Ga Gk Ma Ca Mk Ck wr iu ik kk (ia + 1) 0 :=
  { h with doneA := fun j m d hd hj hm ed => h.doneA j m d (by
      by_cases q : j = ia
      · subst q; exact Or.inr ⟨rfl, by omega⟩
      · exact Or.inl (by omega)) hj hm ed }
theorem Spoil.keep {W : World} (h : Spoil B w0 g n Ga Gk Ma Ca Mk Ck wr iu ik kk ia ka) (hb : Below wr.heap.size wr W) (hB : B ≤ wr.heap.size) : Spoil B w0 g n Ga Gk Ma Ca Mk Ck W iu ik kk ia ka := by
  have tg : ∀ d u, Tag wr d u → Tag W d u := fun d u ht => by
    obtain ⟨c, e⟩ := ht
    exact ⟨c, (hb.block d (blk_lt e)).trans e⟩
  have cl : ∀ d u p, Tag wr d u → W.cell? ⟨d, p, none⟩ = wr.cell? ⟨d, p, none⟩ := fun d u p ht => World.cell?_of_block (hb.block d ht.lt)
  refine ⟨fun hn => ⟨(h.row hn).1, tg _ _ (h.row hn).2⟩, fun j hj => by rw [cl g 42 _ (h.row (by omega)).2]; exact h.attr j hj, fun j hj => by rw [cl g 42 _ (h.row (by omega)).2]; exact h.kids j hj, fun j hj => by rw [cl g 42 _ (h.row (by omega)).2]; exact h.up j hj, fun j m hj hm => ?_, fun j m hj hm => ?_, fun j hj hn => by rw [cl g 42 _ (h.row (by omega)).2]; exact h.doneU j hj hn, fun j m d hd hj hm e => ?_, fun j m d hd hj hm e => ?_, h.past.trans (below_less hb hB), h.len⟩
  · obtain ⟨d, z, e, x1, x2, x3⟩ := h.krow j m hj hm
    exact ⟨d, z, e, x1, tg _ _ x2, by rw [cl d 3 _ x2]; exact x3⟩
  · obtain ⟨d, z, e, x1, x2, x3⟩ := h.arow j m hj hm
    exact ⟨d, z, e, x1, tg _ _ x2, by rw [cl d 44 _ x2]; exact x3⟩
  · obtain ⟨d', z, e0, _, x2, _⟩ := h.krow j m hj hm
    rw [e] at e0
    cases e0
    rw [cl d 3 _ x2]; exact h.doneK j m d hd hj hm e
  · obtain ⟨d', z, e0, _, x2, _⟩ := h.arow j m hj hm
    rw [e] at e0
    cases e0
    rw [cl d 44 _ x2]; exact h.doneA j m d hd hj hm e
def sAddr : Value → Option Addr
  | .slice a _ _ => a
  | _ => none
def sLen : Value → Nat
  | .slice _ n _ => n
  | _ => 0
def sCap : Value → Nat
  | .slice _ _ c => c
  | _ => 0
theorem sAll {w : World} {e : TypeId} {s : Nat} {v : Value} {n : Nat} {xs : List Value} (h : w.ownsRow 0 e s v n xs) : v = .slice (sAddr v) (sLen v) (sCap v) ∧ sLen v = n := by
  obtain ⟨a, c, rfl⟩ := slice_len h
  exact ⟨rfl, rfl⟩
theorem spoil_start {B : Nat} {w0 w : World} {v : Value} {l : List Nd} (h : NAns B w v l) (hb : Below B w0 w) : ∃ ai cap g Ga Gk Ma Ca Mk Ck, v = .slice ai l.length cap ∧ (l.length ≠ 0 → ai = some ⟨g, 0, none⟩) ∧ (l.length : Int) ≤ 9223372036854775807 ∧ Spoil B w0 g l.length Ga Gk Ma Ca Mk Ck w 0 0 0 0 0 := by
  obtain ⟨A, K, av, kv, hn, hA, hK, _⟩ := h
  have hmx : maxLen = 9223372036854775807 := rfl
  have hlen : l.length ≤ maxLen := by
    rcases hn.row.2 with ⟨_, e⟩ | ⟨_, _, _, _, _, _, h1, h2, _⟩
    · omega
    · exact Nat.le_trans h1 h2
  obtain ⟨ai, cap, hv⟩ := slice_len hn.row
  have hg : l.length ≠ 0 → ∃ g, ai = some ⟨g, 0, none⟩ := fun h0 => by
    obtain ⟨g, c, e, _⟩ := hn.cells 0 _ (List.getElem?_eq_getElem (by omega))
    rw [hv] at e
    cases e
    exact ⟨g, rfl⟩
  obtain ⟨g, hg⟩ : ∃ g, l.length ≠ 0 → ai = some ⟨g, 0, none⟩ := by
    by_cases h0 : l.length = 0
    · exact ⟨0, fun e => absurd h0 e⟩
    · obtain ⟨g, e⟩ := hg h0
      exact ⟨g, fun _ => e⟩
  have hget : ∀ j, j < l.length → ∃ x, l[j]? = some x := fun j hj => ⟨_, List.getElem?_eq_getElem hj⟩
  refine ⟨ai, cap, g, fun j => sAddr (av j), fun j => sAddr (kv j), fun j => sLen (av j), fun j => sCap (av j), fun j => sLen (kv j), fun j => sCap (kv j), hv, hg, by omega, ⟨fun h0 => ?_, fun j hj => ?_, fun j hj => ?_, fun j hj => ?_, fun j m hj hm => ?_, fun j m hj hm => ?_, fun j hj => by omega, fun j m d hd => by omega, fun j m d hd => by omega, hb, fun j hj => ?_⟩⟩
  · have e : v.ownBlock = some g := by rw [hv, hg h0]; rfl
    exact ⟨hK g (hn.rowK g e), owns_blk hn.row e⟩
  · obtain ⟨x, hx⟩ := hget j hj
    obtain ⟨g', c, e, _, _, _, q1, _⟩ := hn.cells j x hx
    rw [hv, hg (by omega)] at e
    cases e
    rw [q1, ← (sAll (hn.attr j x hx)).1]
  · obtain ⟨x, hx⟩ := hget j hj
    obtain ⟨g', c, e, _, _, _, _, _, q3, _⟩ := hn.cells j x hx
    rw [hv, hg (by omega)] at e
    cases e
    rw [q3, ← (sAll (hn.kid j x hx)).1]
  · obtain ⟨x, hx⟩ := hget j hj
    obtain ⟨g', c, e, _, _, _, _, _, _, q4⟩ := hn.cells j x hx
    rw [hv, hg (by omega)] at e
    cases e
    exact ⟨_, q4⟩
  · obtain ⟨x, hx⟩ := hget j hj
    have hr := hn.kid j x hx
    obtain ⟨e1, e2⟩ := sAll hr
    simp only [e2] at hm
    obtain ⟨ga, ca, e, x1, _⟩ := kid_cell (n := 0) hr m hm
    have e3 : (kv j).ownBlock = some ga := by rw [e]; rfl
    exact ⟨ga, _, by simp only [e, sAddr], hK ga (hn.kidK j ga hj e3).1, owns_blk hr e3, x1⟩
  · obtain ⟨x, hx⟩ := hget j hj
    have hr := hn.attr j x hx
    obtain ⟨e1, e2⟩ := sAll hr
    simp only [e2] at hm
    obtain ⟨ga, ca, e, _, x2, _⟩ := attr_two hr m hm
    have e3 : (av j).ownBlock = some ga := by rw [e]; rfl
    exact ⟨ga, _, by simp only [e, sAddr], hA ga (hn.attrA j ga hj e3), owns_blk hr e3, x2⟩
  · obtain ⟨x, hx⟩ := hget j hj
    have l1 : sLen (av j) ≤ maxLen := by
      rw [(sAll (hn.attr j x hx)).2]
      rcases (hn.attr j x hx).2 with ⟨_, e⟩ | ⟨_, _, _, _, _, _, h1, h2, _⟩
      · omega
      · exact Nat.le_trans h1 h2
    have l2 : sLen (kv j) ≤ maxLen := by
      rw [(sAll (hn.kid j x hx)).2]
      rcases (hn.kid j x hx).2 with ⟨_, e⟩ | ⟨_, _, _, _, _, _, h1, h2, _⟩
      · omega
      · exact Nat.le_trans h1 h2
    omega
end Go.Proofs.YtfolnkmbdmfigaaGreatDoor

set_option linter.unusedSimpArgs false
set_option linter.unusedVariables false
namespace Go.Proofs.YtfolnkmbdmfigaaGreatDoor
open Go.RowKit Go.Maps Go.Lib
variable {B g n : Nat} {w0 w wr : World} {a : Addr} {Ga Gk : Nat → Option Addr} {Ma Ca Mk Ck : Nat → Nat} {iu ik kk ia ka : Nat}
theorem bonw {A B C : World} (h1 : Below A.heap.size A B) (h2 : Below B.heap.size B C) : Below A.heap.size A C := h1.trans (below_less h2 h1.size)
theorem dec_yes (i n : Nat) (h : i < n) : decide ((i : Int) < n) = true ∧ (i : Int) < n ∧ ¬ (i : Int) < 0 := ⟨by simp; omega, by omega, by omega⟩
theorem dec_no (i n : Nat) (h : ¬ i < n) : decide ((i : Int) < n) = false := by simp; omega
set_option maxHeartbeats 16000000 in
set_option maxRecDepth 100000 in
theorem treeOwn_ok (s : ByteArray) (w : World) (gl : Gl w a) (hb : s.size ≤ 268435456) : Calls Tryz.prog 8 #[.string s] w fun e w' => e = .returned (.bool true) ∧ Below w.heap.size w w' := by
  have h1 : ∀ W, Below w.heap.size w W → Calls Tryz.prog 9 #[.string s] W (ParseEnd W (parseN s)) := fun W hW => parse_ok s W (gl.up hW) hb
  have h2 : ∀ W, Calls Tryz.prog 10 #[.string s] W (RParseEnd W (parseN s)) := fun W => rparse_ok s W hb
  have h3 : ∀ W, Below w.heap.size w W → Calls Tryz.prog 13 #[] W fun e w' => e = .returned (.bool true) ∧ Below W.heap.size W w' := fun W hW => alive_ok (gl.up hW)
  have H1 := hide h1
  have H2 := hide h2
  have H3 := hide h3
  clear h1 h2 h3 gl
  generalize parseN s = xx at *
  obtain ⟨L, no, q⟩ := xx
  have hno : (no == no) = true := by simp
  go_enter Tryz.func8, Tryz.ntmps8
  go_wp2_with (go_at_call 9; refine (H1.out _ (Below.refl _ _)).mono ?_; rintro e w1 ⟨v, rfl, hn, b1, _⟩; obtain ⟨ai, cap, g, Ga, Gk, Ma, Ca, Mk, Ck, rfl, hai, hlen, hsp⟩ := spoil_start hn b1; have SP := hide hsp; have hw1 := b1.size; clear hn b1 hsp)
  generalize hLn : List.length L = n at *
  clear hLn
  go_loopw [6, 7, 8] (fun iv _ _ wr => ∃ i : Nat, iv = .int .i64 i ∧ i ≤ n ∧ Spoil w.heap.size w g n Ga Gk Ma Ca Mk Ck wr i i 0 i 0 ∧ w.heap.size ≤ wr.heap.size) (fun iv _ _ _ => n - (RowKit.intOf iv).toNat)
  case atStart => exact ⟨0, rfl, Nat.zero_le _, SP.out, hw1⟩
  case round =>
    rename World => WO
    obtain ⟨i, rfl, hi, hsp, hsz⟩ := hrel
    by_cases hlt : i < n
    · obtain ⟨hd1, hd2, hd3⟩ := dec_yes i n hlt
      obtain rfl := hai (by omega)
      obtain ⟨hB, hTg⟩ := hsp.row (by omega)
      obtain ⟨z, hz⟩ := hsp.up i hlt
      obtain ⟨cur, hcur⟩ := hTg
      have hfr := free_of (i := i * 5 + 4) hcur
      obtain ⟨hs2, hc2⟩ := hsp.store hB ⟨cur, hcur⟩ hz (v := .int .i64 (-9)) (Or.inl ⟨rfl, ⟨i, rfl⟩, rfl⟩)
      have hs3 := hs2.nextU hc2
      have hk3 := hs3.kids i hlt
      have hz3 : w.heap.size ≤ (WO.setCell ⟨g, i * 5 + 4, none⟩ (.int .i64 (-9))).heap.size := by simpa [World.setCell] using hsz
      have S3 := hide hs3
      have Z3 := hide hz3
      clear hsp hs2 hs3 hc2 hsz hz3 hcur
      go_wp2_with fail
      go_loopw [7] (fun jv w2 => ∃ j : Nat, jv = .int .i64 j ∧ j ≤ Mk i ∧ Spoil w.heap.size w g n Ga Gk Ma Ca Mk Ck w2 (i + 1) i j i 0 ∧ w.heap.size ≤ w2.heap.size) (fun jv _ => Mk i - (RowKit.intOf jv).toNat)
      case atStart => exact ⟨0, rfl, Nat.zero_le _, S3.out, Z3.out⟩
      case round =>
        rename World => WK
        obtain ⟨j, rfl, hj, hsp, hsz⟩ := hrel
        have hk4 := hsp.kids i hlt
        clear hk3 hz hfr
        by_cases hlj : j < Mk i
        · obtain ⟨he1, he2, he3⟩ := dec_yes j (Mk i) hlj
          obtain ⟨d, z2, hGk, hBd, hTd, hz2⟩ := hsp.krow i j hlt hlj
          obtain ⟨-, hmk⟩ := hsp.len i hlt
          obtain ⟨cur2, hcur2⟩ := hTd
          have hfr2 := free_of (i := j) hcur2
          obtain ⟨hs4, hc4⟩ := hsp.store hBd ⟨cur2, hcur2⟩ hz2 (v := .int .i64 (-9)) (Or.inr (Or.inl ⟨rfl, rfl⟩))
          have S5 := hide (hs4.nextK hGk hc4)
          have Z5 : Hid (w.heap.size ≤ (WK.setCell ⟨d, j, none⟩ (.int .i64 (-9))).heap.size) := hide (by simpa [World.setCell] using hsz)
          rw [hGk] at hk4
          clear hsp hs4 hc4 hsz hcur2
          go_wp2
          exact ⟨⟨j + 1, by simp, hlj, S5.out, Z5.out⟩, by simp only [RowKit.intOf]; omega⟩
        · have he1 := dec_no j (Mk i) hlj
          have hs5 := hsp.endK (Nat.le_of_not_lt hlj)
          have ha5 := hs5.attr i hlt
          have S5 := hide hs5
          have Z5 := hide hsz
          clear hsp hs5 hsz hj
          go_wp2_with fail
          go_loopw [8] (fun jv w2 => ∃ r : Nat, jv = .int .i64 r ∧ r ≤ Ma i ∧ Spoil w.heap.size w g n Ga Gk Ma Ca Mk Ck w2 (i + 1) (i + 1) 0 i r ∧ w.heap.size ≤ w2.heap.size) (fun jv _ => Ma i - (RowKit.intOf jv).toNat)
          case atStart => exact ⟨0, rfl, Nat.zero_le _, S5.out, Z5.out⟩
          case round =>
            rename World => WA
            obtain ⟨r, rfl, hr, hsp, hsz⟩ := hrel
            have ha6 := hsp.attr i hlt
            clear ha5 hk4
            by_cases hlr : r < Ma i
            · obtain ⟨hf1, hf2, hf3⟩ := dec_yes r (Ma i) hlr
              obtain ⟨d, x2, hGa, hBd, hTd, hx2⟩ := hsp.arow i r hlt hlr
              obtain ⟨hma, -⟩ := hsp.len i hlt
              obtain ⟨cur2, hcur2⟩ := hTd
              have hfr2 := free_of (i := r * 2 + 1) hcur2
              obtain ⟨hs6, hc6⟩ := hsp.store hBd ⟨cur2, hcur2⟩ hx2 (v := spoilV) (Or.inr (Or.inr ⟨rfl, rfl⟩))
              have S7 := hide (hs6.nextA hGa hc6)
              have Z7 : Hid (w.heap.size ≤ (WA.setCell ⟨d, r * 2 + 1, none⟩ spoilV).heap.size) := hide (by simpa [World.setCell] using hsz)
              unfold spoilV at S7 Z7
              rw [hGa] at ha6
              clear hsp hs6 hc6 hsz hcur2
              go_wp2
              exact ⟨⟨r + 1, by simp, hlr, S7.out, Z7.out⟩, by simp only [RowKit.intOf]; omega⟩
            · have hf1 := dec_no r (Ma i) hlr
              have S7 := hide (hsp.endA (Nat.le_of_not_lt hlr))
              have Z7 := hide hsz
              clear hsp hsz hr
              go_wp2
              exact ⟨⟨i + 1, by simp, hlt, S7.out, Z7.out⟩, by simp only [RowKit.intOf]; omega⟩
    · have hd1 := dec_no i n hlt
      have S2 := hide hsp
      have Z2 := hide hsz
      obtain rfl : n = i := by omega
      clear hsp hsz
      go_wp2_with (first
        | (go_at_call 9; refine (H1.out _ S2.out.past).mono ?_; rintro e w3 ⟨v3, rfl, ⟨A3, K3, av3, kv3, hn3, _⟩, b3, _⟩; have S3 := hide (S2.out.keep b3 Z2.out); have Z3 := hide (Nat.le_trans Z2.out b3.size); have N3 := hide hn3; clear b3 hn3)
        | (go_at_call 10; refine (H2.out _).mono ?_; rintro e w4 ⟨v4, rfl, ⟨A4, K4, av4, kv4, hn4⟩, b4⟩; have hs4 := (fun W (hW : Below w4.heap.size w4 W) => same_nodes (N3.out.frame (w' := W) (fun k hk _ => (hW.block k (Nat.lt_of_lt_of_le hk b4.size)).trans (b4.block k hk)) (fun k hk _ => (hW.block k (Nat.lt_of_lt_of_le hk b4.size)).trans (b4.block k hk)) (fun _ _ x => x)) (hn4.later hW)); have HS := hide hs4; have S4 := hide (S3.out.keep b4 Z3.out); have Z4 := hide (Nat.le_trans Z3.out b4.size); clear b4 hn4 hs4))
      go_loopw [15, 16, 17] (fun iv _ _ w2 => ∃ i : Nat, iv = .int .i64 i ∧ i ≤ n ∧ Below w4.heap.size w4 w2) (fun iv _ _ _ => n - (RowKit.intOf iv).toNat)
      case atStart => exact ⟨0, rfl, Nat.zero_le _, Below.refl _ _⟩
      case round =>
        rename World => WP
        obtain ⟨i, rfl, hi2, hbl⟩ := hrel
        have hsp := S4.out.keep hbl Z4.out
        have SPX := hide hsp
        have BL := hide hbl
        clear hbl
        by_cases hlt2 : i < n
        · obtain ⟨hx1, hx2, hx3⟩ := dec_yes i n hlt2
          obtain rfl := hai (Nat.ne_of_gt (Nat.lt_of_le_of_lt (Nat.zero_le _) hlt2))
          have hu := hsp.doneU i hlt2 hlt2
          have hk := hsp.kids i hlt2
          have ha := hsp.attr i hlt2
          clear hsp
          go_wp2_with fail
          go_loopw [16] (fun jv w2 => ∃ j : Nat, jv = .int .i64 j ∧ j ≤ Mk i ∧ Below w4.heap.size w4 w2) (fun jv _ => Mk i - (RowKit.intOf jv).toNat)
          case atStart => exact ⟨0, rfl, Nat.zero_le _, BL.out⟩
          case round =>
            rename World => WQ
            obtain ⟨j, rfl, hj2, hbl⟩ := hrel
            have hsq := S4.out.keep hbl Z4.out
            have hk2 := hsq.kids i hlt2
            have BQ := hide hbl
            clear hbl hu hk ha
            by_cases hlj : j < Mk i
            · obtain ⟨he1, he2, he3⟩ := dec_yes j (Mk i) hlj
              obtain ⟨d, z2, hGk, -⟩ := hsq.krow i j hlt2 hlj
              obtain ⟨-, hmk⟩ := hsq.len i hlt2
              have hc := hsq.doneK i j d (Or.inl hlt2) hlt2 hlj hGk
              rw [hGk] at hk2
              clear hsq
              go_wp2
              exact ⟨⟨j + 1, by simp, hlj, BQ.out⟩, by simp only [RowKit.intOf]; omega⟩
            · have he1 := dec_no j (Mk i) hlj
              clear hsq hj2
              go_wp2_with fail
              go_loopw [17] (fun jv w2 => ∃ r : Nat, jv = .int .i64 r ∧ r ≤ Ma i ∧ Below w4.heap.size w4 w2) (fun jv _ => Ma i - (RowKit.intOf jv).toNat)
              case atStart => exact ⟨0, rfl, Nat.zero_le _, BQ.out⟩
              case round =>
                rename World => WR2
                obtain ⟨r, rfl, hr2, hbl⟩ := hrel
                have hsq := S4.out.keep hbl Z4.out
                have ha2 := hsq.attr i hlt2
                have BR := hide hbl
                clear hbl hk2
                by_cases hlr : r < Ma i
                · obtain ⟨hf1, hf2, hf3⟩ := dec_yes r (Ma i) hlr
                  obtain ⟨d, x2, hGa, -⟩ := hsq.arow i r hlt2 hlr
                  obtain ⟨hma, -⟩ := hsq.len i hlt2
                  have hc := hsq.doneA i r d (Or.inl hlt2) hlt2 hlr hGa
                  unfold spoilV at hc
                  rw [hGa] at ha2
                  clear hsq
                  go_wp2
                  exact ⟨⟨r + 1, by simp, hlr, BR.out⟩, by simp only [RowKit.intOf]; omega⟩
                · have hf1 := dec_no r (Ma i) hlr
                  clear hsq hr2
                  go_wp2
                  exact ⟨⟨i + 1, by simp, hlt2, BR.out⟩, by simp only [RowKit.intOf]; omega⟩
        · have hx1 := dec_no i n hlt2
          clear hsp hi2
          have hW4 : Below w.heap.size w WP := SPX.out.past
          have HW4 := hide hW4
          clear hW4
          go_wp2_with (first
            | (go_at_call 11; refine (HS.out _ BL.out).mono ?_; rintro e w5 ⟨rfl, m5⟩; have B5 := hide (bonw HW4.out (more_below m5 (Nat.le_refl _))); clear m5)
            | (go_at_call 12; refine (num_ok _ _).mono ?_; rintro e w6 ⟨rfl, rfl⟩)
            | (go_at_call 13; refine (H3.out _ B5.out).mono ?_; rintro e w7 ⟨rfl, b7⟩; have B7 := hide (bonw B5.out b7); clear b7))
          go_ret
          exact ⟨rfl, B7.out⟩
end Go.Proofs.YtfolnkmbdmfigaaGreatDoor
