/-
  The program's disk and the document's: the same in what counts; each call keeps it so.
-/
import Derived.Test.YtjggofbaipppbaaRefSpoil2
import Derived.Test.YtjggofbaipppbaaRefWrite2
import Derived.Test.YtjggofbaipppbaaRefSync
import Derived.Test.YtjggofbaipppbaaDiskLawRead
import Derived.Test.YtjggofbaipppbaaDiskCrash
import Derived.Test.YtjggofbaipppbaaDiskAwake
namespace Go.Proofs.Ytjggofbaipppbaa
open Go.RowKit

structure Rel (m : DiskM) (r : RefM) : Prop where
  n : m.n = r.n
  S : m.S = r.S
  T : m.T = r.T
  dead : m.dead = r.dead
  free : m.armed = false → r.left = -1
  armed : m.armed = true → r.left = m.left
  fits : m.fits
theorem Rel.left {m : DiskM} {r : RefM} (h : Rel m r) : r.left ≤ 2 ^ 62 := by
  have := h.fits
  cases ha : m.armed with
  | false => rw [h.free ha]; decide
  | true => rw [h.armed ha]; exact this.2
theorem Rel.spent {m : DiskM} {r : RefM} (h : Rel m r) (hp : m.armed = true → 0 < m.left) (l : Int) (hl : l = if 0 < r.left then r.left - 1 else r.left) : (m.spent.armed = false → l = -1) ∧ (m.spent.armed = true → l = m.spent.left) ∧ m.spent.fits := by
  have hf := h.fits
  unfold DiskM.fits at hf ⊢
  cases ha : m.armed with
  | false =>
    have e : m.spent = m := by unfold DiskM.spent; rw [ha]; rfl
    rw [e, ha]
    have := h.free ha
    refine ⟨fun _ => ?_, (fun e => nomatch e), hf⟩
    rw [hl, this]
    decide
  | true =>
    have e : m.spent = { m with left := m.left - 1 } := by unfold DiskM.spent; rw [ha]; rfl
    rw [e]
    have h1 := h.armed ha
    have h2 := hp ha
    simp only [ha]
    refine ⟨(fun e => nomatch e), fun _ => ?_, by omega, by omega⟩
    rw [hl, h1, if_pos h2]
/-- Write -/
theorem refWrite_rel (m : DiskM) (r : RefM) (hR : Rel m r) (at' : Int) (s : ByteArray) (w : World) (h : RefAt r w) :
    Calls Try.prog 38 #[.agg r.cells, .int .i64 at', .string s] w fun e w' => ∃ o r', e = .returned (.tuple #[.agg r'.cells, .int .i64 o]) ∧ RefAt r' w' ∧ Below w.heap.size w w' ∧ ∀ o' m', WriteOf m at' s o' m' → o'.getD 0 = o ∧ Rel m' r' := by
  have hn := hR.n
  have hd := hR.dead
  by_cases hst : r.dead = true ∨ at' < 0 ∨ (r.n : Int) ≤ at'
  · refine (refWrite_stop r at' s w h hst).mono ?_
    rintro e w' ⟨rfl, hr, hb⟩
    refine ⟨_, r, rfl, hr, hb, fun o' m' hw => ?_⟩
    cases hw with
    | cut e => rw [hd] at e; exact ⟨by rw [if_pos e]; rfl, hR⟩
    | range e _ => rw [hd] at e; exact ⟨by rw [e]; rfl, hR⟩
    | big k e e1 e2 _ => rw [hd] at e; rw [e] at hst; simp only [Bool.false_eq_true, false_or] at hst; omega
    | dies k e e1 e2 => rw [hd] at e; rw [e] at hst; simp only [Bool.false_eq_true, false_or] at hst; omega
    | works k e e1 e2 => rw [hd] at e; rw [e] at hst; simp only [Bool.false_eq_true, false_or] at hst; omega
  have hdd : r.dead = false := by
    cases e : r.dead with
    | false => rfl
    | true => exact absurd (Or.inl e) hst
  rw [hdd] at hst hd
  simp only [Bool.false_eq_true, false_or] at hst
  by_cases hs : 64 < s.size
  · refine (refWrite_big r at' s w h ⟨hdd, by omega, by omega⟩ hs).mono ?_
    rintro e w' ⟨rfl, hr, hb⟩
    refine ⟨_, r, rfl, hr, hb, fun o' m' hw => ?_⟩
    cases hw with
    | cut e => rw [hd] at e; cases e
    | range _ e => omega
    | big k _ _ _ _ => exact ⟨rfl, hR⟩
    | dies k _ _ _ e => omega
    | works k _ _ _ e => omega
  obtain ⟨k, hk⟩ : ∃ k : Nat, at' = (k : Int) := ⟨at'.toNat, by omega⟩
  by_cases h0 : r.left = 0
  · refine (refWrite_dies r at' s w h ⟨hdd, by omega, by omega⟩ (by omega) h0).mono ?_
    rintro e w' ⟨rfl, hr, hb⟩
    refine ⟨_, _, rfl, hr, hb, fun o' m' hw => ?_⟩
    cases hw with
    | cut e => rw [hd] at e; cases e
    | range _ e => omega
    | big k _ _ _ e => omega
    | dies k _ _ _ _ ha hl => exact ⟨rfl, hn, hR.S, hR.T, rfl, fun e => hR.free e, fun e => hR.armed e, hR.fits⟩
    | works k _ _ _ _ hp =>
      exfalso
      cases ha : m.armed with
      | false => have := hR.free ha; omega
      | true => have := hR.armed ha; have := hp ha; omega
  subst hk
  refine (refWrite_works r k s w h hR.left hdd (by omega) (by omega) h0).mono ?_
  rintro e w' ⟨r', rfl, f1, f2, f3, f4, f5, hr, hb⟩
  refine ⟨_, r', rfl, hr, hb, fun o' m' hw => ?_⟩
  cases hw with
  | cut e => rw [hd] at e; cases e
  | range _ e => omega
  | big k _ _ _ e => omega
  | dies k' _ _ _ _ ha hl => exfalso; have := hR.armed ha; omega
  | works k' _ hke _ _ hp =>
    obtain rfl : k = k' := by omega
    obtain ⟨g1, g2, g3⟩ := hR.spent hp r'.left f5
    refine ⟨rfl, ?_, ?_, ?_, ?_, g1, g2, g3⟩
    · show m.spent.n = r'.n
      rw [DiskM.spent_n, f1, hn]
    · show m.spent.S = r'.S
      rw [DiskM.spent_S, f2, hR.S]
    · show wroteF m.spent.T k (txtf s) = r'.T
      rw [DiskM.spent_T, f3, hR.T]
    · show m.spent.dead = r'.dead
      rw [f4]
      unfold DiskM.spent
      split <;> exact hd
/-- Sync -/
theorem refSync_rel (m : DiskM) (r : RefM) (hR : Rel m r) (w : World) (h : RefAt r w) :
    Calls Try.prog 40 #[.agg r.cells] w fun e w' => ∃ o r', e = .returned (.tuple #[.agg r'.cells, .int .i64 o]) ∧ RefAt r' w' ∧ Below w.heap.size w w' ∧ ∀ o' m', SyncOf m o' m' → o'.getD 0 = o ∧ Rel m' r' := by
  have hn := hR.n
  have hd := hR.dead
  refine (refSync_any r w h hR.left).mono ?_
  rintro e w' ⟨o, r', rfl, ⟨r1, hs, f1, f2, f3, f4, f5, f6⟩, hr, hb⟩
  refine ⟨o, r', rfl, hr, hb, fun o' m' hw => ?_⟩
  cases hw with
  | cut e =>
    rw [hd] at e
    cases hs with
    | cut _ => exact ⟨rfl, by rw [f1, hn], by rw [f6 (by decide), hR.S], by rw [f2, hR.T], by rw [f4, hd], fun e => by rw [f3]; exact hR.free e, fun e => by rw [f3]; exact hR.armed e, hR.fits⟩
    | dies e2 => rw [e] at e2; cases e2
    | armed e2 => rw [e] at e2; cases e2
    | free e2 => rw [e] at e2; cases e2
  | dies e ha hl =>
    rw [hd] at e
    have hz := hR.armed ha
    cases hs with
    | cut e2 => rw [e] at e2; cases e2
    | dies _ _ => exact ⟨rfl, by rw [f1]; exact hn, by rw [f6 (by decide)]; exact hR.S, by rw [f2]; exact hR.T, by rw [f4], fun e => by rw [f3]; exact hR.free e, fun e => by rw [f3]; exact hR.armed e, hR.fits⟩
    | armed _ e2 => omega
    | free _ e2 => omega
  | works e hp =>
    rw [hd] at e
    have key : o = 0 ∧ r1.dead = false ∧ r1.left = (if 0 < r.left then r.left - 1 else r.left) := by
      cases hs with
      | cut e2 => rw [e] at e2; cases e2
      | dies _ e2 =>
        exfalso
        cases ha : m.armed with
        | false => have := hR.free ha; omega
        | true => have := hR.armed ha; have := hp ha; omega
      | armed e2 e3 => exact ⟨rfl, e2, by rw [if_pos e3]⟩
      | free e2 e3 => exact ⟨rfl, e2, by rw [if_neg (by omega)]⟩
    obtain ⟨rfl, k2, k3⟩ := key
    obtain ⟨g1, g2, g3⟩ := hR.spent hp r'.left (f3.trans k3)
    refine ⟨rfl, ?_, ?_, ?_, ?_, g1, g2, g3⟩
    · show m.spent.n = r'.n
      rw [DiskM.spent_n, f1, hn]
    · show m.T = r'.S
      rw [f5 rfl, hR.T]
    · show m.spent.T = r'.T
      rw [DiskM.spent_T, f2, hR.T]
    · show m.spent.dead = r'.dead
      rw [f4, k2]
      unfold DiskM.spent
      split <;> exact hd.trans e
/-- Read -/
theorem refRead_rel (m : DiskM) (r : RefM) (hR : Rel m r) (at' : Int) (w : World) (h : RefAt r w) :
    Calls Try.prog 39 #[.agg r.cells, .int .i64 at'] w fun e w' => ∃ o s, e = .returned (.tuple #[.string s, .int .i64 o]) ∧ Below w.heap.size w w' ∧ ∀ o' l, ReadOf m at' o' l → o'.getD 0 = o ∧ (⟨l.toArray⟩ : ByteArray) = s := by
  have hn := hR.n
  have hd := hR.dead
  refine (refRead_any r at' w h).mono ?_
  rintro e w' ⟨o, s, rfl, hs, hb⟩
  refine ⟨o, s, rfl, hb, fun o' l hw => ?_⟩
  cases hw with
  | cut e =>
    cases hs with
    | cut _ => exact ⟨rfl, rfl⟩
    | range e2 _ => rw [← hd, e] at e2; cases e2
    | works k e2 => rw [← hd, e] at e2; cases e2
  | range e e1 =>
    cases hs with
    | cut e2 => rw [← hd, e] at e2; cases e2
    | range _ _ => exact ⟨rfl, rfl⟩
    | works k _ _ _ => omega
  | works k e e1 e2 =>
    cases hs with
    | cut e2 => rw [← hd, e] at e2; cases e2
    | range _ _ => omega
    | works k' _ _ _ =>
      obtain rfl : k = k' := by omega
      exact ⟨rfl, by rw [hR.T]⟩
/-- Crash -/
theorem refCrash_rel (m : DiskM) (r : RefM) (hR : Rel m r) (a : Option Addr) (l c : Nat) (es : Nat → Int) (w : World) (h : RefAt r w) (hA : IntsApart (fun _ => False) w a l es) :
    Calls Try.prog 17 #[.agg r.cells, .slice a l c] w fun e w' => ∃ r', e = .returned (.agg r'.cells) ∧ RefAt r' w' ∧ Below w.heap.size w w' ∧ Rel (m.crashed (cutOf l es)) r' := by
  refine (refCrash_any r a l c es w h hA).mono ?_
  rintro e w' ⟨r', rfl, f1, f2, f3, f4, f5, hr, hb⟩
  obtain ⟨g1, g2⟩ := crashed_ST m (mOf r) hR.n hR.S hR.T (cutOf l es)
  exact ⟨r', rfl, hr, hb, by rw [crashed_n, f1, hR.n], by rw [g1, f2], by rw [g2, f3], f5.symm, fun _ => f4, (fun e => nomatch e), (live_crashed m _).fits⟩
/-- what the program's Spoil does -/
inductive SpoilOf (m : DiskM) (at' by' : Int) : Option Int → DiskM → Prop
  | range : (at' < 0 ∨ m.n ≤ at') → SpoilOf m at' by' (some 6) m
  | arg (k : Nat) : at' = k → k < m.n → (by' < 0 ∨ 64 ≤ by') → SpoilOf m at' by' (some 4) m
  | works (k b : Nat) : at' = k → k < m.n → by' = b → b < 64 → SpoilOf m at' by' none (m.spoilt (k * 64 + b) 65)
theorem spoil_all (m : DiskM) (at' by' : Int) (w : World) (h : DiskAt m w) :
    Calls Try.prog 35 #[.pointer (some ⟨m.d, 0, none⟩), .int .i64 at', .int .i64 by', .int .u8 65] w fun e w' => ∃ o m', e = Ends o ∧ SpoilOf m at' by' o m' ∧ DiskAt m' w' ∧ Grew m.own w w' := by
  by_cases h0 : at' < 0 ∨ (m.n : Int) ≤ at'
  · refine (spoil_range m at' by' 65 w h h0).mono ?_
    rintro e w' ⟨rfl, rfl⟩
    exact ⟨some 6, m, rfl, .range h0, h, Grew.refl _⟩
  obtain ⟨k, hk⟩ : ∃ k : Nat, at' = (k : Int) := ⟨at'.toNat, by omega⟩
  by_cases h1 : by' < 0 ∨ 64 ≤ by'
  · subst hk
    refine (spoil_arg m k by' 65 w h (by omega) h1).mono ?_
    rintro e w' ⟨rfl, rfl⟩
    exact ⟨some 4, m, rfl, .arg k rfl (by omega) h1, h, Grew.refl _⟩
  obtain ⟨b, hb⟩ : ∃ b : Nat, by' = (b : Int) := ⟨by'.toNat, by omega⟩
  subst hk hb
  refine (spoil_ok m k b 65 w h (by omega) (by omega)).mono ?_
  rintro e w' ⟨rfl, hd, hg⟩
  exact ⟨none, _, rfl, .works k b rfl (by omega) rfl (by omega), hd, hg⟩
/-- Spoil -/
theorem refSpoil_rel (m : DiskM) (r : RefM) (hR : Rel m r) (at' by' : Int) (w : World) (h : RefAt r w) :
    Calls Try.prog 41 #[.agg r.cells, .int .i64 at', .int .i64 by', .int .u8 65] w fun e w' => ∃ o r', e = .returned (.tuple #[.agg r'.cells, .int .i64 o]) ∧ RefAt r' w' ∧ Below w.heap.size w w' ∧ ∀ o' m', SpoilOf m at' by' o' m' → o'.getD 0 = o ∧ Rel m' r' := by
  have hn := hR.n
  refine (refSpoil_any r at' by' w h).mono ?_
  rintro e w' ⟨o, r', rfl, hs, hr, hb⟩
  refine ⟨o, r', rfl, hr, hb, fun o' m' hw => ?_⟩
  cases hw with
  | range e =>
    cases hs with
    | range _ => exact ⟨rfl, hR⟩
    | arg k _ _ _ => omega
    | works k b r' _ _ _ _ => omega
  | arg k e e1 e2 =>
    cases hs with
    | range _ => omega
    | arg k _ _ _ => exact ⟨rfl, hR⟩
    | works k b r' _ _ _ _ => omega
  | works k b e e1 e2 e3 =>
    cases hs with
    | range _ => omega
    | arg k _ _ _ => omega
    | works k' b' r' g1 g2 g3 g4 f1 f2 f3 f4 f5 =>
      obtain rfl : k = k' := by omega
      obtain rfl : b = b' := by omega
      refine ⟨rfl, f1 ▸ hn, ?_, ?_, ?_, fun e => ?_, fun e => ?_, hR.fits⟩
      · show bendF m.S (k * 64 + b) 65 = r'.S
        rw [f2, hR.S]
      · show bendF m.T (k * 64 + b) 65 = r'.T
        rw [f3, hR.T]
      · show m.dead = r'.dead
        rw [f5, hR.dead]
      · rw [f4]; exact hR.free e
      · rw [f4]; exact hR.armed e
theorem spoil_same {m m' : DiskM} {at' by' : Int} {o : Option Int} (h : SpoilOf m at' by' o m') : Same m m' := by
  cases h with
  | range _ => exact ⟨rfl, rfl, rfl, rfl⟩
  | arg _ _ _ _ => exact ⟨rfl, rfl, rfl, rfl⟩
  | works _ _ _ _ _ _ => exact ⟨rfl, rfl, rfl, rfl⟩
/-- the document's rows lie apart from the program's disk -/
theorem RefAt.keepD {m : DiskM} {r : RefM} {w w' : World} (h : RefAt r w) (hn : m.n = r.n) (hD : DiskAt m w) (g : Grew m.own w w') : RefAt r w' := by
  have key : ∀ (a : Option Addr) (f : Nat → UInt8), TextsAt w a r.n f → TextsAt w' a r.n f := fun a f ht => by
    by_cases h0 : r.n = 0
    · exact Or.inl h0
    · rcases ht with e | ⟨b, rfl, hr⟩
      · exact absurd e h0
      · have hc := hr 0 (by omega)
        have hap : ¬ m.own b := by
          rintro (rfl | rfl | rfl)
          · rw [hD.c0] at hc; cases hc
          · rw [hD.sure.cell 0 (by omega)] at hc; cases hc
          · rw [hD.there.cell 0 (by omega)] at hc; cases hc
        exact Or.inr ⟨b, rfl, fun i hi => by rw [g.cell (p := ⟨b, i, none⟩) (cell_lt (hr i hi)) hap]; exact hr i hi⟩
  exact ⟨key _ _ h.s, key _ _ h.t, h.n, h.zs, h.zt⟩
end Go.Proofs.Ytjggofbaipppbaa
