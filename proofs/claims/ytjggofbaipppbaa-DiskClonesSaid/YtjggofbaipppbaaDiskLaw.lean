/-
  The law's calls of a disk, each in a Guard.
-/
import Derived.Test.YtjggofbaipppbaaDiskNews
import Derived.Test.YtjggofbaipppbaaGuardFirst
namespace Go.Proofs.Ytjggofbaipppbaa
open Go.RowKit

/-- what a Write in a Guard answers, and the disk behind it -/
inductive WriteOf (m : DiskM) (at' : Int) (s : ByteArray) : Option Int → DiskM → Prop
  | cut : m.dead = true → WriteOf m at' s (some 12) m
  | range : m.dead = false → (at' < 0 ∨ m.n ≤ at') → WriteOf m at' s (some 6) m
  | big (k : Nat) : m.dead = false → at' = k → k < m.n → 64 < s.size → WriteOf m at' s (some 3) m
  | dies (k : Nat) : m.dead = false → at' = k → k < m.n → s.size ≤ 64 → m.armed = true → m.left = 0 → WriteOf m at' s (some 12) { m with dead := true }
  | works (k : Nat) : m.dead = false → at' = k → k < m.n → s.size ≤ 64 → (m.armed = true → 0 < m.left) → WriteOf m at' s none (m.spent.wrote k (txtf s))
theorem write_all (m : DiskM) (at' : Int) (s : ByteArray) (w : World) (h : DiskAt m w) (hf : m.fits) :
    Calls Try.prog 57 #[.pointer (some ⟨m.d, 0, none⟩), .int .i64 at', .string s] w fun e w' => ∃ o m', e = Ends o ∧ WriteOf m at' s o m' ∧ DiskAt m' w' ∧ Grew m.own w w' := by
  obtain ⟨f0, f1⟩ := hf
  by_cases hd : m.dead = true
  · refine (write_cut m at' s w h hd).mono ?_
    rintro e w' ⟨rfl, rfl⟩
    exact ⟨_, _, rfl, .cut hd, h, Grew.refl _⟩
  · have hd : m.dead = false := by simpa using hd
    by_cases hr : at' < 0 ∨ m.n ≤ at'
    · refine (write_not m at' s w h hd hr).mono ?_
      rintro e w' ⟨rfl, rfl⟩
      exact ⟨_, _, rfl, .range hd hr, h, Grew.refl _⟩
    · obtain ⟨k, rfl⟩ : ∃ k : Nat, at' = k := ⟨at'.toNat, by omega⟩
      have hk : k < m.n := by omega
      by_cases hs : 64 < s.size
      · refine (write_big m k s w h hd hk hs).mono ?_
        rintro e w' ⟨rfl, rfl⟩
        exact ⟨_, _, rfl, .big k hd rfl hk hs, h, Grew.refl _⟩
      · by_cases hp : m.armed = true → 0 < m.left
        · refine (write_ok m k s w h hd hk (by omega) f1 hp).mono ?_
          rintro e w' ⟨rfl, hr, hg⟩
          exact ⟨none, _, rfl, .works k hd rfl hk (by omega) hp, hr, hg⟩
        · have ha : m.armed = true := Classical.byContradiction fun hn => hp fun e => absurd e hn
          have h0 : m.left = 0 := by
            have : ¬ 0 < m.left := fun e => hp fun _ => e
            omega
          refine (write_dies m k s w h hd hk (by omega) ha h0).mono ?_
          rintro e w' ⟨rfl, hr, hg⟩
          exact ⟨some 12, _, rfl, .dies k hd rfl hk (by omega) ha h0, hr, hg⟩
inductive SyncOf (m : DiskM) : Option Int → DiskM → Prop
  | cut : m.dead = true → SyncOf m (some 12) m
  | dies : m.dead = false → m.armed = true → m.left = 0 → SyncOf m (some 12) { m with dead := true }
  | works : m.dead = false → (m.armed = true → 0 < m.left) → SyncOf m none { m.spent with S := m.T }
theorem sync_all (m : DiskM) (w : World) (h : DiskAt m w) (hf : m.fits) :
    Calls Try.prog 58 #[.pointer (some ⟨m.d, 0, none⟩)] w fun e w' => ∃ o m', e = Ends o ∧ SyncOf m o m' ∧ DiskAt m' w' ∧ Grew m.own w w' := by
  obtain ⟨f0, f1⟩ := hf
  by_cases hd : m.dead = true
  · refine (sync_cut m w h hd).mono ?_
    rintro e w' ⟨rfl, rfl⟩
    exact ⟨_, _, rfl, .cut hd, h, Grew.refl _⟩
  · have hd : m.dead = false := by simpa using hd
    by_cases hp : m.armed = true → 0 < m.left
    · refine (sync_ok m w h hd f1 hp).mono ?_
      rintro e w' ⟨rfl, hr, hg⟩
      exact ⟨none, _, rfl, .works hd hp, hr, hg⟩
    · have ha : m.armed = true := Classical.byContradiction fun hn => hp fun e => absurd e hn
      have h0 : m.left = 0 := by
        have : ¬ 0 < m.left := fun e => hp fun _ => e
        omega
      refine (sync_dies m w h hd ha h0).mono ?_
      rintro e w' ⟨rfl, hr, hg⟩
      exact ⟨some 12, _, rfl, .dies hd ha h0, hr, hg⟩
inductive ReadOf (m : DiskM) (at' : Int) : Option Int → List UInt8 → Prop
  | cut : m.dead = true → ReadOf m at' (some 12) []
  | range : m.dead = false → (at' < 0 ∨ m.n ≤ at') → ReadOf m at' (some 6) []
  | works (k : Nat) : m.dead = false → at' = k → k < m.n → ReadOf m at' none (sec m.T k)
end Go.Proofs.Ytjggofbaipppbaa
