/-
  What a crash leaves, sector by sector: mathematics alone.
-/
import Derived.Test.YtjggofbaipppbaaDiskClone
namespace Go.Proofs.Ytjggofbaipppbaa
open Go.RowKit

/-- a sector is the same in two rows -/
def sameIn (f g : Nat → UInt8) (i : Nat) : Prop := ∀ j, j < 64 → f (i * 64 + j) = g (i * 64 + j)
theorem alike_iff (f g : Nat → UInt8) (i : Nat) : alike f g (i * 64) = true ↔ sameIn f g i := by
  unfold alike sameIn
  simp
theorem sameIn.symm {f g : Nat → UInt8} {i : Nat} (h : sameIn f g i) : sameIn g f i := fun j hj => (h j hj).symm
theorem sameIn.trans {f g h : Nat → UInt8} {i : Nat} (a : sameIn f g i) (b : sameIn g h i) : sameIn f h i := fun j hj => (a j hj).trans (b j hj)
theorem sameIn.sec {f g : Nat → UInt8} {i : Nat} (h : sameIn f g i) : sec f i = sec g i := by
  unfold Go.Proofs.Ytjggofbaipppbaa.sec
  refine List.map_congr_left fun j hj => h j (by simpa using hj)
/-- a torn sector is sure; all others stay -/
theorem torn_in (m : DiskM) (k c : Nat) (hc : c ≤ 64) (i : Nat) :
    (i = k → sameIn (m.torn k c).T (m.torn k c).S i) ∧ (¬ i = k → sameIn (m.torn k c).T m.T i ∧ sameIn (m.torn k c).S m.S i) := by
  refine ⟨fun e j hj => ?_, fun e => ⟨fun j hj => ?_, fun j hj => ?_⟩⟩
  · subst e
    show (if i * 64 ≤ i * 64 + j ∧ i * 64 + j < i * 64 + 64 then (m.reach i c).S (i * 64 + (i * 64 + j - i * 64)) else _) = (m.reach i c).S (i * 64 + j)
    rw [if_pos ⟨by omega, by omega⟩]
    congr 1
    omega
  · show (if k * 64 ≤ i * 64 + j ∧ i * 64 + j < k * 64 + 64 then _ else m.T (i * 64 + j)) = _
    rw [if_neg (by omega)]
  · show (if k * 64 ≤ i * 64 + j ∧ i * 64 + j < k * 64 + c then _ else m.S (i * 64 + j)) = _
    rw [if_neg (by omega)]
theorem tornTo_in (m : DiskM) (L : List Nat) (ct : Nat → Nat) (hct : ∀ q, ct q ≤ 64) (i : Nat) : ∀ j,
    ((∃ q, q < j ∧ L.getD q 0 = i) → sameIn (m.tornTo L ct j).T (m.tornTo L ct j).S i) ∧ ((∀ q, q < j → ¬ L.getD q 0 = i) → sameIn (m.tornTo L ct j).T m.T i ∧ sameIn (m.tornTo L ct j).S m.S i)
  | 0 => ⟨fun ⟨q, hq, _⟩ => by omega, fun _ => ⟨fun _ _ => rfl, fun _ _ => rfl⟩⟩
  | j + 1 => by
    obtain ⟨h1, h2⟩ := tornTo_in m L ct hct i j
    obtain ⟨t1, t2⟩ := torn_in (m.tornTo L ct j) (L.getD j 0) (ct j) (hct j) i
    by_cases e : i = L.getD j 0
    · exact ⟨fun _ => t1 e, fun h => absurd e.symm (h j (by omega))⟩
    · obtain ⟨u1, u2⟩ := t2 e
      refine ⟨fun ⟨q, hq, he⟩ => ?_, fun h => ?_⟩
      · have hqj : q < j := by
          rcases Nat.lt_or_ge q j with a | a
          · exact a
          · obtain rfl : q = j := by omega
            exact absurd he.symm e
        exact (u1.trans (h1 ⟨q, hqj, he⟩)).trans u2.symm
      · obtain ⟨v1, v2⟩ := h2 fun q hq => h q (by omega)
        exact ⟨u1.trans v1, u2.trans v2⟩
theorem loose_mem (m : DiskM) (k i : Nat) : (∃ q, q < (m.looseTo k).length ∧ (m.looseTo k).getD q 0 = i) ↔ i < k ∧ ¬ sameIn m.T m.S i := by
  have h : i ∈ m.looseTo k ↔ i < k ∧ ¬ sameIn m.T m.S i := by
    unfold DiskM.looseTo
    rw [List.mem_filter, List.mem_range]
    have := alike_iff m.T m.S i
    cases hA : alike m.T m.S (i * 64)
    · simp [hA] at this ⊢
      intro _
      exact this
    · simp [hA] at this ⊢
      intro _
      exact this
  rw [← h, List.mem_iff_getElem?]
  constructor
  · rintro ⟨q, hq, e⟩
    exact ⟨q, by rw [List.getElem?_eq_getElem hq, ← e, List.getD_eq_getElem?_getD, List.getElem?_eq_getElem hq]; rfl⟩
  · rintro ⟨q, e⟩
    obtain ⟨hq, _⟩ := List.getElem?_eq_some_iff.1 e
    exact ⟨q, hq, by rw [List.getD_eq_getElem?_getD, e]; rfl⟩
/-- behind a crash: all is sure; what was sure is there -/
theorem crashed_in (m : DiskM) (ct : Nat → Nat) (hct : ∀ q, ct q ≤ 64) (i : Nat) (hi : i < m.n) : sameIn (m.crashed ct).T (m.crashed ct).S i ∧ (sameIn m.T m.S i → sameIn (m.crashed ct).T m.T i) := by
  obtain ⟨h1, h2⟩ := tornTo_in m (m.looseTo m.n) ct hct i (m.looseTo m.n).length
  have hm := loose_mem m m.n i
  by_cases e : sameIn m.T m.S i
  · have hn : ∀ q, q < (m.looseTo m.n).length → ¬ (m.looseTo m.n).getD q 0 = i := fun q hq he => (hm.1 ⟨q, hq, he⟩).2 e
    obtain ⟨u, v⟩ := h2 hn
    exact ⟨(u.trans e).trans v.symm, fun _ => u⟩
  · exact ⟨h1 (hm.2 ⟨hi, e⟩), fun k => absurd k e⟩
theorem crashed_loose (m : DiskM) (ct : Nat → Nat) (hct : ∀ q, ct q ≤ 64) : (m.crashed ct).looseTo (m.crashed ct).n = [] := by
  rw [crashed_n]
  unfold DiskM.looseTo
  rw [List.filter_eq_nil_iff]
  intro i hi
  have h := (alike_iff _ _ i).2 (crashed_in m ct hct i (by simpa using hi)).1
  simp [h]
/-- a write leaves all other sectors as they were -/
theorem wrote_in (m : DiskM) (k : Nat) (g : Nat → UInt8) (i : Nat) (h : ¬ i = k) : sameIn (m.wrote k g).T m.T i := fun j hj => by
  show (if k * 64 ≤ i * 64 + j ∧ i * 64 + j < k * 64 + 64 then _ else m.T (i * 64 + j)) = _
  rw [if_neg (by omega)]
end Go.Proofs.Ytjggofbaipppbaa
