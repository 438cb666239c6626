/-
  The document's own disk: Crash: a contract.
-/
import Derived.Test.YtjggofbaipppbaaRefBent
import Derived.Test.YtjggofbaipppbaaRefLoose
import Derived.BigRegion
namespace Go.Proofs.Ytjggofbaipppbaa
open Go.RowKit

/-- the document's disk as the program's, but for where it lies -/
def mOf (r : RefM) : DiskM := ⟨0, 0, 0, r.n, 0, 0, r.S, r.T, false, 0, false⟩
/-- what is sure when so many loose sectors are torn -/
def crS (r : RefM) (ct : Nat → Nat) (k : Nat) : Nat → UInt8 := ((mOf r).tornTo ((mOf r).looseTo r.n) ct k).S
theorem tornTo_ST (m m' : DiskM) (hS : m.S = m'.S) (hT : m.T = m'.T) (L : List Nat) (ct : Nat → Nat) : ∀ j, (m.tornTo L ct j).S = (m'.tornTo L ct j).S ∧ (m.tornTo L ct j).T = (m'.tornTo L ct j).T
  | 0 => ⟨hS, hT⟩
  | j + 1 => by
    obtain ⟨h1, h2⟩ := tornTo_ST m m' hS hT L ct j
    show ((m.tornTo L ct j).torn (L.getD j 0) (ct j)).S = ((m'.tornTo L ct j).torn (L.getD j 0) (ct j)).S ∧ ((m.tornTo L ct j).torn (L.getD j 0) (ct j)).T = ((m'.tornTo L ct j).torn (L.getD j 0) (ct j)).T
    unfold DiskM.torn DiskM.wrote DiskM.reach
    simp only
    rw [h1, h2]
    exact ⟨rfl, rfl⟩
theorem looseTo_ST (m m' : DiskM) (hS : m.S = m'.S) (hT : m.T = m'.T) (k : Nat) : m.looseTo k = m'.looseTo k := by
  unfold DiskM.looseTo
  rw [hS, hT]
theorem crashed_ST (m m' : DiskM) (hn : m.n = m'.n) (hS : m.S = m'.S) (hT : m.T = m'.T) (ct : Nat → Nat) : (m.crashed ct).S = (m'.crashed ct).S ∧ (m.crashed ct).T = (m'.crashed ct).T := by
  unfold DiskM.crashed
  simp only
  rw [hn, looseTo_ST m m' hS hT]
  exact tornTo_ST m m' hS hT _ ct _
theorem loose_apart (m : DiskM) (k i j : Nat) (hij : i < j) (hj : j < (m.looseTo k).length) : (m.looseTo k).getD i 0 ≠ (m.looseTo k).getD j 0 := by
  have hn : (m.looseTo k).Pairwise (· < ·) := by
    unfold DiskM.looseTo
    exact List.Pairwise.filter _ List.pairwise_lt_range
  rw [List.getD_eq_getElem?_getD, List.getD_eq_getElem?_getD, List.getElem?_eq_getElem (show i < _ by omega), List.getElem?_eq_getElem hj]
  have := List.pairwise_iff_getElem.1 hn i j (by omega) hj hij
  show (m.looseTo k)[i] ≠ (m.looseTo k)[j]
  omega
/-- a step of the crash, by sectors -/
theorem crS_next (r : RefM) (ct : Nat → Nat) (hct : ∀ q, ct q ≤ 64) (k : Nat) (hk : k < ((mOf r).looseTo r.n).length) (i : Nat) :
    (⟨(sec (crS r ct (k + 1)) i).toArray⟩ : ByteArray) = if i = ((mOf r).looseTo r.n).getD k 0 then (⟨(sec r.T i).toArray⟩ : ByteArray).extract 0 (ct k) ++ (⟨(sec r.S i).toArray⟩ : ByteArray).extract (ct k) 64 else ⟨(sec (crS r ct k) i).toArray⟩ := by
  have hc := hct k
  unfold crS
  obtain ⟨L, hL⟩ : ∃ L, (mOf r).looseTo r.n = L := ⟨_, rfl⟩
  have hap := loose_apart (mOf r) r.n
  rw [hL] at hk hap ⊢
  obtain ⟨F, hx, hF⟩ : ∃ F : Nat → UInt8, ((mOf r).tornTo L ct (k + 1)).S = F ∧ ∀ j, F j = if L.getD k 0 * 64 ≤ j ∧ j < L.getD k 0 * 64 + ct k then ((mOf r).tornTo L ct k).T j else ((mOf r).tornTo L ct k).S j := ⟨_, rfl, fun _ => rfl⟩
  by_cases e : i = L.getD k 0
  · rw [if_pos e, hx]
    obtain ⟨_, h2⟩ := tornTo_in (mOf r) L ct hct i k
    obtain ⟨hT, hS⟩ := h2 fun q hq he => hap q k hq hk (he.trans e)
    apply ByteArray.ext
    apply Array.toList_inj.mp
    rw [ByteArray.data_append, Array.toList_append, ByteArray.data_extract, ByteArray.data_extract, Array.toList_extract, Array.toList_extract, List.extract_eq_take_drop, List.extract_eq_take_drop]
    show sec F i = List.take (ct k - 0) (List.drop 0 (sec r.T i)) ++ List.take (64 - ct k) (List.drop (ct k) (sec r.S i))
    rw [List.drop_zero, Nat.sub_zero, List.take_of_length_le (l := List.drop (ct k) (sec r.S i)) (by simp)]
    refine List.ext_getElem (by simp; omega) fun j h3 h4 => ?_
    have hj : j < 64 := by simpa using h3
    rw [sec_get, hF, ← e]
    by_cases hjc : j < ct k
    · rw [if_pos ⟨by omega, by omega⟩, List.getElem_append_left (by simp; omega), List.getElem_take, sec_get]
      exact hT j hj
    · rw [if_neg (by omega), List.getElem_append_right (by simp; omega), List.getElem_drop, sec_get]
      have e2 : i * 64 + (ct k + (j - (List.take (ct k) (sec r.T i)).length)) = i * 64 + j := by
        rw [List.length_take, sec_length]
        omega
      rw [e2]
      exact hS j hj
  · rw [if_neg e, hx]
    have h : sec F i = sec ((mOf r).tornTo L ct k).S i := by
      unfold sec
      refine List.map_congr_left fun j hj => ?_
      have hj : j < 64 := by simpa using hj
      rw [hF, if_neg (by omega)]
    rw [h]
/-- the row with that sector stored -/
theorem TextsAt.tear {w : World} {g n k : Nat} {r : RefM} {ct : Nat → Nat} (h : TextsAt w (some ⟨g, 0, none⟩) n (crS r ct k)) (hct : ∀ q, ct q ≤ 64) (hk : k < ((mOf r).looseTo r.n).length) (i : Nat) (hi : i = ((mOf r).looseTo r.n).getD k 0) (hin : i < n) :
    TextsAt (w.setCell ⟨g, i, none⟩ (.string ((⟨(sec r.T i).toArray⟩ : ByteArray).extract 0 (ct k) ++ (⟨(sec r.S i).toArray⟩ : ByteArray).extract (ct k) 64))) (some ⟨g, 0, none⟩) n (crS r ct (k + 1)) := by
  rcases h with h | ⟨b, e, hr⟩
  · omega
  obtain rfl : g = b := by simpa using e
  refine Or.inr ⟨g, rfl, fun j hj => ?_⟩
  rw [crS_next r ct hct k hk j]
  by_cases e : j = i
  · subst e
    rw [if_pos hi]
    exact World.cell?_setCell_same _ _ _ (hr j hj)
  · rw [if_neg (fun e2 => e (e2.trans hi.symm)), World.cell?_setCell_other _ _ _ _ (fun h => e (by cases h; rfl))]
    exact hr j hj
end Go.Proofs.Ytjggofbaipppbaa
