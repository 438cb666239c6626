/-
  What a journal holds behind any records: mathematics.
-/
import Derived.Test.YtakngnigpncmkaaRingMath
namespace Go.Proofs.Ytakngnigpncmkaa
open Go.RowKit

/-- a journal of n sectors from f on, behind records: u frames, the records that were kept -/
structure App (ep f n : Nat) (M : DiskM) (u : Nat) (kept : List ByteArray) (W : Nat → ByteArray) : Prop where
  le : u ≤ n
  here : ∀ i, i < u → sectB M (f + i) = W i
  blank : ∀ i, u ≤ i → (sectB M (f + i)).data.toList = List.replicate 64 0
  scan : ∀ X : Nat → ByteArray, (∀ i, i < u → X i = W i) → ∀ j, scanF ep X (u + j) 0 [] [] = scanF ep X j u [] kept
  head : 0 < u → isFrame ep 1 (W 0)
theorem App.start (ep f n d bs bt k : Nat) : App ep f n (newDisk d bs bt k) 0 [] (fun _ => ⟨#[]⟩) :=
  ⟨Nat.zero_le _, fun _ h => absurd h (Nat.not_lt_zero _), fun _ _ => blank_sec d bs bt k _, fun X _ j => by rw [Nat.zero_add], fun h => absurd h (Nat.lt_irrefl _)⟩
/-- the frames behind one more record -/
def moreW (ep u : Nat) (t : ByteArray) (W : Nat → ByteArray) (i : Nat) : ByteArray := if i < u then W i else recFrame ep u t (i - u)
theorem isFrame_rec (ep u : Nat) (t : ByteArray) (i : Nat) : isFrame ep (u + i + 1) (recFrame ep u t i) := isFrame_own ep (u + i + 1) _ (ring_text _ _ (part_size t i))
theorem App.step {ep f n : Nat} {M : DiskM} {u : Nat} {kept : List ByteArray} {W : Nat → ByteArray} (h : App ep f n M u kept W) (t : ByteArray) (hc : u + costOf t.size ≤ n) :
    App ep f n (M.putTo (f + u) (recFrame ep u t) (costOf t.size)) (u + costOf t.size) (kept ++ [t]) (moreW ep u t W) := by
  obtain ⟨p1, p2⟩ := sectB_put M (f + u) (recFrame ep u t) (recFrame_size ep u t) (costOf t.size)
  have ha : ∀ i, i < u → moreW ep u t W i = W i := fun i hi => by unfold moreW; rw [if_pos hi]
  have hb : ∀ i, moreW ep u t W (u + i) = recFrame ep u t i := fun i => by unfold moreW; rw [if_neg (by omega), Nat.add_sub_cancel_left]
  refine ⟨hc, fun i hi => ?_, fun i hi => ?_, fun X hX j => ?_, fun h0 => ?_⟩
  · by_cases hlt : i < u
    · rw [ha i hlt, p2 _ (Or.inl (by omega))]
      exact h.here i hlt
    · obtain ⟨q, rfl⟩ : ∃ q, i = u + q := ⟨i - u, by omega⟩
      rw [hb q, ← Nat.add_assoc]
      exact p1 q (by omega)
  · rw [p2 _ (Or.inr (by omega))]
    exact h.blank i (by omega)
  · rw [Nat.add_assoc, h.scan X (fun i hi => by rw [hX i (by omega), ha i hi]) (costOf t.size + j)]
    exact scan_rec ep X t u (fun i hi => by rw [hX (u + i) (by omega), hb i]) kept j
  · by_cases hu : 0 < u
    · rw [ha 0 hu]
      exact h.head hu
    · obtain rfl : u = 0 := by omega
      have := hb 0
      rw [Nat.add_zero] at this
      rw [this]
      exact isFrame_rec ep 0 t 0
theorem App.scanned {ep f n : Nat} {M : DiskM} {u : Nat} {kept : List ByteArray} {W : Nat → ByteArray} (h : App ep f n M u kept W) (he : ep < 4294967296) (hn : n < 1000000) : scanF ep (fun k => sectB M (f + k)) n 0 [] [] = kept := by
  have hle := h.le
  have e := h.scan (fun k => sectB M (f + k)) (fun i hi => h.here i hi) (n - u)
  rw [show u + (n - u) = n by omega] at e
  rw [e]
  exact scan_stop _ _ _ _ _ _ (blank_not ep _ u he (by omega) (h.blank u (Nat.le_refl _)))
theorem App.other {ep f n : Nat} {M : DiskM} {u : Nat} {kept : List ByteArray} {W : Nat → ByteArray} (h : App ep f n M u kept W) (he : ep < 4294967296) (o : Nat) (ho : o < 4294967296) (hne : ¬ ep = o) : scanF o (fun k => sectB M (f + k)) n 0 [] [] = [] := by
  apply scan_stop
  by_cases hu : 0 < u
  · intro hg
    have h1 := h.head hu
    rw [← h.here 0 hu] at h1
    have a1 := (frame_stamp ep 1 _ he (by decide) h1).1
    have a2 := (frame_stamp o 1 _ ho (by decide) hg.1).1
    exact hne (a1.symm.trans a2)
  · exact blank_not o _ 0 ho (by decide) (h.blank 0 (by omega))
end Go.Proofs.Ytakngnigpncmkaa
