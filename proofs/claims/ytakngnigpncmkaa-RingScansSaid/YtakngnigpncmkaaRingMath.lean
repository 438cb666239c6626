/-
  What Scan finds of what Append wrote: mathematics.
-/
import Derived.Test.YtakngnigpncmkaaRingScan
namespace Go.Proofs.Ytakngnigpncmkaa
open Go.RowKit

theorem txtf_list (s : ByteArray) (hs : s.size = 64) : (List.range 64).map (fun j => txtf s j) = s.data.toList := by
  have hl : s.data.toList.length = 64 := by simpa using hs
  apply List.ext_getElem
  · simp [hl]
  · intro i h1 h2
    simp only [List.getElem_map, List.getElem_range, txtf]
    rw [List.getD_eq_getElem?_getD, List.getElem?_eq_getElem h2]
    rfl
theorem sectB_wrote (m : DiskM) (k : Nat) (s : ByteArray) (hs : s.size = 64) : sectB (m.wrote k (txtf s)) k = s := by
  apply ByteArray.ext
  apply Array.toList_inj.mp
  rw [← txtf_list s hs]
  show sec (m.wrote k (txtf s)).T k = _
  unfold sec DiskM.wrote
  apply List.map_congr_left
  intro j hj
  have hj' : j < 64 := by simpa using hj
  show (if k * 64 ≤ k * 64 + j ∧ k * 64 + j < k * 64 + 64 then txtf s (k * 64 + j - k * 64) else _) = _
  rw [if_pos (by omega)]
  congr 1
  omega
theorem sectB_other (m : DiskM) (k : Nat) (g : Nat → UInt8) (i : Nat) (h : ¬ i = k) : sectB (m.wrote k g) i = sectB m i := by
  unfold sectB
  rw [(wrote_in m k g i h).sec]
theorem sectB_put (m : DiskM) (a : Nat) (F : Nat → ByteArray) (hF : ∀ i, (F i).size = 64) (j : Nat) :
    (∀ i, i < j → sectB (m.putTo a F j) (a + i) = F i) ∧ (∀ q, (q < a ∨ a + j ≤ q) → sectB (m.putTo a F j) q = sectB m q) := by
  induction j with
  | zero => exact ⟨fun i hi => absurd hi (Nat.not_lt_zero _), fun q _ => rfl⟩
  | succ j ih =>
    constructor
    · intro i hi
      show sectB ((m.putTo a F j).wrote (a + j) (txtf (F j))) (a + i) = F i
      by_cases e : i = j
      · subst e
        exact sectB_wrote _ _ _ (hF _)
      · rw [sectB_other _ _ _ _ (by omega)]
        exact ih.1 i (by omega)
    · intro q hq
      show sectB ((m.putTo a F j).wrote (a + j) (txtf (F j))) q = _
      rw [sectB_other _ _ _ _ (by omega)]
      exact ih.2 q (by omega)
theorem ring_text (b : UInt8) (s : ByteArray) (hs : s.size ≤ 46) : ((⟨#[b]⟩ : ByteArray) ++ s).size ≤ 47 := by rw [ByteArray.size_append]; show 1 + s.size ≤ 47; omega
theorem ring_list (b : UInt8) (s : ByteArray) : ((⟨#[b]⟩ : ByteArray) ++ s).data.toList = b :: s.data.toList := by simp [ByteArray.data_append]
theorem part_size (t : ByteArray) (i : Nat) : (t.extract (46 * i) (46 * i + 46)).size ≤ 46 := by rw [ByteArray.size_extract]; omega
theorem recFrame_size (ep k : Nat) (t : ByteArray) (i : Nat) : (recFrame ep k t i).size = 64 := mkFrame_size _ _ _ (ring_text _ _ (part_size t i))
theorem firstB_ring (b : UInt8) (s : ByteArray) : firstB (⟨#[b]⟩ ++ s) = b.toNat := by
  unfold firstB
  rw [ring_list]
  rfl
theorem restB_ring (b : UInt8) (s : ByteArray) : restB (⟨#[b]⟩ ++ s) = s.data.toList := by
  unfold restB
  rw [ByteArray.data_extract, Array.toList_extract, List.extract_eq_take_drop, ring_list]
  show List.take _ s.data.toList = _
  apply List.take_of_length_le
  rw [ByteArray.size_append]
  show _ ≤ 1 + s.size - 1
  simp
theorem textIn_ring (ep k : Nat) (b : UInt8) (s : ByteArray) (hs : s.size ≤ 46) : textIn (ringFrame ep k b s) = ⟨#[b]⟩ ++ s := textIn_frame _ _ _ (ring_text b s hs)
theorem good_ring (ep : Nat) (X : Nat → ByteArray) (k : Nat) (b : UInt8) (s : ByteArray) (hX : X k = ringFrame ep k b s) (hb : b.toNat ≤ 1) (hs : s.size ≤ 46) : good ep X k := by
  unfold good
  rw [hX, textIn_ring ep k b s hs, firstB_ring]
  refine ⟨isFrame_own ep (k + 1) _ (ring_text b s hs), fun e => ?_, hb⟩
  have := congrArg ByteArray.size e
  rw [ByteArray.size_append] at this
  have h1 : (⟨#[b]⟩ : ByteArray).size = 1 := rfl
  have h2 : (⟨#[]⟩ : ByteArray).size = 0 := rfl
  omega
theorem part_list (t : ByteArray) (a : Nat) : t.data.toList.take a ++ (t.extract a (a + 46)).data.toList = t.data.toList.take (a + 46) := by
  rw [ByteArray.data_extract, Array.toList_extract, List.extract_eq_take_drop, show a + 46 - a = 46 by omega, List.take_add]
theorem scanF_succ (ep : Nat) (X : Nat → ByteArray) (j k : Nat) (rec : List UInt8) (out : List ByteArray) : scanF ep X (j + 1) k rec out =
    if good ep X k then
      (if firstB (textIn (X k)) = 1 then scanF ep X j (k + 1) [] (out ++ [⟨(rec ++ restB (textIn (X k))).toArray⟩]) else scanF ep X j (k + 1) (rec ++ restB (textIn (X k))) out)
    else out := rfl
theorem scan_rec (ep : Nat) (X : Nat → ByteArray) (t : ByteArray) (u : Nat) (hX : ∀ i, i < costOf t.size → X (u + i) = recFrame ep u t i) (out : List ByteArray) (j : Nat) :
    scanF ep X (costOf t.size + j) u [] out = scanF ep X j (u + costOf t.size) [] (out ++ [t]) := by
  obtain ⟨d, hd, d0, d1, d2⟩ := cost_pos t.size
  have hl : t.data.toList.length = t.size := by simp
  have key : ∀ q i, i + q = d → scanF ep X (q + 1 + j) (u + i) (t.data.toList.take (46 * i)) out = scanF ep X j (u + (d + 1)) [] (out ++ [t]) := by
    intro q
    induction q with
    | zero =>
      intro i hi
      obtain rfl : i = d := by omega
      have hx := hX i (by omega)
      have hf : recFrame ep u t i = ringFrame ep (u + i) 1 (t.extract (46 * i) (46 * i + 46)) := by unfold recFrame; rw [hd, if_pos rfl]
      have hs := part_size t i
      rw [show 0 + 1 + j = j + 1 by omega]
      rw [scanF_succ, if_pos (good_ring ep X (u + i) 1 _ (hx.trans hf) (by decide) hs), hx, hf, textIn_ring ep _ 1 _ hs, firstB_ring, restB_ring, if_pos (by decide), part_list]
      have he : (⟨(t.data.toList.take (46 * i + 46)).toArray⟩ : ByteArray) = t := by
        rw [List.take_of_length_le (by omega)]
      rw [he, Nat.add_assoc]
    | succ q ih =>
      intro i hi
      have hx := hX i (by omega)
      have hf : recFrame ep u t i = ringFrame ep (u + i) 0 (t.extract (46 * i) (46 * i + 46)) := by unfold recFrame; rw [hd, if_neg (by omega)]
      have hs := part_size t i
      rw [show q + 1 + 1 + j = (q + 1 + j) + 1 by omega]
      rw [scanF_succ, if_pos (good_ring ep X (u + i) 0 _ (hx.trans hf) (by decide) hs), hx, hf, textIn_ring ep _ 0 _ hs, firstB_ring, restB_ring, if_neg (by decide), part_list]
      have := ih (i + 1) (by omega)
      rw [show 46 * (i + 1) = 46 * i + 46 by omega] at this
      exact this
  have := key d 0 (by omega)
  rw [hd]
  simpa using this
/-- a frame's stamp is read off its first bytes -/
theorem frame_stamp (a b : Nat) (s : ByteArray) (ha : a < 4294967296) (hb : b < 4294967296) (h : isFrame a b s) : num (s.data.toList.take 4) = a ∧ num ((s.data.toList.drop 4).take 4) = b := by
  have := take4_frame a b (textIn s) ha hb
  have e : s = mkFrame a b (textIn s) := h.2.2
  rw [← e] at this
  exact this
theorem scan_stop (ep : Nat) (X : Nat → ByteArray) (j k : Nat) (rec : List UInt8) (out : List ByteArray) (h : ¬ good ep X k) : scanF ep X j k rec out = out := by
  cases j with
  | zero => rfl
  | succ j => unfold scanF; rw [if_neg h]
theorem blank_sec (d bs bt n k : Nat) : sec (newDisk d bs bt n).T k = List.replicate 64 0 := by
  unfold sec newDisk
  simp [List.map_const']
theorem blank_not (ep : Nat) (X : Nat → ByteArray) (k : Nat) (he : ep < 4294967296) (hk : k + 1 < 4294967296) (h : (X k).data.toList = List.replicate 64 0) : ¬ good ep X k := fun hg => by
  have := (frame_stamp ep (k + 1) (X k) he hk hg.1).2
  rw [h] at this
  have e0 : num (((List.replicate 64 (0 : UInt8)).drop 4).take 4) = 0 := by decide
  rw [e0] at this
  omega
end Go.Proofs.Ytakngnigpncmkaa
