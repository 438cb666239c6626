/-
  What is left of records behind a crash: mathematics.
-/
import Derived.Test.YtakngnigpncmkaaRingApps
namespace Go.Proofs.Ytakngnigpncmkaa
open Go.RowKit

/-- a sector's bytes that are sure -/
def sureB (m : DiskM) (k : Nat) : ByteArray := ⟨(sec m.S k).toArray⟩
theorem sureB_size (m : DiskM) (k : Nat) : (sureB m k).size = 64 := by show (sec m.S k).length = 64; simp [sec]
/-- behind some of a crash's cuts: a sector has first bytes that were there, and behind them those that were sure -/
theorem tornTo_part (m : DiskM) (L : List Nat) (ct : Nat → Nat) (hct : ∀ q, ct q ≤ 64) (i : Nat) : ∀ j,
    ((∃ q, q < j ∧ L.getD q 0 = i) → ∃ c, c ≤ 64 ∧ ∀ x, x < 64 → (m.tornTo L ct j).T (i * 64 + x) = if x < c then m.T (i * 64 + x) else m.S (i * 64 + x))
  | 0 => fun ⟨q, hq, _⟩ => by omega
  | j + 1 => fun hq => by
    obtain ⟨t1, t2⟩ := torn_in (m.tornTo L ct j) (L.getD j 0) (ct j) (hct j) i
    obtain ⟨h1, h2⟩ := tornTo_in m L ct hct i j
    by_cases e : i = L.getD j 0
    · have hval : ∀ x, x < 64 → (m.tornTo L ct (j + 1)).T (i * 64 + x) = if x < ct j then (m.tornTo L ct j).T (i * 64 + x) else (m.tornTo L ct j).S (i * 64 + x) := fun x hx => by
        show (if L.getD j 0 * 64 ≤ i * 64 + x ∧ i * 64 + x < L.getD j 0 * 64 + 64 then ((m.tornTo L ct j).reach (L.getD j 0) (ct j)).S (L.getD j 0 * 64 + (i * 64 + x - L.getD j 0 * 64)) else _) = _
        rw [← e, if_pos ⟨by omega, by omega⟩, show i * 64 + (i * 64 + x - i * 64) = i * 64 + x by omega]
        show (if i * 64 ≤ i * 64 + x ∧ i * 64 + x < i * 64 + ct j then _ else _) = _
        by_cases hc : x < ct j
        · rw [if_pos ⟨by omega, by omega⟩, if_pos hc]
        · rw [if_neg (by omega), if_neg hc]
      by_cases he : ∃ q, q < j ∧ L.getD q 0 = i
      · obtain ⟨c, hc, hv⟩ := tornTo_part m L ct hct i j he
        refine ⟨c, hc, fun x hx => ?_⟩
        rw [hval x hx, ← hv x hx]
        have := h1 he x hx
        split
        · rfl
        · exact this.symm
      · obtain ⟨u1, u2⟩ := h2 fun q hq e => he ⟨q, hq, e⟩
        exact ⟨ct j, hct j, fun x hx => by rw [hval x hx, u1 x hx, u2 x hx]⟩
    · obtain ⟨q, hq1, hq2⟩ := hq
      have hqj : q < j := by
        rcases Nat.lt_or_ge q j with a | a
        · exact a
        · obtain rfl : q = j := by omega
          exact absurd hq2.symm e
      obtain ⟨c, hc, hv⟩ := tornTo_part m L ct hct i j ⟨q, hqj, hq2⟩
      obtain ⟨u1, _⟩ := t2 e
      exact ⟨c, hc, fun x hx => by rw [← hv x hx]; exact u1 x hx⟩
theorem crashed_part (m : DiskM) (ct : Nat → Nat) (hct : ∀ q, ct q ≤ 64) (i : Nat) (hi : i < m.n) : ∃ c, c ≤ 64 ∧ ∀ x, x < 64 → (m.crashed ct).T (i * 64 + x) = if x < c then m.T (i * 64 + x) else m.S (i * 64 + x) := by
  have hm := loose_mem m m.n i
  by_cases e : sameIn m.T m.S i
  · refine ⟨64, Nat.le_refl _, fun x hx => ?_⟩
    rw [if_pos hx]
    exact (crashed_in m ct hct i hi).2 e x hx
  · exact tornTo_part m (m.looseTo m.n) ct hct i _ (hm.2 ⟨hi, e⟩)
theorem crashed_torn (m : DiskM) (ct : Nat → Nat) (hct : ∀ q, ct q ≤ 64) (i : Nat) (hi : i < m.n) : ∃ c, c ≤ 64 ∧ sectB (m.crashed ct) i = tornOf (sectB m i) (sureB m i) c := by
  obtain ⟨c, hc, hv⟩ := crashed_part m ct hct i hi
  refine ⟨c, hc, ?_⟩
  apply ByteArray.ext
  apply Array.toList_inj.mp
  rw [torn_list _ _ _ (sureB_size m i)]
  show sec (m.crashed ct).T i = (sec m.T i).take c ++ (sec m.S i).drop c
  apply List.ext_getElem
  · simp [sec]
    omega
  · intro x h1 h2
    have hx : x < 64 := by simpa [sec] using h1
    rw [List.getElem_append]
    by_cases h : x < c
    · simp [sec, hv x hx, h]
      intro h'
      omega
    · simp [sec, hv x hx, h]
      split
      · omega
      · congr 1
        omega
/-- a part of a record's frames, scanned -/
theorem scan_part (ep : Nat) (X : Nat → ByteArray) (t : ByteArray) (u : Nat) (out : List ByteArray) (j : Nat) : ∀ d, d < costOf t.size → (∀ i, i < d → X (u + i) = recFrame ep u t i) →
    scanF ep X (d + j) u [] out = scanF ep X j (u + d) (t.data.toList.take (46 * d)) out := by
  intro d
  induction d generalizing j with
  | zero => intro _ _; simp
  | succ d ih =>
    intro hd hX
    have hx := hX d (by omega)
    have hf : recFrame ep u t d = ringFrame ep (u + d) 0 (t.extract (46 * d) (46 * d + 46)) := by unfold recFrame; rw [if_neg (by omega)]
    have hs := part_size t d
    rw [show d + 1 + j = d + (j + 1) by omega, ih (j + 1) (by omega) (fun i hi => hX i (by omega))]
    rw [scanF_succ, if_pos (good_ring ep X (u + d) 0 _ (hx.trans hf) (by decide) hs), hx, hf, textIn_ring ep _ 0 _ hs, firstB_ring, restB_ring, if_neg (by decide), part_list]
    rfl
/-- what an elder sector may hold: its last bytes are not this epoch's stamp -/
def elder (ep : Nat) (A : Nat → ByteArray) (i : Nat) : Prop := (A i).size = 64 ∧ ¬ (A i).data.toList.drop 56 = stampOf ep (i + 1)
/-- a journal behind records: u frames, of which y are synced; all records, of which q are sure; the elder sectors -/
structure Kept (ep f n : Nat) (A : Nat → ByteArray) (M : DiskM) (u y q : Nat) (kept : List ByteArray) (W : Nat → ByteArray) : Prop where
  le : u ≤ n
  here : ∀ i, i < u → sectB M (f + i) = W i
  old : ∀ i, u ≤ i → sectB M (f + i) = A i
  sure1 : ∀ i, i < y → sureB M (f + i) = W i
  sure2 : ∀ i, y ≤ i → sureB M (f + i) = A i
  frame : ∀ i, i < u → ∃ t : ByteArray, t.size ≤ 47 ∧ W i = mkFrame ep (i + 1) t
  scan : ∀ X : Nat → ByteArray, (∀ i, i < u → X i = W i) → ∀ j, scanF ep X (u + j) 0 [] [] = scanF ep X j u [] kept
  pre : ∀ b, b ≤ u → ∃ k rec, k ≤ kept.length ∧ (y ≤ b → q ≤ k) ∧ ∀ X : Nat → ByteArray, (∀ i, i < b → X i = W i) → ∀ j, scanF ep X (b + j) 0 [] [] = scanF ep X j b rec (kept.take k)
theorem Kept.start (ep f n : Nat) (M : DiskM) (h : ∀ i, sureB M (f + i) = sectB M (f + i)) : Kept ep f n (fun i => sectB M (f + i)) M 0 0 0 [] (fun _ => ⟨#[]⟩) :=
  ⟨Nat.zero_le _, fun _ h => absurd h (Nat.not_lt_zero _), fun _ _ => rfl, fun _ h => absurd h (Nat.not_lt_zero _), fun i _ => h i, fun _ h => absurd h (Nat.not_lt_zero _), fun X _ j => by rw [Nat.zero_add], fun b hb => ⟨0, [], Nat.le_refl _, fun _ => Nat.le_refl _, fun X _ j => by rw [Nat.le_zero.1 hb, Nat.zero_add]; rfl⟩⟩
theorem sureB_put (m : DiskM) (a : Nat) (F : Nat → ByteArray) (j q : Nat) : sureB (m.putTo a F j) q = sureB m q := by
  unfold sureB
  rw [(putTo_same m a F j).2.2.2.1]
theorem Kept.step {ep f n : Nat} {A : Nat → ByteArray} {M : DiskM} {u y q : Nat} {kept : List ByteArray} {W : Nat → ByteArray} (h : Kept ep f n A M u y q kept W) (hy : y ≤ u) (t : ByteArray) (hc : u + costOf t.size ≤ n) :
    Kept ep f n A (M.putTo (f + u) (recFrame ep u t) (costOf t.size)) (u + costOf t.size) y q (kept ++ [t]) (moreW ep u t W) := by
  obtain ⟨p1, p2⟩ := sectB_put M (f + u) (recFrame ep u t) (recFrame_size ep u t) (costOf t.size)
  have ha : ∀ i, i < u → moreW ep u t W i = W i := fun i hi => by unfold moreW; rw [if_pos hi]
  have hb : ∀ i, moreW ep u t W (u + i) = recFrame ep u t i := fun i => by unfold moreW; rw [if_neg (by omega), Nat.add_sub_cancel_left]
  have hscan : ∀ X : Nat → ByteArray, (∀ i, i < u + costOf t.size → X i = moreW ep u t W i) → ∀ j, scanF ep X (u + costOf t.size + j) 0 [] [] = scanF ep X j (u + costOf t.size) [] (kept ++ [t]) := fun X hX j => by
    rw [Nat.add_assoc, h.scan X (fun i hi => by rw [hX i (by omega), ha i hi]) (costOf t.size + j)]
    exact scan_rec ep X t u (fun i hi => by rw [hX (u + i) (by omega), hb i]) kept j
  refine ⟨hc, fun i hi => ?_, fun i hi => ?_, fun i hi => ?_, fun i hi => ?_, fun i hi => ?_, hscan, fun b hb' => ?_⟩
  · by_cases hlt : i < u
    · rw [ha i hlt, p2 _ (Or.inl (by omega))]
      exact h.here i hlt
    · obtain ⟨k, rfl⟩ : ∃ k, i = u + k := ⟨i - u, by omega⟩
      rw [hb k, ← Nat.add_assoc]
      exact p1 k (by omega)
  · rw [p2 _ (Or.inr (by omega))]
    exact h.old i (by omega)
  · rw [sureB_put, ha i (by omega)]
    exact h.sure1 i hi
  · rw [sureB_put]
    exact h.sure2 i hi
  · by_cases hlt : i < u
    · rw [ha i hlt]
      exact h.frame i hlt
    · obtain ⟨k, rfl⟩ : ∃ k, i = u + k := ⟨i - u, by omega⟩
      rw [hb k]
      exact ⟨_, ring_text _ _ (part_size t k), rfl⟩
  · by_cases h1 : b ≤ u
    · obtain ⟨k, rec, k1, k2, k3⟩ := h.pre b h1
      refine ⟨k, rec, by simp; omega, k2, fun X hX j => ?_⟩
      rw [List.take_append_of_le_length k1]
      exact k3 X (fun i hi => by rw [hX i hi, ha i (by omega)]) j
    · by_cases h2 : b = u + costOf t.size
      · subst h2
        refine ⟨kept.length + 1, [], by simp, fun _ => ?_, fun X hX j => ?_⟩
        · obtain ⟨k, rec, k1, k2, k3⟩ := h.pre u (Nat.le_refl _)
          have := k2 hy
          omega
        · rw [List.take_of_length_le (by simp)]
          exact hscan X hX j
      · obtain ⟨d, rfl⟩ : ∃ d, b = u + d := ⟨b - u, by omega⟩
        refine ⟨kept.length, t.data.toList.take (46 * d), by simp, fun _ => ?_, fun X hX j => ?_⟩
        · obtain ⟨k, rec, k1, k2, k3⟩ := h.pre u (Nat.le_refl _)
          have := k2 hy
          omega
        · rw [List.take_left' rfl, Nat.add_assoc, h.scan X (fun i hi => by rw [hX i (by omega), ha i hi]) (d + j)]
          exact scan_part ep X t u kept j d (by omega) (fun i hi => by rw [hX (u + i) (by omega), hb i])
theorem Kept.sync {ep f n : Nat} {A : Nat → ByteArray} {M : DiskM} {u y q : Nat} {kept : List ByteArray} {W : Nat → ByteArray} (h : Kept ep f n A M u y q kept W) :
    Kept ep f n A { M with S := M.T } u u kept.length kept W := by
  refine ⟨h.le, h.here, h.old, h.here, h.old, h.frame, h.scan, fun b hb => ?_⟩
  by_cases e : b = u
  · subst e
    exact ⟨kept.length, [], Nat.le_refl _, fun _ => Nat.le_refl _, fun X hX j => by rw [List.take_of_length_le (Nat.le_refl _)]; exact h.scan X hX j⟩
  · obtain ⟨k, rec, k1, k2, k3⟩ := h.pre b hb
    exact ⟨k, rec, k1, fun he => absurd (by omega) e, k3⟩
/-- KEPT: behind a crash Scan finds the first ones, all that were sure at least -/
theorem Kept.crash {ep f n : Nat} {A : Nat → ByteArray} {M : DiskM} {u y q : Nat} {kept : List ByteArray} {W : Nat → ByteArray} (h : Kept ep f n A M u y q kept W) (hy : y ≤ u) (hA : ∀ i, i ≤ n → elder ep A i) (hn : f + n < M.n) (ct : Nat → Nat) (hct : ∀ k, ct k ≤ 64) :
    ∃ k, q ≤ k ∧ k ≤ kept.length ∧ scanF ep (fun i => sectB (M.crashed ct) (f + i)) n 0 [] [] = kept.take k := by
  have hle := h.le
  have hX : ∀ i, i < u → ∃ c, c ≤ 64 ∧ sectB (M.crashed ct) (f + i) = tornOf (W i) (sureB M (f + i)) c := fun i hi => by
    obtain ⟨c, hc, e⟩ := crashed_torn M ct hct (f + i) (by omega)
    exact ⟨c, hc, by rw [e, h.here i hi]⟩
  have same : ∀ (s : ByteArray) c, s.size = 64 → tornOf s s c = s := fun s c hs => by
    apply ByteArray.ext
    apply Array.toList_inj.mp
    rw [torn_list _ _ _ hs, List.take_append_drop]
  have hU : ∀ i, u ≤ i → i ≤ n → sectB (M.crashed ct) (f + i) = A i := fun i hi hin => by
    obtain ⟨c, hc, e⟩ := crashed_torn M ct hct (f + i) (by omega)
    rw [e, h.old i hi, h.sure2 i (by omega)]
    exact same _ _ (hA i hin).1
  have notA : ∀ i, i ≤ n → ∀ s : ByteArray, s.data.toList.drop 56 = (A i).data.toList.drop 56 → ¬ isFrame ep (i + 1) s := fun i hin s hs hf => by
    have h4 := congrArg (fun s : ByteArray => s.data.toList) hf.2.2
    have h5 : s.data.toList = frameOf ep (i + 1) (textIn s).data.toList := by simpa using h4
    have h6 := frame_end ep (i + 1) (textIn s).data.toList (by rw [textIn_list _ hf.2.1, List.length_take]; have := hf.2.1; omega)
    rw [← h5, hs] at h6
    exact (hA i hin).2 h6
  -- the first sector that isn't as it was written
  have first : ∀ j, j ≤ u → (∀ i, i < j → sectB (M.crashed ct) (f + i) = W i) ∨ ∃ b, b < j ∧ (∀ i, i < b → sectB (M.crashed ct) (f + i) = W i) ∧ ¬ sectB (M.crashed ct) (f + b) = W b := by
    intro j
    induction j with
    | zero => exact fun _ => Or.inl fun i hi => absurd hi (Nat.not_lt_zero _)
    | succ j ih =>
      intro hj
      rcases ih (by omega) with e | ⟨b, b1, b2⟩
      · by_cases hw : sectB (M.crashed ct) (f + j) = W j
        · refine Or.inl fun i hi => ?_
          by_cases e1 : i = j
          · rw [e1]; exact hw
          · exact e i (by omega)
        · exact Or.inr ⟨j, by omega, e, hw⟩
      · exact Or.inr ⟨b, by omega, b2⟩
  have done : ∀ b, b ≤ u → (∀ i, i < b → sectB (M.crashed ct) (f + i) = W i) → (y ≤ b) → ¬ isFrame ep (b + 1) (sectB (M.crashed ct) (f + b)) → ∃ k, q ≤ k ∧ k ≤ kept.length ∧ scanF ep (fun i => sectB (M.crashed ct) (f + i)) n 0 [] [] = kept.take k := fun b hb hw hyb hn' => by
    obtain ⟨k, rec, k1, k2, k3⟩ := h.pre b hb
    refine ⟨k, k2 hyb, k1, ?_⟩
    have := k3 (fun i => sectB (M.crashed ct) (f + i)) hw (n - b)
    rw [show b + (n - b) = n by omega] at this
    rw [this]
    exact scan_stop _ _ _ _ _ _ fun hg => hn' hg.1
  rcases first u (Nat.le_refl _) with e | ⟨b, b1, b2, b3⟩
  · refine done u (Nat.le_refl _) e hy ?_
    rw [hU u (Nat.le_refl _) hle]
    exact notA u hle _ rfl
  · have hyb : y ≤ b := by
      rcases Nat.lt_or_ge b y with hlt | hge
      · exfalso
        obtain ⟨c, hc, ec⟩ := hX b b1
        rw [h.sure1 b hlt] at ec
        apply b3
        rw [ec]
        refine same _ _ ?_
        rw [← h.here b b1]
        exact sectB_size _ _
      · exact hge
    refine done b (by omega) b2 hyb fun hf => b3 ?_
    obtain ⟨c, hc, ec⟩ := hX b b1
    rw [h.sure2 b hyb] at ec
    obtain ⟨t, ht, hW⟩ := h.frame b b1
    rw [hW] at ec
    rw [ec] at hf
    have hAb := hA b (by omega)
    have hne : ¬ (A b).extract 56 64 = (mkFrame ep (b + 1) t).extract 56 64 := fun e => by
      have e2 := congrArg (fun s : ByteArray => s.data.toList) e
      simp only [ByteArray.data_extract, Array.toList_extract, List.extract_eq_take_drop] at e2
      have l1 : (A b).data.toList.length = 64 := by simpa using hAb.1
      have l2 : (mkFrame ep (b + 1) t).data.toList.length = 64 := by rw [mkFrame_list]; exact frameOf_len _ _ _ (by simpa using ht)
      rw [List.take_of_length_le (by rw [List.length_drop]; omega), List.take_of_length_le (by rw [List.length_drop]; omega)] at e2
      rw [mkFrame_list, frame_end _ _ _ (by simpa using ht)] at e2
      exact hAb.2 e2
    have := (torn_is ep (b + 1) t (A b) c ht hAb.1 hc hne).1 hf
    rw [ec, hW]
    exact this
end Go.Proofs.Ytakngnigpncmkaa
