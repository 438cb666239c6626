/-
  What is read of two slots of which one is torn: mathematics alone.
-/
import Derived.Test.YtnkmidfdpjcdaaaSuperAwake
namespace Go.Proofs.Ytnkmidfdpjcdaaa
open Go.RowKit

/-- a sector's bytes that are sure -/
def sureOf (m : DiskM) (k : Nat) : ByteArray := ⟨(sec m.S k).toArray⟩
theorem sureOf_size (m : DiskM) (k : Nat) : (sureOf m k).size = 64 := by show (sec m.S k).length = 64; simp [sec]
theorem Sup.text_le (s : Sup) : (⟨s.text.toArray⟩ : ByteArray).size ≤ 47 := by rw [s.text_size]; decide
theorem Sup.frame_list (s : Sup) : s.frame.data.toList = frameOf s.ep 0 s.text := mkFrame_list _ _ _
theorem Sup.frame_drop (s : Sup) : s.frame.data.toList.drop 56 = stampOf s.ep 0 := by
  rw [s.frame_list]
  exact frame_end _ _ _ (by rw [s.text_len]; decide)
theorem Sup.frame_take (s : Sup) (hs : s.fits) : num (s.frame.data.toList.take 4) = s.ep := (take4_frame s.ep 0 ⟨s.text.toArray⟩ hs.ep (by decide)).1
theorem Sup.frame_apart {s t : Sup} (hs : s.fits) (ht : t.fits) (h : ¬ s.ep = t.ep) : ¬ s.frame.extract 56 64 = t.frame.extract 56 64 := fun e => h (by
  have e2 := congrArg (fun x : ByteArray => x.data.toList) e
  have ls : s.frame.data.toList.length = 64 := by have := s.frame_size; simpa using this
  have lt : t.frame.data.toList.length = 64 := by have := t.frame_size; simpa using this
  have d1 : (s.frame.extract 56 64).data.toList = s.frame.data.toList.drop 56 := by
    simp only [ByteArray.data_extract, Array.toList_extract, List.extract_eq_take_drop]
    exact List.take_of_length_le (by rw [List.length_drop]; omega)
  have d2 : (t.frame.extract 56 64).data.toList = t.frame.data.toList.drop 56 := by
    simp only [ByteArray.data_extract, Array.toList_extract, List.extract_eq_take_drop]
    exact List.take_of_length_le (by rw [List.length_drop]; omega)
  have e3 : (s.frame.extract 56 64).data.toList = (t.frame.extract 56 64).data.toList := e2
  rw [d1, d2, s.frame_drop, t.frame_drop] at e3
  exact (stampOf_inj _ _ _ _ hs.ep (by decide) ht.ep (by decide) e3).1)
/-- a torn sector tells the new super, or one of the elder epoch -/
theorem ok_torn (y old : Sup) (hy : y.fits) (ho : old.fits) (c k n : Nat) (hc : c ≤ 64) (hne : ¬ old.ep = y.ep) (h : refOk (tornOf y.frame old.frame c) k n) :
    tornOf y.frame old.frame c = y.frame ∨ (refOf (tornOf y.frame old.frame c)).ep = old.ep := by
  have hl := torn_list y.frame old.frame c old.frame_size
  have ly : y.frame.data.toList.length = 64 := by have := y.frame_size; simpa using this
  have lo : old.frame.data.toList.length = 64 := by have := old.frame_size; simpa using this
  rcases Nat.lt_or_ge 56 c with h56 | h56
  · left
    have he : (refOf (tornOf y.frame old.frame c)).ep = y.ep := by
      show num ((tornOf y.frame old.frame c).data.toList.take 4) = y.ep
      rw [hl, List.take_append_of_le_length (by rw [List.length_take]; omega), List.take_take, Nat.min_eq_left (by omega)]
      exact y.frame_take hy
    have hf : isFrame y.ep 0 (tornOf y.frame old.frame c) := by
      rw [← h.2.1]
      generalize refOf (tornOf y.frame old.frame c) = G at he ⊢
      have := isFrame_own G.ep 0 ⟨G.text.toArray⟩ G.text_le
      have e : G.frame = mkFrame G.ep 0 ⟨G.text.toArray⟩ := rfl
      rw [e]
      rw [he] at this ⊢
      exact this
    exact (torn_is y.ep 0 ⟨y.text.toArray⟩ old.frame c y.text_le old.frame_size hc (Sup.frame_apart ho hy hne)).1 hf
  · right
    have h1 : (tornOf y.frame old.frame c).data.toList.drop 56 = stampOf old.ep 0 := by
      rw [hl, List.drop_append, List.drop_of_length_le (by rw [List.length_take]; omega), List.nil_append, List.drop_drop, List.length_take]
      rw [show c + (56 - min c y.frame.data.toList.length) = 56 by omega]
      exact old.frame_drop
    have h2 := (refOf (tornOf y.frame old.frame c)).frame_drop
    rw [h.2.1, h1] at h2
    exact (stampOf_inj _ _ _ _ ho.ep (by decide) (refOf_fits _).ep (by decide) h2).1.symm
/-- of two slots, of which one tells a super that may be -/
theorem last_two (m : DiskM) (h2 : 2 ≤ m.n) (j k : Nat) (hj : j < 2) (hk : k < 2) (hjk : ¬ j = k) (hA : refOk (sectOf m j) j m.n) :
    (refOk (sectOf m k) k m.n → (refOf (sectOf m j)).ep < (refOf (sectOf m k)).ep → lastOf m = refOf (sectOf m k)) ∧
    ((refOk (sectOf m k) k m.n → (refOf (sectOf m k)).ep < (refOf (sectOf m j)).ep) → lastOf m = refOf (sectOf m j)) := by
  rw [last_ref m h2]
  unfold refRd
  by_cases e : j = 0
  · subst e
    obtain rfl : k = 1 := by omega
    refine ⟨fun a b => ?_, fun a => ?_⟩
    · rw [if_neg (fun x => by rcases x.2 with y | y; exact y a; omega), if_pos a]
    · by_cases ho : refOk (sectOf m 1) 1 m.n
      · rw [if_pos ⟨hA, Or.inr (a ho)⟩]
      · rw [if_pos ⟨hA, Or.inl ho⟩]
  · obtain rfl : j = 1 := by omega
    obtain rfl : k = 0 := by omega
    refine ⟨fun a b => ?_, fun a => ?_⟩
    · rw [if_pos ⟨a, Or.inr b⟩]
    · by_cases ho : refOk (sectOf m 0) 0 m.n
      · rw [if_neg (fun x => by have := a ho; rcases x.2 with y | y; exact y hA; omega), if_pos hA]
      · rw [if_neg (fun x => ho x.1), if_pos hA]
/-- the older one in the one slot, the newer one, torn, in the other -/
theorem last_torn (m : DiskM) (h2 : 2 ≤ m.n) (x y old : Sup) (hx : x.fits) (hy : y.fits) (ho : old.fits) (cx : x.check m.n = 0) (cy : y.check m.n = 0) (e1 : x.ep = old.ep + 1) (e2 : y.ep = x.ep + 1)
    (c : Nat) (hc : c ≤ 64) (sx : sectOf m (x.ep % 2) = x.frame) (sy : sectOf m (y.ep % 2) = tornOf y.frame old.frame c) :
    (lastOf m = x ∨ lastOf m = y) ∧ (tornOf y.frame old.frame c = y.frame → lastOf m = y) := by
  obtain ⟨ox, rx⟩ := frame_ok' x hx m.n cx
  obtain ⟨oy, ry⟩ := frame_ok' y hy m.n cy
  obtain ⟨l1, l2⟩ := last_two m h2 (x.ep % 2) (y.ep % 2) (Nat.mod_lt _ (by decide)) (Nat.mod_lt _ (by decide)) (by omega) (by rw [sx]; exact ox)
  rw [sx, sy, rx] at l1 l2
  have hw : tornOf y.frame old.frame c = y.frame → lastOf m = y := fun e => by
    rw [e, ry] at l1
    exact l1 oy (by omega)
  refine ⟨?_, hw⟩
  by_cases e : tornOf y.frame old.frame c = y.frame
  · exact Or.inr (hw e)
  · left
    refine l2 fun a => ?_
    rcases ok_torn y old hy ho c _ _ hc (by omega) a with b | b
    · exact absurd b e
    · omega
theorem torn_T (m : DiskM) (k c x : Nat) (hx : x < 64) : (m.torn k c).T (k * 64 + x) = if x < c then m.T (k * 64 + x) else m.S (k * 64 + x) := by
  show (if k * 64 ≤ k * 64 + x ∧ k * 64 + x < k * 64 + 64 then (m.reach k c).S (k * 64 + (k * 64 + x - k * 64)) else _) = _
  rw [if_pos ⟨by omega, by omega⟩, show k * 64 + (k * 64 + x - k * 64) = k * 64 + x by omega]
  show (if k * 64 ≤ k * 64 + x ∧ k * 64 + x < k * 64 + c then _ else _) = _
  by_cases hc : x < c
  · rw [if_pos ⟨by omega, by omega⟩, if_pos hc]
  · rw [if_neg (by omega), if_neg hc]
theorem sectOf_torn (m : DiskM) (k c : Nat) (hc : c ≤ 64) : sectOf (m.torn k c) k = tornOf (sectOf m k) (sureOf m k) c := by
  apply ByteArray.ext
  apply Array.toList_inj.mp
  rw [torn_list _ _ _ (sureOf_size m k)]
  show sec (m.torn k c).T k = (sec m.T k).take c ++ (sec m.S k).drop c
  apply List.ext_getElem
  · simp [sec]
    omega
  · intro x h1 h2
    have hx : x < 64 := by simpa [sec] using h1
    rw [List.getElem_append]
    by_cases h : x < c
    · simp [sec, torn_T m k c x hx, h]
      intro h'
      omega
    · simp [sec, torn_T m k c x hx, h]
      split
      · omega
      · congr 1
        omega
/-- a disk on which the second of two supers was written behind a Sync -/
structure TurnM (m : DiskM) (x y old : Sup) : Prop where
  n : m.n = 1000
  same : ∀ i, ¬ i = y.ep % 2 → sameIn m.T m.S i
  sx : sectOf m (x.ep % 2) = x.frame
  sy : sectOf m (y.ep % 2) = y.frame
  so : sureOf m (y.ep % 2) = old.frame
structure TurnS (x y old : Sup) : Prop where
  fx : x.fits
  fy : y.fits
  fo : old.fits
  cx : x.check 1000 = 0
  cy : y.check 1000 = 0
  co : old.check 1000 = 0
  e1 : x.ep = old.ep + 1
  e2 : y.ep = x.ep + 1
theorem TurnM.loose {m : DiskM} {x y old : Sup} (h : TurnM m x y old) (s : TurnS x y old) : m.looseTo m.n = [y.ep % 2] := by
  have hk : y.ep % 2 < m.n := by rw [h.n]; omega
  have e := loose_to m (y.ep % 2) (fun e => by
    have e1 := e.sec
    have e2 : sectOf m (y.ep % 2) = sureOf m (y.ep % 2) := by
      unfold sectOf sureOf
      rw [e1]
    rw [h.sy, h.so] at e2
    exact Sup.frame_apart s.fy s.fo (by have := s.e1; have := s.e2; omega) (by rw [e2])) m.n fun i _ hi => h.same i hi
  rw [e, if_pos hk]
theorem TurnM.crashT {m : DiskM} {x y old : Sup} (h : TurnM m x y old) (s : TurnS x y old) (ct : Nat → Nat) : (m.crashed ct).T = (m.torn (y.ep % 2) (ct 0)).T ∧ (m.crashed ct).n = 1000 := by
  have hn : ∀ l, (m.tornTo l ct l.length).n = m.n := fun l => (m.tornTo_same l ct l.length).2.2.2.1
  constructor
  · show (m.tornTo (m.looseTo m.n) ct (m.looseTo m.n).length).T = _
    rw [h.loose s]
    rfl
  · show (m.tornTo (m.looseTo m.n) ct (m.looseTo m.n).length).n = _
    rw [hn, h.n]
theorem TurnM.read {m : DiskM} {x y old : Sup} (h : TurnM m x y old) (s : TurnS x y old) (ct : Nat → Nat) (hct : ct 0 ≤ 64) :
    (lastOf (m.crashed ct) = x ∨ lastOf (m.crashed ct) = y) ∧ (ct 0 = 64 → lastOf (m.crashed ct) = y) := by
  obtain ⟨hT, hn⟩ := h.crashT s ct
  have e1 := s.e1
  have e2 := s.e2
  have sx : sectOf (m.crashed ct) (x.ep % 2) = x.frame := by
    rw [← h.sx]
    unfold sectOf
    rw [hT, (((torn_in m (y.ep % 2) (ct 0) hct (x.ep % 2)).2 (by omega)).1).sec]
  have sy : sectOf (m.crashed ct) (y.ep % 2) = tornOf y.frame old.frame (ct 0) := by
    rw [← h.sy, ← h.so, ← sectOf_torn m _ _ hct]
    unfold sectOf
    rw [hT]
  obtain ⟨a, b⟩ := last_torn (m.crashed ct) (by rw [hn]; decide) x y old s.fx s.fy s.fo (by rw [hn]; exact s.cx) (by rw [hn]; exact s.cy) e1 e2 (ct 0) hct sx sy
  refine ⟨a, fun e => b ?_⟩
  apply ByteArray.ext
  apply Array.toList_inj.mp
  have ly : y.frame.data.toList.length = 64 := by have := y.frame_size; simpa using this
  have lo : old.frame.data.toList.length = 64 := by have := old.frame_size; simpa using this
  rw [torn_list _ _ _ old.frame_size, e, List.take_of_length_le (by omega), List.drop_of_length_le (by omega), List.append_nil]
/-- the same disk, synced, behind a crash -/
theorem TurnM.whole {m m2 : DiskM} {x y old : Sup} (h : TurnM m x y old) (s : TurnS x y old) (hn : m2.n = m.n) (hT : m2.T = m.T) (hS : m2.S = m.T) (ct : Nat → Nat) (hct : ∀ q, ct q ≤ 64) :
    lastOf (m2.crashed ct) = y := by
  have e1 := s.e1
  have e2 := s.e2
  have hcn : (m2.crashed ct).n = 1000 := by
    show (m2.tornTo (m2.looseTo m2.n) ct (m2.looseTo m2.n).length).n = _
    rw [(m2.tornTo_same (m2.looseTo m2.n) ct (m2.looseTo m2.n).length).2.2.2.1, hn, h.n]
  have hsec : ∀ i, i < 1000 → sectOf (m2.crashed ct) i = sectOf m i := fun i hi => by
    have := (crashed_in m2 ct hct i (by rw [hn, h.n]; exact hi)).2 (by rw [hT, hS]; exact fun _ _ => rfl)
    unfold sectOf
    rw [this.sec, hT]
  obtain ⟨ox, rx⟩ := frame_ok' x s.fx 1000 s.cx
  obtain ⟨oy, ry⟩ := frame_ok' y s.fy 1000 s.cy
  obtain ⟨l1, _⟩ := last_two (m2.crashed ct) (by rw [hcn]; decide) (x.ep % 2) (y.ep % 2) (Nat.mod_lt _ (by decide)) (Nat.mod_lt _ (by decide)) (by omega) (by rw [hcn, hsec _ (by omega), h.sx]; exact ox)
  rw [hcn, hsec _ (by omega), hsec _ (by omega), h.sx, h.sy, rx, ry] at l1
  exact l1 oy (by omega)
/-- written, written, synced, written -/
theorem turn_made (d bs bt : Nat) (x y old : Sup) (s : TurnS x y old) (m : DiskM) (hm : m = (newDisk d bs bt 1000).wrote (old.ep % 2) (txtf old.frame))
    (m2 : DiskM) (hm2 : m2 = m.wrote (x.ep % 2) (txtf x.frame)) (m3 : DiskM) (hn3 : m3.n = m2.n) (hT3 : m3.T = m2.T) (hS3 : m3.S = m2.T) : TurnM (m3.wrote (y.ep % 2) (txtf y.frame)) x y old := by
  have e1 := s.e1
  have e2 := s.e2
  have hsec : ∀ i, sectOf m3 i = sectOf m2 i := fun i => by unfold sectOf; rw [hT3]
  refine ⟨?_, ?_, ?_, ?_, ?_⟩
  · show m3.n = 1000
    rw [hn3, hm2, hm]
    rfl
  · intro i hi
    have a := wrote_in m3 (y.ep % 2) (txtf y.frame) i hi
    exact a.trans (by show sameIn m3.T m3.S i; rw [hT3, hS3]; exact fun _ _ => rfl)
  · rw [sectOf_other _ _ _ _ (by omega), hsec, hm2, sectOf_wrote _ _ _ x.frame_size]
  · exact sectOf_wrote _ _ _ y.frame_size
  · have : sureOf (m3.wrote (y.ep % 2) (txtf y.frame)) (y.ep % 2) = sectOf m2 (y.ep % 2) := by
      show (⟨(sec m3.S (y.ep % 2)).toArray⟩ : ByteArray) = _
      rw [hS3]
      rfl
    rw [this, hm2, sectOf_other _ _ _ _ (by omega), hm, show y.ep % 2 = old.ep % 2 by omega, sectOf_wrote _ _ _ old.frame_size]
end Go.Proofs.Ytnkmidfdpjcdaaa
