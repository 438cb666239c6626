/-
  Texts put together: ExtWr, ExtWrite1, ExtWrite.
-/
import Derived.Test.YtbohpffigmllkaaGreatDoorHeapB
import Derived.Test.YtbohpffigmllkaaGreatDoorExtParse
import Derived.Test.YtbohpffigmllkaaGreatDoorExtCost
import Derived.Deep.RegionHeld3
/-
  extent: how an extent's sectors are written into a heap, in a Try: what is on its way.
-/
namespace Go.Proofs.YtbohpffigmllkaaGreatDoor
open Go.RowKit Go.Maps Go.ChangeMaps Go.WideShapes

/-- a sector of an extent -/
def partB (D : ByteArray) (k : Nat) : ByteArray := D.extract (64 * k) (64 * k + 64)
theorem partB_size (D : ByteArray) (h : D.size = 256) (k : Nat) (hk : k < 4) : (partB D k).size = 64 := by
  unfold partB
  rw [ByteArray.size_extract]
  omega
/-- its sum, 0 if it is all noughts -/
def smOf (D : ByteArray) (k : Nat) : Nat := if allZero (partB D k).data.toList then 0 else C.Crc.sum (partB D k).data.toList
theorem smOf_lt (D : ByteArray) (k : Nat) : smOf D k < 4294967296 := by
  unfold smOf
  split
  · decide
  · exact crc_lt _
theorem upTo_same (f : Nat → Nat) (k : Nat) (h : f k = 0) : upTo f (k + 1) = upTo f k := by
  funext j
  unfold upTo
  by_cases e : j = k
  · subst e
    rw [if_pos (by omega), if_neg (by omega), h]
  · by_cases c : j < k
    · rw [if_pos (by omega), if_pos c]
    · rw [if_neg (by omega), if_neg c]
/-- the first k sectors of an extent were written, each into the least free one: where they lie, what the heap is then, and the disk -/
inductive Wr (b : HB) (s : HS) (D : ByteArray) : Nat → (Nat → Nat) → List Nat → HS → (Nat → UInt8) → Prop
  | none : Wr b s D 0 zf [] s b.T
  | skip {k : Nat} {a : Nat → Nat} {J : List Nat} {s1 : HS} {U : Nat → UInt8} : Wr b s D k a J s1 U → allZero (partB D k).data.toList = true → Wr b s D (k + 1) a J s1 U
  | put {k : Nat} {a : Nat → Nat} {J : List Nat} {s1 : HS} {U : Nat → UInt8} {j : Nat} : Wr b s D k a J s1 U → allZero (partB D k).data.toList = false → j < b.n → s1.S j = 0 → (∀ i, i < j → ¬ s1.S i = 0) →
      Wr b s D (k + 1) (updN a k (b.f + j)) (J ++ [j]) (s1.put j ((b.f + j : Nat) : Int)) (wroteT U (b.f + j) (partB D k))
theorem cnt_put (S : Nat → Nat) (j n : Nat) (hj : j < n) (hs : S j = 0) : cnt (upd S j 1) 0 n + 1 = cnt S 0 n ∧ cnt (upd S j 1) 1 n = cnt S 1 n + 1 := by
  have e := cnt_upd S 0 j 1 n hj
  have e2 := cnt_upd S 1 j 1 n hj
  rw [if_pos hs] at e
  rw [if_neg (by omega)] at e2
  simp at e e2
  omega
theorem Wr.same {b : HB} {s s1 : HS} {D : ByteArray} {k : Nat} {a : Nat → Nat} {J : List Nat} {U : Nat → UInt8} (h : Wr b s D k a J s1 U) : s1.K = s.K ∧ s1.G = s.G ∧ cnt s1.S 0 b.n + J.length = cnt s.S 0 b.n ∧ cnt s1.S 1 b.n = cnt s.S 1 b.n + J.length ∧ J.length = partsN D.data.toList k ∧ J.length ≤ k := by
  induction h with
  | none => exact ⟨rfl, rfl, rfl, rfl, rfl, Nat.le_refl _⟩
  | @skip k a J s1 U _ hz ih =>
    obtain ⟨i1, i2, i3, i4, i5, i6⟩ := ih
    refine ⟨i1, i2, i3, i4, ?_, by omega⟩
    show _ = partsN _ _ + _
    have e : (partB D k).data.toList = (D.data.toList.drop (64 * k)).take 64 := by
      unfold partB
      rw [ext_list, show 64 * k + 64 - 64 * k = 64 by omega]
    rw [← e, if_pos hz]
    exact i5
  | @put k a J s1 U j _ hz hj hs _ ih =>
    obtain ⟨i1, i2, i3, i4, i5, i6⟩ := ih
    obtain ⟨c1, c2⟩ := cnt_put s1.S j b.n hj hs
    refine ⟨i1, i2, ?_, ?_, ?_, by rw [List.length_append]; simp; omega⟩
    · show cnt (upd s1.S j 1) 0 b.n + (J ++ [j]).length = _
      rw [List.length_append, List.length_singleton]
      omega
    · show cnt (upd s1.S j 1) 1 b.n = _ + (J ++ [j]).length
      rw [List.length_append, List.length_singleton]
      omega
    · show (J ++ [j]).length = partsN _ _ + _
      have e : (partB D k).data.toList = (D.data.toList.drop (64 * k)).take 64 := by
        unfold partB
        rw [ext_list, show 64 * k + 64 - 64 * k = 64 by omega]
      rw [← e, if_neg (by rw [hz]; decide), List.length_append, List.length_singleton, i5]
theorem Wr.lt {b : HB} {s s1 : HS} {D : ByteArray} {k : Nat} {a : Nat → Nat} {J : List Nat} {U : Nat → UInt8} (ok : b.ok) (h : Wr b s D k a J s1 U) : ∀ j, a j < 65536 := by
  induction h with
  | none => exact fun _ => by unfold zf; decide
  | skip _ _ ih => exact ih
  | put _ _ hj _ _ ih =>
    intro i
    unfold updN
    split
    · have := ok.f
      have := ok.n
      omega
    · exact ih i
/-- a block that holds a head -/
def HdAt (H : Nat) (N : List Value) (W : World) : Prop := W.heap[H]? = some (.cells N.toArray 92 (0, 0))
theorem HdAt.lt {H : Nat} {N : List Value} {W : World} (h : HdAt H N W) : H < W.heap.size := by
  rcases Nat.lt_or_ge H W.heap.size with h1 | h1
  · exact h1
  · unfold HdAt at h
    rw [Array.getElem?_eq_none h1] at h
    cases h
theorem HdAt.cell {H : Nat} {N : List Value} {W : World} (h : HdAt H N W) (j : Nat) : W.cell? ⟨H, j, none⟩ = N[j]? := by
  unfold HdAt at h
  simp [World.cell?, h]
theorem HdAt.free {H : Nat} {N : List Value} {W : World} (h : HdAt H N W) (j : Nat) : W.frozen? ⟨H, j, none⟩ = false := by
  unfold HdAt at h
  simp [World.frozen?, h]
theorem HdAt.range {H : Nat} {N : List Value} {W : World} (h : HdAt H N W) : W.rangeAt H 0 N := fun j v hv => by
  rw [Nat.zero_add, h.cell j]
  exact hv
theorem HdAt.cells {H : Nat} {a m f : Nat → Nat} {W : World} (h : HdAt H (headL a m f) W) : Cells H 40 (headAt a m f) W :=
  ⟨h.lt, fun j hj => ⟨by rw [h.cell, headL_at a m f j hj], h.free j⟩⟩
theorem HdAt.set {H : Nat} {N : List Value} {W : World} (h : HdAt H N W) (k : Nat) (v : Value) : HdAt H (N.set k v) (W.setCell ⟨H, k, none⟩ v) := by
  unfold HdAt at h ⊢
  simp [World.setCell, Array.getElem?_modify, h]
theorem HdAt.keep {H : Nat} {N : List Value} {S : Nat → Prop} {w w' : World} (h : HdAt H N w) (k : Grew S w w') (hS : ¬ S H) : HdAt H N w' := (k.block H h.lt hS).trans h
theorem HdAt.pl {S0 : Nat → Prop} {H : Nat} {N : List Value} {W : World} (h : HdAt H N W) (hs : ¬ S0 H) : Plain S0 W H := ⟨hs, _, _, _, h, by decide, by decide⟩
theorem headL_setAt (a m f : Nat → Nat) (k v : Nat) (hk : k < 4) : (headL a m f).set k (.int .i64 (v : Nat)) = headL (updN a k v) m f := by
  refine List.ext_getElem? fun j => ?_
  rw [List.getElem?_set]
  by_cases hj : j < 40
  · rw [headL_at _ _ _ j hj, headL_at _ _ _ j hj, headL_len]
    by_cases e : k = j
    · subst e
      rw [if_pos rfl, if_pos (by omega)]
      unfold headAt updN
      rw [if_pos hk, if_pos rfl]
    · rw [if_neg e]
      unfold headAt updN
      by_cases h1 : j < 4
      · rw [if_pos h1, if_pos h1, if_neg (fun x => e x.symm)]
      · rw [if_neg h1, if_neg h1]
  · rw [if_neg (by omega), List.getElem?_eq_none (by rw [headL_len]; omega), List.getElem?_eq_none (by rw [headL_len]; omega)]
theorem headL_setSm (a m f : Nat → Nat) (k v : Nat) (hk : k < 4) : (headL a m f).set (4 + k) (.int .u32 (v : Nat)) = headL a (updN m k v) f := by
  refine List.ext_getElem? fun j => ?_
  rw [List.getElem?_set]
  by_cases hj : j < 40
  · rw [headL_at _ _ _ j hj, headL_at _ _ _ j hj, headL_len]
    by_cases e : 4 + k = j
    · subst e
      rw [if_pos rfl, if_pos (by omega)]
      unfold headAt updN
      rw [if_neg (by omega), if_pos (by omega), if_pos (by omega)]
    · rw [if_neg e]
      unfold headAt updN
      by_cases h1 : j < 4
      · rw [if_pos h1, if_pos h1]
      · rw [if_neg h1, if_neg h1]
        by_cases h2 : j < 8
        · rw [if_pos h2, if_pos h2, if_neg (by omega)]
        · rw [if_neg h2, if_neg h2]
  · rw [if_neg (by omega), List.getElem?_eq_none (by rw [headL_len]; omega), List.getElem?_eq_none (by rw [headL_len]; omega)]
/-- a store in memory -/
def StAt (b : HB) (x kb : Nat) (bits : Int) (W : World) : Prop := W.heap[x]? = some (.cells #[.pointer (some ⟨b.hb, 0, none⟩), .int .i64 bits, .map (some kb)] 80 (0, 0))
theorem StAt.cell {b : HB} {x kb : Nat} {bits : Int} {W : World} (h : StAt b x kb bits W) : W.cell? ⟨x, 0, none⟩ = some (.pointer (some ⟨b.hb, 0, none⟩)) ∧ W.cell? ⟨x, 1, none⟩ = some (.int .i64 bits) ∧ W.cell? ⟨x, 2, none⟩ = some (.map (some kb)) := by
  unfold StAt at h
  simp [World.cell?, h]
theorem StAt.pl {S0 : Nat → Prop} {b : HB} {x kb : Nat} {bits : Int} {W : World} (h : StAt b x kb bits W) (hs : ¬ S0 x) : Plain S0 W x := ⟨hs, _, _, _, h, by decide, by decide⟩
/-- the boxes of what write runs -/
structure Fr (b : HB) (pd ps x kb : Nat) (bits : Int) (D : ByteArray) (W : World) : Prop where
  bd : Box pd 9 (.string D) W
  bs : Box ps 28 (.pointer (some ⟨x, 0, none⟩)) W
  sx : StAt b x kb bits W
  nd : ¬ b.S0 pd
  ns : ¬ b.S0 ps
  nx : ¬ b.S0 x
theorem Fr.kept {b : HB} {pd ps x kb : Nat} {bits : Int} {D : ByteArray} {W W' : World} (h : Fr b pd ps x kb bits D W) (k : Kept b.S0 W W') : Fr b pd ps x kb bits D W' :=
  ⟨(k _ (h.bd.pl h.nd (by decide) (by decide))).trans h.bd, (k _ (h.bs.pl h.ns (by decide) (by decide))).trans h.bs, (k _ (h.sx.pl h.nx)).trans h.sx, h.nd, h.ns, h.nx⟩
theorem Fr.keep {b : HB} {pd ps x kb : Nat} {bits : Int} {D : ByteArray} {T : Nat → Prop} {W W' : World} (h : Fr b pd ps x kb bits D W) (k : Grew T W W') (hT : ∀ q, q = pd ∨ q = ps ∨ q = x → ¬ T q) : Fr b pd ps x kb bits D W' :=
  ⟨h.bd.keep k (hT _ (Or.inl rfl)), h.bs.keep k (hT _ (Or.inr (Or.inl rfl))), (k.block x (h.sx.pl (S0 := b.S0) h.nx).lt (hT _ (Or.inr (Or.inr rfl)))).trans h.sx, h.nd, h.ns, h.nx⟩
/-- within write: k sectors were looked at; v: k's own one was put, the head doesn't say it yet -/
structure WrAt (b : HB) (s : HS) (dp : Nat) (f0 : List Step) (n pd ps x kb : Nat) (bits : Int) (pa H : Nat) (D : ByteArray) (f : Nat → Nat) (k : Nat) (w W : World) : Prop where
  fr : Fr b pd ps x kb bits D W
  ba : Box pa 3 (.int .i64 0) W
  st : ∃ a J s1 U, Wr b s D k a J s1 U ∧ InL (b.at U) s1 (dp + 1) f0 (n + 3 * J.length) W ∧ HdAt H (headL a (upTo (smOf D) k) f) W
  gr : Grew (Mut b.B b.S0 w) w W
  hw : w.heap.size ≤ H
structure WrMid (b : HB) (s : HS) (dp : Nat) (f0 : List Step) (n pd ps x kb : Nat) (bits : Int) (pa H : Nat) (D : ByteArray) (f : Nat → Nat) (k v : Nat) (w W : World) : Prop where
  fr : Fr b pd ps x kb bits D W
  ba : Box pa 3 (.int .i64 0) W
  st : ∃ a J s1 U, Wr b s D (k + 1) (updN a k v) J s1 U ∧ InL (b.at U) s1 (dp + 1) f0 (n + 3 * J.length) W ∧ HdAt H (headL a (upTo (smOf D) k) f) W
  gr : Grew (Mut b.B b.S0 w) w W
  hw : w.heap.size ≤ H
section
variable {b : HB} {s : HS} {dp : Nat} {f0 : List Step} {n pd ps x kb : Nat} {bits : Int} {pa H : Nat} {D : ByteArray} {f : Nat → Nat} {k v : Nat} {w W : World}
theorem WrAt.keepF {W' : World} (h : WrAt b s dp f0 n pd ps x kb bits pa H D f k w W) (hG : s.G = []) (g : Grew (fun _ => False) W W') : WrAt b s dp f0 n pd ps x kb bits pa H D f k w W' := by
  obtain ⟨a, J, s1, U, h1, h2, h3⟩ := h.st
  exact ⟨h.fr.keep g (fun _ _ e => e), h.ba.keep g (fun e => e), ⟨a, J, s1, U, h1, h2.keep (h1.same.2.1.trans hG) g (fun _ _ e => e) (fun _ _ _ _ e => e), h3.keep g fun e => e⟩, h.gr.step g fun _ _ e => e.elim, h.hw⟩
theorem WrMid.keepF {W' : World} (h : WrMid b s dp f0 n pd ps x kb bits pa H D f k v w W) (hG : s.G = []) (g : Grew (fun _ => False) W W') : WrMid b s dp f0 n pd ps x kb bits pa H D f k v w W' := by
  obtain ⟨a, J, s1, U, h1, h2, h3⟩ := h.st
  exact ⟨h.fr.keep g (fun _ _ e => e), h.ba.keep g (fun e => e), ⟨a, J, s1, U, h1, h2.keep (h1.same.2.1.trans hG) g (fun _ _ e => e) (fun _ _ _ _ e => e), h3.keep g fun e => e⟩, h.gr.step g fun _ _ e => e.elim, h.hw⟩
theorem WrAt.skip (h : WrAt b s dp f0 n pd ps x kb bits pa H D f k w W) (hz : allZero (partB D k).data.toList = true) : WrAt b s dp f0 n pd ps x kb bits pa H D f (k + 1) w W := by
  obtain ⟨a, J, s1, U, h1, h2, h3⟩ := h.st
  refine ⟨h.fr, h.ba, ⟨a, J, s1, U, .skip h1 hz, h2, ?_⟩, h.gr, h.hw⟩
  rw [upTo_same _ _ (by unfold smOf; rw [if_pos hz])]
  exact h3
/-- a sector of an extent is put -/
theorem WrAt.put (h : WrAt b s dp f0 n pd ps x kb bits pa H D f k w W) (ok : b.ok) (hf : 1 ≤ b.f) (hG : s.G = []) (hD : D.size = 256) (hk : k < 4) (hz : allZero (partB D k).data.toList = false) (hK0 : 0 ≤ s.K) (hK : s.K + 5 ≤ (cnt s.S 0 b.n : Nat)) (hn : n < 70000) (hd : dp + 1 < 100000) (hB : b.B ≤ w.heap.size) (na : ¬ b.S0 pa) :
    Calls Tryz.prog 96 #[.pointer (some ⟨b.hb, 0, none⟩), .string (partB D k)] W fun e w' => ∃ v : Nat, e = .returned (.int .i64 (v : Int)) ∧ WrMid b s dp f0 n pd ps x kb bits pa H D f k v w w' ∧ Kept b.S0 W w' := by
  obtain ⟨a, J, s1, U, h1, h2, h3⟩ := h.st
  obtain ⟨i1, i2, i3, i4, i5, i6⟩ := h1.same
  have hs := partB_size D hD k hk
  refine (hPut_any (b := b.at U) (s := s1) (ok.at U) hf (i2.trans hG) (partB D k) (by omega) (by rw [i1]; exact hK0) (by rw [i1]; show s.K < ((cnt s1.S 0 b.n : Nat) : Int); omega) (by omega) (Nat.succ_pos dp) hd h2).mono ?_
  rintro e w' ⟨j, hj, h0, hmin, rfl, hin, hg⟩
  have hg' : Grew (Mut b.B b.S0 W) W w' := hg
  have kk : Kept b.S0 W w' := Kept.of hg'
  have hH : ¬ b.S0 H := HB.far ok (by have := h.hw; omega)
  refine ⟨b.f + j, rfl, ⟨h.fr.kept kk, (kk _ (h.ba.pl na (by decide) (by decide))).trans h.ba, ⟨a, J ++ [j], _, _, .put h1 hz hj h0 hmin, ?_, (kk _ (h3.pl hH)).trans h3⟩, h.gr.thenMut hg', h.hw⟩, kk⟩
  rw [List.length_append, List.length_singleton, show n + 3 * (J.length + 1) = n + 3 * J.length + 3 by omega]
  exact hin
theorem WrMid.store (h : WrMid b s dp f0 n pd ps x kb bits pa H D f k v w W) (ok : b.ok) (hG : s.G = []) (hk : k < 4) (hB : b.B ≤ w.heap.size) (hpa : pa < w.heap.size) (hpd : pd < w.heap.size) (hps : ps < w.heap.size) (hx : x < w.heap.size) :
    WrAt b s dp f0 n pd ps x kb bits pa H D f (k + 1) w ((W.setCell ⟨H, k, none⟩ (.int .i64 (v : Nat))).setCell ⟨H, 4 + k, none⟩ (.int .u32 (smOf D k : Nat))) := by
  obtain ⟨a, J, s1, U, h1, h2, h3⟩ := h.st
  have hw := h.hw
  have hH : ¬ b.S0 H := HB.far ok (by omega)
  have g : Grew (fun q => q = H) W ((W.setCell ⟨H, k, none⟩ (.int .i64 (v : Nat))).setCell ⟨H, 4 + k, none⟩ (.int .u32 (smOf D k : Nat))) := ((Grew.refl (S := fun q => q = H) W).setCell _ _ fun _ => rfl).setCell _ _ fun _ => rfl
  refine ⟨h.fr.keep g (fun q hq e => by omega), h.ba.keep g (by omega), ⟨updN a k v, J, s1, U, h1, h2.keep (h1.same.2.1.trans hG) g (fun q hq e => hH (e ▸ hq)) (fun r c fz hr e => by
      subst e
      unfold HdAt at h3
      rw [h3] at hr
      simp at hr), ?_⟩, h.gr.step g fun q hq e => by omega, hw⟩
  have := (h3.set k (.int .i64 (v : Nat))).set (4 + k) (.int .u32 (smOf D k : Nat))
  rw [headL_setAt _ _ _ k v hk, headL_setSm _ _ _ k _ hk, upTo_step] at this
  exact this
end
end Go.Proofs.YtbohpffigmllkaaGreatDoor

/-
  extent: what write runs: an extent's sectors and its head are put into a heap (written by gen_extwrite1.py).
-/
namespace Go.Proofs.YtbohpffigmllkaaGreatDoor
open Go.RowKit Go.Maps Go.ChangeMaps Go.WideShapes

theorem bl_of (x : ByteArray) : (⟨x.data.toList.toArray⟩ : ByteArray) = x := by
  apply ByteArray.ext
  simp
theorem setCells_heap (H : Nat) (t : TypeId) (fz : Nat × Nat) : ∀ (vs : List Value) (o : Nat) (w : World) (C : Array Value), w.heap[H]? = some (.cells C t fz) → ∃ C', (w.setCells H o vs).heap[H]? = some (.cells C' t fz) ∧ C'.size = C.size
  | [], _, _, C, h => ⟨C, h, rfl⟩
  | v :: r, o, w, C, h => by
    have h1 : (w.setCell ⟨H, o, none⟩ v).heap[H]? = some (.cells (C.setIfInBounds o v) t fz) := by simp [World.setCell, Array.getElem?_modify, h]
    obtain ⟨C', h2, h3⟩ := setCells_heap H t fz r (o + 1) (w.setCell ⟨H, o, none⟩ v) _ h1
    exact ⟨C', h2, by rw [h3]; simp⟩
theorem HdAt.new (w : World) (M N : List Value) (hM : M.length = 40) (hN : N.length = 40) : HdAt w.heap.size N ((w.alloc (.cells M.toArray 92)).setCells w.heap.size 0 N) := by
  obtain ⟨C', h1, h2⟩ := setCells_heap w.heap.size 92 (0, 0) N 0 (w.alloc (.cells M.toArray 92)) M.toArray (heap_alloc_new w _)
  have hth : (w.alloc (.cells M.toArray 92)).there w.heap.size 0 N.length := (Cells.new w 40 (cellsAt M) 92 M.toArray (fun j hj => by rw [List.getElem?_toArray]; exact cellsAt_get M j (by omega))).there 0 _ (by omega)
  have hr := World.rangeAt_setCells_same _ w.heap.size 0 N hth
  unfold HdAt
  rw [h1]
  congr 2
  apply Array.toList_inj.mp
  refine List.ext_getElem? fun j => ?_
  by_cases hj : j < 40
  · have h3 := hr j N[j] (List.getElem?_eq_getElem (by omega))
    rw [Nat.zero_add] at h3
    simp only [World.cell?, h1] at h3
    rw [Array.getElem?_toList, List.toList_toArray, List.getElem?_eq_getElem (by omega)]
    exact h3
  · rw [List.getElem?_eq_none (by simp at h2 ⊢; omega), List.getElem?_eq_none (by simp; omega)]
set_option maxRecDepth 100000 in
theorem build_head (f : Nat → Nat) (w : World) : (Instr.build 92 #[(2, .agg (arr f).toArray)]).run Tryz.prog w = .ok (.agg (headL zf zf f).toArray) w := by kernel_rfl
/-- all sectors were looked at: the head says where they lie -/
structure WrE (b : HB) (s : HS) (dp : Nat) (f0 : List Step) (n pd ps x kb : Nat) (bits : Int) (pa H : Nat) (D : ByteArray) (a : Nat → Nat) (J : List Nat) (s1 : HS) (U : Nat → UInt8) (N : List Value) (w W : World) : Prop where
  fr : Fr b pd ps x kb bits D W
  ba : Box pa 3 (.int .i64 0) W
  wr : Wr b s D 4 a J s1 U
  inl : InL (b.at U) s1 (dp + 1) f0 (n + 3 * J.length) W
  hd : HdAt H N W
  gr : Grew (Mut b.B b.S0 w) w W
  hw : w.heap.size ≤ H
theorem WrE.keepF {b : HB} {s : HS} {dp : Nat} {f0 : List Step} {n pd ps x kb : Nat} {bits : Int} {pa H : Nat} {D : ByteArray} {a : Nat → Nat} {J : List Nat} {s1 : HS} {U : Nat → UInt8} {N : List Value} {w W W' : World} (h : WrE b s dp f0 n pd ps x kb bits pa H D a J s1 U N w W) (hG : s.G = []) (g : Grew (fun _ => False) W W') : WrE b s dp f0 n pd ps x kb bits pa H D a J s1 U N w W' :=
  ⟨h.fr.keep g (fun _ _ e => e), h.ba.keep g (fun e => e), h.wr, h.inl.keep (h.wr.same.2.1.trans hG) g (fun _ _ e => e) (fun _ _ _ _ e => e), h.hd.keep g fun e => e, h.gr.step g fun _ _ e => e.elim, h.hw⟩
/-- its head was put at v -/
structure WrZ (b : HB) (dp : Nat) (f0 : List Step) (n pd ps x kb : Nat) (bits : Int) (pa H : Nat) (D : ByteArray) (a : Nat → Nat) (J : List Nat) (s1 : HS) (U : Nat → UInt8) (N : List Value) (SS : ByteArray) (v : Nat) (w W : World) : Prop where
  fr : Fr b pd ps x kb bits D W
  ba : Box pa 3 (.int .i64 0) W
  at' : ∃ j, v = b.f + j ∧ j < b.n ∧ s1.S j = 0 ∧ (∀ i, i < j → ¬ s1.S i = 0) ∧ InL (b.at (wroteT U (b.f + j) SS)) (s1.put j ((b.f + j : Nat) : Int)) (dp + 1) f0 (n + 3 * J.length + 3) W
  hd : HdAt H N W
  gr : Grew (Mut b.B b.S0 w) w W
/-- an extent lies there -/
def WrEnd (b : HB) (s : HS) (dp : Nat) (f0 : List Step) (n : Nat) (D : ByteArray) (f : Nat → Nat) (v : Nat) (W : World) : Prop :=
  ∃ a J s1 U j, Wr b s D 4 a J s1 U ∧ v = b.f + j ∧ j < b.n ∧ s1.S j = 0 ∧ (∀ i, i < j → ¬ s1.S i = 0) ∧ InL (b.at (wroteT U (b.f + j) (sealS (headT a (smOf D) f)))) (s1.put j ((b.f + j : Nat) : Int)) dp f0 (n + 3 * J.length + 3) W
set_option maxRecDepth 100000 in
set_option maxHeartbeats 4000000 in
theorem write1_any (b : HB) (ok : b.ok) (hf : 1 ≤ b.f) (s : HS) (hG : s.G = []) (hK0 : 0 ≤ s.K) (hK : s.K + 5 ≤ (cnt s.S 0 b.n : Nat)) (dp n : Nat) (hn : n < 70000) (hd : dp + 1 < 100000) (f0 : List Step) (pS pd ps x kb : Nat) (bits : Int) (pa : Nat) (D : ByteArray) (hD : D.size = 256) (f : Nat → Nat) (hf256 : ∀ j, f j < 256) (w : World)
    (h : InL b s (dp + 1) f0 n w) (fr : Fr b pd ps x kb bits D w) (ba : Box pa 3 (.int .i64 0) w) (bS : w.heap[pS]? = some (.cells (arr f).toArray 51 (0, 0))) (na : ¬ b.S0 pa) :
    Calls Tryz.prog 95 #[.pointer (some ⟨pS, 0, none⟩), .pointer (some ⟨pd, 0, none⟩), .pointer (some ⟨ps, 0, none⟩), .pointer (some ⟨pa, 0, none⟩)] w fun e w' => e = .returned (.tuple #[]) ∧ ∃ v : Nat, WrEnd b s (dp + 1) f0 n D f v w' ∧ Box pa 3 (.int .i64 (v : Int)) w' ∧ Grew (fun q => Mut b.B b.S0 w q ∨ q = pa) w w' := by
  have hB : b.B ≤ w.heap.size := h.size
  have hpa := ba.lt
  have hpd := fr.bd.lt
  have hps := fr.bs.lt
  have hx : x < w.heap.size := (fr.sx.pl (S0 := b.S0) fr.nx).lt
  have hrS : w.rangeAt pS 0 (arr f) := fun j v hv => by
    rw [Nat.zero_add]
    simp [World.cell?, bS, hv]
  have HIA : Hid ((Tryz.prog.info? 51).map (·.size) = some (arr f).length) := Lib.hid (by rw [arr_len]; kernel_rfl)
  have HAl := alloc_head
  have hbn := build_head f
  have HNl : Hid ((headL zf zf f).length = 40) := Lib.hid (headL_len _ _ _)
  have HNo : Hid ((headL zf zf f).toArray.all (·.oneCell') = true) := Lib.hid (headL_one _ _ _)
  have HIN : Hid ((Tryz.prog.info? 92).map (·.size) = some (headL zf zf f).toArray.size) := Lib.hid (by rw [List.size_toArray, headL_len]; kernel_rfl)
  have hgw : Grew (fun _ => False) w ((w.alloc (.cells (headL zf zf zf).toArray 92)).setCells w.heap.size 0 (headL zf zf f)) := ((Grew.refl w).alloc _).row _ _ _ fun e => absurd e (Nat.lt_irrefl _)
  have HW0 : Hid (WrAt b s dp f0 n pd ps x kb bits pa w.heap.size D f 0 w ((w.alloc (.cells (headL zf zf zf).toArray 92)).setCells w.heap.size 0 (headL zf zf f))) := Lib.hid
    ⟨fr.keep hgw (fun _ _ e => e), ba.keep hgw (fun e => e), ⟨zf, [], s, b.T, .none, h.keep hG hgw (fun _ _ e => e) (fun _ _ _ _ e => e), by rw [upTo_zero]; exact HdAt.new w _ _ (headL_len _ _ _) (headL_len _ _ _)⟩, hgw.mono fun _ _ e => e.elim, Nat.le_refl _⟩
  have HTh : Hid ((w.alloc (.cells (headL zf zf zf).toArray 92)).there w.heap.size 0 (headL zf zf f).toArray.size) := Lib.hid ((head_new w zf zf zf 92).there 0 _ (by simp [headL_len]))
  have HZt := Lib.hid (fun (t : ByteArray) (wx : World) (h : t.size ≤ maxLen) => zero_any t wx h)
  have HDs := Lib.hid hD
  have HCr := Lib.hid (fun k (hk : k < 4) (hz : allZero (partB D k).data.toList = false) (bb : Nat) (wx : World) (hc : wx.cell? ⟨bb, 0, none⟩ = some (.string (partB D k))) => (show Calls Tryz.prog 97 #[.slice (some ⟨bb, 0, none⟩) 1 1] wx fun e w' => e = .returned (.int .u32 (smOf D k : Nat)) ∧ wx = w' from by
    have hsz : (partB D k).data.toList.length ≤ maxLen := by
      have h64 := partB_size D hD k hk
      have e : (partB D k).data.toList.length = (partB D k).size := by simp
      rw [e, h64]
      decide
    have h1 := crc_one bb (partB D k).data.toList wx hsz (by rw [bl_of]; exact hc)
    have e : smOf D k = C.Crc.sum (partB D k).data.toList := by unfold smOf; rw [if_neg (by rw [hz]; decide)]
    rw [e]
    exact h1))
  have HPt := Lib.hid (fun H k (hk : k < 4) (hz : allZero (partB D k).data.toList = false) (W : World) (ha : WrAt b s dp f0 n pd ps x kb bits pa H D f k w W) => ha.put ok hf hG hD hk hz hK0 hK hn hd hB na)
  obtain ⟨X, hX⟩ : ∃ X, arr f = X := ⟨_, rfl⟩
  obtain ⟨N0, hN0⟩ : ∃ N0, headL zf zf f = N0 := ⟨_, rfl⟩
  obtain ⟨Z, hZ⟩ : ∃ Z, (headL zf zf zf).toArray = Z := ⟨_, rfl⟩
  rw [hX] at hrS HIA hbn
  rw [hN0] at hbn HNl HNo HIN HW0 HTh
  rw [hZ] at HAl HW0 HTh
  clear h fr ba bS hgw hX hN0 hZ hD
  go_enter Tryz.func95, Tryz.ntmps95
  go_upto_region 1 with (first
    | (with_reducible refine wpList_load_mid rfl 51 _ rfl pS 0 rfl X _ hrS Tryz.underlying51 rfl HIA.out ?_)
    | (refine wpList_build1 rfl 92 2 _ rfl (.agg X.toArray) (.agg N0.toArray) rfl (hbn _) ?_)
    | (refine wpList_alloc rfl 92 rfl _ (HAl _) ?_)
    | (with_reducible refine wpList_store_mid rfl 92 _ _ rfl w.heap.size 0 N0.toArray rfl rfl HTh.out HIN.out HNo.out ?_))
  clear hrS HTh HNl HNo HIN HIA hbn HAl
  generalize (w.alloc (.cells Z 92)).setCells w.heap.size 0 N0 = W0 at *
  obtain ⟨H, hH⟩ : ∃ H, w.heap.size = H := ⟨_, rfl⟩
  rw [hH] at HW0 ⊢
  have HHe := Lib.hid hH
  clear hH
  go_wp2_with fail
  go_loopw [9] (fun i wx => ∃ k : Nat, k ≤ 4 ∧ i = .int .i64 (k : Int) ∧ WrAt b s dp f0 n pd ps x kb bits pa H D f k w wx) (fun i _ => 4 - (intOf i).toNat)
  case atStart => exact ⟨0, by omega, rfl, HW0.out⟩
  case round =>
    obtain ⟨k, hk, rfl, ha⟩ := hrel
    have HA0 := Lib.hid ha
    clear ha HW0
    have hd256 := HDs.out
    by_cases hlt : k < 4
    · have i0 : (k : Int) < 4 := by omega
      have i1 : (0 : Int) ≤ (k : Int) := by omega
      obtain ⟨J0, hJ0⟩ : ∃ J0, 64 * k = J0 := ⟨_, rfl⟩
      obtain ⟨J1, hJ1⟩ : ∃ J1, J0 + 64 = J1 := ⟨_, rfl⟩
      have j0 : (k : Int) * 64 = (J0 : Int) := by omega
      have j1 : ((k : Int) + 1) * 64 = (J1 : Int) := by omega
      have j2 : (J1 : Int) ≤ (D.size : Int) := by omega
      have j3 : (J0 : Int) ≤ (J1 : Int) := by omega
      have j4 : (0 : Int) ≤ (J0 : Int) := by omega
      have j5 : (J1 : Int) ≤ 1000 := by omega
      have hp : D.extract J0 J1 = partB D k := by unfold partB; rw [hJ0, hJ1]
      have HP64 := Lib.hid (partB_size D HDs.out k hlt)
      have HZ := Lib.hid fun wx => HZt.out (partB D k) wx (by rw [HP64.out]; decide)
      have HSk := Lib.hid fun (h : allZero (partB D k).data.toList = true) W (ha : WrAt b s dp f0 n pd ps x kb bits pa H D f k w W) => ha.skip h
      have HCr := Lib.hid (HCr.out k hlt)
      have HPut := Lib.hid (HPt.out H k hlt)
      have cpd := HA0.out.fr.bd.cell
      obtain ⟨z, hz⟩ : ∃ z, allZero (partB D k).data.toList = z := ⟨_, rfl⟩
      rw [hz] at HZ HSk HCr HPut
      have HK := Lib.hid hlt
      generalize partB D k = P at *
      clear hz hlt hk hJ0 hJ1 hd256
      go_wp2_with fail
      refine (HZ.out _).mono ?_
      rintro e w4 ⟨rfl, hw4⟩
      have HA4 : Hid (WrAt b s dp f0 n pd ps x kb bits pa H D f k w w4) := Lib.hid (by
        rcases hw4 with rfl | rfl
        · exact HA0.out
        · exact HA0.out.keepF hG (Grew.refl _).drew)
      clear hw4 HA0 HZ cpd
      cases z with
      | true =>
        have HB4 := Lib.hid (HSk.out rfl _ HA4.out)
        clear HSk HCr HPut
        go_wp2_with fail
        go_roundw
        case rel => exact ⟨k + 1, by have := HK.out; omega, by go_num, HB4.out⟩
        case measure => simp [intOf]; have := HK.out; omega
      | false =>
        have HCr2 := Lib.hid (HCr.out rfl)
        have HPut2 := Lib.hid (HPut.out rfl)
        clear HCr HPut
        have HA := Lib.hid (HA4.out.keepF hG (Grew.refl (S := fun _ => False) w4).drew)
        have SF0 := Lib.hid (fun W (ha : WrAt b s dp f0 n pd ps x kb bits pa H D f k w W) => And.intro ha.fr.bs.cell ha.fr.sx.cell.1)
        have SF := Lib.hid (fun (v : Nat) W (ha : WrMid b s dp f0 n pd ps x kb bits pa H D f k v w W) => And.intro ha.fr.bs.cell ha.fr.sx.cell.1)
        have hnH : ps ≠ H ∧ x ≠ H := by have := HHe.out; omega
        have SF1 := Lib.hid (fun (v : Nat) W (ha : WrMid b s dp f0 n pd ps x kb bits pa H D f k v w W) => (show (W.setCell ⟨H, k, none⟩ (.int .i64 (v : Int))).cell? ⟨ps, 0, none⟩ = some (.pointer (some ⟨x, 0, none⟩)) ∧ (W.setCell ⟨H, k, none⟩ (.int .i64 (v : Int))).cell? ⟨x, 0, none⟩ = some (.pointer (some ⟨b.hb, 0, none⟩)) from
          ⟨by rw [World.cell?_setCell_other _ _ _ _ (fun e => hnH.1 (congrArg Addr.block e).symm)]; exact ha.fr.bs.cell, by rw [World.cell?_setCell_other _ _ _ _ (fun e => hnH.2 (congrArg Addr.block e).symm)]; exact ha.fr.sx.cell.1⟩))
        have SF2 := Lib.hid (fun (v : Nat) W (ha : WrMid b s dp f0 n pd ps x kb bits pa H D f k v w W) => (show ((W.setCell ⟨H, k, none⟩ (.int .i64 (v : Int))).setCell ⟨H, 4 + k, none⟩ (.int .u32 (smOf D k : Nat))).cell? ⟨ps, 0, none⟩ = some (.pointer (some ⟨x, 0, none⟩)) ∧ ((W.setCell ⟨H, k, none⟩ (.int .i64 (v : Int))).setCell ⟨H, 4 + k, none⟩ (.int .u32 (smOf D k : Nat))).cell? ⟨x, 0, none⟩ = some (.pointer (some ⟨b.hb, 0, none⟩)) from
          ⟨by rw [World.cell?_setCell_other _ _ _ _ (fun e => hnH.1 (congrArg Addr.block e).symm)]; exact (SF1.out v W ha).1, by rw [World.cell?_setCell_other _ _ _ _ (fun e => hnH.2 (congrArg Addr.block e).symm)]; exact (SF1.out v W ha).2⟩))
        have HHd := Lib.hid (fun (v : Nat) W (ha : WrMid b s dp f0 n pd ps x kb bits pa H D f k v w W) => (show ∃ o1 o2, W.cell? ⟨H, k, none⟩ = some o1 ∧ W.frozen? ⟨H, k, none⟩ = false ∧ (W.setCell ⟨H, k, none⟩ (.int .i64 (v : Int))).cell? ⟨H, 4 + k, none⟩ = some o2 ∧ (W.setCell ⟨H, k, none⟩ (.int .i64 (v : Int))).frozen? ⟨H, 4 + k, none⟩ = false from by
          obtain ⟨a, J, s1, U, _, _, h3⟩ := ha.st
          have hk4 := HK.out
          refine ⟨headAt a (upTo (smOf D) k) f k, headAt a (upTo (smOf D) k) f (4 + k), (h3.cells.2 k (by omega)).1, h3.free k, ?_, by rw [World.frozen?_setCell]; exact h3.free _⟩
          rw [World.cell?_setCell_other _ _ _ _ (fun e => by have h1 : k = 4 + k := congrArg Addr.off e; omega)]
          exact (h3.cells.2 (4 + k) (by omega)).1))
        clear HSk hnH
        go_upto_region 6 with fail
        refine wp_region_held_drew (S := fun wx => wx.cell? ⟨ps, 0, none⟩ = some (.pointer (some ⟨x, 0, none⟩)) ∧ wx.cell? ⟨x, 0, none⟩ = some (.pointer (some ⟨b.hb, 0, none⟩))) (by kernel_rfl) (SF0.out _ HA.out) (fun hHeld => ?_)
        refine wpAnyH_take (i := 0) (oi := { dst := some 22, op := Op.move (Operand.tmp 5), type := 3, pos := "extent.go:146", after := #[], guard := none }) (v := ?_) rfl (by kernel_rfl) (by kernel_rfl) (by kernel_rfl) (fun _ _ _ h => h) (Or.inl ⟨by rfl, ?_⟩) (by assumption) ?_
        rotate_left
        · (intro wz hSw; (try dsimp only at hSw); obtain ⟨hSw1, hSw2⟩ := hSw; go_simp; try with_reducible rfl)
        try simp only [Act.put, List.setIfInBounds_toArray, List.set_cons_zero, List.set_cons_succ]
        refine wpAnyH_take (i := 1) (oi := { dst := some 23, op := Op.move (Operand.tmp 5), type := 3, pos := "extent.go:146", after := #[{ on := 13, ground := Ground.gcOnly Departure.lateStores }], guard := none }) (v := ?_) rfl (by kernel_rfl) (by kernel_rfl) (by kernel_rfl) (fun _ _ _ h => h) (Or.inl ⟨by rfl, ?_⟩) (by assumption) ?_
        rotate_left
        · (intro wz hSw; (try dsimp only at hSw); obtain ⟨hSw1, hSw2⟩ := hSw; go_simp; try with_reducible rfl)
        try simp only [Act.put, List.setIfInBounds_toArray, List.set_cons_zero, List.set_cons_succ]
        refine wpAnyH_take (i := 2) (oi := { dst := some 24, op := Op.load 28 (Operand.tmp 2), type := 28, pos := "extent.go:146", after := #[], guard := none }) (v := ?_) rfl (by kernel_rfl) (by kernel_rfl) (by kernel_rfl) (fun _ _ _ h => h) (Or.inl ⟨by rfl, ?_⟩) (by assumption) ?_
        rotate_left
        · (intro wz hSw; (try dsimp only at hSw); obtain ⟨hSw1, hSw2⟩ := hSw; go_simp; try with_reducible rfl)
        try simp only [Act.put, List.setIfInBounds_toArray, List.set_cons_zero, List.set_cons_succ]
        refine wpAnyH_take (i := 3) (oi := { dst := some 25, op := Op.nilCheck (Operand.tmp 24), type := 0, pos := "extent.go:146", after := #[{ on := 2, ground := Ground.data }], guard := none }) (v := ?_) rfl (by kernel_rfl) (by kernel_rfl) (by kernel_rfl) (fun _ _ _ h => h) (Or.inl ⟨by rfl, ?_⟩) (by assumption) ?_
        rotate_left
        · (intro wz hSw; (try dsimp only at hSw); obtain ⟨hSw1, hSw2⟩ := hSw; go_simp; try with_reducible rfl)
        try simp only [Act.put, List.setIfInBounds_toArray, List.set_cons_zero, List.set_cons_succ]
        refine wpAnyH_take (i := 4) (oi := { dst := some 26, op := Op.fieldAddr 80 (Operand.tmp 25) 0, type := 0, pos := "extent.go:146", after := #[{ on := 3, ground := Ground.data }], guard := none }) (v := ?_) rfl (by kernel_rfl) (by kernel_rfl) (by kernel_rfl) (fun _ _ _ h => h) (Or.inl ⟨by rfl, ?_⟩) (by assumption) ?_
        rotate_left
        · (intro wz hSw; (try dsimp only at hSw); obtain ⟨hSw1, hSw2⟩ := hSw; go_simp; try with_reducible rfl)
        try simp only [Act.put, List.setIfInBounds_toArray, List.set_cons_zero, List.set_cons_succ]
        refine wpAnyH_take (i := 5) (oi := { dst := some 27, op := Op.load 24 (Operand.tmp 26), type := 24, pos := "extent.go:146", after := #[{ on := 4, ground := Ground.data }], guard := none }) (v := ?_) rfl (by kernel_rfl) (by kernel_rfl) (by kernel_rfl) (fun _ _ _ h => h) (Or.inl ⟨by rfl, ?_⟩) (by assumption) ?_
        rotate_left
        · (intro wz hSw; (try dsimp only at hSw); obtain ⟨hSw1, hSw2⟩ := hSw; go_simp; try with_reducible rfl)
        try simp only [Act.put, List.setIfInBounds_toArray, List.set_cons_zero, List.set_cons_succ]
        refine wpAnyH_take (i := 6) (oi := { dst := some 28, op := Op.move (Operand.tmp 6), type := 9, pos := "extent.go:146", after := #[], guard := none }) (v := ?_) rfl (by kernel_rfl) (by kernel_rfl) (by kernel_rfl) (fun _ _ _ h => h) (Or.inl ⟨by rfl, ?_⟩) (by assumption) ?_
        rotate_left
        · (intro wz hSw; (try dsimp only at hSw); obtain ⟨hSw1, hSw2⟩ := hSw; go_simp; try with_reducible rfl)
        try simp only [Act.put, List.setIfInBounds_toArray, List.set_cons_zero, List.set_cons_succ]
        refine wpAnyH_take (i := 8) (oi := { dst := some 30, op := Op.move (Operand.tmp 6), type := 9, pos := "extent.go:146", after := #[], guard := none }) (v := ?_) rfl (by kernel_rfl) (by kernel_rfl) (by kernel_rfl) (fun _ _ _ h => h) (Or.inl ⟨by rfl, ?_⟩) (by assumption) ?_
        rotate_left
        · (intro wz hSw; (try dsimp only at hSw); obtain ⟨hSw1, hSw2⟩ := hSw; go_simp; try with_reducible rfl)
        try simp only [Act.put, List.setIfInBounds_toArray, List.set_cons_zero, List.set_cons_succ]
        refine wpAnyH_take (i := 11) (oi := { dst := some 33, op := Op.fieldAddr 92 (Operand.tmp 4) 0, type := 0, pos := "extent.go:146", after := #[], guard := none }) (v := ?_) rfl (by kernel_rfl) (by kernel_rfl) (by kernel_rfl) (fun _ _ _ h => h) (Or.inl ⟨by rfl, ?_⟩) (by assumption) ?_
        rotate_left
        · (intro wz hSw; (try dsimp only at hSw); obtain ⟨hSw1, hSw2⟩ := hSw; go_simp; try with_reducible rfl)
        try simp only [Act.put, List.setIfInBounds_toArray, List.set_cons_zero, List.set_cons_succ]
        refine wpAnyH_take (i := 14) (oi := { dst := some 35, op := Op.fieldAddr 92 (Operand.tmp 4) 1, type := 0, pos := "extent.go:146", after := #[], guard := none }) (v := ?_) rfl (by kernel_rfl) (by kernel_rfl) (by kernel_rfl) (fun _ _ _ h => h) (Or.inl ⟨by rfl, ?_⟩) (by assumption) ?_
        rotate_left
        · (intro wz hSw; (try dsimp only at hSw); obtain ⟨hSw1, hSw2⟩ := hSw; go_simp; try with_reducible rfl)
        try simp only [Act.put, List.setIfInBounds_toArray, List.set_cons_zero, List.set_cons_succ]
        refine wpAnyH_ready (rs := [7, 9]) (by kernel_rfl) (by simp) ?_
        refine (AllReadyH.cons (o := { dst := some 29, op := Op.call { callee := Callee.value (Operand.func 96), args := #[Operand.tmp 27, Operand.tmp 28], argTypes := #[24, 9] }, type := 3, pos := "extent.go:146", after := #[{ on := 5, ground := Ground.data }, { on := 6, ground := Ground.data }], guard := none }) rfl (fun K hK => ?_) (AllReadyH.cons (o := { dst := some 31, op := Op.buildSlice 123 1 #[(0, Operand.tmp 30)], type := 123, pos := "extent.go:146", after := #[{ on := 8, ground := Ground.data }], guard := none }) rfl (fun K hK => ?_) AllReadyH.nil))
        · go_simp
          refine (HPut2.out _ HA.out).mono ?_
          rintro e w5 ⟨v, rfl, hm, hkk⟩
          have HM5 := Lib.hid hm
          clear hm hkk
          try go_wp2_with fail
          refine hK.out _ _ (SF.out _ _ HM5.out) (fun hHeld => ?_)
          clear hK K
          try simp only [Act.put, List.setIfInBounds_toArray, List.set_cons_zero, List.set_cons_succ]
          refine wpAnyH_take (i := 12) (oi := { dst := some 34, op := Op.indexAddr 88 (Operand.tmp 33) (Operand.tmp 22), type := 0, pos := "extent.go:146", after := #[{ on := 11, ground := Ground.data }, { on := 0, ground := Ground.data }, { on := 0, ground := Ground.phase }, { on := 1, ground := Ground.textOnly Departure.lateStores }, { on := 2, ground := Ground.phase }, { on := 3, ground := Ground.phase }, { on := 4, ground := Ground.phase }, { on := 5, ground := Ground.phase }, { on := 6, ground := Ground.phase }, { on := 7, ground := Ground.phase }, { on := 8, ground := Ground.textOnly Departure.lateStores }, { on := 9, ground := Ground.textOnly Departure.lateStores }, { on := 10, ground := Ground.textOnly Departure.lateStoresUnsure }], guard := none }) (v := ?_) rfl (by kernel_rfl) (by kernel_rfl) (by kernel_rfl) (fun _ _ _ h => h) (Or.inl ⟨by rfl, ?_⟩) (by assumption) ?_
          rotate_left
          · (intro wz hSw; (try dsimp only at hSw); obtain ⟨hSw1, hSw2⟩ := hSw; go_simp; try with_reducible rfl)
          try simp only [Act.put, List.setIfInBounds_toArray, List.set_cons_zero, List.set_cons_succ]
          refine wpAnyH_ready (rs := [9]) (by kernel_rfl) (by simp) ?_
          refine (AllReadyH.cons (o := { dst := some 31, op := Op.buildSlice 123 1 #[(0, Operand.tmp 30)], type := 123, pos := "extent.go:146", after := #[{ on := 8, ground := Ground.data }], guard := none }) rfl (fun K hK => ?_) AllReadyH.nil)
          go_simp
          have HM := Lib.hid (HM5.out.keepF hG ((Grew.refl (S := fun _ => False) w5).alloc (.cells #[.string P] 9)))
          have HSb : Hid ((w5.alloc (.cells #[.string P] 9)).cell? ⟨w5.heap.size, 0, none⟩ = some (.string P)) := Lib.hid (boxNew rfl)
          clear HM5
          generalize hW6 : w5.alloc (.cells #[.string P] 9) = w6 at *
          generalize w5.heap.size = sb at *
          clear hW6
          try go_wp2_with fail
          refine hK.out _ _ (SF.out _ _ HM.out) (fun hHeld => ?_)
          clear hK K
          try simp only [Act.put, List.setIfInBounds_toArray, List.set_cons_zero, List.set_cons_succ]
          refine wpAnyH_ready (rs := [10]) (by kernel_rfl) (by simp) ?_
          refine (AllReadyH.cons (o := { dst := some 32, op := Op.call { callee := Callee.value (Operand.func 97), args := #[Operand.tmp 31], argTypes := #[123] }, type := 89, pos := "extent.go:146", after := #[{ on := 9, ground := Ground.data }, { on := 7, ground := Ground.chain }], guard := none }) rfl (fun K hK => ?_) AllReadyH.nil)
          go_simp
          refine (HCr2.out _ _ HSb.out).mono ?_
          rintro e w7 ⟨rfl, rfl⟩
          try go_wp2_with fail
          refine hK.out _ _ (SF.out _ _ HM.out) (fun hHeld => ?_)
          clear hK K
          try simp only [Act.put, List.setIfInBounds_toArray, List.set_cons_zero, List.set_cons_succ]
          have HW2 := Lib.hid (HM.out.store ok hG HK.out hB hpa hpd hps hx)
          have hd1 := HHd.out _ _ HM.out
          obtain ⟨o1, o2, hc1, hz1, hc2, hz2⟩ := hd1
          refine wpAnyH_ready (rs := [13]) (by kernel_rfl) (by simp) ?_
          refine (AllReadyH.cons (o := { dst := none, op := Op.store 3 (Operand.tmp 34) (Operand.tmp 29), type := 0, pos := "extent.go:146", after := #[{ on := 12, ground := Ground.data }, { on := 7, ground := Ground.data }, { on := 10, ground := Ground.chain }, { on := 0, ground := Ground.phase }, { on := 1, ground := Ground.textOnly Departure.lateStores }, { on := 2, ground := Ground.phase }, { on := 3, ground := Ground.phase }, { on := 4, ground := Ground.phase }, { on := 5, ground := Ground.phase }, { on := 6, ground := Ground.phase }, { on := 7, ground := Ground.phase }, { on := 8, ground := Ground.textOnly Departure.lateStores }, { on := 9, ground := Ground.textOnly Departure.lateStores }, { on := 10, ground := Ground.textOnly Departure.lateStoresUnsure }], guard := none }) rfl (fun K hK => ?_) AllReadyH.nil)
          go_simp
          try go_wp2_with fail
          refine hK.out _ _ (SF1.out _ _ HM.out) (fun hHeld => ?_)
          clear hK K
          try simp only [Act.put, List.setIfInBounds_toArray, List.set_cons_zero, List.set_cons_succ]
          refine wpAnyH_take (i := 15) (oi := { dst := some 36, op := Op.indexAddr 90 (Operand.tmp 35) (Operand.tmp 23), type := 0, pos := "extent.go:146", after := #[{ on := 14, ground := Ground.data }, { on := 1, ground := Ground.data }, { on := 0, ground := Ground.phase }, { on := 1, ground := Ground.phase }, { on := 2, ground := Ground.phase }, { on := 3, ground := Ground.phase }, { on := 4, ground := Ground.phase }, { on := 5, ground := Ground.phase }, { on := 6, ground := Ground.phase }, { on := 7, ground := Ground.phase }, { on := 8, ground := Ground.phase }, { on := 9, ground := Ground.phase }, { on := 10, ground := Ground.phase }, { on := 11, ground := Ground.phase }, { on := 12, ground := Ground.phase }, { on := 13, ground := Ground.phase }], guard := none }) (v := ?_) rfl (by kernel_rfl) (by kernel_rfl) (by kernel_rfl) (fun _ _ _ h => h) (Or.inl ⟨by rfl, ?_⟩) (by assumption) ?_
          rotate_left
          · (intro wz hSw; (try dsimp only at hSw); obtain ⟨hSw1, hSw2⟩ := hSw; go_simp; try with_reducible rfl)
          try simp only [Act.put, List.setIfInBounds_toArray, List.set_cons_zero, List.set_cons_succ]
          refine wpAnyH_ready (rs := [16]) (by kernel_rfl) (by simp) ?_
          refine (AllReadyH.cons (o := { dst := none, op := Op.store 89 (Operand.tmp 36) (Operand.tmp 32), type := 0, pos := "extent.go:146", after := #[{ on := 15, ground := Ground.data }, { on := 10, ground := Ground.data }, { on := 13, ground := Ground.chain }, { on := 0, ground := Ground.phase }, { on := 1, ground := Ground.phase }, { on := 2, ground := Ground.phase }, { on := 3, ground := Ground.phase }, { on := 4, ground := Ground.phase }, { on := 5, ground := Ground.phase }, { on := 6, ground := Ground.phase }, { on := 7, ground := Ground.phase }, { on := 8, ground := Ground.phase }, { on := 9, ground := Ground.phase }, { on := 10, ground := Ground.phase }, { on := 11, ground := Ground.phase }, { on := 12, ground := Ground.phase }, { on := 13, ground := Ground.phase }], guard := none }) rfl (fun K hK => ?_) AllReadyH.nil)
          go_simp
          try go_wp2_with fail
          refine hK.out _ _ (SF2.out _ _ HM.out) (fun hHeld => ?_)
          clear hK K
          try simp only [Act.put, List.setIfInBounds_toArray, List.set_cons_zero, List.set_cons_succ]
          refine wpAnyH_done (by kernel_rfl) ?_ _
          clear hc1 hz1 hc2 hz2 hHeld
          go_wp2_with fail
          go_roundw
          case rel => exact ⟨k + 1, by have := HK.out; omega, by go_num, HW2.out⟩
          case measure => simp [intOf]; have := HK.out; omega
        · go_simp
          have HA5 := Lib.hid (HA4.out.keepF hG (((Grew.refl (S := fun _ => False) w4).alloc (.cells #[.string P] 9)).drew))
          have HX5 : Hid (Box w4.heap.size 9 (.string P) (w4.alloc (.cells #[.string P] 9)).drew) := Lib.hid (Box.new w4 _ _)
          have HNs : Hid (¬ b.S0 w4.heap.size) := Lib.hid (HB.far ok (by have := HA4.out.gr.size; omega))
          generalize hW5 : (w4.alloc (.cells #[.string P] 9)).drew = w5 at *
          clear hW5
          try go_wp2_with fail
          refine hK.out _ _ (SF0.out _ HA5.out) (fun hHeld => ?_)
          clear hK K
          try simp only [Act.put, List.setIfInBounds_toArray, List.set_cons_zero, List.set_cons_succ]
          refine wpAnyH_ready (rs := [7]) (by kernel_rfl) (by simp) ?_
          refine (AllReadyH.cons (o := { dst := some 29, op := Op.call { callee := Callee.value (Operand.func 96), args := #[Operand.tmp 27, Operand.tmp 28], argTypes := #[24, 9] }, type := 3, pos := "extent.go:146", after := #[{ on := 5, ground := Ground.data }, { on := 6, ground := Ground.data }], guard := none }) rfl (fun K hK => ?_) AllReadyH.nil)
          go_simp
          refine (HPut2.out _ HA5.out).mono ?_
          rintro e w6 ⟨v, rfl, hm, hkk⟩
          have HM := Lib.hid hm
          have HSb : Hid (w6.cell? ⟨w4.heap.size, 0, none⟩ = some (.string P)) := Lib.hid (Box.cell (t := 9) ((hkk _ (HX5.out.pl HNs.out (by decide) (by decide))).trans HX5.out))
          clear hm hkk HX5 HA5
          try go_wp2_with fail
          refine hK.out _ _ (SF.out _ _ HM.out) (fun hHeld => ?_)
          clear hK K
          try simp only [Act.put, List.setIfInBounds_toArray, List.set_cons_zero, List.set_cons_succ]
          refine wpAnyH_take (i := 12) (oi := { dst := some 34, op := Op.indexAddr 88 (Operand.tmp 33) (Operand.tmp 22), type := 0, pos := "extent.go:146", after := #[{ on := 11, ground := Ground.data }, { on := 0, ground := Ground.data }, { on := 0, ground := Ground.phase }, { on := 1, ground := Ground.textOnly Departure.lateStores }, { on := 2, ground := Ground.phase }, { on := 3, ground := Ground.phase }, { on := 4, ground := Ground.phase }, { on := 5, ground := Ground.phase }, { on := 6, ground := Ground.phase }, { on := 7, ground := Ground.phase }, { on := 8, ground := Ground.textOnly Departure.lateStores }, { on := 9, ground := Ground.textOnly Departure.lateStores }, { on := 10, ground := Ground.textOnly Departure.lateStoresUnsure }], guard := none }) (v := ?_) rfl (by kernel_rfl) (by kernel_rfl) (by kernel_rfl) (fun _ _ _ h => h) (Or.inl ⟨by rfl, ?_⟩) (by assumption) ?_
          rotate_left
          · (intro wz hSw; (try dsimp only at hSw); obtain ⟨hSw1, hSw2⟩ := hSw; go_simp; try with_reducible rfl)
          try simp only [Act.put, List.setIfInBounds_toArray, List.set_cons_zero, List.set_cons_succ]
          refine wpAnyH_ready (rs := [10]) (by kernel_rfl) (by simp) ?_
          refine (AllReadyH.cons (o := { dst := some 32, op := Op.call { callee := Callee.value (Operand.func 97), args := #[Operand.tmp 31], argTypes := #[123] }, type := 89, pos := "extent.go:146", after := #[{ on := 9, ground := Ground.data }, { on := 7, ground := Ground.chain }], guard := none }) rfl (fun K hK => ?_) AllReadyH.nil)
          go_simp
          refine (HCr2.out _ _ HSb.out).mono ?_
          rintro e w7 ⟨rfl, rfl⟩
          try go_wp2_with fail
          refine hK.out _ _ (SF.out _ _ HM.out) (fun hHeld => ?_)
          clear hK K
          try simp only [Act.put, List.setIfInBounds_toArray, List.set_cons_zero, List.set_cons_succ]
          have HW2 := Lib.hid (HM.out.store ok hG HK.out hB hpa hpd hps hx)
          have hd1 := HHd.out _ _ HM.out
          obtain ⟨o1, o2, hc1, hz1, hc2, hz2⟩ := hd1
          refine wpAnyH_ready (rs := [13]) (by kernel_rfl) (by simp) ?_
          refine (AllReadyH.cons (o := { dst := none, op := Op.store 3 (Operand.tmp 34) (Operand.tmp 29), type := 0, pos := "extent.go:146", after := #[{ on := 12, ground := Ground.data }, { on := 7, ground := Ground.data }, { on := 10, ground := Ground.chain }, { on := 0, ground := Ground.phase }, { on := 1, ground := Ground.textOnly Departure.lateStores }, { on := 2, ground := Ground.phase }, { on := 3, ground := Ground.phase }, { on := 4, ground := Ground.phase }, { on := 5, ground := Ground.phase }, { on := 6, ground := Ground.phase }, { on := 7, ground := Ground.phase }, { on := 8, ground := Ground.textOnly Departure.lateStores }, { on := 9, ground := Ground.textOnly Departure.lateStores }, { on := 10, ground := Ground.textOnly Departure.lateStoresUnsure }], guard := none }) rfl (fun K hK => ?_) AllReadyH.nil)
          go_simp
          try go_wp2_with fail
          refine hK.out _ _ (SF1.out _ _ HM.out) (fun hHeld => ?_)
          clear hK K
          try simp only [Act.put, List.setIfInBounds_toArray, List.set_cons_zero, List.set_cons_succ]
          refine wpAnyH_take (i := 15) (oi := { dst := some 36, op := Op.indexAddr 90 (Operand.tmp 35) (Operand.tmp 23), type := 0, pos := "extent.go:146", after := #[{ on := 14, ground := Ground.data }, { on := 1, ground := Ground.data }, { on := 0, ground := Ground.phase }, { on := 1, ground := Ground.phase }, { on := 2, ground := Ground.phase }, { on := 3, ground := Ground.phase }, { on := 4, ground := Ground.phase }, { on := 5, ground := Ground.phase }, { on := 6, ground := Ground.phase }, { on := 7, ground := Ground.phase }, { on := 8, ground := Ground.phase }, { on := 9, ground := Ground.phase }, { on := 10, ground := Ground.phase }, { on := 11, ground := Ground.phase }, { on := 12, ground := Ground.phase }, { on := 13, ground := Ground.phase }], guard := none }) (v := ?_) rfl (by kernel_rfl) (by kernel_rfl) (by kernel_rfl) (fun _ _ _ h => h) (Or.inl ⟨by rfl, ?_⟩) (by assumption) ?_
          rotate_left
          · (intro wz hSw; (try dsimp only at hSw); obtain ⟨hSw1, hSw2⟩ := hSw; go_simp; try with_reducible rfl)
          try simp only [Act.put, List.setIfInBounds_toArray, List.set_cons_zero, List.set_cons_succ]
          refine wpAnyH_ready (rs := [16]) (by kernel_rfl) (by simp) ?_
          refine (AllReadyH.cons (o := { dst := none, op := Op.store 89 (Operand.tmp 36) (Operand.tmp 32), type := 0, pos := "extent.go:146", after := #[{ on := 15, ground := Ground.data }, { on := 10, ground := Ground.data }, { on := 13, ground := Ground.chain }, { on := 0, ground := Ground.phase }, { on := 1, ground := Ground.phase }, { on := 2, ground := Ground.phase }, { on := 3, ground := Ground.phase }, { on := 4, ground := Ground.phase }, { on := 5, ground := Ground.phase }, { on := 6, ground := Ground.phase }, { on := 7, ground := Ground.phase }, { on := 8, ground := Ground.phase }, { on := 9, ground := Ground.phase }, { on := 10, ground := Ground.phase }, { on := 11, ground := Ground.phase }, { on := 12, ground := Ground.phase }, { on := 13, ground := Ground.phase }], guard := none }) rfl (fun K hK => ?_) AllReadyH.nil)
          go_simp
          try go_wp2_with fail
          refine hK.out _ _ (SF2.out _ _ HM.out) (fun hHeld => ?_)
          clear hK K
          try simp only [Act.put, List.setIfInBounds_toArray, List.set_cons_zero, List.set_cons_succ]
          refine wpAnyH_done (by kernel_rfl) ?_ _
          clear hc1 hz1 hc2 hz2 hHeld
          go_wp2_with fail
          go_roundw
          case rel => exact ⟨k + 1, by have := HK.out; omega, by go_num, HW2.out⟩
          case measure => simp [intOf]; have := HK.out; omega
    · have i0 : ¬ (k : Int) < 4 := by omega
      obtain rfl : k = 4 := by omega
      obtain ⟨a, J, s1, U, h1, h2, h3⟩ := HA0.out.st
      have heq : headL a (upTo (smOf D) 4) f = headL a (smOf D) f := headL_congr (fun _ _ => rfl) (fun j h => by unfold upTo; rw [if_pos h]) (fun _ _ => rfl)
      rw [heq] at h3
      have ha16 := h1.lt ok
      have HBy := Lib.hid fun wx => bytes_any a (smOf D) f ha16 (smOf_lt D) hf256 wx
      have HIL : Hid ((Tryz.prog.info? 92).map (·.size) = some (headL a (smOf D) f).length) := Lib.hid (by rw [headL_len]; kernel_rfl)
      obtain ⟨SS, hSS⟩ : ∃ SS, sealS (headT a (smOf D) f) = SS := ⟨_, rfl⟩
      have hSz : SS.size = 64 := by rw [← hSS]; exact sealS_size _ (headT_60 _ _ _)
      obtain ⟨N, hN⟩ : ∃ N, headL a (smOf D) f = N := ⟨_, rfl⟩
      rw [hSS, hN] at HBy
      rw [hN] at HIL h3
      have HE : Hid (WrE b s dp f0 n pd ps x kb bits pa H D a J s1 U N w wr.drew) := Lib.hid (WrE.keepF ⟨HA0.out.fr, HA0.out.ba, h1, h2, h3, HA0.out.gr, HA0.out.hw⟩ hG (Grew.refl _).drew)
      have HPe : Hid (∀ W, WrE b s dp f0 n pd ps x kb bits pa H D a J s1 U N w W → Calls Tryz.prog 96 #[.pointer (some ⟨b.hb, 0, none⟩), .string SS] W fun e w' => ∃ v : Nat, e = .returned (.int .i64 (v : Int)) ∧ WrZ b dp f0 n pd ps x kb bits pa H D a J s1 U N SS v w w') := Lib.hid fun W hE => by
        obtain ⟨i1, i2, i3, i4, i5, i6⟩ := h1.same
        refine (hPut_any (b := b.at U) (s := s1) (ok.at U) hf (i2.trans hG) SS (by omega) (by rw [i1]; exact hK0) (by rw [i1]; show s.K < ((cnt s1.S 0 b.n : Nat) : Int); omega) (by omega) (Nat.succ_pos dp) hd hE.inl).mono ?_
        rintro e w' ⟨j, hj, h0, hmin, rfl, hin, hg⟩
        have hg' : Grew (Mut b.B b.S0 W) W w' := hg
        have kk : Kept b.S0 W w' := Kept.of hg'
        have hHn : ¬ b.S0 H := HB.far ok (by have := hE.hw; omega)
        exact ⟨b.f + j, rfl, hE.fr.kept kk, (kk _ (hE.ba.pl na (by decide) (by decide))).trans hE.ba, ⟨j, rfl, hj, h0, hmin, hin⟩, (kk _ (hE.hd.pl hHn)).trans hE.hd, hE.gr.thenMut hg'⟩
      have SG := Lib.hid (fun W (hE : WrE b s dp f0 n pd ps x kb bits pa H D a J s1 U N w W) => And.intro (Lib.hid hE.hd.range) (And.intro hE.fr.bs.cell hE.fr.sx.cell.1))
      have SH := Lib.hid (fun (v : Nat) W (hE : WrZ b dp f0 n pd ps x kb bits pa H D a J s1 U N SS v w W) => And.intro (Lib.hid hE.hd.range) (And.intro hE.fr.bs.cell hE.fr.sx.cell.1))
      have hne1 : ps ≠ pa := fun e => by
        have q1 := HA0.out.fr.bs
        have q2 := HA0.out.ba
        unfold Box at q1 q2
        rw [e, q2] at q1
        simp at q1
      have hne2 : x ≠ pa := fun e => by
        have q1 := HA0.out.fr.sx
        have q2 := HA0.out.ba
        unfold Box at q2
        unfold StAt at q1
        rw [e, q2] at q1
        simp at q1
      have SI := Lib.hid (fun (v : Nat) W (hE : WrZ b dp f0 n pd ps x kb bits pa H D a J s1 U N SS v w W) => (show Hid ((W.setCell ⟨pa, 0, none⟩ (.int .i64 (v : Int))).rangeAt H 0 N) ∧ (W.setCell ⟨pa, 0, none⟩ (.int .i64 (v : Int))).cell? ⟨ps, 0, none⟩ = some (.pointer (some ⟨x, 0, none⟩)) ∧ (W.setCell ⟨pa, 0, none⟩ (.int .i64 (v : Int))).cell? ⟨x, 0, none⟩ = some (.pointer (some ⟨b.hb, 0, none⟩)) from by
        have g : Grew (fun q => q = pa) W (W.setCell ⟨pa, 0, none⟩ (.int .i64 (v : Int))) := (Grew.refl W).setCell _ _ fun _ => rfl
        refine ⟨Lib.hid (hE.hd.keep g (by have := HHe.out; omega)).range, ?_, ?_⟩
        · rw [World.cell?_setCell_other _ _ _ _ (fun e => hne1 (congrArg Addr.block e).symm)]
          exact hE.fr.bs.cell
        · rw [World.cell?_setCell_other _ _ _ _ (fun e => hne2 (congrArg Addr.block e).symm)]
          exact hE.fr.sx.cell.1))
      have HFin : Hid (∀ (v : Nat) W, WrZ b dp f0 n pd ps x kb bits pa H D a J s1 U N SS v w W → WrEnd b s (dp + 1) f0 n D f v (W.setCell ⟨pa, 0, none⟩ (.int .i64 (v : Int))) ∧ Box pa 3 (.int .i64 (v : Int)) (W.setCell ⟨pa, 0, none⟩ (.int .i64 (v : Int))) ∧ Grew (fun q => Mut b.B b.S0 w q ∨ q = pa) w (W.setCell ⟨pa, 0, none⟩ (.int .i64 (v : Int)))) := Lib.hid fun v W hE => by
        obtain ⟨j, e1, hj, h0, hmin, hin⟩ := hE.at'
        obtain ⟨i1, i2, i3, i4, i5, i6⟩ := h1.same
        refine ⟨⟨a, J, s1, U, j, h1, e1, hj, h0, hmin, ?_⟩, hE.ba.set _, (hE.gr.mono fun _ _ e => Or.inl e).setCell _ _ fun _ => Or.inr rfl⟩
        rw [hSS]
        exact hin.box (i2.trans hG) hE.ba (by decide) na
      clear hSS hN h1 h2 h3 heq ha16 hSz HA0 hlt hk HPt HCr HZt hd256
      go_upto_region 8 with fail
      refine wp_region_held_drew (S := fun wx => Hid (wx.rangeAt H 0 N) ∧ wx.cell? ⟨ps, 0, none⟩ = some (.pointer (some ⟨x, 0, none⟩)) ∧ wx.cell? ⟨x, 0, none⟩ = some (.pointer (some ⟨b.hb, 0, none⟩))) (by kernel_rfl) (SG.out _ HE.out) (fun hHeld => ?_)
      refine wpAnyH_take (i := 0) (oi := { dst := some 38, op := Op.load 28 (Operand.tmp 2), type := 28, pos := "extent.go:149", after := #[], guard := none }) (v := ?_) rfl (by kernel_rfl) (by kernel_rfl) (by kernel_rfl) (fun _ _ _ h => h) (Or.inl ⟨by rfl, ?_⟩) (by assumption) ?_
      rotate_left
      · (intro wz hSw; (try dsimp only at hSw); obtain ⟨_, hSw1, hSw2⟩ := hSw; go_simp; try with_reducible rfl)
      try simp only [Act.put, List.setIfInBounds_toArray, List.set_cons_zero, List.set_cons_succ]
      refine wpAnyH_take (i := 1) (oi := { dst := some 39, op := Op.nilCheck (Operand.tmp 38), type := 0, pos := "extent.go:149", after := #[{ on := 0, ground := Ground.data }], guard := none }) (v := ?_) rfl (by kernel_rfl) (by kernel_rfl) (by kernel_rfl) (fun _ _ _ h => h) (Or.inl ⟨by rfl, ?_⟩) (by assumption) ?_
      rotate_left
      · (intro wz hSw; (try dsimp only at hSw); obtain ⟨_, hSw1, hSw2⟩ := hSw; go_simp; try with_reducible rfl)
      try simp only [Act.put, List.setIfInBounds_toArray, List.set_cons_zero, List.set_cons_succ]
      refine wpAnyH_take (i := 2) (oi := { dst := some 40, op := Op.fieldAddr 80 (Operand.tmp 39) 0, type := 0, pos := "extent.go:149", after := #[{ on := 1, ground := Ground.data }], guard := none }) (v := ?_) rfl (by kernel_rfl) (by kernel_rfl) (by kernel_rfl) (fun _ _ _ h => h) (Or.inl ⟨by rfl, ?_⟩) (by assumption) ?_
      rotate_left
      · (intro wz hSw; (try dsimp only at hSw); obtain ⟨_, hSw1, hSw2⟩ := hSw; go_simp; try with_reducible rfl)
      try simp only [Act.put, List.setIfInBounds_toArray, List.set_cons_zero, List.set_cons_succ]
      refine wpAnyH_take (i := 3) (oi := { dst := some 41, op := Op.load 24 (Operand.tmp 40), type := 24, pos := "extent.go:149", after := #[{ on := 2, ground := Ground.data }], guard := none }) (v := ?_) rfl (by kernel_rfl) (by kernel_rfl) (by kernel_rfl) (fun _ _ _ h => h) (Or.inl ⟨by rfl, ?_⟩) (by assumption) ?_
      rotate_left
      · (intro wz hSw; (try dsimp only at hSw); obtain ⟨_, hSw1, hSw2⟩ := hSw; go_simp; try with_reducible rfl)
      try simp only [Act.put, List.setIfInBounds_toArray, List.set_cons_zero, List.set_cons_succ]
      refine wpAnyH_take (i := 4) (oi := { dst := some 42, op := Op.load 92 (Operand.tmp 4), type := 92, pos := "extent.go:149", after := #[], guard := none }) rfl (by kernel_rfl) (by kernel_rfl) (by kernel_rfl) (fun _ _ _ h => h) (yieldsIf_load_mid (by rfl) _ _ rfl H 0 rfl N _ (fun wz hz => hz.1.out) Tryz.underlying92 rfl HIL.out) (by assumption) ?_
      try simp only [Act.put, List.setIfInBounds_toArray, List.set_cons_zero, List.set_cons_succ]
      refine wpAnyH_ready (rs := [5]) (by kernel_rfl) (by simp) ?_
      refine (AllReadyH.cons (o := { dst := some 43, op := Op.call { callee := Callee.value (Operand.func 98), args := #[Operand.tmp 42], argTypes := #[92] }, type := 9, pos := "extent.go:149", after := #[{ on := 4, ground := Ground.data }], guard := none }) rfl (fun K hK => ?_) AllReadyH.nil)
      go_simp
      refine (HBy.out _).mono ?_
      rintro e w5 ⟨rfl, hb5⟩
      have HE5 := Lib.hid (HE.out.keepF hG (Grew.of_below hb5))
      clear hb5
      try go_wp2_with fail
      refine hK.out _ _ (SG.out _ HE5.out) (fun hHeld => ?_)
      clear hK K
      try simp only [Act.put, List.setIfInBounds_toArray, List.set_cons_zero, List.set_cons_succ]
      refine wpAnyH_ready (rs := [6]) (by kernel_rfl) (by simp) ?_
      refine (AllReadyH.cons (o := { dst := some 44, op := Op.call { callee := Callee.value (Operand.func 96), args := #[Operand.tmp 41, Operand.tmp 43], argTypes := #[24, 9] }, type := 3, pos := "extent.go:149", after := #[{ on := 3, ground := Ground.data }, { on := 5, ground := Ground.data }, { on := 5, ground := Ground.chain }], guard := none }) rfl (fun K hK => ?_) AllReadyH.nil)
      go_simp
      refine (HPe.out _ HE5.out).mono ?_
      rintro e w6 ⟨v, rfl, hend⟩
      have HZ := Lib.hid hend
      clear hend
      try go_wp2_with fail
      refine hK.out _ _ (SH.out _ _ HZ.out) (fun hHeld => ?_)
      clear hK K
      try simp only [Act.put, List.setIfInBounds_toArray, List.set_cons_zero, List.set_cons_succ]
      have hq1 := HZ.out.ba.cell
      have hq2 := HZ.out.ba.free
      refine wpAnyH_ready (rs := [7]) (by kernel_rfl) (by simp) ?_
      refine (AllReadyH.cons (o := { dst := none, op := Op.store 3 (Operand.tmp 3) (Operand.tmp 44), type := 0, pos := "extent.go:149", after := #[{ on := 6, ground := Ground.data }, { on := 6, ground := Ground.chain }, { on := 0, ground := Ground.phase }, { on := 1, ground := Ground.phase }, { on := 2, ground := Ground.phase }, { on := 3, ground := Ground.phase }, { on := 4, ground := Ground.phase }, { on := 5, ground := Ground.phase }, { on := 6, ground := Ground.phase }], guard := none }) rfl (fun K hK => ?_) AllReadyH.nil)
      go_simp
      try go_wp2_with fail
      refine hK.out _ _ (SI.out _ _ HZ.out) (fun hHeld => ?_)
      clear hK K
      try simp only [Act.put, List.setIfInBounds_toArray, List.set_cons_zero, List.set_cons_succ]
      refine wpAnyH_done (by kernel_rfl) ?_ _
      have HZF := Lib.hid (HFin.out _ _ HZ.out)
      go_end0
      exact ⟨rfl, v, HZF.out.1, HZF.out.2.1, HZF.out.2.2⟩
end Go.Proofs.YtbohpffigmllkaaGreatDoor

/-
  extent.Store.write within a Try of a heap: contract.
-/
namespace Go.Proofs.YtbohpffigmllkaaGreatDoor
open Go.RowKit Go.Maps Go.ChangeMaps Go.WideShapes

section
variable {b : HB} {s : HS} {dp n : Nat} {f0 : List Step} {w w' : World}
/-- write's four boxes, made -/
structure EwAt (b : HB) (s : HS) (dp : Nat) (f0 : List Step) (n xs kb : Nat) (bits : Int) (x : Nat) (D : ByteArray) (f : Nat → Nat) (w W : World) : Prop where
  inl : InL b s dp f0 n W
  fr : Fr b (x + 1) x xs kb bits D W
  bS : W.heap[x + 1 + 1]? = some (.cells (arr f).toArray 51 (0, 0))
  ba : Box (x + 1 + 1 + 1) 3 (.int .i64 0) W
  sz : W.heap.size = x + 4
  hx : w.heap.size = x
  g : Grew (fun _ => False) w W
theorem ewAt {xs kb : Nat} {bits : Int} (ok : b.ok) (hG : s.G = []) (hsz : b.B ≤ w.heap.size) (D : ByteArray) (f : Nat → Nat) (h : InL b s dp f0 n w) (hst : StAt b xs kb bits w) (nx : ¬ b.S0 xs) : EwAt b s dp f0 n xs kb bits w.heap.size D f w ((((w.alloc (.cells #[.pointer (some ⟨xs, 0, none⟩)] 28)).alloc (.cells #[.string D] 9)).alloc (.cells (arr f).toArray 51)).alloc (.cells #[.int .i64 0] 3)) := by
  have s1 : (w.alloc (.cells #[.pointer (some ⟨xs, 0, none⟩)] 28)).heap.size = w.heap.size + 1 := by simp
  have s2 : ((w.alloc (.cells #[.pointer (some ⟨xs, 0, none⟩)] 28)).alloc (.cells #[.string D] 9)).heap.size = w.heap.size + 1 + 1 := by simp
  have s3 : (((w.alloc (.cells #[.pointer (some ⟨xs, 0, none⟩)] 28)).alloc (.cells #[.string D] 9)).alloc (.cells (arr f).toArray 51)).heap.size = w.heap.size + 1 + 1 + 1 := by simp
  have x1 := Box.new w 28 (.pointer (some ⟨xs, 0, none⟩))
  have x2 := Box.new (w.alloc (.cells #[.pointer (some ⟨xs, 0, none⟩)] 28)) 9 (.string D)
  have x4 := Box.new (((w.alloc (.cells #[.pointer (some ⟨xs, 0, none⟩)] 28)).alloc (.cells #[.string D] 9)).alloc (.cells (arr f).toArray 51)) 3 (.int .i64 0)
  have x3 := heap_alloc_new ((w.alloc (.cells #[.pointer (some ⟨xs, 0, none⟩)] 28)).alloc (.cells #[.string D] 9)) (.cells (arr f).toArray 51)
  rw [s1] at x2
  rw [s2] at x3
  rw [s3] at x4
  have gw : Grew (fun _ => False) w ((((w.alloc (.cells #[.pointer (some ⟨xs, 0, none⟩)] 28)).alloc (.cells #[.string D] 9)).alloc (.cells (arr f).toArray 51)).alloc (.cells #[.int .i64 0] 3)) := ((((Grew.refl w).alloc _).alloc _).alloc _).alloc _
  refine ⟨(((h.alloc hG _).alloc hG _).alloc hG _).alloc hG _, ⟨((x2.keepAlloc _).keepAlloc _), (((x1.keepAlloc _).keepAlloc _).keepAlloc _), (gw.block xs (hst.pl nx).lt (fun e => e)).trans hst, HB.far ok (by omega), HB.far ok (by omega), nx⟩, ?_, x4, by simp, rfl, gw⟩
  exact (((Grew.refl _).alloc _).block (S := fun _ => False) _ (by rw [World.size_alloc, s2]; omega) (fun e => e)).trans x3
theorem EwAt.set0 {xs kb : Nat} {bits : Int} {x : Nat} {D : ByteArray} {f : Nat → Nat} {W : World} (ok : b.ok) (hG : s.G = []) (hsz : b.B ≤ w.heap.size) (hxs : xs < w.heap.size) (h : EwAt b s dp f0 n xs kb bits x D f w W) : EwAt b s dp f0 n xs kb bits x D f w (W.setCell ⟨x + 1 + 1 + 1, 0, none⟩ (.int .i64 0)) := by
  have hx := h.hx
  have g : Grew (fun q => q = x + 1 + 1 + 1) W (W.setCell ⟨x + 1 + 1 + 1, 0, none⟩ (.int .i64 0)) := (Grew.refl W).setCell _ _ fun _ => rfl
  exact ⟨h.inl.box hG h.ba (by decide) (HB.far ok (by omega)), h.fr.keep g (fun q hq => by omega), (g.block _ (by rw [h.sz]; omega) (by omega)).trans h.bS, h.ba.set _, by rw [World.size_setCell]; exact h.sz, hx, h.g.setCell _ _ fun e => by
    have e : x + 1 + 1 + 1 < w.heap.size := e
    omega⟩
/-- what write's Try leaves -/
structure EwEnd (b : HB) (s : HS) (dp : Nat) (f0 : List Step) (n : Nat) (D : ByteArray) (f : Nat → Nat) (xa : Nat) (w : World) (v : Nat) (w' : World) : Prop where
  wr : WrEnd b s dp f0 n D f v w'
  ba : Box xa 3 (.int .i64 (v : Int)) w'
  g : Grew (Mut b.B b.S0 w) w w'
set_option maxRecDepth 100000 in
theorem ewTry (ok : b.ok) (hf : 1 ≤ b.f) (hG : s.G = []) (hK0 : 0 ≤ s.K) (hK : s.K + 5 ≤ (cnt s.S 0 b.n : Nat)) (hn : n < 70000) (hdp : 0 < dp) (hd : dp + 1 < 100000) (xs kb : Nat) (bits : Int) (D : ByteArray) (hD : D.size = 256) (f : Nat → Nat) (hf256 : ∀ j, f j < 256) (x : Nat) {W : World} (h : EwAt b s dp f0 n xs kb bits x D f w W) (hsz : b.B ≤ w.heap.size) (hxs : xs < w.heap.size) :
    Calls Tryz.prog 12 #[.pointer (some ⟨b.hb, 0, none⟩), .func (.func 95) #[] #[.pointer (some ⟨x + 1 + 1, 0, none⟩), .pointer (some ⟨x + 1, 0, none⟩), .pointer (some ⟨x, 0, none⟩), .pointer (some ⟨x + 1 + 1 + 1, 0, none⟩)]] W fun e w' => e = .returned (.int .i64 0) ∧ ∃ v, EwEnd b s dp f0 n D f (x + 1 + 1 + 1) w v w' := by
  have hx := h.hx
  have hWs := h.sz
  have f3 : ¬ b.S0 (x + 1 + 1 + 1) := HB.far ok (by omega)
  have f2 : ¬ b.S0 (x + 1 + 1) := HB.far ok (by omega)
  have f4 : ¬ b.S0 W.heap.size := HB.far ok (by omega)
  have gT := tryWorld_grew b.g dp W
  have hgS : b.S0 b.g := ⟨1, by decide, rfl⟩
  refine (lTry ok hdp (by omega) h.inl _ _ (fun s1 n1 U w1 => ∃ a J s2 U2 j, Wr b s D 4 a J s2 U2 ∧ j < b.n ∧ s2.S j = 0 ∧ (∀ i, i < j → ¬ s2.S i = 0) ∧ s1 = s2.put j ((b.f + j : Nat) : Int) ∧ n1 = n + 3 * J.length + 3 ∧ U = wroteT U2 (b.f + j) (sealS (headT a (smOf D) f)) ∧ Box (x + 1 + 1 + 1) 3 (.int .i64 ((b.f + j : Nat) : Int)) w1 ∧ Grew (Mut b.B b.S0 w) w w1) (fun _ => by rfl) ?_).mono ?_
  · intro f1' hin
    refine (write1_any b ok hf s hG hK0 hK dp n hn hd f1' (x + 1 + 1) (x + 1) x xs kb bits (x + 1 + 1 + 1) D hD f hf256 _ hin (h.fr.keep gT fun q hq e => ?_) (h.ba.keep gT fun e => f3 (e ▸ hgS)) ((gT.block (x + 1 + 1) (by omega) fun (e : x + 1 + 1 = b.g) => f2 (e ▸ hgS)).trans h.bS) f3).mono ?_
    · rcases hq with rfl | rfl | rfl
      · exact h.fr.nd (e ▸ hgS)
      · exact h.fr.ns (e ▸ hgS)
      · exact h.fr.nx (e ▸ hgS)
    · rintro e w1 ⟨rfl, v, ⟨a, J, s1, U, j, h1, rfl, h3, h4, h5, h6⟩, hb, hg⟩
      refine ⟨_, _, _, rfl, h6, h1.same.2.1.trans hG, ?_, a, J, s1, U, j, h1, h3, h4, h5, rfl, rfl, rfl, hb, ?_⟩
      · rw [hg.block _ (by rw [tryWorld_size]; omega) ?_]
        · exact tryWorld_box b.g dp W
        · rintro (m | m)
          · rcases m with m | m
            · exact f4 m
            · exact notFunc_err (tryWorld_box b.g dp W) m
          · omega
      · have g1 : Grew (Mut b.B b.S0 w) w (tryWorld b.g dp W) := (h.g.mono fun _ _ e => e.elim).step gT fun y _ e => Or.inl (e ▸ hgS)
        exact g1.step hg fun y hy m => by
          rcases m with m | m
          · exact Mut.back g1 hy m
          · omega
  · rintro e w' ⟨s1, n1, U, w1, rfl, ⟨a, J, s2, U2, j, h1, h3, h4, h5, rfl, rfl, rfl, hb, hg⟩, hin, g2, _⟩
    refine ⟨rfl, b.f + j, ⟨a, J, s2, U2, j, h1, rfl, h3, h4, h5, hin⟩, hb.keep g2 ?_, hg.step g2 fun y hy e => ?_⟩
    · rintro (e | e)
      · exact f3 (e ▸ hgS)
      · omega
    · rcases e with e | e
      · exact Or.inl (e ▸ hgS)
      · omega
set_option maxRecDepth 100000 in
theorem write_any (ok : b.ok) (hf : 1 ≤ b.f) (hG : s.G = []) (hK0 : 0 ≤ s.K) (hK : s.K + 5 ≤ (cnt s.S 0 b.n : Nat)) (hn : n < 70000) (hdp : 0 < dp) (hd : dp + 1 < 100000) (xs kb : Nat) (bits : Int) (D : ByteArray) (hD : D.size = 256) (f : Nat → Nat) (hf256 : ∀ j, f j < 256) (h : InL b s dp f0 n w) (hst : StAt b xs kb bits w) (nx : ¬ b.S0 xs) :
    Calls Tryz.prog 59 #[.pointer (some ⟨xs, 0, none⟩), .string D, .agg (arr f).toArray] w fun e w' => ∃ v : Nat, e = .returned (.int .i64 (v : Int)) ∧ WrEnd b s dp f0 n D f v w' ∧ Grew (Mut b.B b.S0 w) w w' := by
  have hmf : ∀ (fn : Fn) (first cap : Array Value) (w : World), (Instr.makeFunc fn first cap).run Tryz.prog w = .ok (.func fn first cap) w := fun _ _ _ _ => rfl
  have hsz := h.size
  have hxs := (hst.pl nx).lt
  have HA := ewAt ok hG hsz D f h hst nx
  obtain ⟨W, hW⟩ : ∃ W, ((((w.alloc (.cells #[.pointer (some ⟨xs, 0, none⟩)] 28)).alloc (.cells #[.string D] 9)).alloc (.cells (arr f).toArray 51)).alloc (.cells #[.int .i64 0] 3)) = W := ⟨_, rfl⟩
  rw [hW] at HA
  have q1 := HA.ba.cell
  have q2 := HA.ba.free
  have c0 := HA.fr.bs.cell
  replace HA := HA.set0 ok hG hsz hxs
  obtain ⟨V, hV⟩ : ∃ V, W.setCell ⟨w.heap.size + 1 + 1 + 1, 0, none⟩ (.int .i64 0) = V := ⟨_, rfl⟩
  rw [hV] at HA
  have c1 := HA.fr.bs.cell
  have c2 := HA.fr.sx.cell.1
  have HT := Lib.hid (whole_ok _ _ _ (ewTry ok hf hG hK0 hK hn hdp hd xs kb bits D hD f hf256 w.heap.size HA hsz hxs))
  obtain ⟨X, hX⟩ : ∃ X, (arr f).toArray = X := ⟨_, rfl⟩
  rw [hX] at hW ⊢
  clear h HA hsz hst hX
  go_enter Tryz.func59, Tryz.ntmps59
  go_wp2_with fail
  refine HT.out.mono ?_
  rintro e w1 ⟨rfl, v, hE⟩
  have c5 := hE.ba.cell
  have HE := Lib.hid hE
  clear hE HT
  go_wp2_with fail
  go_ret
  exact ⟨v, rfl, HE.out.wr, HE.out.g⟩
end
end Go.Proofs.YtbohpffigmllkaaGreatDoor
