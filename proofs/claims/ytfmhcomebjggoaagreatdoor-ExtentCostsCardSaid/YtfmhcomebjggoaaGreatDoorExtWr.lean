/-
  extent: how an extent's sectors are written into a heap, in a Try: what is on its way.
-/
import Derived.Test.YtfmhcomebjggoaaGreatDoorHeapB
import Derived.Test.YtfmhcomebjggoaaGreatDoorExtParse
import Derived.Test.YtfmhcomebjggoaaGreatDoorExtCost
namespace Go.Proofs.YtfmhcomebjggoaaGreatDoor
open Go.RowKit Go.Maps Go.ChangeMaps Go.WideShapes

/-- a sector of an extent -/
def partB (D : ByteArray) (k : Nat) : ByteArray := D.extract (64 * k) (64 * k + 64)
theorem partB_size (D : ByteArray) (h : D.size = 256) (k : Nat) (hk : k < 4) : (partB D k).size = 64 := by
  unfold partB
  rw [ByteArray.size_extract]
  omega
/-- its sum, 0 if it is all noughts -/
def smOf (D : ByteArray) (k : Nat) : Nat := if allZero (partB D k).data.toList then 0 else C.Crc.sum (partB D k).data.toList
theorem smOf_lt (D : ByteArray) (k : Nat) : smOf D k < 4294967296 := by
  unfold smOf
  split
  · decide
  · exact crc_lt _
theorem upTo_same (f : Nat → Nat) (k : Nat) (h : f k = 0) : upTo f (k + 1) = upTo f k := by
  funext j
  unfold upTo
  by_cases e : j = k
  · subst e
    rw [if_pos (by omega), if_neg (by omega), h]
  · by_cases c : j < k
    · rw [if_pos (by omega), if_pos c]
    · rw [if_neg (by omega), if_neg c]
/-- the first k sectors of an extent were written, each into the least free one: where they lie, what the heap is then, and the disk -/
inductive Wr (b : HB) (s : HS) (D : ByteArray) : Nat → (Nat → Nat) → List Nat → HS → (Nat → UInt8) → Prop
  | none : Wr b s D 0 zf [] s b.T
  | skip {k : Nat} {a : Nat → Nat} {J : List Nat} {s1 : HS} {U : Nat → UInt8} : Wr b s D k a J s1 U → allZero (partB D k).data.toList = true → Wr b s D (k + 1) a J s1 U
  | put {k : Nat} {a : Nat → Nat} {J : List Nat} {s1 : HS} {U : Nat → UInt8} {j : Nat} : Wr b s D k a J s1 U → allZero (partB D k).data.toList = false → j < b.n → s1.S j = 0 → (∀ i, i < j → ¬ s1.S i = 0) →
      Wr b s D (k + 1) (updN a k (b.f + j)) (J ++ [j]) (s1.put j ((b.f + j : Nat) : Int)) (wroteT U (b.f + j) (partB D k))
theorem cnt_put (S : Nat → Nat) (j n : Nat) (hj : j < n) (hs : S j = 0) : cnt (upd S j 1) 0 n + 1 = cnt S 0 n ∧ cnt (upd S j 1) 1 n = cnt S 1 n + 1 := by
  have e := cnt_upd S 0 j 1 n hj
  have e2 := cnt_upd S 1 j 1 n hj
  rw [if_pos hs] at e
  rw [if_neg (by omega)] at e2
  simp at e e2
  omega
theorem Wr.same {b : HB} {s s1 : HS} {D : ByteArray} {k : Nat} {a : Nat → Nat} {J : List Nat} {U : Nat → UInt8} (h : Wr b s D k a J s1 U) : s1.K = s.K ∧ s1.G = s.G ∧ cnt s1.S 0 b.n + J.length = cnt s.S 0 b.n ∧ cnt s1.S 1 b.n = cnt s.S 1 b.n + J.length ∧ J.length = partsN D.data.toList k ∧ J.length ≤ k := by
  induction h with
  | none => exact ⟨rfl, rfl, rfl, rfl, rfl, Nat.le_refl _⟩
  | @skip k a J s1 U _ hz ih =>
    obtain ⟨i1, i2, i3, i4, i5, i6⟩ := ih
    refine ⟨i1, i2, i3, i4, ?_, by omega⟩
    show _ = partsN _ _ + _
    have e : (partB D k).data.toList = (D.data.toList.drop (64 * k)).take 64 := by
      unfold partB
      rw [ext_list, show 64 * k + 64 - 64 * k = 64 by omega]
    rw [← e, if_pos hz]
    exact i5
  | @put k a J s1 U j _ hz hj hs _ ih =>
    obtain ⟨i1, i2, i3, i4, i5, i6⟩ := ih
    obtain ⟨c1, c2⟩ := cnt_put s1.S j b.n hj hs
    refine ⟨i1, i2, ?_, ?_, ?_, by rw [List.length_append]; simp; omega⟩
    · show cnt (upd s1.S j 1) 0 b.n + (J ++ [j]).length = _
      rw [List.length_append, List.length_singleton]
      omega
    · show cnt (upd s1.S j 1) 1 b.n = _ + (J ++ [j]).length
      rw [List.length_append, List.length_singleton]
      omega
    · show (J ++ [j]).length = partsN _ _ + _
      have e : (partB D k).data.toList = (D.data.toList.drop (64 * k)).take 64 := by
        unfold partB
        rw [ext_list, show 64 * k + 64 - 64 * k = 64 by omega]
      rw [← e, if_neg (by rw [hz]; decide), List.length_append, List.length_singleton, i5]
theorem Wr.lt {b : HB} {s s1 : HS} {D : ByteArray} {k : Nat} {a : Nat → Nat} {J : List Nat} {U : Nat → UInt8} (ok : b.ok) (h : Wr b s D k a J s1 U) : ∀ j, a j < 65536 := by
  induction h with
  | none => exact fun _ => by unfold zf; decide
  | skip _ _ ih => exact ih
  | put _ _ hj _ _ ih =>
    intro i
    unfold updN
    split
    · have := ok.f
      have := ok.n
      omega
    · exact ih i
/-- a block that holds a head -/
def HdAt (H : Nat) (N : List Value) (W : World) : Prop := W.heap[H]? = some (.cells N.toArray 80 (0, 0))
theorem HdAt.lt {H : Nat} {N : List Value} {W : World} (h : HdAt H N W) : H < W.heap.size := by
  rcases Nat.lt_or_ge H W.heap.size with h1 | h1
  · exact h1
  · unfold HdAt at h
    rw [Array.getElem?_eq_none h1] at h
    cases h
theorem HdAt.cell {H : Nat} {N : List Value} {W : World} (h : HdAt H N W) (j : Nat) : W.cell? ⟨H, j, none⟩ = N[j]? := by
  unfold HdAt at h
  simp [World.cell?, h]
theorem HdAt.free {H : Nat} {N : List Value} {W : World} (h : HdAt H N W) (j : Nat) : W.frozen? ⟨H, j, none⟩ = false := by
  unfold HdAt at h
  simp [World.frozen?, h]
theorem HdAt.range {H : Nat} {N : List Value} {W : World} (h : HdAt H N W) : W.rangeAt H 0 N := fun j v hv => by
  rw [Nat.zero_add, h.cell j]
  exact hv
theorem HdAt.cells {H : Nat} {a m f : Nat → Nat} {W : World} (h : HdAt H (headL a m f) W) : Cells H 40 (headAt a m f) W :=
  ⟨h.lt, fun j hj => ⟨by rw [h.cell, headL_at a m f j hj], h.free j⟩⟩
theorem HdAt.set {H : Nat} {N : List Value} {W : World} (h : HdAt H N W) (k : Nat) (v : Value) : HdAt H (N.set k v) (W.setCell ⟨H, k, none⟩ v) := by
  unfold HdAt at h ⊢
  simp [World.setCell, Array.getElem?_modify, h]
theorem HdAt.keep {H : Nat} {N : List Value} {S : Nat → Prop} {w w' : World} (h : HdAt H N w) (k : Grew S w w') (hS : ¬ S H) : HdAt H N w' := (k.block H h.lt hS).trans h
theorem HdAt.pl {S0 : Nat → Prop} {H : Nat} {N : List Value} {W : World} (h : HdAt H N W) (hs : ¬ S0 H) : Plain S0 W H := ⟨hs, _, _, _, h, by decide, by decide⟩
theorem headL_setAt (a m f : Nat → Nat) (k v : Nat) (hk : k < 4) : (headL a m f).set k (.int .i64 (v : Nat)) = headL (updN a k v) m f := by
  refine List.ext_getElem? fun j => ?_
  rw [List.getElem?_set]
  by_cases hj : j < 40
  · rw [headL_at _ _ _ j hj, headL_at _ _ _ j hj, headL_len]
    by_cases e : k = j
    · subst e
      rw [if_pos rfl, if_pos (by omega)]
      unfold headAt updN
      rw [if_pos hk, if_pos rfl]
    · rw [if_neg e]
      unfold headAt updN
      by_cases h1 : j < 4
      · rw [if_pos h1, if_pos h1, if_neg (fun x => e x.symm)]
      · rw [if_neg h1, if_neg h1]
  · rw [if_neg (by omega), List.getElem?_eq_none (by rw [headL_len]; omega), List.getElem?_eq_none (by rw [headL_len]; omega)]
theorem headL_setSm (a m f : Nat → Nat) (k v : Nat) (hk : k < 4) : (headL a m f).set (4 + k) (.int .u32 (v : Nat)) = headL a (updN m k v) f := by
  refine List.ext_getElem? fun j => ?_
  rw [List.getElem?_set]
  by_cases hj : j < 40
  · rw [headL_at _ _ _ j hj, headL_at _ _ _ j hj, headL_len]
    by_cases e : 4 + k = j
    · subst e
      rw [if_pos rfl, if_pos (by omega)]
      unfold headAt updN
      rw [if_neg (by omega), if_pos (by omega), if_pos (by omega)]
    · rw [if_neg e]
      unfold headAt updN
      by_cases h1 : j < 4
      · rw [if_pos h1, if_pos h1]
      · rw [if_neg h1, if_neg h1]
        by_cases h2 : j < 8
        · rw [if_pos h2, if_pos h2, if_neg (by omega)]
        · rw [if_neg h2, if_neg h2]
  · rw [if_neg (by omega), List.getElem?_eq_none (by rw [headL_len]; omega), List.getElem?_eq_none (by rw [headL_len]; omega)]
/-- a store in memory -/
def StAt (b : HB) (x kb : Nat) (bits : Int) (W : World) : Prop := W.heap[x]? = some (.cells #[.pointer (some ⟨b.hb, 0, none⟩), .int .i64 bits, .map (some kb)] 61 (0, 0))
theorem StAt.cell {b : HB} {x kb : Nat} {bits : Int} {W : World} (h : StAt b x kb bits W) : W.cell? ⟨x, 0, none⟩ = some (.pointer (some ⟨b.hb, 0, none⟩)) ∧ W.cell? ⟨x, 1, none⟩ = some (.int .i64 bits) ∧ W.cell? ⟨x, 2, none⟩ = some (.map (some kb)) := by
  unfold StAt at h
  simp [World.cell?, h]
theorem StAt.pl {S0 : Nat → Prop} {b : HB} {x kb : Nat} {bits : Int} {W : World} (h : StAt b x kb bits W) (hs : ¬ S0 x) : Plain S0 W x := ⟨hs, _, _, _, h, by decide, by decide⟩
/-- the boxes of what write runs -/
structure Fr (b : HB) (pd ps x kb : Nat) (bits : Int) (D : ByteArray) (W : World) : Prop where
  bd : Box pd 9 (.string D) W
  bs : Box ps 29 (.pointer (some ⟨x, 0, none⟩)) W
  sx : StAt b x kb bits W
  nd : ¬ b.S0 pd
  ns : ¬ b.S0 ps
  nx : ¬ b.S0 x
theorem Fr.kept {b : HB} {pd ps x kb : Nat} {bits : Int} {D : ByteArray} {W W' : World} (h : Fr b pd ps x kb bits D W) (k : Kept b.S0 W W') : Fr b pd ps x kb bits D W' :=
  ⟨(k _ (h.bd.pl h.nd (by decide) (by decide))).trans h.bd, (k _ (h.bs.pl h.ns (by decide) (by decide))).trans h.bs, (k _ (h.sx.pl h.nx)).trans h.sx, h.nd, h.ns, h.nx⟩
theorem Fr.keep {b : HB} {pd ps x kb : Nat} {bits : Int} {D : ByteArray} {T : Nat → Prop} {W W' : World} (h : Fr b pd ps x kb bits D W) (k : Grew T W W') (hT : ∀ q, q = pd ∨ q = ps ∨ q = x → ¬ T q) : Fr b pd ps x kb bits D W' :=
  ⟨h.bd.keep k (hT _ (Or.inl rfl)), h.bs.keep k (hT _ (Or.inr (Or.inl rfl))), (k.block x (h.sx.pl (S0 := b.S0) h.nx).lt (hT _ (Or.inr (Or.inr rfl)))).trans h.sx, h.nd, h.ns, h.nx⟩
/-- within write: k sectors were looked at; v: k's own one was put, the head doesn't say it yet -/
structure WrAt (b : HB) (s : HS) (dp : Nat) (f0 : List Step) (n pd ps x kb : Nat) (bits : Int) (pa H : Nat) (D : ByteArray) (f : Nat → Nat) (k : Nat) (w W : World) : Prop where
  fr : Fr b pd ps x kb bits D W
  ba : Box pa 3 (.int .i64 0) W
  st : ∃ a J s1 U, Wr b s D k a J s1 U ∧ InL (b.at U) s1 (dp + 1) f0 (n + 3 * J.length) W ∧ HdAt H (headL a (upTo (smOf D) k) f) W
  gr : Grew (Mut b.B b.S0 w) w W
  hw : w.heap.size ≤ H
structure WrMid (b : HB) (s : HS) (dp : Nat) (f0 : List Step) (n pd ps x kb : Nat) (bits : Int) (pa H : Nat) (D : ByteArray) (f : Nat → Nat) (k v : Nat) (w W : World) : Prop where
  fr : Fr b pd ps x kb bits D W
  ba : Box pa 3 (.int .i64 0) W
  st : ∃ a J s1 U, Wr b s D (k + 1) (updN a k v) J s1 U ∧ InL (b.at U) s1 (dp + 1) f0 (n + 3 * J.length) W ∧ HdAt H (headL a (upTo (smOf D) k) f) W
  gr : Grew (Mut b.B b.S0 w) w W
  hw : w.heap.size ≤ H
section
variable {b : HB} {s : HS} {dp : Nat} {f0 : List Step} {n pd ps x kb : Nat} {bits : Int} {pa H : Nat} {D : ByteArray} {f : Nat → Nat} {k v : Nat} {w W : World}
theorem WrAt.keepF {W' : World} (h : WrAt b s dp f0 n pd ps x kb bits pa H D f k w W) (hG : s.G = []) (g : Grew (fun _ => False) W W') : WrAt b s dp f0 n pd ps x kb bits pa H D f k w W' := by
  obtain ⟨a, J, s1, U, h1, h2, h3⟩ := h.st
  exact ⟨h.fr.keep g (fun _ _ e => e), h.ba.keep g (fun e => e), ⟨a, J, s1, U, h1, h2.keep (h1.same.2.1.trans hG) g (fun _ _ e => e) (fun _ _ _ _ e => e), h3.keep g fun e => e⟩, h.gr.step g fun _ _ e => e.elim, h.hw⟩
theorem WrMid.keepF {W' : World} (h : WrMid b s dp f0 n pd ps x kb bits pa H D f k v w W) (hG : s.G = []) (g : Grew (fun _ => False) W W') : WrMid b s dp f0 n pd ps x kb bits pa H D f k v w W' := by
  obtain ⟨a, J, s1, U, h1, h2, h3⟩ := h.st
  exact ⟨h.fr.keep g (fun _ _ e => e), h.ba.keep g (fun e => e), ⟨a, J, s1, U, h1, h2.keep (h1.same.2.1.trans hG) g (fun _ _ e => e) (fun _ _ _ _ e => e), h3.keep g fun e => e⟩, h.gr.step g fun _ _ e => e.elim, h.hw⟩
theorem WrAt.skip (h : WrAt b s dp f0 n pd ps x kb bits pa H D f k w W) (hz : allZero (partB D k).data.toList = true) : WrAt b s dp f0 n pd ps x kb bits pa H D f (k + 1) w W := by
  obtain ⟨a, J, s1, U, h1, h2, h3⟩ := h.st
  refine ⟨h.fr, h.ba, ⟨a, J, s1, U, .skip h1 hz, h2, ?_⟩, h.gr, h.hw⟩
  rw [upTo_same _ _ (by unfold smOf; rw [if_pos hz])]
  exact h3
/-- a sector of an extent is put -/
theorem WrAt.put (h : WrAt b s dp f0 n pd ps x kb bits pa H D f k w W) (ok : b.ok) (hf : 1 ≤ b.f) (hG : s.G = []) (hD : D.size = 256) (hk : k < 4) (hz : allZero (partB D k).data.toList = false) (hK0 : 0 ≤ s.K) (hK : s.K + 5 ≤ (cnt s.S 0 b.n : Nat)) (hn : n < 70000) (hd : dp + 1 < 100000) (hB : b.B ≤ w.heap.size) (na : ¬ b.S0 pa) :
    Calls Tryz.prog 67 #[.pointer (some ⟨b.hb, 0, none⟩), .string (partB D k)] W fun e w' => ∃ v : Nat, e = .returned (.int .i64 (v : Int)) ∧ WrMid b s dp f0 n pd ps x kb bits pa H D f k v w w' ∧ Kept b.S0 W w' := by
  obtain ⟨a, J, s1, U, h1, h2, h3⟩ := h.st
  obtain ⟨i1, i2, i3, i4, i5, i6⟩ := h1.same
  have hs := partB_size D hD k hk
  refine (hPut_any (b := b.at U) (s := s1) (ok.at U) hf (i2.trans hG) (partB D k) (by omega) (by rw [i1]; exact hK0) (by rw [i1]; show s.K < ((cnt s1.S 0 b.n : Nat) : Int); omega) (by omega) (Nat.succ_pos dp) hd h2).mono ?_
  rintro e w' ⟨j, hj, h0, hmin, rfl, hin, hg⟩
  have hg' : Grew (Mut b.B b.S0 W) W w' := hg
  have kk : Kept b.S0 W w' := Kept.of hg'
  have hH : ¬ b.S0 H := HB.far ok (by have := h.hw; omega)
  refine ⟨b.f + j, rfl, ⟨h.fr.kept kk, (kk _ (h.ba.pl na (by decide) (by decide))).trans h.ba, ⟨a, J ++ [j], _, _, .put h1 hz hj h0 hmin, ?_, (kk _ (h3.pl hH)).trans h3⟩, h.gr.thenMut hg', h.hw⟩, kk⟩
  rw [List.length_append, List.length_singleton, show n + 3 * (J.length + 1) = n + 3 * J.length + 3 by omega]
  exact hin
theorem WrMid.store (h : WrMid b s dp f0 n pd ps x kb bits pa H D f k v w W) (ok : b.ok) (hG : s.G = []) (hk : k < 4) (hB : b.B ≤ w.heap.size) (hpa : pa < w.heap.size) (hpd : pd < w.heap.size) (hps : ps < w.heap.size) (hx : x < w.heap.size) :
    WrAt b s dp f0 n pd ps x kb bits pa H D f (k + 1) w ((W.setCell ⟨H, k, none⟩ (.int .i64 (v : Nat))).setCell ⟨H, 4 + k, none⟩ (.int .u32 (smOf D k : Nat))) := by
  obtain ⟨a, J, s1, U, h1, h2, h3⟩ := h.st
  have hw := h.hw
  have hH : ¬ b.S0 H := HB.far ok (by omega)
  have g : Grew (fun q => q = H) W ((W.setCell ⟨H, k, none⟩ (.int .i64 (v : Nat))).setCell ⟨H, 4 + k, none⟩ (.int .u32 (smOf D k : Nat))) := ((Grew.refl (S := fun q => q = H) W).setCell _ _ fun _ => rfl).setCell _ _ fun _ => rfl
  refine ⟨h.fr.keep g (fun q hq e => by omega), h.ba.keep g (by omega), ⟨updN a k v, J, s1, U, h1, h2.keep (h1.same.2.1.trans hG) g (fun q hq e => hH (e ▸ hq)) (fun r c fz hr e => by
      subst e
      unfold HdAt at h3
      rw [h3] at hr
      simp at hr), ?_⟩, h.gr.step g fun q hq e => by omega, hw⟩
  have := (h3.set k (.int .i64 (v : Nat))).set (4 + k) (.int .u32 (smOf D k : Nat))
  rw [headL_setAt _ _ _ k v hk, headL_setSm _ _ _ k _ hk, upTo_step] at this
  exact this
end
end Go.Proofs.YtfmhcomebjggoaaGreatDoor
