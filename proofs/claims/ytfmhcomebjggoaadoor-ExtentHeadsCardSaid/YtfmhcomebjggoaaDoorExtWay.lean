/-
  ExtentHeads: the law on its way through its first loop.
-/
import Derived.Test.YtfmhcomebjggoaaDoorExtGuards
namespace Go.Proofs.YtfmhcomebjggoaaDoor
open Go.RowKit

/-- the numbers that came in, of which the first k are cut to 16 bits -/
def atAt (K : Nat → Int) (M : Nat → Nat) (k j : Nat) : Value := if j < k then .int .i64 (M j : Nat) else .int .i64 (K j)
structure HyW (w : World) (q : Nat) (K : Nat → Int) (M : Nat → Nat) (n B : Nat) (k : Nat) (v : Value) (wx : World) : Prop where
  src : Cells q 4 (atAt K M k) wx
  head : Cells n 40 (headAt (upTo M k) zf zf) wx
  own : wx.ownsRow B 3 1 v k (natsOf (numsL M k))
  below : Below w.heap.size w wx
  lo : w.heap.size ≤ q
  qn : q < n
  nb : n < B
  base : B ≤ wx.heap.size
theorem HyW.put {w : World} {q : Nat} {K : Nat → Int} {M : Nat → Nat} {n B : Nat} {k : Nat} {v : Value} {wx : World} (h : HyW w q K M n B k v wx) (hk : k < 4) :
    let wy := (wx.setCell ⟨q, k, none⟩ (.int .i64 (M k : Nat))).setCell ⟨n, k, none⟩ (.int .i64 (M k : Nat))
    Cells q 4 (atAt K M (k + 1)) wy ∧ Cells n 40 (headAt (upTo M (k + 1)) zf zf) wy ∧ wy.ownsRow B 3 1 v k (natsOf (numsL M k)) ∧ Below w.heap.size w wy ∧ B ≤ wy.heap.size := by
  have h1 := h.qn
  have h2 := h.nb
  have h3 := h.base
  have h4 := h.lo
  have g : Grew (fun y => y = q ∨ y = n) wx ((wx.setCell ⟨q, k, none⟩ (.int .i64 (M k : Nat))).setCell ⟨n, k, none⟩ (.int .i64 (M k : Nat))) := ((Grew.refl wx).setCell _ _ fun _ => Or.inl rfl).setCell _ _ fun _ => Or.inr rfl
  refine ⟨?_, ?_, own_kept h.own fun x hx => g.block x (own_block_lt h.own x hx).2 (by have := (own_block_lt h.own x hx).1; omega), (h.below.setCell (by show w.heap.size ≤ q; omega) _).setCell (by show w.heap.size ≤ n; omega) _, by rw [World.size_setCell, World.size_setCell]; exact h.base⟩
  · refine Cells.far ?_ _ (by omega)
    refine h.src.set k _ hk ?_ fun j hj hne => ?_
    · unfold atAt
      rw [if_pos (by omega)]
    · unfold atAt
      by_cases c : j < k
      · rw [if_pos (by omega), if_pos c]
      · rw [if_neg (by omega), if_neg c]
  · have hh := h.head.far (c := q) (k := k) (.int .i64 (M k : Nat)) (by omega)
    have := hh.setAt k (M k) hk
    rwa [upTo_step] at this
theorem hyMore {w : World} {q : Nat} {K : Nat → Int} {M : Nat → Nat} {n B : Nat} {k : Nat} {v : Value} {wx wy : World} {g cap : Nat} (hs : Cells q 4 (atAt K M (k + 1)) wx) (hn : Cells n 40 (headAt (upTo M (k + 1)) zf zf) wx)
    (ho : wx.ownsRow B 3 1 v k (natsOf (numsL M k))) (hb : Below w.heap.size w wx) (h4 : w.heap.size ≤ q) (h1 : q < n) (h2 : n < B) (h3 : B ≤ wx.heap.size) (m : MoreInts wx B v (numsL M k) [M k] g cap wy) :
    HyW w q K M n B (k + 1) (.slice (some ⟨g, 0, none⟩) (k + 1) cap) wy := by
  have hq : ∀ x, x < B → wy.heap[x]? = wx.heap[x]? := fun x hx => m.grown.block x (by omega) fun e => by
    have := (own_block_lt ho x e.symm).1
    omega
  refine ⟨hs.block (hq q (by omega)) m.grown.size, hn.block (hq n h2) m.grown.size, ?_, m.below hb ho (by omega) hb.size, h4, h1, h2, Nat.le_trans h3 m.grown.size⟩
  have := m.own
  rw [numsL_len, numsL_next] at this
  exact this
theorem head_full (a m f : Nat → Nat) (j : Nat) (h : j < 40) : headAt (upTo a 4) (upTo m 4) f j = headAt a m f j :=
  headAt_congr (fun i hi => by unfold upTo; rw [if_pos hi]) (fun i hi => by unfold upTo; rw [if_pos hi]) (fun _ _ => rfl) j h
theorem upTo_same (f : Nat → Nat) (k : Nat) (h : f k = 0) : upTo f (k + 1) = upTo f k := by
  funext j
  unfold upTo
  by_cases e : j = k
  · subst e
    rw [if_pos (by omega), if_neg (by omega), h]
  · by_cases c : j < k
    · rw [if_pos (by omega), if_pos c]
    · rw [if_neg (by omega), if_neg c]
/-- one more byte of a sum -/
theorem or32_step (X : Nat) (b : UInt8) (h : X < 16777216) : bits .or .u32 (IntKind.u32.wrap ((X : Int) * 256)) (IntKind.u32.wrap (b.toNat : Int)) = ((X * 256 + b.toNat : Nat) : Int) := by
  have hb : b.toNat < 256 := b.toNat_lt
  rw [show (X : Int) * 256 = ((X * 256 : Nat) : Int) by omega, u32_small _ (by omega), u32_small _ (by omega), u32_or_nat _ _ (by omega) (by omega), nat_join 8 (X * 256) b.toNat (by omega) (by omega)]
theorem num_take32 (L : List UInt8) (i : Nat) (h : i < L.length) : num (L.take (i + 1)) = num (L.take i) * 256 + (L[i]).toNat := by
  rw [List.take_succ_eq_append_getElem h, num_snoc]
theorem num_lt4 (L : List UInt8) (i : Nat) (h : i < 4) : num (L.take i) < 16777216 := by
  have h1 := num_lt (L.take i)
  have h2 : 256 ^ (L.take i).length ≤ 256 ^ 3 := Nat.pow_le_pow_right (by decide) (by rw [List.length_take]; omega)
  omega
theorem own_num (a m f : Nat → Nat) (hm : ∀ j, m j < 4294967296) (k : Nat) (hk : k < 4) : num (((sealS (headT a m f)).data.toList.drop (9 + 4 * k)).take 4) = m k := by
  have h := own_sm a m f hm k hk
  unfold saysSm at h
  rw [ext_end, ahead_list] at h
  rw [← h]
  congr 1
  refine List.ext_getElem? fun j => ?_
  by_cases hj : j < 4
  · rw [List.getElem?_take_of_lt hj, List.getElem?_take_of_lt hj, List.getElem?_drop, List.getElem?_drop, List.getElem?_take_of_lt (by omega)]
  · rw [List.getElem?_take_eq_none (by omega), List.getElem?_take_eq_none (by omega)]
end Go.Proofs.YtfmhcomebjggoaaDoor
