/-
  The document's own sum: rows of numbers, and what the walk of Of leans on.
-/
import Derived.Test.YtfmhcomebjggoaaDoorRefOf
namespace Go.Proofs.YtfmhcomebjggoaaDoor
open Go.RowKit

def wl (s : Sha.St) : List Nat := [s.a, s.b, s.c, s.d, s.e, s.f, s.g, s.z]
/-- a sum's bytes as the document has them -/
def sumB (s : Sha.St) : List UInt8 := (wl s).flatMap fun x => enc x 4
/-- a block of ints -/
structure RowI (g : Nat) (l : List Nat) (w : World) : Prop where
  cell : ∀ j, j < l.length → w.cell? ⟨g, j, none⟩ = some (.int .i64 ((l.getD j 0 : Nat) : Int))
  free : ∀ j, j < l.length → w.frozen? ⟨g, j, none⟩ = false
theorem RowI.below {g : Nat} {l : List Nat} {w w' : World} (h : RowI g l w) (hb : Below w.heap.size w w') : RowI g l w' :=
  ⟨fun j hj => by rw [hb.cell (p := ⟨g, j, none⟩) (World.block_lt_of_cell? w _ (h.cell j hj))]; exact h.cell j hj, fun j hj => by rw [hb.frozen (p := ⟨g, j, none⟩) (World.block_lt_of_cell? w _ (h.cell j hj))]; exact h.free j hj⟩
theorem RowI.drewN {g : Nat} {l : List Nat} {w : World} (h : RowI g l w) (n : Nat) : RowI g l (w.drewN n) := ⟨h.cell, h.free⟩
theorem RowI.of {w : World} {g : Nat} {l : List Nat} {t : TypeId} (h : w.heap[g]? = some (.cells (natInts l).toArray t)) : RowI g l w := by
  refine ⟨fun j hj => ?_, fun j hj => by simp [World.frozen?, h]⟩
  have := natInts_get l j hj
  simp only [World.cell?, h]
  simpa using this
theorem RowI.new (w : World) (l : List Nat) (t : TypeId) : RowI w.heap.size l (w.alloc (.cells (natInts l).toArray t)) := RowI.of (heap_alloc_new w _)
theorem RowI.set {g i : Nat} {l : List Nat} {w : World} (h : RowI g l w) (hi : i < l.length) (x : Nat) : RowI g (l.set i x) (w.setCell ⟨g, i, none⟩ (.int .i64 (x : Int))) := by
  have hl : (l.set i x).length = l.length := by simp
  refine ⟨fun j hj => ?_, fun j hj => ?_⟩
  · rw [hl] at hj
    by_cases e : j = i
    · subst e
      rw [World.cell?_setCell_same _ _ _ (h.cell j hj), List.getD_eq_getElem?_getD, List.getElem?_set_self hi]
      rfl
    · rw [World.cell?_setCell_other _ _ _ _ (fun e' => e (by have := congrArg Addr.off e'; exact this.symm)), h.cell j hj, List.getD_eq_getElem?_getD, List.getD_eq_getElem?_getD, List.getElem?_set_ne (fun e' => e e'.symm)]
  · rw [hl] at hj
    have := h.free j hj
    simpa using this
theorem RowI.apart {g b i : Nat} {l : List Nat} {w : World} (h : RowI g l w) (hne : g ≠ b) (v : Value) : RowI g l (w.setCell ⟨b, i, none⟩ v) :=
  ⟨fun j hj => by rw [World.cell?_setCell_other _ _ _ _ (fun e => hne (congrArg Addr.block e).symm)]; exact h.cell j hj, fun j hj => by have := h.free j hj; simpa using this⟩
theorem SS_lit : natInts (wl SS) = [.int .i64 1779033703, .int .i64 3144134277, .int .i64 1013904242, .int .i64 2773480762, .int .i64 1359893119, .int .i64 2600822924, .int .i64 528734635, .int .i64 1541459225] := rfl
theorem refK_KK (i : Nat) : refK.getD i 0 = KK i := rfl
theorem bits_enc (n : Nat) : Sha.bitsOf n = enc n 8 := by
  unfold Sha.bitsOf enc
  refine List.map_congr_left fun i hi => ?_
  have hi' : i < 8 := by simpa using hi
  have e : 2 ^ (56 - 8 * i) = 256 ^ (8 - 1 - i) := by
    rw [show (256 : Nat) = 2 ^ 8 from rfl, ← Nat.pow_mul]
    congr 1
    omega
  rw [e]
  apply UInt8.toNat_inj.1
  rw [UInt8.toNat_ofNat', UInt8.toNat_ofNat']
  omega
/-- the padded text, j noughts behind its bit -/
def padJ (s : ByteArray) (j : Nat) : ByteArray := ⟨(s.data.toList ++ 128 :: List.replicate j 0).toArray⟩
theorem padJ_size (s : ByteArray) (j : Nat) : (padJ s j).size = s.size + 1 + j := by
  show (s.data.toList ++ 128 :: List.replicate j 0).length = _
  simp
  omega
theorem padJ_zero (s : ByteArray) : s ++ ⟨#[128]⟩ = padJ s 0 := by
  apply ByteArray.ext
  apply Array.toList_inj.mp
  simp [padJ, ByteArray.data_append]
theorem padJ_succ (s : ByteArray) (j : Nat) : padJ s j ++ ⟨#[0]⟩ = padJ s (j + 1) := by
  apply ByteArray.ext
  apply Array.toList_inj.mp
  simp [padJ, ByteArray.data_append, List.replicate_succ']
/-- the whole text that is cut into blocks -/
def fullT (s : ByteArray) : ByteArray := ⟨(Sha.padded s.data.toList ++ Sha.bitsOf (8 * s.size)).toArray⟩
theorem fullT_eq (s : ByteArray) : padJ s (Sha.nulls s.size) ++ ⟨(enc (8 * s.size) 8).toArray⟩ = fullT s := by
  apply ByteArray.ext
  apply Array.toList_inj.mp
  simp [padJ, fullT, Sha.padded, ByteArray.data_append, bits_enc]
theorem fullT_size (s : ByteArray) : (fullT s).size = 64 * ((Sha.padded s.data.toList).length / 64 + 1) := by
  have h := Sha.padded_len s.data.toList
  show (Sha.padded s.data.toList ++ Sha.bitsOf (8 * s.size)).length = _
  rw [List.length_append, Sha.bitsOf_len]
  omega
theorem blk_of (T : ByteArray) (m j : Nat) (hj : j < 64) : blkOf (T.extract (64 * m) (64 * m + 64)) j = Sha.blkAt T.data.toList m j := by
  unfold blkOf Sha.blkAt
  rw [ByteArray.data_extract, Array.toList_extract, List.extract_eq_take_drop, List.getD_eq_getElem?_getD, List.getD_eq_getElem?_getD, List.getElem?_take_of_lt (by omega), List.getElem?_drop]
/-- the first j of eight sums are there -/
def addL (h s : List Nat) (j : Nat) : List Nat := (List.range 8).map fun i => if i < j then (h.getD i 0 + s.getD i 0) % 4294967296 else h.getD i 0
theorem addL_len (h s : List Nat) (j : Nat) : (addL h s j).length = 8 := by simp [addL]
theorem addL_zero (s r : Sha.St) : addL (wl s) (wl r) 0 = wl s := rfl
theorem addL_all (s r : Sha.St) : addL (wl s) (wl r) 8 = wl (Sha.plus s r) := rfl
theorem addL_get (h s : List Nat) (j i : Nat) (hi : i < 8) : (addL h s j).getD i 0 = if i < j then (h.getD i 0 + s.getD i 0) % 4294967296 else h.getD i 0 := by
  unfold addL
  rw [List.getD_eq_getElem?_getD, List.getElem?_map, List.getElem?_range hi]
  rfl
theorem addL_step (h s : List Nat) (j : Nat) : (addL h s j).set j ((h.getD j 0 + s.getD j 0) % 4294967296) = addL h s (j + 1) := by
  apply List.ext_getElem
  · simp [addL]
  · intro i h1 h2
    have hi : i < 8 := by simpa [addL] using h2
    rw [List.getElem_set]
    simp only [addL, List.getElem_map, List.getElem_range]
    by_cases e : j = i
    · subst e
      rw [if_pos rfl, if_pos (by omega)]
    · rw [if_neg e]
      by_cases h3 : i < j
      · rw [if_pos h3, if_pos (by omega)]
      · rw [if_neg h3, if_neg (by omega)]
theorem wl_lt {s : Sha.St} (h : s.ok) (i : Nat) : (wl s).getD i 0 < 4294967296 := by
  obtain ⟨ha, hb, hc, hd, he, hf, hg, hz⟩ := h
  refine Sha.getD_lt _ ?_ i
  intro x hx
  simp [wl] at hx
  rcases hx with rfl | rfl | rfl | rfl | rfl | rfl | rfl | rfl <;> assumption
theorem flat_next (l : List Nat) (j : Nat) (hj : j < l.length) : ((l.take j).flatMap fun x => enc x 4) ++ enc (l.getD j 0) 4 = (l.take (j + 1)).flatMap fun x => enc x 4 := by
  rw [List.take_succ_eq_append_getElem hj, List.flatMap_append, List.getD_eq_getElem?_getD, List.getElem?_eq_getElem hj]
  simp
theorem flat_len (l : List Nat) : (l.flatMap fun x => enc x 4).length = 4 * l.length := by
  induction l with
  | nil => rfl
  | cons a l ih => rw [List.flatMap_cons, List.length_append, enc_len, ih, List.length_cons]; omega
end Go.Proofs.YtfmhcomebjggoaaDoor
