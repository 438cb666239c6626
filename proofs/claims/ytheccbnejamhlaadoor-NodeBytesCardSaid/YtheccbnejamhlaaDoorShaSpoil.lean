/-
  A block of the call's own that holds bytes: what stays of it behind new blocks, draws, calls and stores; a slice over it as a text; a text as such a block.
-/
import Derived.Test.YtheccbnejamhlaaDoorShaKit
import Derived.Test.YtheccbnejamhlaaDoorCrcMath
namespace Go.Proofs.YtheccbnejamhlaaDoor
open Go.RowKit

/-- a block of the call's own: n bytes -/
def RowIs (b n : Nat) (f : Nat → Nat) (w : World) : Prop := b < w.heap.size ∧ ∀ j, j < n → w.cell? ⟨b, j, none⟩ = some (.int .u8 (f j)) ∧ w.frozen? ⟨b, j, none⟩ = false
theorem RowIs.alloc {b n : Nat} {f : Nat → Nat} {w : World} (h : RowIs b n f w) (o : Obj) : RowIs b n f (w.alloc o) := by
  refine ⟨by have := h.1; simp; omega, fun j hj => ?_⟩
  rw [World.cell?_alloc_past (hn := h.1), World.frozen?_alloc_old (h := by have := h.1; simp; omega)]
  exact h.2 j hj
theorem RowIs.below {b n : Nat} {f : Nat → Nat} {w w' : World} (h : RowIs b n f w) (k : Below w.heap.size w w') : RowIs b n f w' := by
  refine ⟨Nat.lt_of_lt_of_le h.1 k.size, fun j hj => ?_⟩
  rw [k.cell (p := ⟨b, j, none⟩) h.1, k.frozen (p := ⟨b, j, none⟩) h.1]
  exact h.2 j hj
theorem RowIs.drew {b n : Nat} {f : Nat → Nat} {w : World} (h : RowIs b n f w) : RowIs b n f w.drew := h
theorem RowIs.set {b n : Nat} {f g : Nat → Nat} {w : World} (h : RowIs b n f w) (k v : Nat) (hk : k < n) (hv : g k = v) (hg : ∀ j, j ≠ k → g j = f j) : RowIs b n g (w.setCell ⟨b, k, none⟩ (.int .u8 v)) := by
  refine ⟨by have := h.1; simpa using this, fun j hj => ?_⟩
  rw [World.frozen?_setCell]
  refine ⟨?_, (h.2 j hj).2⟩
  by_cases e : j = k
  · subst e
    rw [World.cell?_setCell_same (h := (h.2 j hj).1), hv]
  · rw [World.cell?_setCell_other (h := by intro q; injection q with q1 q2 q3; exact e q2.symm), hg j e]
    exact (h.2 j hj).1

theorem conv_row (b n cap : Nat) (l : List UInt8) (hl : l.length = n) (w : World) (h : RowIs b n (fun j => (l.getD j 0).toNat) w) :
    (convert 30 9 (.slice (some ⟨b, 0, none⟩) n cap)).run Tryd.prog w = .ok (.string ⟨l.toArray⟩) w := by
  subst hl
  refine run_convert_bytes_back w _ _ 5 _ cap l Tryd.underlying30 Tryd.underlying5 Tryd.underlying9 fun j hj => ?_
  have hp : (⟨b, 0, none⟩ : Addr).add j = ⟨b, j, none⟩ := by unfold Addr.add; split <;> simp_all
  have := (h.2 j hj).1
  rw [hp]
  simpa [List.getD_eq_getElem?_getD, List.getElem?_eq_getElem hj] using this


theorem RowIs.congr {b n : Nat} {f g : Nat → Nat} {w : World} (h : RowIs b n f w) (e : ∀ j, j < n → f j = g j) : RowIs b n g w :=
  ⟨h.1, fun j hj => by rw [← e j hj]; exact h.2 j hj⟩
theorem bytes_of (w : World) (t : ByteArray) : ∃ (cap : Nat) (W : World),
    (convert 9 30 (.string t)).run Tryd.prog w = .ok (.slice (some ⟨w.heap.size, 0, none⟩) t.size cap) W ∧ RowIs w.heap.size t.size (fun j => (t.data.toList.getD j 0).toNat) W ∧ Below w.heap.size w W := by
  refine ⟨_, _, run_bytes_of_string w 9 30 5 t Tryd.underlying9 Tryd.underlying30 Tryd.underlying5, ⟨by simp, fun j hj => ?_⟩, (Below.refl _ _).drew.alloc (Nat.le_refl _) _⟩
  have hj' : j < t.data.size := hj
  generalize grownCap w t.size 0 5 = cap
  have hsz : t.size ≤ (bytesRow t cap).size := by
    unfold bytesRow
    have : t.data.size = t.size := rfl
    simp [this]
  have h1 := World.cell?_alloc_mark w.drew (bytesRow t cap) 5 ((bytesRow t cap).size, (bytesRow t cap).size + 1) j
  have h2 := World.frozen?_alloc_mark w.drew (bytesRow t cap) 5 (bytesRow t cap).size ((bytesRow t cap).size + 1) j
  rw [bytesRow_at t cap j hj'] at h1
  refine ⟨?_, ?_⟩
  · refine h1.trans ?_
    simp [List.getD_eq_getElem?_getD, Array.getElem?_eq_getElem hj']
  · refine h2.trans ?_
    simp
    omega
theorem cell_more {w : World} {v : Value} {b : Nat} (h : w.cell? ⟨b, 0, none⟩ = some v) (hb : b < w.heap.size) (o : Obj) : (w.alloc o).cell? ⟨b, 0, none⟩ = some v := by
  rw [World.cell?_alloc_past (hn := hb), h]
theorem cell_at1 {w : World} {t : TypeId} {v : Value} {b : Nat} {o1 : Obj} (h : w.heap.size = b) : ((w.alloc (.cells #[v] t)).alloc o1).cell? ⟨b, 0, none⟩ = some v :=
  cell_more (cell_at0 h) (by simp; omega) _
theorem cell_at2 {w : World} {t : TypeId} {v : Value} {b : Nat} {o1 o2 : Obj} (h : w.heap.size = b) : (((w.alloc (.cells #[v] t)).alloc o1).alloc o2).cell? ⟨b, 0, none⟩ = some v :=
  cell_more (cell_at1 h) (by simp; omega) _
theorem cell_at3 {w : World} {t : TypeId} {v : Value} {b : Nat} {o1 o2 o3 : Obj} (h : w.heap.size = b) : ((((w.alloc (.cells #[v] t)).alloc o1).alloc o2).alloc o3).cell? ⟨b, 0, none⟩ = some v :=
  cell_more (cell_at2 h) (by simp; omega) _
theorem ret_bool {a b : Bool} (h : a = b) : Ending.returned (.bool a) = .returned (.bool b) := by rw [h]
theorem place (a : Int) (n : Nat) (h : 0 < n) (h3 : n ≤ 300) : ∃ p : Nat, p < n ∧ (wrap64 (a.tmod n + n)).tmod n = (p : Int) := by
  have l := Int.tmod_lt_of_pos a (show (0 : Int) < (n : Int) by omega)
  have g := Int.lt_tmod_of_pos a (show (0 : Int) < (n : Int) by omega)
  have e : wrap64 (a.tmod n + n) = a.tmod n + n := by unfold wrap64; omega
  rw [e, Int.tmod_eq_emod_of_nonneg (by omega)]
  have m := Int.emod_nonneg (a.tmod n + n) (show (n : Int) ≠ 0 by omega)
  have q := Int.emod_lt_of_pos (a.tmod n + n) (show (0 : Int) < (n : Int) by omega)
  exact ⟨((a.tmod n + n) % n).toNat, by omega, by omega⟩
theorem txt_beq (s u : Sha.St) : ((⟨(sumB s).toArray⟩ : ByteArray).toList == (⟨(sumB u).toArray⟩ : ByteArray).toList) = same s u := by
  rw [ByteArray.toList_eq, ByteArray.toList_eq]
  show ((sumB s) == (sumB u)) = _
  rw [Bool.eq_iff_iff, beq_iff_eq, ← sum_txt, ← sum_txt]
  unfold same txt
  rw [List.all_eq_true]
  constructor
  · intro h i hi
    have hi' : i < 32 := by simpa using hi
    have h1 := congrArg (fun l => (l.getD i 0).toNat) h
    simp only [List.getD_eq_getElem?_getD, List.getElem?_map, List.getElem?_range hi', Option.map_some, Option.getD_some, UInt8.toNat_ofNat'] at h1
    have := dg_lt s i
    have := dg_lt u i
    rw [beq_iff_eq]
    omega
  · intro h
    exact List.map_congr_left fun i hi => by rw [beq_iff_eq.1 (h i hi)]
end Go.Proofs.YtheccbnejamhlaaDoor
