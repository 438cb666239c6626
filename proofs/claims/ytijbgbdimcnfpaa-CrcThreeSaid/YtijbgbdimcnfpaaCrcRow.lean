/-
  A block of the call's own that holds bytes: what stays of it behind new blocks, draws, calls and stores; a slice over it as a text; a text as such a block.
-/
import Derived.Test.YtijbgbdimcnfpaaCrcAwake
namespace Go.Proofs.Ytijbgbdimcnfpaa
open Go.RowKit

/-- a block of the call's own: n bytes -/
def RowIs (b n : Nat) (f : Nat → Nat) (w : World) : Prop := b < w.heap.size ∧ ∀ j, j < n → w.cell? ⟨b, j, none⟩ = some (.int .u8 (f j)) ∧ w.frozen? ⟨b, j, none⟩ = false
theorem RowIs.alloc {b n : Nat} {f : Nat → Nat} {w : World} (h : RowIs b n f w) (o : Obj) : RowIs b n f (w.alloc o) := by
  refine ⟨by have := h.1; simp; omega, fun j hj => ?_⟩
  rw [World.cell?_alloc_past (hn := h.1), World.frozen?_alloc_old (h := by have := h.1; simp; omega)]
  exact h.2 j hj
theorem RowIs.below {b n : Nat} {f : Nat → Nat} {w w' : World} (h : RowIs b n f w) (k : Below w.heap.size w w') : RowIs b n f w' := by
  refine ⟨Nat.lt_of_lt_of_le h.1 k.size, fun j hj => ?_⟩
  rw [k.cell (p := ⟨b, j, none⟩) h.1, k.frozen (p := ⟨b, j, none⟩) h.1]
  exact h.2 j hj
theorem RowIs.drew {b n : Nat} {f : Nat → Nat} {w : World} (h : RowIs b n f w) : RowIs b n f w.drew := h
theorem RowIs.set {b n : Nat} {f g : Nat → Nat} {w : World} (h : RowIs b n f w) (k v : Nat) (hk : k < n) (hv : g k = v) (hg : ∀ j, j ≠ k → g j = f j) : RowIs b n g (w.setCell ⟨b, k, none⟩ (.int .u8 v)) := by
  refine ⟨by have := h.1; simpa using this, fun j hj => ?_⟩
  rw [World.frozen?_setCell]
  refine ⟨?_, (h.2 j hj).2⟩
  by_cases e : j = k
  · subst e
    rw [World.cell?_setCell_same (h := (h.2 j hj).1), hv]
  · rw [World.cell?_setCell_other (h := by intro q; injection q with q1 q2 q3; exact e q2.symm), hg j e]
    exact (h.2 j hj).1

theorem conv_row (b n cap : Nat) (l : List UInt8) (hl : l.length = n) (w : World) (h : RowIs b n (fun j => (l.getD j 0).toNat) w) :
    (convert 22 9 (.slice (some ⟨b, 0, none⟩) n cap)).run Try.prog w = .ok (.string ⟨l.toArray⟩) w := by
  subst hl
  refine run_convert_bytes_back w _ _ 5 _ cap l Try.underlying22 Try.underlying5 Try.underlying9 fun j hj => ?_
  have hp : (⟨b, 0, none⟩ : Addr).add j = ⟨b, j, none⟩ := by unfold Addr.add; split <;> simp_all
  have := (h.2 j hj).1
  rw [hp]
  simpa [List.getD_eq_getElem?_getD, List.getElem?_eq_getElem hj] using this


theorem RowIs.congr {b n : Nat} {f g : Nat → Nat} {w : World} (h : RowIs b n f w) (e : ∀ j, j < n → f j = g j) : RowIs b n g w :=
  ⟨h.1, fun j hj => by rw [← e j hj]; exact h.2 j hj⟩
theorem bytes_of (w : World) (t : ByteArray) : ∃ (cap : Nat) (W : World),
    (convert 9 22 (.string t)).run Try.prog w = .ok (.slice (some ⟨w.heap.size, 0, none⟩) t.size cap) W ∧ RowIs w.heap.size t.size (fun j => (t.data.toList.getD j 0).toNat) W ∧ Below w.heap.size w W := by
  refine ⟨_, _, run_bytes_of_string w 9 22 5 t Try.underlying9 Try.underlying22 Try.underlying5, ⟨by simp, fun j hj => ?_⟩, (Below.refl _ _).drew.alloc (Nat.le_refl _) _⟩
  have hj' : j < t.data.size := hj
  generalize grownCap w t.size 0 5 = cap
  have hsz : t.size ≤ (bytesRow t cap).size := by
    unfold bytesRow
    have : t.data.size = t.size := rfl
    simp [this]
  have h1 := World.cell?_alloc_mark w.drew (bytesRow t cap) 5 ((bytesRow t cap).size, (bytesRow t cap).size + 1) j
  have h2 := World.frozen?_alloc_mark w.drew (bytesRow t cap) 5 (bytesRow t cap).size ((bytesRow t cap).size + 1) j
  rw [bytesRow_at t cap j hj'] at h1
  refine ⟨?_, ?_⟩
  · refine h1.trans ?_
    simp [List.getD_eq_getElem?_getD, Array.getElem?_eq_getElem hj']
  · refine h2.trans ?_
    simp
    omega
theorem cell_at0 {w : World} {t : TypeId} {v : Value} {b : Nat} (h : w.heap.size = b) : (w.alloc (.cells #[v] t)).cell? ⟨b, 0, none⟩ = some v := by
  subst h
  rw [World.cell?_alloc_new]
  rfl
theorem cell_more {w : World} {v : Value} {b : Nat} (h : w.cell? ⟨b, 0, none⟩ = some v) (hb : b < w.heap.size) (o : Obj) : (w.alloc o).cell? ⟨b, 0, none⟩ = some v := by
  rw [World.cell?_alloc_past (hn := hb), h]
theorem cell_at1 {w : World} {t : TypeId} {v : Value} {b : Nat} {o1 : Obj} (h : w.heap.size = b) : ((w.alloc (.cells #[v] t)).alloc o1).cell? ⟨b, 0, none⟩ = some v :=
  cell_more (cell_at0 h) (by simp; omega) _
theorem cell_at2 {w : World} {t : TypeId} {v : Value} {b : Nat} {o1 o2 : Obj} (h : w.heap.size = b) : (((w.alloc (.cells #[v] t)).alloc o1).alloc o2).cell? ⟨b, 0, none⟩ = some v :=
  cell_more (cell_at1 h) (by simp; omega) _
theorem cell_at3 {w : World} {t : TypeId} {v : Value} {b : Nat} {o1 o2 o3 : Obj} (h : w.heap.size = b) : ((((w.alloc (.cells #[v] t)).alloc o1).alloc o2).alloc o3).cell? ⟨b, 0, none⟩ = some v :=
  cell_more (cell_at2 h) (by simp; omega) _
theorem cell_at0d {w : World} {t : TypeId} {v : Value} {b : Nat} (h : w.heap.size = b) : (w.alloc (.cells #[v] t)).drew.cell? ⟨b, 0, none⟩ = some v := cell_at0 h
theorem cell_at1d {w : World} {t : TypeId} {v : Value} {b : Nat} {o1 : Obj} (h : w.heap.size = b) : ((w.alloc (.cells #[v] t)).alloc o1).drew.cell? ⟨b, 0, none⟩ = some v := cell_at1 h
theorem sum_self (b cap : Nat) (s : ByteArray) (w : World) (hs : s.size ≤ maxLen) (hc : w.cell? ⟨b, 0, none⟩ = some (.string s)) :
    Calls Try.prog 5 #[.slice (some ⟨b, 0, none⟩) 1 cap] w fun e w' => e = .returned (.int .u32 (Crc.sum s.data.toList)) ∧ w = w' :=
  sum_one b cap _ s w rfl hs hc
theorem ret_bool {a b : Bool} (h : a = b) : Ending.returned (.bool a) = .returned (.bool b) := by rw [h]
end Go.Proofs.Ytijbgbdimcnfpaa
