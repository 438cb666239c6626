/-
  What the walks of sha's laws share: the variables, sums of texts in a row, Cut.
-/
import Derived.Test.YtheccbnejamhlaaDoorRefHex
import Derived.Test.YtheccbnejamhlaaDoorRefOf3
namespace Go.Proofs.YtheccbnejamhlaaDoor
open Go.RowKit

/-- the package's variables lie there, and nothing of old has changed -/
structure At (w wx : World) : Prop where
  laid : Laid KK SS wx
  below : Below w.heap.size w wx
theorem At.alloc {w wx : World} (h : At w wx) (o : Obj) : At w (wx.alloc o) := ⟨h.laid.alloc o, h.below.alloc h.below.size o⟩
theorem At.drew {w wx : World} (h : At w wx) : At w wx.drew := ⟨h.laid.drew, h.below.drew⟩
theorem At.next {w wx wy : World} (h : At w wx) (k : Below wx.heap.size wx wy) : At w wy := ⟨h.laid.below k, h.below.trans (k.mono h.below.size)⟩
theorem At.start {w : World} (h : Laid KK SS w) : At w w := ⟨h, Below.refl _ _⟩

theorem cell_at0 {w : World} {t : TypeId} {v : Value} {b : Nat} (h : w.heap.size = b) : (w.alloc (.cells #[v] t)).cell? ⟨b, 0, none⟩ = some v := by
  subst h
  rw [World.cell?_alloc_new]
  rfl
theorem cell_b0 {x w' : World} {t : TypeId} {v : Value} {b : Nat} (hb : Below (x.alloc (.cells #[v] t)).heap.size (x.alloc (.cells #[v] t)) w') (h : x.heap.size = b) : w'.cell? ⟨b, 0, none⟩ = some v := by
  subst h
  rw [hb.cell (p := ⟨x.heap.size, 0, none⟩) (by simp)]
  exact cell_at0 rfl
theorem cell_b1 {x w' : World} {t : TypeId} {v : Value} {b : Nat} {o : Obj} (hb : Below ((x.alloc (.cells #[v] t)).alloc o).heap.size ((x.alloc (.cells #[v] t)).alloc o) w') (h : x.heap.size = b) : w'.cell? ⟨b, 0, none⟩ = some v := by
  subst h
  rw [hb.cell (p := ⟨x.heap.size, 0, none⟩) (by simp; omega), World.cell?_alloc_past (hn := by simp)]
  exact cell_at0 rfl
structure Trio (b : Nat) (t u v : ByteArray) (w : World) : Prop where
  c0 : w.cell? ⟨b, 0, none⟩ = some (.string t)
  c1 : w.cell? ⟨b, 1, none⟩ = some (.string u)
  c2 : w.cell? ⟨b, 2, none⟩ = some (.string v)
theorem trio0 {w : World} {t : TypeId} {x y z : ByteArray} {b : Nat} (h : w.heap.size = b) : Trio b x y z (w.alloc (.cells #[.string x, .string y, .string z] t)) := by
  subst h
  exact ⟨by rw [World.cell?_alloc_new]; rfl, by rw [World.cell?_alloc_new]; rfl, by rw [World.cell?_alloc_new]; rfl⟩
theorem trio1 {w : World} {t : TypeId} {x y z : ByteArray} {b : Nat} {o : Obj} (h : w.heap.size = b) : Trio b x y z ((w.alloc (.cells #[.string x, .string y, .string z] t)).alloc o) := by
  have k : Trio b x y z (w.alloc (.cells #[.string x, .string y, .string z] t)) := trio0 h
  exact ⟨by rw [World.cell?_alloc_past (hn := by simp; omega)]; exact k.c0, by rw [World.cell?_alloc_past (hn := by simp; omega)]; exact k.c1, by rw [World.cell?_alloc_past (hn := by simp; omega)]; exact k.c2⟩
theorem of_one' (w0 : World) (b cap : Nat) (t : ByteArray) (V : Value) (w : World) (hl : sumVal t.data.toList = V) (hL : At w0 w) (ht : t.size ≤ maxLen) (hc : w.cell? ⟨b, 0, none⟩ = some (.string t)) :
    Calls Tryd.prog 11 #[.slice (some ⟨b, 0, none⟩) 1 cap] w fun r w' => r = .returned V ∧ Below w.heap.size w w' := by
  subst hl
  exact of_one b cap t _ w rfl hL.laid ht (World.block_lt_of_cell? w _ hc) hc
theorem of_three' (w0 : World) (b cap : Nat) (t u v : ByteArray) (V : Value) (w : World) (hl : sumVal (t.data.toList ++ u.data.toList ++ v.data.toList) = V) (hL : At w0 w) (ht : t.size ≤ maxLen) (hu : u.size ≤ maxLen) (hv : v.size ≤ maxLen) (hc : Trio b t u v w) :
    Calls Tryd.prog 11 #[.slice (some ⟨b, 0, none⟩) 3 cap] w fun r w' => r = .returned V ∧ Below w.heap.size w w' := by
  subst hl
  exact of_three b cap t u v _ w rfl hL.laid ht hu hv (World.block_lt_of_cell? w _ hc.c0) hc.c0 hc.c1 hc.c2

set_option maxHeartbeats 400000 in
theorem cut_any (s : ByteArray) (n : Nat) (w : World) (_hs : s.size ≤ maxLen) (_hn : n < 1000) :
    Calls Tryd.prog 10 #[.string s, .int .i64 n] w fun e w' => e = .returned (.string (s.extract 0 (min n s.size))) ∧ w = w' := by
  unfold maxLen at _hs
  by_cases h : n < s.size
  · rw [Nat.min_eq_left (by omega)]
    go_enter Tryd.func10, Tryd.ntmps10
    go_wp2
    go_ret
    exact ⟨rfl, rfl⟩
  · rw [Nat.min_eq_right (by omega)]
    go_enter Tryd.func10, Tryd.ntmps10
    go_wp2
    go_ret
    refine ⟨?_, rfl⟩
    simp
theorem extract_list (t : ByteArray) (i j : Nat) : (t.extract i j).data.toList = (t.data.toList.take j).drop i := by
  rw [ByteArray.data_extract, Array.toList_extract, List.extract_eq_take_drop, List.drop_take]
theorem extract_len (t : ByteArray) (i j : Nat) (h : t.size ≤ 300) : (t.extract i j).size ≤ maxLen := by
  unfold maxLen
  rw [ByteArray.size_extract]
  omega
theorem thirds (t : ByteArray) (i j : Nat) (h : i ≤ j) : (t.extract 0 i).data.toList ++ (t.extract i j).data.toList ++ (t.extract j t.size).data.toList = t.data.toList := by
  rw [extract_list, extract_list, extract_list, List.drop_zero, List.take_of_length_le (i := t.size) (by simp)]
  have e : List.take i t.data.toList = List.take i (List.take j t.data.toList) := by rw [List.take_take, Nat.min_eq_left h]
  rw [e, List.take_append_drop, List.take_append_drop]
theorem halves0 (t : ByteArray) (i : Nat) : (t.extract 0 i).data.toList ++ (⟨#[]⟩ : ByteArray).data.toList ++ (t.extract i t.size).data.toList = t.data.toList := by
  rw [extract_list, extract_list, List.drop_zero, List.take_of_length_le (i := t.size) (by simp)]
  simp

theorem range_below {X : Nat} {L : List Value} {w w' : World} (h : w.rangeAt X 0 L) (hx : X < w.heap.size) (k : Below w.heap.size w w') : w'.rangeAt X 0 L := fun j v hv => by
  rw [k.cell (p := ⟨X, 0 + j, none⟩) hx]
  exact h j v hv
theorem alloc_sum (w : World) : (Instr.alloc 24 true (.tuple #[])).run Tryd.prog w = .ok (.pointer (some ⟨w.heap.size, 0, none⟩)) (w.alloc (.cells lit32 24)) := by kernel_rfl
theorem at_set {w wx : World} {k : Nat} {v : Value} (hL : Laid KK SS w) (h : At w wx) : At w (wx.setCell ⟨w.heap.size, k, none⟩ v) := by
  have hb := h.below.setCell (p := ⟨w.heap.size, k, none⟩) (Nat.le_refl _) v
  exact ⟨hL.below hb, hb⟩
theorem at_row {w wx : World} {c o : Nat} (l : List Value) (hL : Laid KK SS w) (h : At w wx) (hc : w.heap.size ≤ c) : At w (wx.setCells c o l) := by
  have hb := below_row h.below (c := c) (o := o) l hc
  exact ⟨hL.below hb, hb⟩
end Go.Proofs.YtheccbnejamhlaaDoor
