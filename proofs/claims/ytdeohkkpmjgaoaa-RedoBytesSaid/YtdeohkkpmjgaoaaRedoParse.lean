/-
  redo.Parse, of any text: contracts (written by gen_redoparse.py).
-/
import Derived.Test.YtdeohkkpmjgaoaaRedo
namespace Go.Proofs.Ytdeohkkpmjgaoaa
open Go.RowKit

theorem num_u32 (l : List UInt8) : num (l.take 4) < 4294967296 := by
  have h := num_lt (l.take 4)
  have h2 : 256 ^ (l.take 4).length ≤ 256 ^ 4 := Nat.pow_le_pow_right (by decide) (by rw [List.length_take]; omega)
  omega
theorem num2_lt (l : List UInt8) : num (l.take 2) < 65536 := by
  have h := num_lt (l.take 2)
  have h2 : 256 ^ (l.take 2).length ≤ 256 ^ 2 := Nat.pow_le_pow_right (by decide) (by rw [List.length_take]; omega)
  omega
theorem num1_lt (l : List UInt8) : num (l.take 1) < 256 := by
  have h := num_lt (l.take 1)
  have h2 : 256 ^ (l.take 1).length ≤ 256 ^ 1 := Nat.pow_le_pow_right (by decide) (by rw [List.length_take]; omega)
  omega
theorem wrap_u32 (n : Nat) (h : n < 4294967296) : IntKind.u32.wrap (n : Int) = n := by
  simp only [IntKind.wrap, IntKind.bits, IntKind.signed]
  simp
  omega
theorem cut_list (T : ByteArray) (k : Nat) : (T.extract k T.size).data.toList = T.data.toList.drop k := by
  rw [ByteArray.data_extract, Array.toList_extract, List.extract_eq_take_drop]
  exact List.take_of_length_le (by rw [List.length_drop]; simp)
/-- the op whose bytes these are -/
def roOf (s : ByteArray) : RO := ⟨num (s.data.toList.take 1), num ((s.data.toList.drop 1).take 4), num ((s.data.toList.drop 5).take 2), num ((s.data.toList.drop 7).take 2), s.extract 9 s.size⟩
abbrev zeroOp : Obj := .cells #[.int .i64 0, .int .u32 0, .int .i64 0, .int .i64 0, .string ⟨#[]⟩] 93
theorem opSize : (Try.prog.info? 93).map (·.size) = some 5 := by kernel_rfl
theorem left_any (p : Addr) (s : ByteArray) (w : World) (hc : w.cell? p = some (.string s)) :
    Calls Try.prog 152 #[.pointer (some p)] w fun e w' => e = .returned (.int .i64 s.size) ∧ w = w' := by
  go_enter Try.func152, Try.ntmps152
  go_wp2
  go_ret
  exact ⟨rfl, rfl⟩
/-- while an op is read: where it is to lie, what is left of the bytes, its cells -/
structure RpAt (w : World) (R : ByteArray) (a b c d e : Value) (wx : World) : Prop where
  z : wx.heap[w.heap.size]? = some zeroOp
  i : wx.heap[w.heap.size + 1]? = some (.cells #[.string R] 167)
  s : wx.heap[w.heap.size + 1 + 1]? = some (.cells #[a, b, c, d, e] 93)
  below : Below w.heap.size w wx
theorem RpAt.in' {w : World} {R : ByteArray} {a b c d e : Value} {wx : World} (h : RpAt w R a b c d e wx) : wx.cell? ⟨w.heap.size + 1, 0, none⟩ = some (.string R) ∧ wx.frozen? ⟨w.heap.size + 1, 0, none⟩ = false := by
  have := h.i
  simp [World.cell?, World.frozen?, this]
theorem RpAt.op {w : World} {R : ByteArray} {a b c d e : Value} {wx : World} (h : RpAt w R a b c d e wx) : (wx.cell? ⟨w.heap.size + 1 + 1, 0, none⟩ = some a ∧ wx.cell? ⟨w.heap.size + 1 + 1, 1, none⟩ = some b ∧ wx.cell? ⟨w.heap.size + 1 + 1, 2, none⟩ = some c ∧ wx.cell? ⟨w.heap.size + 1 + 1, 3, none⟩ = some d ∧ wx.cell? ⟨w.heap.size + 1 + 1, 4, none⟩ = some e) ∧ (∀ k, wx.frozen? ⟨w.heap.size + 1 + 1, k, none⟩ = false) := by
  have := h.s
  exact ⟨five this, fun k => by simp [World.frozen?, this]⟩
theorem RpAt.eat {w : World} {R : ByteArray} {a b c d e : Value} {wx : World} (h : RpAt w R a b c d e wx) (R' : ByteArray) : RpAt w R' a b c d e (wx.setCell ⟨w.heap.size + 1, 0, none⟩ (.string R')) := by
  refine ⟨by rw [Below.heap_setCell _ _ _ _ (by show w.heap.size ≠ w.heap.size + 1; omega)]; exact h.z, by have := h.i; simp [World.setCell, Array.getElem?_modify, this], by rw [Below.heap_setCell _ _ _ _ (by show w.heap.size + 1 + 1 ≠ w.heap.size + 1; omega)]; exact h.s, h.below.setCell (by show w.heap.size ≤ w.heap.size + 1; omega) _⟩
theorem RpAt.put {w : World} {R : ByteArray} {a b c d e : Value} {wx : World} (h : RpAt w R a b c d e wx) (k : Nat) (v : Value) : ∃ cs, (#[a, b, c, d, e] : Array Value).setIfInBounds k v = cs ∧ (wx.setCell ⟨w.heap.size + 1 + 1, k, none⟩ v).heap[w.heap.size + 1 + 1]? = some (.cells cs 93) ∧ (wx.setCell ⟨w.heap.size + 1 + 1, k, none⟩ v).heap[w.heap.size]? = some zeroOp ∧ (wx.setCell ⟨w.heap.size + 1 + 1, k, none⟩ v).heap[w.heap.size + 1]? = some (.cells #[.string R] 167) ∧ Below w.heap.size w (wx.setCell ⟨w.heap.size + 1 + 1, k, none⟩ v) := by
  refine ⟨_, rfl, by have := h.s; simp [World.setCell, Array.getElem?_modify, this], by rw [Below.heap_setCell _ _ _ _ (by show w.heap.size ≠ w.heap.size + 1 + 1; omega)]; exact h.z, by rw [Below.heap_setCell _ _ _ _ (by show w.heap.size + 1 ≠ w.heap.size + 1 + 1; omega)]; exact h.i, h.below.setCell (by show w.heap.size ≤ w.heap.size + 1 + 1; omega) _⟩
theorem RpAt.put0 {w : World} {R : ByteArray} {a b c d e : Value} {wx : World} (h : RpAt w R a b c d e wx) (v : Value) : RpAt w R v b c d e (wx.setCell ⟨w.heap.size + 1 + 1, 0, none⟩ v) := by
  obtain ⟨_, rfl, h1, h2, h3, h4⟩ := h.put 0 v
  exact ⟨h2, h3, h1, h4⟩
theorem RpAt.put1 {w : World} {R : ByteArray} {a b c d e : Value} {wx : World} (h : RpAt w R a b c d e wx) (v : Value) : RpAt w R a v c d e (wx.setCell ⟨w.heap.size + 1 + 1, 1, none⟩ v) := by
  obtain ⟨_, rfl, h1, h2, h3, h4⟩ := h.put 1 v
  exact ⟨h2, h3, h1, h4⟩
theorem RpAt.put2 {w : World} {R : ByteArray} {a b c d e : Value} {wx : World} (h : RpAt w R a b c d e wx) (v : Value) : RpAt w R a b v d e (wx.setCell ⟨w.heap.size + 1 + 1, 2, none⟩ v) := by
  obtain ⟨_, rfl, h1, h2, h3, h4⟩ := h.put 2 v
  exact ⟨h2, h3, h1, h4⟩
theorem RpAt.put3 {w : World} {R : ByteArray} {a b c d e : Value} {wx : World} (h : RpAt w R a b c d e wx) (v : Value) : RpAt w R a b c v e (wx.setCell ⟨w.heap.size + 1 + 1, 3, none⟩ v) := by
  obtain ⟨_, rfl, h1, h2, h3, h4⟩ := h.put 3 v
  exact ⟨h2, h3, h1, h4⟩
theorem RpAt.put4 {w : World} {R : ByteArray} {a b c d e : Value} {wx : World} (h : RpAt w R a b c d e wx) (v : Value) : RpAt w R a b c d v (wx.setCell ⟨w.heap.size + 1 + 1, 4, none⟩ v) := by
  obtain ⟨_, rfl, h1, h2, h3, h4⟩ := h.put 4 v
  exact ⟨h2, h3, h1, h4⟩
theorem op_set {w : World} {x : Nat} {t : TypeId} {a b c d e : Value} (h : w.heap[x]? = some (.cells #[a, b, c, d, e] t)) (a' b' c' d' e' : Value) :
    (((((w.setCell ⟨x, 0, none⟩ a').setCell ⟨x, 1, none⟩ b').setCell ⟨x, 2, none⟩ c').setCell ⟨x, 3, none⟩ d').setCell ⟨x, 4, none⟩ e').heap[x]? = some (.cells #[a', b', c', d', e'] t) := by
  simp [World.setCell, Array.getElem?_modify, h]
theorem rpStart (w : World) (s : ByteArray) : RpAt w s (.int .i64 0) (.int .u32 0) (.int .i64 0) (.int .i64 0) (.string ⟨#[]⟩) (((w.alloc zeroOp).alloc (.cells #[.string s] 167)).alloc zeroOp) := by
  have s1 : (w.alloc zeroOp).heap.size = w.heap.size + 1 := by simp
  have s2 : ((w.alloc zeroOp).alloc (.cells #[.string s] 167)).heap.size = w.heap.size + 1 + 1 := by simp
  refine ⟨?_, ?_, ?_, (((Below.refl _ _).alloc (Nat.le_refl _) _).alloc (by simp) _).alloc (by simp; omega) _⟩
  · rw [Below.heap_alloc _ _ _ (by rw [s2]; omega), Below.heap_alloc _ _ _ (by rw [s1]; omega)]
    exact heap_alloc_new w _
  · rw [Below.heap_alloc _ _ _ (by rw [s2]; omega), ← s1]
    exact heap_alloc_new _ _
  · rw [← s2]
    exact heap_alloc_new _ _
set_option maxHeartbeats 2000000 in
theorem redoParse_end0 (s : ByteArray) (w : World) (_h1 : 0 ≤ s.size) (h2 : s.size < 1) : Calls Try.prog 122 #[.string s] w fun e w' => e = failed 2 ∧ Below w.heap.size w w' := by
  obtain ⟨R0, hR0⟩ : ∃ R0, s = R0 := ⟨_, rfl⟩
  have l0 : R0.data.toList = s.data.toList.drop 0 := by rw [← hR0]; rfl
  have z : ∀ (R : ByteArray) k, R.data.toList = s.data.toList.drop k → R.size = s.size - k := fun R k e => by
    have h1 : R.data.toList.length = R.size := by simp
    have h2 : s.data.toList.length = s.size := by simp
    rw [← h1, e, List.length_drop, h2]
  have z0 := z R0 0 l0
  have N0 : Hid (∀ wx, wx.cell? ⟨w.heap.size + 1, 0, none⟩ = some (.string R0) ∧ wx.frozen? ⟨w.heap.size + 1, 0, none⟩ = false → Calls Try.prog 145 #[.pointer (some ⟨w.heap.size + 1, 0, none⟩), .int .i64 1] wx fun e w' => e = failed 2 ∧ wx = w') := Lib.hid fun wx hx => num_end ⟨w.heap.size + 1, 0, none⟩ R0 1 wx (by rw [wid1, z0]; omega) hx.1
  have HRd := Lib.hid (read_any R0 (w.alloc zeroOp))
  have HP0 := Lib.hid (rpStart w R0)
  clear l0 z0 z 
  subst hR0
  go_enter Try.func122, Try.ntmps122
  go_wp2_with fail
  refine HRd.out.mono ?_
  rintro e w1 ⟨rfl, rfl⟩
  clear HRd
  have hs1 : (w.alloc zeroOp).heap.size = w.heap.size + 1 := by simp
  rw [hs1]
  clear hs1
  go_upto_region 3 with fail
  generalize hW0 : ((w.alloc zeroOp).alloc (.cells #[.string s] 167)).alloc zeroOp = W0 at *
  clear hW0
  go_wp2_with fail
  refine (N0.out _ HP0.out.in').mono ?_
  rintro e v ⟨rfl, rfl⟩
  unfold failed
  go_wp2_with fail
  exact ⟨rfl, rfl, HP0.out.below⟩
set_option maxHeartbeats 2000000 in
theorem redoParse_end1 (s : ByteArray) (w : World) (h1 : 1 ≤ s.size) (h2 : s.size < 5) : Calls Try.prog 122 #[.string s] w fun e w' => e = failed 2 ∧ Below w.heap.size w w' := by
  obtain ⟨R0, hR0⟩ : ∃ R0, s = R0 := ⟨_, rfl⟩
  obtain ⟨R1, hR1⟩ : ∃ R, R0.extract (wid 1) R0.size = R := ⟨_, rfl⟩
  have l0 : R0.data.toList = s.data.toList.drop 0 := by rw [← hR0]; rfl
  have l1 : R1.data.toList = s.data.toList.drop 1 := by rw [← hR1, wid1, cut_list, l0, List.drop_drop]
  have z : ∀ (R : ByteArray) k, R.data.toList = s.data.toList.drop k → R.size = s.size - k := fun R k e => by
    have h1 : R.data.toList.length = R.size := by simp
    have h2 : s.data.toList.length = s.size := by simp
    rw [← h1, e, List.length_drop, h2]
  have z0 := z R0 0 l0
  have z1 := z R1 1 l1
  obtain ⟨a0, ha0⟩ : ∃ a, num (R0.data.toList.take (wid 1)) = a := ⟨_, rfl⟩
  have b0 : a0 < 256 := by rw [← ha0, wid1]; exact num1_lt _
  have N0 : Hid (∀ wx, wx.cell? ⟨w.heap.size + 1, 0, none⟩ = some (.string R0) ∧ wx.frozen? ⟨w.heap.size + 1, 0, none⟩ = false → Calls Try.prog 145 #[.pointer (some ⟨w.heap.size + 1, 0, none⟩), .int .i64 1] wx fun e w' => e = .returned (.int .u64 a0) ∧ wx.setCell ⟨w.heap.size + 1, 0, none⟩ (.string R1) = w') := Lib.hid fun wx hx => by
    have := num_ok ⟨w.heap.size + 1, 0, none⟩ R0 1 wx (by rw [wid1, z0]; omega) hx.1 hx.2
    rw [ha0, hR1] at this
    exact this
  have N1 : Hid (∀ wx, wx.cell? ⟨w.heap.size + 1, 0, none⟩ = some (.string R1) ∧ wx.frozen? ⟨w.heap.size + 1, 0, none⟩ = false → Calls Try.prog 145 #[.pointer (some ⟨w.heap.size + 1, 0, none⟩), .int .i64 4] wx fun e w' => e = failed 2 ∧ wx = w') := Lib.hid fun wx hx => num_end ⟨w.heap.size + 1, 0, none⟩ R1 4 wx (by rw [wid4, z1]; omega) hx.1
  have HRd := Lib.hid (read_any R0 (w.alloc zeroOp))
  have HP0 := Lib.hid (rpStart w R0)
  clear l0 z0 l1 z1 z ha0 hR1
  subst hR0
  go_enter Try.func122, Try.ntmps122
  go_wp2_with fail
  refine HRd.out.mono ?_
  rintro e w1 ⟨rfl, rfl⟩
  clear HRd
  have hs1 : (w.alloc zeroOp).heap.size = w.heap.size + 1 := by simp
  rw [hs1]
  clear hs1
  go_upto_region 3 with fail
  generalize hW0 : ((w.alloc zeroOp).alloc (.cells #[.string s] 167)).alloc zeroOp = W0 at *
  clear hW0
  go_wp2_with fail
  refine (N0.out _ HP0.out.in').mono ?_
  rintro e v0 ⟨rfl, rfl⟩
  have HQ0 := Lib.hid (HP0.out.eat R1)
  generalize hW1 : (W0).setCell ⟨w.heap.size + 1, 0, none⟩ (.string R1) = V1 at *
  clear hW1 HP0
  obtain ⟨⟨c0, c1, c2, c3, c4⟩, ff⟩ := HQ0.out.op
  have f0 := ff 0
  have HP1 := Lib.hid (HQ0.out.put0 (.int .i64 a0))
  clear ff
  go_upto_region 4 with fail
  generalize hU1 : V1.setCell ⟨w.heap.size + 1 + 1, 0, none⟩ (.int .i64 a0) = W1 at *
  clear hU1 c0 c1 c2 c3 c4 f0 HQ0
  go_wp2_with fail
  refine (N1.out _ HP1.out.in').mono ?_
  rintro e v ⟨rfl, rfl⟩
  unfold failed
  go_wp2_with fail
  exact ⟨rfl, rfl, HP1.out.below⟩
set_option maxHeartbeats 2000000 in
theorem redoParse_end2 (s : ByteArray) (w : World) (h1 : 5 ≤ s.size) (h2 : s.size < 7) : Calls Try.prog 122 #[.string s] w fun e w' => e = failed 2 ∧ Below w.heap.size w w' := by
  obtain ⟨R0, hR0⟩ : ∃ R0, s = R0 := ⟨_, rfl⟩
  obtain ⟨R1, hR1⟩ : ∃ R, R0.extract (wid 1) R0.size = R := ⟨_, rfl⟩
  obtain ⟨R2, hR2⟩ : ∃ R, R1.extract (wid 4) R1.size = R := ⟨_, rfl⟩
  have l0 : R0.data.toList = s.data.toList.drop 0 := by rw [← hR0]; rfl
  have l1 : R1.data.toList = s.data.toList.drop 1 := by rw [← hR1, wid1, cut_list, l0, List.drop_drop]
  have l2 : R2.data.toList = s.data.toList.drop 5 := by rw [← hR2, wid4, cut_list, l1, List.drop_drop]
  have z : ∀ (R : ByteArray) k, R.data.toList = s.data.toList.drop k → R.size = s.size - k := fun R k e => by
    have h1 : R.data.toList.length = R.size := by simp
    have h2 : s.data.toList.length = s.size := by simp
    rw [← h1, e, List.length_drop, h2]
  have z0 := z R0 0 l0
  have z1 := z R1 1 l1
  have z2 := z R2 5 l2
  obtain ⟨a0, ha0⟩ : ∃ a, num (R0.data.toList.take (wid 1)) = a := ⟨_, rfl⟩
  have b0 : a0 < 256 := by rw [← ha0, wid1]; exact num1_lt _
  obtain ⟨a1, ha1⟩ : ∃ a, num (R1.data.toList.take (wid 4)) = a := ⟨_, rfl⟩
  have b1 : a1 < 4294967296 := by rw [← ha1, wid4]; exact num_u32 _
  have w1 := wrap_u32 a1 b1
  have N0 : Hid (∀ wx, wx.cell? ⟨w.heap.size + 1, 0, none⟩ = some (.string R0) ∧ wx.frozen? ⟨w.heap.size + 1, 0, none⟩ = false → Calls Try.prog 145 #[.pointer (some ⟨w.heap.size + 1, 0, none⟩), .int .i64 1] wx fun e w' => e = .returned (.int .u64 a0) ∧ wx.setCell ⟨w.heap.size + 1, 0, none⟩ (.string R1) = w') := Lib.hid fun wx hx => by
    have := num_ok ⟨w.heap.size + 1, 0, none⟩ R0 1 wx (by rw [wid1, z0]; omega) hx.1 hx.2
    rw [ha0, hR1] at this
    exact this
  have N1 : Hid (∀ wx, wx.cell? ⟨w.heap.size + 1, 0, none⟩ = some (.string R1) ∧ wx.frozen? ⟨w.heap.size + 1, 0, none⟩ = false → Calls Try.prog 145 #[.pointer (some ⟨w.heap.size + 1, 0, none⟩), .int .i64 4] wx fun e w' => e = .returned (.int .u64 a1) ∧ wx.setCell ⟨w.heap.size + 1, 0, none⟩ (.string R2) = w') := Lib.hid fun wx hx => by
    have := num_ok ⟨w.heap.size + 1, 0, none⟩ R1 4 wx (by rw [wid4, z1]; omega) hx.1 hx.2
    rw [ha1, hR2] at this
    exact this
  have N2 : Hid (∀ wx, wx.cell? ⟨w.heap.size + 1, 0, none⟩ = some (.string R2) ∧ wx.frozen? ⟨w.heap.size + 1, 0, none⟩ = false → Calls Try.prog 145 #[.pointer (some ⟨w.heap.size + 1, 0, none⟩), .int .i64 2] wx fun e w' => e = failed 2 ∧ wx = w') := Lib.hid fun wx hx => num_end ⟨w.heap.size + 1, 0, none⟩ R2 2 wx (by rw [wid2, z2]; omega) hx.1
  have HRd := Lib.hid (read_any R0 (w.alloc zeroOp))
  have HP0 := Lib.hid (rpStart w R0)
  clear l0 z0 l1 z1 l2 z2 z ha0 hR1 ha1 hR2
  subst hR0
  go_enter Try.func122, Try.ntmps122
  go_wp2_with fail
  refine HRd.out.mono ?_
  rintro e w1 ⟨rfl, rfl⟩
  clear HRd
  have hs1 : (w.alloc zeroOp).heap.size = w.heap.size + 1 := by simp
  rw [hs1]
  clear hs1
  go_upto_region 3 with fail
  generalize hW0 : ((w.alloc zeroOp).alloc (.cells #[.string s] 167)).alloc zeroOp = W0 at *
  clear hW0
  go_wp2_with fail
  refine (N0.out _ HP0.out.in').mono ?_
  rintro e v0 ⟨rfl, rfl⟩
  have HQ0 := Lib.hid (HP0.out.eat R1)
  generalize hW1 : (W0).setCell ⟨w.heap.size + 1, 0, none⟩ (.string R1) = V1 at *
  clear hW1 HP0
  obtain ⟨⟨c0, c1, c2, c3, c4⟩, ff⟩ := HQ0.out.op
  have f0 := ff 0
  have HP1 := Lib.hid (HQ0.out.put0 (.int .i64 a0))
  clear ff
  go_upto_region 4 with fail
  generalize hU1 : V1.setCell ⟨w.heap.size + 1 + 1, 0, none⟩ (.int .i64 a0) = W1 at *
  clear hU1 c0 c1 c2 c3 c4 f0 HQ0
  go_wp2_with fail
  refine (N1.out _ HP1.out.in').mono ?_
  rintro e v1 ⟨rfl, rfl⟩
  have HQ1 := Lib.hid (HP1.out.eat R2)
  generalize hW2 : (W1).setCell ⟨w.heap.size + 1, 0, none⟩ (.string R2) = V2 at *
  clear hW2 HP1
  obtain ⟨⟨c0, c1, c2, c3, c4⟩, ff⟩ := HQ1.out.op
  have f1 := ff 1
  have HP2 := Lib.hid (HQ1.out.put1 (.int .u32 a1))
  clear ff
  go_upto_region 5 with fail
  generalize hU2 : V2.setCell ⟨w.heap.size + 1 + 1, 1, none⟩ (.int .u32 a1) = W2 at *
  clear hU2 c0 c1 c2 c3 c4 f1 HQ1
  go_wp2_with fail
  refine (N2.out _ HP2.out.in').mono ?_
  rintro e v ⟨rfl, rfl⟩
  unfold failed
  go_wp2_with fail
  exact ⟨rfl, rfl, HP2.out.below⟩
set_option maxHeartbeats 2000000 in
theorem redoParse_end3 (s : ByteArray) (w : World) (h1 : 7 ≤ s.size) (h2 : s.size < 9) : Calls Try.prog 122 #[.string s] w fun e w' => e = failed 2 ∧ Below w.heap.size w w' := by
  obtain ⟨R0, hR0⟩ : ∃ R0, s = R0 := ⟨_, rfl⟩
  obtain ⟨R1, hR1⟩ : ∃ R, R0.extract (wid 1) R0.size = R := ⟨_, rfl⟩
  obtain ⟨R2, hR2⟩ : ∃ R, R1.extract (wid 4) R1.size = R := ⟨_, rfl⟩
  obtain ⟨R3, hR3⟩ : ∃ R, R2.extract (wid 2) R2.size = R := ⟨_, rfl⟩
  have l0 : R0.data.toList = s.data.toList.drop 0 := by rw [← hR0]; rfl
  have l1 : R1.data.toList = s.data.toList.drop 1 := by rw [← hR1, wid1, cut_list, l0, List.drop_drop]
  have l2 : R2.data.toList = s.data.toList.drop 5 := by rw [← hR2, wid4, cut_list, l1, List.drop_drop]
  have l3 : R3.data.toList = s.data.toList.drop 7 := by rw [← hR3, wid2, cut_list, l2, List.drop_drop]
  have z : ∀ (R : ByteArray) k, R.data.toList = s.data.toList.drop k → R.size = s.size - k := fun R k e => by
    have h1 : R.data.toList.length = R.size := by simp
    have h2 : s.data.toList.length = s.size := by simp
    rw [← h1, e, List.length_drop, h2]
  have z0 := z R0 0 l0
  have z1 := z R1 1 l1
  have z2 := z R2 5 l2
  have z3 := z R3 7 l3
  obtain ⟨a0, ha0⟩ : ∃ a, num (R0.data.toList.take (wid 1)) = a := ⟨_, rfl⟩
  have b0 : a0 < 256 := by rw [← ha0, wid1]; exact num1_lt _
  obtain ⟨a1, ha1⟩ : ∃ a, num (R1.data.toList.take (wid 4)) = a := ⟨_, rfl⟩
  have b1 : a1 < 4294967296 := by rw [← ha1, wid4]; exact num_u32 _
  obtain ⟨a2, ha2⟩ : ∃ a, num (R2.data.toList.take (wid 2)) = a := ⟨_, rfl⟩
  have b2 : a2 < 65536 := by rw [← ha2, wid2]; exact num2_lt _
  have w1 := wrap_u32 a1 b1
  have N0 : Hid (∀ wx, wx.cell? ⟨w.heap.size + 1, 0, none⟩ = some (.string R0) ∧ wx.frozen? ⟨w.heap.size + 1, 0, none⟩ = false → Calls Try.prog 145 #[.pointer (some ⟨w.heap.size + 1, 0, none⟩), .int .i64 1] wx fun e w' => e = .returned (.int .u64 a0) ∧ wx.setCell ⟨w.heap.size + 1, 0, none⟩ (.string R1) = w') := Lib.hid fun wx hx => by
    have := num_ok ⟨w.heap.size + 1, 0, none⟩ R0 1 wx (by rw [wid1, z0]; omega) hx.1 hx.2
    rw [ha0, hR1] at this
    exact this
  have N1 : Hid (∀ wx, wx.cell? ⟨w.heap.size + 1, 0, none⟩ = some (.string R1) ∧ wx.frozen? ⟨w.heap.size + 1, 0, none⟩ = false → Calls Try.prog 145 #[.pointer (some ⟨w.heap.size + 1, 0, none⟩), .int .i64 4] wx fun e w' => e = .returned (.int .u64 a1) ∧ wx.setCell ⟨w.heap.size + 1, 0, none⟩ (.string R2) = w') := Lib.hid fun wx hx => by
    have := num_ok ⟨w.heap.size + 1, 0, none⟩ R1 4 wx (by rw [wid4, z1]; omega) hx.1 hx.2
    rw [ha1, hR2] at this
    exact this
  have N2 : Hid (∀ wx, wx.cell? ⟨w.heap.size + 1, 0, none⟩ = some (.string R2) ∧ wx.frozen? ⟨w.heap.size + 1, 0, none⟩ = false → Calls Try.prog 145 #[.pointer (some ⟨w.heap.size + 1, 0, none⟩), .int .i64 2] wx fun e w' => e = .returned (.int .u64 a2) ∧ wx.setCell ⟨w.heap.size + 1, 0, none⟩ (.string R3) = w') := Lib.hid fun wx hx => by
    have := num_ok ⟨w.heap.size + 1, 0, none⟩ R2 2 wx (by rw [wid2, z2]; omega) hx.1 hx.2
    rw [ha2, hR3] at this
    exact this
  have N3 : Hid (∀ wx, wx.cell? ⟨w.heap.size + 1, 0, none⟩ = some (.string R3) ∧ wx.frozen? ⟨w.heap.size + 1, 0, none⟩ = false → Calls Try.prog 145 #[.pointer (some ⟨w.heap.size + 1, 0, none⟩), .int .i64 2] wx fun e w' => e = failed 2 ∧ wx = w') := Lib.hid fun wx hx => num_end ⟨w.heap.size + 1, 0, none⟩ R3 2 wx (by rw [wid2, z3]; omega) hx.1
  have HRd := Lib.hid (read_any R0 (w.alloc zeroOp))
  have HP0 := Lib.hid (rpStart w R0)
  clear l0 z0 l1 z1 l2 z2 l3 z3 z ha0 hR1 ha1 hR2 ha2 hR3
  subst hR0
  go_enter Try.func122, Try.ntmps122
  go_wp2_with fail
  refine HRd.out.mono ?_
  rintro e w1 ⟨rfl, rfl⟩
  clear HRd
  have hs1 : (w.alloc zeroOp).heap.size = w.heap.size + 1 := by simp
  rw [hs1]
  clear hs1
  go_upto_region 3 with fail
  generalize hW0 : ((w.alloc zeroOp).alloc (.cells #[.string s] 167)).alloc zeroOp = W0 at *
  clear hW0
  go_wp2_with fail
  refine (N0.out _ HP0.out.in').mono ?_
  rintro e v0 ⟨rfl, rfl⟩
  have HQ0 := Lib.hid (HP0.out.eat R1)
  generalize hW1 : (W0).setCell ⟨w.heap.size + 1, 0, none⟩ (.string R1) = V1 at *
  clear hW1 HP0
  obtain ⟨⟨c0, c1, c2, c3, c4⟩, ff⟩ := HQ0.out.op
  have f0 := ff 0
  have HP1 := Lib.hid (HQ0.out.put0 (.int .i64 a0))
  clear ff
  go_upto_region 4 with fail
  generalize hU1 : V1.setCell ⟨w.heap.size + 1 + 1, 0, none⟩ (.int .i64 a0) = W1 at *
  clear hU1 c0 c1 c2 c3 c4 f0 HQ0
  go_wp2_with fail
  refine (N1.out _ HP1.out.in').mono ?_
  rintro e v1 ⟨rfl, rfl⟩
  have HQ1 := Lib.hid (HP1.out.eat R2)
  generalize hW2 : (W1).setCell ⟨w.heap.size + 1, 0, none⟩ (.string R2) = V2 at *
  clear hW2 HP1
  obtain ⟨⟨c0, c1, c2, c3, c4⟩, ff⟩ := HQ1.out.op
  have f1 := ff 1
  have HP2 := Lib.hid (HQ1.out.put1 (.int .u32 a1))
  clear ff
  go_upto_region 5 with fail
  generalize hU2 : V2.setCell ⟨w.heap.size + 1 + 1, 1, none⟩ (.int .u32 a1) = W2 at *
  clear hU2 c0 c1 c2 c3 c4 f1 HQ1
  go_wp2_with fail
  refine (N2.out _ HP2.out.in').mono ?_
  rintro e v2 ⟨rfl, rfl⟩
  have HQ2 := Lib.hid (HP2.out.eat R3)
  generalize hW3 : (W2).setCell ⟨w.heap.size + 1, 0, none⟩ (.string R3) = V3 at *
  clear hW3 HP2
  obtain ⟨⟨c0, c1, c2, c3, c4⟩, ff⟩ := HQ2.out.op
  have f2 := ff 2
  have HP3 := Lib.hid (HQ2.out.put2 (.int .i64 a2))
  clear ff
  go_upto_region 6 with fail
  generalize hU3 : V3.setCell ⟨w.heap.size + 1 + 1, 2, none⟩ (.int .i64 a2) = W3 at *
  clear hU3 c0 c1 c2 c3 c4 f2 HQ2
  go_wp2_with fail
  refine (N3.out _ HP3.out.in').mono ?_
  rintro e v ⟨rfl, rfl⟩
  unfold failed
  go_wp2_with fail
  exact ⟨rfl, rfl, HP3.out.below⟩
theorem redoParse_end (s : ByteArray) (w : World) (h : s.size < 9) : Calls Try.prog 122 #[.string s] w fun e w' => e = failed 2 ∧ Below w.heap.size w w' := by
  by_cases h1 : s.size < 1
  · exact redoParse_end0 s w (Nat.zero_le _) h1
  by_cases h2 : s.size < 5
  · exact redoParse_end1 s w (by omega) h2
  by_cases h3 : s.size < 7
  · exact redoParse_end2 s w (by omega) h3
  · exact redoParse_end3 s w (by omega) h
set_option maxHeartbeats 2000000 in
theorem redoParse_kind (s : ByteArray) (w : World) (h : 9 ≤ s.size) (hk : (roOf s).k < 1 ∨ 7 < (roOf s).k) : Calls Try.prog 122 #[.string s] w fun e w' => e = failed 15 ∧ Below w.heap.size w w' := by
  obtain ⟨R0, hR0⟩ : ∃ R0, s = R0 := ⟨_, rfl⟩
  obtain ⟨R1, hR1⟩ : ∃ R, R0.extract (wid 1) R0.size = R := ⟨_, rfl⟩
  obtain ⟨R2, hR2⟩ : ∃ R, R1.extract (wid 4) R1.size = R := ⟨_, rfl⟩
  obtain ⟨R3, hR3⟩ : ∃ R, R2.extract (wid 2) R2.size = R := ⟨_, rfl⟩
  obtain ⟨R4, hR4⟩ : ∃ R, R3.extract (wid 2) R3.size = R := ⟨_, rfl⟩
  have l0 : R0.data.toList = s.data.toList.drop 0 := by rw [← hR0]; rfl
  have l1 : R1.data.toList = s.data.toList.drop 1 := by rw [← hR1, wid1, cut_list, l0, List.drop_drop]
  have l2 : R2.data.toList = s.data.toList.drop 5 := by rw [← hR2, wid4, cut_list, l1, List.drop_drop]
  have l3 : R3.data.toList = s.data.toList.drop 7 := by rw [← hR3, wid2, cut_list, l2, List.drop_drop]
  have l4 : R4.data.toList = s.data.toList.drop 9 := by rw [← hR4, wid2, cut_list, l3, List.drop_drop]
  have z : ∀ (R : ByteArray) k, R.data.toList = s.data.toList.drop k → R.size = s.size - k := fun R k e => by
    have h1 : R.data.toList.length = R.size := by simp
    have h2 : s.data.toList.length = s.size := by simp
    rw [← h1, e, List.length_drop, h2]
  have z0 := z R0 0 l0
  have z1 := z R1 1 l1
  have z2 := z R2 5 l2
  have z3 := z R3 7 l3
  have z4 := z R4 9 l4
  obtain ⟨a0, ha0⟩ : ∃ a, num (R0.data.toList.take (wid 1)) = a := ⟨_, rfl⟩
  have b0 : a0 < 256 := by rw [← ha0, wid1]; exact num1_lt _
  obtain ⟨a1, ha1⟩ : ∃ a, num (R1.data.toList.take (wid 4)) = a := ⟨_, rfl⟩
  have b1 : a1 < 4294967296 := by rw [← ha1, wid4]; exact num_u32 _
  obtain ⟨a2, ha2⟩ : ∃ a, num (R2.data.toList.take (wid 2)) = a := ⟨_, rfl⟩
  have b2 : a2 < 65536 := by rw [← ha2, wid2]; exact num2_lt _
  obtain ⟨a3, ha3⟩ : ∃ a, num (R3.data.toList.take (wid 2)) = a := ⟨_, rfl⟩
  have b3 : a3 < 65536 := by rw [← ha3, wid2]; exact num2_lt _
  have w1 := wrap_u32 a1 b1
  have N0 : Hid (∀ wx, wx.cell? ⟨w.heap.size + 1, 0, none⟩ = some (.string R0) ∧ wx.frozen? ⟨w.heap.size + 1, 0, none⟩ = false → Calls Try.prog 145 #[.pointer (some ⟨w.heap.size + 1, 0, none⟩), .int .i64 1] wx fun e w' => e = .returned (.int .u64 a0) ∧ wx.setCell ⟨w.heap.size + 1, 0, none⟩ (.string R1) = w') := Lib.hid fun wx hx => by
    have := num_ok ⟨w.heap.size + 1, 0, none⟩ R0 1 wx (by rw [wid1, z0]; omega) hx.1 hx.2
    rw [ha0, hR1] at this
    exact this
  have N1 : Hid (∀ wx, wx.cell? ⟨w.heap.size + 1, 0, none⟩ = some (.string R1) ∧ wx.frozen? ⟨w.heap.size + 1, 0, none⟩ = false → Calls Try.prog 145 #[.pointer (some ⟨w.heap.size + 1, 0, none⟩), .int .i64 4] wx fun e w' => e = .returned (.int .u64 a1) ∧ wx.setCell ⟨w.heap.size + 1, 0, none⟩ (.string R2) = w') := Lib.hid fun wx hx => by
    have := num_ok ⟨w.heap.size + 1, 0, none⟩ R1 4 wx (by rw [wid4, z1]; omega) hx.1 hx.2
    rw [ha1, hR2] at this
    exact this
  have N2 : Hid (∀ wx, wx.cell? ⟨w.heap.size + 1, 0, none⟩ = some (.string R2) ∧ wx.frozen? ⟨w.heap.size + 1, 0, none⟩ = false → Calls Try.prog 145 #[.pointer (some ⟨w.heap.size + 1, 0, none⟩), .int .i64 2] wx fun e w' => e = .returned (.int .u64 a2) ∧ wx.setCell ⟨w.heap.size + 1, 0, none⟩ (.string R3) = w') := Lib.hid fun wx hx => by
    have := num_ok ⟨w.heap.size + 1, 0, none⟩ R2 2 wx (by rw [wid2, z2]; omega) hx.1 hx.2
    rw [ha2, hR3] at this
    exact this
  have N3 : Hid (∀ wx, wx.cell? ⟨w.heap.size + 1, 0, none⟩ = some (.string R3) ∧ wx.frozen? ⟨w.heap.size + 1, 0, none⟩ = false → Calls Try.prog 145 #[.pointer (some ⟨w.heap.size + 1, 0, none⟩), .int .i64 2] wx fun e w' => e = .returned (.int .u64 a3) ∧ wx.setCell ⟨w.heap.size + 1, 0, none⟩ (.string R4) = w') := Lib.hid fun wx hx => by
    have := num_ok ⟨w.heap.size + 1, 0, none⟩ R3 2 wx (by rw [wid2, z3]; omega) hx.1 hx.2
    rw [ha3, hR4] at this
    exact this
  have hka : a0 < 1 ∨ 7 < a0 := by rw [← ha0, l0, List.drop_zero, wid1]; exact hk
  have HKa := Lib.hid hka
  clear hk hka
  have HRd := Lib.hid (read_any R0 (w.alloc zeroOp))
  have HP0 := Lib.hid (rpStart w R0)
  clear l0 z0 l1 z1 l2 z2 l3 z3 l4 z4 z ha0 hR1 ha1 hR2 ha2 hR3 ha3 hR4
  subst hR0
  go_enter Try.func122, Try.ntmps122
  go_wp2_with fail
  refine HRd.out.mono ?_
  rintro e w1 ⟨rfl, rfl⟩
  clear HRd
  have hs1 : (w.alloc zeroOp).heap.size = w.heap.size + 1 := by simp
  rw [hs1]
  clear hs1
  go_upto_region 3 with fail
  generalize hW0 : ((w.alloc zeroOp).alloc (.cells #[.string s] 167)).alloc zeroOp = W0 at *
  clear hW0
  go_wp2_with fail
  refine (N0.out _ HP0.out.in').mono ?_
  rintro e v0 ⟨rfl, rfl⟩
  have HQ0 := Lib.hid (HP0.out.eat R1)
  generalize hW1 : (W0).setCell ⟨w.heap.size + 1, 0, none⟩ (.string R1) = V1 at *
  clear hW1 HP0
  obtain ⟨⟨c0, c1, c2, c3, c4⟩, ff⟩ := HQ0.out.op
  have f0 := ff 0
  have HP1 := Lib.hid (HQ0.out.put0 (.int .i64 a0))
  clear ff
  go_upto_region 4 with fail
  generalize hU1 : V1.setCell ⟨w.heap.size + 1 + 1, 0, none⟩ (.int .i64 a0) = W1 at *
  clear hU1 c0 c1 c2 c3 c4 f0 HQ0
  go_wp2_with fail
  refine (N1.out _ HP1.out.in').mono ?_
  rintro e v1 ⟨rfl, rfl⟩
  have HQ1 := Lib.hid (HP1.out.eat R2)
  generalize hW2 : (W1).setCell ⟨w.heap.size + 1, 0, none⟩ (.string R2) = V2 at *
  clear hW2 HP1
  obtain ⟨⟨c0, c1, c2, c3, c4⟩, ff⟩ := HQ1.out.op
  have f1 := ff 1
  have HP2 := Lib.hid (HQ1.out.put1 (.int .u32 a1))
  clear ff
  go_upto_region 5 with fail
  generalize hU2 : V2.setCell ⟨w.heap.size + 1 + 1, 1, none⟩ (.int .u32 a1) = W2 at *
  clear hU2 c0 c1 c2 c3 c4 f1 HQ1
  go_wp2_with fail
  refine (N2.out _ HP2.out.in').mono ?_
  rintro e v2 ⟨rfl, rfl⟩
  have HQ2 := Lib.hid (HP2.out.eat R3)
  generalize hW3 : (W2).setCell ⟨w.heap.size + 1, 0, none⟩ (.string R3) = V3 at *
  clear hW3 HP2
  obtain ⟨⟨c0, c1, c2, c3, c4⟩, ff⟩ := HQ2.out.op
  have f2 := ff 2
  have HP3 := Lib.hid (HQ2.out.put2 (.int .i64 a2))
  clear ff
  go_upto_region 6 with fail
  generalize hU3 : V3.setCell ⟨w.heap.size + 1 + 1, 2, none⟩ (.int .i64 a2) = W3 at *
  clear hU3 c0 c1 c2 c3 c4 f2 HQ2
  go_wp2_with fail
  refine (N3.out _ HP3.out.in').mono ?_
  rintro e v3 ⟨rfl, rfl⟩
  have HQ3 := Lib.hid (HP3.out.eat R4)
  generalize hW4 : (W3).setCell ⟨w.heap.size + 1, 0, none⟩ (.string R4) = V4 at *
  clear hW4 HP3
  obtain ⟨⟨c0, c1, c2, c3, c4⟩, ff⟩ := HQ3.out.op
  have f3 := ff 3
  have HP4 := Lib.hid (HQ3.out.put3 (.int .i64 a3))
  clear ff
  go_upto_region 7 with fail
  generalize hU4 : V4.setCell ⟨w.heap.size + 1 + 1, 3, none⟩ (.int .i64 a3) = W4 at *
  clear hU4 c0 c1 c2 c3 c4 f3 HQ3
  obtain ⟨⟨c0, c1, c2, c3, c4⟩, _⟩ := HP4.out.op
  by_cases hlt : a0 < 1
  · have i0 : (a0 : Int) < 1 := by omega
    go_wp2_with fail
    refine (fail_any 15 _).mono ?_
    rintro e v ⟨rfl, rfl⟩
    unfold failed
    go_wp2_with fail
    exact ⟨rfl, rfl, HP4.out.below⟩
  · have i0 : ¬ (a0 : Int) < 1 := by omega
    have i1 : (7 : Int) < (a0 : Int) := by have := HKa.out; omega
    go_wp2_with fail
    refine (fail_any 15 _).mono ?_
    rintro e v ⟨rfl, rfl⟩
    unfold failed
    go_wp2_with fail
    exact ⟨rfl, rfl, HP4.out.below⟩
set_option maxHeartbeats 4000000 in
theorem redoParse_ok (s : ByteArray) (w : World) (h : 9 ≤ s.size) (hk : ¬ ((roOf s).k < 1 ∨ 7 < (roOf s).k)) : Calls Try.prog 122 #[.string s] w fun e w' => e = .returned (.agg (roOf s).cells) ∧ Below w.heap.size w w' := by
  obtain ⟨R0, hR0⟩ : ∃ R0, s = R0 := ⟨_, rfl⟩
  obtain ⟨R1, hR1⟩ : ∃ R, R0.extract (wid 1) R0.size = R := ⟨_, rfl⟩
  obtain ⟨R2, hR2⟩ : ∃ R, R1.extract (wid 4) R1.size = R := ⟨_, rfl⟩
  obtain ⟨R3, hR3⟩ : ∃ R, R2.extract (wid 2) R2.size = R := ⟨_, rfl⟩
  obtain ⟨R4, hR4⟩ : ∃ R, R3.extract (wid 2) R3.size = R := ⟨_, rfl⟩
  have l0 : R0.data.toList = s.data.toList.drop 0 := by rw [← hR0]; rfl
  have l1 : R1.data.toList = s.data.toList.drop 1 := by rw [← hR1, wid1, cut_list, l0, List.drop_drop]
  have l2 : R2.data.toList = s.data.toList.drop 5 := by rw [← hR2, wid4, cut_list, l1, List.drop_drop]
  have l3 : R3.data.toList = s.data.toList.drop 7 := by rw [← hR3, wid2, cut_list, l2, List.drop_drop]
  have l4 : R4.data.toList = s.data.toList.drop 9 := by rw [← hR4, wid2, cut_list, l3, List.drop_drop]
  have z : ∀ (R : ByteArray) k, R.data.toList = s.data.toList.drop k → R.size = s.size - k := fun R k e => by
    have h1 : R.data.toList.length = R.size := by simp
    have h2 : s.data.toList.length = s.size := by simp
    rw [← h1, e, List.length_drop, h2]
  have z0 := z R0 0 l0
  have z1 := z R1 1 l1
  have z2 := z R2 5 l2
  have z3 := z R3 7 l3
  have z4 := z R4 9 l4
  obtain ⟨a0, ha0⟩ : ∃ a, num (R0.data.toList.take (wid 1)) = a := ⟨_, rfl⟩
  have b0 : a0 < 256 := by rw [← ha0, wid1]; exact num1_lt _
  obtain ⟨a1, ha1⟩ : ∃ a, num (R1.data.toList.take (wid 4)) = a := ⟨_, rfl⟩
  have b1 : a1 < 4294967296 := by rw [← ha1, wid4]; exact num_u32 _
  obtain ⟨a2, ha2⟩ : ∃ a, num (R2.data.toList.take (wid 2)) = a := ⟨_, rfl⟩
  have b2 : a2 < 65536 := by rw [← ha2, wid2]; exact num2_lt _
  obtain ⟨a3, ha3⟩ : ∃ a, num (R3.data.toList.take (wid 2)) = a := ⟨_, rfl⟩
  have b3 : a3 < 65536 := by rw [← ha3, wid2]; exact num2_lt _
  have w1 := wrap_u32 a1 b1
  have N0 : Hid (∀ wx, wx.cell? ⟨w.heap.size + 1, 0, none⟩ = some (.string R0) ∧ wx.frozen? ⟨w.heap.size + 1, 0, none⟩ = false → Calls Try.prog 145 #[.pointer (some ⟨w.heap.size + 1, 0, none⟩), .int .i64 1] wx fun e w' => e = .returned (.int .u64 a0) ∧ wx.setCell ⟨w.heap.size + 1, 0, none⟩ (.string R1) = w') := Lib.hid fun wx hx => by
    have := num_ok ⟨w.heap.size + 1, 0, none⟩ R0 1 wx (by rw [wid1, z0]; omega) hx.1 hx.2
    rw [ha0, hR1] at this
    exact this
  have N1 : Hid (∀ wx, wx.cell? ⟨w.heap.size + 1, 0, none⟩ = some (.string R1) ∧ wx.frozen? ⟨w.heap.size + 1, 0, none⟩ = false → Calls Try.prog 145 #[.pointer (some ⟨w.heap.size + 1, 0, none⟩), .int .i64 4] wx fun e w' => e = .returned (.int .u64 a1) ∧ wx.setCell ⟨w.heap.size + 1, 0, none⟩ (.string R2) = w') := Lib.hid fun wx hx => by
    have := num_ok ⟨w.heap.size + 1, 0, none⟩ R1 4 wx (by rw [wid4, z1]; omega) hx.1 hx.2
    rw [ha1, hR2] at this
    exact this
  have N2 : Hid (∀ wx, wx.cell? ⟨w.heap.size + 1, 0, none⟩ = some (.string R2) ∧ wx.frozen? ⟨w.heap.size + 1, 0, none⟩ = false → Calls Try.prog 145 #[.pointer (some ⟨w.heap.size + 1, 0, none⟩), .int .i64 2] wx fun e w' => e = .returned (.int .u64 a2) ∧ wx.setCell ⟨w.heap.size + 1, 0, none⟩ (.string R3) = w') := Lib.hid fun wx hx => by
    have := num_ok ⟨w.heap.size + 1, 0, none⟩ R2 2 wx (by rw [wid2, z2]; omega) hx.1 hx.2
    rw [ha2, hR3] at this
    exact this
  have N3 : Hid (∀ wx, wx.cell? ⟨w.heap.size + 1, 0, none⟩ = some (.string R3) ∧ wx.frozen? ⟨w.heap.size + 1, 0, none⟩ = false → Calls Try.prog 145 #[.pointer (some ⟨w.heap.size + 1, 0, none⟩), .int .i64 2] wx fun e w' => e = .returned (.int .u64 a3) ∧ wx.setCell ⟨w.heap.size + 1, 0, none⟩ (.string R4) = w') := Lib.hid fun wx hx => by
    have := num_ok ⟨w.heap.size + 1, 0, none⟩ R3 2 wx (by rw [wid2, z3]; omega) hx.1 hx.2
    rw [ha3, hR4] at this
    exact this
  have hka : ¬ (a0 < 1 ∨ 7 < a0) := by rw [← ha0, l0, List.drop_zero, wid1]; exact hk
  have HKa := Lib.hid hka
  have hr4 : s.extract 9 s.size = R4 := by
    refine ByteArray.ext (Array.toList_inj.mp ?_)
    rw [cut_list, l4]
  have HFin : Hid ((roOf s).cells = #[.int .i64 a0, .int .u32 a1, .int .i64 a2, .int .i64 a3, .string R4]) := Lib.hid (by
    unfold roOf RO.cells
    dsimp only
    rw [← ha0, ← ha1, ← ha2, ← ha3, wid1, wid2, wid4, l0, l1, l2, l3, hr4]
    rfl)
  have HTx : Hid (∀ wx, wx.cell? ⟨w.heap.size + 1, 0, none⟩ = some (.string R4) ∧ wx.frozen? ⟨w.heap.size + 1, 0, none⟩ = false → Calls Try.prog 144 #[.pointer (some ⟨w.heap.size + 1, 0, none⟩), .int .i64 R4.size] wx fun e w' => e = .returned (.string R4) ∧ wx.setCell ⟨w.heap.size + 1, 0, none⟩ (.string (R4.extract R4.size R4.size)) = w') := Lib.hid fun wx hx => by
    have := text_ok ⟨w.heap.size + 1, 0, none⟩ R4 R4.size wx (by omega) (by omega) hx.1 hx.2
    rw [Int.toNat_natCast, show R4.extract 0 R4.size = R4 from by
      refine ByteArray.ext (Array.toList_inj.mp ?_)
      rw [ByteArray.data_extract, Array.toList_extract, List.extract_eq_take_drop]
      exact List.take_of_length_le (by simp)] at this
    exact this
  have HLf : Hid (∀ wx, wx.cell? ⟨w.heap.size + 1, 0, none⟩ = some (.string R4) ∧ wx.frozen? ⟨w.heap.size + 1, 0, none⟩ = false → Calls Try.prog 152 #[.pointer (some ⟨w.heap.size + 1, 0, none⟩)] wx fun e w' => e = .returned (.int .i64 R4.size) ∧ wx = w') := Lib.hid fun wx hx => left_any ⟨w.heap.size + 1, 0, none⟩ R4 wx hx.1
  clear hk hka hr4
  have HRd := Lib.hid (read_any R0 (w.alloc zeroOp))
  have HP0 := Lib.hid (rpStart w R0)
  clear l0 z0 l1 z1 l2 z2 l3 z3 l4 z4 z ha0 hR1 ha1 hR2 ha2 hR3 ha3 hR4
  subst hR0
  go_enter Try.func122, Try.ntmps122
  go_wp2_with fail
  refine HRd.out.mono ?_
  rintro e w1 ⟨rfl, rfl⟩
  clear HRd
  have hs1 : (w.alloc zeroOp).heap.size = w.heap.size + 1 := by simp
  rw [hs1]
  clear hs1
  go_upto_region 3 with fail
  generalize hW0 : ((w.alloc zeroOp).alloc (.cells #[.string s] 167)).alloc zeroOp = W0 at *
  clear hW0
  go_wp2_with fail
  refine (N0.out _ HP0.out.in').mono ?_
  rintro e v0 ⟨rfl, rfl⟩
  have HQ0 := Lib.hid (HP0.out.eat R1)
  generalize hW1 : (W0).setCell ⟨w.heap.size + 1, 0, none⟩ (.string R1) = V1 at *
  clear hW1 HP0
  obtain ⟨⟨c0, c1, c2, c3, c4⟩, ff⟩ := HQ0.out.op
  have f0 := ff 0
  have HP1 := Lib.hid (HQ0.out.put0 (.int .i64 a0))
  clear ff
  go_upto_region 4 with fail
  generalize hU1 : V1.setCell ⟨w.heap.size + 1 + 1, 0, none⟩ (.int .i64 a0) = W1 at *
  clear hU1 c0 c1 c2 c3 c4 f0 HQ0
  go_wp2_with fail
  refine (N1.out _ HP1.out.in').mono ?_
  rintro e v1 ⟨rfl, rfl⟩
  have HQ1 := Lib.hid (HP1.out.eat R2)
  generalize hW2 : (W1).setCell ⟨w.heap.size + 1, 0, none⟩ (.string R2) = V2 at *
  clear hW2 HP1
  obtain ⟨⟨c0, c1, c2, c3, c4⟩, ff⟩ := HQ1.out.op
  have f1 := ff 1
  have HP2 := Lib.hid (HQ1.out.put1 (.int .u32 a1))
  clear ff
  go_upto_region 5 with fail
  generalize hU2 : V2.setCell ⟨w.heap.size + 1 + 1, 1, none⟩ (.int .u32 a1) = W2 at *
  clear hU2 c0 c1 c2 c3 c4 f1 HQ1
  go_wp2_with fail
  refine (N2.out _ HP2.out.in').mono ?_
  rintro e v2 ⟨rfl, rfl⟩
  have HQ2 := Lib.hid (HP2.out.eat R3)
  generalize hW3 : (W2).setCell ⟨w.heap.size + 1, 0, none⟩ (.string R3) = V3 at *
  clear hW3 HP2
  obtain ⟨⟨c0, c1, c2, c3, c4⟩, ff⟩ := HQ2.out.op
  have f2 := ff 2
  have HP3 := Lib.hid (HQ2.out.put2 (.int .i64 a2))
  clear ff
  go_upto_region 6 with fail
  generalize hU3 : V3.setCell ⟨w.heap.size + 1 + 1, 2, none⟩ (.int .i64 a2) = W3 at *
  clear hU3 c0 c1 c2 c3 c4 f2 HQ2
  go_wp2_with fail
  refine (N3.out _ HP3.out.in').mono ?_
  rintro e v3 ⟨rfl, rfl⟩
  have HQ3 := Lib.hid (HP3.out.eat R4)
  generalize hW4 : (W3).setCell ⟨w.heap.size + 1, 0, none⟩ (.string R4) = V4 at *
  clear hW4 HP3
  obtain ⟨⟨c0, c1, c2, c3, c4⟩, ff⟩ := HQ3.out.op
  have f3 := ff 3
  have HP4 := Lib.hid (HQ3.out.put3 (.int .i64 a3))
  clear ff
  go_upto_region 7 with fail
  generalize hU4 : V4.setCell ⟨w.heap.size + 1 + 1, 3, none⟩ (.int .i64 a3) = W4 at *
  clear hU4 c0 c1 c2 c3 c4 f3 HQ3
  obtain ⟨⟨c0, c1, c2, c3, c4⟩, ff⟩ := HP4.out.op
  have i0 : ¬ (a0 : Int) < 1 := by have := HKa.out; omega
  have i1 : ¬ (7 : Int) < (a0 : Int) := by have := HKa.out; omega
  go_wp2_with fail
  refine (HLf.out _ HP4.out.in').mono ?_
  rintro e v ⟨rfl, rfl⟩
  clear c0 c1 c2 c3 c4 ff
  go_wp2_with fail
  refine (HTx.out _ HP4.out.in').mono ?_
  rintro e v ⟨rfl, rfl⟩
  have HQ4 := Lib.hid (HP4.out.eat (R4.extract R4.size R4.size))
  generalize hW5 : (W4).setCell ⟨w.heap.size + 1, 0, none⟩ (.string (R4.extract R4.size R4.size)) = V5 at *
  clear hW5 HP4
  obtain ⟨⟨c0, c1, c2, c3, c4⟩, ff⟩ := HQ4.out.op
  have f4 := ff 4
  have HP5 := Lib.hid (HQ4.out.put4 (.string R4))
  clear ff
  go_upto_region 10 with fail
  generalize hU5 : V5.setCell ⟨w.heap.size + 1 + 1, 4, none⟩ (.string R4) = W5 at *
  clear hU5 c0 c1 c2 c3 c4 f4 HQ4
  obtain ⟨⟨c0, c1, c2, c3, c4⟩, _⟩ := HP5.out.op
  obtain ⟨y0, y1, y2, y3, y4⟩ := five HP5.out.z
  have fz : ∀ k, W5.frozen? ⟨w.heap.size, k, none⟩ = false := fun k => by have := HP5.out.z; simp [World.frozen?, this]
  have g0 := fz 0
  have g1 := fz 1
  have g2 := fz 2
  have g3 := fz 3
  have g4 := fz 4
  have HQ := Lib.hid (op_set HP5.out.z (.int .i64 a0) (.int .u32 a1) (.int .i64 a2) (.int .i64 a3) (.string R4))
  clear fz
  go_wp2_with fail
  refine bodyPost_ret (results_cell_row rfl _ _ w.heap.size _ _ _ _ rfl HQ.out Try.underlying93 rfl opSize) rfl ?_
  rw [HFin.out]
  exact ⟨rfl, ((((HP5.out.below.setCell (Nat.le_refl _) _).setCell (Nat.le_refl _) _).setCell (Nat.le_refl _) _).setCell (Nat.le_refl _) _).setCell (Nat.le_refl _) _⟩
end Go.Proofs.Ytdeohkkpmjgaoaa
