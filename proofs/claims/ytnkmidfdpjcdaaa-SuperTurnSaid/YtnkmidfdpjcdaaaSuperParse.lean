/-
  A super is read off its bytes: contracts.
-/
import Derived.Test.YtnkmidfdpjcdaaaSuperWrite
namespace Go.Proofs.Ytnkmidfdpjcdaaa
open Go.RowKit

theorem results_two {fn : Func} {p u : Tmp} {ty : TypeId} {P : Program} (h : fn.results = #[.cell p ty, .tmp u]) (tmps : Array Value) (w : World) (g : Nat) (t : TypeId) (cs : Array Value) (fr : Nat × Nat) (fs : Array Field)
    (hp : tmps.getD p undef = .pointer (some ⟨g, 0, none⟩)) (hg : w.heap[g]? = some (.cells cs t fr))
    (hu : P.underlying ty = some (.struct fs)) (hi : (P.info? ty).map (·.size) = some cs.size) :
    (results fn tmps).run P w = .ok (.tuple #[.agg cs, tmps.getD u undef]) w := by
  rw [results_cell_tmp h, hp]
  simp only [asAddr, Sem.run_pure, Result.andThen_ok, run_loadVar_row w g t ty cs fr _ hg hu rfl hi]
def Sup.none : Sup := ⟨0, 0, 0, 0, 0⟩
/-- the super of an epoch whose bytes these are -/
def Sup.of (ep : Nat) (T : List UInt8) : Sup := ⟨ep, num ((T.drop 4).take 2), num ((T.drop 6).take 2), num ((T.drop 8).take 2), num ((T.drop 10).take 4)⟩
def isSup (T : ByteArray) : Prop := T.size = 14 ∧ T.extract 0 4 = ⟨#[83, 66, 65, 84]⟩
instance isSupDec (T : ByteArray) : Decidable (isSup T) := by unfold isSup; infer_instance
theorem sbat : (⟨#[83, 66, 65, 84]⟩ : ByteArray).toList = [83, 66, 65, 84] := by rw [ByteArray.toList_eq]
abbrev zeroSup : Obj := .cells #[.int .u32 0, .int .i64 0, .int .i64 0, .int .i64 0, .int .u32 0] 51
set_option maxHeartbeats 2000000 in
theorem parse_no (ep : Nat) (T : ByteArray) (w : World) (h : ¬ isSup T) : Calls Try.prog 79 #[.int .u32 ep, .string T] w fun e w' => e = .returned (.tuple #[.agg Sup.none.cells, .bool false]) ∧ Below w.heap.size w w' := by
  by_cases h1 : T.size = 14
  · have h2 : ¬ T.extract 0 4 = ⟨#[83, 66, 65, 84]⟩ := fun e => h ⟨h1, e⟩
    have hi : (T.size : Int) = 14 := by omega
    have hne0 := toList_ne h2
    have hne : ((T.extract 0 4).toList == [83, 66, 65, 84]) = false := by rw [sbat] at hne0; exact hne0
    clear hne0
    go_enter Try.func79, Try.ntmps79
    go_wp2_with fail
    refine bodyPost_ret (results_two rfl _ _ w.heap.size _ _ _ _ rfl (heap_alloc_new w _) Try.underlying51 supSize) rfl ?_
    exact ⟨rfl, (Below.refl _ _).alloc (Nat.le_refl _) _⟩
  · have hi : ¬ (T.size : Int) = 14 := by omega
    have hi2 : ((T.size : Int) == 14) = false := by rw [beq_eq_false_iff_ne]; exact hi
    go_enter Try.func79, Try.ntmps79
    go_wp2_with fail
    refine bodyPost_ret (results_two rfl _ _ w.heap.size _ _ _ _ rfl (heap_alloc_new w _) Try.underlying51 supSize) rfl ?_
    exact ⟨rfl, (Below.refl _ _).alloc (Nat.le_refl _) _⟩
/-- while a super is read: where it is to lie, what is left of the bytes, its cells -/
structure ParseAt (w : World) (R : ByteArray) (a b c d e : Value) (wx : World) : Prop where
  z : wx.heap[w.heap.size]? = some zeroSup
  i : wx.heap[w.heap.size + 1]? = some (.cells #[.string R] 124)
  s : wx.heap[w.heap.size + 1 + 1]? = some (.cells #[a, b, c, d, e] 51)
  below : Below w.heap.size w wx
theorem ParseAt.in' {w : World} {R : ByteArray} {a b c d e : Value} {wx : World} (h : ParseAt w R a b c d e wx) : wx.cell? ⟨w.heap.size + 1, 0, none⟩ = some (.string R) ∧ wx.frozen? ⟨w.heap.size + 1, 0, none⟩ = false := by
  have := h.i
  simp [World.cell?, World.frozen?, this]
theorem ParseAt.sup {w : World} {R : ByteArray} {a b c d e : Value} {wx : World} (h : ParseAt w R a b c d e wx) : (wx.cell? ⟨w.heap.size + 1 + 1, 0, none⟩ = some a ∧ wx.cell? ⟨w.heap.size + 1 + 1, 1, none⟩ = some b ∧ wx.cell? ⟨w.heap.size + 1 + 1, 2, none⟩ = some c ∧ wx.cell? ⟨w.heap.size + 1 + 1, 3, none⟩ = some d ∧ wx.cell? ⟨w.heap.size + 1 + 1, 4, none⟩ = some e) ∧ (∀ k, wx.frozen? ⟨w.heap.size + 1 + 1, k, none⟩ = false) := by
  have := h.s
  exact ⟨fiveAt this, fun k => by simp [World.frozen?, this]⟩
theorem ParseAt.eat {w : World} {R : ByteArray} {a b c d e : Value} {wx : World} (h : ParseAt w R a b c d e wx) (R' : ByteArray) : ParseAt w R' a b c d e (wx.setCell ⟨w.heap.size + 1, 0, none⟩ (.string R')) := by
  refine ⟨by rw [Below.heap_setCell _ _ _ _ (by show w.heap.size ≠ w.heap.size + 1; omega)]; exact h.z, by have := h.i; simp [World.setCell, Array.getElem?_modify, this], by rw [Below.heap_setCell _ _ _ _ (by show w.heap.size + 1 + 1 ≠ w.heap.size + 1; omega)]; exact h.s, h.below.setCell (by show w.heap.size ≤ w.heap.size + 1; omega) _⟩
theorem ParseAt.put {w : World} {R : ByteArray} {a b c d e : Value} {wx : World} (h : ParseAt w R a b c d e wx) (k : Nat) (v : Value) : ∃ cs, (#[a, b, c, d, e] : Array Value).setIfInBounds k v = cs ∧ (wx.setCell ⟨w.heap.size + 1 + 1, k, none⟩ v).heap[w.heap.size + 1 + 1]? = some (.cells cs 51) ∧ (wx.setCell ⟨w.heap.size + 1 + 1, k, none⟩ v).heap[w.heap.size]? = some zeroSup ∧ (wx.setCell ⟨w.heap.size + 1 + 1, k, none⟩ v).heap[w.heap.size + 1]? = some (.cells #[.string R] 124) ∧ Below w.heap.size w (wx.setCell ⟨w.heap.size + 1 + 1, k, none⟩ v) := by
  refine ⟨_, rfl, by have := h.s; simp [World.setCell, Array.getElem?_modify, this], by rw [Below.heap_setCell _ _ _ _ (by show w.heap.size ≠ w.heap.size + 1 + 1; omega)]; exact h.z, by rw [Below.heap_setCell _ _ _ _ (by show w.heap.size + 1 ≠ w.heap.size + 1 + 1; omega)]; exact h.i, h.below.setCell (by show w.heap.size ≤ w.heap.size + 1 + 1; omega) _⟩
theorem ParseAt.put1 {w : World} {R : ByteArray} {a b c d e : Value} {wx : World} (h : ParseAt w R a b c d e wx) (v : Value) : ParseAt w R a v c d e (wx.setCell ⟨w.heap.size + 1 + 1, 1, none⟩ v) := by
  obtain ⟨_, rfl, h1, h2, h3, h4⟩ := h.put 1 v
  exact ⟨h2, h3, h1, h4⟩
theorem ParseAt.put2 {w : World} {R : ByteArray} {a b c d e : Value} {wx : World} (h : ParseAt w R a b c d e wx) (v : Value) : ParseAt w R a b v d e (wx.setCell ⟨w.heap.size + 1 + 1, 2, none⟩ v) := by
  obtain ⟨_, rfl, h1, h2, h3, h4⟩ := h.put 2 v
  exact ⟨h2, h3, h1, h4⟩
theorem ParseAt.put3 {w : World} {R : ByteArray} {a b c d e : Value} {wx : World} (h : ParseAt w R a b c d e wx) (v : Value) : ParseAt w R a b c v e (wx.setCell ⟨w.heap.size + 1 + 1, 3, none⟩ v) := by
  obtain ⟨_, rfl, h1, h2, h3, h4⟩ := h.put 3 v
  exact ⟨h2, h3, h1, h4⟩
theorem ParseAt.put4 {w : World} {R : ByteArray} {a b c d e : Value} {wx : World} (h : ParseAt w R a b c d e wx) (v : Value) : ParseAt w R a b c d v (wx.setCell ⟨w.heap.size + 1 + 1, 4, none⟩ v) := by
  obtain ⟨_, rfl, h1, h2, h3, h4⟩ := h.put 4 v
  exact ⟨h2, h3, h1, h4⟩
theorem five_set {w : World} {x : Nat} {t : TypeId} {a b c d e : Value} (h : w.heap[x]? = some (.cells #[a, b, c, d, e] t)) (a' b' c' d' e' : Value) :
    (((((w.setCell ⟨x, 0, none⟩ a').setCell ⟨x, 1, none⟩ b').setCell ⟨x, 2, none⟩ c').setCell ⟨x, 3, none⟩ d').setCell ⟨x, 4, none⟩ e').heap[x]? = some (.cells #[a', b', c', d', e'] t) := by
  simp [World.setCell, Array.getElem?_modify, h]
theorem num2_lt (l : List UInt8) : num (l.take 2) < 65536 := by
  have h := num_lt (l.take 2)
  have h2 : 256 ^ (l.take 2).length ≤ 256 ^ 2 := Nat.pow_le_pow_right (by decide) (by rw [List.length_take]; omega)
  omega
theorem cut_list (T : ByteArray) (k : Nat) : (T.extract k T.size).data.toList = T.data.toList.drop k := by
  rw [ByteArray.data_extract, Array.toList_extract, List.extract_eq_take_drop]
  exact List.take_of_length_le (by rw [List.length_drop]; simp)
set_option maxHeartbeats 4000000 in
theorem parse_ok (ep : Nat) (T : ByteArray) (w : World) (h : isSup T) : Calls Try.prog 79 #[.int .u32 ep, .string T] w fun e w' => e = .returned (.tuple #[.agg (Sup.of ep T.data.toList).cells, .bool true]) ∧ Below w.heap.size w w' := by
  have hi : (T.size : Int) = 14 := by have := h.1; omega
  have heq : ((T.extract 0 4).toList == [83, 66, 65, 84]) = true := by rw [h.2, sbat]; rfl
  obtain ⟨R0, hR0⟩ : ∃ R0, T.extract 4 T.size = R0 := ⟨_, rfl⟩
  obtain ⟨R1, hR1⟩ : ∃ R1, R0.extract (wid 2) R0.size = R1 := ⟨_, rfl⟩
  obtain ⟨R2, hR2⟩ : ∃ R2, R1.extract (wid 2) R1.size = R2 := ⟨_, rfl⟩
  obtain ⟨R3, hR3⟩ : ∃ R3, R2.extract (wid 2) R2.size = R3 := ⟨_, rfl⟩
  have l0 : R0.data.toList = T.data.toList.drop 4 := by rw [← hR0]; exact cut_list T 4
  have l1 : R1.data.toList = T.data.toList.drop 6 := by rw [← hR1, wid2, cut_list, l0, List.drop_drop]
  have l2 : R2.data.toList = T.data.toList.drop 8 := by rw [← hR2, wid2, cut_list, l1, List.drop_drop]
  have l3 : R3.data.toList = T.data.toList.drop 10 := by rw [← hR3, wid2, cut_list, l2, List.drop_drop]
  have tl : T.data.toList.length = 14 := by simpa using h.1
  have z : ∀ (R : ByteArray) k, R.data.toList = T.data.toList.drop k → R.size = 14 - k := fun R k e => by
    have : R.data.toList.length = R.size := by simp
    rw [← this, e, List.length_drop, tl]
  have z0 := z R0 4 l0
  have z1 := z R1 6 l1
  have z2 := z R2 8 l2
  have z3 := z R3 10 l3
  obtain ⟨a1, ha1⟩ : ∃ a1, num (R0.data.toList.take (wid 2)) = a1 := ⟨_, rfl⟩
  obtain ⟨a2, ha2⟩ : ∃ a2, num (R1.data.toList.take (wid 2)) = a2 := ⟨_, rfl⟩
  obtain ⟨a3, ha3⟩ : ∃ a3, num (R2.data.toList.take (wid 2)) = a3 := ⟨_, rfl⟩
  obtain ⟨a4, ha4⟩ : ∃ a4, num (R3.data.toList.take (wid 4)) = a4 := ⟨_, rfl⟩
  have b1 : a1 < 65536 := by rw [← ha1, wid2]; exact num2_lt _
  have b2 : a2 < 65536 := by rw [← ha2, wid2]; exact num2_lt _
  have b3 : a3 < 65536 := by rw [← ha3, wid2]; exact num2_lt _
  have b4 : a4 < 4294967296 := by rw [← ha4, wid4]; exact num_u32 _
  have HFin : Hid ((Sup.of ep T.data.toList).cells = #[.int .u32 ep, .int .i64 a1, .int .i64 a2, .int .i64 a3, .int .u32 a4]) := Lib.hid (by
    rw [← ha1, ← ha2, ← ha3, ← ha4, wid2, wid4, l0, l1, l2, l3]
    rfl)
  have w4 := wrap_u32 a4 b4
  have N0 : Hid (∀ wx, wx.cell? ⟨w.heap.size + 1, 0, none⟩ = some (.string R0) ∧ wx.frozen? ⟨w.heap.size + 1, 0, none⟩ = false → Calls Try.prog 82 #[.pointer (some ⟨w.heap.size + 1, 0, none⟩), .int .i64 2] wx fun e w' => e = .returned (.int .u64 a1) ∧ wx.setCell ⟨w.heap.size + 1, 0, none⟩ (.string R1) = w') := Lib.hid fun wx hx => by
    have := num_ok ⟨w.heap.size + 1, 0, none⟩ R0 2 wx (by rw [wid2, z0]; decide) hx.1 hx.2
    rw [ha1, hR1] at this
    exact this
  have N1 : Hid (∀ wx, wx.cell? ⟨w.heap.size + 1, 0, none⟩ = some (.string R1) ∧ wx.frozen? ⟨w.heap.size + 1, 0, none⟩ = false → Calls Try.prog 82 #[.pointer (some ⟨w.heap.size + 1, 0, none⟩), .int .i64 2] wx fun e w' => e = .returned (.int .u64 a2) ∧ wx.setCell ⟨w.heap.size + 1, 0, none⟩ (.string R2) = w') := Lib.hid fun wx hx => by
    have := num_ok ⟨w.heap.size + 1, 0, none⟩ R1 2 wx (by rw [wid2, z1]; decide) hx.1 hx.2
    rw [ha2, hR2] at this
    exact this
  have N2 : Hid (∀ wx, wx.cell? ⟨w.heap.size + 1, 0, none⟩ = some (.string R2) ∧ wx.frozen? ⟨w.heap.size + 1, 0, none⟩ = false → Calls Try.prog 82 #[.pointer (some ⟨w.heap.size + 1, 0, none⟩), .int .i64 2] wx fun e w' => e = .returned (.int .u64 a3) ∧ wx.setCell ⟨w.heap.size + 1, 0, none⟩ (.string R3) = w') := Lib.hid fun wx hx => by
    have := num_ok ⟨w.heap.size + 1, 0, none⟩ R2 2 wx (by rw [wid2, z2]; decide) hx.1 hx.2
    rw [ha3, hR3] at this
    exact this
  have N3 : Hid (∀ wx, wx.cell? ⟨w.heap.size + 1, 0, none⟩ = some (.string R3) ∧ wx.frozen? ⟨w.heap.size + 1, 0, none⟩ = false → Calls Try.prog 82 #[.pointer (some ⟨w.heap.size + 1, 0, none⟩), .int .i64 4] wx fun e w' => e = .returned (.int .u64 a4) ∧ wx.setCell ⟨w.heap.size + 1, 0, none⟩ (.string (R3.extract (wid 4) R3.size)) = w') := Lib.hid fun wx hx => by
    have := num_ok ⟨w.heap.size + 1, 0, none⟩ R3 4 wx (by rw [wid4, z3]; decide) hx.1 hx.2
    rw [ha4] at this
    exact this
  have HRd := Lib.hid (read_any R0 (w.alloc zeroSup))
  have HP0 : Hid (ParseAt w R0 (.int .u32 ep) (.int .i64 0) (.int .i64 0) (.int .i64 0) (.int .u32 0) (((w.alloc zeroSup).alloc (.cells #[.string R0] 124)).alloc (.cells #[.int .u32 ep, .int .i64 0, .int .i64 0, .int .i64 0, .int .u32 0] 51))) := Lib.hid (by
    have s1 : (w.alloc zeroSup).heap.size = w.heap.size + 1 := by simp
    have s2 : ((w.alloc zeroSup).alloc (.cells #[.string R0] 124)).heap.size = w.heap.size + 1 + 1 := by simp
    refine ⟨?_, ?_, ?_, (((Below.refl _ _).alloc (Nat.le_refl _) _).alloc (by simp) _).alloc (by simp; omega) _⟩
    · rw [Below.heap_alloc _ _ _ (by rw [s2]; omega), Below.heap_alloc _ _ _ (by rw [s1]; omega)]
      exact heap_alloc_new w _
    · rw [Below.heap_alloc _ _ _ (by rw [s2]; omega), ← s1]
      exact heap_alloc_new _ _
    · rw [← s2]
      exact heap_alloc_new _ _)
  clear l0 l1 l2 l3 tl z z0 z1 z2 z3 ha1 ha2 ha3 ha4 hR1 hR2 hR3
  go_enter Try.func79, Try.ntmps79
  go_wp2_with fail
  refine HRd.out.mono ?_
  rintro e w1 ⟨rfl, rfl⟩
  clear HRd hR0
  have hs1 : (w.alloc zeroSup).heap.size = w.heap.size + 1 := by simp
  rw [hs1]
  clear hs1
  go_upto_region 5 with fail
  generalize hW0 : ((w.alloc zeroSup).alloc (.cells #[.string R0] 124)).alloc (.cells #[.int .u32 ep, .int .i64 0, .int .i64 0, .int .i64 0, .int .u32 0] 51) = W0 at *
  clear hW0
  go_wp2_with fail
  refine (N0.out _ HP0.out.in').mono ?_
  rintro e v1 ⟨rfl, rfl⟩
  have HQ1 := Lib.hid (HP0.out.eat R1)
  generalize hW1 : (W0).setCell ⟨w.heap.size + 1, 0, none⟩ (.string R1) = V1 at *
  clear hW1 HP0
  obtain ⟨⟨c0, c1, c2, c3, c4⟩, ff⟩ := HQ1.out.sup
  have f1 := ff 1
  have HP1 := Lib.hid (HQ1.out.put1 (.int .i64 a1))
  clear ff
  go_upto_region 6 with fail
  generalize hU1 : V1.setCell ⟨w.heap.size + 1 + 1, 1, none⟩ (.int .i64 a1) = W1 at *
  clear hU1 c0 c1 c2 c3 c4 f1 HQ1
  go_wp2_with fail
  refine (N1.out _ HP1.out.in').mono ?_
  rintro e v2 ⟨rfl, rfl⟩
  have HQ2 := Lib.hid (HP1.out.eat R2)
  generalize hW2 : (W1).setCell ⟨w.heap.size + 1, 0, none⟩ (.string R2) = V2 at *
  clear hW2 HP1
  obtain ⟨⟨c0, c1, c2, c3, c4⟩, ff⟩ := HQ2.out.sup
  have f2 := ff 2
  have HP2 := Lib.hid (HQ2.out.put2 (.int .i64 a2))
  clear ff
  go_upto_region 7 with fail
  generalize hU2 : V2.setCell ⟨w.heap.size + 1 + 1, 2, none⟩ (.int .i64 a2) = W2 at *
  clear hU2 c0 c1 c2 c3 c4 f2 HQ2
  go_wp2_with fail
  refine (N2.out _ HP2.out.in').mono ?_
  rintro e v3 ⟨rfl, rfl⟩
  have HQ3 := Lib.hid (HP2.out.eat R3)
  generalize hW3 : (W2).setCell ⟨w.heap.size + 1, 0, none⟩ (.string R3) = V3 at *
  clear hW3 HP2
  obtain ⟨⟨c0, c1, c2, c3, c4⟩, ff⟩ := HQ3.out.sup
  have f3 := ff 3
  have HP3 := Lib.hid (HQ3.out.put3 (.int .i64 a3))
  clear ff
  go_upto_region 8 with fail
  generalize hU3 : V3.setCell ⟨w.heap.size + 1 + 1, 3, none⟩ (.int .i64 a3) = W3 at *
  clear hU3 c0 c1 c2 c3 c4 f3 HQ3
  go_wp2_with fail
  refine (N3.out _ HP3.out.in').mono ?_
  rintro e v4 ⟨rfl, rfl⟩
  have HQ4 := Lib.hid (HP3.out.eat (R3.extract (wid 4) R3.size))
  generalize hW4 : (W3).setCell ⟨w.heap.size + 1, 0, none⟩ (.string (R3.extract (wid 4) R3.size)) = V4 at *
  clear hW4 HP3
  obtain ⟨⟨c0, c1, c2, c3, c4⟩, ff⟩ := HQ4.out.sup
  have f4 := ff 4
  have HP4 := Lib.hid (HQ4.out.put4 (.int .u32 a4))
  clear ff
  go_upto_region 9 with fail
  generalize hU4 : V4.setCell ⟨w.heap.size + 1 + 1, 4, none⟩ (.int .u32 a4) = W4 at *
  clear hU4 c0 c1 c2 c3 c4 f4 HQ4
  obtain ⟨⟨c0, c1, c2, c3, c4⟩, _⟩ := HP4.out.sup
  obtain ⟨y0, y1, y2, y3, y4⟩ := fiveAt HP4.out.z
  have fz : ∀ k, W4.frozen? ⟨w.heap.size, k, none⟩ = false := fun k => by have := HP4.out.z; simp [World.frozen?, this]
  have g0 := fz 0
  have g1 := fz 1
  have g2 := fz 2
  have g3 := fz 3
  have g4 := fz 4
  have HQ := Lib.hid (five_set HP4.out.z (.int .u32 ep) (.int .i64 a1) (.int .i64 a2) (.int .i64 a3) (.int .u32 a4))
  clear fz
  go_wp2_with fail
  refine bodyPost_ret (results_two rfl _ _ w.heap.size _ _ _ _ rfl HQ.out Try.underlying51 supSize) rfl ?_
  rw [HFin.out]
  exact ⟨rfl, ((((HP4.out.below.setCell (Nat.le_refl _) _).setCell (Nat.le_refl _) _).setCell (Nat.le_refl _) _).setCell (Nat.le_refl _) _).setCell (Nat.le_refl _) _⟩
end Go.Proofs.Ytnkmidfdpjcdaaa
