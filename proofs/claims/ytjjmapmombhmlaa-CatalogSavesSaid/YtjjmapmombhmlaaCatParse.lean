/-
  catalog.Parse, of any text: contracts (written by gen_catparse.py).
-/
import Derived.Test.YtjjmapmombhmlaaCatBytes
import Derived.Test.YtjjmapmombhmlaaNodeOpen
namespace Go.Proofs.Ytjjmapmombhmlaa
open Go.RowKit

theorem num_u32 (l : List UInt8) : num (l.take 4) < 4294967296 := by
  have h := num_lt (l.take 4)
  have h2 : 256 ^ (l.take 4).length ≤ 256 ^ 4 := Nat.pow_le_pow_right (by decide) (by rw [List.length_take]; omega)
  omega
theorem num2_lt (l : List UInt8) : num (l.take 2) < 65536 := by
  have h := num_lt (l.take 2)
  have h2 : 256 ^ (l.take 2).length ≤ 256 ^ 2 := Nat.pow_le_pow_right (by decide) (by rw [List.length_take]; omega)
  omega
theorem num1_lt (l : List UInt8) : num (l.take 1) < 256 := by
  have h := num_lt (l.take 1)
  have h2 : 256 ^ (l.take 1).length ≤ 256 ^ 1 := Nat.pow_le_pow_right (by decide) (by rw [List.length_take]; omega)
  omega
theorem wrap_u32 (n : Nat) (h : n < 4294967296) : IntKind.u32.wrap (n : Int) = n := by
  simp only [IntKind.wrap, IntKind.bits, IntKind.signed]
  simp
  omega
theorem cut_list (T : ByteArray) (k : Nat) : (T.extract k T.size).data.toList = T.data.toList.drop k := by
  rw [ByteArray.data_extract, Array.toList_extract, List.extract_eq_take_drop]
  exact List.take_of_length_le (by rw [List.length_drop]; simp)
theorem results_two {fn : Func} {p u : Tmp} {ty : TypeId} {P : Program} (h : fn.results = #[.cell p ty, .tmp u]) (tmps : Array Value) (w : World) (g : Nat) (t : TypeId) (cs : Array Value) (fr : Nat × Nat) (fs : Array Field)
    (hp : tmps.getD p undef = .pointer (some ⟨g, 0, none⟩)) (hg : w.heap[g]? = some (.cells cs t fr))
    (hu : P.underlying ty = some (.struct fs)) (hi : (P.info? ty).map (·.size) = some cs.size) :
    (results fn tmps).run P w = .ok (.tuple #[.agg cs, tmps.getD u undef]) w := by
  rw [results_cell_tmp h, hp]
  simp only [asAddr, Sem.run_pure, Result.andThen_ok, run_loadVar_row w g t ty cs fr _ hg hu rfl hi]
/-- the entry whose bytes these are; where the next one lies; which number says that it is to be read only -/
def enOf (l : List UInt8) : EN := ⟨num ((l.drop 1).take 4), num ((l.drop 5).take 4), ((num ((l.drop 9).take 1) : Int) == 1), num ((l.drop 10).take 2), num ((l.drop 12).take 2), num ((l.drop 14).take 4)⟩
def nxOf (l : List UInt8) : Nat := num ((l.drop 18).take 2)
def onOf (l : List UInt8) : Nat := num ((l.drop 9).take 1)
def badEn (l : List UInt8) : Prop := 1 < onOf l ∨ (enOf l).id = 0 ∨ (enOf l).size < 1 ∨ 2048 < (enOf l).size
instance (l : List UInt8) : Decidable (badEn l) := by unfold badEn; infer_instance
abbrev zeroEnt : Obj := .cells #[.int .u32 0, .int .u32 0, .bool false, .int .i64 0, .int .i64 0, .int .u32 0] 58
theorem entSize : (Try.prog.info? 58).map (·.size) = some 6 := by kernel_rfl
/-- while an entry is read: where it is to lie, what is left of the bytes, its cells -/
structure EpAt (w : World) (q x : Nat) (R : ByteArray) (a b c d e f : Value) (wx : World) : Prop where
  z : wx.heap[w.heap.size]? = some zeroEnt
  i : wx.cell? ⟨q, 0, none⟩ = some (.string R)
  j : wx.frozen? ⟨q, 0, none⟩ = false
  s : wx.heap[x]? = some (.cells #[a, b, c, d, e, f] 58)
  below : Below w.heap.size w wx
  lo : w.heap.size < q
  hi : q < x
theorem EpAt.in' {w : World} {q x : Nat} {R : ByteArray} {a b c d e f : Value} {wx : World} (h : EpAt w q x R a b c d e f wx) : wx.cell? ⟨q, 0, none⟩ = some (.string R) ∧ wx.frozen? ⟨q, 0, none⟩ = false := ⟨h.i, h.j⟩
theorem EpAt.en {w : World} {q x : Nat} {R : ByteArray} {a b c d e f : Value} {wx : World} (h : EpAt w q x R a b c d e f wx) : (wx.cell? ⟨x, 0, none⟩ = some a ∧ wx.cell? ⟨x, 1, none⟩ = some b ∧ wx.cell? ⟨x, 2, none⟩ = some c ∧ wx.cell? ⟨x, 3, none⟩ = some d ∧ wx.cell? ⟨x, 4, none⟩ = some e ∧ wx.cell? ⟨x, 5, none⟩ = some f) ∧ (∀ k, wx.frozen? ⟨x, k, none⟩ = false) := by
  have := h.s
  exact ⟨six this, fun k => by simp [World.frozen?, this]⟩
theorem EpAt.eat {w : World} {q x : Nat} {R : ByteArray} {a b c d e f : Value} {wx : World} (h : EpAt w q x R a b c d e f wx) (R' : ByteArray) : EpAt w q x R' a b c d e f (wx.setCell ⟨q, 0, none⟩ (.string R')) := by
  have h1 := h.lo
  have h2 := h.hi
  exact ⟨by rw [Below.heap_setCell _ _ _ _ (by show w.heap.size ≠ q; omega)]; exact h.z, World.cell?_setCell_same _ _ _ h.i, by rw [World.frozen?_setCell]; exact h.j, by rw [Below.heap_setCell _ _ _ _ (by show x ≠ q; omega)]; exact h.s, h.below.setCell (by show w.heap.size ≤ q; omega) _, h1, h2⟩
theorem EpAt.put {w : World} {q x : Nat} {R : ByteArray} {a b c d e f : Value} {wx : World} (h : EpAt w q x R a b c d e f wx) (k : Nat) (v : Value) : ∃ cs, (#[a, b, c, d, e, f] : Array Value).setIfInBounds k v = cs ∧ (wx.setCell ⟨x, k, none⟩ v).heap[x]? = some (.cells cs 58) ∧ (wx.setCell ⟨x, k, none⟩ v).heap[w.heap.size]? = some zeroEnt ∧ (wx.setCell ⟨x, k, none⟩ v).cell? ⟨q, 0, none⟩ = some (.string R) ∧ (wx.setCell ⟨x, k, none⟩ v).frozen? ⟨q, 0, none⟩ = false ∧ Below w.heap.size w (wx.setCell ⟨x, k, none⟩ v) := by
  have h1 := h.lo
  have h2 := h.hi
  refine ⟨_, rfl, by have := h.s; simp [World.setCell, Array.getElem?_modify, this], by rw [Below.heap_setCell _ _ _ _ (by show w.heap.size ≠ x; omega)]; exact h.z, ?_, by rw [World.frozen?_setCell]; exact h.j, h.below.setCell (by show w.heap.size ≤ x; omega) _⟩
  have e := Below.heap_setCell wx ⟨x, k, none⟩ v q (by show q ≠ x; omega)
  have := h.i
  unfold World.cell? at this ⊢
  rw [e]
  exact this
theorem EpAt.put0 {w : World} {q x : Nat} {R : ByteArray} {a b c d e f : Value} {wx : World} (h : EpAt w q x R a b c d e f wx) (v : Value) : EpAt w q x R v b c d e f (wx.setCell ⟨x, 0, none⟩ v) := by
  obtain ⟨_, rfl, h1, h2, h3, h4, h5⟩ := h.put 0 v
  exact ⟨h2, h3, h4, h1, h5, h.lo, h.hi⟩
theorem EpAt.put1 {w : World} {q x : Nat} {R : ByteArray} {a b c d e f : Value} {wx : World} (h : EpAt w q x R a b c d e f wx) (v : Value) : EpAt w q x R a v c d e f (wx.setCell ⟨x, 1, none⟩ v) := by
  obtain ⟨_, rfl, h1, h2, h3, h4, h5⟩ := h.put 1 v
  exact ⟨h2, h3, h4, h1, h5, h.lo, h.hi⟩
theorem EpAt.put2 {w : World} {q x : Nat} {R : ByteArray} {a b c d e f : Value} {wx : World} (h : EpAt w q x R a b c d e f wx) (v : Value) : EpAt w q x R a b v d e f (wx.setCell ⟨x, 2, none⟩ v) := by
  obtain ⟨_, rfl, h1, h2, h3, h4, h5⟩ := h.put 2 v
  exact ⟨h2, h3, h4, h1, h5, h.lo, h.hi⟩
theorem EpAt.put3 {w : World} {q x : Nat} {R : ByteArray} {a b c d e f : Value} {wx : World} (h : EpAt w q x R a b c d e f wx) (v : Value) : EpAt w q x R a b c v e f (wx.setCell ⟨x, 3, none⟩ v) := by
  obtain ⟨_, rfl, h1, h2, h3, h4, h5⟩ := h.put 3 v
  exact ⟨h2, h3, h4, h1, h5, h.lo, h.hi⟩
theorem EpAt.put4 {w : World} {q x : Nat} {R : ByteArray} {a b c d e f : Value} {wx : World} (h : EpAt w q x R a b c d e f wx) (v : Value) : EpAt w q x R a b c d v f (wx.setCell ⟨x, 4, none⟩ v) := by
  obtain ⟨_, rfl, h1, h2, h3, h4, h5⟩ := h.put 4 v
  exact ⟨h2, h3, h4, h1, h5, h.lo, h.hi⟩
theorem EpAt.put5 {w : World} {q x : Nat} {R : ByteArray} {a b c d e f : Value} {wx : World} (h : EpAt w q x R a b c d e f wx) (v : Value) : EpAt w q x R a b c d e v (wx.setCell ⟨x, 5, none⟩ v) := by
  obtain ⟨_, rfl, h1, h2, h3, h4, h5⟩ := h.put 5 v
  exact ⟨h2, h3, h4, h1, h5, h.lo, h.hi⟩
theorem ent_set {w : World} {x : Nat} {t : TypeId} {a b c d e f : Value} (h : w.heap[x]? = some (.cells #[a, b, c, d, e, f] t)) (a' b' c' d' e' f' : Value) :
    ((((((w.setCell ⟨x, 0, none⟩ a').setCell ⟨x, 1, none⟩ b').setCell ⟨x, 2, none⟩ c').setCell ⟨x, 3, none⟩ d').setCell ⟨x, 4, none⟩ e').setCell ⟨x, 5, none⟩ f').heap[x]? = some (.cells #[a', b', c', d', e', f'] t) := by
  simp [World.setCell, Array.getElem?_modify, h]
theorem catParse_open (s : ByteArray) (k : Int) (w : World) (hO : ∀ wx : World, Calls Try.prog 115 #[.string s] wx fun e w' => e = failed k ∧ Below wx.heap.size wx w') :
    Calls Try.prog 84 #[.string s] w fun e w' => e = failed k ∧ Below w.heap.size w w' := by
  have HB : Hid (Below w.heap.size w (w.alloc zeroEnt)) := Lib.hid ((Below.refl _ w).alloc (Nat.le_refl _) _)
  go_enter Try.func84, Try.ntmps84
  go_wp2_with fail
  refine (hO _).mono ?_
  rintro e w1 ⟨rfl, hb⟩
  have HB1 := Lib.hid (HB.out.trans (hb.mono HB.out.size))
  unfold failed
  go_wp2_with fail
  exact ⟨rfl, rfl, HB1.out⟩
/-- behind Open: the result's block, the In -/
structure EpOpen (w : World) (q : Nat) (R : ByteArray) (wx : World) : Prop where
  z : wx.heap[w.heap.size]? = some zeroEnt
  i : wx.cell? ⟨q, 0, none⟩ = some (.string R)
  j : wx.frozen? ⟨q, 0, none⟩ = false
  below : Below w.heap.size w wx
  lo : w.heap.size < q
  hi : q < wx.heap.size
theorem EpOpen.eat {w : World} {q : Nat} {R : ByteArray} {wx : World} (h : EpOpen w q R wx) (R' : ByteArray) : EpOpen w q R' (wx.setCell ⟨q, 0, none⟩ (.string R')) := by
  have h1 := h.lo
  have h2 := h.hi
  exact ⟨by rw [Below.heap_setCell _ _ _ _ (by show w.heap.size ≠ q; omega)]; exact h.z, World.cell?_setCell_same _ _ _ h.i, by rw [World.frozen?_setCell]; exact h.j, h.below.setCell (by show w.heap.size ≤ q; omega) _, h1, by rw [World.size_setCell]; exact h2⟩
theorem EpOpen.make {w : World} {q : Nat} {R : ByteArray} {wx : World} (h : EpOpen w q R wx) : EpAt w q wx.heap.size R (.int .u32 0) (.int .u32 0) (.bool false) (.int .i64 0) (.int .i64 0) (.int .u32 0) (wx.alloc zeroEnt) := by
  have h1 := h.lo
  have h2 := h.hi
  refine ⟨by rw [Below.heap_alloc _ _ _ (by omega)]; exact h.z, by rw [World.cell?_alloc_past (hn := h2)]; exact h.i, ?_, heap_alloc_new _ _, h.below.alloc (by omega) _, h1, h2⟩
  have e := Below.heap_alloc wx zeroEnt q (by omega)
  have := h.j
  unfold World.frozen? at this ⊢
  rw [e]
  exact this
theorem epOpen (s : ByteArray) (w : World) (h1 : s.size = 64) (h : saysSum s = C.Crc.sum (ahead s).data.toList) : Calls Try.prog 115 #[.string s] (w.alloc zeroEnt) fun e w' => e = .returned (.pointer (some ⟨w.heap.size + 3, 0, none⟩)) ∧ EpOpen w (w.heap.size + 3) (ahead s) w' :=
  (sealOpen_ok s (w.alloc zeroEnt) h1 h).mono (by
    rintro e w' ⟨rfl, hb, hc, hf, hs⟩
    have hz : (w.alloc zeroEnt).heap.size = w.heap.size + 1 := World.size_alloc _ _
    rw [hz] at hc hf hs ⊢
    exact ⟨rfl, by rw [hb.block _ (by omega)]; exact heap_alloc_new _ _, hc, hf, ((Below.refl _ w).alloc (Nat.le_refl _) _).trans (hb.mono (by rw [hz]; omega)), by omega, by omega⟩)
theorem catParse_mark (s : ByteArray) (w : World) (h1 : s.size = 64) (h : saysSum s = C.Crc.sum (ahead s).data.toList) (hm : ¬ (ahead s).data.toList.take 1 = [86]) :
    Calls Try.prog 84 #[.string s] w fun e w' => e = failed 1 ∧ Below w.heap.size w w' := by
  have HS := Lib.hid (epOpen s w h1 h)
  have hz : 1 ≤ (ahead s).size := by rw [ahead_size s (by omega)]; decide
  have hne : (((ahead s).extract 0 1).toList == [86]) = false := by
    rw [beq_eq_false_iff_ne, ByteArray.toList_eq]
    intro q
    apply hm
    rw [← q, ByteArray.data_extract, Array.toList_extract, List.extract_eq_take_drop]
    rfl
  clear hm h h1
  generalize ahead s = t at *
  have HT : Hid (∀ wx, wx.cell? ⟨w.heap.size + 3, 0, none⟩ = some (.string t) → wx.frozen? ⟨w.heap.size + 3, 0, none⟩ = false → Calls Try.prog 116 #[.pointer (some ⟨w.heap.size + 3, 0, none⟩), .int .i64 1] wx fun e w' => e = .returned (.string (t.extract 0 1)) ∧ wx.setCell ⟨w.heap.size + 3, 0, none⟩ (.string (t.extract 1 t.size)) = w') := Lib.hid fun wx a b => text_ok ⟨w.heap.size + 3, 0, none⟩ t 1 wx (by decide) (by omega) a b
  generalize t.extract 0 1 = m at *
  clear hz
  go_enter Try.func84, Try.ntmps84
  go_wp2_with fail
  refine HS.out.mono ?_
  rintro e w1 ⟨rfl, hp⟩
  have HP := Lib.hid hp
  clear hp HS
  go_wp2_with fail
  refine (HT.out w1 HP.out.i HP.out.j).mono ?_
  rintro e w2 ⟨rfl, rfl⟩
  have HP2 := Lib.hid (HP.out.eat (t.extract 1 t.size))
  generalize w1.setCell ⟨w.heap.size + 3, 0, none⟩ (.string (t.extract 1 t.size)) = w2 at *
  go_wp2_with fail
  refine (fail_any 1 _).mono ?_
  rintro e w5 ⟨rfl, rfl⟩
  unfold failed
  go_wp2_with fail
  exact ⟨rfl, rfl, HP2.out.below⟩
theorem first_not (R : ByteArray) (h : ¬ R.data.toList.all (· == 0) = true) : ∃ j, ∃ hj : j < R.size, R[j] ≠ 0 ∧ ∀ k (hk : k < j), R[k] = 0 := by
  have hl : R.data.toList.length = R.size := by simp
  have hex : ∃ j, ∃ hj : j < R.size, R[j] ≠ 0 := by
    by_cases hc : ∃ j, ∃ hj : j < R.size, R[j] ≠ 0
    · exact hc
    · exfalso
      apply h
      rw [List.all_eq_true]
      intro b hb
      obtain ⟨i, hi, rfl⟩ := List.mem_iff_getElem.1 hb
      rw [beq_iff_eq]
      by_cases h0 : R.data.toList[i] = 0
      · exact h0
      · exact absurd ⟨i, by omega, h0⟩ hc
  obtain ⟨j, hj, hne⟩ := hex
  induction j using Nat.strongRecOn with
  | ind j ih =>
    by_cases hc : ∃ k, ∃ hk : k < j, R[k] ≠ 0
    · obtain ⟨k, hk, hk2⟩ := hc
      exact ih k hk (by omega) hk2
    · refine ⟨j, hj, hne, fun k hk => ?_⟩
      by_cases h0 : R[k] = 0
      · exact h0
      · exact absurd ⟨k, hk, h0⟩ hc
set_option maxHeartbeats 1000000 in
theorem catParse_read (s : ByteArray) (w : World) (h1 : s.size = 64) (h : saysSum s = C.Crc.sum (ahead s).data.toList) (hm : (ahead s).data.toList.take 1 = [86]) :
    Calls Try.prog 84 #[.string s] w fun e w' => (if (((ahead s).data.toList.drop 20).all (· == 0)) = true ∧ ¬ badEn (ahead s).data.toList then e = .returned (.tuple #[.agg (enOf (ahead s).data.toList).cells, .int .i64 (nxOf (ahead s).data.toList)]) else e = failed 1) ∧ Below w.heap.size w w' := by
  have HS := Lib.hid (epOpen s w h1 h)
  have hz : (ahead s).size = 60 := ahead_size s (by omega)
  have hne : (((ahead s).extract 0 1).toList == [86]) = true := by
    rw [beq_iff_eq, ByteArray.toList_eq, ← hm, ByteArray.data_extract, Array.toList_extract, List.extract_eq_take_drop]
    rfl
  clear hm h h1
  generalize ahead s = t at *
  obtain ⟨q, hq⟩ : ∃ q, w.heap.size + 3 = q := ⟨_, rfl⟩
  rw [hq] at HS
  clear hq
  obtain ⟨R0, hR0⟩ : ∃ R0, t.extract 1 t.size = R0 := ⟨_, rfl⟩
  obtain ⟨R1, hR1⟩ : ∃ R, R0.extract (wid 4) R0.size = R := ⟨_, rfl⟩
  obtain ⟨R2, hR2⟩ : ∃ R, R1.extract (wid 4) R1.size = R := ⟨_, rfl⟩
  obtain ⟨R3, hR3⟩ : ∃ R, R2.extract (wid 1) R2.size = R := ⟨_, rfl⟩
  obtain ⟨R4, hR4⟩ : ∃ R, R3.extract (wid 2) R3.size = R := ⟨_, rfl⟩
  obtain ⟨R5, hR5⟩ : ∃ R, R4.extract (wid 2) R4.size = R := ⟨_, rfl⟩
  obtain ⟨R6, hR6⟩ : ∃ R, R5.extract (wid 4) R5.size = R := ⟨_, rfl⟩
  obtain ⟨R7, hR7⟩ : ∃ R, R6.extract (wid 2) R6.size = R := ⟨_, rfl⟩
  have l0 : R0.data.toList = t.data.toList.drop 1 := by rw [← hR0, cut_list]
  have l1 : R1.data.toList = t.data.toList.drop 5 := by rw [← hR1, wid4, cut_list, l0, List.drop_drop]
  have l2 : R2.data.toList = t.data.toList.drop 9 := by rw [← hR2, wid4, cut_list, l1, List.drop_drop]
  have l3 : R3.data.toList = t.data.toList.drop 10 := by rw [← hR3, wid1, cut_list, l2, List.drop_drop]
  have l4 : R4.data.toList = t.data.toList.drop 12 := by rw [← hR4, wid2, cut_list, l3, List.drop_drop]
  have l5 : R5.data.toList = t.data.toList.drop 14 := by rw [← hR5, wid2, cut_list, l4, List.drop_drop]
  have l6 : R6.data.toList = t.data.toList.drop 18 := by rw [← hR6, wid4, cut_list, l5, List.drop_drop]
  have l7 : R7.data.toList = t.data.toList.drop 20 := by rw [← hR7, wid2, cut_list, l6, List.drop_drop]
  have z : ∀ (R : ByteArray) k, R.data.toList = t.data.toList.drop k → R.size = 60 - k := fun R k e => by
    have h1 : R.data.toList.length = R.size := by simp
    have h2 : t.data.toList.length = t.size := by simp
    rw [← h1, e, List.length_drop, h2, hz]
  have z0 := z R0 1 l0
  have z1 := z R1 5 l1
  have z2 := z R2 9 l2
  have z3 := z R3 10 l3
  have z4 := z R4 12 l4
  have z5 := z R5 14 l5
  have z6 := z R6 18 l6
  have z7 := z R7 20 l7
  obtain ⟨a0, ha0⟩ : ∃ a, num (R0.data.toList.take (wid 4)) = a := ⟨_, rfl⟩
  have b0 : a0 < 4294967296 := by rw [← ha0, wid4]; exact num_u32 _
  obtain ⟨a1, ha1⟩ : ∃ a, num (R1.data.toList.take (wid 4)) = a := ⟨_, rfl⟩
  have b1 : a1 < 4294967296 := by rw [← ha1, wid4]; exact num_u32 _
  obtain ⟨a2, ha2⟩ : ∃ a, num (R2.data.toList.take (wid 1)) = a := ⟨_, rfl⟩
  have b2 : a2 < 256 := by rw [← ha2, wid1]; exact num1_lt _
  obtain ⟨a3, ha3⟩ : ∃ a, num (R3.data.toList.take (wid 2)) = a := ⟨_, rfl⟩
  have b3 : a3 < 65536 := by rw [← ha3, wid2]; exact num2_lt _
  obtain ⟨a4, ha4⟩ : ∃ a, num (R4.data.toList.take (wid 2)) = a := ⟨_, rfl⟩
  have b4 : a4 < 65536 := by rw [← ha4, wid2]; exact num2_lt _
  obtain ⟨a5, ha5⟩ : ∃ a, num (R5.data.toList.take (wid 4)) = a := ⟨_, rfl⟩
  have b5 : a5 < 4294967296 := by rw [← ha5, wid4]; exact num_u32 _
  obtain ⟨a6, ha6⟩ : ∃ a, num (R6.data.toList.take (wid 2)) = a := ⟨_, rfl⟩
  have b6 : a6 < 65536 := by rw [← ha6, wid2]; exact num2_lt _
  have w0 := wrap_u32 a0 b0
  have w1 := wrap_u32 a1 b1
  have w5 := wrap_u32 a5 b5
  have N0 : Hid (∀ wx, wx.cell? ⟨q, 0, none⟩ = some (.string R0) ∧ wx.frozen? ⟨q, 0, none⟩ = false → Calls Try.prog 117 #[.pointer (some ⟨q, 0, none⟩), .int .i64 4] wx fun e w' => e = .returned (.int .u64 a0) ∧ wx.setCell ⟨q, 0, none⟩ (.string R1) = w') := Lib.hid fun wx hx => by
    have := num_ok ⟨q, 0, none⟩ R0 4 wx (by rw [wid4, z0]; omega) hx.1 hx.2
    rw [ha0, hR1] at this
    exact this
  have N1 : Hid (∀ wx, wx.cell? ⟨q, 0, none⟩ = some (.string R1) ∧ wx.frozen? ⟨q, 0, none⟩ = false → Calls Try.prog 117 #[.pointer (some ⟨q, 0, none⟩), .int .i64 4] wx fun e w' => e = .returned (.int .u64 a1) ∧ wx.setCell ⟨q, 0, none⟩ (.string R2) = w') := Lib.hid fun wx hx => by
    have := num_ok ⟨q, 0, none⟩ R1 4 wx (by rw [wid4, z1]; omega) hx.1 hx.2
    rw [ha1, hR2] at this
    exact this
  have N2 : Hid (∀ wx, wx.cell? ⟨q, 0, none⟩ = some (.string R2) ∧ wx.frozen? ⟨q, 0, none⟩ = false → Calls Try.prog 117 #[.pointer (some ⟨q, 0, none⟩), .int .i64 1] wx fun e w' => e = .returned (.int .u64 a2) ∧ wx.setCell ⟨q, 0, none⟩ (.string R3) = w') := Lib.hid fun wx hx => by
    have := num_ok ⟨q, 0, none⟩ R2 1 wx (by rw [wid1, z2]; omega) hx.1 hx.2
    rw [ha2, hR3] at this
    exact this
  have N3 : Hid (∀ wx, wx.cell? ⟨q, 0, none⟩ = some (.string R3) ∧ wx.frozen? ⟨q, 0, none⟩ = false → Calls Try.prog 117 #[.pointer (some ⟨q, 0, none⟩), .int .i64 2] wx fun e w' => e = .returned (.int .u64 a3) ∧ wx.setCell ⟨q, 0, none⟩ (.string R4) = w') := Lib.hid fun wx hx => by
    have := num_ok ⟨q, 0, none⟩ R3 2 wx (by rw [wid2, z3]; omega) hx.1 hx.2
    rw [ha3, hR4] at this
    exact this
  have N4 : Hid (∀ wx, wx.cell? ⟨q, 0, none⟩ = some (.string R4) ∧ wx.frozen? ⟨q, 0, none⟩ = false → Calls Try.prog 117 #[.pointer (some ⟨q, 0, none⟩), .int .i64 2] wx fun e w' => e = .returned (.int .u64 a4) ∧ wx.setCell ⟨q, 0, none⟩ (.string R5) = w') := Lib.hid fun wx hx => by
    have := num_ok ⟨q, 0, none⟩ R4 2 wx (by rw [wid2, z4]; omega) hx.1 hx.2
    rw [ha4, hR5] at this
    exact this
  have N5 : Hid (∀ wx, wx.cell? ⟨q, 0, none⟩ = some (.string R5) ∧ wx.frozen? ⟨q, 0, none⟩ = false → Calls Try.prog 117 #[.pointer (some ⟨q, 0, none⟩), .int .i64 4] wx fun e w' => e = .returned (.int .u64 a5) ∧ wx.setCell ⟨q, 0, none⟩ (.string R6) = w') := Lib.hid fun wx hx => by
    have := num_ok ⟨q, 0, none⟩ R5 4 wx (by rw [wid4, z5]; omega) hx.1 hx.2
    rw [ha5, hR6] at this
    exact this
  have N6 : Hid (∀ wx, wx.cell? ⟨q, 0, none⟩ = some (.string R6) ∧ wx.frozen? ⟨q, 0, none⟩ = false → Calls Try.prog 117 #[.pointer (some ⟨q, 0, none⟩), .int .i64 2] wx fun e w' => e = .returned (.int .u64 a6) ∧ wx.setCell ⟨q, 0, none⟩ (.string R7) = w') := Lib.hid fun wx hx => by
    have := num_ok ⟨q, 0, none⟩ R6 2 wx (by rw [wid2, z6]; omega) hx.1 hx.2
    rw [ha6, hR7] at this
    exact this
  have HT : Hid (∀ wx, wx.cell? ⟨q, 0, none⟩ = some (.string t) → wx.frozen? ⟨q, 0, none⟩ = false → Calls Try.prog 116 #[.pointer (some ⟨q, 0, none⟩), .int .i64 1] wx fun e w' => e = .returned (.string (t.extract 0 1)) ∧ wx.setCell ⟨q, 0, none⟩ (.string R0) = w') := Lib.hid fun wx a b => by
    have := text_ok ⟨q, 0, none⟩ t 1 wx (by decide) (by omega) a b
    rw [show (1 : Int).toNat = 1 from rfl, hR0] at this
    exact this
  obtain ⟨o2, ho2⟩ : ∃ o2, ((a2 : Int) == 1) = o2 := ⟨_, rfl⟩
  have HEn : Hid ((enOf t.data.toList).cells = #[.int .u32 a0, .int .u32 a1, .bool o2, .int .i64 a3, .int .i64 a4, .int .u32 a5]) := Lib.hid (by
    unfold enOf EN.cells
    dsimp only
    rw [← ho2, ← ha0, ← ha1, ← ha2, ← ha3, ← ha4, ← ha5, wid1, wid2, wid4, l0, l1, l2, l3, l4, l5])
  have HNx : Hid (nxOf t.data.toList = a6) := Lib.hid (by unfold nxOf; rw [← ha6, wid2, l6])
  have HBad : Hid (badEn t.data.toList ↔ (1 < a2 ∨ a0 = 0 ∨ a3 < 1 ∨ 2048 < a3)) := Lib.hid (by
    unfold badEn onOf enOf
    dsimp only
    rw [← ha0, ← ha2, ← ha3, wid1, wid2, wid4, l0, l2, l3])
  have HZy : Hid ((t.data.toList.drop 20).all (· == 0) = true → ∀ wx, wx.cell? ⟨q, 0, none⟩ = some (.string R7) ∧ wx.frozen? ⟨q, 0, none⟩ = false → Calls Try.prog 118 #[.pointer (some ⟨q, 0, none⟩)] wx fun e w' => e = .returned (.tuple #[]) ∧ wx.setCell ⟨q, 0, none⟩ (.string ⟨#[]⟩) = w') := Lib.hid fun hal wx hx => zero_ok ⟨q, 0, none⟩ R7 wx (fun k hk => by
    rw [← l7] at hal
    have := List.all_eq_true.1 hal R7[k] (by
      have e : R7[k] = R7.data.toList[k]'(by simpa using hk) := rfl
      rw [e]
      exact List.getElem_mem _)
    exact eq_of_beq this) (by rw [z7]; decide) hx.1 hx.2
  have HZn : Hid (¬ (t.data.toList.drop 20).all (· == 0) = true → ∀ wx, wx.cell? ⟨q, 0, none⟩ = some (.string R7) ∧ wx.frozen? ⟨q, 0, none⟩ = false → Calls Try.prog 118 #[.pointer (some ⟨q, 0, none⟩)] wx fun e w' => e = failed 1 ∧ wx = w') := Lib.hid fun hal wx hx => by
    rw [← l7] at hal
    obtain ⟨j, hj, hne', hfs⟩ := first_not R7 hal
    exact zero_not ⟨q, 0, none⟩ R7 wx j hj hne' hfs (by rw [z7]; decide) hx.1
  clear l0 z0 l1 z1 l2 z2 l3 z3 l4 z4 l5 z5 l6 z6 l7 z7 z hz ha0 hR1 ha1 hR2 ha2 hR3 ha3 hR4 ha4 hR5 ha5 hR6 ha6 hR7 hR0
  generalize t.extract 0 1 = m at *
  obtain ⟨ZB, hZB⟩ : ∃ ZB, (t.data.toList.drop 20).all (· == 0) = ZB := ⟨_, rfl⟩
  rw [hZB] at HZy HZn ⊢
  clear hZB
  obtain ⟨EC, hEC⟩ : ∃ EC, (enOf t.data.toList).cells = EC := ⟨_, rfl⟩
  rw [hEC] at HEn ⊢
  clear hEC
  obtain ⟨NX, hNX⟩ : ∃ NX, nxOf t.data.toList = NX := ⟨_, rfl⟩
  rw [hNX] at HNx ⊢
  clear hNX
  obtain ⟨BD, hBD⟩ : ∃ BD, badEn t.data.toList = BD := ⟨_, rfl⟩
  have HPo : Hid (∀ (e : Ending) (c : Prop), (ZB = true ∧ ¬ badEn t.data.toList ↔ c) → ((c → e = .returned (.tuple #[.agg EC, .int .i64 NX])) ∧ (¬ c → e = failed 1)) → (if ZB = true ∧ ¬ badEn t.data.toList then e = .returned (.tuple #[.agg EC, .int .i64 NX]) else e = failed 1)) := Lib.hid fun e c hc h => by
    by_cases hh : ZB = true ∧ ¬ badEn t.data.toList
    · rw [if_pos hh]; exact h.1 (hc.1 hh)
    · rw [if_neg hh]; exact h.2 fun x => hh (hc.2 x)
  suffices HSf : Calls Try.prog 84 #[.string s] w fun e w' => ((ZB = true ∧ ¬ BD → e = Ending.returned (.tuple #[.agg EC, .int .i64 NX])) ∧ (¬ (ZB = true ∧ ¬ BD) → e = failed 1)) ∧ Below w.heap.size w w' from HSf.mono (by
    rintro e w' ⟨h1, h2⟩
    exact ⟨HPo.out e _ (by rw [hBD]) h1, h2⟩)
  rw [hBD] at HBad
  clear HPo hBD
  have HAns : Hid (∀ w', Below w.heap.size w w' → (ZB = true ∧ ¬ BD) → ∀ e, e = Ending.returned (.tuple #[.agg EC, .int .i64 NX]) → ((ZB = true ∧ ¬ BD → e = .returned (.tuple #[.agg EC, .int .i64 NX])) ∧ (¬ (ZB = true ∧ ¬ BD) → e = failed 1)) ∧ Below w.heap.size w w') := Lib.hid fun w' hb hc e he => ⟨⟨fun _ => he, fun hn => absurd hc hn⟩, hb⟩
  have HBadE : Hid (∀ w', Below w.heap.size w w' → ¬ (ZB = true ∧ ¬ BD) → ∀ e, e = failed 1 → ((ZB = true ∧ ¬ BD → e = .returned (.tuple #[.agg EC, .int .i64 NX])) ∧ (¬ (ZB = true ∧ ¬ BD) → e = failed 1)) ∧ Below w.heap.size w w') := Lib.hid fun w' hb hc e he => ⟨⟨fun hn => absurd hn hc, fun _ => he⟩, hb⟩
  obtain ⟨PO, hPO⟩ : ∃ PO : Ending → World → Prop, (fun e w' => ((ZB = true ∧ ¬ BD → e = Ending.returned (.tuple #[.agg EC, .int .i64 NX])) ∧ (¬ (ZB = true ∧ ¬ BD) → e = failed 1)) ∧ Below w.heap.size w w') = PO := ⟨_, rfl⟩
  have HAns' : Hid (∀ w', Below w.heap.size w w' → (ZB = true ∧ ¬ BD) → PO (Ending.returned (.tuple #[.agg EC, .int .i64 NX])) w') := Lib.hid fun w' hb hc => by rw [← hPO]; exact HAns.out w' hb hc _ rfl
  have HBad' : Hid (∀ w', Below w.heap.size w w' → ¬ (ZB = true ∧ ¬ BD) → PO (failed 1) w') := Lib.hid fun w' hb hc => by rw [← hPO]; exact HBadE.out w' hb hc _ rfl
  rw [hPO]
  clear hPO HAns HBadE
  go_enter Try.func84, Try.ntmps84
  go_wp2_with fail
  refine HS.out.mono ?_
  rintro e v1 ⟨rfl, hp⟩
  have HP := Lib.hid hp
  clear hp HS
  go_wp2_with fail
  refine (HT.out v1 HP.out.i HP.out.j).mono ?_
  rintro e v2 ⟨rfl, rfl⟩
  have HP2 := Lib.hid (HP.out.eat R0)
  generalize v1.setCell ⟨q, 0, none⟩ (.string R0) = V0 at *
  clear HP HT
  go_upto_region 5 with fail
  have HP0 := Lib.hid HP2.out.make
  clear HP2
  generalize V0.alloc zeroEnt = W0 at *
  generalize V0.heap.size = x at *
  go_wp2_with fail
  refine (N0.out _ HP0.out.in').mono ?_
  rintro e v0 ⟨rfl, rfl⟩
  have HQ0 := Lib.hid (HP0.out.eat R1)
  generalize hW1 : (W0).setCell ⟨q, 0, none⟩ (.string R1) = V1 at *
  clear hW1 HP0 N0
  obtain ⟨⟨c0, c1, c2, c3, c4, c5⟩, ff⟩ := HQ0.out.en
  have f0 := ff 0
  have HP1 := Lib.hid (HQ0.out.put0 (.int .u32 a0))
  clear ff
  go_upto_region 6 with fail
  generalize hU1 : V1.setCell ⟨x, 0, none⟩ (.int .u32 a0) = W1 at *
  clear hU1 c0 c1 c2 c3 c4 c5 f0 HQ0
  go_wp2_with fail
  refine (N1.out _ HP1.out.in').mono ?_
  rintro e v1 ⟨rfl, rfl⟩
  have HQ1 := Lib.hid (HP1.out.eat R2)
  generalize hW2 : (W1).setCell ⟨q, 0, none⟩ (.string R2) = V2 at *
  clear hW2 HP1 N1
  obtain ⟨⟨c0, c1, c2, c3, c4, c5⟩, ff⟩ := HQ1.out.en
  have f1 := ff 1
  have HP2 := Lib.hid (HQ1.out.put1 (.int .u32 a1))
  clear ff
  go_upto_region 7 with fail
  generalize hU2 : V2.setCell ⟨x, 1, none⟩ (.int .u32 a1) = W2 at *
  clear hU2 c0 c1 c2 c3 c4 c5 f1 HQ1
  go_wp2_with fail
  refine (N2.out _ HP2.out.in').mono ?_
  rintro e v2 ⟨rfl, rfl⟩
  have HQ2 := Lib.hid (HP2.out.eat R3)
  generalize hW3 : (W2).setCell ⟨q, 0, none⟩ (.string R3) = V3 at *
  clear hW3 HP2 N2
  obtain ⟨⟨c0, c1, c2, c3, c4, c5⟩, ff⟩ := HQ2.out.en
  have f2 := ff 2
  have HP3 := Lib.hid (HQ2.out.put2 (.bool o2))
  clear ff
  go_upto_region 9 with fail
  generalize hU3 : V3.setCell ⟨x, 2, none⟩ (.bool o2) = W3 at *
  clear hU3 c0 c1 c2 c3 c4 c5 f2 HQ2
  go_wp2_with fail
  refine (N3.out _ HP3.out.in').mono ?_
  rintro e v3 ⟨rfl, rfl⟩
  have HQ3 := Lib.hid (HP3.out.eat R4)
  generalize hW4 : (W3).setCell ⟨q, 0, none⟩ (.string R4) = V4 at *
  clear hW4 HP3 N3
  obtain ⟨⟨c0, c1, c2, c3, c4, c5⟩, ff⟩ := HQ3.out.en
  have f3 := ff 3
  have HP4 := Lib.hid (HQ3.out.put3 (.int .i64 a3))
  clear ff
  go_upto_region 10 with fail
  generalize hU4 : V4.setCell ⟨x, 3, none⟩ (.int .i64 a3) = W4 at *
  clear hU4 c0 c1 c2 c3 c4 c5 f3 HQ3
  go_wp2_with fail
  refine (N4.out _ HP4.out.in').mono ?_
  rintro e v4 ⟨rfl, rfl⟩
  have HQ4 := Lib.hid (HP4.out.eat R5)
  generalize hW5 : (W4).setCell ⟨q, 0, none⟩ (.string R5) = V5 at *
  clear hW5 HP4 N4
  obtain ⟨⟨c0, c1, c2, c3, c4, c5⟩, ff⟩ := HQ4.out.en
  have f4 := ff 4
  have HP5 := Lib.hid (HQ4.out.put4 (.int .i64 a4))
  clear ff
  go_upto_region 11 with fail
  generalize hU5 : V5.setCell ⟨x, 4, none⟩ (.int .i64 a4) = W5 at *
  clear hU5 c0 c1 c2 c3 c4 c5 f4 HQ4
  go_wp2_with fail
  refine (N5.out _ HP5.out.in').mono ?_
  rintro e v5 ⟨rfl, rfl⟩
  have HQ5 := Lib.hid (HP5.out.eat R6)
  generalize hW6 : (W5).setCell ⟨q, 0, none⟩ (.string R6) = V6 at *
  clear hW6 HP5 N5
  obtain ⟨⟨c0, c1, c2, c3, c4, c5⟩, ff⟩ := HQ5.out.en
  have f5 := ff 5
  have HP6 := Lib.hid (HQ5.out.put5 (.int .u32 a5))
  clear ff
  go_upto_region 12 with fail
  generalize hU6 : V6.setCell ⟨x, 5, none⟩ (.int .u32 a5) = W6 at *
  clear hU6 c0 c1 c2 c3 c4 c5 f5 HQ5
  go_wp2_with fail
  refine (N6.out _ HP6.out.in').mono ?_
  rintro e v6 ⟨rfl, rfl⟩
  have HQ6 := Lib.hid (HP6.out.eat R7)
  generalize hW7 : (W6).setCell ⟨q, 0, none⟩ (.string R7) = V7 at *
  clear hW7 HP6 N6
  have HP7 := HQ6
  clear HQ6
  obtain ⟨W7, hWW⟩ : ∃ W7, V7 = W7 := ⟨_, rfl⟩
  rw [hWW] at HP7 ⊢
  clear hWW
  by_cases hzb : ZB = true
  case neg =>
    have HZ := Lib.hid (HZn.out hzb)
    have HZB := Lib.hid hzb
    clear hzb HZy HZn
    go_wp2_with fail
    refine (HZ.out _ HP7.out.in').mono ?_
    rintro e v ⟨rfl, rfl⟩
    unfold failed
    go_wp2_with fail
    exact ⟨rfl, HBad'.out _ HP7.out.below fun hh => HZB.out hh.1⟩
  case pos =>
    have HZ := Lib.hid (HZy.out hzb)
    have HZB := Lib.hid hzb
    clear hzb HZy HZn
    go_wp2_with fail
    refine (HZ.out _ HP7.out.in').mono ?_
    rintro e v ⟨rfl, rfl⟩
    have HQ7 := Lib.hid (HP7.out.eat ⟨#[]⟩)
    generalize hW8 : (W7).setCell ⟨q, 0, none⟩ (.string ⟨#[]⟩) = V8 at *
    clear hW8 HP7 HZ
    obtain ⟨⟨c0, c1, c2, c3, c4, c5⟩, _⟩ := HQ7.out.en
    have HFail : Hid (BD → Below w.heap.size w V8 → PO (failed 1) V8) := Lib.hid fun hb hw => HBad'.out V8 hw fun hh => hh.2 hb
    by_cases k1 : 1 < a2
    · have i1 : (1 : Int) < (a2 : Int) := by omega
      have HBx := Lib.hid (HBad.out.2 (Or.inl k1))
      clear k1
      go_wp2_with fail
      refine (fail_any 1 _).mono ?_
      rintro e v ⟨rfl, rfl⟩
      unfold failed
      go_wp2_with fail
      exact ⟨rfl, HFail.out HBx.out HQ7.out.below⟩
    have i1 : ¬ (1 : Int) < (a2 : Int) := by omega
    by_cases k2 : a0 = 0
    · have i2 : ((a0 : Int) == 0) = true := by rw [beq_iff_eq]; omega
      have HBx := Lib.hid (HBad.out.2 (Or.inr (Or.inl k2)))
      clear k2 k1
      go_wp2_with fail
      refine (fail_any 1 _).mono ?_
      rintro e v ⟨rfl, rfl⟩
      unfold failed
      go_wp2_with fail
      exact ⟨rfl, HFail.out HBx.out HQ7.out.below⟩
    have i2 : ((a0 : Int) == 0) = false := by rw [beq_eq_false_iff_ne]; omega
    by_cases k3 : a3 < 1
    · have i3 : (a3 : Int) < 1 := by omega
      have HBx := Lib.hid (HBad.out.2 (Or.inr (Or.inr (Or.inl k3))))
      clear k3 k2 k1
      go_wp2_with fail
      refine (fail_any 1 _).mono ?_
      rintro e v ⟨rfl, rfl⟩
      unfold failed
      go_wp2_with fail
      exact ⟨rfl, HFail.out HBx.out HQ7.out.below⟩
    have i3 : ¬ (a3 : Int) < 1 := by omega
    by_cases k4 : 2048 < a3
    · have i4 : (2048 : Int) < (a3 : Int) := by omega
      have HBx := Lib.hid (HBad.out.2 (Or.inr (Or.inr (Or.inr k4))))
      clear k4 k3 k2 k1
      go_wp2_with fail
      refine (fail_any 1 _).mono ?_
      rintro e v ⟨rfl, rfl⟩
      unfold failed
      go_wp2_with fail
      exact ⟨rfl, HFail.out HBx.out HQ7.out.below⟩
    have i4 : ¬ (2048 : Int) < (a3 : Int) := by omega
    have HGood : Hid (ZB = true ∧ ¬ BD) := Lib.hid ⟨HZB.out, fun hb => by
      rcases HBad.out.1 hb with h | h | h | h
      · exact k1 h
      · exact k2 h
      · exact k3 h
      · exact k4 h⟩
    clear k1 k2 k3 k4
    go_upto_region 16 with fail
    obtain ⟨y0, y1, y2, y3, y4, y5⟩ := six HQ7.out.z
    have fz : ∀ k, V8.frozen? ⟨w.heap.size, k, none⟩ = false := fun k => by have := HQ7.out.z; simp [World.frozen?, this]
    have g0 := fz 0
    have g1 := fz 1
    have g2 := fz 2
    have g3 := fz 3
    have g4 := fz 4
    have g5 := fz 5
    have HQ := Lib.hid (ent_set HQ7.out.z (.int .u32 a0) (.int .u32 a1) (.bool o2) (.int .i64 a3) (.int .i64 a4) (.int .u32 a5))
    clear fz
    go_wp2_with fail
    refine bodyPost_ret (results_two rfl _ _ w.heap.size _ _ _ _ rfl HQ.out Try.underlying58 entSize) rfl ?_
    have hbs : ∀ wx, Below w.heap.size w wx → ∀ k v, Below w.heap.size w (wx.setCell ⟨w.heap.size, k, none⟩ v) := fun wx h k v => h.setCell (Nat.le_refl _) v
    have hA := HAns'.out _ (hbs _ (hbs _ (hbs _ (hbs _ (hbs _ (hbs _ HQ7.out.below 0 (.int .u32 a0)) 1 (.int .u32 a1)) 2 (.bool o2)) 3 (.int .i64 a3)) 4 (.int .i64 a4)) 5 (.int .u32 a5)) HGood.out
    rw [HEn.out, HNx.out] at hA
    exact hA
end Go.Proofs.Ytjjmapmombhmlaa
