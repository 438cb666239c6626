/-
  The document's Parse of an entry: a contract.
-/
import Derived.Test.YtemnkffaapljpaaCatRefs
namespace Go.Proofs.Ytemnkffaapljpaa
open Go.RowKit

theorem enOf_fits (A : List UInt8) : (enOf A).fits := ⟨num_u32 _, num_u32 _, num2_lt _, num2_lt _, num_u32 _⟩
theorem nxOf_lt (A : List UInt8) : nxOf A < 65536 := num2_lt _
theorem entr_ret (w : World) (a b c d e f : Value) : (w.alloc (.cells #[a, b, c, d, e, f] 63)).heap[w.heap.size]? = some (.cells #[a, b, c, d, e, f] 63) := heap_alloc_new w _
theorem entr_below (w : World) (a b c d e f : Value) : Below w.heap.size w (w.alloc (.cells #[a, b, c, d, e, f] 63)) := (Below.refl _ _).alloc (Nat.le_refl _) _
theorem ext_size (S : ByteArray) (a b : Nat) : (S.extract a b).size ≤ b - a := by rw [ByteArray.size_extract]; omega
theorem ahead_cut (s : ByteArray) (k n : Nat) (h : k + n ≤ 60) : ((ahead s).data.toList.drop k).take n = (s.data.toList.drop k).take n := by
  rw [ahead_list, List.drop_take, List.take_take, Nat.min_eq_left (by omega)]
theorem num_at (s : ByteArray) (k : Nat) (h : k < s.size) : (s[k]'h).toNat = num ((s.data.toList.drop k).take 1) := by
  have hl : k < s.data.toList.length := by simpa using h
  rw [List.drop_eq_getElem_cons hl, List.take_succ_cons, List.take_zero]
  simp [num]
  rfl
/-- the bytes of what a text says -/
def saidT (s : ByteArray) : ByteArray := ⟨(sealed ((enOf (ahead s).data.toList).text (nxOf (ahead s).data.toList))).toArray⟩
theorem catE_good (s : ByteArray) (h : 64 ≤ s.size) (hc : saysSum s = C.Crc.sum (ahead s).data.toList) : catE s = if saidT s = s ∧ ¬ badO (enOf (ahead s).data.toList) then none else some 1 := by
  have hA : (ahead s).data.toList.length = 60 := by
    rw [ahead_list, List.length_take]
    have : s.data.toList.length = s.size := by simp
    omega
  have hsz : (saidT s).size = 64 := by
    show (sealed _).toArray.size = 64
    rw [List.size_toArray]
    unfold sealed
    rw [List.length_append, padTo_len _ (by rw [EN.text_len]; decide), enc_len]
  unfold catE
  rw [if_neg (by omega), if_neg (fun e => e hc)]
  by_cases h2 : 64 < s.size
  · rw [if_pos h2, if_neg]
    rintro ⟨e, _⟩
    rw [e] at hsz
    omega
  · rw [if_neg h2]
    have h1 : s.size = 64 := by omega
    have hi : (saidT s = s ∧ ¬ badO (enOf (ahead s).data.toList)) ↔ ((ahead s).data.toList.take 1 = [86] ∧ ((ahead s).data.toList.drop 20).all (· == 0) = true ∧ ¬ badEn (ahead s).data.toList) := by
      unfold saidT
      rw [sealed_same s h1 hc, same_text _ hA]
      unfold badEn badO
      constructor
      · rintro ⟨⟨a, b, c⟩, d⟩
        refine ⟨a, b, ?_⟩
        rintro (e | e)
        · omega
        · exact d e
      · rintro ⟨a, b, d⟩
        exact ⟨⟨a, b, by
          have := fun e => d (Or.inl e)
          omega⟩, fun e => d (Or.inr e)⟩
    by_cases hg : saidT s = s ∧ ¬ badO (enOf (ahead s).data.toList)
    · rw [if_pos hg, if_pos (hi.1 hg)]
    · rw [if_neg hg, if_neg fun e => hg (hi.2 e)]
theorem enc_says (s : ByteArray) (h : 64 ≤ s.size) : ((⟨(enc (C.Crc.sum (ahead s).data.toList) 4).toArray⟩ : ByteArray) = s.extract 60 64) ↔ saysSum s = C.Crc.sum (ahead s).data.toList := by
  have hl : s.data.toList.length = s.size := by simp
  have e1 : (s.extract 60 64).data.toList = (s.data.toList.drop 60).take 4 := ext_list s 60 64
  have e2 : saysSum s = num ((s.data.toList.drop 60).take 4) := by unfold saysSum; rw [ext_end]
  have hz : ((s.data.toList.drop 60).take 4).length = 4 := by rw [List.length_take, List.length_drop]; omega
  rw [e2]
  constructor
  · intro e
    have e3 : enc (C.Crc.sum (ahead s).data.toList) 4 = (s.data.toList.drop 60).take 4 := by rw [← e1, ← e]
    rw [← e3, num_enc]
    exact Nat.mod_eq_of_lt (crc_lt _)
  · intro e
    apply ByteArray.ext
    apply Array.toList_inj.mp
    rw [e1, ← e, enc_num _ 4 hz]
set_option maxRecDepth 10000 in
set_option maxHeartbeats 2000000 in
/-- too short, or with another sum -/
theorem refCatP_short (s : ByteArray) (h : s.size < 64) (w : World) :
    Calls Try.prog 51 #[.string s] w fun e w' => e = .returned (.tuple #[.agg EN.none.told, .int .i64 0, .int .i64 2]) ∧ Below w.heap.size w w' := by
  have i0 : (s.size : Int) < 64 := by omega
  clear h
  go_enter Try.func51, Try.ntmps51
  go_wp2_with fail
  refine bodyPost_ret (results_cell_tmps rfl _ _ w.heap.size _ _ _ _ rfl (entr_ret w _ _ _ _ _ _) Try.underlying63 entrSize) rfl ?_
  exact ⟨rfl, entr_below w _ _ _ _ _ _⟩
set_option maxRecDepth 10000 in
set_option maxHeartbeats 2000000 in
theorem refCatP_sum (s : ByteArray) (hs : s.size ≤ 1000) (h : 64 ≤ s.size) (hc : saysSum s ≠ C.Crc.sum (ahead s).data.toList) (w : World) :
    Calls Try.prog 51 #[.string s] w fun e w' => e = .returned (.tuple #[.agg EN.none.told, .int .i64 0, .int .i64 11]) ∧ Below w.heap.size w w' := by
  have i0 : ¬ (s.size : Int) < 64 := by omega
  have i1 : (60 : Int) ≤ (s.size : Int) := by omega
  have i2 : (64 : Int) ≤ (s.size : Int) := by omega
  have HS : Hid (∀ wx : World, Calls Try.prog 50 #[.string (s.extract 0 60)] wx fun e w' => e = .returned (.int .i64 (C.Crc.sum (ahead s).data.toList : Nat)) ∧ wx = w') := Lib.hid fun wx => C.ref_any (s.extract 0 60) wx (by rw [ByteArray.size_extract]; unfold maxLen; omega)
  have u1 := u32_as_u64 (C.Crc.sum (ahead s).data.toList) (crc_lt _)
  have HN := Lib.hid fun wx => refNum_any (C.Crc.sum (ahead s).data.toList) 4 wx (by have := crc_lt (ahead s).data.toList; omega)
  rw [wid4] at HN
  have hne : ((⟨(enc (C.Crc.sum (ahead s).data.toList) 4).toArray⟩ : ByteArray).toList == (s.extract 60 64).toList) = false := by
    rw [beq_eq_false_iff_ne, ByteArray.toList_eq, ByteArray.toList_eq]
    intro e
    exact hc ((enc_says s h).1 (ByteArray.ext (Array.toList_inj.mp e)))
  clear hc h hs
  generalize C.Crc.sum (ahead s).data.toList = K at *
  generalize (⟨(enc K 4).toArray⟩ : ByteArray) = E4 at *
  go_enter Try.func51, Try.ntmps51
  go_wp2_with fail
  have hs1 : (w.alloc (.cells #[.int .i64 0, .int .i64 0, .bool false, .int .i64 0, .int .i64 0, .int .i64 0] 63)).heap.size = w.heap.size + 1 := by simp
  have HB := Lib.hid (entr_below w (.int .i64 0) (.int .i64 0) (.bool false) (.int .i64 0) (.int .i64 0) (.int .i64 0))
  have HR := Lib.hid (entr_ret w (.int .i64 0) (.int .i64 0) (.bool false) (.int .i64 0) (.int .i64 0) (.int .i64 0))
  have HZ := Lib.hid hs1
  clear hs1
  generalize w.alloc (.cells #[.int .i64 0, .int .i64 0, .bool false, .int .i64 0, .int .i64 0, .int .i64 0] 63) = W at *
  go_region_held3 (fun _ => True) (exact trivial) (first
    | (go_at_call 50; refine (HS.out _).mono ?_; rintro e w' ⟨rfl, rfl⟩)
    | (go_at_call 49; refine (HN.out _).mono ?_; rintro e w1 ⟨rfl, hb1⟩; (have HB1 := Lib.hid hb1); clear hb1))
  all_goals
    have hr1 : w1.heap[w.heap.size]? = some (.cells #[.int .i64 0, .int .i64 0, .bool false, .int .i64 0, .int .i64 0, .int .i64 0] 63) := by
      rw [HB1.out.block _ (by show w.heap.size < W.heap.size; have := HZ.out; omega)]
      exact HR.out
    have HB2 := Lib.hid (HB.out.drew.trans (HB1.out.mono (by show w.heap.size ≤ W.heap.size; have := HZ.out; omega)))
    obtain ⟨⟨y0, y1, y2, y3, y4, y5⟩, g0, g1, g2, g3, g4, g5⟩ := ent_cells hr1
    have HQ := Lib.hid (ent_set hr1 (.int .i64 0) (.int .i64 0) (.bool false) (.int .i64 0) (.int .i64 0) (.int .i64 0))
    clear hr1 HB1 HR HZ HB
    go_wp2_with fail
    refine bodyPost_ret (results_cell_tmps rfl _ _ w.heap.size _ _ _ _ rfl HQ.out Try.underlying63 entrSize) rfl ?_
    exact ⟨rfl, (((((HB2.out.setCell (Nat.le_refl _) _).setCell (Nat.le_refl _) _).setCell (Nat.le_refl _) _).setCell (Nat.le_refl _) _).setCell (Nat.le_refl _) _).setCell (Nat.le_refl _) _⟩
set_option maxRecDepth 10000 in
set_option maxHeartbeats 4000000 in
theorem refCatP_read (s : ByteArray) (hs : s.size ≤ 1000) (h : 64 ≤ s.size) (hc : saysSum s = C.Crc.sum (ahead s).data.toList) (w : World) (R : Ending → World → Prop)
    (hok : saidT s = s ∧ ¬ badO (enOf (ahead s).data.toList) → ∀ w', Below w.heap.size w w' → R (.returned (.tuple #[.agg (enOf (ahead s).data.toList).told, .int .i64 (nxOf (ahead s).data.toList), .int .i64 0])) w')
    (hbad : ¬ (saidT s = s ∧ ¬ badO (enOf (ahead s).data.toList)) → ∀ w', Below w.heap.size w w' → R (.returned (.tuple #[.agg #[.int .i64 0, .int .i64 0, .bool false, .int .i64 0, .int .i64 0, .int .i64 0], .int .i64 0, .int .i64 1])) w') :
    Calls Try.prog 51 #[.string s] w R := by
  have i0 : ¬ (s.size : Int) < 64 := by omega
  have j1 : (1 : Int) ≤ (s.size : Int) := by omega
  have j5 : (5 : Int) ≤ (s.size : Int) := by omega
  have j9 : (9 : Int) ≤ (s.size : Int) := by omega
  have j9' : (9 : Int) < (s.size : Int) := by omega
  have j10 : (10 : Int) ≤ (s.size : Int) := by omega
  have j12 : (12 : Int) ≤ (s.size : Int) := by omega
  have j14 : (14 : Int) ≤ (s.size : Int) := by omega
  have j18 : (18 : Int) ≤ (s.size : Int) := by omega
  have j20 : (20 : Int) ≤ (s.size : Int) := by omega
  have i1 : (60 : Int) ≤ (s.size : Int) := by omega
  have i2 : (64 : Int) ≤ (s.size : Int) := by omega
  have HS : Hid (∀ wx : World, Calls Try.prog 50 #[.string (s.extract 0 60)] wx fun e w' => e = .returned (.int .i64 (C.Crc.sum (ahead s).data.toList : Nat)) ∧ wx = w') := Lib.hid fun wx => C.ref_any (s.extract 0 60) wx (by rw [ByteArray.size_extract]; unfold maxLen; omega)
  have u1 := u32_as_u64 (C.Crc.sum (ahead s).data.toList) (crc_lt _)
  have HN := Lib.hid fun wx => refNum_any (C.Crc.sum (ahead s).data.toList) 4 wx (by have := crc_lt (ahead s).data.toList; omega)
  rw [wid4] at HN
  have hne : ((⟨(enc (C.Crc.sum (ahead s).data.toList) 4).toArray⟩ : ByteArray).toList == (s.extract 60 64).toList) = true := by
    rw [beq_iff_eq, (enc_says s h).2 hc]
  have HNum : ∀ a b, b - a ≤ 6 → b ≤ 60 → ∀ wx : World, Calls Try.prog 105 #[.string (s.extract a b)] wx fun e w' => e = .returned (.int .i64 (num (((ahead s).data.toList.drop a).take (b - a)) : Nat)) ∧ wx = w' := fun a b h1 h2 wx => by
    have := number15_any (s.extract a b) (Nat.le_trans (ext_size s a b) h1) wx
    rw [ext_list] at this
    by_cases hab : a ≤ b
    · rw [ahead_cut s a (b - a) (by omega)]
      exact this
    · rw [show b - a = 0 by omega] at this ⊢
      exact this
  have HN1 := Lib.hid (HNum 1 5 (by decide) (by decide))
  have HN2 := Lib.hid (HNum 5 9 (by decide) (by decide))
  have HN3 := Lib.hid (HNum 10 12 (by decide) (by decide))
  have HN4 := Lib.hid (HNum 12 14 (by decide) (by decide))
  have HN5 := Lib.hid (HNum 14 18 (by decide) (by decide))
  have HN6 := Lib.hid (HNum 18 20 (by decide) (by decide))
  have hq9 : 9 < s.size := Nat.lt_of_lt_of_le (by decide) h
  have h9 : (s[9]'hq9).toNat = num (((ahead s).data.toList.drop 9).take 1) := by
    rw [ahead_cut s 9 1 (by omega)]
    exact num_at s 9 hq9
  have HB := Lib.hid fun wx => refCatBytes_any (enOf (ahead s).data.toList) (enOf_fits _) (nxOf (ahead s).data.toList) (nxOf_lt _) wx
  have HT : Hid ((enOf (ahead s).data.toList).told = #[.int .i64 (num (((ahead s).data.toList.drop 1).take (5 - 1)) : Nat), .int .i64 (num (((ahead s).data.toList.drop 5).take (9 - 5)) : Nat), .bool (((num (((ahead s).data.toList.drop 9).take 1) : Nat) : Int) == 1), .int .i64 (num (((ahead s).data.toList.drop 10).take (12 - 10)) : Nat), .int .i64 (num (((ahead s).data.toList.drop 12).take (14 - 12)) : Nat), .int .i64 (num (((ahead s).data.toList.drop 14).take (18 - 14)) : Nat)]) := Lib.hid rfl
  have HX : Hid (nxOf (ahead s).data.toList = num (((ahead s).data.toList.drop 18).take (20 - 18))) := Lib.hid rfl
  have HBad : Hid (badO (enOf (ahead s).data.toList) ↔ num (((ahead s).data.toList.drop 1).take (5 - 1)) = 0 ∨ num (((ahead s).data.toList.drop 10).take (12 - 10)) < 1 ∨ 2048 < num (((ahead s).data.toList.drop 10).take (12 - 10))) := Lib.hid Iff.rfl
  rw [HT.out, HX.out] at HB hok
  have HSaid : Hid ((⟨(sealed ((enOf (ahead s).data.toList).text (num (((ahead s).data.toList.drop 18).take (20 - 18))))).toArray⟩ : ByteArray) = saidT s) := Lib.hid rfl
  rw [HSaid.out] at HB
  have HOk := Lib.hid hok
  have HNo := Lib.hid hbad
  clear hc hs HNum HT HX HSaid hok hbad
  generalize badO (enOf (ahead s).data.toList) = BAD at *
  generalize saidT s = TX at *
  generalize num (((ahead s).data.toList.drop 1).take (5 - 1)) = a0 at *
  generalize num (((ahead s).data.toList.drop 5).take (9 - 5)) = a1 at *
  generalize num (((ahead s).data.toList.drop 9).take 1) = b9 at *
  generalize num (((ahead s).data.toList.drop 10).take (12 - 10)) = a3 at *
  generalize num (((ahead s).data.toList.drop 12).take (14 - 12)) = a4 at *
  generalize num (((ahead s).data.toList.drop 14).take (18 - 14)) = a5 at *
  generalize num (((ahead s).data.toList.drop 18).take (20 - 18)) = nx at *
  generalize C.Crc.sum (ahead s).data.toList = K at *
  generalize (⟨(enc K 4).toArray⟩ : ByteArray) = E4 at *
  go_enter Try.func51, Try.ntmps51
  go_wp2_with fail
  have hs1 : (w.alloc (.cells #[.int .i64 0, .int .i64 0, .bool false, .int .i64 0, .int .i64 0, .int .i64 0] 63)).heap.size = w.heap.size + 1 := by simp
  have HB0 := Lib.hid (entr_below w (.int .i64 0) (.int .i64 0) (.bool false) (.int .i64 0) (.int .i64 0) (.int .i64 0))
  have HR := Lib.hid (entr_ret w (.int .i64 0) (.int .i64 0) (.bool false) (.int .i64 0) (.int .i64 0) (.int .i64 0))
  have HZ := Lib.hid hs1
  clear hs1
  generalize w.alloc (.cells #[.int .i64 0, .int .i64 0, .bool false, .int .i64 0, .int .i64 0, .int .i64 0] 63) = W at *
  go_region_held3 (fun _ => True) (exact trivial) (first
    | (go_at_call 50; refine (HS.out _).mono ?_; rintro e w' ⟨rfl, rfl⟩)
    | (go_at_call 49; refine (HN.out _).mono ?_; rintro e w1 ⟨rfl, hb1⟩; (have HB1 := Lib.hid hb1); clear hb1))
  have HR1 : Hid (w1.heap[w.heap.size]? = some (.cells #[.int .i64 0, .int .i64 0, .bool false, .int .i64 0, .int .i64 0, .int .i64 0] 63)) := Lib.hid (by
    rw [HB1.out.block _ (by show w.heap.size < W.heap.size; have := HZ.out; omega)]
    exact HR.out)
  have HB2 := Lib.hid (HB0.out.drew.trans (HB1.out.mono (by show w.heap.size ≤ W.heap.size; have := HZ.out; omega)))
  have HZ1 : Hid (w.heap.size < w1.heap.size) := Lib.hid (Nat.lt_of_lt_of_le (by have := HZ.out; omega) (show W.heap.size ≤ w1.heap.size from HB1.out.size))
  clear HB1 HR HZ HB0 HS HN u1 hne
  have HQ : Hid ((w1.alloc (.cells #[.int .i64 a0, .int .i64 a1, .bool ((b9 : Int) == 1), .int .i64 a3, .int .i64 a4, .int .i64 a5] 63)).drew.heap[w1.heap.size]? = some (.cells #[.int .i64 a0, .int .i64 a1, .bool ((b9 : Int) == 1), .int .i64 a3, .int .i64 a4, .int .i64 a5] 63)) := Lib.hid (by rw [heap_drew]; exact heap_alloc_new w1 _)
  have HBq : Hid (Below w.heap.size w (w1.alloc (.cells #[.int .i64 a0, .int .i64 a1, .bool ((b9 : Int) == 1), .int .i64 a3, .int .i64 a4, .int .i64 a5] 63)).drew) := Lib.hid (HB2.out.alloc HB2.out.size _).drew
  have HRq : Hid ((w1.alloc (.cells #[.int .i64 a0, .int .i64 a1, .bool ((b9 : Int) == 1), .int .i64 a3, .int .i64 a4, .int .i64 a5] 63)).drew.heap[w.heap.size]? = some (.cells #[.int .i64 0, .int .i64 0, .bool false, .int .i64 0, .int .i64 0, .int .i64 0] 63)) := Lib.hid (by rw [heap_drew, Below.heap_alloc _ _ _ HZ1.out]; exact HR1.out)
  have HSq : Hid ((w1.alloc (.cells #[.int .i64 a0, .int .i64 a1, .bool ((b9 : Int) == 1), .int .i64 a3, .int .i64 a4, .int .i64 a5] 63)).drew.heap.size = w1.heap.size + 1) := Lib.hid (by rw [heap_drew]; simp)
  go_upto_region 5 with fail
  obtain ⟨W5, hW5⟩ : ∃ W5, (w1.alloc (.cells #[.int .i64 a0, .int .i64 a1, .bool ((b9 : Int) == 1), .int .i64 a3, .int .i64 a4, .int .i64 a5] 63)).drew = W5 := ⟨_, rfl⟩
  rw [hW5] at HQ HBq HRq HSq
  have HW5 := Lib.hid hW5
  clear hW5
  go_cut [5] (fun p wx => p = .pointer (some ⟨w1.heap.size, 0, none⟩) ∧ wx = W5)
  case first =>
    refine wp_region_held_drew (S := fun _ => True) (by kernel_rfl) trivial (fun hHeld => ?_)
    refine wpAnyH_take (i := 0) (oi := { dst := some 20, op := Op.move (Operand.tmp 0), type := 9, pos := "ref.go:49", after := #[], guard := none }) (v := ?_) rfl (by kernel_rfl) (by kernel_rfl) (by kernel_rfl) (fun _ _ _ h => h) (Or.inl ⟨by rfl, ?_⟩) (by assumption) ?_
    rotate_left
    · (intro wz hSw; (try dsimp only at hSw); go_simp; try with_reducible rfl)
    try simp only [Act.put, List.setIfInBounds_toArray, List.set_cons_zero, List.set_cons_succ]
    refine wpAnyH_take (i := 1) (oi := { dst := some 21, op := Op.slice 9 (Operand.tmp 20) (some (Operand.const (Value.int IntKind.i64 1))) (some (Operand.const (Value.int IntKind.i64 5))) none, type := 9, pos := "ref.go:49", after := #[{ on := 0, ground := Ground.data }], guard := none }) (v := ?_) rfl (by kernel_rfl) (by kernel_rfl) (by kernel_rfl) (fun _ _ _ h => h) (Or.inl ⟨by rfl, ?_⟩) (by assumption) ?_
    rotate_left
    · (intro wz hSw; (try dsimp only at hSw); go_simp; try with_reducible rfl)
    try simp only [Act.put, List.setIfInBounds_toArray, List.set_cons_zero, List.set_cons_succ]
    refine wpAnyH_take (i := 3) (oi := { dst := some 23, op := Op.move (Operand.tmp 0), type := 9, pos := "ref.go:49", after := #[], guard := none }) (v := ?_) rfl (by kernel_rfl) (by kernel_rfl) (by kernel_rfl) (fun _ _ _ h => h) (Or.inl ⟨by rfl, ?_⟩) (by assumption) ?_
    rotate_left
    · (intro wz hSw; (try dsimp only at hSw); go_simp; try with_reducible rfl)
    try simp only [Act.put, List.setIfInBounds_toArray, List.set_cons_zero, List.set_cons_succ]
    refine wpAnyH_take (i := 4) (oi := { dst := some 24, op := Op.slice 9 (Operand.tmp 23) (some (Operand.const (Value.int IntKind.i64 5))) (some (Operand.const (Value.int IntKind.i64 9))) none, type := 9, pos := "ref.go:49", after := #[{ on := 3, ground := Ground.data }], guard := none }) (v := ?_) rfl (by kernel_rfl) (by kernel_rfl) (by kernel_rfl) (fun _ _ _ h => h) (Or.inl ⟨by rfl, ?_⟩) (by assumption) ?_
    rotate_left
    · (intro wz hSw; (try dsimp only at hSw); go_simp; try with_reducible rfl)
    try simp only [Act.put, List.setIfInBounds_toArray, List.set_cons_zero, List.set_cons_succ]
    refine wpAnyH_take (i := 6) (oi := { dst := some 26, op := Op.move (Operand.tmp 0), type := 9, pos := "ref.go:49", after := #[], guard := none }) (v := ?_) rfl (by kernel_rfl) (by kernel_rfl) (by kernel_rfl) (fun _ _ _ h => h) (Or.inl ⟨by rfl, ?_⟩) (by assumption) ?_
    rotate_left
    · (intro wz hSw; (try dsimp only at hSw); go_simp; try with_reducible rfl)
    try simp only [Act.put, List.setIfInBounds_toArray, List.set_cons_zero, List.set_cons_succ]
    refine wpAnyH_take (i := 7) (oi := { dst := some 27, op := Op.index 9 (Operand.tmp 26) (Operand.const (Value.int IntKind.i64 9)), type := 5, pos := "ref.go:49", after := #[{ on := 6, ground := Ground.data }], guard := none }) (v := ?_) rfl (by kernel_rfl) (by kernel_rfl) (by kernel_rfl) (fun _ _ _ h => h) (Or.inl ⟨by rfl, ?_⟩) (by assumption) ?_
    rotate_left
    · (intro wz hSw; (try dsimp only at hSw); go_simp; try with_reducible rfl)
    try simp only [Act.put, List.setIfInBounds_toArray, List.set_cons_zero, List.set_cons_succ]
    refine wpAnyH_take (i := 8) (oi := { dst := some 28, op := Op.binOp BinOp.eql 5 (Operand.tmp 27) (Operand.const (Value.int IntKind.u8 1)) 5, type := 4, pos := "ref.go:49", after := #[{ on := 7, ground := Ground.data }], guard := none }) (v := ?_) rfl (by kernel_rfl) (by kernel_rfl) (by kernel_rfl) (fun _ _ _ h => h) (Or.inl ⟨by rfl, ?_⟩) (by assumption) ?_
    rotate_left
    · (intro wz hSw; (try dsimp only at hSw); go_simp; try with_reducible rfl)
    try simp only [Act.put, List.setIfInBounds_toArray, List.set_cons_zero, List.set_cons_succ]
    refine wpAnyH_take (i := 9) (oi := { dst := some 29, op := Op.move (Operand.tmp 0), type := 9, pos := "ref.go:49", after := #[], guard := none }) (v := ?_) rfl (by kernel_rfl) (by kernel_rfl) (by kernel_rfl) (fun _ _ _ h => h) (Or.inl ⟨by rfl, ?_⟩) (by assumption) ?_
    rotate_left
    · (intro wz hSw; (try dsimp only at hSw); go_simp; try with_reducible rfl)
    try simp only [Act.put, List.setIfInBounds_toArray, List.set_cons_zero, List.set_cons_succ]
    refine wpAnyH_take (i := 10) (oi := { dst := some 30, op := Op.slice 9 (Operand.tmp 29) (some (Operand.const (Value.int IntKind.i64 10))) (some (Operand.const (Value.int IntKind.i64 12))) none, type := 9, pos := "ref.go:49", after := #[{ on := 9, ground := Ground.data }], guard := none }) (v := ?_) rfl (by kernel_rfl) (by kernel_rfl) (by kernel_rfl) (fun _ _ _ h => h) (Or.inl ⟨by rfl, ?_⟩) (by assumption) ?_
    rotate_left
    · (intro wz hSw; (try dsimp only at hSw); go_simp; try with_reducible rfl)
    try simp only [Act.put, List.setIfInBounds_toArray, List.set_cons_zero, List.set_cons_succ]
    refine wpAnyH_take (i := 12) (oi := { dst := some 32, op := Op.move (Operand.tmp 0), type := 9, pos := "ref.go:49", after := #[], guard := none }) (v := ?_) rfl (by kernel_rfl) (by kernel_rfl) (by kernel_rfl) (fun _ _ _ h => h) (Or.inl ⟨by rfl, ?_⟩) (by assumption) ?_
    rotate_left
    · (intro wz hSw; (try dsimp only at hSw); go_simp; try with_reducible rfl)
    try simp only [Act.put, List.setIfInBounds_toArray, List.set_cons_zero, List.set_cons_succ]
    refine wpAnyH_take (i := 13) (oi := { dst := some 33, op := Op.slice 9 (Operand.tmp 32) (some (Operand.const (Value.int IntKind.i64 12))) (some (Operand.const (Value.int IntKind.i64 14))) none, type := 9, pos := "ref.go:49", after := #[{ on := 12, ground := Ground.data }], guard := none }) (v := ?_) rfl (by kernel_rfl) (by kernel_rfl) (by kernel_rfl) (fun _ _ _ h => h) (Or.inl ⟨by rfl, ?_⟩) (by assumption) ?_
    rotate_left
    · (intro wz hSw; (try dsimp only at hSw); go_simp; try with_reducible rfl)
    try simp only [Act.put, List.setIfInBounds_toArray, List.set_cons_zero, List.set_cons_succ]
    refine wpAnyH_take (i := 15) (oi := { dst := some 35, op := Op.move (Operand.tmp 0), type := 9, pos := "ref.go:49", after := #[], guard := none }) (v := ?_) rfl (by kernel_rfl) (by kernel_rfl) (by kernel_rfl) (fun _ _ _ h => h) (Or.inl ⟨by rfl, ?_⟩) (by assumption) ?_
    rotate_left
    · (intro wz hSw; (try dsimp only at hSw); go_simp; try with_reducible rfl)
    try simp only [Act.put, List.setIfInBounds_toArray, List.set_cons_zero, List.set_cons_succ]
    refine wpAnyH_take (i := 16) (oi := { dst := some 36, op := Op.slice 9 (Operand.tmp 35) (some (Operand.const (Value.int IntKind.i64 14))) (some (Operand.const (Value.int IntKind.i64 18))) none, type := 9, pos := "ref.go:49", after := #[{ on := 15, ground := Ground.data }], guard := none }) (v := ?_) rfl (by kernel_rfl) (by kernel_rfl) (by kernel_rfl) (fun _ _ _ h => h) (Or.inl ⟨by rfl, ?_⟩) (by assumption) ?_
    rotate_left
    · (intro wz hSw; (try dsimp only at hSw); go_simp; try with_reducible rfl)
    try simp only [Act.put, List.setIfInBounds_toArray, List.set_cons_zero, List.set_cons_succ]
    refine wpAnyH_ready (rs := [2, 19]) (by kernel_rfl) (by simp) ?_
    refine AllReadyH.cons (o := { dst := some 22, op := Op.call { callee := Callee.value (Operand.func 105), args := #[Operand.tmp 21], argTypes := #[9] }, type := 3, pos := "ref.go:49", after := #[{ on := 1, ground := Ground.data }], guard := none }) rfl (fun K hK => ?_) (AllReadyH.cons (o := { dst := some 5, op := Op.alloc 63, type := 0, pos := "ref.go:49", after := #[], guard := none }) rfl (fun K hK => ?_) AllReadyH.nil)
    · go_simp
      with_reducible refine (HN1.out _).mono ?_
      rintro e w' ⟨rfl, rfl⟩
      try go_wp2_with fail
      refine hK.out _ _ trivial (fun hHeld => ?_)
      clear hK K
      try simp only [Act.put, List.setIfInBounds_toArray, List.set_cons_zero, List.set_cons_succ]
      refine wpAnyH_ready (rs := [5, 19]) (by kernel_rfl) (by simp) ?_
      refine AllReadyH.cons (o := { dst := some 25, op := Op.call { callee := Callee.value (Operand.func 105), args := #[Operand.tmp 24], argTypes := #[9] }, type := 3, pos := "ref.go:49", after := #[{ on := 4, ground := Ground.data }, { on := 2, ground := Ground.chain }], guard := none }) rfl (fun K hK => ?_) (AllReadyH.cons (o := { dst := some 5, op := Op.alloc 63, type := 0, pos := "ref.go:49", after := #[], guard := none }) rfl (fun K hK => ?_) AllReadyH.nil)
      · go_simp
        with_reducible refine (HN2.out _).mono ?_
        rintro e w' ⟨rfl, rfl⟩
        try go_wp2_with fail
        refine hK.out _ _ trivial (fun hHeld => ?_)
        clear hK K
        try simp only [Act.put, List.setIfInBounds_toArray, List.set_cons_zero, List.set_cons_succ]
        refine wpAnyH_ready (rs := [11, 19]) (by kernel_rfl) (by simp) ?_
        refine AllReadyH.cons (o := { dst := some 31, op := Op.call { callee := Callee.value (Operand.func 105), args := #[Operand.tmp 30], argTypes := #[9] }, type := 3, pos := "ref.go:49", after := #[{ on := 10, ground := Ground.data }, { on := 5, ground := Ground.chain }], guard := none }) rfl (fun K hK => ?_) (AllReadyH.cons (o := { dst := some 5, op := Op.alloc 63, type := 0, pos := "ref.go:49", after := #[], guard := none }) rfl (fun K hK => ?_) AllReadyH.nil)
        · go_simp
          with_reducible refine (HN3.out _).mono ?_
          rintro e w' ⟨rfl, rfl⟩
          try go_wp2_with fail
          refine hK.out _ _ trivial (fun hHeld => ?_)
          clear hK K
          try simp only [Act.put, List.setIfInBounds_toArray, List.set_cons_zero, List.set_cons_succ]
          refine wpAnyH_ready (rs := [14, 19]) (by kernel_rfl) (by simp) ?_
          refine AllReadyH.cons (o := { dst := some 34, op := Op.call { callee := Callee.value (Operand.func 105), args := #[Operand.tmp 33], argTypes := #[9] }, type := 3, pos := "ref.go:49", after := #[{ on := 13, ground := Ground.data }, { on := 11, ground := Ground.chain }], guard := none }) rfl (fun K hK => ?_) (AllReadyH.cons (o := { dst := some 5, op := Op.alloc 63, type := 0, pos := "ref.go:49", after := #[], guard := none }) rfl (fun K hK => ?_) AllReadyH.nil)
          · go_simp
            with_reducible refine (HN4.out _).mono ?_
            rintro e w' ⟨rfl, rfl⟩
            try go_wp2_with fail
            refine hK.out _ _ trivial (fun hHeld => ?_)
            clear hK K
            try simp only [Act.put, List.setIfInBounds_toArray, List.set_cons_zero, List.set_cons_succ]
            refine wpAnyH_ready (rs := [17, 19]) (by kernel_rfl) (by simp) ?_
            refine AllReadyH.cons (o := { dst := some 37, op := Op.call { callee := Callee.value (Operand.func 105), args := #[Operand.tmp 36], argTypes := #[9] }, type := 3, pos := "ref.go:49", after := #[{ on := 16, ground := Ground.data }, { on := 14, ground := Ground.chain }], guard := none }) rfl (fun K hK => ?_) (AllReadyH.cons (o := { dst := some 5, op := Op.alloc 63, type := 0, pos := "ref.go:49", after := #[], guard := none }) rfl (fun K hK => ?_) AllReadyH.nil)
            · go_simp
              with_reducible refine (HN5.out _).mono ?_
              rintro e w' ⟨rfl, rfl⟩
              try go_wp2_with fail
              refine hK.out _ _ trivial (fun hHeld => ?_)
              clear hK K
              try simp only [Act.put, List.setIfInBounds_toArray, List.set_cons_zero, List.set_cons_succ]
              refine wpAnyH_take (i := 18) (oi := { dst := some 38, op := Op.build 63 #[(0, Operand.tmp 22), (1, Operand.tmp 25), (2, Operand.tmp 28), (3, Operand.tmp 31), (4, Operand.tmp 34), (5, Operand.tmp 37)], type := 63, pos := "ref.go:49", after := #[{ on := 2, ground := Ground.data }, { on := 5, ground := Ground.data }, { on := 8, ground := Ground.data }, { on := 11, ground := Ground.data }, { on := 14, ground := Ground.data }, { on := 17, ground := Ground.data }], guard := none }) (v := ?_) rfl (by kernel_rfl) (by kernel_rfl) (by kernel_rfl) (fun _ _ _ h => h) (Or.inl ⟨by rfl, ?_⟩) (by assumption) ?_
              rotate_left
              · (intro wz hSw; (try dsimp only at hSw); go_simp; try with_reducible rfl)
              try simp only [Act.put, List.setIfInBounds_toArray, List.set_cons_zero, List.set_cons_succ]
              refine wpAnyH_ready (rs := [19]) (by kernel_rfl) (by simp) ?_
              refine AllReadyH.cons (o := { dst := some 5, op := Op.alloc 63, type := 0, pos := "ref.go:49", after := #[], guard := none }) rfl (fun K hK => ?_) AllReadyH.nil
              go_simp
              refine hK.out _ _ trivial (fun hHeld => ?_)
              clear hK K
              try simp only [Act.put, List.setIfInBounds_toArray, List.set_cons_zero, List.set_cons_succ]
              refine wpAnyH_ready (rs := [20]) (by kernel_rfl) (by simp) ?_
              refine AllReadyH.cons (o := { dst := none, op := Op.store 63 (Operand.tmp 5) (Operand.tmp 38), type := 0, pos := "ref.go:49", after := #[{ on := 19, ground := Ground.data }, { on := 18, ground := Ground.data }, { on := 17, ground := Ground.chain }, { on := 0, ground := Ground.phase }, { on := 1, ground := Ground.phase }, { on := 2, ground := Ground.phase }, { on := 3, ground := Ground.phase }, { on := 4, ground := Ground.phase }, { on := 5, ground := Ground.phase }, { on := 6, ground := Ground.phase }, { on := 7, ground := Ground.phase }, { on := 8, ground := Ground.phase }, { on := 9, ground := Ground.phase }, { on := 10, ground := Ground.phase }, { on := 11, ground := Ground.phase }, { on := 12, ground := Ground.phase }, { on := 13, ground := Ground.phase }, { on := 14, ground := Ground.phase }, { on := 15, ground := Ground.phase }, { on := 16, ground := Ground.phase }, { on := 17, ground := Ground.phase }, { on := 18, ground := Ground.phase }, { on := 19, ground := Ground.phase }], guard := none }) rfl (fun K hK => ?_) AllReadyH.nil
              go_simp
              refine hK.out _ _ trivial (fun hHeld => ?_)
              clear hK K
              try simp only [Act.put, List.setIfInBounds_toArray, List.set_cons_zero, List.set_cons_succ]
              refine wpAnyH_done (by kernel_rfl) ?_ _
              go_wp2_with fail
              go_meet
              exact ⟨rfl, HW5.out⟩
            · go_simp
              refine hK.out _ _ trivial (fun hHeld => ?_)
              clear hK K
              try simp only [Act.put, List.setIfInBounds_toArray, List.set_cons_zero, List.set_cons_succ]
              refine wpAnyH_ready (rs := [17]) (by kernel_rfl) (by simp) ?_
              refine AllReadyH.cons (o := { dst := some 37, op := Op.call { callee := Callee.value (Operand.func 105), args := #[Operand.tmp 36], argTypes := #[9] }, type := 3, pos := "ref.go:49", after := #[{ on := 16, ground := Ground.data }, { on := 14, ground := Ground.chain }], guard := none }) rfl (fun K hK => ?_) AllReadyH.nil
              go_simp
              with_reducible refine (HN5.out _).mono ?_
              rintro e w' ⟨rfl, rfl⟩
              try go_wp2_with fail
              refine hK.out _ _ trivial (fun hHeld => ?_)
              clear hK K
              try simp only [Act.put, List.setIfInBounds_toArray, List.set_cons_zero, List.set_cons_succ]
              refine wpAnyH_take (i := 18) (oi := { dst := some 38, op := Op.build 63 #[(0, Operand.tmp 22), (1, Operand.tmp 25), (2, Operand.tmp 28), (3, Operand.tmp 31), (4, Operand.tmp 34), (5, Operand.tmp 37)], type := 63, pos := "ref.go:49", after := #[{ on := 2, ground := Ground.data }, { on := 5, ground := Ground.data }, { on := 8, ground := Ground.data }, { on := 11, ground := Ground.data }, { on := 14, ground := Ground.data }, { on := 17, ground := Ground.data }], guard := none }) (v := ?_) rfl (by kernel_rfl) (by kernel_rfl) (by kernel_rfl) (fun _ _ _ h => h) (Or.inl ⟨by rfl, ?_⟩) (by assumption) ?_
              rotate_left
              · (intro wz hSw; (try dsimp only at hSw); go_simp; try with_reducible rfl)
              try simp only [Act.put, List.setIfInBounds_toArray, List.set_cons_zero, List.set_cons_succ]
              refine wpAnyH_ready (rs := [20]) (by kernel_rfl) (by simp) ?_
              refine AllReadyH.cons (o := { dst := none, op := Op.store 63 (Operand.tmp 5) (Operand.tmp 38), type := 0, pos := "ref.go:49", after := #[{ on := 19, ground := Ground.data }, { on := 18, ground := Ground.data }, { on := 17, ground := Ground.chain }, { on := 0, ground := Ground.phase }, { on := 1, ground := Ground.phase }, { on := 2, ground := Ground.phase }, { on := 3, ground := Ground.phase }, { on := 4, ground := Ground.phase }, { on := 5, ground := Ground.phase }, { on := 6, ground := Ground.phase }, { on := 7, ground := Ground.phase }, { on := 8, ground := Ground.phase }, { on := 9, ground := Ground.phase }, { on := 10, ground := Ground.phase }, { on := 11, ground := Ground.phase }, { on := 12, ground := Ground.phase }, { on := 13, ground := Ground.phase }, { on := 14, ground := Ground.phase }, { on := 15, ground := Ground.phase }, { on := 16, ground := Ground.phase }, { on := 17, ground := Ground.phase }, { on := 18, ground := Ground.phase }, { on := 19, ground := Ground.phase }], guard := none }) rfl (fun K hK => ?_) AllReadyH.nil
              go_simp
              refine hK.out _ _ trivial (fun hHeld => ?_)
              clear hK K
              try simp only [Act.put, List.setIfInBounds_toArray, List.set_cons_zero, List.set_cons_succ]
              refine wpAnyH_done (by kernel_rfl) ?_ _
              go_wp2_with fail
              go_meet
              exact ⟨rfl, HW5.out⟩
          · go_simp
            refine hK.out _ _ trivial (fun hHeld => ?_)
            clear hK K
            try simp only [Act.put, List.setIfInBounds_toArray, List.set_cons_zero, List.set_cons_succ]
            refine wpAnyH_ready (rs := [14]) (by kernel_rfl) (by simp) ?_
            refine AllReadyH.cons (o := { dst := some 34, op := Op.call { callee := Callee.value (Operand.func 105), args := #[Operand.tmp 33], argTypes := #[9] }, type := 3, pos := "ref.go:49", after := #[{ on := 13, ground := Ground.data }, { on := 11, ground := Ground.chain }], guard := none }) rfl (fun K hK => ?_) AllReadyH.nil
            go_simp
            with_reducible refine (HN4.out _).mono ?_
            rintro e w' ⟨rfl, rfl⟩
            try go_wp2_with fail
            refine hK.out _ _ trivial (fun hHeld => ?_)
            clear hK K
            try simp only [Act.put, List.setIfInBounds_toArray, List.set_cons_zero, List.set_cons_succ]
            refine wpAnyH_ready (rs := [17]) (by kernel_rfl) (by simp) ?_
            refine AllReadyH.cons (o := { dst := some 37, op := Op.call { callee := Callee.value (Operand.func 105), args := #[Operand.tmp 36], argTypes := #[9] }, type := 3, pos := "ref.go:49", after := #[{ on := 16, ground := Ground.data }, { on := 14, ground := Ground.chain }], guard := none }) rfl (fun K hK => ?_) AllReadyH.nil
            go_simp
            with_reducible refine (HN5.out _).mono ?_
            rintro e w' ⟨rfl, rfl⟩
            try go_wp2_with fail
            refine hK.out _ _ trivial (fun hHeld => ?_)
            clear hK K
            try simp only [Act.put, List.setIfInBounds_toArray, List.set_cons_zero, List.set_cons_succ]
            refine wpAnyH_take (i := 18) (oi := { dst := some 38, op := Op.build 63 #[(0, Operand.tmp 22), (1, Operand.tmp 25), (2, Operand.tmp 28), (3, Operand.tmp 31), (4, Operand.tmp 34), (5, Operand.tmp 37)], type := 63, pos := "ref.go:49", after := #[{ on := 2, ground := Ground.data }, { on := 5, ground := Ground.data }, { on := 8, ground := Ground.data }, { on := 11, ground := Ground.data }, { on := 14, ground := Ground.data }, { on := 17, ground := Ground.data }], guard := none }) (v := ?_) rfl (by kernel_rfl) (by kernel_rfl) (by kernel_rfl) (fun _ _ _ h => h) (Or.inl ⟨by rfl, ?_⟩) (by assumption) ?_
            rotate_left
            · (intro wz hSw; (try dsimp only at hSw); go_simp; try with_reducible rfl)
            try simp only [Act.put, List.setIfInBounds_toArray, List.set_cons_zero, List.set_cons_succ]
            refine wpAnyH_ready (rs := [20]) (by kernel_rfl) (by simp) ?_
            refine AllReadyH.cons (o := { dst := none, op := Op.store 63 (Operand.tmp 5) (Operand.tmp 38), type := 0, pos := "ref.go:49", after := #[{ on := 19, ground := Ground.data }, { on := 18, ground := Ground.data }, { on := 17, ground := Ground.chain }, { on := 0, ground := Ground.phase }, { on := 1, ground := Ground.phase }, { on := 2, ground := Ground.phase }, { on := 3, ground := Ground.phase }, { on := 4, ground := Ground.phase }, { on := 5, ground := Ground.phase }, { on := 6, ground := Ground.phase }, { on := 7, ground := Ground.phase }, { on := 8, ground := Ground.phase }, { on := 9, ground := Ground.phase }, { on := 10, ground := Ground.phase }, { on := 11, ground := Ground.phase }, { on := 12, ground := Ground.phase }, { on := 13, ground := Ground.phase }, { on := 14, ground := Ground.phase }, { on := 15, ground := Ground.phase }, { on := 16, ground := Ground.phase }, { on := 17, ground := Ground.phase }, { on := 18, ground := Ground.phase }, { on := 19, ground := Ground.phase }], guard := none }) rfl (fun K hK => ?_) AllReadyH.nil
            go_simp
            refine hK.out _ _ trivial (fun hHeld => ?_)
            clear hK K
            try simp only [Act.put, List.setIfInBounds_toArray, List.set_cons_zero, List.set_cons_succ]
            refine wpAnyH_done (by kernel_rfl) ?_ _
            go_wp2_with fail
            go_meet
            exact ⟨rfl, HW5.out⟩
        · go_simp
          refine hK.out _ _ trivial (fun hHeld => ?_)
          clear hK K
          try simp only [Act.put, List.setIfInBounds_toArray, List.set_cons_zero, List.set_cons_succ]
          refine wpAnyH_ready (rs := [11]) (by kernel_rfl) (by simp) ?_
          refine AllReadyH.cons (o := { dst := some 31, op := Op.call { callee := Callee.value (Operand.func 105), args := #[Operand.tmp 30], argTypes := #[9] }, type := 3, pos := "ref.go:49", after := #[{ on := 10, ground := Ground.data }, { on := 5, ground := Ground.chain }], guard := none }) rfl (fun K hK => ?_) AllReadyH.nil
          go_simp
          with_reducible refine (HN3.out _).mono ?_
          rintro e w' ⟨rfl, rfl⟩
          try go_wp2_with fail
          refine hK.out _ _ trivial (fun hHeld => ?_)
          clear hK K
          try simp only [Act.put, List.setIfInBounds_toArray, List.set_cons_zero, List.set_cons_succ]
          refine wpAnyH_ready (rs := [14]) (by kernel_rfl) (by simp) ?_
          refine AllReadyH.cons (o := { dst := some 34, op := Op.call { callee := Callee.value (Operand.func 105), args := #[Operand.tmp 33], argTypes := #[9] }, type := 3, pos := "ref.go:49", after := #[{ on := 13, ground := Ground.data }, { on := 11, ground := Ground.chain }], guard := none }) rfl (fun K hK => ?_) AllReadyH.nil
          go_simp
          with_reducible refine (HN4.out _).mono ?_
          rintro e w' ⟨rfl, rfl⟩
          try go_wp2_with fail
          refine hK.out _ _ trivial (fun hHeld => ?_)
          clear hK K
          try simp only [Act.put, List.setIfInBounds_toArray, List.set_cons_zero, List.set_cons_succ]
          refine wpAnyH_ready (rs := [17]) (by kernel_rfl) (by simp) ?_
          refine AllReadyH.cons (o := { dst := some 37, op := Op.call { callee := Callee.value (Operand.func 105), args := #[Operand.tmp 36], argTypes := #[9] }, type := 3, pos := "ref.go:49", after := #[{ on := 16, ground := Ground.data }, { on := 14, ground := Ground.chain }], guard := none }) rfl (fun K hK => ?_) AllReadyH.nil
          go_simp
          with_reducible refine (HN5.out _).mono ?_
          rintro e w' ⟨rfl, rfl⟩
          try go_wp2_with fail
          refine hK.out _ _ trivial (fun hHeld => ?_)
          clear hK K
          try simp only [Act.put, List.setIfInBounds_toArray, List.set_cons_zero, List.set_cons_succ]
          refine wpAnyH_take (i := 18) (oi := { dst := some 38, op := Op.build 63 #[(0, Operand.tmp 22), (1, Operand.tmp 25), (2, Operand.tmp 28), (3, Operand.tmp 31), (4, Operand.tmp 34), (5, Operand.tmp 37)], type := 63, pos := "ref.go:49", after := #[{ on := 2, ground := Ground.data }, { on := 5, ground := Ground.data }, { on := 8, ground := Ground.data }, { on := 11, ground := Ground.data }, { on := 14, ground := Ground.data }, { on := 17, ground := Ground.data }], guard := none }) (v := ?_) rfl (by kernel_rfl) (by kernel_rfl) (by kernel_rfl) (fun _ _ _ h => h) (Or.inl ⟨by rfl, ?_⟩) (by assumption) ?_
          rotate_left
          · (intro wz hSw; (try dsimp only at hSw); go_simp; try with_reducible rfl)
          try simp only [Act.put, List.setIfInBounds_toArray, List.set_cons_zero, List.set_cons_succ]
          refine wpAnyH_ready (rs := [20]) (by kernel_rfl) (by simp) ?_
          refine AllReadyH.cons (o := { dst := none, op := Op.store 63 (Operand.tmp 5) (Operand.tmp 38), type := 0, pos := "ref.go:49", after := #[{ on := 19, ground := Ground.data }, { on := 18, ground := Ground.data }, { on := 17, ground := Ground.chain }, { on := 0, ground := Ground.phase }, { on := 1, ground := Ground.phase }, { on := 2, ground := Ground.phase }, { on := 3, ground := Ground.phase }, { on := 4, ground := Ground.phase }, { on := 5, ground := Ground.phase }, { on := 6, ground := Ground.phase }, { on := 7, ground := Ground.phase }, { on := 8, ground := Ground.phase }, { on := 9, ground := Ground.phase }, { on := 10, ground := Ground.phase }, { on := 11, ground := Ground.phase }, { on := 12, ground := Ground.phase }, { on := 13, ground := Ground.phase }, { on := 14, ground := Ground.phase }, { on := 15, ground := Ground.phase }, { on := 16, ground := Ground.phase }, { on := 17, ground := Ground.phase }, { on := 18, ground := Ground.phase }, { on := 19, ground := Ground.phase }], guard := none }) rfl (fun K hK => ?_) AllReadyH.nil
          go_simp
          refine hK.out _ _ trivial (fun hHeld => ?_)
          clear hK K
          try simp only [Act.put, List.setIfInBounds_toArray, List.set_cons_zero, List.set_cons_succ]
          refine wpAnyH_done (by kernel_rfl) ?_ _
          go_wp2_with fail
          go_meet
          exact ⟨rfl, HW5.out⟩
      · go_simp
        refine hK.out _ _ trivial (fun hHeld => ?_)
        clear hK K
        try simp only [Act.put, List.setIfInBounds_toArray, List.set_cons_zero, List.set_cons_succ]
        refine wpAnyH_ready (rs := [5]) (by kernel_rfl) (by simp) ?_
        refine AllReadyH.cons (o := { dst := some 25, op := Op.call { callee := Callee.value (Operand.func 105), args := #[Operand.tmp 24], argTypes := #[9] }, type := 3, pos := "ref.go:49", after := #[{ on := 4, ground := Ground.data }, { on := 2, ground := Ground.chain }], guard := none }) rfl (fun K hK => ?_) AllReadyH.nil
        go_simp
        with_reducible refine (HN2.out _).mono ?_
        rintro e w' ⟨rfl, rfl⟩
        try go_wp2_with fail
        refine hK.out _ _ trivial (fun hHeld => ?_)
        clear hK K
        try simp only [Act.put, List.setIfInBounds_toArray, List.set_cons_zero, List.set_cons_succ]
        refine wpAnyH_ready (rs := [11]) (by kernel_rfl) (by simp) ?_
        refine AllReadyH.cons (o := { dst := some 31, op := Op.call { callee := Callee.value (Operand.func 105), args := #[Operand.tmp 30], argTypes := #[9] }, type := 3, pos := "ref.go:49", after := #[{ on := 10, ground := Ground.data }, { on := 5, ground := Ground.chain }], guard := none }) rfl (fun K hK => ?_) AllReadyH.nil
        go_simp
        with_reducible refine (HN3.out _).mono ?_
        rintro e w' ⟨rfl, rfl⟩
        try go_wp2_with fail
        refine hK.out _ _ trivial (fun hHeld => ?_)
        clear hK K
        try simp only [Act.put, List.setIfInBounds_toArray, List.set_cons_zero, List.set_cons_succ]
        refine wpAnyH_ready (rs := [14]) (by kernel_rfl) (by simp) ?_
        refine AllReadyH.cons (o := { dst := some 34, op := Op.call { callee := Callee.value (Operand.func 105), args := #[Operand.tmp 33], argTypes := #[9] }, type := 3, pos := "ref.go:49", after := #[{ on := 13, ground := Ground.data }, { on := 11, ground := Ground.chain }], guard := none }) rfl (fun K hK => ?_) AllReadyH.nil
        go_simp
        with_reducible refine (HN4.out _).mono ?_
        rintro e w' ⟨rfl, rfl⟩
        try go_wp2_with fail
        refine hK.out _ _ trivial (fun hHeld => ?_)
        clear hK K
        try simp only [Act.put, List.setIfInBounds_toArray, List.set_cons_zero, List.set_cons_succ]
        refine wpAnyH_ready (rs := [17]) (by kernel_rfl) (by simp) ?_
        refine AllReadyH.cons (o := { dst := some 37, op := Op.call { callee := Callee.value (Operand.func 105), args := #[Operand.tmp 36], argTypes := #[9] }, type := 3, pos := "ref.go:49", after := #[{ on := 16, ground := Ground.data }, { on := 14, ground := Ground.chain }], guard := none }) rfl (fun K hK => ?_) AllReadyH.nil
        go_simp
        with_reducible refine (HN5.out _).mono ?_
        rintro e w' ⟨rfl, rfl⟩
        try go_wp2_with fail
        refine hK.out _ _ trivial (fun hHeld => ?_)
        clear hK K
        try simp only [Act.put, List.setIfInBounds_toArray, List.set_cons_zero, List.set_cons_succ]
        refine wpAnyH_take (i := 18) (oi := { dst := some 38, op := Op.build 63 #[(0, Operand.tmp 22), (1, Operand.tmp 25), (2, Operand.tmp 28), (3, Operand.tmp 31), (4, Operand.tmp 34), (5, Operand.tmp 37)], type := 63, pos := "ref.go:49", after := #[{ on := 2, ground := Ground.data }, { on := 5, ground := Ground.data }, { on := 8, ground := Ground.data }, { on := 11, ground := Ground.data }, { on := 14, ground := Ground.data }, { on := 17, ground := Ground.data }], guard := none }) (v := ?_) rfl (by kernel_rfl) (by kernel_rfl) (by kernel_rfl) (fun _ _ _ h => h) (Or.inl ⟨by rfl, ?_⟩) (by assumption) ?_
        rotate_left
        · (intro wz hSw; (try dsimp only at hSw); go_simp; try with_reducible rfl)
        try simp only [Act.put, List.setIfInBounds_toArray, List.set_cons_zero, List.set_cons_succ]
        refine wpAnyH_ready (rs := [20]) (by kernel_rfl) (by simp) ?_
        refine AllReadyH.cons (o := { dst := none, op := Op.store 63 (Operand.tmp 5) (Operand.tmp 38), type := 0, pos := "ref.go:49", after := #[{ on := 19, ground := Ground.data }, { on := 18, ground := Ground.data }, { on := 17, ground := Ground.chain }, { on := 0, ground := Ground.phase }, { on := 1, ground := Ground.phase }, { on := 2, ground := Ground.phase }, { on := 3, ground := Ground.phase }, { on := 4, ground := Ground.phase }, { on := 5, ground := Ground.phase }, { on := 6, ground := Ground.phase }, { on := 7, ground := Ground.phase }, { on := 8, ground := Ground.phase }, { on := 9, ground := Ground.phase }, { on := 10, ground := Ground.phase }, { on := 11, ground := Ground.phase }, { on := 12, ground := Ground.phase }, { on := 13, ground := Ground.phase }, { on := 14, ground := Ground.phase }, { on := 15, ground := Ground.phase }, { on := 16, ground := Ground.phase }, { on := 17, ground := Ground.phase }, { on := 18, ground := Ground.phase }, { on := 19, ground := Ground.phase }], guard := none }) rfl (fun K hK => ?_) AllReadyH.nil
        go_simp
        refine hK.out _ _ trivial (fun hHeld => ?_)
        clear hK K
        try simp only [Act.put, List.setIfInBounds_toArray, List.set_cons_zero, List.set_cons_succ]
        refine wpAnyH_done (by kernel_rfl) ?_ _
        go_wp2_with fail
        go_meet
        exact ⟨rfl, HW5.out⟩
    · go_simp
      refine hK.out _ _ trivial (fun hHeld => ?_)
      clear hK K
      try simp only [Act.put, List.setIfInBounds_toArray, List.set_cons_zero, List.set_cons_succ]
      refine wpAnyH_ready (rs := [2]) (by kernel_rfl) (by simp) ?_
      refine AllReadyH.cons (o := { dst := some 22, op := Op.call { callee := Callee.value (Operand.func 105), args := #[Operand.tmp 21], argTypes := #[9] }, type := 3, pos := "ref.go:49", after := #[{ on := 1, ground := Ground.data }], guard := none }) rfl (fun K hK => ?_) AllReadyH.nil
      go_simp
      with_reducible refine (HN1.out _).mono ?_
      rintro e w' ⟨rfl, rfl⟩
      try go_wp2_with fail
      refine hK.out _ _ trivial (fun hHeld => ?_)
      clear hK K
      try simp only [Act.put, List.setIfInBounds_toArray, List.set_cons_zero, List.set_cons_succ]
      refine wpAnyH_ready (rs := [5]) (by kernel_rfl) (by simp) ?_
      refine AllReadyH.cons (o := { dst := some 25, op := Op.call { callee := Callee.value (Operand.func 105), args := #[Operand.tmp 24], argTypes := #[9] }, type := 3, pos := "ref.go:49", after := #[{ on := 4, ground := Ground.data }, { on := 2, ground := Ground.chain }], guard := none }) rfl (fun K hK => ?_) AllReadyH.nil
      go_simp
      with_reducible refine (HN2.out _).mono ?_
      rintro e w' ⟨rfl, rfl⟩
      try go_wp2_with fail
      refine hK.out _ _ trivial (fun hHeld => ?_)
      clear hK K
      try simp only [Act.put, List.setIfInBounds_toArray, List.set_cons_zero, List.set_cons_succ]
      refine wpAnyH_ready (rs := [11]) (by kernel_rfl) (by simp) ?_
      refine AllReadyH.cons (o := { dst := some 31, op := Op.call { callee := Callee.value (Operand.func 105), args := #[Operand.tmp 30], argTypes := #[9] }, type := 3, pos := "ref.go:49", after := #[{ on := 10, ground := Ground.data }, { on := 5, ground := Ground.chain }], guard := none }) rfl (fun K hK => ?_) AllReadyH.nil
      go_simp
      with_reducible refine (HN3.out _).mono ?_
      rintro e w' ⟨rfl, rfl⟩
      try go_wp2_with fail
      refine hK.out _ _ trivial (fun hHeld => ?_)
      clear hK K
      try simp only [Act.put, List.setIfInBounds_toArray, List.set_cons_zero, List.set_cons_succ]
      refine wpAnyH_ready (rs := [14]) (by kernel_rfl) (by simp) ?_
      refine AllReadyH.cons (o := { dst := some 34, op := Op.call { callee := Callee.value (Operand.func 105), args := #[Operand.tmp 33], argTypes := #[9] }, type := 3, pos := "ref.go:49", after := #[{ on := 13, ground := Ground.data }, { on := 11, ground := Ground.chain }], guard := none }) rfl (fun K hK => ?_) AllReadyH.nil
      go_simp
      with_reducible refine (HN4.out _).mono ?_
      rintro e w' ⟨rfl, rfl⟩
      try go_wp2_with fail
      refine hK.out _ _ trivial (fun hHeld => ?_)
      clear hK K
      try simp only [Act.put, List.setIfInBounds_toArray, List.set_cons_zero, List.set_cons_succ]
      refine wpAnyH_ready (rs := [17]) (by kernel_rfl) (by simp) ?_
      refine AllReadyH.cons (o := { dst := some 37, op := Op.call { callee := Callee.value (Operand.func 105), args := #[Operand.tmp 36], argTypes := #[9] }, type := 3, pos := "ref.go:49", after := #[{ on := 16, ground := Ground.data }, { on := 14, ground := Ground.chain }], guard := none }) rfl (fun K hK => ?_) AllReadyH.nil
      go_simp
      with_reducible refine (HN5.out _).mono ?_
      rintro e w' ⟨rfl, rfl⟩
      try go_wp2_with fail
      refine hK.out _ _ trivial (fun hHeld => ?_)
      clear hK K
      try simp only [Act.put, List.setIfInBounds_toArray, List.set_cons_zero, List.set_cons_succ]
      refine wpAnyH_take (i := 18) (oi := { dst := some 38, op := Op.build 63 #[(0, Operand.tmp 22), (1, Operand.tmp 25), (2, Operand.tmp 28), (3, Operand.tmp 31), (4, Operand.tmp 34), (5, Operand.tmp 37)], type := 63, pos := "ref.go:49", after := #[{ on := 2, ground := Ground.data }, { on := 5, ground := Ground.data }, { on := 8, ground := Ground.data }, { on := 11, ground := Ground.data }, { on := 14, ground := Ground.data }, { on := 17, ground := Ground.data }], guard := none }) (v := ?_) rfl (by kernel_rfl) (by kernel_rfl) (by kernel_rfl) (fun _ _ _ h => h) (Or.inl ⟨by rfl, ?_⟩) (by assumption) ?_
      rotate_left
      · (intro wz hSw; (try dsimp only at hSw); go_simp; try with_reducible rfl)
      try simp only [Act.put, List.setIfInBounds_toArray, List.set_cons_zero, List.set_cons_succ]
      refine wpAnyH_ready (rs := [20]) (by kernel_rfl) (by simp) ?_
      refine AllReadyH.cons (o := { dst := none, op := Op.store 63 (Operand.tmp 5) (Operand.tmp 38), type := 0, pos := "ref.go:49", after := #[{ on := 19, ground := Ground.data }, { on := 18, ground := Ground.data }, { on := 17, ground := Ground.chain }, { on := 0, ground := Ground.phase }, { on := 1, ground := Ground.phase }, { on := 2, ground := Ground.phase }, { on := 3, ground := Ground.phase }, { on := 4, ground := Ground.phase }, { on := 5, ground := Ground.phase }, { on := 6, ground := Ground.phase }, { on := 7, ground := Ground.phase }, { on := 8, ground := Ground.phase }, { on := 9, ground := Ground.phase }, { on := 10, ground := Ground.phase }, { on := 11, ground := Ground.phase }, { on := 12, ground := Ground.phase }, { on := 13, ground := Ground.phase }, { on := 14, ground := Ground.phase }, { on := 15, ground := Ground.phase }, { on := 16, ground := Ground.phase }, { on := 17, ground := Ground.phase }, { on := 18, ground := Ground.phase }, { on := 19, ground := Ground.phase }], guard := none }) rfl (fun K hK => ?_) AllReadyH.nil
      go_simp
      refine hK.out _ _ trivial (fun hHeld => ?_)
      clear hK K
      try simp only [Act.put, List.setIfInBounds_toArray, List.set_cons_zero, List.set_cons_succ]
      refine wpAnyH_done (by kernel_rfl) ?_ _
      go_wp2_with fail
      go_meet
      exact ⟨rfl, HW5.out⟩
  case rest =>
    obtain ⟨rfl, rfl⟩ := hcut
    obtain ⟨x0, x1, x2, x3, x4, x5⟩ := six HQ.out
    clear HW5
    go_wp2_with fail
    refine (HN6.out _).mono ?_
    rintro e w' ⟨rfl, rfl⟩
    clear HN1 HN2 HN3 HN4 HN5 HN6
    go_upto_region 7 with fail
    go_cut [61] (fun c wx => (wx.heap[w.heap.size]? = some (.cells #[.int .i64 0, .int .i64 0, .bool false, .int .i64 0, .int .i64 0, .int .i64 0] 63) ∧ wx.heap[w1.heap.size]? = some (.cells #[.int .i64 a0, .int .i64 a1, .bool ((b9 : Int) == 1), .int .i64 a3, .int .i64 a4, .int .i64 a5] 63) ∧ Below w.heap.size w wx) ∧ ((c = .bool true ∧ ¬ (TX = s ∧ ¬ BAD)) ∨ (c = .bool false ∧ (TX = s ∧ ¬ BAD))))
    case first =>
      go_wp2_with fail
      refine (HB.out _).mono ?_
      rintro e w6 ⟨rfl, hb6⟩
      have hq6 := (hb6.block w1.heap.size (by have := HSq.out; omega)).trans HQ.out
      have hr6 := (hb6.block w.heap.size (by have := HSq.out; have := HZ1.out; omega)).trans HRq.out
      clear x0 x1 x2 x3 x4 x5
      obtain ⟨x0, x1, x2, x3, x4, x5⟩ := six hq6
      have hB6 := HBq.out.trans (hb6.mono HBq.out.size)
      have HM := Lib.hid (And.intro hr6 (And.intro hq6 hB6))
      clear hb6 hq6 hr6 hB6 HQ HBq HRq HSq HZ1 HR1 HB2 HB HOk HNo
      by_cases hTX : TX = s
      · have hcmp : (TX.toList == s.toList) = true := by rw [hTX, beq_iff_eq]
        by_cases h0 : a0 = 0
        · have i3 : ((a0 : Int) == 0) = true := by rw [h0]; rfl
          have HR0 : Hid (¬ (TX = s ∧ ¬ BAD)) := Lib.hid fun e => e.2 (HBad.out.2 (Or.inl h0))
          clear h0 hTX HBad
          go_wp2_with fail
          go_meet
          exact ⟨HM.out, Or.inl ⟨rfl, HR0.out⟩⟩
        · have i3 : ((a0 : Int) == 0) = false := by rw [beq_eq_false_iff_ne]; omega
          by_cases h1 : a3 < 1
          · have i4 : (a3 : Int) < 1 := by omega
            have HR0 : Hid (¬ (TX = s ∧ ¬ BAD)) := Lib.hid fun e => e.2 (HBad.out.2 (Or.inr (Or.inl h1)))
            clear h0 h1 hTX HBad
            go_wp2_with fail
            go_meet
            exact ⟨HM.out, Or.inl ⟨rfl, HR0.out⟩⟩
          · have i4 : ¬ (a3 : Int) < 1 := by omega
            by_cases h2 : 2048 < a3
            · have i5 : (2048 : Int) < (a3 : Int) := by omega
              have HR0 : Hid (¬ (TX = s ∧ ¬ BAD)) := Lib.hid fun e => e.2 (HBad.out.2 (Or.inr (Or.inr h2)))
              clear h0 h1 h2 hTX HBad
              go_wp2_with fail
              go_meet
              exact ⟨HM.out, Or.inl ⟨rfl, HR0.out⟩⟩
            · have i5 : ¬ (2048 : Int) < (a3 : Int) := by omega
              have HR0 : Hid (TX = s ∧ ¬ BAD) := Lib.hid ⟨hTX, fun e => by
                have e : a0 = 0 ∨ a3 < 1 ∨ 2048 < a3 := HBad.out.1 e
                omega⟩
              have HD1 : Hid (decide ((a3 : Int) < 1) = false) := Lib.hid (decide_eq_false i4)
              have HD2 : Hid (decide ((2048 : Int) < (a3 : Int)) = false) := Lib.hid (decide_eq_false i5)
              clear h0 h1 h2 hTX HBad
              go_wp2_with fail
              go_meet
              exact ⟨HM.out, Or.inr ⟨by rw [HD1.out, HD2.out]; rfl, HR0.out⟩⟩
      · have hcmp : (TX.toList == s.toList) = false := by
          rw [beq_eq_false_iff_ne, ByteArray.toList_eq, ByteArray.toList_eq]
          exact fun e => hTX (ByteArray.ext (Array.toList_inj.mp e))
        have HR0 : Hid (¬ (TX = s ∧ ¬ BAD)) := Lib.hid fun e => hTX e.1
        clear hTX HBad
        go_wp2_with fail
        go_meet
        exact ⟨HM.out, Or.inl ⟨rfl, HR0.out⟩⟩
    case rest =>
      obtain ⟨⟨hr6, hq6, hB6⟩, hcc⟩ := hcut
      clear x0 x1 x2 x3 x4 x5
      obtain ⟨x0, x1, x2, x3, x4, x5⟩ := six hq6
      obtain ⟨⟨y0, y1, y2, y3, y4, y5⟩, g0, g1, g2, g3, g4, g5⟩ := ent_cells hr6
      rcases hcc with ⟨rfl, hg⟩ | ⟨rfl, hg⟩
      · have HR0 := Lib.hid (HNo.out hg _ ((((((hB6.setCell (p := ⟨w.heap.size, 0, none⟩) (Nat.le_refl _) (.int .i64 0)).setCell (p := ⟨w.heap.size, 1, none⟩) (Nat.le_refl _) (.int .i64 0)).setCell (p := ⟨w.heap.size, 2, none⟩) (Nat.le_refl _) (.bool false)).setCell (p := ⟨w.heap.size, 3, none⟩) (Nat.le_refl _) (.int .i64 0)).setCell (p := ⟨w.heap.size, 4, none⟩) (Nat.le_refl _) (.int .i64 0)).setCell (p := ⟨w.heap.size, 5, none⟩) (Nat.le_refl _) (.int .i64 0)))
        have HQb := Lib.hid (ent_set hr6 (.int .i64 0) (.int .i64 0) (.bool false) (.int .i64 0) (.int .i64 0) (.int .i64 0))
        clear hr6 hq6 hB6 HQ HBq HRq HSq HZ1 HR1 HB2 HB HOk HNo HBad hg
        go_wp2_with fail
        refine bodyPost_ret (results_cell_tmps rfl _ _ w.heap.size _ _ _ _ rfl HQb.out Try.underlying63 entrSize) rfl ?_
        exact HR0.out
      · have HR0 := Lib.hid (HOk.out hg _ ((((((hB6.setCell (p := ⟨w.heap.size, 0, none⟩) (Nat.le_refl _) (.int .i64 a0)).setCell (p := ⟨w.heap.size, 1, none⟩) (Nat.le_refl _) (.int .i64 a1)).setCell (p := ⟨w.heap.size, 2, none⟩) (Nat.le_refl _) (.bool ((b9 : Int) == 1))).setCell (p := ⟨w.heap.size, 3, none⟩) (Nat.le_refl _) (.int .i64 a3)).setCell (p := ⟨w.heap.size, 4, none⟩) (Nat.le_refl _) (.int .i64 a4)).setCell (p := ⟨w.heap.size, 5, none⟩) (Nat.le_refl _) (.int .i64 a5)))
        have HQo := Lib.hid (ent_set hr6 (.int .i64 a0) (.int .i64 a1) (.bool ((b9 : Int) == 1)) (.int .i64 a3) (.int .i64 a4) (.int .i64 a5))
        clear hr6 hq6 hB6 HQ HBq HRq HSq HZ1 HR1 HB2 HB HOk HNo HBad hg
        generalize ((b9 : Int) == 1) = bb at *
        go_wp2_with fail
        refine bodyPost_ret (results_cell_tmps rfl _ _ w.heap.size _ _ _ _ rfl HQo.out Try.underlying63 entrSize) rfl ?_
        exact HR0.out
theorem refCatParse_any (s : ByteArray) (hs : s.size ≤ 1000) (w : World) : Calls Try.prog 51 #[.string s] w fun e w' => e = .returned (.tuple #[.agg (gotEN s).told, .int .i64 (gotNx s), .int .i64 ((catE s).getD 0)]) ∧ Below w.heap.size w w' := by
  by_cases h : s.size < 64
  · have e0 : catE s = some 2 := by unfold catE; rw [if_pos h]
    have e1 : gotEN s = EN.none := by unfold gotEN; rw [e0, if_neg (by simp)]
    have e2 : gotNx s = 0 := by unfold gotNx; rw [e0, if_neg (by simp)]
    rw [e0, e1, e2]
    exact refCatP_short s h w
  by_cases hc : saysSum s = C.Crc.sum (ahead s).data.toList
  · have hg := catE_good s (by omega) hc
    refine refCatP_read s hs (by omega) hc w _ (fun h1 w' hb => ⟨?_, hb⟩) (fun h1 w' hb => ⟨?_, hb⟩)
    · rw [if_pos h1] at hg
      have e1 : gotEN s = enOf (ahead s).data.toList := by unfold gotEN; rw [hg, if_pos rfl]
      have e2 : gotNx s = nxOf (ahead s).data.toList := by unfold gotNx; rw [hg, if_pos rfl]
      rw [hg, e1, e2]
      rfl
    · rw [if_neg h1] at hg
      have e1 : gotEN s = EN.none := by unfold gotEN; rw [hg, if_neg (by simp)]
      have e2 : gotNx s = 0 := by unfold gotNx; rw [hg, if_neg (by simp)]
      rw [hg, e1, e2]
      rfl
  · have e0 : catE s = some 11 := by unfold catE; rw [if_neg h, if_pos hc]
    have e1 : gotEN s = EN.none := by unfold gotEN; rw [e0, if_neg (by simp)]
    have e2 : gotNx s = 0 := by unfold gotNx; rw [e0, if_neg (by simp)]
    rw [e0, e1, e2]
    exact refCatP_sum s hs (by omega) hc w
end Go.Proofs.Ytemnkffaapljpaa
