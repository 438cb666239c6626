/-
  RedoParses: for every text the law answers true.
-/
import Derived.Test.YtdeohkkpmjgaoaaRedoRefP
import Derived.Test.YtdeohkkpmjgaoaaPackMath
import Derived.Test.YtdeohkkpmjgaoaaCut
namespace Go.Proofs.Ytdeohkkpmjgaoaa
open Go.RowKit

theorem enc_num (l : List UInt8) (n : Nat) (h : l.length = n) : enc (num l) n = l := by
  have hl := num_lt l
  rw [h] at hl
  have e := num_eq (enc (num l) n) l (by rw [enc_len, h])
  have e2 : num (enc (num l) n) = num l := by rw [num_enc n (num l), Nat.mod_eq_of_lt hl]
  rw [e2, decide_eq_true rfl] at e
  exact eq_of_beq e
theorem ro_text (s : ByteArray) (h : 9 ≤ s.size) : (⟨(roOf s).text.toArray⟩ : ByteArray) = s := by
  have hl : s.data.toList.length = s.size := by simp
  refine ByteArray.ext (Array.toList_inj.mp ?_)
  show (roOf s).text = s.data.toList
  unfold RO.text roOf
  dsimp only
  rw [enc_num _ 1 (by rw [List.length_take]; omega), enc_num _ 4 (by rw [List.length_take, List.length_drop]; omega), enc_num _ 2 (by rw [List.length_take, List.length_drop]; omega), enc_num _ 2 (by rw [List.length_take, List.length_drop]; omega), cut_list]
  have e1 := List.take_append_drop 1 s.data.toList
  have e2 := List.take_append_drop 4 (s.data.toList.drop 1)
  have e3 := List.take_append_drop 2 (s.data.toList.drop 5)
  have e4 := List.take_append_drop 2 (s.data.toList.drop 7)
  rw [List.drop_drop] at e2 e3 e4
  rw [e4, e3, e2, e1]
theorem ro_fits (s : ByteArray) (h : s.size ≤ 1000) : (roOf s).fits :=
  ⟨num1_lt _, num_u32 _, num2_lt _, num2_lt _, by show (s.extract 9 s.size).size ≤ 1000; rw [ByteArray.size_extract]; omega⟩
theorem redoE_none {s : ByteArray} (h : redoE s = none) : 9 ≤ s.size := by
  unfold redoE at h
  by_cases h9 : s.size < 9
  · rw [if_pos h9] at h; cases h
  · omega
theorem redoE_num (s : ByteArray) : ∃ E : Nat, (redoE s).getD 0 = (E : Int) ∧ (E = 0 ↔ redoE s = none) := by
  unfold redoE
  by_cases h9 : s.size < 9
  · exact ⟨2, by rw [if_pos h9]; rfl, by rw [if_pos h9]; simp⟩
  · by_cases hk : (roOf s).k < 1 ∨ 7 < (roOf s).k
    · exact ⟨15, by rw [if_neg h9, if_pos hk]; rfl, by rw [if_neg h9, if_pos hk]; simp⟩
    · exact ⟨0, by rw [if_neg h9, if_neg hk]; rfl, by rw [if_neg h9, if_neg hk]; simp⟩
theorem got_fits (s : ByteArray) (h : s.size ≤ 1000) : (gotRO s).fits := by
  unfold gotRO
  split
  · exact ro_fits s h
  · exact ⟨by decide, by decide, by decide, by decide, by decide⟩
theorem got_text (s : ByteArray) (h : redoE s = none) : (⟨(gotRO s).text.toArray⟩ : ByteArray) = s := by
  unfold gotRO
  rw [if_pos h]
  exact ro_text s (redoE_none h)
set_option maxRecDepth 10000 in
set_option maxHeartbeats 2000000 in
theorem redoParses_walk (a0 : ByteArray) (w0 : a0.size ≤ maxLen) (w : World) :
    Calls Try.prog 13 #[.string a0] w fun e w' => e = .returned (.bool true) ∧ Below w.heap.size w w' := by
  have hc := cut_any a0 100 w w0 (by omega)
  have ht : (a0.extract 0 (min 100 a0.size)).size ≤ 100 := by rw [ByteArray.size_extract]; omega
  generalize a0.extract 0 (min 100 a0.size) = t at hc ht
  have HCt := Lib.hid hc
  have HP := Lib.hid fun wx => lawRedo_any t wx
  have HR := Lib.hid fun wx => refRedoParse_any t (by omega) wx
  have hf := got_fits t (by omega)
  have HT := Lib.hid fun wx => told_any (gotRO t) hf.id wx
  obtain ⟨E, hE, hE0⟩ := redoE_num t
  have HY : Hid (E = 0 → ∀ wx, Calls Try.prog 68 #[.agg (gotRO t).cells] wx fun e w' => e = .returned (.string t) ∧ Below wx.heap.size wx w') := Lib.hid fun h wx => by
    have := redoBytes_any (gotRO t) hf wx
    rw [got_text t (hE0.1 h)] at this
    exact this
  rw [hE] at HP HR
  clear hf hE hE0 hc w0 ht
  generalize gotRO t = R at *
  obtain ⟨k, id, at', n, data⟩ := R
  dsimp only [RO.cells, RO.told] at *
  have HEo : Hid (∀ wx, (binOp .eql 99 (.agg #[.int .i64 k, .int .i64 id, .int .i64 at', .int .i64 n, .string data]) (.agg #[.int .i64 k, .int .i64 id, .int .i64 at', .int .i64 n, .string data])).run Try.prog wx = .ok (.bool true) wx) := Lib.hid fun wx => opr_self _ _ _ _ _ wx
  go_enter Try.func13, Try.ntmps13
  go_wp2_with fail
  refine HCt.out.mono ?_
  rintro e w' ⟨rfl, rfl⟩
  clear HCt
  go_wp2_with fail
  refine (redoAwake _).mono ?_
  rintro e w1 ⟨rfl, hb1⟩
  have HB1 := Lib.hid hb1
  clear hb1
  go_wp2_with fail
  refine (HP.out _).mono ?_
  rintro e w2 ⟨rfl, hb2⟩
  have HB2 := Lib.hid (HB1.out.trans (hb2.mono HB1.out.size))
  clear hb2
  have hq2 := heap_alloc_new w2 (.cells #[.int .i64 k, .int .u32 id, .int .i64 at', .int .i64 n, .string data] 93)
  have HB3 : Hid (Below w.heap.size w (w2.alloc (.cells #[.int .i64 k, .int .u32 id, .int .i64 at', .int .i64 n, .string data] 93))) := Lib.hid (HB2.out.alloc HB2.out.size _)
  have hs2 : (w2.alloc (.cells #[.int .i64 k, .int .u32 id, .int .i64 at', .int .i64 n, .string data] 93)).heap.size = w2.heap.size + 1 := by simp
  have HQ2 := Lib.hid hq2
  have HS2 := Lib.hid hs2
  clear hq2 hs2
  go_upto_region 5 with fail
  generalize w2.alloc (.cells #[.int .i64 k, .int .u32 id, .int .i64 at', .int .i64 n, .string data] 93) = w3 at *
  go_wp2_with fail
  refine (HR.out _).mono ?_
  rintro e w4 ⟨rfl, hb4⟩
  have HB4 := Lib.hid (HB3.out.trans (hb4.mono HB3.out.size))
  have hq4 : w4.heap[w2.heap.size]? = some (.cells #[.int .i64 k, .int .u32 id, .int .i64 at', .int .i64 n, .string data] 93) := by rw [hb4.block _ (by have := HS2.out; omega)]; exact HQ2.out
  have hl4 : w2.heap.size < w4.heap.size := by have := HS2.out; have := hb4.size; omega
  have hqx : (w4.alloc (.cells #[.int .i64 k, .int .i64 id, .int .i64 at', .int .i64 n, .string data] 99)).heap[w2.heap.size]? = some (.cells #[.int .i64 k, .int .u32 id, .int .i64 at', .int .i64 n, .string data] 93) := by rw [Below.heap_alloc _ _ _ hl4]; exact hq4
  have hqy := heap_alloc_new w4 (.cells #[.int .i64 k, .int .i64 id, .int .i64 at', .int .i64 n, .string data] 99)
  have hs5 : (w4.alloc (.cells #[.int .i64 k, .int .i64 id, .int .i64 at', .int .i64 n, .string data] 99)).heap.size = w4.heap.size + 1 := by simp
  have HB5 : Hid (Below w.heap.size w (w4.alloc (.cells #[.int .i64 k, .int .i64 id, .int .i64 at', .int .i64 n, .string data] 99))) := Lib.hid (HB4.out.alloc HB4.out.size _)
  have HX := Lib.hid hqx
  have HYy := Lib.hid hqy
  have HS5 := Lib.hid hs5
  have HL4 := Lib.hid hl4
  clear hqx hqy hq4 hb4 hs5 hl4 HQ2 HS2 HB3 HB2 HB1
  go_upto_region 6 with fail
  generalize w4.alloc (.cells #[.int .i64 k, .int .i64 id, .int .i64 at', .int .i64 n, .string data] 99) = W at *
  generalize w4.heap.size = y at *
  generalize w2.heap.size = x at *
  have HK : Hid (∀ wx, Below W.drew.heap.size W.drew wx → (wx.cell? ⟨x, 0, none⟩ = some (.int .i64 k) ∧ wx.cell? ⟨x, 1, none⟩ = some (.int .u32 id) ∧ wx.cell? ⟨x, 2, none⟩ = some (.int .i64 at') ∧ wx.cell? ⟨x, 3, none⟩ = some (.int .i64 n) ∧ wx.cell? ⟨x, 4, none⟩ = some (.string data)) ∧ (wx.cell? ⟨y, 0, none⟩ = some (.int .i64 k) ∧ wx.cell? ⟨y, 1, none⟩ = some (.int .i64 id) ∧ wx.cell? ⟨y, 2, none⟩ = some (.int .i64 at') ∧ wx.cell? ⟨y, 3, none⟩ = some (.int .i64 n) ∧ wx.cell? ⟨y, 4, none⟩ = some (.string data))) := Lib.hid fun wx hb => by
    have h1 : W.drew.heap.size = y + 1 := HS5.out
    have h2 := HL4.out
    exact ⟨five (t := 93) (by rw [hb.block _ (by omega)]; exact HX.out), five (t := 99) (by rw [hb.block _ (by omega)]; exact HYy.out)⟩
  have HKr := Lib.hid (Below.refl W.drew.heap.size W.drew)
  have hEo := HEo.out
  have hEg : ∀ (p q : Operand) (X Y : Array Value) (wx : World), (eqGuard .eql 99 p q (.agg X) (.agg Y)).run Try.prog wx = .ok () wx := fun p q X Y wx => opr_guard p q X Y wx
  have i0 : ((E : Int) == (E : Int)) = true := by simp
  by_cases hE : E = 0
  · subst hE
    have HYt := Lib.hid (HY.out rfl)
    clear HY
    go_region_held3 (fun wx => (wx.cell? ⟨x, 0, none⟩ = some (.int .i64 k) ∧ wx.cell? ⟨x, 1, none⟩ = some (.int .u32 id) ∧ wx.cell? ⟨x, 2, none⟩ = some (.int .i64 at') ∧ wx.cell? ⟨x, 3, none⟩ = some (.int .i64 n) ∧ wx.cell? ⟨x, 4, none⟩ = some (.string data)) ∧ (wx.cell? ⟨y, 0, none⟩ = some (.int .i64 k) ∧ wx.cell? ⟨y, 1, none⟩ = some (.int .i64 id) ∧ wx.cell? ⟨y, 2, none⟩ = some (.int .i64 at') ∧ wx.cell? ⟨y, 3, none⟩ = some (.int .i64 n) ∧ wx.cell? ⟨y, 4, none⟩ = some (.string data)))
      (first | exact HK.out _ HKr.out | exact HK.out _ HG1.out | exact HK.out _ HG2.out)
      (first
        | (go_at_call 71; (with_reducible refine (HT.out W.drew).mono ?_); rintro e w6 ⟨rfl, hb6⟩; (have HG1 := Lib.hid hb6); clear hb6)
        | (go_at_call 68; (with_reducible refine (HYt.out w6).mono ?_); rintro e w7 ⟨rfl, hb7⟩; (have HG2 := Lib.hid (HG1.out.trans (hb7.mono HG1.out.size))); clear hb7))
    all_goals
      go_wp2_with fail
      go_ret
      exact ⟨rfl, HB5.out.drew.trans (HG2.out.mono HB5.out.size)⟩
  · have i1 : ((E : Int) != 0) = true := by rw [bne_iff_ne]; omega
    clear HY
    refine wp_region_held_drew (S := fun wx => (wx.cell? ⟨x, 0, none⟩ = some (.int .i64 k) ∧ wx.cell? ⟨x, 1, none⟩ = some (.int .u32 id) ∧ wx.cell? ⟨x, 2, none⟩ = some (.int .i64 at') ∧ wx.cell? ⟨x, 3, none⟩ = some (.int .i64 n) ∧ wx.cell? ⟨x, 4, none⟩ = some (.string data)) ∧ (wx.cell? ⟨y, 0, none⟩ = some (.int .i64 k) ∧ wx.cell? ⟨y, 1, none⟩ = some (.int .i64 id) ∧ wx.cell? ⟨y, 2, none⟩ = some (.int .i64 at') ∧ wx.cell? ⟨y, 3, none⟩ = some (.int .i64 n) ∧ wx.cell? ⟨y, 4, none⟩ = some (.string data))) (by kernel_rfl) (HK.out _ HKr.out) (fun hHeld => ?_)
    refine wpAnyH_take (i := 0) (oi := { dst := some 21, op := Op.move (Operand.tmp 4), type := 43, pos := "law.go:71", after := #[], guard := none }) (v := ?_) rfl (by kernel_rfl) (by kernel_rfl) (by kernel_rfl) (fun _ _ _ h => h) (Or.inl ⟨by rfl, ?_⟩) (by assumption) ?_
    rotate_left
    · (intro wz hSw; (try dsimp only at hSw); go_simp; try with_reducible rfl)
    try simp only [Act.put, List.setIfInBounds_toArray, List.set_cons_zero, List.set_cons_succ]
    refine wpAnyH_take (i := 1) (oi := { dst := some 22, op := Op.move (Operand.tmp 6), type := 3, pos := "law.go:71", after := #[], guard := none }) (v := ?_) rfl (by kernel_rfl) (by kernel_rfl) (by kernel_rfl) (fun _ _ _ h => h) (Or.inl ⟨by rfl, ?_⟩) (by assumption) ?_
    rotate_left
    · (intro wz hSw; (try dsimp only at hSw); go_simp; try with_reducible rfl)
    try simp only [Act.put, List.setIfInBounds_toArray, List.set_cons_zero, List.set_cons_succ]
    refine wpAnyH_take (i := 2) (oi := { dst := some 23, op := Op.binOp BinOp.eql 3 (Operand.tmp 21) (Operand.tmp 22) 3, type := 4, pos := "law.go:71", after := #[{ on := 0, ground := Ground.data }, { on := 1, ground := Ground.data }], guard := none }) (v := ?_) rfl (by kernel_rfl) (by kernel_rfl) (by kernel_rfl) (fun _ _ _ h => h) (Or.inl ⟨by rfl, ?_⟩) (by assumption) ?_
    rotate_left
    · (intro wz hSw; (try dsimp only at hSw); go_simp; try with_reducible rfl)
    try simp only [Act.put, List.setIfInBounds_toArray, List.set_cons_zero, List.set_cons_succ]
    refine wpAnyH_take (i := 3) (oi := { dst := some 24, op := Op.move (Operand.tmp 23), type := 4, pos := "law.go:71", after := #[{ on := 2, ground := Ground.data }], guard := none }) (v := ?_) rfl (by kernel_rfl) (by kernel_rfl) (by kernel_rfl) (fun _ _ _ h => h) (Or.inl ⟨by rfl, ?_⟩) (by assumption) ?_
    rotate_left
    · (intro wz hSw; (try dsimp only at hSw); go_simp; try with_reducible rfl)
    try simp only [Act.put, List.setIfInBounds_toArray, List.set_cons_zero, List.set_cons_succ]
    refine wpAnyH_take (i := 4) (oi := { dst := some 25, op := Op.load 93 (Operand.tmp 3), type := 93, pos := "law.go:71", after := #[{ on := 3, ground := Ground.guard }], guard := some (3, true) }) (v := ?_) rfl (by kernel_rfl) (by kernel_rfl) (by kernel_rfl) (fun _ _ _ h => h) (Or.inl ⟨by rfl, ?_⟩) (by assumption) ?_
    rotate_left
    · (intro wz hSw; (try dsimp only at hSw); go_simp; try with_reducible rfl)
    try simp only [Act.put, List.setIfInBounds_toArray, List.set_cons_zero, List.set_cons_succ]
    refine wpAnyH_take (i := 6) (oi := { dst := some 27, op := Op.load 99 (Operand.tmp 5), type := 99, pos := "law.go:71", after := #[{ on := 3, ground := Ground.guard }], guard := some (3, true) }) (v := ?_) rfl (by kernel_rfl) (by kernel_rfl) (by kernel_rfl) (fun _ _ _ h => h) (Or.inl ⟨by rfl, ?_⟩) (by assumption) ?_
    rotate_left
    · (intro wz hSw; (try dsimp only at hSw); go_simp; try with_reducible rfl)
    try simp only [Act.put, List.setIfInBounds_toArray, List.set_cons_zero, List.set_cons_succ]
    refine wpAnyH_ready (rs := [5]) (by kernel_rfl) (by simp) ?_
    refine AllReadyH.cons (o := { dst := some 26, op := Op.call { callee := Callee.value (Operand.func 71), args := #[Operand.tmp 25], argTypes := #[93] }, type := 99, pos := "law.go:71", after := #[{ on := 4, ground := Ground.data }, { on := 3, ground := Ground.chain }, { on := 3, ground := Ground.guard }], guard := some (3, true) }) rfl (fun K hK => ?_) AllReadyH.nil
    go_simp
    refine (HT.out _).mono ?_
    rintro e w6 ⟨rfl, hb6⟩
    have HG1 := Lib.hid hb6
    clear hb6
    try go_wp2_with fail
    refine hK.out _ _ (HK.out _ HG1.out) (fun hHeld => ?_)
    clear hK K
    try simp only [Act.put, List.setIfInBounds_toArray, List.set_cons_zero, List.set_cons_succ]
    refine wpAnyH_take (i := 7) (oi := { dst := some 28, op := Op.binOp BinOp.eql 99 (Operand.tmp 26) (Operand.tmp 27) 99, type := 4, pos := "law.go:71", after := #[{ on := 5, ground := Ground.data }, { on := 6, ground := Ground.data }, { on := 3, ground := Ground.guard }], guard := some (3, true) }) (v := ?_) rfl (by kernel_rfl) (by kernel_rfl) (by kernel_rfl) (fun _ _ _ h => h) (Or.inl ⟨by rfl, ?_⟩) (by assumption) ?_
    rotate_left
    · (intro wz hSw; (try dsimp only at hSw); go_simp; try with_reducible rfl)
    try simp only [Act.put, List.setIfInBounds_toArray, List.set_cons_zero, List.set_cons_succ]
    refine wpAnyH_take (i := 8) (oi := { dst := some 29, op := Op.pick (Operand.tmp 24) (Operand.tmp 28) (Operand.const (Value.bool false)), type := 4, pos := "law.go:71", after := #[{ on := 3, ground := Ground.data }, { on := 7, ground := Ground.data }], guard := none }) (v := ?_) rfl (by kernel_rfl) (by kernel_rfl) (by kernel_rfl) (fun _ _ _ h => h) (Or.inl ⟨by rfl, ?_⟩) (by assumption) ?_
    rotate_left
    · (intro wz hSw; (try dsimp only at hSw); go_simp; try with_reducible rfl)
    try simp only [Act.put, List.setIfInBounds_toArray, List.set_cons_zero, List.set_cons_succ]
    refine wpAnyH_take (i := 9) (oi := { dst := some 30, op := Op.move (Operand.tmp 29), type := 4, pos := "law.go:71", after := #[{ on := 8, ground := Ground.data }, { on := 5, ground := Ground.chain }], guard := none }) (v := ?_) rfl (by kernel_rfl) (by kernel_rfl) (by kernel_rfl) (fun _ _ _ h => h) (Or.inl ⟨by rfl, ?_⟩) (by assumption) ?_
    rotate_left
    · (intro wz hSw; (try dsimp only at hSw); go_simp; try with_reducible rfl)
    try simp only [Act.put, List.setIfInBounds_toArray, List.set_cons_zero, List.set_cons_succ]
    refine wpAnyH_take (i := 10) (oi := { dst := some 31, op := Op.move (Operand.tmp 6), type := 3, pos := "law.go:71", after := #[{ on := 9, ground := Ground.guard }], guard := some (9, true) }) (v := ?_) rfl (by kernel_rfl) (by kernel_rfl) (by kernel_rfl) (fun _ _ _ h => h) (Or.inl ⟨by rfl, ?_⟩) (by assumption) ?_
    rotate_left
    · (intro wz hSw; (try dsimp only at hSw); go_simp; try with_reducible rfl)
    try simp only [Act.put, List.setIfInBounds_toArray, List.set_cons_zero, List.set_cons_succ]
    refine wpAnyH_take (i := 11) (oi := { dst := some 32, op := Op.binOp BinOp.neq 3 (Operand.tmp 31) (Operand.const (Value.int IntKind.i64 0)) 3, type := 4, pos := "law.go:71", after := #[{ on := 10, ground := Ground.data }, { on := 9, ground := Ground.guard }], guard := some (9, true) }) (v := ?_) rfl (by kernel_rfl) (by kernel_rfl) (by kernel_rfl) (fun _ _ _ h => h) (Or.inl ⟨by rfl, ?_⟩) (by assumption) ?_
    rotate_left
    · (intro wz hSw; (try dsimp only at hSw); go_simp; try with_reducible rfl)
    try simp only [Act.put, List.setIfInBounds_toArray, List.set_cons_zero, List.set_cons_succ]
    refine wpAnyH_take (i := 12) (oi := { dst := some 33, op := Op.move (Operand.tmp 32), type := 4, pos := "law.go:71", after := #[{ on := 11, ground := Ground.data }, { on := 9, ground := Ground.chain }, { on := 9, ground := Ground.guard }], guard := some (9, true) }) (v := ?_) rfl (by kernel_rfl) (by kernel_rfl) (by kernel_rfl) (fun _ _ _ h => h) (Or.inl ⟨by rfl, ?_⟩) (by assumption) ?_
    rotate_left
    · (intro wz hSw; (try dsimp only at hSw); go_simp; try with_reducible rfl)
    try simp only [Act.put, List.setIfInBounds_toArray, List.set_cons_zero, List.set_cons_succ]
    refine wpAnyH_take (i := 13) (oi := { dst := some 34, op := Op.load 93 (Operand.tmp 3), type := 93, pos := "law.go:71", after := #[{ on := 12, ground := Ground.guard }], guard := some (12, false) }) (v := undef) rfl (by kernel_rfl) (by kernel_rfl) (by kernel_rfl) (fun _ _ _ h => h) (Or.inr ⟨by rfl, rfl⟩) (by assumption) ?_
    try simp only [Act.put, List.setIfInBounds_toArray, List.set_cons_zero, List.set_cons_succ]
    refine wpAnyH_take (i := 14) (oi := { dst := some 35, op := Op.call { callee := Callee.value (Operand.func 68), args := #[Operand.tmp 34], argTypes := #[93] }, type := 9, pos := "law.go:71", after := #[{ on := 13, ground := Ground.data }, { on := 12, ground := Ground.chain }, { on := 12, ground := Ground.guard }], guard := some (12, false) }) (v := undef) rfl (by kernel_rfl) (by kernel_rfl) (by kernel_rfl) (fun _ _ _ h => h) (Or.inr ⟨by rfl, rfl⟩) (by assumption) ?_
    try simp only [Act.put, List.setIfInBounds_toArray, List.set_cons_zero, List.set_cons_succ]
    refine wpAnyH_take (i := 15) (oi := { dst := some 36, op := Op.move (Operand.tmp 0), type := 9, pos := "law.go:71", after := #[{ on := 12, ground := Ground.guard }], guard := some (12, false) }) (v := undef) rfl (by kernel_rfl) (by kernel_rfl) (by kernel_rfl) (fun _ _ _ h => h) (Or.inr ⟨by rfl, rfl⟩) (by assumption) ?_
    try simp only [Act.put, List.setIfInBounds_toArray, List.set_cons_zero, List.set_cons_succ]
    refine wpAnyH_take (i := 16) (oi := { dst := some 37, op := Op.binOp BinOp.eql 9 (Operand.tmp 35) (Operand.tmp 36) 9, type := 4, pos := "law.go:71", after := #[{ on := 14, ground := Ground.data }, { on := 15, ground := Ground.data }, { on := 12, ground := Ground.guard }], guard := some (12, false) }) (v := undef) rfl (by kernel_rfl) (by kernel_rfl) (by kernel_rfl) (fun _ _ _ h => h) (Or.inr ⟨by rfl, rfl⟩) (by assumption) ?_
    try simp only [Act.put, List.setIfInBounds_toArray, List.set_cons_zero, List.set_cons_succ]
    refine wpAnyH_take (i := 17) (oi := { dst := some 38, op := Op.pick (Operand.tmp 33) (Operand.const (Value.bool true)) (Operand.tmp 37), type := 4, pos := "law.go:71", after := #[{ on := 12, ground := Ground.data }, { on := 16, ground := Ground.data }, { on := 9, ground := Ground.guard }], guard := some (9, true) }) (v := ?_) rfl (by kernel_rfl) (by kernel_rfl) (by kernel_rfl) (fun _ _ _ h => h) (Or.inl ⟨by rfl, ?_⟩) (by assumption) ?_
    rotate_left
    · (intro wz hSw; (try dsimp only at hSw); go_simp; try with_reducible rfl)
    try simp only [Act.put, List.setIfInBounds_toArray, List.set_cons_zero, List.set_cons_succ]
    refine wpAnyH_take (i := 18) (oi := { dst := some 39, op := Op.pick (Operand.tmp 30) (Operand.tmp 38) (Operand.const (Value.bool false)), type := 4, pos := "law.go:71", after := #[{ on := 9, ground := Ground.data }, { on := 17, ground := Ground.data }], guard := none }) (v := ?_) rfl (by kernel_rfl) (by kernel_rfl) (by kernel_rfl) (fun _ _ _ h => h) (Or.inl ⟨by rfl, ?_⟩) (by assumption) ?_
    rotate_left
    · (intro wz hSw; (try dsimp only at hSw); go_simp; try with_reducible rfl)
    try simp only [Act.put, List.setIfInBounds_toArray, List.set_cons_zero, List.set_cons_succ]
    refine wpAnyH_take (i := 19) (oi := { dst := some 2, op := Op.assign (Operand.tmp 39), type := 4, pos := "law.go:71", after := #[{ on := 18, ground := Ground.data }, { on := 14, ground := Ground.chain }, { on := 0, ground := Ground.phase }, { on := 1, ground := Ground.phase }, { on := 2, ground := Ground.phase }, { on := 3, ground := Ground.phase }, { on := 4, ground := Ground.phase }, { on := 5, ground := Ground.phase }, { on := 6, ground := Ground.phase }, { on := 7, ground := Ground.phase }, { on := 8, ground := Ground.phase }, { on := 9, ground := Ground.phase }, { on := 10, ground := Ground.phase }, { on := 11, ground := Ground.phase }, { on := 12, ground := Ground.phase }, { on := 13, ground := Ground.phase }, { on := 14, ground := Ground.phase }, { on := 15, ground := Ground.phase }, { on := 16, ground := Ground.phase }, { on := 17, ground := Ground.phase }, { on := 18, ground := Ground.phase }], guard := none }) (v := ?_) rfl (by kernel_rfl) (by kernel_rfl) (by kernel_rfl) (fun _ _ _ h => h) (Or.inl ⟨by rfl, ?_⟩) (by assumption) ?_
    rotate_left
    · (intro wz hSw; (try dsimp only at hSw); go_simp; try with_reducible rfl)
    try simp only [Act.put, List.setIfInBounds_toArray, List.set_cons_zero, List.set_cons_succ]
    refine wpAnyH_done (by kernel_rfl) ?_ _
    go_wp2_with fail
    go_ret
    exact ⟨rfl, HB5.out.drew.trans (HG1.out.mono HB5.out.size)⟩
end Go.Proofs.Ytdeohkkpmjgaoaa
