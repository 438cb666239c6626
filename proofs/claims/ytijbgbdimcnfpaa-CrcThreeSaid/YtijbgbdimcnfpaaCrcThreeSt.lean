/-
  CrcThree's last statement, whatever order is drawn: one theorem for each set of operations done (written by a program).
-/
import Derived.Test.YtijbgbdimcnfpaaCrcRow
import Derived.Deep.RegionHeld3
import Derived.RegionTactic
import Derived.BigRegion
namespace Go.Proofs.Ytijbgbdimcnfpaa
open Go.RowKit
set_option linter.unusedVariables false

def threeOps : Array Oper := #[{ dst := some 39, op := Op.call { callee := Callee.value (Operand.func 4), args := #[], argTypes := #[] }, type := 4, pos := "law.go:43", after := #[], guard := none }, { dst := some 40, op := Op.move (Operand.tmp 39), type := 4, pos := "law.go:43", after := #[{ on := 0, ground := Ground.data }, { on := 0, ground := Ground.chain }], guard := none }, { dst := some 41, op := Op.move (Operand.tmp 8), type := 22, pos := "law.go:43", after := #[{ on := 1, ground := Ground.guard }], guard := some (1, true) }, { dst := some 42, op := Op.convert 22 9 (Operand.tmp 41), type := 9, pos := "law.go:43", after := #[{ on := 2, ground := Ground.data }, { on := 1, ground := Ground.guard }], guard := some (1, true) }, { dst := some 43, op := Op.buildSlice 27 1 #[(0, Operand.tmp 42)], type := 27, pos := "law.go:43", after := #[{ on := 3, ground := Ground.data }, { on := 1, ground := Ground.guard }], guard := some (1, true) }, { dst := some 44, op := Op.call { callee := Callee.value (Operand.func 5), args := #[Operand.tmp 43], argTypes := #[27] }, type := 24, pos := "law.go:43", after := #[{ on := 4, ground := Ground.data }, { on := 1, ground := Ground.chain }, { on := 1, ground := Ground.guard }], guard := some (1, true) }, { dst := some 45, op := Op.move (Operand.tmp 0), type := 9, pos := "law.go:43", after := #[{ on := 1, ground := Ground.guard }], guard := some (1, true) }, { dst := some 46, op := Op.move (Operand.tmp 7), type := 3, pos := "law.go:43", after := #[{ on := 1, ground := Ground.guard }], guard := some (1, true) }, { dst := some 47, op := Op.slice 9 (Operand.tmp 45) none (some (Operand.tmp 46)) none, type := 9, pos := "law.go:43", after := #[{ on := 6, ground := Ground.data }, { on := 7, ground := Ground.data }, { on := 1, ground := Ground.guard }], guard := some (1, true) }, { dst := some 48, op := Op.buildSlice 27 1 #[(0, Operand.tmp 47)], type := 27, pos := "law.go:43", after := #[{ on := 8, ground := Ground.data }, { on := 1, ground := Ground.guard }], guard := some (1, true) }, { dst := some 49, op := Op.call { callee := Callee.value (Operand.func 5), args := #[Operand.tmp 48], argTypes := #[27] }, type := 24, pos := "law.go:43", after := #[{ on := 9, ground := Ground.data }, { on := 5, ground := Ground.chain }, { on := 1, ground := Ground.guard }], guard := some (1, true) }, { dst := some 50, op := Op.move (Operand.tmp 1), type := 9, pos := "law.go:43", after := #[{ on := 1, ground := Ground.guard }], guard := some (1, true) }, { dst := some 51, op := Op.move (Operand.tmp 7), type := 3, pos := "law.go:43", after := #[{ on := 1, ground := Ground.guard }], guard := some (1, true) }, { dst := some 52, op := Op.slice 9 (Operand.tmp 50) none (some (Operand.tmp 51)) none, type := 9, pos := "law.go:43", after := #[{ on := 11, ground := Ground.data }, { on := 12, ground := Ground.data }, { on := 1, ground := Ground.guard }], guard := some (1, true) }, { dst := some 53, op := Op.buildSlice 27 1 #[(0, Operand.tmp 52)], type := 27, pos := "law.go:43", after := #[{ on := 13, ground := Ground.data }, { on := 1, ground := Ground.guard }], guard := some (1, true) }, { dst := some 54, op := Op.call { callee := Callee.value (Operand.func 5), args := #[Operand.tmp 53], argTypes := #[27] }, type := 24, pos := "law.go:43", after := #[{ on := 14, ground := Ground.data }, { on := 10, ground := Ground.chain }, { on := 1, ground := Ground.guard }], guard := some (1, true) }, { dst := some 55, op := Op.binOp BinOp.xor 24 (Operand.tmp 49) (Operand.tmp 54) 24, type := 24, pos := "law.go:43", after := #[{ on := 10, ground := Ground.data }, { on := 15, ground := Ground.data }, { on := 1, ground := Ground.guard }], guard := some (1, true) }, { dst := some 56, op := Op.move (Operand.tmp 2), type := 9, pos := "law.go:43", after := #[{ on := 1, ground := Ground.guard }], guard := some (1, true) }, { dst := some 57, op := Op.move (Operand.tmp 7), type := 3, pos := "law.go:43", after := #[{ on := 1, ground := Ground.guard }], guard := some (1, true) }, { dst := some 58, op := Op.slice 9 (Operand.tmp 56) none (some (Operand.tmp 57)) none, type := 9, pos := "law.go:43", after := #[{ on := 17, ground := Ground.data }, { on := 18, ground := Ground.data }, { on := 1, ground := Ground.guard }], guard := some (1, true) }, { dst := some 59, op := Op.buildSlice 27 1 #[(0, Operand.tmp 58)], type := 27, pos := "law.go:43", after := #[{ on := 19, ground := Ground.data }, { on := 1, ground := Ground.guard }], guard := some (1, true) }, { dst := some 60, op := Op.call { callee := Callee.value (Operand.func 5), args := #[Operand.tmp 59], argTypes := #[27] }, type := 24, pos := "law.go:43", after := #[{ on := 20, ground := Ground.data }, { on := 15, ground := Ground.chain }, { on := 1, ground := Ground.guard }], guard := some (1, true) }, { dst := some 61, op := Op.binOp BinOp.xor 24 (Operand.tmp 55) (Operand.tmp 60) 24, type := 24, pos := "law.go:43", after := #[{ on := 16, ground := Ground.data }, { on := 21, ground := Ground.data }, { on := 1, ground := Ground.guard }], guard := some (1, true) }, { dst := some 62, op := Op.binOp BinOp.eql 24 (Operand.tmp 44) (Operand.tmp 61) 24, type := 4, pos := "law.go:43", after := #[{ on := 5, ground := Ground.data }, { on := 22, ground := Ground.data }, { on := 1, ground := Ground.guard }], guard := some (1, true) }, { dst := some 63, op := Op.pick (Operand.tmp 40) (Operand.tmp 62) (Operand.const (Value.bool false)), type := 4, pos := "law.go:43", after := #[{ on := 1, ground := Ground.data }, { on := 23, ground := Ground.data }], guard := none }, { dst := some 6, op := Op.assign (Operand.tmp 63), type := 4, pos := "law.go:43", after := #[{ on := 24, ground := Ground.data }, { on := 21, ground := Ground.chain }, { on := 0, ground := Ground.phase }, { on := 1, ground := Ground.phase }, { on := 2, ground := Ground.phase }, { on := 3, ground := Ground.phase }, { on := 4, ground := Ground.phase }, { on := 5, ground := Ground.phase }, { on := 6, ground := Ground.phase }, { on := 7, ground := Ground.phase }, { on := 8, ground := Ground.phase }, { on := 9, ground := Ground.phase }, { on := 10, ground := Ground.phase }, { on := 11, ground := Ground.phase }, { on := 12, ground := Ground.phase }, { on := 13, ground := Ground.phase }, { on := 14, ground := Ground.phase }, { on := 15, ground := Ground.phase }, { on := 16, ground := Ground.phase }, { on := 17, ground := Ground.phase }, { on := 18, ground := Ground.phase }, { on := 19, ground := Ground.phase }, { on := 20, ground := Ground.phase }, { on := 21, ground := Ground.phase }, { on := 22, ground := Ground.phase }, { on := 23, ground := Ground.phase }, { on := 24, ground := Ground.phase }], guard := none }]
/-- what the statement leans on -/
structure ThreeCtx (Q : Exit → Act → World → Prop) (S : World → Prop) (W0 : World) (F : ByteArray → Nat) (s0 s1 s2 s3 : ByteArray) : Prop where
  panic : ∀ c a w d v, Q (.panic c) (Act.put a d v) w → Q (.panic c) a w
  alloc : ∀ w o, S w → S (World.alloc w o)
  fin : ∀ (a : Act) w, a.tmps.getD 6 undef = .bool true → a.defers = [] → Below W0.heap.size W0 w → Q .normal a w
  sum : ∀ b (s : ByteArray) w, s.size ≤ maxLen → w.cell? ⟨b, 0, none⟩ = some (.string s) → Calls Try.prog 5 #[.slice (some ⟨b, 0, none⟩) 1 1] w fun e w' => e = .returned (.int .u32 (F s : Nat)) ∧ w = w'
  z0 : s0.size ≤ maxLen
  z1 : s1.size ≤ maxLen
  z2 : s2.size ≤ maxLen
  z3 : s3.size ≤ maxLen
  val : ((F s0 : Int) == bits BinOp.xor IntKind.u32 (bits BinOp.xor IntKind.u32 (F s1 : Int) (F s2 : Int)) (F s3 : Int)) = true
theorem cellMore {w : World} {v : Value} {b : Nat} (h : w.cell? ⟨b, 0, none⟩ = some v) (o : Obj) : (w.alloc o).cell? ⟨b, 0, none⟩ = some v := by
  rw [World.cell?_alloc_past (hn := World.block_lt_of_cell? w _ h), h]
theorem cellNew (w : World) (t : TypeId) (v : Value) : (w.alloc (.cells #[v] t)).cell? ⟨w.heap.size, 0, none⟩ = some v := by
  rw [World.cell?_alloc_new]
  rfl
theorem belowMore {W w : World} (h : Below W.heap.size W w) (o : Obj) : Below W.heap.size W (w.alloc o) := h.alloc h.size o

set_option maxRecDepth 100000 in
theorem three_0123_3 {Q : Exit → Act → World → Prop} {S : World → Prop} {W0 : World} {F : ByteArray → Nat} {s0 s1 s2 s3 : ByteArray} {p0 p1 p2 p7 p8 p41 p45 p46 p50 p51 p56 p57 v3 v4 v5 v6 v9 v10 v11 v12 v13 v14 v15 v16 v17 v18 v19 v20 v21 v22 v23 v24 v25 v26 v27 v28 v29 v30 v31 v32 v33 v34 v35 v36 v37 v38 v60 v61 v62 v63 : Value} (h : ThreeCtx Q S W0 F s0 s1 s2 s3) (l : Array Bool) (hl : l = #[true, true, true, true, true, true, true, true, true, true, true, true, true, true, true, true, true, true, true, true, true, false, false, false, false, false]) (w : World) (hw : S w) (hb : Below W0.heap.size W0 w) (g0 g1 g2 g3 : Nat) (c0 : w.cell? ⟨g0, 0, none⟩ = some (.string s0)) (c1 : w.cell? ⟨g1, 0, none⟩ = some (.string s1)) (c2 : w.cell? ⟨g2, 0, none⟩ = some (.string s2)) (c3 : w.cell? ⟨g3, 0, none⟩ = some (.string s3)) :
    wpAnyH Try.prog .any threeOps Q S 5 l { tmps := #[p0, p1, p2, v3, v4, v5, v6, p7, p8, v9, v10, v11, v12, v13, v14, v15, v16, v17, v18, v19, v20, v21, v22, v23, v24, v25, v26, v27, v28, v29, v30, v31, v32, v33, v34, v35, v36, v37, v38, .bool true, .bool true, p41, .string s0, .slice (some ⟨g0, 0, none⟩) 1 1, .int .u32 (F s0 : Nat), p45, p46, .string s1, .slice (some ⟨g1, 0, none⟩) 1 1, .int .u32 (F s1 : Nat), p50, p51, .string s2, .slice (some ⟨g2, 0, none⟩) 1 1, .int .u32 (F s2 : Nat), .int .u32 (bits BinOp.xor IntKind.u32 (F s1 : Int) (F s2 : Int)), p56, p57, .string s3, .slice (some ⟨g3, 0, none⟩) 1 1, v60, v61, v62, v63], defers := [] } w := by
  subst hl
  refine wpAnyH_ready (rs := [21]) (by kernel_rfl) (by simp) ?_
  refine AllReadyH.cons (o := { dst := some 60, op := Op.call { callee := Callee.value (Operand.func 5), args := #[Operand.tmp 59], argTypes := #[27] }, type := 24, pos := "law.go:43", after := #[{ on := 20, ground := Ground.data }, { on := 15, ground := Ground.chain }, { on := 1, ground := Ground.guard }], guard := some (1, true) }) rfl (fun K hK => ?_) ?_
  · go_simp
    refine (h.sum g3 s3 w h.z3 c3).mono ?_
    rintro e w1 ⟨rfl, rfl⟩
    try go_wp2_with fail
    refine hK.out _ _ hw (fun hHeld => ?_)
    clear hK K
    try simp only [List.setIfInBounds_toArray, List.set_cons_zero, List.set_cons_succ]
    have hv := h.val
    refine wpAnyH_take (i := 22) (oi := { dst := some 61, op := Op.binOp BinOp.xor 24 (Operand.tmp 55) (Operand.tmp 60) 24, type := 24, pos := "law.go:43", after := #[{ on := 16, ground := Ground.data }, { on := 21, ground := Ground.data }, { on := 1, ground := Ground.guard }], guard := some (1, true) }) (v := ?_) rfl (by kernel_rfl) (by kernel_rfl) (by kernel_rfl) (fun c a w => h.panic c a w _ _) (Or.inl ⟨by rfl, ?_⟩) hHeld ?_
    rotate_left
    · (intro wz hSw; go_simp; try with_reducible rfl)
    try simp only [Act.put, List.setIfInBounds_toArray, List.set_cons_zero, List.set_cons_succ]
    refine wpAnyH_take (i := 23) (oi := { dst := some 62, op := Op.binOp BinOp.eql 24 (Operand.tmp 44) (Operand.tmp 61) 24, type := 4, pos := "law.go:43", after := #[{ on := 5, ground := Ground.data }, { on := 22, ground := Ground.data }, { on := 1, ground := Ground.guard }], guard := some (1, true) }) (v := ?_) rfl (by kernel_rfl) (by kernel_rfl) (by kernel_rfl) (fun c a w => h.panic c a w _ _) (Or.inl ⟨by rfl, ?_⟩) hHeld ?_
    rotate_left
    · (intro wz hSw; go_simp; try with_reducible rfl)
    try simp only [Act.put, List.setIfInBounds_toArray, List.set_cons_zero, List.set_cons_succ]
    refine wpAnyH_take (i := 24) (oi := { dst := some 63, op := Op.pick (Operand.tmp 40) (Operand.tmp 62) (Operand.const (Value.bool false)), type := 4, pos := "law.go:43", after := #[{ on := 1, ground := Ground.data }, { on := 23, ground := Ground.data }], guard := none }) (v := ?_) rfl (by kernel_rfl) (by kernel_rfl) (by kernel_rfl) (fun c a w => h.panic c a w _ _) (Or.inl ⟨by rfl, ?_⟩) hHeld ?_
    rotate_left
    · (intro wz hSw; go_simp; try with_reducible rfl)
    try simp only [Act.put, List.setIfInBounds_toArray, List.set_cons_zero, List.set_cons_succ]
    refine wpAnyH_take (i := 25) (oi := { dst := some 6, op := Op.assign (Operand.tmp 63), type := 4, pos := "law.go:43", after := #[{ on := 24, ground := Ground.data }, { on := 21, ground := Ground.chain }, { on := 0, ground := Ground.phase }, { on := 1, ground := Ground.phase }, { on := 2, ground := Ground.phase }, { on := 3, ground := Ground.phase }, { on := 4, ground := Ground.phase }, { on := 5, ground := Ground.phase }, { on := 6, ground := Ground.phase }, { on := 7, ground := Ground.phase }, { on := 8, ground := Ground.phase }, { on := 9, ground := Ground.phase }, { on := 10, ground := Ground.phase }, { on := 11, ground := Ground.phase }, { on := 12, ground := Ground.phase }, { on := 13, ground := Ground.phase }, { on := 14, ground := Ground.phase }, { on := 15, ground := Ground.phase }, { on := 16, ground := Ground.phase }, { on := 17, ground := Ground.phase }, { on := 18, ground := Ground.phase }, { on := 19, ground := Ground.phase }, { on := 20, ground := Ground.phase }, { on := 21, ground := Ground.phase }, { on := 22, ground := Ground.phase }, { on := 23, ground := Ground.phase }, { on := 24, ground := Ground.phase }], guard := none }) (v := ?_) rfl (by kernel_rfl) (by kernel_rfl) (by kernel_rfl) (fun c a w => h.panic c a w _ _) (Or.inl ⟨by rfl, ?_⟩) hHeld ?_
    rotate_left
    · (intro wz hSw; go_simp; try with_reducible rfl)
    try simp only [Act.put, List.setIfInBounds_toArray, List.set_cons_zero, List.set_cons_succ]
    exact wpAnyH_done (by kernel_rfl) (h.fin _ _ rfl rfl hb) _
  exact AllReadyH.nil
set_option maxRecDepth 100000 in
theorem three_0123_2 {Q : Exit → Act → World → Prop} {S : World → Prop} {W0 : World} {F : ByteArray → Nat} {s0 s1 s2 s3 : ByteArray} {p0 p1 p2 p7 p8 p41 p45 p46 p50 p51 p56 p57 v3 v4 v5 v6 v9 v10 v11 v12 v13 v14 v15 v16 v17 v18 v19 v20 v21 v22 v23 v24 v25 v26 v27 v28 v29 v30 v31 v32 v33 v34 v35 v36 v37 v38 v54 v55 v60 v61 v62 v63 : Value} (h : ThreeCtx Q S W0 F s0 s1 s2 s3) (l : Array Bool) (hl : l = #[true, true, true, true, true, true, true, true, true, true, true, true, true, true, true, false, false, true, true, true, true, false, false, false, false, false]) (w : World) (hw : S w) (hb : Below W0.heap.size W0 w) (g0 g1 g2 g3 : Nat) (c0 : w.cell? ⟨g0, 0, none⟩ = some (.string s0)) (c1 : w.cell? ⟨g1, 0, none⟩ = some (.string s1)) (c2 : w.cell? ⟨g2, 0, none⟩ = some (.string s2)) (c3 : w.cell? ⟨g3, 0, none⟩ = some (.string s3)) :
    wpAnyH Try.prog .any threeOps Q S 7 l { tmps := #[p0, p1, p2, v3, v4, v5, v6, p7, p8, v9, v10, v11, v12, v13, v14, v15, v16, v17, v18, v19, v20, v21, v22, v23, v24, v25, v26, v27, v28, v29, v30, v31, v32, v33, v34, v35, v36, v37, v38, .bool true, .bool true, p41, .string s0, .slice (some ⟨g0, 0, none⟩) 1 1, .int .u32 (F s0 : Nat), p45, p46, .string s1, .slice (some ⟨g1, 0, none⟩) 1 1, .int .u32 (F s1 : Nat), p50, p51, .string s2, .slice (some ⟨g2, 0, none⟩) 1 1, v54, v55, p56, p57, .string s3, .slice (some ⟨g3, 0, none⟩) 1 1, v60, v61, v62, v63], defers := [] } w := by
  subst hl
  refine wpAnyH_ready (rs := [15]) (by kernel_rfl) (by simp) ?_
  refine AllReadyH.cons (o := { dst := some 54, op := Op.call { callee := Callee.value (Operand.func 5), args := #[Operand.tmp 53], argTypes := #[27] }, type := 24, pos := "law.go:43", after := #[{ on := 14, ground := Ground.data }, { on := 10, ground := Ground.chain }, { on := 1, ground := Ground.guard }], guard := some (1, true) }) rfl (fun K hK => ?_) ?_
  · go_simp
    refine (h.sum g2 s2 w h.z2 c2).mono ?_
    rintro e w1 ⟨rfl, rfl⟩
    try go_wp2_with fail
    refine hK.out _ _ hw (fun hHeld => ?_)
    clear hK K
    try simp only [List.setIfInBounds_toArray, List.set_cons_zero, List.set_cons_succ]
    refine wpAnyH_take (i := 16) (oi := { dst := some 55, op := Op.binOp BinOp.xor 24 (Operand.tmp 49) (Operand.tmp 54) 24, type := 24, pos := "law.go:43", after := #[{ on := 10, ground := Ground.data }, { on := 15, ground := Ground.data }, { on := 1, ground := Ground.guard }], guard := some (1, true) }) (v := ?_) rfl (by kernel_rfl) (by kernel_rfl) (by kernel_rfl) (fun c a w => h.panic c a w _ _) (Or.inl ⟨by rfl, ?_⟩) hHeld ?_
    rotate_left
    · (intro wz hSw; go_simp; try with_reducible rfl)
    try simp only [Act.put, List.setIfInBounds_toArray, List.set_cons_zero, List.set_cons_succ]
    exact three_0123_3 h _ (by kernel_rfl) _ hHeld hb g0 g1 g2 g3 c0 c1 c2 c3
  exact AllReadyH.nil
set_option maxRecDepth 100000 in
theorem three_012_3 {Q : Exit → Act → World → Prop} {S : World → Prop} {W0 : World} {F : ByteArray → Nat} {s0 s1 s2 s3 : ByteArray} {p0 p1 p2 p7 p8 p41 p45 p46 p50 p51 p56 p57 v3 v4 v5 v6 v9 v10 v11 v12 v13 v14 v15 v16 v17 v18 v19 v20 v21 v22 v23 v24 v25 v26 v27 v28 v29 v30 v31 v32 v33 v34 v35 v36 v37 v38 v59 v60 v61 v62 v63 : Value} (h : ThreeCtx Q S W0 F s0 s1 s2 s3) (l : Array Bool) (hl : l = #[true, true, true, true, true, true, true, true, true, true, true, true, true, true, true, true, true, true, true, true, false, false, false, false, false, false]) (w : World) (hw : S w) (hb : Below W0.heap.size W0 w) (g0 g1 g2 : Nat) (c0 : w.cell? ⟨g0, 0, none⟩ = some (.string s0)) (c1 : w.cell? ⟨g1, 0, none⟩ = some (.string s1)) (c2 : w.cell? ⟨g2, 0, none⟩ = some (.string s2)) :
    wpAnyH Try.prog .any threeOps Q S 6 l { tmps := #[p0, p1, p2, v3, v4, v5, v6, p7, p8, v9, v10, v11, v12, v13, v14, v15, v16, v17, v18, v19, v20, v21, v22, v23, v24, v25, v26, v27, v28, v29, v30, v31, v32, v33, v34, v35, v36, v37, v38, .bool true, .bool true, p41, .string s0, .slice (some ⟨g0, 0, none⟩) 1 1, .int .u32 (F s0 : Nat), p45, p46, .string s1, .slice (some ⟨g1, 0, none⟩) 1 1, .int .u32 (F s1 : Nat), p50, p51, .string s2, .slice (some ⟨g2, 0, none⟩) 1 1, .int .u32 (F s2 : Nat), .int .u32 (bits BinOp.xor IntKind.u32 (F s1 : Int) (F s2 : Int)), p56, p57, .string s3, v59, v60, v61, v62, v63], defers := [] } w := by
  subst hl
  refine wpAnyH_ready (rs := [20]) (by kernel_rfl) (by simp) ?_
  refine AllReadyH.cons (o := { dst := some 59, op := Op.buildSlice 27 1 #[(0, Operand.tmp 58)], type := 27, pos := "law.go:43", after := #[{ on := 19, ground := Ground.data }, { on := 1, ground := Ground.guard }], guard := some (1, true) }) rfl (fun K hK => ?_) ?_
  · go_simp
    refine hK.out _ _ (h.alloc _ _ hw) (fun hHeld => ?_)
    clear hK K
    try simp only [List.setIfInBounds_toArray, List.set_cons_zero, List.set_cons_succ]
    exact three_0123_3 h _ (by kernel_rfl) _ hHeld (belowMore hb _) g0 g1 g2 w.heap.size (cellMore c0 _) (cellMore c1 _) (cellMore c2 _) (cellNew w _ _)
  exact AllReadyH.nil
set_option maxRecDepth 100000 in
theorem three_0123_1 {Q : Exit → Act → World → Prop} {S : World → Prop} {W0 : World} {F : ByteArray → Nat} {s0 s1 s2 s3 : ByteArray} {p0 p1 p2 p7 p8 p41 p45 p46 p50 p51 p56 p57 v3 v4 v5 v6 v9 v10 v11 v12 v13 v14 v15 v16 v17 v18 v19 v20 v21 v22 v23 v24 v25 v26 v27 v28 v29 v30 v31 v32 v33 v34 v35 v36 v37 v38 v49 v54 v55 v60 v61 v62 v63 : Value} (h : ThreeCtx Q S W0 F s0 s1 s2 s3) (l : Array Bool) (hl : l = #[true, true, true, true, true, true, true, true, true, true, false, true, true, true, true, false, false, true, true, true, true, false, false, false, false, false]) (w : World) (hw : S w) (hb : Below W0.heap.size W0 w) (g0 g1 g2 g3 : Nat) (c0 : w.cell? ⟨g0, 0, none⟩ = some (.string s0)) (c1 : w.cell? ⟨g1, 0, none⟩ = some (.string s1)) (c2 : w.cell? ⟨g2, 0, none⟩ = some (.string s2)) (c3 : w.cell? ⟨g3, 0, none⟩ = some (.string s3)) :
    wpAnyH Try.prog .any threeOps Q S 8 l { tmps := #[p0, p1, p2, v3, v4, v5, v6, p7, p8, v9, v10, v11, v12, v13, v14, v15, v16, v17, v18, v19, v20, v21, v22, v23, v24, v25, v26, v27, v28, v29, v30, v31, v32, v33, v34, v35, v36, v37, v38, .bool true, .bool true, p41, .string s0, .slice (some ⟨g0, 0, none⟩) 1 1, .int .u32 (F s0 : Nat), p45, p46, .string s1, .slice (some ⟨g1, 0, none⟩) 1 1, v49, p50, p51, .string s2, .slice (some ⟨g2, 0, none⟩) 1 1, v54, v55, p56, p57, .string s3, .slice (some ⟨g3, 0, none⟩) 1 1, v60, v61, v62, v63], defers := [] } w := by
  subst hl
  refine wpAnyH_ready (rs := [10]) (by kernel_rfl) (by simp) ?_
  refine AllReadyH.cons (o := { dst := some 49, op := Op.call { callee := Callee.value (Operand.func 5), args := #[Operand.tmp 48], argTypes := #[27] }, type := 24, pos := "law.go:43", after := #[{ on := 9, ground := Ground.data }, { on := 5, ground := Ground.chain }, { on := 1, ground := Ground.guard }], guard := some (1, true) }) rfl (fun K hK => ?_) ?_
  · go_simp
    refine (h.sum g1 s1 w h.z1 c1).mono ?_
    rintro e w1 ⟨rfl, rfl⟩
    try go_wp2_with fail
    refine hK.out _ _ hw (fun hHeld => ?_)
    clear hK K
    try simp only [List.setIfInBounds_toArray, List.set_cons_zero, List.set_cons_succ]
    exact three_0123_2 h _ (by kernel_rfl) _ hHeld hb g0 g1 g2 g3 c0 c1 c2 c3
  exact AllReadyH.nil
set_option maxRecDepth 100000 in
theorem three_012_2 {Q : Exit → Act → World → Prop} {S : World → Prop} {W0 : World} {F : ByteArray → Nat} {s0 s1 s2 s3 : ByteArray} {p0 p1 p2 p7 p8 p41 p45 p46 p50 p51 p56 p57 v3 v4 v5 v6 v9 v10 v11 v12 v13 v14 v15 v16 v17 v18 v19 v20 v21 v22 v23 v24 v25 v26 v27 v28 v29 v30 v31 v32 v33 v34 v35 v36 v37 v38 v54 v55 v59 v60 v61 v62 v63 : Value} (h : ThreeCtx Q S W0 F s0 s1 s2 s3) (l : Array Bool) (hl : l = #[true, true, true, true, true, true, true, true, true, true, true, true, true, true, true, false, false, true, true, true, false, false, false, false, false, false]) (w : World) (hw : S w) (hb : Below W0.heap.size W0 w) (g0 g1 g2 : Nat) (c0 : w.cell? ⟨g0, 0, none⟩ = some (.string s0)) (c1 : w.cell? ⟨g1, 0, none⟩ = some (.string s1)) (c2 : w.cell? ⟨g2, 0, none⟩ = some (.string s2)) :
    wpAnyH Try.prog .any threeOps Q S 8 l { tmps := #[p0, p1, p2, v3, v4, v5, v6, p7, p8, v9, v10, v11, v12, v13, v14, v15, v16, v17, v18, v19, v20, v21, v22, v23, v24, v25, v26, v27, v28, v29, v30, v31, v32, v33, v34, v35, v36, v37, v38, .bool true, .bool true, p41, .string s0, .slice (some ⟨g0, 0, none⟩) 1 1, .int .u32 (F s0 : Nat), p45, p46, .string s1, .slice (some ⟨g1, 0, none⟩) 1 1, .int .u32 (F s1 : Nat), p50, p51, .string s2, .slice (some ⟨g2, 0, none⟩) 1 1, v54, v55, p56, p57, .string s3, v59, v60, v61, v62, v63], defers := [] } w := by
  subst hl
  refine wpAnyH_ready (rs := [15, 20]) (by kernel_rfl) (by simp) ?_
  refine AllReadyH.cons (o := { dst := some 54, op := Op.call { callee := Callee.value (Operand.func 5), args := #[Operand.tmp 53], argTypes := #[27] }, type := 24, pos := "law.go:43", after := #[{ on := 14, ground := Ground.data }, { on := 10, ground := Ground.chain }, { on := 1, ground := Ground.guard }], guard := some (1, true) }) rfl (fun K hK => ?_) ?_
  · go_simp
    refine (h.sum g2 s2 w h.z2 c2).mono ?_
    rintro e w1 ⟨rfl, rfl⟩
    try go_wp2_with fail
    refine hK.out _ _ hw (fun hHeld => ?_)
    clear hK K
    try simp only [List.setIfInBounds_toArray, List.set_cons_zero, List.set_cons_succ]
    refine wpAnyH_take (i := 16) (oi := { dst := some 55, op := Op.binOp BinOp.xor 24 (Operand.tmp 49) (Operand.tmp 54) 24, type := 24, pos := "law.go:43", after := #[{ on := 10, ground := Ground.data }, { on := 15, ground := Ground.data }, { on := 1, ground := Ground.guard }], guard := some (1, true) }) (v := ?_) rfl (by kernel_rfl) (by kernel_rfl) (by kernel_rfl) (fun c a w => h.panic c a w _ _) (Or.inl ⟨by rfl, ?_⟩) hHeld ?_
    rotate_left
    · (intro wz hSw; go_simp; try with_reducible rfl)
    try simp only [Act.put, List.setIfInBounds_toArray, List.set_cons_zero, List.set_cons_succ]
    exact three_012_3 h _ (by kernel_rfl) _ hHeld hb g0 g1 g2 c0 c1 c2
  refine AllReadyH.cons (o := { dst := some 59, op := Op.buildSlice 27 1 #[(0, Operand.tmp 58)], type := 27, pos := "law.go:43", after := #[{ on := 19, ground := Ground.data }, { on := 1, ground := Ground.guard }], guard := some (1, true) }) rfl (fun K hK => ?_) ?_
  · go_simp
    refine hK.out _ _ (h.alloc _ _ hw) (fun hHeld => ?_)
    clear hK K
    try simp only [List.setIfInBounds_toArray, List.set_cons_zero, List.set_cons_succ]
    exact three_0123_2 h _ (by kernel_rfl) _ hHeld (belowMore hb _) g0 g1 g2 w.heap.size (cellMore c0 _) (cellMore c1 _) (cellMore c2 _) (cellNew w _ _)
  exact AllReadyH.nil
set_option maxRecDepth 100000 in
theorem three_013_2 {Q : Exit → Act → World → Prop} {S : World → Prop} {W0 : World} {F : ByteArray → Nat} {s0 s1 s2 s3 : ByteArray} {p0 p1 p2 p7 p8 p41 p45 p46 p50 p51 p56 p57 v3 v4 v5 v6 v9 v10 v11 v12 v13 v14 v15 v16 v17 v18 v19 v20 v21 v22 v23 v24 v25 v26 v27 v28 v29 v30 v31 v32 v33 v34 v35 v36 v37 v38 v53 v54 v55 v60 v61 v62 v63 : Value} (h : ThreeCtx Q S W0 F s0 s1 s2 s3) (l : Array Bool) (hl : l = #[true, true, true, true, true, true, true, true, true, true, true, true, true, true, false, false, false, true, true, true, true, false, false, false, false, false]) (w : World) (hw : S w) (hb : Below W0.heap.size W0 w) (g0 g1 g3 : Nat) (c0 : w.cell? ⟨g0, 0, none⟩ = some (.string s0)) (c1 : w.cell? ⟨g1, 0, none⟩ = some (.string s1)) (c3 : w.cell? ⟨g3, 0, none⟩ = some (.string s3)) :
    wpAnyH Try.prog .any threeOps Q S 8 l { tmps := #[p0, p1, p2, v3, v4, v5, v6, p7, p8, v9, v10, v11, v12, v13, v14, v15, v16, v17, v18, v19, v20, v21, v22, v23, v24, v25, v26, v27, v28, v29, v30, v31, v32, v33, v34, v35, v36, v37, v38, .bool true, .bool true, p41, .string s0, .slice (some ⟨g0, 0, none⟩) 1 1, .int .u32 (F s0 : Nat), p45, p46, .string s1, .slice (some ⟨g1, 0, none⟩) 1 1, .int .u32 (F s1 : Nat), p50, p51, .string s2, v53, v54, v55, p56, p57, .string s3, .slice (some ⟨g3, 0, none⟩) 1 1, v60, v61, v62, v63], defers := [] } w := by
  subst hl
  refine wpAnyH_ready (rs := [14]) (by kernel_rfl) (by simp) ?_
  refine AllReadyH.cons (o := { dst := some 53, op := Op.buildSlice 27 1 #[(0, Operand.tmp 52)], type := 27, pos := "law.go:43", after := #[{ on := 13, ground := Ground.data }, { on := 1, ground := Ground.guard }], guard := some (1, true) }) rfl (fun K hK => ?_) ?_
  · go_simp
    refine hK.out _ _ (h.alloc _ _ hw) (fun hHeld => ?_)
    clear hK K
    try simp only [List.setIfInBounds_toArray, List.set_cons_zero, List.set_cons_succ]
    exact three_0123_2 h _ (by kernel_rfl) _ hHeld (belowMore hb _) g0 g1 w.heap.size g3 (cellMore c0 _) (cellMore c1 _) (cellNew w _ _) (cellMore c3 _)
  exact AllReadyH.nil
set_option maxRecDepth 100000 in
theorem three_0123_0 {Q : Exit → Act → World → Prop} {S : World → Prop} {W0 : World} {F : ByteArray → Nat} {s0 s1 s2 s3 : ByteArray} {p0 p1 p2 p7 p8 p41 p45 p46 p50 p51 p56 p57 v3 v4 v5 v6 v9 v10 v11 v12 v13 v14 v15 v16 v17 v18 v19 v20 v21 v22 v23 v24 v25 v26 v27 v28 v29 v30 v31 v32 v33 v34 v35 v36 v37 v38 v44 v49 v54 v55 v60 v61 v62 v63 : Value} (h : ThreeCtx Q S W0 F s0 s1 s2 s3) (l : Array Bool) (hl : l = #[true, true, true, true, true, false, true, true, true, true, false, true, true, true, true, false, false, true, true, true, true, false, false, false, false, false]) (w : World) (hw : S w) (hb : Below W0.heap.size W0 w) (g0 g1 g2 g3 : Nat) (c0 : w.cell? ⟨g0, 0, none⟩ = some (.string s0)) (c1 : w.cell? ⟨g1, 0, none⟩ = some (.string s1)) (c2 : w.cell? ⟨g2, 0, none⟩ = some (.string s2)) (c3 : w.cell? ⟨g3, 0, none⟩ = some (.string s3)) :
    wpAnyH Try.prog .any threeOps Q S 9 l { tmps := #[p0, p1, p2, v3, v4, v5, v6, p7, p8, v9, v10, v11, v12, v13, v14, v15, v16, v17, v18, v19, v20, v21, v22, v23, v24, v25, v26, v27, v28, v29, v30, v31, v32, v33, v34, v35, v36, v37, v38, .bool true, .bool true, p41, .string s0, .slice (some ⟨g0, 0, none⟩) 1 1, v44, p45, p46, .string s1, .slice (some ⟨g1, 0, none⟩) 1 1, v49, p50, p51, .string s2, .slice (some ⟨g2, 0, none⟩) 1 1, v54, v55, p56, p57, .string s3, .slice (some ⟨g3, 0, none⟩) 1 1, v60, v61, v62, v63], defers := [] } w := by
  subst hl
  refine wpAnyH_ready (rs := [5]) (by kernel_rfl) (by simp) ?_
  refine AllReadyH.cons (o := { dst := some 44, op := Op.call { callee := Callee.value (Operand.func 5), args := #[Operand.tmp 43], argTypes := #[27] }, type := 24, pos := "law.go:43", after := #[{ on := 4, ground := Ground.data }, { on := 1, ground := Ground.chain }, { on := 1, ground := Ground.guard }], guard := some (1, true) }) rfl (fun K hK => ?_) ?_
  · go_simp
    refine (h.sum g0 s0 w h.z0 c0).mono ?_
    rintro e w1 ⟨rfl, rfl⟩
    try go_wp2_with fail
    refine hK.out _ _ hw (fun hHeld => ?_)
    clear hK K
    try simp only [List.setIfInBounds_toArray, List.set_cons_zero, List.set_cons_succ]
    exact three_0123_1 h _ (by kernel_rfl) _ hHeld hb g0 g1 g2 g3 c0 c1 c2 c3
  exact AllReadyH.nil
set_option maxRecDepth 100000 in
theorem three_012_1 {Q : Exit → Act → World → Prop} {S : World → Prop} {W0 : World} {F : ByteArray → Nat} {s0 s1 s2 s3 : ByteArray} {p0 p1 p2 p7 p8 p41 p45 p46 p50 p51 p56 p57 v3 v4 v5 v6 v9 v10 v11 v12 v13 v14 v15 v16 v17 v18 v19 v20 v21 v22 v23 v24 v25 v26 v27 v28 v29 v30 v31 v32 v33 v34 v35 v36 v37 v38 v49 v54 v55 v59 v60 v61 v62 v63 : Value} (h : ThreeCtx Q S W0 F s0 s1 s2 s3) (l : Array Bool) (hl : l = #[true, true, true, true, true, true, true, true, true, true, false, true, true, true, true, false, false, true, true, true, false, false, false, false, false, false]) (w : World) (hw : S w) (hb : Below W0.heap.size W0 w) (g0 g1 g2 : Nat) (c0 : w.cell? ⟨g0, 0, none⟩ = some (.string s0)) (c1 : w.cell? ⟨g1, 0, none⟩ = some (.string s1)) (c2 : w.cell? ⟨g2, 0, none⟩ = some (.string s2)) :
    wpAnyH Try.prog .any threeOps Q S 9 l { tmps := #[p0, p1, p2, v3, v4, v5, v6, p7, p8, v9, v10, v11, v12, v13, v14, v15, v16, v17, v18, v19, v20, v21, v22, v23, v24, v25, v26, v27, v28, v29, v30, v31, v32, v33, v34, v35, v36, v37, v38, .bool true, .bool true, p41, .string s0, .slice (some ⟨g0, 0, none⟩) 1 1, .int .u32 (F s0 : Nat), p45, p46, .string s1, .slice (some ⟨g1, 0, none⟩) 1 1, v49, p50, p51, .string s2, .slice (some ⟨g2, 0, none⟩) 1 1, v54, v55, p56, p57, .string s3, v59, v60, v61, v62, v63], defers := [] } w := by
  subst hl
  refine wpAnyH_ready (rs := [10, 20]) (by kernel_rfl) (by simp) ?_
  refine AllReadyH.cons (o := { dst := some 49, op := Op.call { callee := Callee.value (Operand.func 5), args := #[Operand.tmp 48], argTypes := #[27] }, type := 24, pos := "law.go:43", after := #[{ on := 9, ground := Ground.data }, { on := 5, ground := Ground.chain }, { on := 1, ground := Ground.guard }], guard := some (1, true) }) rfl (fun K hK => ?_) ?_
  · go_simp
    refine (h.sum g1 s1 w h.z1 c1).mono ?_
    rintro e w1 ⟨rfl, rfl⟩
    try go_wp2_with fail
    refine hK.out _ _ hw (fun hHeld => ?_)
    clear hK K
    try simp only [List.setIfInBounds_toArray, List.set_cons_zero, List.set_cons_succ]
    exact three_012_2 h _ (by kernel_rfl) _ hHeld hb g0 g1 g2 c0 c1 c2
  refine AllReadyH.cons (o := { dst := some 59, op := Op.buildSlice 27 1 #[(0, Operand.tmp 58)], type := 27, pos := "law.go:43", after := #[{ on := 19, ground := Ground.data }, { on := 1, ground := Ground.guard }], guard := some (1, true) }) rfl (fun K hK => ?_) ?_
  · go_simp
    refine hK.out _ _ (h.alloc _ _ hw) (fun hHeld => ?_)
    clear hK K
    try simp only [List.setIfInBounds_toArray, List.set_cons_zero, List.set_cons_succ]
    exact three_0123_1 h _ (by kernel_rfl) _ hHeld (belowMore hb _) g0 g1 g2 w.heap.size (cellMore c0 _) (cellMore c1 _) (cellMore c2 _) (cellNew w _ _)
  exact AllReadyH.nil
set_option maxRecDepth 100000 in
theorem three_013_1 {Q : Exit → Act → World → Prop} {S : World → Prop} {W0 : World} {F : ByteArray → Nat} {s0 s1 s2 s3 : ByteArray} {p0 p1 p2 p7 p8 p41 p45 p46 p50 p51 p56 p57 v3 v4 v5 v6 v9 v10 v11 v12 v13 v14 v15 v16 v17 v18 v19 v20 v21 v22 v23 v24 v25 v26 v27 v28 v29 v30 v31 v32 v33 v34 v35 v36 v37 v38 v49 v53 v54 v55 v60 v61 v62 v63 : Value} (h : ThreeCtx Q S W0 F s0 s1 s2 s3) (l : Array Bool) (hl : l = #[true, true, true, true, true, true, true, true, true, true, false, true, true, true, false, false, false, true, true, true, true, false, false, false, false, false]) (w : World) (hw : S w) (hb : Below W0.heap.size W0 w) (g0 g1 g3 : Nat) (c0 : w.cell? ⟨g0, 0, none⟩ = some (.string s0)) (c1 : w.cell? ⟨g1, 0, none⟩ = some (.string s1)) (c3 : w.cell? ⟨g3, 0, none⟩ = some (.string s3)) :
    wpAnyH Try.prog .any threeOps Q S 9 l { tmps := #[p0, p1, p2, v3, v4, v5, v6, p7, p8, v9, v10, v11, v12, v13, v14, v15, v16, v17, v18, v19, v20, v21, v22, v23, v24, v25, v26, v27, v28, v29, v30, v31, v32, v33, v34, v35, v36, v37, v38, .bool true, .bool true, p41, .string s0, .slice (some ⟨g0, 0, none⟩) 1 1, .int .u32 (F s0 : Nat), p45, p46, .string s1, .slice (some ⟨g1, 0, none⟩) 1 1, v49, p50, p51, .string s2, v53, v54, v55, p56, p57, .string s3, .slice (some ⟨g3, 0, none⟩) 1 1, v60, v61, v62, v63], defers := [] } w := by
  subst hl
  refine wpAnyH_ready (rs := [10, 14]) (by kernel_rfl) (by simp) ?_
  refine AllReadyH.cons (o := { dst := some 49, op := Op.call { callee := Callee.value (Operand.func 5), args := #[Operand.tmp 48], argTypes := #[27] }, type := 24, pos := "law.go:43", after := #[{ on := 9, ground := Ground.data }, { on := 5, ground := Ground.chain }, { on := 1, ground := Ground.guard }], guard := some (1, true) }) rfl (fun K hK => ?_) ?_
  · go_simp
    refine (h.sum g1 s1 w h.z1 c1).mono ?_
    rintro e w1 ⟨rfl, rfl⟩
    try go_wp2_with fail
    refine hK.out _ _ hw (fun hHeld => ?_)
    clear hK K
    try simp only [List.setIfInBounds_toArray, List.set_cons_zero, List.set_cons_succ]
    exact three_013_2 h _ (by kernel_rfl) _ hHeld hb g0 g1 g3 c0 c1 c3
  refine AllReadyH.cons (o := { dst := some 53, op := Op.buildSlice 27 1 #[(0, Operand.tmp 52)], type := 27, pos := "law.go:43", after := #[{ on := 13, ground := Ground.data }, { on := 1, ground := Ground.guard }], guard := some (1, true) }) rfl (fun K hK => ?_) ?_
  · go_simp
    refine hK.out _ _ (h.alloc _ _ hw) (fun hHeld => ?_)
    clear hK K
    try simp only [List.setIfInBounds_toArray, List.set_cons_zero, List.set_cons_succ]
    exact three_0123_1 h _ (by kernel_rfl) _ hHeld (belowMore hb _) g0 g1 w.heap.size g3 (cellMore c0 _) (cellMore c1 _) (cellNew w _ _) (cellMore c3 _)
  exact AllReadyH.nil
set_option maxRecDepth 100000 in
theorem three_023_1 {Q : Exit → Act → World → Prop} {S : World → Prop} {W0 : World} {F : ByteArray → Nat} {s0 s1 s2 s3 : ByteArray} {p0 p1 p2 p7 p8 p41 p45 p46 p50 p51 p56 p57 v3 v4 v5 v6 v9 v10 v11 v12 v13 v14 v15 v16 v17 v18 v19 v20 v21 v22 v23 v24 v25 v26 v27 v28 v29 v30 v31 v32 v33 v34 v35 v36 v37 v38 v48 v49 v54 v55 v60 v61 v62 v63 : Value} (h : ThreeCtx Q S W0 F s0 s1 s2 s3) (l : Array Bool) (hl : l = #[true, true, true, true, true, true, true, true, true, false, false, true, true, true, true, false, false, true, true, true, true, false, false, false, false, false]) (w : World) (hw : S w) (hb : Below W0.heap.size W0 w) (g0 g2 g3 : Nat) (c0 : w.cell? ⟨g0, 0, none⟩ = some (.string s0)) (c2 : w.cell? ⟨g2, 0, none⟩ = some (.string s2)) (c3 : w.cell? ⟨g3, 0, none⟩ = some (.string s3)) :
    wpAnyH Try.prog .any threeOps Q S 9 l { tmps := #[p0, p1, p2, v3, v4, v5, v6, p7, p8, v9, v10, v11, v12, v13, v14, v15, v16, v17, v18, v19, v20, v21, v22, v23, v24, v25, v26, v27, v28, v29, v30, v31, v32, v33, v34, v35, v36, v37, v38, .bool true, .bool true, p41, .string s0, .slice (some ⟨g0, 0, none⟩) 1 1, .int .u32 (F s0 : Nat), p45, p46, .string s1, v48, v49, p50, p51, .string s2, .slice (some ⟨g2, 0, none⟩) 1 1, v54, v55, p56, p57, .string s3, .slice (some ⟨g3, 0, none⟩) 1 1, v60, v61, v62, v63], defers := [] } w := by
  subst hl
  refine wpAnyH_ready (rs := [9]) (by kernel_rfl) (by simp) ?_
  refine AllReadyH.cons (o := { dst := some 48, op := Op.buildSlice 27 1 #[(0, Operand.tmp 47)], type := 27, pos := "law.go:43", after := #[{ on := 8, ground := Ground.data }, { on := 1, ground := Ground.guard }], guard := some (1, true) }) rfl (fun K hK => ?_) ?_
  · go_simp
    refine hK.out _ _ (h.alloc _ _ hw) (fun hHeld => ?_)
    clear hK K
    try simp only [List.setIfInBounds_toArray, List.set_cons_zero, List.set_cons_succ]
    exact three_0123_1 h _ (by kernel_rfl) _ hHeld (belowMore hb _) g0 w.heap.size g2 g3 (cellMore c0 _) (cellNew w _ _) (cellMore c2 _) (cellMore c3 _)
  exact AllReadyH.nil
set_option maxRecDepth 100000 in
theorem three_01_2 {Q : Exit → Act → World → Prop} {S : World → Prop} {W0 : World} {F : ByteArray → Nat} {s0 s1 s2 s3 : ByteArray} {p0 p1 p2 p7 p8 p41 p45 p46 p50 p51 p56 p57 v3 v4 v5 v6 v9 v10 v11 v12 v13 v14 v15 v16 v17 v18 v19 v20 v21 v22 v23 v24 v25 v26 v27 v28 v29 v30 v31 v32 v33 v34 v35 v36 v37 v38 v53 v54 v55 v59 v60 v61 v62 v63 : Value} (h : ThreeCtx Q S W0 F s0 s1 s2 s3) (l : Array Bool) (hl : l = #[true, true, true, true, true, true, true, true, true, true, true, true, true, true, false, false, false, true, true, true, false, false, false, false, false, false]) (w : World) (hw : S w) (hb : Below W0.heap.size W0 w) (g0 g1 : Nat) (c0 : w.cell? ⟨g0, 0, none⟩ = some (.string s0)) (c1 : w.cell? ⟨g1, 0, none⟩ = some (.string s1)) :
    wpAnyH Try.prog .any threeOps Q S 9 l { tmps := #[p0, p1, p2, v3, v4, v5, v6, p7, p8, v9, v10, v11, v12, v13, v14, v15, v16, v17, v18, v19, v20, v21, v22, v23, v24, v25, v26, v27, v28, v29, v30, v31, v32, v33, v34, v35, v36, v37, v38, .bool true, .bool true, p41, .string s0, .slice (some ⟨g0, 0, none⟩) 1 1, .int .u32 (F s0 : Nat), p45, p46, .string s1, .slice (some ⟨g1, 0, none⟩) 1 1, .int .u32 (F s1 : Nat), p50, p51, .string s2, v53, v54, v55, p56, p57, .string s3, v59, v60, v61, v62, v63], defers := [] } w := by
  subst hl
  refine wpAnyH_ready (rs := [14, 20]) (by kernel_rfl) (by simp) ?_
  refine AllReadyH.cons (o := { dst := some 53, op := Op.buildSlice 27 1 #[(0, Operand.tmp 52)], type := 27, pos := "law.go:43", after := #[{ on := 13, ground := Ground.data }, { on := 1, ground := Ground.guard }], guard := some (1, true) }) rfl (fun K hK => ?_) ?_
  · go_simp
    refine hK.out _ _ (h.alloc _ _ hw) (fun hHeld => ?_)
    clear hK K
    try simp only [List.setIfInBounds_toArray, List.set_cons_zero, List.set_cons_succ]
    exact three_012_2 h _ (by kernel_rfl) _ hHeld (belowMore hb _) g0 g1 w.heap.size (cellMore c0 _) (cellMore c1 _) (cellNew w _ _)
  refine AllReadyH.cons (o := { dst := some 59, op := Op.buildSlice 27 1 #[(0, Operand.tmp 58)], type := 27, pos := "law.go:43", after := #[{ on := 19, ground := Ground.data }, { on := 1, ground := Ground.guard }], guard := some (1, true) }) rfl (fun K hK => ?_) ?_
  · go_simp
    refine hK.out _ _ (h.alloc _ _ hw) (fun hHeld => ?_)
    clear hK K
    try simp only [List.setIfInBounds_toArray, List.set_cons_zero, List.set_cons_succ]
    exact three_013_2 h _ (by kernel_rfl) _ hHeld (belowMore hb _) g0 g1 w.heap.size (cellMore c0 _) (cellMore c1 _) (cellNew w _ _)
  exact AllReadyH.nil
set_option maxRecDepth 100000 in
theorem three_012_0 {Q : Exit → Act → World → Prop} {S : World → Prop} {W0 : World} {F : ByteArray → Nat} {s0 s1 s2 s3 : ByteArray} {p0 p1 p2 p7 p8 p41 p45 p46 p50 p51 p56 p57 v3 v4 v5 v6 v9 v10 v11 v12 v13 v14 v15 v16 v17 v18 v19 v20 v21 v22 v23 v24 v25 v26 v27 v28 v29 v30 v31 v32 v33 v34 v35 v36 v37 v38 v44 v49 v54 v55 v59 v60 v61 v62 v63 : Value} (h : ThreeCtx Q S W0 F s0 s1 s2 s3) (l : Array Bool) (hl : l = #[true, true, true, true, true, false, true, true, true, true, false, true, true, true, true, false, false, true, true, true, false, false, false, false, false, false]) (w : World) (hw : S w) (hb : Below W0.heap.size W0 w) (g0 g1 g2 : Nat) (c0 : w.cell? ⟨g0, 0, none⟩ = some (.string s0)) (c1 : w.cell? ⟨g1, 0, none⟩ = some (.string s1)) (c2 : w.cell? ⟨g2, 0, none⟩ = some (.string s2)) :
    wpAnyH Try.prog .any threeOps Q S 10 l { tmps := #[p0, p1, p2, v3, v4, v5, v6, p7, p8, v9, v10, v11, v12, v13, v14, v15, v16, v17, v18, v19, v20, v21, v22, v23, v24, v25, v26, v27, v28, v29, v30, v31, v32, v33, v34, v35, v36, v37, v38, .bool true, .bool true, p41, .string s0, .slice (some ⟨g0, 0, none⟩) 1 1, v44, p45, p46, .string s1, .slice (some ⟨g1, 0, none⟩) 1 1, v49, p50, p51, .string s2, .slice (some ⟨g2, 0, none⟩) 1 1, v54, v55, p56, p57, .string s3, v59, v60, v61, v62, v63], defers := [] } w := by
  subst hl
  refine wpAnyH_ready (rs := [5, 20]) (by kernel_rfl) (by simp) ?_
  refine AllReadyH.cons (o := { dst := some 44, op := Op.call { callee := Callee.value (Operand.func 5), args := #[Operand.tmp 43], argTypes := #[27] }, type := 24, pos := "law.go:43", after := #[{ on := 4, ground := Ground.data }, { on := 1, ground := Ground.chain }, { on := 1, ground := Ground.guard }], guard := some (1, true) }) rfl (fun K hK => ?_) ?_
  · go_simp
    refine (h.sum g0 s0 w h.z0 c0).mono ?_
    rintro e w1 ⟨rfl, rfl⟩
    try go_wp2_with fail
    refine hK.out _ _ hw (fun hHeld => ?_)
    clear hK K
    try simp only [List.setIfInBounds_toArray, List.set_cons_zero, List.set_cons_succ]
    exact three_012_1 h _ (by kernel_rfl) _ hHeld hb g0 g1 g2 c0 c1 c2
  refine AllReadyH.cons (o := { dst := some 59, op := Op.buildSlice 27 1 #[(0, Operand.tmp 58)], type := 27, pos := "law.go:43", after := #[{ on := 19, ground := Ground.data }, { on := 1, ground := Ground.guard }], guard := some (1, true) }) rfl (fun K hK => ?_) ?_
  · go_simp
    refine hK.out _ _ (h.alloc _ _ hw) (fun hHeld => ?_)
    clear hK K
    try simp only [List.setIfInBounds_toArray, List.set_cons_zero, List.set_cons_succ]
    exact three_0123_0 h _ (by kernel_rfl) _ hHeld (belowMore hb _) g0 g1 g2 w.heap.size (cellMore c0 _) (cellMore c1 _) (cellMore c2 _) (cellNew w _ _)
  exact AllReadyH.nil
set_option maxRecDepth 100000 in
theorem three_013_0 {Q : Exit → Act → World → Prop} {S : World → Prop} {W0 : World} {F : ByteArray → Nat} {s0 s1 s2 s3 : ByteArray} {p0 p1 p2 p7 p8 p41 p45 p46 p50 p51 p56 p57 v3 v4 v5 v6 v9 v10 v11 v12 v13 v14 v15 v16 v17 v18 v19 v20 v21 v22 v23 v24 v25 v26 v27 v28 v29 v30 v31 v32 v33 v34 v35 v36 v37 v38 v44 v49 v53 v54 v55 v60 v61 v62 v63 : Value} (h : ThreeCtx Q S W0 F s0 s1 s2 s3) (l : Array Bool) (hl : l = #[true, true, true, true, true, false, true, true, true, true, false, true, true, true, false, false, false, true, true, true, true, false, false, false, false, false]) (w : World) (hw : S w) (hb : Below W0.heap.size W0 w) (g0 g1 g3 : Nat) (c0 : w.cell? ⟨g0, 0, none⟩ = some (.string s0)) (c1 : w.cell? ⟨g1, 0, none⟩ = some (.string s1)) (c3 : w.cell? ⟨g3, 0, none⟩ = some (.string s3)) :
    wpAnyH Try.prog .any threeOps Q S 10 l { tmps := #[p0, p1, p2, v3, v4, v5, v6, p7, p8, v9, v10, v11, v12, v13, v14, v15, v16, v17, v18, v19, v20, v21, v22, v23, v24, v25, v26, v27, v28, v29, v30, v31, v32, v33, v34, v35, v36, v37, v38, .bool true, .bool true, p41, .string s0, .slice (some ⟨g0, 0, none⟩) 1 1, v44, p45, p46, .string s1, .slice (some ⟨g1, 0, none⟩) 1 1, v49, p50, p51, .string s2, v53, v54, v55, p56, p57, .string s3, .slice (some ⟨g3, 0, none⟩) 1 1, v60, v61, v62, v63], defers := [] } w := by
  subst hl
  refine wpAnyH_ready (rs := [5, 14]) (by kernel_rfl) (by simp) ?_
  refine AllReadyH.cons (o := { dst := some 44, op := Op.call { callee := Callee.value (Operand.func 5), args := #[Operand.tmp 43], argTypes := #[27] }, type := 24, pos := "law.go:43", after := #[{ on := 4, ground := Ground.data }, { on := 1, ground := Ground.chain }, { on := 1, ground := Ground.guard }], guard := some (1, true) }) rfl (fun K hK => ?_) ?_
  · go_simp
    refine (h.sum g0 s0 w h.z0 c0).mono ?_
    rintro e w1 ⟨rfl, rfl⟩
    try go_wp2_with fail
    refine hK.out _ _ hw (fun hHeld => ?_)
    clear hK K
    try simp only [List.setIfInBounds_toArray, List.set_cons_zero, List.set_cons_succ]
    exact three_013_1 h _ (by kernel_rfl) _ hHeld hb g0 g1 g3 c0 c1 c3
  refine AllReadyH.cons (o := { dst := some 53, op := Op.buildSlice 27 1 #[(0, Operand.tmp 52)], type := 27, pos := "law.go:43", after := #[{ on := 13, ground := Ground.data }, { on := 1, ground := Ground.guard }], guard := some (1, true) }) rfl (fun K hK => ?_) ?_
  · go_simp
    refine hK.out _ _ (h.alloc _ _ hw) (fun hHeld => ?_)
    clear hK K
    try simp only [List.setIfInBounds_toArray, List.set_cons_zero, List.set_cons_succ]
    exact three_0123_0 h _ (by kernel_rfl) _ hHeld (belowMore hb _) g0 g1 w.heap.size g3 (cellMore c0 _) (cellMore c1 _) (cellNew w _ _) (cellMore c3 _)
  exact AllReadyH.nil
set_option maxRecDepth 100000 in
theorem three_023_0 {Q : Exit → Act → World → Prop} {S : World → Prop} {W0 : World} {F : ByteArray → Nat} {s0 s1 s2 s3 : ByteArray} {p0 p1 p2 p7 p8 p41 p45 p46 p50 p51 p56 p57 v3 v4 v5 v6 v9 v10 v11 v12 v13 v14 v15 v16 v17 v18 v19 v20 v21 v22 v23 v24 v25 v26 v27 v28 v29 v30 v31 v32 v33 v34 v35 v36 v37 v38 v44 v48 v49 v54 v55 v60 v61 v62 v63 : Value} (h : ThreeCtx Q S W0 F s0 s1 s2 s3) (l : Array Bool) (hl : l = #[true, true, true, true, true, false, true, true, true, false, false, true, true, true, true, false, false, true, true, true, true, false, false, false, false, false]) (w : World) (hw : S w) (hb : Below W0.heap.size W0 w) (g0 g2 g3 : Nat) (c0 : w.cell? ⟨g0, 0, none⟩ = some (.string s0)) (c2 : w.cell? ⟨g2, 0, none⟩ = some (.string s2)) (c3 : w.cell? ⟨g3, 0, none⟩ = some (.string s3)) :
    wpAnyH Try.prog .any threeOps Q S 10 l { tmps := #[p0, p1, p2, v3, v4, v5, v6, p7, p8, v9, v10, v11, v12, v13, v14, v15, v16, v17, v18, v19, v20, v21, v22, v23, v24, v25, v26, v27, v28, v29, v30, v31, v32, v33, v34, v35, v36, v37, v38, .bool true, .bool true, p41, .string s0, .slice (some ⟨g0, 0, none⟩) 1 1, v44, p45, p46, .string s1, v48, v49, p50, p51, .string s2, .slice (some ⟨g2, 0, none⟩) 1 1, v54, v55, p56, p57, .string s3, .slice (some ⟨g3, 0, none⟩) 1 1, v60, v61, v62, v63], defers := [] } w := by
  subst hl
  refine wpAnyH_ready (rs := [5, 9]) (by kernel_rfl) (by simp) ?_
  refine AllReadyH.cons (o := { dst := some 44, op := Op.call { callee := Callee.value (Operand.func 5), args := #[Operand.tmp 43], argTypes := #[27] }, type := 24, pos := "law.go:43", after := #[{ on := 4, ground := Ground.data }, { on := 1, ground := Ground.chain }, { on := 1, ground := Ground.guard }], guard := some (1, true) }) rfl (fun K hK => ?_) ?_
  · go_simp
    refine (h.sum g0 s0 w h.z0 c0).mono ?_
    rintro e w1 ⟨rfl, rfl⟩
    try go_wp2_with fail
    refine hK.out _ _ hw (fun hHeld => ?_)
    clear hK K
    try simp only [List.setIfInBounds_toArray, List.set_cons_zero, List.set_cons_succ]
    exact three_023_1 h _ (by kernel_rfl) _ hHeld hb g0 g2 g3 c0 c2 c3
  refine AllReadyH.cons (o := { dst := some 48, op := Op.buildSlice 27 1 #[(0, Operand.tmp 47)], type := 27, pos := "law.go:43", after := #[{ on := 8, ground := Ground.data }, { on := 1, ground := Ground.guard }], guard := some (1, true) }) rfl (fun K hK => ?_) ?_
  · go_simp
    refine hK.out _ _ (h.alloc _ _ hw) (fun hHeld => ?_)
    clear hK K
    try simp only [List.setIfInBounds_toArray, List.set_cons_zero, List.set_cons_succ]
    exact three_0123_0 h _ (by kernel_rfl) _ hHeld (belowMore hb _) g0 w.heap.size g2 g3 (cellMore c0 _) (cellNew w _ _) (cellMore c2 _) (cellMore c3 _)
  exact AllReadyH.nil
set_option maxRecDepth 100000 in
theorem three_123_0 {Q : Exit → Act → World → Prop} {S : World → Prop} {W0 : World} {F : ByteArray → Nat} {s0 s1 s2 s3 : ByteArray} {p0 p1 p2 p7 p8 p41 p45 p46 p50 p51 p56 p57 v3 v4 v5 v6 v9 v10 v11 v12 v13 v14 v15 v16 v17 v18 v19 v20 v21 v22 v23 v24 v25 v26 v27 v28 v29 v30 v31 v32 v33 v34 v35 v36 v37 v38 v43 v44 v49 v54 v55 v60 v61 v62 v63 : Value} (h : ThreeCtx Q S W0 F s0 s1 s2 s3) (l : Array Bool) (hl : l = #[true, true, true, true, false, false, true, true, true, true, false, true, true, true, true, false, false, true, true, true, true, false, false, false, false, false]) (w : World) (hw : S w) (hb : Below W0.heap.size W0 w) (g1 g2 g3 : Nat) (c1 : w.cell? ⟨g1, 0, none⟩ = some (.string s1)) (c2 : w.cell? ⟨g2, 0, none⟩ = some (.string s2)) (c3 : w.cell? ⟨g3, 0, none⟩ = some (.string s3)) :
    wpAnyH Try.prog .any threeOps Q S 10 l { tmps := #[p0, p1, p2, v3, v4, v5, v6, p7, p8, v9, v10, v11, v12, v13, v14, v15, v16, v17, v18, v19, v20, v21, v22, v23, v24, v25, v26, v27, v28, v29, v30, v31, v32, v33, v34, v35, v36, v37, v38, .bool true, .bool true, p41, .string s0, v43, v44, p45, p46, .string s1, .slice (some ⟨g1, 0, none⟩) 1 1, v49, p50, p51, .string s2, .slice (some ⟨g2, 0, none⟩) 1 1, v54, v55, p56, p57, .string s3, .slice (some ⟨g3, 0, none⟩) 1 1, v60, v61, v62, v63], defers := [] } w := by
  subst hl
  refine wpAnyH_ready (rs := [4]) (by kernel_rfl) (by simp) ?_
  refine AllReadyH.cons (o := { dst := some 43, op := Op.buildSlice 27 1 #[(0, Operand.tmp 42)], type := 27, pos := "law.go:43", after := #[{ on := 3, ground := Ground.data }, { on := 1, ground := Ground.guard }], guard := some (1, true) }) rfl (fun K hK => ?_) ?_
  · go_simp
    refine hK.out _ _ (h.alloc _ _ hw) (fun hHeld => ?_)
    clear hK K
    try simp only [List.setIfInBounds_toArray, List.set_cons_zero, List.set_cons_succ]
    exact three_0123_0 h _ (by kernel_rfl) _ hHeld (belowMore hb _) w.heap.size g1 g2 g3 (cellNew w _ _) (cellMore c1 _) (cellMore c2 _) (cellMore c3 _)
  exact AllReadyH.nil
set_option maxRecDepth 100000 in
theorem three_01_1 {Q : Exit → Act → World → Prop} {S : World → Prop} {W0 : World} {F : ByteArray → Nat} {s0 s1 s2 s3 : ByteArray} {p0 p1 p2 p7 p8 p41 p45 p46 p50 p51 p56 p57 v3 v4 v5 v6 v9 v10 v11 v12 v13 v14 v15 v16 v17 v18 v19 v20 v21 v22 v23 v24 v25 v26 v27 v28 v29 v30 v31 v32 v33 v34 v35 v36 v37 v38 v49 v53 v54 v55 v59 v60 v61 v62 v63 : Value} (h : ThreeCtx Q S W0 F s0 s1 s2 s3) (l : Array Bool) (hl : l = #[true, true, true, true, true, true, true, true, true, true, false, true, true, true, false, false, false, true, true, true, false, false, false, false, false, false]) (w : World) (hw : S w) (hb : Below W0.heap.size W0 w) (g0 g1 : Nat) (c0 : w.cell? ⟨g0, 0, none⟩ = some (.string s0)) (c1 : w.cell? ⟨g1, 0, none⟩ = some (.string s1)) :
    wpAnyH Try.prog .any threeOps Q S 10 l { tmps := #[p0, p1, p2, v3, v4, v5, v6, p7, p8, v9, v10, v11, v12, v13, v14, v15, v16, v17, v18, v19, v20, v21, v22, v23, v24, v25, v26, v27, v28, v29, v30, v31, v32, v33, v34, v35, v36, v37, v38, .bool true, .bool true, p41, .string s0, .slice (some ⟨g0, 0, none⟩) 1 1, .int .u32 (F s0 : Nat), p45, p46, .string s1, .slice (some ⟨g1, 0, none⟩) 1 1, v49, p50, p51, .string s2, v53, v54, v55, p56, p57, .string s3, v59, v60, v61, v62, v63], defers := [] } w := by
  subst hl
  refine wpAnyH_ready (rs := [10, 14, 20]) (by kernel_rfl) (by simp) ?_
  refine AllReadyH.cons (o := { dst := some 49, op := Op.call { callee := Callee.value (Operand.func 5), args := #[Operand.tmp 48], argTypes := #[27] }, type := 24, pos := "law.go:43", after := #[{ on := 9, ground := Ground.data }, { on := 5, ground := Ground.chain }, { on := 1, ground := Ground.guard }], guard := some (1, true) }) rfl (fun K hK => ?_) ?_
  · go_simp
    refine (h.sum g1 s1 w h.z1 c1).mono ?_
    rintro e w1 ⟨rfl, rfl⟩
    try go_wp2_with fail
    refine hK.out _ _ hw (fun hHeld => ?_)
    clear hK K
    try simp only [List.setIfInBounds_toArray, List.set_cons_zero, List.set_cons_succ]
    exact three_01_2 h _ (by kernel_rfl) _ hHeld hb g0 g1 c0 c1
  refine AllReadyH.cons (o := { dst := some 53, op := Op.buildSlice 27 1 #[(0, Operand.tmp 52)], type := 27, pos := "law.go:43", after := #[{ on := 13, ground := Ground.data }, { on := 1, ground := Ground.guard }], guard := some (1, true) }) rfl (fun K hK => ?_) ?_
  · go_simp
    refine hK.out _ _ (h.alloc _ _ hw) (fun hHeld => ?_)
    clear hK K
    try simp only [List.setIfInBounds_toArray, List.set_cons_zero, List.set_cons_succ]
    exact three_012_1 h _ (by kernel_rfl) _ hHeld (belowMore hb _) g0 g1 w.heap.size (cellMore c0 _) (cellMore c1 _) (cellNew w _ _)
  refine AllReadyH.cons (o := { dst := some 59, op := Op.buildSlice 27 1 #[(0, Operand.tmp 58)], type := 27, pos := "law.go:43", after := #[{ on := 19, ground := Ground.data }, { on := 1, ground := Ground.guard }], guard := some (1, true) }) rfl (fun K hK => ?_) ?_
  · go_simp
    refine hK.out _ _ (h.alloc _ _ hw) (fun hHeld => ?_)
    clear hK K
    try simp only [List.setIfInBounds_toArray, List.set_cons_zero, List.set_cons_succ]
    exact three_013_1 h _ (by kernel_rfl) _ hHeld (belowMore hb _) g0 g1 w.heap.size (cellMore c0 _) (cellMore c1 _) (cellNew w _ _)
  exact AllReadyH.nil
set_option maxRecDepth 100000 in
theorem three_02_1 {Q : Exit → Act → World → Prop} {S : World → Prop} {W0 : World} {F : ByteArray → Nat} {s0 s1 s2 s3 : ByteArray} {p0 p1 p2 p7 p8 p41 p45 p46 p50 p51 p56 p57 v3 v4 v5 v6 v9 v10 v11 v12 v13 v14 v15 v16 v17 v18 v19 v20 v21 v22 v23 v24 v25 v26 v27 v28 v29 v30 v31 v32 v33 v34 v35 v36 v37 v38 v48 v49 v54 v55 v59 v60 v61 v62 v63 : Value} (h : ThreeCtx Q S W0 F s0 s1 s2 s3) (l : Array Bool) (hl : l = #[true, true, true, true, true, true, true, true, true, false, false, true, true, true, true, false, false, true, true, true, false, false, false, false, false, false]) (w : World) (hw : S w) (hb : Below W0.heap.size W0 w) (g0 g2 : Nat) (c0 : w.cell? ⟨g0, 0, none⟩ = some (.string s0)) (c2 : w.cell? ⟨g2, 0, none⟩ = some (.string s2)) :
    wpAnyH Try.prog .any threeOps Q S 10 l { tmps := #[p0, p1, p2, v3, v4, v5, v6, p7, p8, v9, v10, v11, v12, v13, v14, v15, v16, v17, v18, v19, v20, v21, v22, v23, v24, v25, v26, v27, v28, v29, v30, v31, v32, v33, v34, v35, v36, v37, v38, .bool true, .bool true, p41, .string s0, .slice (some ⟨g0, 0, none⟩) 1 1, .int .u32 (F s0 : Nat), p45, p46, .string s1, v48, v49, p50, p51, .string s2, .slice (some ⟨g2, 0, none⟩) 1 1, v54, v55, p56, p57, .string s3, v59, v60, v61, v62, v63], defers := [] } w := by
  subst hl
  refine wpAnyH_ready (rs := [9, 20]) (by kernel_rfl) (by simp) ?_
  refine AllReadyH.cons (o := { dst := some 48, op := Op.buildSlice 27 1 #[(0, Operand.tmp 47)], type := 27, pos := "law.go:43", after := #[{ on := 8, ground := Ground.data }, { on := 1, ground := Ground.guard }], guard := some (1, true) }) rfl (fun K hK => ?_) ?_
  · go_simp
    refine hK.out _ _ (h.alloc _ _ hw) (fun hHeld => ?_)
    clear hK K
    try simp only [List.setIfInBounds_toArray, List.set_cons_zero, List.set_cons_succ]
    exact three_012_1 h _ (by kernel_rfl) _ hHeld (belowMore hb _) g0 w.heap.size g2 (cellMore c0 _) (cellNew w _ _) (cellMore c2 _)
  refine AllReadyH.cons (o := { dst := some 59, op := Op.buildSlice 27 1 #[(0, Operand.tmp 58)], type := 27, pos := "law.go:43", after := #[{ on := 19, ground := Ground.data }, { on := 1, ground := Ground.guard }], guard := some (1, true) }) rfl (fun K hK => ?_) ?_
  · go_simp
    refine hK.out _ _ (h.alloc _ _ hw) (fun hHeld => ?_)
    clear hK K
    try simp only [List.setIfInBounds_toArray, List.set_cons_zero, List.set_cons_succ]
    exact three_023_1 h _ (by kernel_rfl) _ hHeld (belowMore hb _) g0 g2 w.heap.size (cellMore c0 _) (cellMore c2 _) (cellNew w _ _)
  exact AllReadyH.nil
set_option maxRecDepth 100000 in
theorem three_03_1 {Q : Exit → Act → World → Prop} {S : World → Prop} {W0 : World} {F : ByteArray → Nat} {s0 s1 s2 s3 : ByteArray} {p0 p1 p2 p7 p8 p41 p45 p46 p50 p51 p56 p57 v3 v4 v5 v6 v9 v10 v11 v12 v13 v14 v15 v16 v17 v18 v19 v20 v21 v22 v23 v24 v25 v26 v27 v28 v29 v30 v31 v32 v33 v34 v35 v36 v37 v38 v48 v49 v53 v54 v55 v60 v61 v62 v63 : Value} (h : ThreeCtx Q S W0 F s0 s1 s2 s3) (l : Array Bool) (hl : l = #[true, true, true, true, true, true, true, true, true, false, false, true, true, true, false, false, false, true, true, true, true, false, false, false, false, false]) (w : World) (hw : S w) (hb : Below W0.heap.size W0 w) (g0 g3 : Nat) (c0 : w.cell? ⟨g0, 0, none⟩ = some (.string s0)) (c3 : w.cell? ⟨g3, 0, none⟩ = some (.string s3)) :
    wpAnyH Try.prog .any threeOps Q S 10 l { tmps := #[p0, p1, p2, v3, v4, v5, v6, p7, p8, v9, v10, v11, v12, v13, v14, v15, v16, v17, v18, v19, v20, v21, v22, v23, v24, v25, v26, v27, v28, v29, v30, v31, v32, v33, v34, v35, v36, v37, v38, .bool true, .bool true, p41, .string s0, .slice (some ⟨g0, 0, none⟩) 1 1, .int .u32 (F s0 : Nat), p45, p46, .string s1, v48, v49, p50, p51, .string s2, v53, v54, v55, p56, p57, .string s3, .slice (some ⟨g3, 0, none⟩) 1 1, v60, v61, v62, v63], defers := [] } w := by
  subst hl
  refine wpAnyH_ready (rs := [9, 14]) (by kernel_rfl) (by simp) ?_
  refine AllReadyH.cons (o := { dst := some 48, op := Op.buildSlice 27 1 #[(0, Operand.tmp 47)], type := 27, pos := "law.go:43", after := #[{ on := 8, ground := Ground.data }, { on := 1, ground := Ground.guard }], guard := some (1, true) }) rfl (fun K hK => ?_) ?_
  · go_simp
    refine hK.out _ _ (h.alloc _ _ hw) (fun hHeld => ?_)
    clear hK K
    try simp only [List.setIfInBounds_toArray, List.set_cons_zero, List.set_cons_succ]
    exact three_013_1 h _ (by kernel_rfl) _ hHeld (belowMore hb _) g0 w.heap.size g3 (cellMore c0 _) (cellNew w _ _) (cellMore c3 _)
  refine AllReadyH.cons (o := { dst := some 53, op := Op.buildSlice 27 1 #[(0, Operand.tmp 52)], type := 27, pos := "law.go:43", after := #[{ on := 13, ground := Ground.data }, { on := 1, ground := Ground.guard }], guard := some (1, true) }) rfl (fun K hK => ?_) ?_
  · go_simp
    refine hK.out _ _ (h.alloc _ _ hw) (fun hHeld => ?_)
    clear hK K
    try simp only [List.setIfInBounds_toArray, List.set_cons_zero, List.set_cons_succ]
    exact three_023_1 h _ (by kernel_rfl) _ hHeld (belowMore hb _) g0 w.heap.size g3 (cellMore c0 _) (cellNew w _ _) (cellMore c3 _)
  exact AllReadyH.nil
set_option maxRecDepth 100000 in
theorem three_01_0 {Q : Exit → Act → World → Prop} {S : World → Prop} {W0 : World} {F : ByteArray → Nat} {s0 s1 s2 s3 : ByteArray} {p0 p1 p2 p7 p8 p41 p45 p46 p50 p51 p56 p57 v3 v4 v5 v6 v9 v10 v11 v12 v13 v14 v15 v16 v17 v18 v19 v20 v21 v22 v23 v24 v25 v26 v27 v28 v29 v30 v31 v32 v33 v34 v35 v36 v37 v38 v44 v49 v53 v54 v55 v59 v60 v61 v62 v63 : Value} (h : ThreeCtx Q S W0 F s0 s1 s2 s3) (l : Array Bool) (hl : l = #[true, true, true, true, true, false, true, true, true, true, false, true, true, true, false, false, false, true, true, true, false, false, false, false, false, false]) (w : World) (hw : S w) (hb : Below W0.heap.size W0 w) (g0 g1 : Nat) (c0 : w.cell? ⟨g0, 0, none⟩ = some (.string s0)) (c1 : w.cell? ⟨g1, 0, none⟩ = some (.string s1)) :
    wpAnyH Try.prog .any threeOps Q S 11 l { tmps := #[p0, p1, p2, v3, v4, v5, v6, p7, p8, v9, v10, v11, v12, v13, v14, v15, v16, v17, v18, v19, v20, v21, v22, v23, v24, v25, v26, v27, v28, v29, v30, v31, v32, v33, v34, v35, v36, v37, v38, .bool true, .bool true, p41, .string s0, .slice (some ⟨g0, 0, none⟩) 1 1, v44, p45, p46, .string s1, .slice (some ⟨g1, 0, none⟩) 1 1, v49, p50, p51, .string s2, v53, v54, v55, p56, p57, .string s3, v59, v60, v61, v62, v63], defers := [] } w := by
  subst hl
  refine wpAnyH_ready (rs := [5, 14, 20]) (by kernel_rfl) (by simp) ?_
  refine AllReadyH.cons (o := { dst := some 44, op := Op.call { callee := Callee.value (Operand.func 5), args := #[Operand.tmp 43], argTypes := #[27] }, type := 24, pos := "law.go:43", after := #[{ on := 4, ground := Ground.data }, { on := 1, ground := Ground.chain }, { on := 1, ground := Ground.guard }], guard := some (1, true) }) rfl (fun K hK => ?_) ?_
  · go_simp
    refine (h.sum g0 s0 w h.z0 c0).mono ?_
    rintro e w1 ⟨rfl, rfl⟩
    try go_wp2_with fail
    refine hK.out _ _ hw (fun hHeld => ?_)
    clear hK K
    try simp only [List.setIfInBounds_toArray, List.set_cons_zero, List.set_cons_succ]
    exact three_01_1 h _ (by kernel_rfl) _ hHeld hb g0 g1 c0 c1
  refine AllReadyH.cons (o := { dst := some 53, op := Op.buildSlice 27 1 #[(0, Operand.tmp 52)], type := 27, pos := "law.go:43", after := #[{ on := 13, ground := Ground.data }, { on := 1, ground := Ground.guard }], guard := some (1, true) }) rfl (fun K hK => ?_) ?_
  · go_simp
    refine hK.out _ _ (h.alloc _ _ hw) (fun hHeld => ?_)
    clear hK K
    try simp only [List.setIfInBounds_toArray, List.set_cons_zero, List.set_cons_succ]
    exact three_012_0 h _ (by kernel_rfl) _ hHeld (belowMore hb _) g0 g1 w.heap.size (cellMore c0 _) (cellMore c1 _) (cellNew w _ _)
  refine AllReadyH.cons (o := { dst := some 59, op := Op.buildSlice 27 1 #[(0, Operand.tmp 58)], type := 27, pos := "law.go:43", after := #[{ on := 19, ground := Ground.data }, { on := 1, ground := Ground.guard }], guard := some (1, true) }) rfl (fun K hK => ?_) ?_
  · go_simp
    refine hK.out _ _ (h.alloc _ _ hw) (fun hHeld => ?_)
    clear hK K
    try simp only [List.setIfInBounds_toArray, List.set_cons_zero, List.set_cons_succ]
    exact three_013_0 h _ (by kernel_rfl) _ hHeld (belowMore hb _) g0 g1 w.heap.size (cellMore c0 _) (cellMore c1 _) (cellNew w _ _)
  exact AllReadyH.nil
set_option maxRecDepth 100000 in
theorem three_02_0 {Q : Exit → Act → World → Prop} {S : World → Prop} {W0 : World} {F : ByteArray → Nat} {s0 s1 s2 s3 : ByteArray} {p0 p1 p2 p7 p8 p41 p45 p46 p50 p51 p56 p57 v3 v4 v5 v6 v9 v10 v11 v12 v13 v14 v15 v16 v17 v18 v19 v20 v21 v22 v23 v24 v25 v26 v27 v28 v29 v30 v31 v32 v33 v34 v35 v36 v37 v38 v44 v48 v49 v54 v55 v59 v60 v61 v62 v63 : Value} (h : ThreeCtx Q S W0 F s0 s1 s2 s3) (l : Array Bool) (hl : l = #[true, true, true, true, true, false, true, true, true, false, false, true, true, true, true, false, false, true, true, true, false, false, false, false, false, false]) (w : World) (hw : S w) (hb : Below W0.heap.size W0 w) (g0 g2 : Nat) (c0 : w.cell? ⟨g0, 0, none⟩ = some (.string s0)) (c2 : w.cell? ⟨g2, 0, none⟩ = some (.string s2)) :
    wpAnyH Try.prog .any threeOps Q S 11 l { tmps := #[p0, p1, p2, v3, v4, v5, v6, p7, p8, v9, v10, v11, v12, v13, v14, v15, v16, v17, v18, v19, v20, v21, v22, v23, v24, v25, v26, v27, v28, v29, v30, v31, v32, v33, v34, v35, v36, v37, v38, .bool true, .bool true, p41, .string s0, .slice (some ⟨g0, 0, none⟩) 1 1, v44, p45, p46, .string s1, v48, v49, p50, p51, .string s2, .slice (some ⟨g2, 0, none⟩) 1 1, v54, v55, p56, p57, .string s3, v59, v60, v61, v62, v63], defers := [] } w := by
  subst hl
  refine wpAnyH_ready (rs := [5, 9, 20]) (by kernel_rfl) (by simp) ?_
  refine AllReadyH.cons (o := { dst := some 44, op := Op.call { callee := Callee.value (Operand.func 5), args := #[Operand.tmp 43], argTypes := #[27] }, type := 24, pos := "law.go:43", after := #[{ on := 4, ground := Ground.data }, { on := 1, ground := Ground.chain }, { on := 1, ground := Ground.guard }], guard := some (1, true) }) rfl (fun K hK => ?_) ?_
  · go_simp
    refine (h.sum g0 s0 w h.z0 c0).mono ?_
    rintro e w1 ⟨rfl, rfl⟩
    try go_wp2_with fail
    refine hK.out _ _ hw (fun hHeld => ?_)
    clear hK K
    try simp only [List.setIfInBounds_toArray, List.set_cons_zero, List.set_cons_succ]
    exact three_02_1 h _ (by kernel_rfl) _ hHeld hb g0 g2 c0 c2
  refine AllReadyH.cons (o := { dst := some 48, op := Op.buildSlice 27 1 #[(0, Operand.tmp 47)], type := 27, pos := "law.go:43", after := #[{ on := 8, ground := Ground.data }, { on := 1, ground := Ground.guard }], guard := some (1, true) }) rfl (fun K hK => ?_) ?_
  · go_simp
    refine hK.out _ _ (h.alloc _ _ hw) (fun hHeld => ?_)
    clear hK K
    try simp only [List.setIfInBounds_toArray, List.set_cons_zero, List.set_cons_succ]
    exact three_012_0 h _ (by kernel_rfl) _ hHeld (belowMore hb _) g0 w.heap.size g2 (cellMore c0 _) (cellNew w _ _) (cellMore c2 _)
  refine AllReadyH.cons (o := { dst := some 59, op := Op.buildSlice 27 1 #[(0, Operand.tmp 58)], type := 27, pos := "law.go:43", after := #[{ on := 19, ground := Ground.data }, { on := 1, ground := Ground.guard }], guard := some (1, true) }) rfl (fun K hK => ?_) ?_
  · go_simp
    refine hK.out _ _ (h.alloc _ _ hw) (fun hHeld => ?_)
    clear hK K
    try simp only [List.setIfInBounds_toArray, List.set_cons_zero, List.set_cons_succ]
    exact three_023_0 h _ (by kernel_rfl) _ hHeld (belowMore hb _) g0 g2 w.heap.size (cellMore c0 _) (cellMore c2 _) (cellNew w _ _)
  exact AllReadyH.nil
set_option maxRecDepth 100000 in
theorem three_03_0 {Q : Exit → Act → World → Prop} {S : World → Prop} {W0 : World} {F : ByteArray → Nat} {s0 s1 s2 s3 : ByteArray} {p0 p1 p2 p7 p8 p41 p45 p46 p50 p51 p56 p57 v3 v4 v5 v6 v9 v10 v11 v12 v13 v14 v15 v16 v17 v18 v19 v20 v21 v22 v23 v24 v25 v26 v27 v28 v29 v30 v31 v32 v33 v34 v35 v36 v37 v38 v44 v48 v49 v53 v54 v55 v60 v61 v62 v63 : Value} (h : ThreeCtx Q S W0 F s0 s1 s2 s3) (l : Array Bool) (hl : l = #[true, true, true, true, true, false, true, true, true, false, false, true, true, true, false, false, false, true, true, true, true, false, false, false, false, false]) (w : World) (hw : S w) (hb : Below W0.heap.size W0 w) (g0 g3 : Nat) (c0 : w.cell? ⟨g0, 0, none⟩ = some (.string s0)) (c3 : w.cell? ⟨g3, 0, none⟩ = some (.string s3)) :
    wpAnyH Try.prog .any threeOps Q S 11 l { tmps := #[p0, p1, p2, v3, v4, v5, v6, p7, p8, v9, v10, v11, v12, v13, v14, v15, v16, v17, v18, v19, v20, v21, v22, v23, v24, v25, v26, v27, v28, v29, v30, v31, v32, v33, v34, v35, v36, v37, v38, .bool true, .bool true, p41, .string s0, .slice (some ⟨g0, 0, none⟩) 1 1, v44, p45, p46, .string s1, v48, v49, p50, p51, .string s2, v53, v54, v55, p56, p57, .string s3, .slice (some ⟨g3, 0, none⟩) 1 1, v60, v61, v62, v63], defers := [] } w := by
  subst hl
  refine wpAnyH_ready (rs := [5, 9, 14]) (by kernel_rfl) (by simp) ?_
  refine AllReadyH.cons (o := { dst := some 44, op := Op.call { callee := Callee.value (Operand.func 5), args := #[Operand.tmp 43], argTypes := #[27] }, type := 24, pos := "law.go:43", after := #[{ on := 4, ground := Ground.data }, { on := 1, ground := Ground.chain }, { on := 1, ground := Ground.guard }], guard := some (1, true) }) rfl (fun K hK => ?_) ?_
  · go_simp
    refine (h.sum g0 s0 w h.z0 c0).mono ?_
    rintro e w1 ⟨rfl, rfl⟩
    try go_wp2_with fail
    refine hK.out _ _ hw (fun hHeld => ?_)
    clear hK K
    try simp only [List.setIfInBounds_toArray, List.set_cons_zero, List.set_cons_succ]
    exact three_03_1 h _ (by kernel_rfl) _ hHeld hb g0 g3 c0 c3
  refine AllReadyH.cons (o := { dst := some 48, op := Op.buildSlice 27 1 #[(0, Operand.tmp 47)], type := 27, pos := "law.go:43", after := #[{ on := 8, ground := Ground.data }, { on := 1, ground := Ground.guard }], guard := some (1, true) }) rfl (fun K hK => ?_) ?_
  · go_simp
    refine hK.out _ _ (h.alloc _ _ hw) (fun hHeld => ?_)
    clear hK K
    try simp only [List.setIfInBounds_toArray, List.set_cons_zero, List.set_cons_succ]
    exact three_013_0 h _ (by kernel_rfl) _ hHeld (belowMore hb _) g0 w.heap.size g3 (cellMore c0 _) (cellNew w _ _) (cellMore c3 _)
  refine AllReadyH.cons (o := { dst := some 53, op := Op.buildSlice 27 1 #[(0, Operand.tmp 52)], type := 27, pos := "law.go:43", after := #[{ on := 13, ground := Ground.data }, { on := 1, ground := Ground.guard }], guard := some (1, true) }) rfl (fun K hK => ?_) ?_
  · go_simp
    refine hK.out _ _ (h.alloc _ _ hw) (fun hHeld => ?_)
    clear hK K
    try simp only [List.setIfInBounds_toArray, List.set_cons_zero, List.set_cons_succ]
    exact three_023_0 h _ (by kernel_rfl) _ hHeld (belowMore hb _) g0 w.heap.size g3 (cellMore c0 _) (cellNew w _ _) (cellMore c3 _)
  exact AllReadyH.nil
set_option maxRecDepth 100000 in
theorem three_12_0 {Q : Exit → Act → World → Prop} {S : World → Prop} {W0 : World} {F : ByteArray → Nat} {s0 s1 s2 s3 : ByteArray} {p0 p1 p2 p7 p8 p41 p45 p46 p50 p51 p56 p57 v3 v4 v5 v6 v9 v10 v11 v12 v13 v14 v15 v16 v17 v18 v19 v20 v21 v22 v23 v24 v25 v26 v27 v28 v29 v30 v31 v32 v33 v34 v35 v36 v37 v38 v43 v44 v49 v54 v55 v59 v60 v61 v62 v63 : Value} (h : ThreeCtx Q S W0 F s0 s1 s2 s3) (l : Array Bool) (hl : l = #[true, true, true, true, false, false, true, true, true, true, false, true, true, true, true, false, false, true, true, true, false, false, false, false, false, false]) (w : World) (hw : S w) (hb : Below W0.heap.size W0 w) (g1 g2 : Nat) (c1 : w.cell? ⟨g1, 0, none⟩ = some (.string s1)) (c2 : w.cell? ⟨g2, 0, none⟩ = some (.string s2)) :
    wpAnyH Try.prog .any threeOps Q S 11 l { tmps := #[p0, p1, p2, v3, v4, v5, v6, p7, p8, v9, v10, v11, v12, v13, v14, v15, v16, v17, v18, v19, v20, v21, v22, v23, v24, v25, v26, v27, v28, v29, v30, v31, v32, v33, v34, v35, v36, v37, v38, .bool true, .bool true, p41, .string s0, v43, v44, p45, p46, .string s1, .slice (some ⟨g1, 0, none⟩) 1 1, v49, p50, p51, .string s2, .slice (some ⟨g2, 0, none⟩) 1 1, v54, v55, p56, p57, .string s3, v59, v60, v61, v62, v63], defers := [] } w := by
  subst hl
  refine wpAnyH_ready (rs := [4, 20]) (by kernel_rfl) (by simp) ?_
  refine AllReadyH.cons (o := { dst := some 43, op := Op.buildSlice 27 1 #[(0, Operand.tmp 42)], type := 27, pos := "law.go:43", after := #[{ on := 3, ground := Ground.data }, { on := 1, ground := Ground.guard }], guard := some (1, true) }) rfl (fun K hK => ?_) ?_
  · go_simp
    refine hK.out _ _ (h.alloc _ _ hw) (fun hHeld => ?_)
    clear hK K
    try simp only [List.setIfInBounds_toArray, List.set_cons_zero, List.set_cons_succ]
    exact three_012_0 h _ (by kernel_rfl) _ hHeld (belowMore hb _) w.heap.size g1 g2 (cellNew w _ _) (cellMore c1 _) (cellMore c2 _)
  refine AllReadyH.cons (o := { dst := some 59, op := Op.buildSlice 27 1 #[(0, Operand.tmp 58)], type := 27, pos := "law.go:43", after := #[{ on := 19, ground := Ground.data }, { on := 1, ground := Ground.guard }], guard := some (1, true) }) rfl (fun K hK => ?_) ?_
  · go_simp
    refine hK.out _ _ (h.alloc _ _ hw) (fun hHeld => ?_)
    clear hK K
    try simp only [List.setIfInBounds_toArray, List.set_cons_zero, List.set_cons_succ]
    exact three_123_0 h _ (by kernel_rfl) _ hHeld (belowMore hb _) g1 g2 w.heap.size (cellMore c1 _) (cellMore c2 _) (cellNew w _ _)
  exact AllReadyH.nil
set_option maxRecDepth 100000 in
theorem three_13_0 {Q : Exit → Act → World → Prop} {S : World → Prop} {W0 : World} {F : ByteArray → Nat} {s0 s1 s2 s3 : ByteArray} {p0 p1 p2 p7 p8 p41 p45 p46 p50 p51 p56 p57 v3 v4 v5 v6 v9 v10 v11 v12 v13 v14 v15 v16 v17 v18 v19 v20 v21 v22 v23 v24 v25 v26 v27 v28 v29 v30 v31 v32 v33 v34 v35 v36 v37 v38 v43 v44 v49 v53 v54 v55 v60 v61 v62 v63 : Value} (h : ThreeCtx Q S W0 F s0 s1 s2 s3) (l : Array Bool) (hl : l = #[true, true, true, true, false, false, true, true, true, true, false, true, true, true, false, false, false, true, true, true, true, false, false, false, false, false]) (w : World) (hw : S w) (hb : Below W0.heap.size W0 w) (g1 g3 : Nat) (c1 : w.cell? ⟨g1, 0, none⟩ = some (.string s1)) (c3 : w.cell? ⟨g3, 0, none⟩ = some (.string s3)) :
    wpAnyH Try.prog .any threeOps Q S 11 l { tmps := #[p0, p1, p2, v3, v4, v5, v6, p7, p8, v9, v10, v11, v12, v13, v14, v15, v16, v17, v18, v19, v20, v21, v22, v23, v24, v25, v26, v27, v28, v29, v30, v31, v32, v33, v34, v35, v36, v37, v38, .bool true, .bool true, p41, .string s0, v43, v44, p45, p46, .string s1, .slice (some ⟨g1, 0, none⟩) 1 1, v49, p50, p51, .string s2, v53, v54, v55, p56, p57, .string s3, .slice (some ⟨g3, 0, none⟩) 1 1, v60, v61, v62, v63], defers := [] } w := by
  subst hl
  refine wpAnyH_ready (rs := [4, 14]) (by kernel_rfl) (by simp) ?_
  refine AllReadyH.cons (o := { dst := some 43, op := Op.buildSlice 27 1 #[(0, Operand.tmp 42)], type := 27, pos := "law.go:43", after := #[{ on := 3, ground := Ground.data }, { on := 1, ground := Ground.guard }], guard := some (1, true) }) rfl (fun K hK => ?_) ?_
  · go_simp
    refine hK.out _ _ (h.alloc _ _ hw) (fun hHeld => ?_)
    clear hK K
    try simp only [List.setIfInBounds_toArray, List.set_cons_zero, List.set_cons_succ]
    exact three_013_0 h _ (by kernel_rfl) _ hHeld (belowMore hb _) w.heap.size g1 g3 (cellNew w _ _) (cellMore c1 _) (cellMore c3 _)
  refine AllReadyH.cons (o := { dst := some 53, op := Op.buildSlice 27 1 #[(0, Operand.tmp 52)], type := 27, pos := "law.go:43", after := #[{ on := 13, ground := Ground.data }, { on := 1, ground := Ground.guard }], guard := some (1, true) }) rfl (fun K hK => ?_) ?_
  · go_simp
    refine hK.out _ _ (h.alloc _ _ hw) (fun hHeld => ?_)
    clear hK K
    try simp only [List.setIfInBounds_toArray, List.set_cons_zero, List.set_cons_succ]
    exact three_123_0 h _ (by kernel_rfl) _ hHeld (belowMore hb _) g1 w.heap.size g3 (cellMore c1 _) (cellNew w _ _) (cellMore c3 _)
  exact AllReadyH.nil
set_option maxRecDepth 100000 in
theorem three_23_0 {Q : Exit → Act → World → Prop} {S : World → Prop} {W0 : World} {F : ByteArray → Nat} {s0 s1 s2 s3 : ByteArray} {p0 p1 p2 p7 p8 p41 p45 p46 p50 p51 p56 p57 v3 v4 v5 v6 v9 v10 v11 v12 v13 v14 v15 v16 v17 v18 v19 v20 v21 v22 v23 v24 v25 v26 v27 v28 v29 v30 v31 v32 v33 v34 v35 v36 v37 v38 v43 v44 v48 v49 v54 v55 v60 v61 v62 v63 : Value} (h : ThreeCtx Q S W0 F s0 s1 s2 s3) (l : Array Bool) (hl : l = #[true, true, true, true, false, false, true, true, true, false, false, true, true, true, true, false, false, true, true, true, true, false, false, false, false, false]) (w : World) (hw : S w) (hb : Below W0.heap.size W0 w) (g2 g3 : Nat) (c2 : w.cell? ⟨g2, 0, none⟩ = some (.string s2)) (c3 : w.cell? ⟨g3, 0, none⟩ = some (.string s3)) :
    wpAnyH Try.prog .any threeOps Q S 11 l { tmps := #[p0, p1, p2, v3, v4, v5, v6, p7, p8, v9, v10, v11, v12, v13, v14, v15, v16, v17, v18, v19, v20, v21, v22, v23, v24, v25, v26, v27, v28, v29, v30, v31, v32, v33, v34, v35, v36, v37, v38, .bool true, .bool true, p41, .string s0, v43, v44, p45, p46, .string s1, v48, v49, p50, p51, .string s2, .slice (some ⟨g2, 0, none⟩) 1 1, v54, v55, p56, p57, .string s3, .slice (some ⟨g3, 0, none⟩) 1 1, v60, v61, v62, v63], defers := [] } w := by
  subst hl
  refine wpAnyH_ready (rs := [4, 9]) (by kernel_rfl) (by simp) ?_
  refine AllReadyH.cons (o := { dst := some 43, op := Op.buildSlice 27 1 #[(0, Operand.tmp 42)], type := 27, pos := "law.go:43", after := #[{ on := 3, ground := Ground.data }, { on := 1, ground := Ground.guard }], guard := some (1, true) }) rfl (fun K hK => ?_) ?_
  · go_simp
    refine hK.out _ _ (h.alloc _ _ hw) (fun hHeld => ?_)
    clear hK K
    try simp only [List.setIfInBounds_toArray, List.set_cons_zero, List.set_cons_succ]
    exact three_023_0 h _ (by kernel_rfl) _ hHeld (belowMore hb _) w.heap.size g2 g3 (cellNew w _ _) (cellMore c2 _) (cellMore c3 _)
  refine AllReadyH.cons (o := { dst := some 48, op := Op.buildSlice 27 1 #[(0, Operand.tmp 47)], type := 27, pos := "law.go:43", after := #[{ on := 8, ground := Ground.data }, { on := 1, ground := Ground.guard }], guard := some (1, true) }) rfl (fun K hK => ?_) ?_
  · go_simp
    refine hK.out _ _ (h.alloc _ _ hw) (fun hHeld => ?_)
    clear hK K
    try simp only [List.setIfInBounds_toArray, List.set_cons_zero, List.set_cons_succ]
    exact three_123_0 h _ (by kernel_rfl) _ hHeld (belowMore hb _) w.heap.size g2 g3 (cellNew w _ _) (cellMore c2 _) (cellMore c3 _)
  exact AllReadyH.nil
set_option maxRecDepth 100000 in
theorem three_0_1 {Q : Exit → Act → World → Prop} {S : World → Prop} {W0 : World} {F : ByteArray → Nat} {s0 s1 s2 s3 : ByteArray} {p0 p1 p2 p7 p8 p41 p45 p46 p50 p51 p56 p57 v3 v4 v5 v6 v9 v10 v11 v12 v13 v14 v15 v16 v17 v18 v19 v20 v21 v22 v23 v24 v25 v26 v27 v28 v29 v30 v31 v32 v33 v34 v35 v36 v37 v38 v48 v49 v53 v54 v55 v59 v60 v61 v62 v63 : Value} (h : ThreeCtx Q S W0 F s0 s1 s2 s3) (l : Array Bool) (hl : l = #[true, true, true, true, true, true, true, true, true, false, false, true, true, true, false, false, false, true, true, true, false, false, false, false, false, false]) (w : World) (hw : S w) (hb : Below W0.heap.size W0 w) (g0 : Nat) (c0 : w.cell? ⟨g0, 0, none⟩ = some (.string s0)) :
    wpAnyH Try.prog .any threeOps Q S 11 l { tmps := #[p0, p1, p2, v3, v4, v5, v6, p7, p8, v9, v10, v11, v12, v13, v14, v15, v16, v17, v18, v19, v20, v21, v22, v23, v24, v25, v26, v27, v28, v29, v30, v31, v32, v33, v34, v35, v36, v37, v38, .bool true, .bool true, p41, .string s0, .slice (some ⟨g0, 0, none⟩) 1 1, .int .u32 (F s0 : Nat), p45, p46, .string s1, v48, v49, p50, p51, .string s2, v53, v54, v55, p56, p57, .string s3, v59, v60, v61, v62, v63], defers := [] } w := by
  subst hl
  refine wpAnyH_ready (rs := [9, 14, 20]) (by kernel_rfl) (by simp) ?_
  refine AllReadyH.cons (o := { dst := some 48, op := Op.buildSlice 27 1 #[(0, Operand.tmp 47)], type := 27, pos := "law.go:43", after := #[{ on := 8, ground := Ground.data }, { on := 1, ground := Ground.guard }], guard := some (1, true) }) rfl (fun K hK => ?_) ?_
  · go_simp
    refine hK.out _ _ (h.alloc _ _ hw) (fun hHeld => ?_)
    clear hK K
    try simp only [List.setIfInBounds_toArray, List.set_cons_zero, List.set_cons_succ]
    exact three_01_1 h _ (by kernel_rfl) _ hHeld (belowMore hb _) g0 w.heap.size (cellMore c0 _) (cellNew w _ _)
  refine AllReadyH.cons (o := { dst := some 53, op := Op.buildSlice 27 1 #[(0, Operand.tmp 52)], type := 27, pos := "law.go:43", after := #[{ on := 13, ground := Ground.data }, { on := 1, ground := Ground.guard }], guard := some (1, true) }) rfl (fun K hK => ?_) ?_
  · go_simp
    refine hK.out _ _ (h.alloc _ _ hw) (fun hHeld => ?_)
    clear hK K
    try simp only [List.setIfInBounds_toArray, List.set_cons_zero, List.set_cons_succ]
    exact three_02_1 h _ (by kernel_rfl) _ hHeld (belowMore hb _) g0 w.heap.size (cellMore c0 _) (cellNew w _ _)
  refine AllReadyH.cons (o := { dst := some 59, op := Op.buildSlice 27 1 #[(0, Operand.tmp 58)], type := 27, pos := "law.go:43", after := #[{ on := 19, ground := Ground.data }, { on := 1, ground := Ground.guard }], guard := some (1, true) }) rfl (fun K hK => ?_) ?_
  · go_simp
    refine hK.out _ _ (h.alloc _ _ hw) (fun hHeld => ?_)
    clear hK K
    try simp only [List.setIfInBounds_toArray, List.set_cons_zero, List.set_cons_succ]
    exact three_03_1 h _ (by kernel_rfl) _ hHeld (belowMore hb _) g0 w.heap.size (cellMore c0 _) (cellNew w _ _)
  exact AllReadyH.nil
set_option maxRecDepth 100000 in
theorem three_0_0 {Q : Exit → Act → World → Prop} {S : World → Prop} {W0 : World} {F : ByteArray → Nat} {s0 s1 s2 s3 : ByteArray} {p0 p1 p2 p7 p8 p41 p45 p46 p50 p51 p56 p57 v3 v4 v5 v6 v9 v10 v11 v12 v13 v14 v15 v16 v17 v18 v19 v20 v21 v22 v23 v24 v25 v26 v27 v28 v29 v30 v31 v32 v33 v34 v35 v36 v37 v38 v44 v48 v49 v53 v54 v55 v59 v60 v61 v62 v63 : Value} (h : ThreeCtx Q S W0 F s0 s1 s2 s3) (l : Array Bool) (hl : l = #[true, true, true, true, true, false, true, true, true, false, false, true, true, true, false, false, false, true, true, true, false, false, false, false, false, false]) (w : World) (hw : S w) (hb : Below W0.heap.size W0 w) (g0 : Nat) (c0 : w.cell? ⟨g0, 0, none⟩ = some (.string s0)) :
    wpAnyH Try.prog .any threeOps Q S 12 l { tmps := #[p0, p1, p2, v3, v4, v5, v6, p7, p8, v9, v10, v11, v12, v13, v14, v15, v16, v17, v18, v19, v20, v21, v22, v23, v24, v25, v26, v27, v28, v29, v30, v31, v32, v33, v34, v35, v36, v37, v38, .bool true, .bool true, p41, .string s0, .slice (some ⟨g0, 0, none⟩) 1 1, v44, p45, p46, .string s1, v48, v49, p50, p51, .string s2, v53, v54, v55, p56, p57, .string s3, v59, v60, v61, v62, v63], defers := [] } w := by
  subst hl
  refine wpAnyH_ready (rs := [5, 9, 14, 20]) (by kernel_rfl) (by simp) ?_
  refine AllReadyH.cons (o := { dst := some 44, op := Op.call { callee := Callee.value (Operand.func 5), args := #[Operand.tmp 43], argTypes := #[27] }, type := 24, pos := "law.go:43", after := #[{ on := 4, ground := Ground.data }, { on := 1, ground := Ground.chain }, { on := 1, ground := Ground.guard }], guard := some (1, true) }) rfl (fun K hK => ?_) ?_
  · go_simp
    refine (h.sum g0 s0 w h.z0 c0).mono ?_
    rintro e w1 ⟨rfl, rfl⟩
    try go_wp2_with fail
    refine hK.out _ _ hw (fun hHeld => ?_)
    clear hK K
    try simp only [List.setIfInBounds_toArray, List.set_cons_zero, List.set_cons_succ]
    exact three_0_1 h _ (by kernel_rfl) _ hHeld hb g0 c0
  refine AllReadyH.cons (o := { dst := some 48, op := Op.buildSlice 27 1 #[(0, Operand.tmp 47)], type := 27, pos := "law.go:43", after := #[{ on := 8, ground := Ground.data }, { on := 1, ground := Ground.guard }], guard := some (1, true) }) rfl (fun K hK => ?_) ?_
  · go_simp
    refine hK.out _ _ (h.alloc _ _ hw) (fun hHeld => ?_)
    clear hK K
    try simp only [List.setIfInBounds_toArray, List.set_cons_zero, List.set_cons_succ]
    exact three_01_0 h _ (by kernel_rfl) _ hHeld (belowMore hb _) g0 w.heap.size (cellMore c0 _) (cellNew w _ _)
  refine AllReadyH.cons (o := { dst := some 53, op := Op.buildSlice 27 1 #[(0, Operand.tmp 52)], type := 27, pos := "law.go:43", after := #[{ on := 13, ground := Ground.data }, { on := 1, ground := Ground.guard }], guard := some (1, true) }) rfl (fun K hK => ?_) ?_
  · go_simp
    refine hK.out _ _ (h.alloc _ _ hw) (fun hHeld => ?_)
    clear hK K
    try simp only [List.setIfInBounds_toArray, List.set_cons_zero, List.set_cons_succ]
    exact three_02_0 h _ (by kernel_rfl) _ hHeld (belowMore hb _) g0 w.heap.size (cellMore c0 _) (cellNew w _ _)
  refine AllReadyH.cons (o := { dst := some 59, op := Op.buildSlice 27 1 #[(0, Operand.tmp 58)], type := 27, pos := "law.go:43", after := #[{ on := 19, ground := Ground.data }, { on := 1, ground := Ground.guard }], guard := some (1, true) }) rfl (fun K hK => ?_) ?_
  · go_simp
    refine hK.out _ _ (h.alloc _ _ hw) (fun hHeld => ?_)
    clear hK K
    try simp only [List.setIfInBounds_toArray, List.set_cons_zero, List.set_cons_succ]
    exact three_03_0 h _ (by kernel_rfl) _ hHeld (belowMore hb _) g0 w.heap.size (cellMore c0 _) (cellNew w _ _)
  exact AllReadyH.nil
set_option maxRecDepth 100000 in
theorem three_1_0 {Q : Exit → Act → World → Prop} {S : World → Prop} {W0 : World} {F : ByteArray → Nat} {s0 s1 s2 s3 : ByteArray} {p0 p1 p2 p7 p8 p41 p45 p46 p50 p51 p56 p57 v3 v4 v5 v6 v9 v10 v11 v12 v13 v14 v15 v16 v17 v18 v19 v20 v21 v22 v23 v24 v25 v26 v27 v28 v29 v30 v31 v32 v33 v34 v35 v36 v37 v38 v43 v44 v49 v53 v54 v55 v59 v60 v61 v62 v63 : Value} (h : ThreeCtx Q S W0 F s0 s1 s2 s3) (l : Array Bool) (hl : l = #[true, true, true, true, false, false, true, true, true, true, false, true, true, true, false, false, false, true, true, true, false, false, false, false, false, false]) (w : World) (hw : S w) (hb : Below W0.heap.size W0 w) (g1 : Nat) (c1 : w.cell? ⟨g1, 0, none⟩ = some (.string s1)) :
    wpAnyH Try.prog .any threeOps Q S 12 l { tmps := #[p0, p1, p2, v3, v4, v5, v6, p7, p8, v9, v10, v11, v12, v13, v14, v15, v16, v17, v18, v19, v20, v21, v22, v23, v24, v25, v26, v27, v28, v29, v30, v31, v32, v33, v34, v35, v36, v37, v38, .bool true, .bool true, p41, .string s0, v43, v44, p45, p46, .string s1, .slice (some ⟨g1, 0, none⟩) 1 1, v49, p50, p51, .string s2, v53, v54, v55, p56, p57, .string s3, v59, v60, v61, v62, v63], defers := [] } w := by
  subst hl
  refine wpAnyH_ready (rs := [4, 14, 20]) (by kernel_rfl) (by simp) ?_
  refine AllReadyH.cons (o := { dst := some 43, op := Op.buildSlice 27 1 #[(0, Operand.tmp 42)], type := 27, pos := "law.go:43", after := #[{ on := 3, ground := Ground.data }, { on := 1, ground := Ground.guard }], guard := some (1, true) }) rfl (fun K hK => ?_) ?_
  · go_simp
    refine hK.out _ _ (h.alloc _ _ hw) (fun hHeld => ?_)
    clear hK K
    try simp only [List.setIfInBounds_toArray, List.set_cons_zero, List.set_cons_succ]
    exact three_01_0 h _ (by kernel_rfl) _ hHeld (belowMore hb _) w.heap.size g1 (cellNew w _ _) (cellMore c1 _)
  refine AllReadyH.cons (o := { dst := some 53, op := Op.buildSlice 27 1 #[(0, Operand.tmp 52)], type := 27, pos := "law.go:43", after := #[{ on := 13, ground := Ground.data }, { on := 1, ground := Ground.guard }], guard := some (1, true) }) rfl (fun K hK => ?_) ?_
  · go_simp
    refine hK.out _ _ (h.alloc _ _ hw) (fun hHeld => ?_)
    clear hK K
    try simp only [List.setIfInBounds_toArray, List.set_cons_zero, List.set_cons_succ]
    exact three_12_0 h _ (by kernel_rfl) _ hHeld (belowMore hb _) g1 w.heap.size (cellMore c1 _) (cellNew w _ _)
  refine AllReadyH.cons (o := { dst := some 59, op := Op.buildSlice 27 1 #[(0, Operand.tmp 58)], type := 27, pos := "law.go:43", after := #[{ on := 19, ground := Ground.data }, { on := 1, ground := Ground.guard }], guard := some (1, true) }) rfl (fun K hK => ?_) ?_
  · go_simp
    refine hK.out _ _ (h.alloc _ _ hw) (fun hHeld => ?_)
    clear hK K
    try simp only [List.setIfInBounds_toArray, List.set_cons_zero, List.set_cons_succ]
    exact three_13_0 h _ (by kernel_rfl) _ hHeld (belowMore hb _) g1 w.heap.size (cellMore c1 _) (cellNew w _ _)
  exact AllReadyH.nil
set_option maxRecDepth 100000 in
theorem three_2_0 {Q : Exit → Act → World → Prop} {S : World → Prop} {W0 : World} {F : ByteArray → Nat} {s0 s1 s2 s3 : ByteArray} {p0 p1 p2 p7 p8 p41 p45 p46 p50 p51 p56 p57 v3 v4 v5 v6 v9 v10 v11 v12 v13 v14 v15 v16 v17 v18 v19 v20 v21 v22 v23 v24 v25 v26 v27 v28 v29 v30 v31 v32 v33 v34 v35 v36 v37 v38 v43 v44 v48 v49 v54 v55 v59 v60 v61 v62 v63 : Value} (h : ThreeCtx Q S W0 F s0 s1 s2 s3) (l : Array Bool) (hl : l = #[true, true, true, true, false, false, true, true, true, false, false, true, true, true, true, false, false, true, true, true, false, false, false, false, false, false]) (w : World) (hw : S w) (hb : Below W0.heap.size W0 w) (g2 : Nat) (c2 : w.cell? ⟨g2, 0, none⟩ = some (.string s2)) :
    wpAnyH Try.prog .any threeOps Q S 12 l { tmps := #[p0, p1, p2, v3, v4, v5, v6, p7, p8, v9, v10, v11, v12, v13, v14, v15, v16, v17, v18, v19, v20, v21, v22, v23, v24, v25, v26, v27, v28, v29, v30, v31, v32, v33, v34, v35, v36, v37, v38, .bool true, .bool true, p41, .string s0, v43, v44, p45, p46, .string s1, v48, v49, p50, p51, .string s2, .slice (some ⟨g2, 0, none⟩) 1 1, v54, v55, p56, p57, .string s3, v59, v60, v61, v62, v63], defers := [] } w := by
  subst hl
  refine wpAnyH_ready (rs := [4, 9, 20]) (by kernel_rfl) (by simp) ?_
  refine AllReadyH.cons (o := { dst := some 43, op := Op.buildSlice 27 1 #[(0, Operand.tmp 42)], type := 27, pos := "law.go:43", after := #[{ on := 3, ground := Ground.data }, { on := 1, ground := Ground.guard }], guard := some (1, true) }) rfl (fun K hK => ?_) ?_
  · go_simp
    refine hK.out _ _ (h.alloc _ _ hw) (fun hHeld => ?_)
    clear hK K
    try simp only [List.setIfInBounds_toArray, List.set_cons_zero, List.set_cons_succ]
    exact three_02_0 h _ (by kernel_rfl) _ hHeld (belowMore hb _) w.heap.size g2 (cellNew w _ _) (cellMore c2 _)
  refine AllReadyH.cons (o := { dst := some 48, op := Op.buildSlice 27 1 #[(0, Operand.tmp 47)], type := 27, pos := "law.go:43", after := #[{ on := 8, ground := Ground.data }, { on := 1, ground := Ground.guard }], guard := some (1, true) }) rfl (fun K hK => ?_) ?_
  · go_simp
    refine hK.out _ _ (h.alloc _ _ hw) (fun hHeld => ?_)
    clear hK K
    try simp only [List.setIfInBounds_toArray, List.set_cons_zero, List.set_cons_succ]
    exact three_12_0 h _ (by kernel_rfl) _ hHeld (belowMore hb _) w.heap.size g2 (cellNew w _ _) (cellMore c2 _)
  refine AllReadyH.cons (o := { dst := some 59, op := Op.buildSlice 27 1 #[(0, Operand.tmp 58)], type := 27, pos := "law.go:43", after := #[{ on := 19, ground := Ground.data }, { on := 1, ground := Ground.guard }], guard := some (1, true) }) rfl (fun K hK => ?_) ?_
  · go_simp
    refine hK.out _ _ (h.alloc _ _ hw) (fun hHeld => ?_)
    clear hK K
    try simp only [List.setIfInBounds_toArray, List.set_cons_zero, List.set_cons_succ]
    exact three_23_0 h _ (by kernel_rfl) _ hHeld (belowMore hb _) g2 w.heap.size (cellMore c2 _) (cellNew w _ _)
  exact AllReadyH.nil
set_option maxRecDepth 100000 in
theorem three_3_0 {Q : Exit → Act → World → Prop} {S : World → Prop} {W0 : World} {F : ByteArray → Nat} {s0 s1 s2 s3 : ByteArray} {p0 p1 p2 p7 p8 p41 p45 p46 p50 p51 p56 p57 v3 v4 v5 v6 v9 v10 v11 v12 v13 v14 v15 v16 v17 v18 v19 v20 v21 v22 v23 v24 v25 v26 v27 v28 v29 v30 v31 v32 v33 v34 v35 v36 v37 v38 v43 v44 v48 v49 v53 v54 v55 v60 v61 v62 v63 : Value} (h : ThreeCtx Q S W0 F s0 s1 s2 s3) (l : Array Bool) (hl : l = #[true, true, true, true, false, false, true, true, true, false, false, true, true, true, false, false, false, true, true, true, true, false, false, false, false, false]) (w : World) (hw : S w) (hb : Below W0.heap.size W0 w) (g3 : Nat) (c3 : w.cell? ⟨g3, 0, none⟩ = some (.string s3)) :
    wpAnyH Try.prog .any threeOps Q S 12 l { tmps := #[p0, p1, p2, v3, v4, v5, v6, p7, p8, v9, v10, v11, v12, v13, v14, v15, v16, v17, v18, v19, v20, v21, v22, v23, v24, v25, v26, v27, v28, v29, v30, v31, v32, v33, v34, v35, v36, v37, v38, .bool true, .bool true, p41, .string s0, v43, v44, p45, p46, .string s1, v48, v49, p50, p51, .string s2, v53, v54, v55, p56, p57, .string s3, .slice (some ⟨g3, 0, none⟩) 1 1, v60, v61, v62, v63], defers := [] } w := by
  subst hl
  refine wpAnyH_ready (rs := [4, 9, 14]) (by kernel_rfl) (by simp) ?_
  refine AllReadyH.cons (o := { dst := some 43, op := Op.buildSlice 27 1 #[(0, Operand.tmp 42)], type := 27, pos := "law.go:43", after := #[{ on := 3, ground := Ground.data }, { on := 1, ground := Ground.guard }], guard := some (1, true) }) rfl (fun K hK => ?_) ?_
  · go_simp
    refine hK.out _ _ (h.alloc _ _ hw) (fun hHeld => ?_)
    clear hK K
    try simp only [List.setIfInBounds_toArray, List.set_cons_zero, List.set_cons_succ]
    exact three_03_0 h _ (by kernel_rfl) _ hHeld (belowMore hb _) w.heap.size g3 (cellNew w _ _) (cellMore c3 _)
  refine AllReadyH.cons (o := { dst := some 48, op := Op.buildSlice 27 1 #[(0, Operand.tmp 47)], type := 27, pos := "law.go:43", after := #[{ on := 8, ground := Ground.data }, { on := 1, ground := Ground.guard }], guard := some (1, true) }) rfl (fun K hK => ?_) ?_
  · go_simp
    refine hK.out _ _ (h.alloc _ _ hw) (fun hHeld => ?_)
    clear hK K
    try simp only [List.setIfInBounds_toArray, List.set_cons_zero, List.set_cons_succ]
    exact three_13_0 h _ (by kernel_rfl) _ hHeld (belowMore hb _) w.heap.size g3 (cellNew w _ _) (cellMore c3 _)
  refine AllReadyH.cons (o := { dst := some 53, op := Op.buildSlice 27 1 #[(0, Operand.tmp 52)], type := 27, pos := "law.go:43", after := #[{ on := 13, ground := Ground.data }, { on := 1, ground := Ground.guard }], guard := some (1, true) }) rfl (fun K hK => ?_) ?_
  · go_simp
    refine hK.out _ _ (h.alloc _ _ hw) (fun hHeld => ?_)
    clear hK K
    try simp only [List.setIfInBounds_toArray, List.set_cons_zero, List.set_cons_succ]
    exact three_23_0 h _ (by kernel_rfl) _ hHeld (belowMore hb _) w.heap.size g3 (cellNew w _ _) (cellMore c3 _)
  exact AllReadyH.nil
set_option maxRecDepth 100000 in
theorem three_n_0 {Q : Exit → Act → World → Prop} {S : World → Prop} {W0 : World} {F : ByteArray → Nat} {s0 s1 s2 s3 : ByteArray} {p0 p1 p2 p7 p8 p41 p45 p46 p50 p51 p56 p57 v3 v4 v5 v6 v9 v10 v11 v12 v13 v14 v15 v16 v17 v18 v19 v20 v21 v22 v23 v24 v25 v26 v27 v28 v29 v30 v31 v32 v33 v34 v35 v36 v37 v38 v43 v44 v48 v49 v53 v54 v55 v59 v60 v61 v62 v63 : Value} (h : ThreeCtx Q S W0 F s0 s1 s2 s3) (l : Array Bool) (hl : l = #[true, true, true, true, false, false, true, true, true, false, false, true, true, true, false, false, false, true, true, true, false, false, false, false, false, false]) (w : World) (hw : S w) (hb : Below W0.heap.size W0 w) :
    wpAnyH Try.prog .any threeOps Q S 13 l { tmps := #[p0, p1, p2, v3, v4, v5, v6, p7, p8, v9, v10, v11, v12, v13, v14, v15, v16, v17, v18, v19, v20, v21, v22, v23, v24, v25, v26, v27, v28, v29, v30, v31, v32, v33, v34, v35, v36, v37, v38, .bool true, .bool true, p41, .string s0, v43, v44, p45, p46, .string s1, v48, v49, p50, p51, .string s2, v53, v54, v55, p56, p57, .string s3, v59, v60, v61, v62, v63], defers := [] } w := by
  subst hl
  refine wpAnyH_ready (rs := [4, 9, 14, 20]) (by kernel_rfl) (by simp) ?_
  refine AllReadyH.cons (o := { dst := some 43, op := Op.buildSlice 27 1 #[(0, Operand.tmp 42)], type := 27, pos := "law.go:43", after := #[{ on := 3, ground := Ground.data }, { on := 1, ground := Ground.guard }], guard := some (1, true) }) rfl (fun K hK => ?_) ?_
  · go_simp
    refine hK.out _ _ (h.alloc _ _ hw) (fun hHeld => ?_)
    clear hK K
    try simp only [List.setIfInBounds_toArray, List.set_cons_zero, List.set_cons_succ]
    exact three_0_0 h _ (by kernel_rfl) _ hHeld (belowMore hb _) w.heap.size (cellNew w _ _)
  refine AllReadyH.cons (o := { dst := some 48, op := Op.buildSlice 27 1 #[(0, Operand.tmp 47)], type := 27, pos := "law.go:43", after := #[{ on := 8, ground := Ground.data }, { on := 1, ground := Ground.guard }], guard := some (1, true) }) rfl (fun K hK => ?_) ?_
  · go_simp
    refine hK.out _ _ (h.alloc _ _ hw) (fun hHeld => ?_)
    clear hK K
    try simp only [List.setIfInBounds_toArray, List.set_cons_zero, List.set_cons_succ]
    exact three_1_0 h _ (by kernel_rfl) _ hHeld (belowMore hb _) w.heap.size (cellNew w _ _)
  refine AllReadyH.cons (o := { dst := some 53, op := Op.buildSlice 27 1 #[(0, Operand.tmp 52)], type := 27, pos := "law.go:43", after := #[{ on := 13, ground := Ground.data }, { on := 1, ground := Ground.guard }], guard := some (1, true) }) rfl (fun K hK => ?_) ?_
  · go_simp
    refine hK.out _ _ (h.alloc _ _ hw) (fun hHeld => ?_)
    clear hK K
    try simp only [List.setIfInBounds_toArray, List.set_cons_zero, List.set_cons_succ]
    exact three_2_0 h _ (by kernel_rfl) _ hHeld (belowMore hb _) w.heap.size (cellNew w _ _)
  refine AllReadyH.cons (o := { dst := some 59, op := Op.buildSlice 27 1 #[(0, Operand.tmp 58)], type := 27, pos := "law.go:43", after := #[{ on := 19, ground := Ground.data }, { on := 1, ground := Ground.guard }], guard := some (1, true) }) rfl (fun K hK => ?_) ?_
  · go_simp
    refine hK.out _ _ (h.alloc _ _ hw) (fun hHeld => ?_)
    clear hK K
    try simp only [List.setIfInBounds_toArray, List.set_cons_zero, List.set_cons_succ]
    exact three_3_0 h _ (by kernel_rfl) _ hHeld (belowMore hb _) w.heap.size (cellNew w _ _)
  exact AllReadyH.nil
end Go.Proofs.Ytijbgbdimcnfpaa
