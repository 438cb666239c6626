/-
  NodeEmpty's last statement, whatever order is drawn: one theorem for each set of operations done (written by a program).
-/
import Derived.Test.YtcmohjgccedmgaaDoorNodeEmptyB
import Derived.Deep.RegionHeld3
import Derived.RegionTactic
import Derived.BigRegion
namespace Go.Proofs.YtcmohjgccedmgaaDoor
open Go.RowKit
set_option linter.unusedVariables false

def emOps : Array Oper := #[{ dst := some 40, op := Op.load 34 (Operand.tmp 9), type := 34, pos := "law.go:123", after := #[], guard := none }, { dst := some 41, op := Op.call { callee := Callee.value (Operand.func 21), args := #[Operand.tmp 40], argTypes := #[34] }, type := 4, pos := "law.go:123", after := #[{ on := 0, ground := Ground.data }], guard := none }, { dst := some 42, op := Op.move (Operand.tmp 1), type := 3, pos := "law.go:123", after := #[], guard := none }, { dst := some 43, op := Op.binOp BinOp.eql 3 (Operand.tmp 42) (Operand.const (Value.int IntKind.i64 0)) 3, type := 4, pos := "law.go:123", after := #[{ on := 2, ground := Ground.data }], guard := none }, { dst := some 44, op := Op.binOp BinOp.eql 4 (Operand.tmp 41) (Operand.tmp 43) 4, type := 4, pos := "law.go:123", after := #[{ on := 1, ground := Ground.data }, { on := 3, ground := Ground.data }], guard := none }, { dst := some 45, op := Op.move (Operand.tmp 44), type := 4, pos := "law.go:123", after := #[{ on := 4, ground := Ground.data }, { on := 1, ground := Ground.chain }], guard := none }, { dst := some 46, op := Op.move (Operand.tmp 0), type := 3, pos := "law.go:123", after := #[{ on := 5, ground := Ground.guard }], guard := some (5, true) }, { dst := some 47, op := Op.load 48 (Operand.tmp 10), type := 48, pos := "law.go:123", after := #[{ on := 5, ground := Ground.guard }], guard := some (5, true) }, { dst := some 48, op := Op.call { callee := Callee.value (Operand.func 25), args := #[Operand.tmp 46, Operand.tmp 47], argTypes := #[3, 48] }, type := 24, pos := "law.go:123", after := #[{ on := 6, ground := Ground.data }, { on := 7, ground := Ground.data }, { on := 5, ground := Ground.chain }, { on := 5, ground := Ground.guard }], guard := some (5, true) }, { dst := some 49, op := Op.build 24 #[], type := 24, pos := "law.go:123", after := #[{ on := 5, ground := Ground.guard }], guard := some (5, true) }, { dst := some 50, op := Op.binOp BinOp.eql 24 (Operand.tmp 48) (Operand.tmp 49) 24, type := 4, pos := "law.go:123", after := #[{ on := 8, ground := Ground.data }, { on := 9, ground := Ground.data }, { on := 5, ground := Ground.guard }], guard := some (5, true) }, { dst := some 51, op := Op.load 23 (Operand.tmp 7), type := 23, pos := "law.go:123", after := #[{ on := 5, ground := Ground.guard }], guard := some (5, true) }, { dst := some 52, op := Op.build 23 #[], type := 23, pos := "law.go:123", after := #[{ on := 5, ground := Ground.guard }], guard := some (5, true) }, { dst := some 53, op := Op.binOp BinOp.eql 23 (Operand.tmp 51) (Operand.tmp 52) 23, type := 4, pos := "law.go:123", after := #[{ on := 11, ground := Ground.data }, { on := 12, ground := Ground.data }, { on := 5, ground := Ground.guard }], guard := some (5, true) }, { dst := some 54, op := Op.move (Operand.tmp 53), type := 4, pos := "law.go:123", after := #[{ on := 13, ground := Ground.data }, { on := 8, ground := Ground.chain }, { on := 5, ground := Ground.guard }], guard := some (5, true) }, { dst := some 55, op := Op.move (Operand.tmp 0), type := 3, pos := "law.go:123", after := #[{ on := 14, ground := Ground.guard }], guard := some (14, false) }, { dst := some 56, op := Op.indexAddr 48 (Operand.tmp 10) (Operand.const (Value.int IntKind.i64 0)), type := 0, pos := "law.go:123", after := #[{ on := 14, ground := Ground.guard }], guard := some (14, false) }, { dst := some 57, op := Op.load 24 (Operand.tmp 56), type := 24, pos := "law.go:123", after := #[{ on := 16, ground := Ground.data }, { on := 14, ground := Ground.guard }], guard := some (14, false) }, { dst := some 58, op := Op.call { callee := Callee.value (Operand.func 13), args := #[Operand.tmp 57], argTypes := #[24] }, type := 9, pos := "law.go:123", after := #[{ on := 17, ground := Ground.data }, { on := 14, ground := Ground.chain }, { on := 14, ground := Ground.guard }], guard := some (14, false) }, { dst := some 59, op := Op.indexAddr 48 (Operand.tmp 10) (Operand.const (Value.int IntKind.i64 1)), type := 0, pos := "law.go:123", after := #[{ on := 14, ground := Ground.guard }], guard := some (14, false) }, { dst := some 60, op := Op.load 24 (Operand.tmp 59), type := 24, pos := "law.go:123", after := #[{ on := 19, ground := Ground.data }, { on := 14, ground := Ground.guard }], guard := some (14, false) }, { dst := some 61, op := Op.call { callee := Callee.value (Operand.func 13), args := #[Operand.tmp 60], argTypes := #[24] }, type := 9, pos := "law.go:123", after := #[{ on := 20, ground := Ground.data }, { on := 18, ground := Ground.chain }, { on := 14, ground := Ground.guard }], guard := some (14, false) }, { dst := some 62, op := Op.indexAddr 48 (Operand.tmp 10) (Operand.const (Value.int IntKind.i64 2)), type := 0, pos := "law.go:123", after := #[{ on := 14, ground := Ground.guard }], guard := some (14, false) }, { dst := some 63, op := Op.load 24 (Operand.tmp 62), type := 24, pos := "law.go:123", after := #[{ on := 22, ground := Ground.data }, { on := 14, ground := Ground.guard }], guard := some (14, false) }, { dst := some 64, op := Op.call { callee := Callee.value (Operand.func 13), args := #[Operand.tmp 63], argTypes := #[24] }, type := 9, pos := "law.go:123", after := #[{ on := 23, ground := Ground.data }, { on := 21, ground := Ground.chain }, { on := 14, ground := Ground.guard }], guard := some (14, false) }, { dst := some 65, op := Op.indexAddr 48 (Operand.tmp 10) (Operand.const (Value.int IntKind.i64 3)), type := 0, pos := "law.go:123", after := #[{ on := 14, ground := Ground.guard }], guard := some (14, false) }, { dst := some 66, op := Op.load 24 (Operand.tmp 65), type := 24, pos := "law.go:123", after := #[{ on := 25, ground := Ground.data }, { on := 14, ground := Ground.guard }], guard := some (14, false) }, { dst := some 67, op := Op.call { callee := Callee.value (Operand.func 13), args := #[Operand.tmp 66], argTypes := #[24] }, type := 9, pos := "law.go:123", after := #[{ on := 26, ground := Ground.data }, { on := 24, ground := Ground.chain }, { on := 14, ground := Ground.guard }], guard := some (14, false) }, { dst := some 68, op := Op.indexAddr 48 (Operand.tmp 10) (Operand.const (Value.int IntKind.i64 4)), type := 0, pos := "law.go:123", after := #[{ on := 14, ground := Ground.guard }], guard := some (14, false) }, { dst := some 69, op := Op.load 24 (Operand.tmp 68), type := 24, pos := "law.go:123", after := #[{ on := 28, ground := Ground.data }, { on := 14, ground := Ground.guard }], guard := some (14, false) }, { dst := some 70, op := Op.call { callee := Callee.value (Operand.func 13), args := #[Operand.tmp 69], argTypes := #[24] }, type := 9, pos := "law.go:123", after := #[{ on := 29, ground := Ground.data }, { on := 27, ground := Ground.chain }, { on := 14, ground := Ground.guard }], guard := some (14, false) }, { dst := some 71, op := Op.indexAddr 48 (Operand.tmp 10) (Operand.const (Value.int IntKind.i64 5)), type := 0, pos := "law.go:123", after := #[{ on := 14, ground := Ground.guard }], guard := some (14, false) }, { dst := some 72, op := Op.load 24 (Operand.tmp 71), type := 24, pos := "law.go:123", after := #[{ on := 31, ground := Ground.data }, { on := 14, ground := Ground.guard }], guard := some (14, false) }, { dst := some 73, op := Op.call { callee := Callee.value (Operand.func 13), args := #[Operand.tmp 72], argTypes := #[24] }, type := 9, pos := "law.go:123", after := #[{ on := 32, ground := Ground.data }, { on := 30, ground := Ground.chain }, { on := 14, ground := Ground.guard }], guard := some (14, false) }, { dst := some 74, op := Op.indexAddr 48 (Operand.tmp 10) (Operand.const (Value.int IntKind.i64 6)), type := 0, pos := "law.go:123", after := #[{ on := 14, ground := Ground.guard }], guard := some (14, false) }, { dst := some 75, op := Op.load 24 (Operand.tmp 74), type := 24, pos := "law.go:123", after := #[{ on := 34, ground := Ground.data }, { on := 14, ground := Ground.guard }], guard := some (14, false) }, { dst := some 76, op := Op.call { callee := Callee.value (Operand.func 13), args := #[Operand.tmp 75], argTypes := #[24] }, type := 9, pos := "law.go:123", after := #[{ on := 35, ground := Ground.data }, { on := 33, ground := Ground.chain }, { on := 14, ground := Ground.guard }], guard := some (14, false) }, { dst := some 77, op := Op.indexAddr 48 (Operand.tmp 10) (Operand.const (Value.int IntKind.i64 7)), type := 0, pos := "law.go:123", after := #[{ on := 14, ground := Ground.guard }], guard := some (14, false) }, { dst := some 78, op := Op.load 24 (Operand.tmp 77), type := 24, pos := "law.go:123", after := #[{ on := 37, ground := Ground.data }, { on := 14, ground := Ground.guard }], guard := some (14, false) }, { dst := some 79, op := Op.call { callee := Callee.value (Operand.func 13), args := #[Operand.tmp 78], argTypes := #[24] }, type := 9, pos := "law.go:123", after := #[{ on := 38, ground := Ground.data }, { on := 36, ground := Ground.chain }, { on := 14, ground := Ground.guard }], guard := some (14, false) }, { dst := some 80, op := Op.buildSlice 49 8 #[(0, Operand.tmp 58), (1, Operand.tmp 61), (2, Operand.tmp 64), (3, Operand.tmp 67), (4, Operand.tmp 70), (5, Operand.tmp 73), (6, Operand.tmp 76), (7, Operand.tmp 79)], type := 49, pos := "law.go:123", after := #[{ on := 18, ground := Ground.data }, { on := 21, ground := Ground.data }, { on := 24, ground := Ground.data }, { on := 27, ground := Ground.data }, { on := 30, ground := Ground.data }, { on := 33, ground := Ground.data }, { on := 36, ground := Ground.data }, { on := 39, ground := Ground.data }, { on := 14, ground := Ground.guard }], guard := some (14, false) }, { dst := some 81, op := Op.call { callee := Callee.value (Operand.func 26), args := #[Operand.tmp 55, Operand.tmp 80], argTypes := #[3, 49] }, type := 9, pos := "law.go:123", after := #[{ on := 15, ground := Ground.data }, { on := 40, ground := Ground.data }, { on := 39, ground := Ground.chain }, { on := 14, ground := Ground.guard }], guard := some (14, false) }, { dst := some 82, op := Op.makeSlice 30 (Operand.const (Value.int IntKind.i64 32)) (Operand.const (Value.int IntKind.i64 32)), type := 30, pos := "law.go:123", after := #[{ on := 14, ground := Ground.guard }], guard := some (14, false) }, { dst := some 83, op := Op.convert 30 9 (Operand.tmp 82), type := 9, pos := "law.go:123", after := #[{ on := 42, ground := Ground.data }, { on := 14, ground := Ground.guard }], guard := some (14, false) }, { dst := some 84, op := Op.binOp BinOp.eql 9 (Operand.tmp 81) (Operand.tmp 83) 9, type := 4, pos := "law.go:123", after := #[{ on := 41, ground := Ground.data }, { on := 43, ground := Ground.data }, { on := 14, ground := Ground.guard }], guard := some (14, false) }, { dst := some 85, op := Op.pick (Operand.tmp 54) (Operand.const (Value.bool true)) (Operand.tmp 84), type := 4, pos := "law.go:123", after := #[{ on := 14, ground := Ground.data }, { on := 44, ground := Ground.data }, { on := 5, ground := Ground.guard }], guard := some (5, true) }, { dst := some 86, op := Op.binOp BinOp.eql 4 (Operand.tmp 50) (Operand.tmp 85) 4, type := 4, pos := "law.go:123", after := #[{ on := 10, ground := Ground.data }, { on := 45, ground := Ground.data }, { on := 5, ground := Ground.guard }], guard := some (5, true) }, { dst := some 87, op := Op.pick (Operand.tmp 45) (Operand.tmp 86) (Operand.const (Value.bool false)), type := 4, pos := "law.go:123", after := #[{ on := 5, ground := Ground.data }, { on := 46, ground := Ground.data }], guard := none }, { dst := some 8, op := Op.assign (Operand.tmp 87), type := 4, pos := "law.go:123", after := #[{ on := 47, ground := Ground.data }, { on := 41, ground := Ground.chain }, { on := 0, ground := Ground.phase }, { on := 1, ground := Ground.phase }, { on := 2, ground := Ground.phase }, { on := 3, ground := Ground.phase }, { on := 4, ground := Ground.phase }, { on := 5, ground := Ground.phase }, { on := 6, ground := Ground.phase }, { on := 7, ground := Ground.phase }, { on := 8, ground := Ground.phase }, { on := 9, ground := Ground.phase }, { on := 10, ground := Ground.phase }, { on := 11, ground := Ground.phase }, { on := 12, ground := Ground.phase }, { on := 13, ground := Ground.phase }, { on := 14, ground := Ground.phase }, { on := 15, ground := Ground.phase }, { on := 16, ground := Ground.phase }, { on := 17, ground := Ground.phase }, { on := 18, ground := Ground.phase }, { on := 19, ground := Ground.phase }, { on := 20, ground := Ground.phase }, { on := 21, ground := Ground.phase }, { on := 22, ground := Ground.phase }, { on := 23, ground := Ground.phase }, { on := 24, ground := Ground.phase }, { on := 25, ground := Ground.phase }, { on := 26, ground := Ground.phase }, { on := 27, ground := Ground.phase }, { on := 28, ground := Ground.phase }, { on := 29, ground := Ground.phase }, { on := 30, ground := Ground.phase }, { on := 31, ground := Ground.phase }, { on := 32, ground := Ground.phase }, { on := 33, ground := Ground.phase }, { on := 34, ground := Ground.phase }, { on := 35, ground := Ground.phase }, { on := 36, ground := Ground.phase }, { on := 37, ground := Ground.phase }, { on := 38, ground := Ground.phase }, { on := 39, ground := Ground.phase }, { on := 40, ground := Ground.phase }, { on := 41, ground := Ground.phase }, { on := 42, ground := Ground.phase }, { on := 43, ground := Ground.phase }, { on := 44, ground := Ground.phase }, { on := 45, ground := Ground.phase }, { on := 46, ground := Ground.phase }, { on := 47, ground := Ground.phase }], guard := none }]
/-- a row of eight texts -/
def ToldT (T : Nat → ByteArray) (b : Nat) (w : World) : Prop := ∀ i, i < 8 → w.cell? ⟨b, i, none⟩ = some (.string (T i))
/-- what the statement leans on -/
structure EmCtx (Q : Exit → Act → World → Prop) (S : World → Prop) (lv : Nat) (A : Nat → List Value) (T : Nat → ByteArray) (DS : ByteArray) (E : Bool) : Prop where
  panic : ∀ c a w d v, Q (.panic c) (Act.put a d v) w → Q (.panic c) a w
  alloc : ∀ w o, S w → S (World.alloc w o)
  below : ∀ w w', S w → Below w.heap.size w w' → S w'
  fin : ∀ (a : Act) w, a.tmps.getD 8 undef = .bool true → a.defers = [] → S w → Q .normal a w
  text : ∀ k, ∀ w, Calls Tryd.prog 13 #[.agg (A k).toArray] w fun e w' => e = .returned (.string (T k)) ∧ Below w.heap.size w w'
  told : ∀ b w, S w → ToldT T b w → Calls Tryd.prog 26 #[.int .i64 (lv : Nat), .slice (some ⟨b, 0, none⟩) 8 8] w fun e w' => e = .returned (.string DS) ∧ Below w.heap.size w w'
  val : (E == (DS.toList == zero32.toList)) = true
theorem ToldT.below {T : Nat → ByteArray} {b : Nat} {w w' : World} (h : ToldT T b w) (k : Below w.heap.size w w') : ToldT T b w' := fun i hi => by rw [k.cell (cell_lt (h i hi))]; exact h i hi
theorem ToldT.alloc {T : Nat → ByteArray} {b : Nat} {w : World} (h : ToldT T b w) (o : Obj) : ToldT T b (w.alloc o) := fun i hi => by
  rw [World.cell?_alloc_past (hn := World.block_lt_of_cell? w _ (h i hi))]
  exact h i hi
theorem ToldT.new (T : Nat → ByteArray) (w : World) (t : TypeId) : ToldT T w.heap.size (w.alloc (.cells #[.string (T 0), .string (T 1), .string (T 2), .string (T 3), .string (T 4), .string (T 5), .string (T 6), .string (T 7)] t)) := fun i hi => by
  rw [World.cell?_alloc_new]
  match i, hi with
  | 0, _ => rfl
  | 1, _ => rfl
  | 2, _ => rfl
  | 3, _ => rfl
  | 4, _ => rfl
  | 5, _ => rfl
  | 6, _ => rfl
  | 7, _ => rfl
theorem zerosC (w : World) (C : Array Value) (t : TypeId) (hC : C = Array.replicate 32 (.int .u8 0)) : Cells w.heap.size 32 (fun _ => .int .u8 ((0 : Nat) : Int)) (w.alloc (.cells C t)) :=
  Cells.new w 32 _ _ _ fun j hj => by
    rw [hC, Array.getElem?_replicate, if_pos hj]
    rfl
theorem txt_z : (⟨(txt fun _ => 0).toArray⟩ : ByteArray) = zero32 := by decide
theorem convZ {b : Nat} {w : World} (h : Cells b 32 (fun _ => .int .u8 ((0 : Nat) : Int)) w) :
    (convert 30 9 (.slice (some ⟨b, 0, none⟩) 32 32)).run Tryd.prog w = .ok (.string zero32) w := by
  have z := conv_txt (f := fun _ => 0) (fun _ => by decide) h
  rw [txt_z] at z
  exact z

set_option maxRecDepth 100000 in
theorem em_10_2 {Q : Exit → Act → World → Prop} {S : World → Prop} {lv : Nat} {A : Nat → List Value} {T : Nat → ByteArray} {DS : ByteArray} {E : Bool} {v0 v1 v2 v3 v4 v5 v6 v7 v8 v9 v10 v11 v12 v13 v14 v15 v16 v17 v18 v19 v20 v21 v22 v23 v24 v25 v26 v27 v28 v29 v30 v31 v32 v33 v34 v35 v36 v37 v38 v39 v40 v41 v42 v43 v44 v46 v47 v48 v49 v51 v52 v53 v56 v59 v62 v65 v68 v71 v74 v77 v84 v85 v86 v87 : Value} (h : EmCtx Q S lv A T DS E) (l : Array Bool) (hl : l = #[true, true, true, true, true, true, true, true, true, true, true, true, true, true, true, true, true, true, true, true, true, true, true, true, true, true, true, true, true, true, true, true, true, true, true, true, true, true, true, true, true, true, true, true, false, false, false, false, false]) (w : World) (hw : S w) (b0 : Nat) (m0 : Nat) :
    wpAnyH Tryd.prog .any emOps Q S 5 l { tmps := #[v0, v1, v2, v3, v4, v5, v6, v7, v8, v9, v10, v11, v12, v13, v14, v15, v16, v17, v18, v19, v20, v21, v22, v23, v24, v25, v26, v27, v28, v29, v30, v31, v32, v33, v34, v35, v36, v37, v38, v39, v40, v41, v42, v43, v44, .bool true, v46, v47, v48, v49, .bool E, v51, v52, v53, .bool false, .int .i64 (lv : Nat), v56, .agg (A 0).toArray, .string (T 0), v59, .agg (A 1).toArray, .string (T 1), v62, .agg (A 2).toArray, .string (T 2), v65, .agg (A 3).toArray, .string (T 3), v68, .agg (A 4).toArray, .string (T 4), v71, .agg (A 5).toArray, .string (T 5), v74, .agg (A 6).toArray, .string (T 6), v77, .agg (A 7).toArray, .string (T 7), .slice (some ⟨b0, 0, none⟩) 8 8, .string DS, .slice (some ⟨m0, 0, none⟩) 32 32, .string zero32, v84, v85, v86, v87], defers := [] } w := by
  subst hl
  have hHeld := hw
  have hv := h.val
  refine wpAnyH_take (i := 44) (oi := { dst := some 84, op := Op.binOp BinOp.eql 9 (Operand.tmp 81) (Operand.tmp 83) 9, type := 4, pos := "law.go:123", after := #[{ on := 41, ground := Ground.data }, { on := 43, ground := Ground.data }, { on := 14, ground := Ground.guard }], guard := some (14, false) }) (v := ?_) rfl (by kernel_rfl) (by kernel_rfl) (by kernel_rfl) (fun c a w => h.panic c a w _ _) (Or.inl ⟨by rfl, ?_⟩) hHeld ?_
  rotate_left
  · (intro wz hSw; go_simp; try with_reducible rfl)
  try simp only [Act.put, List.setIfInBounds_toArray, List.set_cons_zero, List.set_cons_succ]
  refine wpAnyH_take (i := 45) (oi := { dst := some 85, op := Op.pick (Operand.tmp 54) (Operand.const (Value.bool true)) (Operand.tmp 84), type := 4, pos := "law.go:123", after := #[{ on := 14, ground := Ground.data }, { on := 44, ground := Ground.data }, { on := 5, ground := Ground.guard }], guard := some (5, true) }) (v := ?_) rfl (by kernel_rfl) (by kernel_rfl) (by kernel_rfl) (fun c a w => h.panic c a w _ _) (Or.inl ⟨by rfl, ?_⟩) hHeld ?_
  rotate_left
  · (intro wz hSw; go_simp; try with_reducible rfl)
  try simp only [Act.put, List.setIfInBounds_toArray, List.set_cons_zero, List.set_cons_succ]
  refine wpAnyH_take (i := 46) (oi := { dst := some 86, op := Op.binOp BinOp.eql 4 (Operand.tmp 50) (Operand.tmp 85) 4, type := 4, pos := "law.go:123", after := #[{ on := 10, ground := Ground.data }, { on := 45, ground := Ground.data }, { on := 5, ground := Ground.guard }], guard := some (5, true) }) (v := ?_) rfl (by kernel_rfl) (by kernel_rfl) (by kernel_rfl) (fun c a w => h.panic c a w _ _) (Or.inl ⟨by rfl, ?_⟩) hHeld ?_
  rotate_left
  · (intro wz hSw; go_simp; try with_reducible rfl)
  try simp only [Act.put, List.setIfInBounds_toArray, List.set_cons_zero, List.set_cons_succ]
  refine wpAnyH_take (i := 47) (oi := { dst := some 87, op := Op.pick (Operand.tmp 45) (Operand.tmp 86) (Operand.const (Value.bool false)), type := 4, pos := "law.go:123", after := #[{ on := 5, ground := Ground.data }, { on := 46, ground := Ground.data }], guard := none }) (v := ?_) rfl (by kernel_rfl) (by kernel_rfl) (by kernel_rfl) (fun c a w => h.panic c a w _ _) (Or.inl ⟨by rfl, ?_⟩) hHeld ?_
  rotate_left
  · (intro wz hSw; go_simp; try with_reducible rfl)
  try simp only [Act.put, List.setIfInBounds_toArray, List.set_cons_zero, List.set_cons_succ]
  refine wpAnyH_take (i := 48) (oi := { dst := some 8, op := Op.assign (Operand.tmp 87), type := 4, pos := "law.go:123", after := #[{ on := 47, ground := Ground.data }, { on := 41, ground := Ground.chain }, { on := 0, ground := Ground.phase }, { on := 1, ground := Ground.phase }, { on := 2, ground := Ground.phase }, { on := 3, ground := Ground.phase }, { on := 4, ground := Ground.phase }, { on := 5, ground := Ground.phase }, { on := 6, ground := Ground.phase }, { on := 7, ground := Ground.phase }, { on := 8, ground := Ground.phase }, { on := 9, ground := Ground.phase }, { on := 10, ground := Ground.phase }, { on := 11, ground := Ground.phase }, { on := 12, ground := Ground.phase }, { on := 13, ground := Ground.phase }, { on := 14, ground := Ground.phase }, { on := 15, ground := Ground.phase }, { on := 16, ground := Ground.phase }, { on := 17, ground := Ground.phase }, { on := 18, ground := Ground.phase }, { on := 19, ground := Ground.phase }, { on := 20, ground := Ground.phase }, { on := 21, ground := Ground.phase }, { on := 22, ground := Ground.phase }, { on := 23, ground := Ground.phase }, { on := 24, ground := Ground.phase }, { on := 25, ground := Ground.phase }, { on := 26, ground := Ground.phase }, { on := 27, ground := Ground.phase }, { on := 28, ground := Ground.phase }, { on := 29, ground := Ground.phase }, { on := 30, ground := Ground.phase }, { on := 31, ground := Ground.phase }, { on := 32, ground := Ground.phase }, { on := 33, ground := Ground.phase }, { on := 34, ground := Ground.phase }, { on := 35, ground := Ground.phase }, { on := 36, ground := Ground.phase }, { on := 37, ground := Ground.phase }, { on := 38, ground := Ground.phase }, { on := 39, ground := Ground.phase }, { on := 40, ground := Ground.phase }, { on := 41, ground := Ground.phase }, { on := 42, ground := Ground.phase }, { on := 43, ground := Ground.phase }, { on := 44, ground := Ground.phase }, { on := 45, ground := Ground.phase }, { on := 46, ground := Ground.phase }, { on := 47, ground := Ground.phase }], guard := none }) (v := ?_) rfl (by kernel_rfl) (by kernel_rfl) (by kernel_rfl) (fun c a w => h.panic c a w _ _) (Or.inl ⟨by rfl, ?_⟩) hHeld ?_
  rotate_left
  · (intro wz hSw; go_simp; try with_reducible rfl)
  try simp only [Act.put, List.setIfInBounds_toArray, List.set_cons_zero, List.set_cons_succ]
  exact wpAnyH_done (by kernel_rfl) (h.fin _ _ rfl rfl hw) _
set_option maxRecDepth 100000 in
theorem em_10_1 {Q : Exit → Act → World → Prop} {S : World → Prop} {lv : Nat} {A : Nat → List Value} {T : Nat → ByteArray} {DS : ByteArray} {E : Bool} {v0 v1 v2 v3 v4 v5 v6 v7 v8 v9 v10 v11 v12 v13 v14 v15 v16 v17 v18 v19 v20 v21 v22 v23 v24 v25 v26 v27 v28 v29 v30 v31 v32 v33 v34 v35 v36 v37 v38 v39 v40 v41 v42 v43 v44 v46 v47 v48 v49 v51 v52 v53 v56 v59 v62 v65 v68 v71 v74 v77 v83 v84 v85 v86 v87 : Value} (h : EmCtx Q S lv A T DS E) (l : Array Bool) (hl : l = #[true, true, true, true, true, true, true, true, true, true, true, true, true, true, true, true, true, true, true, true, true, true, true, true, true, true, true, true, true, true, true, true, true, true, true, true, true, true, true, true, true, true, true, false, false, false, false, false, false]) (w : World) (hw : S w) (b0 : Nat) (m0 : Nat) (hM : Cells m0 32 (fun _ => .int .u8 ((0 : Nat) : Int)) w) :
    wpAnyH Tryd.prog .any emOps Q S 6 l { tmps := #[v0, v1, v2, v3, v4, v5, v6, v7, v8, v9, v10, v11, v12, v13, v14, v15, v16, v17, v18, v19, v20, v21, v22, v23, v24, v25, v26, v27, v28, v29, v30, v31, v32, v33, v34, v35, v36, v37, v38, v39, v40, v41, v42, v43, v44, .bool true, v46, v47, v48, v49, .bool E, v51, v52, v53, .bool false, .int .i64 (lv : Nat), v56, .agg (A 0).toArray, .string (T 0), v59, .agg (A 1).toArray, .string (T 1), v62, .agg (A 2).toArray, .string (T 2), v65, .agg (A 3).toArray, .string (T 3), v68, .agg (A 4).toArray, .string (T 4), v71, .agg (A 5).toArray, .string (T 5), v74, .agg (A 6).toArray, .string (T 6), v77, .agg (A 7).toArray, .string (T 7), .slice (some ⟨b0, 0, none⟩) 8 8, .string DS, .slice (some ⟨m0, 0, none⟩) 32 32, v83, v84, v85, v86, v87], defers := [] } w := by
  subst hl
  refine wpAnyH_ready (rs := [43]) (by kernel_rfl) (by simp) ?_
  refine AllReadyH.cons (o := { dst := some 83, op := Op.convert 30 9 (Operand.tmp 82), type := 9, pos := "law.go:123", after := #[{ on := 42, ground := Ground.data }, { on := 14, ground := Ground.guard }], guard := some (14, false) }) rfl (fun K hK => ?_) ?_
  · have hz := convZ hM
    go_simp
    refine hK.out _ _ hw (fun hHeld => ?_)
    clear hK K
    try simp only [List.setIfInBounds_toArray, List.set_cons_zero, List.set_cons_succ]
    exact em_10_2 h _ (by kernel_rfl) _ hHeld b0 m0
  exact AllReadyH.nil
set_option maxRecDepth 100000 in
theorem em_10_0 {Q : Exit → Act → World → Prop} {S : World → Prop} {lv : Nat} {A : Nat → List Value} {T : Nat → ByteArray} {DS : ByteArray} {E : Bool} {v0 v1 v2 v3 v4 v5 v6 v7 v8 v9 v10 v11 v12 v13 v14 v15 v16 v17 v18 v19 v20 v21 v22 v23 v24 v25 v26 v27 v28 v29 v30 v31 v32 v33 v34 v35 v36 v37 v38 v39 v40 v41 v42 v43 v44 v46 v47 v48 v49 v51 v52 v53 v56 v59 v62 v65 v68 v71 v74 v77 v82 v83 v84 v85 v86 v87 : Value} (h : EmCtx Q S lv A T DS E) (l : Array Bool) (hl : l = #[true, true, true, true, true, true, true, true, true, true, true, true, true, true, true, true, true, true, true, true, true, true, true, true, true, true, true, true, true, true, true, true, true, true, true, true, true, true, true, true, true, true, false, false, false, false, false, false, false]) (w : World) (hw : S w) (b0 : Nat) :
    wpAnyH Tryd.prog .any emOps Q S 7 l { tmps := #[v0, v1, v2, v3, v4, v5, v6, v7, v8, v9, v10, v11, v12, v13, v14, v15, v16, v17, v18, v19, v20, v21, v22, v23, v24, v25, v26, v27, v28, v29, v30, v31, v32, v33, v34, v35, v36, v37, v38, v39, v40, v41, v42, v43, v44, .bool true, v46, v47, v48, v49, .bool E, v51, v52, v53, .bool false, .int .i64 (lv : Nat), v56, .agg (A 0).toArray, .string (T 0), v59, .agg (A 1).toArray, .string (T 1), v62, .agg (A 2).toArray, .string (T 2), v65, .agg (A 3).toArray, .string (T 3), v68, .agg (A 4).toArray, .string (T 4), v71, .agg (A 5).toArray, .string (T 5), v74, .agg (A 6).toArray, .string (T 6), v77, .agg (A 7).toArray, .string (T 7), .slice (some ⟨b0, 0, none⟩) 8 8, .string DS, v82, v83, v84, v85, v86, v87], defers := [] } w := by
  subst hl
  refine wpAnyH_ready (rs := [42]) (by kernel_rfl) (by simp) ?_
  refine AllReadyH.cons (o := { dst := some 82, op := Op.makeSlice 30 (Operand.const (Value.int IntKind.i64 32)) (Operand.const (Value.int IntKind.i64 32)), type := 30, pos := "law.go:123", after := #[{ on := 14, ground := Ground.guard }], guard := some (14, false) }) rfl (fun K hK => ?_) ?_
  · go_simp
    refine hK.out _ _ (h.alloc _ _ hw) (fun hHeld => ?_)
    clear hK K
    try simp only [List.setIfInBounds_toArray, List.set_cons_zero, List.set_cons_succ]
    exact em_10_1 h _ (by kernel_rfl) _ hHeld b0 _ (by refine zerosC w _ _ ?_; kernel_rfl)
  exact AllReadyH.nil
set_option maxRecDepth 100000 in
theorem em_9_2 {Q : Exit → Act → World → Prop} {S : World → Prop} {lv : Nat} {A : Nat → List Value} {T : Nat → ByteArray} {DS : ByteArray} {E : Bool} {v0 v1 v2 v3 v4 v5 v6 v7 v8 v9 v10 v11 v12 v13 v14 v15 v16 v17 v18 v19 v20 v21 v22 v23 v24 v25 v26 v27 v28 v29 v30 v31 v32 v33 v34 v35 v36 v37 v38 v39 v40 v41 v42 v43 v44 v46 v47 v48 v49 v51 v52 v53 v56 v59 v62 v65 v68 v71 v74 v77 v81 v84 v85 v86 v87 : Value} (h : EmCtx Q S lv A T DS E) (l : Array Bool) (hl : l = #[true, true, true, true, true, true, true, true, true, true, true, true, true, true, true, true, true, true, true, true, true, true, true, true, true, true, true, true, true, true, true, true, true, true, true, true, true, true, true, true, true, false, true, true, false, false, false, false, false]) (w : World) (hw : S w) (b0 : Nat) (m0 : Nat) (hT : ToldT T b0 w) :
    wpAnyH Tryd.prog .any emOps Q S 6 l { tmps := #[v0, v1, v2, v3, v4, v5, v6, v7, v8, v9, v10, v11, v12, v13, v14, v15, v16, v17, v18, v19, v20, v21, v22, v23, v24, v25, v26, v27, v28, v29, v30, v31, v32, v33, v34, v35, v36, v37, v38, v39, v40, v41, v42, v43, v44, .bool true, v46, v47, v48, v49, .bool E, v51, v52, v53, .bool false, .int .i64 (lv : Nat), v56, .agg (A 0).toArray, .string (T 0), v59, .agg (A 1).toArray, .string (T 1), v62, .agg (A 2).toArray, .string (T 2), v65, .agg (A 3).toArray, .string (T 3), v68, .agg (A 4).toArray, .string (T 4), v71, .agg (A 5).toArray, .string (T 5), v74, .agg (A 6).toArray, .string (T 6), v77, .agg (A 7).toArray, .string (T 7), .slice (some ⟨b0, 0, none⟩) 8 8, v81, .slice (some ⟨m0, 0, none⟩) 32 32, .string zero32, v84, v85, v86, v87], defers := [] } w := by
  subst hl
  refine wpAnyH_ready (rs := [41]) (by kernel_rfl) (by simp) ?_
  refine AllReadyH.cons (o := { dst := some 81, op := Op.call { callee := Callee.value (Operand.func 26), args := #[Operand.tmp 55, Operand.tmp 80], argTypes := #[3, 49] }, type := 9, pos := "law.go:123", after := #[{ on := 15, ground := Ground.data }, { on := 40, ground := Ground.data }, { on := 39, ground := Ground.chain }, { on := 14, ground := Ground.guard }], guard := some (14, false) }) rfl (fun K hK => ?_) ?_
  · go_simp
    refine (h.told b0 w hw hT).mono ?_
    rintro e w1 ⟨rfl, hb⟩
    try go_wp2_with fail
    refine hK.out _ _ (h.below _ _ hw hb) (fun hHeld => ?_)
    clear hK K
    try simp only [List.setIfInBounds_toArray, List.set_cons_zero, List.set_cons_succ]
    exact em_10_2 h _ (by kernel_rfl) _ hHeld b0 m0
  exact AllReadyH.nil
set_option maxRecDepth 100000 in
theorem em_9_1 {Q : Exit → Act → World → Prop} {S : World → Prop} {lv : Nat} {A : Nat → List Value} {T : Nat → ByteArray} {DS : ByteArray} {E : Bool} {v0 v1 v2 v3 v4 v5 v6 v7 v8 v9 v10 v11 v12 v13 v14 v15 v16 v17 v18 v19 v20 v21 v22 v23 v24 v25 v26 v27 v28 v29 v30 v31 v32 v33 v34 v35 v36 v37 v38 v39 v40 v41 v42 v43 v44 v46 v47 v48 v49 v51 v52 v53 v56 v59 v62 v65 v68 v71 v74 v77 v81 v83 v84 v85 v86 v87 : Value} (h : EmCtx Q S lv A T DS E) (l : Array Bool) (hl : l = #[true, true, true, true, true, true, true, true, true, true, true, true, true, true, true, true, true, true, true, true, true, true, true, true, true, true, true, true, true, true, true, true, true, true, true, true, true, true, true, true, true, false, true, false, false, false, false, false, false]) (w : World) (hw : S w) (b0 : Nat) (m0 : Nat) (hT : ToldT T b0 w) (hM : Cells m0 32 (fun _ => .int .u8 ((0 : Nat) : Int)) w) :
    wpAnyH Tryd.prog .any emOps Q S 7 l { tmps := #[v0, v1, v2, v3, v4, v5, v6, v7, v8, v9, v10, v11, v12, v13, v14, v15, v16, v17, v18, v19, v20, v21, v22, v23, v24, v25, v26, v27, v28, v29, v30, v31, v32, v33, v34, v35, v36, v37, v38, v39, v40, v41, v42, v43, v44, .bool true, v46, v47, v48, v49, .bool E, v51, v52, v53, .bool false, .int .i64 (lv : Nat), v56, .agg (A 0).toArray, .string (T 0), v59, .agg (A 1).toArray, .string (T 1), v62, .agg (A 2).toArray, .string (T 2), v65, .agg (A 3).toArray, .string (T 3), v68, .agg (A 4).toArray, .string (T 4), v71, .agg (A 5).toArray, .string (T 5), v74, .agg (A 6).toArray, .string (T 6), v77, .agg (A 7).toArray, .string (T 7), .slice (some ⟨b0, 0, none⟩) 8 8, v81, .slice (some ⟨m0, 0, none⟩) 32 32, v83, v84, v85, v86, v87], defers := [] } w := by
  subst hl
  refine wpAnyH_ready (rs := [41, 43]) (by kernel_rfl) (by simp) ?_
  refine AllReadyH.cons (o := { dst := some 81, op := Op.call { callee := Callee.value (Operand.func 26), args := #[Operand.tmp 55, Operand.tmp 80], argTypes := #[3, 49] }, type := 9, pos := "law.go:123", after := #[{ on := 15, ground := Ground.data }, { on := 40, ground := Ground.data }, { on := 39, ground := Ground.chain }, { on := 14, ground := Ground.guard }], guard := some (14, false) }) rfl (fun K hK => ?_) ?_
  · go_simp
    refine (h.told b0 w hw hT).mono ?_
    rintro e w1 ⟨rfl, hb⟩
    try go_wp2_with fail
    refine hK.out _ _ (h.below _ _ hw hb) (fun hHeld => ?_)
    clear hK K
    try simp only [List.setIfInBounds_toArray, List.set_cons_zero, List.set_cons_succ]
    exact em_10_1 h _ (by kernel_rfl) _ hHeld b0 m0 (hM.below hb)
  refine AllReadyH.cons (o := { dst := some 83, op := Op.convert 30 9 (Operand.tmp 82), type := 9, pos := "law.go:123", after := #[{ on := 42, ground := Ground.data }, { on := 14, ground := Ground.guard }], guard := some (14, false) }) rfl (fun K hK => ?_) ?_
  · have hz := convZ hM
    go_simp
    refine hK.out _ _ hw (fun hHeld => ?_)
    clear hK K
    try simp only [List.setIfInBounds_toArray, List.set_cons_zero, List.set_cons_succ]
    exact em_9_2 h _ (by kernel_rfl) _ hHeld b0 m0 hT
  exact AllReadyH.nil
set_option maxRecDepth 100000 in
theorem em_9_0 {Q : Exit → Act → World → Prop} {S : World → Prop} {lv : Nat} {A : Nat → List Value} {T : Nat → ByteArray} {DS : ByteArray} {E : Bool} {v0 v1 v2 v3 v4 v5 v6 v7 v8 v9 v10 v11 v12 v13 v14 v15 v16 v17 v18 v19 v20 v21 v22 v23 v24 v25 v26 v27 v28 v29 v30 v31 v32 v33 v34 v35 v36 v37 v38 v39 v40 v41 v42 v43 v44 v46 v47 v48 v49 v51 v52 v53 v56 v59 v62 v65 v68 v71 v74 v77 v81 v82 v83 v84 v85 v86 v87 : Value} (h : EmCtx Q S lv A T DS E) (l : Array Bool) (hl : l = #[true, true, true, true, true, true, true, true, true, true, true, true, true, true, true, true, true, true, true, true, true, true, true, true, true, true, true, true, true, true, true, true, true, true, true, true, true, true, true, true, true, false, false, false, false, false, false, false, false]) (w : World) (hw : S w) (b0 : Nat) (hT : ToldT T b0 w) :
    wpAnyH Tryd.prog .any emOps Q S 8 l { tmps := #[v0, v1, v2, v3, v4, v5, v6, v7, v8, v9, v10, v11, v12, v13, v14, v15, v16, v17, v18, v19, v20, v21, v22, v23, v24, v25, v26, v27, v28, v29, v30, v31, v32, v33, v34, v35, v36, v37, v38, v39, v40, v41, v42, v43, v44, .bool true, v46, v47, v48, v49, .bool E, v51, v52, v53, .bool false, .int .i64 (lv : Nat), v56, .agg (A 0).toArray, .string (T 0), v59, .agg (A 1).toArray, .string (T 1), v62, .agg (A 2).toArray, .string (T 2), v65, .agg (A 3).toArray, .string (T 3), v68, .agg (A 4).toArray, .string (T 4), v71, .agg (A 5).toArray, .string (T 5), v74, .agg (A 6).toArray, .string (T 6), v77, .agg (A 7).toArray, .string (T 7), .slice (some ⟨b0, 0, none⟩) 8 8, v81, v82, v83, v84, v85, v86, v87], defers := [] } w := by
  subst hl
  refine wpAnyH_ready (rs := [41, 42]) (by kernel_rfl) (by simp) ?_
  refine AllReadyH.cons (o := { dst := some 81, op := Op.call { callee := Callee.value (Operand.func 26), args := #[Operand.tmp 55, Operand.tmp 80], argTypes := #[3, 49] }, type := 9, pos := "law.go:123", after := #[{ on := 15, ground := Ground.data }, { on := 40, ground := Ground.data }, { on := 39, ground := Ground.chain }, { on := 14, ground := Ground.guard }], guard := some (14, false) }) rfl (fun K hK => ?_) ?_
  · go_simp
    refine (h.told b0 w hw hT).mono ?_
    rintro e w1 ⟨rfl, hb⟩
    try go_wp2_with fail
    refine hK.out _ _ (h.below _ _ hw hb) (fun hHeld => ?_)
    clear hK K
    try simp only [List.setIfInBounds_toArray, List.set_cons_zero, List.set_cons_succ]
    exact em_10_0 h _ (by kernel_rfl) _ hHeld b0
  refine AllReadyH.cons (o := { dst := some 82, op := Op.makeSlice 30 (Operand.const (Value.int IntKind.i64 32)) (Operand.const (Value.int IntKind.i64 32)), type := 30, pos := "law.go:123", after := #[{ on := 14, ground := Ground.guard }], guard := some (14, false) }) rfl (fun K hK => ?_) ?_
  · go_simp
    refine hK.out _ _ (h.alloc _ _ hw) (fun hHeld => ?_)
    clear hK K
    try simp only [List.setIfInBounds_toArray, List.set_cons_zero, List.set_cons_succ]
    exact em_9_1 h _ (by kernel_rfl) _ hHeld b0 _ (hT.alloc _) (by refine zerosC w _ _ ?_; kernel_rfl)
  exact AllReadyH.nil
set_option maxRecDepth 100000 in
theorem em_8_2 {Q : Exit → Act → World → Prop} {S : World → Prop} {lv : Nat} {A : Nat → List Value} {T : Nat → ByteArray} {DS : ByteArray} {E : Bool} {v0 v1 v2 v3 v4 v5 v6 v7 v8 v9 v10 v11 v12 v13 v14 v15 v16 v17 v18 v19 v20 v21 v22 v23 v24 v25 v26 v27 v28 v29 v30 v31 v32 v33 v34 v35 v36 v37 v38 v39 v40 v41 v42 v43 v44 v46 v47 v48 v49 v51 v52 v53 v56 v59 v62 v65 v68 v71 v74 v77 v80 v81 v84 v85 v86 v87 : Value} (h : EmCtx Q S lv A T DS E) (l : Array Bool) (hl : l = #[true, true, true, true, true, true, true, true, true, true, true, true, true, true, true, true, true, true, true, true, true, true, true, true, true, true, true, true, true, true, true, true, true, true, true, true, true, true, true, true, false, false, true, true, false, false, false, false, false]) (w : World) (hw : S w) (m0 : Nat) :
    wpAnyH Tryd.prog .any emOps Q S 7 l { tmps := #[v0, v1, v2, v3, v4, v5, v6, v7, v8, v9, v10, v11, v12, v13, v14, v15, v16, v17, v18, v19, v20, v21, v22, v23, v24, v25, v26, v27, v28, v29, v30, v31, v32, v33, v34, v35, v36, v37, v38, v39, v40, v41, v42, v43, v44, .bool true, v46, v47, v48, v49, .bool E, v51, v52, v53, .bool false, .int .i64 (lv : Nat), v56, .agg (A 0).toArray, .string (T 0), v59, .agg (A 1).toArray, .string (T 1), v62, .agg (A 2).toArray, .string (T 2), v65, .agg (A 3).toArray, .string (T 3), v68, .agg (A 4).toArray, .string (T 4), v71, .agg (A 5).toArray, .string (T 5), v74, .agg (A 6).toArray, .string (T 6), v77, .agg (A 7).toArray, .string (T 7), v80, v81, .slice (some ⟨m0, 0, none⟩) 32 32, .string zero32, v84, v85, v86, v87], defers := [] } w := by
  subst hl
  refine wpAnyH_ready (rs := [40]) (by kernel_rfl) (by simp) ?_
  refine AllReadyH.cons (o := { dst := some 80, op := Op.buildSlice 49 8 #[(0, Operand.tmp 58), (1, Operand.tmp 61), (2, Operand.tmp 64), (3, Operand.tmp 67), (4, Operand.tmp 70), (5, Operand.tmp 73), (6, Operand.tmp 76), (7, Operand.tmp 79)], type := 49, pos := "law.go:123", after := #[{ on := 18, ground := Ground.data }, { on := 21, ground := Ground.data }, { on := 24, ground := Ground.data }, { on := 27, ground := Ground.data }, { on := 30, ground := Ground.data }, { on := 33, ground := Ground.data }, { on := 36, ground := Ground.data }, { on := 39, ground := Ground.data }, { on := 14, ground := Ground.guard }], guard := some (14, false) }) rfl (fun K hK => ?_) ?_
  · go_simp
    refine hK.out _ _ (h.alloc _ _ hw) (fun hHeld => ?_)
    clear hK K
    try simp only [List.setIfInBounds_toArray, List.set_cons_zero, List.set_cons_succ]
    exact em_9_2 h _ (by kernel_rfl) _ hHeld _ m0 (ToldT.new T w _)
  exact AllReadyH.nil
set_option maxRecDepth 100000 in
theorem em_8_1 {Q : Exit → Act → World → Prop} {S : World → Prop} {lv : Nat} {A : Nat → List Value} {T : Nat → ByteArray} {DS : ByteArray} {E : Bool} {v0 v1 v2 v3 v4 v5 v6 v7 v8 v9 v10 v11 v12 v13 v14 v15 v16 v17 v18 v19 v20 v21 v22 v23 v24 v25 v26 v27 v28 v29 v30 v31 v32 v33 v34 v35 v36 v37 v38 v39 v40 v41 v42 v43 v44 v46 v47 v48 v49 v51 v52 v53 v56 v59 v62 v65 v68 v71 v74 v77 v80 v81 v83 v84 v85 v86 v87 : Value} (h : EmCtx Q S lv A T DS E) (l : Array Bool) (hl : l = #[true, true, true, true, true, true, true, true, true, true, true, true, true, true, true, true, true, true, true, true, true, true, true, true, true, true, true, true, true, true, true, true, true, true, true, true, true, true, true, true, false, false, true, false, false, false, false, false, false]) (w : World) (hw : S w) (m0 : Nat) (hM : Cells m0 32 (fun _ => .int .u8 ((0 : Nat) : Int)) w) :
    wpAnyH Tryd.prog .any emOps Q S 8 l { tmps := #[v0, v1, v2, v3, v4, v5, v6, v7, v8, v9, v10, v11, v12, v13, v14, v15, v16, v17, v18, v19, v20, v21, v22, v23, v24, v25, v26, v27, v28, v29, v30, v31, v32, v33, v34, v35, v36, v37, v38, v39, v40, v41, v42, v43, v44, .bool true, v46, v47, v48, v49, .bool E, v51, v52, v53, .bool false, .int .i64 (lv : Nat), v56, .agg (A 0).toArray, .string (T 0), v59, .agg (A 1).toArray, .string (T 1), v62, .agg (A 2).toArray, .string (T 2), v65, .agg (A 3).toArray, .string (T 3), v68, .agg (A 4).toArray, .string (T 4), v71, .agg (A 5).toArray, .string (T 5), v74, .agg (A 6).toArray, .string (T 6), v77, .agg (A 7).toArray, .string (T 7), v80, v81, .slice (some ⟨m0, 0, none⟩) 32 32, v83, v84, v85, v86, v87], defers := [] } w := by
  subst hl
  refine wpAnyH_ready (rs := [40, 43]) (by kernel_rfl) (by simp) ?_
  refine AllReadyH.cons (o := { dst := some 80, op := Op.buildSlice 49 8 #[(0, Operand.tmp 58), (1, Operand.tmp 61), (2, Operand.tmp 64), (3, Operand.tmp 67), (4, Operand.tmp 70), (5, Operand.tmp 73), (6, Operand.tmp 76), (7, Operand.tmp 79)], type := 49, pos := "law.go:123", after := #[{ on := 18, ground := Ground.data }, { on := 21, ground := Ground.data }, { on := 24, ground := Ground.data }, { on := 27, ground := Ground.data }, { on := 30, ground := Ground.data }, { on := 33, ground := Ground.data }, { on := 36, ground := Ground.data }, { on := 39, ground := Ground.data }, { on := 14, ground := Ground.guard }], guard := some (14, false) }) rfl (fun K hK => ?_) ?_
  · go_simp
    refine hK.out _ _ (h.alloc _ _ hw) (fun hHeld => ?_)
    clear hK K
    try simp only [List.setIfInBounds_toArray, List.set_cons_zero, List.set_cons_succ]
    exact em_9_1 h _ (by kernel_rfl) _ hHeld _ m0 (ToldT.new T w _) (hM.alloc _)
  refine AllReadyH.cons (o := { dst := some 83, op := Op.convert 30 9 (Operand.tmp 82), type := 9, pos := "law.go:123", after := #[{ on := 42, ground := Ground.data }, { on := 14, ground := Ground.guard }], guard := some (14, false) }) rfl (fun K hK => ?_) ?_
  · have hz := convZ hM
    go_simp
    refine hK.out _ _ hw (fun hHeld => ?_)
    clear hK K
    try simp only [List.setIfInBounds_toArray, List.set_cons_zero, List.set_cons_succ]
    exact em_8_2 h _ (by kernel_rfl) _ hHeld m0
  exact AllReadyH.nil
set_option maxRecDepth 100000 in
theorem em_8_0 {Q : Exit → Act → World → Prop} {S : World → Prop} {lv : Nat} {A : Nat → List Value} {T : Nat → ByteArray} {DS : ByteArray} {E : Bool} {v0 v1 v2 v3 v4 v5 v6 v7 v8 v9 v10 v11 v12 v13 v14 v15 v16 v17 v18 v19 v20 v21 v22 v23 v24 v25 v26 v27 v28 v29 v30 v31 v32 v33 v34 v35 v36 v37 v38 v39 v40 v41 v42 v43 v44 v46 v47 v48 v49 v51 v52 v53 v56 v59 v62 v65 v68 v71 v74 v77 v80 v81 v82 v83 v84 v85 v86 v87 : Value} (h : EmCtx Q S lv A T DS E) (l : Array Bool) (hl : l = #[true, true, true, true, true, true, true, true, true, true, true, true, true, true, true, true, true, true, true, true, true, true, true, true, true, true, true, true, true, true, true, true, true, true, true, true, true, true, true, true, false, false, false, false, false, false, false, false, false]) (w : World) (hw : S w)  :
    wpAnyH Tryd.prog .any emOps Q S 9 l { tmps := #[v0, v1, v2, v3, v4, v5, v6, v7, v8, v9, v10, v11, v12, v13, v14, v15, v16, v17, v18, v19, v20, v21, v22, v23, v24, v25, v26, v27, v28, v29, v30, v31, v32, v33, v34, v35, v36, v37, v38, v39, v40, v41, v42, v43, v44, .bool true, v46, v47, v48, v49, .bool E, v51, v52, v53, .bool false, .int .i64 (lv : Nat), v56, .agg (A 0).toArray, .string (T 0), v59, .agg (A 1).toArray, .string (T 1), v62, .agg (A 2).toArray, .string (T 2), v65, .agg (A 3).toArray, .string (T 3), v68, .agg (A 4).toArray, .string (T 4), v71, .agg (A 5).toArray, .string (T 5), v74, .agg (A 6).toArray, .string (T 6), v77, .agg (A 7).toArray, .string (T 7), v80, v81, v82, v83, v84, v85, v86, v87], defers := [] } w := by
  subst hl
  refine wpAnyH_ready (rs := [40, 42]) (by kernel_rfl) (by simp) ?_
  refine AllReadyH.cons (o := { dst := some 80, op := Op.buildSlice 49 8 #[(0, Operand.tmp 58), (1, Operand.tmp 61), (2, Operand.tmp 64), (3, Operand.tmp 67), (4, Operand.tmp 70), (5, Operand.tmp 73), (6, Operand.tmp 76), (7, Operand.tmp 79)], type := 49, pos := "law.go:123", after := #[{ on := 18, ground := Ground.data }, { on := 21, ground := Ground.data }, { on := 24, ground := Ground.data }, { on := 27, ground := Ground.data }, { on := 30, ground := Ground.data }, { on := 33, ground := Ground.data }, { on := 36, ground := Ground.data }, { on := 39, ground := Ground.data }, { on := 14, ground := Ground.guard }], guard := some (14, false) }) rfl (fun K hK => ?_) ?_
  · go_simp
    refine hK.out _ _ (h.alloc _ _ hw) (fun hHeld => ?_)
    clear hK K
    try simp only [List.setIfInBounds_toArray, List.set_cons_zero, List.set_cons_succ]
    exact em_9_0 h _ (by kernel_rfl) _ hHeld _ (ToldT.new T w _)
  refine AllReadyH.cons (o := { dst := some 82, op := Op.makeSlice 30 (Operand.const (Value.int IntKind.i64 32)) (Operand.const (Value.int IntKind.i64 32)), type := 30, pos := "law.go:123", after := #[{ on := 14, ground := Ground.guard }], guard := some (14, false) }) rfl (fun K hK => ?_) ?_
  · go_simp
    refine hK.out _ _ (h.alloc _ _ hw) (fun hHeld => ?_)
    clear hK K
    try simp only [List.setIfInBounds_toArray, List.set_cons_zero, List.set_cons_succ]
    exact em_8_1 h _ (by kernel_rfl) _ hHeld _ (by refine zerosC w _ _ ?_; kernel_rfl)
  exact AllReadyH.nil
set_option maxRecDepth 100000 in
theorem em_7_2 {Q : Exit → Act → World → Prop} {S : World → Prop} {lv : Nat} {A : Nat → List Value} {T : Nat → ByteArray} {DS : ByteArray} {E : Bool} {v0 v1 v2 v3 v4 v5 v6 v7 v8 v9 v10 v11 v12 v13 v14 v15 v16 v17 v18 v19 v20 v21 v22 v23 v24 v25 v26 v27 v28 v29 v30 v31 v32 v33 v34 v35 v36 v37 v38 v39 v40 v41 v42 v43 v44 v46 v47 v48 v49 v51 v52 v53 v56 v59 v62 v65 v68 v71 v74 v77 v79 v80 v81 v84 v85 v86 v87 : Value} (h : EmCtx Q S lv A T DS E) (l : Array Bool) (hl : l = #[true, true, true, true, true, true, true, true, true, true, true, true, true, true, true, true, true, true, true, true, true, true, true, true, true, true, true, true, true, true, true, true, true, true, true, true, true, true, true, false, false, false, true, true, false, false, false, false, false]) (w : World) (hw : S w) (m0 : Nat) :
    wpAnyH Tryd.prog .any emOps Q S 8 l { tmps := #[v0, v1, v2, v3, v4, v5, v6, v7, v8, v9, v10, v11, v12, v13, v14, v15, v16, v17, v18, v19, v20, v21, v22, v23, v24, v25, v26, v27, v28, v29, v30, v31, v32, v33, v34, v35, v36, v37, v38, v39, v40, v41, v42, v43, v44, .bool true, v46, v47, v48, v49, .bool E, v51, v52, v53, .bool false, .int .i64 (lv : Nat), v56, .agg (A 0).toArray, .string (T 0), v59, .agg (A 1).toArray, .string (T 1), v62, .agg (A 2).toArray, .string (T 2), v65, .agg (A 3).toArray, .string (T 3), v68, .agg (A 4).toArray, .string (T 4), v71, .agg (A 5).toArray, .string (T 5), v74, .agg (A 6).toArray, .string (T 6), v77, .agg (A 7).toArray, v79, v80, v81, .slice (some ⟨m0, 0, none⟩) 32 32, .string zero32, v84, v85, v86, v87], defers := [] } w := by
  subst hl
  refine wpAnyH_ready (rs := [39]) (by kernel_rfl) (by simp) ?_
  refine AllReadyH.cons (o := { dst := some 79, op := Op.call { callee := Callee.value (Operand.func 13), args := #[Operand.tmp 78], argTypes := #[24] }, type := 9, pos := "law.go:123", after := #[{ on := 38, ground := Ground.data }, { on := 36, ground := Ground.chain }, { on := 14, ground := Ground.guard }], guard := some (14, false) }) rfl (fun K hK => ?_) ?_
  · go_simp
    refine (h.text 7 w).mono ?_
    rintro e w1 ⟨rfl, hb⟩
    try go_wp2_with fail
    refine hK.out _ _ (h.below _ _ hw hb) (fun hHeld => ?_)
    clear hK K
    try simp only [List.setIfInBounds_toArray, List.set_cons_zero, List.set_cons_succ]
    exact em_8_2 h _ (by kernel_rfl) _ hHeld m0
  exact AllReadyH.nil
set_option maxRecDepth 100000 in
theorem em_7_1 {Q : Exit → Act → World → Prop} {S : World → Prop} {lv : Nat} {A : Nat → List Value} {T : Nat → ByteArray} {DS : ByteArray} {E : Bool} {v0 v1 v2 v3 v4 v5 v6 v7 v8 v9 v10 v11 v12 v13 v14 v15 v16 v17 v18 v19 v20 v21 v22 v23 v24 v25 v26 v27 v28 v29 v30 v31 v32 v33 v34 v35 v36 v37 v38 v39 v40 v41 v42 v43 v44 v46 v47 v48 v49 v51 v52 v53 v56 v59 v62 v65 v68 v71 v74 v77 v79 v80 v81 v83 v84 v85 v86 v87 : Value} (h : EmCtx Q S lv A T DS E) (l : Array Bool) (hl : l = #[true, true, true, true, true, true, true, true, true, true, true, true, true, true, true, true, true, true, true, true, true, true, true, true, true, true, true, true, true, true, true, true, true, true, true, true, true, true, true, false, false, false, true, false, false, false, false, false, false]) (w : World) (hw : S w) (m0 : Nat) (hM : Cells m0 32 (fun _ => .int .u8 ((0 : Nat) : Int)) w) :
    wpAnyH Tryd.prog .any emOps Q S 9 l { tmps := #[v0, v1, v2, v3, v4, v5, v6, v7, v8, v9, v10, v11, v12, v13, v14, v15, v16, v17, v18, v19, v20, v21, v22, v23, v24, v25, v26, v27, v28, v29, v30, v31, v32, v33, v34, v35, v36, v37, v38, v39, v40, v41, v42, v43, v44, .bool true, v46, v47, v48, v49, .bool E, v51, v52, v53, .bool false, .int .i64 (lv : Nat), v56, .agg (A 0).toArray, .string (T 0), v59, .agg (A 1).toArray, .string (T 1), v62, .agg (A 2).toArray, .string (T 2), v65, .agg (A 3).toArray, .string (T 3), v68, .agg (A 4).toArray, .string (T 4), v71, .agg (A 5).toArray, .string (T 5), v74, .agg (A 6).toArray, .string (T 6), v77, .agg (A 7).toArray, v79, v80, v81, .slice (some ⟨m0, 0, none⟩) 32 32, v83, v84, v85, v86, v87], defers := [] } w := by
  subst hl
  refine wpAnyH_ready (rs := [39, 43]) (by kernel_rfl) (by simp) ?_
  refine AllReadyH.cons (o := { dst := some 79, op := Op.call { callee := Callee.value (Operand.func 13), args := #[Operand.tmp 78], argTypes := #[24] }, type := 9, pos := "law.go:123", after := #[{ on := 38, ground := Ground.data }, { on := 36, ground := Ground.chain }, { on := 14, ground := Ground.guard }], guard := some (14, false) }) rfl (fun K hK => ?_) ?_
  · go_simp
    refine (h.text 7 w).mono ?_
    rintro e w1 ⟨rfl, hb⟩
    try go_wp2_with fail
    refine hK.out _ _ (h.below _ _ hw hb) (fun hHeld => ?_)
    clear hK K
    try simp only [List.setIfInBounds_toArray, List.set_cons_zero, List.set_cons_succ]
    exact em_8_1 h _ (by kernel_rfl) _ hHeld m0 (hM.below hb)
  refine AllReadyH.cons (o := { dst := some 83, op := Op.convert 30 9 (Operand.tmp 82), type := 9, pos := "law.go:123", after := #[{ on := 42, ground := Ground.data }, { on := 14, ground := Ground.guard }], guard := some (14, false) }) rfl (fun K hK => ?_) ?_
  · have hz := convZ hM
    go_simp
    refine hK.out _ _ hw (fun hHeld => ?_)
    clear hK K
    try simp only [List.setIfInBounds_toArray, List.set_cons_zero, List.set_cons_succ]
    exact em_7_2 h _ (by kernel_rfl) _ hHeld m0
  exact AllReadyH.nil
set_option maxRecDepth 100000 in
theorem em_7_0 {Q : Exit → Act → World → Prop} {S : World → Prop} {lv : Nat} {A : Nat → List Value} {T : Nat → ByteArray} {DS : ByteArray} {E : Bool} {v0 v1 v2 v3 v4 v5 v6 v7 v8 v9 v10 v11 v12 v13 v14 v15 v16 v17 v18 v19 v20 v21 v22 v23 v24 v25 v26 v27 v28 v29 v30 v31 v32 v33 v34 v35 v36 v37 v38 v39 v40 v41 v42 v43 v44 v46 v47 v48 v49 v51 v52 v53 v56 v59 v62 v65 v68 v71 v74 v77 v79 v80 v81 v82 v83 v84 v85 v86 v87 : Value} (h : EmCtx Q S lv A T DS E) (l : Array Bool) (hl : l = #[true, true, true, true, true, true, true, true, true, true, true, true, true, true, true, true, true, true, true, true, true, true, true, true, true, true, true, true, true, true, true, true, true, true, true, true, true, true, true, false, false, false, false, false, false, false, false, false, false]) (w : World) (hw : S w)  :
    wpAnyH Tryd.prog .any emOps Q S 10 l { tmps := #[v0, v1, v2, v3, v4, v5, v6, v7, v8, v9, v10, v11, v12, v13, v14, v15, v16, v17, v18, v19, v20, v21, v22, v23, v24, v25, v26, v27, v28, v29, v30, v31, v32, v33, v34, v35, v36, v37, v38, v39, v40, v41, v42, v43, v44, .bool true, v46, v47, v48, v49, .bool E, v51, v52, v53, .bool false, .int .i64 (lv : Nat), v56, .agg (A 0).toArray, .string (T 0), v59, .agg (A 1).toArray, .string (T 1), v62, .agg (A 2).toArray, .string (T 2), v65, .agg (A 3).toArray, .string (T 3), v68, .agg (A 4).toArray, .string (T 4), v71, .agg (A 5).toArray, .string (T 5), v74, .agg (A 6).toArray, .string (T 6), v77, .agg (A 7).toArray, v79, v80, v81, v82, v83, v84, v85, v86, v87], defers := [] } w := by
  subst hl
  refine wpAnyH_ready (rs := [39, 42]) (by kernel_rfl) (by simp) ?_
  refine AllReadyH.cons (o := { dst := some 79, op := Op.call { callee := Callee.value (Operand.func 13), args := #[Operand.tmp 78], argTypes := #[24] }, type := 9, pos := "law.go:123", after := #[{ on := 38, ground := Ground.data }, { on := 36, ground := Ground.chain }, { on := 14, ground := Ground.guard }], guard := some (14, false) }) rfl (fun K hK => ?_) ?_
  · go_simp
    refine (h.text 7 w).mono ?_
    rintro e w1 ⟨rfl, hb⟩
    try go_wp2_with fail
    refine hK.out _ _ (h.below _ _ hw hb) (fun hHeld => ?_)
    clear hK K
    try simp only [List.setIfInBounds_toArray, List.set_cons_zero, List.set_cons_succ]
    exact em_8_0 h _ (by kernel_rfl) _ hHeld 
  refine AllReadyH.cons (o := { dst := some 82, op := Op.makeSlice 30 (Operand.const (Value.int IntKind.i64 32)) (Operand.const (Value.int IntKind.i64 32)), type := 30, pos := "law.go:123", after := #[{ on := 14, ground := Ground.guard }], guard := some (14, false) }) rfl (fun K hK => ?_) ?_
  · go_simp
    refine hK.out _ _ (h.alloc _ _ hw) (fun hHeld => ?_)
    clear hK K
    try simp only [List.setIfInBounds_toArray, List.set_cons_zero, List.set_cons_succ]
    exact em_7_1 h _ (by kernel_rfl) _ hHeld _ (by refine zerosC w _ _ ?_; kernel_rfl)
  exact AllReadyH.nil
set_option maxRecDepth 100000 in
theorem em_6_2 {Q : Exit → Act → World → Prop} {S : World → Prop} {lv : Nat} {A : Nat → List Value} {T : Nat → ByteArray} {DS : ByteArray} {E : Bool} {v0 v1 v2 v3 v4 v5 v6 v7 v8 v9 v10 v11 v12 v13 v14 v15 v16 v17 v18 v19 v20 v21 v22 v23 v24 v25 v26 v27 v28 v29 v30 v31 v32 v33 v34 v35 v36 v37 v38 v39 v40 v41 v42 v43 v44 v46 v47 v48 v49 v51 v52 v53 v56 v59 v62 v65 v68 v71 v74 v76 v77 v79 v80 v81 v84 v85 v86 v87 : Value} (h : EmCtx Q S lv A T DS E) (l : Array Bool) (hl : l = #[true, true, true, true, true, true, true, true, true, true, true, true, true, true, true, true, true, true, true, true, true, true, true, true, true, true, true, true, true, true, true, true, true, true, true, true, false, true, true, false, false, false, true, true, false, false, false, false, false]) (w : World) (hw : S w) (m0 : Nat) :
    wpAnyH Tryd.prog .any emOps Q S 9 l { tmps := #[v0, v1, v2, v3, v4, v5, v6, v7, v8, v9, v10, v11, v12, v13, v14, v15, v16, v17, v18, v19, v20, v21, v22, v23, v24, v25, v26, v27, v28, v29, v30, v31, v32, v33, v34, v35, v36, v37, v38, v39, v40, v41, v42, v43, v44, .bool true, v46, v47, v48, v49, .bool E, v51, v52, v53, .bool false, .int .i64 (lv : Nat), v56, .agg (A 0).toArray, .string (T 0), v59, .agg (A 1).toArray, .string (T 1), v62, .agg (A 2).toArray, .string (T 2), v65, .agg (A 3).toArray, .string (T 3), v68, .agg (A 4).toArray, .string (T 4), v71, .agg (A 5).toArray, .string (T 5), v74, .agg (A 6).toArray, v76, v77, .agg (A 7).toArray, v79, v80, v81, .slice (some ⟨m0, 0, none⟩) 32 32, .string zero32, v84, v85, v86, v87], defers := [] } w := by
  subst hl
  refine wpAnyH_ready (rs := [36]) (by kernel_rfl) (by simp) ?_
  refine AllReadyH.cons (o := { dst := some 76, op := Op.call { callee := Callee.value (Operand.func 13), args := #[Operand.tmp 75], argTypes := #[24] }, type := 9, pos := "law.go:123", after := #[{ on := 35, ground := Ground.data }, { on := 33, ground := Ground.chain }, { on := 14, ground := Ground.guard }], guard := some (14, false) }) rfl (fun K hK => ?_) ?_
  · go_simp
    refine (h.text 6 w).mono ?_
    rintro e w1 ⟨rfl, hb⟩
    try go_wp2_with fail
    refine hK.out _ _ (h.below _ _ hw hb) (fun hHeld => ?_)
    clear hK K
    try simp only [List.setIfInBounds_toArray, List.set_cons_zero, List.set_cons_succ]
    exact em_7_2 h _ (by kernel_rfl) _ hHeld m0
  exact AllReadyH.nil
set_option maxRecDepth 100000 in
theorem em_6_1 {Q : Exit → Act → World → Prop} {S : World → Prop} {lv : Nat} {A : Nat → List Value} {T : Nat → ByteArray} {DS : ByteArray} {E : Bool} {v0 v1 v2 v3 v4 v5 v6 v7 v8 v9 v10 v11 v12 v13 v14 v15 v16 v17 v18 v19 v20 v21 v22 v23 v24 v25 v26 v27 v28 v29 v30 v31 v32 v33 v34 v35 v36 v37 v38 v39 v40 v41 v42 v43 v44 v46 v47 v48 v49 v51 v52 v53 v56 v59 v62 v65 v68 v71 v74 v76 v77 v79 v80 v81 v83 v84 v85 v86 v87 : Value} (h : EmCtx Q S lv A T DS E) (l : Array Bool) (hl : l = #[true, true, true, true, true, true, true, true, true, true, true, true, true, true, true, true, true, true, true, true, true, true, true, true, true, true, true, true, true, true, true, true, true, true, true, true, false, true, true, false, false, false, true, false, false, false, false, false, false]) (w : World) (hw : S w) (m0 : Nat) (hM : Cells m0 32 (fun _ => .int .u8 ((0 : Nat) : Int)) w) :
    wpAnyH Tryd.prog .any emOps Q S 10 l { tmps := #[v0, v1, v2, v3, v4, v5, v6, v7, v8, v9, v10, v11, v12, v13, v14, v15, v16, v17, v18, v19, v20, v21, v22, v23, v24, v25, v26, v27, v28, v29, v30, v31, v32, v33, v34, v35, v36, v37, v38, v39, v40, v41, v42, v43, v44, .bool true, v46, v47, v48, v49, .bool E, v51, v52, v53, .bool false, .int .i64 (lv : Nat), v56, .agg (A 0).toArray, .string (T 0), v59, .agg (A 1).toArray, .string (T 1), v62, .agg (A 2).toArray, .string (T 2), v65, .agg (A 3).toArray, .string (T 3), v68, .agg (A 4).toArray, .string (T 4), v71, .agg (A 5).toArray, .string (T 5), v74, .agg (A 6).toArray, v76, v77, .agg (A 7).toArray, v79, v80, v81, .slice (some ⟨m0, 0, none⟩) 32 32, v83, v84, v85, v86, v87], defers := [] } w := by
  subst hl
  refine wpAnyH_ready (rs := [36, 43]) (by kernel_rfl) (by simp) ?_
  refine AllReadyH.cons (o := { dst := some 76, op := Op.call { callee := Callee.value (Operand.func 13), args := #[Operand.tmp 75], argTypes := #[24] }, type := 9, pos := "law.go:123", after := #[{ on := 35, ground := Ground.data }, { on := 33, ground := Ground.chain }, { on := 14, ground := Ground.guard }], guard := some (14, false) }) rfl (fun K hK => ?_) ?_
  · go_simp
    refine (h.text 6 w).mono ?_
    rintro e w1 ⟨rfl, hb⟩
    try go_wp2_with fail
    refine hK.out _ _ (h.below _ _ hw hb) (fun hHeld => ?_)
    clear hK K
    try simp only [List.setIfInBounds_toArray, List.set_cons_zero, List.set_cons_succ]
    exact em_7_1 h _ (by kernel_rfl) _ hHeld m0 (hM.below hb)
  refine AllReadyH.cons (o := { dst := some 83, op := Op.convert 30 9 (Operand.tmp 82), type := 9, pos := "law.go:123", after := #[{ on := 42, ground := Ground.data }, { on := 14, ground := Ground.guard }], guard := some (14, false) }) rfl (fun K hK => ?_) ?_
  · have hz := convZ hM
    go_simp
    refine hK.out _ _ hw (fun hHeld => ?_)
    clear hK K
    try simp only [List.setIfInBounds_toArray, List.set_cons_zero, List.set_cons_succ]
    exact em_6_2 h _ (by kernel_rfl) _ hHeld m0
  exact AllReadyH.nil
set_option maxRecDepth 100000 in
theorem em_6_0 {Q : Exit → Act → World → Prop} {S : World → Prop} {lv : Nat} {A : Nat → List Value} {T : Nat → ByteArray} {DS : ByteArray} {E : Bool} {v0 v1 v2 v3 v4 v5 v6 v7 v8 v9 v10 v11 v12 v13 v14 v15 v16 v17 v18 v19 v20 v21 v22 v23 v24 v25 v26 v27 v28 v29 v30 v31 v32 v33 v34 v35 v36 v37 v38 v39 v40 v41 v42 v43 v44 v46 v47 v48 v49 v51 v52 v53 v56 v59 v62 v65 v68 v71 v74 v76 v77 v79 v80 v81 v82 v83 v84 v85 v86 v87 : Value} (h : EmCtx Q S lv A T DS E) (l : Array Bool) (hl : l = #[true, true, true, true, true, true, true, true, true, true, true, true, true, true, true, true, true, true, true, true, true, true, true, true, true, true, true, true, true, true, true, true, true, true, true, true, false, true, true, false, false, false, false, false, false, false, false, false, false]) (w : World) (hw : S w)  :
    wpAnyH Tryd.prog .any emOps Q S 11 l { tmps := #[v0, v1, v2, v3, v4, v5, v6, v7, v8, v9, v10, v11, v12, v13, v14, v15, v16, v17, v18, v19, v20, v21, v22, v23, v24, v25, v26, v27, v28, v29, v30, v31, v32, v33, v34, v35, v36, v37, v38, v39, v40, v41, v42, v43, v44, .bool true, v46, v47, v48, v49, .bool E, v51, v52, v53, .bool false, .int .i64 (lv : Nat), v56, .agg (A 0).toArray, .string (T 0), v59, .agg (A 1).toArray, .string (T 1), v62, .agg (A 2).toArray, .string (T 2), v65, .agg (A 3).toArray, .string (T 3), v68, .agg (A 4).toArray, .string (T 4), v71, .agg (A 5).toArray, .string (T 5), v74, .agg (A 6).toArray, v76, v77, .agg (A 7).toArray, v79, v80, v81, v82, v83, v84, v85, v86, v87], defers := [] } w := by
  subst hl
  refine wpAnyH_ready (rs := [36, 42]) (by kernel_rfl) (by simp) ?_
  refine AllReadyH.cons (o := { dst := some 76, op := Op.call { callee := Callee.value (Operand.func 13), args := #[Operand.tmp 75], argTypes := #[24] }, type := 9, pos := "law.go:123", after := #[{ on := 35, ground := Ground.data }, { on := 33, ground := Ground.chain }, { on := 14, ground := Ground.guard }], guard := some (14, false) }) rfl (fun K hK => ?_) ?_
  · go_simp
    refine (h.text 6 w).mono ?_
    rintro e w1 ⟨rfl, hb⟩
    try go_wp2_with fail
    refine hK.out _ _ (h.below _ _ hw hb) (fun hHeld => ?_)
    clear hK K
    try simp only [List.setIfInBounds_toArray, List.set_cons_zero, List.set_cons_succ]
    exact em_7_0 h _ (by kernel_rfl) _ hHeld 
  refine AllReadyH.cons (o := { dst := some 82, op := Op.makeSlice 30 (Operand.const (Value.int IntKind.i64 32)) (Operand.const (Value.int IntKind.i64 32)), type := 30, pos := "law.go:123", after := #[{ on := 14, ground := Ground.guard }], guard := some (14, false) }) rfl (fun K hK => ?_) ?_
  · go_simp
    refine hK.out _ _ (h.alloc _ _ hw) (fun hHeld => ?_)
    clear hK K
    try simp only [List.setIfInBounds_toArray, List.set_cons_zero, List.set_cons_succ]
    exact em_6_1 h _ (by kernel_rfl) _ hHeld _ (by refine zerosC w _ _ ?_; kernel_rfl)
  exact AllReadyH.nil
set_option maxRecDepth 100000 in
theorem em_5_2 {Q : Exit → Act → World → Prop} {S : World → Prop} {lv : Nat} {A : Nat → List Value} {T : Nat → ByteArray} {DS : ByteArray} {E : Bool} {v0 v1 v2 v3 v4 v5 v6 v7 v8 v9 v10 v11 v12 v13 v14 v15 v16 v17 v18 v19 v20 v21 v22 v23 v24 v25 v26 v27 v28 v29 v30 v31 v32 v33 v34 v35 v36 v37 v38 v39 v40 v41 v42 v43 v44 v46 v47 v48 v49 v51 v52 v53 v56 v59 v62 v65 v68 v71 v73 v74 v76 v77 v79 v80 v81 v84 v85 v86 v87 : Value} (h : EmCtx Q S lv A T DS E) (l : Array Bool) (hl : l = #[true, true, true, true, true, true, true, true, true, true, true, true, true, true, true, true, true, true, true, true, true, true, true, true, true, true, true, true, true, true, true, true, true, false, true, true, false, true, true, false, false, false, true, true, false, false, false, false, false]) (w : World) (hw : S w) (m0 : Nat) :
    wpAnyH Tryd.prog .any emOps Q S 10 l { tmps := #[v0, v1, v2, v3, v4, v5, v6, v7, v8, v9, v10, v11, v12, v13, v14, v15, v16, v17, v18, v19, v20, v21, v22, v23, v24, v25, v26, v27, v28, v29, v30, v31, v32, v33, v34, v35, v36, v37, v38, v39, v40, v41, v42, v43, v44, .bool true, v46, v47, v48, v49, .bool E, v51, v52, v53, .bool false, .int .i64 (lv : Nat), v56, .agg (A 0).toArray, .string (T 0), v59, .agg (A 1).toArray, .string (T 1), v62, .agg (A 2).toArray, .string (T 2), v65, .agg (A 3).toArray, .string (T 3), v68, .agg (A 4).toArray, .string (T 4), v71, .agg (A 5).toArray, v73, v74, .agg (A 6).toArray, v76, v77, .agg (A 7).toArray, v79, v80, v81, .slice (some ⟨m0, 0, none⟩) 32 32, .string zero32, v84, v85, v86, v87], defers := [] } w := by
  subst hl
  refine wpAnyH_ready (rs := [33]) (by kernel_rfl) (by simp) ?_
  refine AllReadyH.cons (o := { dst := some 73, op := Op.call { callee := Callee.value (Operand.func 13), args := #[Operand.tmp 72], argTypes := #[24] }, type := 9, pos := "law.go:123", after := #[{ on := 32, ground := Ground.data }, { on := 30, ground := Ground.chain }, { on := 14, ground := Ground.guard }], guard := some (14, false) }) rfl (fun K hK => ?_) ?_
  · go_simp
    refine (h.text 5 w).mono ?_
    rintro e w1 ⟨rfl, hb⟩
    try go_wp2_with fail
    refine hK.out _ _ (h.below _ _ hw hb) (fun hHeld => ?_)
    clear hK K
    try simp only [List.setIfInBounds_toArray, List.set_cons_zero, List.set_cons_succ]
    exact em_6_2 h _ (by kernel_rfl) _ hHeld m0
  exact AllReadyH.nil
set_option maxRecDepth 100000 in
theorem em_5_1 {Q : Exit → Act → World → Prop} {S : World → Prop} {lv : Nat} {A : Nat → List Value} {T : Nat → ByteArray} {DS : ByteArray} {E : Bool} {v0 v1 v2 v3 v4 v5 v6 v7 v8 v9 v10 v11 v12 v13 v14 v15 v16 v17 v18 v19 v20 v21 v22 v23 v24 v25 v26 v27 v28 v29 v30 v31 v32 v33 v34 v35 v36 v37 v38 v39 v40 v41 v42 v43 v44 v46 v47 v48 v49 v51 v52 v53 v56 v59 v62 v65 v68 v71 v73 v74 v76 v77 v79 v80 v81 v83 v84 v85 v86 v87 : Value} (h : EmCtx Q S lv A T DS E) (l : Array Bool) (hl : l = #[true, true, true, true, true, true, true, true, true, true, true, true, true, true, true, true, true, true, true, true, true, true, true, true, true, true, true, true, true, true, true, true, true, false, true, true, false, true, true, false, false, false, true, false, false, false, false, false, false]) (w : World) (hw : S w) (m0 : Nat) (hM : Cells m0 32 (fun _ => .int .u8 ((0 : Nat) : Int)) w) :
    wpAnyH Tryd.prog .any emOps Q S 11 l { tmps := #[v0, v1, v2, v3, v4, v5, v6, v7, v8, v9, v10, v11, v12, v13, v14, v15, v16, v17, v18, v19, v20, v21, v22, v23, v24, v25, v26, v27, v28, v29, v30, v31, v32, v33, v34, v35, v36, v37, v38, v39, v40, v41, v42, v43, v44, .bool true, v46, v47, v48, v49, .bool E, v51, v52, v53, .bool false, .int .i64 (lv : Nat), v56, .agg (A 0).toArray, .string (T 0), v59, .agg (A 1).toArray, .string (T 1), v62, .agg (A 2).toArray, .string (T 2), v65, .agg (A 3).toArray, .string (T 3), v68, .agg (A 4).toArray, .string (T 4), v71, .agg (A 5).toArray, v73, v74, .agg (A 6).toArray, v76, v77, .agg (A 7).toArray, v79, v80, v81, .slice (some ⟨m0, 0, none⟩) 32 32, v83, v84, v85, v86, v87], defers := [] } w := by
  subst hl
  refine wpAnyH_ready (rs := [33, 43]) (by kernel_rfl) (by simp) ?_
  refine AllReadyH.cons (o := { dst := some 73, op := Op.call { callee := Callee.value (Operand.func 13), args := #[Operand.tmp 72], argTypes := #[24] }, type := 9, pos := "law.go:123", after := #[{ on := 32, ground := Ground.data }, { on := 30, ground := Ground.chain }, { on := 14, ground := Ground.guard }], guard := some (14, false) }) rfl (fun K hK => ?_) ?_
  · go_simp
    refine (h.text 5 w).mono ?_
    rintro e w1 ⟨rfl, hb⟩
    try go_wp2_with fail
    refine hK.out _ _ (h.below _ _ hw hb) (fun hHeld => ?_)
    clear hK K
    try simp only [List.setIfInBounds_toArray, List.set_cons_zero, List.set_cons_succ]
    exact em_6_1 h _ (by kernel_rfl) _ hHeld m0 (hM.below hb)
  refine AllReadyH.cons (o := { dst := some 83, op := Op.convert 30 9 (Operand.tmp 82), type := 9, pos := "law.go:123", after := #[{ on := 42, ground := Ground.data }, { on := 14, ground := Ground.guard }], guard := some (14, false) }) rfl (fun K hK => ?_) ?_
  · have hz := convZ hM
    go_simp
    refine hK.out _ _ hw (fun hHeld => ?_)
    clear hK K
    try simp only [List.setIfInBounds_toArray, List.set_cons_zero, List.set_cons_succ]
    exact em_5_2 h _ (by kernel_rfl) _ hHeld m0
  exact AllReadyH.nil
set_option maxRecDepth 100000 in
theorem em_5_0 {Q : Exit → Act → World → Prop} {S : World → Prop} {lv : Nat} {A : Nat → List Value} {T : Nat → ByteArray} {DS : ByteArray} {E : Bool} {v0 v1 v2 v3 v4 v5 v6 v7 v8 v9 v10 v11 v12 v13 v14 v15 v16 v17 v18 v19 v20 v21 v22 v23 v24 v25 v26 v27 v28 v29 v30 v31 v32 v33 v34 v35 v36 v37 v38 v39 v40 v41 v42 v43 v44 v46 v47 v48 v49 v51 v52 v53 v56 v59 v62 v65 v68 v71 v73 v74 v76 v77 v79 v80 v81 v82 v83 v84 v85 v86 v87 : Value} (h : EmCtx Q S lv A T DS E) (l : Array Bool) (hl : l = #[true, true, true, true, true, true, true, true, true, true, true, true, true, true, true, true, true, true, true, true, true, true, true, true, true, true, true, true, true, true, true, true, true, false, true, true, false, true, true, false, false, false, false, false, false, false, false, false, false]) (w : World) (hw : S w)  :
    wpAnyH Tryd.prog .any emOps Q S 12 l { tmps := #[v0, v1, v2, v3, v4, v5, v6, v7, v8, v9, v10, v11, v12, v13, v14, v15, v16, v17, v18, v19, v20, v21, v22, v23, v24, v25, v26, v27, v28, v29, v30, v31, v32, v33, v34, v35, v36, v37, v38, v39, v40, v41, v42, v43, v44, .bool true, v46, v47, v48, v49, .bool E, v51, v52, v53, .bool false, .int .i64 (lv : Nat), v56, .agg (A 0).toArray, .string (T 0), v59, .agg (A 1).toArray, .string (T 1), v62, .agg (A 2).toArray, .string (T 2), v65, .agg (A 3).toArray, .string (T 3), v68, .agg (A 4).toArray, .string (T 4), v71, .agg (A 5).toArray, v73, v74, .agg (A 6).toArray, v76, v77, .agg (A 7).toArray, v79, v80, v81, v82, v83, v84, v85, v86, v87], defers := [] } w := by
  subst hl
  refine wpAnyH_ready (rs := [33, 42]) (by kernel_rfl) (by simp) ?_
  refine AllReadyH.cons (o := { dst := some 73, op := Op.call { callee := Callee.value (Operand.func 13), args := #[Operand.tmp 72], argTypes := #[24] }, type := 9, pos := "law.go:123", after := #[{ on := 32, ground := Ground.data }, { on := 30, ground := Ground.chain }, { on := 14, ground := Ground.guard }], guard := some (14, false) }) rfl (fun K hK => ?_) ?_
  · go_simp
    refine (h.text 5 w).mono ?_
    rintro e w1 ⟨rfl, hb⟩
    try go_wp2_with fail
    refine hK.out _ _ (h.below _ _ hw hb) (fun hHeld => ?_)
    clear hK K
    try simp only [List.setIfInBounds_toArray, List.set_cons_zero, List.set_cons_succ]
    exact em_6_0 h _ (by kernel_rfl) _ hHeld 
  refine AllReadyH.cons (o := { dst := some 82, op := Op.makeSlice 30 (Operand.const (Value.int IntKind.i64 32)) (Operand.const (Value.int IntKind.i64 32)), type := 30, pos := "law.go:123", after := #[{ on := 14, ground := Ground.guard }], guard := some (14, false) }) rfl (fun K hK => ?_) ?_
  · go_simp
    refine hK.out _ _ (h.alloc _ _ hw) (fun hHeld => ?_)
    clear hK K
    try simp only [List.setIfInBounds_toArray, List.set_cons_zero, List.set_cons_succ]
    exact em_5_1 h _ (by kernel_rfl) _ hHeld _ (by refine zerosC w _ _ ?_; kernel_rfl)
  exact AllReadyH.nil
set_option maxRecDepth 100000 in
theorem em_4_2 {Q : Exit → Act → World → Prop} {S : World → Prop} {lv : Nat} {A : Nat → List Value} {T : Nat → ByteArray} {DS : ByteArray} {E : Bool} {v0 v1 v2 v3 v4 v5 v6 v7 v8 v9 v10 v11 v12 v13 v14 v15 v16 v17 v18 v19 v20 v21 v22 v23 v24 v25 v26 v27 v28 v29 v30 v31 v32 v33 v34 v35 v36 v37 v38 v39 v40 v41 v42 v43 v44 v46 v47 v48 v49 v51 v52 v53 v56 v59 v62 v65 v68 v70 v71 v73 v74 v76 v77 v79 v80 v81 v84 v85 v86 v87 : Value} (h : EmCtx Q S lv A T DS E) (l : Array Bool) (hl : l = #[true, true, true, true, true, true, true, true, true, true, true, true, true, true, true, true, true, true, true, true, true, true, true, true, true, true, true, true, true, true, false, true, true, false, true, true, false, true, true, false, false, false, true, true, false, false, false, false, false]) (w : World) (hw : S w) (m0 : Nat) :
    wpAnyH Tryd.prog .any emOps Q S 11 l { tmps := #[v0, v1, v2, v3, v4, v5, v6, v7, v8, v9, v10, v11, v12, v13, v14, v15, v16, v17, v18, v19, v20, v21, v22, v23, v24, v25, v26, v27, v28, v29, v30, v31, v32, v33, v34, v35, v36, v37, v38, v39, v40, v41, v42, v43, v44, .bool true, v46, v47, v48, v49, .bool E, v51, v52, v53, .bool false, .int .i64 (lv : Nat), v56, .agg (A 0).toArray, .string (T 0), v59, .agg (A 1).toArray, .string (T 1), v62, .agg (A 2).toArray, .string (T 2), v65, .agg (A 3).toArray, .string (T 3), v68, .agg (A 4).toArray, v70, v71, .agg (A 5).toArray, v73, v74, .agg (A 6).toArray, v76, v77, .agg (A 7).toArray, v79, v80, v81, .slice (some ⟨m0, 0, none⟩) 32 32, .string zero32, v84, v85, v86, v87], defers := [] } w := by
  subst hl
  refine wpAnyH_ready (rs := [30]) (by kernel_rfl) (by simp) ?_
  refine AllReadyH.cons (o := { dst := some 70, op := Op.call { callee := Callee.value (Operand.func 13), args := #[Operand.tmp 69], argTypes := #[24] }, type := 9, pos := "law.go:123", after := #[{ on := 29, ground := Ground.data }, { on := 27, ground := Ground.chain }, { on := 14, ground := Ground.guard }], guard := some (14, false) }) rfl (fun K hK => ?_) ?_
  · go_simp
    refine (h.text 4 w).mono ?_
    rintro e w1 ⟨rfl, hb⟩
    try go_wp2_with fail
    refine hK.out _ _ (h.below _ _ hw hb) (fun hHeld => ?_)
    clear hK K
    try simp only [List.setIfInBounds_toArray, List.set_cons_zero, List.set_cons_succ]
    exact em_5_2 h _ (by kernel_rfl) _ hHeld m0
  exact AllReadyH.nil
set_option maxRecDepth 100000 in
theorem em_4_1 {Q : Exit → Act → World → Prop} {S : World → Prop} {lv : Nat} {A : Nat → List Value} {T : Nat → ByteArray} {DS : ByteArray} {E : Bool} {v0 v1 v2 v3 v4 v5 v6 v7 v8 v9 v10 v11 v12 v13 v14 v15 v16 v17 v18 v19 v20 v21 v22 v23 v24 v25 v26 v27 v28 v29 v30 v31 v32 v33 v34 v35 v36 v37 v38 v39 v40 v41 v42 v43 v44 v46 v47 v48 v49 v51 v52 v53 v56 v59 v62 v65 v68 v70 v71 v73 v74 v76 v77 v79 v80 v81 v83 v84 v85 v86 v87 : Value} (h : EmCtx Q S lv A T DS E) (l : Array Bool) (hl : l = #[true, true, true, true, true, true, true, true, true, true, true, true, true, true, true, true, true, true, true, true, true, true, true, true, true, true, true, true, true, true, false, true, true, false, true, true, false, true, true, false, false, false, true, false, false, false, false, false, false]) (w : World) (hw : S w) (m0 : Nat) (hM : Cells m0 32 (fun _ => .int .u8 ((0 : Nat) : Int)) w) :
    wpAnyH Tryd.prog .any emOps Q S 12 l { tmps := #[v0, v1, v2, v3, v4, v5, v6, v7, v8, v9, v10, v11, v12, v13, v14, v15, v16, v17, v18, v19, v20, v21, v22, v23, v24, v25, v26, v27, v28, v29, v30, v31, v32, v33, v34, v35, v36, v37, v38, v39, v40, v41, v42, v43, v44, .bool true, v46, v47, v48, v49, .bool E, v51, v52, v53, .bool false, .int .i64 (lv : Nat), v56, .agg (A 0).toArray, .string (T 0), v59, .agg (A 1).toArray, .string (T 1), v62, .agg (A 2).toArray, .string (T 2), v65, .agg (A 3).toArray, .string (T 3), v68, .agg (A 4).toArray, v70, v71, .agg (A 5).toArray, v73, v74, .agg (A 6).toArray, v76, v77, .agg (A 7).toArray, v79, v80, v81, .slice (some ⟨m0, 0, none⟩) 32 32, v83, v84, v85, v86, v87], defers := [] } w := by
  subst hl
  refine wpAnyH_ready (rs := [30, 43]) (by kernel_rfl) (by simp) ?_
  refine AllReadyH.cons (o := { dst := some 70, op := Op.call { callee := Callee.value (Operand.func 13), args := #[Operand.tmp 69], argTypes := #[24] }, type := 9, pos := "law.go:123", after := #[{ on := 29, ground := Ground.data }, { on := 27, ground := Ground.chain }, { on := 14, ground := Ground.guard }], guard := some (14, false) }) rfl (fun K hK => ?_) ?_
  · go_simp
    refine (h.text 4 w).mono ?_
    rintro e w1 ⟨rfl, hb⟩
    try go_wp2_with fail
    refine hK.out _ _ (h.below _ _ hw hb) (fun hHeld => ?_)
    clear hK K
    try simp only [List.setIfInBounds_toArray, List.set_cons_zero, List.set_cons_succ]
    exact em_5_1 h _ (by kernel_rfl) _ hHeld m0 (hM.below hb)
  refine AllReadyH.cons (o := { dst := some 83, op := Op.convert 30 9 (Operand.tmp 82), type := 9, pos := "law.go:123", after := #[{ on := 42, ground := Ground.data }, { on := 14, ground := Ground.guard }], guard := some (14, false) }) rfl (fun K hK => ?_) ?_
  · have hz := convZ hM
    go_simp
    refine hK.out _ _ hw (fun hHeld => ?_)
    clear hK K
    try simp only [List.setIfInBounds_toArray, List.set_cons_zero, List.set_cons_succ]
    exact em_4_2 h _ (by kernel_rfl) _ hHeld m0
  exact AllReadyH.nil
set_option maxRecDepth 100000 in
theorem em_4_0 {Q : Exit → Act → World → Prop} {S : World → Prop} {lv : Nat} {A : Nat → List Value} {T : Nat → ByteArray} {DS : ByteArray} {E : Bool} {v0 v1 v2 v3 v4 v5 v6 v7 v8 v9 v10 v11 v12 v13 v14 v15 v16 v17 v18 v19 v20 v21 v22 v23 v24 v25 v26 v27 v28 v29 v30 v31 v32 v33 v34 v35 v36 v37 v38 v39 v40 v41 v42 v43 v44 v46 v47 v48 v49 v51 v52 v53 v56 v59 v62 v65 v68 v70 v71 v73 v74 v76 v77 v79 v80 v81 v82 v83 v84 v85 v86 v87 : Value} (h : EmCtx Q S lv A T DS E) (l : Array Bool) (hl : l = #[true, true, true, true, true, true, true, true, true, true, true, true, true, true, true, true, true, true, true, true, true, true, true, true, true, true, true, true, true, true, false, true, true, false, true, true, false, true, true, false, false, false, false, false, false, false, false, false, false]) (w : World) (hw : S w)  :
    wpAnyH Tryd.prog .any emOps Q S 13 l { tmps := #[v0, v1, v2, v3, v4, v5, v6, v7, v8, v9, v10, v11, v12, v13, v14, v15, v16, v17, v18, v19, v20, v21, v22, v23, v24, v25, v26, v27, v28, v29, v30, v31, v32, v33, v34, v35, v36, v37, v38, v39, v40, v41, v42, v43, v44, .bool true, v46, v47, v48, v49, .bool E, v51, v52, v53, .bool false, .int .i64 (lv : Nat), v56, .agg (A 0).toArray, .string (T 0), v59, .agg (A 1).toArray, .string (T 1), v62, .agg (A 2).toArray, .string (T 2), v65, .agg (A 3).toArray, .string (T 3), v68, .agg (A 4).toArray, v70, v71, .agg (A 5).toArray, v73, v74, .agg (A 6).toArray, v76, v77, .agg (A 7).toArray, v79, v80, v81, v82, v83, v84, v85, v86, v87], defers := [] } w := by
  subst hl
  refine wpAnyH_ready (rs := [30, 42]) (by kernel_rfl) (by simp) ?_
  refine AllReadyH.cons (o := { dst := some 70, op := Op.call { callee := Callee.value (Operand.func 13), args := #[Operand.tmp 69], argTypes := #[24] }, type := 9, pos := "law.go:123", after := #[{ on := 29, ground := Ground.data }, { on := 27, ground := Ground.chain }, { on := 14, ground := Ground.guard }], guard := some (14, false) }) rfl (fun K hK => ?_) ?_
  · go_simp
    refine (h.text 4 w).mono ?_
    rintro e w1 ⟨rfl, hb⟩
    try go_wp2_with fail
    refine hK.out _ _ (h.below _ _ hw hb) (fun hHeld => ?_)
    clear hK K
    try simp only [List.setIfInBounds_toArray, List.set_cons_zero, List.set_cons_succ]
    exact em_5_0 h _ (by kernel_rfl) _ hHeld 
  refine AllReadyH.cons (o := { dst := some 82, op := Op.makeSlice 30 (Operand.const (Value.int IntKind.i64 32)) (Operand.const (Value.int IntKind.i64 32)), type := 30, pos := "law.go:123", after := #[{ on := 14, ground := Ground.guard }], guard := some (14, false) }) rfl (fun K hK => ?_) ?_
  · go_simp
    refine hK.out _ _ (h.alloc _ _ hw) (fun hHeld => ?_)
    clear hK K
    try simp only [List.setIfInBounds_toArray, List.set_cons_zero, List.set_cons_succ]
    exact em_4_1 h _ (by kernel_rfl) _ hHeld _ (by refine zerosC w _ _ ?_; kernel_rfl)
  exact AllReadyH.nil
set_option maxRecDepth 100000 in
theorem em_3_2 {Q : Exit → Act → World → Prop} {S : World → Prop} {lv : Nat} {A : Nat → List Value} {T : Nat → ByteArray} {DS : ByteArray} {E : Bool} {v0 v1 v2 v3 v4 v5 v6 v7 v8 v9 v10 v11 v12 v13 v14 v15 v16 v17 v18 v19 v20 v21 v22 v23 v24 v25 v26 v27 v28 v29 v30 v31 v32 v33 v34 v35 v36 v37 v38 v39 v40 v41 v42 v43 v44 v46 v47 v48 v49 v51 v52 v53 v56 v59 v62 v65 v67 v68 v70 v71 v73 v74 v76 v77 v79 v80 v81 v84 v85 v86 v87 : Value} (h : EmCtx Q S lv A T DS E) (l : Array Bool) (hl : l = #[true, true, true, true, true, true, true, true, true, true, true, true, true, true, true, true, true, true, true, true, true, true, true, true, true, true, true, false, true, true, false, true, true, false, true, true, false, true, true, false, false, false, true, true, false, false, false, false, false]) (w : World) (hw : S w) (m0 : Nat) :
    wpAnyH Tryd.prog .any emOps Q S 12 l { tmps := #[v0, v1, v2, v3, v4, v5, v6, v7, v8, v9, v10, v11, v12, v13, v14, v15, v16, v17, v18, v19, v20, v21, v22, v23, v24, v25, v26, v27, v28, v29, v30, v31, v32, v33, v34, v35, v36, v37, v38, v39, v40, v41, v42, v43, v44, .bool true, v46, v47, v48, v49, .bool E, v51, v52, v53, .bool false, .int .i64 (lv : Nat), v56, .agg (A 0).toArray, .string (T 0), v59, .agg (A 1).toArray, .string (T 1), v62, .agg (A 2).toArray, .string (T 2), v65, .agg (A 3).toArray, v67, v68, .agg (A 4).toArray, v70, v71, .agg (A 5).toArray, v73, v74, .agg (A 6).toArray, v76, v77, .agg (A 7).toArray, v79, v80, v81, .slice (some ⟨m0, 0, none⟩) 32 32, .string zero32, v84, v85, v86, v87], defers := [] } w := by
  subst hl
  refine wpAnyH_ready (rs := [27]) (by kernel_rfl) (by simp) ?_
  refine AllReadyH.cons (o := { dst := some 67, op := Op.call { callee := Callee.value (Operand.func 13), args := #[Operand.tmp 66], argTypes := #[24] }, type := 9, pos := "law.go:123", after := #[{ on := 26, ground := Ground.data }, { on := 24, ground := Ground.chain }, { on := 14, ground := Ground.guard }], guard := some (14, false) }) rfl (fun K hK => ?_) ?_
  · go_simp
    refine (h.text 3 w).mono ?_
    rintro e w1 ⟨rfl, hb⟩
    try go_wp2_with fail
    refine hK.out _ _ (h.below _ _ hw hb) (fun hHeld => ?_)
    clear hK K
    try simp only [List.setIfInBounds_toArray, List.set_cons_zero, List.set_cons_succ]
    exact em_4_2 h _ (by kernel_rfl) _ hHeld m0
  exact AllReadyH.nil
set_option maxRecDepth 100000 in
theorem em_3_1 {Q : Exit → Act → World → Prop} {S : World → Prop} {lv : Nat} {A : Nat → List Value} {T : Nat → ByteArray} {DS : ByteArray} {E : Bool} {v0 v1 v2 v3 v4 v5 v6 v7 v8 v9 v10 v11 v12 v13 v14 v15 v16 v17 v18 v19 v20 v21 v22 v23 v24 v25 v26 v27 v28 v29 v30 v31 v32 v33 v34 v35 v36 v37 v38 v39 v40 v41 v42 v43 v44 v46 v47 v48 v49 v51 v52 v53 v56 v59 v62 v65 v67 v68 v70 v71 v73 v74 v76 v77 v79 v80 v81 v83 v84 v85 v86 v87 : Value} (h : EmCtx Q S lv A T DS E) (l : Array Bool) (hl : l = #[true, true, true, true, true, true, true, true, true, true, true, true, true, true, true, true, true, true, true, true, true, true, true, true, true, true, true, false, true, true, false, true, true, false, true, true, false, true, true, false, false, false, true, false, false, false, false, false, false]) (w : World) (hw : S w) (m0 : Nat) (hM : Cells m0 32 (fun _ => .int .u8 ((0 : Nat) : Int)) w) :
    wpAnyH Tryd.prog .any emOps Q S 13 l { tmps := #[v0, v1, v2, v3, v4, v5, v6, v7, v8, v9, v10, v11, v12, v13, v14, v15, v16, v17, v18, v19, v20, v21, v22, v23, v24, v25, v26, v27, v28, v29, v30, v31, v32, v33, v34, v35, v36, v37, v38, v39, v40, v41, v42, v43, v44, .bool true, v46, v47, v48, v49, .bool E, v51, v52, v53, .bool false, .int .i64 (lv : Nat), v56, .agg (A 0).toArray, .string (T 0), v59, .agg (A 1).toArray, .string (T 1), v62, .agg (A 2).toArray, .string (T 2), v65, .agg (A 3).toArray, v67, v68, .agg (A 4).toArray, v70, v71, .agg (A 5).toArray, v73, v74, .agg (A 6).toArray, v76, v77, .agg (A 7).toArray, v79, v80, v81, .slice (some ⟨m0, 0, none⟩) 32 32, v83, v84, v85, v86, v87], defers := [] } w := by
  subst hl
  refine wpAnyH_ready (rs := [27, 43]) (by kernel_rfl) (by simp) ?_
  refine AllReadyH.cons (o := { dst := some 67, op := Op.call { callee := Callee.value (Operand.func 13), args := #[Operand.tmp 66], argTypes := #[24] }, type := 9, pos := "law.go:123", after := #[{ on := 26, ground := Ground.data }, { on := 24, ground := Ground.chain }, { on := 14, ground := Ground.guard }], guard := some (14, false) }) rfl (fun K hK => ?_) ?_
  · go_simp
    refine (h.text 3 w).mono ?_
    rintro e w1 ⟨rfl, hb⟩
    try go_wp2_with fail
    refine hK.out _ _ (h.below _ _ hw hb) (fun hHeld => ?_)
    clear hK K
    try simp only [List.setIfInBounds_toArray, List.set_cons_zero, List.set_cons_succ]
    exact em_4_1 h _ (by kernel_rfl) _ hHeld m0 (hM.below hb)
  refine AllReadyH.cons (o := { dst := some 83, op := Op.convert 30 9 (Operand.tmp 82), type := 9, pos := "law.go:123", after := #[{ on := 42, ground := Ground.data }, { on := 14, ground := Ground.guard }], guard := some (14, false) }) rfl (fun K hK => ?_) ?_
  · have hz := convZ hM
    go_simp
    refine hK.out _ _ hw (fun hHeld => ?_)
    clear hK K
    try simp only [List.setIfInBounds_toArray, List.set_cons_zero, List.set_cons_succ]
    exact em_3_2 h _ (by kernel_rfl) _ hHeld m0
  exact AllReadyH.nil
set_option maxRecDepth 100000 in
theorem em_3_0 {Q : Exit → Act → World → Prop} {S : World → Prop} {lv : Nat} {A : Nat → List Value} {T : Nat → ByteArray} {DS : ByteArray} {E : Bool} {v0 v1 v2 v3 v4 v5 v6 v7 v8 v9 v10 v11 v12 v13 v14 v15 v16 v17 v18 v19 v20 v21 v22 v23 v24 v25 v26 v27 v28 v29 v30 v31 v32 v33 v34 v35 v36 v37 v38 v39 v40 v41 v42 v43 v44 v46 v47 v48 v49 v51 v52 v53 v56 v59 v62 v65 v67 v68 v70 v71 v73 v74 v76 v77 v79 v80 v81 v82 v83 v84 v85 v86 v87 : Value} (h : EmCtx Q S lv A T DS E) (l : Array Bool) (hl : l = #[true, true, true, true, true, true, true, true, true, true, true, true, true, true, true, true, true, true, true, true, true, true, true, true, true, true, true, false, true, true, false, true, true, false, true, true, false, true, true, false, false, false, false, false, false, false, false, false, false]) (w : World) (hw : S w)  :
    wpAnyH Tryd.prog .any emOps Q S 14 l { tmps := #[v0, v1, v2, v3, v4, v5, v6, v7, v8, v9, v10, v11, v12, v13, v14, v15, v16, v17, v18, v19, v20, v21, v22, v23, v24, v25, v26, v27, v28, v29, v30, v31, v32, v33, v34, v35, v36, v37, v38, v39, v40, v41, v42, v43, v44, .bool true, v46, v47, v48, v49, .bool E, v51, v52, v53, .bool false, .int .i64 (lv : Nat), v56, .agg (A 0).toArray, .string (T 0), v59, .agg (A 1).toArray, .string (T 1), v62, .agg (A 2).toArray, .string (T 2), v65, .agg (A 3).toArray, v67, v68, .agg (A 4).toArray, v70, v71, .agg (A 5).toArray, v73, v74, .agg (A 6).toArray, v76, v77, .agg (A 7).toArray, v79, v80, v81, v82, v83, v84, v85, v86, v87], defers := [] } w := by
  subst hl
  refine wpAnyH_ready (rs := [27, 42]) (by kernel_rfl) (by simp) ?_
  refine AllReadyH.cons (o := { dst := some 67, op := Op.call { callee := Callee.value (Operand.func 13), args := #[Operand.tmp 66], argTypes := #[24] }, type := 9, pos := "law.go:123", after := #[{ on := 26, ground := Ground.data }, { on := 24, ground := Ground.chain }, { on := 14, ground := Ground.guard }], guard := some (14, false) }) rfl (fun K hK => ?_) ?_
  · go_simp
    refine (h.text 3 w).mono ?_
    rintro e w1 ⟨rfl, hb⟩
    try go_wp2_with fail
    refine hK.out _ _ (h.below _ _ hw hb) (fun hHeld => ?_)
    clear hK K
    try simp only [List.setIfInBounds_toArray, List.set_cons_zero, List.set_cons_succ]
    exact em_4_0 h _ (by kernel_rfl) _ hHeld 
  refine AllReadyH.cons (o := { dst := some 82, op := Op.makeSlice 30 (Operand.const (Value.int IntKind.i64 32)) (Operand.const (Value.int IntKind.i64 32)), type := 30, pos := "law.go:123", after := #[{ on := 14, ground := Ground.guard }], guard := some (14, false) }) rfl (fun K hK => ?_) ?_
  · go_simp
    refine hK.out _ _ (h.alloc _ _ hw) (fun hHeld => ?_)
    clear hK K
    try simp only [List.setIfInBounds_toArray, List.set_cons_zero, List.set_cons_succ]
    exact em_3_1 h _ (by kernel_rfl) _ hHeld _ (by refine zerosC w _ _ ?_; kernel_rfl)
  exact AllReadyH.nil
set_option maxRecDepth 100000 in
theorem em_2_2 {Q : Exit → Act → World → Prop} {S : World → Prop} {lv : Nat} {A : Nat → List Value} {T : Nat → ByteArray} {DS : ByteArray} {E : Bool} {v0 v1 v2 v3 v4 v5 v6 v7 v8 v9 v10 v11 v12 v13 v14 v15 v16 v17 v18 v19 v20 v21 v22 v23 v24 v25 v26 v27 v28 v29 v30 v31 v32 v33 v34 v35 v36 v37 v38 v39 v40 v41 v42 v43 v44 v46 v47 v48 v49 v51 v52 v53 v56 v59 v62 v64 v65 v67 v68 v70 v71 v73 v74 v76 v77 v79 v80 v81 v84 v85 v86 v87 : Value} (h : EmCtx Q S lv A T DS E) (l : Array Bool) (hl : l = #[true, true, true, true, true, true, true, true, true, true, true, true, true, true, true, true, true, true, true, true, true, true, true, true, false, true, true, false, true, true, false, true, true, false, true, true, false, true, true, false, false, false, true, true, false, false, false, false, false]) (w : World) (hw : S w) (m0 : Nat) :
    wpAnyH Tryd.prog .any emOps Q S 13 l { tmps := #[v0, v1, v2, v3, v4, v5, v6, v7, v8, v9, v10, v11, v12, v13, v14, v15, v16, v17, v18, v19, v20, v21, v22, v23, v24, v25, v26, v27, v28, v29, v30, v31, v32, v33, v34, v35, v36, v37, v38, v39, v40, v41, v42, v43, v44, .bool true, v46, v47, v48, v49, .bool E, v51, v52, v53, .bool false, .int .i64 (lv : Nat), v56, .agg (A 0).toArray, .string (T 0), v59, .agg (A 1).toArray, .string (T 1), v62, .agg (A 2).toArray, v64, v65, .agg (A 3).toArray, v67, v68, .agg (A 4).toArray, v70, v71, .agg (A 5).toArray, v73, v74, .agg (A 6).toArray, v76, v77, .agg (A 7).toArray, v79, v80, v81, .slice (some ⟨m0, 0, none⟩) 32 32, .string zero32, v84, v85, v86, v87], defers := [] } w := by
  subst hl
  refine wpAnyH_ready (rs := [24]) (by kernel_rfl) (by simp) ?_
  refine AllReadyH.cons (o := { dst := some 64, op := Op.call { callee := Callee.value (Operand.func 13), args := #[Operand.tmp 63], argTypes := #[24] }, type := 9, pos := "law.go:123", after := #[{ on := 23, ground := Ground.data }, { on := 21, ground := Ground.chain }, { on := 14, ground := Ground.guard }], guard := some (14, false) }) rfl (fun K hK => ?_) ?_
  · go_simp
    refine (h.text 2 w).mono ?_
    rintro e w1 ⟨rfl, hb⟩
    try go_wp2_with fail
    refine hK.out _ _ (h.below _ _ hw hb) (fun hHeld => ?_)
    clear hK K
    try simp only [List.setIfInBounds_toArray, List.set_cons_zero, List.set_cons_succ]
    exact em_3_2 h _ (by kernel_rfl) _ hHeld m0
  exact AllReadyH.nil
set_option maxRecDepth 100000 in
theorem em_2_1 {Q : Exit → Act → World → Prop} {S : World → Prop} {lv : Nat} {A : Nat → List Value} {T : Nat → ByteArray} {DS : ByteArray} {E : Bool} {v0 v1 v2 v3 v4 v5 v6 v7 v8 v9 v10 v11 v12 v13 v14 v15 v16 v17 v18 v19 v20 v21 v22 v23 v24 v25 v26 v27 v28 v29 v30 v31 v32 v33 v34 v35 v36 v37 v38 v39 v40 v41 v42 v43 v44 v46 v47 v48 v49 v51 v52 v53 v56 v59 v62 v64 v65 v67 v68 v70 v71 v73 v74 v76 v77 v79 v80 v81 v83 v84 v85 v86 v87 : Value} (h : EmCtx Q S lv A T DS E) (l : Array Bool) (hl : l = #[true, true, true, true, true, true, true, true, true, true, true, true, true, true, true, true, true, true, true, true, true, true, true, true, false, true, true, false, true, true, false, true, true, false, true, true, false, true, true, false, false, false, true, false, false, false, false, false, false]) (w : World) (hw : S w) (m0 : Nat) (hM : Cells m0 32 (fun _ => .int .u8 ((0 : Nat) : Int)) w) :
    wpAnyH Tryd.prog .any emOps Q S 14 l { tmps := #[v0, v1, v2, v3, v4, v5, v6, v7, v8, v9, v10, v11, v12, v13, v14, v15, v16, v17, v18, v19, v20, v21, v22, v23, v24, v25, v26, v27, v28, v29, v30, v31, v32, v33, v34, v35, v36, v37, v38, v39, v40, v41, v42, v43, v44, .bool true, v46, v47, v48, v49, .bool E, v51, v52, v53, .bool false, .int .i64 (lv : Nat), v56, .agg (A 0).toArray, .string (T 0), v59, .agg (A 1).toArray, .string (T 1), v62, .agg (A 2).toArray, v64, v65, .agg (A 3).toArray, v67, v68, .agg (A 4).toArray, v70, v71, .agg (A 5).toArray, v73, v74, .agg (A 6).toArray, v76, v77, .agg (A 7).toArray, v79, v80, v81, .slice (some ⟨m0, 0, none⟩) 32 32, v83, v84, v85, v86, v87], defers := [] } w := by
  subst hl
  refine wpAnyH_ready (rs := [24, 43]) (by kernel_rfl) (by simp) ?_
  refine AllReadyH.cons (o := { dst := some 64, op := Op.call { callee := Callee.value (Operand.func 13), args := #[Operand.tmp 63], argTypes := #[24] }, type := 9, pos := "law.go:123", after := #[{ on := 23, ground := Ground.data }, { on := 21, ground := Ground.chain }, { on := 14, ground := Ground.guard }], guard := some (14, false) }) rfl (fun K hK => ?_) ?_
  · go_simp
    refine (h.text 2 w).mono ?_
    rintro e w1 ⟨rfl, hb⟩
    try go_wp2_with fail
    refine hK.out _ _ (h.below _ _ hw hb) (fun hHeld => ?_)
    clear hK K
    try simp only [List.setIfInBounds_toArray, List.set_cons_zero, List.set_cons_succ]
    exact em_3_1 h _ (by kernel_rfl) _ hHeld m0 (hM.below hb)
  refine AllReadyH.cons (o := { dst := some 83, op := Op.convert 30 9 (Operand.tmp 82), type := 9, pos := "law.go:123", after := #[{ on := 42, ground := Ground.data }, { on := 14, ground := Ground.guard }], guard := some (14, false) }) rfl (fun K hK => ?_) ?_
  · have hz := convZ hM
    go_simp
    refine hK.out _ _ hw (fun hHeld => ?_)
    clear hK K
    try simp only [List.setIfInBounds_toArray, List.set_cons_zero, List.set_cons_succ]
    exact em_2_2 h _ (by kernel_rfl) _ hHeld m0
  exact AllReadyH.nil
set_option maxRecDepth 100000 in
theorem em_2_0 {Q : Exit → Act → World → Prop} {S : World → Prop} {lv : Nat} {A : Nat → List Value} {T : Nat → ByteArray} {DS : ByteArray} {E : Bool} {v0 v1 v2 v3 v4 v5 v6 v7 v8 v9 v10 v11 v12 v13 v14 v15 v16 v17 v18 v19 v20 v21 v22 v23 v24 v25 v26 v27 v28 v29 v30 v31 v32 v33 v34 v35 v36 v37 v38 v39 v40 v41 v42 v43 v44 v46 v47 v48 v49 v51 v52 v53 v56 v59 v62 v64 v65 v67 v68 v70 v71 v73 v74 v76 v77 v79 v80 v81 v82 v83 v84 v85 v86 v87 : Value} (h : EmCtx Q S lv A T DS E) (l : Array Bool) (hl : l = #[true, true, true, true, true, true, true, true, true, true, true, true, true, true, true, true, true, true, true, true, true, true, true, true, false, true, true, false, true, true, false, true, true, false, true, true, false, true, true, false, false, false, false, false, false, false, false, false, false]) (w : World) (hw : S w)  :
    wpAnyH Tryd.prog .any emOps Q S 15 l { tmps := #[v0, v1, v2, v3, v4, v5, v6, v7, v8, v9, v10, v11, v12, v13, v14, v15, v16, v17, v18, v19, v20, v21, v22, v23, v24, v25, v26, v27, v28, v29, v30, v31, v32, v33, v34, v35, v36, v37, v38, v39, v40, v41, v42, v43, v44, .bool true, v46, v47, v48, v49, .bool E, v51, v52, v53, .bool false, .int .i64 (lv : Nat), v56, .agg (A 0).toArray, .string (T 0), v59, .agg (A 1).toArray, .string (T 1), v62, .agg (A 2).toArray, v64, v65, .agg (A 3).toArray, v67, v68, .agg (A 4).toArray, v70, v71, .agg (A 5).toArray, v73, v74, .agg (A 6).toArray, v76, v77, .agg (A 7).toArray, v79, v80, v81, v82, v83, v84, v85, v86, v87], defers := [] } w := by
  subst hl
  refine wpAnyH_ready (rs := [24, 42]) (by kernel_rfl) (by simp) ?_
  refine AllReadyH.cons (o := { dst := some 64, op := Op.call { callee := Callee.value (Operand.func 13), args := #[Operand.tmp 63], argTypes := #[24] }, type := 9, pos := "law.go:123", after := #[{ on := 23, ground := Ground.data }, { on := 21, ground := Ground.chain }, { on := 14, ground := Ground.guard }], guard := some (14, false) }) rfl (fun K hK => ?_) ?_
  · go_simp
    refine (h.text 2 w).mono ?_
    rintro e w1 ⟨rfl, hb⟩
    try go_wp2_with fail
    refine hK.out _ _ (h.below _ _ hw hb) (fun hHeld => ?_)
    clear hK K
    try simp only [List.setIfInBounds_toArray, List.set_cons_zero, List.set_cons_succ]
    exact em_3_0 h _ (by kernel_rfl) _ hHeld 
  refine AllReadyH.cons (o := { dst := some 82, op := Op.makeSlice 30 (Operand.const (Value.int IntKind.i64 32)) (Operand.const (Value.int IntKind.i64 32)), type := 30, pos := "law.go:123", after := #[{ on := 14, ground := Ground.guard }], guard := some (14, false) }) rfl (fun K hK => ?_) ?_
  · go_simp
    refine hK.out _ _ (h.alloc _ _ hw) (fun hHeld => ?_)
    clear hK K
    try simp only [List.setIfInBounds_toArray, List.set_cons_zero, List.set_cons_succ]
    exact em_2_1 h _ (by kernel_rfl) _ hHeld _ (by refine zerosC w _ _ ?_; kernel_rfl)
  exact AllReadyH.nil
set_option maxRecDepth 100000 in
theorem em_1_2 {Q : Exit → Act → World → Prop} {S : World → Prop} {lv : Nat} {A : Nat → List Value} {T : Nat → ByteArray} {DS : ByteArray} {E : Bool} {v0 v1 v2 v3 v4 v5 v6 v7 v8 v9 v10 v11 v12 v13 v14 v15 v16 v17 v18 v19 v20 v21 v22 v23 v24 v25 v26 v27 v28 v29 v30 v31 v32 v33 v34 v35 v36 v37 v38 v39 v40 v41 v42 v43 v44 v46 v47 v48 v49 v51 v52 v53 v56 v59 v61 v62 v64 v65 v67 v68 v70 v71 v73 v74 v76 v77 v79 v80 v81 v84 v85 v86 v87 : Value} (h : EmCtx Q S lv A T DS E) (l : Array Bool) (hl : l = #[true, true, true, true, true, true, true, true, true, true, true, true, true, true, true, true, true, true, true, true, true, false, true, true, false, true, true, false, true, true, false, true, true, false, true, true, false, true, true, false, false, false, true, true, false, false, false, false, false]) (w : World) (hw : S w) (m0 : Nat) :
    wpAnyH Tryd.prog .any emOps Q S 14 l { tmps := #[v0, v1, v2, v3, v4, v5, v6, v7, v8, v9, v10, v11, v12, v13, v14, v15, v16, v17, v18, v19, v20, v21, v22, v23, v24, v25, v26, v27, v28, v29, v30, v31, v32, v33, v34, v35, v36, v37, v38, v39, v40, v41, v42, v43, v44, .bool true, v46, v47, v48, v49, .bool E, v51, v52, v53, .bool false, .int .i64 (lv : Nat), v56, .agg (A 0).toArray, .string (T 0), v59, .agg (A 1).toArray, v61, v62, .agg (A 2).toArray, v64, v65, .agg (A 3).toArray, v67, v68, .agg (A 4).toArray, v70, v71, .agg (A 5).toArray, v73, v74, .agg (A 6).toArray, v76, v77, .agg (A 7).toArray, v79, v80, v81, .slice (some ⟨m0, 0, none⟩) 32 32, .string zero32, v84, v85, v86, v87], defers := [] } w := by
  subst hl
  refine wpAnyH_ready (rs := [21]) (by kernel_rfl) (by simp) ?_
  refine AllReadyH.cons (o := { dst := some 61, op := Op.call { callee := Callee.value (Operand.func 13), args := #[Operand.tmp 60], argTypes := #[24] }, type := 9, pos := "law.go:123", after := #[{ on := 20, ground := Ground.data }, { on := 18, ground := Ground.chain }, { on := 14, ground := Ground.guard }], guard := some (14, false) }) rfl (fun K hK => ?_) ?_
  · go_simp
    refine (h.text 1 w).mono ?_
    rintro e w1 ⟨rfl, hb⟩
    try go_wp2_with fail
    refine hK.out _ _ (h.below _ _ hw hb) (fun hHeld => ?_)
    clear hK K
    try simp only [List.setIfInBounds_toArray, List.set_cons_zero, List.set_cons_succ]
    exact em_2_2 h _ (by kernel_rfl) _ hHeld m0
  exact AllReadyH.nil
set_option maxRecDepth 100000 in
theorem em_1_1 {Q : Exit → Act → World → Prop} {S : World → Prop} {lv : Nat} {A : Nat → List Value} {T : Nat → ByteArray} {DS : ByteArray} {E : Bool} {v0 v1 v2 v3 v4 v5 v6 v7 v8 v9 v10 v11 v12 v13 v14 v15 v16 v17 v18 v19 v20 v21 v22 v23 v24 v25 v26 v27 v28 v29 v30 v31 v32 v33 v34 v35 v36 v37 v38 v39 v40 v41 v42 v43 v44 v46 v47 v48 v49 v51 v52 v53 v56 v59 v61 v62 v64 v65 v67 v68 v70 v71 v73 v74 v76 v77 v79 v80 v81 v83 v84 v85 v86 v87 : Value} (h : EmCtx Q S lv A T DS E) (l : Array Bool) (hl : l = #[true, true, true, true, true, true, true, true, true, true, true, true, true, true, true, true, true, true, true, true, true, false, true, true, false, true, true, false, true, true, false, true, true, false, true, true, false, true, true, false, false, false, true, false, false, false, false, false, false]) (w : World) (hw : S w) (m0 : Nat) (hM : Cells m0 32 (fun _ => .int .u8 ((0 : Nat) : Int)) w) :
    wpAnyH Tryd.prog .any emOps Q S 15 l { tmps := #[v0, v1, v2, v3, v4, v5, v6, v7, v8, v9, v10, v11, v12, v13, v14, v15, v16, v17, v18, v19, v20, v21, v22, v23, v24, v25, v26, v27, v28, v29, v30, v31, v32, v33, v34, v35, v36, v37, v38, v39, v40, v41, v42, v43, v44, .bool true, v46, v47, v48, v49, .bool E, v51, v52, v53, .bool false, .int .i64 (lv : Nat), v56, .agg (A 0).toArray, .string (T 0), v59, .agg (A 1).toArray, v61, v62, .agg (A 2).toArray, v64, v65, .agg (A 3).toArray, v67, v68, .agg (A 4).toArray, v70, v71, .agg (A 5).toArray, v73, v74, .agg (A 6).toArray, v76, v77, .agg (A 7).toArray, v79, v80, v81, .slice (some ⟨m0, 0, none⟩) 32 32, v83, v84, v85, v86, v87], defers := [] } w := by
  subst hl
  refine wpAnyH_ready (rs := [21, 43]) (by kernel_rfl) (by simp) ?_
  refine AllReadyH.cons (o := { dst := some 61, op := Op.call { callee := Callee.value (Operand.func 13), args := #[Operand.tmp 60], argTypes := #[24] }, type := 9, pos := "law.go:123", after := #[{ on := 20, ground := Ground.data }, { on := 18, ground := Ground.chain }, { on := 14, ground := Ground.guard }], guard := some (14, false) }) rfl (fun K hK => ?_) ?_
  · go_simp
    refine (h.text 1 w).mono ?_
    rintro e w1 ⟨rfl, hb⟩
    try go_wp2_with fail
    refine hK.out _ _ (h.below _ _ hw hb) (fun hHeld => ?_)
    clear hK K
    try simp only [List.setIfInBounds_toArray, List.set_cons_zero, List.set_cons_succ]
    exact em_2_1 h _ (by kernel_rfl) _ hHeld m0 (hM.below hb)
  refine AllReadyH.cons (o := { dst := some 83, op := Op.convert 30 9 (Operand.tmp 82), type := 9, pos := "law.go:123", after := #[{ on := 42, ground := Ground.data }, { on := 14, ground := Ground.guard }], guard := some (14, false) }) rfl (fun K hK => ?_) ?_
  · have hz := convZ hM
    go_simp
    refine hK.out _ _ hw (fun hHeld => ?_)
    clear hK K
    try simp only [List.setIfInBounds_toArray, List.set_cons_zero, List.set_cons_succ]
    exact em_1_2 h _ (by kernel_rfl) _ hHeld m0
  exact AllReadyH.nil
set_option maxRecDepth 100000 in
theorem em_1_0 {Q : Exit → Act → World → Prop} {S : World → Prop} {lv : Nat} {A : Nat → List Value} {T : Nat → ByteArray} {DS : ByteArray} {E : Bool} {v0 v1 v2 v3 v4 v5 v6 v7 v8 v9 v10 v11 v12 v13 v14 v15 v16 v17 v18 v19 v20 v21 v22 v23 v24 v25 v26 v27 v28 v29 v30 v31 v32 v33 v34 v35 v36 v37 v38 v39 v40 v41 v42 v43 v44 v46 v47 v48 v49 v51 v52 v53 v56 v59 v61 v62 v64 v65 v67 v68 v70 v71 v73 v74 v76 v77 v79 v80 v81 v82 v83 v84 v85 v86 v87 : Value} (h : EmCtx Q S lv A T DS E) (l : Array Bool) (hl : l = #[true, true, true, true, true, true, true, true, true, true, true, true, true, true, true, true, true, true, true, true, true, false, true, true, false, true, true, false, true, true, false, true, true, false, true, true, false, true, true, false, false, false, false, false, false, false, false, false, false]) (w : World) (hw : S w)  :
    wpAnyH Tryd.prog .any emOps Q S 16 l { tmps := #[v0, v1, v2, v3, v4, v5, v6, v7, v8, v9, v10, v11, v12, v13, v14, v15, v16, v17, v18, v19, v20, v21, v22, v23, v24, v25, v26, v27, v28, v29, v30, v31, v32, v33, v34, v35, v36, v37, v38, v39, v40, v41, v42, v43, v44, .bool true, v46, v47, v48, v49, .bool E, v51, v52, v53, .bool false, .int .i64 (lv : Nat), v56, .agg (A 0).toArray, .string (T 0), v59, .agg (A 1).toArray, v61, v62, .agg (A 2).toArray, v64, v65, .agg (A 3).toArray, v67, v68, .agg (A 4).toArray, v70, v71, .agg (A 5).toArray, v73, v74, .agg (A 6).toArray, v76, v77, .agg (A 7).toArray, v79, v80, v81, v82, v83, v84, v85, v86, v87], defers := [] } w := by
  subst hl
  refine wpAnyH_ready (rs := [21, 42]) (by kernel_rfl) (by simp) ?_
  refine AllReadyH.cons (o := { dst := some 61, op := Op.call { callee := Callee.value (Operand.func 13), args := #[Operand.tmp 60], argTypes := #[24] }, type := 9, pos := "law.go:123", after := #[{ on := 20, ground := Ground.data }, { on := 18, ground := Ground.chain }, { on := 14, ground := Ground.guard }], guard := some (14, false) }) rfl (fun K hK => ?_) ?_
  · go_simp
    refine (h.text 1 w).mono ?_
    rintro e w1 ⟨rfl, hb⟩
    try go_wp2_with fail
    refine hK.out _ _ (h.below _ _ hw hb) (fun hHeld => ?_)
    clear hK K
    try simp only [List.setIfInBounds_toArray, List.set_cons_zero, List.set_cons_succ]
    exact em_2_0 h _ (by kernel_rfl) _ hHeld 
  refine AllReadyH.cons (o := { dst := some 82, op := Op.makeSlice 30 (Operand.const (Value.int IntKind.i64 32)) (Operand.const (Value.int IntKind.i64 32)), type := 30, pos := "law.go:123", after := #[{ on := 14, ground := Ground.guard }], guard := some (14, false) }) rfl (fun K hK => ?_) ?_
  · go_simp
    refine hK.out _ _ (h.alloc _ _ hw) (fun hHeld => ?_)
    clear hK K
    try simp only [List.setIfInBounds_toArray, List.set_cons_zero, List.set_cons_succ]
    exact em_1_1 h _ (by kernel_rfl) _ hHeld _ (by refine zerosC w _ _ ?_; kernel_rfl)
  exact AllReadyH.nil
set_option maxRecDepth 100000 in
theorem em_0_2 {Q : Exit → Act → World → Prop} {S : World → Prop} {lv : Nat} {A : Nat → List Value} {T : Nat → ByteArray} {DS : ByteArray} {E : Bool} {v0 v1 v2 v3 v4 v5 v6 v7 v8 v9 v10 v11 v12 v13 v14 v15 v16 v17 v18 v19 v20 v21 v22 v23 v24 v25 v26 v27 v28 v29 v30 v31 v32 v33 v34 v35 v36 v37 v38 v39 v40 v41 v42 v43 v44 v46 v47 v48 v49 v51 v52 v53 v56 v58 v59 v61 v62 v64 v65 v67 v68 v70 v71 v73 v74 v76 v77 v79 v80 v81 v84 v85 v86 v87 : Value} (h : EmCtx Q S lv A T DS E) (l : Array Bool) (hl : l = #[true, true, true, true, true, true, true, true, true, true, true, true, true, true, true, true, true, true, false, true, true, false, true, true, false, true, true, false, true, true, false, true, true, false, true, true, false, true, true, false, false, false, true, true, false, false, false, false, false]) (w : World) (hw : S w) (m0 : Nat) :
    wpAnyH Tryd.prog .any emOps Q S 15 l { tmps := #[v0, v1, v2, v3, v4, v5, v6, v7, v8, v9, v10, v11, v12, v13, v14, v15, v16, v17, v18, v19, v20, v21, v22, v23, v24, v25, v26, v27, v28, v29, v30, v31, v32, v33, v34, v35, v36, v37, v38, v39, v40, v41, v42, v43, v44, .bool true, v46, v47, v48, v49, .bool E, v51, v52, v53, .bool false, .int .i64 (lv : Nat), v56, .agg (A 0).toArray, v58, v59, .agg (A 1).toArray, v61, v62, .agg (A 2).toArray, v64, v65, .agg (A 3).toArray, v67, v68, .agg (A 4).toArray, v70, v71, .agg (A 5).toArray, v73, v74, .agg (A 6).toArray, v76, v77, .agg (A 7).toArray, v79, v80, v81, .slice (some ⟨m0, 0, none⟩) 32 32, .string zero32, v84, v85, v86, v87], defers := [] } w := by
  subst hl
  refine wpAnyH_ready (rs := [18]) (by kernel_rfl) (by simp) ?_
  refine AllReadyH.cons (o := { dst := some 58, op := Op.call { callee := Callee.value (Operand.func 13), args := #[Operand.tmp 57], argTypes := #[24] }, type := 9, pos := "law.go:123", after := #[{ on := 17, ground := Ground.data }, { on := 14, ground := Ground.chain }, { on := 14, ground := Ground.guard }], guard := some (14, false) }) rfl (fun K hK => ?_) ?_
  · go_simp
    refine (h.text 0 w).mono ?_
    rintro e w1 ⟨rfl, hb⟩
    try go_wp2_with fail
    refine hK.out _ _ (h.below _ _ hw hb) (fun hHeld => ?_)
    clear hK K
    try simp only [List.setIfInBounds_toArray, List.set_cons_zero, List.set_cons_succ]
    exact em_1_2 h _ (by kernel_rfl) _ hHeld m0
  exact AllReadyH.nil
set_option maxRecDepth 100000 in
theorem em_0_1 {Q : Exit → Act → World → Prop} {S : World → Prop} {lv : Nat} {A : Nat → List Value} {T : Nat → ByteArray} {DS : ByteArray} {E : Bool} {v0 v1 v2 v3 v4 v5 v6 v7 v8 v9 v10 v11 v12 v13 v14 v15 v16 v17 v18 v19 v20 v21 v22 v23 v24 v25 v26 v27 v28 v29 v30 v31 v32 v33 v34 v35 v36 v37 v38 v39 v40 v41 v42 v43 v44 v46 v47 v48 v49 v51 v52 v53 v56 v58 v59 v61 v62 v64 v65 v67 v68 v70 v71 v73 v74 v76 v77 v79 v80 v81 v83 v84 v85 v86 v87 : Value} (h : EmCtx Q S lv A T DS E) (l : Array Bool) (hl : l = #[true, true, true, true, true, true, true, true, true, true, true, true, true, true, true, true, true, true, false, true, true, false, true, true, false, true, true, false, true, true, false, true, true, false, true, true, false, true, true, false, false, false, true, false, false, false, false, false, false]) (w : World) (hw : S w) (m0 : Nat) (hM : Cells m0 32 (fun _ => .int .u8 ((0 : Nat) : Int)) w) :
    wpAnyH Tryd.prog .any emOps Q S 16 l { tmps := #[v0, v1, v2, v3, v4, v5, v6, v7, v8, v9, v10, v11, v12, v13, v14, v15, v16, v17, v18, v19, v20, v21, v22, v23, v24, v25, v26, v27, v28, v29, v30, v31, v32, v33, v34, v35, v36, v37, v38, v39, v40, v41, v42, v43, v44, .bool true, v46, v47, v48, v49, .bool E, v51, v52, v53, .bool false, .int .i64 (lv : Nat), v56, .agg (A 0).toArray, v58, v59, .agg (A 1).toArray, v61, v62, .agg (A 2).toArray, v64, v65, .agg (A 3).toArray, v67, v68, .agg (A 4).toArray, v70, v71, .agg (A 5).toArray, v73, v74, .agg (A 6).toArray, v76, v77, .agg (A 7).toArray, v79, v80, v81, .slice (some ⟨m0, 0, none⟩) 32 32, v83, v84, v85, v86, v87], defers := [] } w := by
  subst hl
  refine wpAnyH_ready (rs := [18, 43]) (by kernel_rfl) (by simp) ?_
  refine AllReadyH.cons (o := { dst := some 58, op := Op.call { callee := Callee.value (Operand.func 13), args := #[Operand.tmp 57], argTypes := #[24] }, type := 9, pos := "law.go:123", after := #[{ on := 17, ground := Ground.data }, { on := 14, ground := Ground.chain }, { on := 14, ground := Ground.guard }], guard := some (14, false) }) rfl (fun K hK => ?_) ?_
  · go_simp
    refine (h.text 0 w).mono ?_
    rintro e w1 ⟨rfl, hb⟩
    try go_wp2_with fail
    refine hK.out _ _ (h.below _ _ hw hb) (fun hHeld => ?_)
    clear hK K
    try simp only [List.setIfInBounds_toArray, List.set_cons_zero, List.set_cons_succ]
    exact em_1_1 h _ (by kernel_rfl) _ hHeld m0 (hM.below hb)
  refine AllReadyH.cons (o := { dst := some 83, op := Op.convert 30 9 (Operand.tmp 82), type := 9, pos := "law.go:123", after := #[{ on := 42, ground := Ground.data }, { on := 14, ground := Ground.guard }], guard := some (14, false) }) rfl (fun K hK => ?_) ?_
  · have hz := convZ hM
    go_simp
    refine hK.out _ _ hw (fun hHeld => ?_)
    clear hK K
    try simp only [List.setIfInBounds_toArray, List.set_cons_zero, List.set_cons_succ]
    exact em_0_2 h _ (by kernel_rfl) _ hHeld m0
  exact AllReadyH.nil
set_option maxRecDepth 100000 in
theorem em_0_0 {Q : Exit → Act → World → Prop} {S : World → Prop} {lv : Nat} {A : Nat → List Value} {T : Nat → ByteArray} {DS : ByteArray} {E : Bool} {v0 v1 v2 v3 v4 v5 v6 v7 v8 v9 v10 v11 v12 v13 v14 v15 v16 v17 v18 v19 v20 v21 v22 v23 v24 v25 v26 v27 v28 v29 v30 v31 v32 v33 v34 v35 v36 v37 v38 v39 v40 v41 v42 v43 v44 v46 v47 v48 v49 v51 v52 v53 v56 v58 v59 v61 v62 v64 v65 v67 v68 v70 v71 v73 v74 v76 v77 v79 v80 v81 v82 v83 v84 v85 v86 v87 : Value} (h : EmCtx Q S lv A T DS E) (l : Array Bool) (hl : l = #[true, true, true, true, true, true, true, true, true, true, true, true, true, true, true, true, true, true, false, true, true, false, true, true, false, true, true, false, true, true, false, true, true, false, true, true, false, true, true, false, false, false, false, false, false, false, false, false, false]) (w : World) (hw : S w)  :
    wpAnyH Tryd.prog .any emOps Q S 17 l { tmps := #[v0, v1, v2, v3, v4, v5, v6, v7, v8, v9, v10, v11, v12, v13, v14, v15, v16, v17, v18, v19, v20, v21, v22, v23, v24, v25, v26, v27, v28, v29, v30, v31, v32, v33, v34, v35, v36, v37, v38, v39, v40, v41, v42, v43, v44, .bool true, v46, v47, v48, v49, .bool E, v51, v52, v53, .bool false, .int .i64 (lv : Nat), v56, .agg (A 0).toArray, v58, v59, .agg (A 1).toArray, v61, v62, .agg (A 2).toArray, v64, v65, .agg (A 3).toArray, v67, v68, .agg (A 4).toArray, v70, v71, .agg (A 5).toArray, v73, v74, .agg (A 6).toArray, v76, v77, .agg (A 7).toArray, v79, v80, v81, v82, v83, v84, v85, v86, v87], defers := [] } w := by
  subst hl
  refine wpAnyH_ready (rs := [18, 42]) (by kernel_rfl) (by simp) ?_
  refine AllReadyH.cons (o := { dst := some 58, op := Op.call { callee := Callee.value (Operand.func 13), args := #[Operand.tmp 57], argTypes := #[24] }, type := 9, pos := "law.go:123", after := #[{ on := 17, ground := Ground.data }, { on := 14, ground := Ground.chain }, { on := 14, ground := Ground.guard }], guard := some (14, false) }) rfl (fun K hK => ?_) ?_
  · go_simp
    refine (h.text 0 w).mono ?_
    rintro e w1 ⟨rfl, hb⟩
    try go_wp2_with fail
    refine hK.out _ _ (h.below _ _ hw hb) (fun hHeld => ?_)
    clear hK K
    try simp only [List.setIfInBounds_toArray, List.set_cons_zero, List.set_cons_succ]
    exact em_1_0 h _ (by kernel_rfl) _ hHeld 
  refine AllReadyH.cons (o := { dst := some 82, op := Op.makeSlice 30 (Operand.const (Value.int IntKind.i64 32)) (Operand.const (Value.int IntKind.i64 32)), type := 30, pos := "law.go:123", after := #[{ on := 14, ground := Ground.guard }], guard := some (14, false) }) rfl (fun K hK => ?_) ?_
  · go_simp
    refine hK.out _ _ (h.alloc _ _ hw) (fun hHeld => ?_)
    clear hK K
    try simp only [List.setIfInBounds_toArray, List.set_cons_zero, List.set_cons_succ]
    exact em_0_1 h _ (by kernel_rfl) _ hHeld _ (by refine zerosC w _ _ ?_; kernel_rfl)
  exact AllReadyH.nil
end Go.Proofs.YtcmohjgccedmgaaDoor
