/-
  Texts put together: NodeEmptyA, NodeEmptyB.
-/
import Derived.Test.YtheccbnejamhlaaDoorNodeDigs
import Derived.Deep.RegionHeld3
/-
  node: Empty of any kids; a node's value, put together.
-/
namespace Go.Proofs.YtheccbnejamhlaaDoor
open Go.RowKit

/-- eight kids -/
def kidsL (kd : Nat → Nat) : List Value := (List.range 8).map fun j => Value.int .i64 (kd j : Nat)
theorem kidsL_at (kd : Nat → Nat) (j : Nat) (h : j < 8) : (kidsL kd)[j]? = some (.int .i64 (kd j : Nat)) := by
  unfold kidsL
  rw [List.getElem?_map, List.getElem?_range h]
  rfl
theorem kidsL_len (kd : Nat → Nat) : (kidsL kd).length = 8 := by simp [kidsL]
/-- a node as a value -/
def nodeL (lv : Int) (kd : Nat → Nat) (f : Nat → Nat) : List Value := .int .i64 lv :: (kidsL kd ++ arr f)
theorem nodeL_len (lv : Int) (kd : Nat → Nat) (f : Nat → Nat) : (nodeL lv kd f).length = 41 := by simp [nodeL, kidsL_len, arr_len]
theorem nodeL_kid (lv : Int) (kd : Nat → Nat) (f : Nat → Nat) (j : Nat) (h : j < 8) : (nodeL lv kd f)[1 + j]? = some (.int .i64 (kd j : Nat)) := by
  unfold nodeL
  rw [Nat.add_comm, List.getElem?_cons_succ, List.getElem?_append_left (by rw [kidsL_len]; exact h)]
  exact kidsL_at kd j h
theorem nodeL_one (lv : Int) (kd : Nat → Nat) (f : Nat → Nat) : (nodeL lv kd f).toArray.all (·.oneCell') = true :=
  all_oneCell_toArray fun v hv => by
    unfold nodeL kidsL arr at hv
    simp only [List.mem_cons, List.mem_append, List.mem_map] at hv
    rcases hv with rfl | ⟨_, _, rfl⟩ | ⟨_, _, rfl⟩ <;> rfl
def allz (kd : Nat → Nat) : Bool := (List.range 8).all fun j => kd j == 0
theorem plainInt : Tryd.prog.plainKey 3 = true := by kernel_rfl
theorem cells_int : Tryd.prog.cellsOf 3 = 1 := by kernel_rfl
theorem kids_step (d : Nat) (f g : Nat → Nat) (X Y : Array Value) (hX : ∀ i, i < 8 → X[i]? = some (.int .i64 (f i : Nat))) (hY : ∀ i, i < 8 → Y[i]? = some (.int .i64 (g i : Nat))) (w : World) (i : Nat) (hi : i < 8) :
    ∃ a b, (part 3 X (i * 1)).run Tryd.prog w = .ok a w ∧ (part 3 Y (i * 1)).run Tryd.prog w = .ok b w ∧ (Op.equalIn (d + 1) 3 a b).run Tryd.prog w = .ok (f i == g i) w := by
  refine ⟨_, _, run_part_plain w plainInt (by rw [Nat.mul_one]; exact hX i hi), run_part_plain w plainInt (by rw [Nat.mul_one]; exact hY i hi), ?_⟩
  have p3 := run_equalIn_int (P := Tryd.prog) w d 3 .i64 .i64 ((f i : Nat) : Int) ((g i : Nat) : Int) Tryd.underlying3
  have e : ((f i : Int) == (g i : Int)) = (f i == g i) := by
    rw [Bool.eq_iff_iff, beq_iff_eq, beq_iff_eq]
    omega
  rw [e] at p3
  exact p3
theorem kids_binop (kd : Nat → Nat) (w : World) : (binOp .eql 32 (.agg (kidsL kd).toArray) (.agg (kidsL fun _ => 0).toArray)).run Tryd.prog w = .ok (.bool (allz kd)) w := by
  obtain ⟨i, hi⟩ : ∃ i, Tryd.prog.info? 3 = some i := info_of_underlying Tryd.underlying3
  have h := eq_items (P := Tryd.prog) (kidsL kd).toArray (kidsL fun _ => 0).toArray (fun i => kd i == 0) 9999 8 1 3 w
    (fun i hi => kids_step 9998 kd (fun _ => 0) _ _ (fun j hj => by rw [List.getElem?_toArray]; exact kidsL_at kd j hj) (fun j hj => by rw [List.getElem?_toArray]; exact kidsL_at (fun _ => 0) j hj) w i hi) (List.range 8) fun j hj => by simpa using hj
  have e : allz kd = (List.range 8).all (fun i => kd i == 0) := rfl
  rw [e]
  generalize (List.range 8).all (fun i => kd i == 0) = Q at *
  clear e
  generalize kidsL kd = X at *
  generalize (kidsL fun _ => 0) = Y at *
  have h2 : (Op.equalIn 10000 32 (.agg X.toArray) (.agg Y.toArray)).run Tryd.prog w = .ok Q w := (run_equalIn_array (P := Tryd.prog) w 9999 (e := 3) (n := 8) (i := i) X.toArray Y.toArray Tryd.underlying32 hi).trans (by rw [cells_int]; exact h)
  simp [binOp, Op.equal, Op.maxDepth, h2]
theorem kids_guard (kd : Nat → Nat) (x y : Operand) (w : World) : (eqGuard .eql 32 x y (.agg (kidsL kd).toArray) (.agg (kidsL fun _ => 0).toArray)).run Tryd.prog w = .ok () w :=
  run_eqGuard_agg (P := Tryd.prog) w .eql _ x y _ _ (by kernel_rfl)
theorem build_kids (w : World) : (Instr.build 32 #[]).run Tryd.prog w = .ok (.agg (kidsL fun _ => 0).toArray) w := by kernel_rfl
set_option maxRecDepth 100000 in
theorem build_node (lv : Int) (f : Nat → Nat) (w : World) : (Instr.build 34 #[(0, .int .i64 lv), (2, .agg (arr f).toArray)]).run Tryd.prog w = .ok (.agg (nodeL lv (fun _ => 0) f).toArray) w := by kernel_rfl
set_option maxRecDepth 100000 in
theorem alloc_node (w : World) : (Instr.alloc 34 true (.tuple #[])).run Tryd.prog w = .ok (.pointer (some ⟨w.heap.size, 0, none⟩)) (w.alloc (.cells (nodeL 0 (fun _ => 0) (fun _ => 0)).toArray 34)) := by kernel_rfl
set_option maxRecDepth 100000 in
set_option maxHeartbeats 4000000 in
theorem empty_any (lv : Int) (kd f : Nat → Nat) (w : World) : Calls Tryd.prog 21 #[.agg (nodeL lv kd f).toArray] w fun e w' => e = .returned (.bool (allz kd)) ∧ Below w.heap.size w w' := by
  have hr : (w.alloc (.cells (nodeL lv kd f).toArray 34)).rangeAt w.heap.size 1 (kidsL kd) := fun j v hv => by
    have hj : j < 8 := by
      have := (List.getElem?_eq_some_iff.1 hv).1
      rwa [kidsL_len] at this
    rw [World.cell?_alloc_new, List.getElem?_toArray, nodeL_kid lv kd f j hj]
    rw [kidsL_at kd j hj] at hv
    exact hv
  have he := kids_binop kd
  have hg := kids_guard kd
  have hb := build_kids
  have HI : Hid ((Tryd.prog.info? 32).map (·.size) = some (kidsL kd).length) := Lib.hid (by rw [kidsL_len]; kernel_rfl)
  generalize kidsL kd = K at *
  generalize (kidsL fun _ => 0) = Z at *
  generalize nodeL lv kd f = N at *
  generalize allz kd = B at *
  go_enter Tryd.func21, Tryd.ntmps21
  go_wp2_with (first
    | (with_reducible refine wpList_load_mid rfl 32 _ rfl w.heap.size 1 rfl K _ hr Tryd.underlying32 rfl HI.out ?_)
    | (with_reducible refine wpList_build0 rfl 32 rfl _ (hb _) ?_))
  go_ret
  exact ⟨rfl, (Below.refl _ _).alloc (Nat.le_refl _) _⟩
theorem wpList_build2 {P : Program} {ops : Array Oper} {rest : List Oper} {op : Oper} {a : Act} {w : World} {Q : Exit → Act → World → Prop} (hgd : op.guard = none) (ty : TypeId) (i j : Nat) (x y : Operand) (ho : op.op = .build ty #[(i, x), (j, y)])
    (u v r : Value) (hx : a.eval x = u) (hy : a.eval y = v) (hrun : (Instr.build ty #[(i, u), (j, v)]).run P w = .ok r w) (h : wpList P ops Q rest (a.put op.dst r) w) : wpList P ops Q (op :: rest) a w := by
  refine wpList_plain hgd fun K hK => ?_
  unfold Oper.wp execOp
  simp only [ho, Sem.run_bind, Sem.run_pure, Result.andThen_ok, List.map_toArray, List.map_cons, List.map_nil, hx, hy, hrun]
  exact hK _ _ h
end Go.Proofs.YtheccbnejamhlaaDoor

/-
  NodeEmpty: blocks that hold a node, sums.
-/
namespace Go.Proofs.YtheccbnejamhlaaDoor
open Go.RowKit

theorem neq_sum0 (w : World) : (binOp .neq 24 (.agg sum0.toArray) (.agg sum0.toArray)).run Tryd.prog w = .ok (.bool false) w := by kernel_rfl
theorem neqg_sum0 (x y : Operand) (w : World) : (eqGuard .neq 24 x y (.agg sum0.toArray) (.agg sum0.toArray)).run Tryd.prog w = .ok () w := by kernel_rfl
theorem allz0 : allz (fun _ => 0) = true := by decide
def cellsAt (N : List Value) (j : Nat) : Value := N.getD j .nilIface
theorem cellsAt_get (N : List Value) (j : Nat) (h : j < N.length) : N[j]? = some (cellsAt N j) := by
  unfold cellsAt
  rw [List.getD_eq_getElem?_getD, List.getElem?_eq_getElem h]
  rfl
theorem Cells.all {b : Nat} {N : List Value} {n : Nat} {w : World} (hn : N.length = n) (h : Cells b n (cellsAt N) w) : w.rangeAt b 0 N :=
  h.range 0 N fun j v hv => by
    have hj := (List.getElem?_eq_some_iff.1 hv).1
    refine ⟨by omega, ?_⟩
    rw [Nat.zero_add]
    rw [cellsAt_get N j hj] at hv
    exact Option.some.inj hv
/-- one kid -/
def kid1 (at' kd : Nat) (j : Nat) : Nat := if j = at' then kd else 0
/-- one sum -/
def sum1 (at' : Nat) (f : Nat → Nat) (j : Nat) : Nat := if at' * 32 ≤ j ∧ j < at' * 32 + 32 then f (j - at' * 32) else 0
theorem allz_kid (at' kd : Nat) (h : at' < 8) : allz (kid1 at' kd) = (kd == 0) := by
  unfold allz
  rw [Bool.eq_iff_iff, List.all_eq_true, beq_iff_eq]
  constructor
  · intro k
    have := k at' (by simpa using h)
    rw [beq_iff_eq] at this
    unfold kid1 at this
    rwa [if_pos rfl] at this
  · intro k j _
    rw [beq_iff_eq]
    unfold kid1
    split
    · exact k
    · rfl
theorem sum1_lt (at' : Nat) (f : Nat → Nat) (hf : ∀ j, f j < 256) (j : Nat) : sum1 at' f j < 256 := by
  unfold sum1
  split
  · exact hf _
  · decide
/-- the node's block behind the store of its one kid -/
theorem Cells.kid {b at' kd : Nat} {lv : Int} {f : Nat → Nat} {w : World} (h : Cells b 41 (cellsAt (nodeL lv (fun _ => 0) f)) w) (ha : at' < 8) :
    Cells b 41 (cellsAt (nodeL lv (kid1 at' kd) f)) (w.setCell ⟨b, 1 + at', none⟩ (.int .i64 (kd : Nat))) := by
  have e : ∀ (k : Nat → Nat) j, cellsAt (nodeL lv k f) j = if 1 ≤ j ∧ j < 9 then .int .i64 (k (j - 1) : Nat) else cellsAt (nodeL lv (fun _ => 0) f) j := fun k j => by
    by_cases hj : 1 ≤ j ∧ j < 9
    · rw [if_pos hj]
      have h1 := nodeL_kid lv k f (j - 1) (by omega)
      rw [show 1 + (j - 1) = j by omega] at h1
      unfold cellsAt
      rw [List.getD_eq_getElem?_getD, h1]
      rfl
    · rw [if_neg hj]
      unfold cellsAt nodeL
      rw [List.getD_eq_getElem?_getD, List.getD_eq_getElem?_getD]
      rcases Nat.eq_zero_or_pos j with rfl | hp
      · rfl
      · obtain ⟨m, rfl⟩ : ∃ m, j = m + 1 := ⟨j - 1, by omega⟩
        rw [List.getElem?_cons_succ, List.getElem?_cons_succ, List.getElem?_append_right (by rw [kidsL_len]; omega), List.getElem?_append_right (by rw [kidsL_len]; omega), kidsL_len, kidsL_len]
  refine h.set (1 + at') _ (by omega) ?_ fun j hj hne => ?_
  · rw [e, if_pos ⟨by omega, by omega⟩, show 1 + at' - 1 = at' by omega]
    unfold kid1
    rw [if_pos rfl]
  · rw [e (kid1 at' kd), e fun _ => 0]
    by_cases hc : 1 ≤ j ∧ j < 9
    · rw [if_pos hc, if_pos hc]
      unfold kid1
      rw [if_neg (by omega)]
    · rw [if_neg hc, if_neg hc]
theorem Cells.sum1 {b at' : Nat} {f : Nat → Nat} {w : World} (h : Cells b 256 (fun _ => .int .u8 0) w) (ha : at' < 8) : Cells b 256 (fun j => .int .u8 (sum1 at' f j : Nat)) (w.setCells b (at' * 32) (arr f)) := by
  refine (h.splice (at' * 32) (arr f) (by rw [arr_len]; omega)).congr fun j hj => ?_
  rw [arr_len]
  unfold Go.Proofs.YtheccbnejamhlaaDoor.sum1
  by_cases hc : at' * 32 ≤ j ∧ j < at' * 32 + 32
  · rw [if_pos hc, if_pos hc, List.getD_eq_getElem?_getD, arr_at f _ (by omega)]
    rfl
  · rw [if_neg hc, if_neg hc]
    rfl
theorem arr_range {b : Nat} {f : Nat → Nat} {w : World} (h : Cells b 32 (fun j => .int .u8 (f j : Nat)) w) : w.rangeAt b 0 (arr f) :=
  h.range 0 _ fun j v hv => by
    have hj : j < 32 := by
      have := (List.getElem?_eq_some_iff.1 hv).1
      rwa [arr_len] at this
    refine ⟨by omega, ?_⟩
    rw [arr_at f j hj] at hv
    rw [Nat.zero_add]
    exact Option.some.inj hv
end Go.Proofs.YtheccbnejamhlaaDoor
