/-
  node: eight sums as a value: one of them, two of them compared; an Out on its way through calls.
-/
import Derived.Test.YtheccbnejamhlaaDoorNodeAwake
import Derived.Test.YtheccbnejamhlaaDoorOutVia
namespace Go.Proofs.YtheccbnejamhlaaDoor
open Go.RowKit

theorem cells_sum : Tryd.prog.cellsOf 24 = 32 := by kernel_rfl
theorem cells_u8 : Tryd.prog.cellsOf 5 = 1 := by kernel_rfl
/-- eight sums' bytes -/
def sums (f : Nat → Nat) : List Value := (List.range 256).map fun j => Value.int .u8 (f j : Nat)
theorem sums_at (f : Nat → Nat) (j : Nat) (h : j < 256) : (sums f)[j]? = some (.int .u8 (f j : Nat)) := by
  unfold sums
  rw [List.getElem?_map, List.getElem?_range h]
  rfl
theorem sums_len (f : Nat → Nat) : (sums f).length = 256 := by simp [sums]
theorem sums_one (f : Nat → Nat) : (sums f).toArray.all (·.oneCell') = true :=
  all_oneCell_toArray fun v hv => by
    unfold sums at hv
    rw [List.mem_map] at hv
    obtain ⟨x, _, rfl⟩ := hv
    rfl
theorem sums_zero : sums (fun _ => 0) = sums0 := by
  unfold sums sums0
  exact List.map_const'.trans (by rw [List.length_range]; rfl)
theorem arr_zero : arr (fun _ => 0) = sum0 := by
  unfold arr sum0
  exact List.map_const'.trans (by rw [List.length_range]; rfl)
theorem sums_part (f : Nat → Nat) (k : Nat) (h : k < 8) : List.take 32 (List.drop (k * 32) (sums f)) = arr fun j => f (k * 32 + j) := by
  apply List.ext_getElem?
  intro j
  by_cases hj : j < 32
  · rw [List.getElem?_take_of_lt (by omega), List.getElem?_drop, sums_at f _ (by omega)]
    exact (arr_at (fun j => f (k * 32 + j)) j hj).symm
  · rw [List.getElem?_eq_none (by rw [List.length_take, List.length_drop, sums_len]; omega), List.getElem?_eq_none (by rw [arr_len]; omega)]
theorem part_sums (f : Nat → Nat) (k : Nat) (h : k < 8) (w : World) : (part 24 (sums f).toArray (k * 32)).run Tryd.prog w = .ok (.agg (arr fun j => f (k * 32 + j)).toArray) w := by
  obtain ⟨i, hi⟩ : ∃ i, Tryd.prog.info? 24 = some i := info_of_underlying Tryd.underlying24
  have hs := run_sizeOf (P := Tryd.prog) w hi
  rw [cells_sum] at hs
  have e := sums_part f k h
  generalize sums f = X at *
  simp [part, isAgg, run_underlying Tryd.underlying24, e]
theorem cells_32 : Tryd.prog.cellsOf 23 = 32 := by kernel_rfl
theorem part_sums' (f : Nat → Nat) (k : Nat) (h : k < 8) (w : World) : (part 23 (sums f).toArray (k * 32)).run Tryd.prog w = .ok (.agg (arr fun j => f (k * 32 + j)).toArray) w := by
  obtain ⟨i, hi⟩ : ∃ i, Tryd.prog.info? 23 = some i := info_of_underlying Tryd.underlying23
  have hs := run_sizeOf (P := Tryd.prog) w hi
  rw [cells_32] at hs
  have e := sums_part f k h
  generalize sums f = X at *
  simp [part, isAgg, run_underlying Tryd.underlying23, e]
theorem index_sums (f : Nat → Nat) (k : Nat) (h : k < 8) (w : World) : (Instr.index 48 (.agg (sums f).toArray) (.int .i64 (k : Int))).run Tryd.prog w = .ok (.agg (arr fun j => f (k * 32 + j)).toArray) w := by
  obtain ⟨i, hi⟩ : ∃ i, Tryd.prog.info? 24 = some i := info_of_underlying Tryd.underlying24
  have hs := run_sizeOf (P := Tryd.prog) w hi
  rw [cells_sum] at hs
  have e := part_sums f k h w
  generalize sums f = X at *
  generalize arr (fun j => f (k * 32 + j)) = Y at *
  simp [Instr.index, asIntOf, run_underlying Tryd.underlying48, hs, e]
  omega
theorem index_sums' (f : Nat → Nat) (k : Nat) (h : k < 8) (w : World) : (Instr.index 47 (.agg (sums f).toArray) (.int .i64 (k : Int))).run Tryd.prog w = .ok (.agg (arr fun j => f (k * 32 + j)).toArray) w := by
  obtain ⟨i, hi⟩ : ∃ i, Tryd.prog.info? 23 = some i := info_of_underlying Tryd.underlying23
  have hs := run_sizeOf (P := Tryd.prog) w hi
  rw [cells_32] at hs
  have e := part_sums' f k h w
  generalize sums f = X at *
  generalize arr (fun j => f (k * 32 + j)) = Y at *
  simp [Instr.index, asIntOf, run_underlying Tryd.underlying47, hs, e]
  omega
/-- are so many bytes the same? -/
def all2 (f g : Nat → Nat) (n : Nat) : Bool := (List.range n).all fun j => f j == g j
theorem arr_eql (f g : Nat → Nat) (d : Nat) (w : World) : (Op.equalIn (d + 2) 24 (.agg (arr f).toArray) (.agg (arr g).toArray)).run Tryd.prog w = .ok (all2 f g 32) w := by
  obtain ⟨i, hi⟩ : ∃ i, Tryd.prog.info? 5 = some i := info_of_underlying Tryd.underlying5
  have h := fun (X Y : Array Value) (hX : ∀ j ∈ List.range 32, X[j]? = some (.int .u8 (f j : Nat))) (hY : ∀ j ∈ List.range 32, Y[j]? = some (.int .u8 (g j : Nat))) => items_run d f g X Y w (List.range 32) hX hY
  have h := h (arr f).toArray (arr g).toArray (fun j hj => by rw [List.getElem?_toArray]; exact arr_at f j (by simpa using hj)) (fun j hj => by rw [List.getElem?_toArray]; exact arr_at g j (by simpa using hj))
  generalize arr f = X at *
  generalize arr g = Y at *
  exact (run_equalIn_array (P := Tryd.prog) w (d + 1) (e := 5) (n := 32) (i := i) X.toArray Y.toArray Tryd.underlying24 hi).trans (by rw [cells_u8]; exact h)
theorem arr_eql' (f g : Nat → Nat) (d : Nat) (w : World) : (Op.equalIn (d + 2) 23 (.agg (arr f).toArray) (.agg (arr g).toArray)).run Tryd.prog w = .ok (all2 f g 32) w := by
  obtain ⟨i, hi⟩ : ∃ i, Tryd.prog.info? 5 = some i := info_of_underlying Tryd.underlying5
  have h := fun (X Y : Array Value) (hX : ∀ j ∈ List.range 32, X[j]? = some (.int .u8 (f j : Nat))) (hY : ∀ j ∈ List.range 32, Y[j]? = some (.int .u8 (g j : Nat))) => items_run d f g X Y w (List.range 32) hX hY
  have h := h (arr f).toArray (arr g).toArray (fun j hj => by rw [List.getElem?_toArray]; exact arr_at f j (by simpa using hj)) (fun j hj => by rw [List.getElem?_toArray]; exact arr_at g j (by simpa using hj))
  generalize arr f = X at *
  generalize arr g = Y at *
  exact (run_equalIn_array (P := Tryd.prog) w (d + 1) (e := 5) (n := 32) (i := i) X.toArray Y.toArray Tryd.underlying23 hi).trans (by rw [cells_u8]; exact h)
def all8 (f g : Nat → Nat) : Bool := (List.range 8).all fun i => all2 (fun j => f (i * 32 + j)) (fun j => g (i * 32 + j)) 32
theorem eq_items {P : Program} (X Y : Array Value) (R : Nat → Bool) (d m n : Nat) (e : TypeId) (w : World)
    (hs : ∀ i, i < m → ∃ a b, (part e X (i * n)).run P w = .ok a w ∧ (part e Y (i * n)).run P w = .ok b w ∧ (Op.equalIn d e a b).run P w = .ok (R i) w) (is : List Nat) (h : ∀ i ∈ is, i < m) :
    (Op.eqItems d e n X Y is).run P w = .ok (is.all R) w := by
  induction is with
  | nil => simp [Op.eqItems]
  | cons i is ih =>
    have ih := ih fun j hj => h j (List.mem_cons_of_mem _ hj)
    obtain ⟨a, b, p1, p2, p3⟩ := hs i (h i List.mem_cons_self)
    simp only [Op.eqItems, Sem.run_bind, p1, p2, p3, Result.andThen_ok, List.all_cons]
    cases hc : R i
    · simp
    · simpa using ih
theorem sums_eql (f g : Nat → Nat) (w : World) : (Op.equalIn 10000 48 (.agg (sums f).toArray) (.agg (sums g).toArray)).run Tryd.prog w = .ok (all8 f g) w := by
  obtain ⟨i, hi⟩ : ∃ i, Tryd.prog.info? 24 = some i := info_of_underlying Tryd.underlying24
  have h := eq_items (P := Tryd.prog) (sums f).toArray (sums g).toArray (fun i => all2 (fun j => f (i * 32 + j)) (fun j => g (i * 32 + j)) 32) 9999 8 32 24 w
    (fun i hi => ⟨_, _, part_sums f i hi w, part_sums g i hi w, arr_eql _ _ 9997 w⟩) (List.range 8) fun j hj => by simpa using hj
  have e : all8 f g = (List.range 8).all (fun i => all2 (fun j => f (i * 32 + j)) (fun j => g (i * 32 + j)) 32) := rfl
  rw [e]
  generalize (List.range 8).all (fun i => all2 (fun j => f (i * 32 + j)) (fun j => g (i * 32 + j)) 32) = Q at *
  clear e
  generalize sums f = X at *
  generalize sums g = Y at *
  exact (run_equalIn_array (P := Tryd.prog) w 9999 (e := 24) (n := 8) (i := i) X.toArray Y.toArray Tryd.underlying48 hi).trans (by rw [cells_sum]; exact h)
theorem sums_binop (f g : Nat → Nat) (w : World) : (binOp .eql 48 (.agg (sums f).toArray) (.agg (sums g).toArray)).run Tryd.prog w = .ok (.bool (all8 f g)) w := by
  have := sums_eql f g w
  generalize sums f = X at *
  generalize sums g = Y at *
  simp [binOp, Op.equal, Op.maxDepth, this]
theorem sums_guard (f g : Nat → Nat) (x y : Operand) (w : World) : (eqGuard .eql 48 x y (.agg (sums f).toArray) (.agg (sums g).toArray)).run Tryd.prog w = .ok () w :=
  run_eqGuard_agg (P := Tryd.prog) w .eql _ x y _ _ (by kernel_rfl)
theorem arr_binop (f g : Nat → Nat) (w : World) : (binOp .eql 24 (.agg (arr f).toArray) (.agg (arr g).toArray)).run Tryd.prog w = .ok (.bool (all2 f g 32)) w := by
  have := arr_eql f g 9998 w
  generalize arr f = X at *
  generalize arr g = Y at *
  simp [binOp, Op.equal, Op.maxDepth, this]
theorem arr_binop' (f g : Nat → Nat) (w : World) : (binOp .eql 23 (.agg (arr f).toArray) (.agg (arr g).toArray)).run Tryd.prog w = .ok (.bool (all2 f g 32)) w := by
  have := arr_eql' f g 9998 w
  generalize arr f = X at *
  generalize arr g = Y at *
  simp [binOp, Op.equal, Op.maxDepth, this]
theorem arr_guard (f g : Nat → Nat) (x y : Operand) (w : World) : (eqGuard .eql 24 x y (.agg (arr f).toArray) (.agg (arr g).toArray)).run Tryd.prog w = .ok () w :=
  run_eqGuard_agg (P := Tryd.prog) w .eql _ x y _ _ (by kernel_rfl)
theorem arr_guard' (f g : Nat → Nat) (x y : Operand) (w : World) : (eqGuard .eql 23 x y (.agg (arr f).toArray) (.agg (arr g).toArray)).run Tryd.prog w = .ok () w :=
  run_eqGuard_agg (P := Tryd.prog) w .eql _ x y _ _ (by kernel_rfl)
theorem all2_iff (f g : Nat → Nat) (n : Nat) : all2 f g n = true ↔ ∀ j, j < n → f j = g j := by
  unfold all2
  rw [List.all_eq_true]
  exact ⟨fun h j hj => by have := h j (by simpa using hj); rwa [beq_iff_eq] at this, fun h j hj => by rw [beq_iff_eq]; exact h j (by simpa using hj)⟩
theorem all8_iff (f g : Nat → Nat) : all8 f g = true ↔ ∀ j, j < 256 → f j = g j := by
  unfold all8
  rw [List.all_eq_true]
  constructor
  · intro h j hj
    have := (all2_iff _ _ 32).1 (h (j / 32) (by simp; omega)) (j % 32) (by omega)
    rw [show j / 32 * 32 + j % 32 = j by omega] at this
    exact this
  · intro h i hi
    have hi' : i < 8 := by simpa using hi
    exact (all2_iff _ _ 32).2 fun j hj => h _ (by omega)
/-- the texts of the first sums, one behind the other -/
def texts8 (f : Nat → Nat) : Nat → List UInt8
  | 0 => []
  | k + 1 => texts8 f k ++ txt fun j => f (k * 32 + j)
theorem txt_len (f : Nat → Nat) : (txt f).length = 32 := by simp [txt]
theorem texts8_len (f : Nat → Nat) : ∀ k, (texts8 f k).length = 32 * k
  | 0 => rfl
  | k + 1 => by
    show (texts8 f k ++ _).length = _
    rw [List.length_append, texts8_len f k, txt_len]
    omega
end Go.Proofs.YtheccbnejamhlaaDoor
