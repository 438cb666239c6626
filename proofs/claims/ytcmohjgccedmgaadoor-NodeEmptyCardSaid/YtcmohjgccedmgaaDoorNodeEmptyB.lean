/-
  NodeEmpty: blocks that hold a node, sums.
-/
import Derived.Test.YtcmohjgccedmgaaDoorNodeEmptyA
import Derived.Deep.RegionHeld3
namespace Go.Proofs.YtcmohjgccedmgaaDoor
open Go.RowKit

theorem neq_sum0 (w : World) : (binOp .neq 24 (.agg sum0.toArray) (.agg sum0.toArray)).run Tryd.prog w = .ok (.bool false) w := by kernel_rfl
theorem neqg_sum0 (x y : Operand) (w : World) : (eqGuard .neq 24 x y (.agg sum0.toArray) (.agg sum0.toArray)).run Tryd.prog w = .ok () w := by kernel_rfl
theorem allz0 : allz (fun _ => 0) = true := by decide
def cellsAt (N : List Value) (j : Nat) : Value := N.getD j .nilIface
theorem cellsAt_get (N : List Value) (j : Nat) (h : j < N.length) : N[j]? = some (cellsAt N j) := by
  unfold cellsAt
  rw [List.getD_eq_getElem?_getD, List.getElem?_eq_getElem h]
  rfl
theorem Cells.all {b : Nat} {N : List Value} {n : Nat} {w : World} (hn : N.length = n) (h : Cells b n (cellsAt N) w) : w.rangeAt b 0 N :=
  h.range 0 N fun j v hv => by
    have hj := (List.getElem?_eq_some_iff.1 hv).1
    refine ⟨by omega, ?_⟩
    rw [Nat.zero_add]
    rw [cellsAt_get N j hj] at hv
    exact Option.some.inj hv
/-- one kid -/
def kid1 (at' kd : Nat) (j : Nat) : Nat := if j = at' then kd else 0
/-- one sum -/
def sum1 (at' : Nat) (f : Nat → Nat) (j : Nat) : Nat := if at' * 32 ≤ j ∧ j < at' * 32 + 32 then f (j - at' * 32) else 0
theorem allz_kid (at' kd : Nat) (h : at' < 8) : allz (kid1 at' kd) = (kd == 0) := by
  unfold allz
  rw [Bool.eq_iff_iff, List.all_eq_true, beq_iff_eq]
  constructor
  · intro k
    have := k at' (by simpa using h)
    rw [beq_iff_eq] at this
    unfold kid1 at this
    rwa [if_pos rfl] at this
  · intro k j _
    rw [beq_iff_eq]
    unfold kid1
    split
    · exact k
    · rfl
theorem sum1_lt (at' : Nat) (f : Nat → Nat) (hf : ∀ j, f j < 256) (j : Nat) : sum1 at' f j < 256 := by
  unfold sum1
  split
  · exact hf _
  · decide
/-- the node's block behind the store of its one kid -/
theorem Cells.kid {b at' kd : Nat} {lv : Int} {f : Nat → Nat} {w : World} (h : Cells b 41 (cellsAt (nodeL lv (fun _ => 0) f)) w) (ha : at' < 8) :
    Cells b 41 (cellsAt (nodeL lv (kid1 at' kd) f)) (w.setCell ⟨b, 1 + at', none⟩ (.int .i64 (kd : Nat))) := by
  have e : ∀ (k : Nat → Nat) j, cellsAt (nodeL lv k f) j = if 1 ≤ j ∧ j < 9 then .int .i64 (k (j - 1) : Nat) else cellsAt (nodeL lv (fun _ => 0) f) j := fun k j => by
    by_cases hj : 1 ≤ j ∧ j < 9
    · rw [if_pos hj]
      have h1 := nodeL_kid lv k f (j - 1) (by omega)
      rw [show 1 + (j - 1) = j by omega] at h1
      unfold cellsAt
      rw [List.getD_eq_getElem?_getD, h1]
      rfl
    · rw [if_neg hj]
      unfold cellsAt nodeL
      rw [List.getD_eq_getElem?_getD, List.getD_eq_getElem?_getD]
      rcases Nat.eq_zero_or_pos j with rfl | hp
      · rfl
      · obtain ⟨m, rfl⟩ : ∃ m, j = m + 1 := ⟨j - 1, by omega⟩
        rw [List.getElem?_cons_succ, List.getElem?_cons_succ, List.getElem?_append_right (by rw [kidsL_len]; omega), List.getElem?_append_right (by rw [kidsL_len]; omega), kidsL_len, kidsL_len]
  refine h.set (1 + at') _ (by omega) ?_ fun j hj hne => ?_
  · rw [e, if_pos ⟨by omega, by omega⟩, show 1 + at' - 1 = at' by omega]
    unfold kid1
    rw [if_pos rfl]
  · rw [e (kid1 at' kd), e fun _ => 0]
    by_cases hc : 1 ≤ j ∧ j < 9
    · rw [if_pos hc, if_pos hc]
      unfold kid1
      rw [if_neg (by omega)]
    · rw [if_neg hc, if_neg hc]
theorem Cells.sum1 {b at' : Nat} {f : Nat → Nat} {w : World} (h : Cells b 256 (fun _ => .int .u8 0) w) (ha : at' < 8) : Cells b 256 (fun j => .int .u8 (sum1 at' f j : Nat)) (w.setCells b (at' * 32) (arr f)) := by
  refine (h.splice (at' * 32) (arr f) (by rw [arr_len]; omega)).congr fun j hj => ?_
  rw [arr_len]
  unfold Go.Proofs.YtcmohjgccedmgaaDoor.sum1
  by_cases hc : at' * 32 ≤ j ∧ j < at' * 32 + 32
  · rw [if_pos hc, if_pos hc, List.getD_eq_getElem?_getD, arr_at f _ (by omega)]
    rfl
  · rw [if_neg hc, if_neg hc]
    rfl
theorem arr_range {b : Nat} {f : Nat → Nat} {w : World} (h : Cells b 32 (fun j => .int .u8 (f j : Nat)) w) : w.rangeAt b 0 (arr f) :=
  h.range 0 _ fun j v hv => by
    have hj : j < 32 := by
      have := (List.getElem?_eq_some_iff.1 hv).1
      rwa [arr_len] at this
    refine ⟨by omega, ?_⟩
    rw [arr_at f j hj] at hv
    rw [Nat.zero_add]
    exact Option.some.inj hv
end Go.Proofs.YtcmohjgccedmgaaDoor
