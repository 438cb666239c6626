/-
  node: Empty of a node of noughts.
-/
import Derived.Test.YtheccbnejamhlaaDoorNodeKit
namespace Go.Proofs.YtheccbnejamhlaaDoor
open Go.RowKit

def node0 : Array Value := #[.int .i64 0, .int .i64 0, .int .i64 0, .int .i64 0, .int .i64 0, .int .i64 0, .int .i64 0, .int .i64 0, .int .i64 0, .int .u8 0, .int .u8 0, .int .u8 0, .int .u8 0, .int .u8 0, .int .u8 0, .int .u8 0, .int .u8 0, .int .u8 0, .int .u8 0, .int .u8 0, .int .u8 0, .int .u8 0, .int .u8 0, .int .u8 0, .int .u8 0, .int .u8 0, .int .u8 0, .int .u8 0, .int .u8 0, .int .u8 0, .int .u8 0, .int .u8 0, .int .u8 0, .int .u8 0, .int .u8 0, .int .u8 0, .int .u8 0, .int .u8 0, .int .u8 0, .int .u8 0, .int .u8 0]
def kids0 : List Value := [.int .i64 0, .int .i64 0, .int .i64 0, .int .i64 0, .int .i64 0, .int .i64 0, .int .i64 0, .int .i64 0]
theorem build_node0 (w : World) : (Instr.build 34 #[]).run Tryd.prog w = .ok (.agg node0) w := by kernel_rfl
theorem eql_kids0 (w : World) : (Op.equalIn 10000 32 (.agg kids0.toArray) (.agg #[.int .i64 0, .int .i64 0, .int .i64 0, .int .i64 0, .int .i64 0, .int .i64 0, .int .i64 0, .int .i64 0])).run Tryd.prog w = .ok true w := by kernel_rfl
theorem range_kids0 (w : World) (t : TypeId) : (w.alloc (.cells node0 t)).rangeAt w.heap.size 1 kids0 := by
  intro j v hv
  have hj : j < 8 := by
    have := (List.getElem?_eq_some_iff.1 hv).1
    simpa [kids0] using this
  rw [World.cell?_alloc_new]
  revert v
  obtain rfl | rfl | rfl | rfl | rfl | rfl | rfl | rfl : j = 0 ∨ j = 1 ∨ j = 2 ∨ j = 3 ∨ j = 4 ∨ j = 5 ∨ j = 6 ∨ j = 7 := by omega
  all_goals
    intro v hv
    exact hv
set_option maxRecDepth 100000 in
set_option maxHeartbeats 4000000 in
theorem empty_nought (w : World) : Calls Tryd.prog 21 #[.agg node0] w fun e w' => e = .returned (.bool true) ∧ Below w.heap.size w w' := by
  have hr := range_kids0 w 34
  have he := eql_kids0
  have hi : (Tryd.prog.info? 32).map (·.size) = some kids0.length := by kernel_rfl
  have HI := Lib.hid hi
  clear hi
  generalize hK : kids0 = K at *
  generalize hN : node0 = N at *
  go_enter Tryd.func21, Tryd.ntmps21
  go_wp2_with (with_reducible refine wpList_load_mid rfl 32 _ rfl w.heap.size 1 rfl K _ hr Tryd.underlying32 rfl HI.out ?_)
  go_ret
  exact ⟨rfl, (Below.refl _ _).alloc (Nat.le_refl _) _⟩
end Go.Proofs.YtheccbnejamhlaaDoor
