/-
  node: Digest of noughts: noughts.
-/
import Derived.Test.YtheccbnejamhlaaDoorNodeZero
namespace Go.Proofs.YtheccbnejamhlaaDoor
open Go.RowKit

def sums0 : List Value := List.replicate 256 (.int .u8 0)
def sum0 : List Value := List.replicate 32 (.int .u8 0)
theorem build_sums0 (w : World) : (Instr.build 48 #[]).run Tryd.prog w = .ok (.agg sums0.toArray) w := by kernel_rfl
theorem build_sum0 (w : World) : (Instr.build 24 #[]).run Tryd.prog w = .ok (.agg sum0.toArray) w := by kernel_rfl
theorem eql_sums0 (w : World) : (binOp .eql 48 (.agg sums0.toArray) (.agg sums0.toArray)).run Tryd.prog w = .ok (.bool true) w := by kernel_rfl
theorem guard_sums0 (x y : Operand) (w : World) : (eqGuard .eql 48 x y (.agg sums0.toArray) (.agg sums0.toArray)).run Tryd.prog w = .ok () w := by kernel_rfl
theorem wpList_build0 {P : Program} {ops : Array Oper} {rest : List Oper} {op : Oper} {a : Act} {w : World} {Q : Exit → Act → World → Prop} (hgd : op.guard = none) (ty : TypeId) (ho : op.op = .build ty #[]) (v : Value)
    (hrun : (Instr.build ty #[]).run P w = .ok v w) (h : wpList P ops Q rest (a.put op.dst v) w) : wpList P ops Q (op :: rest) a w := by
  refine wpList_plain hgd fun K hK => ?_
  unfold Oper.wp execOp
  simp only [ho, Sem.run_bind, Sem.run_pure, Result.andThen_ok, List.map_toArray, List.map_nil, hrun]
  exact hK _ _ h
set_option maxRecDepth 100000 in
set_option maxHeartbeats 4000000 in
theorem digest_nought (l : Int) (w : World) : Calls Tryd.prog 25 #[.int .i64 l, .agg sums0.toArray] w fun e w' => e = .returned (.agg sum0.toArray) ∧ Below w.heap.size w w' := by
  have hr : ((w.alloc (.cells sums0.toArray 48)).alloc (.cells lit32 24)).rangeAt w.heap.size 0 sums0 := box_range _
  have hb := build_sums0
  have he := eql_sums0
  have hg := guard_sums0
  have hb2 := build_sum0
  have HI : Hid ((Tryd.prog.info? 48).map (·.size) = some sums0.length) := Lib.hid (by kernel_rfl)
  have HI2 : Hid ((Tryd.prog.info? 24).map (·.size) = some sum0.length) := Lib.hid (by kernel_rfl)
  have HI3 : Hid ((Tryd.prog.info? 24).map (·.size) = some sum0.toArray.size) := Lib.hid (by kernel_rfl)
  have HO : Hid (sum0.toArray.all (·.oneCell') = true) := Lib.hid (by kernel_rfl)
  have HTh : Hid (((w.alloc (.cells sums0.toArray 48)).alloc (.cells lit32 24)).there (w.heap.size + 1) 0 sum0.toArray.size) := Lib.hid (by
    have := (Cells.new (w.alloc (.cells sums0.toArray 48)) 32 _ 24 _ lit32_at).there 0 sum0.toArray.size (by simp [sum0])
    simpa using this)
  have HBl : Hid (Below w.heap.size w ((w.alloc (.cells sums0.toArray 48)).alloc (.cells lit32 24))) := Lib.hid (((Below.refl _ _).alloc (Nat.le_refl _) _).alloc (by simp) _)
  generalize sums0 = Z at *
  generalize sum0 = S at *
  go_enter Tryd.func25, Tryd.ntmps25
  go_wp2_with (first
    | (with_reducible refine wpList_alloc rfl 24 rfl _ (alloc_sum _) ?_)
    | (with_reducible refine wpList_build0 rfl 48 rfl _ (hb _) ?_)
    | (with_reducible refine wpList_build0 rfl 24 rfl _ (hb2 _) ?_)
    | (with_reducible refine wpList_load_mid rfl 48 _ rfl w.heap.size 0 rfl Z _ hr Tryd.underlying48 rfl HI.out ?_)
    | (with_reducible refine wpList_store_mid rfl 24 _ _ rfl (w.heap.size + 1) 0 S.toArray rfl rfl HTh.out HI3.out HO.out ?_))
  trace_state
  refine bodyPost_ret (v := .agg S.toArray) ?_ rfl ⟨rfl, below_row HBl.out S (by simp)⟩
  exact results_mid Tryd.results25 _ _ (w.heap.size + 1) 0 S _ rfl (World.rangeAt_setCells_same _ _ _ _ (by have z := HTh.out; rwa [List.size_toArray] at z)) Tryd.underlying24 rfl HI2.out
end Go.Proofs.YtheccbnejamhlaaDoor
