/-
  The node laws' awake; NodeSlots: for every level and every place the law answers true.
-/
import Derived.Test.YtheccbnejamhlaaDoorNodeZero2
namespace Go.Proofs.YtheccbnejamhlaaDoor
open Go.RowKit

theorem wpList_build0g {P : Program} {ops : Array Oper} {rest : List Oper} {op : Oper} {a : Act} {w : World} {Q : Exit → Act → World → Prop} (hw : Region.wanted op (yielded ops a.tmps) = true) (ty : TypeId) (ho : op.op = .build ty #[]) (v : Value)
    (hrun : (Instr.build ty #[]).run P w = .ok v w) (h : wpList P ops Q rest (a.put op.dst v) w) : wpList P ops Q (op :: rest) a w := by
  refine wpList_step fun K hK => ?_
  rw [if_pos hw]
  unfold Oper.wp execOp
  simp only [ho, Sem.run_bind, Sem.run_pure, Result.andThen_ok, List.map_toArray, List.map_nil, hrun]
  exact hK _ _ h
theorem eql_sum0 (w : World) : (binOp .eql 24 (.agg sum0.toArray) (.agg sum0.toArray)).run Tryd.prog w = .ok (.bool true) w := by kernel_rfl
theorem guard_sum0 (x y : Operand) (w : World) : (eqGuard .eql 24 x y (.agg sum0.toArray) (.agg sum0.toArray)).run Tryd.prog w = .ok () w := by kernel_rfl
set_option maxRecDepth 100000 in
set_option maxHeartbeats 4000000 in
theorem nodeAwake (w : World) : Calls Tryd.prog 17 #[] w fun e w' => e = .returned (.bool true) ∧ Below w.heap.size w w' := by
  have HSl : Hid (∀ wx : World, Calls Tryd.prog 27 #[.int .i64 1, .int .i64 19] wx fun e w' => e = .returned (.tuple #[.int .i64 2, .int .i64 3]) ∧ ∃ n, w' = wx.drewN n) := Lib.hid fun wx => slot_any 1 19 (by decide) wx
  have HSp : Hid (∀ wx : World, Calls Tryd.prog 28 #[.int .i64 2] wx fun e w' => e = .returned (.int .i64 512) ∧ wx = w') := Lib.hid fun wx => span_any 2 wx
  have HDg := Lib.hid fun wx => digest_nought 0 wx
  have HEm := Lib.hid fun wx => empty_nought wx
  have hb := build_sums0
  have hb2 := build_sum0
  have hb3 := build_node0
  have he := eql_sum0
  have hg := guard_sum0
  generalize sums0 = Z at *
  generalize sum0 = S at *
  generalize node0 = N at *
  go_enter Tryd.func17, Tryd.ntmps17
  go_wp2_with fail
  refine (HSl.out _).mono ?_
  rintro e w' ⟨rfl, n, rfl⟩
  have HB1 := Lib.hid (below_drewN (Below.refl w.heap.size w) n)
  generalize w.drewN n = w1 at *
  go_wp2_with (first
    | (go_at_call 28; with_reducible refine (HSp.out _).mono ?_; rintro e w' ⟨rfl, rfl⟩)
    | (with_reducible refine wpList_build0g (by kernel_rfl) 48 rfl _ (hb _) ?_))
  refine (HDg.out _).mono ?_
  rintro e w2 ⟨rfl, hb5⟩
  have HB2 := Lib.hid (HB1.out.trans (hb5.mono HB1.out.size))
  clear hb5
  go_wp2_with (first
    | (with_reducible refine wpList_build0g (by kernel_rfl) 24 rfl _ (hb2 _) ?_)
    | (with_reducible refine wpList_build0g (by kernel_rfl) 34 rfl _ (hb3 _) ?_))
  refine (HEm.out _).mono ?_
  rintro e w3 ⟨rfl, hb6⟩
  have HB3 := Lib.hid (HB2.out.trans (hb6.mono HB2.out.size))
  clear hb6
  go_wp2_with fail
  go_ret
  exact ⟨rfl, HB3.out⟩
end Go.Proofs.YtheccbnejamhlaaDoor
