/-
  The answers that the document fixes: the law's awake, in every world.
-/
import Derived.Test.YtpgmgopcgoblhaaDoorStreamLawP
namespace Go.Proofs.YtpgmgopcgoblhaaDoor
open Go.RowKit

theorem wpList_build0g {P : Program} {ops : Array Oper} {rest : List Oper} {op : Oper} {a : Act} {w : World} {Q : Exit → Act → World → Prop} (hw : Region.wanted op (yielded ops a.tmps) = true) (ty : TypeId) (ho : op.op = .build ty #[]) (v : Value)
    (hrun : (Instr.build ty #[]).run P w = .ok v w) (h : wpList P ops Q rest (a.put op.dst v) w) : wpList P ops Q (op :: rest) a w := by
  refine wpList_step fun K hK => ?_
  rw [if_pos hw]
  unfold Oper.wp execOp
  simp only [ho, Sem.run_bind, Sem.run_pure, Result.andThen_ok, List.map_toArray, List.map_nil, hrun]
  exact hK _ _ h
theorem build_st1 (w : World) : (Instr.build 28 #[(0, .int .i64 1)]).run Tryd.prog w = .ok (.agg (stL 1 z32 z32 (.slice none 0 0)).toArray) w := by kernel_rfl
theorem build_st0 (w : World) : (Instr.build 28 #[]).run Tryd.prog w = .ok (.agg st0.toArray) w := by kernel_rfl
theorem nil_its (w : World) : ItsAt w (.slice none 0 0) [] := Or.inl ⟨rfl, rfl⟩
theorem awake77 : (allB ⟨1, z32, z32, []⟩).length = 77 := by
  unfold allB bodyB headB markB itsB
  simp [enc_len, z32]
theorem awake_bytes (w : World) : Calls Tryd.prog 12 #[.agg (stL 1 z32 z32 (.slice none 0 0)).toArray] w fun e w' => ∃ T : ByteArray, T.size = 77 ∧ e = .returned (.string T) ∧ Below w.heap.size w w' := by
  refine (stBytes_any 1 z32 z32 (.slice none 0 0) [] w (by decide) rfl rfl (nil_its w) (by decide) (by simp) (by unfold bodyB headB markB itsB; simp [enc_len, z32])).mono ?_
  rintro e w' ⟨rfl, h⟩
  exact ⟨⟨(allB ⟨1, z32, z32, []⟩).toArray⟩, by rw [ba_size]; exact awake77, rfl, h⟩
theorem awake_check1 (w : World) : Calls Tryd.prog 9 #[.agg (stL 1 z32 z32 (.slice none 0 0)).toArray] w fun e w' => e = .returned (.int .i64 0) ∧ Below w.heap.size w w' :=
  check_any 1 z32 z32 (.slice none 0 0) [] w rfl rfl (nil_its w) (by decide) (by simp)
theorem awake_check0 (w : World) : Calls Tryd.prog 9 #[.agg st0.toArray] w fun e w' => e = .returned (.int .i64 4) ∧ Below w.heap.size w w' :=
  check_any 0 z32 z32 (.slice none 0 0) [] w rfl rfl (nil_its w) (by decide) (by simp)
theorem awake_abc (w : World) : Calls Tryd.prog 11 #[.string { data := #[97, 98, 99] }] w fun e w' => e = .returned (.tuple #[.agg st0.toArray, .int .i64 2]) ∧ Below w.heap.size w w' := by
  refine (lawParse_any [97, 98, 99] w (by decide)).mono ?_
  rintro e w' ⟨hb, N, o, rfl, hl, hp⟩
  rcases hp with ⟨k, h1, rfl, rfl⟩ | ⟨s, v, h1, _⟩
  · rw [allP_awake] at h1
    injection h1 with h1
    subst h1
    exact ⟨rfl, hb⟩
  · rw [allP_awake] at h1
    cases h1
set_option maxRecDepth 100000 in
set_option maxHeartbeats 2000000 in
theorem streamAwake (w : World) : Calls Tryd.prog 6 #[] w fun e w' => e = .returned (.bool true) ∧ Below w.heap.size w w' := by
  have HAl := alloc_st
  have HB1 := Lib.hid build_st1
  have HB0 := Lib.hid build_st0
  have HBy := Lib.hid awake_bytes
  have HC1 := Lib.hid awake_check1
  have HC0 := Lib.hid awake_check0
  have HAb := Lib.hid awake_abc
  have HSt := Lib.hid (fun wx => st0_cells wx)
  obtain ⟨A1, hA1⟩ : ∃ A1, stL 1 z32 z32 (.slice none 0 0) = A1 := ⟨_, rfl⟩
  have hl1 : A1.length = 66 := by rw [← hA1]; rfl
  have ho1 : A1.toArray.all (·.oneCell') = true := by rw [← hA1]; exact one_st _ _ _ _ rfl
  rw [hA1] at HB1 HBy HC1
  obtain ⟨Z, hZ⟩ : ∃ Z, st0.toArray = Z := ⟨_, rfl⟩
  have hZo : Z.all (·.oneCell') = true := by rw [← hZ]; exact one_st _ _ _ _ rfl
  have hZs : Z.size = 66 := by rw [← hZ]; rfl
  have hZl : Z.toList = st0 := by rw [← hZ]
  rw [hZ] at HAl HB0 HC0 HAb HSt
  have HI1 : Hid ((Tryd.prog.info? 28).map (·.size) = some A1.toArray.size) := Lib.hid (by rw [List.size_toArray, hl1]; kernel_rfl)
  have HI2 : Hid ((Tryd.prog.info? 28).map (·.size) = some A1.length) := Lib.hid (by rw [hl1]; kernel_rfl)
  have HIZ : Hid ((Tryd.prog.info? 28).map (·.size) = some Z.size) := Lib.hid (by rw [hZs]; kernel_rfl)
  have HO1 := Lib.hid ho1
  have HOZ := Lib.hid hZo
  have C0 := HSt.out w
  have HT1 : Hid ((w.alloc (.cells Z 28)).there w.heap.size 0 A1.toArray.size) := Lib.hid (C0.there 0 _ (by simp [hl1]))
  have HCA := Lib.hid (C0.fill (N := A1) hl1)
  have HBA : Hid (Below w.heap.size w ((w.alloc (.cells Z 28)).setCells w.heap.size 0 A1)) := Lib.hid (below_row ((Below.refl _ w).alloc (Nat.le_refl _) _) A1 (Nat.le_refl _))
  have HL1 := Lib.hid hl1
  have HZs := Lib.hid hZs
  clear hA1 hl1 ho1 hZ hZo hZs hZl C0
  go_enter Tryd.func6, Tryd.ntmps6
  go_upto_region 2 with (first
    | (refine wpList_build1 rfl 28 0 _ rfl (.int .i64 1) (.agg A1.toArray) rfl (HB1.out _) ?_)
    | (refine wpList_alloc rfl 28 rfl _ (HAl _) ?_)
    | (with_reducible refine wpList_store_mid rfl 28 _ _ rfl w.heap.size 0 A1.toArray rfl rfl HT1.out HI1.out HO1.out ?_))
  generalize (w.alloc (.cells Z 28)).setCells w.heap.size 0 A1 = w1 at *
  go_wp2_with fail
  refine (HAb.out w1).mono ?_
  rintro e w2 ⟨rfl, hb⟩
  have HB2 := Lib.hid (HBA.out.trans (hb.mono HBA.out.size))
  have HCA2 := Lib.hid (HCA.out.below hb)
  have C2 := HSt.out w2
  have HT2 : Hid ((w2.alloc (.cells Z 28)).there w2.heap.size 0 Z.size) := Lib.hid (C2.there 0 _ (by rw [HZs.out]; decide))
  have hb3 : Below w2.heap.size w2 ((w2.alloc (.cells Z 28)).setCells w2.heap.size 0 Z.toList) := below_row ((Below.refl _ w2).alloc (Nat.le_refl _) _) _ (Nat.le_refl _)
  have HB3 := Lib.hid (HB2.out.trans (hb3.mono HB2.out.size))
  have HCA3 := Lib.hid (HCA2.out.below hb3)
  clear hb hb3 C2 HBA HCA
  go_upto_region 3 with (first
    | (refine wpList_alloc rfl 28 rfl _ (HAl _) ?_)
    | (with_reducible refine wpList_store_mid rfl 28 _ _ rfl w2.heap.size 0 Z rfl rfl HT2.out HIZ.out HOZ.out ?_))
  generalize (w2.alloc (.cells Z 28)).setCells w2.heap.size 0 Z.toList = w3 at *
  have hr3 := Cells.all HL1.out HCA3.out
  clear HT2
  go_wp2_with (with_reducible refine wpList_load_mid rfl 28 _ rfl w.heap.size 0 rfl A1 _ hr3 Tryd.underlying28 rfl HI2.out ?_)
  refine (HBy.out w3).mono ?_
  rintro e w4 ⟨T, hT, rfl, hb4⟩
  have HB4 := Lib.hid (HB3.out.trans (hb4.mono HB3.out.size))
  have hr4 := Cells.all HL1.out (HCA3.out.below hb4)
  have hTi : (T.size : Int) = 77 := by omega
  clear hb4 hT
  go_wp2_with (with_reducible refine wpList_load_g (by kernel_rfl) 28 _ rfl w.heap.size 0 rfl A1 _ hr4 Tryd.underlying28 rfl HI2.out ?_)
  refine (HC1.out w4).mono ?_
  rintro e w5 ⟨rfl, hb5⟩
  have HB5 := Lib.hid (HB4.out.trans (hb5.mono HB4.out.size))
  clear hb5
  go_wp2_with (refine wpList_build0g (by kernel_rfl) 28 rfl _ (HB0.out _) ?_)
  refine (HC0.out w5).mono ?_
  rintro e w6 ⟨rfl, hb6⟩
  have HB6 := Lib.hid (HB5.out.trans (hb6.mono HB5.out.size))
  clear hb6
  go_wp2_with fail
  go_ret
  exact ⟨rfl, HB6.out⟩
end Go.Proofs.YtpgmgopcgoblhaaDoor
