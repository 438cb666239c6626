/-
  A sum is taken of an In: contracts (written by gen_stsum.py).
-/
import Derived.Test.YtpgmgopcgoblhaaDoorStreamIn
import Derived.Deep.RegionHeld3
namespace Go.Proofs.YtpgmgopcgoblhaaDoor
open Go.RowKit

theorem alloc_sum (w : World) : (Instr.alloc 25 true (.tuple #[])).run Tryd.prog w = .ok (.pointer (some ⟨w.heap.size, 0, none⟩)) (w.alloc (.cells (cellsOf (List.replicate 32 0)).toArray 25)) := by kernel_rfl
theorem InP.row {q : Nat} {r : List UInt8} {w : World} (h : InP q r w) (c o : Nat) (l : List Value) (hc : q ≠ c) : InP q r (w.setCells c o l) :=
  h.grew (Grew.row (S := fun k => k = c) (Grew.refl w) c o l (fun _ => rfl)) hc
set_option maxRecDepth 100000 in
set_option maxHeartbeats 1000000 in
theorem sum_end (q : Nat) (r : List UInt8) (w : World) (h : InP q r w) (hn : r.length < 32) :
    Calls Tryd.prog 51 #[.pointer (some ⟨q, 0, none⟩)] w fun e w' => e = failed 2 ∧ OnlyQ q w w' := by
  obtain ⟨ZL, hZL⟩ : ∃ ZL, cellsOf (List.replicate 32 0) = ZL := ⟨_, rfl⟩
  have hZl : ZL.length = 32 := by rw [← hZL]; rfl
  have HAl : ∀ w, (Instr.alloc 25 true (.tuple #[])).run Tryd.prog w = .ok (.pointer (some ⟨w.heap.size, 0, none⟩)) (w.alloc (.cells ZL.toArray 25)) := fun w => by rw [← hZL]; exact alloc_sum w
  have hc : ∀ j, j < 32 → ZL.toArray[j]? = some (cellsAt ZL j) := fun j hj => by rw [List.getElem?_toArray]; exact cellsAt_get ZL j (by omega)
  have CR0 := Cells.new w 32 (cellsAt ZL) 25 ZL.toArray hc
  have hs1 : (w.alloc (.cells ZL.toArray 25)).heap.size = w.heap.size + 1 := by simp
  have CX0 := Cells.new (w.alloc (.cells ZL.toArray 25)) 32 (cellsAt ZL) 25 ZL.toArray hc
  have HI := Lib.hid ((h.alloc (.cells ZL.toArray 25)).alloc (.cells ZL.toArray 25))
  have HG : Hid (OnlyQ q w ((w.alloc (.cells ZL.toArray 25)).alloc (.cells ZL.toArray 25))) := Lib.hid (((Grew.refl w).alloc _).alloc _)
  have HQ := Lib.hid h.lt
  rw [hs1] at CX0
  have HCR := Lib.hid (CR0.alloc (.cells ZL.toArray 25))
  have HCX := Lib.hid CX0
  have hsl := slice_all (w.heap.size + 1)
  obtain ⟨W, hW⟩ : ∃ W, (w.alloc (.cells ZL.toArray 25)).alloc (.cells ZL.toArray 25) = W := ⟨_, rfl⟩
  rw [hW] at HI HG HCR HCX
  have HW := Lib.hid hW
  have HZl := Lib.hid hZl
  clear h hc CR0 CX0 hs1 hZL hZl hW
  have HE := Lib.hid (inText_end q 32 r W.drew HI.out.drew hn)
  go_enter Tryd.func51, Tryd.ntmps51
  go_upto_region 2 with (refine wpList_alloc rfl 25 rfl _ (HAl _) ?_)
  rw [HW.out]
  refine wp_region_held_drew (S := fun _ => True) (by kernel_rfl) trivial (fun _ => ?_)
  refine wpAnyH_take (i := 0) (oi := { dst := some 4, op := Op.slice 25 (Operand.tmp 3) none none none, type := 61, pos := "stream.go:128", after := #[], guard := none }) (v := ?_) rfl (by kernel_rfl) (by kernel_rfl) (by kernel_rfl) (fun _ _ _ h => h) (Or.inl ⟨by rfl, ?_⟩) trivial ?_
  rotate_left
  · (intro wz hSw; go_simp; try with_reducible rfl)
  try simp only [Act.put, List.setIfInBounds_toArray, List.set_cons_zero, List.set_cons_succ]
  refine wpAnyH_take (i := 1) (oi := { dst := some 5, op := Op.move (Operand.tmp 0), type := 80, pos := "stream.go:128", after := #[], guard := none }) (v := ?_) rfl (by kernel_rfl) (by kernel_rfl) (by kernel_rfl) (fun _ _ _ h => h) (Or.inl ⟨by rfl, ?_⟩) trivial ?_
  rotate_left
  · (intro wz hSw; go_simp; try with_reducible rfl)
  try simp only [Act.put, List.setIfInBounds_toArray, List.set_cons_zero, List.set_cons_succ]
  refine wpAnyH_ready (rs := [2]) (by kernel_rfl) (by simp) ?_
  refine AllReadyH.cons (o := { dst := some 6, op := Op.call { callee := Callee.value (Operand.func 49), args := #[Operand.tmp 5, Operand.const (Value.int IntKind.i64 32)], argTypes := #[80, 3] }, type := 9, pos := "stream.go:128", after := #[{ on := 1, ground := Ground.data }], guard := none }) rfl (fun K hK => ?_) AllReadyH.nil
  go_simp
  refine HE.out.mono ?_
  rintro e w5 ⟨rfl, rfl⟩
  unfold failed
  try go_wp2_with fail
  exact ⟨rfl, rfl, HG.out.drew⟩
set_option maxRecDepth 100000 in
set_option maxHeartbeats 1000000 in
theorem sum_ok (q : Nat) (r : List UInt8) (w : World) (h : InP q r w) (hn : 32 ≤ r.length) :
    Calls Tryd.prog 51 #[.pointer (some ⟨q, 0, none⟩)] w fun e w' => e = .returned (.agg (cellsOf (r.take 32)).toArray) ∧ InP q (r.drop 32) w' ∧ OnlyQ q w w' := by
  obtain ⟨ZL, hZL⟩ : ∃ ZL, cellsOf (List.replicate 32 0) = ZL := ⟨_, rfl⟩
  have hZl : ZL.length = 32 := by rw [← hZL]; rfl
  have HAl : ∀ w, (Instr.alloc 25 true (.tuple #[])).run Tryd.prog w = .ok (.pointer (some ⟨w.heap.size, 0, none⟩)) (w.alloc (.cells ZL.toArray 25)) := fun w => by rw [← hZL]; exact alloc_sum w
  have hc : ∀ j, j < 32 → ZL.toArray[j]? = some (cellsAt ZL j) := fun j hj => by rw [List.getElem?_toArray]; exact cellsAt_get ZL j (by omega)
  have CR0 := Cells.new w 32 (cellsAt ZL) 25 ZL.toArray hc
  have hs1 : (w.alloc (.cells ZL.toArray 25)).heap.size = w.heap.size + 1 := by simp
  have CX0 := Cells.new (w.alloc (.cells ZL.toArray 25)) 32 (cellsAt ZL) 25 ZL.toArray hc
  have HI := Lib.hid ((h.alloc (.cells ZL.toArray 25)).alloc (.cells ZL.toArray 25))
  have HG : Hid (OnlyQ q w ((w.alloc (.cells ZL.toArray 25)).alloc (.cells ZL.toArray 25))) := Lib.hid (((Grew.refl w).alloc _).alloc _)
  have HQ := Lib.hid h.lt
  rw [hs1] at CX0
  have HCR := Lib.hid (CR0.alloc (.cells ZL.toArray 25))
  have HCX := Lib.hid CX0
  have hsl := slice_all (w.heap.size + 1)
  obtain ⟨W, hW⟩ : ∃ W, (w.alloc (.cells ZL.toArray 25)).alloc (.cells ZL.toArray 25) = W := ⟨_, rfl⟩
  rw [hW] at HI HG HCR HCX
  have HW := Lib.hid hW
  have HZl := Lib.hid hZl
  clear h hc CR0 CX0 hs1 hZL hZl hW
  have HE := Lib.hid (inText q 32 r W.drew HI.out.drew hn)
  have hL : (r.take 32).length = 32 := by rw [List.length_take]; omega
  obtain ⟨L, hLL⟩ : ∃ L, r.take 32 = L := ⟨_, rfl⟩
  rw [hLL] at HE hL ⊢
  have hb : bytesOf ((⟨L.toArray⟩ : ByteArray).data.toList.take 32) = cellsOf L := by
    show bytesOf (L.take 32) = _
    rw [List.take_of_length_le (by omega)]
    rfl
  have HCp : Hid (∀ wx, Cells (w.heap.size + 1) 32 (cellsAt ZL) wx → (Builtin.copy_ #[61, 9] 3 #[.slice (some ⟨w.heap.size + 1, 0, none⟩) 32 32, .string ⟨L.toArray⟩]).run Tryd.prog wx = .ok (.int .i64 (32 : Nat)) (wx.setCells (w.heap.size + 1) 0 (cellsOf L))) := Lib.hid (fun wx hx => by
    rw [← hb]
    exact run_copy_str wx _ _ _ 5 (w.heap.size + 1) 0 32 32 32 ⟨L.toArray⟩ (by rw [ba_size]; omega) Tryd.underlying61 (fun w => by kernel_rfl) (fun j hj => by rw [(hx.2 (0 + j) (by omega)).1]; rfl) (fun j hj => (hx.2 (0 + j) (by omega)).2))
  have HLl := Lib.hid hL
  have hCl : (cellsOf L).length = 32 := by rw [cellsOf_len, hL]
  obtain ⟨CL, hCL⟩ : ∃ CL, cellsOf L = CL := ⟨_, rfl⟩
  have hone : CL.toArray.all (·.oneCell') = true := by
    rw [← hCL]
    refine all_oneCell_toArray fun v hv => ?_
    unfold cellsOf at hv
    rw [List.mem_map] at hv
    obtain ⟨x, _, rfl⟩ := hv
    rfl
  rw [hCL] at HCp hCl ⊢
  have HCl := Lib.hid hCl
  have HOne := Lib.hid hone
  have HI1 : Hid ((Tryd.prog.info? 25).map (·.size) = some CL.toArray.size) := Lib.hid (by rw [List.size_toArray, hCl]; kernel_rfl)
  have HI2 : Hid ((Tryd.prog.info? 25).map (·.size) = some CL.length) := Lib.hid (by rw [hCl]; kernel_rfl)
  clear hn hL hLL hb hCl hCL hone
  go_enter Tryd.func51, Tryd.ntmps51
  go_upto_region 2 with (refine wpList_alloc rfl 25 rfl _ (HAl _) ?_)
  rw [HW.out]
  refine wp_region_held_drew (S := fun _ => True) (by kernel_rfl) trivial (fun _ => ?_)
  refine wpAnyH_take (i := 0) (oi := { dst := some 4, op := Op.slice 25 (Operand.tmp 3) none none none, type := 61, pos := "stream.go:128", after := #[], guard := none }) (v := ?_) rfl (by kernel_rfl) (by kernel_rfl) (by kernel_rfl) (fun _ _ _ h => h) (Or.inl ⟨by rfl, ?_⟩) trivial ?_
  rotate_left
  · (intro wz hSw; go_simp; try with_reducible rfl)
  try simp only [Act.put, List.setIfInBounds_toArray, List.set_cons_zero, List.set_cons_succ]
  refine wpAnyH_take (i := 1) (oi := { dst := some 5, op := Op.move (Operand.tmp 0), type := 80, pos := "stream.go:128", after := #[], guard := none }) (v := ?_) rfl (by kernel_rfl) (by kernel_rfl) (by kernel_rfl) (fun _ _ _ h => h) (Or.inl ⟨by rfl, ?_⟩) trivial ?_
  rotate_left
  · (intro wz hSw; go_simp; try with_reducible rfl)
  try simp only [Act.put, List.setIfInBounds_toArray, List.set_cons_zero, List.set_cons_succ]
  refine wpAnyH_ready (rs := [2]) (by kernel_rfl) (by simp) ?_
  refine AllReadyH.cons (o := { dst := some 6, op := Op.call { callee := Callee.value (Operand.func 49), args := #[Operand.tmp 5, Operand.const (Value.int IntKind.i64 32)], argTypes := #[80, 3] }, type := 9, pos := "stream.go:128", after := #[{ on := 1, ground := Ground.data }], guard := none }) rfl (fun K hK => ?_) AllReadyH.nil
  go_simp
  refine HE.out.mono ?_
  rintro e w5 ⟨rfl, hi5, hg5⟩
  have HI5 := Lib.hid hi5
  have HG5 := Lib.hid (HG.out.drew.trans hg5)
  have HCR5 := Lib.hid (HCR.out.drew.grew hg5 (by have := HQ.out; omega))
  have HCX5 := Lib.hid (HCX.out.drew.grew hg5 (by have := HQ.out; omega))
  have hcp := HCp.out w5 HCX5.out
  clear hi5 hg5 HI HG HCR HCX
  try go_wp2_with fail
  refine hK.out _ _ trivial (fun _ => ?_)
  clear hK K
  try simp only [List.setIfInBounds_toArray, List.set_cons_zero, List.set_cons_succ]
  refine wpAnyH_ready (rs := [3]) (by kernel_rfl) (by simp) ?_
  refine AllReadyH.cons (o := { dst := some 7, op := Op.call { callee := Callee.builtin Builtin.copy, args := #[Operand.tmp 4, Operand.tmp 6], argTypes := #[61, 9] }, type := 3, pos := "stream.go:128", after := #[{ on := 0, ground := Ground.data }, { on := 2, ground := Ground.data }, { on := 2, ground := Ground.chain }], guard := none }) rfl (fun K hK => ?_) AllReadyH.nil
  go_simp
  refine hK.out _ _ trivial (fun _ => ?_)
  clear hK K
  refine wpAnyH_done (by kernel_rfl) ?_ _
  have HI6 := Lib.hid (HI5.out.row (w.heap.size + 1) 0 CL (by have := HQ.out; omega))
  have HG6 := Lib.hid (Grew.row HG5.out (w.heap.size + 1) 0 CL (fun h => by have h : w.heap.size + 1 < w.heap.size := h; omega))
  have HCR6 := Lib.hid (HCR5.out.farRow (c := w.heap.size + 1) (o := 0) CL (by omega))
  have HCX6 := Lib.hid (HCX5.out.fill HCl.out)
  clear HI5 HG5 HCR5 HCX5 hcp HE
  generalize w5.setCells (w.heap.size + 1) 0 CL = w6 at *
  have hr6 := Cells.all HCl.out HCX6.out
  have HTh : Hid (w6.there w.heap.size 0 CL.toArray.size) := Lib.hid (HCR6.out.there 0 _ (by have := HCl.out; simp [this]))
  have HIF := Lib.hid (HI6.out.row w.heap.size 0 CL (by have := HQ.out; omega))
  have HGF := Lib.hid (Grew.row HG6.out w.heap.size 0 CL (fun h => by have h : w.heap.size < w.heap.size := h; omega))
  go_wp2_with (first
    | (with_reducible refine wpList_load_mid rfl 25 _ rfl (w.heap.size + 1) 0 rfl CL _ hr6 Tryd.underlying25 rfl HI2.out ?_)
    | (with_reducible refine wpList_store_mid rfl 25 _ _ rfl w.heap.size 0 CL.toArray rfl rfl HTh.out HI1.out HOne.out ?_))
  refine bodyPost_ret (v := .agg CL.toArray) ?_ rfl ⟨rfl, HIF.out, HGF.out⟩
  exact results_mid Tryd.results51 _ _ w.heap.size 0 CL _ rfl (World.rangeAt_setCells_same _ _ _ _ (by have z := HTh.out; rwa [List.size_toArray] at z)) Tryd.underlying25 rfl HI2.out
end Go.Proofs.YtpgmgopcgoblhaaDoor
