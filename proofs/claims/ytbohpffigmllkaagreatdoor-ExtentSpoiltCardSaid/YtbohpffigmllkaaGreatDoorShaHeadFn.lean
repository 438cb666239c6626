/-
  Head of a sum, for any bytes.
-/
import Derived.Test.YtbohpffigmllkaaGreatDoorShas
namespace Go.Proofs.YtbohpffigmllkaaGreatDoor
open Go.RowKit

theorem arr_sum (s : Sha.St) : sumOf s = arr (Sha.dg s) := rfl
def clamp (n : Int) : Nat := (min (max n 0) 256).toNat
/-- the first N bits of 32 bytes, noughts behind -/
def headF (f : Nat → Nat) (N j : Nat) : Nat := if j < N / 8 then f j else if j = N / 8 ∧ 0 < N % 8 then f j &&& (255 - 255 / 2 ^ (N % 8)) else 0
/-- bytes that were copied so far -/
def part (f : Nat → Nat) (D j : Nat) : Nat := if j < D then f j else 0
structure HeadAt (B R O : Nat) (f g : Nat → Nat) (w wx : World) : Prop where
  box : Cells B 32 (fun j => .int .u8 (f j : Nat)) wx
  res : Cells R 32 (fun _ => .int .u8 0) wx
  out : Cells O 32 (fun j => .int .u8 (g j : Nat)) wx
  below : Below w.heap.size w wx
theorem head_start {w : World} {f : Nat → Nat} : HeadAt w.heap.size (w.heap.size + 1) (w.heap.size + 2) f (fun _ => 0) w (((w.alloc (.cells (arr f).toArray 51)).alloc (.cells lit32 51)).alloc (.cells lit32 51)) := by
  have hr := Cells.new (w.alloc (.cells (arr f).toArray 51)) 32 _ 51 _ lit32_at
  have ho := Cells.new ((w.alloc (.cells (arr f).toArray 51)).alloc (.cells lit32 51)) 32 _ 51 _ lit32_at
  rw [World.size_alloc] at hr ho
  rw [World.size_alloc] at ho
  exact ⟨(box_cells.alloc _).alloc _, hr.alloc _, ho, (((Below.refl _ _).alloc (Nat.le_refl _) _).alloc (by simp) _).alloc (by simp; omega) _⟩
theorem slice_head (b D : Nat) (hD : D ≤ 32) : ∀ w : World, (Instr.sliceAt 51 (.pointer (some ⟨b, 0, none⟩)) none (some (.int .i64 (D : Int))) none).run Tryz.prog w = .ok (.slice (some ⟨b, 0, none⟩) D 32) w := by
  intro w
  have e1 : Tryz.prog.arrayLen 51 = 32 := by kernel_rfl
  have e2 : Tryz.prog.elem 51 = 5 := by kernel_rfl
  have e3 : (sizeOf 5).run Tryz.prog w = .ok 1 w := by kernel_rfl
  have h := run_sliceAt_array_h (P := Tryz.prog) w 51 ⟨b, 0, none⟩ (by rw [e1, e2]; exact Tryz.underlying51) .i64 (D : Int) (by omega) (by rw [e1]; omega)
  rw [h, e1, e2, e3]
  simp only [Result.andThen_ok, slicedAt, Int.toNat_natCast]
  rw [if_neg (by omega), Addr.add_mid]
  simp
theorem head_copy {B R O D : Nat} {f : Nat → Nat} {w wx : World} (h : HeadAt B R O f (fun _ => 0) w wx) (hD : D ≤ 32) :
    (Builtin.copy_ #[81, 81] 3 #[.slice (some ⟨O, 0, none⟩) 32 32, .slice (some ⟨B, 0, none⟩) D 32]).run Tryz.prog wx.drew = .ok (.int .i64 D) (wx.drew.setCells O 0 ((arr f).take D)) := by
  have hl : ((arr f).take D).length = D := by rw [List.length_take, arr_len]; omega
  have hth := h.out.there 0 D (by omega)
  have z := run_copy_cells (P := Tryz.prog) wx.drew 81 81 3 5 O 0 32 32 ⟨B, 0, none⟩ D 32 ((arr f).take D) Tryz.underlying81 (by kernel_rfl) (by rw [hl]; exact (Nat.min_eq_left hD).symm)
    (fun j v hv => by
      have hj : j < D := by have := (List.getElem?_eq_some_iff.mp hv).1; omega
      rw [Addr.add_mid, Nat.zero_add]
      rw [List.getElem?_take_of_lt hj, arr_at f j (by omega)] at hv
      rw [← Option.some.inj hv]
      exact (h.box.2 j (by omega)).1)
    (fun j hj => (hth j (by omega)).1) (fun j hj => (hth j (by omega)).2)
    (fun v hv => by
      have hm := List.mem_of_mem_take hv
      unfold arr at hm
      rw [List.mem_map] at hm
      obtain ⟨x, _, rfl⟩ := hm
      rfl)
  rw [hl] at z
  exact z
theorem head_copied {B R O D : Nat} {f : Nat → Nat} {w wx : World} (h : HeadAt B R O f (fun _ => 0) w wx) (hD : D ≤ 32) (h1 : B ≠ O) (h2 : R ≠ O) (h3 : w.heap.size ≤ O) : HeadAt B R O f (part f D) w (wx.drew.setCells O 0 ((arr f).take D)) := by
  have hl : ((arr f).take D).length = D := by rw [List.length_take, arr_len]; omega
  refine ⟨h.box.drew.farRow _ h1, h.res.drew.farRow _ h2, ?_, below_row h.below.drew _ h3⟩
  refine (h.out.drew.splice 0 ((arr f).take D) (by omega)).congr fun j hj => ?_
  rw [hl]
  unfold part
  by_cases hlt : j < D
  · rw [if_pos (by omega), if_pos hlt, Nat.sub_zero, List.getD_eq_getElem?_getD, List.getElem?_take_of_lt hlt, arr_at f j hj]
    rfl
  · rw [if_neg (by omega), if_neg hlt]
theorem head_bits {B R O D : Nat} {f : Nat → Nat} {w wx : World} (h : HeadAt B R O f (part f D) w wx) (N : Nat) (hN : N / 8 = D) (hr : 0 < N % 8) (hD : D < 32) (v : Int) (e : v = ((f D &&& (255 - 255 / 2 ^ (N % 8)) : Nat) : Int)) (h1 : B ≠ O) (h2 : R ≠ O) (h3 : w.heap.size ≤ O) :
    HeadAt B R O f (headF f N) w (wx.setCell ⟨O, D, none⟩ (.int .u8 v)).drew := by
  subst e
  refine ⟨(h.box.far _ h1).drew, (h.res.far _ h2).drew, ?_, (h.below.setCell (p := ⟨O, D, none⟩) h3 _).drew⟩
  refine (h.out.set D _ hD ?_ fun j _ hj => ?_).drew
  · unfold headF
    rw [if_neg (by omega), if_pos ⟨hN.symm, hr⟩]
  · unfold headF part
    by_cases hlt : j < D
    · rw [if_pos (by omega), if_pos hlt]
    · rw [if_neg (by omega), if_neg (by omega), if_neg hlt]
theorem head_even {B R O D : Nat} {f : Nat → Nat} {w wx : World} (h : HeadAt B R O f (part f D) w wx) (N : Nat) (hN : N / 8 = D) (hr : N % 8 = 0) : HeadAt B R O f (headF f N) w wx := by
  refine ⟨h.box, h.res, h.out.congr fun j _ => ?_, h.below⟩
  unfold headF part
  by_cases hlt : j < D
  · rw [if_pos hlt, if_pos (by omega)]
  · rw [if_neg hlt, if_neg (by omega), if_neg (by omega)]

theorem and_not (x r : Nat) (hx : x < 256) : bits .andNot .u8 (x : Int) ((255 : Int) / 2 ^ r) = ((x &&& (255 - 255 / 2 ^ r) : Nat) : Int) := by
  have e : (255 : Int) / 2 ^ r = ((255 / 2 ^ r : Nat) : Int) := by simp
  have l : 255 / 2 ^ r ≤ 255 := Nat.div_le_self _ _
  rw [e, u8_andNot_nat x (255 / 2 ^ r) hx (by omega)]
theorem clamp_le (n : Int) : clamp n ≤ 256 := by unfold clamp; omega

set_option maxRecDepth 100000 in
set_option maxHeartbeats 2000000 in
theorem head_any (f : Nat → Nat) (hf : ∀ j, f j < 256) (n : Int) (_hn : (Lit.int .i64 n).wf = true) (w : World) :
    Calls Tryz.prog 58 #[.agg (arr f).toArray, .int .i64 n] w fun r w' => r = .returned (.agg (arr (headF f (clamp n))).toArray) ∧ Below w.heap.size w w' := by
  have hst := head_start (w := w) (f := f)
  obtain ⟨L, hL⟩ : ∃ L, arr f = L := ⟨_, rfl⟩
  rw [hL] at hst ⊢
  obtain ⟨M, hM⟩ : ∃ M, arr (headF f (clamp n)) = M := ⟨_, rfl⟩
  rw [hM]
  have HL := Lib.hid hL
  have HM := Lib.hid hM
  have HSt := Lib.hid hst
  have HF := Lib.hid hf
  clear hL hM hst hf
  go_enter Tryz.func58, Tryz.ntmps58
  go_upto_region 1 with fail
  go_cut [1] (fun i wx => i = .int .i64 (clamp n : Nat) ∧ wx = (w.alloc (.cells L.toArray 51)).alloc (.cells lit32 51))
  case first =>
    have hcl : ((clamp n : Nat) : Int) = (if (256 : Int) < (if n < 0 then 0 else n) then 256 else (if n < 0 then 0 else n)) := by
      unfold clamp
      repeat' split
      all_goals omega
    go_wp2_with fail
    all_goals go_meet
    all_goals first | exact ⟨by congr 1; omega, rfl⟩ | exact ⟨by congr 1; rw [hcl]; split <;> omega, rfl⟩ | exact ⟨by congr 1; rw [hcl]; split <;> split <;> omega, rfl⟩ | trace_state
  case rest =>
    obtain ⟨rfl, rfl⟩ := hcut
    have hN := clamp_le n
    obtain ⟨N, hNe⟩ : ∃ N, clamp n = N := ⟨_, rfl⟩
    rw [hNe] at hN HM ⊢
    obtain ⟨D, hD⟩ : ∃ D, N / 8 = D := ⟨_, rfl⟩
    obtain ⟨r, hr⟩ : ∃ r, N % 8 = r := ⟨_, rfl⟩
    have q1 : (N : Int) / 8 = (D : Int) := by omega
    have q2 : (N : Int) % 8 = (r : Int) := by omega
    have HD := Lib.hid hD
    have HR := Lib.hid hr
    have bD : D ≤ 32 := by omega
    have br : r ≤ 7 := by omega
    have bDr : 0 < r → D < 32 := by omega
    clear hNe hD hr
    go_upto_region 3 with fail
    go_cut [7] (fun p wx => p = .pointer (some ⟨w.heap.size + 2, 0, none⟩) ∧ HeadAt w.heap.size (w.heap.size + 1) (w.heap.size + 2) f (fun _ => 0) w wx)
    case first =>
      go_wp2_with fail
      go_meet
      exact ⟨rfl, HSt.out⟩
    case rest =>
      obtain ⟨rfl, hH⟩ := hcut
      have hs1 := slice_all (w.heap.size + 2)
      have hs2 := slice_head w.heap.size D bD
      have hcp := head_copy hH bD
      have hH2 := head_copied hH bD (by omega) (by omega) (by omega)
      rw [HL.out] at hH2 hcp
      clear hH HSt
      go_wp2_with fail
      go_region
      obtain ⟨W2, hW2⟩ : ∃ W2, wc.drew.setCells (w.heap.size + 2) 0 (List.take D L) = W2 := ⟨_, rfl⟩
      rw [hW2] at hH2 ⊢
      clear hW2 hcp hs1 hs2
      have HH := Lib.hid hH2
      have hlenM : M.length = 32 := by rw [← HM.out]; exact arr_len _
      have HO : Hid (M.toArray.all (·.oneCell') = true) := Lib.hid (by rw [← HM.out]; exact arr_one _)
      have HI2 : Hid ((Tryz.prog.info? 51).map (·.size) = some M.length) := Lib.hid (by rw [hlenM]; kernel_rfl)
      have HI3 : Hid ((Tryz.prog.info? 51).map (·.size) = some M.toArray.size) := Lib.hid (by rw [List.size_toArray, hlenM]; kernel_rfl)
      have HLen := Lib.hid hlenM
      clear hlenM
      by_cases hr : r = 0
      · have hz : ¬ (0 : Int) < (N : Int) % 8 := by omega
        have hz' : ¬ (0 : Int) < (r : Int) := by omega
        have HE := Lib.hid (head_even hH2 N HD.out (by rw [HR.out]; exact hr))
        clear hH2 HH
        have HRa := Lib.hid (row_range32 HE.out.out HM.out)
        have HTh : Hid (W2.there (w.heap.size + 1) 0 M.toArray.size) := Lib.hid (HE.out.res.there 0 _ (by simp [HLen.out]))
        go_wp2_with (first
          | (with_reducible refine wpList_load_mid rfl 51 _ rfl (w.heap.size + 2) 0 rfl M _ HRa.out Tryz.underlying51 rfl HI2.out ?_)
          | (with_reducible refine wpList_store_mid rfl 51 _ _ rfl (w.heap.size + 1) 0 M.toArray rfl rfl HTh.out HI3.out HO.out ?_))
        refine bodyPost_ret (v := .agg M.toArray) ?_ rfl ⟨rfl, below_row HE.out.below M (by omega)⟩
        exact results_mid Tryz.results58 _ _ (w.heap.size + 1) 0 M _ rfl (World.rangeAt_setCells_same _ _ _ _ (by have z := HTh.out; rwa [List.size_toArray] at z)) Tryz.underlying51 rfl HI2.out
      · have hz : (0 : Int) < (N : Int) % 8 := by omega
        have hz' : (0 : Int) < (r : Int) := by omega
        have hD32 := bDr (by omega)
        have cb : W2.cell? ⟨w.heap.size, D, none⟩ = some (.int .u8 (f D : Nat)) := (hH2.box.2 D hD32).1
        have co : W2.cell? ⟨w.heap.size + 2, D, none⟩ = some (.int .u8 (part f D D : Nat)) := (hH2.out.2 D hD32).1
        have fo := (hH2.out.2 D hD32).2
        have hfD := HF.out D
        obtain ⟨x, hx⟩ : ∃ x, f D = x := ⟨_, rfl⟩
        obtain ⟨old, hold⟩ : ∃ x, part f D D = x := ⟨_, rfl⟩
        rw [hx] at cb hfD
        rw [hold] at co
        have hv := and_not x r hfD
        have hrn : ((N : Int) % 8).toNat = r := by omega
        have i1 : (D : Int) < 32 := by omega
        have HX := Lib.hid hx
        clear hH2 hx hold
        go_wp2_with fail
        go_region
        have hE := head_bits HH.out N HD.out (by rw [HR.out]; omega) hD32 ((x &&& 255 - 255 / 2 ^ r : Nat) : Int) (by rw [HX.out, HR.out]) (by omega) (by omega) (by omega)
        obtain ⟨W3, hW3⟩ : ∃ W3, (W2.setCell ⟨w.heap.size + 2, D, none⟩ (.int .u8 ((x &&& 255 - 255 / 2 ^ r : Nat) : Int))).drew = W3 := ⟨_, rfl⟩
        rw [hW3] at hE ⊢
        have HE := Lib.hid hE
        clear hE hW3 cb co fo hv HH
        have HRa := Lib.hid (row_range32 HE.out.out HM.out)
        have HTh : Hid (W3.there (w.heap.size + 1) 0 M.toArray.size) := Lib.hid (HE.out.res.there 0 _ (by simp [HLen.out]))
        go_wp2_with (first
          | (with_reducible refine wpList_load_mid rfl 51 _ rfl (w.heap.size + 2) 0 rfl M _ HRa.out Tryz.underlying51 rfl HI2.out ?_)
          | (with_reducible refine wpList_store_mid rfl 51 _ _ rfl (w.heap.size + 1) 0 M.toArray rfl rfl HTh.out HI3.out HO.out ?_))
        refine bodyPost_ret (v := .agg M.toArray) ?_ rfl ⟨rfl, below_row HE.out.below M (by omega)⟩
        exact results_mid Tryz.results58 _ _ (w.heap.size + 1) 0 M _ rfl (World.rangeAt_setCells_same _ _ _ _ (by have z := HTh.out; rwa [List.size_toArray] at z)) Tryz.underlying51 rfl HI2.out
end Go.Proofs.YtbohpffigmllkaaGreatDoor
