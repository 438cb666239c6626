/-
  The law's Same, of two that are: a contract.
-/
import Derived.Test.YtpgmgopcgoblhaaDoorStreamTold
namespace Go.Proofs.YtpgmgopcgoblhaaDoor
open Go.RowKit

/-- the two rows, the two structs that lead to them -/
structure SmAt (w : World) (o : Nat) (A B : Array Value) (va vb : Value) (l : List It) (wx : World) : Prop where
  below : Below w.heap.size w wx
  bx : wx.heap[w.heap.size + 1]? = some (.cells B 32)
  by' : wx.heap[o]? = some (.cells A 32)
  ia : ItsAt wx va l
  ib : ItsAt wx vb l
theorem SmAt.drewN {w : World} {o : Nat} {A B : Array Value} {va vb : Value} {l : List It} {wx : World} (h : SmAt w o A B va vb l wx) (n : Nat) : SmAt w o A B va vb l (wx.drewN n) :=
  ⟨⟨h.below.os, h.below.tape, h.below.output, h.below.size, h.below.block⟩, h.bx, h.by', h.ia, h.ib⟩
set_option maxRecDepth 100000 in
set_option maxHeartbeats 2000000 in
theorem same_any (size : Int) (base target : List UInt8) (v v' : Value) (l : List It) (w : World) (hb : base.length = 32) (ht : target.length = 32) (hv : ItsAt w v l) (hv' : ItsAt w v' l) (hl : l.length ≤ 100000) :
    Calls Tryd.prog 14 #[.agg (stL size base target v).toArray, .agg (rfL size ⟨base.toArray⟩ ⟨target.toArray⟩ v')] w fun e w' => e = .returned (.int .i64 0) ∧ Below w.heap.size w w' := by
  obtain ⟨a', cap', rfl⟩ := hv'.form
  unfold rfL
  have HTo := Lib.hid fun wx (h : ItsAt wx v l) => told_any size base target v l wx hb ht h hl
  have hXl : (stL size base target v).length = 66 := stL_len hb ht
  have HIL : Hid ((Tryd.prog.info? 28).map (·.size) = some (stL size base target v).length) := Lib.hid (by rw [hXl]; kernel_rfl)
  obtain ⟨DB, hDB⟩ : ∃ DB : ByteArray, ⟨base.toArray⟩ = DB := ⟨_, rfl⟩
  obtain ⟨DT, hDT⟩ : ∃ DT : ByteArray, ⟨target.toArray⟩ = DT := ⟨_, rfl⟩
  rw [hDB, hDT] at HTo ⊢
  generalize stL size base target v = N at *
  have h1 : ((w.alloc (.cells N.toArray 28)).alloc (.cells #[.int .i64 size, .string DB, .string DT, .slice a' l.length cap'] 32)).rangeAt w.heap.size 0 N := fun j x hx => by
    rw [Nat.zero_add, World.cell?_alloc_past (hn := by simp), World.cell?_alloc_new, List.getElem?_toArray, hx]
  have h2 : ((w.alloc (.cells N.toArray 28)).alloc (.cells #[.int .i64 size, .string DB, .string DT, .slice a' l.length cap'] 32)).heap[w.heap.size + 1]? = some (.cells #[.int .i64 size, .string DB, .string DT, .slice a' l.length cap'] 32) := by
    have := heap_alloc_new (w.alloc (.cells N.toArray 28)) (.cells #[.int .i64 size, .string DB, .string DT, .slice a' l.length cap'] 32)
    simpa using this
  have h3 : Below w.heap.size w ((w.alloc (.cells N.toArray 28)).alloc (.cells #[.int .i64 size, .string DB, .string DT, .slice a' l.length cap'] 32)) := ((Below.refl _ w).alloc (Nat.le_refl _) _).alloc (by simp) _
  obtain ⟨W, hW⟩ : ∃ W, (w.alloc (.cells N.toArray 28)).alloc (.cells #[.int .i64 size, .string DB, .string DT, .slice a' l.length cap'] 32) = W := ⟨_, rfl⟩
  rw [hW] at h1 h2 h3
  have HX := Lib.hid h2
  have HB := Lib.hid h3
  have HWe := Lib.hid hW
  have HT0 := Lib.hid (HTo.out W (hv.below h3))
  have HV' := Lib.hid (hv'.below h3)
  have HL := Lib.hid hl
  clear hv hv' hDB hDT hb ht hW h2 h3 hl HTo hXl
  go_enter Tryd.func14, Tryd.ntmps14
  go_upto_region 1 with fail
  rw [HWe.out]
  go_wp2_with (with_reducible refine wpList_load_mid rfl 28 _ rfl w.heap.size 0 rfl N _ h1 Tryd.underlying28 rfl HIL.out ?_)
  refine HT0.out.mono ?_
  rintro e w1 ⟨v2, rfl, hi2, hb1⟩
  obtain ⟨a2, cap2, rfl⟩ := hi2.form
  unfold rfL
  have hlo := blk_lt HX.out
  have HS : Hid (SmAt w w1.heap.size #[.int .i64 size, .string DB, .string DT, .slice a2 l.length cap2] #[.int .i64 size, .string DB, .string DT, .slice a' l.length cap'] (.slice a2 l.length cap2) (.slice a' l.length cap') l (w1.alloc (.cells #[.int .i64 size, .string DB, .string DT, .slice a2 l.length cap2] 32))) := Lib.hid (by
    have hb2 : Below w1.heap.size w1 (w1.alloc (.cells #[.int .i64 size, .string DB, .string DT, .slice a2 l.length cap2] 32)) := (Below.refl _ _).alloc (Nat.le_refl _) _
    have hs := hb1.size
    refine ⟨(HB.out.trans (hb1.mono HB.out.size)).trans (hb2.mono (Nat.le_trans HB.out.size hs)), ?_, heap_alloc_new _ _, hi2.below hb2, (HV'.out.below hb1).below hb2⟩
    rw [hb2.block _ (by omega), hb1.block _ hlo]
    exact HX.out)
  clear hi2 hb1 hlo h1
  go_upto_region 2 with fail
  obtain ⟨W2, hW2⟩ : ∃ W2, w1.alloc (.cells #[.int .i64 size, .string DB, .string DT, .slice a2 l.length cap2] 32) = W2 := ⟨_, rfl⟩
  rw [hW2] at HS ⊢
  obtain ⟨o, ho⟩ : ∃ o, w1.heap.size = o := ⟨_, rfl⟩
  rw [ho] at HS ⊢
  obtain ⟨y0, y1, y2, y3, _⟩ := four HS.out.by'
  obtain ⟨z0, z1, z2, z3, _⟩ := four HS.out.bx
  clear hW2 ho
  go_wp2_with fail
  go_loopw [40] (fun i wx => ∃ k : Nat, k ≤ l.length ∧ i = .int .i64 (k : Int) ∧ Below w.heap.size w wx ∧ SmAt w o #[.int .i64 size, .string DB, .string DT, .slice a2 l.length cap2] #[.int .i64 size, .string DB, .string DT, .slice a' l.length cap'] (.slice a2 l.length cap2) (.slice a' l.length cap') l wx) (fun i _ => l.length - (intOf i).toNat)
  case atStart => exact ⟨0, by omega, rfl, HS.out.below, HS.out⟩
  case round =>
    clear y0 y1 y2 y3 z0 z1 z2 z3 HS
    obtain ⟨k, hk, rfl, _, hs⟩ := hrel
    have HS := Lib.hid hs
    by_cases hlt : k < l.length
    · have i0 : (k : Int) < (l.length : Int) := by omega
      obtain ⟨x, hx⟩ : ∃ x, l[k]? = some x := ⟨_, List.getElem?_eq_getElem hlt⟩
      obtain ⟨b, rfl, x0, x1⟩ := hs.ia.at hx
      obtain ⟨b', rfl, x0', x1'⟩ := hs.ib.at hx
      obtain ⟨y0, y1, y2, y3, _⟩ := four hs.by'
      obtain ⟨z0, z1, z2, z3, _⟩ := four hs.bx
      clear hs hx
      go_upto_region 7 with fail
      have j0 : (0 : Int) ≤ (k : Int) := by omega
      have hk9 : (k : Int) < 100000 := by have := HL.out; omega
      go_quiet (fail)
      go_wp2_with fail
      go_roundw
      case rel => exact ⟨k + 1, by omega, by go_num, (HS.out.drewN _).below, HS.out.drewN _⟩
      case measure => simp [intOf]; omega
    · obtain rfl : k = l.length := by omega
      have i0 : ¬ (l.length : Int) < (l.length : Int) := by omega
      clear hs
      go_wp2_with fail
      go_ret
      exact ⟨rfl, HS.out.below⟩
end Go.Proofs.YtpgmgopcgoblhaaDoor
