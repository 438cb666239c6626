/-
  ShaApart: for every text (of which at most 200 bytes are taken), every place and every byte that is xored there, the law answers true.
-/
import Derived.Test.YtopcjfalcepljaaDoorShaSpoil
import Derived.Deep.RegionHeld3
import Derived.Deep.DeepCutAuto
import Derived.RegionTactic
import Derived.BigRegion
namespace Go.Proofs.YtopcjfalcepljaaDoor
open Go.RowKit

theorem cell_at0d {w : World} {t : TypeId} {v : Value} {b : Nat} (h : w.heap.size = b) : (w.alloc (.cells #[v] t)).drew.cell? ⟨b, 0, none⟩ = some v := cell_at0 h
theorem cell_at1d {w : World} {t : TypeId} {v : Value} {b : Nat} {o1 : Obj} (h : w.heap.size = b) : ((w.alloc (.cells #[v] t)).alloc o1).drew.cell? ⟨b, 0, none⟩ = some v := cell_at1 h
theorem cell_b0d {x w' : World} {t : TypeId} {v : Value} {b : Nat} (hb : Below (x.alloc (.cells #[v] t)).drew.heap.size (x.alloc (.cells #[v] t)).drew w') (h : x.heap.size = b) : w'.cell? ⟨b, 0, none⟩ = some v := by
  rw [hb.cell (p := ⟨b, 0, none⟩) (by subst h; simp)]
  exact cell_at0d h
theorem cell_b1d {x w' : World} {t : TypeId} {v : Value} {b : Nat} {o : Obj} (hb : Below ((x.alloc (.cells #[v] t)).alloc o).drew.heap.size ((x.alloc (.cells #[v] t)).alloc o).drew w') (h : x.heap.size = b) : w'.cell? ⟨b, 0, none⟩ = some v := by
  rw [hb.cell (p := ⟨b, 0, none⟩) (by subst h; simp; omega)]
  exact cell_at1d h
structure Pair (b : Nat) (t u : ByteArray) (w : World) : Prop where
  c0 : w.cell? ⟨b, 0, none⟩ = some (.string t)
  c1 : w.cell? ⟨b, 1, none⟩ = some (.string u)
theorem pair0 {w : World} {t : TypeId} {x y : ByteArray} {b : Nat} (h : w.heap.size = b) : Pair b x y (w.alloc (.cells #[.string x, .string y] t)) := by
  subst h
  exact ⟨by rw [World.cell?_alloc_new]; rfl, by rw [World.cell?_alloc_new]; rfl⟩
theorem pair1 {w : World} {t : TypeId} {x y : ByteArray} {b : Nat} {o : Obj} (h : w.heap.size = b) : Pair b x y ((w.alloc (.cells #[.string x, .string y] t)).alloc o) := by
  have k : Pair b x y (w.alloc (.cells #[.string x, .string y] t)) := pair0 h
  exact ⟨by rw [World.cell?_alloc_past (hn := by simp; omega)]; exact k.c0, by rw [World.cell?_alloc_past (hn := by simp; omega)]; exact k.c1⟩
theorem Pair.below {b : Nat} {x y : ByteArray} {w w' : World} (h : Pair b x y w) (k : Below w.heap.size w w') : Pair b x y w' :=
  ⟨by rw [k.cell (p := ⟨b, 0, none⟩) (World.block_lt_of_cell? w _ h.c0)]; exact h.c0, by rw [k.cell (p := ⟨b, 1, none⟩) (World.block_lt_of_cell? w _ h.c1)]; exact h.c1⟩
theorem pair_b0 {x' w' : World} {t : TypeId} {x y : ByteArray} {b : Nat} (hb : Below (x'.alloc (.cells #[.string x, .string y] t)).heap.size (x'.alloc (.cells #[.string x, .string y] t)) w') (h : x'.heap.size = b) : Pair b x y w' := (pair0 h).below hb
theorem pair_b1 {x' w' : World} {t : TypeId} {x y : ByteArray} {b : Nat} {o : Obj} (hb : Below ((x'.alloc (.cells #[.string x, .string y] t)).alloc o).heap.size ((x'.alloc (.cells #[.string x, .string y] t)).alloc o) w') (h : x'.heap.size = b) : Pair b x y w' := (pair1 h).below hb
theorem pair0d {w : World} {t : TypeId} {x y : ByteArray} {b : Nat} (h : w.heap.size = b) : Pair b x y (w.alloc (.cells #[.string x, .string y] t)).drew := ⟨(pair0 h).c0, (pair0 h).c1⟩
theorem pair1d {w : World} {t : TypeId} {x y : ByteArray} {b : Nat} {o : Obj} (h : w.heap.size = b) : Pair b x y ((w.alloc (.cells #[.string x, .string y] t)).alloc o).drew := ⟨(pair1 h).c0, (pair1 h).c1⟩
theorem of_two' (w0 : World) (b cap : Nat) (t u : ByteArray) (V : Value) (w : World) (hl : sumVal (t.data.toList ++ u.data.toList) = V) (hL : At w0 w) (ht : t.size ≤ maxLen) (hu : u.size ≤ maxLen) (hc : Pair b t u w) :
    Calls Tryd.prog 11 #[.slice (some ⟨b, 0, none⟩) 2 cap] w fun r w' => r = .returned V ∧ Below w.heap.size w w' := by
  subst hl
  exact of_two b cap t u _ w rfl hL.laid ht hu (World.block_lt_of_cell? w _ hc.c0) hc.c0 hc.c1
set_option maxRecDepth 100000 in
set_option maxHeartbeats 4000000 in
theorem shaApart_walk (a0 : ByteArray) (a1 a2 : Int) (w0 : a0.size ≤ maxLen) (_w1 : (Lit.int .i64 a1).wf = true) (w2 : (Lit.int .u8 a2).wf = true) (w : World) (hL : Laid KK SS w) :
    Calls Tryd.prog 4 #[.string a0, .int .i64 a1, .int .u8 a2] w fun e w' => e = .returned (.bool true) ∧ Below w.heap.size w w' := by
  have HL := Lib.hid hL
  clear hL
  obtain ⟨x, hx, hx2⟩ : ∃ x : Nat, a2 = (x : Int) ∧ x < 256 := by
    simp [Lit.wf, IntKind.min, IntKind.max, IntKind.signed, IntKind.bits] at w2
    exact ⟨a2.toNat, by omega, by omega⟩
  subst hx
  clear w2
  have hc := fun wx => cut_any a0 200 wx w0 (by omega)
  have ht : (a0.extract 0 (min 200 a0.size)).size ≤ 200 := by rw [ByteArray.size_extract]; omega
  generalize a0.extract 0 (min 200 a0.size) = t at hc ht
  have HC := Lib.hid hc
  clear hc
  go_enter Tryd.func4, Tryd.ntmps4
  go_wp2_with fail
  refine (HC.out _).mono ?_
  rintro e w' ⟨rfl, rfl⟩
  go_wp2_with fail
  refine (awake_any _ HL.out).mono ?_
  rintro e w2 ⟨rfl, hb2⟩
  have HA2 := Lib.hid ((At.start HL.out).next hb2)
  by_cases hz : t.size = 0
  · have hz0 : t = ⟨#[]⟩ := by
      apply ByteArray.ext
      apply Array.eq_empty_of_size_eq_zero
      exact hz
    subst hz0
    clear hz hb2
    go_wp2_with fail
    refine (awake_any _ HA2.out.laid).mono ?_
    rintro e w3 ⟨rfl, hb3⟩
    have HA3 := Lib.hid (HA2.out.next hb3)
    go_wp2_with fail
    go_ret
    exact ⟨rfl, HA3.out.below⟩
  · have hz1 : (t.toList == []) = false := by
      rw [beq_eq_false_iff_ne, ByteArray.toList_eq]
      intro q
      exact hz (by have := congrArg List.length q; simpa using this)
    obtain ⟨cap, W, hconv, hrow, hbel⟩ := bytes_of w2 t
    have HAW := Lib.hid (HA2.out.next hbel)
    have HRow := Lib.hid hrow
    clear hb2 hbel hrow
    obtain ⟨p, hp, he⟩ := place a1 t.size (by omega) (by omega)
    have hcell := (HRow.out.2 p hp).1
    have hfr := (HRow.out.2 p hp).2
    have hyb : (t.data.toList.getD p 0).toNat < 256 := UInt8.toNat_lt _
    obtain ⟨y, hy⟩ : ∃ y, (t.data.toList.getD p 0).toNat = y := ⟨_, rfl⟩
    simp only [hy] at hcell hyb
    have hxr := u8_xor_nat y x hyb hx2
    have hn0 : ((t.size : Int) == 0) = false := by rw [beq_eq_false_iff_ne]; omega
    have hn1 : ¬ (t.size : Int) = 0 := by omega
    have hp1 : (p : Int) < (t.size : Int) := by omega
    obtain ⟨z, hzz⟩ : ∃ z, y ^^^ x = z := ⟨_, rfl⟩
    have hz8 : z < 256 := by rw [← hzz]; exact Nat.xor_lt_two_pow (n := 8) hyb hx2
    rw [hzz] at hxr
    clear hzz
    go_upto_region 6 with fail
    obtain ⟨M, hM⟩ : ∃ M, M = t.data.toList.set p (UInt8.ofNat z) := ⟨_, rfl⟩
    have hMl : M.length = t.size := by rw [hM]; simp
    have hMv : (M.getD p 0).toNat = z := by
      rw [hM, List.getD_eq_getElem?_getD, List.getElem?_set_self (by simpa using hp)]
      show (UInt8.ofNat z).toNat = z
      rw [UInt8.toNat_ofNat']
      omega
    have hMo : ∀ j, j ≠ p → (M.getD j 0).toNat = (t.data.toList.getD j 0).toNat := fun j hj => by
      rw [hM, List.getD_eq_getElem?_getD, List.getD_eq_getElem?_getD, List.getElem?_set_ne (fun e => hj e.symm)]
    have hRM := HRow.out.set (g := fun j => (M.getD j 0).toNat) p z hp hMv hMo
    have hAM : At w (W.setCell ⟨w2.heap.size, p, none⟩ (.int .u8 (z : Int))) := by
      have hb := HAW.out.below.setCell (p := ⟨w2.heap.size, p, none⟩) HA2.out.below.size (.int .u8 (z : Int))
      exact ⟨HL.out.below hb, hb⟩
    have hcv := conv_row w2.heap.size t.size cap M hMl _ hRM
    have HAM := Lib.hid hAM
    obtain ⟨u, hu⟩ : ∃ u : ByteArray, u = ⟨M.toArray⟩ := ⟨_, rfl⟩
    rw [← hu] at hcv
    have hus : u.size ≤ 200 := by
      rw [hu]
      show M.length ≤ 200
      omega
    clear hM hMl hMv hMo hRM hAM hu hconv
    generalize W.setCell ⟨w2.heap.size, p, none⟩ (.int .u8 (z : Int)) = W3 at *
    clear hcell hfr he hxr
    go_upto_region 7 with fail
    have hm : t.size ≤ maxLen := by unfold maxLen; omega
    have hm2 : u.size ≤ maxLen := by unfold maxLen; omega
    have hm3 : (⟨#[120]⟩ : ByteArray).size ≤ maxLen := by decide
    obtain ⟨tx, htx⟩ : ∃ tx, tx = t ++ ⟨#[120]⟩ := ⟨_, rfl⟩
    have htxl : t.data.toList ++ (⟨#[120]⟩ : ByteArray).data.toList = tx.data.toList := by
      rw [htx]
      simp [ByteArray.data_append]
    have htxs : tx.size < 900000 := by
      rw [htx, ByteArray.size_append]
      show t.size + 1 < _
      omega
    have hrun : ∀ wx : World, (Op.stringOp .add t ⟨#[120]⟩).run Tryd.prog wx = .ok (.string tx) wx := fun wx => by
      rw [htx]
      exact run_string_add_sum wx _ _ (by show t.size + 1 ≤ _; omega)
    have hr1 := fun wx => refOf_any t (by omega) wx
    have hr2 := fun wx => refOf_any u (by omega) wx
    have hr3 := fun wx => refOf_any tx htxs wx
    have b1 := txt_beq (shaOf t.data.toList) (shaOf u.data.toList)
    have b2 := txt_beq (shaOf t.data.toList) (shaOf tx.data.toList)
    have g1 := sumVal_guard t.data.toList u.data.toList
    have g2 := sumVal_guard t.data.toList tx.data.toList
    have q1 := sumVal_eql t.data.toList u.data.toList
    have q2 := sumVal_eql t.data.toList tx.data.toList
    obtain ⟨V1, hV1⟩ : ∃ V, sumVal t.data.toList = V := ⟨_, rfl⟩
    obtain ⟨V2, hV2⟩ : ∃ V, sumVal u.data.toList = V := ⟨_, rfl⟩
    obtain ⟨V3, hV3⟩ : ∃ V, sumVal tx.data.toList = V := ⟨_, rfl⟩
    rw [hV1] at g1 g2 q1 q2
    rw [hV2] at g1 q1
    rw [hV3] at g2 q2
    have hV4 : sumVal (t.data.toList ++ (⟨#[120]⟩ : ByteArray).data.toList) = V3 := by rw [htxl]; exact hV3
    have E1 := Lib.hid hV1
    have E2 := Lib.hid hV2
    have E3 := Lib.hid hV4
    generalize same (shaOf t.data.toList) (shaOf u.data.toList) = c1 at *
    generalize same (shaOf t.data.toList) (shaOf tx.data.toList) = c2 at *
    generalize (⟨(sumB (shaOf t.data.toList)).toArray⟩ : ByteArray) = X1 at *
    generalize (⟨(sumB (shaOf u.data.toList)).toArray⟩ : ByteArray) = X2 at *
    generalize (⟨(sumB (shaOf tx.data.toList)).toArray⟩ : ByteArray) = X3 at *
    have HR1 := Lib.hid hr1
    have HR2 := Lib.hid hr2
    have HR3 := Lib.hid hr3
    have hAt := At.start HAM.out.laid
    have HBl := Lib.hid HAM.out.below
    clear hV1 hV2 hV3 hV4 hr1 hr2 hr3 htx htxl htxs hz hz1 hcv hn0 hn1 hp1 hz8 hyb hy hx2 HRow HAW HA2 hus ht
    go_wp2_with fail
    go_region_held3 (fun wx => At W3 wx) (first | exact At.alloc (by assumption) _ | exact At.next (by assumption) (by assumption) | exact At.drew (by assumption) | assumption) (first
      | (go_at_call 11; (with_reducible refine (of_one' W3 _ _ t V1 _ E1.out ?_ hm ?_).mono ?_); (focus assumption); (first | ((with_reducible refine cell_at0 ?_); (focus (simp; done))) | ((with_reducible refine cell_at0d ?_); (focus (simp; done))) | ((with_reducible refine cell_at1d ?_); (focus (simp; done))) | ((refine cell_b0d (by assumption) ?_); (focus (simp; done))) | ((refine cell_b1d (by assumption) ?_); (focus (simp; done))) | ((with_reducible refine cell_at1 ?_); (focus (simp; done))) | ((refine cell_b0 (by assumption) ?_); (focus (simp; done))) | ((refine cell_b1 (by assumption) ?_); (focus (simp; done)))); rintro e w' ⟨rfl, hb⟩)
      | (go_at_call 11; (with_reducible refine (of_one' W3 _ _ u V2 _ E2.out ?_ hm2 ?_).mono ?_); (focus assumption); (first | ((with_reducible refine cell_at0 ?_); (focus (simp; done))) | ((with_reducible refine cell_at0d ?_); (focus (simp; done))) | ((with_reducible refine cell_at1d ?_); (focus (simp; done))) | ((refine cell_b0d (by assumption) ?_); (focus (simp; done))) | ((refine cell_b1d (by assumption) ?_); (focus (simp; done))) | ((with_reducible refine cell_at1 ?_); (focus (simp; done))) | ((refine cell_b0 (by assumption) ?_); (focus (simp; done))) | ((refine cell_b1 (by assumption) ?_); (focus (simp; done)))); rintro e w' ⟨rfl, hb⟩)
      | (go_at_call 11; (with_reducible refine (of_two' W3 _ _ t ⟨#[120]⟩ V3 _ E3.out ?_ hm hm3 ?_).mono ?_); (focus assumption); (first | ((with_reducible refine pair0 ?_); (focus (simp; done))) | ((with_reducible refine pair0d ?_); (focus (simp; done))) | ((with_reducible refine pair1d ?_); (focus (simp; done))) | ((with_reducible refine pair1 ?_); (focus (simp; done))) | ((refine pair_b0 (by assumption) ?_); (focus (simp; done))) | ((refine pair_b1 (by assumption) ?_); (focus (simp; done)))); rintro e w' ⟨rfl, hb⟩)
      | (go_at_call 14; (with_reducible refine (HR1.out _).mono ?_); rintro e w' ⟨rfl, hb⟩)
      | (go_at_call 14; (with_reducible refine (HR2.out _).mono ?_); rintro e w' ⟨rfl, hb⟩)
      | (go_at_call 14; (with_reducible refine (HR3.out _).mono ?_); rintro e w' ⟨rfl, hb⟩))
    all_goals
      go_wp2
      go_ret
      exact ⟨rfl, HBl.out.trans ((At.below (by assumption)).mono HBl.out.size)⟩
end Go.Proofs.YtopcjfalcepljaaDoor
