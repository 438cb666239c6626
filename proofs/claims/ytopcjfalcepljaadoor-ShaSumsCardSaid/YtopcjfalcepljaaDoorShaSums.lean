/-
  ShaSums: for every text (of which at most 300 bytes are taken) the law answers true.
-/
import Derived.Test.YtopcjfalcepljaaDoorShaKit
namespace Go.Proofs.YtopcjfalcepljaaDoor
open Go.RowKit

/-- a sum lies in a box -/
structure SumAt (w : World) (g : Nat) (L : List Value) (wx : World) : Prop where
  at' : At w wx
  row : wx.rangeAt g 0 L
  lt : g < wx.heap.size
theorem SumAt.next {w : World} {g : Nat} {L : List Value} {wx wy : World} (h : SumAt w g L wx) (k : Below wx.heap.size wx wy) : SumAt w g L wy := ⟨h.at'.next k, range_below h.row h.lt k, Nat.lt_of_lt_of_le h.lt k.size⟩
theorem SumAt.start {f : Nat → Nat} {w wx : World} {L : List Value} (hL : Laid KK SS w) (h : At w wx) (e : arr f = L) : SumAt w wx.heap.size L ((wx.alloc (.cells lit32 24)).setCells wx.heap.size 0 L) := by
  have hlen : L.length = 32 := by rw [← e]; exact arr_len _
  have hn := Cells.new wx 32 _ 24 _ lit32_at
  have hr : (wx.alloc (.cells lit32 24)).there wx.heap.size 0 L.length := hn.there 0 _ (by omega)
  refine ⟨at_row L hL (h.alloc _) h.below.size, World.rangeAt_setCells_same _ _ _ _ hr, ?_⟩
  have z := (below_row (Below.refl wx.heap.size (wx.alloc (.cells lit32 24))) (c := wx.heap.size) (o := 0) L (Nat.le_refl _)).size
  rw [World.size_alloc] at z
  omega
theorem wpList_load_g {P : Program} {ops : Array Oper} {rest : List Oper} {op : Oper} {a : Act} {w : World} {Q : Exit → Act → World → Prop} (hw : Region.wanted op (yielded ops a.tmps) = true) (ty : TypeId) (x : Operand) (ho : op.op = .load ty x)
    (b o : Nat) (hx : a.eval x = .pointer (some ⟨b, o, none⟩)) (cs : List Value) (d : TypeDesc) (hc : w.rangeAt b o cs)
    (hu : P.underlying ty = some d) (hd : d.isRow = true) (hi : (P.info? ty).map (·.size) = some cs.length)
    (h : wpList P ops Q rest (a.put op.dst (.agg cs.toArray)) w) : wpList P ops Q (op :: rest) a w := by
  refine wpList_step fun K hK => ?_
  rw [if_pos hw]
  exact wp_load_mid ty x ho b o hx cs d hc hu hd hi (hK _ _ h)
set_option maxRecDepth 100000 in
set_option maxHeartbeats 4000000 in
theorem shaSums_walk (a0 : ByteArray) (w0 : a0.size ≤ maxLen) (w : World) (hL : Laid KK SS w) :
    Calls Tryd.prog 3 #[.string a0] w fun e w' => e = .returned (.bool true) ∧ Below w.heap.size w w' := by
  have HL := Lib.hid hL
  clear hL
  have hc := cut_any a0 300 w w0 (by omega)
  have ht : (a0.extract 0 (min 300 a0.size)).size ≤ 300 := by rw [ByteArray.size_extract]; omega
  generalize a0.extract 0 (min 300 a0.size) = t at hc ht
  have HC := Lib.hid hc
  have HTm : Hid (t.size ≤ maxLen) := Lib.hid (by unfold maxLen; omega)
  have hro := fun wx => refOf_any t (by omega) wx
  have hto := fun wx => sum_text (shaOf t.data.toList) wx
  have hhx := fun wx => hex_any (shaOf t.data.toList) wx
  have hrh := fun wx => refHex_any ⟨(sumB (shaOf t.data.toList)).toArray⟩ (by rw [sumB_len]; omega) wx
  rw [sumB_len, hexOf_congr 32 (sumB_at (shaOf t.data.toList))] at hrh
  obtain ⟨V, hV⟩ : ∃ V, sumVal t.data.toList = V := ⟨_, rfl⟩
  obtain ⟨L, hLe⟩ : ∃ L, arr (Sha.dg (shaOf t.data.toList)) = L := ⟨_, rfl⟩
  have hVL : V = .agg L.toArray := by rw [← hV, ← hLe]; rfl
  rw [arr_sum, hLe] at hto hhx
  have hlenL : L.length = 32 := by rw [← hLe]; exact arr_len _
  have HO : Hid (L.toArray.all (·.oneCell') = true) := Lib.hid (by rw [← hLe]; exact arr_one _)
  have HI2 : Hid ((Tryd.prog.info? 24).map (·.size) = some L.length) := Lib.hid (by rw [hlenL]; kernel_rfl)
  have HI3 : Hid ((Tryd.prog.info? 24).map (·.size) = some L.toArray.size) := Lib.hid (by rw [List.size_toArray, hlenL]; kernel_rfl)
  have HLen := Lib.hid hlenL
  have HV := Lib.hid hV
  have HLe := Lib.hid hLe
  have HVL := Lib.hid hVL
  generalize (⟨(sumB (shaOf t.data.toList)).toArray⟩ : ByteArray) = TX at *
  generalize (⟨(hexOf (Sha.dg (shaOf t.data.toList)) 32).toArray⟩ : ByteArray) = HX at *
  have HRo := Lib.hid hro
  have HTo := Lib.hid hto
  have HHx := Lib.hid hhx
  have HRh := Lib.hid hrh
  clear hc hro hto hhx hrh hV hLe hVL hlenL
  go_enter Tryd.func3, Tryd.ntmps3
  go_upto_region 2 with (go_at_call 10; refine HC.out.mono ?_; rintro e w' ⟨rfl, rfl⟩)
  go_cut [3] (fun p wx => ∃ g, p = .pointer (some ⟨g, 0, none⟩) ∧ SumAt w g L wx)
  case first =>
    go_wp2_with fail
    with_reducible refine (of_one' w w.heap.size 1 t V _ HV.out ((At.start HL.out).alloc _) HTm.out ?_).mono ?_
    · exact cell_at0 rfl
    rintro e w1 ⟨rfl, hb1⟩
    have HA1 := Lib.hid (((At.start HL.out).alloc _).next hb1)
    have HTh : Hid ((w1.alloc (.cells lit32 24)).there w1.heap.size 0 L.toArray.size) := Lib.hid ((Cells.new w1 32 _ 24 _ lit32_at).there 0 _ (by have := HLen.out; simp [this]))
    have HSt := Lib.hid (SumAt.start HL.out HA1.out HLe.out)
    clear hb1
    rw [HVL.out]
    go_wp2_with (first
      | (with_reducible refine wpList_alloc rfl 24 rfl _ (alloc_sum _) ?_)
      | ((with_reducible refine wpList_store_mid rfl 24 _ _ rfl w1.heap.size 0 L.toArray rfl rfl ?_ HI3.out HO.out ?_); (focus exact HTh.out)))
    go_meet
    exact ⟨w1.heap.size, rfl, HSt.out⟩
  case rest =>
    obtain ⟨g, rfl, hS⟩ := hcut
    have HS := Lib.hid hS
    clear hS
    go_wp2_with fail
    refine (awake_any _ HS.out.at'.laid).mono ?_
    rintro e w2 ⟨rfl, hb2⟩
    have HS2 := Lib.hid (HS.out.next hb2)
    have hr2 := HS2.out.row
    clear hb2
    go_wp2_with (with_reducible refine wpList_load_g (by kernel_rfl) 24 _ rfl g 0 rfl L _ hr2 Tryd.underlying24 rfl HI2.out ?_)
    refine (HTo.out _).mono ?_
    rintro e w3 ⟨rfl, hb3⟩
    have HS3 := Lib.hid (HS2.out.next hb3)
    clear hb3 hr2
    go_wp2_with fail
    refine (HRo.out _).mono ?_
    rintro e w4 ⟨rfl, hb4⟩
    have HS4 := Lib.hid (HS3.out.next hb4)
    have hr4 := HS4.out.row
    clear hb4
    go_wp2_with (with_reducible refine wpList_load_g (by kernel_rfl) 24 _ rfl g 0 rfl L _ hr4 Tryd.underlying24 rfl HI2.out ?_)
    refine (HHx.out _).mono ?_
    rintro e w5 ⟨rfl, hb5⟩
    have HS5 := Lib.hid (HS4.out.next hb5)
    clear hb5 hr4
    go_wp2_with fail
    refine (HRo.out _).mono ?_
    rintro e w6 ⟨rfl, hb6⟩
    have HS6 := Lib.hid (HS5.out.next hb6)
    clear hb6
    go_wp2_with fail
    refine (HRh.out _).mono ?_
    rintro e w7 ⟨rfl, hb7⟩
    have HS7 := Lib.hid (HS6.out.next hb7)
    clear hb7
    go_wp2_with fail
    go_ret
    exact ⟨rfl, HS7.out.at'.below⟩
end Go.Proofs.YtopcjfalcepljaaDoor
