/-
  CatalogParses: for every text the law answers true.
-/
import Derived.Test.YtemnkffaapljpaaCatRefP
import Derived.Test.YtemnkffaapljpaaCatAwakes
import Derived.Test.YtemnkffaapljpaaCut
namespace Go.Proofs.Ytemnkffaapljpaa
open Go.RowKit

theorem gotEN_fits (s : ByteArray) : (gotEN s).fits := by
  unfold gotEN
  split
  · exact enOf_fits _
  · exact ⟨by decide, by decide, by decide, by decide, by decide⟩
set_option maxRecDepth 10000 in
set_option maxHeartbeats 2000000 in
theorem catParses_walk (a0 : ByteArray) (w0 : a0.size ≤ maxLen) (a1 a2 : Bool) (w : World) :
    Calls Try.prog 8 #[.string a0, .bool a1, .bool a2] w fun e w' => e = .returned (.bool true) ∧ Below w.heap.size w w' := by
  have hc := cut_any a0 70 w w0 (by omega)
  have ht : (a0.extract 0 (min 70 a0.size)).size ≤ 70 := by rw [ByteArray.size_extract]; omega
  generalize a0.extract 0 (min 70 a0.size) = t at hc ht
  have HCt := Lib.hid hc
  have HT0 := Lib.hid ht
  clear hc w0 ht
  go_enter Try.func8, Try.ntmps8
  go_wp2_with fail
  refine HCt.out.mono ?_
  rintro e w' ⟨rfl, rfl⟩
  clear HCt
  go_wp2_with fail
  refine (catAwake _).mono ?_
  rintro e w1 ⟨rfl, hb1⟩
  have HB1 := Lib.hid hb1
  clear hb1
  go_upto_if 17 with fail
  go_cut [0] (fun s wx => ∃ u : ByteArray, s = .string u ∧ u.size ≤ 100 ∧ Below w.heap.size w wx)
  case first =>
    cases a1 with
    | false =>
      go_wp2_with fail
      go_meet
      exact ⟨t, rfl, by have := HT0.out; omega, HB1.out⟩
    | true =>
      go_wp2_with fail
      go_loop [0] (fun s => ∃ u : ByteArray, s = .string u ∧ u.size ≤ 70) (fun s => 60 - (match s with | .string x => x.size | _ => 0))
      case atStart => exact ⟨t, rfl, HT0.out⟩
      case round =>
        obtain ⟨u, rfl, hu⟩ := hrel
        by_cases hlt : u.size < 60
        · have i0 : (u.size : Int) < 60 := by omega
          have s0 : (⟨#[0]⟩ : ByteArray).size = 1 := rfl
          have hz : (u ++ ⟨#[0]⟩).size = u.size + 1 := by rw [ByteArray.size_append, s0]
          have c1 : ∀ wx : World, (Op.stringOp .add u ⟨#[0]⟩).run Try.prog wx = .ok (.string (u ++ ⟨#[0]⟩)) wx := add_str _ _ _ rfl (by rw [s0]; unfold maxLen; omega)
          obtain ⟨v, hv⟩ : ∃ v, u ++ ⟨#[0]⟩ = v := ⟨_, rfl⟩
          rw [hv] at c1 hz
          have HK := Lib.hid (And.intro hlt hz)
          clear hz hlt hu s0 hv HT0
          go_wp2
          go_round
          case rel => exact ⟨v, rfl, by have := HK.out.1; have := HK.out.2; omega⟩
          case measure =>
            have h1 := HK.out.1
            have h2 := HK.out.2
            show 60 - v.size < 60 - u.size
            omega
        · have i0 : ¬ (u.size : Int) < 60 := by omega
          have i1 : (60 : Int) ≤ (u.size : Int) := by omega
          have HS : Hid (∀ wx : World, Calls Try.prog 50 #[.string (u.extract 0 60)] wx fun e w' => e = .returned (.int .i64 (C.Crc.sum (u.extract 0 60).data.toList : Nat)) ∧ wx = w') := Lib.hid fun wx => C.ref_any (u.extract 0 60) wx (by rw [ByteArray.size_extract]; unfold maxLen; omega)
          have u1 := u32_as_u64 (C.Crc.sum (u.extract 0 60).data.toList) (crc_lt _)
          have HN := Lib.hid fun wx => refNum_any (C.Crc.sum (u.extract 0 60).data.toList) 4 wx (by have := crc_lt (u.extract 0 60).data.toList; omega)
          rw [wid4] at HN
          have z4 := enc_size (C.Crc.sum (u.extract 0 60).data.toList) 4
          have z6 : (u.extract 0 60).size ≤ 60 := by rw [ByteArray.size_extract]; omega
          generalize C.Crc.sum (u.extract 0 60).data.toList = K at *
          generalize (⟨(enc K 4).toArray⟩ : ByteArray) = E4 at *
          have c1 : ∀ wx : World, (Op.stringOp .add (u.extract 0 60) E4).run Try.prog wx = .ok (.string (u.extract 0 60 ++ E4)) wx := add_str _ _ _ rfl (by unfold maxLen; omega)
          have hV : (u.extract 0 60 ++ E4).size ≤ 64 := by rw [ByteArray.size_append]; omega
          have s1 : (⟨#[120]⟩ : ByteArray).size = 1 := rfl
          have c2 : ∀ wx : World, (Op.stringOp .add (u.extract 0 60 ++ E4) ⟨#[120]⟩).run Try.prog wx = .ok (.string (u.extract 0 60 ++ E4 ++ ⟨#[120]⟩)) wx := add_str _ _ _ rfl (by rw [s1]; unfold maxLen; omega)
          have hV2 : (u.extract 0 60 ++ E4 ++ ⟨#[120]⟩).size ≤ 65 := by rw [ByteArray.size_append, s1]; omega
          have HV := Lib.hid (And.intro hV hV2)
          generalize u.extract 0 60 ++ E4 ++ ⟨#[120]⟩ = V2 at *
          generalize u.extract 0 60 ++ E4 = V at *
          clear z4 z6 hV hV2 s1 hlt hu HT0
          go_wp2_with fail
          go_region_held3 (fun _ => True) (exact trivial) (first
            | (go_at_call 50; refine (HS.out _).mono ?_; rintro e w' ⟨rfl, rfl⟩)
            | (go_at_call 49; refine (HN.out _).mono ?_; rintro e w2 ⟨rfl, hb2⟩; (have HB2 := Lib.hid hb2); clear hb2))
          all_goals
            have HB3 := Lib.hid (HB1.out.drew.trans (HB2.out.mono HB1.out.size))
            cases a2 with
            | false =>
              go_wp2_with fail
              go_meet
              exact ⟨V, rfl, by have := HV.out.1; omega, HB3.out⟩
            | true =>
              go_wp2_with fail
              go_meet
              exact ⟨V2, rfl, by have := HV.out.2; omega, HB3.out⟩
  case rest =>
    obtain ⟨u, rfl, hu, hb⟩ := hcut
    have HP := Lib.hid fun wx => lawCat_any u wx
    have HR := Lib.hid fun wx => refCatParse_any u (by omega) wx
    have HT := Lib.hid fun wx => told15_any (gotEN u) (gotEN_fits u) wx
    have HB3 := Lib.hid hb
    clear hu hb HB1 HT0
    generalize gotEN u = R at *
    generalize gotNx u = NX at *
    generalize (catE u).getD 0 = E at *
    obtain ⟨id, parent, only, size, root, born⟩ := R
    dsimp only [EN.cells, EN.told] at *
    have hEo : ∀ wx, (binOp .eql 63 (.agg #[.int .i64 id, .int .i64 parent, .bool only, .int .i64 size, .int .i64 root, .int .i64 born]) (.agg #[.int .i64 id, .int .i64 parent, .bool only, .int .i64 size, .int .i64 root, .int .i64 born])).run Try.prog wx = .ok (.bool true) wx := fun wx => entr_self _ _ _ _ _ _ wx
    have hEg : ∀ (p q : Operand) (X Y : Array Value) (wx : World), (eqGuard .eql 63 p q (.agg X) (.agg Y)).run Try.prog wx = .ok () wx := fun p q X Y wx => entr_guard p q X Y wx
    have i0 : (E == E) = true := by simp
    have i1 : ((NX : Int) == (NX : Int)) = true := by simp
    go_wp2_with fail
    refine (HP.out _).mono ?_
    rintro e w4 ⟨rfl, hb4⟩
    have HB4 := Lib.hid (HB3.out.trans (hb4.mono HB3.out.size))
    have HQ4 := Lib.hid (heap_alloc_new w4 (.cells #[.int .u32 id, .int .u32 parent, .bool only, .int .i64 size, .int .i64 root, .int .u32 born] 66))
    have HB5 : Hid (Below w.heap.size w (w4.alloc (.cells #[.int .u32 id, .int .u32 parent, .bool only, .int .i64 size, .int .i64 root, .int .u32 born] 66))) := Lib.hid (HB4.out.alloc HB4.out.size _)
    have HS5 : Hid ((w4.alloc (.cells #[.int .u32 id, .int .u32 parent, .bool only, .int .i64 size, .int .i64 root, .int .u32 born] 66)).heap.size = w4.heap.size + 1) := Lib.hid (by simp)
    clear hb4 HP HB3 HB4
    go_upto_region 11 with fail
    generalize w4.alloc (.cells #[.int .u32 id, .int .u32 parent, .bool only, .int .i64 size, .int .i64 root, .int .u32 born] 66) = w5 at *
    generalize w4.heap.size = x at *
    go_wp2_with fail
    refine (HR.out _).mono ?_
    rintro e w6 ⟨rfl, hb6⟩
    have HB6 := Lib.hid (HB5.out.trans (hb6.mono HB5.out.size))
    have HX6 : Hid (w6.heap[x]? = some (.cells #[.int .u32 id, .int .u32 parent, .bool only, .int .i64 size, .int .i64 root, .int .u32 born] 66) ∧ x < w6.heap.size) := Lib.hid ⟨by rw [hb6.block _ (by have := HS5.out; omega)]; exact HQ4.out, by have := HS5.out; have := hb6.size; omega⟩
    have HX7 : Hid ((w6.alloc (.cells #[.int .i64 id, .int .i64 parent, .bool only, .int .i64 size, .int .i64 root, .int .i64 born] 63)).heap[x]? = some (.cells #[.int .u32 id, .int .u32 parent, .bool only, .int .i64 size, .int .i64 root, .int .u32 born] 66)) := Lib.hid (by rw [Below.heap_alloc _ _ _ HX6.out.2]; exact HX6.out.1)
    have HY7 := Lib.hid (heap_alloc_new w6 (.cells #[.int .i64 id, .int .i64 parent, .bool only, .int .i64 size, .int .i64 root, .int .i64 born] 63))
    have HB7 : Hid (Below w.heap.size w (w6.alloc (.cells #[.int .i64 id, .int .i64 parent, .bool only, .int .i64 size, .int .i64 root, .int .i64 born] 63))) := Lib.hid (HB6.out.alloc HB6.out.size _)
    have HS7 : Hid ((w6.alloc (.cells #[.int .i64 id, .int .i64 parent, .bool only, .int .i64 size, .int .i64 root, .int .i64 born] 63)).heap.size = w6.heap.size + 1) := Lib.hid (by simp)
    have HL7 := Lib.hid HX6.out.2
    clear hb6 HR HB5 HB6 HX6 HQ4 HS5
    go_upto_region 12 with fail
    generalize w6.alloc (.cells #[.int .i64 id, .int .i64 parent, .bool only, .int .i64 size, .int .i64 root, .int .i64 born] 63) = W at *
    generalize w6.heap.size = y at *
    have HK : Hid (∀ wx, Below W.drew.heap.size W.drew wx → (wx.cell? ⟨x, 0, none⟩ = some (.int .u32 id) ∧ wx.cell? ⟨x, 1, none⟩ = some (.int .u32 parent) ∧ wx.cell? ⟨x, 2, none⟩ = some (.bool only) ∧ wx.cell? ⟨x, 3, none⟩ = some (.int .i64 size) ∧ wx.cell? ⟨x, 4, none⟩ = some (.int .i64 root) ∧ wx.cell? ⟨x, 5, none⟩ = some (.int .u32 born)) ∧ (wx.cell? ⟨y, 0, none⟩ = some (.int .i64 id) ∧ wx.cell? ⟨y, 1, none⟩ = some (.int .i64 parent) ∧ wx.cell? ⟨y, 2, none⟩ = some (.bool only) ∧ wx.cell? ⟨y, 3, none⟩ = some (.int .i64 size) ∧ wx.cell? ⟨y, 4, none⟩ = some (.int .i64 root) ∧ wx.cell? ⟨y, 5, none⟩ = some (.int .i64 born))) := Lib.hid fun wx hb => by
      have h1 : W.drew.heap.size = y + 1 := HS7.out
      have h2 := HL7.out
      exact ⟨six (t := 66) (by rw [hb.block _ (by omega)]; exact HX7.out), six (t := 63) (by rw [hb.block _ (by omega)]; exact HY7.out)⟩
    have HKr := Lib.hid (Below.refl W.drew.heap.size W.drew)
    go_region_held3 (fun wx => (wx.cell? ⟨x, 0, none⟩ = some (.int .u32 id) ∧ wx.cell? ⟨x, 1, none⟩ = some (.int .u32 parent) ∧ wx.cell? ⟨x, 2, none⟩ = some (.bool only) ∧ wx.cell? ⟨x, 3, none⟩ = some (.int .i64 size) ∧ wx.cell? ⟨x, 4, none⟩ = some (.int .i64 root) ∧ wx.cell? ⟨x, 5, none⟩ = some (.int .u32 born)) ∧ (wx.cell? ⟨y, 0, none⟩ = some (.int .i64 id) ∧ wx.cell? ⟨y, 1, none⟩ = some (.int .i64 parent) ∧ wx.cell? ⟨y, 2, none⟩ = some (.bool only) ∧ wx.cell? ⟨y, 3, none⟩ = some (.int .i64 size) ∧ wx.cell? ⟨y, 4, none⟩ = some (.int .i64 root) ∧ wx.cell? ⟨y, 5, none⟩ = some (.int .i64 born)))
      (first | exact HK.out _ HKr.out | exact HK.out _ HG1.out)
      (first
        | (go_at_call 47; (with_reducible refine (HT.out W.drew).mono ?_); rintro e w8 ⟨rfl, hb8⟩; (have HG1 := Lib.hid hb8); clear hb8))
    all_goals
      go_wp2_with fail
      go_ret
      exact ⟨rfl, HB7.out.drew.trans (HG1.out.mono HB7.out.size)⟩
end Go.Proofs.Ytemnkffaapljpaa
