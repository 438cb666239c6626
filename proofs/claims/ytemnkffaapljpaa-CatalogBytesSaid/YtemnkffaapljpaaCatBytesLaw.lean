/-
  CatalogBytes: for every entry the law answers true (written by gen_catbl.py).
-/
import Derived.Test.YtemnkffaapljpaaCatRefs
import Derived.Test.YtemnkffaapljpaaCatAwakes
namespace Go.Proofs.Ytemnkffaapljpaa
open Go.RowKit

set_option maxRecDepth 10000 in
set_option maxHeartbeats 4000000 in
theorem catBytes_walk (a b : Int) (c : Bool) (d e f nx0 : Int) (w : World) :
    Calls Try.prog 7 #[.agg #[.int .i64 a, .int .i64 b, .bool c, .int .i64 d, .int .i64 e, .int .i64 f], .int .i64 nx0] w fun e w' => e = .returned (.bool true) ∧ Below w.heap.size w w' := by
  obtain ⟨o, hf, hown⟩ := own15_any a b c d e f
  obtain ⟨nx, hn0, hn1⟩ := maskN nx0 65535 (by decide)
  have hn0 : bits .and .i64 nx0 65535 = (nx : Int) := hn0
  have hn : nx < 65536 := by omega
  have HOw := Lib.hid hown
  have HB := Lib.hid fun wx => catBytes_any o hf nx hn wx
  have HT := Lib.hid fun wx => told15_any o hf wx
  have HR := Lib.hid fun wx => refCatBytes_any o hf nx hn wx
  have hE := own_catE o hf nx hn
  obtain ⟨hG1, hG2⟩ := own_got o hf nx hn
  have HP := Lib.hid fun wx => lawCat_any ⟨(sealed (o.text nx)).toArray⟩ wx
  rw [hE, hG1, hG2] at HP
  have HBad : Hid (badO o ↔ o.id = 0 ∨ o.size < 1 ∨ 2048 < o.size) := Lib.hid Iff.rfl
  clear hG1 hG2 hE hown hf hn hn1
  generalize (⟨(sealed (o.text nx)).toArray⟩ : ByteArray) = TX at *
  obtain ⟨id, parent, only, size, root, born⟩ := o
  dsimp only [EN.cells, EN.told] at HB HT HR HOw HBad
  have hEg : ∀ (p q : Operand) (X Y : Array Value) (wx : World), (eqGuard .eql 66 p q (.agg X) (.agg Y)).run Try.prog wx = .ok () wx := fun p q X Y wx => ent_guard p q X Y wx
  have hself : ∀ wx, (binOp .eql 66 (.agg #[.int .u32 id, .int .u32 parent, .bool only, .int .i64 size, .int .i64 root, .int .u32 born]) (.agg #[.int .u32 id, .int .u32 parent, .bool only, .int .i64 size, .int .i64 root, .int .u32 born])).run Try.prog wx = .ok (.bool true) wx := fun wx => ent_self _ _ _ _ _ _ wx
  go_enter Try.func7, Try.ntmps7
  have hq0 := heap_alloc_new w (.cells #[.int .i64 a, .int .i64 b, .bool c, .int .i64 d, .int .i64 e, .int .i64 f] 63)
  have hs0 : (w.alloc (.cells #[.int .i64 a, .int .i64 b, .bool c, .int .i64 d, .int .i64 e, .int .i64 f] 63)).heap.size = w.heap.size + 1 := by simp
  have HQ0 := Lib.hid hq0
  have HS0 := Lib.hid hs0
  have HB0 : Hid (Below w.heap.size w (w.alloc (.cells #[.int .i64 a, .int .i64 b, .bool c, .int .i64 d, .int .i64 e, .int .i64 f] 63))) := Lib.hid ((Below.refl _ _).alloc (Nat.le_refl _) _)
  clear hq0 hs0
  go_wp2_with fail
  refine (catAwake _).mono ?_
  rintro e' w1 ⟨rfl, hb1⟩
  have hq1 := (hb1.block w.heap.size (by have := HS0.out; omega)).trans HQ0.out
  obtain ⟨r0, r1, r2, r3, r4, r5⟩ := six hq1
  have HB1 := Lib.hid (HB0.out.trans (hb1.mono HB0.out.size))
  clear hb1 hq1 HQ0 HS0 HB0
  go_wp2_with fail
  refine (HOw.out _).mono ?_
  rintro e' w2 ⟨rfl, hb2⟩
  have HB2 : Hid (Below w.heap.size w (w2.alloc (.cells #[.int .u32 id, .int .u32 parent, .bool only, .int .i64 size, .int .i64 root, .int .u32 born] 66))) := Lib.hid (by
    have h := HB1.out.trans (hb2.mono HB1.out.size)
    exact h.alloc h.size _)
  have hq2 := heap_alloc_new w2 (.cells #[.int .u32 id, .int .u32 parent, .bool only, .int .i64 size, .int .i64 root, .int .u32 born] 66)
  have hs2 : (w2.alloc (.cells #[.int .u32 id, .int .u32 parent, .bool only, .int .i64 size, .int .i64 root, .int .u32 born] 66)).heap.size = w2.heap.size + 1 := by simp
  have HQ := Lib.hid hq2
  have HS := Lib.hid hs2
  clear hq2 hs2 hb2 r0 r1 r2 r3 r4 r5 HOw HB1
  go_upto_region 4 with fail
  generalize w2.alloc (.cells #[.int .u32 id, .int .u32 parent, .bool only, .int .i64 size, .int .i64 root, .int .u32 born] 66) = w3 at *
  generalize w2.heap.size = x at *
  obtain ⟨l0, l1, l2, l3, l4, l5⟩ := six HQ.out
  go_wp2_with fail
  refine (HB.out _).mono ?_
  rintro e' w4 ⟨rfl, hb4⟩
  have hq4 : w4.heap[x]? = some (.cells #[.int .u32 id, .int .u32 parent, .bool only, .int .i64 size, .int .i64 root, .int .u32 born] 66) := by rw [hb4.block _ (by have := HS.out; omega)]; exact HQ.out
  have HB4 := Lib.hid (HB2.out.trans (hb4.mono HB2.out.size))
  have HL4 : Hid (x < w4.heap.size) := Lib.hid (by have := HS.out; have := hb4.size; omega)
  have HQ4 := Lib.hid hq4
  clear hq4 hb4 l0 l1 l2 l3 l4 l5 HQ HS HB2 HB
  go_wp2_with fail
  by_cases hk : badO ⟨id, parent, only, size, root, born⟩
  · have HPx : Hid (∀ wx, Calls Try.prog 45 #[.string TX] wx fun e w' => e = .returned (.tuple #[.agg #[.int .u32 0, .int .u32 0, .bool false, .int .i64 0, .int .i64 0, .int .u32 0], .int .i64 0, .int .i64 1]) ∧ Below wx.heap.size wx w') := Lib.hid fun wx => by
      have h := HP.out wx
      rw [if_pos hk, if_pos hk, if_pos hk] at h
      exact h
    clear HP
    refine (HPx.out _).mono ?_
    rintro e' w5 ⟨rfl, hb5⟩
    have hq5 : w5.heap[x]? = some (.cells #[.int .u32 id, .int .u32 parent, .bool only, .int .i64 size, .int .i64 root, .int .u32 born] 66) := by rw [hb5.block _ HL4.out]; exact HQ4.out
    have HB5 := Lib.hid (HB4.out.trans (hb5.mono HB4.out.size))
    have hl5 : x < w5.heap.size := by have := HL4.out; have := hb5.size; omega
    have hqx : (w5.alloc (.cells #[.int .u32 0, .int .u32 0, .bool false, .int .i64 0, .int .i64 0, .int .u32 0] 66)).heap[x]? = some (.cells #[.int .u32 id, .int .u32 parent, .bool only, .int .i64 size, .int .i64 root, .int .u32 born] 66) := by rw [Below.heap_alloc _ _ _ hl5]; exact hq5
    have hqy := heap_alloc_new w5 (.cells #[.int .u32 0, .int .u32 0, .bool false, .int .i64 0, .int .i64 0, .int .u32 0] 66)
    have hs6 : (w5.alloc (.cells #[.int .u32 0, .int .u32 0, .bool false, .int .i64 0, .int .i64 0, .int .u32 0] 66)).heap.size = w5.heap.size + 1 := by simp
    have HB6 : Hid (Below w.heap.size w (w5.alloc (.cells #[.int .u32 0, .int .u32 0, .bool false, .int .i64 0, .int .i64 0, .int .u32 0] 66))) := Lib.hid (HB5.out.alloc HB5.out.size _)
    have HX := Lib.hid hqx
    have HY := Lib.hid hqy
    have HS6 := Lib.hid hs6
    have HL5 := Lib.hid hl5
    clear hqx hqy hq5 hb5 hs6 hl5 HQ4 HL4 HB4 HB5
    go_upto_region 7 with fail
    generalize w5.alloc (.cells #[.int .u32 0, .int .u32 0, .bool false, .int .i64 0, .int .i64 0, .int .u32 0] 66) = W at *
    generalize w5.heap.size = y at *
    have HK : Hid (∀ wx, Below W.heap.size W wx → (wx.cell? ⟨x, 0, none⟩ = some (.int .u32 id) ∧ wx.cell? ⟨x, 1, none⟩ = some (.int .u32 parent) ∧ wx.cell? ⟨x, 2, none⟩ = some (.bool only) ∧ wx.cell? ⟨x, 3, none⟩ = some (.int .i64 size) ∧ wx.cell? ⟨x, 4, none⟩ = some (.int .i64 root) ∧ wx.cell? ⟨x, 5, none⟩ = some (.int .u32 born)) ∧ (wx.cell? ⟨y, 0, none⟩ = some (.int .u32 0) ∧ wx.cell? ⟨y, 1, none⟩ = some (.int .u32 0) ∧ wx.cell? ⟨y, 2, none⟩ = some (.bool false) ∧ wx.cell? ⟨y, 3, none⟩ = some (.int .i64 0) ∧ wx.cell? ⟨y, 4, none⟩ = some (.int .i64 0) ∧ wx.cell? ⟨y, 5, none⟩ = some (.int .u32 0))) := Lib.hid fun wx hb => by
      have h1 := HS6.out
      have h2 := HL5.out
      exact ⟨six (t := 66) (by rw [hb.block _ (by omega)]; exact HX.out), six (t := 66) (by rw [hb.block _ (by omega)]; exact HY.out)⟩
    have hk0' := HK.out _ (Below.refl _ _)
    obtain ⟨⟨l0, l1, l2, l3, l4, l5⟩, ⟨m0, m1, m2, m3, m4, m5⟩⟩ := hk0'
    go_wp2_with fail
    refine (HT.out _).mono ?_
    rintro e' w7 ⟨rfl, hb7⟩
    have HG7 := Lib.hid hb7
    clear hb7
    go_wp2_with fail
    refine (HR.out _).mono ?_
    rintro e' w8 ⟨rfl, hb8⟩
    have HG8 := Lib.hid (HG7.out.trans (hb8.mono HG7.out.size))
    have hk8 := HK.out _ HG8.out
    clear hb8 l0 l1 l2 l3 l4 l5 m0 m1 m2 m3 m4 m5
    obtain ⟨⟨l0, l1, l2, l3, l4, l5⟩, ⟨m0, m1, m2, m3, m4, m5⟩⟩ := hk8
    have HFin := Lib.hid (HB6.out.trans (HG8.out.mono HB6.out.size))
    have hk' : id = 0 ∨ size < 1 ∨ 2048 < size := HBad.out.1 hk
    clear HT HR HPx HX HY HS6 HL5 HB6 HG7 HG8 HK HBad hk
    by_cases h0 : id = 0
    · have i0 : ((id : Int) == 0) = true := by rw [h0]; rfl
      clear hk'
      go_wp2_with fail
      go_ret
      exact ⟨rfl, HFin.out⟩
    · have i0 : ((id : Int) == 0) = false := by rw [beq_eq_false_iff_ne]; omega
      by_cases h1 : size < 1
      · have i1 : (size : Int) < 1 := by omega
        clear hk' h0 h1
        go_wp2_with fail
        go_ret
        exact ⟨rfl, HFin.out⟩
      · have i1 : ¬ (size : Int) < 1 := by omega
        have i2 : (2048 : Int) < (size : Int) := by omega
        clear hk' h0 h1
        go_wp2_with fail
        go_ret
        exact ⟨rfl, HFin.out⟩
  · have HPx : Hid (∀ wx, Calls Try.prog 45 #[.string TX] wx fun e w' => e = .returned (.tuple #[.agg #[.int .u32 id, .int .u32 parent, .bool only, .int .i64 size, .int .i64 root, .int .u32 born], .int .i64 nx, .int .i64 0]) ∧ Below wx.heap.size wx w') := Lib.hid fun wx => by
      have h := HP.out wx
      rw [if_neg hk, if_neg hk, if_neg hk] at h
      exact h
    clear HP
    refine (HPx.out _).mono ?_
    rintro e' w5 ⟨rfl, hb5⟩
    have hq5 : w5.heap[x]? = some (.cells #[.int .u32 id, .int .u32 parent, .bool only, .int .i64 size, .int .i64 root, .int .u32 born] 66) := by rw [hb5.block _ HL4.out]; exact HQ4.out
    have HB5 := Lib.hid (HB4.out.trans (hb5.mono HB4.out.size))
    have hl5 : x < w5.heap.size := by have := HL4.out; have := hb5.size; omega
    have hqx : (w5.alloc (.cells #[.int .u32 id, .int .u32 parent, .bool only, .int .i64 size, .int .i64 root, .int .u32 born] 66)).heap[x]? = some (.cells #[.int .u32 id, .int .u32 parent, .bool only, .int .i64 size, .int .i64 root, .int .u32 born] 66) := by rw [Below.heap_alloc _ _ _ hl5]; exact hq5
    have hqy := heap_alloc_new w5 (.cells #[.int .u32 id, .int .u32 parent, .bool only, .int .i64 size, .int .i64 root, .int .u32 born] 66)
    have hs6 : (w5.alloc (.cells #[.int .u32 id, .int .u32 parent, .bool only, .int .i64 size, .int .i64 root, .int .u32 born] 66)).heap.size = w5.heap.size + 1 := by simp
    have HB6 : Hid (Below w.heap.size w (w5.alloc (.cells #[.int .u32 id, .int .u32 parent, .bool only, .int .i64 size, .int .i64 root, .int .u32 born] 66))) := Lib.hid (HB5.out.alloc HB5.out.size _)
    have HX := Lib.hid hqx
    have HY := Lib.hid hqy
    have HS6 := Lib.hid hs6
    have HL5 := Lib.hid hl5
    clear hqx hqy hq5 hb5 hs6 hl5 HQ4 HL4 HB4 HB5
    go_upto_region 7 with fail
    generalize w5.alloc (.cells #[.int .u32 id, .int .u32 parent, .bool only, .int .i64 size, .int .i64 root, .int .u32 born] 66) = W at *
    generalize w5.heap.size = y at *
    have HK : Hid (∀ wx, Below W.heap.size W wx → (wx.cell? ⟨x, 0, none⟩ = some (.int .u32 id) ∧ wx.cell? ⟨x, 1, none⟩ = some (.int .u32 parent) ∧ wx.cell? ⟨x, 2, none⟩ = some (.bool only) ∧ wx.cell? ⟨x, 3, none⟩ = some (.int .i64 size) ∧ wx.cell? ⟨x, 4, none⟩ = some (.int .i64 root) ∧ wx.cell? ⟨x, 5, none⟩ = some (.int .u32 born)) ∧ (wx.cell? ⟨y, 0, none⟩ = some (.int .u32 id) ∧ wx.cell? ⟨y, 1, none⟩ = some (.int .u32 parent) ∧ wx.cell? ⟨y, 2, none⟩ = some (.bool only) ∧ wx.cell? ⟨y, 3, none⟩ = some (.int .i64 size) ∧ wx.cell? ⟨y, 4, none⟩ = some (.int .i64 root) ∧ wx.cell? ⟨y, 5, none⟩ = some (.int .u32 born))) := Lib.hid fun wx hb => by
      have h1 := HS6.out
      have h2 := HL5.out
      exact ⟨six (t := 66) (by rw [hb.block _ (by omega)]; exact HX.out), six (t := 66) (by rw [hb.block _ (by omega)]; exact HY.out)⟩
    have hk0' := HK.out _ (Below.refl _ _)
    obtain ⟨⟨l0, l1, l2, l3, l4, l5⟩, ⟨m0, m1, m2, m3, m4, m5⟩⟩ := hk0'
    go_wp2_with fail
    refine (HT.out _).mono ?_
    rintro e' w7 ⟨rfl, hb7⟩
    have HG7 := Lib.hid hb7
    clear hb7
    go_wp2_with fail
    refine (HR.out _).mono ?_
    rintro e' w8 ⟨rfl, hb8⟩
    have HG8 := Lib.hid (HG7.out.trans (hb8.mono HG7.out.size))
    have hk8 := HK.out _ HG8.out
    clear hb8 l0 l1 l2 l3 l4 l5 m0 m1 m2 m3 m4 m5
    obtain ⟨⟨l0, l1, l2, l3, l4, l5⟩, ⟨m0, m1, m2, m3, m4, m5⟩⟩ := hk8
    have HFin := Lib.hid (HB6.out.trans (HG8.out.mono HB6.out.size))
    have hk' : ¬ (id = 0 ∨ size < 1 ∨ 2048 < size) := fun e => hk (HBad.out.2 e)
    clear HT HR HPx HX HY HS6 HL5 HB6 HG7 HG8 HK HBad hk
    have i0 : ((id : Int) == 0) = false := by rw [beq_eq_false_iff_ne]; omega
    have i1 : ¬ (size : Int) < 1 := by omega
    have i2 : ¬ (2048 : Int) < (size : Int) := by omega
    clear hk'
    go_wp2_with fail
    go_ret
    exact ⟨rfl, HFin.out⟩
end Go.Proofs.Ytemnkffaapljpaa
