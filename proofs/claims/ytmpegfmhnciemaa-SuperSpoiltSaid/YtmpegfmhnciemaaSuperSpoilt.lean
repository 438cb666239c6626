/-
  SuperSpoilt: for every super, every place and byte the law answers true.
-/
import Derived.Test.YtmpegfmhnciemaaSuperSpoil
import Derived.Test.YtmpegfmhnciemaaSuperRefP
namespace Go.Proofs.Ytmpegfmhnciemaa
open Go.RowKit

theorem and_ten {a0 a1 a2 a3 a4 b0 b1 b2 b3 b4 : Prop} (h : a0 ∧ a1 ∧ a2 ∧ a3 ∧ a4) (k : b0 ∧ b1 ∧ b2 ∧ b3 ∧ b4) : a0 ∧ a1 ∧ a2 ∧ a3 ∧ a4 ∧ b0 ∧ b1 ∧ b2 ∧ b3 ∧ b4 := ⟨h.1, h.2.1, h.2.2.1, h.2.2.2.1, h.2.2.2.2, k⟩
set_option maxRecDepth 10000 in
set_option maxHeartbeats 4000000 in
theorem superSpoilt_walk (x0 x1 x2 x3 x4 y : Int) (x : UInt8) (w : World) :
    Calls Try.prog 8 #[.agg #[.int .i64 x0, .int .i64 x1, .int .i64 x2, .int .i64 x3, .int .i64 x4], .int .i64 y, .int .u8 (x.toNat : Int)] w fun e w' => e = .returned (.bool true) ∧ Below w.heap.size w w' := by
  obtain ⟨s, hs, hfew⟩ := supFew_any x0 x1 x2 x3 x4
  obtain ⟨b', hy0, hb'⟩ := maskN y 63 (by decide)
  have hy : bits .and .i64 y 63 = (b' : Int) := hy0
  have HY := Lib.hid (And.intro hy (show b' < 64 by omega))
  have HFew := Lib.hid hfew
  have HS := Lib.hid hs
  have HOwn := Lib.hid fun wx => own_any s hs wx
  have HChk : Hid (∀ wx : World, Calls Try.prog 24 #[.agg s.refCells, .int .i64 1000] wx fun e w' => e = .returned (.int .i64 (s.check 1000 : Nat)) ∧ Below wx.heap.size wx w') := Lib.hid fun wx => refCheck_any s hs 1000 (by decide) wx
  obtain ⟨C, hC⟩ : ∃ C, s.check 1000 = C := ⟨_, rfl⟩
  rw [hC] at HChk
  have HC := Lib.hid hC
  clear hfew hs hC hy hy0 hb'
  obtain ⟨W0, hW0⟩ : ∃ W0, ((w.alloc (.cells #[.int .i64 x0, .int .i64 x1, .int .i64 x2, .int .i64 x3, .int .i64 x4] 47)).alloc (.cells #[.int .i64 y] 3)).alloc (.cells #[.int .u8 (x.toNat : Int)] 5) = W0 := ⟨_, rfl⟩
  have HO0 : Hid (Holds w.heap.size (.cells #[.int .i64 x0, .int .i64 x1, .int .i64 x2, .int .i64 x3, .int .i64 x4] 47) W0) := Lib.hid (by rw [← hW0]; exact ((Holds.new w _).alloc _).alloc _)
  have HP0 : Hid (Holds (w.heap.size + 1) (.cells #[.int .i64 y] 3) W0) := Lib.hid (by
    rw [← hW0]
    have e : (w.alloc (.cells #[.int .i64 x0, .int .i64 x1, .int .i64 x2, .int .i64 x3, .int .i64 x4] 47)).heap.size = w.heap.size + 1 := by simp
    have := Holds.new (w.alloc (.cells #[.int .i64 x0, .int .i64 x1, .int .i64 x2, .int .i64 x3, .int .i64 x4] 47)) (.cells #[.int .i64 y] 3)
    rw [e] at this
    exact this.alloc _)
  have HQ0 : Hid (Holds (w.heap.size + 1 + 1) (.cells #[.int .u8 (x.toNat : Int)] 5) W0) := Lib.hid (by
    rw [← hW0]
    have e : ((w.alloc (.cells #[.int .i64 x0, .int .i64 x1, .int .i64 x2, .int .i64 x3, .int .i64 x4] 47)).alloc (.cells #[.int .i64 y] 3)).heap.size = w.heap.size + 1 + 1 := by simp
    have := Holds.new ((w.alloc (.cells #[.int .i64 x0, .int .i64 x1, .int .i64 x2, .int .i64 x3, .int .i64 x4] 47)).alloc (.cells #[.int .i64 y] 3)) (.cells #[.int .u8 (x.toNat : Int)] 5)
    rw [e] at this
    exact this)
  have HB0 : Hid (Below w.heap.size w W0) := Lib.hid (by rw [← hW0]; exact boxBelow3 _ _ _)
  go_enter Try.func8, Try.ntmps8
  go_wp2_with fail
  clear hW0
  refine (supAwake W0).mono ?_
  rintro e w1 ⟨rfl, hb1⟩
  have HO1 := Lib.hid (HO0.out.below hb1)
  have HP1 := Lib.hid (HP0.out.below hb1)
  have HQ1 := Lib.hid (HQ0.out.below hb1)
  have HB1 := Lib.hid (HB0.out.trans (hb1.mono HB0.out.size))
  obtain ⟨⟨l0, l1, l2, l3, l4⟩, f0, f1, f2, f3, f4⟩ := zero_cells HO1.out
  clear hb1 HO0 HB0 HP0 HQ0
  go_wp2_with fail
  refine (HFew.out w1).mono ?_
  rintro e w2 ⟨rfl, hb2⟩
  have HO2 := Lib.hid (HO1.out.below hb2)
  have HP2 := Lib.hid (HP1.out.below hb2)
  have HQ2 := Lib.hid (HQ1.out.below hb2)
  have HB2 := Lib.hid (HB1.out.trans (hb2.mono HB1.out.size))
  clear l0 l1 l2 l3 l4 f0 f1 f2 f3 f4 hb2 HO1 HP1 HQ1 HB1
  obtain ⟨⟨l0, l1, l2, l3, l4⟩, f0, f1, f2, f3, f4⟩ := zero_cells HO2.out
  obtain ⟨ep, j, b, h, nx⟩ := s
  dsimp only [Sup.refCells, Sup.cells] at *
  have HO3 : Hid (Holds w.heap.size (.cells #[.int .i64 ep, .int .i64 j, .int .i64 b, .int .i64 h, .int .i64 nx] 47) (((((w2.setCell ⟨w.heap.size, 0, none⟩ (.int .i64 ep)).setCell ⟨w.heap.size, 1, none⟩ (.int .i64 j)).setCell ⟨w.heap.size, 2, none⟩ (.int .i64 b)).setCell ⟨w.heap.size, 3, none⟩ (.int .i64 h)).setCell ⟨w.heap.size, 4, none⟩ (.int .i64 nx))) := Lib.hid (five_set HO2.out _ _ _ _ _)
  have HP3 : Hid (Holds (w.heap.size + 1) (.cells #[.int .i64 y] 3) (((((w2.setCell ⟨w.heap.size, 0, none⟩ (.int .i64 ep)).setCell ⟨w.heap.size, 1, none⟩ (.int .i64 j)).setCell ⟨w.heap.size, 2, none⟩ (.int .i64 b)).setCell ⟨w.heap.size, 3, none⟩ (.int .i64 h)).setCell ⟨w.heap.size, 4, none⟩ (.int .i64 nx))) := Lib.hid (HP2.out.set5 (by omega) _ _ _ _ _)
  have HQ3 : Hid (Holds (w.heap.size + 1 + 1) (.cells #[.int .u8 (x.toNat : Int)] 5) (((((w2.setCell ⟨w.heap.size, 0, none⟩ (.int .i64 ep)).setCell ⟨w.heap.size, 1, none⟩ (.int .i64 j)).setCell ⟨w.heap.size, 2, none⟩ (.int .i64 b)).setCell ⟨w.heap.size, 3, none⟩ (.int .i64 h)).setCell ⟨w.heap.size, 4, none⟩ (.int .i64 nx))) := Lib.hid (HQ2.out.set5 (by omega) _ _ _ _ _)
  have HB3 : Hid (Below w.heap.size w (((((w2.setCell ⟨w.heap.size, 0, none⟩ (.int .i64 ep)).setCell ⟨w.heap.size, 1, none⟩ (.int .i64 j)).setCell ⟨w.heap.size, 2, none⟩ (.int .i64 b)).setCell ⟨w.heap.size, 3, none⟩ (.int .i64 h)).setCell ⟨w.heap.size, 4, none⟩ (.int .i64 nx))) := Lib.hid (below_set5 HB2.out _ (Nat.le_refl _) _ _ _ _ _)
  go_upto_region 4 with fail
  generalize (((((w2.setCell ⟨w.heap.size, 0, none⟩ (.int .i64 ep)).setCell ⟨w.heap.size, 1, none⟩ (.int .i64 j)).setCell ⟨w.heap.size, 2, none⟩ (.int .i64 b)).setCell ⟨w.heap.size, 3, none⟩ (.int .i64 h)).setCell ⟨w.heap.size, 4, none⟩ (.int .i64 nx)) = w3 at *
  clear l0 l1 l2 l3 l4 f0 f1 f2 f3 f4 HO2 HP2 HQ2 HB2 HFew
  obtain ⟨l0, l1, l2, l3, l4⟩ := fiveAt HO3.out
  go_wp2_with fail
  refine (HChk.out w3).mono ?_
  rintro e w4 ⟨rfl, hb4⟩
  have HO4 := Lib.hid (HO3.out.below hb4)
  have HP4 := Lib.hid (HP3.out.below hb4)
  have HQ4 := Lib.hid (HQ3.out.below hb4)
  have HB4 := Lib.hid (HB3.out.trans (hb4.mono HB3.out.size))
  clear l0 l1 l2 l3 l4 hb4 HO3 HP3 HQ3 HB3 HChk
  by_cases hc0 : C = 0
  rotate_left
  · have i0 : ((C : Int) != 0) = true := by simp; omega
    have i0' : ((C : Int) == 0) = false := by rw [beq_eq_false_iff_ne]; omega
    go_wp2_with fail
    go_ret
    exact ⟨rfl, HB4.out⟩
  subst hc0
  go_wp2_with fail
  refine (new_any 1000 w4).mono ?_
  rintro e w5 ⟨m, rfl, hM⟩
  obtain ⟨d, bs, bt, hm⟩ := hM.is
  rw [show diskLen 1000 = 1000 from rfl] at hm
  have HO5 := Lib.hid (HO4.out.grew (hM.grew fun _ => False) fun e => e)
  have HP5 := Lib.hid (HP4.out.grew (hM.grew fun _ => False) fun e => e)
  have HQ5 := Lib.hid (HQ4.out.grew (hM.grew fun _ => False) fun e => e)
  have HB5 : Hid (Below w.heap.size w w5) := Lib.hid ((hM.grew fun _ => False).below HB4.out HB4.out.size fun _ e => e.elim)
  have HLo : Hid (w.heap.size + 1 + 1 < w4.heap.size ∧ ∀ k, m.own k → w4.heap.size ≤ k) := Lib.hid ⟨HQ4.out.lt, hM.fresh⟩
  have HD5 := Lib.hid hM.at'
  have HHi := Lib.hid hM.at'.below
  have hL : m.Live := by rw [hm]; exact live_new _ _ _ _
  have hnn : m.n = 1000 := by rw [hm]; rfl
  obtain ⟨p, hp⟩ : ∃ p, m.d = p := ⟨_, rfl⟩
  rw [hp]
  obtain ⟨m1, m2, m3, _, m5⟩ := supW_same (⟨ep, j, b, h, nx⟩ : Sup) m
  have hsW : supW ⟨ep, j, b, h, nx⟩ m = (newDisk d bs bt 1000).wrote (ep % 2) (txtf (⟨ep, j, b, h, nx⟩ : Sup).frame) := by
    unfold supW
    rw [hnn, HC.out, if_pos rfl, hm]
  have HM : Hid ((supW ⟨ep, j, b, h, nx⟩ m).d = p ∧ (supW ⟨ep, j, b, h, nx⟩ m).n = 1000 ∧ (supW ⟨ep, j, b, h, nx⟩ m).own = m.own ∧ (supW ⟨ep, j, b, h, nx⟩ m).Live) := Lib.hid ⟨m1.trans hp, m2.trans hnn, m3, m5 hL⟩
  have HLast := Lib.hid (last_spoilt d bs bt 1000 ⟨ep, j, b, h, nx⟩ HC.out b' HY.out.2 x ((supW ⟨ep, j, b, h, nx⟩ m).spoilt (ep % 2 * 64 + b') x) (by rw [hsW]))
  have HWr : Hid (∀ wx, DiskAt m wx → Calls Try.prog 25 #[.pointer (some ⟨p, 0, none⟩), .agg #[.int .u32 ep, .int .i64 j, .int .i64 b, .int .i64 h, .int .u32 nx]] wx fun e w' => e = .returned (.int .i64 0) ∧ DiskAt (supW ⟨ep, j, b, h, nx⟩ m) w' ∧ Grew m.own wx w') := Lib.hid fun wx hd => by
    have := lawSupWrite_any ⟨ep, j, b, h, nx⟩ HS.out p m hp hL wx hd
    rw [hnn, HC.out] at this
    exact this
  generalize supW ⟨ep, j, b, h, nx⟩ m = M1 at *
  clear hM hm hL hnn hp hsW m1 m2 m3 m5 HO4 HP4 HQ4 HB4
  obtain ⟨W5, hW5⟩ : ∃ W5, w5.alloc (.cells #[.pointer (some ⟨p, 0, none⟩)] 24) = W5 := ⟨_, rfl⟩
  have HSp : Hid (SpBox w5.heap.size p w.heap.size (.cells #[.int .i64 ep, .int .i64 j, .int .i64 b, .int .i64 h, .int .i64 nx] 47) (w.heap.size + 1) (w.heap.size + 1 + 1) (.int .i64 y) (.int .u8 (x.toNat : Int)) W5) := Lib.hid (by
    rw [← hW5]
    refine ⟨boxNew rfl, HO5.out.alloc _, ?_, ?_⟩
    · have := HP5.out.alloc (.cells #[.pointer (some ⟨p, 0, none⟩)] 24)
      unfold Holds at this
      simp [World.cell?, this]
    · have := HQ5.out.alloc (.cells #[.pointer (some ⟨p, 0, none⟩)] 24)
      unfold Holds at this
      simp [World.cell?, this])
  have HBq : Hid (Below w.heap.size w W5) := Lib.hid (by rw [← hW5]; exact HB5.out.alloc HB5.out.size _)
  have HDq : Hid (DiskAt m W5) := Lib.hid (by rw [← hW5]; exact HD5.out.keep ((Grew.refl (S := fun _ => False) w5).alloc _) fun _ _ e => e)
  have hmf : ∀ (fn : Fn) (first cap : Array Value) (w : World), (Instr.makeFunc fn first cap).run Try.prog w = .ok (.func fn first cap) w := fun _ _ _ _ => rfl
  have HNo : Hid (¬ m.own w5.heap.size ∧ ¬ m.own w.heap.size ∧ ¬ m.own (w.heap.size + 1) ∧ ¬ m.own (w.heap.size + 1 + 1)) := Lib.hid ⟨fun e => Nat.lt_irrefl _ (HHi.out _ e), fun e => by have := HLo.out.2 _ e; have := HLo.out.1; omega, fun e => by have := HLo.out.2 _ e; have := HLo.out.1; omega, fun e => by have := HLo.out.2 _ e; have := HLo.out.1; omega⟩
  have HWk : Hid (∀ k, m.own k → w.heap.size ≤ k) := Lib.hid fun k e => by have := HLo.out.2 k e; have := HLo.out.1; omega
  have HM2 : Hid ((M1.spoilt (ep % 2 * 64 + b') x).d = p ∧ (M1.spoilt (ep % 2 * 64 + b') x).n = 1000 ∧ (M1.spoilt (ep % 2 * 64 + b') x).own = m.own ∧ (M1.spoilt (ep % 2 * 64 + b') x).Live) := Lib.hid ⟨HM.out.1, HM.out.2.1, HM.out.2.2.1, ⟨HM.out.2.2.2.dead, HM.out.2.2.2.armed, HM.out.2.2.2.fits⟩⟩
  have HGu : Hid (∀ wx, DiskAt M1 wx → SpBox w5.heap.size p w.heap.size (.cells #[.int .i64 ep, .int .i64 j, .int .i64 b, .int .i64 h, .int .i64 nx] 47) (w.heap.size + 1) (w.heap.size + 1 + 1) (.int .i64 y) (.int .u8 (x.toNat : Int)) wx → Calls Try.prog 33 #[.func (.func 34) #[] #[.pointer (some ⟨w5.heap.size, 0, none⟩), .pointer (some ⟨w.heap.size, 0, none⟩), .pointer (some ⟨w.heap.size + 1, 0, none⟩), .pointer (some ⟨w.heap.size + 1 + 1, 0, none⟩)]] wx fun e w' => e = .returned (.int .i64 0) ∧ DiskAt (M1.spoilt (ep % 2 * 64 + b') x) w' ∧ Grew m.own wx w') := Lib.hid fun wx hd hb => by
    have := superSpoilt_guard p M1 HM.out.1 ⟨ep, j, b, h, nx⟩ _ _ _ _ y b' HY.out.1 HY.out.2 x wx hd (by rw [HM.out.2.1]; show ep % 2 < 1000; omega) hb
    rw [HM.out.2.2.1] at this
    exact this
  generalize M1.spoilt (ep % 2 * 64 + b') x = M2 at *
  generalize m.own = O at *
  have HSd : Hid (SpBox w5.heap.size p w.heap.size (.cells #[.int .i64 ep, .int .i64 j, .int .i64 b, .int .i64 h, .int .i64 nx] 47) (w.heap.size + 1) (w.heap.size + 1 + 1) (.int .i64 y) (.int .u8 (x.toNat : Int)) W5.drew) := Lib.hid ⟨HSp.out.d, HSp.out.x, HSp.out.by', HSp.out.wi⟩
  have HDd := Lib.hid HDq.out.drew
  have HBd := Lib.hid HBq.out.drew
  go_upto_region 7 with fail
  clear hW5
  go_region_held3 (fun wx => wx.cell? ⟨w5.heap.size, 0, none⟩ = some (.pointer (some ⟨p, 0, none⟩)) ∧ wx.cell? ⟨w.heap.size, 0, none⟩ = some (.int .i64 ep) ∧ wx.cell? ⟨w.heap.size, 1, none⟩ = some (.int .i64 j) ∧ wx.cell? ⟨w.heap.size, 2, none⟩ = some (.int .i64 b) ∧ wx.cell? ⟨w.heap.size, 3, none⟩ = some (.int .i64 h) ∧ wx.cell? ⟨w.heap.size, 4, none⟩ = some (.int .i64 nx))
    (first | (with_reducible exact HSd.out.keep) | (with_reducible exact HSa.out.keep) | (with_reducible exact HSb.out.keep) | (with_reducible exact HSc.out.keep))
    (first
      | (go_at_call 23; (with_reducible refine (HOwn.out W5.drew).mono ?_); rintro e wa ⟨rfl, hba⟩; (have HSa := Lib.hid (HSd.out.below hba)); (have HDa := Lib.hid (HDd.out.keep (Grew.of_below (S := fun _ => False) hba) fun _ _ e => e)); (have HBa := Lib.hid (HBd.out.trans (hba.mono HBd.out.size))); clear hba)
      | (go_at_call 25; (with_reducible refine (HWr.out wa HDa.out).mono ?_); rintro e wb ⟨rfl, hdb, hgb⟩; (have HDb := Lib.hid hdb); (have HSb := Lib.hid (HSa.out.grew hgb HNo.out.1 HNo.out.2.1 HNo.out.2.2.1 HNo.out.2.2.2)); (have HBb : Hid (Below w.heap.size w wb) := Lib.hid (hgb.below HBa.out HBa.out.size HWk.out)); clear hdb hgb)
      | (go_at_call 33; (with_reducible refine (HGu.out wb HDb.out HSb.out).mono ?_); rintro e wc ⟨rfl, hdc, hgc⟩; (have HDc := Lib.hid hdc); (have HSc := Lib.hid (HSb.out.grew hgc HNo.out.1 HNo.out.2.1 HNo.out.2.2.1 HNo.out.2.2.2)); (have HBc : Hid (Below w.heap.size w wc) := Lib.hid (hgc.below HBb.out HBb.out.size HWk.out)); clear hdc hgc))
  clear HSd HDd HBd HSa HDa HBa HSb HDb HBb HWr HGu HOwn HSp HBq HDq
  have HTs : Hid ((sectOf M2 (ep % 2)).size = 64) := Lib.hid (sectOf_size _ _)
  have HLr : Hid (Calls Try.prog 18 #[.pointer (some ⟨p, 0, none⟩), .int .i64 ((ep : Int) % 2)] wc fun e w' => e = .returned (.tuple #[.string (sectOf M2 (ep % 2)), .int .i64 0]) ∧ DiskAt M2 w' ∧ Grew (fun _ => False) wc w') := Lib.hid (by
    have := lawRead_live p M2 HM2.out.1 (ep % 2) (by rw [HM2.out.2.1]; omega) HM2.out.2.2.2 wc HDc.out
    rw [show ((ep % 2 : Nat) : Int) = (ep : Int) % 2 by omega] at this
    refine this.mono ?_
    rintro e w' ⟨rfl, hd, hg⟩
    exact ⟨rfl, hd, hg _⟩)
  obtain ⟨k0, k1, k2, k3, k4, k5⟩ := HSc.out.keep
  go_wp2_with fail
  refine HLr.out.mono ?_
  rintro e w6 ⟨rfl, hd6, hg6⟩
  have HS6 := Lib.hid (HSc.out.grew hg6 (fun e => e) (fun e => e) (fun e => e) (fun e => e))
  have HB6 : Hid (Below w.heap.size w w6) := Lib.hid (hg6.below HBc.out HBc.out.size fun _ e => e.elim)
  have HRd := Lib.hid (lawSupRead_any p M2 HM2.out.1 HM2.out.2.2.2.dead w6 hd6)
  clear hd6 hg6 HLr HSc HBc HDc k0 k1 k2 k3 k4 k5
  obtain ⟨k0, k1, k2, k3, k4, k5⟩ := HS6.out.keep
  obtain ⟨E, hE⟩ : ∃ E, ep % 2 = E := ⟨_, rfl⟩
  have HPa : Hid (∀ wx : World, Calls Try.prog 36 #[.string (sectOf M2 E), .int .i64 ((ep : Int) % 2), .int .i64 1000] wx fun e w' => e = .returned (.tuple #[.agg (refOf (sectOf M2 E)).refCells, .bool (decide (refOk (sectOf M2 E) E 1000))]) ∧ Below wx.heap.size wx w') := Lib.hid fun wx => by
    have := refParse_any (sectOf M2 E) (by rw [← hE]; exact HTs.out) E 1000 (by omega) (by decide) wx
    rw [show (ep : Int) % 2 = ((E : Nat) : Int) by omega]
    exact this
  have HLast : Hid ((refOk (sectOf M2 E) E 1000 → lastOf M2 = refOf (sectOf M2 E) ∧ lastE M2 = none) ∧ (¬ refOk (sectOf M2 E) E 1000 → lastOf M2 = Sup.none ∧ lastE M2 = some 1)) := Lib.hid (by rw [← hE]; exact HLast.out)
  have HFi : Hid (refOf (sectOf M2 E)).fits := Lib.hid (refOf_fits _)
  rw [hE]
  clear hE HTs
  generalize sectOf M2 E = S2 at *
  by_cases hok : refOk S2 E 1000
  · obtain ⟨a1, a2⟩ := HLast.out.1 hok
    rw [a1, a2] at HRd
    rw [decide_eq_true hok] at HPa
    have HOwn := Lib.hid fun wx => own_any (refOf S2) HFi.out wx
    clear HLast hok a1 a2 HFi
    generalize refOf S2 = R at *
    obtain ⟨e0, e1, e2, e3, e4⟩ := R
    dsimp only [Sup.refCells, Sup.cells] at *
    go_wp2_with fail
    refine HRd.out.mono ?_
    rintro e w7 ⟨rfl, hb7⟩
    have HS7 := Lib.hid ((HS6.out.below hb7).grew ((Grew.refl (S := fun _ => False) w7).alloc (.cells #[.int .u32 e0, .int .i64 e1, .int .i64 e2, .int .i64 e3, .int .u32 e4] 51)) (fun e => e) (fun e => e) (fun e => e) (fun e => e))
    have HB7 := Lib.hid ((HB6.out.trans (hb7.mono HB6.out.size)).alloc (HB6.out.trans (hb7.mono HB6.out.size)).size (.cells #[.int .u32 e0, .int .i64 e1, .int .i64 e2, .int .i64 e3, .int .u32 e4] 51))
    have HT7 := Lib.hid (Holds.new w7 (.cells #[.int .u32 e0, .int .i64 e1, .int .i64 e2, .int .i64 e3, .int .u32 e4] 51))
    clear hb7 k0 k1 k2 k3 k4 k5 HS6 HB6 HRd
    go_upto_region 11 with fail
    generalize w7.alloc (.cells #[.int .u32 e0, .int .i64 e1, .int .i64 e2, .int .i64 e3, .int .u32 e4] 51) = w8 at *
    generalize w7.heap.size = r at *
    obtain ⟨k0, k1, k2, k3, k4, k5⟩ := HS7.out.keep
    go_wp2_with fail
    refine (HPa.out w8).mono ?_
    rintro e w9 ⟨rfl, hb9⟩
    have HT9 := Lib.hid ((HT7.out.below hb9).alloc (.cells #[.int .i64 e0, .int .i64 e1, .int .i64 e2, .int .i64 e3, .int .i64 e4] 47))
    have HB9 := Lib.hid ((HB7.out.trans (hb9.mono HB7.out.size)).alloc (HB7.out.trans (hb9.mono HB7.out.size)).size (.cells #[.int .i64 e0, .int .i64 e1, .int .i64 e2, .int .i64 e3, .int .i64 e4] 47))
    have HU9 := Lib.hid (Holds.new w9 (.cells #[.int .i64 e0, .int .i64 e1, .int .i64 e2, .int .i64 e3, .int .i64 e4] 47))
    clear hb9 k0 k1 k2 k3 k4 k5 HS7 HB7 HPa HT7
    go_upto_region 14 with fail
    generalize w9.alloc (.cells #[.int .i64 e0, .int .i64 e1, .int .i64 e2, .int .i64 e3, .int .i64 e4] 47) = wq at *
    generalize w9.heap.size = u at *
    have HOq := Lib.hid (HOwn.out wq.drew)
    have HKd : Hid (wq.drew.cell? ⟨r, 0, none⟩ = some (.int .u32 e0) ∧ wq.drew.cell? ⟨r, 1, none⟩ = some (.int .i64 e1) ∧ wq.drew.cell? ⟨r, 2, none⟩ = some (.int .i64 e2) ∧ wq.drew.cell? ⟨r, 3, none⟩ = some (.int .i64 e3) ∧ wq.drew.cell? ⟨r, 4, none⟩ = some (.int .u32 e4) ∧ wq.drew.cell? ⟨u, 0, none⟩ = some (.int .i64 e0) ∧ wq.drew.cell? ⟨u, 1, none⟩ = some (.int .i64 e1) ∧ wq.drew.cell? ⟨u, 2, none⟩ = some (.int .i64 e2) ∧ wq.drew.cell? ⟨u, 3, none⟩ = some (.int .i64 e3) ∧ wq.drew.cell? ⟨u, 4, none⟩ = some (.int .i64 e4)) := Lib.hid (and_ten (fiveAt HT9.out) (fiveAt HU9.out))
    have HKb : Hid (∀ wx, Below wq.drew.heap.size wq.drew wx → (wx.cell? ⟨r, 0, none⟩ = some (.int .u32 e0) ∧ wx.cell? ⟨r, 1, none⟩ = some (.int .i64 e1) ∧ wx.cell? ⟨r, 2, none⟩ = some (.int .i64 e2) ∧ wx.cell? ⟨r, 3, none⟩ = some (.int .i64 e3) ∧ wx.cell? ⟨r, 4, none⟩ = some (.int .u32 e4) ∧ wx.cell? ⟨u, 0, none⟩ = some (.int .i64 e0) ∧ wx.cell? ⟨u, 1, none⟩ = some (.int .i64 e1) ∧ wx.cell? ⟨u, 2, none⟩ = some (.int .i64 e2) ∧ wx.cell? ⟨u, 3, none⟩ = some (.int .i64 e3) ∧ wx.cell? ⟨u, 4, none⟩ = some (.int .i64 e4))) := Lib.hid fun wx hb => and_ten (fiveAt (HT9.out.drew.below hb)) (fiveAt (HU9.out.drew.below hb))
    have HB9d := Lib.hid HB9.out.drew
    go_wp2_with fail
    go_region_held3 (fun wx => wx.cell? ⟨r, 0, none⟩ = some (.int .u32 e0) ∧ wx.cell? ⟨r, 1, none⟩ = some (.int .i64 e1) ∧ wx.cell? ⟨r, 2, none⟩ = some (.int .i64 e2) ∧ wx.cell? ⟨r, 3, none⟩ = some (.int .i64 e3) ∧ wx.cell? ⟨r, 4, none⟩ = some (.int .u32 e4) ∧ wx.cell? ⟨u, 0, none⟩ = some (.int .i64 e0) ∧ wx.cell? ⟨u, 1, none⟩ = some (.int .i64 e1) ∧ wx.cell? ⟨u, 2, none⟩ = some (.int .i64 e2) ∧ wx.cell? ⟨u, 3, none⟩ = some (.int .i64 e3) ∧ wx.cell? ⟨u, 4, none⟩ = some (.int .i64 e4))
      (first | (with_reducible exact HKd.out) | (with_reducible exact HK2.out))
      (first | (go_at_call 23; (with_reducible refine HOq.out.mono ?_); rintro e wz ⟨rfl, hbz⟩; (have HK2 := Lib.hid (HKb.out _ hbz)); (have HBz := Lib.hid (HB9d.out.trans (hbz.mono HB9d.out.size))); clear hbz))
    all_goals
      go_wp2_with fail
      go_ret
      exact ⟨rfl, HBz.out⟩
  · obtain ⟨a1, a2⟩ := HLast.out.2 hok
    rw [a1, a2] at HRd
    rw [decide_eq_false hok] at HPa
    clear HLast hok a1 a2 HFi
    generalize refOf S2 = R at *
    obtain ⟨e0, e1, e2, e3, e4⟩ := R
    dsimp only [Sup.refCells, Sup.cells, Sup.none] at *
    go_wp2_with fail
    refine HRd.out.mono ?_
    rintro e w7 ⟨rfl, hb7⟩
    obtain ⟨W8, hW8⟩ : ∃ W8, w7.alloc zeroSup = W8 := ⟨_, rfl⟩
    have HS7 : Hid (SpBox w5.heap.size p w.heap.size (.cells #[.int .i64 ep, .int .i64 j, .int .i64 b, .int .i64 h, .int .i64 nx] 47) (w.heap.size + 1) (w.heap.size + 1 + 1) (.int .i64 y) (.int .u8 (x.toNat : Int)) W8) := Lib.hid (by rw [← hW8]; exact (HS6.out.below hb7).grew ((Grew.refl (S := fun _ => False) w7).alloc zeroSup) (fun e => e) (fun e => e) (fun e => e) (fun e => e))
    have HB7 : Hid (Below w.heap.size w W8) := Lib.hid (by rw [← hW8]; exact (HB6.out.trans (hb7.mono HB6.out.size)).alloc (HB6.out.trans (hb7.mono HB6.out.size)).size zeroSup)
    have HW8 := Lib.hid hW8
    clear hb7 k0 k1 k2 k3 k4 k5 HS6 HB6 HRd hW8
    go_upto_region 11 with fail
    change Code.wp _ _ _ _ (w7.alloc zeroSup)
    rw [HW8.out]
    clear HW8
    obtain ⟨k0, k1, k2, k3, k4, k5⟩ := HS7.out.keep
    go_wp2_with fail
    refine (HPa.out W8).mono ?_
    rintro e w9 ⟨rfl, hb9⟩
    have HB9 := Lib.hid (HB7.out.trans (hb9.mono HB7.out.size))
    have HB9a : Hid (Below w.heap.size w (w9.alloc (.cells #[.int .i64 e0, .int .i64 e1, .int .i64 e2, .int .i64 e3, .int .i64 e4] 47))) := Lib.hid (HB9.out.alloc HB9.out.size (.cells #[.int .i64 e0, .int .i64 e1, .int .i64 e2, .int .i64 e3, .int .i64 e4] 47))
    clear hb9 k0 k1 k2 k3 k4 k5 HS7 HB7 HPa
    go_wp2_with fail
    go_ret
    exact ⟨rfl, HB9a.out⟩
theorem superSpoilt_walk' (x0 x1 x2 x3 x4 y : Int) (x : Nat) (w : World) (hx : x < 256) :
    Calls Try.prog 8 #[.agg #[.int .i64 x0, .int .i64 x1, .int .i64 x2, .int .i64 x3, .int .i64 x4], .int .i64 y, .int .u8 (x : Int)] w fun e w' => e = .returned (.bool true) ∧ Below w.heap.size w w' := by
  have := superSpoilt_walk x0 x1 x2 x3 x4 y (UInt8.ofNat x) w
  rw [UInt8.toNat_ofNat', Nat.mod_eq_of_lt hx] at this
  exact this
end Go.Proofs.Ytmpegfmhnciemaa
