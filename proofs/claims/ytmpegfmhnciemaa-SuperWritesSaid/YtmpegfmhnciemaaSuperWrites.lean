/-
  SuperWrites: for every super and every number of sectors the law answers true.
-/
import Derived.Test.YtmpegfmhnciemaaSuperKit
import Derived.Test.YtmpegfmhnciemaaSuperRefB
namespace Go.Proofs.Ytmpegfmhnciemaa
open Go.RowKit

set_option maxRecDepth 10000 in
set_option maxHeartbeats 20000000 in
theorem superWrites_walk (x0 x1 x2 x3 x4 sectors : Int) (w : World) :
    Calls Try.prog 5 #[.agg #[.int .i64 x0, .int .i64 x1, .int .i64 x2, .int .i64 x3, .int .i64 x4], .int .i64 sectors] w fun e w' => e = .returned (.bool true) ∧ Below w.heap.size w w' := by
  obtain ⟨s, hs, hfew⟩ := supFew_any x0 x1 x2 x3 x4
  have HFew := Lib.hid hfew
  obtain ⟨n, hn⟩ : ∃ n, diskLen sectors = n := ⟨_, rfl⟩
  have hn' : min (max sectors 0) 4096 = (n : Int) := by rw [← hn]; unfold diskLen; omega
  have hnle : n ≤ 4096 := by rw [← hn]; exact diskLen_le _
  obtain ⟨X, hX⟩ : ∃ X, X = max sectors 0 := ⟨_, rfl⟩
  have hmx := fun (wx : World) (ts : Array TypeId) (t : TypeId) => run_max2 Try.prog wx ts t sectors 0 X hX
  have hmn := fun (wx : World) (ts : Array TypeId) (t : TypeId) => run_min2 Try.prog wx ts t X 4096 (n : Int) (by rw [hX, hn'])
  have hdl : diskLen (n : Int) = n := by unfold diskLen; omega
  have HN := Lib.hid hn
  have HDl := Lib.hid hdl
  have HNle := Lib.hid hnle
  have HS := Lib.hid hs
  have HOwn := Lib.hid fun wx => own_any s hs wx
  have HChk := Lib.hid fun wx => refCheck_any s hs n (by omega) wx
  have HChp := Lib.hid fun wx => check_any s hs n (by omega) wx
  have HCh5 := Lib.hid fun wx => check_any s hs 5000 (by decide) wx
  have HBy := Lib.hid fun wx => refSupBytes_any s hs wx
  have H5 := Lib.hid (check_5000 s)
  obtain ⟨C5, hC5⟩ : ∃ C5, s.check 5000 = C5 := ⟨_, rfl⟩
  rw [hC5] at HCh5 H5
  have i5 : ((C5 : Int) == 0) = false := by rw [beq_eq_false_iff_ne]; have := H5.out; omega
  obtain ⟨C, hC⟩ : ∃ C, s.check n = C := ⟨_, rfl⟩
  rw [hC] at HChk HChp
  have HC := Lib.hid hC
  clear hfew hn hn' hX hdl hs hC5 hC hnle H5
  have HO0 := Lib.hid (Holds.new w (.cells #[.int .i64 x0, .int .i64 x1, .int .i64 x2, .int .i64 x3, .int .i64 x4] 47))
  have HB0 : Hid (Below w.heap.size w (w.alloc (.cells #[.int .i64 x0, .int .i64 x1, .int .i64 x2, .int .i64 x3, .int .i64 x4] 47))) := Lib.hid ((Below.refl _ _).alloc (Nat.le_refl _) _)
  go_enter Try.func5, Try.ntmps5
  go_wp2_with fail
  generalize w.alloc (.cells #[.int .i64 x0, .int .i64 x1, .int .i64 x2, .int .i64 x3, .int .i64 x4] 47) = w0 at *
  refine (supAwake w0).mono ?_
  rintro e w1 ⟨rfl, hb1⟩
  have HO1 := Lib.hid (HO0.out.below hb1)
  have HB1 := Lib.hid (HB0.out.trans (hb1.mono HB0.out.size))
  obtain ⟨⟨l0, l1, l2, l3, l4⟩, f0, f1, f2, f3, f4⟩ := zero_cells HO1.out
  clear hb1 HO0 HB0
  go_wp2_with fail
  refine (HFew.out w1).mono ?_
  rintro e w2 ⟨rfl, hb2⟩
  have HO2 := Lib.hid (HO1.out.below hb2)
  have HB2 := Lib.hid (HB1.out.trans (hb2.mono HB1.out.size))
  clear l0 l1 l2 l3 l4 f0 f1 f2 f3 f4 hb2
  obtain ⟨⟨l0, l1, l2, l3, l4⟩, f0, f1, f2, f3, f4⟩ := zero_cells HO2.out
  obtain ⟨ep, j, b, h, nx⟩ := s
  dsimp only [Sup.refCells, Sup.cells] at *
  have HO3 : Hid (Holds w.heap.size (.cells #[.int .i64 ep, .int .i64 j, .int .i64 b, .int .i64 h, .int .i64 nx] 47) (((((w2.setCell ⟨w.heap.size, 0, none⟩ (.int .i64 ep)).setCell ⟨w.heap.size, 1, none⟩ (.int .i64 j)).setCell ⟨w.heap.size, 2, none⟩ (.int .i64 b)).setCell ⟨w.heap.size, 3, none⟩ (.int .i64 h)).setCell ⟨w.heap.size, 4, none⟩ (.int .i64 nx))) := Lib.hid (five_set HO2.out _ _ _ _ _)
  have HB3 : Hid (Below w.heap.size w (((((w2.setCell ⟨w.heap.size, 0, none⟩ (.int .i64 ep)).setCell ⟨w.heap.size, 1, none⟩ (.int .i64 j)).setCell ⟨w.heap.size, 2, none⟩ (.int .i64 b)).setCell ⟨w.heap.size, 3, none⟩ (.int .i64 h)).setCell ⟨w.heap.size, 4, none⟩ (.int .i64 nx))) := Lib.hid (((((HB2.out.setCell (Nat.le_refl _) _).setCell (Nat.le_refl _) _).setCell (Nat.le_refl _) _).setCell (Nat.le_refl _) _).setCell (Nat.le_refl _) _)
  go_upto_region 5 with fail
  generalize ((((w2.setCell ⟨w.heap.size, 0, none⟩ (.int .i64 ep)).setCell ⟨w.heap.size, 1, none⟩ (.int .i64 j)).setCell ⟨w.heap.size, 2, none⟩ (.int .i64 b)).setCell ⟨w.heap.size, 3, none⟩ (.int .i64 h)).setCell ⟨w.heap.size, 4, none⟩ (.int .i64 nx) = w3 at *
  clear l0 l1 l2 l3 l4 f0 f1 f2 f3 f4 HO1 HB1 HO2 HB2 HFew hmx hmn
  obtain ⟨l0, l1, l2, l3, l4⟩ := fiveAt HO3.out
  have HX0 := Lib.hid HO3.out.drew
  have HXA := Lib.hid (HO3.out.alloc zeroSup).drew
  have HY0 := Lib.hid HB3.out.drew
  have HYA : Hid (Below w.heap.size w (w3.alloc zeroSup).drew) := Lib.hid (HB3.out.alloc HB3.out.size zeroSup).drew
  have HZA : Hid (Holds w3.heap.size zeroSup (w3.alloc zeroSup).drew) := Lib.hid (Holds.new w3 zeroSup).drew
  have hLt := HO3.out.lt
  go_cut [5, 6] (fun s5 s6 wx => ∃ g, s5 = .pointer (some ⟨g, 0, none⟩) ∧ s6 = .int .i64 (C : Int) ∧ Holds g (.cells #[.int .u32 ep, .int .i64 j, .int .i64 b, .int .i64 h, .int .u32 nx] 51) wx ∧ Holds w.heap.size (.cells #[.int .i64 ep, .int .i64 j, .int .i64 b, .int .i64 h, .int .i64 nx] 47) wx ∧ w.heap.size < g ∧ Below w.heap.size w wx)
  case first =>
    go_region_with (first
      | (go_at_call 23; (with_reducible refine (HOwn.out _).mono ?_); rintro e wa ⟨rfl, hba⟩; (first | (have HXa := Lib.hid (HXA.out.below hba); have HYa := Lib.hid (HYA.out.trans (hba.mono HYA.out.size)); have HZa := Lib.hid (HZA.out.below hba); obtain ⟨⟨y0, y1, y2, y3, y4⟩, g0, g1, g2, g3, g4⟩ := zero_cells HZa.out) | (have HXa := Lib.hid (HX0.out.below hba); have HYa := Lib.hid (HY0.out.trans (hba.mono HY0.out.size)))); (have hLa := HXa.out.lt); (obtain ⟨l0, l1, l2, l3, l4⟩ := fiveAt HXa.out); clear hba)
      | (go_at_call 24; (with_reducible refine (HChk.out _).mono ?_); rintro e wb ⟨rfl, hbb⟩; (first | (have HZb := Lib.hid (HZa.out.below hbb); have HXb := Lib.hid (HXa.out.below hbb); have HYb := Lib.hid (HYa.out.trans (hbb.mono HYa.out.size)); obtain ⟨⟨y0, y1, y2, y3, y4⟩, g0, g1, g2, g3, g4⟩ := zero_cells HZb.out) | (have HZb := Lib.hid ((Holds.new wa zeroSup).below hbb); have HXb := Lib.hid ((HXa.out.alloc zeroSup).below hbb); have HYb := Lib.hid ((HYa.out.alloc HYa.out.size zeroSup).trans (hbb.mono (HYa.out.alloc HYa.out.size zeroSup).size)); obtain ⟨⟨y0, y1, y2, y3, y4⟩, g0, g1, g2, g3, g4⟩ := zero_cells HZb.out) | (have HXb := Lib.hid (HXa.out.below hbb); have HYb := Lib.hid (HYa.out.trans (hbb.mono HYa.out.size)))); (have hLb := HXb.out.lt); (obtain ⟨l0, l1, l2, l3, l4⟩ := fiveAt HXb.out); clear hbb))
    all_goals
      go_wp2_with fail
      go_meet
      refine ⟨_, rfl, rfl, ?_⟩
      first
        | (with_reducible exact ⟨Holds.new wb _, HXb.out.alloc _, hLb, HYb.out.alloc HYb.out.size _⟩)
        | (with_reducible exact ⟨HZb.out.five _ _ _ _ _, HXb.out.set5 (Nat.ne_of_lt hLa) _ _ _ _ _, hLa, below_set5 HYb.out _ (Nat.le_of_lt hLa) _ _ _ _ _⟩)
        | (with_reducible exact ⟨HZb.out.five _ _ _ _ _, HXb.out.set5 (Nat.ne_of_lt hLt) _ _ _ _ _, hLt, below_set5 HYb.out _ (Nat.le_of_lt hLt) _ _ _ _ _⟩)
  case rest =>
    obtain ⟨g, rfl, rfl, hg, hb, hlt, hbw⟩ := hcut
    have HGc := Lib.hid hg
    have HBc := Lib.hid hb
    have HWc := Lib.hid hbw
    have HLt := Lib.hid (And.intro hb.lt hg.lt)
    clear hg hb hbw HX0 HXA HY0 HYA HZA hLt HO3 HB3 HOwn HChk l0 l1 l2 l3 l4
    go_wp2_with fail
    refine (new_any (n : Int) wc).mono ?_
    rintro e w4 ⟨m, rfl, hM⟩
    obtain ⟨d, bs, bt, hm⟩ := hM.is
    rw [HDl.out] at hm
    have HG4 := Lib.hid (HGc.out.grew (hM.grew fun _ => False) fun e => e)
    have HB4 := Lib.hid (HBc.out.grew (hM.grew fun _ => False) fun e => e)
    have HW4 : Hid (Below w.heap.size w w4) := Lib.hid ((hM.grew fun _ => False).below HWc.out HWc.out.size fun _ e => e.elim)
    have HOm : Hid (∀ k, m.own k → wc.heap.size ≤ k) := Lib.hid hM.fresh
    have HD4 := Lib.hid hM.at'
    have hL : m.Live := by rw [hm]; exact live_new _ _ _ _
    have hnn : m.n = n := by rw [hm]; rfl
    have HBl : Hid ((C = 0 → lastOf (supW ⟨ep, j, b, h, nx⟩ m) = ⟨ep, j, b, h, nx⟩ ∧ lastE (supW ⟨ep, j, b, h, nx⟩ m) = none ∧ ep % 2 < (supW ⟨ep, j, b, h, nx⟩ m).n ∧ sectOf (supW ⟨ep, j, b, h, nx⟩ m) (ep % 2) = (⟨ep, j, b, h, nx⟩ : Sup).frame) ∧ (¬ C = 0 → lastOf (supW ⟨ep, j, b, h, nx⟩ m) = Sup.none ∧ lastE (supW ⟨ep, j, b, h, nx⟩ m) = some 1 ∧ (supW ⟨ep, j, b, h, nx⟩ m).looseTo (supW ⟨ep, j, b, h, nx⟩ m).n = [])) := Lib.hid (by
      obtain ⟨_, s2, _⟩ := supW_same (⟨ep, j, b, h, nx⟩ : Sup) m
      rw [s2, hnn, hm, ← HC.out]
      exact blank_wrote d bs bt n ⟨ep, j, b, h, nx⟩ HS.out)
    obtain ⟨p, hp⟩ : ∃ p, m.d = p := ⟨_, rfl⟩
    have HWr := Lib.hid (lawSupWrite_any ⟨ep, j, b, h, nx⟩ HS.out p m hp hL w4 hM.at')
    rw [hnn, HC.out] at HWr
    have HMs : Hid ((supW ⟨ep, j, b, h, nx⟩ m).d = p ∧ (supW ⟨ep, j, b, h, nx⟩ m).Live) := Lib.hid (by
      obtain ⟨s1, _, _, _, s5⟩ := supW_same (⟨ep, j, b, h, nx⟩ : Sup) m
      exact ⟨s1.trans hp, s5 hL⟩)
    rw [hp]
    clear hM hm hL hnn hp HD4 HGc HBc HWc
    generalize supW ⟨ep, j, b, h, nx⟩ m = M at *
    obtain ⟨l0, l1, l2, l3, l4⟩ := fiveAt HG4.out
    dsimp only [Sup.cells] at *
    go_wp2_with fail
    refine HWr.out.mono ?_
    rintro e w5 ⟨rfl, hD5, hg5⟩
    have HG5 := Lib.hid (HG4.out.grew hg5 fun e => by have := HOm.out _ e; have := HLt.out.2; omega)
    have HB5 := Lib.hid (HB4.out.grew hg5 fun e => by have := HOm.out _ e; have := HLt.out.1; omega)
    have HW5 : Hid (Below w.heap.size w w5) := Lib.hid (hg5.below HW4.out HW4.out.size fun k e => by have := HOm.out k e; have := HLt.out.1; omega)
    have HD5 := Lib.hid hD5
    clear hg5 hD5 HWr HG4 HB4 HW4 HOm l0 l1 l2 l3 l4
    obtain ⟨l0, l1, l2, l3, l4⟩ := fiveAt HG5.out
    have i9 : ((C : Int) != (C : Int)) = false := by simp
    go_wp2_with fail
    refine (HChp.out w5).mono ?_
    rintro e w6 ⟨rfl, hb6⟩
    have HG6 := Lib.hid (HG5.out.below hb6)
    have HB6 := Lib.hid (HB5.out.below hb6)
    have HW6 := Lib.hid (HW5.out.trans (hb6.mono HW5.out.size))
    have HD6 := Lib.hid (HD5.out.keep (Grew.of_below (S := fun _ => False) hb6) fun _ _ e => e)
    clear hb6 HG5 HB5 HW5 HD5 l0 l1 l2 l3 l4
    obtain ⟨l0, l1, l2, l3, l4⟩ := fiveAt HG6.out
    go_wp2_with fail
    refine (HCh5.out w6).mono ?_
    rintro e w7 ⟨rfl, hb7⟩
    have HG7 := Lib.hid (HG6.out.below hb7)
    have HB7 := Lib.hid (HB6.out.below hb7)
    have HW7 := Lib.hid (HW6.out.trans (hb7.mono HW6.out.size))
    have HD7 := Lib.hid (HD6.out.keep (Grew.of_below (S := fun _ => False) hb7) fun _ _ e => e)
    clear hb7 HG6 HB6 HW6 HD6 l0 l1 l2 l3 l4 HCh5 HChp
    have HRd := Lib.hid (lawSupRead_any p M HMs.out.1 HMs.out.2.dead w7 HD7.out)
    by_cases hc0 : C = 0
    · obtain ⟨b1, b2, b3, b4⟩ := HBl.out.1 hc0
      rw [b1, b2] at HRd
      have HLr : Hid (∀ wx, Below w7.heap.size w7 wx → Calls Try.prog 18 #[.pointer (some ⟨p, 0, none⟩), .int .i64 ((ep : Int) % 2)] wx fun e w' => e = .returned (.tuple #[.string (⟨ep, j, b, h, nx⟩ : Sup).frame, .int .i64 0]) ∧ Grew (fun _ => False) wx w') := Lib.hid fun wx hb => by
        have := lawRead_live p M HMs.out.1 (ep % 2) b3 HMs.out.2 wx (HD7.out.keep (Grew.of_below (S := fun _ => False) hb) fun _ _ e => e)
        rw [show ((ep % 2 : Nat) : Int) = (ep : Int) % 2 by omega] at this
        refine this.mono ?_
        rintro e w' ⟨rfl, _, hg⟩
        exact ⟨by rw [← b4]; rfl, hg _⟩
      clear b1 b2 b3 b4 HBl HD7
      subst hc0
      dsimp only [Sup.cells] at HRd
      go_wp2_with fail
      refine HRd.out.mono ?_
      rintro e w8 ⟨rfl, hb8⟩
      have HG8 := Lib.hid (HG7.out.below hb8)
      have HB8 := Lib.hid (HB7.out.below hb8)
      have HW8 := Lib.hid (HW7.out.trans (hb8.mono HW7.out.size))
      have HR8 := Lib.hid (Holds.new w8 (.cells #[.int .u32 ep, .int .i64 j, .int .i64 b, .int .i64 h, .int .u32 nx] 51))
      have HG9 := Lib.hid (HG8.out.alloc (.cells #[.int .u32 ep, .int .i64 j, .int .i64 b, .int .i64 h, .int .u32 nx] 51))
      have HB9 := Lib.hid (HB8.out.alloc (.cells #[.int .u32 ep, .int .i64 j, .int .i64 b, .int .i64 h, .int .u32 nx] 51))
      have HW9 := Lib.hid (HW8.out.alloc HW8.out.size (.cells #[.int .u32 ep, .int .i64 j, .int .i64 b, .int .i64 h, .int .u32 nx] 51))
      have HL9 := Lib.hid (HLr.out (w8.alloc (.cells #[.int .u32 ep, .int .i64 j, .int .i64 b, .int .i64 h, .int .u32 nx] 51)) (hb8.alloc hb8.size (.cells #[.int .u32 ep, .int .i64 j, .int .i64 b, .int .i64 h, .int .u32 nx] 51)))
      clear hb8 HG8 HB8 HW8 HRd HLr
      go_upto_region 11 with fail
      generalize w8.alloc (.cells #[.int .u32 ep, .int .i64 j, .int .i64 b, .int .i64 h, .int .u32 nx] 51) = w9 at *
      generalize w8.heap.size = r at *
      obtain ⟨l0, l1, l2, l3, l4⟩ := fiveAt HB9.out
      go_wp2_with fail
      refine HL9.out.mono ?_
      rintro e w10 ⟨rfl, hg10⟩
      have HB10 := Lib.hid (HB9.out.grew hg10 fun e => e)
      have HG10 := Lib.hid (HG9.out.grew hg10 fun e => e)
      have HR10 := Lib.hid (HR8.out.grew hg10 fun e => e)
      have HW10 : Hid (Below w.heap.size w w10) := Lib.hid (hg10.below HW9.out HW9.out.size fun _ e => e.elim)
      clear l0 l1 l2 l3 l4 HB9 HG9 HR8 HW9 HL9 hg10
      obtain ⟨l0, l1, l2, l3, l4⟩ := fiveAt HB10.out
      go_wp2_with fail
      refine (HBy.out w10).mono ?_
      rintro e w11 ⟨rfl, hb11⟩
      have HW11 := Lib.hid (HW10.out.trans (hb11.mono HW10.out.size))
      have hg11 := HG10.out.below hb11
      have hr11 := HR10.out.below hb11
      clear l0 l1 l2 l3 l4 hb11
      obtain ⟨l0, l1, l2, l3, l4⟩ := fiveAt hg11
      obtain ⟨m0, m1, m2, m3, m4⟩ := fiveAt hr11
      clear hg11 hr11
      go_wp2_with fail
      go_ret
      exact ⟨rfl, HW11.out⟩
    · obtain ⟨b1, b2, b3⟩ := HBl.out.2 hc0
      rw [b1, b2] at HRd
      have HLo : Hid (∀ wx, Below w7.heap.size w7 wx → Calls Try.prog 13 #[.pointer (some ⟨p, 0, none⟩)] wx fun e w' => (∃ a c, e = .returned (.slice a 0 c)) ∧ Below wx.heap.size wx w') := Lib.hid fun wx hb => by
        have hpM := HMs.out.1
        subst hpM
        refine (loose_any M wx (HD7.out.keep (Grew.of_below (S := fun _ => False) hb) fun _ _ e => e)).mono ?_
        rintro e w' ⟨v, rfl, ho, hb'⟩
        rw [b3] at ho
        obtain ⟨a, c, rfl⟩ := own_nil ho
        exact ⟨⟨a, c, rfl⟩, hb'⟩
      have i0 : ((C : Int) != 0) = true := by simp; omega
      have i0' : ((C : Int) == 0) = false := by rw [beq_eq_false_iff_ne]; omega
      clear b1 b2 b3 HBl HD7
      dsimp only [Sup.cells, Sup.none] at HRd
      go_wp2_with fail
      refine HRd.out.mono ?_
      rintro e w8 ⟨rfl, hb8⟩
      have HW8 := Lib.hid (HW7.out.trans (hb8.mono HW7.out.size))
      have HR8 := Lib.hid (Holds.new w8 zeroSup)
      have HW9 := Lib.hid (HW8.out.alloc HW8.out.size zeroSup)
      have HL9 := Lib.hid (HLo.out (w8.alloc zeroSup) (hb8.alloc hb8.size zeroSup))
      clear hb8 HW8 HRd HLo
      go_upto_region 11 with fail
      obtain ⟨W9, hW9⟩ : ∃ W9, w8.alloc zeroSup = W9 := ⟨_, rfl⟩
      rw [hW9] at HR8 HW9 HL9
      change Code.wp _ _ _ _ (w8.alloc zeroSup)
      rw [hW9]
      clear hW9
      generalize w8.heap.size = r at *
      obtain ⟨m0, m1, m2, m3, m4⟩ := fiveAt HR8.out
      go_wp2_with fail
      refine HL9.out.mono ?_
      rintro e w10 ⟨⟨a, c, rfl⟩, hb10⟩
      have HW10 := Lib.hid (HW9.out.trans (hb10.mono HW9.out.size))
      clear hb10
      go_wp2_with fail
      go_ret
      exact ⟨rfl, HW10.out⟩
end Go.Proofs.Ytmpegfmhnciemaa
