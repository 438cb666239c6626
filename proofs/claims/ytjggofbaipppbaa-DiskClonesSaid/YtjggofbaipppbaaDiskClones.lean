/-
  DiskClones: for every two lists of calls the law answers true.
-/
import Derived.Test.YtjggofbaipppbaaDiskClonesA
namespace Go.Proofs.Ytjggofbaipppbaa
open Go.RowKit

set_option maxRecDepth 100000 in
set_option maxHeartbeats 16000000 in
theorem diskClones_walk (a0 : Option Addr) (l0 c0' : Nat) (A0 : Nat → DAct) (a1 : Option Addr) (l1 c1 : Nat) (A : Nat → DAct) (w : World) (hA0 : FullAt w a0 l0 A0) (hA : FullAt w a1 l1 A) :
    Calls Try.prog 4 #[.slice a0 l0 c0', .slice a1 l1 c1] w fun e w' => e = .returned (.bool true) ∧ Below w.heap.size w w' := by
  have HA0 := Lib.hid hA0
  have HA := Lib.hid hA
  clear hA0 hA
  go_enter Try.func4, Try.ntmps4
  go_wp2_with fail
  refine (diskAwake _).mono ?_
  rintro e w1 ⟨rfl, hB⟩
  have HB := Lib.hid hB
  clear hB
  go_wp2_with fail
  refine (new_any 8 _).mono ?_
  rintro e w2 ⟨m, rfl, hM⟩
  have HM := Lib.hid hM
  clear hM
  go_wp2_with fail
  refine (refNew_any 8 _ (by decide)).mono ?_
  rintro e w3 ⟨r, rfl, hrn, hrS, hrT, hrl, hrd, hR, hb3⟩
  have HP0 : Hid (Play w w3.heap.size 8 m r (w3.alloc (.cells #[.slice r.sa r.n r.sc, .slice r.na r.n r.nc, .int .i64 r.left, .bool r.dead] 28))) := Lib.hid (by
    obtain ⟨d, bs, bt, hm⟩ := HM.out.is
    have hl : diskLen 8 = 8 := by decide
    have hM2 := HM.out
    have hat : DiskAt m w3 := hM2.at'.keep (Grew.of_below (S := fun _ => False) hb3) fun _ _ e => e
    have hB3 : Below w.heap.size w w3 := (Grew.of_below (S := fun _ => False) hb3).below ((hM2.grew fun _ => False).below HB.out HB.out.size fun _ e => e.elim) (Nat.le_trans HB.out.size (hM2.grew fun _ => False).size) fun _ e => e.elim
    have g : Grew (fun _ => False) w3 (w3.alloc (.cells #[.slice r.sa r.n r.sc, .slice r.na r.n r.nc, .int .i64 r.left, .bool r.dead] 28)) := (Grew.refl w3).alloc _
    refine ⟨by rw [hm]; exact hl, ⟨by rw [hm, hrn]; exact hl, by rw [hm, hrS]; rfl, by rw [hm, hrT]; rfl, by rw [hm, hrd]; rfl, fun _ => hrl, (fun e => by rw [hm] at e; cases e), (by rw [hm]; unfold DiskM.fits newDisk; exact ⟨Int.le_refl 0, (by decide : (0 : Int) ≤ 2 ^ 62)⟩)⟩, hat.keep g fun _ _ e => e, hR.keepC g fun _ _ _ e => e, ⟨heap_alloc_new w3 _⟩, fun k hk => ⟨Nat.le_trans HB.out.size (hM2.fresh k hk), fun e => ?_⟩, hB3.size, g.below hB3 hB3.size fun _ e => e.elim⟩
    have := hat.below k hk
    omega)
  have e1 : r.cells = #[.slice r.sa r.n r.sc, .slice r.na r.n r.nc, .int .i64 r.left, .bool r.dead] := rfl
  rw [e1]
  clear e1 hrn hrS hrT hrl hrd hR hb3
  go_wp2_with fail
  generalize w3.heap.size = B at *
  generalize w3.alloc (.cells #[.slice r.sa r.n r.sc, .slice r.na r.n r.nc, .int .i64 r.left, .bool r.dead] 28) = w4 at *
  clear HM
  go_loopw [5, 7, 8] (fun pd ok i wx => ∃ k : Nat, k ≤ 20 ∧ i = .int .i64 k ∧ ok = .bool true ∧ ∃ m r, pd = .pointer (some ⟨m.d, 0, none⟩) ∧ Play w B 8 m r wx) (fun _ _ i _ => 20 - (intOf i).toNat)
  case atStart => exact ⟨0, by omega, rfl, rfl, _, _, rfl, HP0.out⟩
  case round =>
    clear HP0
    obtain ⟨k, hk, rfl, rfl, m1, r1, rfl, hP⟩ := hrel
    have HP := Lib.hid hP
    clear hP
    go_upto_region 5 with fail
    go_cut [29] (fun c wx => c = .bool (decide (k < l0 ∧ k < 20)) ∧ wx = wr)
    case first =>
      by_cases h0 : k < l0
      · have i1 : (k : Int) < (l0 : Int) := by omega
        by_cases h1 : k < 20
        · have i2 : (k : Int) < 20 := by omega
          go_wp2_with fail
          go_meet
          exact ⟨by rw [decide_eq_true (⟨h0, h1⟩ : k < l0 ∧ k < 20)], rfl⟩
        · have i2 : ¬ (k : Int) < 20 := by omega
          go_wp2_with fail
          go_meet
          exact ⟨by rw [decide_eq_false (fun e => h1 e.2)], rfl⟩
      · have i1 : ¬ (k : Int) < (l0 : Int) := by omega
        go_wp2_with fail
        go_meet
        exact ⟨by rw [decide_eq_false (fun e => h0 e.1)], rfl⟩
    case rest =>
    obtain ⟨rfl, hwx⟩ := hcut
    rw [hwx]
    clear hwx
    by_cases hend : k < l0 ∧ k < 20
    · rw [decide_eq_true hend]
      have i1 : (k : Int) < (l0 : Int) := by omega
      have i2 : (k : Int) < 20 := by omega
      have i3 : (0 : Int) ≤ (k : Int) := by omega
      rcases HA0.out with h0 | ⟨b, off, rfl, hr⟩
      · omega
      obtain ⟨⟨g0, g1, g2, g3, g4⟩, hs, hI⟩ := hr k hend.1
      have q0 := (HP.out.below.cell (cell_lt g0)).trans g0
      have q1 := (HP.out.below.cell (cell_lt g1)).trans g1
      have q2 := (HP.out.below.cell (cell_lt g2)).trans g2
      have q3 := (HP.out.below.cell (cell_lt g3)).trans g3
      have q4 := (HP.out.below.cell (cell_lt g4)).trans g4
      have HDo := Lib.hid (does_any m1 r1 HP.out.rel (A0 k).kind (A0 k).a (A0 k).n (A0 k).s hs (A0 k).ca (A0 k).cl (A0 k).cc (A0 k).es wr.drew HP.out.at'.drew (HP.out.ref.keepC (S := fun _ => False) (Grew.refl wr).drew fun _ _ _ e => e) (hI.fresh HP.out.below.drew fun b hb => (HP.out.own b hb).1))
      clear hr g0 g1 g2 g3 g4 hs hI
      generalize (A0 k).kind = xk at *
      generalize (A0 k).a = xa at *
      generalize (A0 k).n = xn at *
      generalize (A0 k).s = xs at *
      generalize (A0 k).ca = ya at *
      generalize (A0 k).cl = yl at *
      generalize (A0 k).cc = yc at *
      have e1 : r1.cells = #[.slice r1.sa r1.n r1.sc, .slice r1.na r1.n r1.nc, .int .i64 r1.left, .bool r1.dead] := rfl
      rw [e1] at HDo
      clear e1
      obtain ⟨⟨c0, c1', c2, c3⟩, _⟩ := HP.out.box.cells
      have HSg : Hid ((wr.drew.cell? ⟨B, 0, none⟩ = some (.slice r1.sa r1.n r1.sc) ∧ wr.drew.cell? ⟨B, 1, none⟩ = some (.slice r1.na r1.n r1.nc) ∧ wr.drew.cell? ⟨B, 2, none⟩ = some (.int .i64 r1.left) ∧ wr.drew.cell? ⟨B, 3, none⟩ = some (.bool r1.dead)) ∧ wr.drew.cell? ⟨b, off + k * 5, none⟩ = some (.int .i64 xk) ∧ wr.drew.cell? ⟨b, off + k * 5 + 1, none⟩ = some (.int .i64 xa) ∧ wr.drew.cell? ⟨b, off + k * 5 + 2, none⟩ = some (.int .i64 xn) ∧ wr.drew.cell? ⟨b, off + k * 5 + 3, none⟩ = some (.string xs) ∧ wr.drew.cell? ⟨b, off + k * 5 + 4, none⟩ = some (.slice ya yl yc)) := Lib.hid ⟨⟨c0, c1', c2, c3⟩, q0, q1, q2, q3, q4⟩
      go_upto_region 7 with fail
      go_region_with (first | (go_at_call 12; (with_reducible refine HDo.out.mono ?_); rintro e w5 ⟨p2, r2, rfl, hpost⟩; (obtain ⟨hq, m2, rfl, hP2⟩ := HP.out.does hpost); (have HP2 := Lib.hid hP2); (obtain ⟨⟨d0, d1, d2, d3⟩, z0, z1, z2, z3⟩ := hq.cells); (have e1 : r2.cells = #[.slice r2.sa r2.n r2.sc, .slice r2.na r2.n r2.nc, .int .i64 r2.left, .bool r2.dead] := rfl); rw [e1]; clear e1 hq hP2 hpost))
      all_goals
        go_wp2_with fail
        go_roundw
        case rel => exact ⟨k + 1, by omega, by go_num, rfl, m2, r2, rfl, by first | exact HP2.out | exact HP2.out.grew (Grew.refl _).drew⟩
        case measure => simp [intOf]; omega
    · rw [decide_eq_false hend]
      have HCl := Lib.hid (fun wx (h : DiskAt m1 wx) => clone_any m1 wx h)
      obtain ⟨⟨c0, c1', c2, c3⟩, _⟩ := HP.out.box.cells
      have HPd : Hid (Play w B 8 m1 r1 wr.drew) := Lib.hid (HP.out.grew (Grew.refl wr).drew)
      have HPz : Hid (Play w B 8 m1 r1 (wr.alloc (.cells #[.slice none 0 0, .slice none 0 0, .int .i64 0, .bool false] 28)).drew) := Lib.hid (HP.out.grew ((Grew.refl _).alloc _).drew)
      have HQz : Hid (Quad wr.heap.size (.slice none 0 0) (.slice none 0 0) (.int .i64 0) (.bool false) (wr.alloc (.cells #[.slice none 0 0, .slice none 0 0, .int .i64 0, .bool false] 28)).drew) := Lib.hid ⟨heap_alloc_new wr _⟩
      have HKp : Hid (∀ wx, Grew (fun k => k ≠ B) wr wx → wx.cell? ⟨B, 0, none⟩ = some (.slice r1.sa r1.n r1.sc) ∧ wx.cell? ⟨B, 1, none⟩ = some (.slice r1.na r1.n r1.nc) ∧ wx.cell? ⟨B, 2, none⟩ = some (.int .i64 r1.left) ∧ wx.cell? ⟨B, 3, none⟩ = some (.bool r1.dead)) := Lib.hid fun wx g => (HP.out.box.grew g fun e => e rfl).cells.1
      have HTa : Hid (∀ w5 mc, CloneOf m1 wr.drew mc.d mc w5 → Two w B w5.heap.size 8 m1 r1 mc r1 (w5.alloc (.cells #[.slice r1.sa r1.n r1.sc, .slice r1.na r1.n r1.nc, .int .i64 r1.left, .bool r1.dead] 28))) := Lib.hid fun w5 mc hc => by
        have h1 := HP.out.box.lt
        have h2 : wr.heap.size ≤ w5.heap.size := hc.below.size
        have h3 := HP.out.below.size
        exact Two.start HPd.out hc ((Grew.refl w5).alloc _) ⟨heap_alloc_new w5 _⟩ (by omega) (by omega) (fun k hk => by have := HP.out.at'.below k hk; omega) (fun k hk => by have := hc.at'.below k hk; omega) (fun t e => by have h4 : w5.heap.size < w5.heap.size := cell_lt e; omega)
      have HTb : Hid (∀ w5 mc, CloneOf m1 (wr.alloc (.cells #[.slice none 0 0, .slice none 0 0, .int .i64 0, .bool false] 28)).drew mc.d mc w5 → Two w B wr.heap.size 8 m1 r1 mc r1 (setB wr.heap.size r1 w5)) := Lib.hid fun w5 mc hc => by
        have h1 := HP.out.box.lt
        have h3 := HP.out.below.size
        have hsz : (wr.alloc (.cells #[.slice none 0 0, .slice none 0 0, .int .i64 0, .bool false] 28)).heap.size = wr.heap.size + 1 := by simp
        have hq5 := HQz.out.keep hc.below
        exact Two.start HPz.out hc (setB_grew wr.heap.size r1 w5) ⟨quad_set hq5.at' _ _ _ _⟩ (by omega) (by omega) (fun k hk => by have := HP.out.at'.below k hk; omega) (fun k hk => by have h4 : (wr.alloc (.cells #[.slice none 0 0, .slice none 0 0, .int .i64 0, .bool false] 28)).heap.size ≤ k := hc.fresh k hk; omega) (fun t e => by rw [hq5.cells.1.1] at e; cases e)
      clear hend c0 c1' c2 c3
      all_goals
        go_upto_region 8 with fail
        go_cut [9, 10] (fun c y wx => ∃ mc C, c = .pointer (some ⟨mc.d, 0, none⟩) ∧ y = .pointer (some ⟨C, 0, none⟩) ∧ Two w B C 8 m1 r1 mc r1 wx)
        case first =>
          go_region_held3 (fun wx => wx.cell? ⟨B, 0, none⟩ = some (.slice r1.sa r1.n r1.sc) ∧ wx.cell? ⟨B, 1, none⟩ = some (.slice r1.na r1.n r1.nc) ∧ wx.cell? ⟨B, 2, none⟩ = some (.int .i64 r1.left) ∧ wx.cell? ⟨B, 3, none⟩ = some (.bool r1.dead))
            (first | (refine HKp.out _ ?_; (repeat (first | exact Grew.refl _ | exact HG5.out | refine Grew.drew ?_ | refine Grew.alloc ?_ _ | refine Grew.setCell ?_ _ _ (fun h => absurd h (Nat.not_lt.2 (by first | exact Nat.le_refl _ | exact HL5.out)))))))
            (first
              | (go_at_call 19; (with_reducible refine (HCl.out wr.drew HPd.out.at').mono ?_); rintro e w5 ⟨x, mc, rfl, hcl⟩; (have HC5 := Lib.hid hcl); (have HG5 : Hid (Grew (fun k => k ≠ B) wr w5) := Lib.hid ((Grew.refl wr).drew.trans (Grew.of_below hcl.below))); (have HL5 : Hid (wr.heap.size ≤ w5.heap.size) := Lib.hid hcl.below.size); (have hxd := hcl.d); subst hxd; (have HT5 := Lib.hid (HTa.out w5 mc hcl)); clear hcl)
              | (go_at_call 19; (with_reducible refine (HCl.out _ HPz.out.at').mono ?_); rintro e w5 ⟨x, mc, rfl, hcl⟩; (have HC5 := Lib.hid hcl); (have HG5 : Hid (Grew (fun k => k ≠ B) wr w5) := Lib.hid (((Grew.refl wr).alloc _).drew.trans (Grew.of_below hcl.below))); (have HL5 : Hid (wr.heap.size ≤ w5.heap.size) := Lib.hid (HG5.out.size)); (obtain ⟨⟨s0, s1, s2, s3⟩, t0, t1, t2, t3⟩ := (HQz.out.keep hcl.below).cells); (have hxd := hcl.d); subst hxd; (have HT5 := Lib.hid (HTb.out w5 mc hcl)); clear hcl))
          all_goals
            go_wp2_with fail
            go_meet
            exact ⟨mc, _, rfl, rfl, HT5.out⟩
        case rest =>
          obtain ⟨mc, C, rfl, rfl, hT⟩ := hcut
          have HT := Lib.hid hT
          clear hT HTa HTb HPd HPz HQz HKp HP HCl
          go_wp2_with fail
          go_loopw [5, 7, 11] (fun pd ok i wx => ∃ k : Nat, k ≤ 20 ∧ i = .int .i64 k ∧ ok = .bool true ∧ ∃ m r, pd = .pointer (some ⟨m.d, 0, none⟩) ∧ Two w B C 8 m r mc r1 wx) (fun _ _ i _ => 20 - (intOf i).toNat)
          case atStart => exact ⟨0, by omega, rfl, rfl, _, _, rfl, HT.out⟩
          case round =>
            clear HT
            obtain ⟨k, hk, rfl, rfl, m6, r6, rfl, hT⟩ := hrel
            have HT := Lib.hid hT
            clear hT
            go_upto_region 10 with fail
            go_cut [56] (fun c wx => c = .bool (decide (k < l1 ∧ k < 20)) ∧ wx = wr)
            case first =>
              by_cases h0 : k < l1
              · have i1 : (k : Int) < (l1 : Int) := by omega
                by_cases h1 : k < 20
                · have i2 : (k : Int) < 20 := by omega
                  go_wp2_with fail
                  go_meet
                  exact ⟨by rw [decide_eq_true (⟨h0, h1⟩ : k < l1 ∧ k < 20)], rfl⟩
                · have i2 : ¬ (k : Int) < 20 := by omega
                  go_wp2_with fail
                  go_meet
                  exact ⟨by rw [decide_eq_false (fun e => h1 e.2)], rfl⟩
              · have i1 : ¬ (k : Int) < (l1 : Int) := by omega
                go_wp2_with fail
                go_meet
                exact ⟨by rw [decide_eq_false (fun e => h0 e.1)], rfl⟩
            case rest =>
            obtain ⟨rfl, hwx⟩ := hcut
            rw [hwx]
            clear hwx
            by_cases hend : k < l1 ∧ k < 20
            · rw [decide_eq_true hend]
              have i1 : (k : Int) < (l1 : Int) := by omega
              have i2 : (k : Int) < 20 := by omega
              have i3 : (0 : Int) ≤ (k : Int) := by omega
              rcases HA.out with h0 | ⟨b, off, rfl, hr⟩
              · omega
              obtain ⟨⟨g0, g1, g2, g3, g4⟩, hs, hI⟩ := hr k hend.1
              have q0 := (HT.out.a.below.cell (cell_lt g0)).trans g0
              have q1 := (HT.out.a.below.cell (cell_lt g1)).trans g1
              have q2 := (HT.out.a.below.cell (cell_lt g2)).trans g2
              have q3 := (HT.out.a.below.cell (cell_lt g3)).trans g3
              have q4 := (HT.out.a.below.cell (cell_lt g4)).trans g4
              have HDo := Lib.hid (does_any m6 r6 HT.out.a.rel (A k).kind (A k).a (A k).n (A k).s hs (A k).ca (A k).cl (A k).cc (A k).es wr.drew HT.out.a.at'.drew (HT.out.a.ref.keepC (S := fun _ => False) (Grew.refl wr).drew fun _ _ _ e => e) (hI.fresh HT.out.a.below.drew fun b hb => (HT.out.a.own b hb).1))
              clear hr g0 g1 g2 g3 g4 hs hI
              generalize (A k).kind = xk at *
              generalize (A k).a = xa at *
              generalize (A k).n = xn at *
              generalize (A k).s = xs at *
              generalize (A k).ca = ya at *
              generalize (A k).cl = yl at *
              generalize (A k).cc = yc at *
              have e1 : r6.cells = #[.slice r6.sa r6.n r6.sc, .slice r6.na r6.n r6.nc, .int .i64 r6.left, .bool r6.dead] := rfl
              rw [e1] at HDo
              clear e1
              obtain ⟨⟨c0, c1', c2, c3⟩, _⟩ := HT.out.a.box.cells
              have HSg : Hid ((wr.drew.cell? ⟨B, 0, none⟩ = some (.slice r6.sa r6.n r6.sc) ∧ wr.drew.cell? ⟨B, 1, none⟩ = some (.slice r6.na r6.n r6.nc) ∧ wr.drew.cell? ⟨B, 2, none⟩ = some (.int .i64 r6.left) ∧ wr.drew.cell? ⟨B, 3, none⟩ = some (.bool r6.dead)) ∧ wr.drew.cell? ⟨b, off + k * 5, none⟩ = some (.int .i64 xk) ∧ wr.drew.cell? ⟨b, off + k * 5 + 1, none⟩ = some (.int .i64 xa) ∧ wr.drew.cell? ⟨b, off + k * 5 + 2, none⟩ = some (.int .i64 xn) ∧ wr.drew.cell? ⟨b, off + k * 5 + 3, none⟩ = some (.string xs) ∧ wr.drew.cell? ⟨b, off + k * 5 + 4, none⟩ = some (.slice ya yl yc)) := Lib.hid ⟨⟨c0, c1', c2, c3⟩, q0, q1, q2, q3, q4⟩
              go_upto_region 12 with fail
              go_region_with (first | (go_at_call 12; (with_reducible refine HDo.out.mono ?_); rintro e w5 ⟨p2, r2, rfl, hpost⟩; (obtain ⟨hq, m2, rfl, hP2⟩ := HT.out.does hpost); (have HP2 := Lib.hid hP2); (obtain ⟨⟨d0, d1, d2, d3⟩, z0, z1, z2, z3⟩ := hq.cells); (have e1 : r2.cells = #[.slice r2.sa r2.n r2.sc, .slice r2.na r2.n r2.nc, .int .i64 r2.left, .bool r2.dead] := rfl); rw [e1]; clear e1 hq hP2 hpost))
              all_goals
                go_wp2_with fail
                go_roundw
                case rel => exact ⟨k + 1, by omega, by go_num, rfl, m2, r2, rfl, by first | exact HP2.out | exact HP2.out.grew (Grew.refl _).drew⟩
                case measure => simp [intOf]; omega
            · rw [decide_eq_false hend]
              have HY : Hid (Play w C 8 mc r1 wr) := Lib.hid HT.out.b
              have HYd : Hid (Play w C 8 mc r1 wr.drew) := Lib.hid (HY.out.grew (Grew.refl wr).drew)
              clear hend HT
              have hL : looseF r1.S r1.T r1.n = mc.looseTo mc.n := by rw [looseF_is, HY.out.rel.S, HY.out.rel.T, HY.out.rel.n]
              have HLo := Lib.hid (fun wx (h : DiskAt mc wx) => loose_any mc wx h)
              have HRl := Lib.hid (fun wx (h : RefAt r1 wx) => refLoose_any r1 wx h)
              have HLe := Lib.hid (fun wx (h : DiskAt mc wx) => len_any mc wx h)
              have HDe := Lib.hid (fun wx (h : DiskAt mc wx) => dead_any mc wx h)
              have e1 : r1.cells = #[.slice r1.sa r1.n r1.sc, .slice r1.na r1.n r1.nc, .int .i64 r1.left, .bool r1.dead] := rfl
              have e8 : ((8 : Nat) : Int) = 8 := rfl
              rw [e1, hL] at HRl
              rw [HY.out.n, e8] at HLe
              rw [HY.out.rel.dead] at HDe
              clear e1 e8 hL
              generalize mc.looseTo mc.n = LL at *
              have j8 : (r1.dead == r1.dead) = true := by simp
              have j9 : (r1.dead != r1.dead) = false := by simp
              obtain ⟨⟨c0, c1', c2, c3⟩, _⟩ := HY.out.box.cells
              all_goals
                go_upto_region 13 with fail
                go_cut [92] (fun c wx => c = .bool false ∧ Play w C 8 mc r1 wx)
                case first =>
                  go_region_with (first
                    | (go_at_call 20; (with_reducible refine (HDe.out _ HYd.out.at').mono ?_); rintro e w5 ⟨rfl, rfl⟩)
                    | (go_at_call 15; (with_reducible refine (HLe.out _ HYd.out.at').mono ?_); rintro e w5 ⟨rfl, rfl⟩)
                    | (go_at_call 13; (with_reducible refine (HLo.out _ HYd.out.at').mono ?_); rintro e w5 ⟨v, rfl, hown, hb5⟩; (obtain ⟨_, qa, qc, rfl⟩ := rowOwn hown); (have HP5 := Lib.hid (HYd.out.grew (Grew.of_below hb5))); (obtain ⟨⟨d0, d1, d2, d3⟩, _⟩ := HP5.out.box.cells); clear hown hb5)
                    | (go_at_call 14; (with_reducible refine (HRl.out _ HP5.out.ref).mono ?_); rintro e w6 ⟨v, rfl, hown, hb6⟩; (obtain ⟨_, qb, qd, rfl⟩ := rowOwn hown); (have HP6 := Lib.hid (HP5.out.grew (Grew.of_below hb6))); clear hown hb6 d0 d1 d2 d3))
                  all_goals
                    go_wp2_with fail
                    go_meet
                    first
                      | exact ⟨rfl, HP6.out⟩
                      | exact ⟨rfl, HP6.out.grew (Grew.refl _).drew⟩
                case rest =>
                  obtain ⟨rfl, hY⟩ := hcut
                  have HZ := Lib.hid hY
                  clear hY HY HYd HLo HRl HLe HDe j8 j9 c0 c1' c2 c3
                  have HCr := Lib.hid (crash_any mc (some ⟨wc.heap.size, 0, none⟩) 8 8 (fun _ => 64) _ (HZ.out.at'.keep (S := fun _ => False) ((Grew.refl wc).alloc (.cells #[.int .i64 64, .int .i64 64, .int .i64 64, .int .i64 64, .int .i64 64, .int .i64 64, .int .i64 64, .int .i64 64] 3)) fun _ _ e => e) (ints8 wc 3 fun e => by have := HZ.out.at'.below _ e; omega))
                  have HRc := Lib.hid (fun wx q (h : RefAt r1 wx) hI => refCrash_rel mc r1 HZ.out.rel (some ⟨q, 0, none⟩) 8 8 (fun _ => 64) wx h hI)
                  have e1 : r1.cells = #[.slice r1.sa r1.n r1.sc, .slice r1.na r1.n r1.nc, .int .i64 r1.left, .bool r1.dead] := rfl
                  rw [e1] at HRc
                  clear e1
                  go_wp2_with fail
                  with_reducible refine HCr.out.mono ?_
                  rintro e w8 ⟨rfl, hD8, hG8⟩
                  have HD8 := Lib.hid hD8
                  have HGz : Hid (Grew mc.own wc w8) := Lib.hid ((((Grew.refl (S := mc.own) wc).alloc _)).trans hG8)
                  have HR8 : Hid (RefAt r1 w8) := Lib.hid (HZ.out.ref.keepD HZ.out.rel.n HZ.out.at' HGz.out)
                  have hq8 : QuadR C r1 w8 := HZ.out.box.grew HGz.out fun e => (HZ.out.own _ e).2 rfl
                  have HQ8 := Lib.hid hq8
                  have HB8 : Hid (Below w.heap.size w w8) := Lib.hid (HGz.out.below HZ.out.below HZ.out.below.size fun k hk => (HZ.out.own k hk).1)
                  obtain ⟨⟨d0, d1, d2, d3⟩, _⟩ := hq8.cells
                  clear hD8 hG8 hq8 HCr
                  have hg8 : Grew (fun _ => False) w8 (w8.alloc (.cells #[.int .i64 64, .int .i64 64, .int .i64 64, .int .i64 64, .int .i64 64, .int .i64 64, .int .i64 64, .int .i64 64] 3)) := (Grew.refl w8).alloc _
                  have HG8 := Lib.hid hg8
                  have HRd := Lib.hid (HRc.out _ w8.heap.size (HR8.out.keepC hg8 fun _ _ _ e => e) (ints8 w8 3 fun e => e))
                  clear hg8 HRc
                  go_wp2_with fail
                  with_reducible refine HRd.out.mono ?_
                  rintro e w9 ⟨r9, rfl, hr9, hb9, hrel9⟩
                  have hg9 : Grew (fun _ => False) w8 w9 := HG8.out.trans (Grew.of_below hb9)
                  have hq9 : QuadR C r1 w9 := HQ8.out.grew hg9 fun e => e
                  have HP9 : Hid (Play w C 8 (mc.crashed (cutOf 8 fun _ => 64)) r9 (setB C r9 w9)) := Lib.hid (Play.put ((crashed_n mc _).trans HZ.out.n) hrel9 (HD8.out.keep hg9 fun _ _ e => e) hr9 hq9 (fun k hk => by rw [crashed_own] at hk; exact HZ.out.own k hk) HZ.out.base (hg9.below HB8.out HB8.out.size fun _ e => e.elim))
                  have HLv : Hid ((mc.crashed (cutOf 8 fun _ => 64)).Live) := Lib.hid (live_crashed mc _)
                  have HPd : Hid (mc.d = (mc.crashed (cutOf 8 fun _ => 64)).d) := Lib.hid (crashed_d mc _).symm
                  obtain ⟨⟨d0, d1, d2, d3⟩, z0, z1, z2, z3⟩ := hq9.cells
                  have e1 : r9.cells = #[.slice r9.sa r9.n r9.sc, .slice r9.na r9.n r9.nc, .int .i64 r9.left, .bool r9.dead] := rfl
                  rw [e1]
                  clear e1 hr9 hb9 hrel9 hq9 hg9 HRd HQ8 HR8 HG8 HGz HD8 HB8 HZ
                  generalize mc.crashed (cutOf 8 fun _ => 64) = m9 at *
                  go_upto_region 17 with fail
                  have hw : (((w9.setCell ⟨C, 0, none⟩ (.slice r9.sa r9.n r9.sc)).setCell ⟨C, 1, none⟩ (.slice r9.na r9.n r9.nc)).setCell ⟨C, 2, none⟩ (.int .i64 r9.left)).setCell ⟨C, 3, none⟩ (.bool r9.dead) = setB C r9 w9 := rfl
                  rw [hw, HPd.out]
                  clear hw d0 d1 d2 d3 z0 z1 z2 z3
                  generalize setB C r9 w9 = wy at *
                  go_wp2_with fail
                  go_loopw [99] (fun i wx => ∃ q : Nat, q ≤ 8 ∧ i = .int .i64 q ∧ Play w C 8 m9 r9 wx) (fun i _ => 8 - (intOf i).toNat)
                  case atStart => exact ⟨0, by omega, rfl, HP9.out⟩
                  case round =>
                    obtain ⟨q, hq, rfl, hP10⟩ := hrel
                    have HP10 := Lib.hid hP10
                    clear hP10 HP9
                    by_cases hqn : q < 8
                    · have j1 : (q : Int) < 8 := by omega
                      have j2 : (0 : Int) ≤ (q : Int) := by omega
                      have HRn : Hid (r9.n = 8) := Lib.hid (HP10.out.rel.n.symm.trans HP10.out.n)
                      have j0 : (q : Int) < (r9.n : Int) := by have := HRn.out; omega
                      have HRd := Lib.hid (lawRead_live m9.d m9 rfl q (by rw [HP10.out.n]; exact hqn) HLv.out wr HP10.out.at')
                      have ht : sec r9.T q = sec m9.T q := by rw [HP10.out.rel.T]
                      go_wp2_with fail
                      with_reducible refine HRd.out.mono ?_
                      rintro e w11 ⟨rfl, _, hG11⟩
                      have hP11 := HP10.out.grew (hG11 fun _ => False)
                      have HP11 := Lib.hid hP11
                      have d1 := hP11.box.cells.1.2.1
                      rcases hP11.ref.t with h0 | ⟨bt, hna, hrt⟩
                      · have := HRn.out; omega
                      have t1 := hrt q (by have := HRn.out; omega)
                      rw [hna] at d1
                      rw [ht] at t1
                      clear hrt hna ht hP11 hG11 HRd HP10
                      generalize (⟨(sec m9.T q).toArray⟩ : ByteArray) = tx at *
                      have j3 : (tx.toList == tx.toList) = true := by simp
                      go_wp2_with fail
                      go_roundw
                      case rel => exact ⟨q + 1, by omega, by go_num, HP11.out⟩
                      case measure => simp [intOf]; omega
                    · have j1 : ¬ (q : Int) < 8 := by omega
                      go_wp2_with fail
                      go_ret
                      exact ⟨rfl, HP10.out.below⟩
end Go.Proofs.Ytjggofbaipppbaa
