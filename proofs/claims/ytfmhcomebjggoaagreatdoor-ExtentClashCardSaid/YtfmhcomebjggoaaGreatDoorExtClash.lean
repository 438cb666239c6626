/-
  ExtentClash: the law's walk.
-/
import Derived.Test.YtfmhcomebjggoaaGreatDoorClashes
import Derived.Test.YtfmhcomebjggoaaGreatDoorExtAddr
import Derived.Deep.RegionHeld3
import Derived.BigQuiet
namespace Go.Proofs.YtfmhcomebjggoaaGreatDoor
open Go.RowKit Go.Maps Go.ChangeMaps Go.WideShapes

set_option maxRecDepth 100000 in
set_option maxHeartbeats 4000000 in
theorem extentClash_walk (a0 a1 : ByteArray) (hm0 : a0.size ≤ maxLen) (hm1 : a1.size ≤ maxLen) (n : Int) (w : World) (hL : Laid KK SS w) :
    Calls Tryz.prog 5 #[.string a0, .string a1, .int .i64 n] w fun e w' => e = .returned (.bool true) ∧ Below w.heap.size w w' := by
  have hmf : ∀ (fn : Fn) (first cap : Array Value) (w : World), (Instr.makeFunc fn first cap).run Tryz.prog w = .ok (.func fn first cap) w := fun _ _ _ _ => rfl
  have hw2 := hL.table.1
  have HD0 := Lib.hid fun wx => data_any a0 1 wx hm0
  have HD1 := Lib.hid fun wx => data_any a1 1 wx hm1
  have HLd := Lib.hid hL
  clear hL hm0 hm1
  go_enter Tryz.func5, Tryz.ntmps5
  go_wp2_with fail
  refine (extAwake _).mono ?_
  rintro e w1 ⟨rfl, hb1⟩
  have HB1 := Lib.hid hb1
  clear hb1
  go_wp2_with fail
  refine (HD0.out _).mono ?_
  rintro e w2 ⟨D, hD, rfl, hb2⟩
  have HB2 := Lib.hid (HB1.out.trans (hb2.mono HB1.out.size))
  have HDz := Lib.hid hD
  clear hb2 hD HB1
  go_wp2_with fail
  refine (HD1.out _).mono ?_
  rintro e w3 ⟨E, hE, rfl, hb3⟩
  have HB3 := Lib.hid (HB2.out.trans (hb3.mono HB2.out.size))
  have HEz := Lib.hid hE
  clear hb3 hE HB2
  go_wp2_with fail
  have y1 := Box.new w3 9 (.string D)
  have y2 := Box.new (w3.alloc (.cells #[.string D] 9)) 9 (.string E)
  rw [World.size_alloc] at y2
  have G4 : Hid (Grew (fun _ => False) w ((w3.alloc (.cells #[.string D] 9)).alloc (.cells #[.string E] 9))) := Lib.hid (((Grew.of_below HB3.out).alloc _).alloc _)
  have Y1 := Lib.hid (y1.keepAlloc (.cells #[.string E] 9))
  have Y2 := Lib.hid y2
  have HX : Hid (w.heap.size ≤ w3.heap.size) := Lib.hid HB3.out.size
  clear y1 y2 HB3
  generalize (w3.alloc (.cells #[.string D] 9)).alloc (.cells #[.string E] 9) = w4 at *
  generalize w3.heap.size = xa at *
  refine (new_any 30 _).mono ?_
  rintro e w5 ⟨M, rfl, hM⟩
  have hn : M.n = 2 + 28 ∧ M.armed = false ∧ M.dead = false ∧ M.left ≤ 2 ^ 62 := by
    obtain ⟨d, bs, bt, e⟩ := hM.is
    rw [e]
    exact ⟨by show diskLen 30 = 30; decide, rfl, rfl, by show (0 : Int) ≤ 2 ^ 62; decide⟩
  have HNew := Lib.hid (hNewT_any M 2 28 w5 (by decide) (by decide) hM.at' hn.1 hn.2.1 hn.2.2.1 hn.2.2.2)
  have HM := Lib.hid hM
  clear hM hn
  go_wp2_with fail
  refine HNew.out.mono ?_
  rintro e w6 ⟨b, rfl, ok, hbf, hbn, hbd, hI, hL, hg, hB, hfr, hbs, hbt, _⟩
  have HHp := Lib.hid (And.intro ok (And.intro hbf (And.intro hbn (And.intro hbd (And.intro hI (And.intro hL (And.intro hg (And.intro hB (And.intro hfr (And.intro hbs hbt))))))))))
  clear ok hbf hbn hbd hI hL hg hB hfr hbs hbt HNew
  go_wp2_with fail
  refine (eNewQ_any b n [keyB D (min (max n 1) 256), keyB E (min (max n 1) 256)] w6).mono ?_
  rintro e w7 ⟨rfl, hx, hT, g7, s7⟩
  have HSt := Lib.hid (And.intro hx (And.intro hT (And.intro g7 s7)))
  clear hx hT g7 s7
  go_wp2_with fail
  obtain ⟨W, hW⟩ : ∃ W, ((((w7.alloc (.cells #[.pointer (some ⟨w6.heap.size + 1, 0, none⟩)] 29)).alloc (.cells #[.slice none 0 0, .int .i64 (min (max n 1) 256)] 42)).alloc (.cells #[.int .i64 0] 3)).alloc (.cells #[.int .i64 0] 3)) = W := ⟨_, rfl⟩
  simp only [hW]
  obtain ⟨hc0, hx0, hp0, hq0⟩ := clMk _ hw2 HLd.out G4.out Y1.out Y2.out HM.out HHp.out.1 HHp.out.2.1 HHp.out.2.2.1 HHp.out.2.2.2.1 HHp.out.2.2.2.2.1 HHp.out.2.2.2.2.2.1 HHp.out.2.2.2.2.2.2.1 HHp.out.2.2.2.2.2.2.2.1 HHp.out.2.2.2.2.2.2.2.2.1 HHp.out.2.2.2.2.2.2.2.2.2.1 HHp.out.2.2.2.2.2.2.2.2.2.2 HSt.out.1 HSt.out.2.1 HSt.out.2.2.1 HSt.out.2.2.2 W hW
  have HC0 := Lib.hid hc0
  have HX0 := Lib.hid hx0
  have HP0 := Lib.hid hp0
  have HQ0 := Lib.hid hq0
  have HLo : Hid (w.heap.size ≤ w7.heap.size) := Lib.hid hx0.lo
  clear hc0 hx0 hp0 hq0 hW HSt HHp HM Y1 Y2 G4 HLd HX
  generalize w7.heap.size = X at *
  generalize hxs : w6.heap.size + 1 = xs at *
  generalize w6.heap.size = kb at *
  clear hxs
  have HQq : Hid ((Lit.int .i64 (min (max n 1) 256)).wf = true ∧ -9223372036854775808 ≤ min (max n 1) 256 ∧ min (max n 1) 256 ≤ 9223372036854775807) := Lib.hid ⟨WalkArith.wf_i64 ⟨by omega, by omega⟩, by omega, by omega⟩
  generalize min (max n 1) 256 = q at *
  have HT1 := Lib.hid (cs1_any HC0.out HX0.out.bt HX0.out.ba HP0.out HX0.out.nt HX0.out.na HX0.out.np (by have := HLo.out; omega) HDz.out HQq.out.1 (by simp) (by simp) (HB.far HC0.out.ok HC0.out.st.sz))
  go_wp2_with fail
  refine HT1.out.mono ?_
  rintro e w8 ⟨rfl, U, s1, v0, F1, hc1, ho1, hb1, hg1⟩
  have HX1 := Lib.hid (HX0.out.turn hg1 HC0.out.tb (by omega))
  have HQ1 : Hid (Box (X + 1 + 1 + 1) 3 (.int .i64 0) w8) := Lib.hid (hg1.box HQ0.out HX0.out.nq (by decide) HC0.out.tb (by omega))
  have HC1 := Lib.hid hc1
  have HO1 := Lib.hid ho1
  have HV1 := Lib.hid hb1
  have HT2 := Lib.hid (cs2_any v0 HC1.out HO1.out HX1.out.bt HX1.out.bb HQ1.out HX1.out.nt HX1.out.nb HX1.out.nq (by have := HLo.out; omega) HDz.out HEz.out HQq.out.1 (by simp) (by simp) (HB.far HC1.out.ok HC1.out.st.sz))
  clear hc1 ho1 hb1 hg1 HT1 HC0 HX0 HP0 HQ0
  go_wp2_with fail
  refine HT2.out.mono ?_
  rintro e w9 ⟨U2, s2, F2, v1, cl, rfl, hT⟩
  obtain ⟨z9, hz9⟩ : ∃ z9 : Int, (if cl = true then (9 : Int) else 0) = z9 := ⟨_, rfl⟩
  rw [hz9]
  have HZ9 := Lib.hid hz9
  clear hz9
  have HW : Hid (ClTwo w (((b.at U)).at U2) s2 xs kb q F2 [keyB D q, keyB E q] X xa D E v0 v1 w9) := Lib.hid ⟨hT.at', ((HX1.out.turn hT.g HC1.out.tb (by omega)).at' U).at' U2, CsGr.box hT.g HV1.out HX1.out.np (by decide) HC1.out.tb (by omega), hT.bp⟩
  have HCl := Lib.hid hT.hcl
  have HSm := Lib.hid hT.same
  have HLi := Lib.hid hT.lies
  have HZv := Lib.hid fun (hz : allZero D.data.toList = true) => (HO1.out.z hz).1
  clear hT HT2 HQ1 HV1 HX1 HC1 HO1
  go_upto_region 12 with fail
  go_cut [16] (fun c wx => c = .bool cl ∧ ClTwo w ((b.at U).at U2) s2 xs kb q F2 [keyB D q, keyB E q] X xa D E v0 v1 wx)
  case first =>
    have c1 := HW.out.bx.ba.cell
    have c2 := HW.out.bx.bb.cell
    have HGo : Hid (∀ wx, Grew (fun _ => False) w9 wx → ClTwo w ((b.at U).at U2) s2 xs kb q F2 [keyB D q, keyB E q] X xa D E v0 v1 wx) := Lib.hid fun wx k => HW.out.keepF k
    have HZe := Lib.hid fun (T : ByteArray) (hT : T.size = 256) (wx : World) => refZero_any T wx (by rw [hT]; decide)
    by_cases hDE : D = E
    · have hcl : cl = false := by
        cases cl with
        | false => rfl
        | true => exact absurd hDE (HCl.out.1 rfl).1
      subst hcl
      have hEq : (D.toList == E.toList) = true := by rw [hDE]; simp
      go_quiet (fail)
      go_wp2_with fail
      go_meet
      exact ⟨rfl, HGo.out _ (lw_grewN (Grew.refl _) _)⟩
    · have hn0 : ¬ D.toList = E.toList := fun e => hDE (by (rw [ByteArray.toList_eq, ByteArray.toList_eq] at e; exact ByteArray.ext (Array.toList_inj.mp e)))
      have hEq : (D.toList == E.toList) = false := by simpa using hn0
      clear hn0
      cases hz0 : allZero D.data.toList with
      | true =>
        have hcl : cl = false := by
          cases cl with
          | false => rfl
          | true => exact absurd (HCl.out.1 rfl).2.1 (by rw [hz0]; decide)
        subst hcl
        have HZ0 := Lib.hid fun wx => HZe.out D HDz.out wx
        rw [hz0] at HZ0
        go_quiet ((go_at_call 8; exact Calls.quiet_of_same (HZ0.out _)))
        go_wp2_with fail
        go_meet
        exact ⟨rfl, HGo.out _ (lw_grewN (Grew.refl _) _)⟩
      | false =>
        have HZ0 := Lib.hid fun wx => HZe.out D HDz.out wx
        rw [hz0] at HZ0
        cases hz1 : allZero E.data.toList with
        | true =>
          have hcl : cl = false := by
            cases cl with
            | false => rfl
            | true => exact absurd (HCl.out.1 rfl).2.2.1 (by rw [hz1]; decide)
          subst hcl
          have HZ1 := Lib.hid fun wx => HZe.out E HEz.out wx
          rw [hz1] at HZ1
          go_quiet ((go_at_call 8; exact Calls.quiet_of_same (HZe.out _ (by first | exact HDz.out | exact HEz.out) _)))
          go_wp2_with fail
          go_meet
          exact ⟨rfl, HGo.out _ (lw_grewN (Grew.refl _) _)⟩
        | false =>
          have HZ1 := Lib.hid fun wx => HZe.out E HEz.out wx
          rw [hz1] at HZ1
          have HA0 := Lib.hid fun wx => addr_any (.slice none 0 0) q HQq.out.2.1 HQq.out.2.2 D (by have := HDz.out; omega) wx
          have HA1 := Lib.hid fun wx => addr_any (.slice none 0 0) q HQq.out.2.1 HQq.out.2.2 E (by have := HEz.out; omega) wx
          have hKq : ((⟨(keyB D q).toArray⟩ : ByteArray).toList == (⟨(keyB E q).toArray⟩ : ByteArray).toList) = cl := by
            rw [ByteArray.toList_eq, ByteArray.toList_eq]
            show (keyB D q == keyB E q) = cl
            by_cases hk : keyB D q = keyB E q
            · rw [HCl.out.2 ⟨hDE, hz0, hz1, hk⟩, hk]
              simp
            · cases cl with
              | false => simpa using hk
              | true => exact absurd (HCl.out.1 rfl).2.2.2 hk
          have HCS : Hid (∀ wx, ClTwo w ((b.at U).at U2) s2 xs kb q F2 [keyB D q, keyB E q] X xa D E v0 v1 wx → wx.cell? ⟨X + 1, 0, none⟩ = some (.slice none 0 0) ∧ wx.cell? ⟨X + 1, 1, none⟩ = some (.int .i64 q) ∧ wx.cell? ⟨xa, 0, none⟩ = some (.string D) ∧ wx.cell? ⟨xa + 1, 0, none⟩ = some (.string E) ∧ Hid (ClTwo w ((b.at U).at U2) s2 xs kb q F2 [keyB D q, keyB E q] X xa D E v0 v1 wx)) := Lib.hid fun wx h => by
            have hr := h.bx.br
            exact ⟨by simp [World.cell?, hr], by simp [World.cell?, hr], h.bx.ba.cell, h.bx.bb.cell, Lib.hid h⟩
          have HS0 := Lib.hid (HCS.out _ (HGo.out w9.drew (Grew.refl _).drew))
          have QZ0 : Hid (∀ wx, (wx.cell? ⟨X + 1, 0, none⟩ = some (.slice none 0 0) ∧ wx.cell? ⟨X + 1, 1, none⟩ = some (.int .i64 q) ∧ wx.cell? ⟨xa, 0, none⟩ = some (.string D) ∧ wx.cell? ⟨xa + 1, 0, none⟩ = some (.string E) ∧ Hid (ClTwo w ((b.at U).at U2) s2 xs kb q F2 [keyB D q, keyB E q] X xa D E v0 v1 wx)) → Calls Tryz.prog 8 #[.string D] wx fun e w' => e = .returned (.bool false) ∧ (w'.cell? ⟨X + 1, 0, none⟩ = some (.slice none 0 0) ∧ w'.cell? ⟨X + 1, 1, none⟩ = some (.int .i64 q) ∧ w'.cell? ⟨xa, 0, none⟩ = some (.string D) ∧ w'.cell? ⟨xa + 1, 0, none⟩ = some (.string E) ∧ Hid (ClTwo w ((b.at U).at U2) s2 xs kb q F2 [keyB D q, keyB E q] X xa D E v0 v1 w'))) := Lib.hid fun wx h => (HZ0.out wx).mono fun _ _ hh => ⟨hh.1, by rw [hh.2]; exact h⟩
          have QZ1 : Hid (∀ wx, (wx.cell? ⟨X + 1, 0, none⟩ = some (.slice none 0 0) ∧ wx.cell? ⟨X + 1, 1, none⟩ = some (.int .i64 q) ∧ wx.cell? ⟨xa, 0, none⟩ = some (.string D) ∧ wx.cell? ⟨xa + 1, 0, none⟩ = some (.string E) ∧ Hid (ClTwo w ((b.at U).at U2) s2 xs kb q F2 [keyB D q, keyB E q] X xa D E v0 v1 wx)) → Calls Tryz.prog 8 #[.string E] wx fun e w' => e = .returned (.bool false) ∧ (w'.cell? ⟨X + 1, 0, none⟩ = some (.slice none 0 0) ∧ w'.cell? ⟨X + 1, 1, none⟩ = some (.int .i64 q) ∧ w'.cell? ⟨xa, 0, none⟩ = some (.string D) ∧ w'.cell? ⟨xa + 1, 0, none⟩ = some (.string E) ∧ Hid (ClTwo w ((b.at U).at U2) s2 xs kb q F2 [keyB D q, keyB E q] X xa D E v0 v1 w'))) := Lib.hid fun wx h => (HZ1.out wx).mono fun _ _ hh => ⟨hh.1, by rw [hh.2]; exact h⟩
          generalize (⟨(keyB D q).toArray⟩ : ByteArray) = K0 at HA0 hKq
          generalize (⟨(keyB E q).toArray⟩ : ByteArray) = K1 at HA1 hKq
          have QA0 : Hid (∀ wx, (wx.cell? ⟨X + 1, 0, none⟩ = some (.slice none 0 0) ∧ wx.cell? ⟨X + 1, 1, none⟩ = some (.int .i64 q) ∧ wx.cell? ⟨xa, 0, none⟩ = some (.string D) ∧ wx.cell? ⟨xa + 1, 0, none⟩ = some (.string E) ∧ Hid (ClTwo w ((b.at U).at U2) s2 xs kb q F2 [keyB D q, keyB E q] X xa D E v0 v1 wx)) → Calls Tryz.prog 29 #[.agg #[.slice none 0 0, .int .i64 q], .string D] wx fun e w' => e = .returned (.string K0) ∧ (w'.cell? ⟨X + 1, 0, none⟩ = some (.slice none 0 0) ∧ w'.cell? ⟨X + 1, 1, none⟩ = some (.int .i64 q) ∧ w'.cell? ⟨xa, 0, none⟩ = some (.string D) ∧ w'.cell? ⟨xa + 1, 0, none⟩ = some (.string E) ∧ Hid (ClTwo w ((b.at U).at U2) s2 xs kb q F2 [keyB D q, keyB E q] X xa D E v0 v1 w'))) := Lib.hid fun wx h => (HA0.out wx).mono fun _ _ hh => ⟨hh.1, HCS.out _ (h.2.2.2.2.out.keepF (Grew.of_below hh.2))⟩
          have QA1 : Hid (∀ wx, (wx.cell? ⟨X + 1, 0, none⟩ = some (.slice none 0 0) ∧ wx.cell? ⟨X + 1, 1, none⟩ = some (.int .i64 q) ∧ wx.cell? ⟨xa, 0, none⟩ = some (.string D) ∧ wx.cell? ⟨xa + 1, 0, none⟩ = some (.string E) ∧ Hid (ClTwo w ((b.at U).at U2) s2 xs kb q F2 [keyB D q, keyB E q] X xa D E v0 v1 wx)) → Calls Tryz.prog 29 #[.agg #[.slice none 0 0, .int .i64 q], .string E] wx fun e w' => e = .returned (.string K1) ∧ (w'.cell? ⟨X + 1, 0, none⟩ = some (.slice none 0 0) ∧ w'.cell? ⟨X + 1, 1, none⟩ = some (.int .i64 q) ∧ w'.cell? ⟨xa, 0, none⟩ = some (.string D) ∧ w'.cell? ⟨xa + 1, 0, none⟩ = some (.string E) ∧ Hid (ClTwo w ((b.at U).at U2) s2 xs kb q F2 [keyB D q, keyB E q] X xa D E v0 v1 w'))) := Lib.hid fun wx h => (HA1.out wx).mono fun _ _ hh => ⟨hh.1, HCS.out _ (h.2.2.2.2.out.keepF (Grew.of_below hh.2))⟩
          clear HZ0 HZ1 HA0 HA1 HCS HGo HZe
          go_region_held3 (fun wx => wx.cell? ⟨X + 1, 0, none⟩ = some (.slice none 0 0) ∧ wx.cell? ⟨X + 1, 1, none⟩ = some (.int .i64 q) ∧ wx.cell? ⟨xa, 0, none⟩ = some (.string D) ∧ wx.cell? ⟨xa + 1, 0, none⟩ = some (.string E) ∧ Hid (ClTwo w ((b.at U).at U2) s2 xs kb q F2 [keyB D q, keyB E q] X xa D E v0 v1 wx)) (first | assumption | exact HS0.out) (first
            | (go_at_call 8; with_reducible refine (QZ0.out _ (by assumption)).mono ?_; rintro e w' ⟨rfl, hS'⟩)
            | (go_at_call 8; with_reducible refine (QZ1.out _ (by assumption)).mono ?_; rintro e w' ⟨rfl, hS'⟩)
            | (go_at_call 29; with_reducible refine (QA0.out _ (by assumption)).mono ?_; rintro e w' ⟨rfl, hS'⟩)
            | (go_at_call 29; with_reducible refine (QA1.out _ (by assumption)).mono ?_; rintro e w' ⟨rfl, hS'⟩))
          have HE := Lib.hid hS'.2.2.2.2.out
          go_wp2_with fail
          go_meet
          exact ⟨rfl, HE.out⟩
  case rest =>
    obtain ⟨rfl, hw⟩ := hcut
    have HW2 : Hid (ClTwo w ((b.at U).at U2) s2 xs kb q F2 [keyB D q, keyB E q] X xa D E v0 v1 (wc.alloc (.cells #[.string ⟨#[]⟩] 9))) := Lib.hid (hw.keepF ((Grew.refl _).alloc _))
    have HY : Hid (Box wc.heap.size 9 (.string ⟨#[]⟩) (wc.alloc (.cells #[.string ⟨#[]⟩] 9))) := Lib.hid (Box.new wc _ _)
    have HYl : Hid (X + 1 + 1 + 1 < wc.heap.size) := Lib.hid hw.bq.lt
    have HYn : Hid (¬ b.S0 wc.heap.size) := Lib.hid (HB.far hw.at'.ok hw.at'.st.sz)
    have HT3 := Lib.hid (csGet (D := D) wc.heap.size (v0 : Int) HW2.out.at' HW2.out.bx.bt HW2.out.bp HY.out HW2.out.bx.nt HW2.out.bx.np HYn.out (fun wx hi st => csGets v0 HW2.out.at' HDz.out HZv.out HLi.out wx hi st))
    clear hw HW HLi HZv HCl
    go_wp2_with fail
    refine HT3.out.mono ?_
    rintro e w10 ⟨rfl, hy, hg⟩
    have HBx := Lib.hid (HW2.out.bx.turn hg HW2.out.at'.tb (by have := HYl.out; omega))
    have c1 := HBx.out.ba.cell
    have c2 := HBx.out.bb.cell
    have c3 := hy.cell
    have c4 : w10.cell? ⟨X + 1 + 1, 0, none⟩ = some (.int .i64 (v0 : Int)) := (CsGr.box hg HW2.out.bp HW2.out.bx.np (by decide) HW2.out.at'.tb (by have := HYl.out; omega)).cell
    have c5 : w10.cell? ⟨X + 1 + 1 + 1, 0, none⟩ = some (.int .i64 (v1 : Int)) := (CsGr.box hg HW2.out.bq HW2.out.bx.nq (by decide) HW2.out.at'.tb (by have := HYl.out; omega)).cell
    have HG : Hid (Grew (fun k => w.heap.size ≤ k) w w10) := Lib.hid (HW2.out.at'.g.trans (Grew.mono hg fun k _ e => by
      rcases e with (e | ⟨e, _⟩) | e | e
      · exact HW2.out.at'.own k e
      · exact Nat.le_trans HW2.out.at'.hB e
      · rw [e]; exact HW2.out.at'.k0
      · rw [e]; have := HYl.out; have := HLo.out; omega))
    clear hy hg HT3 HW2 HY HYl HYn HBx
    cases cl with
    | true =>
      have hz : z9 = 9 := by rw [← HZ9.out]; rfl
      subst hz
      clear HZ9
      have HGb := Lib.hid (HG.out.below (Below.refl _ w) (Nat.le_refl _) fun _ e => e)
      go_wp2_with fail
      go_ret
      first | exact ⟨rfl, HGb.out⟩ | exact ⟨rfl, HGb.out.drew⟩ | exact ⟨rfl, lw_drewN HGb.out _⟩
    | false =>
      have hz : z9 = 0 := by rw [← HZ9.out]; rfl
      subst hz
      have hv := HSm.out rfl
      clear HZ9
      by_cases hDE : D = E
      · have h1 : (D.toList == E.toList) = true := by rw [hDE]; simp
        have h2 : ((v0 : Int) == (v1 : Int)) = true := by rw [hv.2 hDE]; simp
        have HGb := Lib.hid (HG.out.below (Below.refl _ w) (Nat.le_refl _) fun _ e => e)
        go_wp2_with fail
        go_ret
        first | exact ⟨rfl, HGb.out⟩ | exact ⟨rfl, HGb.out.drew⟩ | exact ⟨rfl, lw_drewN HGb.out _⟩
      · have hn0 : ¬ D.toList = E.toList := fun e => hDE (by (rw [ByteArray.toList_eq, ByteArray.toList_eq] at e; exact ByteArray.ext (Array.toList_inj.mp e)))
        have h1 : (D.toList == E.toList) = false := by simpa using hn0
        have h2 : ((v0 : Int) == (v1 : Int)) = false := by
          have : ¬ (v0 : Int) = (v1 : Int) := fun e => hDE (hv.1 (by omega))
          simpa using this
        clear hn0
        have HGb := Lib.hid (HG.out.below (Below.refl _ w) (Nat.le_refl _) fun _ e => e)
        go_wp2_with fail
        go_ret
        first | exact ⟨rfl, HGb.out⟩ | exact ⟨rfl, HGb.out.drew⟩ | exact ⟨rfl, lw_drewN HGb.out _⟩
end Go.Proofs.YtfmhcomebjggoaaGreatDoor
