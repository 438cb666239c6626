/-
  DiskPlays: for every number and every list of calls the law answers true.
-/
import Derived.Test.YtjggofbaipppbaaDiskPlaysA
namespace Go.Proofs.Ytjggofbaipppbaa
open Go.RowKit

set_option maxRecDepth 100000 in
set_option maxHeartbeats 8000000 in
theorem diskPlays_walk (n : Int) (a1 : Option Addr) (l1 c1 : Nat) (A : Nat → DAct) (w : World) (hA : FullAt w a1 l1 A) :
    Calls Try.prog 3 #[.int .i64 n, .slice a1 l1 c1] w fun e w' => e = .returned (.bool true) ∧ Below w.heap.size w w' := by
  have HA := Lib.hid hA
  clear hA
  go_enter Try.func3, Try.ntmps3
  go_wp2_with fail
  refine (diskAwake _).mono ?_
  rintro e w1 ⟨rfl, hB⟩
  have HB := Lib.hid hB
  clear hB
  go_upto_region 3 with fail
  go_cut [0] (fun v wx => ∃ z : Int, v = .int .i64 z ∧ z ≤ 9 ∧ wx = w1)
  case first =>
    rcases Int.lt_trichotomy n 9 with h | h | h
    · go_wp2_with fail
      go_meet
      exact ⟨n, rfl, by omega, rfl⟩
    · subst h
      go_wp2_with fail
      go_meet
      exact ⟨9, rfl, by omega, rfl⟩
    · go_wp2_with fail
      go_meet
      exact ⟨9, rfl, by omega, rfl⟩
  case rest =>
    obtain ⟨z, rfl, hz, rfl⟩ := hcut
    have HZ := Lib.hid hz
    clear hz
    go_wp2_with fail
    refine (new_any z _).mono ?_
    rintro e w2 ⟨m, rfl, hM⟩
    have HM := Lib.hid hM
    clear hM
    go_wp2_with fail
    refine (refNew_any z _ (by have := HZ.out; omega)).mono ?_
    rintro e w3 ⟨r, rfl, hrn, hrS, hrT, hrl, hrd, hR, hb3⟩
    have HP0 : Hid (Play w w3.heap.size z.toNat m r (w3.alloc (.cells #[.slice r.sa r.n r.sc, .slice r.na r.n r.nc, .int .i64 r.left, .bool r.dead] 28))) := Lib.hid (by
      obtain ⟨d, bs, bt, hm⟩ := HM.out.is
      have hz := HZ.out
      have hl : diskLen z = z.toNat := by unfold diskLen; omega
      have hM2 := HM.out
      have hat : DiskAt m w3 := hM2.at'.keep (Grew.of_below (S := fun _ => False) hb3) fun _ _ e => e
      have hB3 : Below w.heap.size w w3 := (Grew.of_below (S := fun _ => False) hb3).below ((hM2.grew fun _ => False).below HB.out HB.out.size fun _ e => e.elim) (Nat.le_trans HB.out.size (hM2.grew fun _ => False).size) fun _ e => e.elim
      have g : Grew (fun _ => False) w3 (w3.alloc (.cells #[.slice r.sa r.n r.sc, .slice r.na r.n r.nc, .int .i64 r.left, .bool r.dead] 28)) := (Grew.refl w3).alloc _
      refine ⟨by rw [hm]; exact hl, ⟨by rw [hm, hrn]; exact hl, by rw [hm, hrS]; rfl, by rw [hm, hrT]; rfl, by rw [hm, hrd]; rfl, fun _ => hrl, (fun e => by rw [hm] at e; cases e), (by rw [hm]; unfold DiskM.fits newDisk; exact ⟨Int.le_refl 0, (by decide : (0 : Int) ≤ 2 ^ 62)⟩)⟩, hat.keep g fun _ _ e => e, hR.keepC g fun _ _ _ e => e, ⟨heap_alloc_new w3 _⟩, fun k hk => ⟨Nat.le_trans HB.out.size (hM2.fresh k hk), fun e => ?_⟩, hB3.size, g.below hB3 hB3.size fun _ e => e.elim⟩
      have := hat.below k hk
      omega)
    have e1 : r.cells = #[.slice r.sa r.n r.sc, .slice r.na r.n r.nc, .int .i64 r.left, .bool r.dead] := rfl
    rw [e1]
    clear e1 hrn hrS hrT hrl hrd hR hb3
    go_wp2_with fail
    generalize w3.heap.size = B at *
    generalize w3.alloc (.cells #[.slice r.sa r.n r.sc, .slice r.na r.n r.nc, .int .i64 r.left, .bool r.dead] 28) = w4 at *
    clear HM
    go_loopw [5, 7, 8] (fun pd ok i wx => ∃ k : Nat, k ≤ 50 ∧ i = .int .i64 k ∧ ok = .bool true ∧ ∃ m r, pd = .pointer (some ⟨m.d, 0, none⟩) ∧ Play w B z.toNat m r wx) (fun _ _ i _ => 50 - (intOf i).toNat)
    case atStart => exact ⟨0, by omega, rfl, rfl, _, _, rfl, HP0.out⟩
    case round =>
      clear HP0
      obtain ⟨k, hk, rfl, rfl, m1, r1, rfl, hP⟩ := hrel
      have HP := Lib.hid hP
      clear hP
      by_cases hend : k < l1 ∧ k < 50
      · have i1 : (k : Int) < (l1 : Int) := by omega
        have i2 : (k : Int) < 50 := by omega
        have i3 : (0 : Int) ≤ (k : Int) := by omega
        rcases HA.out with h0 | ⟨b, off, rfl, hr⟩
        · omega
        obtain ⟨⟨g0, g1, g2, g3, g4⟩, hs, hI⟩ := hr k hend.1
        have q0 := (HP.out.below.cell (cell_lt g0)).trans g0
        have q1 := (HP.out.below.cell (cell_lt g1)).trans g1
        have q2 := (HP.out.below.cell (cell_lt g2)).trans g2
        have q3 := (HP.out.below.cell (cell_lt g3)).trans g3
        have q4 := (HP.out.below.cell (cell_lt g4)).trans g4
        have HDo := Lib.hid (does_any m1 r1 HP.out.rel (A k).kind (A k).a (A k).n (A k).s hs (A k).ca (A k).cl (A k).cc (A k).es wr.drew HP.out.at'.drew (HP.out.ref.keepC (S := fun _ => False) (Grew.refl wr).drew fun _ _ _ e => e) (hI.fresh HP.out.below.drew fun b hb => (HP.out.own b hb).1))
        clear hr g0 g1 g2 g3 g4 hs hI
        generalize (A k).kind = xk at *
        generalize (A k).a = xa at *
        generalize (A k).n = xn at *
        generalize (A k).s = xs at *
        generalize (A k).ca = ya at *
        generalize (A k).cl = yl at *
        generalize (A k).cc = yc at *
        have e1 : r1.cells = #[.slice r1.sa r1.n r1.sc, .slice r1.na r1.n r1.nc, .int .i64 r1.left, .bool r1.dead] := rfl
        rw [e1] at HDo
        clear e1
        obtain ⟨⟨c0, c1', c2, c3⟩, _⟩ := HP.out.box.cells
        have HSg : Hid ((wr.drew.cell? ⟨B, 0, none⟩ = some (.slice r1.sa r1.n r1.sc) ∧ wr.drew.cell? ⟨B, 1, none⟩ = some (.slice r1.na r1.n r1.nc) ∧ wr.drew.cell? ⟨B, 2, none⟩ = some (.int .i64 r1.left) ∧ wr.drew.cell? ⟨B, 3, none⟩ = some (.bool r1.dead)) ∧ wr.drew.cell? ⟨b, off + k * 5, none⟩ = some (.int .i64 xk) ∧ wr.drew.cell? ⟨b, off + k * 5 + 1, none⟩ = some (.int .i64 xa) ∧ wr.drew.cell? ⟨b, off + k * 5 + 2, none⟩ = some (.int .i64 xn) ∧ wr.drew.cell? ⟨b, off + k * 5 + 3, none⟩ = some (.string xs) ∧ wr.drew.cell? ⟨b, off + k * 5 + 4, none⟩ = some (.slice ya yl yc)) := Lib.hid ⟨⟨c0, c1', c2, c3⟩, q0, q1, q2, q3, q4⟩
        go_upto_region 8 with fail
        go_region_with (first | (go_at_call 12; (with_reducible refine HDo.out.mono ?_); rintro e w5 ⟨p2, r2, rfl, hpost⟩; (obtain ⟨hq, m2, rfl, hP2⟩ := HP.out.does hpost); (have HP2 := Lib.hid hP2); (obtain ⟨⟨d0, d1, d2, d3⟩, z0, z1, z2, z3⟩ := hq.cells); (have e1 : r2.cells = #[.slice r2.sa r2.n r2.sc, .slice r2.na r2.n r2.nc, .int .i64 r2.left, .bool r2.dead] := rfl); rw [e1]; clear e1 hq hP2 hpost))
        all_goals
          go_wp2_with fail
          go_roundw
          case rel => exact ⟨k + 1, by omega, by go_num, rfl, m2, r2, rfl, by first | exact HP2.out | exact HP2.out.grew (Grew.refl _).drew⟩
          case measure => simp [intOf]; omega
      · have HEnd : Hid (¬ ((k : Int) < (l1 : Int)) ∨ ((k : Int) < (l1 : Int) ∧ ¬ (k : Int) < 50)) := Lib.hid (by omega)
        have hL : looseF r1.S r1.T r1.n = m1.looseTo m1.n := by rw [looseF_is, HP.out.rel.S, HP.out.rel.T, HP.out.rel.n]
        have HLo := Lib.hid (fun wx (h : DiskAt m1 wx) => loose_any m1 wx h)
        have HRl := Lib.hid (fun wx (h : RefAt r1 wx) => refLoose_any r1 wx h)
        have e1 : r1.cells = #[.slice r1.sa r1.n r1.sc, .slice r1.na r1.n r1.nc, .int .i64 r1.left, .bool r1.dead] := rfl
        rw [e1, hL] at HRl
        clear e1 hL hend
        have HLL : Hid ((m1.looseTo m1.n).length ≤ 9) := Lib.hid (by have h1 := looseF_len m1.S m1.T m1.n; rw [← looseF_is] at h1; have h2 := HP.out.n; have := HZ.out; omega)
        generalize m1.looseTo m1.n = LL at *
        obtain ⟨⟨c0, c1', c2, c3⟩, _⟩ := HP.out.box.cells
        have HPd : Hid (Play w B z.toNat m1 r1 wr.drew) := Lib.hid (HP.out.grew (Grew.refl wr).drew)
        rcases HEnd.out with i1 | ⟨i1, i2⟩
        all_goals
          clear HEnd
          go_upto_region 9 with fail
          go_cut [9, 10] (fun l m wx => ∃ qa qc qb qd, l = .slice qa LL.length qc ∧ m = .slice qb LL.length qd ∧ Play w B z.toNat m1 r1 wx ∧ IntsApart (fun _ => False) wx qa LL.length (fun j => (LL.getD j 0 : Nat)) ∧ IntsApart (fun _ => False) wx qb LL.length (fun j => (LL.getD j 0 : Nat)))
          case first =>
            go_region_with (first
              | (go_at_call 13; (with_reducible refine (HLo.out _ HPd.out.at').mono ?_); rintro e w5 ⟨v, rfl, hown, hb5⟩; (have HO5 := Lib.hid hown); (obtain ⟨_, qa, qc, rfl⟩ := rowOwn hown); (have HA5 := Lib.hid ((loose_ints HPd.out.at' rfl HO5.out).mono (T := fun _ => False) (Below.refl _ _) fun _ _ e => e.elim)); (have HP5 := Lib.hid (HPd.out.grew (Grew.of_below hb5))); (obtain ⟨⟨d0, d1, d2, d3⟩, _⟩ := HP5.out.box.cells); clear hown hb5 HO5)
              | (go_at_call 14; (with_reducible refine (HRl.out _ HP5.out.ref).mono ?_); rintro e w6 ⟨v, rfl, hown, hb6⟩; (have HO6 := Lib.hid hown); (obtain ⟨_, qb, qd, rfl⟩ := rowOwn hown); (have HA6 := Lib.hid ((loose_ints HP5.out.at' rfl HO6.out).mono (T := fun _ => False) (Below.refl _ _) fun _ _ e => e.elim)); (have HP6 := Lib.hid (HP5.out.grew (Grew.of_below hb6))); (have HA5b := Lib.hid (HA5.out.keep (Grew.of_below hb6))); clear hown hb6 HO6 d0 d1 d2 d3))
            all_goals
              go_wp2_with fail
              go_meet
              first
                | exact ⟨_, _, _, _, rfl, rfl, HP6.out, HA5b.out, HA6.out⟩
                | exact ⟨_, _, _, _, rfl, rfl, HP6.out.grew (Grew.refl _).drew, HA5b.out.keep (S := fun _ => False) (Grew.refl _).drew, HA6.out.keep (S := fun _ => False) (Grew.refl _).drew⟩
          case rest =>
            obtain ⟨qa, qc, qb, qd, rfl, rfl, hP6, hA5, hA6⟩ := hcut
            have HP6 := Lib.hid hP6
            have HA5 := Lib.hid hA5
            have HA6 := Lib.hid hA6
            clear hP6 hA5 hA6 HP HPd HLo HRl c0 c1' c2 c3
            generalize (fun j => (LL.getD j 0 : Nat) : Nat → Int) = E at *
            generalize LL.length = ll at *
            go_upto_region 10 with fail
            go_cut [66] (fun c wx => c = .bool false ∧ wx = wc)
            case first =>
              have hz : (m1.n : Int) = max z 0 := by rw [HP6.out.n]; omega
              rcases Int.lt_trichotomy z 0 with h | h | h
              · have HLe : Hid (Calls Try.prog 15 #[.pointer (some ⟨m1.d, 0, none⟩)] wc fun e w' => e = .returned (.int .i64 0) ∧ wc = w') := Lib.hid (by
                  have h1 := len_any m1 wc HP6.out.at'
                  rwa [show (m1.n : Int) = 0 by omega] at h1)
                go_wp2_with fail
                refine HLe.out.mono ?_
                rintro e w' ⟨rfl, rfl⟩
                go_wp2_with fail
                go_meet
                exact ⟨rfl, rfl⟩
              · subst h
                have HLe : Hid (Calls Try.prog 15 #[.pointer (some ⟨m1.d, 0, none⟩)] wc fun e w' => e = .returned (.int .i64 0) ∧ wc = w') := Lib.hid (by
                  have h1 := len_any m1 wc HP6.out.at'
                  rwa [show (m1.n : Int) = 0 by omega] at h1)
                go_wp2_with fail
                refine HLe.out.mono ?_
                rintro e w' ⟨rfl, rfl⟩
                go_wp2_with fail
                go_meet
                exact ⟨rfl, rfl⟩
              · have HLe : Hid (Calls Try.prog 15 #[.pointer (some ⟨m1.d, 0, none⟩)] wc fun e w' => e = .returned (.int .i64 z) ∧ wc = w') := Lib.hid (by
                  have h1 := len_any m1 wc HP6.out.at'
                  rwa [show (m1.n : Int) = z by omega] at h1)
                go_wp2_with fail
                refine HLe.out.mono ?_
                rintro e w' ⟨rfl, rfl⟩
                go_wp2_with fail
                go_meet
                exact ⟨rfl, rfl⟩
            case rest =>
              obtain ⟨rfl, rfl⟩ := hcut
              go_wp2_with fail
              go_loopw [69] (fun i wx => ∃ q : Nat, q ≤ ll ∧ i = .int .i64 q ∧ Play w B z.toNat m1 r1 wx ∧ IntsApart (fun _ => False) wx qa ll E ∧ IntsApart (fun _ => False) wx qb ll E) (fun i _ => ll - (intOf i).toNat)
              case atStart => exact ⟨0, by omega, rfl, HP6.out, HA5.out, HA6.out⟩
              case round =>
                obtain ⟨q, hq, rfl, hP7, hA7, hB7⟩ := hrel
                have HP7 := Lib.hid hP7
                have HA7 := Lib.hid hA7
                have HB7 := Lib.hid hB7
                clear hP7 hA7 hB7 HP6 HA5 HA6
                by_cases hql : q < ll
                · have j1 : (q : Int) < (ll : Int) := by omega
                  have j2 : (0 : Int) ≤ (q : Int) := by omega
                  rcases HA7.out with h0 | ⟨b1, o1, rfl, _, hr1⟩
                  · omega
                  rcases HB7.out with h0 | ⟨b2, o2, rfl, _, hr2⟩
                  · omega
                  have x1 := hr1 q hql
                  have x2 := hr2 q hql
                  have j3 : (E q == E q) = true := by simp
                  have j4 : (q : Int) < 9 := by have := HLL.out; omega
                  clear hr1 hr2
                  generalize E q = ev at *
                  go_upto_region 15 with fail
                  go_region_with (fail)
                  all_goals
                    go_wp2_with fail
                    go_roundw
                    case rel => exact ⟨q + 1, by omega, by go_num, by first | exact HP7.out | exact HP7.out.grew (Grew.refl _).drew, by first | exact HA7.out | exact HA7.out.keep (S := fun _ => False) (Grew.refl _).drew, by first | exact HB7.out | exact HB7.out.keep (S := fun _ => False) (Grew.refl _).drew⟩
                    case measure => simp [intOf]; omega
                · have j1 : ¬ (q : Int) < (ll : Int) := by omega
                  have HCr := Lib.hid (crash_any m1 none 0 0 (fun _ => 0) wr HP7.out.at' (Or.inl rfl))
                  have HRc := Lib.hid (fun wx (h : RefAt r1 wx) => refCrash_rel m1 r1 HP7.out.rel none 0 0 (fun _ => 0) wx h (Or.inl rfl))
                  have e1 : r1.cells = #[.slice r1.sa r1.n r1.sc, .slice r1.na r1.n r1.nc, .int .i64 r1.left, .bool r1.dead] := rfl
                  rw [e1] at HRc
                  clear e1
                  go_wp2_with fail
                  with_reducible refine HCr.out.mono ?_
                  rintro e w8 ⟨rfl, hD8, hG8⟩
                  have HD8 := Lib.hid hD8
                  have HG8 := Lib.hid hG8
                  have HR8 : Hid (RefAt r1 w8) := Lib.hid (HP7.out.ref.keepD HP7.out.rel.n HP7.out.at' hG8)
                  have hq8 : QuadR B r1 w8 := HP7.out.box.grew hG8 fun e => (HP7.out.own _ e).2 rfl
                  have HQ8 := Lib.hid hq8
                  obtain ⟨⟨d0, d1, d2, d3⟩, _⟩ := hq8.cells
                  clear hD8 hG8 hq8 HCr
                  go_wp2_with fail
                  with_reducible refine (HRc.out _ HR8.out).mono ?_
                  rintro e w9 ⟨r9, rfl, hr9, hb9, hrel9⟩
                  have hq9 : QuadR B r1 w9 := HQ8.out.grew (Grew.of_below (S := fun _ => False) hb9) fun e => e
                  have HP9 : Hid (Play w B z.toNat (m1.crashed (cutOf 0 fun _ => 0)) r9 (setB B r9 w9)) := Lib.hid (Play.put ((crashed_n m1 _).trans HP7.out.n) hrel9 (HD8.out.keep (Grew.of_below (S := fun _ => False) hb9) fun _ _ e => e) hr9 hq9 (fun k hk => by rw [crashed_own] at hk; exact HP7.out.own k hk) HP7.out.base ((Grew.of_below (S := fun _ => False) hb9).below (HG8.out.below HP7.out.below HP7.out.below.size fun k hk => (HP7.out.own k hk).1) (Nat.le_trans HP7.out.below.size HG8.out.size) fun _ e => e.elim))
                  have HLv : Hid ((m1.crashed (cutOf 0 fun _ => 0)).Live) := Lib.hid (live_crashed m1 _)
                  have HPd : Hid (m1.d = (m1.crashed (cutOf 0 fun _ => 0)).d) := Lib.hid (crashed_d m1 _).symm
                  obtain ⟨⟨d0, d1, d2, d3⟩, z0, z1, z2, z3⟩ := hq9.cells
                  have e1 : r9.cells = #[.slice r9.sa r9.n r9.sc, .slice r9.na r9.n r9.nc, .int .i64 r9.left, .bool r9.dead] := rfl
                  rw [e1]
                  clear e1 hr9 hb9 hrel9 hq9 HRc HQ8 HR8 HG8 HD8 HP7 HA7 HB7
                  generalize m1.crashed (cutOf 0 fun _ => 0) = m9 at *
                  go_upto_region 20 with fail
                  have hw : (((w9.setCell ⟨B, 0, none⟩ (.slice r9.sa r9.n r9.sc)).setCell ⟨B, 1, none⟩ (.slice r9.na r9.n r9.nc)).setCell ⟨B, 2, none⟩ (.int .i64 r9.left)).setCell ⟨B, 3, none⟩ (.bool r9.dead) = setB B r9 w9 := rfl
                  rw [hw, HPd.out]
                  clear hw d0 d1 d2 d3 z0 z1 z2 z3
                  generalize setB B r9 w9 = wy at *
                  have HLe := Lib.hid (len_any m9 wy HP9.out.at')
                  have hmn : m9.n = z.toNat := HP9.out.n
                  have HN9 : Hid (z.toNat ≤ 9) := Lib.hid (by have := HZ.out; omega)
                  generalize z.toNat = N at *
                  rw [hmn] at HLe
                  go_wp2_with fail
                  refine HLe.out.mono ?_
                  rintro e w' ⟨rfl, rfl⟩
                  clear HLe
                  go_wp2_with fail
                  go_loopw [88] (fun i wx => ∃ q : Nat, q ≤ N ∧ i = .int .i64 q ∧ Play w B N m9 r9 wx) (fun i _ => N - (intOf i).toNat)
                  case atStart => exact ⟨0, by omega, rfl, HP9.out⟩
                  case round =>
                    obtain ⟨q, hq, rfl, hP10⟩ := hrel
                    have HP10 := Lib.hid hP10
                    clear hP10 HP9
                    by_cases hqn : q < N
                    · have j1 : (q : Int) < (N : Int) := by omega
                      have j2 : (0 : Int) ≤ (q : Int) := by omega
                      have HRn : Hid (r9.n = N) := Lib.hid (HP10.out.rel.n.symm.trans hmn)
                      have j0 : (q : Int) < (r9.n : Int) := by have := HRn.out; omega
                      have HRd := Lib.hid (lawRead_live m9.d m9 rfl q (by rw [hmn]; exact hqn) HLv.out wr HP10.out.at')
                      have ht : sec r9.T q = sec m9.T q := by rw [HP10.out.rel.T]
                      go_wp2_with fail
                      with_reducible refine HRd.out.mono ?_
                      rintro e w11 ⟨rfl, _, hG11⟩
                      have hP11 := HP10.out.grew (hG11 fun _ => False)
                      have HP11 := Lib.hid hP11
                      have d1 := hP11.box.cells.1.2.1
                      rcases hP11.ref.t with h0 | ⟨bt, hna, hrt⟩
                      · have := HRn.out; omega
                      have t1 := hrt q (by have := HRn.out; omega)
                      rw [hna] at d1
                      rw [ht] at t1
                      clear hrt hna ht hP11 hG11 HRd HP10
                      generalize (⟨(sec m9.T q).toArray⟩ : ByteArray) = tx at *
                      have j3 : (tx.toList == tx.toList) = true := by simp
                      have j4 : (q : Int) < 9 := by have := HN9.out; omega
                      go_wp2_with fail
                      go_roundw
                      case rel => exact ⟨q + 1, by omega, by go_num, HP11.out⟩
                      case measure => simp [intOf]; omega
                    · have j1 : ¬ (q : Int) < (N : Int) := by omega
                      go_wp2_with fail
                      go_ret
                      exact ⟨rfl, HP10.out.below⟩
end Go.Proofs.Ytjggofbaipppbaa
