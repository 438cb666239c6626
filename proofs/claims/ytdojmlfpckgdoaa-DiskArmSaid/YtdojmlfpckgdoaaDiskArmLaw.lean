/-
  DiskArm: for every number and every list the law answers true.
-/
import Derived.Test.YtdojmlfpckgdoaaDiskAwake
import Derived.Laws.BitsAllLaws
namespace Go.Proofs.Ytdojmlfpckgdoaa
open Go.RowKit

/-- a list of bools that was handed in: nothing, or a row of the world -/
def BoolsAt (w : World) (a : Option Addr) (l : Nat) (bs : Nat → Bool) : Prop :=
  l = 0 ∨ ∃ b off, a = some ⟨b, off, none⟩ ∧ ∀ i, i < l → w.cell? ⟨b, off + i, none⟩ = some (.bool (bs i))
theorem BoolsAt.below {w w' : World} {a : Option Addr} {l : Nat} {bs : Nat → Bool} (h : BoolsAt w a l bs) (k : Below w.heap.size w w') : BoolsAt w' a l bs := by
  rcases h with h | ⟨b, off, rfl, hr⟩
  · exact Or.inl h
  · exact Or.inr ⟨b, off, rfl, fun i hi => by rw [k.cell (cell_lt (hr i hi))]; exact hr i hi⟩
theorem bit1 (k : Nat) (hk : k < 1000) : bits .and .i64 (k : Int) 1 = ((k % 2 : Nat) : Int) := by
  have h : (BitVec.ofInt 64 (k : Int) &&& BitVec.ofInt 64 1).toNat = k % 2 := by
    rw [BitVec.toNat_and]
    have e1 : (BitVec.ofInt 64 (k : Int)).toNat = k := by simp; omega
    have e2 : (BitVec.ofInt 64 1).toNat = 1 := rfl
    rw [e1, e2, Nat.and_one_is_mod]
  show IntKind.i64.wrap ((BitVec.ofInt 64 (k : Int) &&& BitVec.ofInt 64 1).toNat : Int) = _
  rw [h]
  have : k % 2 < 2 := Nat.mod_lt _ (by decide)
  generalize k % 2 = y at *
  simp only [IntKind.wrap, IntKind.bits, IntKind.signed]
  simp
  omega
/-- an armed disk of two sectors, K calls of which work, behind k of them -/
structure ArmSt (p K k : Nat) (O : Nat → Prop) (m : DiskM) : Prop where
  d : m.d = p
  n : m.n = 2
  own : m.own = O
  armed : m.armed = true
  fits : m.fits
  less : k ≤ K → m.dead = false ∧ m.left = (K : Int) - k
  more : K < k → m.dead = true
theorem ArmSt.dead {p K k : Nat} {O : Nat → Prop} {m : DiskM} (h : ArmSt p K k O m) : m.dead = decide (K < k) := by
  by_cases e : K < k
  · rw [h.more e, decide_eq_true e]
  · rw [(h.less (by omega)).1, decide_eq_false e]
theorem armWrite (p K k : Nat) (O : Nat → Prop) (m : DiskM) (h : ArmSt p K k O m) (y : Nat) (hy : y < 2) (s : ByteArray) (hs : s.size ≤ 64) (w : World) (hD : DiskAt m w) :
    Calls Try.prog 23 #[.pointer (some ⟨p, 0, none⟩), .int .i64 (y : Int), .string s] w fun e w' => e = .returned (.int .i64 (if k < K then 0 else 12)) ∧ ∃ m', ArmSt p K (k + 1) O m' ∧ DiskAt m' w' ∧ Grew O w w' := by
  obtain ⟨rfl, h2, rfl, h4, h5, h6, h7⟩ := h
  refine (lawWrite_any m y s w hD h5).mono ?_
  rintro e w' ⟨o, m', rfl, hw, hD', hG⟩
  have hl : ¬ k < K → k ≤ K → m.left = 0 := fun a b => by have := (h6 b).2; omega
  cases hw with
  | cut e =>
    have hk : K < k := by
      rcases Nat.lt_or_ge K k with a | a
      · exact a
      · rw [(h6 a).1] at e; cases e
    refine ⟨by rw [if_neg (by omega)]; rfl, m, ⟨rfl, h2, rfl, h4, h5, fun a => by omega, fun _ => h7 hk⟩, hD', hG⟩
  | range _ e => omega
  | big j _ _ _ e => omega
  | dies j e _ _ _ _ e0 =>
    have hk : k ≤ K := by
      rcases Nat.lt_or_ge K k with a | a
      · rw [h7 a] at e; cases e
      · exact a
    have := (h6 hk).2
    refine ⟨by rw [if_neg (by omega)]; rfl, { m with dead := true }, ⟨rfl, h2, rfl, h4, h5, fun a => by omega, fun _ => rfl⟩, hD', hG⟩
  | works j e _ _ _ e0 =>
    have hk : k ≤ K := by
      rcases Nat.lt_or_ge K k with a | a
      · rw [h7 a] at e; cases e
      · exact a
    have e1 := e0 h4
    have e2 := (h6 hk).2
    refine ⟨by rw [if_pos (by omega)]; rfl, _, ⟨by simp [DiskM.wrote], by simpa [DiskM.wrote] using h2, by unfold DiskM.own; simp [DiskM.wrote], by simpa [DiskM.wrote] using h4, ?_, fun _ => ⟨by simpa [DiskM.wrote] using e, ?_⟩, fun a => by omega⟩, hD', hG⟩
    · unfold DiskM.fits at h5 ⊢
      simp only [DiskM.wrote, DiskM.spent, h4, if_true]
      omega
    · simp only [DiskM.wrote, DiskM.spent, h4, if_true]
      omega
theorem armSync (p K k : Nat) (O : Nat → Prop) (m : DiskM) (h : ArmSt p K k O m) (w : World) (hD : DiskAt m w) :
    Calls Try.prog 25 #[.pointer (some ⟨p, 0, none⟩)] w fun e w' => e = .returned (.int .i64 (if k < K then 0 else 12)) ∧ ∃ m', ArmSt p K (k + 1) O m' ∧ DiskAt m' w' ∧ Grew O w w' := by
  obtain ⟨rfl, h2, rfl, h4, h5, h6, h7⟩ := h
  refine (lawSync_any m w hD h5).mono ?_
  rintro e w' ⟨o, m', rfl, hw, hD', hG⟩
  cases hw with
  | cut e =>
    have hk : K < k := by
      rcases Nat.lt_or_ge K k with a | a
      · exact a
      · rw [(h6 a).1] at e; cases e
    refine ⟨by rw [if_neg (by omega)]; rfl, m, ⟨rfl, h2, rfl, h4, h5, fun a => by omega, fun _ => h7 hk⟩, hD', hG⟩
  | dies e _ e0 =>
    have hk : k ≤ K := by
      rcases Nat.lt_or_ge K k with a | a
      · rw [h7 a] at e; cases e
      · exact a
    have := (h6 hk).2
    refine ⟨by rw [if_neg (by omega)]; rfl, { m with dead := true }, ⟨rfl, h2, rfl, h4, h5, fun a => by omega, fun _ => rfl⟩, hD', hG⟩
  | works e e0 =>
    have hk : k ≤ K := by
      rcases Nat.lt_or_ge K k with a | a
      · rw [h7 a] at e; cases e
      · exact a
    have e1 := e0 h4
    have e2 := (h6 hk).2
    refine ⟨by rw [if_pos (by omega)]; rfl, _, ⟨by simp, by simpa using h2, by unfold DiskM.own; simp, by simpa using h4, ?_, fun _ => ⟨by simpa using e, ?_⟩, fun a => by omega⟩, hD', hG⟩
    · unfold DiskM.fits at h5 ⊢
      simp only [DiskM.spent, h4, if_true]
      omega
    · simp only [DiskM.spent, h4, if_true]
      omega
/-- Read of an armed disk: the error just if the power is cut -/
theorem armRead (p K k : Nat) (O : Nat → Prop) (m : DiskM) (h : ArmSt p K k O m) (w : World) (hD : DiskAt m w) :
    Calls Try.prog 22 #[.pointer (some ⟨p, 0, none⟩), .int .i64 0] w fun e w' => ∃ R, e = .returned (.tuple #[.string R, .int .i64 (if K < k then 12 else 0)]) ∧ DiskAt m w' ∧ ∀ S, Grew S w w' := by
  have h1 := h.dead
  have h2 := h.n
  obtain rfl := h.d
  refine (lawRead_any m 0 w hD).mono ?_
  rintro e w' ⟨o, l, rfl, hr, hD', hG⟩
  refine ⟨⟨l.toArray⟩, ?_, hD', hG⟩
  cases hr with
  | cut e => rw [if_pos (by rw [h1] at e; exact of_decide_eq_true e)]; rfl
  | range _ e => omega
  | works j e _ _ => rw [if_neg (by rw [h1] at e; exact of_decide_eq_false e)]; rfl
set_option maxRecDepth 10000 in
set_option maxHeartbeats 4000000 in
theorem diskArm_walk (n : Int) (a : Option Addr) (l c : Nat) (bs : Nat → Bool) (w : World) (_hl : l ≤ maxLen) (hA : BoolsAt w a l bs) :
    Calls Try.prog 5 #[.int .i64 n, .slice a l c] w fun e w' => e = .returned (.bool true) ∧ Below w.heap.size w w' := by
  obtain ⟨N, hN⟩ : ∃ N, min n 30 = N := ⟨_, rfl⟩
  have hN2 : (30 < n ∧ N = 30) ∨ (¬ 30 < n ∧ N = n) := by omega
  have hN3 : N ≤ 30 := by omega
  have HA := Lib.hid hA
  clear hA hN
  go_enter Try.func5, Try.ntmps5
  go_wp2_with fail
  refine (diskAwake _).mono ?_
  rintro e w1 ⟨rfl, hB⟩
  have HB := Lib.hid hB
  clear hB
  go_upto_region 3 with fail
  go_cut [0] (fun s0 wx => s0 = .int .i64 N ∧ wx = w1)
  case first =>
    rcases hN2 with ⟨h1, rfl⟩ | ⟨h1, rfl⟩
    all_goals
      go_wp2_with fail
      go_meet
      exact ⟨rfl, rfl⟩
  case rest =>
    obtain ⟨rfl, rfl⟩ := hcut
    clear hN2
    go_wp2_with fail
    refine (new_any 2 _).mono ?_
    rintro e w2 ⟨m, rfl, hM⟩
    obtain ⟨d, bs', bt, hm⟩ := hM.is
    have HO : Hid (∀ k, m.own k → w.heap.size ≤ k) := Lib.hid fun k hk => Nat.le_trans HB.out.size (hM.fresh k hk)
    have HB2 : Hid (Below w.heap.size w w2) := Lib.hid ((hM.grew fun _ => False).below HB.out HB.out.size (fun _ x => x.elim))
    have HAr := Lib.hid (arm_any m N w2 hM.at')
    obtain ⟨K, hK⟩ : ∃ K : Nat, max N 0 = (K : Int) := ⟨(max N 0).toNat, by omega⟩
    rw [hK] at HAr
    have hK2 : K ≤ 30 := by omega
    have HD3 : Hid (DiskAt { m with armed := true, left := K } ((w2.setCell ⟨m.d, 2, none⟩ (.bool true)).setCell ⟨m.d, 3, none⟩ (.int .i64 K))) := Lib.hid ((hM.at'.armed2 true).left3 K)
    have HB3 : Hid (Below w.heap.size w ((w2.setCell ⟨m.d, 2, none⟩ (.bool true)).setCell ⟨m.d, 3, none⟩ (.int .i64 K))) := Lib.hid ((HB2.out.setCell (HO.out m.d (Or.inl rfl)) _).setCell (HO.out m.d (Or.inl rfl)) _)
    have HS3 : Hid (ArmSt m.d K 0 m.own { m with armed := true, left := K }) := Lib.hid ⟨rfl, by rw [hm]; rfl, rfl, rfl, by unfold DiskM.fits; simp; omega, fun _ => ⟨by rw [hm]; rfl, by simp⟩, fun a => by omega⟩
    generalize m.own = O at *
    generalize ({ m with armed := true, left := K } : DiskM) = m3 at *
    generalize m.d = p at *
    clear hM hm HB HB2
    go_wp2_with fail
    refine HAr.out.mono ?_
    rintro e w3 ⟨rfl, hw3⟩
    rw [hw3] at HD3 HB3
    clear HAr hw3
    go_wp2_with fail
    go_loopw [6] (fun i wx => ∃ k : Nat, k ≤ 40 ∧ i = .int .i64 k ∧ ∃ m, ArmSt p K k O m ∧ DiskAt m wx ∧ Below w.heap.size w wx) (fun i _ => 40 - (intOf i).toNat)
    case atStart => exact ⟨0, by omega, rfl, _, HS3.out, HD3.out, HB3.out⟩
    case round =>
      obtain ⟨k, hk, rfl, mr, hS, hD, hB⟩ := hrel
      have HSr := Lib.hid hS
      have HDr := Lib.hid hD
      have HBr := Lib.hid hB
      clear hS hD hB HS3 HD3 HB3
      by_cases hend : k < l ∧ k < 40
      · have j1 : (k : Int) < (l : Int) := by omega
        have j2 : (k : Int) < 40 := by omega
        have j3 : (0 : Int) ≤ (k : Int) := by omega
        rcases (HA.out.below HBr.out) with hz | ⟨b, off, rfl, hr⟩
        · omega
        have hcell := hr k hend.1
        clear hr
        cases hbk : bs k with
        | true =>
          rw [hbk] at hcell
          have HCall := Lib.hid (armSync p K k O mr HSr.out wr HDr.out)
          go_wp2_with fail
          with_reducible refine HCall.out.mono ?_
          rintro e w4 ⟨rfl, m4, hS4, hD4, hG4⟩
          have HS4 := Lib.hid hS4
          have HD4 := Lib.hid hD4
          have HB4 := Lib.hid (hG4.below HBr.out HBr.out.size HO.out)
          have HDe := Lib.hid (dead_any m4 w4 hD4)
          rw [hS4.d, hS4.dead] at HDe
          clear hS4 hD4 hG4 HCall
          by_cases hkK : k < K
          · have g1 : (k : Int) < N := by omega
            rw [if_pos hkK]
            rw [decide_eq_false (by omega)] at HDe
            go_wp2_with fail
            with_reducible refine HDe.out.mono ?_
            rintro e w5 ⟨rfl, rfl⟩
            go_wp2_with fail
            go_roundw
            case rel => exact ⟨k + 1, by omega, by go_num, m4, HS4.out, HD4.out, HB4.out⟩
            case measure => simp [intOf]; omega
          · have g1 : ¬ (k : Int) < N := by omega
            rw [if_neg hkK]
            rw [decide_eq_true (by omega)] at HDe
            go_wp2_with fail
            with_reducible refine HDe.out.mono ?_
            rintro e w5 ⟨rfl, rfl⟩
            go_wp2_with fail
            go_roundw
            case rel => exact ⟨k + 1, by omega, by go_num, m4, HS4.out, HD4.out, HB4.out⟩
            case measure => simp [intOf]; omega
        | false =>
          rw [hbk] at hcell
          have hb1 := bit1 k (by omega)
          have HCall := Lib.hid (armWrite p K k O mr HSr.out (k % 2) (Nat.mod_lt _ (by decide)) ⟨#[120]⟩ (by decide) wr HDr.out)
          generalize k % 2 = y at *
          go_wp2_with fail
          with_reducible refine HCall.out.mono ?_
          rintro e w4 ⟨rfl, m4, hS4, hD4, hG4⟩
          have HS4 := Lib.hid hS4
          have HD4 := Lib.hid hD4
          have HB4 := Lib.hid (hG4.below HBr.out HBr.out.size HO.out)
          have HDe := Lib.hid (dead_any m4 w4 hD4)
          rw [hS4.d, hS4.dead] at HDe
          clear hS4 hD4 hG4 HCall
          by_cases hkK : k < K
          · have g1 : (k : Int) < N := by omega
            rw [if_pos hkK]
            rw [decide_eq_false (by omega)] at HDe
            go_wp2_with fail
            with_reducible refine HDe.out.mono ?_
            rintro e w5 ⟨rfl, rfl⟩
            go_wp2_with fail
            go_roundw
            case rel => exact ⟨k + 1, by omega, by go_num, m4, HS4.out, HD4.out, HB4.out⟩
            case measure => simp [intOf]; omega
          · have g1 : ¬ (k : Int) < N := by omega
            rw [if_neg hkK]
            rw [decide_eq_true (by omega)] at HDe
            go_wp2_with fail
            with_reducible refine HDe.out.mono ?_
            rintro e w5 ⟨rfl, rfl⟩
            go_wp2_with fail
            go_roundw
            case rel => exact ⟨k + 1, by omega, by go_num, m4, HS4.out, HD4.out, HB4.out⟩
            case measure => simp [intOf]; omega
      · have HE : Hid (¬ ((k : Int) < (l : Int)) ∨ ((k : Int) < (l : Int) ∧ ¬ (k : Int) < 40)) := Lib.hid (by omega)
        clear hend
        rcases HE.out with j1 | ⟨j1, j2⟩
        all_goals
          clear HE
          have HRd := Lib.hid (armRead p K k O mr HSr.out wr HDr.out)
          by_cases hd : K < k
          · rw [if_pos hd] at HRd
            have HX := decide_eq_true hd
            go_wp2_with fail
            with_reducible refine HRd.out.mono ?_
            rintro e w4 ⟨R, rfl, hD4, hG4⟩
            have HD4 := Lib.hid hD4
            have HB4 := Lib.hid ((hG4 fun _ => False).below HBr.out HBr.out.size (fun _ x => x.elim))
            have HDe := Lib.hid (dead_any mr w4 hD4)
            rw [HSr.out.d, HSr.out.dead, HX] at HDe
            have HCr := Lib.hid (crash_any mr none 0 0 (fun _ => 0) w4 hD4 (Or.inl rfl))
            rw [HSr.out.d, HSr.out.own] at HCr
            have HLv : Hid (mr.crashed (cutOf 0 fun _ => 0)).Live := Lib.hid (live_crashed _ _)
            have HCd : Hid ((mr.crashed (cutOf 0 fun _ => 0)).d = p ∧ (mr.crashed (cutOf 0 fun _ => 0)).n = 2) := Lib.hid ⟨by rw [crashed_d]; exact HSr.out.d, by rw [crashed_n]; exact HSr.out.n⟩
            have HOc : Hid ((mr.crashed (cutOf 0 fun _ => 0)).own = O) := Lib.hid (by rw [crashed_own]; exact HSr.out.own)
            generalize mr.crashed (cutOf 0 fun _ => 0) = mc at *
            clear hD4 hG4 HRd
            go_wp2_with fail
            with_reducible refine HDe.out.mono ?_
            rintro e w5 ⟨rfl, rfl⟩
            go_wp2_with fail
            with_reducible refine HCr.out.mono ?_
            rintro e w6 ⟨rfl, hD6, hG6⟩
            have HD6 := Lib.hid hD6
            have HB6 := Lib.hid (hG6.below HB4.out HB4.out.size HO.out)
            have HR6 := Lib.hid (lawRead_live p mc HCd.out.1 0 (by rw [HCd.out.2]; decide) HLv.out w6 hD6)
            clear hD6 hG6 HCr HDe
            go_wp2_with fail
            refine HR6.out.mono ?_
            rintro e w7 ⟨rfl, hD7, hG7⟩
            have HB7 := Lib.hid ((hG7 fun _ => False).below HB6.out HB6.out.size (fun _ x => x.elim))
            have HDe := Lib.hid (dead_any mc w7 hD7)
            rw [HCd.out.1, HLv.out.dead] at HDe
            have HW7 := Lib.hid (lawWrite_live p mc HCd.out.1 0 (by rw [HCd.out.2]; decide) ⟨#[121]⟩ (by decide) HLv.out w7 hD7)
            have HOw : Hid (mc.own = O) := Lib.hid HOc.out
            clear hD7 hG7 HR6
            go_wp2_with fail
            with_reducible refine HDe.out.mono ?_
            rintro e w8 ⟨rfl, rfl⟩
            go_wp2_with fail
            refine HW7.out.mono ?_
            rintro e w8 ⟨rfl, _, hG8⟩
            rw [HOw.out] at hG8
            have HB8 := Lib.hid (hG8.below HB7.out HB7.out.size HO.out)
            clear hG8
            go_wp2_with fail
            go_ret
            exact ⟨rfl, HB8.out⟩
          · rw [if_neg hd] at HRd
            have HX := decide_eq_false hd
            go_wp2_with fail
            with_reducible refine HRd.out.mono ?_
            rintro e w4 ⟨R, rfl, hD4, hG4⟩
            have HD4 := Lib.hid hD4
            have HB4 := Lib.hid ((hG4 fun _ => False).below HBr.out HBr.out.size (fun _ x => x.elim))
            have HDe := Lib.hid (dead_any mr w4 hD4)
            rw [HSr.out.d, HSr.out.dead, HX] at HDe
            have HCr := Lib.hid (crash_any mr none 0 0 (fun _ => 0) w4 hD4 (Or.inl rfl))
            rw [HSr.out.d, HSr.out.own] at HCr
            have HLv : Hid (mr.crashed (cutOf 0 fun _ => 0)).Live := Lib.hid (live_crashed _ _)
            have HCd : Hid ((mr.crashed (cutOf 0 fun _ => 0)).d = p ∧ (mr.crashed (cutOf 0 fun _ => 0)).n = 2) := Lib.hid ⟨by rw [crashed_d]; exact HSr.out.d, by rw [crashed_n]; exact HSr.out.n⟩
            have HOc : Hid ((mr.crashed (cutOf 0 fun _ => 0)).own = O) := Lib.hid (by rw [crashed_own]; exact HSr.out.own)
            generalize mr.crashed (cutOf 0 fun _ => 0) = mc at *
            clear hD4 hG4 HRd
            go_wp2_with fail
            with_reducible refine HDe.out.mono ?_
            rintro e w5 ⟨rfl, rfl⟩
            go_wp2_with fail
            with_reducible refine HCr.out.mono ?_
            rintro e w6 ⟨rfl, hD6, hG6⟩
            have HD6 := Lib.hid hD6
            have HB6 := Lib.hid (hG6.below HB4.out HB4.out.size HO.out)
            have HR6 := Lib.hid (lawRead_live p mc HCd.out.1 0 (by rw [HCd.out.2]; decide) HLv.out w6 hD6)
            clear hD6 hG6 HCr HDe
            go_wp2_with fail
            refine HR6.out.mono ?_
            rintro e w7 ⟨rfl, hD7, hG7⟩
            have HB7 := Lib.hid ((hG7 fun _ => False).below HB6.out HB6.out.size (fun _ x => x.elim))
            have HDe := Lib.hid (dead_any mc w7 hD7)
            rw [HCd.out.1, HLv.out.dead] at HDe
            have HW7 := Lib.hid (lawWrite_live p mc HCd.out.1 0 (by rw [HCd.out.2]; decide) ⟨#[121]⟩ (by decide) HLv.out w7 hD7)
            have HOw : Hid (mc.own = O) := Lib.hid HOc.out
            clear hD7 hG7 HR6
            go_wp2_with fail
            with_reducible refine HDe.out.mono ?_
            rintro e w8 ⟨rfl, rfl⟩
            go_wp2_with fail
            refine HW7.out.mono ?_
            rintro e w8 ⟨rfl, _, hG8⟩
            rw [HOw.out] at hG8
            have HB8 := Lib.hid (hG8.below HB7.out HB7.out.size HO.out)
            clear hG8
            go_wp2_with fail
            go_ret
            exact ⟨rfl, HB8.out⟩
end Go.Proofs.Ytdojmlfpckgdoaa
