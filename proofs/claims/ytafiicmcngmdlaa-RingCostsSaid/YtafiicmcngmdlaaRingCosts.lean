/-
  The law RingCosts: what two records take: the walk.
-/
import Derived.Test.YtafiicmcngmdlaaRingAwake
import Derived.Test.YtafiicmcngmdlaaRingRefCost
namespace Go.Proofs.Ytafiicmcngmdlaa
open Go.RowKit

/-- a disk with two journals upon the same sectors -/
structure Two (w : World) (p rW rL N NW NL : Nat) (M : DiskM) (uW uL : Nat) (wx : World) : Prop where
  d : M.d = p
  live : M.Live
  n : M.n = N
  oW : ¬ M.own rW
  oL : ¬ M.own rL
  fresh : ∀ k, M.own k → w.heap.size ≤ k
  fW : w.heap.size ≤ rW
  fL : w.heap.size ≤ rL
  ne : rW ≠ rL
  at' : DiskAt M wx
  rw' : RingAt rW p 2 NW 1 uW wx
  rl' : RingAt rL p 2 NL 1 uL wx
  below : Below w.heap.size w wx
theorem Two.less {w : World} {p rW rL N NW NL : Nat} {M : DiskM} {uW uL : Nat} {wx : World} (h : Two w p rW rL N NW NL M uW uL wx) (hN : 2 + NL ≤ N) (hu : uL ≤ NL) (t : ByteArray) (ht : t.size < 100000) :
    Calls Try.prog 45 #[.pointer (some ⟨rL, 0, none⟩), .string t] wx fun e w' => e = .returned (.tuple #[.bool (decide (uL + costOf t.size ≤ NL)), .int .i64 0]) ∧ ∃ M', Two w p rW rL N NW NL M' uW (appU NL uL t) w' := by
  refine (lawAppend_any rL p 2 NL 1 uL t M h.d h.live wx h.rl' h.at' h.oL (by rw [h.n]; exact hN) hu (by decide) ht).mono ?_
  rintro e w' ⟨rfl, hd, hr, hg⟩
  obtain ⟨s1, s2, s3, s4, s5⟩ := appM_same M 2 NL 1 uL t
  refine ⟨rfl, appM M 2 NL 1 uL t, s1.trans h.d, s5 h.live, s2.trans h.n, by rw [s3]; exact h.oW, by rw [s3]; exact h.oL, by rw [s3]; exact h.fresh, h.fW, h.fL, h.ne, hd, h.rw'.keep hg (fun e => e.elim h.oW h.ne), hr, hg.below h.below h.below.size (fun k hk => ?_)⟩
  rcases hk with hk | hk
  · exact h.fresh k hk
  · rw [hk]; exact h.fL
theorem Two.whole {w : World} {p rW rL N NW NL : Nat} {M : DiskM} {uW uL : Nat} {wx : World} (h : Two w p rW rL N NW NL M uW uL wx) (hN : 2 + NW ≤ N) (hu : uW ≤ NW) (t : ByteArray) (ht : t.size < 100000) :
    Calls Try.prog 45 #[.pointer (some ⟨rW, 0, none⟩), .string t] wx fun e w' => e = .returned (.tuple #[.bool (decide (uW + costOf t.size ≤ NW)), .int .i64 0]) ∧ ∃ M', Two w p rW rL N NW NL M' (appU NW uW t) uL w' := by
  refine (lawAppend_any rW p 2 NW 1 uW t M h.d h.live wx h.rw' h.at' h.oW (by rw [h.n]; exact hN) hu (by decide) ht).mono ?_
  rintro e w' ⟨rfl, hd, hr, hg⟩
  obtain ⟨s1, s2, s3, s4, s5⟩ := appM_same M 2 NW 1 uW t
  refine ⟨rfl, appM M 2 NW 1 uW t, s1.trans h.d, s5 h.live, s2.trans h.n, by rw [s3]; exact h.oW, by rw [s3]; exact h.oL, by rw [s3]; exact h.fresh, h.fW, h.fL, h.ne, hd, hr, h.rl'.keep hg (fun e => e.elim h.oL (fun e => h.ne e.symm)), hg.below h.below h.below.size (fun k hk => ?_)⟩
  rcases hk with hk | hk
  · exact h.fresh k hk
  · rw [hk]; exact h.fW
set_option maxRecDepth 10000 in
set_option maxHeartbeats 2000000 in
theorem ringCosts_any (a b : ByteArray) (ha : a.size ≤ maxLen) (hb : b.size ≤ maxLen) (w : World) :
    Calls Try.prog 12 #[.string a, .string b] w fun e w' => e = .returned (.bool true) ∧ Below w.heap.size w w' := by
  obtain ⟨s, hs, HCa⟩ := cut_law a 150 ha (by decide)
  obtain ⟨t, ht, HCb⟩ := cut_law b 150 hb (by decide)
  have HA1 : Hid (∀ wx : World, Calls Try.prog 33 #[.string a, .int .i64 150] wx fun e w' => e = .returned (.string s) ∧ wx = w') := Lib.hid HCa
  have HA2 : Hid (∀ wx : World, Calls Try.prog 33 #[.string b, .int .i64 150] wx fun e w' => e = .returned (.string t) ∧ wx = w') := Lib.hid HCb
  clear HCa HCb
  have HX1 : Hid (∀ wx : World, Calls Try.prog 46 #[.int .i64 s.size] wx fun e w' => e = .returned (.int .i64 (costOf s.size : Nat)) ∧ wx = w') := Lib.hid fun wx => cost_any s.size wx (by omega)
  have HX2 : Hid (∀ wx : World, Calls Try.prog 46 #[.int .i64 t.size] wx fun e w' => e = .returned (.int .i64 (costOf t.size : Nat)) ∧ wx = w') := Lib.hid fun wx => cost_any t.size wx (by omega)
  have HY1 : Hid (∀ wx : World, Calls Try.prog 51 #[.int .i64 s.size] wx fun e w' => e = .returned (.int .i64 (costOf s.size : Nat)) ∧ wx = w') := Lib.hid fun wx => refCost_any s.size wx (by omega)
  have HY2 : Hid (∀ wx : World, Calls Try.prog 51 #[.int .i64 t.size] wx fun e w' => e = .returned (.int .i64 (costOf t.size : Nat)) ∧ wx = w') := Lib.hid fun wx => refCost_any t.size wx (by omega)
  have c1 : 1 ≤ costOf s.size ∧ costOf s.size ≤ 4 := by unfold costOf; omega
  have c2 : 1 ≤ costOf t.size ∧ costOf t.size ≤ 4 := by unfold costOf; omega
  have HS := Lib.hid hs
  have HT := Lib.hid ht
  obtain ⟨A, hA⟩ : ∃ A, costOf s.size = A := ⟨_, rfl⟩
  obtain ⟨B, hB⟩ : ∃ B, costOf t.size = B := ⟨_, rfl⟩
  rw [hA] at HX1 HY1 c1
  rw [hB] at HX2 HY2 c2
  have HAA := Lib.hid hA
  have HBB := Lib.hid hB
  clear hA hB hs ht ha hb
  have e1 : IntKind.i64.wrap ((A : Int) + (B : Int)) = (A : Int) + (B : Int) := IntWalk.i64_in _ (by omega)
  go_enter Try.func12, Try.ntmps12
  go_wp2_with (first | (go_at_call 33; (with_reducible refine (HA1.out _).mono ?_); rintro e w' ⟨rfl, rfl⟩) | (go_at_call 33; (with_reducible refine (HA2.out _).mono ?_); rintro e w' ⟨rfl, rfl⟩))
  refine (ringAwake _).mono ?_
  rintro e w1 ⟨rfl, hb1⟩
  have HB1 := Lib.hid hb1
  clear hb1
  go_wp2_with (first | (go_at_call 46; (with_reducible refine (HX1.out _).mono ?_); rintro e w' ⟨rfl, rfl⟩) | (go_at_call 46; (with_reducible refine (HX2.out _).mono ?_); rintro e w' ⟨rfl, rfl⟩) | (go_at_call 51; (with_reducible refine (HY1.out _).mono ?_); rintro e w' ⟨rfl, rfl⟩) | (go_at_call 51; (with_reducible refine (HY2.out _).mono ?_); rintro e w' ⟨rfl, rfl⟩))
  have e2 : diskLen (2 + ((A : Int) + (B : Int))) = 2 + (A + B) := by unfold diskLen; omega
  refine (new_any _ _).mono ?_
  rintro e w2 ⟨m, rfl, hM⟩
  obtain ⟨d, bs, bt, hm⟩ := hM.is
  rw [e2] at hm
  have hn : m.n = 2 + (A + B) := by rw [hm]; rfl
  have hL : m.Live := by rw [hm]; exact live_new _ _ _ _
  have hO := hM.fresh
  have hG := hM.grew fun _ => False
  have hB2 : Below w.heap.size w w2 := hG.below HB1.out HB1.out.size (fun _ x => x.elim)
  have hD2 := hM.at'
  have hO2 : ∀ k, m.own k → w.heap.size ≤ k := fun k hk => Nat.le_trans HB1.out.size (hO k hk)
  obtain ⟨p, hp⟩ : ∃ p, m.d = p := ⟨_, rfl⟩
  rw [hp]
  clear hM hm d bs bt hO hG e2
  have HD2 := Lib.hid hD2
  have HO2 := Lib.hid hO2
  have HB2 := Lib.hid hB2
  have HL := Lib.hid hL
  have HP := Lib.hid hp
  have HNm := Lib.hid hn
  clear hD2 hO2 hB2 hL hp hn
  have HN1 : Hid (∀ wx : World, Calls Try.prog 43 #[.pointer (some ⟨p, 0, none⟩), .int .i64 2, .int .i64 ((A : Int) + (B : Int)), .int .u32 1] wx fun e w' => e = .returned (.pointer (some ⟨wx.heap.size, 0, none⟩)) ∧ RingAt wx.heap.size p 2 (A + B) 1 0 w' ∧ Below wx.heap.size wx w') := Lib.hid fun wx => by
    have := ringNew_any p 2 ((A : Int) + (B : Int)) 1 wx
    rw [show ((A : Int) + (B : Int)).toNat = A + B by omega] at this
    exact this
  have HN2 : Hid (∀ wx : World, Calls Try.prog 43 #[.pointer (some ⟨p, 0, none⟩), .int .i64 2, .int .i64 ((A : Int) + (B : Int) - 1), .int .u32 1] wx fun e w' => e = .returned (.pointer (some ⟨wx.heap.size, 0, none⟩)) ∧ RingAt wx.heap.size p 2 (A + B - 1) 1 0 w' ∧ Below wx.heap.size wx w') := Lib.hid fun wx => by
    have := ringNew_any p 2 ((A : Int) + (B : Int) - 1) 1 wx
    rw [show ((A : Int) + (B : Int) - 1).toNat = A + B - 1 by omega] at this
    exact this
  have e3 : IntKind.i64.wrap ((A : Int) + (B : Int) - 1) = (A : Int) + (B : Int) - 1 := IntWalk.i64_in _ (by omega)
  go_wp2_with fail
  refine (HN1.out _).mono ?_
  rintro e w3 ⟨rfl, hr3, hb3⟩
  have HR3 := Lib.hid hr3
  have HG3 := Lib.hid hb3
  clear hr3 hb3
  go_wp2_with fail
  refine (HN2.out _).mono ?_
  rintro e w4 ⟨rfl, hr4, hb4⟩
  have h0 : Two w p w2.heap.size w3.heap.size (2 + (A + B)) (A + B) (A + B - 1) m 0 0 w4 := by
    have q1 : w2.heap.size < w3.heap.size := HR3.out.lt
    have q2 := HB2.out.size
    have q3 := HD2.out.below
    have k3 : Grew (fun _ => False) w2 w3 := Grew.of_below HG3.out
    have k4 : Grew (fun _ => False) w3 w4 := Grew.of_below hb4
    exact ⟨HP.out, HL.out, HNm.out, fun e => Nat.lt_irrefl _ (q3 _ e), fun e => by have := q3 _ e; omega, HO2.out, q2, by omega, by omega, (HD2.out.keep k3 fun _ _ e => e).keep k4 fun _ _ e => e, HR3.out.below hb4, hr4, (HB2.out.trans (HG3.out.mono q2)).trans (hb4.mono (by omega))⟩
  generalize w2.heap.size = rW at *
  generalize w3.heap.size = rL at *
  have H0 := Lib.hid h0
  clear h0 hr4 hb4 HR3 HG3 HN1 HN2 HD2 HO2 HB2 HL HP HNm
  have u1 : ∀ n u, u + A ≤ n → appU n u s = u + A := fun n u h => by unfold appU; rw [HAA.out, if_pos h]
  have u2 : ∀ n u, ¬ u + B ≤ n → appU n u t = u := fun n u h => by unfold appU; rw [HBB.out, if_neg h]
  have u3 : ∀ n u, u + B ≤ n → appU n u t = u + B := fun n u h => by unfold appU; rw [HBB.out, if_pos h]
  have hs : s.size < 100000 := by have := HS.out; omega
  have ht : t.size < 100000 := by have := HT.out; omega
  have S1 : Hid (Calls Try.prog 45 #[.pointer (some ⟨rL, 0, none⟩), .string s] w4 fun e w' => e = .returned (.tuple #[.bool true, .int .i64 0]) ∧ ∃ M', Two w p rW rL (2 + (A + B)) (A + B) (A + B - 1) M' 0 A w') := Lib.hid (by
    have := H0.out.less (by omega) (by omega) s hs
    rw [HAA.out, decide_eq_true (by omega), u1 _ _ (by omega), Nat.zero_add] at this
    exact this)
  have S2 : Hid (∀ M wx, Two w p rW rL (2 + (A + B)) (A + B) (A + B - 1) M 0 A wx → Calls Try.prog 45 #[.pointer (some ⟨rL, 0, none⟩), .string t] wx fun e w' => e = .returned (.tuple #[.bool false, .int .i64 0]) ∧ ∃ M', Two w p rW rL (2 + (A + B)) (A + B) (A + B - 1) M' 0 A w') := Lib.hid (fun M wx h => by
    have := h.less (by omega) (by omega) t ht
    rw [HBB.out, decide_eq_false (by omega), u2 _ _ (by omega)] at this
    exact this)
  have S3 : Hid (∀ M wx, Two w p rW rL (2 + (A + B)) (A + B) (A + B - 1) M 0 A wx → Calls Try.prog 45 #[.pointer (some ⟨rW, 0, none⟩), .string s] wx fun e w' => e = .returned (.tuple #[.bool true, .int .i64 0]) ∧ ∃ M', Two w p rW rL (2 + (A + B)) (A + B) (A + B - 1) M' A A w') := Lib.hid (fun M wx h => by
    have := h.whole (by omega) (by omega) s hs
    rw [HAA.out, decide_eq_true (by omega), u1 _ _ (by omega), Nat.zero_add] at this
    exact this)
  have S4 : Hid (∀ M wx, Two w p rW rL (2 + (A + B)) (A + B) (A + B - 1) M A A wx → Calls Try.prog 45 #[.pointer (some ⟨rW, 0, none⟩), .string t] wx fun e w' => e = .returned (.tuple #[.bool true, .int .i64 0]) ∧ ∃ M', Two w p rW rL (2 + (A + B)) (A + B) (A + B - 1) M' (A + B) A w') := Lib.hid (fun M wx h => by
    have := h.whole (by omega) (by omega) t ht
    rw [HBB.out, decide_eq_true (by omega), u3 _ _ (by omega)] at this
    exact this)
  have S5 : Hid (∀ M wx, Two w p rW rL (2 + (A + B)) (A + B) (A + B - 1) M (A + B) A wx → Calls Try.prog 47 #[.pointer (some ⟨rW, 0, none⟩)] wx fun e w' => e = .returned (.int .i64 0) ∧ Below w.heap.size w w') := Lib.hid (fun M wx h => by
    refine (left_any' rW p 2 (A + B) 1 (A + B) wx h.rw' (by omega) (by omega)).mono ?_
    rintro e w' ⟨rfl, hb⟩
    exact ⟨by rw [Int.sub_self], h.below.trans (hb.mono h.below.size)⟩)
  clear u1 u2 u3 hs ht H0 HAA HBB HS HT
  go_wp2_with fail
  refine S1.out.mono ?_
  rintro e w5 ⟨rfl, M5, h5⟩
  have H5 := Lib.hid h5
  clear h5 S1
  go_wp2_with fail
  refine (S2.out M5 w5 H5.out).mono ?_
  rintro e w6 ⟨rfl, M6, h6⟩
  have H6 := Lib.hid h6
  clear h6 S2 H5
  go_wp2_with fail
  refine (S3.out M6 w6 H6.out).mono ?_
  rintro e w7 ⟨rfl, M7, h7⟩
  have H7 := Lib.hid h7
  clear h7 S3 H6
  go_wp2_with fail
  refine (S4.out M7 w7 H7.out).mono ?_
  rintro e w8 ⟨rfl, M8, h8⟩
  have H8 := Lib.hid h8
  clear h8 S4 H7
  go_wp2_with fail
  refine (S5.out M8 w8 H8.out).mono ?_
  rintro e w9 ⟨rfl, hb9⟩
  have HB9 := Lib.hid hb9
  clear hb9 S5 H8
  go_wp2_with fail
  go_ret
  exact ⟨rfl, HB9.out⟩
end Go.Proofs.Ytafiicmcngmdlaa
