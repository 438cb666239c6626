/-
  GrantsTurns: for every number, list and sector the law answers true.
-/
import Derived.Test.YtdojmlfpckgdoaaGrantsAwake
import Derived.Laws.BitsAllLaws
namespace Go.Proofs.Ytdojmlfpckgdoaa
open Go.RowKit

theorem mask255 (k : Int) : ∃ p : Nat, bits .and .i64 k 255 = (p : Int) ∧ p < 256 := by
  refine ⟨(BitVec.ofInt 64 k &&& BitVec.ofInt 64 255).toNat, ?_, ?_⟩
  · have h : (BitVec.ofInt 64 k &&& BitVec.ofInt 64 255).toNat ≤ 255 := by
      rw [BitVec.toNat_and]
      exact Nat.le_trans Nat.and_le_right (by decide)
    show IntKind.i64.wrap ((BitVec.ofInt 64 k &&& BitVec.ofInt 64 255).toNat : Int) = _
    generalize (BitVec.ofInt 64 k &&& BitVec.ofInt 64 255).toNat = y at *
    simp only [IntKind.wrap, IntKind.bits, IntKind.signed]
    simp
    omega
  · rw [BitVec.toNat_and]
    exact Nat.lt_of_le_of_lt Nat.and_le_right (by decide)
/-- a list of ints that was handed in: nothing, or a row of the world -/
def IntsAt (w : World) (a : Option Addr) (l : Nat) (es : Nat → Int) : Prop :=
  l = 0 ∨ ∃ b off, a = some ⟨b, off, none⟩ ∧ ∀ i, i < l → w.cell? ⟨b, off + i, none⟩ = some (.int .i64 (es i))
theorem IntsAt.below {w w' : World} {a : Option Addr} {l : Nat} {es : Nat → Int} (h : IntsAt w a l es) (k : Below w.heap.size w w') : IntsAt w' a l es := by
  rcases h with h | ⟨b, off, rfl, hr⟩
  · exact Or.inl h
  · exact Or.inr ⟨b, off, rfl, fun i hi => by rw [k.cell (cell_lt (hr i hi))]; exact hr i hi⟩
/-- a map all of whose sectors are free or held -/
def TwoWays (w : World) (m g f n : Nat) (wx : World) : Prop := ∃ S, MapAt m g f n S wx ∧ (∀ i, i < n → S i = 0 ∨ S i = 1) ∧ Below w.heap.size w wx
theorem TwoWays.hold {w wx w' : World} {m g f n i : Nat} {S : Nat → Nat} {r : Bool} (hS : ∀ i, i < n → S i = 0 ∨ S i = 1) (hB : Below w.heap.size w wx) (hg : w.heap.size ≤ g) (hi : i < n) (h : Turned m g f n S i 0 1 wx r w') :
    ∃ T, MapAt m g f n T w' ∧ (∀ i, i < n → T i = 0 ∨ T i = 1) ∧ T i = 1 ∧ Below w.heap.size w w' := by
  have hb : Below w.heap.size w w' := h.2.below hB hB.size (fun k e => by omega)
  by_cases e : S i = 0
  · refine ⟨upd S i 1, (h.1.1 e).2, fun j hj => ?_, if_pos rfl, hb⟩
    unfold upd
    split
    · exact Or.inr rfl
    · exact hS j hj
  · exact ⟨S, (h.1.2 e).2, hS, (hS i hi).resolve_left e, hb⟩

theorem cnt_none (S : Nat → Nat) (k n : Nat) (h : ∀ i, i < n → ¬ S i = k) : cnt S k n = 0 := by
  induction n with
  | zero => rfl
  | succ n ih =>
    have h1 := ih fun i hi => h i (by omega)
    have h2 := h n (by omega)
    show cnt S k n + _ = 0
    rw [h1, if_neg h2]
theorem upd_same (S : Nat → Nat) (i v : Nat) : upd S i v i = v := if_pos rfl
/-- what the numbers are, step by step -/
theorem turns_cnt (S : Nat → Nat) (I N : Nat) (hI : I < N) (h1 : S I = 1) (hS : ∀ i, i < N → S i = 0 ∨ S i = 1) :
    cnt (upd S I 2) 0 N = cnt S 0 N ∧ cnt (upd S I 2) 2 N = 1 ∧ cnt (upd (upd S I 2) I 1) 2 N = 0 ∧ cnt (upd (upd (upd S I 2) I 1) I 0) 0 N = cnt S 0 N + 1 ∧
    ∀ j, j < N → upd (upd (upd S I 2) I 1) I 0 j = 0 → cnt (upd (upd (upd (upd S I 2) I 1) I 0) j 1) 1 N = cnt S 1 N ∧ cnt (upd (upd (upd (upd S I 2) I 1) I 0) j 1) 0 N = cnt S 0 N := by
  have z := cnt_none S 2 N fun i hi => by rcases hS i hi with h | h <;> omega
  have e2 := upd_same S I 2
  have e3 := upd_same (upd S I 2) I 1
  have a0 := cnt_upd S 0 I 2 N hI
  have a1 := cnt_upd S 1 I 2 N hI
  have a2 := cnt_upd S 2 I 2 N hI
  have b0 := cnt_upd (upd S I 2) 0 I 1 N hI
  have b1 := cnt_upd (upd S I 2) 1 I 1 N hI
  have b2 := cnt_upd (upd S I 2) 2 I 1 N hI
  have c0 := cnt_upd (upd (upd S I 2) I 1) 0 I 0 N hI
  have c1 := cnt_upd (upd (upd S I 2) I 1) 1 I 0 N hI
  rw [h1] at a0 a1 a2
  rw [e2] at b0 b1 b2
  rw [e3] at c0 c1
  simp at a0 a1 a2 b0 b1 b2 c0 c1
  refine ⟨by omega, by omega, by omega, by omega, fun j hj h0 => ?_⟩
  have d0 := cnt_upd (upd (upd (upd S I 2) I 1) I 0) 0 j 1 N hj
  have d1 := cnt_upd (upd (upd (upd S I 2) I 1) I 0) 1 j 1 N hj
  rw [h0] at d0 d1
  simp at d0 d1
  constructor <;> omega
set_option maxHeartbeats 4000000 in
theorem grantsTurns_walk (n : Int) (at' : Int) (a : Option Addr) (l c : Nat) (es : Nat → Int) (w : World) (hl : l ≤ maxLen) (hA : IntsAt w a l es) :
    Calls Try.prog 12 #[.int .i64 n, .slice a l c, .int .i64 at'] w fun e w' => e = .returned (.bool true) ∧ Below w.heap.size w w' := by
  obtain ⟨p, hp, hp2⟩ := mask255 n
  obtain ⟨p', hp', hp2'⟩ := mask255 at'
  obtain ⟨N, hN⟩ : ∃ N, 1 + p % 40 = N := ⟨_, rfl⟩
  obtain ⟨I, hI⟩ : ∃ I, p' % N = I := ⟨_, rfl⟩
  have hN1 : 1 ≤ N := by omega
  have hN2 : N ≤ 40 := by omega
  have hI2 : I < N := by rw [← hI]; exact Nat.mod_lt _ (by omega)
  have t1 : ((p : Int).tmod 40) = ((p % 40 : Nat) : Int) := by rw [Int.tmod_eq_emod_of_nonneg (by omega)]; omega
  have t2 : IntKind.i64.wrap (1 + ((p % 40 : Nat) : Int)) = (N : Int) := by rw [IntWalk.i64_in _ (by omega)]; omega
  have t3 : IntKind.i64.wrap (3 + (N : Int)) = ((3 + N : Nat) : Int) := by rw [IntWalk.i64_in _ (by omega)]; omega
  have t4 : ((p' : Int).tmod (N : Int)) = (I : Int) := by rw [Int.tmod_eq_emod_of_nonneg (by omega), ← hI]; omega
  have t5 : IntKind.i64.wrap (3 + (I : Int)) = ((3 + I : Nat) : Int) := by rw [IntWalk.i64_in _ (by omega)]; omega
  have t6 : ¬ (N : Int) = 0 := by omega
  have HNew := Lib.hid fun wx => new_map 3 N wx (by decide) (by omega)
  have HA := Lib.hid hA
  have HL : Hid (l ≤ 9223372036854775807) := Lib.hid (by unfold maxLen at hl; omega)
  clear hN hI hA hl
  generalize p % 40 = q at *
  generalize hT : 3 + N = T at *
  generalize hAt : 3 + I = At at *
  have HAt := Lib.hid hAt
  clear hT hAt
  go_enter Try.func12, Try.ntmps12
  go_wp2_with fail
  refine (grantsAwake _).mono ?_
  rintro e w1 ⟨rfl, hB⟩
  have HB := Lib.hid hB
  clear hB
  go_wp2_with fail
  refine (HNew.out _).mono ?_
  rintro e w2 ⟨m, g, rfl, hM, hB, hm, hg⟩
  have HG : Hid (w.heap.size ≤ g) := Lib.hid (Nat.le_trans HB.out.size hg)
  have HM := Lib.hid hM
  have HB2 := Lib.hid (HB.out.trans (hB.mono HB.out.size))
  clear hM hB HB hm hg HNew
  go_wp2_with fail
  go_loopw [8] (fun i wx => ∃ k : Nat, k ≤ 20 ∧ i = .int .i64 k ∧ TwoWays w m g 3 N wx) (fun i _ => 20 - (intOf i).toNat)
  case atStart => exact ⟨0, by omega, rfl, _, HM.out, fun _ _ => Or.inl rfl, HB2.out⟩
  case round =>
    obtain ⟨k, hk, rfl, S, hM, hS, hB⟩ := hrel
    have HS := Lib.hid hS
    have HMr := Lib.hid hM
    have HBr := Lib.hid hB
    clear hS hM hB HM HB2
    by_cases hend : k < l ∧ k < 20
    · have j1 : (k : Int) < (l : Int) := by omega
      have j2 : (k : Int) < 20 := by omega
      have j3 : (0 : Int) ≤ (k : Int) := by omega
      rcases (HA.out.below HBr.out) with hz | ⟨b, off, rfl, hr⟩
      · omega
      have hcell := hr k hend.1
      obtain ⟨x, hx, hx2⟩ := mask255 (es k)
      obtain ⟨y, hy⟩ : ∃ y, x % N = y := ⟨_, rfl⟩
      have hy2 : y < N := by rw [← hy]; exact Nat.mod_lt _ (by omega)
      have t7 : ((x : Int).tmod (N : Int)) = (y : Int) := by rw [Int.tmod_eq_emod_of_nonneg (by omega), ← hy]; omega
      have t8 : IntKind.i64.wrap (3 + (y : Int)) = ((3 + y : Nat) : Int) := by rw [IntWalk.i64_in _ (by omega)]; omega
      have HH := Lib.hid (hold_any m g 3 N S y wr HMr.out (by decide) (by omega) hy2)
      clear hr hy
      generalize 3 + y = Y at *
      go_wp2_with fail
      refine HH.out.mono ?_
      rintro e w3 ⟨r, rfl, hT⟩
      have HT := Lib.hid (TwoWays.hold HS.out HBr.out HG.out hy2 hT)
      clear hT HH
      go_wp2_with fail
      go_roundw
      case rel =>
        obtain ⟨T', h1, h2, _, h4⟩ := HT.out
        exact ⟨k + 1, by omega, by go_num, T', h1, h2, h4⟩
      case measure => simp [intOf]; omega
    · have HE : Hid (¬ ((k : Int) < (l : Int)) ∨ ((k : Int) < (l : Int) ∧ ¬ (k : Int) < 20)) := Lib.hid (by omega)
      have HH := Lib.hid fun wx (h : MapAt m g 3 N S wx) => hold_any m g 3 N S I wx h (by decide) (by omega) hI2
      rw [HAt.out] at HH
      clear hend
      rcases HE.out with j1 | ⟨j1, j2⟩
      all_goals
        go_wp2_with fail
        refine (HH.out _ HMr.out).mono ?_
        rintro e w3 ⟨r, rfl, hT⟩
        obtain ⟨S1, hM1, hS1, hI1, hB1⟩ := TwoWays.hold HS.out HBr.out HG.out hI2 hT
        have HM1 := Lib.hid hM1
        have HS1 := Lib.hid hS1
        have HI1 := Lib.hid hI1
        have HB1 := Lib.hid hB1
        clear hT hM1 hS1 hI1 hB1 HH HMr HBr HS
        obtain ⟨f1, f2, f3, f4, f5⟩ := turns_cnt S1 I N hI2 HI1.out HS1.out
        have F5 := Lib.hid f5
        have F1 : Hid (cnt (upd S1 I 2) 0 N = cnt S1 0 N) := Lib.hid f1
        have F2 := Lib.hid f2
        have F3 := Lib.hid f3
        have F4 := Lib.hid f4
        have HBd := Lib.hid (cnt_le S1 0 N)
        clear f1 f2 f3 f4 f5
        go_wp2_with fail
        refine (all_len m g 3 N S1 w3 HM1.out (by decide) (by omega)).mono ?_
        rintro e w4 ⟨⟨qa, qc, rfl⟩, hb⟩
        have HM4 := Lib.hid (HM1.out.below hb)
        have HB4 := Lib.hid (HB1.out.trans (hb.mono HB1.out.size))
        clear hb HM1 HB1
        generalize hA0 : cnt S1 1 N = A0 at *
        have HA0 := Lib.hid hA0
        clear hA0
        go_wp2_with fail
        refine (free_any m g 3 N S1 w4 HM4.out (by omega)).mono ?_
        rintro e w5 ⟨rfl, rfl⟩
        generalize hF0 : cnt S1 0 N = F0 at *
        have HF0 := Lib.hid hF0
        clear hF0
        have hF0le : F0 ≤ N := HBd.out
        have HLt := Lib.hid (later_any m g 3 N S1 I w4 HM4.out (by decide) (by omega) hI2)
        rw [HAt.out] at HLt
        go_wp2_with fail
        refine HLt.out.mono ?_
        rintro e w5 ⟨r, rfl, hT⟩
        obtain ⟨rfl, hM5⟩ := hT.1.1 HI1.out
        have HB5 := Lib.hid (hT.2.below HB4.out HB4.out.size (fun k e => by have := HG.out; omega))
        have HM5 := Lib.hid hM5
        clear hT hM5 HM4 HB4 HLt
        have HIs := Lib.hid (is_any m g 3 N _ I w5 HM5.out (by decide) (by omega) hI2)
        rw [HAt.out, upd_same] at HIs
        go_wp2_with fail
        refine HIs.out.mono ?_
        rintro e w6 ⟨rfl, rfl⟩
        clear HIs
        have HFr := Lib.hid (free_any m g 3 N _ w5.drew HM5.out.drew (by omega))
        rw [F1.out] at HFr
        go_wp2_with fail
        refine HFr.out.mono ?_
        rintro e w6 ⟨rfl, rfl⟩
        clear HFr
        have HLa := Lib.hid (late_any m g 3 N _ w5.drew HM5.out.drew (by omega))
        rw [F2.out] at HLa
        go_wp2_with fail
        refine HLa.out.mono ?_
        rintro e w6 ⟨rfl, rfl⟩
        clear HLa
        have HBk := Lib.hid (back_any m g 3 N _ I w5.drew HM5.out.drew (by decide) (by omega) hI2)
        rw [HAt.out] at HBk
        go_wp2_with fail
        refine HBk.out.mono ?_
        rintro e w6 ⟨r2, rfl, hT⟩
        obtain ⟨rfl, hM6⟩ := hT.1.1 (upd_same _ _ _)
        have HB6 := Lib.hid (hT.2.below HB5.out.drew HB5.out.size (fun k e => by have := HG.out; omega))
        have HM6 := Lib.hid hM6
        clear hT hM6 HM5 HB5 HBk
        have HIs := Lib.hid (is_any m g 3 N _ I w6 HM6.out (by decide) (by omega) hI2)
        rw [HAt.out, upd_same] at HIs
        go_wp2_with fail
        refine HIs.out.mono ?_
        rintro e w7 ⟨rfl, rfl⟩
        clear HIs
        have HLa := Lib.hid (late_any m g 3 N _ w6.drew HM6.out.drew (by omega))
        rw [F3.out] at HLa
        go_wp2_with fail
        refine HLa.out.mono ?_
        rintro e w7 ⟨rfl, rfl⟩
        clear HLa
        have HGv := Lib.hid (give_any m g 3 N _ I w6.drew HM6.out.drew (by decide) (by omega) hI2)
        rw [HAt.out] at HGv
        go_wp2_with fail
        refine HGv.out.mono ?_
        rintro e w7 ⟨r3, rfl, hT⟩
        obtain ⟨rfl, hM7⟩ := hT.1.1 (upd_same _ _ _)
        have HB7 := Lib.hid (hT.2.below HB6.out.drew HB6.out.size (fun k e => by have := HG.out; omega))
        have HM7 := Lib.hid hM7
        clear hT hM7 HM6 HB6 HGv
        have HFr := Lib.hid (free_any m g 3 N _ w7 HM7.out (by omega))
        rw [F4.out] at HFr
        have t9 : IntKind.i64.wrap ((F0 : Int) + 1) = ((F0 + 1 : Nat) : Int) := by rw [IntWalk.i64_in _ (by omega)]; omega
        generalize F0 + 1 = F1' at *
        go_wp2_with fail
        refine HFr.out.mono ?_
        rintro e w8 ⟨rfl, rfl⟩
        clear HFr
        go_wp2_with fail
        refine (take_any m g 3 N _ w7 HM7.out (by decide) (by omega)).mono ?_
        rintro e w8 ⟨v, rfl, ht⟩
        cases ht with
        | none _ hno _ _ => exact absurd (upd_same _ _ _) (hno I hI2)
        | one j _ hj h0 hno hM hG =>
          obtain ⟨g1, g2⟩ := F5.out j hj h0
          have hjI : j ≤ I := by
            rcases Nat.lt_or_ge I j with h | h
            · exact absurd (upd_same _ _ _) (hno I h)
            · exact h
          have hle : ((3 + j : Nat) : Int) ≤ (At : Int) := by have := HAt.out; omega
          have HM8 := Lib.hid hM
          have HB8 := Lib.hid (hG.below HB7.out HB7.out.size (fun k e => by have := HG.out; omega))
          have HAl := Lib.hid (all_len m g 3 N _ w8 hM (by decide) (by omega))
          rw [g1] at HAl
          have G2 := Lib.hid g2
          clear hM hG HM7 HB7 g1 g2 hno h0
          generalize 3 + j = J at *
          go_wp2_with fail
          refine HAl.out.mono ?_
          rintro e w9 ⟨⟨qa2, qc2, rfl⟩, hb⟩
          have HM9 := Lib.hid (HM8.out.below hb)
          have HB9 := Lib.hid (HB8.out.trans (hb.mono HB8.out.size))
          clear hb HM8 HB8 HAl
          have HFr := Lib.hid (free_any m g 3 N _ w9 HM9.out (by omega))
          rw [G2.out] at HFr
          go_wp2_with fail
          refine HFr.out.mono ?_
          rintro e w10 ⟨rfl, rfl⟩
          go_wp2_with fail
          go_ret
          exact ⟨rfl, HB9.out⟩
end Go.Proofs.Ytdojmlfpckgdoaa
