/-
  The laws' Data of any text: some 256 bytes.
-/
import Derived.Test.YtbohpffigmllkaaGreatDoorShelfRepeat
import Derived.Test.YtbohpffigmllkaaGreatDoorCut
import Derived.Test.YtbohpffigmllkaaGreatDoorPackRefNum
namespace Go.Proofs.YtbohpffigmllkaaGreatDoor
open Go.RowKit

theorem rep_any (s : ByteArray) (c : Nat) (w : World) (h : s.size * c ≤ 1000000) (hc : c ≤ 1000000) :
    Calls Tryz.prog 50 #[.string s, .int .i64 (c : Int)] w fun e w' => ∃ D : ByteArray, D.size = s.size * c ∧ e = .returned (.string D) ∧ Below w.heap.size w w' := by
  refine (libRepeat s c w (by omega) (by omega)).mono ?_
  rintro e w' ⟨rfl, hb⟩
  refine ⟨_, ?_, rfl, hb⟩
  show (Lib.repeatL s.data.toList c).length = _
  rw [Lib.repeatL_length, Nat.mul_comm]
  simp
theorem and_u8 (b : UInt8) : ∃ c : UInt8, bits .and .u8 (b.toNat : Int) 3 = (c.toNat : Int) := by
  have h : ∃ n : Nat, bits .and .u8 (b.toNat : Int) 3 = (n : Int) ∧ n < 256 := by
    refine ⟨(BitVec.ofInt 8 (b.toNat : Int) &&& BitVec.ofInt 8 3).toNat, ?_, (BitVec.ofInt 8 (b.toNat : Int) &&& BitVec.ofInt 8 3).isLt⟩
    show IntKind.u8.wrap ((BitVec.ofInt 8 (b.toNat : Int) &&& BitVec.ofInt 8 3).toNat : Int) = _
    have hl := (BitVec.ofInt 8 (b.toNat : Int) &&& BitVec.ofInt 8 3).isLt
    generalize (BitVec.ofInt 8 (b.toNat : Int) &&& BitVec.ofInt 8 3).toNat = y at *
    simp only [IntKind.wrap, IntKind.bits, IntKind.signed]
    simp
    omega
  obtain ⟨n, h1, h2⟩ := h
  exact ⟨UInt8.ofNat n, by rw [h1, UInt8.toNat_ofNat', Nat.mod_eq_of_lt (by omega)]⟩
set_option maxRecDepth 100000 in
set_option maxHeartbeats 2000000 in
theorem data_any (s : ByteArray) (how : Int) (w : World) (hs : s.size ≤ maxLen) :
    Calls Tryz.prog 11 #[.string s, .int .i64 how] w fun e w' => ∃ D : ByteArray, D.size = 256 ∧ e = .returned (.string D) ∧ Below w.heap.size w w' := by
  obtain ⟨t, ht, hcut⟩ := cut_law s 256 hs (by decide)
  have HCu := Lib.hid hcut
  have HTs := Lib.hid ht
  obtain ⟨A, hA⟩ : ∃ A, bits .and .i64 how 1 = A := ⟨_, rfl⟩
  clear hcut
  by_cases hc : A = 0 ∧ 0 < t.size
  · obtain ⟨h1, h2⟩ := hc
    subst h1
    have d0 : decide (0 < t.size) = true := decide_eq_true h2
    have d0' : decide ((0 : Int) < (t.size : Int)) = true := decide_eq_true (by omega)
    have H2 := Lib.hid h2
    clear h2 ht
    go_enter Tryz.func11, Tryz.ntmps11
    go_wp2_with fail
    refine (HCu.out _).mono ?_
    rintro e w1 ⟨rfl, rfl⟩
    go_wp2_with fail
    go_loopw [5, 18] (fun x i wx => ∃ (k : Nat) (T : ByteArray), k ≤ 4 ∧ i = .int .i64 (k : Int) ∧ x = .string T ∧ T.size = 64 * k ∧ Below w.heap.size w wx) (fun _ i _ => 4 - (intOf i).toNat)
    case atStart => exact ⟨0, ⟨#[]⟩, by omega, rfl, rfl, rfl, Below.refl _ _⟩
    case round =>
      obtain ⟨k, T, hk, rfl, rfl, hT, hb⟩ := hrel
      have HT := Lib.hid hT
      have HB := Lib.hid hb
      by_cases hlt : k < 4
      · have i1 : (k : Int) < 4 := by omega
        obtain ⟨j, hj⟩ : ∃ j, k % t.size = j := ⟨_, rfl⟩
        have hjl : j < t.size := by rw [← hj]; exact Nat.mod_lt _ H2.out
        have m1 : (k : Int).tmod (t.size : Int) = (j : Int) := by rw [Int.tmod_eq_emod_of_nonneg (by omega), ← hj]; exact (Int.natCast_emod k t.size).symm
        have h2 := H2.out
        have m2 : wrap64 ((k : Int).tmod (t.size : Int)) = (j : Int) := by rw [m1]; have := HTs.out; unfold wrap64; omega
        have m3 : (t.size : Int) ≠ 0 := by omega
        have hjI : (j : Int) < (t.size : Int) := by omega
        obtain ⟨c, hc⟩ := and_u8 t[j]
        have HOne := Lib.hid (one_byte wr c)
        have HR := Lib.hid (rep_any ⟨#[c]⟩ 64 (wr.alloc (.cells #[.int .u8 (c.toNat : Int)] 5)) (by show 1 * 64 ≤ 1000000; decide) (by decide))
        have hone := one_byte wr c
        have HBa : Hid (Below w.heap.size w (wr.alloc (.cells #[.int .u8 (c.toNat : Int)] 5))) := Lib.hid (hb.alloc hb.size _)
        clear hj hT hb h2
        go_wp2_with fail
        refine HR.out.mono ?_
        rintro e w2 ⟨D, hD, rfl, hb2⟩
        have hD : D.size = 64 := hD
        have HB2 := Lib.hid (HBa.out.trans (hb2.mono HBa.out.size))
        have HD := Lib.hid hD
        have hadd : ∀ wx : World, (Op.stringOp .add T D).run Tryz.prog wx = .ok (.string (T ++ D)) wx := fun wx => run_string_add_sum wx T D (by have := HT.out; omega)
        clear hD hb2
        go_wp2_with fail
        go_roundw
        case rel => exact ⟨k + 1, T ++ D, by omega, by go_num, rfl, by have := HT.out; have := HD.out; rw [ByteArray.size_append]; omega, HB2.out⟩
        case measure => simp [intOf]; omega
      · obtain rfl : k = 4 := by omega
        have i1 : ¬ ((4 : Nat) : Int) < 4 := by omega
        clear hT hb
        go_wp2_with fail
        go_ret
        exact ⟨T, by have := HT.out; omega, rfl, HB.out⟩
  · obtain ⟨m, hm⟩ : ∃ m : Nat, 256 - t.size = m := ⟨_, rfl⟩
    have m1 : IntKind.i64.wrap (256 - (t.size : Int)) = (m : Int) := by rw [IntWalk.i64_in _ (by omega)]; omega
    have m1' : wrap64 (256 - (t.size : Int)) = (m : Int) := by unfold wrap64; omega
    have HR := Lib.hid (rep_any ⟨#[0]⟩ m w (by show 1 * m ≤ 1000000; omega) (by omega))
    have HM := Lib.hid hm
    have hcc : A = 0 → ¬ (0 : Int) < (t.size : Int) := fun h q => hc ⟨h, by omega⟩
    clear hm ht hc
    by_cases h1 : A = 0
    · have i0 := hcc h1
      have e0 : (A == 0) = true := by simpa using h1
      have d0' : decide ((0 : Int) < (t.size : Int)) = false := decide_eq_false i0
      have d0 : decide (0 < t.size) = false := decide_eq_false (by omega)
      clear h1 hcc i0
      go_enter Tryz.func11, Tryz.ntmps11
      go_wp2_with fail
      refine (HCu.out _).mono ?_
      rintro e w1 ⟨rfl, rfl⟩
      go_wp2_with fail
      refine HR.out.mono ?_
      rintro e w2 ⟨D, hD, rfl, hb2⟩
      have hD : D.size = 1 * m := hD
      have hadd : ∀ wx : World, (Op.stringOp .add t D).run Tryz.prog wx = .ok (.string (t ++ D)) wx := fun wx => run_string_add_sum wx t D (by have := HTs.out; have := HM.out; omega)
      have HD := Lib.hid hD
      have HB2 := Lib.hid hb2
      clear hD hb2
      go_wp2_with fail
      go_ret
      exact ⟨t ++ D, by have := HTs.out; have := HM.out; have := HD.out; rw [ByteArray.size_append]; omega, rfl, HB2.out⟩
    · have e0 : (A == 0) = false := by simpa using h1
      clear h1 hcc
      go_enter Tryz.func11, Tryz.ntmps11
      go_wp2_with fail
      refine (HCu.out _).mono ?_
      rintro e w1 ⟨rfl, rfl⟩
      go_wp2_with fail
      refine HR.out.mono ?_
      rintro e w2 ⟨D, hD, rfl, hb2⟩
      have hD : D.size = 1 * m := hD
      have hadd : ∀ wx : World, (Op.stringOp .add t D).run Tryz.prog wx = .ok (.string (t ++ D)) wx := fun wx => run_string_add_sum wx t D (by have := HTs.out; have := HM.out; omega)
      have HD := Lib.hid hD
      have HB2 := Lib.hid hb2
      clear hD hb2
      go_wp2_with fail
      go_ret
      exact ⟨t ++ D, by have := HTs.out; have := HM.out; have := HD.out; rw [ByteArray.size_append]; omega, rfl, HB2.out⟩
end Go.Proofs.YtbohpffigmllkaaGreatDoor
