/-
  StampTorn: for every stamp, text, older sector and number of bytes the law answers true.
-/
import Derived.Test.YtdojmlfpckgdoaaStampTornMath
import Derived.Test.YtdojmlfpckgdoaaCut
import Derived.Deep.DeepCutAuto
import Derived.Deep.LoopGhost
namespace Go.Proofs.Ytdojmlfpckgdoaa
open Go.RowKit

set_option maxHeartbeats 4000000 in
theorem stampTorn_walk (a b : Nat) (s o : ByteArray) (n : Int) (ha : a < 4294967296) (hb : b < 4294967296) (w : World) (t t2 : ByteArray) (ht : t.size ≤ 47) (ht2 : t2.size ≤ 64) (hcut : ∀ w : World, Calls Try.prog 24 #[.string s, .int .i64 47] w fun e w' => e = .returned (.string t) ∧ w = w')
    (hcut2 : ∀ w : World, Calls Try.prog 24 #[.string o, .int .i64 64] w fun e w' => e = .returned (.string t2) ∧ w = w') :
    Calls Try.prog 9 #[.int .u32 a, .int .u32 b, .string s, .string o, .int .i64 n] w fun e w' => e = .returned (.bool true) ∧ Below w.heap.size w w' := by
  have HC := Lib.hid hcut
  have HC2 := Lib.hid hcut2
  clear hcut hcut2
  have HF : Hid (∀ wx : World, Calls Try.prog 30 #[.agg #[.int .u32 a, .int .u32 b], .string t] wx fun e w' => e = .returned (.tuple #[.string (mkFrame a b t), .int .i64 0]) ∧ Below wx.heap.size wx w') := Lib.hid fun wx => by
    have h := lawFrame_any a b t wx ha hb
    have e1 : frameRes a b t = mkFrame a b t := by unfold frameRes; rw [if_pos ht]; rfl
    have e2 : (frameErr t).getD 0 = 0 := by unfold frameErr; rw [if_pos ht]; rfl
    rw [e1, e2] at h
    exact h
  have HT := Lib.hid fun (O : ByteArray) (m : Nat) (hO : O.size = 64) (hm : m ≤ 64) (he : ¬ O.extract 56 64 = (mkFrame a b t).extract 56 64) (wx : World) => torn_open a b t O m ha hb ht hO hm he wx
  have zF := mkFrame_size a b t ht
  generalize mkFrame a b t = F at *
  go_enter Try.func9, Try.ntmps9
  go_wp2_with fail
  refine (HC.out _).mono ?_
  rintro e w' ⟨rfl, rfl⟩
  go_wp2_with fail
  refine (HC2.out _).mono ?_
  rintro e w' ⟨rfl, rfl⟩
  clear HC HC2
  go_wp2_with fail
  go_loopw [3] (fun s3 wx => ∃ k : Nat, t2.size + k ≤ 64 ∧ s3 = .string (tail0 t2 k) ∧ wx = w) (fun s3 _ => 64 - lenOf s3)
  case atStart => exact ⟨0, by omega, by rw [tail0_zero], rfl⟩
  case round =>
    obtain ⟨k, hk, rfl, rfl⟩ := hrel
    have HT2 := Lib.hid (tail0_succ t2 k)
    have hz := tail0_size t2 k
    generalize hP : tail0 t2 k = P at *
    have HP := Lib.hid hP
    have HZ := Lib.hid hz
    clear hP
    by_cases hlt : t2.size + k < 64
    · have hi : (P.size : Int) < 64 := by omega
      have hc : ∀ wx : World, (Op.stringOp .add P ⟨#[0]⟩).run Try.prog wx = .ok (.string (P ++ ⟨#[0]⟩)) wx := fun wx => run_string_add_sum wx P _ (by show P.size + 1 ≤ _; omega)
      clear hz
      go_wp2_with fail
      go_roundw
      case rel => exact ⟨k + 1, by omega, by rw [HT2.out], trivial⟩
      case measure =>
        show 64 - (P ++ (⟨#[0]⟩ : ByteArray)).size < 64 - P.size
        rw [ByteArray.size_append]
        show 64 - (P.size + 1) < _
        have := HZ.out
        omega
    · have hi : (P.size : Int) = 64 := by omega
      have zP : P.size = 64 := by omega
      clear hz
      have iF : (F.size : Int) = 64 := by omega
      by_cases he : P.extract 56 64 = F.extract 56 64
      · have hee : ((P.extract 56 64).toList == (F.extract 56 64).toList) = true := by rw [he]; simp
        clear HT
        go_wp2_with fail
        refine (HF.out _).mono ?_
        rintro e w1 ⟨rfl, hb1⟩
        have HB1 := Lib.hid hb1
        clear hb1
        go_wp2_with fail
        refine (stampAwake _).mono ?_
        rintro e w2 ⟨rfl, hb2⟩
        have HB2 := Lib.hid (HB1.out.trans (hb2.mono HB1.out.size))
        clear hb2
        go_wp2_with fail
        go_region
        go_wp2_with fail
        go_ret
        exact ⟨rfl, HB2.out.drew⟩
      · have hee := toList_ne he
        obtain ⟨m, hm, hcase⟩ : ∃ m : Nat, m ≤ 64 ∧ ((n < 0 ∧ m = 0) ∨ (64 < n ∧ m = 64) ∨ (¬ n < 0 ∧ ¬ 64 < n ∧ n = m)) := by
          by_cases h1 : n < 0
          · exact ⟨0, by omega, Or.inl ⟨h1, rfl⟩⟩
          · by_cases h2 : 64 < n
            · exact ⟨64, by omega, Or.inr (Or.inl ⟨h2, rfl⟩)⟩
            · exact ⟨n.toNat, by omega, Or.inr (Or.inr ⟨h1, h2, by omega⟩)⟩
        have HO := Lib.hid (HT.out P m zP hm he)
        have hc : ∀ wx : World, (Op.stringOp .add (F.extract 0 m) (P.extract m 64)).run Try.prog wx = .ok (.string (tornOf F P m)) wx := fun wx => run_string_add_sum wx _ _ (by rw [ByteArray.size_extract, ByteArray.size_extract]; omega)
        have hm1 : (0 : Int) ≤ (m : Int) := by omega
        have hm2 : (m : Int) ≤ 64 := by omega
        have H0 : Hid (m = 0 → tornOf F P m = P.extract 0 64) := Lib.hid fun e => by
          subst e
          apply ByteArray.ext
          simp [tornOf]
        have H64 : Hid (m = 64 → tornOf F P m = F.extract 0 64) := Lib.hid fun e => by
          subst e
          apply ByteArray.ext
          simp [tornOf]
        generalize tornOf F P m = T at *
        clear HT
        go_wp2_with fail
        refine (HF.out _).mono ?_
        rintro e w1 ⟨rfl, hb1⟩
        have HB1 := Lib.hid hb1
        clear hb1
        go_wp2_with fail
        refine (stampAwake _).mono ?_
        rintro e w2 ⟨rfl, hb2⟩
        have HB2 := Lib.hid (HB1.out.trans (hb2.mono HB1.out.size))
        clear hb2
        go_wp2_with fail
        go_region
        rcases hcase with ⟨h1, rfl⟩ | ⟨h1, rfl⟩ | ⟨h1, h2, rfl⟩
        all_goals
          go_wp2_with fail
          go_region
          clear hc
          go_wp2_with fail
          (try rw [← H0.out trivial])
          (try rw [← H64.out trivial])
          with_reducible refine (HO.out _).mono ?_
          rintro e w3 ⟨⟨hy, hn⟩, hb3⟩
          have HB3 := Lib.hid (HB2.out.drew.drew.trans (hb3.mono HB2.out.size))
          clear hb3
          by_cases hT : T = F
          · obtain rfl := hy hT
            subst hT
            clear hy hn
            go_wp2_with fail
            go_ret
            exact ⟨rfl, HB3.out⟩
          · obtain rfl := hn hT
            have hTF := toList_ne hT
            clear hy hn
            go_wp2_with fail
            go_ret
            exact ⟨rfl, HB3.out⟩
end Go.Proofs.Ytdojmlfpckgdoaa
