/-
  The document's Bytes of a super, and its number: contracts.
-/
import Derived.Test.YtmpegfmhnciemaaSuperMath
import Derived.Deep.RegionHeld3
import Derived.LoopTactic
namespace Go.Proofs.Ytmpegfmhnciemaa
open Go.RowKit

theorem num_take_succ (l : List UInt8) (k : Nat) (h : k < l.length) : num (l.take (k + 1)) = num (l.take k) * 256 + (l[k]'h).toNat := by
  rw [List.take_succ_eq_append_getElem h, num_snoc]
theorem num_small (l : List UInt8) (k : Nat) (h : k ≤ 6) : num (l.take k) < 281474976710656 := by
  have h1 := num_lt (l.take k)
  have h2 : (l.take k).length ≤ 6 := by rw [List.length_take]; omega
  have h3 : 256 ^ (l.take k).length ≤ 256 ^ 6 := Nat.pow_le_pow_right (by decide) h2
  omega
set_option maxHeartbeats 400000 in
theorem number_any (s : ByteArray) (hs : s.size ≤ 6) (w : World) : Calls Try.prog 62 #[.string s] w fun e w' => e = .returned (.int .i64 (num s.data.toList : Nat)) ∧ w = w' := by
  have HLn : Hid (s.data.toList.length = s.size) := Lib.hid (by simp)
  go_enter Try.func62, Try.ntmps62
  go_wp2_with fail
  go_loop [3, 4] (fun n i => ∃ k : Nat, k ≤ s.size ∧ i = .int .i64 k ∧ n = .int .i64 (num (s.data.toList.take k) : Nat)) (fun _ i => s.size - (intOf i).toNat)
  case atStart => exact ⟨0, Nat.zero_le _, rfl, rfl⟩
  case round =>
    obtain ⟨k, hk, rfl, rfl⟩ := hrel
    have hX := num_small s.data.toList k (by omega)
    by_cases hlt : k < s.size
    · have HS := Lib.hid (num_take_succ s.data.toList k (by rw [HLn.out]; exact hlt))
      have hb := (s[k]'hlt).toNat_lt
      have HE : Hid ((s.data.toList[k]'(by rw [HLn.out]; exact hlt)) = s[k]'hlt) := Lib.hid rfl
      rw [HE.out] at HS
      clear HE
      obtain ⟨X, hXX⟩ : ∃ X, num (s.data.toList.take k) = X := ⟨_, rfl⟩
      rw [hXX] at hX HS ⊢
      clear hXX
      go_wp2
      go_round
      case rel => exact ⟨k + 1, by omega, by go_num, by rw [HS.out]; go_num⟩
      case measure => simp [intOf]; omega
    · obtain rfl : k = s.size := by omega
      go_wp2
      go_ret
      exact ⟨by show Ending.returned (.int .i64 ((num (List.take s.size s.data.toList) : Nat) : Int)) = _; rw [List.take_of_length_le (by rw [HLn.out]; exact Nat.le_refl _)], rfl⟩
theorem refFive {w : World} {s : Sup} {x : Nat} (h : w.heap[x]? = some (.cells s.refCells 47)) : (w.cell? ⟨x, 0, none⟩ = some (.int .i64 s.ep) ∧ w.cell? ⟨x, 1, none⟩ = some (.int .i64 s.j) ∧ w.cell? ⟨x, 2, none⟩ = some (.int .i64 s.b) ∧ w.cell? ⟨x, 3, none⟩ = some (.int .i64 s.h) ∧ w.cell? ⟨x, 4, none⟩ = some (.int .i64 s.nx)) := fiveAt h
set_option maxRecDepth 10000 in
set_option maxHeartbeats 2000000 in
theorem refSupBytes_any (s : Sup) (hs : s.fits) (w : World) : Calls Try.prog 28 #[.agg s.refCells] w fun e w' => e = .returned (.string s.frame) ∧ Below w.heap.size w w' := by
  have u1 := u32_as_u64 s.j (Nat.lt_trans hs.j (by decide))
  have u2 := u32_as_u64 s.b (Nat.lt_trans hs.b (by decide))
  have u3 := u32_as_u64 s.h (Nat.lt_trans hs.h (by decide))
  have u4 := u32_as_u64 s.nx hs.nx
  have u5 := wrap_u32 s.ep hs.ep
  have HN : Hid (∀ (a : Nat) (n : Int) wx, a < 18446744073709551616 → Calls Try.prog 54 #[.int .u64 a, .int .i64 n] wx fun e w' => e = .returned (.string ⟨(enc a (wid n)).toArray⟩) ∧ Below wx.heap.size wx w') := Lib.hid fun a n wx ha => refNum_any a n wx ha
  have HJ := Lib.hid fun wx => HN.out s.j 2 wx (Nat.lt_trans hs.j (by decide))
  have HB := Lib.hid fun wx => HN.out s.b 2 wx (Nat.lt_trans hs.b (by decide))
  have HH := Lib.hid fun wx => HN.out s.h 2 wx (Nat.lt_trans hs.h (by decide))
  have HX := Lib.hid fun wx => HN.out s.nx 4 wx (Nat.lt_trans hs.nx (by decide))
  rw [wid2] at HJ HB HH
  rw [wid4] at HX
  have z1 : (⟨(enc s.j 2).toArray⟩ : ByteArray).size = 2 := enc_len _ _
  have z2 : (⟨(enc s.b 2).toArray⟩ : ByteArray).size = 2 := enc_len _ _
  have z3 : (⟨(enc s.h 2).toArray⟩ : ByteArray).size = 2 := enc_len _ _
  have z4 : (⟨(enc s.nx 4).toArray⟩ : ByteArray).size = 4 := enc_len _ _
  have HT : Hid ((⟨#[83, 66, 65, 84]⟩ : ByteArray) ++ ⟨(enc s.j 2).toArray⟩ ++ ⟨(enc s.b 2).toArray⟩ ++ ⟨(enc s.h 2).toArray⟩ ++ ⟨(enc s.nx 4).toArray⟩ = ⟨s.text.toArray⟩) := Lib.hid (by
    apply ByteArray.ext
    apply Array.toList_inj.mp
    simp [ByteArray.data_append, Sup.text])
  have HFr : Hid (∀ wx, Calls Try.prog 55 #[.int .u32 s.ep, .int .u32 0, .string ⟨s.text.toArray⟩] wx fun e w' => e = .returned (.string s.frame) ∧ Below wx.heap.size wx w') := Lib.hid fun wx => refFrame_any s.ep 0 ⟨s.text.toArray⟩ wx hs.ep (by decide) (by rw [s.text_size]; decide)
  generalize s.frame = FR at *
  generalize (⟨s.text.toArray⟩ : ByteArray) = TX at *
  generalize (⟨(enc s.j 2).toArray⟩ : ByteArray) = EJ at *
  generalize (⟨(enc s.b 2).toArray⟩ : ByteArray) = EB at *
  generalize (⟨(enc s.h 2).toArray⟩ : ByteArray) = EH at *
  generalize (⟨(enc s.nx 4).toArray⟩ : ByteArray) = EX at *
  have q0 : (⟨#[83, 66, 65, 84]⟩ : ByteArray).size = 4 := rfl
  have c1 : ∀ wx : World, (Op.stringOp .add ⟨#[83, 66, 65, 84]⟩ EJ).run Try.prog wx = .ok (.string (⟨#[83, 66, 65, 84]⟩ ++ EJ)) wx := fun wx => run_string_add_sum wx _ _ (by omega)
  obtain ⟨T1, hT1⟩ : ∃ T1, (⟨#[83, 66, 65, 84]⟩ : ByteArray) ++ EJ = T1 := ⟨_, rfl⟩
  have q1 : T1.size = 6 := by rw [← hT1, ByteArray.size_append]; omega
  rw [hT1] at c1 HT
  have c2 : ∀ wx : World, (Op.stringOp .add T1 EB).run Try.prog wx = .ok (.string (T1 ++ EB)) wx := fun wx => run_string_add_sum wx _ _ (by omega)
  obtain ⟨T2, hT2⟩ : ∃ T2, T1 ++ EB = T2 := ⟨_, rfl⟩
  have q2 : T2.size = 8 := by rw [← hT2, ByteArray.size_append]; omega
  rw [hT2] at c2 HT
  have c3 : ∀ wx : World, (Op.stringOp .add T2 EH).run Try.prog wx = .ok (.string (T2 ++ EH)) wx := fun wx => run_string_add_sum wx _ _ (by omega)
  obtain ⟨T3, hT3⟩ : ∃ T3, T2 ++ EH = T3 := ⟨_, rfl⟩
  have q3 : T3.size = 10 := by rw [← hT3, ByteArray.size_append]; omega
  rw [hT3] at c3 HT
  have c4 : ∀ wx : World, (Op.stringOp .add T3 EX).run Try.prog wx = .ok (.string TX) wx := fun wx => by
    rw [← HT.out]
    exact run_string_add_sum wx _ _ (by omega)
  clear hT1 hT2 hT3 HT q0 q1 q2 q3 z1 z2 z3 z4 HN hs
  have hblk := heap_alloc_new w (.cells s.refCells 47)
  have hlt0 : w.heap.size < (w.alloc (.cells s.refCells 47)).drew.heap.size := by show w.heap.size < (w.alloc _).heap.size; simp
  have HB0 : Hid (Below w.heap.size w (w.alloc (.cells s.refCells 47)).drew) := Lib.hid ((Below.refl _ _).alloc (Nat.le_refl _) _).drew
  obtain ⟨ep, j, b, h, nx⟩ := s
  obtain ⟨l0, l1, l2, l3, l4⟩ := refFive hblk
  dsimp only [Sup.refCells] at *
  go_enter Try.func28, Try.ntmps28
  go_wp2_with fail
  generalize hW : w.alloc (.cells #[.int .i64 (ep : Int), .int .i64 (j : Int), .int .i64 (b : Int), .int .i64 (h : Int), .int .i64 (nx : Int)] 47) = W at *
  clear hW
  have HKb : Hid (∀ wx, Below W.drew.heap.size W.drew wx → wx.cell? ⟨w.heap.size, 0, none⟩ = some (.int .i64 ep) ∧ wx.cell? ⟨w.heap.size, 1, none⟩ = some (.int .i64 j) ∧ wx.cell? ⟨w.heap.size, 2, none⟩ = some (.int .i64 b) ∧ wx.cell? ⟨w.heap.size, 3, none⟩ = some (.int .i64 h) ∧ wx.cell? ⟨w.heap.size, 4, none⟩ = some (.int .i64 nx)) := Lib.hid fun wx hb => by
    refine fiveAt (t := 47) ?_
    rw [hb.block w.heap.size hlt0]
    exact hblk
  have HKr := Lib.hid (Below.refl W.drew.heap.size W.drew)
  go_region_held3 (fun wx => wx.cell? ⟨w.heap.size, 0, none⟩ = some (.int .i64 ep) ∧ wx.cell? ⟨w.heap.size, 1, none⟩ = some (.int .i64 j) ∧ wx.cell? ⟨w.heap.size, 2, none⟩ = some (.int .i64 b) ∧ wx.cell? ⟨w.heap.size, 3, none⟩ = some (.int .i64 h) ∧ wx.cell? ⟨w.heap.size, 4, none⟩ = some (.int .i64 nx))
    (first | exact ⟨l0, l1, l2, l3, l4⟩ | exact HKb.out _ HKr.out | exact HKb.out _ HG1.out | exact HKb.out _ HG2.out | exact HKb.out _ HG3.out | exact HKb.out _ HG4.out)
    (first
      | (go_at_call 54; (with_reducible refine (HJ.out W.drew).mono ?_); rintro e w1 ⟨rfl, hb1⟩; (have HG1 := Lib.hid hb1); clear hb1)
      | (go_at_call 54; (with_reducible refine (HB.out w1).mono ?_); rintro e w2 ⟨rfl, hb2⟩; (have HG2 := Lib.hid (HG1.out.trans (hb2.mono HG1.out.size))); clear hb2)
      | (go_at_call 54; (with_reducible refine (HH.out w2).mono ?_); rintro e w3 ⟨rfl, hb3⟩; (have HG3 := Lib.hid (HG2.out.trans (hb3.mono HG2.out.size))); clear hb3)
      | (go_at_call 54; (with_reducible refine (HX.out w3).mono ?_); rintro e w4 ⟨rfl, hb4⟩; (have HG4 := Lib.hid (HG3.out.trans (hb4.mono HG3.out.size))); clear hb4))
  obtain ⟨m0, m1, m2, m3, m4⟩ := HKb.out _ HG4.out
  have HB4 := Lib.hid (HB0.out.trans (HG4.out.mono HB0.out.size))
  clear l0 l1 l2 l3 l4
  go_wp2_with fail
  refine (HFr.out _).mono ?_
  rintro e w5 ⟨rfl, hb5⟩
  have HB5 := Lib.hid (HB4.out.trans (hb5.mono HB4.out.size))
  clear hb5
  go_wp2_with fail
  go_ret
  exact ⟨rfl, HB5.out⟩
end Go.Proofs.Ytmpegfmhnciemaa
