/-
  Texts put together: NodeInEnds, NodeSeal, NodeOpen, NodeBytesFn, NodeParseFn, NodeParseB, NodeParseC, NodeParse.
-/
import Derived.Test.YtheccbnejamhlaaDoorPackIn
import Derived.Test.YtheccbnejamhlaaDoorOutVia
import Derived.Test.YtheccbnejamhlaaDoorCrcWalks
import Derived.Test.YtheccbnejamhlaaDoorNodeEmpts
/-
  pack: the ends of an In (Done, Zero).
-/
namespace Go.Proofs.YtheccbnejamhlaaDoor
open Go.RowKit

theorem done_ok (p : Addr) (w : World) (hc : w.cell? p = some (.string ⟨#[]⟩)) :
    Calls Tryd.prog 59 #[.pointer (some p)] w fun e w' => e = .returned (.tuple #[]) ∧ w = w' := by
  go_enter Tryd.func59, Tryd.ntmps59
  go_wp2
  go_end0
  exact ⟨rfl, rfl⟩
theorem done_not (p : Addr) (s : ByteArray) (w : World) (hs : (!s.toList.isEmpty) = true) (hc : w.cell? p = some (.string s)) :
    Calls Tryd.prog 59 #[.pointer (some p)] w fun e w' => e = failed 1 ∧ w = w' := by
  go_enter Tryd.func59, Tryd.ntmps59
  go_wp2_with fail
  refine (fail_any 1 _).mono ?_
  rintro e w' ⟨rfl, rfl⟩
  unfold failed
  go_wp2
  exact ⟨rfl, rfl, rfl⟩
set_option maxHeartbeats 400000 in
theorem zero_ok (p : Addr) (s : ByteArray) (w : World) (hs : ∀ k (h : k < s.size), s[k] = 0) (hl : s.size ≤ maxLen) (hc : w.cell? p = some (.string s)) (hz : w.frozen? p = false) :
    Calls Tryd.prog 52 #[.pointer (some p)] w fun e w' => e = .returned (.tuple #[]) ∧ w.setCell p (.string ⟨#[]⟩) = w' := by
  unfold maxLen at hl
  have HS := Lib.hid hs
  clear hs
  go_enter Tryd.func52, Tryd.ntmps52
  go_wp2
  go_loop [8] (fun i => ∃ k : Nat, k ≤ s.size ∧ i = .int .i64 k) (fun i => s.size - (intOf i).toNat)
  case atStart => exact ⟨0, by omega, rfl⟩
  case round =>
    obtain ⟨k, hk, rfl⟩ := hrel
    by_cases hlt : k < s.size
    · have h0 := HS.out k hlt
      go_wp2
      go_round
      case rel => exact ⟨k + 1, by omega, by go_num⟩
      case measure => simp [intOf]; omega
    · go_wp2
      go_end0
      exact ⟨rfl, rfl⟩
set_option maxHeartbeats 400000 in
theorem zero_not (p : Addr) (s : ByteArray) (w : World) (j : Nat) (hj : j < s.size) (hne : s[j] ≠ 0) (hs : ∀ k (h : k < j), s[k] = 0) (hl : s.size ≤ maxLen) (hc : w.cell? p = some (.string s)) :
    Calls Tryd.prog 52 #[.pointer (some p)] w fun e w' => e = failed 1 ∧ w = w' := by
  unfold maxLen at hl
  have HS := Lib.hid hs
  have HN := Lib.hid hne
  clear hs hne
  go_enter Tryd.func52, Tryd.ntmps52
  go_wp2
  go_loop [8] (fun i => ∃ k : Nat, k ≤ j ∧ i = .int .i64 k) (fun i => s.size - (intOf i).toNat)
  case atStart => exact ⟨0, by omega, rfl⟩
  case round =>
    obtain ⟨k, hk, rfl⟩ := hrel
    by_cases hlt : k < j
    · have h0 := HS.out k hlt
      go_wp2_with fail
      go_round
      case rel => exact ⟨k + 1, by omega, by go_num⟩
      case measure => simp [intOf]; omega
    · obtain rfl : k = j := by omega
      have h0 : (((s[k].toNat : Nat) : Int) != 0) = true := by
        have := HN.out
        simp
        intro e
        exact this (UInt8.toNat_inj.1 (by simpa using e))
      go_wp2_with fail
      refine (fail_any 1 _).mono ?_
      rintro e w' ⟨rfl, rfl⟩
      unfold failed
      go_wp2
      exact ⟨rfl, rfl, rfl⟩
end Go.Proofs.YtheccbnejamhlaaDoor

/-
  seal.Close: what was put, noughts up to 60 bytes, the sum behind them.
-/
namespace Go.Proofs.YtheccbnejamhlaaDoor
open Go.RowKit

/-- what was put, and noughts behind it -/
def padTo (l : List UInt8) : List UInt8 := l ++ List.replicate (60 - l.length) 0
theorem padTo_len (l : List UInt8) (h : l.length ≤ 60) : (padTo l).length = 60 := by
  unfold padTo
  rw [List.length_append, List.length_replicate]
  omega
/-- and the sum -/
def sealed (l : List UInt8) : List UInt8 := padTo l ++ enc (C.Crc.sum (padTo l)) 4
theorem crc_lt (l : List UInt8) : C.Crc.sum l < 4294967296 := by
  unfold C.Crc.sum
  omega
theorem crc_one (b : Nat) (p : List UInt8) (w : World) (hs : p.length ≤ maxLen) (hc : w.cell? ⟨b, 0, none⟩ = some (.string ⟨p.toArray⟩)) :
    Calls Tryd.prog 46 #[.slice (some ⟨b, 0, none⟩) 1 1] w fun e w' => e = .returned (.int .u32 (C.Crc.sum p : Nat)) ∧ w = w' := by
  have h := C.sum_any b 0 1 [⟨p.toArray⟩] w (by simp) (fun i hi => by
    obtain rfl : i = 0 := by simp at hi; omega
    exact hc) (fun i hi => by
    obtain rfl : i = 0 := by simp at hi; omega
    exact hs)
  have e : C.cat [⟨p.toArray⟩] = p := by simp [C.cat]
  rw [e] at h
  exact h
set_option maxHeartbeats 1000000 in
theorem close_any (B o : Nat) (v : Value) (l : List UInt8) (w : World) (h : OutAt B o v l w) (hl : l.length ≤ 60) :
    Calls Tryd.prog 38 #[.pointer (some ⟨o, 0, none⟩)] w fun e w' => e = .returned (.string ⟨(sealed l).toArray⟩) ∧ OutTo B o v (sealed l) w w' := by
  have HV0 := Lib.hid (OutVia.start h)
  have hpl := padTo_len l hl
  have HF := Lib.hid (outFill_ok B o v l 60 w h (by omega) (by decide))
  have e60 : l ++ List.replicate ((60 : Int).toNat - l.length) 0 = padTo l := rfl
  rw [e60] at HF
  have HSe : Hid (padTo l ++ enc (C.Crc.sum (padTo l)) (wid 4) = sealed l) := Lib.hid rfl
  generalize sealed l = SL at *
  generalize padTo l = p at *
  have hlt := crc_lt p
  have HCr : Hid (∀ b wx, wx.cell? ⟨b, 0, none⟩ = some (.string ⟨p.toArray⟩) → Calls Tryd.prog 46 #[.slice (some ⟨b, 0, none⟩) 1 1] wx fun e w' => e = .returned (.int .u32 (C.Crc.sum p : Nat)) ∧ wx = w') := Lib.hid fun b wx hc => crc_one b p wx (by rw [hpl]; decide) hc
  generalize C.Crc.sum p = K at *
  have u1 := u32_as_u64 K hlt
  clear h hl e60
  go_enter Tryd.func38, Tryd.ntmps38
  go_wp2_with fail
  refine HF.out.mono ?_
  rintro e w1 ⟨rfl, T1⟩
  obtain ⟨v1, H1⟩ := HV0.out.next T1
  clear T1 HV0 HF
  go_wp2_with fail
  refine (outBytes_any B o v1 p w1 H1.out.at1).mono ?_
  rintro e w2 ⟨rfl, rfl⟩
  have H2 := Lib.hid (H1.out.alloc (.cells #[.string ⟨p.toArray⟩] 9))
  clear H1
  go_wp2_with fail
  refine (HCr.out w1.heap.size _ (by rw [World.cell?_alloc_new]; rfl)).mono ?_
  rintro e w3 ⟨rfl, rfl⟩
  go_wp2_with fail
  refine (outNum_any B o v1 p K 4 _ H2.out.at1 (by omega)).mono ?_
  rintro e w4 ⟨rfl, T4⟩
  obtain ⟨v4, H4⟩ := H2.out.next T4
  clear T4 H2
  rw [HSe.out] at H4
  go_wp2_with fail
  refine (outBytes_any B o v4 SL w4 H4.out.at1).mono ?_
  rintro e w5 ⟨rfl, rfl⟩
  go_wp2_with fail
  go_ret
  exact ⟨rfl, H4.out.to⟩
end Go.Proofs.YtheccbnejamhlaaDoor

/-
  seal.Open, of any text.
-/
namespace Go.Proofs.YtheccbnejamhlaaDoor
open Go.RowKit

/-- what stands ahead of the sum -/
def ahead (s : ByteArray) : ByteArray := s.extract 0 60
/-- the sum that a text says it has -/
def saysSum (s : ByteArray) : Nat := num ((s.extract 60 s.size).data.toList.take 4)
theorem crc_of (b : Nat) (s : ByteArray) (w : World) (hs : s.size ≤ maxLen) (hc : w.cell? ⟨b, 0, none⟩ = some (.string s)) :
    Calls Tryd.prog 46 #[.slice (some ⟨b, 0, none⟩) 1 1] w fun e w' => e = .returned (.int .u32 (C.Crc.sum s.data.toList : Nat)) ∧ w = w' := crc_one b s.data.toList w hs hc
theorem sealOpen_short (s : ByteArray) (w : World) (h : s.size < 60) : Calls Tryd.prog 48 #[.string s] w fun e w' => e = failed 2 ∧ Below w.heap.size w w' := by
  go_enter Tryd.func48, Tryd.ntmps48
  go_wp2_with fail
  refine (read_any s _).mono ?_
  rintro e w1 ⟨rfl, rfl⟩
  go_wp2_with fail
  refine (text_end ⟨w.heap.size, 0, none⟩ s 60 _ (by decide) (by omega) (boxNew rfl)).mono ?_
  rintro e w2 ⟨rfl, rfl⟩
  unfold failed
  go_wp2_with fail
  exact ⟨rfl, rfl, (Below.refl _ _).alloc (Nat.le_refl _) _⟩
/-- the world behind Read, Text and Num -/
structure OpAt (s : ByteArray) (w W W1 W2 : World) : Prop where
  read : w.alloc (.cells #[.string s] 96) = W
  text : Calls Tryd.prog 49 #[.pointer (some ⟨w.heap.size, 0, none⟩), .int .i64 60] W fun e w' => e = .returned (.string (ahead s)) ∧ W1 = w'
  below1 : Below w.heap.size w W1
  size1 : W1.heap.size = w.heap.size + 1
  cell1 : W1.cell? ⟨w.heap.size, 0, none⟩ = some (.string (s.extract 60 s.size))
  froz1 : W1.frozen? ⟨w.heap.size, 0, none⟩ = false
  set2 : W1.setCell ⟨w.heap.size, 0, none⟩ (.string ((s.extract 60 s.size).extract 4 (s.extract 60 s.size).size)) = W2
theorem opAt (s : ByteArray) (w : World) (h : 60 ≤ s.size) : ∃ W W1 W2, OpAt s w W W1 W2 := by
  have hc : (w.alloc (.cells #[.string s] 96)).cell? ⟨w.heap.size, 0, none⟩ = some (.string s) := boxNew rfl
  have hf : (w.alloc (.cells #[.string s] 96)).frozen? ⟨w.heap.size, 0, none⟩ = false := boxFree rfl
  refine ⟨_, (w.alloc (.cells #[.string s] 96)).setCell ⟨w.heap.size, 0, none⟩ (.string (s.extract 60 s.size)), _, rfl, text_ok ⟨w.heap.size, 0, none⟩ s 60 _ (by decide) (by omega) hc hf, ((Below.refl _ w).alloc (Nat.le_refl _) _).setCell (Nat.le_refl _) _, ?_, World.cell?_setCell_same _ _ _ hc, by rw [World.frozen?_setCell]; exact hf, rfl⟩
  rw [World.size_setCell, World.size_alloc]
theorem sealOpen_less (s : ByteArray) (w : World) (h1 : 60 ≤ s.size) (h : s.size < 64) : Calls Tryd.prog 48 #[.string s] w fun e w' => e = failed 2 ∧ Below w.heap.size w w' := by
  have hz : (s.extract 60 s.size).size < wid 4 := by rw [ByteArray.size_extract, wid4]; omega
  obtain ⟨W, W1, W2, O⟩ := opAt s w h1
  have HO := Lib.hid O
  clear O
  go_enter Tryd.func48, Tryd.ntmps48
  go_wp2_with fail
  refine (read_any s _).mono ?_
  rintro e w1 ⟨rfl, rfl⟩
  rw [HO.out.read]
  go_wp2_with fail
  refine HO.out.text.mono ?_
  rintro e w2 ⟨rfl, rfl⟩
  go_wp2_with fail
  refine (num_end ⟨w.heap.size, 0, none⟩ (s.extract 60 s.size) 4 W1 hz HO.out.cell1).mono ?_
  rintro e w3 ⟨rfl, rfl⟩
  unfold failed
  go_wp2_with fail
  exact ⟨rfl, rfl, HO.out.below1⟩
theorem rest_size (s : ByteArray) : (s.extract 60 s.size).size = s.size - 60 := by rw [ByteArray.size_extract]; omega
theorem ahead_size (s : ByteArray) (h : 60 ≤ s.size) : (ahead s).size = 60 := by unfold ahead; rw [ByteArray.size_extract]; omega
theorem numOpen (s : ByteArray) (w W W1 W2 : World) (h : 64 ≤ s.size) (O : OpAt s w W W1 W2) :
    Calls Tryd.prog 51 #[.pointer (some ⟨w.heap.size, 0, none⟩), .int .i64 4] W1 fun e w' => e = .returned (.int .u64 (saysSum s : Nat)) ∧ W2 = w' := by
  have hn := num_ok ⟨w.heap.size, 0, none⟩ (s.extract 60 s.size) 4 W1 (by rw [wid4, rest_size]; omega) O.cell1 O.froz1
  rw [wid4, O.set2] at hn
  exact hn
theorem two (s : ByteArray) (w W W1 W2 : World) (O : OpAt s w W W1 W2) : Below w.heap.size w W2 ∧ W2.heap.size = w.heap.size + 1 ∧ W2.cell? ⟨w.heap.size, 0, none⟩ = some (.string ((s.extract 60 s.size).extract 4 (s.extract 60 s.size).size)) := by
  rw [← O.set2]
  exact ⟨O.below1.setCell (Nat.le_refl _) _, by rw [World.size_setCell, O.size1], World.cell?_setCell_same _ _ _ O.cell1⟩
set_option maxHeartbeats 1000000 in
theorem sealOpen_sum (s : ByteArray) (w : World) (h1 : 64 ≤ s.size) (h : saysSum s ≠ C.Crc.sum (ahead s).data.toList) : Calls Tryd.prog 48 #[.string s] w fun e w' => e = failed 11 ∧ Below w.heap.size w w' := by
  obtain ⟨W, W1, W2, O⟩ := opAt s w (by omega)
  have HNm := Lib.hid (numOpen s w W W1 W2 h1 O)
  have HCr := Lib.hid (fun b wx hc => crc_of b (ahead s) wx (by rw [ahead_size s (by omega)]; decide) hc)
  obtain ⟨hb2, hs2, hc2⟩ := two s w W W1 W2 O
  have u1 := u32_as_u64 _ (crc_lt (ahead s).data.toList)
  have hne : (((saysSum s : Nat) : Int) != ((C.Crc.sum (ahead s).data.toList : Nat) : Int)) = true := by rw [bne_iff_ne]; omega
  have hB := Lib.hid (hb2.alloc (by omega) (.cells #[.string (ahead s)] 9))
  have HO := Lib.hid O
  have HT := Lib.hid O.text
  clear O hb2 hs2 hc2 h h1
  generalize saysSum s = K at *
  generalize ahead s = t at *
  generalize C.Crc.sum t.data.toList = L at *
  go_enter Tryd.func48, Tryd.ntmps48
  go_wp2_with fail
  refine (read_any s _).mono ?_
  rintro e w1 ⟨rfl, rfl⟩
  rw [HO.out.read]
  go_wp2_with fail
  refine HT.out.mono ?_
  rintro e w2 ⟨rfl, rfl⟩
  go_wp2_with fail
  refine HNm.out.mono ?_
  rintro e w3 ⟨rfl, rfl⟩
  go_wp2_with fail
  refine (HCr.out W2.heap.size _ (by rw [World.cell?_alloc_new]; rfl)).mono ?_
  rintro e w4 ⟨rfl, rfl⟩
  go_wp2_with fail
  refine (fail_any 11 _).mono ?_
  rintro e w5 ⟨rfl, rfl⟩
  unfold failed
  go_wp2_with fail
  exact ⟨rfl, rfl, hB.out⟩
set_option maxHeartbeats 1000000 in
theorem sealOpen_form (s : ByteArray) (w : World) (h1 : 64 < s.size) (h : saysSum s = C.Crc.sum (ahead s).data.toList) : Calls Tryd.prog 48 #[.string s] w fun e w' => e = failed 1 ∧ Below w.heap.size w w' := by
  obtain ⟨W, W1, W2, O⟩ := opAt s w (by omega)
  have HNm := Lib.hid (numOpen s w W W1 W2 (by omega) O)
  have HCr := Lib.hid (fun b wx hc => crc_of b (ahead s) wx (by rw [ahead_size s (by omega)]; decide) hc)
  obtain ⟨hb2, hs2, hc2⟩ := two s w W W1 W2 O
  have u1 := u32_as_u64 _ (crc_lt (ahead s).data.toList)
  have hne : (((C.Crc.sum (ahead s).data.toList : Nat) : Int) != ((C.Crc.sum (ahead s).data.toList : Nat) : Int)) = false := by simp
  have hB := Lib.hid (hb2.alloc (by omega) (.cells #[.string (ahead s)] 9))
  have HO := Lib.hid O
  have HT := Lib.hid O.text
  have HC2 : Hid ((W2.alloc (.cells #[.string (ahead s)] 9)).cell? ⟨w.heap.size, 0, none⟩ = some (.string ((s.extract 60 s.size).extract 4 (s.extract 60 s.size).size))) := Lib.hid (by rw [World.cell?_alloc_past (hn := World.block_lt_of_cell? W2 _ hc2)]; exact hc2)
  have HS3 : Hid ((W2.alloc (.cells #[.string (ahead s)] 9)).heap.size = w.heap.size + 2) := Lib.hid (by rw [World.size_alloc, hs2])
  have HR : Hid ((!((s.extract 60 s.size).extract 4 (s.extract 60 s.size).size).toList.isEmpty) = true) := Lib.hid (by
    have hz : ((s.extract 60 s.size).extract 4 (s.extract 60 s.size).size).toList.length = s.size - 64 := by
      rw [ByteArray.toList_eq]
      show ((s.extract 60 s.size).extract 4 (s.extract 60 s.size).size).size = _
      rw [ByteArray.size_extract, rest_size]
      omega
    rw [Bool.not_eq_true', List.isEmpty_eq_false_iff]
    intro e
    rw [e] at hz
    simp at hz
    omega)
  clear O hb2 hs2 hc2 h1
  rw [h] at HNm
  clear h
  generalize (s.extract 60 s.size).extract 4 (s.extract 60 s.size).size = r at *
  generalize ahead s = t at *
  generalize C.Crc.sum t.data.toList = L at *
  go_enter Tryd.func48, Tryd.ntmps48
  go_wp2_with fail
  refine (read_any s _).mono ?_
  rintro e w1 ⟨rfl, rfl⟩
  rw [HO.out.read]
  go_wp2_with fail
  refine HT.out.mono ?_
  rintro e w2 ⟨rfl, rfl⟩
  go_wp2_with fail
  refine HNm.out.mono ?_
  rintro e w3 ⟨rfl, rfl⟩
  go_wp2_with fail
  refine (HCr.out W2.heap.size _ (by rw [World.cell?_alloc_new]; rfl)).mono ?_
  rintro e w4 ⟨rfl, rfl⟩
  generalize W2.alloc (.cells #[.string t] 9) = W3 at *
  go_wp2_with fail
  refine (done_not ⟨w.heap.size, 0, none⟩ r W3 HR.out HC2.out).mono ?_
  rintro e w5 ⟨rfl, rfl⟩
  unfold failed
  go_wp2_with fail
  exact ⟨rfl, rfl, hB.out⟩
set_option maxHeartbeats 1000000 in
theorem sealOpen_ok (s : ByteArray) (w : World) (h1 : s.size = 64) (h : saysSum s = C.Crc.sum (ahead s).data.toList) : Calls Tryd.prog 48 #[.string s] w fun e w' =>
    e = .returned (.pointer (some ⟨w.heap.size + 2, 0, none⟩)) ∧ Below w.heap.size w w' ∧ w'.cell? ⟨w.heap.size + 2, 0, none⟩ = some (.string (ahead s)) ∧ w'.frozen? ⟨w.heap.size + 2, 0, none⟩ = false ∧ w'.heap.size = w.heap.size + 3 := by
  obtain ⟨W, W1, W2, O⟩ := opAt s w (by omega)
  have HNm := Lib.hid (numOpen s w W W1 W2 (by omega) O)
  have HCr := Lib.hid (fun b wx hc => crc_of b (ahead s) wx (by rw [ahead_size s (by omega)]; decide) hc)
  obtain ⟨hb2, hs2, hc2⟩ := two s w W W1 W2 O
  have u1 := u32_as_u64 _ (crc_lt (ahead s).data.toList)
  have hne : (((C.Crc.sum (ahead s).data.toList : Nat) : Int) != ((C.Crc.sum (ahead s).data.toList : Nat) : Int)) = false := by simp
  have hB := Lib.hid (hb2.alloc (by omega) (.cells #[.string (ahead s)] 9))
  have HO := Lib.hid O
  have HT := Lib.hid O.text
  have HC2 : Hid ((W2.alloc (.cells #[.string (ahead s)] 9)).cell? ⟨w.heap.size, 0, none⟩ = some (.string ((s.extract 60 s.size).extract 4 (s.extract 60 s.size).size))) := Lib.hid (by rw [World.cell?_alloc_past (hn := World.block_lt_of_cell? W2 _ hc2)]; exact hc2)
  have HS3 : Hid ((W2.alloc (.cells #[.string (ahead s)] 9)).heap.size = w.heap.size + 2) := Lib.hid (by rw [World.size_alloc, hs2])
  have HR : Hid ((s.extract 60 s.size).extract 4 (s.extract 60 s.size).size = ⟨#[]⟩) := Lib.hid (by
    have hz : ((s.extract 60 s.size).extract 4 (s.extract 60 s.size).size).size = 0 := by
      rw [ByteArray.size_extract, rest_size]
      omega
    exact ByteArray.ext (Array.eq_empty_of_size_eq_zero hz))
  clear O hb2 hs2 hc2 h1
  rw [h] at HNm
  clear h
  generalize (s.extract 60 s.size).extract 4 (s.extract 60 s.size).size = r at *
  generalize ahead s = t at *
  generalize C.Crc.sum t.data.toList = L at *
  go_enter Tryd.func48, Tryd.ntmps48
  go_wp2_with fail
  refine (read_any s _).mono ?_
  rintro e w1 ⟨rfl, rfl⟩
  rw [HO.out.read]
  go_wp2_with fail
  refine HT.out.mono ?_
  rintro e w2 ⟨rfl, rfl⟩
  go_wp2_with fail
  refine HNm.out.mono ?_
  rintro e w3 ⟨rfl, rfl⟩
  go_wp2_with fail
  refine (HCr.out W2.heap.size _ (by rw [World.cell?_alloc_new]; rfl)).mono ?_
  rintro e w4 ⟨rfl, rfl⟩
  generalize W2.alloc (.cells #[.string t] 9) = W3 at *
  rw [HR.out] at HC2
  go_wp2_with fail
  refine (done_ok ⟨w.heap.size, 0, none⟩ W3 HC2.out).mono ?_
  rintro e w5 ⟨rfl, rfl⟩
  go_wp2_with fail
  refine (read_any t _).mono ?_
  rintro e w6 ⟨rfl, rfl⟩
  have hnew : (W3.alloc (.cells #[.string t] 96)).cell? ⟨w.heap.size + 2, 0, none⟩ = some (.string t) := boxNew HS3.out
  have hfr : (W3.alloc (.cells #[.string t] 96)).frozen? ⟨w.heap.size + 2, 0, none⟩ = false := boxFree HS3.out
  have hsz : (W3.alloc (.cells #[.string t] 96)).heap.size = w.heap.size + 3 := by rw [World.size_alloc, HS3.out]
  have hb : Below w.heap.size w (W3.alloc (.cells #[.string t] 96)) := hB.out.alloc (by have := HS3.out; omega) _
  rw [HS3.out]
  generalize W3.alloc (.cells #[.string t] 96) = W4 at *
  go_wp2_with fail
  go_ret
  exact ⟨rfl, hb, hnew, hfr, hsz⟩
end Go.Proofs.YtheccbnejamhlaaDoor

/-
  node: a node's bytes.
-/
namespace Go.Proofs.YtheccbnejamhlaaDoor
open Go.RowKit

theorem index_kids (kd : Nat → Nat) (k : Nat) (h : k < 8) (w : World) : (Instr.index 32 (.agg (kidsL kd).toArray) (.int .i64 (k : Int))).run Tryd.prog w = .ok (.int .i64 (kd k : Nat)) w := by
  obtain ⟨i, hi⟩ : ∃ i, Tryd.prog.info? 3 = some i := info_of_underlying Tryd.underlying3
  have hs := run_sizeOf (P := Tryd.prog) w hi
  rw [cells_int] at hs
  have e : (part 3 (kidsL kd).toArray k).run Tryd.prog w = .ok (.int .i64 (kd k : Nat)) w := run_part_plain w plainInt (by rw [List.getElem?_toArray]; exact kidsL_at kd k h)
  generalize kidsL kd = X at *
  simp [Instr.index, asIntOf, run_underlying Tryd.underlying32, hs, e]
  omega
/-- the first kids, two bytes each -/
def kidsT (kd : Nat → Nat) : Nat → List UInt8
  | 0 => []
  | k + 1 => kidsT kd k ++ enc (kd k) 2
theorem kidsT_len (kd : Nat → Nat) : ∀ k, (kidsT kd k).length = 2 * k
  | 0 => rfl
  | k + 1 => by
    unfold kidsT
    rw [List.length_append, kidsT_len kd k, enc_len]
    omega
/-- what a node's bytes are made of -/
def nodeT (l : Nat) (kd f : Nat → Nat) : List UInt8 := [78] ++ enc l 1 ++ kidsT kd 8 ++ txt f
theorem nodeT_len (l : Nat) (kd f : Nat → Nat) : (nodeT l kd f).length = 50 := by
  unfold nodeT
  simp [enc_len, kidsT_len, txt_len]
/-- within Bytes: the node in its block, the Out on its way, all that was there -/
structure NbAt (w : World) (b : Nat) (N : List Value) (B o : Nat) (v1 : Value) (l : List UInt8) (wx : World) : Prop where
  src : wx.rangeAt b 0 N
  out : OutAt B o v1 l wx
  below : Below w.heap.size w wx
  lo : w.heap.size ≤ b
  bo : b < o
theorem NbAt.to {w : World} {b : Nat} {N : List Value} {B o : Nat} {v1 : Value} {l l2 : List UInt8} {wx wy : World} (h : NbAt w b N B o v1 l wx) (k : OutTo B o v1 l2 wx wy) : ∃ v2, Hid (NbAt w b N B o v2 l2 wy) := by
  obtain ⟨v2, a, _, c⟩ := k
  have hB := h.out.lt
  have hlo := h.lo
  have hbo := h.bo
  have hbs := h.out.base
  refine ⟨v2, Lib.hid ⟨fun j v hv => ?_, a, c.below h.below h.below.size ?_, hlo, hbo⟩⟩
  · rw [c.cell (by show b < _; omega) ?_]
    · exact h.src j v hv
    · rintro (e | e)
      · have e : b = o := e
        omega
      · have := h.out.own _ e
        have : B ≤ b := this
        omega
  · rintro q (e | e)
    · omega
    · have := h.out.own _ e
      omega
theorem NbAt.step {w : World} {b : Nat} {N : List Value} {B o : Nat} {v1 : Value} {l : List UInt8} {wx wy : World} (h : NbAt w b N B o v1 l wx) (k : Below wx.heap.size wx wy) : NbAt w b N B o v1 l wy :=
  ⟨range_below h.src (by have := h.bo; have := h.out.lt; have := h.out.base; omega) k, h.out.kept (S := fun _ => False) (Grew.of_below k) (fun e => e) (fun _ _ e => e), h.below.trans (k.mono h.below.size), h.lo, h.bo⟩
theorem nbNew (w W : World) (N : List Value) (hW : W.heap.size = w.heap.size + 1) (hr : W.rangeAt w.heap.size 0 N) (hb : Below w.heap.size w W) : NbAt w w.heap.size N (w.heap.size + 1 + 1) (w.heap.size + 1) (.slice none 0 0) [] (W.alloc (.cells #[.slice none 0 0] 72)) := by
  have h := boxNew (w := W) (t := 72) (v := .slice none 0 0) hW
  have h2 := boxFree (w := W) (t := 72) (v := .slice none 0 0) hW
  exact ⟨World.rangeAt_alloc hr _, ⟨by omega, by simp; omega, h, h2, by simp [cellsOf, World.ownsRow]⟩, hb.alloc (by omega) _, by omega, by omega⟩
theorem nbNew_lv (w W : World) (lv : Int) (kd f : Nat → Nat) (hr : W.rangeAt w.heap.size 0 (nodeL lv kd f)) : W.cell? ⟨w.heap.size, 0, none⟩ = some (.int .i64 lv) := by
  have h := hr 0 (.int .i64 lv) rfl
  rwa [Nat.zero_add] at h
theorem nb_kids {W : World} {b : Nat} {lv : Int} {kd f : Nat → Nat} (h : W.rangeAt b 0 (nodeL lv kd f)) : W.rangeAt b 1 (kidsL kd) := fun j v hv => by
  have hj : j < 8 := by
    have := (List.getElem?_eq_some_iff.1 hv).1
    rwa [kidsL_len] at this
  have h2 := h (1 + j) v (by rw [nodeL_kid lv kd f j hj, ← kidsL_at kd j hj]; exact hv)
  rwa [Nat.zero_add] at h2
theorem nb_sum {W : World} {b : Nat} {lv : Int} {kd f : Nat → Nat} (h : W.rangeAt b 0 (nodeL lv kd f)) : W.rangeAt b 9 (arr f) := fun j v hv => by
  have h2 := h (9 + j) v (by
    unfold nodeL
    rw [show 9 + j = (8 + j) + 1 by omega, List.getElem?_cons_succ, List.getElem?_append_right (by rw [kidsL_len]; omega), kidsL_len, Nat.add_sub_cancel_left]
    exact hv)
  rwa [Nat.zero_add] at h2
theorem wid2 : wid 2 = 2 := rfl
set_option maxRecDepth 100000 in
set_option maxHeartbeats 4000000 in
theorem bytes_any (lv : Nat) (hl : lv < 256) (kd f : Nat → Nat) (hk : ∀ j, kd j < 65536) (hf : ∀ j, f j < 256) (w : World) : Calls Tryd.prog 18 #[.agg (nodeL (lv : Int) kd f).toArray] w fun e w' => e = .returned (.string ⟨(sealed (nodeT lv kd f)).toArray⟩) ∧ Below w.heap.size w w' := by
  have hr : (w.alloc (.cells (nodeL (lv : Int) kd f).toArray 34)).rangeAt w.heap.size 0 (nodeL (lv : Int) kd f) := fun j v hv => by rw [World.cell?_alloc_new, List.getElem?_toArray, Nat.zero_add]; exact hv
  have HN0 := Lib.hid (nbNew w (w.alloc (.cells (nodeL (lv : Int) kd f).toArray 34)) (nodeL (lv : Int) kd f) (by simp) hr ((Below.refl _ w).alloc (Nat.le_refl _) _))
  have HN0d := Lib.hid (nbNew w (w.alloc (.cells (nodeL (lv : Int) kd f).toArray 34)).drew (nodeL (lv : Int) kd f) (by simp) hr (((Below.refl _ w).alloc (Nat.le_refl _) _).drew))
  have hc0 : (w.alloc (.cells (nodeL (lv : Int) kd f).toArray 34)).drew.cell? ⟨w.heap.size, 0, none⟩ = some (.int .i64 (lv : Int)) := nbNew_lv w _ lv kd f hr
  have u1 := u32_as_u64 lv (by omega)
  have HIx := Lib.hid fun k hk wx => index_kids kd k hk wx
  have HTx := Lib.hid fun wx => text_any f hf wx
  have HI8 : Hid ((Tryd.prog.info? 32).map (·.size) = some (kidsL kd).length) := Lib.hid (by rw [kidsL_len]; kernel_rfl)
  have HIA : Hid ((Tryd.prog.info? 24).map (·.size) = some (arr f).length) := Lib.hid (by rw [arr_len]; kernel_rfl)
  have HLv := Lib.hid (fun W => nbNew_lv w W (lv : Int) kd f)
  have HKs := Lib.hid (fun (W : World) (b : Nat) => nb_kids (W := W) (b := b) (lv := (lv : Int)) (kd := kd) (f := f))
  have HSm := Lib.hid (fun (W : World) (b : Nat) => nb_sum (W := W) (b := b) (lv := (lv : Int)) (kd := kd) (f := f))
  have HKd := Lib.hid hk
  have HPl : Hid (∀ k, k ≤ 8 → ([78] ++ enc lv 1 ++ kidsT kd k).length ≤ 18) := Lib.hid fun k hk => by simp [enc_len, kidsT_len]; omega
  have HTT : Hid ((⟨(txt f).toArray⟩ : ByteArray).data.toList = txt f) := Lib.hid rfl
  have HTs : Hid ((⟨(txt f).toArray⟩ : ByteArray).size = 32) := Lib.hid (by show (txt f).length = 32; exact txt_len _)
  have HT8 : Hid ([78] ++ enc lv 1 ++ kidsT kd 8 ++ txt f = nodeT lv kd f) := Lib.hid rfl
  have HNl := Lib.hid (nodeT_len lv kd f)
  generalize nodeL (lv : Int) kd f = N at *
  generalize kidsL kd = K8 at *
  generalize arr f = X at *
  generalize (⟨(txt f).toArray⟩ : ByteArray) = T at *
  clear hf hk hl
  go_enter Tryd.func18, Tryd.ntmps18
  go_upto_region 1 with fail
  refine wp_region_held_drew (S := fun wx => wx.cell? ⟨w.heap.size, 0, none⟩ = some (.int .i64 (lv : Int))) (by kernel_rfl) hc0 (fun hHeld => ?_)
  refine wpAnyH_take (i := 2) (oi := { dst := some 8, op := Op.fieldAddr 34 (Operand.tmp 1) 0, type := 0, pos := "node.go:40", after := #[], guard := none }) (v := ?_) rfl (by kernel_rfl) (by kernel_rfl) (by kernel_rfl) (fun _ _ _ h => h) (Or.inl ⟨by rfl, ?_⟩) (by assumption) ?_
  rotate_left
  · (intro wz hSw; (try dsimp only at hSw); go_simp; try with_reducible rfl)
  try simp only [Act.put, List.setIfInBounds_toArray, List.set_cons_zero, List.set_cons_succ]
  refine wpAnyH_take (i := 3) (oi := { dst := some 9, op := Op.load 3 (Operand.tmp 8), type := 3, pos := "node.go:40", after := #[{ on := 2, ground := Ground.data }], guard := none }) (v := ?_) rfl (by kernel_rfl) (by kernel_rfl) (by kernel_rfl) (fun _ _ _ h => h) (Or.inl ⟨by rfl, ?_⟩) (by assumption) ?_
  rotate_left
  · (intro wz hSw; (try dsimp only at hSw); go_simp; try with_reducible rfl)
  try simp only [Act.put, List.setIfInBounds_toArray, List.set_cons_zero, List.set_cons_succ]
  refine wpAnyH_take (i := 4) (oi := { dst := some 10, op := Op.convert 3 42 (Operand.tmp 9), type := 42, pos := "node.go:40", after := #[{ on := 3, ground := Ground.data }], guard := none }) (v := ?_) rfl (by kernel_rfl) (by kernel_rfl) (by kernel_rfl) (fun _ _ _ h => h) (Or.inl ⟨by rfl, ?_⟩) (by assumption) ?_
  rotate_left
  · (intro wz hSw; (try dsimp only at hSw); go_simp; try with_reducible rfl)
  try simp only [Act.put, List.setIfInBounds_toArray, List.set_cons_zero, List.set_cons_succ]
  refine wpAnyH_ready (rs := [0]) (by kernel_rfl) (by simp) ?_
  refine AllReadyH.cons (o := { dst := some 6, op := Op.alloc 72, type := 70, pos := "node.go:40", after := #[], guard := none }) rfl (fun K hK => ?_) AllReadyH.nil
  go_simp
  refine hK.out _ _ (HLv.out _ HN0d.out.src) (fun hHeld1 => ?_)
  clear hK K hHeld
  try simp only [List.setIfInBounds_toArray, List.set_cons_zero, List.set_cons_succ]
  refine wpAnyH_ready (rs := [1]) (by kernel_rfl) (by simp) ?_
  refine AllReadyH.cons (o := { dst := some 7, op := Op.call { callee := Callee.value (Operand.func 36), args := #[Operand.tmp 6, Operand.const (Value.string { data := #[78] })], argTypes := #[70, 9] }, type := 70, pos := "node.go:40", after := #[{ on := 0, ground := Ground.data }], guard := none }) rfl (fun K hK => ?_) AllReadyH.nil
  go_simp
  refine (outText_any (w.heap.size + 1 + 1) (w.heap.size + 1) _ [] ⟨#[78]⟩ _ HN0d.out.out (by decide)).mono ?_
  rintro e w1 ⟨rfl, T1⟩
  obtain ⟨v1, H1⟩ := HN0d.out.to T1
  clear T1 HN0d HN0
  try go_wp2_with fail
  refine hK.out _ _ (HLv.out _ H1.out.src) (fun hHeld2 => ?_)
  clear hK K hHeld1
  try simp only [List.setIfInBounds_toArray, List.set_cons_zero, List.set_cons_succ]
  refine wpAnyH_ready (rs := [5]) (by kernel_rfl) (by simp) ?_
  refine AllReadyH.cons (o := { dst := some 11, op := Op.call { callee := Callee.value (Operand.func 37), args := #[Operand.tmp 7, Operand.tmp 10, Operand.const (Value.int IntKind.i64 1)], argTypes := #[70, 42, 3] }, type := 70, pos := "node.go:40", after := #[{ on := 1, ground := Ground.data }, { on := 4, ground := Ground.data }, { on := 1, ground := Ground.chain }], guard := none }) rfl (fun K hK => ?_) AllReadyH.nil
  go_simp
  refine (outNum_any (w.heap.size + 1 + 1) (w.heap.size + 1) v1 _ lv 1 w1 H1.out.out (by simp)).mono ?_
  rintro e w2 ⟨rfl, T2⟩
  obtain ⟨v2, H2'⟩ := H1.out.to T2
  have H2 : Hid (NbAt w w.heap.size N (w.heap.size + 1 + 1) (w.heap.size + 1) v2 ([78] ++ enc lv 1 ++ kidsT kd 0) w2) := Lib.hid (by
    have := H2'.out
    rw [wid1] at this
    show NbAt w w.heap.size N _ _ v2 ([78] ++ enc lv 1 ++ []) w2
    rw [List.append_nil]
    exact this)
  clear T2 H1 H2'
  try go_wp2_with fail
  refine hK.out _ _ (HLv.out _ H2.out.src) (fun hHeld3 => ?_)
  clear hK K hHeld2
  try simp only [List.setIfInBounds_toArray, List.set_cons_zero, List.set_cons_succ]
  refine wpAnyH_take (i := 6) (oi := { dst := some 3, op := Op.assign (Operand.tmp 11), type := 70, pos := "node.go:40", after := #[{ on := 5, ground := Ground.data }, { on := 5, ground := Ground.chain }, { on := 0, ground := Ground.phase }, { on := 1, ground := Ground.phase }, { on := 2, ground := Ground.phase }, { on := 3, ground := Ground.phase }, { on := 4, ground := Ground.phase }, { on := 5, ground := Ground.phase }], guard := none }) (v := ?_) rfl (by kernel_rfl) (by kernel_rfl) (by kernel_rfl) (fun _ _ _ h => h) (Or.inl ⟨by rfl, ?_⟩) (by assumption) ?_
  rotate_left
  · (intro wz hSw; (try dsimp only at hSw); go_simp; try with_reducible rfl)
  try simp only [Act.put, List.setIfInBounds_toArray, List.set_cons_zero, List.set_cons_succ]
  refine wpAnyH_done (by kernel_rfl) ?_ _
  clear hHeld3
  have hs2 := HKs.out _ _ H2.out.src
  generalize w.heap.size + 1 + 1 = B at *
  generalize w.heap.size + 1 = o at *
  obtain ⟨b, hbq⟩ : ∃ b, w.heap.size = b := ⟨_, rfl⟩
  have HBq := Lib.hid hbq
  have HBl : Hid (∀ W, Below b w W → Below w.heap.size w W) := Lib.hid fun W h => by rw [hbq]; exact h
  have H3 : Hid (NbAt w b N B o v2 ([78] ++ enc lv 1 ++ kidsT kd 0) w2) := Lib.hid (by rw [← hbq]; exact H2.out)
  rw [hbq] at hs2 ⊢
  clear hbq H2 hc0 hr
  go_wp2_with (with_reducible refine wpList_load_mid rfl 32 _ rfl b 1 rfl K8 _ hs2 Tryd.underlying32 rfl HI8.out ?_)
  clear hs2
  go_loopw [14] (fun i wx => ∃ (k : Nat) (v : Value), k ≤ 8 ∧ i = .int .i64 (k : Int) ∧ NbAt w b N B o v ([78] ++ enc lv 1 ++ kidsT kd k) wx) (fun i _ => 8 - (intOf i).toNat)
  case atStart => exact ⟨0, v2, by omega, rfl, H3.out⟩
  case round =>
    obtain ⟨k, v, hk, rfl, hd⟩ := hrel
    have HD := Lib.hid hd
    clear hd H3
    by_cases hlt : k < 8
    · have i0 : (k : Int) < 8 := by omega
      have hix := HIx.out k hlt
      have u2 := u32_as_u64 (kd k) (by have := HKd.out k; omega)
      have HPk := Lib.hid (HPl.out k hk)
      have HTn : Hid ([78] ++ enc lv 1 ++ kidsT kd k ++ enc (kd k) 2 = [78] ++ enc lv 1 ++ kidsT kd (k + 1)) := Lib.hid (by rw [List.append_assoc]; rfl)
      have HK := Lib.hid hlt
      clear hlt hk
      generalize kd k = q at *
      go_wp2_with fail
      refine (outNum_any B o v _ q 2 wr HD.out.out (by have := HPk.out; omega)).mono ?_
      rintro e w5 ⟨rfl, T5⟩
      obtain ⟨v5, H5⟩ := HD.out.to T5
      clear T5
      go_wp2_with fail
      go_roundw
      case rel => exact ⟨k + 1, v5, by have := HK.out; omega, by go_num, by have := H5.out; rw [wid2, HTn.out] at this; exact this⟩
      case measure => simp [intOf]; have := HK.out; omega
    · have i0 : ¬ (k : Int) < 8 := by omega
      obtain rfl : k = 8 := by omega
      have hs9 := HSm.out _ _ HD.out.src
      have HPk := Lib.hid (HPl.out 8 hk)
      clear hlt hk
      go_wp2_with (with_reducible refine wpList_load_mid rfl 24 _ rfl b 9 rfl X _ hs9 Tryd.underlying24 rfl HIA.out ?_)
      clear hs9
      refine (HTx.out _).mono ?_
      rintro e w4 ⟨rfl, hb4⟩
      have HD4 := Lib.hid (HD.out.step hb4)
      clear hb4 HD
      go_wp2_with fail
      refine (outText_any B o v _ T w4 HD4.out.out (by have := HPk.out; have := HTs.out; omega)).mono ?_
      rintro e w5 ⟨rfl, T5⟩
      obtain ⟨v5, H5⟩ := HD4.out.to T5
      clear T5 HD4
      rw [HTT.out, HT8.out] at H5
      go_wp2_with fail
      refine (close_any B o v5 _ w5 H5.out.out (by have := HNl.out; omega)).mono ?_
      rintro e w6 ⟨rfl, T6⟩
      obtain ⟨v6, H6⟩ := H5.out.to T6
      clear T6 H5
      go_wp2_with fail
      go_ret
      exact ⟨rfl, H6.out.below⟩
end Go.Proofs.YtheccbnejamhlaaDoor

/-
  node.Parse, of any text.
-/
namespace Go.Proofs.YtheccbnejamhlaaDoor
open Go.RowKit

theorem parse_open (s : ByteArray) (lv k : Int) (w : World) (hO : ∀ wx : World, Calls Tryd.prog 48 #[.string s] wx fun e w' => e = failed k ∧ Below wx.heap.size wx w') :
    Calls Tryd.prog 41 #[.string s, .int .i64 lv] w fun e w' => e = failed k ∧ Below w.heap.size w w' := by
  have HB : Hid (Below w.heap.size w (w.alloc (.cells (nodeL 0 (fun _ => 0) (fun _ => 0)).toArray 34))) := Lib.hid ((Below.refl _ w).alloc (Nat.le_refl _) _)
  have HAl := alloc_node
  generalize (nodeL 0 (fun _ => 0) (fun _ => 0)).toArray = ZN at *
  go_enter Tryd.func41, Tryd.ntmps41
  go_wp2_with (refine wpList_alloc rfl 34 rfl _ (HAl _) ?_)
  refine (hO _).mono ?_
  rintro e w1 ⟨rfl, hb⟩
  have HB1 := Lib.hid (HB.out.trans (hb.mono HB.out.size))
  unfold failed
  go_wp2_with fail
  exact ⟨rfl, rfl, HB1.out⟩
/-- within Parse: the result's block, the In on its way, all that was there -/
structure PaAt (w : World) (q : Nat) (rest : ByteArray) (wx : World) : Prop where
  below : Below w.heap.size w wx
  res : Cells w.heap.size 41 (cellsAt (nodeL 0 (fun _ => 0) (fun _ => 0))) wx
  cell : wx.cell? ⟨q, 0, none⟩ = some (.string rest)
  froz : wx.frozen? ⟨q, 0, none⟩ = false
  lo : w.heap.size < q
theorem PaAt.set {w : World} {q : Nat} {rest : ByteArray} {wx : World} (h : PaAt w q rest wx) (r : ByteArray) : PaAt w q r (wx.setCell ⟨q, 0, none⟩ (.string r)) :=
  ⟨h.below.setCell (Nat.le_of_lt h.lo) _, h.res.far _ (Nat.ne_of_lt h.lo), World.cell?_setCell_same _ _ _ h.cell, by rw [World.frozen?_setCell]; exact h.froz, h.lo⟩
theorem PaAt.text {w : World} {q : Nat} {rest : ByteArray} {wx : World} (h : PaAt w q rest wx) (n : Nat) (hn : n ≤ rest.size) :
    Calls Tryd.prog 49 #[.pointer (some ⟨q, 0, none⟩), .int .i64 (n : Int)] wx fun e w' => e = .returned (.string (rest.extract 0 n)) ∧ PaAt w q (rest.extract n rest.size) w' :=
  (text_ok ⟨q, 0, none⟩ rest n wx (by omega) (by omega) h.cell h.froz).mono (by
    rintro e w' ⟨rfl, rfl⟩
    exact ⟨rfl, h.set _⟩)
theorem PaAt.num {w : World} {q : Nat} {rest : ByteArray} {wx : World} (h : PaAt w q rest wx) (n : Int) (hn : wid n ≤ rest.size) :
    Calls Tryd.prog 51 #[.pointer (some ⟨q, 0, none⟩), .int .i64 n] wx fun e w' => e = .returned (.int .u64 (Go.Proofs.YtheccbnejamhlaaDoor.num (rest.data.toList.take (wid n)) : Nat)) ∧ PaAt w q (rest.extract (wid n) rest.size) w' :=
  (num_ok ⟨q, 0, none⟩ rest n wx hn h.cell h.froz).mono (by
    rintro e w' ⟨rfl, rfl⟩
    exact ⟨rfl, h.set _⟩)
theorem PaAt.start (s : ByteArray) (w : World) (h1 : s.size = 64) (h : saysSum s = C.Crc.sum (ahead s).data.toList) :
    Calls Tryd.prog 48 #[.string s] (w.alloc (.cells (nodeL 0 (fun _ => 0) (fun _ => 0)).toArray 34)) fun e w' => e = .returned (.pointer (some ⟨w.heap.size + 3, 0, none⟩)) ∧ PaAt w (w.heap.size + 3) (ahead s) w' ∧ w'.heap.size = w.heap.size + 4 :=
  (sealOpen_ok s _ h1 h).mono (by
    rintro e w' ⟨rfl, hb, hc, hf, hs⟩
    have hz : (w.alloc (.cells (nodeL 0 (fun _ => 0) (fun _ => 0)).toArray 34)).heap.size = w.heap.size + 1 := World.size_alloc _ _
    rw [hz] at hc hf hs ⊢
    have h0 := Cells.new w 41 (cellsAt (nodeL 0 (fun _ => 0) (fun _ => 0))) 34 (nodeL 0 (fun _ => 0) (fun _ => 0)).toArray (fun j hj => by rw [List.getElem?_toArray]; exact cellsAt_get _ j (by rw [nodeL_len]; exact hj))
    exact ⟨rfl, ⟨((Below.refl _ w).alloc (Nat.le_refl _) _).trans (hb.mono (by rw [hz]; omega)), h0.below hb, hc, hf, by omega⟩, hs⟩)
theorem parse_mark (s : ByteArray) (lv : Int) (w : World) (h1 : s.size = 64) (h : saysSum s = C.Crc.sum (ahead s).data.toList) (hm : ¬ (ahead s).extract 0 1 = ⟨#[78]⟩) :
    Calls Tryd.prog 41 #[.string s, .int .i64 lv] w fun e w' => e = failed 1 ∧ Below w.heap.size w w' := by
  have HS := Lib.hid (PaAt.start s w h1 h)
  have HAl := alloc_node
  have hz : 1 ≤ (ahead s).size := by rw [ahead_size s (by omega)]; decide
  have HT := Lib.hid (fun wx (hp : PaAt w (w.heap.size + 3) (ahead s) wx) => hp.text 1 hz)
  have hne : (((ahead s).extract 0 1).toList == [78]) = false := by
    rw [beq_eq_false_iff_ne]
    intro q
    exact hm (ByteArray.ext (Array.toList_inj.mp ((ByteArray.toList_eq _).symm.trans q)))
  generalize (nodeL 0 (fun _ => 0) (fun _ => 0)).toArray = ZN at *
  clear hm h hz
  generalize (ahead s).extract 0 1 = m at *
  go_enter Tryd.func41, Tryd.ntmps41
  go_wp2_with (refine wpList_alloc rfl 34 rfl _ (HAl _) ?_)
  refine HS.out.mono ?_
  rintro e w1 ⟨rfl, hp, _⟩
  have HP := Lib.hid hp
  clear hp
  go_wp2_with fail
  refine (HT.out w1 HP.out).mono ?_
  rintro e w2 ⟨rfl, hp2⟩
  have HP2 := Lib.hid hp2
  clear hp2
  go_wp2_with fail
  refine (fail_any 1 _).mono ?_
  rintro e w5 ⟨rfl, rfl⟩
  unfold failed
  go_wp2_with fail
  exact ⟨rfl, rfl, HP2.out.below⟩
end Go.Proofs.YtheccbnejamhlaaDoor

/-
  node.Parse: behind the mark.
-/
namespace Go.Proofs.YtheccbnejamhlaaDoor
open Go.RowKit

/-- the level that a node's bytes say -/
def saysLevel (t : ByteArray) : Nat := num ((t.extract 1 t.size).data.toList.take 1)
theorem saysLevel_lt (t : ByteArray) : saysLevel t < 256 := by
  have h := num_lt ((t.extract 1 t.size).data.toList.take 1)
  have h2 : 256 ^ ((t.extract 1 t.size).data.toList.take 1).length ≤ 256 ^ 1 := Nat.pow_le_pow_right (by decide) (by rw [List.length_take]; omega)
  unfold saysLevel
  omega
/-- the kids that they say -/
def saysKid (t : ByteArray) (j : Nat) : Nat := num ((t.extract (2 + 2 * j) t.size).data.toList.take 2)
theorem saysKid_lt (t : ByteArray) (j : Nat) : saysKid t j < 65536 := by
  have h := num_lt ((t.extract (2 + 2 * j) t.size).data.toList.take 2)
  have h2 : 256 ^ ((t.extract (2 + 2 * j) t.size).data.toList.take 2).length ≤ 256 ^ 2 := Nat.pow_le_pow_right (by decide) (by rw [List.length_take]; omega)
  unfold saysKid
  omega
theorem ext_ext (t : ByteArray) (a b : Nat) : (t.extract a t.size).extract b (t.extract a t.size).size = t.extract (a + b) t.size := by
  apply ByteArray.ext
  rw [ByteArray.data_extract, ByteArray.data_extract, ByteArray.data_extract, ByteArray.size_extract, Array.extract_extract]
  congr 1
  omega
theorem i64_small (n : Nat) (h : n < 65536) : IntKind.i64.wrap (n : Int) = n := by rw [IntWalk.i64_in _ (by omega)]
theorem wpList_build1 {P : Program} {ops : Array Oper} {rest : List Oper} {op : Oper} {a : Act} {w : World} {Q : Exit → Act → World → Prop} (hgd : op.guard = none) (ty : TypeId) (i : Nat) (x : Operand) (ho : op.op = .build ty #[(i, x)])
    (u r : Value) (hx : a.eval x = u) (hrun : (Instr.build ty #[(i, u)]).run P w = .ok r w) (h : wpList P ops Q rest (a.put op.dst r) w) : wpList P ops Q (op :: rest) a w := by
  refine wpList_plain hgd fun K hK => ?_
  unfold Oper.wp execOp
  simp only [ho, Sem.run_bind, Sem.run_pure, Result.andThen_ok, List.map_toArray, List.map_cons, List.map_nil, hx, hrun]
  exact hK _ _ h
set_option maxRecDepth 100000 in
theorem build_lv (lv : Int) (w : World) : (Instr.build 34 #[(0, .int .i64 lv)]).run Tryd.prog w = .ok (.agg (nodeL lv (fun _ => 0) (fun _ => 0)).toArray) w := by kernel_rfl
/-- the kids read so far -/
def kidsTo (t : ByteArray) (k : Nat) (j : Nat) : Nat := if j < k then saysKid t j else 0
/-- within Parse's loop -/
structure PaN (w : World) (q n : Nat) (L : Nat) (t : ByteArray) (k : Nat) (wx : World) : Prop where
  pa : PaAt w q (t.extract (2 + 2 * k) t.size) wx
  node : Cells n 41 (cellsAt (nodeL (L : Int) (kidsTo t k) (fun _ => 0))) wx
  qn : q < n
set_option maxRecDepth 100000 in
set_option maxHeartbeats 1000000 in
theorem parse_level (s : ByteArray) (lv : Int) (w : World) (h1 : s.size = 64) (h : saysSum s = C.Crc.sum (ahead s).data.toList) (hm : (ahead s).extract 0 1 = ⟨#[78]⟩) (hlv : ((saysLevel (ahead s) : Nat) : Int) ≠ lv) :
    Calls Tryd.prog 41 #[.string s, .int .i64 lv] w fun e w' => e = failed 1 ∧ Below w.heap.size w w' := by
  have HS := Lib.hid (PaAt.start s w h1 h)
  have HAl := alloc_node
  have hz : (ahead s).size = 60 := ahead_size s (by omega)
  have HT := Lib.hid (fun wx (hp : PaAt w (w.heap.size + 3) (ahead s) wx) => hp.text 1 (by omega))
  have HN := Lib.hid (fun wx (hp : PaAt w (w.heap.size + 3) ((ahead s).extract 1 (ahead s).size) wx) => hp.num 1 (by rw [wid1, ByteArray.size_extract]; omega))
  rw [wid1] at HN
  have hne : (((saysLevel (ahead s) : Nat) : Int) != lv) = true := by rw [bne_iff_ne]; exact hlv
  have u1 := i64_small (saysLevel (ahead s)) (by have := saysLevel_lt (ahead s); omega)
  have hbl := build_lv ((saysLevel (ahead s) : Nat) : Int)
  have HL : Hid (num (((ahead s).extract 1 (ahead s).size).data.toList.take 1) = saysLevel (ahead s)) := Lib.hid rfl
  rw [HL.out] at HN
  rw [hm] at HT
  clear hm h hz HL hlv
  obtain ⟨N, hN⟩ : ∃ N, nodeL ((saysLevel (ahead s) : Nat) : Int) (fun _ => 0) (fun _ => 0) = N := ⟨_, rfl⟩
  have HNl : Hid (N.length = 41) := Lib.hid (by rw [← hN]; exact nodeL_len _ _ _)
  have HNo : Hid (N.toArray.all (·.oneCell') = true) := Lib.hid (by rw [← hN]; exact nodeL_one _ _ _)
  have HIN : Hid ((Tryd.prog.info? 34).map (·.size) = some N.toArray.size) := Lib.hid (by rw [List.size_toArray, HNl.out]; kernel_rfl)
  have HN0 : Hid (N[0]? = some (.int .i64 ((saysLevel (ahead s) : Nat) : Int))) := Lib.hid (by rw [← hN]; rfl)
  rw [hN] at hbl
  clear hN
  generalize saysLevel (ahead s) = L at *
  go_enter Tryd.func41, Tryd.ntmps41
  go_wp2_with (refine wpList_alloc rfl 34 rfl _ (HAl _) ?_)
  refine HS.out.mono ?_
  rintro e w1 ⟨rfl, hp, _⟩
  have HP := Lib.hid hp
  clear hp
  go_wp2_with fail
  refine (HT.out w1 HP.out).mono ?_
  rintro e w2 ⟨rfl, hp2⟩
  have HP2 := Lib.hid hp2
  clear hp2
  go_wp2_with fail
  refine (HN.out w2 HP2.out).mono ?_
  rintro e w3 ⟨rfl, hp3⟩
  have HP3 := Lib.hid hp3
  clear hp3
  have HTh : Hid ((w3.alloc (.cells (nodeL 0 (fun _ => 0) (fun _ => 0)).toArray 34)).there w3.heap.size 0 N.toArray.size) := Lib.hid (by
    have h0 := Cells.new w3 41 (cellsAt (nodeL 0 (fun _ => 0) (fun _ => 0))) 34 (nodeL 0 (fun _ => 0) (fun _ => 0)).toArray (fun j hj => by rw [List.getElem?_toArray]; exact cellsAt_get _ j (by rw [nodeL_len]; exact hj))
    exact h0.there 0 _ (by have := HNl.out; simp [this]))
  have HB3 : Hid (Below w.heap.size w ((w3.alloc (.cells (nodeL 0 (fun _ => 0) (fun _ => 0)).toArray 34)).setCells w3.heap.size 0 N)) := Lib.hid (below_row (HP3.out.below.alloc HP3.out.below.size _) N HP3.out.below.size)
  have hcell : ((w3.alloc (.cells (nodeL 0 (fun _ => 0) (fun _ => 0)).toArray 34)).setCells w3.heap.size 0 N).cell? ⟨w3.heap.size, 0, none⟩ = some (.int .i64 (L : Int)) := by
    have h0 := World.rangeAt_setCells_same _ w3.heap.size 0 N (by have z := HTh.out; rwa [List.size_toArray] at z)
    exact h0 0 _ HN0.out
  generalize (nodeL 0 (fun _ => 0) (fun _ => 0)).toArray = ZN at *
  go_upto_region 5 with (first
    | (refine wpList_build1 rfl 34 0 (.tmp 16) rfl (.int .i64 (L : Int)) (.agg N.toArray) rfl (hbl _) ?_)
    | (refine wpList_alloc rfl 34 rfl _ (HAl _) ?_)
    | (refine wpList_store_mid rfl 34 _ _ rfl w3.heap.size 0 N.toArray rfl rfl HTh.out HIN.out HNo.out ?_))
  generalize (w3.alloc (.cells ZN 34)).setCells w3.heap.size 0 N = w4 at *
  go_wp2_with fail
  refine (fail_any 1 _).mono ?_
  rintro e w5 ⟨rfl, rfl⟩
  unfold failed
  go_wp2_with fail
  exact ⟨rfl, rfl, HB3.out⟩
end Go.Proofs.YtheccbnejamhlaaDoor

/-
  node.Parse: the loop, the sum, the noughts.
-/
namespace Go.Proofs.YtheccbnejamhlaaDoor
open Go.RowKit

theorem kidsTo_next (t : ByteArray) (k : Nat) (j : Nat) (h : j ≠ k) : kidsTo t (k + 1) j = kidsTo t k j := by
  unfold kidsTo
  by_cases h1 : j < k
  · rw [if_pos h1, if_pos (by omega)]
  · rw [if_neg h1, if_neg (by omega)]
theorem PaN.num {w : World} {q n L : Nat} {t : ByteArray} {k : Nat} {wx : World} (h : PaN w q n L t k wx) (hk : k < 8) (ht : t.size = 60) :
    Calls Tryd.prog 51 #[.pointer (some ⟨q, 0, none⟩), .int .i64 2] wx fun e w' => e = .returned (.int .u64 (saysKid t k : Nat)) ∧ PaAt w q (t.extract (2 + 2 * (k + 1)) t.size) w' ∧ Cells n 41 (cellsAt (nodeL (L : Int) (kidsTo t k) (fun _ => 0))) w' := by
  have hn := num_ok ⟨q, 0, none⟩ (t.extract (2 + 2 * k) t.size) 2 wx (by rw [wid2, ByteArray.size_extract]; omega) h.pa.cell h.pa.froz
  rw [wid2, ext_ext, show 2 + 2 * k + 2 = 2 + 2 * (k + 1) by omega] at hn
  refine hn.mono ?_
  rintro e w' ⟨rfl, rfl⟩
  exact ⟨rfl, h.pa.set _, h.node.far _ (Nat.ne_of_gt h.qn)⟩
theorem nodeL_next (L : Nat) (t : ByteArray) (k : Nat) (hk : k < 8) (j : Nat) : cellsAt (nodeL (L : Int) (kidsTo t (k + 1)) (fun _ => 0)) j = if j = 1 + k then .int .i64 (saysKid t k : Nat) else cellsAt (nodeL (L : Int) (kidsTo t k) (fun _ => 0)) j := by
  by_cases h9 : 1 ≤ j ∧ j < 9
  · have h1 := nodeL_kid (L : Int) (kidsTo t (k + 1)) (fun _ => 0) (j - 1) (by omega)
    have h2 := nodeL_kid (L : Int) (kidsTo t k) (fun _ => 0) (j - 1) (by omega)
    rw [show 1 + (j - 1) = j by omega] at h1 h2
    unfold cellsAt
    rw [List.getD_eq_getElem?_getD, List.getD_eq_getElem?_getD, h1, h2]
    by_cases e : j = 1 + k
    · rw [if_pos e, show j - 1 = k by omega]
      have : kidsTo t (k + 1) k = saysKid t k := by unfold kidsTo; rw [if_pos (by omega)]
      rw [this]
      rfl
    · rw [if_neg e, kidsTo_next t k (j - 1) (by omega)]
  · rw [if_neg (by omega)]
    unfold cellsAt nodeL
    rw [List.getD_eq_getElem?_getD, List.getD_eq_getElem?_getD]
    rcases Nat.eq_zero_or_pos j with rfl | hp
    · rfl
    · obtain ⟨m, rfl⟩ : ∃ m, j = m + 1 := ⟨j - 1, by omega⟩
      rw [List.getElem?_cons_succ, List.getElem?_cons_succ, List.getElem?_append_right (by rw [kidsL_len]; omega), List.getElem?_append_right (by rw [kidsL_len]; omega), kidsL_len, kidsL_len]
theorem PaN.store {w : World} {q n L : Nat} {t : ByteArray} {k : Nat} {wx : World} (hp : PaAt w q (t.extract (2 + 2 * (k + 1)) t.size) wx) (hc : Cells n 41 (cellsAt (nodeL (L : Int) (kidsTo t k) (fun _ => 0))) wx) (hk : k < 8) (hq : q < n) :
    PaN w q n L t (k + 1) (wx.setCell ⟨n, 1 + k, none⟩ (.int .i64 (saysKid t k : Nat))) := by
  have hlo := hp.lo
  have hqs := World.block_lt_of_cell? wx _ hp.cell
  refine ⟨⟨hp.below.setCell (by show w.heap.size ≤ n; omega) _, hp.res.far _ (by omega), ?_, by rw [World.frozen?_setCell]; exact hp.froz, hlo⟩, ?_, hq⟩
  · rw [World.cell?_setCell_other _ _ _ _ (fun e => by have h9 : n = q := congrArg Addr.block e; omega)]
    exact hp.cell
  · refine hc.set (1 + k) _ (by omega) ?_ fun j hj hne => ?_
    · rw [nodeL_next L t k hk, if_pos rfl]
    · rw [nodeL_next L t k hk, if_neg hne]
end Go.Proofs.YtheccbnejamhlaaDoor

/-
  node.Parse: all of it.
-/
namespace Go.Proofs.YtheccbnejamhlaaDoor
open Go.RowKit

theorem slice_nine (b : Nat) : ∀ w : World, (Instr.sliceAt 24 (.pointer (some ⟨b, 9, none⟩)) none none none).run Tryd.prog w = .ok (.slice (some ⟨b, 9, none⟩) 32 32) w := by
  intro w
  kernel_rfl
/-- the sum that a node's bytes say -/
def textS (t : ByteArray) : ByteArray := (t.extract 18 t.size).extract 0 32
theorem textS_size (t : ByteArray) (h : t.size = 60) : (textS t).size = 32 := by
  unfold textS
  rw [ByteArray.size_extract, ByteArray.size_extract]
  omega
theorem PaN.text32 {w : World} {q n L : Nat} {t : ByteArray} {wx : World} (h : PaN w q n L t 8 wx) (ht : t.size = 60) :
    Calls Tryd.prog 49 #[.pointer (some ⟨q, 0, none⟩), .int .i64 32] wx.drew fun e w' => e = .returned (.string (textS t)) ∧ PaAt w q (t.extract 50 t.size) w' ∧ Cells n 41 (cellsAt (nodeL (L : Int) (kidsTo t 8) (fun _ => 0))) w' := by
  have hn := text_ok ⟨q, 0, none⟩ (t.extract (2 + 2 * 8) t.size) 32 wx.drew (by decide) (by rw [ByteArray.size_extract]; omega) h.pa.cell h.pa.froz
  have e32 : (32 : Int).toNat = 32 := rfl
  rw [e32, ext_ext, show 2 + 2 * 8 + 32 = 50 by omega] at hn
  refine hn.mono ?_
  rintro e w' ⟨rfl, rfl⟩
  have hd : PaAt w q (t.extract (2 + 2 * 8) t.size) wx.drew := ⟨h.pa.below.drew, h.pa.res.drew, h.pa.cell, h.pa.froz, h.pa.lo⟩
  exact ⟨rfl, hd.set _, h.node.drew.far _ (Nat.ne_of_gt h.qn)⟩
theorem copySum {n L : Nat} {kd : Nat → Nat} {wx : World} (h : Cells n 41 (cellsAt (nodeL (L : Int) kd (fun _ => 0))) wx) (x : ByteArray) (hx : x.size = 32) :
    (Builtin.copy_ #[30, 9] 3 #[.slice (some ⟨n, 9, none⟩) 32 32, .string x]).run Tryd.prog wx = .ok (.int .i64 (32 : Nat)) (wx.setCells n 9 (bytesOf (x.data.toList.take 32))) :=
  run_copy_str wx _ _ _ 5 n 9 32 32 32 x (by omega) Tryd.underlying30 (fun w => by kernel_rfl) (fun j hj => by rw [(h.2 (9 + j) (by omega)).1]; rfl) (fun j hj => (h.2 (9 + j) (by omega)).2)
/-- byte j of the sum that they say -/
def byteS (t : ByteArray) (j : Nat) : Nat := ((textS t).data.toList.getD j 0).toNat
theorem byteS_lt (t : ByteArray) (j : Nat) : byteS t j < 256 := by unfold byteS; exact UInt8.toNat_lt _
theorem cellsAt_sum (lv : Int) (kd f : Nat → Nat) (j : Nat) (h9 : 9 ≤ j) (h : j < 41) : cellsAt (nodeL lv kd f) j = .int .u8 (f (j - 9) : Nat) := by
  obtain ⟨m, rfl⟩ : ∃ m, j = m + 1 := ⟨j - 1, by omega⟩
  unfold cellsAt nodeL
  rw [List.getD_eq_getElem?_getD, List.getElem?_cons_succ, List.getElem?_append_right (by rw [kidsL_len]; omega), kidsL_len, arr_at f (m - 8) (by omega), show m + 1 - 9 = m - 8 by omega]
  rfl
theorem cellsAt_kids (lv : Int) (kd f g : Nat → Nat) (j : Nat) (h : j < 9) : cellsAt (nodeL lv kd f) j = cellsAt (nodeL lv kd g) j := by
  unfold cellsAt nodeL
  rw [List.getD_eq_getElem?_getD, List.getD_eq_getElem?_getD]
  rcases Nat.eq_zero_or_pos j with rfl | hp
  · rfl
  · obtain ⟨m, rfl⟩ : ∃ m, j = m + 1 := ⟨j - 1, by omega⟩
    rw [List.getElem?_cons_succ, List.getElem?_cons_succ, List.getElem?_append_left (by rw [kidsL_len]; omega), List.getElem?_append_left (by rw [kidsL_len]; omega)]
theorem Cells.summed {n L : Nat} {kd : Nat → Nat} {t : ByteArray} {wx : World} (h : Cells n 41 (cellsAt (nodeL (L : Int) kd (fun _ => 0))) wx) (ht : (textS t).size = 32) :
    Cells n 41 (cellsAt (nodeL (L : Int) kd (byteS t))) (wx.setCells n 9 (bytesOf ((textS t).data.toList.take 32))) := by
  have hl : ((textS t).data.toList.take 32).length = 32 := by
    rw [List.length_take]
    have : (textS t).data.toList.length = (textS t).size := by simp
    omega
  have hl2 : (bytesOf ((textS t).data.toList.take 32)).length = 32 := by unfold bytesOf; rw [List.length_map, hl]
  refine (h.splice 9 _ (by omega)).congr fun j hj => ?_
  rw [hl2]
  by_cases hc : 9 ≤ j ∧ j < 9 + 32
  · rw [if_pos hc, cellsAt_sum _ _ _ j hc.1 hj]
    unfold bytesOf byteS
    rw [List.getD_eq_getElem?_getD, List.getElem?_map, List.getElem?_take_of_lt (by omega), List.getD_eq_getElem?_getD]
    have hlt : j - 9 < (textS t).data.toList.length := by
      have : (textS t).data.toList.length = (textS t).size := by simp
      omega
    rw [List.getElem?_eq_getElem hlt]
    rfl
  · rw [if_neg hc]
    exact cellsAt_kids _ _ _ _ j (by omega)
theorem PaAt.row {w : World} {q : Nat} {r : ByteArray} {wx : World} (h : PaAt w q r wx) {n : Nat} (o : Nat) (l : List Value) (hq : q < n) : PaAt w q r (wx.setCells n o l) := by
  have hlo := h.lo
  have hb : Below n wx (wx.setCells n o l) := below_row (Below.refl n wx) l (Nat.le_refl n)
  exact ⟨below_row h.below l (by omega), h.res.farRow l (by omega), by rw [hb.cell (p := ⟨q, 0, none⟩) hq]; exact h.cell, by rw [hb.frozen (p := ⟨q, 0, none⟩) hq]; exact h.froz, hlo⟩
theorem PaAt.alloc {w : World} {q : Nat} {r : ByteArray} {wx : World} (h : PaAt w q r wx) (o : Obj) : PaAt w q r (wx.alloc o) := by
  have hq := World.block_lt_of_cell? wx _ h.cell
  have hb : Below wx.heap.size wx (wx.alloc o) := (Below.refl _ wx).alloc (Nat.le_refl _) o
  exact ⟨h.below.alloc h.below.size o, h.res.alloc o, by rw [hb.cell (p := ⟨q, 0, none⟩) hq]; exact h.cell, by rw [hb.frozen (p := ⟨q, 0, none⟩) hq]; exact h.froz, h.lo⟩
theorem first_not (r : ByteArray) : ∀ m, m ≤ r.size → (∀ k (h : k < r.size), k < m → r[k] = 0) ∨ ∃ j, ∃ hj : j < r.size, r[j] ≠ 0 ∧ ∀ k (h : k < j), r[k] = 0
  | 0, _ => Or.inl fun k _ h => absurd h (by omega)
  | m + 1, hm => by
    rcases first_not r m (by omega) with h | h
    · by_cases e : r[m] = 0
      · refine Or.inl fun k hk hkm => ?_
        rcases Nat.lt_or_ge k m with h1 | h1
        · exact h k hk h1
        · obtain rfl : k = m := by omega
          exact e
      · exact Or.inr ⟨m, by omega, e, fun k hk => h k (by omega) hk⟩
    · exact Or.inr h
set_option maxRecDepth 100000 in
set_option maxHeartbeats 600000 in
theorem parse_last (s : ByteArray) (w : World) (h1 : s.size = 64) (h : saysSum s = C.Crc.sum (ahead s).data.toList) (hm : (ahead s).extract 0 1 = ⟨#[78]⟩) :
    Calls Tryd.prog 41 #[.string s, .int .i64 ((saysLevel (ahead s) : Nat) : Int)] w fun e w' => Below w.heap.size w w' ∧ ((∀ k (h : k < ((ahead s).extract 50 (ahead s).size).size), ((ahead s).extract 50 (ahead s).size)[k] = 0) → e = .returned (.agg (nodeL ((saysLevel (ahead s) : Nat) : Int) (kidsTo (ahead s) 8) (byteS (ahead s))).toArray)) ∧ ((¬ ∀ k (h : k < ((ahead s).extract 50 (ahead s).size).size), ((ahead s).extract 50 (ahead s).size)[k] = 0) → e = failed 1) := by
  obtain ⟨r, hr⟩ : ∃ r, (ahead s).extract 50 (ahead s).size = r := ⟨_, rfl⟩
  obtain ⟨NN, hNN⟩ : ∃ NN, nodeL ((saysLevel (ahead s) : Nat) : Int) (kidsTo (ahead s) 8) (byteS (ahead s)) = NN := ⟨_, rfl⟩
  have HR := Lib.hid hr
  have HNN := Lib.hid hNN
  rw [hr, hNN]
  clear hr hNN
  have HS := Lib.hid (PaAt.start s w h1 h)
  have HAl := alloc_node
  have hz : (ahead s).size = 60 := ahead_size s (by omega)
  have HT := Lib.hid (fun wx (hp : PaAt w (w.heap.size + 3) (ahead s) wx) => hp.text 1 (by omega))
  have HN := Lib.hid (fun wx (hp : PaAt w (w.heap.size + 3) ((ahead s).extract 1 (ahead s).size) wx) => hp.num 1 (by rw [wid1, ByteArray.size_extract]; omega))
  rw [wid1] at HN
  have hne : (((saysLevel (ahead s) : Nat) : Int) != ((saysLevel (ahead s) : Nat) : Int)) = false := by simp
  have HTz := Lib.hid hz
  have u1 := i64_small (saysLevel (ahead s)) (by have := saysLevel_lt (ahead s); omega)
  have hbl := build_lv ((saysLevel (ahead s) : Nat) : Int)
  have HL : Hid (num (((ahead s).extract 1 (ahead s).size).data.toList.take 1) = saysLevel (ahead s)) := Lib.hid rfl
  rw [HL.out] at HN
  rw [hm] at HT
  clear hm h hz HL
  obtain ⟨N, hN⟩ : ∃ N, nodeL ((saysLevel (ahead s) : Nat) : Int) (fun _ => 0) (fun _ => 0) = N := ⟨_, rfl⟩
  have HNl : Hid (N.length = 41) := Lib.hid (by rw [← hN]; exact nodeL_len _ _ _)
  have HNo : Hid (N.toArray.all (·.oneCell') = true) := Lib.hid (by rw [← hN]; exact nodeL_one _ _ _)
  have HIN : Hid ((Tryd.prog.info? 34).map (·.size) = some N.toArray.size) := Lib.hid (by rw [List.size_toArray, HNl.out]; kernel_rfl)
  have HN0 : Hid (N[0]? = some (.int .i64 ((saysLevel (ahead s) : Nat) : Int))) := Lib.hid (by rw [← hN]; rfl)
  have HNe := Lib.hid hN
  rw [hN] at hbl
  clear hN
  generalize saysLevel (ahead s) = L at *
  go_enter Tryd.func41, Tryd.ntmps41
  go_wp2_with (refine wpList_alloc rfl 34 rfl _ (HAl _) ?_)
  refine HS.out.mono ?_
  rintro e w1 ⟨rfl, hp, _⟩
  have HP := Lib.hid hp
  clear hp
  go_wp2_with fail
  refine (HT.out w1 HP.out).mono ?_
  rintro e w2 ⟨rfl, hp2⟩
  have HP2 := Lib.hid hp2
  clear hp2
  go_wp2_with fail
  refine (HN.out w2 HP2.out).mono ?_
  rintro e w3 ⟨rfl, hp3⟩
  have HP3 := Lib.hid hp3
  clear hp3
  have HTh : Hid ((w3.alloc (.cells (nodeL 0 (fun _ => 0) (fun _ => 0)).toArray 34)).there w3.heap.size 0 N.toArray.size) := Lib.hid (by
    have h0 := Cells.new w3 41 (cellsAt (nodeL 0 (fun _ => 0) (fun _ => 0))) 34 (nodeL 0 (fun _ => 0) (fun _ => 0)).toArray (fun j hj => by rw [List.getElem?_toArray]; exact cellsAt_get _ j (by rw [nodeL_len]; exact hj))
    exact h0.there 0 _ (by have := HNl.out; simp [this]))
  have HB3 : Hid (Below w.heap.size w ((w3.alloc (.cells (nodeL 0 (fun _ => 0) (fun _ => 0)).toArray 34)).setCells w3.heap.size 0 N)) := Lib.hid (below_row (HP3.out.below.alloc HP3.out.below.size _) N HP3.out.below.size)
  have hcell : ((w3.alloc (.cells (nodeL 0 (fun _ => 0) (fun _ => 0)).toArray 34)).setCells w3.heap.size 0 N).cell? ⟨w3.heap.size, 0, none⟩ = some (.int .i64 (L : Int)) := by
    have h0 := World.rangeAt_setCells_same _ w3.heap.size 0 N (by have z := HTh.out; rwa [List.size_toArray] at z)
    exact h0 0 _ HN0.out
  have HQn : Hid (w.heap.size + 3 < w3.heap.size) := Lib.hid (World.block_lt_of_cell? w3 _ HP3.out.cell)
  have HN4 : Hid (PaN w (w.heap.size + 3) w3.heap.size L (ahead s) 0 ((w3.alloc (.cells (nodeL 0 (fun _ => 0) (fun _ => 0)).toArray 34)).setCells w3.heap.size 0 N)) := Lib.hid (by
    have hp := HP3.out
    rw [ext_ext] at hp
    have h0 := Cells.new w3 41 (cellsAt (nodeL 0 (fun _ => 0) (fun _ => 0))) 34 (nodeL 0 (fun _ => 0) (fun _ => 0)).toArray (fun j hj => by rw [List.getElem?_toArray]; exact cellsAt_get _ j (by rw [nodeL_len]; exact hj))
    have hk : kidsTo (ahead s) 0 = fun _ => 0 := funext fun j => by unfold kidsTo; rw [if_neg (by omega)]
    refine ⟨(hp.alloc _).row 0 N HQn.out, ?_, HQn.out⟩
    rw [hk, HNe.out]
    exact h0.row N (cellsAt N) HNl.out fun j hj => cellsAt_get N j (by rw [HNl.out]; exact hj))
  generalize (nodeL 0 (fun _ => 0) (fun _ => 0)).toArray = ZN at *
  go_upto_region 5 with (first
    | (refine wpList_build1 rfl 34 0 (.tmp 16) rfl (.int .i64 (L : Int)) (.agg N.toArray) rfl (hbl _) ?_)
    | (refine wpList_alloc rfl 34 rfl _ (HAl _) ?_)
    | (refine wpList_store_mid rfl 34 _ _ rfl w3.heap.size 0 N.toArray rfl rfl HTh.out HIN.out HNo.out ?_))
  generalize (w3.alloc (.cells ZN 34)).setCells w3.heap.size 0 N = w4 at *
  generalize w3.heap.size = n at *
  generalize w.heap.size + 3 = q at *
  go_wp2_with fail
  go_loopw [23] (fun i wx => ∃ k : Nat, k ≤ 8 ∧ i = .int .i64 (k : Int) ∧ PaN w q n L (ahead s) k wx) (fun i _ => 8 - (intOf i).toNat)
  case atStart => exact ⟨0, by omega, rfl, HN4.out⟩
  case round =>
    obtain ⟨k, hk, rfl, hd⟩ := hrel
    have HD := Lib.hid hd
    clear hd HN4
    by_cases hlt : k < 8
    · have i0 : (k : Int) < 8 := by omega
      have HNm := Lib.hid (HD.out.num hlt HTz.out)
      have u2 := i64_small (saysKid (ahead s) k) (saysKid_lt _ _)
      have HK := Lib.hid hlt
      clear hlt hk
      go_wp2_with fail
      refine HNm.out.mono ?_
      rintro e w5 ⟨rfl, hp5, hc5⟩
      have HS5 := Lib.hid (PaN.store hp5 hc5 HK.out HQn.out)
      have hcell5 := (hc5.2 (1 + k) (by have := HK.out; omega)).1
      have hfroz5 := (hc5.2 (1 + k) (by have := HK.out; omega)).2
      clear hp5 hc5 HNm
      go_wp2_with fail
      go_roundw
      case rel => exact ⟨k + 1, by have := HK.out; omega, by go_num, HS5.out⟩
      case measure => simp [intOf]; have := HK.out; omega
    · have i0 : ¬ (k : Int) < 8 := by omega
      obtain rfl : k = 8 := by omega
      go_upto_region 12 with fail
      clear i0 hlt hk
      have hsl := slice_nine n
      refine wp_region_held_drew (S := fun _ => True) (by kernel_rfl) trivial (fun _ => ?_)
      refine wpAnyH_take (i := 0) (oi := { dst := some 33, op := Op.fieldAddr 34 (Operand.tmp 6) 2, type := 0, pos := "node.go:60", after := #[], guard := none }) (v := ?_) rfl (by kernel_rfl) (by kernel_rfl) (by kernel_rfl) (fun _ _ _ h => h) (Or.inl ⟨by rfl, ?_⟩) trivial ?_
      rotate_left
      · (intro wz hSw; go_simp; try with_reducible rfl)
      try simp only [Act.put, List.setIfInBounds_toArray, List.set_cons_zero, List.set_cons_succ]
      refine wpAnyH_take (i := 1) (oi := { dst := some 34, op := Op.slice 24 (Operand.tmp 33) none none none, type := 30, pos := "node.go:60", after := #[{ on := 0, ground := Ground.data }], guard := none }) (v := ?_) rfl (by kernel_rfl) (by kernel_rfl) (by kernel_rfl) (fun _ _ _ h => h) (Or.inl ⟨by rfl, ?_⟩) trivial ?_
      rotate_left
      · (intro wz hSw; go_simp; try with_reducible rfl)
      try simp only [Act.put, List.setIfInBounds_toArray, List.set_cons_zero, List.set_cons_succ]
      refine wpAnyH_take (i := 2) (oi := { dst := some 35, op := Op.move (Operand.tmp 5), type := 84, pos := "node.go:60", after := #[], guard := none }) (v := ?_) rfl (by kernel_rfl) (by kernel_rfl) (by kernel_rfl) (fun _ _ _ h => h) (Or.inl ⟨by rfl, ?_⟩) trivial ?_
      rotate_left
      · (intro wz hSw; go_simp; try with_reducible rfl)
      try simp only [Act.put, List.setIfInBounds_toArray, List.set_cons_zero, List.set_cons_succ]
      refine wpAnyH_ready (rs := [3]) (by kernel_rfl) (by simp) ?_
      refine AllReadyH.cons (o := { dst := some 36, op := Op.call { callee := Callee.value (Operand.func 49), args := #[Operand.tmp 35, Operand.const (Value.int IntKind.i64 32)], argTypes := #[84, 3] }, type := 9, pos := "node.go:60", after := #[{ on := 2, ground := Ground.data }], guard := none }) rfl (fun K hK => ?_) AllReadyH.nil
      go_simp
      refine (HD.out.text32 HTz.out).mono ?_
      rintro e w5 ⟨rfl, hp5, hc5⟩
      have HP5 := Lib.hid hp5
      have HC5 := Lib.hid hc5
      have HCp := Lib.hid (copySum hc5 (textS (ahead s)) (textS_size _ HTz.out))
      clear hp5 hc5
      try go_wp2_with fail
      refine hK.out _ _ trivial (fun _ => ?_)
      clear hK K
      try simp only [List.setIfInBounds_toArray, List.set_cons_zero, List.set_cons_succ]
      refine wpAnyH_ready (rs := [4]) (by kernel_rfl) (by simp) ?_
      refine AllReadyH.cons (o := { dst := some 37, op := Op.call { callee := Callee.builtin Builtin.copy, args := #[Operand.tmp 34, Operand.tmp 36], argTypes := #[30, 9] }, type := 3, pos := "node.go:60", after := #[{ on := 1, ground := Ground.data }, { on := 3, ground := Ground.data }, { on := 3, ground := Ground.chain }], guard := none }) rfl (fun K hK => ?_) AllReadyH.nil
      have hcp := HCp.out
      go_simp
      refine hK.out _ _ trivial (fun _ => ?_)
      clear hK K
      refine wpAnyH_done (by kernel_rfl) ?_ _
      have HP6 := Lib.hid (HP5.out.row 9 (bytesOf ((textS (ahead s)).data.toList.take 32)) HQn.out)
      have HC6 := Lib.hid (Cells.summed HC5.out (textS_size _ HTz.out))
      have hrs : ((ahead s).extract 50 (ahead s).size).size ≤ maxLen := by
        have := HTz.out
        rw [ByteArray.size_extract]
        unfold maxLen
        omega
      clear HP5 HC5 HCp HD
      generalize w5.setCells n 9 (bytesOf ((textS (ahead s)).data.toList.take 32)) = w6 at *
      rw [HR.out] at HP6 hrs
      by_cases hz0 : ∀ k (h : k < r.size), r[k] = 0
      · have HZ := Lib.hid (zero_ok ⟨q, 0, none⟩ r w6 hz0 hrs HP6.out.cell HP6.out.froz)
        have HP7 := Lib.hid (HP6.out.set ⟨#[]⟩)
        have HC7 := Lib.hid (HC6.out.far (c := q) (k := 0) (.string ⟨#[]⟩) (Nat.ne_of_gt HQn.out))
        have HZ0 := Lib.hid hz0
        clear hz0 hrs HP6 HC6
        have HNNl : Hid (NN.length = 41) := Lib.hid (by rw [← HNN.out]; exact nodeL_len _ _ _)
        have HNNo : Hid (NN.toArray.all (·.oneCell') = true) := Lib.hid (by rw [← HNN.out]; exact nodeL_one _ _ _)
        have HI1 : Hid ((Tryd.prog.info? 34).map (·.size) = some NN.toArray.size) := Lib.hid (by rw [List.size_toArray, HNNl.out]; kernel_rfl)
        have HI2 : Hid ((Tryd.prog.info? 34).map (·.size) = some NN.length) := Lib.hid (by rw [HNNl.out]; kernel_rfl)
        rw [HNN.out] at HC7
        go_wp2_with fail
        refine HZ.out.mono ?_
        rintro e w7 ⟨rfl, rfl⟩
        generalize w6.setCell ⟨q, 0, none⟩ (.string ⟨#[]⟩) = w7 at *
        have hr7 := Cells.all HNNl.out HC7.out
        have HTh7 : Hid (w7.there w.heap.size 0 NN.toArray.size) := Lib.hid (HP7.out.res.there 0 _ (by have := HNNl.out; simp [this]))
        go_wp2_with (first
          | (with_reducible refine wpList_load_mid rfl 34 _ rfl n 0 rfl NN _ hr7 Tryd.underlying34 rfl HI2.out ?_)
          | (with_reducible refine wpList_store_mid rfl 34 _ _ rfl w.heap.size 0 NN.toArray rfl rfl HTh7.out HI1.out HNNo.out ?_))
        refine bodyPost_ret (v := .agg NN.toArray) ?_ rfl ⟨below_row HP7.out.below NN (Nat.le_refl _), fun _ => rfl, fun h => absurd HZ0.out h⟩
        exact results_mid Tryd.results41 _ _ w.heap.size 0 NN _ rfl (World.rangeAt_setCells_same _ _ _ _ (by have z := HTh7.out; rwa [List.size_toArray] at z)) Tryd.underlying34 rfl HI2.out
      · obtain ⟨j, hj, hne0, hlt0⟩ := (first_not r r.size (Nat.le_refl _)).resolve_left fun h => hz0 fun k hk => h k hk hk
        have HZ := Lib.hid (zero_not ⟨q, 0, none⟩ r w6 j hj hne0 hlt0 hrs HP6.out.cell)
        have HZ0 := Lib.hid hz0
        clear hz0 hne0 hlt0 hrs HC6
        go_wp2_with fail
        refine HZ.out.mono ?_
        rintro e w7 ⟨rfl, rfl⟩
        unfold failed
        go_wp2_with fail
        exact ⟨rfl, HP6.out.below, fun h => absurd h HZ0.out, fun _ => rfl⟩
end Go.Proofs.YtheccbnejamhlaaDoor
