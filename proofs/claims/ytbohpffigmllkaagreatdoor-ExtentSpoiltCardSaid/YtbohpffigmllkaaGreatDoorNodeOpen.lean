/-
  seal.Open, of any text.
-/
import Derived.Test.YtbohpffigmllkaaGreatDoorNodeInEnds
import Derived.Test.YtbohpffigmllkaaGreatDoorNodeSeal
namespace Go.Proofs.YtbohpffigmllkaaGreatDoor
open Go.RowKit

/-- what stands ahead of the sum -/
def ahead (s : ByteArray) : ByteArray := s.extract 0 60
/-- the sum that a text says it has -/
def saysSum (s : ByteArray) : Nat := num ((s.extract 60 s.size).data.toList.take 4)
theorem crc_of (b : Nat) (s : ByteArray) (w : World) (hs : s.size ≤ maxLen) (hc : w.cell? ⟨b, 0, none⟩ = some (.string s)) :
    Calls Tryz.prog 97 #[.slice (some ⟨b, 0, none⟩) 1 1] w fun e w' => e = .returned (.int .u32 (C.Crc.sum s.data.toList : Nat)) ∧ w = w' := crc_one b s.data.toList w hs hc
theorem sealOpen_short (s : ByteArray) (w : World) (h : s.size < 60) : Calls Tryz.prog 130 #[.string s] w fun e w' => e = failed 2 ∧ Below w.heap.size w w' := by
  go_enter Tryz.func130, Tryz.ntmps130
  go_wp2_with fail
  refine (read_any s _).mono ?_
  rintro e w1 ⟨rfl, rfl⟩
  go_wp2_with fail
  refine (text_end ⟨w.heap.size, 0, none⟩ s 60 _ (by decide) (by omega) (boxNew rfl)).mono ?_
  rintro e w2 ⟨rfl, rfl⟩
  unfold failed
  go_wp2_with fail
  exact ⟨rfl, rfl, (Below.refl _ _).alloc (Nat.le_refl _) _⟩
/-- the world behind Read, Text and Num -/
structure OpAt (s : ByteArray) (w W W1 W2 : World) : Prop where
  read : w.alloc (.cells #[.string s] 183) = W
  text : Calls Tryz.prog 131 #[.pointer (some ⟨w.heap.size, 0, none⟩), .int .i64 60] W fun e w' => e = .returned (.string (ahead s)) ∧ W1 = w'
  below1 : Below w.heap.size w W1
  size1 : W1.heap.size = w.heap.size + 1
  cell1 : W1.cell? ⟨w.heap.size, 0, none⟩ = some (.string (s.extract 60 s.size))
  froz1 : W1.frozen? ⟨w.heap.size, 0, none⟩ = false
  set2 : W1.setCell ⟨w.heap.size, 0, none⟩ (.string ((s.extract 60 s.size).extract 4 (s.extract 60 s.size).size)) = W2
theorem opAt (s : ByteArray) (w : World) (h : 60 ≤ s.size) : ∃ W W1 W2, OpAt s w W W1 W2 := by
  have hc : (w.alloc (.cells #[.string s] 183)).cell? ⟨w.heap.size, 0, none⟩ = some (.string s) := boxNew rfl
  have hf : (w.alloc (.cells #[.string s] 183)).frozen? ⟨w.heap.size, 0, none⟩ = false := boxFree rfl
  refine ⟨_, (w.alloc (.cells #[.string s] 183)).setCell ⟨w.heap.size, 0, none⟩ (.string (s.extract 60 s.size)), _, rfl, text_ok ⟨w.heap.size, 0, none⟩ s 60 _ (by decide) (by omega) hc hf, ((Below.refl _ w).alloc (Nat.le_refl _) _).setCell (Nat.le_refl _) _, ?_, World.cell?_setCell_same _ _ _ hc, by rw [World.frozen?_setCell]; exact hf, rfl⟩
  rw [World.size_setCell, World.size_alloc]
theorem sealOpen_less (s : ByteArray) (w : World) (h1 : 60 ≤ s.size) (h : s.size < 64) : Calls Tryz.prog 130 #[.string s] w fun e w' => e = failed 2 ∧ Below w.heap.size w w' := by
  have hz : (s.extract 60 s.size).size < wid 4 := by rw [ByteArray.size_extract, wid4]; omega
  obtain ⟨W, W1, W2, O⟩ := opAt s w h1
  have HO := Lib.hid O
  clear O
  go_enter Tryz.func130, Tryz.ntmps130
  go_wp2_with fail
  refine (read_any s _).mono ?_
  rintro e w1 ⟨rfl, rfl⟩
  rw [HO.out.read]
  go_wp2_with fail
  refine HO.out.text.mono ?_
  rintro e w2 ⟨rfl, rfl⟩
  go_wp2_with fail
  refine (num_end ⟨w.heap.size, 0, none⟩ (s.extract 60 s.size) 4 W1 hz HO.out.cell1).mono ?_
  rintro e w3 ⟨rfl, rfl⟩
  unfold failed
  go_wp2_with fail
  exact ⟨rfl, rfl, HO.out.below1⟩
theorem rest_size (s : ByteArray) : (s.extract 60 s.size).size = s.size - 60 := by rw [ByteArray.size_extract]; omega
theorem ahead_size (s : ByteArray) (h : 60 ≤ s.size) : (ahead s).size = 60 := by unfold ahead; rw [ByteArray.size_extract]; omega
theorem numOpen (s : ByteArray) (w W W1 W2 : World) (h : 64 ≤ s.size) (O : OpAt s w W W1 W2) :
    Calls Tryz.prog 132 #[.pointer (some ⟨w.heap.size, 0, none⟩), .int .i64 4] W1 fun e w' => e = .returned (.int .u64 (saysSum s : Nat)) ∧ W2 = w' := by
  have hn := num_ok ⟨w.heap.size, 0, none⟩ (s.extract 60 s.size) 4 W1 (by rw [wid4, rest_size]; omega) O.cell1 O.froz1
  rw [wid4, O.set2] at hn
  exact hn
theorem two (s : ByteArray) (w W W1 W2 : World) (O : OpAt s w W W1 W2) : Below w.heap.size w W2 ∧ W2.heap.size = w.heap.size + 1 ∧ W2.cell? ⟨w.heap.size, 0, none⟩ = some (.string ((s.extract 60 s.size).extract 4 (s.extract 60 s.size).size)) := by
  rw [← O.set2]
  exact ⟨O.below1.setCell (Nat.le_refl _) _, by rw [World.size_setCell, O.size1], World.cell?_setCell_same _ _ _ O.cell1⟩
set_option maxHeartbeats 1000000 in
theorem sealOpen_sum (s : ByteArray) (w : World) (h1 : 64 ≤ s.size) (h : saysSum s ≠ C.Crc.sum (ahead s).data.toList) : Calls Tryz.prog 130 #[.string s] w fun e w' => e = failed 11 ∧ Below w.heap.size w w' := by
  obtain ⟨W, W1, W2, O⟩ := opAt s w (by omega)
  have HNm := Lib.hid (numOpen s w W W1 W2 h1 O)
  have HCr := Lib.hid (fun b wx hc => crc_of b (ahead s) wx (by rw [ahead_size s (by omega)]; decide) hc)
  obtain ⟨hb2, hs2, hc2⟩ := two s w W W1 W2 O
  have u1 := u32_as_u64 _ (crc_lt (ahead s).data.toList)
  have hne : (((saysSum s : Nat) : Int) != ((C.Crc.sum (ahead s).data.toList : Nat) : Int)) = true := by rw [bne_iff_ne]; omega
  have hB := Lib.hid (hb2.alloc (by omega) (.cells #[.string (ahead s)] 9))
  have HO := Lib.hid O
  have HT := Lib.hid O.text
  clear O hb2 hs2 hc2 h h1
  generalize saysSum s = K at *
  generalize ahead s = t at *
  generalize C.Crc.sum t.data.toList = L at *
  go_enter Tryz.func130, Tryz.ntmps130
  go_wp2_with fail
  refine (read_any s _).mono ?_
  rintro e w1 ⟨rfl, rfl⟩
  rw [HO.out.read]
  go_wp2_with fail
  refine HT.out.mono ?_
  rintro e w2 ⟨rfl, rfl⟩
  go_wp2_with fail
  refine HNm.out.mono ?_
  rintro e w3 ⟨rfl, rfl⟩
  go_wp2_with fail
  refine (HCr.out W2.heap.size _ (by rw [World.cell?_alloc_new]; rfl)).mono ?_
  rintro e w4 ⟨rfl, rfl⟩
  go_wp2_with fail
  refine (fail_any 11 _).mono ?_
  rintro e w5 ⟨rfl, rfl⟩
  unfold failed
  go_wp2_with fail
  exact ⟨rfl, rfl, hB.out⟩
set_option maxHeartbeats 1000000 in
theorem sealOpen_form (s : ByteArray) (w : World) (h1 : 64 < s.size) (h : saysSum s = C.Crc.sum (ahead s).data.toList) : Calls Tryz.prog 130 #[.string s] w fun e w' => e = failed 1 ∧ Below w.heap.size w w' := by
  obtain ⟨W, W1, W2, O⟩ := opAt s w (by omega)
  have HNm := Lib.hid (numOpen s w W W1 W2 (by omega) O)
  have HCr := Lib.hid (fun b wx hc => crc_of b (ahead s) wx (by rw [ahead_size s (by omega)]; decide) hc)
  obtain ⟨hb2, hs2, hc2⟩ := two s w W W1 W2 O
  have u1 := u32_as_u64 _ (crc_lt (ahead s).data.toList)
  have hne : (((C.Crc.sum (ahead s).data.toList : Nat) : Int) != ((C.Crc.sum (ahead s).data.toList : Nat) : Int)) = false := by simp
  have hB := Lib.hid (hb2.alloc (by omega) (.cells #[.string (ahead s)] 9))
  have HO := Lib.hid O
  have HT := Lib.hid O.text
  have HC2 : Hid ((W2.alloc (.cells #[.string (ahead s)] 9)).cell? ⟨w.heap.size, 0, none⟩ = some (.string ((s.extract 60 s.size).extract 4 (s.extract 60 s.size).size))) := Lib.hid (by rw [World.cell?_alloc_past (hn := World.block_lt_of_cell? W2 _ hc2)]; exact hc2)
  have HS3 : Hid ((W2.alloc (.cells #[.string (ahead s)] 9)).heap.size = w.heap.size + 2) := Lib.hid (by rw [World.size_alloc, hs2])
  have HR : Hid ((!((s.extract 60 s.size).extract 4 (s.extract 60 s.size).size).toList.isEmpty) = true) := Lib.hid (by
    have hz : ((s.extract 60 s.size).extract 4 (s.extract 60 s.size).size).toList.length = s.size - 64 := by
      rw [ByteArray.toList_eq]
      show ((s.extract 60 s.size).extract 4 (s.extract 60 s.size).size).size = _
      rw [ByteArray.size_extract, rest_size]
      omega
    rw [Bool.not_eq_true', List.isEmpty_eq_false_iff]
    intro e
    rw [e] at hz
    simp at hz
    omega)
  clear O hb2 hs2 hc2 h1
  rw [h] at HNm
  clear h
  generalize (s.extract 60 s.size).extract 4 (s.extract 60 s.size).size = r at *
  generalize ahead s = t at *
  generalize C.Crc.sum t.data.toList = L at *
  go_enter Tryz.func130, Tryz.ntmps130
  go_wp2_with fail
  refine (read_any s _).mono ?_
  rintro e w1 ⟨rfl, rfl⟩
  rw [HO.out.read]
  go_wp2_with fail
  refine HT.out.mono ?_
  rintro e w2 ⟨rfl, rfl⟩
  go_wp2_with fail
  refine HNm.out.mono ?_
  rintro e w3 ⟨rfl, rfl⟩
  go_wp2_with fail
  refine (HCr.out W2.heap.size _ (by rw [World.cell?_alloc_new]; rfl)).mono ?_
  rintro e w4 ⟨rfl, rfl⟩
  generalize W2.alloc (.cells #[.string t] 9) = W3 at *
  go_wp2_with fail
  refine (done_not ⟨w.heap.size, 0, none⟩ r W3 HR.out HC2.out).mono ?_
  rintro e w5 ⟨rfl, rfl⟩
  unfold failed
  go_wp2_with fail
  exact ⟨rfl, rfl, hB.out⟩
set_option maxHeartbeats 1000000 in
theorem sealOpen_ok (s : ByteArray) (w : World) (h1 : s.size = 64) (h : saysSum s = C.Crc.sum (ahead s).data.toList) : Calls Tryz.prog 130 #[.string s] w fun e w' =>
    e = .returned (.pointer (some ⟨w.heap.size + 2, 0, none⟩)) ∧ Below w.heap.size w w' ∧ w'.cell? ⟨w.heap.size + 2, 0, none⟩ = some (.string (ahead s)) ∧ w'.frozen? ⟨w.heap.size + 2, 0, none⟩ = false ∧ w'.heap.size = w.heap.size + 3 := by
  obtain ⟨W, W1, W2, O⟩ := opAt s w (by omega)
  have HNm := Lib.hid (numOpen s w W W1 W2 (by omega) O)
  have HCr := Lib.hid (fun b wx hc => crc_of b (ahead s) wx (by rw [ahead_size s (by omega)]; decide) hc)
  obtain ⟨hb2, hs2, hc2⟩ := two s w W W1 W2 O
  have u1 := u32_as_u64 _ (crc_lt (ahead s).data.toList)
  have hne : (((C.Crc.sum (ahead s).data.toList : Nat) : Int) != ((C.Crc.sum (ahead s).data.toList : Nat) : Int)) = false := by simp
  have hB := Lib.hid (hb2.alloc (by omega) (.cells #[.string (ahead s)] 9))
  have HO := Lib.hid O
  have HT := Lib.hid O.text
  have HC2 : Hid ((W2.alloc (.cells #[.string (ahead s)] 9)).cell? ⟨w.heap.size, 0, none⟩ = some (.string ((s.extract 60 s.size).extract 4 (s.extract 60 s.size).size))) := Lib.hid (by rw [World.cell?_alloc_past (hn := World.block_lt_of_cell? W2 _ hc2)]; exact hc2)
  have HS3 : Hid ((W2.alloc (.cells #[.string (ahead s)] 9)).heap.size = w.heap.size + 2) := Lib.hid (by rw [World.size_alloc, hs2])
  have HR : Hid ((s.extract 60 s.size).extract 4 (s.extract 60 s.size).size = ⟨#[]⟩) := Lib.hid (by
    have hz : ((s.extract 60 s.size).extract 4 (s.extract 60 s.size).size).size = 0 := by
      rw [ByteArray.size_extract, rest_size]
      omega
    exact ByteArray.ext (Array.eq_empty_of_size_eq_zero hz))
  clear O hb2 hs2 hc2 h1
  rw [h] at HNm
  clear h
  generalize (s.extract 60 s.size).extract 4 (s.extract 60 s.size).size = r at *
  generalize ahead s = t at *
  generalize C.Crc.sum t.data.toList = L at *
  go_enter Tryz.func130, Tryz.ntmps130
  go_wp2_with fail
  refine (read_any s _).mono ?_
  rintro e w1 ⟨rfl, rfl⟩
  rw [HO.out.read]
  go_wp2_with fail
  refine HT.out.mono ?_
  rintro e w2 ⟨rfl, rfl⟩
  go_wp2_with fail
  refine HNm.out.mono ?_
  rintro e w3 ⟨rfl, rfl⟩
  go_wp2_with fail
  refine (HCr.out W2.heap.size _ (by rw [World.cell?_alloc_new]; rfl)).mono ?_
  rintro e w4 ⟨rfl, rfl⟩
  generalize W2.alloc (.cells #[.string t] 9) = W3 at *
  rw [HR.out] at HC2
  go_wp2_with fail
  refine (done_ok ⟨w.heap.size, 0, none⟩ W3 HC2.out).mono ?_
  rintro e w5 ⟨rfl, rfl⟩
  go_wp2_with fail
  refine (read_any t _).mono ?_
  rintro e w6 ⟨rfl, rfl⟩
  have hnew : (W3.alloc (.cells #[.string t] 183)).cell? ⟨w.heap.size + 2, 0, none⟩ = some (.string t) := boxNew HS3.out
  have hfr : (W3.alloc (.cells #[.string t] 183)).frozen? ⟨w.heap.size + 2, 0, none⟩ = false := boxFree HS3.out
  have hsz : (W3.alloc (.cells #[.string t] 183)).heap.size = w.heap.size + 3 := by rw [World.size_alloc, HS3.out]
  have hb : Below w.heap.size w (W3.alloc (.cells #[.string t] 183)) := hB.out.alloc (by have := HS3.out; omega) _
  rw [HS3.out]
  generalize W3.alloc (.cells #[.string t] 183) = W4 at *
  go_wp2_with fail
  go_ret
  exact ⟨rfl, hb, hnew, hfr, hsz⟩
end Go.Proofs.YtbohpffigmllkaaGreatDoor
