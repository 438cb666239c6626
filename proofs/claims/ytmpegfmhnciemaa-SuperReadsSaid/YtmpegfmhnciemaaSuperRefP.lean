/-
  The document's Parse of a super's sector, and its Read of two: contracts.
-/
import Derived.Test.YtmpegfmhnciemaaSuperRefB
import Derived.Deep.DeepCutAuto
import Derived.BigRegion
namespace Go.Proofs.Ytmpegfmhnciemaa
open Go.RowKit

theorem ext_list (S : ByteArray) (a b : Nat) : (S.extract a b).data.toList = (S.data.toList.drop a).take (b - a) := by
  simp [ByteArray.data_extract, Array.toList_extract, List.extract_eq_take_drop]
theorem ext_size (S : ByteArray) (a b : Nat) : (S.extract a b).size ≤ b - a := by rw [ByteArray.size_extract]; omega
theorem five_off {w : World} {x y : Nat} (hne : y ≠ x) (a b c d e : Value) (j : Nat) : (((((w.setCell ⟨y, 0, none⟩ a).setCell ⟨y, 1, none⟩ b).setCell ⟨y, 2, none⟩ c).setCell ⟨y, 3, none⟩ d).setCell ⟨y, 4, none⟩ e).cell? ⟨x, j, none⟩ = w.cell? ⟨x, j, none⟩ := by
  have h : ∀ (wx : World) (k : Nat) (v : Value), (wx.setCell ⟨y, k, none⟩ v).cell? ⟨x, j, none⟩ = wx.cell? ⟨x, j, none⟩ := fun wx k v => World.cell?_setCell_other _ _ _ _ fun e => hne (congrArg Addr.block e)
  rw [h, h, h, h, h]
theorem five_offd {w : World} {x y : Nat} (hne : y ≠ x) (a b c d e : Value) (j : Nat) : (((((w.setCell ⟨y, 0, none⟩ a).setCell ⟨y, 1, none⟩ b).setCell ⟨y, 2, none⟩ c).setCell ⟨y, 3, none⟩ d).setCell ⟨y, 4, none⟩ e).drew.cell? ⟨x, j, none⟩ = w.cell? ⟨x, j, none⟩ := by
  rw [World.cell?_drew]
  exact five_off hne a b c d e j
abbrev zeroRef : Obj := .cells #[.int .i64 0, .int .i64 0, .int .i64 0, .int .i64 0, .int .i64 0] 47
set_option maxRecDepth 10000 in
set_option maxHeartbeats 8000000 in
theorem refParse_any (S : ByteArray) (hS : S.size = 64) (k n : Nat) (hk : k < 2) (hn : n < 100000) (w : World) :
    Calls Try.prog 36 #[.string S, .int .i64 k, .int .i64 n] w fun e w' => e = .returned (.tuple #[.agg (refOf S).refCells, .bool (decide (refOk S k n))]) ∧ Below w.heap.size w w' := by
  have HF := Lib.hid (refOf_fits S)
  have HNum : ∀ a b, b - a ≤ 6 → ∀ wx : World, Calls Try.prog 62 #[.string (S.extract a b)] wx fun e w' => e = .returned (.int .i64 (num ((S.data.toList.drop a).take (b - a)) : Nat)) ∧ wx = w' := fun a b h wx => by
    have := number_any (S.extract a b) (Nat.le_trans (ext_size S a b) h) wx
    rw [ext_list] at this
    exact this
  have HN0 := Lib.hid (HNum 0 4 (by decide))
  have HN1 := Lib.hid (HNum 13 15 (by decide))
  have HN2 := Lib.hid (HNum 15 17 (by decide))
  have HN3 := Lib.hid (HNum 17 19 (by decide))
  have HN4 := Lib.hid (HNum 19 23 (by decide))
  rw [List.drop_zero] at HN0
  have HBy := Lib.hid fun wx => refSupBytes_any (refOf S) HF.out wx
  have HCh := Lib.hid fun wx => refCheck_any (refOf S) HF.out n hn wx
  obtain ⟨B, hB⟩ : ∃ B, decide (refOk S k n) = B := ⟨_, rfl⟩
  rw [hB]
  have HOk : Hid ((B = true) ↔ (refOf S).ep % 2 = k ∧ (refOf S).frame = S ∧ (refOf S).check n = 0) := Lib.hid (by rw [← hB, decide_eq_true_iff]; exact Iff.rfl)
  clear HNum hB
  have HE : Hid (refOf S = ⟨num (S.data.toList.take (4 - 0)), num ((S.data.toList.drop 13).take (15 - 13)), num ((S.data.toList.drop 15).take (17 - 15)), num ((S.data.toList.drop 17).take (19 - 17)), num ((S.data.toList.drop 19).take (23 - 19))⟩) := Lib.hid rfl
  generalize refOf S = R at *
  generalize num (S.data.toList.take (4 - 0)) = n0 at *
  generalize num ((S.data.toList.drop 13).take (15 - 13)) = n1 at *
  generalize num ((S.data.toList.drop 15).take (17 - 15)) = n2 at *
  generalize num ((S.data.toList.drop 17).take (19 - 17)) = n3 at *
  generalize num ((S.data.toList.drop 19).take (23 - 19)) = n4 at *
  have hz : (S.size : Int) = 64 := by omega
  go_enter Try.func36, Try.ntmps36
  go_wp2_with fail
  go_cut [8] (fun s8 wx => s8 = .pointer (some ⟨w.heap.size + 1, 0, none⟩) ∧ wx.heap[w.heap.size]? = some zeroRef ∧ wx.heap[w.heap.size + 1]? = some (.cells R.refCells 47) ∧ Below w.heap.size w wx)
  case first =>
    obtain rfl := HE.out
    have hs0 : (w.alloc zeroRef).heap.size = w.heap.size + 1 := by simp
    have HW : Hid (((w.alloc zeroRef).alloc (.cells #[.int .i64 (n0 : Int), .int .i64 (n1 : Int), .int .i64 (n2 : Int), .int .i64 (n3 : Int), .int .i64 (n4 : Int)] 47)).heap[w.heap.size]? = some zeroRef ∧ ((w.alloc zeroRef).alloc (.cells #[.int .i64 (n0 : Int), .int .i64 (n1 : Int), .int .i64 (n2 : Int), .int .i64 (n3 : Int), .int .i64 (n4 : Int)] 47)).heap[w.heap.size + 1]? = some (.cells #[.int .i64 (n0 : Int), .int .i64 (n1 : Int), .int .i64 (n2 : Int), .int .i64 (n3 : Int), .int .i64 (n4 : Int)] 47) ∧ Below w.heap.size w ((w.alloc zeroRef).alloc (.cells #[.int .i64 (n0 : Int), .int .i64 (n1 : Int), .int .i64 (n2 : Int), .int .i64 (n3 : Int), .int .i64 (n4 : Int)] 47)).drew) := Lib.hid (by
      refine ⟨?_, ?_, (((Below.refl _ _).alloc (Nat.le_refl _) _).alloc (by rw [hs0]; omega) _).drew⟩
      · rw [Below.heap_alloc _ _ _ (by rw [hs0]; omega)]
        exact heap_alloc_new w _
      · rw [← hs0]
        exact heap_alloc_new _ _)
    clear hs0 HBy HCh HOk HF
    go_region_with (go_at_call 62; (first | (with_reducible refine (HN0.out _).mono ?_) | (with_reducible refine (HN1.out _).mono ?_) | (with_reducible refine (HN2.out _).mono ?_) | (with_reducible refine (HN3.out _).mono ?_) | (with_reducible refine (HN4.out _).mono ?_)); rintro e w' ⟨rfl, rfl⟩)
    all_goals
      go_wp2_with fail
      go_meet
      exact ⟨rfl, HW.out.1, HW.out.2.1, HW.out.2.2⟩
  case rest =>
    obtain ⟨rfl, hz0, hz1, hb⟩ := hcut
    have HZ0 := Lib.hid hz0
    have HZ1 := Lib.hid hz1
    have HBw := Lib.hid hb
    have hlw : w.heap.size + 1 < wc.heap.size := by
      rcases Nat.lt_or_ge (w.heap.size + 1) wc.heap.size with h1 | h1
      · exact h1
      · rw [Array.getElem?_eq_none h1] at hz1; cases hz1
    obtain ⟨l0, l1, l2, l3, l4⟩ := refFive hz1
    obtain ⟨⟨y0, y1, y2, y3, y4⟩, f0, f1, f2, f3, f4⟩ := zero_cells hz0
    clear hz0 hz1 hb HN0 HN1 HN2 HN3 HN4 HE
    have HKb : Hid (∀ wx, Below wc.drew.heap.size wc.drew wx → (wx.cell? ⟨w.heap.size + 1, 0, none⟩ = some (.int .i64 R.ep) ∧ wx.cell? ⟨w.heap.size + 1, 1, none⟩ = some (.int .i64 R.j) ∧ wx.cell? ⟨w.heap.size + 1, 2, none⟩ = some (.int .i64 R.b) ∧ wx.cell? ⟨w.heap.size + 1, 3, none⟩ = some (.int .i64 R.h) ∧ wx.cell? ⟨w.heap.size + 1, 4, none⟩ = some (.int .i64 R.nx)) ∧ wx.heap[w.heap.size]? = some zeroRef) := Lib.hid fun wx hb => by
      refine ⟨refFive (s := R) ?_, ?_⟩
      · rw [hb.block (w.heap.size + 1) hlw]
        exact HZ1.out
      · rw [hb.block w.heap.size (by show w.heap.size < wc.heap.size; omega)]
        exact HZ0.out
    obtain ⟨ep, j, b, h, nx⟩ := R
    dsimp only [Sup.refCells] at *
    have hm : (ep : Int).tmod 2 = ((ep % 2 : Nat) : Int) := rfl
    obtain ⟨E, hE⟩ : ∃ E, ep % 2 = E := ⟨_, rfl⟩
    rw [hE] at hm
    have HOk : Hid ((B = true) ↔ E = k ∧ (⟨ep, j, b, h, nx⟩ : Sup).frame = S ∧ (⟨ep, j, b, h, nx⟩ : Sup).check n = 0) := Lib.hid (by rw [← hE]; exact HOk.out)
    clear hE HF hS
    have hne : w.heap.size ≠ w.heap.size + 1 := by omega
    have HLd : Hid (wc.drew.cell? ⟨w.heap.size + 1, 0, none⟩ = some (.int .i64 ep) ∧ wc.drew.cell? ⟨w.heap.size + 1, 1, none⟩ = some (.int .i64 j) ∧ wc.drew.cell? ⟨w.heap.size + 1, 2, none⟩ = some (.int .i64 b) ∧ wc.drew.cell? ⟨w.heap.size + 1, 3, none⟩ = some (.int .i64 h) ∧ wc.drew.cell? ⟨w.heap.size + 1, 4, none⟩ = some (.int .i64 nx)) := Lib.hid ⟨l0, l1, l2, l3, l4⟩
    clear l0 l1 l2 l3 l4
    have HLw : Hid (wc.cell? ⟨w.heap.size + 1, 0, none⟩ = some (.int .i64 ep) ∧ wc.cell? ⟨w.heap.size + 1, 1, none⟩ = some (.int .i64 j) ∧ wc.cell? ⟨w.heap.size + 1, 2, none⟩ = some (.int .i64 b) ∧ wc.cell? ⟨w.heap.size + 1, 3, none⟩ = some (.int .i64 h) ∧ wc.cell? ⟨w.heap.size + 1, 4, none⟩ = some (.int .i64 nx)) := Lib.hid HLd.out
    have HFin : Hid (∀ wx, Below wc.drew.heap.size wc.drew wx → (((((wx.setCell ⟨w.heap.size, 0, none⟩ (.int .i64 ep)).setCell ⟨w.heap.size, 1, none⟩ (.int .i64 j)).setCell ⟨w.heap.size, 2, none⟩ (.int .i64 b)).setCell ⟨w.heap.size, 3, none⟩ (.int .i64 h)).setCell ⟨w.heap.size, 4, none⟩ (.int .i64 nx)).heap[w.heap.size]? = some (.cells #[.int .i64 ep, .int .i64 j, .int .i64 b, .int .i64 h, .int .i64 nx] 47) ∧ Below w.heap.size w (((((wx.setCell ⟨w.heap.size, 0, none⟩ (.int .i64 ep)).setCell ⟨w.heap.size, 1, none⟩ (.int .i64 j)).setCell ⟨w.heap.size, 2, none⟩ (.int .i64 b)).setCell ⟨w.heap.size, 3, none⟩ (.int .i64 h)).setCell ⟨w.heap.size, 4, none⟩ (.int .i64 nx))) := Lib.hid fun wx hb => by
      have hz := (HKb.out wx hb).2
      have hbw : Below w.heap.size w wx := (HBw.out.drew).trans (hb.mono HBw.out.drew.size)
      exact ⟨five_set hz _ _ _ _ _, ((((hbw.setCell (Nat.le_refl _) _).setCell (Nat.le_refl _) _).setCell (Nat.le_refl _) _).setCell (Nat.le_refl _) _).setCell (Nat.le_refl _) _⟩
    by_cases c0 : E = k
    · subst c0
      have i0 : ((E : Int) == (E : Int)) = true := by simp
      by_cases c1 : (⟨ep, j, b, h, nx⟩ : Sup).frame = S
      · obtain ⟨C, hC⟩ : ∃ C, (⟨ep, j, b, h, nx⟩ : Sup).check n = C := ⟨_, rfl⟩
        rw [hC] at HCh HOk
        clear hC
        rw [c1] at HBy HOk
        have i1 : (S.toList == S.toList) = true := by simp
        have HOk2 : Hid (((C : Int) == 0) = B) := Lib.hid (by
          rw [Bool.eq_iff_iff, beq_iff_eq]
          have := HOk.out
          constructor
          · intro e
            exact this.2 ⟨rfl, rfl, by omega⟩
          · intro e
            have := (this.1 e).2.2
            omega)
        clear HOk c1
        obtain ⟨D, hD⟩ : ∃ D, ((C : Int) == 0) = D := ⟨_, rfl⟩
        rw [hD] at HOk2
        obtain rfl : D = B := HOk2.out
        clear HOk2
        go_wp2_with fail
        go_region_held3 (fun wx => wx.cell? ⟨w.heap.size + 1, 0, none⟩ = some (.int .i64 ep) ∧ wx.cell? ⟨w.heap.size + 1, 1, none⟩ = some (.int .i64 j) ∧ wx.cell? ⟨w.heap.size + 1, 2, none⟩ = some (.int .i64 b) ∧ wx.cell? ⟨w.heap.size + 1, 3, none⟩ = some (.int .i64 h) ∧ wx.cell? ⟨w.heap.size + 1, 4, none⟩ = some (.int .i64 nx))
          (first | (with_reducible exact HLd.out) | (with_reducible exact HW1.out) | (with_reducible exact HW2.out) | (simp only [five_offd hne]; first | (with_reducible exact HLw.out) | (with_reducible exact HW1.out) | (with_reducible exact HW2.out)) | (simp only [five_off hne]; first | (with_reducible exact HLw.out) | (with_reducible exact HW1.out) | (with_reducible exact HW2.out)))
          (first
            | (go_at_call 28; (with_reducible refine (HBy.out wc.drew).mono ?_); rintro e w1 ⟨rfl, hb1⟩; (have HG1 := Lib.hid hb1); (have HW1 := Lib.hid (HKb.out _ hb1).1); (have hy1 := zero_cells (HKb.out _ hb1).2); (obtain ⟨⟨y0, y1, y2, y3, y4⟩, f0, f1, f2, f3, f4⟩ := hy1); clear hb1)
            | (go_at_call 24; (with_reducible refine (HCh.out w1).mono ?_); rintro e w2 ⟨rfl, hb2⟩; (have HG2 := Lib.hid (HG1.out.trans (hb2.mono HG1.out.size))); (have HW2 := Lib.hid (HKb.out _ HG2.out).1); (have hy2 := zero_cells (HKb.out _ HG2.out).2); (obtain ⟨⟨y0, y1, y2, y3, y4⟩, f0, f1, f2, f3, f4⟩ := hy2); clear hb2))
        all_goals
          go_wp2_with fail
          refine bodyPost_ret (results_two rfl _ _ w.heap.size _ _ _ _ rfl (HFin.out _ HG2.out).1 Try.underlying47 refSupSize) rfl ?_
          exact ⟨rfl, (HFin.out _ HG2.out).2⟩
      · have i1 : ((⟨ep, j, b, h, nx⟩ : Sup).frame.toList == S.toList) = false := toList_ne c1
        obtain rfl : B = false := by
          cases B with
          | false => rfl
          | true => exact absurd (HOk.out.1 rfl).2.1 c1
        clear HCh HOk c1
        generalize (⟨ep, j, b, h, nx⟩ : Sup).frame = FR at *
        go_wp2_with fail
        obtain ⟨l0, l1, l2, l3, l4⟩ := HLw.out
        clear HLd HLw
        first | (go_region_with (go_at_call 28; (with_reducible refine (HBy.out wc.drew).mono ?_); rintro e w1 ⟨rfl, hb1⟩; (have HG1 := Lib.hid hb1); (have HW1 := Lib.hid (HKb.out _ hb1).1); (have hy1 := zero_cells (HKb.out _ hb1).2); (obtain ⟨⟨y0, y1, y2, y3, y4⟩, f0, f1, f2, f3, f4⟩ := hy1); (obtain ⟨l0, l1, l2, l3, l4⟩ := HW1.out); clear hb1)) | fail
        all_goals
          go_wp2_with fail
          refine bodyPost_ret (results_two rfl _ _ w.heap.size _ _ _ _ rfl (HFin.out _ HG1.out).1 Try.underlying47 refSupSize) rfl ?_
          exact ⟨rfl, (HFin.out _ HG1.out).2⟩
    · have i0 : ((E : Int) == (k : Int)) = false := by rw [beq_eq_false_iff_ne]; omega
      obtain rfl : B = false := by
        cases B with
        | false => rfl
        | true => exact absurd (HOk.out.1 rfl).1 c0
      clear HBy HCh HOk
      have HF0 : Hid ((((((wc.setCell ⟨w.heap.size, 0, none⟩ (.int .i64 ep)).setCell ⟨w.heap.size, 1, none⟩ (.int .i64 j)).setCell ⟨w.heap.size, 2, none⟩ (.int .i64 b)).setCell ⟨w.heap.size, 3, none⟩ (.int .i64 h)).setCell ⟨w.heap.size, 4, none⟩ (.int .i64 nx)).drew.heap[w.heap.size]? = some (.cells #[.int .i64 ep, .int .i64 j, .int .i64 b, .int .i64 h, .int .i64 nx] 47) ∧ Below w.heap.size w (((((wc.setCell ⟨w.heap.size, 0, none⟩ (.int .i64 ep)).setCell ⟨w.heap.size, 1, none⟩ (.int .i64 j)).setCell ⟨w.heap.size, 2, none⟩ (.int .i64 b)).setCell ⟨w.heap.size, 3, none⟩ (.int .i64 h)).setCell ⟨w.heap.size, 4, none⟩ (.int .i64 nx)).drew) := Lib.hid (And.intro (five_set HZ0.out _ _ _ _ _) (((((HBw.out.setCell (Nat.le_refl _) _).setCell (Nat.le_refl _) _).setCell (Nat.le_refl _) _).setCell (Nat.le_refl _) _).setCell (Nat.le_refl _) _).drew)
      clear HFin
      go_wp2_with fail
      obtain ⟨l0, l1, l2, l3, l4⟩ := HLw.out
      clear HLd HLw
      go_region
      all_goals
        go_wp2_with fail
        refine bodyPost_ret (results_two rfl _ _ w.heap.size _ _ _ _ rfl HF0.out.1 Try.underlying47 refSupSize) rfl ?_
        exact ⟨rfl, HF0.out.2⟩
end Go.Proofs.Ytmpegfmhnciemaa
