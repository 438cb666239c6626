/-
  The document's Read of two sectors: a contract.
-/
import Derived.Test.YtmpegfmhnciemaaSuperRefP
namespace Go.Proofs.Ytmpegfmhnciemaa
open Go.RowKit

set_option maxRecDepth 10000 in
set_option maxHeartbeats 2000000 in
theorem refRead_any (Z O : ByteArray) (hZ : Z.size = 64) (hO : O.size = 64) (n : Nat) (hn : n < 100000) (w : World) :
    Calls Try.prog 31 #[.string Z, .string O, .int .i64 n] w fun e w' => e = .returned (.tuple #[.agg (refRd Z O n).refCells, .bool (refIs Z O n)]) ∧ Below w.heap.size w w' := by
  have HPa := Lib.hid fun wx => refParse_any Z hZ 0 n (by decide) hn wx
  have HPb := Lib.hid fun wx => refParse_any O hO 1 n (by decide) hn wx
  obtain ⟨R, hR⟩ : ∃ R, refRd Z O n = R := ⟨_, rfl⟩
  obtain ⟨I, hI⟩ : ∃ I, refIs Z O n = I := ⟨_, rfl⟩
  rw [hR, hI]
  unfold refRd at hR
  have hI : (decide (refOk Z 0 n) || decide (refOk O 1 n)) = I := by rw [← hI]; unfold refIs; by_cases h1 : refOk Z 0 n <;> by_cases h2 : refOk O 1 n <;> simp [h1, h2]
  have HR : Hid ((if decide (refOk Z 0 n) = true ∧ (¬ decide (refOk O 1 n) = true ∨ (refOf O).ep < (refOf Z).ep) then refOf Z else if decide (refOk O 1 n) = true then refOf O else Sup.none) = R) := Lib.hid (by simpa only [decide_eq_true_eq] using hR)
  have HI := Lib.hid hI
  clear hR hI
  generalize decide (refOk Z 0 n) = X at *
  generalize decide (refOk O 1 n) = Y at *
  generalize refOf Z = A at *
  generalize refOf O = B at *
  obtain ⟨a0, a1, a2, a3, a4⟩ := A
  obtain ⟨b0, b1, b2, b3, b4⟩ := B
  dsimp only [Sup.refCells] at *
  have hz0 := heap_alloc_new w zeroRef
  have HB0 : Hid (Below w.heap.size w (w.alloc zeroRef)) := Lib.hid ((Below.refl _ _).alloc (Nat.le_refl _) _)
  have hs0 : (w.alloc zeroRef).heap.size = w.heap.size + 1 := by simp
  clear hZ hO
  go_enter Try.func31, Try.ntmps31
  go_wp2_with fail
  refine (HPa.out _).mono ?_
  rintro e w1 ⟨rfl, hb1⟩
  have hz1 : w1.heap[w.heap.size]? = some zeroRef := by rw [hb1.block _ (by rw [hs0]; omega)]; exact hz0
  have hs1 : w.heap.size < w1.heap.size := by have := hb1.size; rw [hs0] at this; omega
  have HB1 := Lib.hid (HB0.out.trans (hb1.mono (by rw [hs0]; omega)))
  clear hb1 hz0 HB0 hs0 HPa
  obtain ⟨BA, hBA⟩ : ∃ BA : Obj, (.cells #[.int .i64 (a0 : Int), .int .i64 (a1 : Int), .int .i64 (a2 : Int), .int .i64 (a3 : Int), .int .i64 (a4 : Int)] 47 : Obj) = BA := ⟨_, rfl⟩
  have HBox : Hid (∀ wx : World, wx.heap[w1.heap.size]? = some BA → wx.cell? ⟨w1.heap.size, 0, none⟩ = some (.int .i64 a0) ∧ wx.cell? ⟨w1.heap.size, 1, none⟩ = some (.int .i64 a1) ∧ wx.cell? ⟨w1.heap.size, 2, none⟩ = some (.int .i64 a2) ∧ wx.cell? ⟨w1.heap.size, 3, none⟩ = some (.int .i64 a3) ∧ wx.cell? ⟨w1.heap.size, 4, none⟩ = some (.int .i64 a4)) := Lib.hid fun wx h => by
    rw [← hBA] at h
    exact fiveAt h
  go_wp2_with fail
  clear hBA
  refine (HPb.out _).mono ?_
  rintro e w2 ⟨rfl, hb2⟩
  have hs2 : (w1.alloc BA).heap.size = w1.heap.size + 1 := by simp
  have hz2 : w2.heap[w.heap.size]? = some zeroRef := by rw [hb2.block _ (by rw [hs2]; omega), Below.heap_alloc _ _ _ hs1]; exact hz1
  have ha2 : w2.heap[w1.heap.size]? = some BA := by rw [hb2.block _ (by rw [hs2]; omega)]; exact heap_alloc_new w1 BA
  have hs3 : w1.heap.size < w2.heap.size := by have := hb2.size; rw [hs2] at this; omega
  have HB2 := Lib.hid ((HB1.out.alloc HB1.out.size BA).trans (hb2.mono (by rw [hs2]; omega)))
  clear hb2 hz1 HB1 hs2 HPb
  obtain ⟨BB, hBB⟩ : ∃ BB : Obj, (.cells #[.int .i64 (b0 : Int), .int .i64 (b1 : Int), .int .i64 (b2 : Int), .int .i64 (b3 : Int), .int .i64 (b4 : Int)] 47 : Obj) = BB := ⟨_, rfl⟩
  have hz3 : (w2.alloc BB).heap[w.heap.size]? = some zeroRef := by rw [Below.heap_alloc _ _ _ (by omega)]; exact hz2
  have ha3 : (w2.alloc BB).heap[w1.heap.size]? = some BA := by rw [Below.heap_alloc _ _ _ hs3]; exact ha2
  have hb3 : (w2.alloc BB).heap[w2.heap.size]? = some BB := heap_alloc_new w2 BB
  have HB3 := Lib.hid (HB2.out.alloc HB2.out.size BB)
  have k3 := HBox.out _ ha3
  have m3 : (w2.alloc BB).cell? ⟨w2.heap.size, 0, none⟩ = some (.int .i64 b0) ∧ (w2.alloc BB).cell? ⟨w2.heap.size, 1, none⟩ = some (.int .i64 b1) ∧ (w2.alloc BB).cell? ⟨w2.heap.size, 2, none⟩ = some (.int .i64 b2) ∧ (w2.alloc BB).cell? ⟨w2.heap.size, 3, none⟩ = some (.int .i64 b3) ∧ (w2.alloc BB).cell? ⟨w2.heap.size, 4, none⟩ = some (.int .i64 b4) := by
    rw [← hBB] at hb3 ⊢
    exact fiveAt hb3
  have HQ : Hid (∀ v0 v1 v2 v3 v4 : Value, (((((w2.alloc BB).setCell ⟨w.heap.size, 0, none⟩ v0).setCell ⟨w.heap.size, 1, none⟩ v1).setCell ⟨w.heap.size, 2, none⟩ v2).setCell ⟨w.heap.size, 3, none⟩ v3).setCell ⟨w.heap.size, 4, none⟩ v4 |>.heap[w.heap.size]? = some (.cells #[v0, v1, v2, v3, v4] 47)) := Lib.hid fun v0 v1 v2 v3 v4 => five_set hz3 v0 v1 v2 v3 v4
  have HBQ : Hid (∀ v0 v1 v2 v3 v4 : Value, Below w.heap.size w ((((((w2.alloc BB).setCell ⟨w.heap.size, 0, none⟩ v0).setCell ⟨w.heap.size, 1, none⟩ v1).setCell ⟨w.heap.size, 2, none⟩ v2).setCell ⟨w.heap.size, 3, none⟩ v3).setCell ⟨w.heap.size, 4, none⟩ v4)) := Lib.hid fun v0 v1 v2 v3 v4 => ((((HB3.out.setCell (Nat.le_refl _) _).setCell (Nat.le_refl _) _).setCell (Nat.le_refl _) _).setCell (Nat.le_refl _) _).setCell (Nat.le_refl _) _
  obtain ⟨⟨y0, y1, y2, y3, y4⟩, f0, f1, f2, f3, f4⟩ := zero_cells hz3
  clear hz2 ha2 hs3 hs1 HB2 hz3 ha3 hb3 HBox
  obtain ⟨k0, k1, k2, k3, k4⟩ := k3
  obtain ⟨m0, m1, m2, m3, m4⟩ := m3
  go_upto_region 3 with fail
  clear hBB
  generalize w2.alloc BB = wz at *
  generalize w1.heap.size = p at *
  generalize w2.heap.size = q at *
  cases X with
  | true =>
    cases Y with
    | true =>
      by_cases hlt : b0 < a0
      · have i0 : decide ((b0 : Int) < (a0 : Int)) = true := decide_eq_true (by omega)
        have i0' : (b0 : Int) < (a0 : Int) := by omega
        obtain rfl := HI.out
        have hr : (⟨a0, a1, a2, a3, a4⟩ : Sup) = R := by have := HR.out; rwa [if_pos ⟨rfl, Or.inr hlt⟩] at this
        subst hr
        clear HR HI
        go_wp2_with fail
        refine bodyPost_ret (results_two rfl _ _ w.heap.size _ _ _ _ rfl (HQ.out _ _ _ _ _) Try.underlying47 refSupSize) rfl ?_
        exact ⟨rfl, HBQ.out _ _ _ _ _⟩
      · have i0 : decide ((b0 : Int) < (a0 : Int)) = false := decide_eq_false (by omega)
        have i0' : ¬ (b0 : Int) < (a0 : Int) := by omega
        obtain rfl := HI.out
        have hr : (⟨b0, b1, b2, b3, b4⟩ : Sup) = R := by have := HR.out; rwa [if_neg (fun e => e.2.elim (fun x => x rfl) hlt), if_pos rfl] at this
        subst hr
        clear HR HI
        go_wp2_with fail
        refine bodyPost_ret (results_two rfl _ _ w.heap.size _ _ _ _ rfl (HQ.out _ _ _ _ _) Try.underlying47 refSupSize) rfl ?_
        exact ⟨rfl, HBQ.out _ _ _ _ _⟩
    | false =>
      obtain rfl := HI.out
      have hr : (⟨a0, a1, a2, a3, a4⟩ : Sup) = R := by have := HR.out; rwa [if_pos ⟨rfl, Or.inl (by decide)⟩] at this
      subst hr
      clear HR HI
      go_wp2_with fail
      refine bodyPost_ret (results_two rfl _ _ w.heap.size _ _ _ _ rfl (HQ.out _ _ _ _ _) Try.underlying47 refSupSize) rfl ?_
      exact ⟨rfl, HBQ.out _ _ _ _ _⟩
  | false =>
    cases Y with
    | true =>
      obtain rfl := HI.out
      have hr : (⟨b0, b1, b2, b3, b4⟩ : Sup) = R := by have := HR.out; rwa [if_neg (fun e => Bool.noConfusion e.1), if_pos rfl] at this
      subst hr
      clear HR HI
      go_wp2_with fail
      refine bodyPost_ret (results_two rfl _ _ w.heap.size _ _ _ _ rfl (HQ.out _ _ _ _ _) Try.underlying47 refSupSize) rfl ?_
      exact ⟨rfl, HBQ.out _ _ _ _ _⟩
    | false =>
      obtain rfl := HI.out
      have hr : Sup.none = R := by have := HR.out; rwa [if_neg (fun e => Bool.noConfusion e.1), if_neg (fun e => Bool.noConfusion e)] at this
      subst hr
      clear HR HI
      go_wp2_with fail
      refine bodyPost_ret (results_two rfl _ _ w.heap.size _ _ _ _ rfl (HQ.out _ _ _ _ _) Try.underlying47 refSupSize) rfl ?_
      exact ⟨rfl, HBQ.out _ _ _ _ _⟩
end Go.Proofs.Ytmpegfmhnciemaa
