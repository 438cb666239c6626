/-
  An item's bytes are put: a contract.
-/
import Derived.Test.YtpgmgopcgoblhaaDoorStreamCheck
import Derived.Test.YtpgmgopcgoblhaaDoorPackRefNum
namespace Go.Proofs.YtpgmgopcgoblhaaDoor
open Go.RowKit

theorem wid2 : wid 2 = 2 := rfl
theorem OutVia.step {B o : Nat} {v : Value} {w : World} {v1 : Value} {l : List UInt8} {w1 w2 : World} (h : OutVia B o v w v1 l w1) (k : Below w1.heap.size w1 w2) : OutVia B o v w v1 l w2 :=
  ⟨h.at1.kept (S := fun _ => False) (Grew.of_below k) (fun e => e) (fun _ _ e => e), h.own, h.grew.trans (Grew.of_below k)⟩
set_option maxRecDepth 100000 in
set_option maxHeartbeats 2000000 in
theorem put_any (x : It) (B o : Nat) (v : Value) (l : List UInt8) (w : World) (h : OutAt B o v l w) (h0 : 0 ≤ x.pl) (h1 : x.pl < 65536) (hl : l.length + x.dt.length < 900000) :
    Calls Tryd.prog 28 #[itV x, .pointer (some ⟨o, 0, none⟩)] w fun e w' => e = .returned (.tuple #[]) ∧ OutTo B o v (l ++ itB x) w w' := by
  obtain ⟨pl, dt⟩ := x
  dsimp only at h0 h1 hl
  obtain ⟨p, rfl⟩ : ∃ p : Nat, pl = (p : Int) := ⟨pl.toNat, by omega⟩
  have u1 := u32_as_u64 p (by omega)
  unfold itV
  dsimp only
  obtain ⟨D, hD⟩ : ∃ D : ByteArray, ⟨dt.toArray⟩ = D := ⟨_, rfl⟩
  have hDl : D.data.toList = dt := by rw [← hD]
  have hDs : D.size = dt.length := by rw [← hD]; simp [ByteArray.size]
  rw [hD]
  obtain ⟨W, hW⟩ : ∃ W, w.alloc (.cells #[.int .i64 (p : Int), .string D] 51) = W := ⟨_, rfl⟩
  have HG : Hid (Grew (fun _ => False) w W) := Lib.hid (by rw [← hW]; exact (Grew.refl w).alloc _)
  have HV : Hid (OutVia B o v W v l W) := Lib.hid (OutVia.start (h.kept (S := fun _ => False) HG.out (fun e => e) (fun _ _ e => e)))
  have HSz : Hid (w.heap.size < W.heap.size) := Lib.hid (by rw [← hW]; simp)
  have hlo := h.lt
  have hba := h.base
  have hnw : W.cell? ⟨w.heap.size, 1, none⟩ = some (.string D) := by rw [← hW]; simp
  have hn0 : W.cell? ⟨w.heap.size, 0, none⟩ = some (.int .i64 (p : Int)) := by rw [← hW]; simp
  have HNw := Lib.hid hnw
  have HFar : Hid (¬ outs o v w.heap.size) := Lib.hid (h.far (Nat.le_refl _))
  have HL := Lib.hid hl
  have HP := Lib.hid h1
  have HWe := Lib.hid hW
  clear h hnw hl h0 h1 hD hW
  go_enter Tryd.func28, Tryd.ntmps28
  go_upto_region 1 with fail
  rw [HWe.out]
  go_wp2_with fail
  refine (outNum_any B o v l p 2 _ HV.out.at1 (by have := HL.out; omega)).mono ?_
  rintro e w1 ⟨rfl, T1⟩
  obtain ⟨v1, H1⟩ := HV.out.next T1
  have c1 : w1.cell? ⟨w.heap.size, 1, none⟩ = some (.string D) := by
    obtain ⟨_, _, _, g⟩ := T1
    rw [g.cell (p := ⟨w.heap.size, 1, none⟩) HSz.out HFar.out]
    exact HNw.out
  clear T1
  rw [wid2] at H1
  by_cases hem : dt = []
  · have e1 : D.toList.isEmpty = true := by rw [ByteArray.toList_eq, hDl, hem]; rfl
    have HEm := Lib.hid hem
    clear hem hDl hDs
    go_wp2_with fail
    refine (outNum_any B o v1 (l ++ enc p 2) 0 1 _ H1.out.at1 (by have := HL.out; rw [List.length_append, enc_len]; omega)).mono ?_
    rintro e w2 ⟨rfl, T2⟩
    obtain ⟨v2, H2⟩ := H1.out.next T2
    clear T2
    go_wp2_with fail
    go_end0
    refine ⟨rfl, ?_⟩
    have e2 : l ++ itB ⟨(p : Int), dt⟩ = l ++ enc p 2 ++ enc 0 (wid 1) := by
      rw [HEm.out]
      unfold itB
      simp [wid1]
      rfl
    rw [e2]
    exact (H2.out.back HG.out).to
  · have e1 : D.toList.isEmpty = false := by
      rw [ByteArray.toList_eq, hDl]
      cases dt with
      | nil => exact absurd rfl hem
      | cons _ _ => rfl
    have HEm : Hid (dt.isEmpty = false) := Lib.hid (by
      cases dt with
      | nil => exact absurd rfl hem
      | cons _ _ => rfl)
    have HDl := Lib.hid hDl
    have HDs := Lib.hid hDs
    clear hem hDl hDs
    have HLn : Hid ((l ++ enc p 2).length < 900002) := Lib.hid (by have := HL.out; rw [List.length_append, enc_len]; omega)
    have HFin : Hid (l ++ enc p 2 ++ enc 1 1 ++ D.data.toList = l ++ itB ⟨(p : Int), dt⟩) := Lib.hid (by
      rw [HDl.out]
      unfold itB
      simp [HEm.out]
      rfl)
    have HTx : Hid (∀ v2 w2, OutVia B o v W v2 (l ++ enc p 2 ++ enc 1 1) w2 → Calls Tryd.prog 26 #[.pointer (some ⟨o, 0, none⟩), .string D] w2 fun e w' => e = .returned (.pointer (some ⟨o, 0, none⟩)) ∧ OutTo B o v (l ++ itB ⟨(p : Int), dt⟩) w w') := Lib.hid (fun v2 w2 h2 => by
      refine (outText_any B o v2 (l ++ enc p 2 ++ enc 1 1) D w2 h2.at1 (by
        have := HL.out
        have := HDs.out
        rw [List.length_append, List.length_append, enc_len, enc_len]
        omega)).mono ?_
      rintro e w3 ⟨rfl, T3⟩
      obtain ⟨v3, H3⟩ := h2.next T3
      rw [HFin.out] at H3
      exact ⟨rfl, (H3.out.back HG.out).to⟩)
    go_wp2_with fail
    have hw1 : w.heap.size < w1.heap.size := cell_lt c1
    have HNu := Lib.hid (outNum_any B o v1 (l ++ enc p 2) 1 1 w1.drew H1.out.drew.at1 (by have := HLn.out; omega))
    have HFa : Hid (¬ outs o v1 w.heap.size) := Lib.hid (by
      rintro (e | e)
      · exact HFar.out (Or.inl e)
      · exact HFar.out (Or.inr (H1.out.own _ HSz.out e)))
    go_region_with (first
      | (refine HNu.out.mono ?_
         rintro e w2 ⟨rfl, T2⟩
         have c2 : w2.cell? ⟨w.heap.size, 1, none⟩ = some (.string D) := by
           obtain ⟨_, _, _, g⟩ := T2
           rw [g.cell (p := ⟨w.heap.size, 1, none⟩) hw1 HFa.out]
           exact c1
         obtain ⟨v2, H2⟩ := H1.out.drew.next T2)
      | (refine (HTx.out _ _ H2.out).mono ?_; rintro e w3 ⟨rfl, H3⟩))
    all_goals
      go_wp2_with fail
      go_end0
      exact ⟨rfl, H3⟩
end Go.Proofs.YtpgmgopcgoblhaaDoor
