/-
  An item is taken: a contract.
-/
import Derived.Test.YtpgmgopcgoblhaaDoorStreamIn
namespace Go.Proofs.YtpgmgopcgoblhaaDoor
open Go.RowKit

/-- what taking an item leaves -/
def ItemPost (q : Nat) (r : List UInt8) (w : World) (e : Ending) (w' : World) : Prop :=
  OnlyQ q w w' ∧ ((∃ k, itP r = .error k ∧ e = failed k) ∨ (∃ x r', itP r = .ok (x, r') ∧ e = .returned (itV x) ∧ InP q r' w'))
theorem num1_lt (l : List UInt8) : num (l.take 1) < 256 := by
  have h := num_lt (l.take 1)
  have h2 : 256 ^ (l.take 1).length ≤ 256 ^ 1 := Nat.pow_le_pow_right (by decide) (by rw [List.length_take]; omega)
  omega
theorem num2_lt (l : List UInt8) : num (l.take 2) < 65536 := by
  have h := num_lt (l.take 2)
  have h2 : 256 ^ (l.take 2).length ≤ 256 ^ 2 := Nat.pow_le_pow_right (by decide) (by rw [List.length_take]; omega)
  omega
theorem pair_back {w : World} {R : Nat} {a b u v : Value} (h0 : w.cell? ⟨R, 0, none⟩ = some a) (h1 : w.cell? ⟨R, 1, none⟩ = some b) :
    ((w.setCell ⟨R, 0, none⟩ u).setCell ⟨R, 1, none⟩ v).cell? ⟨R, 0, none⟩ = some u ∧ ((w.setCell ⟨R, 0, none⟩ u).setCell ⟨R, 1, none⟩ v).cell? ⟨R, 1, none⟩ = some v := by
  refine ⟨?_, ?_⟩
  · rw [World.cell?_setCell_other _ _ _ _ (fun e => by injection e with _ h _; cases h), World.cell?_setCell_same _ _ _ h0]
  · refine World.cell?_setCell_same _ _ v (u := b) ?_
    rw [World.cell?_setCell_other _ _ _ _ (fun e => by injection e with _ h _; cases h)]
    exact h1
theorem pair_grew {S : Nat → Prop} {w w1 : World} {R : Nat} (u v : Value) (g : Grew S w w1) (hR : R < w.heap.size → S R) : Grew S w ((w1.setCell ⟨R, 0, none⟩ u).setCell ⟨R, 1, none⟩ v) := (g.setCell _ _ hR).setCell _ _ hR
set_option maxRecDepth 100000 in
set_option maxHeartbeats 2000000 in
theorem item_any (q : Nat) (r : List UInt8) (w : World) (h : InP q r w) :
    Calls Tryd.prog 52 #[.pointer (some ⟨q, 0, none⟩)] w fun e w' => ItemPost q r w e w' := by
  have hq := h.lt
  have H0 := Lib.hid (h.alloc (.cells #[.int .i64 0, .string ⟨#[]⟩] 51))
  have G0 : Hid (OnlyQ q w (w.alloc (.cells #[.int .i64 0, .string ⟨#[]⟩] 51))) := Lib.hid ((Grew.refl w).alloc _)
  have hR : (w.alloc (.cells #[.int .i64 0, .string ⟨#[]⟩] 51)).heap[w.heap.size]? = some (.cells #[.int .i64 0, .string ⟨#[]⟩] 51) := heap_alloc_new w _
  have HR := Lib.hid hR
  have hsz : (w.alloc (.cells #[.int .i64 0, .string ⟨#[]⟩] 51)).heap.size = w.heap.size + 1 := by simp
  have HSz := Lib.hid hsz
  have HQ := Lib.hid hq
  clear h hR hsz hq
  by_cases h2 : r.length < 2
  · have hP : itP r = .error 2 := by unfold itP; rw [if_pos h2]
    have HP := Lib.hid hP
    clear hP
    go_enter Tryd.func52, Tryd.ntmps52
    go_wp2_with fail
    refine (inNum_end q 2 2 r _ H0.out rfl h2).mono ?_
    rintro e w1 ⟨rfl, rfl⟩
    unfold failed
    go_wp2_with fail
    exact ⟨rfl, G0.out, Or.inl ⟨2, HP.out, rfl⟩⟩
  · have HN := Lib.hid (inNum q 2 2 r _ H0.out rfl (by omega))
    have u1 := i64_small (num (r.take 2)) (num2_lt r)
    have HL := Lib.hid h2
    obtain ⟨p, hp⟩ : ∃ p, num (r.take 2) = p := ⟨_, rfl⟩
    rw [hp] at HN u1
    have HPp := Lib.hid hp
    clear h2 hp
    go_enter Tryd.func52, Tryd.ntmps52
    go_wp2_with fail
    refine HN.out.mono ?_
    rintro e w1 ⟨rfl, hi1, hg1⟩
    have hw1 : w.heap.size < w1.heap.size := by have := hg1.size; rw [HSz.out] at this; omega
    have hR1 : w1.heap[w.heap.size]? = some (.cells #[.int .i64 0, .string ⟨#[]⟩] 51) := by
      rw [hg1.block w.heap.size (by rw [HSz.out]; omega) (by have := HQ.out; omega)]
      exact HR.out
    have H1 := Lib.hid (hi1.alloc (.cells #[.int .i64 (p : Int), .string ⟨#[]⟩] 51))
    have G1 : Hid (OnlyQ q w (w1.alloc (.cells #[.int .i64 (p : Int), .string ⟨#[]⟩] 51))) := Lib.hid ((G0.out.trans hg1).alloc _)
    have hR2 : (w1.alloc (.cells #[.int .i64 (p : Int), .string ⟨#[]⟩] 51)).heap[w.heap.size]? = some (.cells #[.int .i64 0, .string ⟨#[]⟩] 51) := by
      rw [Below.heap_alloc _ _ _ hw1]
      exact hR1
    have hX2 : (w1.alloc (.cells #[.int .i64 (p : Int), .string ⟨#[]⟩] 51)).heap[w1.heap.size]? = some (.cells #[.int .i64 (p : Int), .string ⟨#[]⟩] 51) := heap_alloc_new _ _
    have hs2 : (w1.alloc (.cells #[.int .i64 (p : Int), .string ⟨#[]⟩] 51)).heap.size = w1.heap.size + 1 := by simp
    obtain ⟨W2, hW2⟩ : ∃ W2, w1.alloc (.cells #[.int .i64 (p : Int), .string ⟨#[]⟩] 51) = W2 := ⟨_, rfl⟩
    rw [hW2] at H1 G1 hR2 hX2 hs2
    have HR2 := Lib.hid hR2
    have HX2 := Lib.hid hX2
    have HS2 := Lib.hid hs2
    have HW1 := Lib.hid hw1
    have HW2 := Lib.hid hW2
    clear hi1 hg1 hR1 HN H0 G0 HR HSz hR2 hX2 hs2 hw1 hW2
    go_upto_region 2 with fail
    rw [HW2.out]
    obtain ⟨R, hRr⟩ : ∃ R, w.heap.size = R := ⟨_, rfl⟩
    obtain ⟨X, hXx⟩ : ∃ X, w1.heap.size = X := ⟨_, rfl⟩
    rw [hRr] at HR2 HW1 ⊢
    rw [hXx] at HX2 HS2 HW1 ⊢
    have HRl : Hid (w.heap.size ≤ R) := Lib.hid (Nat.le_of_eq hRr)
    have HQR : Hid (q < R) := Lib.hid (by rw [← hRr]; exact HQ.out)
    clear hRr hXx HW2 HQ
    by_cases h3 : r.length < 3
    · have hP : itP r = .error 2 := by unfold itP; rw [if_neg HL.out, if_pos h3]
      have HP := Lib.hid hP
      have HE := Lib.hid (inNum_end q 1 1 (r.drop 2) W2 H1.out rfl (by rw [List.length_drop]; omega))
      clear hP h3
      go_wp2_with fail
      refine HE.out.mono ?_
      rintro e w3 ⟨rfl, rfl⟩
      unfold failed
      go_wp2_with fail
      exact ⟨rfl, G1.out, Or.inl ⟨2, HP.out, rfl⟩⟩
    · have HN1 := Lib.hid (inNum q 1 1 (r.drop 2) W2 H1.out rfl (by rw [List.length_drop]; omega))
      obtain ⟨b, hb⟩ : ∃ b, num ((r.drop 2).take 1) = b := ⟨_, rfl⟩
      rw [hb] at HN1
      have hPb : itP r = if b = 0 then .ok (⟨p, []⟩, r.drop 3) else if b = 1 then (if r.length < 259 then .error 2 else .ok (⟨p, (r.drop 3).take 256⟩, r.drop 259)) else .error 1 := by
        unfold itP
        rw [if_neg HL.out, if_neg h3, hb, HPp.out]
      have HPb := Lib.hid hPb
      have H3 := Lib.hid h3
      clear hPb h3 hb
      have ed : (r.drop 2).drop 1 = r.drop 3 := by rw [List.drop_drop]
      rw [ed] at HN1
      clear ed
      go_wp2_with fail
      refine HN1.out.mono ?_
      rintro e w3 ⟨rfl, hi3, hg3⟩
      have H4 := Lib.hid hi3
      have G4 := Lib.hid (G1.out.trans hg3)
      have hR3 : w3.heap[R]? = some (.cells #[.int .i64 0, .string ⟨#[]⟩] 51) := by
        rw [hg3.block R (by rw [HS2.out]; have := HW1.out; omega) (by have := HQR.out; omega)]
        exact HR2.out
      have hX3 : w3.heap[X]? = some (.cells #[.int .i64 (p : Int), .string ⟨#[]⟩] 51) := by
        rw [hg3.block X (by rw [HS2.out]; omega) (by have := HQR.out; have := HW1.out; omega)]
        exact HX2.out
      have x0 : w3.cell? ⟨X, 0, none⟩ = some (.int .i64 (p : Int)) := by simp [World.cell?, hX3]
      have x1 : w3.cell? ⟨X, 1, none⟩ = some (.string ⟨#[]⟩) := by simp [World.cell?, hX3]
      have r0 : w3.cell? ⟨R, 0, none⟩ = some (.int .i64 0) := by simp [World.cell?, hR3]
      have r1 : w3.cell? ⟨R, 1, none⟩ = some (.string ⟨#[]⟩) := by simp [World.cell?, hR3]
      have rz : ∀ k, w3.frozen? ⟨R, k, none⟩ = false := fun k => by simp [World.frozen?, hR3]
      have xz : ∀ k, w3.frozen? ⟨X, k, none⟩ = false := fun k => by simp [World.frozen?, hX3]
      clear hi3 hg3 H1 G1 HN1 HR2 HX2
      by_cases b0 : b = 0
      · subst b0
        have HP := HPb
        rw [if_pos rfl] at HP
        clear HPb
        obtain ⟨f0, f1⟩ := pair_back (u := .int .i64 (p : Int)) (v := .string ⟨#[]⟩) r0 r1
        have GF := Lib.hid (pair_grew (.int .i64 (p : Int)) (.string ⟨#[]⟩) G4.out (R := R) (fun h => by have := HRl.out; omega))
        have HF := Lib.hid (H4.out.grew (pair_grew (S := fun k => k = R) (.int .i64 (p : Int)) (.string ⟨#[]⟩) (Grew.refl w3) (fun _ => rfl)) (by have := HQR.out; omega))
        go_wp2_with fail
        refine bodyPost_ret (v := itV ⟨p, []⟩) ?_ rfl ⟨GF.out, Or.inr ⟨⟨p, []⟩, r.drop 3, HP.out, rfl, HF.out⟩⟩
        simp [results, Tryd.results52, go_sem, f0, f1, itV]
      · by_cases b1 : b = 1
        · subst b1
          have HP := HPb
          rw [if_neg (by decide), if_pos rfl] at HP
          clear HPb b0
          by_cases h259 : r.length < 259
          · rw [if_pos h259] at HP
            have HE := Lib.hid (inText_end q 256 (r.drop 3) w3 H4.out (by rw [List.length_drop]; omega))
            clear h259
            go_wp2_with fail
            refine HE.out.mono ?_
            rintro e w5 ⟨rfl, rfl⟩
            unfold failed
            go_wp2_with fail
            exact ⟨rfl, G4.out, Or.inl ⟨2, HP.out, rfl⟩⟩
          · rw [if_neg h259] at HP
            have HE := Lib.hid (inText q 256 (r.drop 3) w3 H4.out (by rw [List.length_drop]; omega))
            have ed : (r.drop 3).drop 256 = r.drop 259 := by rw [List.drop_drop]
            rw [ed] at HE
            clear h259 ed
            obtain ⟨D, hD⟩ : ∃ D, (r.drop 3).take 256 = D := ⟨_, rfl⟩
            rw [hD] at HE HP
            clear hD
            go_wp2_with fail
            refine HE.out.mono ?_
            rintro e w5 ⟨rfl, hi5, hg5⟩
            have hlt3R := cell_lt r0
            have hlt3X := cell_lt x0
            have hX5 : w5.heap[X]? = some (.cells #[.int .i64 (p : Int), .string ⟨#[]⟩] 51) := by
              rw [hg5.block X hlt3X (by have := HQR.out; have := HW1.out; omega)]
              exact hX3
            have hR5 : w5.heap[R]? = some (.cells #[.int .i64 0, .string ⟨#[]⟩] 51) := by
              rw [hg5.block R hlt3R (by have := HQR.out; omega)]
              exact hR3
            have H5 := Lib.hid (hi5.grew ((Grew.refl (S := fun k => k = X) w5).setCell ⟨X, 1, none⟩ (.string ⟨D.toArray⟩) (fun _ => rfl)) (by have := HQR.out; have := HW1.out; omega))
            have G5 := Lib.hid ((G4.out.trans hg5).setCell ⟨X, 1, none⟩ (.string ⟨D.toArray⟩) (fun h => by have h : X < w.heap.size := h; have := HRl.out; have := HW1.out; omega))
            have x0' : (w5.setCell ⟨X, 1, none⟩ (.string ⟨D.toArray⟩)).cell? ⟨X, 0, none⟩ = some (.int .i64 (p : Int)) := by
              rw [World.cell?_setCell_other _ _ _ _ (fun e => by injection e with _ h _; cases h)]
              simp [World.cell?, hX5]
            have x1' : (w5.setCell ⟨X, 1, none⟩ (.string ⟨D.toArray⟩)).cell? ⟨X, 1, none⟩ = some (.string ⟨D.toArray⟩) := World.cell?_setCell_same _ _ _ (u := .string ⟨#[]⟩) (by simp [World.cell?, hX5])
            have hR6 : (w5.setCell ⟨X, 1, none⟩ (.string ⟨D.toArray⟩)).heap[R]? = some (.cells #[.int .i64 0, .string ⟨#[]⟩] 51) := by
              rw [Below.heap_setCell _ _ _ _ (by show R ≠ X; have := HW1.out; omega)]
              exact hR5
            have x1 : w5.cell? ⟨X, 1, none⟩ = some (.string ⟨#[]⟩) := by simp [World.cell?, hX5]
            have xz : ∀ k, w5.frozen? ⟨X, k, none⟩ = false := fun k => by simp [World.frozen?, hX5]
            clear hi5 hg5 hX5 hR5 H4 G4 HE hR3 hX3 x0 r0 r1 rz hlt3R hlt3X
            obtain ⟨w6, hw6⟩ : ∃ w6, w5.setCell ⟨X, 1, none⟩ (.string ⟨D.toArray⟩) = w6 := ⟨_, rfl⟩
            rw [hw6] at H5 G5 x0' x1' hR6
            have r0 : w6.cell? ⟨R, 0, none⟩ = some (.int .i64 0) := by simp [World.cell?, hR6]
            have r1 : w6.cell? ⟨R, 1, none⟩ = some (.string ⟨#[]⟩) := by simp [World.cell?, hR6]
            have rz : ∀ k, w6.frozen? ⟨R, k, none⟩ = false := fun k => by simp [World.frozen?, hR6]
            have HW6 := Lib.hid hw6
            clear hw6 hR6
            obtain ⟨f0, f1⟩ := pair_back (u := .int .i64 (p : Int)) (v := .string ⟨D.toArray⟩) r0 r1
            have GF := Lib.hid (pair_grew (.int .i64 (p : Int)) (.string ⟨D.toArray⟩) G5.out (R := R) (fun h => by have := HRl.out; omega))
            have HF := Lib.hid (H5.out.grew (pair_grew (S := fun k => k = R) (.int .i64 (p : Int)) (.string ⟨D.toArray⟩) (Grew.refl w6) (fun _ => rfl)) (by have := HQR.out; omega))
            go_upto_region 7 with fail
            rw [HW6.out]
            go_wp2_with fail
            refine bodyPost_ret (v := itV ⟨p, D⟩) ?_ rfl ⟨GF.out, Or.inr ⟨⟨p, D⟩, r.drop 259, HP.out, rfl, HF.out⟩⟩
            simp [results, Tryd.results52, go_sem, f0, f1, itV]
        · have HP := HPb
          rw [if_neg b0, if_neg b1] at HP
          have e0 : (((b : Nat) : Int) == 0) = false := by simpa using b0
          have e1 : (((b : Nat) : Int) == 1) = false := by
            have : ((b : Nat) : Int) ≠ 1 := by omega
            simpa using this
          clear HPb b0 b1
          go_wp2_with fail
          refine (fail_any 1 _).mono ?_
          rintro e w5 ⟨rfl, rfl⟩
          unfold failed
          go_wp2_with fail
          exact ⟨rfl, G4.out, Or.inl ⟨1, HP.out, rfl⟩⟩
end Go.Proofs.YtpgmgopcgoblhaaDoor
