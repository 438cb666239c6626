/-
  The document's own Check: a contract.
-/
import Derived.Test.YtpgmgopcgoblhaaDoorStreamTold
namespace Go.Proofs.YtpgmgopcgoblhaaDoor
open Go.RowKit

theorem okIt_not {size : Int} {x : It} (h : size ≤ 4 * x.pl) : okIt size x = false := by
  unfold okIt
  rw [decide_eq_false (by omega), Bool.false_and]
theorem okIt_of {size : Int} {x : It} (h : 4 * x.pl < size) : okIt size x = (x.dt.isEmpty || (decide (x.dt.length = 256) && (!allZero x.dt && allZero (x.dt.drop (min (size - x.pl * 4) 4 * 64).toNat)))) := by
  unfold okIt
  rw [decide_eq_true (by omega), Bool.true_and]
set_option maxRecDepth 100000 in
set_option maxHeartbeats 4000000 in
theorem refCheck_any (size : Int) (B T : ByteArray) (v : Value) (l : List It) (w : World) (hv : ItsAt w v l) (hl : l.length ≤ 100000) (hd : ∀ x ∈ l, x.dt.length ≤ maxLen) (base target : List UInt8) :
    Calls Tryd.prog 10 #[.agg (rfL size B T v)] w fun e w' => e = .returned (.int .i64 (chk ⟨size, base, target, l⟩)) ∧ Below w.heap.size w w' := by
  obtain ⟨a, cap, rfl⟩ := hv.form
  unfold rfL chk
  dsimp only
  have h2 := heap_alloc_new w (.cells #[.int .i64 size, .string B, .string T, .slice a l.length cap] 32)
  have h3 : Below w.heap.size w (w.alloc (.cells #[.int .i64 size, .string B, .string T, .slice a l.length cap] 32)) := (Below.refl _ w).alloc (Nat.le_refl _) _
  have hs : w.heap.size < (w.alloc (.cells #[.int .i64 size, .string B, .string T, .slice a l.length cap] 32)).heap.size := by simp
  obtain ⟨W, hW⟩ : ∃ W, w.alloc (.cells #[.int .i64 size, .string B, .string T, .slice a l.length cap] 32) = W := ⟨_, rfl⟩
  rw [hW] at h2 h3 hs
  obtain ⟨y0, y1, y2, y3, _⟩ := four h2
  have HB := Lib.hid h3
  have HS := Lib.hid hs
  have HY := Lib.hid (And.intro y0 y3)
  have HV := Lib.hid hv
  have HD := Lib.hid hd
  have HL := Lib.hid hl
  have HWe := Lib.hid hW
  clear hv hd hl h2 h3 hs hW
  by_cases h1 : size < 1
  · rw [if_pos (Or.inl h1)]
    go_enter Tryd.func10, Tryd.ntmps10
    go_upto_region 1 with fail
    rw [HWe.out]
    go_wp2
    go_ret
    exact ⟨rfl, HB.out⟩
  · by_cases h2 : 2048 < size
    · rw [if_pos (Or.inr h2)]
      go_enter Tryd.func10, Tryd.ntmps10
      go_upto_region 1 with fail
      rw [HWe.out]
      go_wp2
      go_ret
      exact ⟨rfl, HB.out⟩
    · rw [if_neg (by omega)]
      obtain ⟨R, hR⟩ : ∃ R, chkIts size 0 l = R := ⟨_, rfl⟩
      rw [hR]
      have HR := Lib.hid hR
      have H12 := Lib.hid (And.intro h1 h2)
      have d1 : decide (size < 1) = false := decide_eq_false h1
      have d2 : decide (2048 < size) = false := decide_eq_false h2
      clear hR h1 h2
      go_enter Tryd.func10, Tryd.ntmps10
      go_upto_region 1 with fail
      rw [HWe.out]
      go_wp2_with fail
      go_loopw [3, 18] (fun le i wx => ∃ (k : Nat) (last : Int), k ≤ l.length ∧ i = .int .i64 (k : Int) ∧ le = .int .i64 last ∧ -1 ≤ last ∧ chkIts size (last + 1) (l.drop k) = R ∧ Below (w.heap.size + 1) W wx) (fun _ i _ => l.length - (intOf i).toNat)
      case atStart => exact ⟨0, -1, by omega, rfl, rfl, by omega, HR.out, Below.refl _ _⟩
      case round =>
        clear y0 y1 y2 y3
        obtain ⟨k, last, hk, rfl, rfl, hleast, hchk, hbel⟩ := hrel
        have HLe := Lib.hid hleast
        have HC := Lib.hid hchk
        have HBl := Lib.hid hbel
        have c0 : wr.cell? ⟨w.heap.size, 0, none⟩ = some (.int .i64 size) := by rw [hbel.cell (p := ⟨w.heap.size, 0, none⟩) (Nat.lt_succ_self _)]; exact HY.out.1
        have HVr := Lib.hid (HV.out.below (HB.out.trans (hbel.mono (Nat.le_succ _))))
        clear hleast hchk hbel
        by_cases hlt : k < l.length
        · have i0 : (k : Int) < (l.length : Int) := by omega
          obtain ⟨x, hx⟩ : ∃ x, l[k]? = some x := ⟨_, List.getElem?_eq_getElem hlt⟩
          obtain ⟨b, rfl, x0, x1⟩ := HVr.out.at hx
          have HX := Lib.hid (chkIts_step (size := size) (least := last + 1) hx)
          rw [HC.out] at HX
          have HXd := Lib.hid (HD.out x (List.mem_of_getElem? hx))
          have HAl : Hid (Below (w.heap.size + 1) W (wr.alloc (.cells #[.int .i64 x.pl, .string ⟨x.dt.toArray⟩] 55))) := Lib.hid (HBl.out.alloc (Nat.le_trans HS.out HBl.out.size) _)
          have c0' : (wr.alloc (.cells #[.int .i64 x.pl, .string ⟨x.dt.toArray⟩] 55)).cell? ⟨w.heap.size, 0, none⟩ = some (.int .i64 size) := by rw [HAl.out.cell (p := ⟨w.heap.size, 0, none⟩) (Nat.lt_succ_self _)]; exact HY.out.1
          have HDone : Hid (Below w.heap.size w (wr.alloc (.cells #[.int .i64 x.pl, .string ⟨x.dt.toArray⟩] 55))) := Lib.hid (HB.out.trans (HAl.out.mono (Nat.le_succ _)))
          have hk9 : (k : Int) < 100000 := by have := HL.out; omega
          clear hx
          obtain ⟨pl, dt⟩ := x
          dsimp only at x0 x1 HX HXd HAl c0' HDone
          obtain ⟨D, hDD⟩ : ∃ D : ByteArray, ⟨dt.toArray⟩ = D := ⟨_, rfl⟩
          have hDl : D.data.toList = dt := by rw [← hDD]
          have hDs : D.size = dt.length := by rw [← hDD]; simp [ByteArray.size]
          rw [hDD] at x1 HAl c0' HDone
          clear hDD
          by_cases c1 : pl ≤ last
          · have hz : R = 1 := by rw [HX.out, if_pos (Or.inl (by omega))]
            have HZ := Lib.hid hz
            clear hz hDl hDs
            go_wp2_with fail
            go_ret
            exact ⟨by rw [HZ.out]; rfl, HDone.out⟩
          · have d3 : decide (pl ≤ last) = false := decide_eq_false c1
            have HC1 := Lib.hid c1
            clear c1
            by_cases c2 : 511 < pl
            · have hz : R = 1 := by rw [HX.out, if_pos (Or.inr (okIt_not (by have := H12.out.2; dsimp only; omega)))]
              have HZ := Lib.hid hz
              clear hz hDl hDs
              go_wp2_with fail
              go_ret
              exact ⟨by rw [HZ.out]; rfl, HDone.out⟩
            · have d4 : decide (511 < pl) = false := decide_eq_false c2
              have m1 : IntKind.i64.wrap (4 * pl) = 4 * pl := IntWalk.i64_in _ (by have := HC1.out; have := HLe.out; omega)
              have m1' : wrap64 (4 * pl) = 4 * pl := by have := HC1.out; have := HLe.out; unfold wrap64; omega
              have HC2 := Lib.hid c2
              clear c2
              by_cases c3 : size ≤ 4 * pl
              · have hz : R = 1 := by rw [HX.out, if_pos (Or.inr (okIt_not c3))]
                have HZ := Lib.hid hz
                clear hz hDl hDs
                go_wp2_with fail
                go_ret
                exact ⟨by rw [HZ.out]; rfl, HDone.out⟩
              · have d5 : decide (size ≤ 4 * pl) = false := decide_eq_false c3
                have HO := Lib.hid (okIt_of (size := size) (x := ⟨pl, dt⟩) (by dsimp only; omega))
                have HC3 := Lib.hid c3
                have hnext : okIt size ⟨pl, dt⟩ = true → chkIts size (pl + 1) (l.drop (k + 1)) = R := fun h => by
                  rw [HX.out, if_neg (by rintro (q | q); have := HC1.out; omega; rw [h] at q; exact Bool.noConfusion q)]
                have HNext := Lib.hid hnext
                have hbad : okIt size ⟨pl, dt⟩ = false → R = 1 := fun h => by rw [HX.out, if_pos (Or.inr h)]
                have HBad := Lib.hid hbad
                have HP1 : Hid (-1 ≤ pl) := Lib.hid (by have := HC1.out; have := HLe.out; omega)
                have hm9 : wrap64 ((k : Int) + 1) = (k : Int) + 1 := by unfold wrap64; omega
                clear c3 hnext hbad
                by_cases c4 : dt = []
                · have hok := HNext.out (by rw [HO.out]; dsimp only; rw [c4]; rfl)
                  have HOk := Lib.hid hok
                  have hem : D.toList.isEmpty = true := by rw [ByteArray.toList_eq, hDl, c4]; rfl
                  clear hok c4 hDl hDs
                  go_wp2_with fail
                  go_roundw
                  case rel => exact ⟨k + 1, pl, by omega, by go_num, rfl, HP1.out, HOk.out, HAl.out⟩
                  case measure => simp [intOf]; omega
                · have e1 : dt.isEmpty = false := by cases dt with
                    | nil => exact absurd rfl c4
                    | cons _ _ => rfl
                  have hem : D.toList.isEmpty = false := by rw [ByteArray.toList_eq, hDl]; exact e1
                  have HO2 : Hid (okIt size ⟨pl, dt⟩ = (decide (dt.length = 256) && (!allZero dt && allZero (dt.drop (min (size - pl * 4) 4 * 64).toNat)))) := Lib.hid (by rw [HO.out]; dsimp only; rw [e1, Bool.false_or])
                  clear c4 e1
                  by_cases c5 : dt.length = 256
                  · have hsz : (D.size : Int) = 256 := by omega
                    have hsz2 : ((D.size : Int) != 256) = false := by simp [hsz]
                    have HZr := Lib.hid (refZero_any D (wr.alloc (.cells #[.int .i64 pl, .string D] 55)) (by rw [hDs, c5]; unfold maxLen; omega))
                    rw [hDl] at HZr
                    have HC5 := Lib.hid c5
                    by_cases c6 : allZero dt = true
                    · have hz : R = 1 := HBad.out (by rw [HO2.out, c6]; simp)
                      have HZ := Lib.hid hz
                      rw [c6] at HZr
                      clear hz c6 c5 hDl hDs
                      go_wp2_with fail
                      refine HZr.out.mono ?_
                      rintro e w1 ⟨rfl, rfl⟩
                      go_wp2_with fail
                      go_ret
                      exact ⟨by rw [HZ.out]; rfl, HDone.out⟩
                    · have c6' : allZero dt = false := by simpa using c6
                      rw [c6'] at HZr
                      have HO3 : Hid (okIt size ⟨pl, dt⟩ = allZero (dt.drop (min (size - pl * 4) 4 * 64).toNat)) := Lib.hid (by rw [HO2.out, c6', decide_eq_true c5]; simp)
                      obtain ⟨m, hm⟩ : ∃ m, size - 4 * pl = m := ⟨_, rfl⟩
                      have m2 : IntKind.i64.wrap (size - 4 * pl) = m := by rw [IntWalk.i64_in _ (by have := HC2.out; have := H12.out; have := HC1.out; have := HLe.out; omega)]; exact hm
                      have m2' : wrap64 (size - 4 * pl) = m := by have := HC2.out; have := H12.out; have := HC1.out; have := HLe.out; unfold wrap64; omega
                      have hx0 : (wr.alloc (.cells #[.int .i64 pl, .string D] 55)).cell? ⟨wr.heap.size, 0, none⟩ = some (.int .i64 pl) := by simp
                      have hx1 : (wr.alloc (.cells #[.int .i64 pl, .string D] 55)).cell? ⟨wr.heap.size, 1, none⟩ = some (.string D) := by simp
                      clear c6 c6'
                      by_cases c7 : m < 4
                      · obtain ⟨K, hK⟩ : ∃ K : Nat, 64 * m = (K : Int) := ⟨(64 * m).toNat, by have := HC3.out; omega⟩
                        have hK2 : (min (size - pl * 4) 4 * 64).toNat = K := by omega
                        have hK3 : K ≤ 256 := by have := HC3.out; omega
                        have m3 : IntKind.i64.wrap (64 * m) = (K : Int) := by rw [IntWalk.i64_in _ (by omega)]; exact hK
                        have m3' : wrap64 (64 * m) = (K : Int) := by unfold wrap64; omega
                        have hs256 : D.size = 256 := by omega
                        have hEl : (D.extract K D.size).data.toList = dt.drop K := by
                          rw [← hDl, ByteArray.data_extract, Array.toList_extract, List.extract_eq_take_drop]
                          exact List.take_of_length_le (by rw [List.length_drop]; simp)
                        have HZ2 := Lib.hid (refZero_any (D.extract K D.size) (wr.alloc (.cells #[.int .i64 pl, .string D] 55)) (by rw [ByteArray.size_extract]; unfold maxLen; omega))
                        rw [hEl] at HZ2
                        rw [hK2] at HO3
                        have k0 : (K : Int) ≤ (D.size : Int) := by omega
                        have k1 : K ≤ D.size := by omega
                        obtain ⟨z, hz⟩ : ∃ z, allZero (dt.drop K) = z := ⟨_, rfl⟩
                        rw [hz] at HZ2 HO3
                        have d7 : decide (m < 4) = true := decide_eq_true c7
                        clear hEl hs256 hK2 hz hDl hDs c5 hm
                        cases z
                        · have hz : R = 1 := HBad.out HO3.out
                          have HZ := Lib.hid hz
                          clear hz
                          go_wp2_with fail
                          refine HZr.out.mono ?_
                          rintro e w1 ⟨rfl, rfl⟩
                          go_wp2_with fail
                          refine HZ2.out.mono ?_
                          rintro e w1 ⟨rfl, rfl⟩
                          go_wp2_with fail
                          go_ret
                          exact ⟨by rw [HZ.out]; rfl, HDone.out⟩
                        · have hok := HNext.out HO3.out
                          have HOk := Lib.hid hok
                          clear hok
                          go_wp2_with fail
                          refine HZr.out.mono ?_
                          rintro e w1 ⟨rfl, rfl⟩
                          go_wp2_with fail
                          refine HZ2.out.mono ?_
                          rintro e w1 ⟨rfl, rfl⟩
                          go_wp2_with fail
                          go_roundw
                          case rel => exact ⟨k + 1, pl, by omega, by go_num, rfl, HP1.out, HOk.out, HAl.out⟩
                          case measure => simp [intOf]; omega
                      · have hok := HNext.out (by
                          rw [HO3.out, show (min (size - pl * 4) 4 * 64).toNat = 256 by omega, List.drop_of_length_le (by omega)]
                          rfl)
                        have HOk := Lib.hid hok
                        have d7 : decide (m < 4) = false := decide_eq_false c7
                        clear hok c7 c5 hDl hDs hm
                        go_wp2_with fail
                        refine HZr.out.mono ?_
                        rintro e w1 ⟨rfl, rfl⟩
                        go_wp2_with fail
                        go_roundw
                        case rel => exact ⟨k + 1, pl, by omega, by go_num, rfl, HP1.out, HOk.out, HAl.out⟩
                        case measure => simp [intOf]; omega
                  · have hsz : ¬ (D.size : Int) = 256 := by omega
                    have hsz2 : ((D.size : Int) != 256) = true := by simpa using hsz
                    have hz : R = 1 := HBad.out (by rw [HO2.out, decide_eq_false c5]; rfl)
                    have HZ := Lib.hid hz
                    clear hz c5 hDl hDs
                    go_wp2_with fail
                    go_ret
                    exact ⟨by rw [HZ.out]; rfl, HDone.out⟩
        · obtain rfl : k = l.length := by omega
          have i0 : ¬ (l.length : Int) < (l.length : Int) := by omega
          have hz : R = 0 := by
            have h := HC.out
            rw [List.drop_length] at h
            exact h.symm
          have HZ := Lib.hid hz
          clear hz
          go_wp2_with fail
          go_ret
          exact ⟨by rw [HZ.out]; rfl, HB.out.trans (HBl.out.mono (Nat.le_succ _))⟩
end Go.Proofs.YtpgmgopcgoblhaaDoor
