/-
  A stream is parsed: what stands ahead of its size.
-/
import Derived.Test.YtpgmgopcgoblhaaDoorStreamParA
import Derived.Test.YtpgmgopcgoblhaaDoorHeldTill
namespace Go.Proofs.YtpgmgopcgoblhaaDoor
open Go.RowKit

def z32 : List UInt8 := List.replicate 32 0
def st0 : List Value := stL 0 z32 z32 (.slice none 0 0)
theorem alloc_st (w : World) : (Instr.alloc 28 true (.tuple #[])).run Tryd.prog w = .ok (.pointer (some ⟨w.heap.size, 0, none⟩)) (w.alloc (.cells st0.toArray 28)) := by kernel_rfl
theorem one_cells (b : List UInt8) : (cellsOf b).toArray.all (·.oneCell') = true := by
  refine all_oneCell_toArray fun v hv => ?_
  unfold cellsOf at hv
  rw [List.mem_map] at hv
  obtain ⟨x, _, rfl⟩ := hv
  rfl
/-- the items, and that nothing is left -/
def restP (z : Nat) (b t : List UInt8) (n : Nat) (l : List UInt8) : Except Int St :=
  match itsP n l [] with
  | .error e => .error e
  | .ok (xs, r) => if r = [] then .ok ⟨z, b, t, xs⟩ else .error 1
theorem own_one {w : World} {B n k : Nat} {t : TypeId} {v : Value} {xs : List Value} (h : w.ownsRow B t k v n xs) : v.oneCell' = true := by
  rcases h.2 with ⟨rfl, _⟩ | ⟨b, cap, cur, rfl, _⟩ <;> rfl
theorem one_st (z : Int) (b t : List UInt8) (v : Value) (hv : v.oneCell' = true) : (stL z b t v).toArray.all (·.oneCell') = true := by
  refine all_oneCell_toArray fun u hu => ?_
  unfold stL at hu
  simp only [List.mem_cons, List.mem_append, List.not_mem_nil, or_false] at hu
  rcases hu with rfl | hu | hu | rfl
  · rfl
  · unfold cellsOf at hu
    rw [List.mem_map] at hu
    obtain ⟨x, _, rfl⟩ := hu
    rfl
  · unfold cellsOf at hu
    rw [List.mem_map] at hu
    obtain ⟨x, _, rfl⟩ := hu
    rfl
  · exact hv
theorem its_grew {w w' : World} {v : Value} {l : List It} {S : Nat → Prop} (h : ItsAt w v l) (g : Grew S w w') (hS : ∀ b, v.ownBlock = some b → ¬ S b) : ItsAt w' v l := by
  rcases h with h | ⟨b, cap, rfl, hr⟩
  · exact Or.inl h
  · exact Or.inr ⟨b, cap, rfl, fun i x hx => ⟨(g.cell (p := ⟨b, i * 2, none⟩) (cell_lt (hr i x hx).1) (hS b rfl)).trans (hr i x hx).1, (g.cell (p := ⟨b, i * 2 + 1, none⟩) (cell_lt (hr i x hx).1) (hS b rfl)).trans (hr i x hx).2⟩⟩
theorem infoIt : (Tryd.prog.info? 51).map (fun i => (i.zero, i.size, i.bytes)) = some (some (.agg #[.int .i64 0, .string ⟨#[]⟩]), 2, 24) := by kernel_rfl
theorem st0_len : st0.length = 66 := rfl
theorem st0_cells (w : World) : Cells w.heap.size 66 (cellsAt st0) (w.alloc (.cells st0.toArray 28)) :=
  Cells.new w 66 _ 28 _ fun j hj => by rw [List.getElem?_toArray]; exact cellsAt_get _ j (by rw [st0_len]; exact hj)
/-- what parsing leaves -/
def ParsePost (q : Nat) (r : List UInt8) (w : World) (e : Ending) (w' : World) : Prop :=
  OnlyQ q w w' ∧ ((∃ k, bodyP r = .error k ∧ e = failed k) ∨ (∃ s v, bodyP r = .ok s ∧ e = .returned (.agg (stL s.size s.base s.target v).toArray) ∧ ItsAt w' v s.items ∧ (∀ b, v.ownBlock = some b → w.heap.size ≤ b)))
/-- ahead of the size -/
structure PaA (w : World) (q : Nat) (r : List UInt8) (wx : World) : Prop where
  inp : InP q r wx
  only : OnlyQ q w wx
  res : Cells w.heap.size 66 (cellsAt st0) wx
  qlt : q < w.heap.size
theorem PaA.start {w : World} {q : Nat} {r : List UInt8} (h : InP q r w) : PaA w q r (w.alloc (.cells st0.toArray 28)) := ⟨h.alloc _, (Grew.refl w).alloc _, st0_cells w, h.lt⟩
theorem PaA.eat {w : World} {q : Nat} {r r' : List UInt8} {wx wy : World} (h : PaA w q r wx) (hi : InP q r' wy) (hg : OnlyQ q wx wy) : PaA w q r' wy :=
  ⟨hi, h.only.trans hg, h.res.grew hg (by have := h.qlt; omega), h.qlt⟩
theorem PaA.begin {w : World} {q : Nat} {r : List UInt8} {wx : World} (h : PaA w q r wx) : PrAt w q wx.heap.size st0 r 0 z32 z32 (.slice none 0 0) [] (wx.alloc (.cells st0.toArray 28)) :=
  ⟨h.inp.alloc _, h.only.alloc _, h.res.alloc _, st0_cells wx, ⟨rfl, Or.inl ⟨rfl, rfl⟩⟩, h.qlt, h.res.1, rfl, rfl⟩
set_option maxRecDepth 100000 in
set_option maxHeartbeats 2000000 in
theorem parse_any (q : Nat) (r : List UInt8) (w : World) (h : InP q r w) :
    Calls Tryd.prog 37 #[.pointer (some ⟨q, 0, none⟩)] w fun e w' => ParsePost q r w e w' := by
  have HAl := alloc_st
  obtain ⟨i0', hi, hz0, hz1, hz2⟩ := info_parts infoIt
  have HI0 := Lib.hid hi
  have HI1 := Lib.hid hz0
  have HI2 := Lib.hid hz1
  have HI3 := Lib.hid hz2
  clear hi hz0 hz1 hz2
  have H0 := Lib.hid (PaA.start h)
  obtain ⟨W, hW⟩ : ∃ W, w.alloc (.cells st0.toArray 28) = W := ⟨_, rfl⟩
  rw [hW] at H0
  have HW := Lib.hid hW
  obtain ⟨Z, hZ⟩ : ∃ Z, st0.toArray = Z := ⟨_, rfl⟩
  rw [hZ] at HAl HW
  clear h hW
  go_enter Tryd.func37, Tryd.ntmps37
  go_upto_region 1 with (refine wpList_alloc rfl 28 rfl _ (HAl _) ?_)
  rw [HW.out]
  by_cases h4 : r.length < 4
  · have hP : bodyP r = .error 2 := by unfold bodyP; rw [if_pos h4]
    have HP := Lib.hid hP
    have HE := Lib.hid (inText_end q 4 r W H0.out.inp h4)
    clear hP h4
    go_wp2_with fail
    refine HE.out.mono ?_
    rintro e w1 ⟨rfl, rfl⟩
    unfold failed
    go_wp2_with fail
    exact ⟨rfl, H0.out.only, Or.inl ⟨2, HP.out, rfl⟩⟩
  · have HE := Lib.hid (inText q 4 r W H0.out.inp (by omega))
    have HL4 := Lib.hid h4
    clear h4
    by_cases hm : r.take 4 = markB
    · have HM := Lib.hid hm
      rw [hm] at HE
      unfold markB at HE
      clear hm
      go_wp2_with fail
      refine HE.out.mono ?_
      rintro e w1 ⟨rfl, hi1, hg1⟩
      have H1 := Lib.hid (H0.out.eat hi1 hg1)
      clear hi1 hg1 HE H0
      by_cases h5 : r.length < 5
      · have hP : bodyP r = .error 2 := by unfold bodyP; rw [if_neg HL4.out, if_neg (Decidable.not_not.2 HM.out), if_pos h5]
        have HP := Lib.hid hP
        have HE := Lib.hid (inNum_end q 1 1 (r.drop 4) w1 H1.out.inp rfl (by rw [List.length_drop]; omega))
        clear hP h5
        go_wp2_with fail
        refine HE.out.mono ?_
        rintro e w1 ⟨rfl, rfl⟩
        unfold failed
        go_wp2_with fail
        exact ⟨rfl, H1.out.only, Or.inl ⟨2, HP.out, rfl⟩⟩
      · have HE := Lib.hid (inNum q 1 1 (r.drop 4) w1 H1.out.inp rfl (by rw [List.length_drop]; omega))
        rw [List.drop_drop] at HE
        have HL5 := Lib.hid h5
        clear h5
        by_cases hb : num ((r.drop 4).take 1) = 1
        · have hPre : bodyP r = if r.length < 73 then .error 2 else restP (num ((r.drop 5).take 2)) ((r.drop 7).take 32) ((r.drop 39).take 32) (num ((r.drop 71).take 2)) (r.drop 73) := by
            unfold bodyP
            rw [if_neg HL4.out, if_neg (Decidable.not_not.2 HM.out), if_neg HL5.out, if_neg (Decidable.not_not.2 hb)]
            rfl
          have HPre := Lib.hid hPre
          rw [hb] at HE
          clear hPre hb
          go_wp2_with fail
          refine HE.out.mono ?_
          rintro e w2 ⟨rfl, hi2, hg2⟩
          have H2 := Lib.hid (H1.out.eat hi2 hg2)
          clear hi2 hg2 HE H1
          have H3 := Lib.hid H2.out.begin
          obtain ⟨W3, hW3⟩ : ∃ W3, w2.alloc (.cells st0.toArray 28) = W3 := ⟨_, rfl⟩
          rw [hW3] at H3
          rw [hZ] at hW3
          have HW3 := Lib.hid hW3
          clear hW3 H2
          go_upto_region 4 with (refine wpList_alloc rfl 28 rfl _ (HAl _) ?_)
          rw [HW3.out]
          obtain ⟨S, hS⟩ : ∃ S, w2.heap.size = S := ⟨_, rfl⟩
          rw [hS] at H3 ⊢
          clear HW3 hS
          by_cases h7 : r.length < 7
          · have hP : bodyP r = .error 2 := by rw [HPre.out, if_pos (by omega)]
            have HP := Lib.hid hP
            have HE := Lib.hid (inNum_end q 2 2 (r.drop 5) W3 H3.out.inp rfl (by rw [List.length_drop]; omega))
            clear hP h7
            go_wp2_with fail
            refine HE.out.mono ?_
            rintro e w1 ⟨rfl, rfl⟩
            unfold failed
            go_wp2_with fail
            exact ⟨rfl, H3.out.only, Or.inl ⟨2, HP.out, rfl⟩⟩
          · have HE := Lib.hid (inNum q 2 2 (r.drop 5) W3 H3.out.inp rfl (by rw [List.length_drop]; omega))
            rw [List.drop_drop] at HE
            obtain ⟨z, hz⟩ : ∃ z, num ((r.drop 5).take 2) = z := ⟨_, rfl⟩
            have u1 := i64_small z (by rw [← hz]; exact num2_lt _)
            rw [hz] at HE HPre
            have HL7 := Lib.hid h7
            clear h7 hz
            go_wp2_with fail
            refine HE.out.mono ?_
            rintro e w4 ⟨rfl, hi4, hg4⟩
            have H4 := Lib.hid (H3.out.eat hi4 hg4)
            have s0 := (H4.out.st.2 0 (by decide)).1
            have s0z := (H4.out.st.2 0 (by decide)).2
            have s0' : w4.cell? ⟨S, 0, none⟩ = some (.int .i64 0) := s0
            have H5 := Lib.hid (H4.out.sizeTo (z : Int))
            clear hi4 hg4 HE H3 H4 s0
            go_upto_region 5 with fail
            generalize w4.setCell ⟨S, 0, none⟩ (.int .i64 (z : Int)) = w5 at *
            clear s0' s0z
            by_cases h39 : r.length < 39
            · have hP : bodyP r = .error 2 := by rw [HPre.out, if_pos (by omega)]
              have HP := Lib.hid hP
              have HE := Lib.hid (sum_end q (r.drop 7) w5 H5.out.inp (by rw [List.length_drop]; omega))
              clear hP h39
              go_wp2_with fail
              refine HE.out.mono ?_
              rintro e w1 ⟨rfl, hg⟩
              have HF := Lib.hid (H5.out.fell hg)
              clear hg
              unfold failed
              go_wp2_with fail
              exact ⟨rfl, HF.out, Or.inl ⟨2, HP.out, rfl⟩⟩
            · have HE := Lib.hid (sum_ok q (r.drop 7) w5 H5.out.inp (by rw [List.length_drop]; omega))
              have hbl : ((r.drop 7).take 32).length = 32 := by rw [List.length_take, List.length_drop]; omega
              rw [List.drop_drop] at HE
              obtain ⟨BB, hBB⟩ : ∃ BB, (r.drop 7).take 32 = BB := ⟨_, rfl⟩
              rw [hBB] at HE HPre hbl
              have HBBl := Lib.hid hbl
              have hC1 : (cellsOf BB).length = 32 := by rw [cellsOf_len, hbl]
              have HBBo := Lib.hid (one_cells BB)
              obtain ⟨CBB, hC⟩ : ∃ CBB, cellsOf BB = CBB := ⟨_, rfl⟩
              have HCBB := Lib.hid hC
              rw [hC] at HE hC1 HBBo
              have HIBB : Hid ((Tryd.prog.info? 25).map (·.size) = some CBB.toArray.size) := Lib.hid (by rw [List.size_toArray, hC1]; kernel_rfl)
              have HClBB := Lib.hid hC1
              have HL39 := Lib.hid h39
              clear h39 hBB hbl hC hC1
              go_wp2_with fail
              refine HE.out.mono ?_
              rintro e w6 ⟨rfl, hi, hg⟩
              have H6 := Lib.hid (H5.out.eat hi hg)
              have HTh : Hid (w6.there S 1 CBB.toArray.size) := Lib.hid (H6.out.st.there 1 _ (by have := HClBB.out; rw [List.size_toArray, this]; decide))
              have H7 := Lib.hid (H6.out.baseTo BB HBBl.out)
              rw [HCBB.out] at H7
              clear hi hg HE H5 H6
              go_upto_region 6 with (with_reducible refine wpList_store_mid rfl 25 _ _ rfl S 1 CBB.toArray rfl rfl HTh.out HIBB.out HBBo.out ?_)
              clear HTh
              generalize w6.setCells S 1 CBB = w7 at *
              by_cases h71 : r.length < 71
              · have hP : bodyP r = .error 2 := by rw [HPre.out, if_pos (by omega)]
                have HP := Lib.hid hP
                have HE := Lib.hid (sum_end q (r.drop 39) w7 H7.out.inp (by rw [List.length_drop]; omega))
                clear hP h71
                go_wp2_with fail
                refine HE.out.mono ?_
                rintro e w1 ⟨rfl, hg⟩
                have HF := Lib.hid (H7.out.fell hg)
                clear hg
                unfold failed
                go_wp2_with fail
                exact ⟨rfl, HF.out, Or.inl ⟨2, HP.out, rfl⟩⟩
              · have HE := Lib.hid (sum_ok q (r.drop 39) w7 H7.out.inp (by rw [List.length_drop]; omega))
                have hbl : ((r.drop 39).take 32).length = 32 := by rw [List.length_take, List.length_drop]; omega
                rw [List.drop_drop] at HE
                obtain ⟨TT, hTT⟩ : ∃ TT, (r.drop 39).take 32 = TT := ⟨_, rfl⟩
                rw [hTT] at HE HPre hbl
                have HTTl := Lib.hid hbl
                have hC1 : (cellsOf TT).length = 32 := by rw [cellsOf_len, hbl]
                have HTTo := Lib.hid (one_cells TT)
                obtain ⟨CTT, hC⟩ : ∃ CTT, cellsOf TT = CTT := ⟨_, rfl⟩
                have HCTT := Lib.hid hC
                rw [hC] at HE hC1 HTTo
                have HITT : Hid ((Tryd.prog.info? 25).map (·.size) = some CTT.toArray.size) := Lib.hid (by rw [List.size_toArray, hC1]; kernel_rfl)
                have HClTT := Lib.hid hC1
                have HL71 := Lib.hid h71
                clear h71 hTT hbl hC hC1
                go_wp2_with fail
                refine HE.out.mono ?_
                rintro e w8 ⟨rfl, hi, hg⟩
                have H8 := Lib.hid (H7.out.eat hi hg)
                have HTh : Hid (w8.there S 33 CTT.toArray.size) := Lib.hid (H8.out.st.there 33 _ (by have := HClTT.out; rw [List.size_toArray, this]; decide))
                have H9 := Lib.hid (H8.out.targetTo TT HTTl.out)
                rw [HCTT.out] at H9
                clear hi hg HE H7 H8
                go_upto_region 7 with (with_reducible refine wpList_store_mid rfl 25 _ _ rfl S 33 CTT.toArray rfl rfl HTh.out HITT.out HTTo.out ?_)
                clear HTh
                generalize w8.setCells S 33 CTT = w9 at *
                by_cases h73 : r.length < 73
                · have hP : bodyP r = .error 2 := by rw [HPre.out, if_pos (by omega)]
                  have HP := Lib.hid hP
                  have HE := Lib.hid (inNum_end q 2 2 (r.drop 71) w9 H9.out.inp rfl (by rw [List.length_drop]; omega))
                  clear hP h73
                  go_wp2_with fail
                  refine HE.out.mono ?_
                  rintro e w1 ⟨rfl, rfl⟩
                  unfold failed
                  go_wp2_with fail
                  exact ⟨rfl, H9.out.only, Or.inl ⟨2, HP.out, rfl⟩⟩
                · have HE := Lib.hid (inNum q 2 2 (r.drop 71) w9 H9.out.inp rfl (by rw [List.length_drop]; omega))
                  rw [List.drop_drop] at HE
                  have hPr := HPre.out
                  rw [if_neg h73] at hPr
                  obtain ⟨n, hn⟩ : ∃ n, num ((r.drop 71).take 2) = n := ⟨_, rfl⟩
                  have hn2 : n < 65536 := by rw [← hn]; exact num2_lt _
                  rw [hn] at HE hPr
                  have HPr := Lib.hid hPr
                  have HN := Lib.hid hn2
                  obtain ⟨G, hG⟩ : ∃ G, itsP n (r.drop 73) [] = G := ⟨_, rfl⟩
                  have HGn := Lib.hid hG
                  have hnI : (n : Int) < 65536 := by omega
                  clear h73 hn hPr hn2 HPre hG
                  go_wp2_with fail
                  refine HE.out.mono ?_
                  rintro e w10 ⟨rfl, hi, hg⟩
                  have H10 := Lib.hid (H9.out.eat hi hg)
                  clear hi hg HE H9
                  go_wp2_with fail
                  go_loopw [25] (fun i wx => ∃ (k : Nat) (r1 : List UInt8) (v : Value) (acc : List It), k ≤ n ∧ i = .int .u64 (k : Int) ∧ acc.length = k ∧ itsP (n - k) r1 acc = G ∧ PrAt w q S st0 r1 (z : Int) BB TT v acc wx) (fun i _ => n - (intOf i).toNat)
                  case atStart => exact ⟨0, r.drop 73, .slice none 0 0, [], by omega, rfl, rfl, HGn.out, H10.out⟩
                  case round =>
                    clear H10
                    obtain ⟨k, r1, v, acc, hk, rfl, hacc, hits, hpr⟩ := hrel
                    have HR := Lib.hid hpr
                    have HIt := Lib.hid hits
                    have HAc := Lib.hid hacc
                    have v65 := (hpr.st.2 65 (by decide)).1
                    have v65' : wr.cell? ⟨S, 65, none⟩ = some v := by
                      rw [v65]
                      have := stL_row (size := (z : Int)) (v := v) hpr.bl hpr.tl
                      unfold cellsAt
                      rw [List.getD_eq_getElem?_getD, this]
                      rfl
                    have v65z := (hpr.st.2 65 (by decide)).2
                    clear hpr hits hacc v65
                    by_cases hlt : k < n
                    · have i0 : (k : Int) < (n : Int) := by omega
                      have hHeld : wr.drew.cell? ⟨S, 65, none⟩ = some v := v65'
                      have HEr := Lib.hid (fun (e : Ending) (w' : World) (h : ItemPost q r1 wr.drew e w') => h)
                      have HIm := Lib.hid (item_any q r1 wr.drew HR.out.drew.inp)
                      have HLt := Lib.hid hlt
                      have HStep : Hid (∀ x r2, itP r1 = .ok (x, r2) → itsP (n - (k + 1)) r2 (acc ++ [x]) = G) := Lib.hid (fun x r2 hx => by
                        have h := HIt.out
                        rw [show n - k = (n - (k + 1)) + 1 by omega] at h
                        unfold itsP at h
                        rw [hx] at h
                        exact h)
                      have HBad : Hid (∀ m, itP r1 = .error m → G = .error m) := Lib.hid (fun m hx => by
                        have h := HIt.out
                        rw [show n - k = (n - (k + 1)) + 1 by omega] at h
                        unfold itsP at h
                        rw [hx] at h
                        exact h.symm)
                      clear hlt v65z
                      go_upto_region 9 with fail
                      refine HeldTill.start (S := fun wx => wx.cell? ⟨S, 65, none⟩ = some v) (s := 7) (by kernel_rfl) ?_
                      refine HeldTill.take (i := 0) (oi := { dst := some 27, op := Op.fieldAddr 28 (Operand.tmp 3) 3, type := 0, pos := "stream.go:120", after := #[], guard := none }) (v := ?_) rfl (by kernel_rfl) (by kernel_rfl) (by kernel_rfl) [1, 5, 7] (by kernel_rfl) (by kernel_rfl) (by kernel_rfl) (fun _ _ _ h => h) (Or.inl ⟨by rfl, ?_⟩) hHeld ?_
                      rotate_left
                      · (intro wz hSw; (try dsimp only at hSw); go_simp; try with_reducible rfl)
                      try simp only [Act.put, List.setIfInBounds_toArray, List.set_cons_zero, List.set_cons_succ]
                      refine HeldTill.take (i := 1) (oi := { dst := some 28, op := Op.load 26 (Operand.tmp 27), type := 26, pos := "stream.go:120", after := #[{ on := 0, ground := Ground.data }], guard := none }) (v := ?_) rfl (by kernel_rfl) (by kernel_rfl) (by kernel_rfl) [5, 7] (by kernel_rfl) (by kernel_rfl) (by kernel_rfl) (fun _ _ _ h => h) (Or.inl ⟨by rfl, ?_⟩) hHeld ?_
                      rotate_left
                      · (intro wz hSw; (try dsimp only at hSw); go_simp; try with_reducible rfl)
                      try simp only [Act.put, List.setIfInBounds_toArray, List.set_cons_zero, List.set_cons_succ]
                      refine HeldTill.take (i := 2) (oi := { dst := some 29, op := Op.move (Operand.tmp 0), type := 80, pos := "stream.go:120", after := #[], guard := none }) (v := ?_) rfl (by kernel_rfl) (by kernel_rfl) (by kernel_rfl) [3, 4, 5, 7] (by kernel_rfl) (by kernel_rfl) (by kernel_rfl) (fun _ _ _ h => h) (Or.inl ⟨by rfl, ?_⟩) hHeld ?_
                      rotate_left
                      · (intro wz hSw; (try dsimp only at hSw); go_simp; try with_reducible rfl)
                      try simp only [Act.put, List.setIfInBounds_toArray, List.set_cons_zero, List.set_cons_succ]
                      refine HeldTill.next (i := 3) (o := { dst := some 30, op := Op.call { callee := Callee.value (Operand.func 52), args := #[Operand.tmp 29], argTypes := #[80] }, type := 51, pos := "stream.go:120", after := #[{ on := 2, ground := Ground.data }], guard := none }) (by kernel_rfl) rfl (fun K hK => ?_)
                      go_simp
                      refine HIm.out.mono ?_
                      rintro e w11 ⟨hg, hc⟩
                      rcases hc with ⟨m, hm, rfl⟩ | ⟨x, r2, hx, rfl, hi⟩
                      · have HF := Lib.hid (HR.out.drew.fell hg)
                        have HGb := Lib.hid (HBad.out m hm)
                        have HP : Hid (bodyP r = .error m) := Lib.hid (by rw [HPr.out]; unfold restP; rw [HGn.out, HGb.out])
                        clear hg hm
                        unfold failed
                        try go_wp2_with fail
                        exact ⟨rfl, HF.out, Or.inl ⟨m, HP.out, rfl⟩⟩
                      · have H11 := Lib.hid (HR.out.drew.eat hi hg)
                        have HSt := Lib.hid (HStep.out x r2 hx)
                        have hh2 : w11.cell? ⟨S, 65, none⟩ = some v := by
                          rw [hg.cell (p := ⟨S, 65, none⟩) (by show S < wr.drew.heap.size; exact HR.out.st.1) (by show ¬ S = q; have := HR.out.qlt; have := HR.out.slt; omega)]
                          exact v65'
                        have hh3 : (w11.alloc (.cells #[.int .i64 x.pl, .string ⟨x.dt.toArray⟩] 51)).cell? ⟨S, 65, none⟩ = some v := by
                          rw [World.cell?_alloc_past (hn := H11.out.st.1)]
                          exact hh2
                        clear hg hi hx hHeld
                        unfold itV
                        try go_wp2_with fail
                        refine hK.out _ _ (fun _ => hh2) ?_
                        clear hK K
                        try simp only [Act.put, List.setIfInBounds_toArray, List.set_cons_zero, List.set_cons_succ]
                        refine HeldTill.next (i := 4) (o := { dst := some 31, op := Op.buildSlice 26 1 #[(0, Operand.tmp 30)], type := 26, pos := "stream.go:120", after := #[{ on := 3, ground := Ground.data }], guard := none }) (by kernel_rfl) rfl (fun K hK => ?_)
                        go_simp
                        refine hK.out _ _ (fun _ => hh3) ?_
                        clear hK K
                        try simp only [Act.put, List.setIfInBounds_toArray, List.set_cons_zero, List.set_cons_succ]
                        refine HeldTill.next (i := 5) (o := { dst := some 32, op := Op.call { callee := Callee.builtin Builtin.append, args := #[Operand.tmp 28, Operand.tmp 31], argTypes := #[26, 26] }, type := 26, pos := "stream.go:120", after := #[{ on := 1, ground := Ground.data }, { on := 4, ground := Ground.data }, { on := 3, ground := Ground.chain }], guard := none }) (by kernel_rfl) rfl (fun K hK => ?_)
                        have H12 := Lib.hid (H11.out.alloc (.cells #[.int .i64 x.pl, .string ⟨x.dt.toArray⟩] 51))
                        have hown2 := H12.out.row
                        rw [HAc.out] at hown2
                        have hsz2 : S + 1 ≤ (w11.alloc (.cells #[.int .i64 x.pl, .string ⟨x.dt.toArray⟩] 51)).heap.size := H12.out.st.1
                        refine step_append_lies _ rfl (.tmp 28) (.tmp 31) 26 rfl (S + 1) 51 i0' (.agg #[.int .i64 0, .string ⟨#[]⟩]) 2 24 Tryd.underlying26 HI0.out HI1.out HI2.out HI3.out rfl (by decide) v k (itCells acc) rfl hown2 ⟨w11.heap.size, 0, none⟩ 1 1 [.int .i64 x.pl, .string ⟨x.dt.toArray⟩] rfl rfl ?_ ?_ (by decide) (by have := HLt.out; have := HN.out; unfold maxLen; omega) (by have := HLt.out; have := HN.out; omega) hsz2 _ rfl ?_
                        · intro j u hu
                          rw [Addr.add_mid, Nat.zero_add, World.cell?_alloc_new, ← hu]
                          simp
                        · intro u hu
                          simp at hu
                          rcases hu with rfl | rfl <;> rfl
                        intro g3 cap3 w13 hown3 hgr3 hr3 hrl3
                        have hl13 : (acc ++ [x]).length = k + 1 := by rw [List.length_append, HAc.out]; rfl
                        rw [← itCells_snoc, ← hl13] at hown3
                        have H13 := Lib.hid (H12.out.rowTo hgr3 hown3)
                        rw [hl13] at H13
                        have g : Grew (fun z => S + 1 ≤ z) _ w13 := (Grew.refl _).grown hgr3 (fun z _ e => (H12.out.row.lt z e).1)
                        have hh4 : w13.cell? ⟨S, 65, none⟩ = some v := by
                          rw [g.cell (p := ⟨S, 65, none⟩) H12.out.st.1 (by show ¬ S + 1 ≤ S; omega)]
                          exact hh3
                        have hh4z : w13.frozen? ⟨S, 65, none⟩ = false := by
                          rw [g.frozen (p := ⟨S, 65, none⟩) H12.out.st.1 (by show ¬ S + 1 ≤ S; omega)]
                          exact (H12.out.st.2 65 (by decide)).2
                        have HL13 := Lib.hid hl13
                        clear hown2 hown3 hgr3 hr3 hrl3 hl13 hsz2 hh2 hh3 g
                        refine hK.out _ _ (fun _ => hh4) ?_
                        clear hK K
                        try simp only [Act.put, List.setIfInBounds_toArray, List.set_cons_zero, List.set_cons_succ]
                        refine HeldTill.next (i := 6) (o := { dst := some 33, op := Op.fieldAddr 28 (Operand.tmp 3) 3, type := 0, pos := "stream.go:120", after := #[{ on := 0, ground := Ground.phase }, { on := 1, ground := Ground.phase }, { on := 2, ground := Ground.phase }, { on := 3, ground := Ground.phase }, { on := 4, ground := Ground.phase }, { on := 5, ground := Ground.phase }], guard := none }) (by kernel_rfl) rfl (fun K hK => ?_)
                        go_simp
                        refine hK.out _ _ (fun _ => hh4) ?_
                        clear hK K
                        try simp only [Act.put, List.setIfInBounds_toArray, List.set_cons_zero, List.set_cons_succ]
                        refine HeldTill.next (i := 7) (o := { dst := none, op := Op.store 26 (Operand.tmp 33) (Operand.tmp 32), type := 0, pos := "stream.go:120", after := #[{ on := 6, ground := Ground.data }, { on := 5, ground := Ground.data }, { on := 5, ground := Ground.chain }, { on := 0, ground := Ground.phase }, { on := 1, ground := Ground.phase }, { on := 2, ground := Ground.phase }, { on := 3, ground := Ground.phase }, { on := 4, ground := Ground.phase }, { on := 5, ground := Ground.phase }], guard := none }) (by kernel_rfl) rfl (fun K hK => ?_)
                        go_simp
                        refine hK.out _ _ (fun h => absurd h (by decide)) ?_
                        clear hK K
                        try simp only [Act.put, List.setIfInBounds_toArray, List.set_cons_zero, List.set_cons_succ]
                        refine HeldTill.done (by kernel_rfl) ?_ _
                        go_wp2_with fail
                        go_roundw
                        case rel => exact ⟨k + 1, r2, _, acc ++ [x], by have := HLt.out; omega, by go_num, HL13.out, HSt.out, H13.out⟩
                        case measure => simp [intOf]; have := HLt.out; omega
                    · obtain rfl : k = n := by omega
                      have i0 : ¬ (k : Int) < (k : Int) := by omega
                      have hG : G = .ok (acc, r1) := by
                        have h := HIt.out
                        rw [Nat.sub_self] at h
                        unfold itsP at h
                        exact h.symm
                      have HPf : Hid (bodyP r = if r1 = [] then .ok ⟨(z : Int), BB, TT, acc⟩ else .error 1) := Lib.hid (by rw [HPr.out]; unfold restP; rw [HGn.out, hG])
                      clear hG
                      by_cases hr1 : r1 = []
                      · have HP := HPf
                        rw [if_pos hr1] at HP
                        subst hr1
                        have HDn := Lib.hid (done_ok ⟨q, 0, none⟩ wr HR.out.inp.cell)
                        have HIts := Lib.hid (its_own HR.out.row)
                        have HXl : Hid ((stL (z : Int) BB TT v).length = 66) := Lib.hid (stL_len HR.out.bl HR.out.tl)
                        have HXo : Hid ((stL (z : Int) BB TT v).toArray.all (·.oneCell') = true) := Lib.hid (one_st (z : Int) BB TT v (own_one HR.out.row))
                        have hst := HR.out.st
                        have HEq : Hid (∃ N, stL (z : Int) BB TT v = N) := Lib.hid ⟨_, rfl⟩
                        obtain ⟨N, hN⟩ := HEq.out
                        rw [hN] at HXl HXo hst
                        have HIN : Hid ((Tryd.prog.info? 28).map (·.size) = some N.toArray.size) := Lib.hid (by rw [List.size_toArray, HXl.out]; kernel_rfl)
                        have HIL : Hid ((Tryd.prog.info? 28).map (·.size) = some N.length) := Lib.hid (by rw [HXl.out]; kernel_rfl)
                        have hrg := Cells.all HXl.out hst
                        have HTh : Hid (wr.there w.heap.size 0 N.toArray.size) := Lib.hid (HR.out.res.there 0 _ (by have := HXl.out; simp [this]))
                        have HFn : Hid (OnlyQ q w (wr.setCells w.heap.size 0 N) ∧ ItsAt (wr.setCells w.heap.size 0 N) v acc) := Lib.hid ⟨Grew.row HR.out.only w.heap.size 0 N (fun h => by have h : w.heap.size < w.heap.size := h; omega), its_grew HIts.out (Grew.row (S := fun b => b = w.heap.size) (Grew.refl wr) w.heap.size 0 N (fun _ => rfl)) (fun b hb => by
                          have h1 := HR.out.row.lt b hb
                          have h2 := HR.out.slt
                          omega)⟩
                        have HNe := Lib.hid hN
                        have HOb : Hid (∀ b, v.ownBlock = some b → w.heap.size ≤ b) := Lib.hid (fun b hb => by have h1 := HR.out.row.lt b hb; have h2 := HR.out.slt; omega)
                        clear hst hN HPf HEq v65z
                        go_wp2_with fail
                        refine HDn.out.mono ?_
                        rintro e w14 ⟨rfl, rfl⟩
                        go_wp2_with (first
                          | (with_reducible refine wpList_load_mid rfl 28 _ rfl S 0 rfl N _ hrg Tryd.underlying28 rfl HIL.out ?_)
                          | (with_reducible refine wpList_store_mid rfl 28 _ _ rfl w.heap.size 0 N.toArray rfl rfl HTh.out HIN.out HXo.out ?_))
                        refine bodyPost_ret (v := .agg N.toArray) ?_ rfl ⟨HFn.out.1, Or.inr ⟨⟨(z : Int), BB, TT, acc⟩, v, HP.out, by rw [← HNe.out], HFn.out.2, HOb.out⟩⟩
                        exact results_mid Tryd.results37 _ _ w.heap.size 0 N _ rfl (World.rangeAt_setCells_same _ _ _ _ (by have z := HTh.out; rwa [List.size_toArray] at z)) Tryd.underlying28 rfl HIL.out
                      · have HP := HPf
                        rw [if_neg hr1] at HP
                        have HDn := Lib.hid (done_not ⟨q, 0, none⟩ ⟨r1.toArray⟩ wr (by
                          rw [ByteArray.toList_eq]
                          cases r1 with
                          | nil => exact absurd rfl hr1
                          | cons _ _ => rfl) HR.out.inp.cell)
                        have HOn := Lib.hid HR.out.only
                        clear hr1 HPf v65z
                        go_wp2_with fail
                        refine HDn.out.mono ?_
                        rintro e w14 ⟨rfl, rfl⟩
                        unfold failed
                        go_wp2_with fail
                        exact ⟨rfl, HOn.out, Or.inl ⟨1, HP.out, rfl⟩⟩
        · have hP : bodyP r = .error 1 := by unfold bodyP; rw [if_neg HL4.out, if_neg (Decidable.not_not.2 HM.out), if_neg HL5.out, if_pos hb]
          have HP := Lib.hid hP
          obtain ⟨b, hbb⟩ : ∃ b, num ((r.drop 4).take 1) = b := ⟨_, rfl⟩
          rw [hbb] at HE hb
          have e0 : (((b : Nat) : Int) != 1) = true := by
            have : ((b : Nat) : Int) ≠ 1 := by omega
            simpa using this
          clear hP hb hbb
          go_wp2_with fail
          refine HE.out.mono ?_
          rintro e w2 ⟨rfl, hi2, hg2⟩
          have H2 := Lib.hid (H1.out.eat hi2 hg2)
          clear hi2 hg2 HE H1
          go_wp2_with fail
          refine (fail_any 1 _).mono ?_
          rintro e w5 ⟨rfl, rfl⟩
          unfold failed
          go_wp2_with fail
          exact ⟨rfl, H2.out.only, Or.inl ⟨1, HP.out, rfl⟩⟩
    · have hP : bodyP r = .error 1 := by unfold bodyP; rw [if_neg HL4.out, if_pos hm]
      have HP := Lib.hid hP
      have hne : ((⟨(r.take 4).toArray⟩ : ByteArray).toList == [83, 66, 68, 70]) = false := by
        rw [ByteArray.toList_eq]
        show (r.take 4 == markB) = false
        simpa using hm
      have hne2 : ((⟨(r.take 4).toArray⟩ : ByteArray).toList != [83, 66, 68, 70]) = true := by unfold bne; rw [hne]; rfl
      generalize (⟨(r.take 4).toArray⟩ : ByteArray) = M at *
      clear hP hm
      go_wp2_with fail
      refine HE.out.mono ?_
      rintro e w1 ⟨rfl, hi1, hg1⟩
      have H1 := Lib.hid (H0.out.eat hi1 hg1)
      clear hi1 hg1 HE H0
      go_wp2_with fail
      refine (fail_any 1 _).mono ?_
      rintro e w5 ⟨rfl, rfl⟩
      unfold failed
      go_wp2_with fail
      exact ⟨rfl, H1.out.only, Or.inl ⟨1, HP.out, rfl⟩⟩
end Go.Proofs.YtpgmgopcgoblhaaDoor
