/-
  stream.Parse of any bytes; the law's own, in a Guard: contracts.
-/
import Derived.Test.YtpgmgopcgoblhaaDoorStreamOpen
import Derived.Test.YtpgmgopcgoblhaaDoorGuardGrew
namespace Go.Proofs.YtpgmgopcgoblhaaDoor
open Go.RowKit

/-- what Parse leaves -/
def PPost (t : List UInt8) (w : World) (e : Ending) (w' : World) : Prop :=
  Below w.heap.size w w' ∧ ((∃ k, allP t = .error k ∧ e = failed k) ∨ (∃ s v, allP t = .ok s ∧ e = .returned (.agg (stL s.size s.base s.target v).toArray) ∧ ItsAt w' v s.items ∧ (∀ b, v.ownBlock = some b → w.heap.size ≤ b)))
theorem its_one {w : World} {v : Value} {l : List It} (h : ItsAt w v l) : v.oneCell' = true := by
  rcases h with ⟨_, rfl⟩ | ⟨b, cap, rfl, _⟩ <;> rfl
set_option maxRecDepth 100000 in
set_option maxHeartbeats 2000000 in
theorem stParse_any (t : List UInt8) (w : World) (ht : t.length < 1000000) :
    Calls Tryd.prog 25 #[.string ⟨t.toArray⟩] w fun e w' => PPost t w e w' := by
  have HAl := alloc_st
  have hC0 := st0_cells w
  obtain ⟨W, hW⟩ : ∃ W, w.alloc (.cells st0.toArray 28) = W := ⟨_, rfl⟩
  have hb0 : Below w.heap.size w W := by rw [← hW]; exact (Below.refl _ _).alloc (Nat.le_refl _) _
  rw [hW] at hC0
  have HC0 := Lib.hid hC0
  have HB0 := Lib.hid hb0
  have HW := Lib.hid hW
  have HOp := Lib.hid (open_any t W ht)
  have HSt := Lib.hid (fun wx => st0_cells wx)
  obtain ⟨Z, hZ⟩ : ∃ Z, st0.toArray = Z := ⟨_, rfl⟩
  rw [hZ] at HAl HW HSt
  have HTl := Lib.hid ht
  clear hC0 hb0 hW hZ ht
  go_enter Tryd.func25, Tryd.ntmps25
  go_upto_region 1 with (refine wpList_alloc rfl 28 rfl _ (HAl _) ?_)
  rw [HW.out]
  go_wp2_with fail
  refine HOp.out.mono ?_
  rintro e w1 ⟨hb1, hc⟩
  rcases hc with ⟨k, hk, rfl⟩ | ⟨q, hk, rfl, hi1, hq1⟩
  · have HP : Hid (allP t = .error k) := Lib.hid (by rw [allP_open, hk])
    have HF := Lib.hid (HB0.out.trans (hb1.mono HB0.out.size))
    clear hb1 hk
    unfold failed
    go_wp2_with fail
    exact ⟨rfl, HF.out, Or.inl ⟨k, HP.out, rfl⟩⟩
  · have HPa := Lib.hid (parse_any q (t.take (t.length - 4)) w1 hi1)
    have HQ := Lib.hid hq1
    have HB1 := Lib.hid hb1
    have HOE := Lib.hid hk
    clear hb1 hk hi1 hq1
    go_wp2_with fail
    refine HPa.out.mono ?_
    rintro e w2 ⟨hg2, hc⟩
    have HB2 : Hid (Below W.heap.size W w2) := Lib.hid (hg2.below HB1.out HB1.out.size (fun k e => by subst e; exact HQ.out))
    clear hg2
    rcases hc with ⟨k, hk, rfl⟩ | ⟨s, v, hk, rfl, hits, hob⟩
    · have HP : Hid (allP t = .error k) := Lib.hid (by rw [allP_open, HOE.out]; dsimp only; rw [hk])
      have HF := Lib.hid (HB0.out.trans (HB2.out.mono HB0.out.size))
      clear hk
      unfold failed
      go_wp2_with fail
      exact ⟨rfl, HF.out, Or.inl ⟨k, HP.out, rfl⟩⟩
    · have hRd := bodyP_back hk
      have HP : Hid (allP t = if chk s = 0 then .ok s else .error (chk s)) := Lib.hid (by rw [allP_open, HOE.out]; dsimp only; rw [hk])
      have HCk := Lib.hid (fun wx (h : ItsAt wx v s.items) => check_any s.size s.base s.target v s.items wx hRd.base hRd.target h (by have := hRd.many; omega) (fun x hx => by rcases (hRd.its x hx).2.2 with h | h <;> (rw [h]; unfold maxLen; omega)))
      have HXl : Hid ((stL s.size s.base s.target v).length = 66) := Lib.hid (stL_len hRd.base hRd.target)
      have HV1 := Lib.hid (its_one hits)
      have HXo : Hid ((stL s.size s.base s.target v).toArray.all (·.oneCell') = true) := Lib.hid (one_st s.size s.base s.target v HV1.out)
      have HIts := Lib.hid hits
      have HOb : Hid (∀ b, v.ownBlock = some b → w.heap.size < b) := Lib.hid (fun b hb => by have h1 := hob b hb; have h2 := HB1.out.size; have h3 := HC0.out.1; omega)
      clear hob
      have hS2 := HSt.out w2
      obtain ⟨W3, hW3⟩ : ∃ W3, w2.alloc (.cells Z 28) = W3 := ⟨_, rfl⟩
      have hb3 : Below w2.heap.size w2 W3 := by rw [← hW3]; exact (Below.refl _ _).alloc (Nat.le_refl _) _
      rw [hW3] at hS2
      obtain ⟨N, hN⟩ : ∃ N, stL s.size s.base s.target v = N := ⟨_, rfl⟩
      have HNe := Lib.hid hN
      rw [hN] at HCk HXl HXo
      have HIN : Hid ((Tryd.prog.info? 28).map (·.size) = some N.toArray.size) := Lib.hid (by rw [List.size_toArray, HXl.out]; kernel_rfl)
      have HIL : Hid ((Tryd.prog.info? 28).map (·.size) = some N.length) := Lib.hid (by rw [HXl.out]; kernel_rfl)
      have HTh : Hid (W3.there w2.heap.size 0 N.toArray.size) := Lib.hid (hS2.there 0 _ (by have := HXl.out; simp [this]))
      have HB4 : Hid (Below w2.heap.size w2 (W3.setCells w2.heap.size 0 N)) := Lib.hid (below_row hb3 N (Nat.le_refl _))
      have HC4 : Hid (Cells w2.heap.size 66 (cellsAt N) (W3.setCells w2.heap.size 0 N)) := Lib.hid (hS2.fill HXl.out)
      have HW3 := Lib.hid hW3
      rw [← hW3] at HTh
      rw [hN]
      clear hk hRd hits hS2 hb3 hN hW3
      go_upto_region 2 with (first
        | (refine wpList_alloc rfl 28 rfl _ (HAl _) ?_)
        | (with_reducible refine wpList_store_mid rfl 28 _ _ rfl w2.heap.size 0 N.toArray rfl rfl HTh.out HIN.out HXo.out ?_))
      rw [HW3.out]
      generalize W3.setCells w2.heap.size 0 N = w4 at *
      obtain ⟨S, hS⟩ : ∃ S, w2.heap.size = S := ⟨_, rfl⟩
      have HIt4 := Lib.hid (HIts.out.below HB4.out)
      have HB5 : Hid (Below W.heap.size W w4) := Lib.hid (HB2.out.trans (HB4.out.mono HB2.out.size))
      have HSl : Hid (w.heap.size < S) := Lib.hid (by have h1 := HB2.out.size; have h2 := HC0.out.1; omega)
      have HCS := HC4
      rw [hS] at HCS ⊢
      have hrg := Cells.all HXl.out HCS.out
      have HCc := Lib.hid (HCk.out w4 HIt4.out)
      clear hS HTh HW3 HSt HAl
      go_wp2_with (with_reducible refine wpList_load_mid rfl 28 _ rfl S 0 rfl N _ hrg Tryd.underlying28 rfl HIL.out ?_)
      refine HCc.out.mono ?_
      rintro e w5 ⟨rfl, hb5⟩
      have HB6 : Hid (Below W.heap.size W w5) := Lib.hid (HB5.out.trans (hb5.mono HB5.out.size))
      by_cases hc : chk s = 0
      · have hPo := HP.out
        rw [if_pos hc] at hPo
        have HPo := Lib.hid hPo
        rw [show chk ⟨s.size, s.base, s.target, s.items⟩ = 0 from hc]
        have hrg5 := Cells.all HXl.out (HCS.out.below hb5)
        have HIt5 := Lib.hid (HIt4.out.below hb5)
        have hCR := HC0.out.below HB6.out
        have HThR : Hid (w5.there w.heap.size 0 N.toArray.size) := Lib.hid (hCR.there 0 _ (by have := HXl.out; simp [this]))
        have HFin : Hid (Below w.heap.size w (w5.setCells w.heap.size 0 N) ∧ ItsAt (w5.setCells w.heap.size 0 N) v s.items) := Lib.hid ⟨below_row (HB0.out.trans (HB6.out.mono HB0.out.size)) N (Nat.le_refl _), by
          exact its_grew HIt5.out (Grew.row (S := fun b => b = w.heap.size) (Grew.refl w5) w.heap.size 0 N (fun _ => rfl)) (fun b hb => by have := HOb.out b hb; omega)⟩
        clear hPo hb5 hCR hc
        go_wp2_with (first
          | (with_reducible refine wpList_load_mid rfl 28 _ rfl S 0 rfl N _ hrg5 Tryd.underlying28 rfl HIL.out ?_)
          | (with_reducible refine wpList_store_mid rfl 28 _ _ rfl w.heap.size 0 N.toArray rfl rfl HThR.out HIN.out HXo.out ?_))
        refine bodyPost_ret (v := .agg N.toArray) ?_ rfl ⟨HFin.out.1, Or.inr ⟨s, v, HPo.out, by rw [← HNe.out], HFin.out.2, fun b hb => Nat.le_of_lt (HOb.out b hb)⟩⟩
        exact results_mid Tryd.results25 _ _ w.heap.size 0 N _ rfl (World.rangeAt_setCells_same _ _ _ _ (by have z := HThR.out; rwa [List.size_toArray] at z)) Tryd.underlying28 rfl HIL.out
      · have hPo := HP.out
        rw [if_neg hc] at hPo
        have HPo := Lib.hid hPo
        obtain ⟨K, hK⟩ : ∃ K, chk s = K := ⟨_, rfl⟩
        rw [show chk ⟨s.size, s.base, s.target, s.items⟩ = K from hK]
        rw [hK] at HPo hc
        have e0 : ((K : Int) != 0) = true := by simpa using hc
        have HF := Lib.hid (HB0.out.trans (HB6.out.mono HB0.out.size))
        clear hPo hc hK hb5
        go_wp2_with fail
        refine (fail_any K _).mono ?_
        rintro e w6 ⟨rfl, rfl⟩
        unfold failed
        go_wp2_with fail
        exact ⟨rfl, HF.out, Or.inl ⟨K, HPo.out, rfl⟩⟩
end Go.Proofs.YtpgmgopcgoblhaaDoor
