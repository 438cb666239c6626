/-
  RingAppends: for every journal and all records the law answers true.
-/
import Derived.Test.YtakngnigpncmkaaRingApps
namespace Go.Proofs.Ytakngnigpncmkaa
open Go.RowKit

theorem own_none' (w : World) (B : Nat) (hB : B ≤ w.heap.size) : (w.alloc (.cells #[] 9)).ownsRow B 9 1 (.slice (some ⟨w.heap.size, 0, none⟩) 0 0) 0 (textsOf []) := World.ownsRow_lit (base := B) (e := 9) (size := 1) w #[] 0 hB (by decide) rfl
theorem more_list (ep u C : Nat) (t : ByteArray) (W : Nat → ByteArray) : (List.range u).map W ++ (List.range C).map (recFrame ep u t) = (List.range (u + C)).map (moreW ep u t W) := by
  apply List.ext_getElem
  · simp
  · intro i h1 h2
    have hi : i < u + C := by simpa using h2
    rw [List.getElem_append]
    by_cases h : i < u
    · simp [h, moreW]
    · simp [h, moreW]
set_option maxRecDepth 100000 in
set_option maxHeartbeats 8000000 in
theorem ringAppends_walk (fr n : Int) (ep ot : Nat) (a : Option Addr) (l c : Nat) (ss : Nat → ByteArray) (w : World) (he : ep < 4294967296) (ho : ot < 4294967296) (hin : StrsIn w a l ss) :
    Calls Try.prog 9 #[.int .i64 fr, .int .i64 n, .int .u32 ep, .int .u32 ot, .slice a l c] w fun e w' => e = .returned (.bool true) ∧ Below w.heap.size w w' := by
  obtain ⟨f, hf, hf8⟩ := mask7' fr
  obtain ⟨z1, hz1⟩ : ∃ z1, z1 = max n (-2) := ⟨_, rfl⟩
  obtain ⟨z, hz⟩ : ∃ z, z = min z1 20 := ⟨_, rfl⟩
  have hm1 := fun (wx : World) (ts : Array TypeId) (t : TypeId) => run_max2 Try.prog wx ts t n (-2) z1 hz1
  have hm2 := fun (wx : World) (ts : Array TypeId) (t : TypeId) => run_min2 Try.prog wx ts t z1 20 z hz
  have hzu : z ≤ 20 := by omega
  have HZ : Hid ((z.toNat : Int) = max z 0) := Lib.hid (by omega)
  have HIn := Lib.hid hin
  clear hin hz1 hz
  go_enter Try.func9, Try.ntmps9
  go_wp2_with fail
  refine (ringAwake w).mono ?_
  rintro e w1 ⟨rfl, hb1⟩
  have HB1 := Lib.hid hb1
  clear hb1
  go_wp2_with fail
  refine (few_any a l c ss w1 (HIn.out.below HB1.out)).mono ?_
  rintro e w2 ⟨v, rfl, hown, hb2⟩
  obtain ⟨_, fa, fc, rfl⟩ := rowOwn hown
  have HFw := Lib.hid (strs_own hown)
  have HFa : Hid (∀ b, fa = some ⟨b, 0, none⟩ → b < w2.heap.size) := Lib.hid fun b e => (hown.lt b (by rw [e]; rfl)).2
  have HB2 := Lib.hid (HB1.out.trans (hb2.mono HB1.out.size))
  have HLs : Hid (∀ t ∈ fewOf l ss, t.size ≤ 150) := Lib.hid fun t h => fewOf_size h
  have HLn : Hid ((fewOf l ss).length ≤ 12) := Lib.hid (by rw [fewOf_len]; omega)
  clear hown hb2 HB1 HIn hm1 hm2
  generalize fewOf l ss = L at *
  go_wp2_with fail
  refine (new_any 32 w2).mono ?_
  rintro e w3 ⟨m, rfl, hM⟩
  obtain ⟨d, bs', bt, hm⟩ := hM.is
  have HAp0 : Hid (App ep f z.toNat m 0 [] (fun _ => ⟨#[]⟩)) := Lib.hid (by rw [hm]; exact App.start _ _ _ _ _ _ _)
  have HM3 : Hid (m.Live ∧ m.n = 32) := Lib.hid ⟨by rw [hm]; exact live_new _ _ _ _, by rw [hm]; rfl⟩
  have HB3 : Hid (Below w2.heap.size w2 w3) := Lib.hid ((hM.grew fun _ => False).below (Below.refl _ _) (Nat.le_refl _) (fun _ x => x.elim))
  have HO3 := Lib.hid hM.fresh
  have HD3 := Lib.hid hM.at'
  clear hM hm
  obtain ⟨p, hp⟩ : ∃ p, m.d = p := ⟨_, rfl⟩
  rw [hp]
  have HP := Lib.hid hp
  clear hp
  go_wp2_with fail
  refine (ringNew_any p f z ep w3).mono ?_
  rintro e w4 ⟨rfl, hr4, hb4⟩
  have HR4 := Lib.hid hr4
  have HB4 := Lib.hid hb4
  clear hr4 hb4
  go_wp2_with fail
  obtain ⟨B, hB⟩ : ∃ B, w4.heap.size = B := ⟨_, rfl⟩
  obtain ⟨W5, hW5⟩ : ∃ W5, (w4.alloc (.cells #[] 9)).alloc (.cells #[] 9) = W5 := ⟨_, rfl⟩
  have HAs0 : Hid (Apps w 32 B p w3.heap.size f z.toNat ep m.own fa L 0 m (.slice (some ⟨w4.heap.size, 0, none⟩) 0 0) (.slice (some ⟨w4.heap.size + 1, 0, none⟩) 0 0) [] [] W5) := Lib.hid (by
    have s23 := HB3.out.size
    have s34 := HR4.out.lt
    have sB2 := HB2.out.size
    have g5 : Below w4.heap.size w4 W5 := by rw [← hW5]; exact ((Below.refl _ _).alloc (Nat.le_refl _) _).alloc (by simp) _
    have hD4 := HD3.out.keep (Grew.of_below (S := fun _ => False) HB4.out) fun _ _ e => e
    have sO := HD3.out.below
    have o1 := own_none' w4 B (by omega)
    have o2 := own_none' (w4.alloc (.cells #[] 9)) B (by simp; omega)
    rw [hW5] at o2
    have hs : (w4.alloc (.cells #[] 9)).heap.size = w4.heap.size + 1 := by simp
    rw [hs] at o2
    refine ⟨⟨fun k hk => ?_, by omega, fun b e => ?_, fun k hk => ?_, by omega, fun hk => ?_⟩, HP.out, HM3.out.1, HM3.out.2, rfl, hD4.keep (Grew.of_below (S := fun _ => False) g5) fun _ _ e => e, HR4.out.below g5, ?_, o2, Or.inr ?_, ?_, ?_, ?_⟩
    · have := sO k hk; omega
    · have h1 := HFa.out b e
      exact ⟨by omega, fun hk => by have := HO3.out b hk; omega, by omega⟩
    · have := HO3.out k hk; omega
    · have := sO _ hk; omega
    · rw [← hW5]; exact o1.alloc _
    · show some w4.heap.size ≠ some (w4.heap.size + 1)
      intro e
      have := Option.some.inj e
      omega
    · exact ((HFw.out.below HB3.out).below HB4.out).below g5
    · exact ((HB2.out.trans (HB3.out.mono sB2)).trans (HB4.out.mono (by omega))).trans (g5.mono (by omega))
    · rw [← hB]; exact g5.size)
  rw [hW5]
  clear hW5 HR4 HB4 HD3 HO3 HB3 HM3 HP HB2 HFw HFa hB hf
  generalize m.own = O at *
  generalize w3.heap.size = r at *
  have hmx := fun (wx : World) (ts : Array TypeId) (t : TypeId) => run_max2 Try.prog wx ts t z 0 (z.toNat : Int) HZ.out
  have hnn : z.toNat ≤ 20 := by omega
  have HNew : Hid (∀ (e : Nat) (wx : World), Calls Try.prog 43 #[.pointer (some ⟨p, 0, none⟩), .int .i64 f, .int .i64 z, .int .u32 e] wx fun e' w' => e' = .returned (.pointer (some ⟨wx.heap.size, 0, none⟩)) ∧ RingAt wx.heap.size p f z.toNat e 0 w' ∧ Below wx.heap.size wx w') := Lib.hid fun e wx => ringNew_any p f z e wx
  generalize z.toNat = nn at *
  have HLc := Lib.hid fun (u : Nat) (wx : World) (hu : u ≤ 20) (h : RingAt r p f nn ep u wx) => left_any' r p f nn ep u wx h (by omega) (by omega)
  go_loopw [13, 14, 48] (fun v1 v2 i wx => ∃ k u : Nat, ∃ M W kept, k ≤ L.length ∧ i = .int .i64 k ∧ App ep f nn M u kept W ∧ kept.length ≤ k ∧ Apps w 32 B p r f nn ep O fa L u M v1 v2 ((List.range u).map W) kept wx) (fun _ _ i _ => L.length - (intOf i).toNat)
  case atStart => exact ⟨0, 0, m, _, [], by omega, rfl, HAp0.out, by simp, HAs0.out⟩
  case round =>
    obtain ⟨k, u, M, W, kept, hk, rfl, hA, hkl, hS⟩ := hrel
    have HA := Lib.hid hA
    have HS := Lib.hid hS
    have hun := hA.le
    have hLn := HLn.out
    have o1 := hS.one
    have o2 := hS.two
    have hru : ((List.range u).map W).length = u := by simp
    rw [hru] at o1
    obtain ⟨_, va, vc, rfl⟩ := rowOwn o1
    obtain ⟨_, ka, kc, rfl⟩ := rowOwn o2
    clear hA hS o1 o2 HAp0 HAs0
    by_cases hlt : k < L.length
    · have i1 : (k : Int) < (L.length : Int) := by omega
      have i2 : (0 : Int) ≤ (k : Int) := by omega
      rcases HS.out.few.2 with h0 | ⟨b, rfl, q⟩
      · omega
      have q1 := q k hlt
      have ht := HLs.out _ (List.getElem_mem hlt)
      clear q
      generalize L[k] = t at *
      have hFr := HS.out.frames (by omega) he t ht
      obtain ⟨d', hd', d0, d1, d2⟩ := cost_pos t.size
      have hCs := fun (wx : World) => cost_any t.size wx (by omega)
      have hC0 : 0 < costOf t.size := by omega
      have hC9 : costOf t.size < 100 := by omega
      have hsB := HS.out.size
      have HLw := HS.out.lay
      by_cases hfit : u + costOf t.size ≤ nn
      · have HStep := Lib.hid (HA.out.step t hfit)
        have hApp : ∀ wx, Apps w 32 B p r f nn ep O (some ⟨b, 0, none⟩) L u M (.slice va u vc) (.slice ka kept.length kc) ((List.range u).map W) kept wx → Calls Try.prog 45 #[.pointer (some ⟨r, 0, none⟩), .string t] wx fun e w' => e = .returned (.tuple #[.bool true, .int .i64 0]) ∧ Apps w 32 B p r f nn ep O (some ⟨b, 0, none⟩) L (u + costOf t.size) (M.putTo (f + u) (recFrame ep u t) (costOf t.size)) (.slice va u vc) (.slice ka kept.length kc) ((List.range u).map W) kept w' ∧ Grew (fun k => O k ∨ k = r) wx w' := fun wx h => by
          refine (h.append (by omega) hun he t ht).mono ?_
          rintro e w' ⟨rfl, h1, h2⟩
          have e1 : appU nn u t = u + costOf t.size := by unfold appU; rw [if_pos hfit]
          have e2 : appM M f nn ep u t = M.putTo (f + u) (recFrame ep u t) (costOf t.size) := by unfold appM; rw [if_pos hfit]
          rw [e1, e2] at h1
          exact ⟨by rw [decide_eq_true hfit], h1, h2⟩
        have HMl := Lib.hid fun C => more_list ep u C t W
        have HFr := Lib.hid hFr
        have HCs := Lib.hid hCs
        have HApp := Lib.hid hApp
        clear hFr hCs hApp hd' d0 d1 d2
        generalize hC : costOf t.size = C at *
        clear hC
        generalize M.putTo (f + u) (recFrame ep u t) C = M' at *
        generalize moreW ep u t W = W' at *
        generalize recFrame ep u t = F at *
        have hfi : (u : Int) + (C : Int) ≤ (nn : Int) := by omega
        go_wp2_with fail
        refine (HFr.out _ rfl).mono ?_
        rintro e w5 ⟨g, cap, rfl, hfr, hg, hg2, hS5⟩
        have HS5 := Lib.hid hS5
        have Hfr := Lib.hid hfr
        clear hS5 hfr HFr q1
        go_wp2_with fail
        refine (HApp.out w5 HS5.out).mono ?_
        rintro e w6 ⟨rfl, hS6, hgr6⟩
        have Hfr6 := Lib.hid (Hfr.out.grew hgr6 fun e => e.elim (fun e => by have := HLw.lowO g e; omega) (fun e => by have := HLw.lowR; omega))
        have HS6 := Lib.hid hS6
        clear hS6 hgr6 Hfr HS5 HApp
        go_wp2_with fail
        refine (HCs.out w6).mono ?_
        rintro e w7 ⟨rfl, rfl⟩
        clear HCs
        have ho6 := HS6.out.one
        have hl1 : ((List.range u).map W).length = u := by simp
        have hk1 : ((List.range C).map F).length = C := by simp
        rw [hl1] at ho6
        have HO6 := Lib.hid ho6
        have HL1 := Lib.hid hl1
        have HK1 := Lib.hid hk1
        clear ho6 hl1 hk1
        go_wp2_with (first
          | (at_builtin; (refine wpList_more_strs rfl _ _ rfl B (.slice va u vc) _ ((List.range C).map F) rfl u HL1.out HO6.out g C cap rfl HK1.out Hfr6.out hC0 (by omega) HS6.out.size ?_); (intro g1 cap1 w7 hm1); (have hS7 := HS6.out.more1 hm1); (rw [HL1.out, HK1.out, HMl.out] at hS7); (have HS7 := Lib.hid hS7); (have HO7 := Lib.hid (hS7.two.alloc (.cells #[.string t] 9))); (have hs7 := hS7.size); clear hm1 hS7)
          | (at_builtin; (refine wpList_more_strs rfl _ _ rfl B (.slice ka kept.length kc) _ [t] rfl kept.length rfl HO7.out w7.heap.size 1 1 rfl rfl (one_str w7 t) (by decide) (by omega) (by simp; omega) ?_); (intro g2 cap2 w8 hm2); (have hS8 := (HS7.out.step ((Below.refl _ _).alloc (Nat.le_refl _) (.cells #[.string t] 9))).more2 hm2); (have HS8 := Lib.hid hS8); clear hm2 hS8))
        refine (HLc.out (u + C) w8 (by omega) HS8.out.ring).mono ?_
        rintro e w9 ⟨rfl, hb9⟩
        have HS9 := Lib.hid (HS8.out.step hb9)
        clear hb9 HS8 HS7 HO7 HO6
        go_wp2_with fail
        go_roundw
        case rel => exact ⟨k + 1, u + C, M', W', kept ++ [t], by omega, by go_num, HStep.out, by simp; omega, HS9.out⟩
        case measure => simp [intOf]; omega
      · have hApp : ∀ wx, Apps w 32 B p r f nn ep O (some ⟨b, 0, none⟩) L u M (.slice va u vc) (.slice ka kept.length kc) ((List.range u).map W) kept wx → Calls Try.prog 45 #[.pointer (some ⟨r, 0, none⟩), .string t] wx fun e w' => e = .returned (.tuple #[.bool false, .int .i64 0]) ∧ Apps w 32 B p r f nn ep O (some ⟨b, 0, none⟩) L u M (.slice va u vc) (.slice ka kept.length kc) ((List.range u).map W) kept w' := fun wx h => by
          refine (h.append (by omega) hun he t ht).mono ?_
          rintro e w' ⟨rfl, h1, h2⟩
          have e1 : appU nn u t = u := by unfold appU; rw [if_neg hfit]
          have e2 : appM M f nn ep u t = M := by unfold appM; rw [if_neg hfit]
          rw [e1, e2] at h1
          exact ⟨by rw [decide_eq_false hfit], h1⟩
        have HFr := Lib.hid hFr
        have HCs := Lib.hid hCs
        have HApp := Lib.hid hApp
        clear hFr hCs hApp hd' d0 d1 d2
        generalize hC : costOf t.size = C at *
        clear hC
        have hfi : ¬ (u : Int) + (C : Int) ≤ (nn : Int) := by omega
        go_wp2_with fail
        refine (HFr.out _ rfl).mono ?_
        rintro e w5 ⟨g, cap, rfl, _, hg, hg2, hS5⟩
        have HS5 := Lib.hid hS5
        clear hS5 HFr q1
        go_wp2_with fail
        refine (HApp.out w5 HS5.out).mono ?_
        rintro e w6 ⟨rfl, hS6⟩
        have HS6 := Lib.hid hS6
        clear hS6 HS5 HApp
        go_wp2_with fail
        refine (HCs.out w6).mono ?_
        rintro e w7 ⟨rfl, rfl⟩
        clear HCs
        go_wp2_with fail
        refine (HLc.out u w6 (by omega) HS6.out.ring).mono ?_
        rintro e w9 ⟨rfl, hb9⟩
        have HS9 := Lib.hid (HS6.out.step hb9)
        clear hb9 HS6
        go_wp2_with fail
        go_roundw
        case rel => exact ⟨k + 1, u, M, W, kept, by omega, by go_num, HA.out, by omega, HS9.out⟩
        case measure => simp [intOf]; omega
    · have i1 : ¬ (k : Int) < (L.length : Int) := by omega
      clear hlt HLc hmx HLs HLn
      have hv1 := strs_own (l := (List.range u).map W) (by have := HS.out.one; rw [hru] at this; exact this)
      have HV1 := Lib.hid hv1
      have HRd : Hid (∀ (j : Nat) (x : Int) wx, j < u → x = ((f + j : Nat) : Int) → Apps w 32 B p r f nn ep O fa L u M (.slice va u vc) (.slice ka kept.length kc) ((List.range u).map W) kept wx → Calls Try.prog 22 #[.pointer (some ⟨p, 0, none⟩), .int .i64 x] wx fun e w' => e = .returned (.tuple #[.string (W j), .int .i64 0]) ∧ Apps w 32 B p r f nn ep O fa L u M (.slice va u vc) (.slice ka kept.length kc) ((List.range u).map W) kept w') := Lib.hid fun j x wx hj hx h => by
        subst hx
        refine (lawRead_live p M h.d (f + j) (by rw [h.n]; omega) h.live wx h.at').mono ?_
        rintro e w' ⟨rfl, _, hg⟩
        have e1 : (⟨(sec M.T (f + j)).toArray⟩ : ByteArray) = W j := HA.out.here j hj
        rw [e1]
        exact ⟨rfl, h.step ((hg fun _ => False).below (Below.refl _ _) (Nat.le_refl _) fun _ x => x.elim)⟩
      have HSc : Hid (∀ r2 wx, RingAt r2 p f nn ep 0 wx → Apps w 32 B p r f nn ep O fa L u M (.slice va u vc) (.slice ka kept.length kc) ((List.range u).map W) kept wx → Calls Try.prog 48 #[.pointer (some ⟨r2, 0, none⟩)] wx fun e w' => ∃ ga gc, e = .returned (.tuple #[.slice ga kept.length gc, .int .i64 0]) ∧ StrsAt w' ga kept.length kept ∧ Apps w 32 B p r f nn ep O fa L u M (.slice va u vc) (.slice ka kept.length kc) ((List.range u).map W) kept w') := Lib.hid fun r2 wx hr h => by
        refine (lawScan_any r2 p f nn ep 0 M h.d h.live wx hr h.at' (by rw [h.n]; omega) he).mono ?_
        rintro e w' ⟨v, rfl, ho', hb⟩
        rw [HA.out.scanned he (by omega)] at ho'
        obtain ⟨_, ga, gc, rfl⟩ := rowOwn ho'
        exact ⟨ga, gc, rfl, strs_own ho', h.step hb⟩
      have HSo : Hid (∀ r2 wx, RingAt r2 p f nn ot 0 wx → Apps w 32 B p r f nn ep O fa L u M (.slice va u vc) (.slice ka kept.length kc) ((List.range u).map W) kept wx → Calls Try.prog 48 #[.pointer (some ⟨r2, 0, none⟩)] wx fun e w' => ∃ q : Nat, ∃ ga gc, e = .returned (.tuple #[.slice ga q gc, .int .i64 0]) ∧ (ep = ot ∨ q = 0) ∧ Below wx.heap.size wx w') := Lib.hid fun r2 wx hr h => by
        refine (lawScan_any r2 p f nn ot 0 M h.d h.live wx hr h.at' (by rw [h.n]; omega) ho).mono ?_
        rintro e w' ⟨v, rfl, ho', hb⟩
        obtain ⟨_, ga, gc, rfl⟩ := rowOwn ho'
        refine ⟨_, ga, gc, rfl, ?_, hb⟩
        by_cases hne : ep = ot
        · exact Or.inl hne
        · rw [HA.out.other he ot ho hne]
          exact Or.inr rfl
      have HSm : Hid (∀ ga gc wx, StrsAt wx ga kept.length kept → Apps w 32 B p r f nn ep O fa L u M (.slice va u vc) (.slice ka kept.length kc) ((List.range u).map W) kept wx → Calls Try.prog 49 #[.slice ga kept.length gc, .slice ka kept.length kc] wx fun e w' => e = .returned (.bool true) ∧ Below w.heap.size w w') := Lib.hid fun ga gc wx h1 h => by
        refine (same_any wx ga ka kept.length kept.length gc kc kept kept h1 (strs_own h.two) (by omega) rfl).mono ?_
        rintro e w' ⟨rfl, hb⟩
        exact ⟨rfl, h.below.trans (hb.mono h.below.size)⟩
      clear hv1 hru
      go_wp2_with fail
      go_loopw [106] (fun i wx => ∃ j : Nat, j ≤ u ∧ i = .int .i64 j ∧ Apps w 32 B p r f nn ep O fa L u M (.slice va u vc) (.slice ka kept.length kc) ((List.range u).map W) kept wx) (fun i _ => u - (intOf i).toNat)
      case atStart => exact ⟨0, by omega, rfl, HS.out⟩
      case round =>
        obtain ⟨j, hj, rfl, hS2⟩ := hrel
        have HS2 := Lib.hid hS2
        clear hS2 HS
        by_cases hlt : j < u
        · have j1 : (j : Int) < (u : Int) := by omega
          have j2 : (0 : Int) ≤ (j : Int) := by omega
          have hv := strs_own (l := (List.range u).map W) (by have := HS2.out.one; rw [List.length_map, List.length_range] at this; exact this)
          rcases hv.2 with h0 | ⟨b, rfl, q⟩
          · omega
          have q1 : wr.cell? ⟨b, j, none⟩ = some (.string (W j)) := by have := q j (by simpa using hlt); simpa using this
          have HRj := Lib.hid fun x hx => HRd.out j x wr hlt hx HS2.out
          clear q hv
          generalize W j = Wj at *
          go_wp2_with fail
          refine (HRj.out _ (by omega)).mono ?_
          rintro e w5 ⟨rfl, hS5⟩
          have HS5 := Lib.hid hS5
          clear hS5 HRj q1
          go_wp2_with fail
          go_roundw
          case rel => exact ⟨j + 1, by omega, by go_num, HS5.out⟩
          case measure => simp [intOf]; omega
        · have j1 : ¬ (j : Int) < (u : Int) := by omega
          go_wp2_with fail
          refine (HNew.out ep wr).mono ?_
          rintro e w5 ⟨rfl, hr5, hb5⟩
          have HR5 := Lib.hid hr5
          have HS5 := Lib.hid (HS2.out.step hb5)
          clear hr5 hb5
          go_wp2_with fail
          refine (HSc.out _ w5 HR5.out HS5.out).mono ?_
          rintro e w6 ⟨ga, gc, rfl, hg6, hS6⟩
          have HS6 := Lib.hid hS6
          have HG6 := Lib.hid hg6
          clear hg6 hS6 HS5 HR5
          go_wp2_with fail
          refine (HNew.out ot w6).mono ?_
          rintro e w7 ⟨rfl, hr7, hb7⟩
          have HR7 := Lib.hid hr7
          have HS7 := Lib.hid (HS6.out.step hb7)
          have HG7 := Lib.hid (HG6.out.below hb7)
          clear hr7 hb7
          go_wp2_with fail
          refine (HSo.out _ w7 HR7.out HS7.out).mono ?_
          rintro e w8 ⟨q, oa, oc, rfl, hq, hb8⟩
          have HS8 := Lib.hid (HS7.out.step hb8)
          have HG8 := Lib.hid (HG7.out.below hb8)
          have HQ := Lib.hid hq
          clear hb8 hq
          go_wp2_with fail
          refine (HSm.out ga gc w8 HG8.out HS8.out).mono ?_
          rintro e w9 ⟨rfl, hb9⟩
          have HB9 := Lib.hid hb9
          clear hb9
          by_cases hne : ep = ot
          · subst hne
            go_wp2_with fail
            go_ret
            exact ⟨rfl, HB9.out⟩
          · obtain rfl : q = 0 := HQ.out.elim (fun e => absurd e hne) (fun e => e)
            have hne' : ((ep : Int) == (ot : Int)) = false := by rw [beq_eq_false_iff_ne]; omega
            go_wp2_with fail
            go_ret
            exact ⟨rfl, HB9.out⟩
end Go.Proofs.Ytakngnigpncmkaa
