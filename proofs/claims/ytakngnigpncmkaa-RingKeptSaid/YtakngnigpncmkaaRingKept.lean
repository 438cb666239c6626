/-
  RingKept: for all records of two epochs, whatever is synced and torn, the law answers true.
-/
import Derived.Test.YtakngnigpncmkaaRingKeptMath
namespace Go.Proofs.Ytakngnigpncmkaa
open Go.RowKit

/-- numbers that were handed in: nothing, or a row of the world -/
def IntsAt (w : World) (a : Option Addr) (l : Nat) (es : Nat → Int) : Prop :=
  l = 0 ∨ ∃ b off, a = some ⟨b, off, none⟩ ∧ ∀ i, i < l → w.cell? ⟨b, off + i, none⟩ = some (.int .i64 (es i))
theorem or1 (k : Nat) : ∃ E : Nat, bits .or .u32 (k : Int) 1 = (E : Int) ∧ 1 ≤ E ∧ E < 4294967296 := by
  refine ⟨(BitVec.ofInt 32 k ||| BitVec.ofInt 32 1).toNat, ?_, ?_, (BitVec.ofInt 32 k ||| BitVec.ofInt 32 1).isLt⟩
  · have h := (BitVec.ofInt 32 k ||| BitVec.ofInt 32 1).isLt
    show IntKind.u32.wrap ((BitVec.ofInt 32 k ||| BitVec.ofInt 32 1).toNat : Int) = _
    generalize (BitVec.ofInt 32 k ||| BitVec.ofInt 32 1).toNat = y at *
    exact wrap_u32 y h
  · rw [BitVec.toNat_or]
    exact Nat.le_trans (by decide) Nat.right_le_or
theorem mask15 (k : Int) : ∃ p : Nat, bits .and .i64 k 15 = (p : Int) := by
  refine ⟨(BitVec.ofInt 64 k &&& BitVec.ofInt 64 15).toNat, ?_⟩
  have h : (BitVec.ofInt 64 k &&& BitVec.ofInt 64 15).toNat ≤ 15 := by
    rw [BitVec.toNat_and]
    exact Nat.le_trans Nat.and_le_right (by decide)
  show IntKind.i64.wrap ((BitVec.ofInt 64 k &&& BitVec.ofInt 64 15).toNat : Int) = _
  generalize (BitVec.ofInt 64 k &&& BitVec.ofInt 64 15).toNat = y at *
  simp only [IntKind.wrap, IntKind.bits, IntKind.signed]
  simp
  omega
/-- all sectors are blank, or frames of an epoch -/
def Olds (ep f : Nat) (M : DiskM) : Prop := ∀ i, (sectB M (f + i)).data.toList = List.replicate 64 0 ∨ isFrame ep (i + 1) (sectB M (f + i))
theorem Olds.step {ep f : Nat} {M : DiskM} (h : Olds ep f M) (n u : Nat) (t : ByteArray) : Olds ep f (appM M f n ep u t) := fun i => by
  unfold appM
  split
  · obtain ⟨p1, p2⟩ := sectB_put M (f + u) (recFrame ep u t) (recFrame_size ep u t) (costOf t.size)
    by_cases hc : u ≤ i ∧ i < u + costOf t.size
    · obtain ⟨d, rfl⟩ : ∃ d, i = u + d := ⟨i - u, by omega⟩
      have := p1 d (by omega)
      rw [Nat.add_assoc] at this
      rw [this]
      exact Or.inr (isFrame_rec ep u t d)
    · rw [p2 _ (by omega)]
      exact h i
  · exact h i
theorem frame_last (a b : Nat) (s : ByteArray) (h : isFrame a b s) : s.data.toList.drop 56 = stampOf a b := by
  have h4 := congrArg (fun s : ByteArray => s.data.toList) h.2.2
  have h5 : s.data.toList = frameOf a b (textIn s).data.toList := by simpa using h4
  rw [h5]
  exact frame_end a b _ (by rw [textIn_list _ h.2.1, List.length_take]; have := h.2.1; omega)
theorem Olds.elder {ep f E : Nat} {M : DiskM} (h : Olds ep f M) (hne : ¬ ep = E) (he : ep < 4294967296) (hE : E < 4294967296) (i : Nat) (hi : i < 100) : elder E (fun i => sectB M (f + i)) i := by
  have e4 : ∀ a, a < 4294967296 → num (enc a 4) = a := fun a ha => by rw [num_enc]; exact Nat.mod_eq_of_lt (by omega)
  have le : ∀ a, (enc a 4).length = 4 := fun a => enc_len a 4
  refine ⟨sectB_size _ _, fun hs => ?_⟩
  have hs : (sectB M (f + i)).data.toList.drop 56 = stampOf E (i + 1) := hs
  rcases h i with hb | hf
  · rw [hb] at hs
    have h2 := congrArg (fun l => num (l.drop 4)) hs
    simp only [stampOf] at h2
    rw [List.drop_left' (le E), e4 _ (by omega)] at h2
    have : num ((List.drop 56 (List.replicate 64 (0 : UInt8))).drop 4) = 0 := by decide
    omega
  · rw [frame_last ep (i + 1) _ hf] at hs
    have h2 := congrArg (fun l => num (l.take 4)) hs
    simp only [stampOf] at h2
    rw [List.take_left' (le ep), List.take_left' (le E), e4 _ he, e4 _ hE] at h2
    exact hne h2
theorem own_none' (w : World) (B : Nat) (hB : B ≤ w.heap.size) : (w.alloc (.cells #[] 9)).ownsRow B 9 1 (.slice (some ⟨w.heap.size, 0, none⟩) 0 0) 0 (textsOf []) := World.ownsRow_lit (base := B) (e := 9) (size := 1) w #[] 0 hB (by decide) rfl
theorem strs_take {w : World} {a : Option Addr} {n k : Nat} {l : List ByteArray} (h : StrsAt w a n l) (hk : k ≤ n) : StrsAt w a k (l.take k) := by
  refine ⟨by rw [List.length_take, h.1]; omega, ?_⟩
  rcases h.2 with h0 | ⟨b, rfl, hr⟩
  · exact Or.inl (by omega)
  · exact Or.inr ⟨b, rfl, fun i hi => by rw [List.getElem_take]; exact hr i (by rw [List.length_take] at hi; omega)⟩
set_option maxRecDepth 100000 in
set_option maxHeartbeats 8000000 in
theorem ringKept_walk (a0 a1 a4 : Option Addr) (l0 c0 l1 c1 l4 c4 ep : Nat) (sy : Int) (s0 s1 : Nat → ByteArray) (e4 : Nat → Int) (w : World) (h0 : StrsIn w a0 l0 s0) (h1 : StrsIn w a1 l1 s1) (h4 : IntsAt w a4 l4 e4) :
    Calls Try.prog 11 #[.slice a0 l0 c0, .slice a1 l1 c1, .int .i64 sy, .int .u32 ep, .slice a4 l4 c4] w fun e w' => e = .returned (.bool true) ∧ Below w.heap.size w w' := by
  obtain ⟨E, hE, hE1, hE2⟩ := or1 ep
  obtain ⟨y15, hy15⟩ := mask15 sy
  have hsub : IntKind.u32.wrap ((E : Int) - 1) = ((E - 1 : Nat) : Int) := by rw [show (E : Int) - 1 = ((E - 1 : Nat) : Int) by omega]; exact wrap_u32 _ (by omega)
  have H0 := Lib.hid h0
  have H1 := Lib.hid h1
  have H4 := Lib.hid h4
  clear h0 h1 h4
  obtain ⟨E1, hE1'⟩ : ∃ E1, E - 1 = E1 := ⟨_, rfl⟩
  rw [hE1'] at hsub
  have HE1 : Hid (¬ E1 = E ∧ E1 < 4294967296) := Lib.hid (by omega)
  clear hE1'
  go_enter Try.func11, Try.ntmps11
  go_wp2_with fail
  refine (ringAwake w).mono ?_
  rintro e w1 ⟨rfl, hb1⟩
  have HB1 := Lib.hid hb1
  clear hb1
  go_wp2_with fail
  refine (new_any 24 w1).mono ?_
  rintro e w2 ⟨m, rfl, hM⟩
  obtain ⟨d, bs', bt, hm⟩ := hM.is
  have HOl0 : Hid (Olds E1 2 m) := Lib.hid (fun i => Or.inl (by rw [hm]; exact blank_sec d bs' bt _ _))
  have HM2 : Hid (m.Live ∧ m.n = 24) := Lib.hid ⟨by rw [hm]; exact live_new _ _ _ _, by rw [hm]; rfl⟩
  have HB2 : Hid (Below w1.heap.size w1 w2) := Lib.hid ((hM.grew fun _ => False).below (Below.refl _ _) (Nat.le_refl _) (fun _ x => x.elim))
  have HO2 := Lib.hid hM.fresh
  have HD2 := Lib.hid hM.at'
  clear hM hm
  obtain ⟨p, hp⟩ : ∃ p, m.d = p := ⟨_, rfl⟩
  rw [hp]
  have HP := Lib.hid hp
  clear hp
  have HNew : Hid (∀ (e : Nat) (wx : World), Calls Try.prog 43 #[.pointer (some ⟨p, 0, none⟩), .int .i64 2, .int .i64 20, .int .u32 e] wx fun e' w' => e' = .returned (.pointer (some ⟨wx.heap.size, 0, none⟩)) ∧ RingAt wx.heap.size p 2 20 e 0 w' ∧ Below wx.heap.size wx w') := Lib.hid fun e wx => ringNew_any p 2 20 e wx
  go_wp2_with fail
  refine (HNew.out E1 w2).mono ?_
  rintro e w3 ⟨rfl, hr3, hb3⟩
  have HR3 := Lib.hid hr3
  have HB3 := Lib.hid hb3
  have HBw3 := Lib.hid ((HB1.out.trans (HB2.out.mono HB1.out.size)).trans (hb3.mono (Nat.le_trans HB1.out.size HB2.out.size)))
  clear hr3 hb3
  go_wp2_with fail
  refine (few_any a0 l0 c0 s0 w3 (H0.out.below HBw3.out)).mono ?_
  rintro e w4 ⟨v, rfl, hown, hb4⟩
  obtain ⟨_, fa, fc, rfl⟩ := rowOwn hown
  have HLs : Hid (∀ t ∈ fewOf l0 s0, t.size ≤ 150) := Lib.hid fun t h => fewOf_size h
  have HLn : Hid ((fewOf l0 s0).length ≤ 12) := Lib.hid (by rw [fewOf_len]; omega)
  have HAs0 : Hid (Apps w 24 w3.heap.size p w2.heap.size 2 20 E1 m.own fa (fewOf l0 s0) 0 m (.slice none 0 0) (.slice none 0 0) [] [] w4) := Lib.hid (by
    have s12 := HB2.out.size
    have s23 := HB3.out.size
    have s23' := HR3.out.lt
    have s34 := hb4.size
    have sB1 := HB1.out.size
    have sO := HD2.out.below
    have g : Below w2.heap.size w2 w4 := HB3.out.trans (hb4.mono s23)
    have hfa : ∀ b, fa = some ⟨b, 0, none⟩ → w3.heap.size ≤ b ∧ b < w4.heap.size := fun b e => hown.lt b (by rw [e]; rfl)
    refine ⟨⟨fun k hk => ?_, by omega, fun b e => ⟨fun hk => ?_, ?_⟩, fun k hk => ?_, by omega, fun hk => ?_⟩, HP.out, HM2.out.1, HM2.out.2, rfl, HD2.out.keep (Grew.of_below (S := fun _ => False) g) fun _ _ e => e, HR3.out.below hb4, World.ownsRow_nil _ _ _ _, World.ownsRow_nil _ _ _ _, Or.inl rfl, strs_own hown, fun b e => ⟨(hfa b e).2, (fun e => by cases e), (fun e => by cases e)⟩, HBw3.out.trans (hb4.mono HBw3.out.size), by omega⟩
    · have := sO k hk; omega
    · have := sO b hk; have := hfa b e; omega
    · have := hfa b e; omega
    · have := HO2.out k hk; omega
    · have := sO _ hk; omega)
  have HLw : Hid (∀ k, m.own k → w.heap.size ≤ k) := Lib.hid HAs0.out.lay.highO
  clear hown hb4 HB1 HB2 HB3 HBw3 HR3 HD2 HO2 HM2 HP hE hsub
  generalize fewOf l0 s0 = L0 at *
  generalize w3.heap.size = B0 at *
  generalize m.own = O at *
  generalize w2.heap.size = r0 at *
  go_wp2_with fail
  go_loopw [38] (fun i wx => ∃ k u : Nat, ∃ M, k ≤ L0.length ∧ i = .int .i64 k ∧ u ≤ 20 ∧ Olds E1 2 M ∧ Apps w 24 B0 p r0 2 20 E1 O fa L0 u M (.slice none 0 0) (.slice none 0 0) [] [] wx) (fun i _ => L0.length - (intOf i).toNat)
  case atStart => exact ⟨0, 0, m, by omega, rfl, by omega, HOl0.out, HAs0.out⟩
  case round =>
    obtain ⟨k, u, M, hk, rfl, hu, hOl, hS⟩ := hrel
    have HOl := Lib.hid hOl
    have HS := Lib.hid hS
    clear hOl hS HAs0 HOl0
    have hLn := HLn.out
    by_cases hlt : k < L0.length
    · have i1 : (k : Int) < (L0.length : Int) := by omega
      have i2 : (0 : Int) ≤ (k : Int) := by omega
      rcases HS.out.few.2 with h0 | ⟨b, rfl, q⟩
      · omega
      have q1 := q k hlt
      have ht := HLs.out _ (List.getElem_mem hlt)
      clear q
      generalize L0[k] = t at *
      have HApp := Lib.hid (HS.out.append (by omega) hu HE1.out.2 t ht)
      have HOs := Lib.hid (HOl.out.step 20 u t)
      have hu' := appU_le 20 u t hu
      generalize appM M 2 20 E1 u t = M' at *
      generalize appU 20 u t = u' at *
      generalize decide (u + costOf t.size ≤ 20) = D at *
      go_wp2_with fail
      refine HApp.out.mono ?_
      rintro e w5 ⟨rfl, hS5, _⟩
      have HS5 := Lib.hid hS5
      clear hS5 HApp q1
      go_wp2_with fail
      go_roundw
      case rel => exact ⟨k + 1, u', M', by omega, by go_num, hu', HOs.out, HS5.out⟩
      case measure => simp [intOf]; omega
    · have i1 : ¬ (k : Int) < (L0.length : Int) := by omega
      clear hlt
      have HSy := Lib.hid HS.out.sync
      have HEl : Hid (∀ i, i ≤ 20 → elder E (fun i => sectB M (2 + i)) i) := Lib.hid fun i hi => HOl.out.elder HE1.out.1 HE1.out.2 hE2 i (by omega)
      have HK0 : Hid (Kept E 2 20 (fun i => sectB M (2 + i)) { M with S := M.T } 0 0 0 [] (fun _ => ⟨#[]⟩)) := Lib.hid (Kept.start E 2 20 { M with S := M.T } fun i => rfl)
      generalize (fun i => sectB M (2 + i)) = A at *
      generalize ({ M with S := M.T } : DiskM) = M1 at *
      go_wp2_with fail
      refine HSy.out.mono ?_
      rintro e w5 ⟨rfl, hS5⟩
      have HS5 := Lib.hid hS5
      clear hS5 HSy HS HOl HE1 HLs HLn hLn
      go_wp2_with fail
      refine (HNew.out E w5).mono ?_
      rintro e w6 ⟨rfl, hr6, hb6⟩
      have HR6 := Lib.hid hr6
      have HS6 := Lib.hid (HS5.out.step hb6)
      clear hr6 hb6
      go_wp2_with fail
      refine (few_any a1 l1 c1 s1 _ (H1.out.below (HS6.out.below.alloc HS6.out.below.size (.cells #[] 9)))).mono ?_
      rintro e w7 ⟨v, rfl, hown, hb7⟩
      obtain ⟨_, fb, fd, rfl⟩ := rowOwn hown
      have HLs : Hid (∀ t ∈ fewOf l1 s1, t.size ≤ 150) := Lib.hid fun t h => fewOf_size h
      have HLn : Hid ((fewOf l1 s1).length ≤ 12) := Lib.hid (by rw [fewOf_len]; omega)
      have HAs : Hid (Apps w 24 w6.heap.size p w5.heap.size 2 20 E O fb (fewOf l1 s1) 0 M1 (.slice none 0 0) (.slice (some ⟨w6.heap.size, 0, none⟩) 0 0) [] [] w7) := Lib.hid (by
        have s1' := HS6.out.size
        have s2 := HR6.out.lt
        have s3 := HS5.out.size
        have s4 := HS5.out.below.size
        have s5 : (w6.alloc (.cells #[] 9)).heap.size = w6.heap.size + 1 := by simp
        have s6 := hb7.size
        have sO := HS6.out.lay.lowO
        have g6 : Below w6.heap.size w6 (w6.alloc (.cells #[] 9)) := (Below.refl _ _).alloc (Nat.le_refl _) _
        have g : Below w6.heap.size w6 w7 := g6.trans (hb7.mono (by omega))
        have hfb : ∀ b, fb = some ⟨b, 0, none⟩ → w6.heap.size + 1 ≤ b ∧ b < w7.heap.size := fun b e => by have := hown.lt b (by rw [e]; rfl); omega
        refine ⟨⟨fun k hk => ?_, s2, fun b e => ⟨fun hk => ?_, ?_⟩, HS6.out.lay.highO, s4, fun hk => ?_⟩, HS6.out.d, HS6.out.live, HS6.out.n, HS6.out.own, HS6.out.at'.keep (Grew.of_below (S := fun _ => False) g) fun _ _ e => e, HR6.out.below g, World.ownsRow_nil _ _ _ _, own_below (own_none' w6 w6.heap.size (Nat.le_refl _)) hb7, Or.inl rfl, strs_own hown, fun b e => ⟨(hfb b e).2, (fun e => by cases e), (fun e' => ?_)⟩, HS6.out.below.trans (g.mono HS6.out.below.size), g.size⟩
        · have := sO k hk; omega
        · have := sO b hk; have := hfb b e; omega
        · have := hfb b e; omega
        · have := sO _ hk; omega
        · have e' : some w6.heap.size = some b := e'
          have := Option.some.inj e'
          have := hfb b e
          omega)
      clear hown hb7 HS6 HR6 HS5 H1
      generalize fewOf l1 s1 = L at *
      generalize hBB : w6.heap.size = B at *
      clear hBB
      generalize w5.heap.size = r at *
      go_wp2_with fail
      go_loopw [18, 19, 61] (fun v18 v19 i wx => ∃ k u y q : Nat, ∃ M W kept, k ≤ L.length ∧ i = .int .i64 k ∧ v19 = .int .i64 (q : Nat) ∧ y ≤ u ∧ kept.length ≤ k ∧ Kept E 2 20 A M u y q kept W ∧ Apps w 24 B p r 2 20 E O fb L u M (.slice none 0 0) v18 [] kept wx) (fun _ _ i _ => L.length - (intOf i).toNat)
      case atStart => exact ⟨0, 0, 0, 0, M1, _, [], by omega, rfl, rfl, by omega, by simp, HK0.out, HAs.out⟩
      case round =>
        obtain ⟨k, u, y, q, M, W, kept, hk, rfl, rfl, hyu, hkl, hK, hS⟩ := hrel
        have HK := Lib.hid hK
        have HS := Lib.hid hS
        have hun := hK.le
        have o2 := hS.two
        obtain ⟨_, ka, kc, rfl⟩ := rowOwn o2
        clear hK hS o2 HAs HK0
        have hLn := HLn.out
        by_cases hlt : k < L.length
        · have i1 : (k : Int) < (L.length : Int) := by omega
          have i2 : (0 : Int) ≤ (k : Int) := by omega
          rcases HS.out.few.2 with h0 | ⟨b, rfl, q⟩
          · omega
          have q1 := q k hlt
          have ht := HLs.out _ (List.getElem_mem hlt)
          clear q
          generalize L[k] = t at *
          by_cases hfit : u + costOf t.size ≤ 20
          · have HKs := Lib.hid (HK.out.step hyu t hfit)
            have HApp : Hid (Calls Try.prog 45 #[.pointer (some ⟨r, 0, none⟩), .string t] wr fun e w' => e = .returned (.tuple #[.bool true, .int .i64 0]) ∧ Apps w 24 B p r 2 20 E O (some ⟨b, 0, none⟩) L (u + costOf t.size) (M.putTo (2 + u) (recFrame E u t) (costOf t.size)) (.slice none 0 0) (.slice ka kept.length kc) [] kept w') := Lib.hid (by
              refine (HS.out.append (by omega) hun hE2 t ht).mono ?_
              rintro e w' ⟨rfl, h1, h2⟩
              have e1 : appU 20 u t = u + costOf t.size := by unfold appU; rw [if_pos hfit]
              have e2 : appM M 2 20 E u t = M.putTo (2 + u) (recFrame E u t) (costOf t.size) := by unfold appM; rw [if_pos hfit]
              rw [e1, e2] at h1
              exact ⟨by rw [decide_eq_true hfit], h1⟩)
            generalize M.putTo (2 + u) (recFrame E u t) (costOf t.size) = M' at *
            generalize moreW E u t W = W' at *
            generalize costOf t.size = C at *
            go_wp2_with fail
            refine HApp.out.mono ?_
            rintro e w8 ⟨rfl, hS8⟩
            have HS8 := Lib.hid hS8
            have HO8 := Lib.hid (hS8.two.alloc (.cells #[.string t] 9))
            have hs8 := hS8.size
            clear hS8 HApp q1 HS HK
            go_upto_region 26 with (at_builtin; (refine wpList_more_strs rfl _ _ rfl B (.slice ka kept.length kc) _ [t] rfl kept.length rfl HO8.out w8.heap.size 1 1 rfl rfl (one_str w8 t) (by decide) (by omega) (by simp; omega) ?_); (intro g2 cap2 w9 hm2); (have hS9 := (HS8.out.step ((Below.refl _ _).alloc (Nat.le_refl _) (.cells #[.string t] 9))).more2 hm2); (have HS9 := Lib.hid hS9); clear hm2 hS9)
            clear HS8 HO8
            by_cases hs : k = y15
            · have HSy := Lib.hid HS9.out.sync
              have HK2 := Lib.hid HKs.out.sync
              subst hs
              generalize ({ M' with S := M'.T } : DiskM) = M2 at *
              go_wp2_with fail
              refine HSy.out.mono ?_
              rintro e w9 ⟨rfl, hS9⟩
              have HS9 := Lib.hid hS9
              clear hS9 HSy
              go_wp2_with fail
              go_roundw
              case rel => exact ⟨k + 1, u + C, u + C, _, M2, W', kept ++ [t], by omega, by go_num, by simp, Nat.le_refl _, by simp; omega, HK2.out, HS9.out⟩
              case measure => simp [intOf]; omega
            · have hs' : ((k : Int) == (y15 : Int)) = false := by rw [beq_eq_false_iff_ne]; omega
              go_wp2_with fail
              go_roundw
              case rel => exact ⟨k + 1, u + C, y, q, M', W', kept ++ [t], by omega, by go_num, rfl, by omega, by simp; omega, HKs.out, HS9.out⟩
              case measure => simp [intOf]; omega
          · have HApp : Hid (Calls Try.prog 45 #[.pointer (some ⟨r, 0, none⟩), .string t] wr fun e w' => e = .returned (.tuple #[.bool false, .int .i64 0]) ∧ Apps w 24 B p r 2 20 E O (some ⟨b, 0, none⟩) L u M (.slice none 0 0) (.slice ka kept.length kc) [] kept w') := Lib.hid (by
              refine (HS.out.append (by omega) hun hE2 t ht).mono ?_
              rintro e w' ⟨rfl, h1, h2⟩
              have e1 : appU 20 u t = u := by unfold appU; rw [if_neg hfit]
              have e2 : appM M 2 20 E u t = M := by unfold appM; rw [if_neg hfit]
              rw [e1, e2] at h1
              exact ⟨by rw [decide_eq_false hfit], h1⟩)
            go_wp2_with fail
            refine HApp.out.mono ?_
            rintro e w8 ⟨rfl, hS8⟩
            have HS9 := Lib.hid hS8
            clear hS8 HApp q1 HS
            go_upto_region 26 with fail
            by_cases hs : k = y15
            · have HSy := Lib.hid HS9.out.sync
              have HK2 := Lib.hid HK.out.sync
              subst hs
              generalize ({ M with S := M.T } : DiskM) = M2 at *
              go_wp2_with fail
              refine HSy.out.mono ?_
              rintro e w9 ⟨rfl, hS9⟩
              have HS9 := Lib.hid hS9
              clear hS9 HSy
              go_wp2_with fail
              go_roundw
              case rel => exact ⟨k + 1, u, u, _, M2, W, kept, by omega, by go_num, rfl, Nat.le_refl _, by omega, HK2.out, HS9.out⟩
              case measure => simp [intOf]; omega
            · have hs' : ((k : Int) == (y15 : Int)) = false := by rw [beq_eq_false_iff_ne]; omega
              go_wp2_with fail
              go_roundw
              case rel => exact ⟨k + 1, u, y, q, M, W, kept, by omega, by go_num, rfl, by omega, by omega, HK.out, HS9.out⟩
              case measure => simp [intOf]; omega
        · have i1 : ¬ (k : Int) < (L.length : Int) := by omega
          clear hlt
          obtain ⟨kk, hq1, hq2, hsc⟩ := HK.out.crash hyu HEl.out (by rw [HS.out.n]; decide) (cutOf l4 e4) (cutOf_le l4 e4)
          have HSc := Lib.hid hsc
          have hIA : IntsApart M.own wr a4 l4 e4 := by
            rcases H4.out with e | ⟨b, off, rfl, hr⟩
            · exact Or.inl e
            · by_cases hz : l4 = 0
              · exact Or.inl hz
              · have hbw := cell_lt (hr 0 (by omega))
                refine Or.inr ⟨b, off, rfl, fun hk => ?_, fun i hi => by rw [HS.out.below.cell hbw]; exact hr i hi⟩
                rw [HS.out.own] at hk
                have := HLw.out b hk
                omega
          have HCr := Lib.hid (crash_any M a4 l4 c4 e4 wr HS.out.at' hIA)
          rw [HS.out.d, HS.out.own] at HCr
          have HMc : Hid ((M.crashed (cutOf l4 e4)).d = p ∧ (M.crashed (cutOf l4 e4)).n = 24 ∧ (M.crashed (cutOf l4 e4)).Live) := Lib.hid ⟨by rw [crashed_d]; exact HS.out.d, by rw [crashed_n]; exact HS.out.n, live_crashed _ _⟩
          clear hsc hIA H4 H0 HEl HK
          generalize M.crashed (cutOf l4 e4) = Mc at *
          go_wp2_with fail
          refine HCr.out.mono ?_
          rintro e w8 ⟨rfl, hD8, hg8⟩
          have HD8 := Lib.hid hD8
          have HB8 : Hid (Below w.heap.size w w8) := Lib.hid (hg8.below HS.out.below HS.out.below.size HLw.out)
          have HT8 := Lib.hid (own_grew HS.out.two hg8 fun k hk e => by have := HS.out.lay.lowO k e; omega)
          clear hD8 hg8 HCr HS
          go_wp2_with fail
          refine (HNew.out E w8).mono ?_
          rintro e w9 ⟨rfl, hr9, hb9⟩
          have HSn := Lib.hid (lawScan_any w8.heap.size p 2 20 E 0 Mc HMc.out.1 HMc.out.2.2 w9 hr9 (HD8.out.keep (Grew.of_below (S := fun _ => False) hb9) fun _ _ e => e) (by rw [HMc.out.2.1]; decide) hE2)
          rw [HSc.out] at HSn
          have HT9 := Lib.hid (own_below HT8.out hb9)
          have HB9 := Lib.hid (HB8.out.trans (hb9.mono HB8.out.size))
          clear hr9 hb9 HT8 HB8 HD8 HMc HSc HNew
          generalize w8.heap.size = r9 at *
          go_wp2_with fail
          refine HSn.out.mono ?_
          rintro e w10 ⟨v, rfl, ho, hb10⟩
          have hl10 : (kept.take kk).length = kk := by rw [List.length_take]; omega
          rw [hl10] at ho
          obtain ⟨_, ga, gc, rfl⟩ := rowOwn ho
          have HT10 := own_below HT9.out hb10
          have HB10 := Lib.hid (HB9.out.trans (hb10.mono HB9.out.size))
          have HSame := Lib.hid (same_any w10 ga ka kk kk gc kc (kept.take kk) (kept.take kk) (strs_own ho) (strs_take (strs_own HT10) hq2) (by omega) rfl)
          have hform := own_form HT10
          have hmn := fun (wx : World) (ts : Array TypeId) (t : TypeId) => run_min2 Try.prog wx ts t (kk : Int) (kept.length : Int) (kk : Int) (by omega)
          have i3 : (q : Int) ≤ (kk : Int) := by omega
          have i4 : (kk : Int) ≤ (kept.length : Int) := by omega
          clear ho hb10 HT10 HT9 HB9 HSn hl10
          rcases hform with ⟨rfl, hk0, rfl⟩ | ⟨g, rfl, hc1, hc2⟩
          · obtain rfl : kk = 0 := by omega
            obtain rfl : q = 0 := by omega
            rw [hk0] at hmn i4 ⊢
            clear hk0
            go_wp2_with fail
            refine HSame.out.mono ?_
            rintro e w11 ⟨rfl, hb11⟩
            have HB11 := Lib.hid (HB10.out.trans (hb11.mono HB10.out.size))
            clear hb11
            go_wp2_with fail
            go_ret
            exact ⟨rfl, HB11.out⟩
          · have i5 : (kk : Int) ≤ (kc : Int) := by omega
            generalize kept.length = KL at *
            go_wp2_with fail
            refine HSame.out.mono ?_
            rintro e w11 ⟨rfl, hb11⟩
            have HB11 := Lib.hid (HB10.out.trans (hb11.mono HB10.out.size))
            clear hb11
            go_wp2_with fail
            go_ret
            exact ⟨rfl, HB11.out⟩
end Go.Proofs.Ytakngnigpncmkaa
