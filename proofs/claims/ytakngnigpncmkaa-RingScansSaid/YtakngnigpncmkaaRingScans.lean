/-
  RingScans: for all sectors the law answers true.
-/
import Derived.Test.YtakngnigpncmkaaRingScn
import Derived.BigRegion
namespace Go.Proofs.Ytakngnigpncmkaa
open Go.RowKit

theorem own_lit (w : World) (B : Nat) (hB : B ≤ w.heap.size) : (w.alloc (.cells #[] 9)).ownsRow B 9 1 (.slice (some ⟨w.heap.size, 0, none⟩) 0 0) 0 (textsOf []) := World.ownsRow_lit (base := B) (e := 9) (size := 1) w #[] 0 hB (by decide) rfl
theorem rec_all (ep u C : Nat) (t : ByteArray) : ∀ x ∈ (List.range C).map (recFrame ep u t), x.size ≤ 64 := fun x hx => by
  obtain ⟨i, _, rfl⟩ := List.mem_map.1 hx
  rw [recFrame_size]
  exact Nat.le_refl _
theorem Scn.fresh2 {w : World} {B p : Nat} {O : Nat → Prop} {fa : Option Addr} {L : List ByteArray} {M : DiskM} {v1 : Value} {l1 : List ByteArray} {wx : World} (h : Scn w B p O fa L M v1 (.slice none 0 0) l1 [] wx) :
    Scn w B p O fa L M v1 (.slice (some ⟨wx.heap.size, 0, none⟩) 0 0) l1 (firstK M 0) (wx.alloc (.cells #[] 9)) := by
  have g := h.step ((Below.refl _ _).alloc (Nat.le_refl _) (.cells #[] 9))
  refine ⟨g.lowO, g.highO, g.fewO, g.d, g.live, g.n, g.own, g.at', g.one, own_lit wx B h.size, ?_, g.few, fun b e => ⟨(g.fewap b e).1, (g.fewap b e).2.1, fun e' => ?_⟩, g.wB, g.below, g.size⟩
  · refine Or.inr fun e => ?_
    have e : v1.ownBlock = some wx.heap.size := e
    have := (h.one.lt _ e).2
    omega
  · have e' : some wx.heap.size = some b := e'
    have := Option.some.inj e'
    have := (h.fewap b e).1
    omega
theorem scanF_len (ep : Nat) (X : Nat → ByteArray) : ∀ j k rec out, (scanF ep X j k rec out).length ≤ out.length + j
  | 0, _, _, _ => Nat.le_refl _
  | j + 1, k, rec, out => by
    rw [scanF_succ]
    split
    · split
      · have := scanF_len ep X j (k + 1) [] (out ++ [⟨(rec ++ restB (textIn (X k))).toArray⟩])
        rw [List.length_append] at this
        simp at this
        omega
      · have := scanF_len ep X j (k + 1) (rec ++ restB (textIn (X k))) out
        omega
    · omega
theorem firstK_len (M : DiskM) (k : Nat) : (firstK M k).length = k := by simp [firstK]
set_option maxRecDepth 100000 in
set_option maxHeartbeats 8000000 in
theorem ringScans_walk (ep : Nat) (a1 a2 : Option Addr) (l1 c1 l2 c2 : Nat) (s1 s2 : Nat → ByteArray) (at' by' : Int) (wi : Int) (w : World) (he : ep < 4294967296) (h1 : StrsIn w a1 l1 s1) (h2 : StrsIn w a2 l2 s2) :
    Calls Try.prog 10 #[.int .u32 ep, .slice a1 l1 c1, .slice a2 l2 c2, .int .i64 at', .int .i64 by', .int .u8 wi] w fun e w' => e = .returned (.bool true) ∧ Below w.heap.size w w' := by
  obtain ⟨y7, hy7, _⟩ := mask7' at'
  obtain ⟨x63, hx63, hx64⟩ := mask63 by'
  have H1 := Lib.hid h1
  have H2 := Lib.hid h2
  clear h1 h2
  go_enter Try.func10, Try.ntmps10
  go_wp2_with fail
  refine (ringAwake w).mono ?_
  rintro e w1 ⟨rfl, hb1⟩
  have HB1 := Lib.hid hb1
  clear hb1
  go_wp2_with fail
  refine (new_any 8 w1).mono ?_
  rintro e w2 ⟨m, rfl, hM⟩
  obtain ⟨d, bs', bt, hm⟩ := hM.is
  have HM2 : Hid (m.Live ∧ m.n = 8) := Lib.hid ⟨by rw [hm]; exact live_new _ _ _ _, by rw [hm]; rfl⟩
  have HB2 : Hid (Below w1.heap.size w1 w2) := Lib.hid ((hM.grew fun _ => False).below (Below.refl _ _) (Nat.le_refl _) (fun _ x => x.elim))
  have HO2 := Lib.hid hM.fresh
  have HD2 := Lib.hid hM.at'
  clear hM hm
  obtain ⟨p, hp⟩ : ∃ p, m.d = p := ⟨_, rfl⟩
  rw [hp]
  have HP := Lib.hid hp
  clear hp
  have HBw2 := Lib.hid (HB1.out.trans (HB2.out.mono HB1.out.size))
  go_wp2_with fail
  refine (few_any a1 l1 c1 s1 _ (H1.out.below (HBw2.out.alloc HBw2.out.size (.cells #[] 9)))).mono ?_
  rintro e w4 ⟨v, rfl, hown, hb4⟩
  obtain ⟨_, fa, fc, rfl⟩ := rowOwn hown
  have HLs : Hid (∀ t ∈ fewOf l1 s1, t.size ≤ 150) := Lib.hid fun t h => fewOf_size h
  have HLn : Hid ((fewOf l1 s1).length ≤ 12) := Lib.hid (by rw [fewOf_len]; omega)
  have HS0 : Hid (Scn w w2.heap.size p m.own fa (fewOf l1 s1) m (.slice (some ⟨w2.heap.size, 0, none⟩) 0 0) (.slice none 0 0) [] [] w4) := Lib.hid (by
    have s12 := HB2.out.size
    have s5 : (w2.alloc (.cells #[] 9)).heap.size = w2.heap.size + 1 := by simp
    have s34 := hb4.size
    have sB1 := HB1.out.size
    have sO := HD2.out.below
    have g6 : Below w2.heap.size w2 (w2.alloc (.cells #[] 9)) := (Below.refl _ _).alloc (Nat.le_refl _) _
    have g : Below w2.heap.size w2 w4 := g6.trans (hb4.mono (by omega))
    have hfa : ∀ b, fa = some ⟨b, 0, none⟩ → w2.heap.size + 1 ≤ b ∧ b < w4.heap.size := fun b e => by have := hown.lt b (by rw [e]; rfl); omega
    refine ⟨sO, fun k hk => ?_, fun b e hk => ?_, HP.out, HM2.out.1, HM2.out.2, rfl, HD2.out.keep (Grew.of_below (S := fun _ => False) g) fun _ _ e => e, own_below (own_lit w2 w2.heap.size (Nat.le_refl _)) hb4, World.ownsRow_nil _ _ _ _, Or.inr (fun e => by cases e), strs_own hown, fun b e => ⟨(hfa b e).2, (fun e' => ?_), (fun e => by cases e)⟩, by omega, HBw2.out.trans (g.mono HBw2.out.size), g.size⟩
    · have := HO2.out k hk; omega
    · have := sO b hk; have := hfa b e; omega
    · have e' : some w2.heap.size = some b := e'
      have := Option.some.inj e'
      have := hfa b e
      omega)
  clear hown hb4 HB1 HB2 HBw2 HD2 HO2 HM2 HP H1
  generalize fewOf l1 s1 = L at *
  generalize hBB : w2.heap.size = B at *
  clear hBB
  generalize m.own = O at *
  go_wp2_with fail
  go_loopw [14, 31] (fun v14 i wx => ∃ k : Nat, ∃ al : List ByteArray, k ≤ L.length ∧ i = .int .i64 k ∧ (∀ t ∈ al, t.size ≤ 64) ∧ al.length ≤ 10 * k ∧ Scn w B p O fa L m v14 (.slice none 0 0) al [] wx) (fun _ i _ => L.length - (intOf i).toNat)
  case atStart => exact ⟨0, [], by omega, rfl, by simp, by simp, HS0.out⟩
  case round =>
    obtain ⟨k, al, hk, rfl, hal, hln, hS⟩ := hrel
    have HS := Lib.hid hS
    have HAl := Lib.hid hal
    have o1 := hS.one
    obtain ⟨_, va, vc, rfl⟩ := rowOwn o1
    clear hS hal o1 HS0
    have hLn := HLn.out
    by_cases hlt : k < L.length
    · have i1 : (k : Int) < (L.length : Int) := by omega
      have i2 : (0 : Int) ≤ (k : Int) := by omega
      rcases HS.out.few.2 with h0 | ⟨b, rfl, q⟩
      · omega
      have q1 := q k hlt
      have ht := HLs.out _ (List.getElem_mem hlt)
      clear q
      generalize L[k] = t at *
      have HFr := Lib.hid (HS.out.frames ep al.length (by omega) he t ht)
      obtain ⟨d', hd', d0, d1, d2⟩ := cost_pos t.size
      have hC0 : 0 < costOf t.size := by omega
      have hC9 : costOf t.size ≤ 10 := by omega
      have HRec := Lib.hid fun C => rec_all ep al.length C t
      clear hd' d0 d1 d2
      generalize costOf t.size = C at *
      generalize recFrame ep al.length t = F at *
      have HK1 : Hid (((List.range C).map F).length = C) := Lib.hid (by simp)
      go_wp2_with fail
      refine (HFr.out _ rfl).mono ?_
      rintro e w5 ⟨g, cap, rfl, hfr, hS5⟩
      have HS5 := Lib.hid hS5
      have Hfr := Lib.hid hfr
      clear hS5 hfr HFr q1
      go_wp2_with (at_builtin; (refine wpList_more_strs rfl _ _ rfl B (.slice va al.length vc) _ ((List.range C).map F) rfl al.length rfl HS5.out.one g C cap rfl HK1.out Hfr.out hC0 (by omega) HS5.out.size ?_); (intro g1 cap1 w7 hm1); (have hS7 := HS5.out.more1 hm1); (rw [HK1.out] at hS7); (have HS7 := Lib.hid hS7); clear hm1 hS7)
      go_roundw
      case rel => exact ⟨k + 1, al ++ (List.range C).map F, by omega, by go_num, fun x hx => (List.mem_append.1 hx).elim (HAl.out x) (HRec.out C x), by rw [List.length_append, HK1.out]; omega, HS7.out⟩
      case measure => simp [intOf]; omega
    · have i1 : ¬ (k : Int) < (L.length : Int) := by omega
      clear hlt
      obtain ⟨AN, hAN⟩ : ∃ AN, al.length = AN := ⟨_, rfl⟩
      rw [hAN]
      have HAN := Lib.hid hAN
      have HW0 : Hid (Scn w B p O fa L m (.slice va AN vc) (.slice none 0 0) al [] wr) := Lib.hid (by rw [← hAN]; exact HS.out)
      clear hAN HS
      go_wp2_with fail
      go_loopw [17] (fun i wx => ∃ k : Nat, ∃ al : List ByteArray, k ≤ 8 ∧ i = .int .i64 k ∧ (∀ t ∈ al, t.size ≤ 64) ∧ al.length = AN ∧ Scn w B p O fa L m (.slice va AN vc) (.slice none 0 0) al [] wx) (fun i _ => 8 - (intOf i).toNat)
      case atStart => exact ⟨0, al, by omega, rfl, HAl.out, HAN.out, HW0.out⟩
      case round =>
        obtain ⟨k, al, hk, rfl, hal, han, hS⟩ := hrel
        have HS := Lib.hid hS
        have HAl := Lib.hid hal
        have HAn := Lib.hid han
        clear hS hal han HW0 HAN
        by_cases hend : k < l2 ∧ k < 8
        · have j1 : (k : Int) < (l2 : Int) := by omega
          have j2 : (k : Int) < 8 := by omega
          have j3 : (0 : Int) ≤ (k : Int) := by omega
          rcases H2.out with hz | ⟨b, off, rfl, hr⟩
          · omega
          obtain ⟨r1, r2⟩ := hr k hend.1
          have q1 : wr.cell? ⟨b, off + k, none⟩ = some (.string (s2 k)) := by rw [HS.out.below.cell (cell_lt r1)]; exact r1
          obtain ⟨t, ht, hcut⟩ := cut_law (s2 k) 64 r2 (by omega)
          have HC := Lib.hid hcut
          clear hr r1 r2 hcut
          generalize s2 k = sk at *
          go_wp2_with fail
          refine (HC.out _).mono ?_
          rintro e w5 ⟨rfl, rfl⟩
          clear HC q1
          by_cases ht0 : t = ⟨#[]⟩
          · subst ht0
            go_wp2_with fail
            go_roundw
            case rel => exact ⟨k + 1, al, by omega, by go_num, HAl.out, HAn.out, HS.out⟩
            case measure => simp [intOf]; omega
          · have hne := full_list ht0
            by_cases hka : k < AN
            · have j4 : (k : Int) < (AN : Int) := by omega
              obtain ⟨gg, hgg, hcc⟩ : ∃ g, va = some ⟨g, 0, none⟩ ∧ wr.cell? ⟨g, k, none⟩ = some (.string (al[k]'(by rw [HAn.out]; exact hka))) := by
                have hst := strs_own (n := AN) (l := al) (by have := HS.out.one; rw [HAn.out] at this; exact this)
                rcases hst.2 with e | ⟨g, e, hr⟩
                · omega
                · exact ⟨g, e, hr k (by rw [HAn.out]; exact hka)⟩
              subst hgg
              have hfz : wr.frozen? ⟨gg, k, none⟩ = false := own_free (n := AN) (by have := HS.out.one; rw [HAn.out] at this; exact this)
              have HSt := Lib.hid (HS.out.store HAn.out t hka)
              have HMem : Hid (∀ x ∈ al.set k t, x.size ≤ 64) := Lib.hid fun x hx => (List.mem_or_eq_of_mem_set hx).elim (HAl.out x) (fun e => by rw [e]; exact ht)
              have HLen : Hid ((al.set k t).length = AN) := Lib.hid (by rw [List.length_set]; exact HAn.out)
              generalize al[k]'(by rw [HAn.out]; exact hka) = old at *
              go_wp2_with fail
              go_roundw
              case rel => exact ⟨k + 1, al.set k t, by omega, by go_num, HMem.out, HLen.out, HSt.out⟩
              case measure => simp [intOf]; omega
            · have j4 : ¬ (k : Int) < (AN : Int) := by omega
              go_wp2_with fail
              go_roundw
              case rel => exact ⟨k + 1, al, by omega, by go_num, HAl.out, HAn.out, HS.out⟩
              case measure => simp [intOf]; omega
        · have HEnd : Hid (¬ ((k : Int) < (l2 : Int)) ∨ ((k : Int) < (l2 : Int) ∧ ¬ (k : Int) < 8)) := Lib.hid (by omega)
          clear hend
          have HT0 := Lib.hid HS.out.fresh2
          have HS : Hid True := Lib.hid trivial
          rcases HEnd.out with j1 | ⟨j1, j2⟩
          all_goals
            clear HEnd
            go_wp2_with fail
            generalize hW0 : wr.alloc (.cells #[] 9) = W0 at *
            clear hW0
            generalize wr.heap.size = T0 at *
            go_loopw [19, 72] (fun v19 i wx => ∃ k : Nat, ∃ M, k ≤ 8 ∧ i = .int .i64 k ∧ Scn w B p O fa L M (.slice va AN vc) v19 al (firstK M k) wx) (fun _ i _ => 8 - (intOf i).toNat)
            case atStart => exact ⟨0, m, by omega, rfl, HT0.out⟩
            case round =>
              obtain ⟨k, M, hk8, rfl, hS⟩ := hrel
              have ho2 := hS.two
              rw [firstK_len] at ho2
              obtain ⟨_, ta, tc, rfl⟩ := rowOwn ho2
              have HS := Lib.hid hS
              have HFl := Lib.hid (firstK_len M k)
              clear hS ho2 HT0
              by_cases hlt : k < 8
              · have i1 : (k : Int) < 8 := by omega
                have i2 : (0 : Int) ≤ (k : Int) := by omega
                obtain ⟨P, hP64, hcase⟩ : ∃ P : ByteArray, P.size ≤ 64 ∧ ((k < AN ∧ ∃ g, va = some ⟨g, 0, none⟩ ∧ wr.cell? ⟨g, k, none⟩ = some (.string P)) ∨ (¬ k < AN ∧ P = ⟨#[]⟩)) := by
                  by_cases hka : k < AN
                  · have hst := strs_own (n := AN) (l := al) (by have := HS.out.one; rw [HAn.out] at this; exact this)
                    rcases hst.2 with e | ⟨g, e, hr⟩
                    · omega
                    · exact ⟨al[k]'(by rw [HAn.out]; exact hka), HAl.out _ (List.getElem_mem _), Or.inl ⟨hka, g, e, hr k (by rw [HAn.out]; exact hka)⟩⟩
                  · exact ⟨⟨#[]⟩, by decide, Or.inr ⟨hka, rfl⟩⟩
                have HWt := Lib.hid fun (wx : World) (s : ByteArray) (hb : Below wr.heap.size wr wx) (hs : s.size = 64) => (HS.out.step hb).write k hlt s hs
                have HP64 := Lib.hid hP64
                obtain ⟨PP, hPP⟩ : ∃ PP, P = PP := ⟨_, rfl⟩
                have HPP := Lib.hid hPP
                have HPs : Hid (PP.size ≤ 64) := Lib.hid (by rw [← hPP]; exact hP64)
                clear hPP hP64
                rcases hcase with ⟨hka, gg, rfl, hcc⟩ | ⟨hka, rfl⟩
                · have j4 : (k : Int) < (AN : Int) := by omega
                  obtain rfl := HPP.out
                  clear HPP
                  go_wp2_with fail
                  have hP0 := HPs.out
                  go_loop [21] (fun s21 => ∃ j : Nat, P.size + j ≤ 64 ∧ s21 = .string (tail0 P j)) (fun s21 => 64 - lenOf s21)
                  case atStart => exact ⟨0, by omega, by rw [tail0_zero]⟩
                  case round =>
                    obtain ⟨j, hj, rfl⟩ := hrel
                    have HT := Lib.hid (tail0_succ P j)
                    have hz := tail0_size P j
                    have HZ := Lib.hid hz
                    generalize tail0 P j = Q at *
                    by_cases hlt2 : P.size + j < 64
                    · have hi : (Q.size : Int) < 64 := by omega
                      have hc : ∀ wx : World, (Op.stringOp .add Q ⟨#[0]⟩).run Try.prog wx = .ok (.string (Q ++ ⟨#[0]⟩)) wx := fun wx => run_string_add_sum wx Q _ (by show Q.size + 1 ≤ _; omega)
                      clear hz
                      go_wp2_with fail
                      go_round
                      case rel => exact ⟨j + 1, by omega, by rw [HT.out]⟩
                      case measure =>
                        show 64 - (Q ++ (⟨#[0]⟩ : ByteArray)).size < 64 - Q.size
                        rw [ByteArray.size_append]
                        show 64 - (Q.size + 1) < _
                        have := HZ.out
                        omega
                    · have HQ : Hid (Q.size = 64) := Lib.hid (by omega)
                      have hi : (Q.size : Int) = 64 := by omega
                      clear hz HT HZ hj hlt2
                      by_cases hat : k = y7
                      · have hq : ((k : Int) == (y7 : Int)) = true := by rw [hat]; simp
                        have u1 : (0 : Int) ≤ (x63 : Int) := by omega
                        have u2 : (x63 : Int) < 64 := by omega
                        have u3 : (x63 : Int) ≤ 64 := by omega
                        have hk : x63 < Q.size := by have := HQ.out; omega
                        have e1 : IntKind.i64.wrap ((x63 : Int) + 1) = ((x63 + 1 : Nat) : Int) := by rw [IntWalk.i64_in _ (by omega)]; omega
                        have u4 : (0 : Int) ≤ ((x63 + 1 : Nat) : Int) := by omega
                        have u5 : ((x63 + 1 : Nat) : Int) ≤ 64 := by omega
                        have u6 : (0 : Int) ≤ (x63 : Int) + 1 ∧ (x63 : Int) + 1 ≤ 64 := by omega
                        obtain ⟨b2, hb⟩ := xor8 (((Q[x63]'hk).toNat : Nat) : Int) wi
                        have hone := one_at ((wr.alloc (.cells #[.int .u8 (b2.toNat : Int)] 5)).drew) wr.heap.size b2 (boxNew rfl)
                        have hone2 := one_at (wr.drew.alloc (.cells #[.int .u8 (b2.toNat : Int)] 5)) wr.heap.size b2 (boxNew rfl)
                        have z1 : (Q.extract 0 x63).size = x63 := by rw [ByteArray.size_extract]; omega
                        have z2 : (Q.extract (x63 + 1) 64).size = 63 - x63 := by rw [ByteArray.size_extract, HQ.out]; omega
                        have hc1 : ∀ wx : World, (Op.stringOp .add (Q.extract 0 x63) ⟨#[b2]⟩).run Try.prog wx = .ok (.string (Q.extract 0 x63 ++ ⟨#[b2]⟩)) wx := fun wx => run_string_add_sum wx _ _ (by show _ + 1 ≤ _; omega)
                        have hc2 : ∀ wx : World, (Op.stringOp .add (Q.extract 0 x63 ++ ⟨#[b2]⟩) (Q.extract (x63 + 1) 64)).run Try.prog wx = .ok (.string (Q.extract 0 x63 ++ ⟨#[b2]⟩ ++ Q.extract (x63 + 1) 64)) wx := fun wx => run_string_add_sum wx _ _ (by rw [ByteArray.size_append]; show (Q.extract 0 x63).size + 1 + _ ≤ _; omega)
                        have HQ2 : Hid ((Q.extract 0 x63 ++ ⟨#[b2]⟩ ++ Q.extract (x63 + 1) Q.size).size = 64) := Lib.hid (by rw [HQ.out, ByteArray.size_append, ByteArray.size_append]; show (Q.extract 0 x63).size + 1 + _ = _; omega)
                        clear z1 z2 hat
                        go_upto_region 26 with fail
                        go_region
                        all_goals
                          clear hone hone2 hc1 hc2 e1 hb
                          have HB5 : Hid (Below wr.heap.size wr (wr.alloc (.cells #[.int .u8 (b2.toNat : Int)] 5)).drew) := Lib.hid ((Below.refl _ _).alloc (Nat.le_refl _) _).drew
                          generalize (wr.alloc (.cells #[.int .u8 (b2.toNat : Int)] 5)).drew = W5 at *
                          generalize Q.extract 0 x63 ++ ⟨#[b2]⟩ ++ Q.extract (x63 + 1) Q.size = Q2 at *
                          go_wp2_with fail
                          refine (HWt.out _ _ HB5.out HQ2.out).mono ?_
                          rintro e w5 ⟨rfl, hS5⟩
                          have HS5 := Lib.hid hS5
                          have ho5 := hS5.two.alloc (.cells #[.string Q2] 9)
                          rw [firstK_len] at ho5
                          have HO5 := Lib.hid ho5
                          have hs5 := hS5.size
                          have HFm := Lib.hid (firstK_more M k Q2 HQ2.out)
                          clear hS5 ho5
                          generalize M.wrote k (txtf Q2) = M5 at *
                          go_wp2_with (at_builtin; (refine wpList_more_strs rfl _ _ rfl B (.slice ta k tc) _ [Q2] rfl k HFl.out HO5.out w5.heap.size 1 1 rfl rfl (one_str w5 Q2) (by decide) (by omega) (by simp; omega) ?_); (intro g2 cap2 w9 hm2); (have hS9 := (HS5.out.step ((Below.refl _ _).alloc (Nat.le_refl _) (.cells #[.string Q2] 9))).more2 hm2); (rw [HFm.out, HFl.out] at hS9); (have HS9 := Lib.hid hS9); clear hm2 hS9)
                          go_roundw
                          case rel => exact ⟨k + 1, M5, by omega, by go_num, HS9.out⟩
                          case measure => simp [intOf]; omega
                      · have hq : ((k : Int) == (y7 : Int)) = false := by rw [beq_eq_false_iff_ne]; omega
                        clear hat
                        go_wp2_with fail
                        refine (HWt.out _ _ (Below.refl _ _) HQ.out).mono ?_
                        rintro e w5 ⟨rfl, hS5⟩
                        have HS5 := Lib.hid hS5
                        have ho5 := hS5.two.alloc (.cells #[.string Q] 9)
                        rw [firstK_len] at ho5
                        have HO5 := Lib.hid ho5
                        have hs5 := hS5.size
                        have HFm := Lib.hid (firstK_more M k Q HQ.out)
                        clear hS5 ho5
                        generalize M.wrote k (txtf Q) = M5 at *
                        go_wp2_with (at_builtin; (refine wpList_more_strs rfl _ _ rfl B (.slice ta k tc) _ [Q] rfl k HFl.out HO5.out w5.heap.size 1 1 rfl rfl (one_str w5 Q) (by decide) (by omega) (by simp; omega) ?_); (intro g2 cap2 w9 hm2); (have hS9 := (HS5.out.step ((Below.refl _ _).alloc (Nat.le_refl _) (.cells #[.string Q] 9))).more2 hm2); (rw [HFm.out, HFl.out] at hS9); (have HS9 := Lib.hid hS9); clear hm2 hS9)
                        go_roundw
                        case rel => exact ⟨k + 1, M5, by omega, by go_num, HS9.out⟩
                        case measure => simp [intOf]; omega
                · have j4 : ¬ (k : Int) < (AN : Int) := by omega
                  obtain rfl := HPP.out
                  clear HPP
                  go_wp2_with fail
                  generalize (⟨#[]⟩ : ByteArray) = P at *
                  have hP0 := HPs.out
                  go_loop [21] (fun s21 => ∃ j : Nat, P.size + j ≤ 64 ∧ s21 = .string (tail0 P j)) (fun s21 => 64 - lenOf s21)
                  case atStart => exact ⟨0, by omega, by rw [tail0_zero]⟩
                  case round =>
                    obtain ⟨j, hj, rfl⟩ := hrel
                    have HT := Lib.hid (tail0_succ P j)
                    have hz := tail0_size P j
                    have HZ := Lib.hid hz
                    generalize tail0 P j = Q at *
                    by_cases hlt2 : P.size + j < 64
                    · have hi : (Q.size : Int) < 64 := by omega
                      have hc : ∀ wx : World, (Op.stringOp .add Q ⟨#[0]⟩).run Try.prog wx = .ok (.string (Q ++ ⟨#[0]⟩)) wx := fun wx => run_string_add_sum wx Q _ (by show Q.size + 1 ≤ _; omega)
                      clear hz
                      go_wp2_with fail
                      go_round
                      case rel => exact ⟨j + 1, by omega, by rw [HT.out]⟩
                      case measure =>
                        show 64 - (Q ++ (⟨#[0]⟩ : ByteArray)).size < 64 - Q.size
                        rw [ByteArray.size_append]
                        show 64 - (Q.size + 1) < _
                        have := HZ.out
                        omega
                    · have HQ : Hid (Q.size = 64) := Lib.hid (by omega)
                      have hi : (Q.size : Int) = 64 := by omega
                      clear hz HT HZ hj hlt2
                      by_cases hat : k = y7
                      · have hq : ((k : Int) == (y7 : Int)) = true := by rw [hat]; simp
                        have u1 : (0 : Int) ≤ (x63 : Int) := by omega
                        have u2 : (x63 : Int) < 64 := by omega
                        have u3 : (x63 : Int) ≤ 64 := by omega
                        have hk : x63 < Q.size := by have := HQ.out; omega
                        have e1 : IntKind.i64.wrap ((x63 : Int) + 1) = ((x63 + 1 : Nat) : Int) := by rw [IntWalk.i64_in _ (by omega)]; omega
                        have u4 : (0 : Int) ≤ ((x63 + 1 : Nat) : Int) := by omega
                        have u5 : ((x63 + 1 : Nat) : Int) ≤ 64 := by omega
                        have u6 : (0 : Int) ≤ (x63 : Int) + 1 ∧ (x63 : Int) + 1 ≤ 64 := by omega
                        obtain ⟨b2, hb⟩ := xor8 (((Q[x63]'hk).toNat : Nat) : Int) wi
                        have hone := one_at ((wr.alloc (.cells #[.int .u8 (b2.toNat : Int)] 5)).drew) wr.heap.size b2 (boxNew rfl)
                        have hone2 := one_at (wr.drew.alloc (.cells #[.int .u8 (b2.toNat : Int)] 5)) wr.heap.size b2 (boxNew rfl)
                        have z1 : (Q.extract 0 x63).size = x63 := by rw [ByteArray.size_extract]; omega
                        have z2 : (Q.extract (x63 + 1) 64).size = 63 - x63 := by rw [ByteArray.size_extract, HQ.out]; omega
                        have hc1 : ∀ wx : World, (Op.stringOp .add (Q.extract 0 x63) ⟨#[b2]⟩).run Try.prog wx = .ok (.string (Q.extract 0 x63 ++ ⟨#[b2]⟩)) wx := fun wx => run_string_add_sum wx _ _ (by show _ + 1 ≤ _; omega)
                        have hc2 : ∀ wx : World, (Op.stringOp .add (Q.extract 0 x63 ++ ⟨#[b2]⟩) (Q.extract (x63 + 1) 64)).run Try.prog wx = .ok (.string (Q.extract 0 x63 ++ ⟨#[b2]⟩ ++ Q.extract (x63 + 1) 64)) wx := fun wx => run_string_add_sum wx _ _ (by rw [ByteArray.size_append]; show (Q.extract 0 x63).size + 1 + _ ≤ _; omega)
                        have HQ2 : Hid ((Q.extract 0 x63 ++ ⟨#[b2]⟩ ++ Q.extract (x63 + 1) Q.size).size = 64) := Lib.hid (by rw [HQ.out, ByteArray.size_append, ByteArray.size_append]; show (Q.extract 0 x63).size + 1 + _ = _; omega)
                        clear z1 z2 hat
                        go_upto_region 26 with fail
                        go_region
                        all_goals
                          clear hone hone2 hc1 hc2 e1 hb
                          have HB5 : Hid (Below wr.heap.size wr (wr.alloc (.cells #[.int .u8 (b2.toNat : Int)] 5)).drew) := Lib.hid ((Below.refl _ _).alloc (Nat.le_refl _) _).drew
                          generalize (wr.alloc (.cells #[.int .u8 (b2.toNat : Int)] 5)).drew = W5 at *
                          generalize Q.extract 0 x63 ++ ⟨#[b2]⟩ ++ Q.extract (x63 + 1) Q.size = Q2 at *
                          go_wp2_with fail
                          refine (HWt.out _ _ HB5.out HQ2.out).mono ?_
                          rintro e w5 ⟨rfl, hS5⟩
                          have HS5 := Lib.hid hS5
                          have ho5 := hS5.two.alloc (.cells #[.string Q2] 9)
                          rw [firstK_len] at ho5
                          have HO5 := Lib.hid ho5
                          have hs5 := hS5.size
                          have HFm := Lib.hid (firstK_more M k Q2 HQ2.out)
                          clear hS5 ho5
                          generalize M.wrote k (txtf Q2) = M5 at *
                          go_wp2_with (at_builtin; (refine wpList_more_strs rfl _ _ rfl B (.slice ta k tc) _ [Q2] rfl k HFl.out HO5.out w5.heap.size 1 1 rfl rfl (one_str w5 Q2) (by decide) (by omega) (by simp; omega) ?_); (intro g2 cap2 w9 hm2); (have hS9 := (HS5.out.step ((Below.refl _ _).alloc (Nat.le_refl _) (.cells #[.string Q2] 9))).more2 hm2); (rw [HFm.out, HFl.out] at hS9); (have HS9 := Lib.hid hS9); clear hm2 hS9)
                          go_roundw
                          case rel => exact ⟨k + 1, M5, by omega, by go_num, HS9.out⟩
                          case measure => simp [intOf]; omega
                      · have hq : ((k : Int) == (y7 : Int)) = false := by rw [beq_eq_false_iff_ne]; omega
                        clear hat
                        go_wp2_with fail
                        refine (HWt.out _ _ (Below.refl _ _) HQ.out).mono ?_
                        rintro e w5 ⟨rfl, hS5⟩
                        have HS5 := Lib.hid hS5
                        have ho5 := hS5.two.alloc (.cells #[.string Q] 9)
                        rw [firstK_len] at ho5
                        have HO5 := Lib.hid ho5
                        have hs5 := hS5.size
                        have HFm := Lib.hid (firstK_more M k Q HQ.out)
                        clear hS5 ho5
                        generalize M.wrote k (txtf Q) = M5 at *
                        go_wp2_with (at_builtin; (refine wpList_more_strs rfl _ _ rfl B (.slice ta k tc) _ [Q] rfl k HFl.out HO5.out w5.heap.size 1 1 rfl rfl (one_str w5 Q) (by decide) (by omega) (by simp; omega) ?_); (intro g2 cap2 w9 hm2); (have hS9 := (HS5.out.step ((Below.refl _ _).alloc (Nat.le_refl _) (.cells #[.string Q] 9))).more2 hm2); (rw [HFm.out, HFl.out] at hS9); (have HS9 := Lib.hid hS9); clear hm2 hS9)
                        go_roundw
                        case rel => exact ⟨k + 1, M5, by omega, by go_num, HS9.out⟩
                        case measure => simp [intOf]; omega
              · have i1 : ¬ (k : Int) < 8 := by omega
                obtain rfl : k = 8 := by omega
                have HNw := Lib.hid (ringNew_any p 0 8 ep wr)
                clear hlt
                go_wp2_with fail
                refine HNw.out.mono ?_
                rintro e w5 ⟨rfl, hr5, hb5⟩
                have HS5 := Lib.hid (HS.out.step hb5)
                have HSn := Lib.hid (lawScan_any wr.heap.size p 0 8 ep 0 M HS5.out.d HS5.out.live w5 hr5 HS5.out.at' (by rw [HS5.out.n]; decide) he)
                clear hr5 hb5 HNw HS
                generalize wr.heap.size = r5 at *
                go_wp2_with fail
                refine HSn.out.mono ?_
                rintro e w6 ⟨v, rfl, ho6, hb6⟩
                obtain ⟨_, ga, gc, rfl⟩ := rowOwn ho6
                have HG6 := Lib.hid (strs_own ho6)
                have HS6 := Lib.hid (HS5.out.step hb6)
                have ho2 := HS6.out.two
                rw [firstK_len] at ho2
                have HRs := Lib.hid (refScan_any ep 8 tc ta (fun i => sectB M (0 + i)) w6 he (by decide) (strs_own (l := firstK M 8) ho2))
                clear ho6 hb6 HS5 HSn ho2
                have hRl : (scanF ep (fun i => sectB M (0 + i)) 8 0 [] []).length ≤ 8 := by have := scanF_len ep (fun i => sectB M (0 + i)) 8 0 [] []; simpa using this
                generalize scanF ep (fun i => sectB M (0 + i)) 8 0 [] [] = R at *
                go_wp2_with fail
                refine HRs.out.mono ?_
                rintro e w7 ⟨v, rfl, ho7, hb7⟩
                obtain ⟨_, ha, hc, rfl⟩ := rowOwn ho7
                have HSm := Lib.hid (same_any w7 ga ha R.length R.length gc hc R R (HG6.out.below hb7) (strs_own ho7) (by omega) rfl)
                have HB7 := Lib.hid (HS6.out.below.trans (hb7.mono HS6.out.below.size))
                clear ho7 hb7 HRs HG6 HS6
                go_wp2_with fail
                refine HSm.out.mono ?_
                rintro e w8 ⟨rfl, hb8⟩
                have HB8 := Lib.hid (HB7.out.trans (hb8.mono HB7.out.size))
                clear hb8 HSm
                go_wp2_with fail
                go_ret
                exact ⟨rfl, HB8.out⟩
end Go.Proofs.Ytakngnigpncmkaa
