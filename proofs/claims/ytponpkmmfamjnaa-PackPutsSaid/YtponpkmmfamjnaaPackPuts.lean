/-
  PackPuts: for every two numbers of whatever sizes, every text and every length the law answers true.
-/
import Derived.Test.YtponpkmmfamjnaaPackPutsG
import Derived.Test.YtponpkmmfamjnaaCut
import Derived.Test.YtponpkmmfamjnaaBoxes
import Derived.Deep.RegionHeld3
import Derived.Deep.DeepCutAuto
namespace Go.Proofs.Ytponpkmmfamjnaa
open Go.RowKit

/-- the law's boxes: the sizes, the text, the length -/
structure Puts (w : World) (m n f : Int) (t : ByteArray) (W : World) : Prop where
  below : Below w.heap.size w W
  size : w.heap.size + 3 < W.heap.size
  cm : W.cell? ⟨w.heap.size, 0, none⟩ = some (.int .i64 m)
  cn : W.cell? ⟨w.heap.size + 1, 0, none⟩ = some (.int .i64 n)
  cs : W.cell? ⟨w.heap.size + 2, 0, none⟩ = some (.string t)
  cf : W.cell? ⟨w.heap.size + 3, 0, none⟩ = some (.int .i64 f)
theorem Puts.drew {w : World} {m n f : Int} {t : ByteArray} {W : World} (h : Puts w m n f t W) : Puts w m n f t W.drew := ⟨h.below.drew, h.size, h.cm, h.cn, h.cs, h.cf⟩
theorem Puts.out {w : World} {m n f : Int} {t : ByteArray} {x : Nat} {v : Value} {l k : List UInt8} {W W' : World} (h : Puts w m n f t W) (hx : w.heap.size + 3 < x) (hO : OutAt (x + 1) x v l W) (hT : OutTo (x + 1) x v k W W')
    (grew : ∀ {S : Nat → Prop} {W W' : World}, Puts w m n f t W → Grew S W W' → (∀ k, S k → w.heap.size + 3 < k) → Puts w m n f t W') : ∃ v', Hid (OutAt (x + 1) x v' k W') ∧ Hid (Puts w m n f t W') := by
  obtain ⟨v', h1, _, g⟩ := hT
  exact ⟨v', h1, grew h g fun j hj => by have := outs_own hO j hj; omega⟩
theorem OutAt.drew {B o : Nat} {v : Value} {l : List UInt8} {W : World} (h : OutAt B o v l W) : OutAt B o v l W.drew := ⟨h.lt, h.base, h.cell, h.frozen, h.row⟩
theorem Puts.grew {w : World} {m n f : Int} {t : ByteArray} {S : Nat → Prop} {W W' : World} (h : Puts w m n f t W) (g : Grew S W W') (hS : ∀ k, S k → w.heap.size + 3 < k) : Puts w m n f t W' := by
  have h1 := h.size
  have c : ∀ j, j ≤ 3 → ¬ S (w.heap.size + j) := fun j hj hs => by have := hS _ hs; omega
  have g1 := g.size
  exact ⟨g.below h.below (by omega) (fun k hk => by have := hS k hk; omega), by omega, by rw [g.cell (by show w.heap.size < _; omega) (c 0 (by omega))]; exact h.cm, by rw [g.cell (by show w.heap.size + 1 < _; omega) (c 1 (by omega))]; exact h.cn,
    by rw [g.cell (by show w.heap.size + 2 < _; omega) (c 2 (by omega))]; exact h.cs, by rw [g.cell (by show w.heap.size + 3 < _; omega) (c 3 (by omega))]; exact h.cf⟩

theorem puts_start {w W w1 : World} {m n f : Int} {t : ByteArray} {t0 t1 t2 t3 : TypeId} (h : (((w.alloc (.cells #[.int .i64 m] t0)).alloc (.cells #[.int .i64 n] t1)).alloc (.cells #[.string t] t2)).alloc (.cells #[.int .i64 f] t3) = W) (hb : Below W.heap.size W w1) : Puts w m n f t w1 := by
  obtain ⟨s, ⟨c0, c1, c2, c3⟩, _⟩ := box4 h
  have hs := hb.size
  have hbel : Below w.heap.size w W := by rw [← h]; exact boxBelow4 _ _ _ _
  exact ⟨hbel.trans (hb.mono (by omega)), by omega, by rw [hb.cell (by show w.heap.size < _; omega)]; exact c0, by rw [hb.cell (by show w.heap.size + 1 < _; omega)]; exact c1, by rw [hb.cell (by show w.heap.size + 2 < _; omega)]; exact c2, by rw [hb.cell (by show w.heap.size + 3 < _; omega)]; exact c3⟩
theorem enc_again (a k : Nat) : enc (num (enc a k)) k = enc a k := by
  have hl := num_lt (enc a k)
  rw [enc_len] at hl
  have h := num_eq (enc (num (enc a k)) k) (enc a k) (by rw [enc_len, enc_len])
  have e : num (enc (num (enc a k)) k) = num (enc a k) := by rw [num_enc k (num (enc a k)), Nat.mod_eq_of_lt hl]
  rw [e] at h
  simpa using h
theorem num_u64 (a : Nat) (m : Int) : num (enc a (wid m)) < 18446744073709551616 := by
  have h := num_lt (enc a (wid m))
  rw [enc_len] at h
  have h2 : 256 ^ wid m ≤ 256 ^ 8 := Nat.pow_le_pow_right (by decide) (wid_bd m).2
  omega
set_option maxRecDepth 100000 in
set_option maxHeartbeats 4000000 in
theorem packPuts_walk (a b : Nat) (m n : Int) (s : ByteArray) (fill : Int) (ha : a < 18446744073709551616) (hb : b < 18446744073709551616) (hs : s.size ≤ maxLen) (w : World) :
    Calls Try.prog 4 #[.int .u64 a, .int .u64 b, .int .i64 m, .int .i64 n, .string s, .int .i64 fill] w fun e w' => e = .returned (.bool true) ∧ Below w.heap.size w w' := by
  obtain ⟨t, ht, hcut⟩ := cut_law s 60 hs (by omega)
  have HCut := Lib.hid hcut
  have HA := Lib.hid ha
  have HB := Lib.hid hb
  clear hcut hs ha hb
  obtain ⟨f, hf⟩ : ∃ f, min fill 200 = f := ⟨_, rfl⟩
  have hf2 : f ≤ 200 := by omega
  have hf3 : (200 < fill ∧ f = 200) ∨ (¬ 200 < fill ∧ f = fill) := by omega
  have HF := Lib.hid hf3
  clear hf hf3
  go_enter Try.func4, Try.ntmps4
  go_upto_region 3 with (go_at_call 11; refine (HCut.out _).mono ?_; rintro e w' ⟨rfl, rfl⟩)
  go_cut [26] (fun c wx => c = .bool false ∧ Puts w m n f t wx)
  case first =>
    rcases HF.out with ⟨h1, rfl⟩ | ⟨h1, rfl⟩
    all_goals
      go_wp2_with fail
      refine (packAwake_any _).mono ?_
      rintro e w1 ⟨rfl, hb1⟩
      go_wp2_with fail
      go_meet
      exact ⟨rfl, puts_start rfl hb1⟩
  case rest =>
    obtain ⟨rfl, hP⟩ := hcut
    have cm := hP.cm
    have cn := hP.cn
    have cs := hP.cs
    have hsz := hP.size
    have HP := Lib.hid hP
    clear hP HCut
    go_wp2_with fail
    have HO := Lib.hid (outNew wc)
    have HW : Hid (Puts w m n f t (wc.alloc (.cells #[.slice none 0 0] 43))) := Lib.hid (HP.out.grew (S := fun _ => False) ((Grew.refl wc).alloc _) (fun _ x => x.elim))
    obtain ⟨W0, hW0⟩ : ∃ W0, wc.alloc (.cells #[.slice none 0 0] 43) = W0 := ⟨_, rfl⟩
    rw [hW0] at HO HW ⊢
    obtain ⟨x, hx⟩ : ∃ x, wc.heap.size = x := ⟨_, rfl⟩
    rw [hx] at HO hsz ⊢
    have hx3 : w.heap.size + 3 < x := hsz
    clear hx hW0 HP cm cn cs
    have HK : Hid (∀ wx : World, Puts w m n f t wx → wx.cell? ⟨w.heap.size, 0, none⟩ = some (.int .i64 m) ∧ wx.cell? ⟨w.heap.size + 1, 0, none⟩ = some (.int .i64 n) ∧ wx.cell? ⟨w.heap.size + 1 + 1, 0, none⟩ = some (.string t)) := Lib.hid fun wx h => ⟨h.cm, h.cn, h.cs⟩
    go_cut [] (fun wx => Puts w m n f t wx ∧ ∃ v, OutAt (x + 1) x v (enc a (wid m) ++ t.data.toList ++ enc b (wid n)) wx)
    case first =>
      go_region_held3 (fun wx => wx.cell? ⟨w.heap.size, 0, none⟩ = some (.int .i64 m) ∧ wx.cell? ⟨w.heap.size + 1, 0, none⟩ = some (.int .i64 n) ∧ wx.cell? ⟨w.heap.size + 1 + 1, 0, none⟩ = some (.string t))
        (first | exact HK.out _ HW.out.drew | exact HK.out _ HP1.out | exact HK.out _ HP2.out | exact HK.out _ HP3.out)
        (first
          | (go_at_call 23; (with_reducible refine (outNum_any (x + 1) x (.slice none 0 0) [] a m W0.drew HO.out.drew (by decide)).mono ?_); rintro e w1 ⟨rfl, T1⟩; (obtain ⟨v1, HO1, HP1⟩ := HW.out.drew.out hx3 HO.out.drew T1 Puts.grew); clear T1)
          | (go_at_call 24; (with_reducible refine (outText_any (x + 1) x v1 _ t w1 HO1.out ?_).mono ?_); (focus (simp [enc_len]; have := wid_bd m; omega)); rintro e w2 ⟨rfl, T2⟩; (obtain ⟨v2, HO2, HP2⟩ := HP1.out.out hx3 HO1.out T2 Puts.grew); clear T2)
          | (go_at_call 23; (with_reducible refine (outNum_any (x + 1) x v2 _ b n w2 HO2.out ?_).mono ?_); (focus (simp [enc_len]; have := wid_bd m; omega)); rintro e w3 ⟨rfl, T3⟩; (obtain ⟨v3, HO3, HP3⟩ := HP2.out.out hx3 HO2.out T3 Puts.grew); clear T3))
      go_wp2_with fail
      go_meet
      exact ⟨HP3.out, v3, HO3.out⟩
    case rest =>
      obtain ⟨hP, v, hO⟩ := hcut
      clear HO HW W0
      have HP := Lib.hid hP
      have HO := Lib.hid hO
      clear hP hO
      obtain ⟨SA, hSA⟩ : ∃ SA, mk (enc a (wid m)) = SA := ⟨_, rfl⟩
      obtain ⟨SB, hSB⟩ : ∃ SB, mk (enc b (wid n)) = SB := ⟨_, rfl⟩
      have zA : SA.size ≤ 8 := by rw [← hSA, mk_size, enc_len]; exact (wid_bd m).2
      have zB : SB.size ≤ 8 := by rw [← hSB, mk_size, enc_len]; exact (wid_bd n).2
      have HRA : Hid (∀ wx : World, Calls Try.prog 25 #[.int .u64 a, .int .i64 m] wx fun e w' => e = .returned (.string SA) ∧ Below wx.heap.size wx w') := Lib.hid fun wx => by rw [← hSA]; exact refNum_any a m wx HA.out
      have HRB : Hid (∀ wx : World, Calls Try.prog 25 #[.int .u64 b, .int .i64 n] wx fun e w' => e = .returned (.string SB) ∧ Below wx.heap.size wx w') := Lib.hid fun wx => by rw [← hSB]; exact refNum_any b n wx HB.out
      have HL : Hid (SA ++ t ++ SB = mk (enc a (wid m) ++ t.data.toList ++ enc b (wid n))) := Lib.hid (by
        rw [← hSA, ← hSB]
        apply ByteArray.ext
        simp [mk, ByteArray.data_append])
      have HSA := Lib.hid hSA
      have HSB := Lib.hid hSB
      clear hSA hSB
      have zt : (SA ++ t).size ≤ 68 := by rw [ByteArray.size_append]; omega
      have hc1 : ∀ wx : World, (Op.stringOp .add SA t).run Try.prog wx = .ok (.string (SA ++ t)) wx := fun wx => run_string_add_sum wx SA t (by omega)
      have hc2 : ∀ wx : World, (Op.stringOp .add (SA ++ t) SB).run Try.prog wx = .ok (.string (SA ++ t ++ SB)) wx := fun wx => run_string_add_sum wx (SA ++ t) SB (by omega)
      go_wp2_with fail
      go_cut [14] (fun s14 wx => s14 = .string (SA ++ t ++ SB) ∧ Puts w m n f t wx ∧ OutAt (x + 1) x v (enc a (wid m) ++ t.data.toList ++ enc b (wid n)) wx)
      case first =>
        go_region_held3 (fun wx => wx.cell? ⟨w.heap.size, 0, none⟩ = some (.int .i64 m) ∧ wx.cell? ⟨w.heap.size + 1, 0, none⟩ = some (.int .i64 n) ∧ wx.cell? ⟨w.heap.size + 1 + 1, 0, none⟩ = some (.string t))
          (first | exact HK.out _ HP.out.drew | exact HK.out _ HP1.out | exact HK.out _ HP2.out)
          (first
            | (go_at_call 25; (with_reducible refine (HRA.out _).mono ?_); rintro e w1 ⟨rfl, hb1⟩; (have HP1 := Lib.hid (HP.out.drew.grew (Grew.of_below (S := fun _ => False) hb1) (fun _ x => x.elim))); (have HO1 := Lib.hid (HO.out.drew.kept (Grew.of_below (S := fun _ => False) hb1) (fun x => x) (fun _ _ x => x))); clear hb1)
            | (go_at_call 25; (with_reducible refine (HRB.out _).mono ?_); rintro e w2 ⟨rfl, hb2⟩; (have HP2 := Lib.hid (HP1.out.grew (Grew.of_below (S := fun _ => False) hb2) (fun _ x => x.elim))); (have HO2 := Lib.hid (HO1.out.kept (Grew.of_below (S := fun _ => False) hb2) (fun x => x) (fun _ _ x => x))); clear hb2))
        go_wp2_with fail
        go_meet
        exact ⟨rfl, HP2.out, HO2.out⟩
      case rest =>
        obtain ⟨rfl, hP, hO⟩ := hcut
        clear HP HO hc1 hc2
        have HP := Lib.hid hP
        have HO := Lib.hid hO
        have cf := hP.cf
        clear hP hO
        have hLen : (SA ++ t ++ SB).size = (enc a (wid m) ++ t.data.toList ++ enc b (wid n)).length := by rw [HL.out, mk_size]
        have hLe : (enc a (wid m) ++ t.data.toList ++ enc b (wid n)).length ≤ 76 := by
          rw [List.length_append, List.length_append, enc_len, enc_len]
          have := (wid_bd m).2
          have := (wid_bd n).2
          have : t.data.toList.length = t.size := by simp
          omega
        have hG : ∀ k : Nat, mk (enc a (wid m) ++ (t.data.toList ++ (enc b (wid n) ++ List.replicate k 0))) = mk ((enc a (wid m) ++ t.data.toList ++ enc b (wid n)) ++ List.replicate k 0) := fun k => by
          congr 1
          simp [List.append_assoc]
        have HGG := Lib.hid hG
        clear hG
        obtain ⟨L, hL⟩ : ∃ L, enc a (wid m) ++ t.data.toList ++ enc b (wid n) = L := ⟨_, rfl⟩
        rw [hL] at HO HL hLen hLe HGG
        have HBy : Hid (∀ wx : World, ∀ v : Value, OutAt (x + 1) x v L wx → Calls Try.prog 26 #[.pointer (some ⟨x, 0, none⟩)] wx fun e w' => e = .returned (.string (SA ++ t ++ SB)) ∧ wx = w') := Lib.hid fun wx v h => by rw [HL.out]; exact outBytes_any (x + 1) x v L wx h
        generalize SA ++ t ++ SB = Sw at *
        have HLen := Lib.hid hLen
        have hSz : Sw.size ≤ 76 := by omega
        clear hLen
        go_wp2_with fail
        refine (HBy.out _ v HO.out).mono ?_
        rintro e w' ⟨rfl, rfl⟩
        go_wp2_with fail
        by_cases hbig : f < L.length
        · refine (guard_big (x + 1) x (w.heap.size + 3) v L f _ HO.out cf hbig).mono ?_
          rintro e w4 ⟨rfl, g4⟩
          have HO4 := Lib.hid (HO.out.kept g4 (fun x => x) (fun _ _ x => x))
          have HP4 := Lib.hid (HP.out.grew g4 (fun _ x => x.elim))
          have cf4 : w4.cell? ⟨w.heap.size + 1 + 1 + 1, 0, none⟩ = some (.int .i64 f) := HP4.out.cf
          have hlt : f < (Sw.size : Int) := by rw [HLen.out]; exact hbig
          clear g4 HP HO
          go_wp2_with fail
          refine (HBy.out _ v HO4.out).mono ?_
          rintro e w' ⟨rfl, rfl⟩
          go_wp2
          go_ret
          exact ⟨rfl, HP4.out.below⟩
        · refine (guard_fill (x + 1) x (w.heap.size + 3) v L f _ HO.out cf (by omega) (by omega)).mono ?_
          rintro e w4 ⟨rfl, T4⟩
          obtain ⟨v4, HO4, HP4⟩ := HP.out.out hx3 HO.out T4 Puts.grew
          have cf4 : w4.cell? ⟨w.heap.size + 1 + 1 + 1, 0, none⟩ = some (.int .i64 f) := HP4.out.cf
          have hlt : ¬ f < (Sw.size : Int) := by rw [HLen.out]; exact hbig
          clear T4 HP HO
          go_wp2_with fail
          refine (outBytes_any (x + 1) x v4 _ w4 HO4.out).mono ?_
          rintro e w' ⟨rfl, rfl⟩
          go_wp2_with fail
          obtain ⟨k, hk⟩ : ∃ k, f.toNat - L.length = k := ⟨_, rfl⟩
          rw [hk] at HO4 ⊢
          have hkf : (L.length : Int) + k = f := by omega
          have hk2 : k < 1000 := by omega
          obtain ⟨W5, hW5⟩ : ∃ W5, (((w4.alloc (.cells #[.string ⟨(L ++ List.replicate k 0).toArray⟩] 9)).alloc (.cells #[.int .u64 0] 31)).alloc (.cells #[.int .u64 0] 31)).alloc (.cells #[.string ⟨#[]⟩] 9) = W5 := ⟨_, rfl⟩
          obtain ⟨z5, ⟨c0, c1, c2, c3⟩, d0, d1, d2, d3⟩ := box4 hW5
          have hP5 : Puts w m n f t W5 := HP4.out.grew (S := fun _ => False) (by rw [← hW5]; exact ((((Grew.refl w4).alloc _).alloc _).alloc _).alloc _) (fun _ x => x.elim)
          have hs4 := HP4.out.size
          have cg : W5.cell? ⟨w4.heap.size, 0, none⟩ = some (.string (mk (enc a (wid m) ++ (t.data.toList ++ (enc b (wid n) ++ List.replicate k 0))))) := by rw [HGG.out k]; exact c0
          have HR := Lib.hid (guard_puts2 w4.heap.size w.heap.size (w.heap.size + 2) (w.heap.size + 1) (w4.heap.size + 1) (w4.heap.size + 3) (w4.heap.size + 2) (enc a (wid m)) t.data.toList (enc b (wid n)) k m n W5
            (enc_len _ _) (enc_len _ _) hk2 cg hP5.cm (by rw [mk_of]; exact hP5.cs) hP5.cn c1 d1 c3 d3 c2 d2 (by omega) (by omega) (by omega) (by omega) (by omega) (by omega))
          have HP5 := Lib.hid hP5
          clear hP5 cg c1 c2 c3 d0 d1 d2 d3
          rw [hW5]
          have HW5 := Lib.hid hW5
          clear hW5
          refine HR.out.mono ?_
          rintro e w6 ⟨rfl, hT⟩
          have HP6 := Lib.hid (HP5.out.grew hT.grew (fun j hj => by omega))
          have cG : w6.cell? ⟨w4.heap.size, 0, none⟩ = some (.string ⟨(L ++ List.replicate k 0).toArray⟩) := by rw [hT.grew.cell (by show w4.heap.size < _; omega) (by show ¬ _; simp)]; exact c0
          have cX := hT.cx
          have cT : w6.cell? ⟨w4.heap.size + 1 + 1 + 1, 0, none⟩ = some (.string t) := by rw [← mk_of t]; exact hT.ct
          have cY : w6.cell? ⟨w4.heap.size + 1 + 1, 0, none⟩ = some (.int .u64 (num (enc b (wid n)))) := hT.cy
          have cM := HP6.out.cm
          have cN := HP6.out.cn
          have cS : w6.cell? ⟨w.heap.size + 1 + 1, 0, none⟩ = some (.string t) := HP6.out.cs
          have cF : w6.cell? ⟨w.heap.size + 1 + 1 + 1, 0, none⟩ = some (.int .i64 f) := HP6.out.cf
          clear hT c0 HR HO4 HP4 cf4 cf
          have HXA : Hid (∀ wx : World, Calls Try.prog 25 #[.int .u64 (num (enc a (wid m))), .int .i64 m] wx fun e w' => e = .returned (.string SA) ∧ Below wx.heap.size wx w') := Lib.hid fun wx => by
            have h := refNum_any (num (enc a (wid m))) m wx (num_u64 a m)
            rw [enc_again] at h
            rw [← HSA.out]
            exact h
          have HYB : Hid (∀ wx : World, Calls Try.prog 25 #[.int .u64 (num (enc b (wid n))), .int .i64 n] wx fun e w' => e = .returned (.string SB) ∧ Below wx.heap.size wx w') := Lib.hid fun wx => by
            have h := refNum_any (num (enc b (wid n))) n wx (num_u64 b n)
            rw [enc_again] at h
            rw [← HSB.out]
            exact h
          obtain ⟨G, hG⟩ : ∃ G : ByteArray, ⟨(L ++ List.replicate k 0).toArray⟩ = G := ⟨_, rfl⟩
          have hGs : (G.size : Int) = f := by rw [← hG]; show (((L ++ List.replicate k 0).toArray.size : Nat) : Int) = f; simp; omega
          have hGe : G.extract 0 Sw.size = Sw := by rw [← hG, HLen.out, HL.out]; exact mk_head L _ _ rfl
          rw [hG] at cG
          have hGw : Sw.size ≤ G.size := by have := HLen.out; omega
          have hb1 : ((G.size : Int) == f) = true := by simp [hGs]
          have hs6 : w4.heap.size + 3 < w6.heap.size := cell_lt cT
          have HKK : Hid (∀ wx : World, Below w6.heap.size w6 wx → wx.cell? ⟨w.heap.size, 0, none⟩ = some (.int .i64 m) ∧ wx.cell? ⟨w.heap.size + 1, 0, none⟩ = some (.int .i64 n) ∧ wx.cell? ⟨w.heap.size + 1 + 1, 0, none⟩ = some (.string t) ∧ wx.cell? ⟨w.heap.size + 1 + 1 + 1, 0, none⟩ = some (.int .i64 f) ∧
              wx.cell? ⟨w4.heap.size, 0, none⟩ = some (.string G) ∧ wx.cell? ⟨w4.heap.size + 1, 0, none⟩ = some (.int .u64 (num (enc a (wid m)))) ∧ wx.cell? ⟨w4.heap.size + 1 + 1, 0, none⟩ = some (.int .u64 (num (enc b (wid n)))) ∧ wx.cell? ⟨w4.heap.size + 1 + 1 + 1, 0, none⟩ = some (.string t)) := Lib.hid fun wx h =>
            ⟨by rw [h.cell (by show w.heap.size < _; omega)]; exact cM, by rw [h.cell (by show w.heap.size + 1 < _; omega)]; exact cN, by rw [h.cell (by show w.heap.size + 2 < _; omega)]; exact cS, by rw [h.cell (by show w.heap.size + 3 < _; omega)]; exact cF,
              by rw [h.cell (by show w4.heap.size < _; omega)]; exact cG, by rw [h.cell (by show w4.heap.size + 1 < _; omega)]; exact cX, by rw [h.cell (by show w4.heap.size + 2 < _; omega)]; exact cY, by rw [h.cell (by show w4.heap.size + 3 < _; omega)]; exact cT⟩
          generalize num (enc a (wid m)) = XA at *
          generalize num (enc b (wid n)) = YB at *
          go_wp2_with fail
          go_region_held3 (fun wx => wx.cell? ⟨w.heap.size, 0, none⟩ = some (.int .i64 m) ∧ wx.cell? ⟨w.heap.size + 1, 0, none⟩ = some (.int .i64 n) ∧ wx.cell? ⟨w.heap.size + 1 + 1, 0, none⟩ = some (.string t) ∧ wx.cell? ⟨w.heap.size + 1 + 1 + 1, 0, none⟩ = some (.int .i64 f) ∧
              wx.cell? ⟨w4.heap.size, 0, none⟩ = some (.string G) ∧ wx.cell? ⟨w4.heap.size + 1, 0, none⟩ = some (.int .u64 XA) ∧ wx.cell? ⟨w4.heap.size + 1 + 1, 0, none⟩ = some (.int .u64 YB) ∧ wx.cell? ⟨w4.heap.size + 1 + 1 + 1, 0, none⟩ = some (.string t))
            (first | exact ⟨cM, cN, cS, cF, cG, cX, cY, cT⟩ | exact HKK.out _ HB7.out | exact HKK.out _ HB8.out | exact HKK.out _ HB9.out | exact HKK.out _ HB10.out)
            (first
              | (go_at_call 25; (with_reducible refine (HXA.out _).mono ?_); rintro e w7 ⟨rfl, hb7⟩; (have HB7 : Hid (Below w6.heap.size w6 w7) := Lib.hid ((Below.refl _ _).drew.trans hb7)); clear hb7)
              | (go_at_call 25; (with_reducible refine (HRA.out _).mono ?_); rintro e w8 ⟨rfl, hb8⟩; (have HB8 : Hid (Below w6.heap.size w6 w8) := Lib.hid (HB7.out.trans (hb8.mono HB7.out.size))); clear hb8)
              | (go_at_call 25; (with_reducible refine (HYB.out _).mono ?_); rintro e w9 ⟨rfl, hb9⟩; (have HB9 : Hid (Below w6.heap.size w6 w9) := Lib.hid (HB8.out.trans (hb9.mono HB8.out.size))); clear hb9)
              | (go_at_call 25; (with_reducible refine (HRB.out _).mono ?_); rintro e w10 ⟨rfl, hb10⟩; (have HB10 : Hid (Below w6.heap.size w6 w10) := Lib.hid (HB9.out.trans (hb10.mono HB9.out.size))); clear hb10))
          go_wp2
          go_ret
          exact ⟨rfl, HP6.out.below.trans (HB10.out.mono HP6.out.below.size)⟩
end Go.Proofs.Ytponpkmmfamjnaa
