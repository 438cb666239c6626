/-
  The document's frames of a record, and its Scan: contracts.
-/
import Derived.Test.YtakngnigpncmkaaStrRows
namespace Go.Proofs.Ytakngnigpncmkaa
open Go.RowKit

set_option maxRecDepth 10000 in
set_option maxHeartbeats 4000000 in
theorem refFrames_any (ep k : Nat) (x1 : Int) (hx1 : x1 = (k : Int) + 1) (t : ByteArray) (w : World) (he : ep < 4294967296) (hk : k < 1000000) (ht : t.size < 100000) :
    Calls Try.prog 44 #[.int .u32 ep, .int .i64 x1, .string t] w fun e w' => ∃ v, e = .returned v ∧ w'.ownsRow w.heap.size 9 1 v (costOf t.size) (textsOf ((List.range (costOf t.size)).map (recFrame ep k t))) ∧ Below w.heap.size w w' := by
  obtain ⟨d, hd, d0, d1, d2⟩ := cost_pos t.size
  have HF : Hid (∀ i x wx, i < d → x = ((k + i + 1 : Nat) : Int) → Calls Try.prog 70 #[.int .u32 ep, .int .u32 x, .string (⟨#[0]⟩ ++ (t.extract (46 * i) t.size).extract 0 46)] wx fun e w' => e = .returned (.string (recFrame ep k t i)) ∧ Below wx.heap.size wx w') := Lib.hid fun i x wx hi hx => by
    subst hx
    rw [cut_cut]
    have e0 : recFrame ep k t i = ringFrame ep (k + i) 0 (t.extract (46 * i) (46 * i + 46)) := by unfold recFrame; rw [hd, if_neg (by omega)]
    rw [e0]
    exact refFrame_any ep (k + i + 1) _ wx he (by omega) (ring_text _ _ (part_size t i))
  have HFl : Hid (∀ x wx, x = ((k + d + 1 : Nat) : Int) → Calls Try.prog 70 #[.int .u32 ep, .int .u32 x, .string (⟨#[1]⟩ ++ t.extract (46 * d) t.size)] wx fun e w' => e = .returned (.string (recFrame ep k t d)) ∧ Below wx.heap.size wx w') := Lib.hid fun x wx hx => by
    subst hx
    rw [cut_end t (46 * d) (46 * d + 46) d1]
    have e0 : recFrame ep k t d = ringFrame ep (k + d) 1 (t.extract (46 * d) (46 * d + 46)) := by unfold recFrame; rw [hd, if_pos rfl]
    rw [e0]
    exact refFrame_any ep (k + d + 1) _ wx he (by omega) (ring_text _ _ (part_size t d))
  rw [hd]
  clear hd
  have h0 : t.extract (46 * 0) t.size = t := by simp
  have HZ : Hid (∀ i, (t.extract (46 * i) t.size).size = t.size - 46 * i) := Lib.hid fun i => by rw [ByteArray.size_extract]; omega
  have HR : Hid (∀ i, (t.extract (46 * i) t.size).extract 46 (t.extract (46 * i) t.size).size = t.extract (46 * (i + 1)) t.size) := Lib.hid fun i => by rw [cut_rest]; rfl
  generalize hT : (fun i => t.extract (46 * i) t.size) = T at *
  have HT : Hid (∀ i, t.extract (46 * i) t.size = T i) := Lib.hid fun i => by rw [← hT]
  clear hT
  simp only [HT.out] at HF HFl HZ HR h0
  generalize hFF : recFrame ep k t = F at *
  clear hFF HT
  have HX1 := Lib.hid hx1
  have x1a : 0 ≤ x1 := by omega
  have x1b : x1 ≤ 1000000 := by omega
  clear hx1
  go_enter Try.func44, Try.ntmps44
  go_wp2_with fail
  have hO0 := own_none w
  have hB0 : Below w.heap.size w (w.alloc (.cells #[] 9)) := (Below.refl _ _).alloc (Nat.le_refl _) _
  generalize w.alloc (.cells #[] 9) = W at *
  go_loopw [2, 7] (fun s v wx => ∃ i : Nat, i ≤ d ∧ s = .string (T i) ∧ wx.ownsRow w.heap.size 9 1 v i (textsOf ((List.range i).map F)) ∧ Below w.heap.size w wx) (fun s _ _ => lenOf s)
  case atStart => exact ⟨0, by omega, by rw [h0], hO0, hB0⟩
  case round =>
    obtain ⟨i, hi, rfl, ho, hB⟩ := hrel
    obtain ⟨_, va, vc, rfl⟩ := rowOwn ho
    have HO := Lib.hid ho
    have HB := Lib.hid hB
    have hz := HZ.out i
    have HZi := Lib.hid hz
    clear ho hB hO0 hB0
    by_cases hlt : i < d
    · have i1 : (46 : Int) < ((T i).size : Int) := by have := d2 i hlt; omega
      have i2 : (46 : Int) ≤ ((T i).size : Int) := by omega
      have e1 : IntKind.u32.wrap (x1 + (i : Int)) = ((k + i + 1 : Nat) : Int) := by rw [HX1.out, show (k : Int) + 1 + (i : Int) = ((k + i + 1 : Nat) : Int) by omega]; exact wrap_u32 _ (by omega)
      have hx : ((T i).extract 0 46).size = 46 := by rw [ByteArray.size_extract]; omega
      have hc : ∀ wx : World, (Op.stringOp .add ⟨#[0]⟩ ((T i).extract 0 46)).run Try.prog wx = .ok (.string (⟨#[0]⟩ ++ (T i).extract 0 46)) wx := fun wx => run_string_add_sum wx _ _ (by show 1 + _ ≤ _; omega)
      have HRest := HR.out i
      have hrest := Lib.hid HRest
      clear HRest
      have HFi := Lib.hid fun x wx hx => HF.out i x wx hlt hx
      clear hx hz
      go_wp2_with (first
        | (go_at_call 70; (refine (HFi.out _ _ (by omega)).mono ?_); rintro e w1 ⟨rfl, hb1⟩; (have HO1 := Lib.hid (own_below HO.out hb1)); (have HB1 := Lib.hid (HB.out.trans (hb1.mono HB.out.size))); (have hs1 := HB1.out.size); clear hb1)
        | (at_builtin; (refine wpList_more_strs rfl _ _ rfl w.heap.size _ _ [F i] rfl i (by simp) (HO1.out.alloc (.cells #[.string (F i)] 9)) w1.heap.size 1 1 rfl rfl (one_str w1 (F i)) (by decide) (by omega) (by simp; omega) ?_); (intro g cap w3 hm); (have HM := Lib.hid hm); (have HB3 := Lib.hid (hm.below (HB1.out.alloc HB1.out.size _) (HO1.out.alloc (.cells #[.string (F i)] 9)) (Nat.le_refl _) (by simp; omega))); clear hm))
      go_roundw
      case rel => exact ⟨i + 1, by omega, by rw [hrest.out], by have := HM.out.own; rw [List.range_succ]; simpa using this, HB3.out⟩
      case measure =>
        show (T i |>.extract 46 (T i).size).size < (T i).size
        rw [hrest.out, HZ.out, HZi.out]
        have := d2 i hlt
        omega
    · obtain rfl : i = d := by omega
      have i1 : ¬ (46 : Int) < ((T i).size : Int) := by omega
      have e1 : IntKind.u32.wrap (x1 + (i : Int)) = ((k + i + 1 : Nat) : Int) := by rw [HX1.out, show (k : Int) + 1 + (i : Int) = ((k + i + 1 : Nat) : Int) by omega]; exact wrap_u32 _ (by omega)
      have hc : ∀ wx : World, (Op.stringOp .add ⟨#[1]⟩ (T i)).run Try.prog wx = .ok (.string (⟨#[1]⟩ ++ T i)) wx := fun wx => run_string_add_sum wx _ _ (by show 1 + _ ≤ _; omega)
      clear hz
      go_wp2_with (first
        | (go_at_call 70; (refine (HFl.out _ _ (by omega)).mono ?_); rintro e w1 ⟨rfl, hb1⟩; (have HO1 := Lib.hid (own_below HO.out hb1)); (have HB1 := Lib.hid (HB.out.trans (hb1.mono HB.out.size))); (have hs1 := HB1.out.size); clear hb1)
        | (at_builtin; (refine wpList_more_strs rfl _ _ rfl w.heap.size _ _ [F i] rfl i (by simp) (HO1.out.alloc (.cells #[.string (F i)] 9)) w1.heap.size 1 1 rfl rfl (one_str w1 (F i)) (by decide) (by omega) (by simp; omega) ?_); (intro g cap w3 hm); (have HM := Lib.hid hm); (have HB3 := Lib.hid (hm.below (HB1.out.alloc HB1.out.size _) (HO1.out.alloc (.cells #[.string (F i)] 9)) (Nat.le_refl _) (by simp; omega))); clear hm))
      go_ret
      exact ⟨_, rfl, by have := HM.out.own; rw [List.range_succ]; simpa using this, HB3.out⟩
theorem add_rest (rec : List UInt8) (T : ByteArray) : (⟨rec.toArray⟩ : ByteArray) ++ T.extract 1 T.size = ⟨(rec ++ restB T).toArray⟩ := by
  apply ByteArray.ext
  apply Array.toList_inj.mp
  simp [ByteArray.data_append, restB]
set_option maxRecDepth 10000 in
set_option maxHeartbeats 4000000 in
theorem refScan_any (ep n c : Nat) (a : Option Addr) (X : Nat → ByteArray) (w : World) (he : ep < 4294967296) (hn : n < 1000) (hX : StrsAt w a n ((List.range n).map X)) :
    Calls Try.prog 50 #[.int .u32 ep, .slice a n c] w fun e w' => ∃ v, e = .returned v ∧ w'.ownsRow w.heap.size 9 1 v (scanF ep X n 0 [] []).length (textsOf (scanF ep X n 0 [] [])) ∧ Below w.heap.size w w' := by
  have HX := Lib.hid hX
  clear hX
  have HOp : Hid (∀ (k : Nat) s wx, k < n → Calls Try.prog 82 #[.int .u32 ep, .int .u32 ((k + 1 : Nat) : Int), .string s] wx fun e w' =>
      (isFrame ep (k + 1) s → e = .returned (.tuple #[.string (textIn s), .bool true])) ∧ (¬ isFrame ep (k + 1) s → e = .returned (.tuple #[.string ⟨#[]⟩, .bool false])) ∧ Below wx.heap.size wx w') :=
    Lib.hid fun k s wx hk => refOpen_any ep (k + 1) s wx he (by omega)
  obtain ⟨R, hR⟩ : ∃ R, scanF ep X n 0 [] [] = R := ⟨_, rfl⟩
  rw [hR]
  go_enter Try.func50, Try.ntmps50
  go_wp2_with fail
  have hO0 := own_none w
  have hB0 : Below w.heap.size w (w.alloc (.cells #[] 9)) := (Below.refl _ _).alloc (Nat.le_refl _) _
  generalize w.alloc (.cells #[] 9) = W at *
  go_loopw [5, 6, 14] (fun v s i wx => ∃ k : Nat, ∃ rec out, k ≤ n ∧ i = .int .i64 k ∧ s = .string ⟨(rec : List UInt8).toArray⟩ ∧ rec.length ≤ 64 * k ∧ out.length ≤ k ∧ scanF ep X (n - k) k rec out = R ∧ wx.ownsRow w.heap.size 9 1 v out.length (textsOf out) ∧ Below w.heap.size w wx) (fun _ _ i _ => n - (intOf i).toNat)
  case atStart => exact ⟨0, [], [], by omega, rfl, rfl, by simp, by simp, hR, hO0, hB0⟩
  case round =>
    obtain ⟨k, rec, out, hk, rfl, rfl, hl1, hl2, hsc, ho1, hB⟩ := hrel
    have HO1 := Lib.hid ho1
    have HB := Lib.hid hB
    have HSC := Lib.hid hsc
    have hAdd := fun T => add_rest rec T
    have hRS : (⟨rec.toArray⟩ : ByteArray).size ≤ 64 * k := hl1
    have HAdd := Lib.hid hAdd
    clear ho1 hB hsc hR hO0 hB0 hAdd
    by_cases hlt : k < n
    · have i1 : (k : Int) < (n : Int) := by omega
      have i2 : (0 : Int) ≤ (k : Int) := by omega
      have e1 : IntKind.u32.wrap ((k : Int) + 1) = ((k + 1 : Nat) : Int) := by rw [show (k : Int) + 1 = ((k + 1 : Nat) : Int) by omega]; exact wrap_u32 _ (by omega)
      have ek : n - k = (n - (k + 1)) + 1 := by omega
      rw [ek] at HSC
      clear ek
      unfold scanF at HSC
      rcases (HX.out.below HB.out).2 with h0 | ⟨b, rfl, q⟩
      · omega
      have q1 : wr.cell? ⟨b, k, none⟩ = some (.string (X k)) := by have := q k (by simpa using hlt); simpa using this
      clear q
      obtain ⟨TT, OK, hP1, hT1, hT2⟩ : ∃ (TT : ByteArray) (OK : Bool), (∀ wx : World, Calls Try.prog 82 #[.int .u32 ep, .int .u32 ((k + 1 : Nat) : Int), .string (X k)] wx fun e w' => e = .returned (.tuple #[.string TT, .bool OK]) ∧ Below wx.heap.size wx w') ∧ (isFrame ep (k + 1) (X k) → TT = textIn (X k) ∧ OK = true) ∧ (¬ isFrame ep (k + 1) (X k) → TT = ⟨#[]⟩ ∧ OK = false) := by
        by_cases hfr : isFrame ep (k + 1) (X k)
        · exact ⟨_, _, fun wx => (HOp.out k (X k) wx hlt).mono (by rintro e w' ⟨a, _, b⟩; exact ⟨a hfr, b⟩), fun _ => ⟨rfl, rfl⟩, fun e => absurd hfr e⟩
        · exact ⟨_, _, fun wx => (HOp.out k (X k) wx hlt).mono (by rintro e w' ⟨_, a, b⟩; exact ⟨a hfr, b⟩), fun e => absurd e hfr, fun _ => ⟨rfl, rfl⟩⟩
      have HP1 := Lib.hid (hP1 wr)
      have HT1 := Lib.hid hT1
      have HT2 := Lib.hid hT2
      clear hP1 hT1 hT2
      generalize (⟨rec.toArray⟩ : ByteArray) = RS at *
      generalize hXk : X k = XK at *
      have HXK := Lib.hid hXk
      clear hXk
      go_wp2_with fail
      refine HP1.out.mono ?_
      rintro e w1 ⟨rfl, hb1⟩
      have HOn := Lib.hid (own_below HO1.out hb1)
      have HBn := Lib.hid (HB.out.trans (hb1.mono HB.out.size))
      have hsz := HBn.out.size
      clear hb1 HO1 HB HP1 q1 e1
      by_cases hg : good ep X k
      · obtain ⟨g1, g2, g3⟩ := hg
        have hg : good ep X k := ⟨g1, g2, g3⟩
        rw [HXK.out] at g1 g2 g3
        obtain ⟨rfl, rfl⟩ := HT1.out g1
        rw [if_pos hg] at HSC
        have hts := textIn_size XK
        generalize textIn XK = T at *
        have hl0 : 0 < T.size := by
          rcases Nat.eq_zero_or_pos T.size with e | e
          · exact absurd (ByteArray.ext (Array.eq_empty_of_size_eq_zero e)) g2
          · exact e
        have hrl := restB_len T hl0
        have hfb := firstB_eq T hl0
        have hRT : (T.extract 1 T.size).size + 1 = T.size := by rw [ByteArray.size_extract]; omega
        have hc : ∀ wx : World, (Op.stringOp .add RS (T.extract 1 T.size)).run Try.prog wx = .ok (.string (RS ++ T.extract 1 T.size)) wx := fun wx => run_string_add_sum wx _ _ (by omega)
        have i3 : (1 : Int) ≤ (T.size : Int) := by omega
        have i4 : ((T.size : Int) == 0) = false := by rw [beq_eq_false_iff_ne]; omega
        have hrl2 : (rec ++ restB T).length ≤ 64 * (k + 1) := by rw [List.length_append]; omega
        have HAT := Lib.hid (HAdd.out T)
        clear hRT hrl
        by_cases hb1 : firstB T = 1
        · rw [if_pos hb1] at HSC
          rw [hb1] at hfb
          rw [← HAT.out] at HSC
          clear hb1 g3 hg g1 g2 HAT HAdd
          generalize RS ++ T.extract 1 T.size = RC at *
          go_wp2_with (at_builtin; (refine wpList_more_strs rfl _ _ rfl w.heap.size _ _ [RC] rfl out.length rfl (HOn.out.alloc (.cells #[.string RC] 9)) w1.heap.size 1 1 rfl rfl (one_str w1 RC) (by decide) (by omega) (by simp; omega) ?_); (intro g cap w3 hm); (have HM := Lib.hid hm); (have HB3 := Lib.hid (hm.below (HBn.out.alloc HBn.out.size _) (HOn.out.alloc (.cells #[.string RC] 9)) (Nat.le_refl _) (by simp; omega))); clear hm)
          go_roundw
          case rel => exact ⟨k + 1, [], out ++ [RC], by omega, by go_num, rfl, by simp, by simp; omega, HSC.out, by simpa using HM.out.own, HB3.out⟩
          case measure => simp [intOf]; omega
        · have hb0 : firstB T = 0 := by omega
          rw [if_neg hb1] at HSC
          rw [hb0] at hfb
          clear hb1 hb0 g3 hg g1 g2
          go_wp2_with fail
          go_roundw
          case rel => exact ⟨k + 1, rec ++ restB T, out, by omega, by go_num, by rw [HAT.out], hrl2, by omega, HSC.out, HOn.out, HBn.out⟩
          case measure => simp [intOf]; omega
      · rw [if_neg hg] at HSC
        have hend : Hid (out = R) := HSC
        by_cases g1 : isFrame ep (k + 1) XK
        · obtain ⟨rfl, rfl⟩ := HT1.out g1
          by_cases g2 : textIn XK = ⟨#[]⟩
          · rw [g2]
            go_wp2_with fail
            go_ret
            exact ⟨_, rfl, by rw [← hend.out]; exact HOn.out, HBn.out⟩
          · have g3 : 1 < firstB (textIn XK) := by
              rcases Nat.lt_or_ge 1 (firstB (textIn XK)) with e | e
              · exact e
              · exact absurd ⟨by rw [HXK.out]; exact g1, by rw [HXK.out]; exact g2, by rw [HXK.out]; exact e⟩ hg
            generalize textIn XK = T at *
            have hl0 : 0 < T.size := by
              rcases Nat.eq_zero_or_pos T.size with e | e
              · exact absurd (ByteArray.ext (Array.eq_empty_of_size_eq_zero e)) g2
              · exact e
            have hfb := firstB_eq T hl0
            have hgt : (1 : Int) < wrap64 (((T[0]'hl0).toNat : Nat) : Int) := by rw [show wrap64 (((T[0]'hl0).toNat : Nat) : Int) = (((T[0]'hl0).toNat : Nat) : Int) from IntWalk.wrap64_in _ (by have := (T[0]'hl0).toNat_lt; omega), hfb]; omega
            have i4 : ((T.size : Int) == 0) = false := by rw [beq_eq_false_iff_ne]; omega
            clear hfb
            go_wp2_with fail
            go_ret
            exact ⟨_, rfl, by rw [← hend.out]; exact HOn.out, HBn.out⟩
        · obtain ⟨rfl, rfl⟩ := HT2.out g1
          go_wp2_with fail
          go_ret
          exact ⟨_, rfl, by rw [← hend.out]; exact HOn.out, HBn.out⟩
    · have i1 : ¬ (k : Int) < (n : Int) := by omega
      obtain rfl : k = n := by omega
      go_wp2_with fail
      go_ret
      have e0 := HSC.out
      rw [Nat.sub_self] at e0
      unfold scanF at e0
      exact ⟨_, rfl, by rw [← e0]; exact HO1.out, HB.out⟩
end Go.Proofs.Ytakngnigpncmkaa
