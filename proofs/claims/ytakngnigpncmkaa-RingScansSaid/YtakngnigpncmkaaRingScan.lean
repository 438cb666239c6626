/-
  Scan: the whole records, as far as frames are whole: a contract.
-/
import Derived.Test.YtakngnigpncmkaaRingAppend
import Derived.Lib.OwnKind
namespace Go.Proofs.Ytakngnigpncmkaa
open Go.RowKit

/-- a sector's bytes -/
def sectB (m : DiskM) (k : Nat) : ByteArray := ⟨(sec m.T k).toArray⟩
theorem sectB_size (m : DiskM) (k : Nat) : (sectB m k).size = 64 := by show (sec m.T k).length = 64; simp [sec]
instance isFrameDec (a b : Nat) (s : ByteArray) : Decidable (isFrame a b s) := by unfold isFrame; infer_instance
/-- the byte that a frame bears first; what stands behind it -/
def firstB (t : ByteArray) : Nat := (t.data.toList.getD 0 0).toNat
def restB (t : ByteArray) : List UInt8 := (t.extract 1 t.size).data.toList
/-- does a frame of the journal stand there? -/
def good (ep : Nat) (X : Nat → ByteArray) (k : Nat) : Prop := isFrame ep (k + 1) (X k) ∧ textIn (X k) ≠ ⟨#[]⟩ ∧ firstB (textIn (X k)) ≤ 1
instance goodDec (ep : Nat) (X : Nat → ByteArray) (k : Nat) : Decidable (good ep X k) := by unfold good; infer_instance
/-- the records of so many sectors from one on -/
def scanF (ep : Nat) (X : Nat → ByteArray) : Nat → Nat → List UInt8 → List ByteArray → List ByteArray
  | 0, _, _, out => out
  | j + 1, k, rec, out =>
    if good ep X k then
      (if firstB (textIn (X k)) = 1 then scanF ep X j (k + 1) [] (out ++ [⟨(rec ++ restB (textIn (X k))).toArray⟩]) else scanF ep X j (k + 1) (rec ++ restB (textIn (X k))) out)
    else out
def textsOf (l : List ByteArray) : List Value := l.map fun s => Value.string s
theorem firstB_eq (t : ByteArray) (h : 0 < t.size) : (t[0]'h).toNat = firstB t := by
  unfold firstB
  rw [List.getD_eq_getElem?_getD, List.getElem?_eq_getElem (by simpa using h)]
  rfl
theorem infoStr : (Try.prog.info? 9).map (fun i => (i.zero, i.size, i.bytes)) = some (some (.string ⟨#[]⟩), 1, 16) := by kernel_rfl
theorem rows_apart {w : World} {B n1 n2 : Nat} {v1 v2 : Value} {x1 x2 : List Value} (h1 : w.ownsRow B 9 1 v1 n1 x1) (h2 : w.ownsRow B 5 1 v2 n2 x2) : v1.ownBlock = none ∨ v1.ownBlock ≠ v2.ownBlock := by
  cases e : v1.ownBlock with
  | none => exact Or.inl rfl
  | some g =>
    refine Or.inr fun e2 => ?_
    obtain ⟨c, fz, hc⟩ := Lib.ownsRow_kind h1 g e
    obtain ⟨c', fz', hc'⟩ := Lib.ownsRow_kind h2 g e2.symm
    rw [hc] at hc'
    simp at hc'
theorem rows_apart' {w : World} {B n1 n2 : Nat} {v1 v2 : Value} {x1 x2 : List Value} (h1 : w.ownsRow B 9 1 v1 n1 x1) (h2 : w.ownsRow B 5 1 v2 n2 x2) : v2.ownBlock = none ∨ v2.ownBlock ≠ v1.ownBlock := by
  rcases rows_apart h1 h2 with e | e
  · cases e2 : v2.ownBlock with
    | none => exact Or.inl rfl
    | some g => exact Or.inr (by rw [e]; simp)
  · exact Or.inr fun e2 => e e2.symm
theorem own_zero {w : World} {B n g cap : Nat} {xs : List Value} (h : w.ownsRow B 5 1 (.slice (some ⟨g, 0, none⟩) n cap) n xs) : w.ownsRow B 5 1 (.slice (some ⟨g, 0, none⟩) 0 cap) 0 [] := by
  rcases h.2 with ⟨e, _⟩ | ⟨g', cap', cur, e, a, b, c, d, e', f⟩
  · cases e
  · cases e
    exact ⟨rfl, Or.inr ⟨g, cap, cur, rfl, a, b, by omega, d, e', by simp⟩⟩
/-- what an append of bytes to a row of them leaves -/
def RecTo (B : Nat) (v : Value) (l k : List UInt8) (n : Nat) (w : World) (v' : Value) (w' : World) : Prop := w'.ownsRow B 5 1 v' n (cellsOf (l ++ k)) ∧ w.grownBy w' v.ownBlock
theorem rec_text {B : Nat} {v : Value} {l : List UInt8} {w : World} (ty : TypeId) (h : w.ownsRow B 5 1 v l.length (cellsOf l)) (hB : B ≤ w.heap.size) (s : ByteArray) (hl : l.length + s.size < 1000000000) :
    ∃ ao cap w', (Builtin.append_ #[83, 9] ty #[v, .string s]).run Try.prog w = .ok (.slice ao (l.length + s.size) cap) w' ∧ RecTo B v l s.data.toList (l.length + s.size) w (.slice ao (l.length + s.size) cap) w' := by
  obtain ⟨i0, hi, hz0, hz1, hz2⟩ := info_parts info8
  obtain ⟨ao, cap, w', a, b, c, _⟩ := append_text (P := Try.prog) w B _ _ ty 5 i0 Try.underlying83 Try.underlying9 hi hz0 hz1 hz2 v l.length _ h s (by unfold maxLen; omega) (by omega) hB
  refine ⟨ao, cap, w', a, ?_, c⟩
  have e : cellsOf (l ++ s.data.toList) = cellsOf l ++ Lib.strCells s := by simp [cellsOf, Lib.strCells]
  rw [e]
  exact b
theorem conv_nil (w : World) : (convert 83 9 (.slice none 0 0)).run Try.prog w = .ok (.string ⟨([] : List UInt8).toArray⟩) w := by kernel_rfl
theorem own_below {w w' : World} {B n : Nat} {e : TypeId} {v : Value} {xs : List Value} (h : w.ownsRow B e 1 v n xs) (hb : Below w.heap.size w w') : w'.ownsRow B e 1 v n xs :=
  h.kept (row := none) ⟨hb.os, hb.tape, hb.output, hb.size, fun k hk _ => hb.block k hk⟩ (Classical.em _)
theorem own_form {w : World} {B n cap : Nat} {e : TypeId} {ao : Option Addr} {xs : List Value} (h : w.ownsRow B e 1 (.slice ao n cap) n xs) : (ao = none ∧ n = 0 ∧ cap = 0) ∨ ∃ g, ao = some ⟨g, 0, none⟩ ∧ n ≤ cap ∧ cap ≤ maxLen := by
  rcases h.2 with ⟨e, h0⟩ | ⟨g, cap', cur, e, _, _, a, b, _⟩
  · cases e
    exact Or.inl ⟨rfl, rfl, rfl⟩
  · cases e
    exact Or.inr ⟨g, rfl, a, b⟩
theorem full_list {t : ByteArray} (h : ¬ t = ⟨#[]⟩) : t.toList.isEmpty = false := by
  cases e : t.toList with
  | nil => exact absurd (ByteArray.ext (Array.toList_inj.mp (by rw [← ByteArray.toList_eq, e]))) h
  | cons a l => rfl
theorem restB_len (t : ByteArray) (h : 0 < t.size) : (restB t).length + 1 = t.size := by
  have e : (restB t).length = (t.extract 1 t.size).size := by simp [restB]
  rw [e, ByteArray.size_extract]
  omega
theorem textIn_size (s : ByteArray) : (textIn s).size ≤ 64 := by
  unfold textIn
  rw [ByteArray.size_extract, ByteArray.size_extract]
  omega
theorem rec_conv {B : Nat} {v : Value} {l : List UInt8} {n : Nat} {w : World} (h : w.ownsRow B 5 1 v n (cellsOf l)) :
    (convert 83 9 v).run Try.prog w = .ok (.string ⟨l.toArray⟩) w := by
  have hl : l.length = n := by simpa [cellsOf] using h.1
  rcases h.2 with ⟨rfl, h0⟩ | ⟨g, cap, cur, rfl, hb, hr⟩
  · obtain rfl : l = [] := List.eq_nil_of_length_eq_zero (hl.trans h0)
    exact conv_nil w
  · subst hl
    refine run_convert_bytes_back w _ _ 5 _ cap l Try.underlying83 Try.underlying5 Try.underlying9 fun j hj => ?_
    refine h.cells (g := g) rfl j _ ?_
    simp [cellsOf, hj]
set_option maxRecDepth 10000 in
set_option maxHeartbeats 4000000 in
theorem scan_any (r p f n ep u : Nat) (m : DiskM) (hp : m.d = p) (hL : m.Live) (w : World) (h : RingAt r p f n ep u w) (hD : DiskAt m w) (hf : f + n ≤ m.n) (he : ep < 4294967296) :
    Calls Try.prog 81 #[.pointer (some ⟨r, 0, none⟩)] w fun e w' => ∃ v, e = .returned v ∧ w'.ownsRow w.heap.size 9 1 v (scanF ep (fun k => sectB m (f + k)) n 0 [] []).length (textsOf (scanF ep (fun k => sectB m (f + k)) n 0 [] [])) ∧ Below w.heap.size w w' := by
  have c2 := h.c2
  have hn := hD.size
  obtain ⟨i0, hi, hz0, hz1, hz2⟩ := info_parts infoStr
  have HI0 := Lib.hid hi
  have HI1 := Lib.hid hz0
  have HI2 := Lib.hid hz1
  have HI3 := Lib.hid hz2
  clear hi hz0 hz1 hz2
  have H := Lib.hid h
  have HK : Hid (∀ wx, Below w.heap.size w wx → wx.cell? ⟨r, 0, none⟩ = some (.pointer (some ⟨p, 0, none⟩)) ∧ wx.cell? ⟨r, 1, none⟩ = some (.int .i64 f)) := Lib.hid fun wx hb => ⟨(h.below hb).c0, (h.below hb).c1⟩
  have HS : Hid (∀ (k : Nat) wx, k < n → Below w.heap.size w wx → Calls Try.prog 93 #[.pointer (some ⟨r, 0, none⟩), .int .i64 k] wx fun e w' => e = .returned (.agg #[.int .u32 ep, .int .u32 ((k + 1 : Nat) : Int)]) ∧ Below wx.heap.size wx w') :=
    Lib.hid fun k wx hk hb => ringStamp_any r p f n ep u k wx (h.below hb) (by omega)
  have HRd : Hid (∀ (k : Nat) x wx, k < n → x = ((f + k : Nat) : Int) → Below w.heap.size w wx → Calls Try.prog 61 #[.pointer (some ⟨p, 0, none⟩), .int .i64 x] wx fun e w' => e = .returned (.string (sectB m (f + k))) ∧ wx = w') :=
    Lib.hid fun k x wx hk hx hb => by
      subst hx
      subst hp
      exact read_ok m (f + k) wx (hD.keep (Grew.of_below (S := fun _ => False) hb) fun _ _ e => e) hL.dead (by omega)
  have HOp : Hid (∀ (k : Nat) s wx, k < n → Calls Try.prog 94 #[.agg #[.int .u32 ep, .int .u32 ((k + 1 : Nat) : Int)], .string s] wx fun e w' =>
      (isFrame ep (k + 1) s → e = .returned (.tuple #[.string (textIn s), .bool true])) ∧ (¬ isFrame ep (k + 1) s → e = .returned (.tuple #[.string ⟨#[]⟩, .bool false])) ∧ Below wx.heap.size wx w') :=
    Lib.hid fun k s wx hk => open_any ep (k + 1) s wx he (by omega)
  clear h hD
  obtain ⟨X, hX⟩ : ∃ X, (fun k => sectB m (f + k)) = X := ⟨_, rfl⟩
  have hXk : ∀ k, sectB m (f + k) = X k := fun k => by rw [← hX]
  simp only [hXk] at HRd ⊢
  clear hX hXk
  obtain ⟨R, hR⟩ : ∃ R, scanF ep X n 0 [] [] = R := ⟨_, rfl⟩
  rw [hR]
  go_enter Try.func81, Try.ntmps81
  go_wp2_with fail
  go_loopw [3, 4, 12] (fun v3 v4 i wx => ∃ k : Nat, ∃ rec out, k ≤ n ∧ i = .int .i64 k ∧ rec.length ≤ 64 * k ∧ out.length ≤ k ∧ scanF ep X (n - k) k rec out = R ∧ wx.ownsRow w.heap.size 9 1 v3 out.length (textsOf out) ∧ wx.ownsRow w.heap.size 5 1 v4 rec.length (cellsOf rec) ∧ Below w.heap.size w wx) (fun _ _ i _ => n - (intOf i).toNat)
  case atStart => exact ⟨0, [], [], by omega, rfl, by simp, by simp, hR, World.ownsRow_nil _ _ _ _, World.ownsRow_nil _ _ _ _, Below.refl _ _⟩
  case round =>
    obtain ⟨k, rec, out, hk, rfl, hl1, hl2, hsc, ho1, ho2, hB⟩ := hrel
    have HO1 := Lib.hid ho1
    have HO2 := Lib.hid ho2
    have HB := Lib.hid hB
    have HSC := Lib.hid hsc
    clear ho1 ho2 hB hsc hR
    by_cases hlt : k < n
    · have i1 : (k : Int) < (n : Int) := by omega
      have e1 : IntKind.i64.wrap ((f : Int) + (k : Int)) = (f : Int) + (k : Int) := IntWalk.i64_in _ (by omega)
      have ek : n - k = (n - (k + 1)) + 1 := by omega
      rw [ek] at HSC
      unfold scanF at HSC
      have hk0 := HK.out wr.drew HB.out.drew
      obtain ⟨TT, OK, hP1, hT1, hT2⟩ : ∃ (TT : ByteArray) (OK : Bool), (∀ wx : World, Calls Try.prog 94 #[.agg #[.int .u32 ep, .int .u32 ((k + 1 : Nat) : Int)], .string (X k)] wx fun e w' => e = .returned (.tuple #[.string TT, .bool OK]) ∧ Below wx.heap.size wx w') ∧ (isFrame ep (k + 1) (X k) → TT = textIn (X k) ∧ OK = true) ∧ (¬ isFrame ep (k + 1) (X k) → TT = ⟨#[]⟩ ∧ OK = false) := by
        by_cases hfr : isFrame ep (k + 1) (X k)
        · exact ⟨_, _, fun wx => (HOp.out k (X k) wx hlt).mono (by rintro e w' ⟨a, _, b⟩; exact ⟨a hfr, b⟩), fun _ => ⟨rfl, rfl⟩, fun e => absurd hfr e⟩
        · exact ⟨_, _, fun wx => (HOp.out k (X k) wx hlt).mono (by rintro e w' ⟨_, a, b⟩; exact ⟨a hfr, b⟩), fun e => absurd e hfr, fun _ => ⟨rfl, rfl⟩⟩
      have HP1 := Lib.hid hP1
      have HT1 := Lib.hid hT1
      have HT2 := Lib.hid hT2
      clear hP1 hT1 hT2
      have HS1 := Lib.hid fun wx hb => HS.out k wx hlt hb
      have HR1 := Lib.hid fun x wx hx hb => HRd.out k x wx hlt hx hb
      go_upto_region 6 with fail
      go_cut [6, 7] (fun t ok wx => t = .string TT ∧ ok = .bool OK ∧ wx.ownsRow w.heap.size 9 1 u3 out.length (textsOf out) ∧ wx.ownsRow w.heap.size 5 1 u4 rec.length (cellsOf rec) ∧ Below w.heap.size w wx)
      case first =>
        generalize ((k + 1 : Nat) : Int) = K1 at *
        go_region_held3 (fun wx => wx.cell? ⟨r, 0, none⟩ = some (.pointer (some ⟨p, 0, none⟩)) ∧ wx.cell? ⟨r, 1, none⟩ = some (.int .i64 f))
          (first | exact hk0 | exact HK.out _ HB1.out | exact HK.out _ HB2.out)
          (first
            | (go_at_call 93; (with_reducible refine (HS1.out wr.drew HB.out.drew).mono ?_); rintro e w1 ⟨rfl, hb1⟩; (have HB1 := Lib.hid (HB.out.drew.trans (hb1.mono HB.out.drew.size))); (have HA1 := Lib.hid (own_below HO1.out.drew hb1)); (have HA2 := Lib.hid (own_below HO2.out.drew hb1)); clear hb1)
            | (go_at_call 61; (with_reducible refine (HR1.out _ w1 (by omega) HB1.out).mono ?_); rintro e w1' ⟨rfl, rfl⟩)
            | (go_at_call 94; (with_reducible refine (HP1.out w1).mono ?_); rintro e w2 ⟨rfl, hb2⟩; (have HB2 := Lib.hid (HB1.out.trans (hb2.mono HB1.out.size))); (have HC1 := Lib.hid (own_below HA1.out hb2)); (have HC2 := Lib.hid (own_below HA2.out hb2)); clear hb2))
        go_wp2_with fail
        go_meet
        exact ⟨rfl, rfl, HC1.out, HC2.out, HB2.out⟩
      case rest =>
        obtain ⟨rfl, rfl, ho1, ho2, hB⟩ := hcut
        have HO1 := Lib.hid ho1
        have HO2 := Lib.hid ho2
        have HB := Lib.hid hB
        clear ho1 ho2 hB hk0 HS1 HR1 HP1
        by_cases hg : good ep X k
        · obtain ⟨g1, g2, g3⟩ := hg
          have hg : good ep X k := ⟨g1, g2, g3⟩
          obtain ⟨rfl, rfl⟩ := HT1.out g1
          rw [if_pos hg] at HSC
          have hne := full_list g2
          have hts := textIn_size (X k)
          generalize textIn (X k) = T at *
          have hl0 : 0 < T.size := by
            rcases Nat.eq_zero_or_pos T.size with e | e
            · exact absurd (ByteArray.ext (Array.eq_empty_of_size_eq_zero e)) g2
            · exact e
          have hrl := restB_len T hl0
          have hRT : (T.extract 1 T.size).size + 1 = T.size := by rw [ByteArray.size_extract]; omega
          have HApp := Lib.hid (rec_text 83 HO2.out HB.out.size (T.extract 1 T.size) (by omega))
          have hfb := firstB_eq T hl0
          have i3 : (1 : Int) ≤ (T.size : Int) := by omega
          have HRest : Hid ((T.extract 1 T.size).data.toList = restB T) := Lib.hid rfl
          by_cases hb1 : firstB T = 1
          · rw [if_pos hb1] at HSC
            rw [hb1] at hfb
            clear hb1 g3 hg g1 g2
            go_upto_region 9 with ((with_reducible refine wpList_append_run _ rfl (.tmp 44) (.tmp 46) 83 9 rfl u4 (.string (T.extract 1 T.size)) rfl rfl (rec.length + (T.extract 1 T.size).size) _ HApp.out ?_); (rintro ao cap w1 ⟨hs, hgr⟩); (have HS1 := Lib.hid hs); (have HK1 := Lib.hid (HO1.out.kept hgr (rows_apart HO1.out HO2.out))); (have HB1 := Lib.hid (HB.out.grown hgr HB.out.size (fun q hq => (HO2.out.lt q hq).1))); clear hs hgr)
            have hl3 : rec.length + (T.extract 1 T.size).size = (rec ++ restB T).length := by rw [List.length_append, ← HRest.out]; simp
            rw [HRest.out, hl3] at HS1
            have hl5 : rec.length + (T.size - 1) = (rec ++ restB T).length := by rw [← hl3]; omega
            rw [hl5]
            have hl4 : (rec ++ restB T).length ≤ 64 * (k + 1) := by rw [← hl3]; omega
            have hcv := rec_conv HS1.out
            have hfm := own_form HS1.out
            have hsz := HB1.out.size
            clear hl3 hl5 hRT hrl HApp HO1 HO2 HB hne i3
            generalize rec ++ restB T = RC at *
            generalize hREC : (⟨RC.toArray⟩ : ByteArray) = REC at *
            generalize RC.length = RN at *
            have HOA := Lib.hid (HK1.out.alloc (.cells #[.string REC] 9))
            rcases hfm with ⟨rfl, rfl, rfl⟩ | ⟨g, rfl, hc1, hc2⟩
            all_goals
              go_wp2_with (at_builtin; (refine wpList_append_own _ rfl _ _ 26 rfl w.heap.size 9 i0 (.string ⟨#[]⟩) 1 16 Try.underlying26 HI0.out HI1.out HI2.out HI3.out rfl (by decide) u3 out.length _ rfl HOA.out ⟨w1.heap.size, 0, none⟩ 1 1 [.string REC] rfl rfl ?_ ?_ ?_ ?_ ?_ ?_); (focus exact news_one w1 _ _); (focus (intro u hu; simp at hu; subst hu; rfl)); (focus (unfold maxLen; omega)); (focus omega); (focus (simp; omega)); (intro v' w3 hown' hgrow _); (have HV := Lib.hid hown'); (have HRw := Lib.hid ((HS1.out.alloc (.cells #[.string REC] 9)).kept hgrow (rows_apart' HK1.out HS1.out))); (have HB3 := Lib.hid ((HB1.out.alloc HB1.out.size (.cells #[.string REC] 9)).grown hgrow (by simp; omega) (fun q hq => (HK1.out.lt q hq).1))); clear hown' hgrow)
              go_roundw
              case rel => exact ⟨k + 1, [], out ++ [REC], by omega, by go_num, by simp, by simp; omega, by rw [← HSC.out], by simpa [textsOf] using HV.out, by first | exact World.ownsRow_nil _ _ _ _ | exact own_zero HRw.out, HB3.out⟩
              case measure => simp [intOf]; omega
          · have hb0 : firstB T = 0 := by omega
            rw [if_neg hb1] at HSC
            rw [hb0] at hfb
            clear hb1 hb0 g3 hg g1 g2
            go_wp2_with ((with_reducible refine wpList_append_run _ rfl (.tmp 44) (.tmp 46) 83 9 rfl u4 (.string (T.extract 1 T.size)) rfl rfl (rec.length + (T.extract 1 T.size).size) _ HApp.out ?_); (rintro ao cap w1 ⟨hs, hgr⟩); (have HS1 := Lib.hid hs); (have HK1 := Lib.hid (HO1.out.kept hgr (rows_apart HO1.out HO2.out))); (have HB1 := Lib.hid (HB.out.grown hgr HB.out.size (fun q hq => (HO2.out.lt q hq).1))); clear hs hgr)
            have hl3 : rec.length + (T.extract 1 T.size).size = (rec ++ restB T).length := by rw [List.length_append, ← HRest.out]; simp
            rw [HRest.out, hl3] at HS1
            have hl5 : rec.length + (T.size - 1) = (rec ++ restB T).length := by rw [← hl3]; omega
            go_roundw
            case rel => exact ⟨k + 1, rec ++ restB T, out, by omega, by go_num, by rw [← hl3]; omega, by omega, HSC.out, HK1.out, by rw [hl5]; exact HS1.out, HB1.out⟩
            case measure => simp [intOf]; omega
        · rw [if_neg hg] at HSC
          have hend : out = R := HSC.out
          by_cases g1 : isFrame ep (k + 1) (X k)
          · obtain ⟨rfl, rfl⟩ := HT1.out g1
            by_cases g2 : textIn (X k) = ⟨#[]⟩
            · rw [g2]
              go_wp2_with fail
              go_ret
              exact ⟨_, rfl, by rw [← hend]; exact HO1.out, HB.out⟩
            · have g3 : 1 < firstB (textIn (X k)) := by
                rcases Nat.lt_or_ge 1 (firstB (textIn (X k))) with e | e
                · exact e
                · exact absurd ⟨g1, g2, e⟩ hg
              have hne := full_list g2
              generalize textIn (X k) = T at *
              have hl0 : 0 < T.size := by
                rcases Nat.eq_zero_or_pos T.size with e | e
                · exact absurd (ByteArray.ext (Array.eq_empty_of_size_eq_zero e)) g2
                · exact e
              have hfb := firstB_eq T hl0
              have hgt : (1 : Int) < (((T[0]'hl0).toNat : Nat) : Int) := by rw [hfb]; omega
              clear hfb
              go_wp2_with fail
              go_ret
              exact ⟨_, rfl, by rw [← hend]; exact HO1.out, HB.out⟩
          · obtain ⟨rfl, rfl⟩ := HT2.out g1
            go_wp2_with fail
            go_ret
            exact ⟨_, rfl, by rw [← hend]; exact HO1.out, HB.out⟩
    · have i1 : ¬ (k : Int) < (n : Int) := by omega
      obtain rfl : k = n := by omega
      go_wp2_with fail
      go_ret
      have e0 := HSC.out
      rw [Nat.sub_self] at e0
      unfold scanF at e0
      exact ⟨_, rfl, by rw [← e0]; exact HO1.out, HB.out⟩
end Go.Proofs.Ytakngnigpncmkaa
