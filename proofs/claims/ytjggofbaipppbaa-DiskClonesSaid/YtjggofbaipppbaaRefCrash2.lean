/-
  The document's own disk: Crash, walked.
-/
import Derived.Test.YtjggofbaipppbaaRefCrash
import Derived.Deep.RegionHeld3
namespace Go.Proofs.Ytjggofbaipppbaa
open Go.RowKit

theorem Quad.grew {x : Nat} {v0 v1 v2 v3 : Value} {S : Nat → Prop} {w w' : World} (h : Quad x v0 v1 v2 v3 w) (k : Grew S w w') (hS : ¬ S x) : Quad x v0 v1 v2 v3 w' := ⟨by rw [k.block x h.lt hS]; exact h.at'⟩
theorem IntsApart.mono {S T : Nat → Prop} {w w' : World} {a : Option Addr} {l : Nat} {es : Nat → Int} (h : IntsApart S w a l es) (k : Below w.heap.size w w') (hT : ∀ b, b < w.heap.size → T b → S b) : IntsApart T w' a l es := by
  rcases h with h | ⟨b, off, rfl, hS, hr⟩
  · exact Or.inl h
  · by_cases h0 : 0 < l
    · exact Or.inr ⟨b, off, rfl, fun ht => hS (hT b (cell_lt (hr 0 h0)) ht), fun i hi => by rw [k.cell (cell_lt (hr i hi))]; exact hr i hi⟩
    · exact Or.inl (by omega)
/-- the crash on its way: the new row, all else as it was -/
structure CrW (r : RefM) (ct : Nat → Nat) (g : Nat) (W4 : World) (k : Nat) (wx : World) : Prop where
  row : TextsAt wx (some ⟨g, 0, none⟩) r.n (crS r ct k)
  free : 0 < r.n → ∀ j, wx.frozen? ⟨g, j, none⟩ = false
  grew : Grew (fun b => b = g) W4 wx
theorem CrW.drew {r : RefM} {ct : Nat → Nat} {g : Nat} {W4 : World} {k : Nat} {wx : World} (h : CrW r ct g W4 k wx) : CrW r ct g W4 k wx.drew := ⟨h.row, h.free, h.grew.drew⟩
/-- what is known of the row of loose sectors -/
theorem loose_row {L : List Nat} {n : Nat} {w w1 : World} {qa : Option Addr} {qc : Nat} (hL : L.length = n) (ho : w1.ownsRow w.heap.size 3 1 (.slice qa n qc) n (intsOf L)) : IntsApart (fun b => b < w.heap.size) w1 qa n (fun j => (L.getD j 0 : Nat)) := by
  by_cases h0 : n = 0
  · exact Or.inl h0
  · obtain ⟨hxl, ⟨e, e0⟩ | ⟨g, cap, cur, e, hb, _⟩⟩ := id ho
    · exact absurd e0 h0
    · obtain ⟨rfl, -, rfl⟩ : qa = some ⟨g, 0, none⟩ ∧ n = n ∧ qc = cap := by simpa using e
      refine Or.inr ⟨g, 0, rfl, by omega, fun i hi => ?_⟩
      rw [Nat.zero_add, ho.cellAt i (by omega)]
      simp [intsOf, List.getD_eq_getElem?_getD, hL, hi]
theorem TextsAt.same {w : World} {a : Option Addr} {n : Nat} {f h : Nat → UInt8} (ht : TextsAt w a n f) (hs : ∀ i, i < n → sameIn h f i) : TextsAt w a n h := by
  rcases ht with e | ⟨b, rfl, hr⟩
  · exact Or.inl e
  · exact Or.inr ⟨b, rfl, fun i hi => by rw [(hs i hi).sec]; exact hr i hi⟩
set_option maxRecDepth 100000 in
set_option maxHeartbeats 2000000 in
theorem refCrash_any (r : RefM) (a : Option Addr) (l c : Nat) (es : Nat → Int) (w : World) (h : RefAt r w) (hA : IntsApart (fun _ => False) w a l es) :
    Calls Try.prog 17 #[.agg r.cells, .slice a l c] w fun e w' => ∃ r', e = .returned (.agg r'.cells) ∧ r'.n = r.n ∧ r'.S = ((mOf r).crashed (cutOf l es)).S ∧ r'.T = ((mOf r).crashed (cutOf l es)).T ∧ r'.left = -1 ∧ r'.dead = false ∧ RefAt r' w' ∧ Below w.heap.size w w' := by
  have HLo := Lib.hid fun wx (h : RefAt r wx) => refLoose_any r wx h
  have H := Lib.hid h
  have HA := Lib.hid hA
  have HCt : Hid (∀ q, cutOf l es q ≤ 64) := Lib.hid (cutOf_le l es)
  obtain ⟨L, hL⟩ : ∃ L, (mOf r).looseTo r.n = L := ⟨_, rfl⟩
  have hLn : L.length ≤ r.n := by rw [← hL]; exact (mOf r).looseTo_len r.n
  have HLt : Hid (∀ j, j < L.length → L.getD j 0 < r.n) := Lib.hid (by rw [← hL]; exact loose_lt (mOf r) r.n)
  have hLf : looseF r.S r.T r.n = L := hL
  have HL := Lib.hid hL
  have HLn := Lib.hid hLn
  have HTe := Lib.hid (fun (wx : World) (g k : Nat) (h : TextsAt wx (some ⟨g, 0, none⟩) r.n (crS r (cutOf l es) k)) (hk : k < L.length) (hin : L.getD k 0 < r.n) => h.tear (HCt.out) (by rw [hL]; exact hk) (L.getD k 0) (by rw [hL]) hin)
  have HFin : Hid (crS r (cutOf l es) L.length = ((mOf r).crashed (cutOf l es)).S ∧ ∀ i, i < r.n → sameIn ((mOf r).crashed (cutOf l es)).T ((mOf r).crashed (cutOf l es)).S i) := Lib.hid ⟨by rw [← hL]; rfl, fun i hi => (crashed_in (mOf r) (cutOf l es) HCt.out i hi).1⟩
  have H0 : Hid (crS r (cutOf l es) 0 = r.S) := Lib.hid rfl
  rw [hLf] at HLo
  clear h hA hL hLn hLf
  generalize ((mOf r).crashed (cutOf l es)).S = FS at *
  generalize ((mOf r).crashed (cutOf l es)).T = FT at *
  have HCw := Lib.hid (fun (g : Nat) (W4 : World) (k : Nat) (wx : World) (h : CrW r (cutOf l es) g W4 k wx) => h)
  obtain ⟨sa, na, n, sc, nc, S, T, lf, d⟩ := r
  have e1 : (⟨sa, na, n, sc, nc, S, T, lf, d⟩ : RefM).cells = #[.slice sa n sc, .slice na n nc, .int .i64 lf, .bool d] := rfl
  rw [e1] at HLo ⊢
  clear e1
  obtain ⟨m, hm⟩ : ∃ m, L.length = m := ⟨_, rfl⟩
  have HM := Lib.hid hm
  rw [hm] at HLt HLn HTe HFin HLo
  clear hm
  obtain ⟨RR, hRR⟩ : ∃ RR : RefM, (⟨sa, na, n, sc, nc, S, T, lf, d⟩ : RefM) = RR := ⟨_, rfl⟩
  have HRR := Lib.hid hRR
  rw [hRR] at H HLo HCw HFin H0
  clear hRR
  go_enter Try.func17, Try.ntmps17
  go_upto_region 1 with fail
  have q1 : Quad (w.heap.size + 1) (.slice none 0 0) (.slice none 0 0) (.int .i64 0) (.bool false) ((w.alloc (.cells #[.slice sa n sc, .slice na n nc, .int .i64 lf, .bool d] 28)).alloc (.cells #[.slice none 0 0, .slice none 0 0, .int .i64 0, .bool false] 28)) := ⟨heap_alloc2_new w _ _⟩
  have q0 : Quad w.heap.size (.slice sa n sc) (.slice na n nc) (.int .i64 lf) (.bool d) ((w.alloc (.cells #[.slice sa n sc, .slice na n nc, .int .i64 lf, .bool d] 28)).alloc (.cells #[.slice none 0 0, .slice none 0 0, .int .i64 0, .bool false] 28)) := ⟨heap_alloc2_old w _ _⟩
  have HBW := Lib.hid (two_below w (.cells #[.slice sa n sc, .slice na n nc, .int .i64 lf, .bool d] 28) (.cells #[.slice none 0 0, .slice none 0 0, .int .i64 0, .bool false] 28))
  generalize (w.alloc (.cells #[.slice sa n sc, .slice na n nc, .int .i64 lf, .bool d] 28)).alloc (.cells #[.slice none 0 0, .slice none 0 0, .int .i64 0, .bool false] 28) = W at *
  obtain ⟨y, hy⟩ : ∃ y, w.heap.size = y := ⟨_, rfl⟩
  obtain ⟨x, hx⟩ : ∃ x, w.heap.size + 1 = x := ⟨_, rfl⟩
  have HY := Lib.hid hy
  have HX := Lib.hid hx
  rw [hx] at q1 ⊢
  rw [hy] at q0 ⊢
  clear hx hy
  have HQx := Lib.hid q1
  have HQy := Lib.hid q0
  have HRW := Lib.hid (H.out.below HBW.out)
  have HRs : Hid (TextsAt W sa n S) := Lib.hid (by have h := HRW.out.s; rw [← HRR.out] at h; exact h)
  have hn4 : n ≤ 4096 := by have h := HRW.out.n; rw [← HRR.out] at h; exact h
  have HN4 := Lib.hid hn4
  have hzs : sa = none → sc = 0 := by have h := HRW.out.zs; rw [← HRR.out] at h; exact h
  have HZs := Lib.hid hzs
  have HAW := Lib.hid (HA.out.mono (T := fun b => W.heap.size ≤ b) HBW.out (fun b hb hT => by have := HBW.out.size; omega))
  have hq4 : Quad y (.slice sa n sc) (.slice na n nc) (.int .i64 lf) (.bool d) (W.alloc (.cells #[] 9)) := q0.keep ((Below.refl _ _).alloc (Nat.le_refl _) _)
  obtain ⟨⟨c0, c1, c2, c3⟩, _⟩ := hq4.cells
  clear q0 q1 hq4 H HA hn4 hzs
  go_upto_region 2 with (at_builtin; (refine wpList_copy_texts rfl _ _ rfl W sa n sc S rfl rfl HRs.out HN4.out HZs.out ?_); (intro g cap w3 ht hf hb hg); (have HT3 := Lib.hid ht); (have HF3 := Lib.hid hf); (have HB3 := Lib.hid hb); (have HG3 := Lib.hid hg); (clear ht hf hb hg))
  have HR3 := Lib.hid (HRW.out.below HB3.out)
  have HQx3 := Lib.hid (HQx.out.keep HB3.out)
  have HQy3 := Lib.hid (HQy.out.keep HB3.out)
  have HA3 : Hid (IntsApart (fun b => b = g) w3 a l es) := Lib.hid (HAW.out.mono HB3.out fun b hb hT => by have := HG3.out; omega)
  have HBw3 : Hid (Below w.heap.size w w3) := Lib.hid (HBW.out.trans (HB3.out.mono HBW.out.size))
  obtain ⟨⟨d0, d1, d2, d3⟩, _⟩ := HQy3.out.cells
  clear c0 c1 c2 c3 HRs HAW
  go_wp2_with fail
  refine (HLo.out _ HR3.out).mono ?_
  rintro e w4 ⟨v, rfl, hown, hb4⟩
  obtain ⟨_, qa, qc, rfl⟩ := rowOwn hown
  have HV : Hid (IntsApart (fun b => b < w3.heap.size) w4 qa m (fun j => (L.getD j 0 : Nat))) := Lib.hid (loose_row HM.out hown)
  have HGl : Hid (0 < n → g < w3.heap.size) := Lib.hid fun h0 => by
    rcases HT3.out with h | ⟨b, e, hr⟩
    · omega
    · obtain rfl : g = b := by simpa using e
      exact cell_lt (hr 0 h0)
  have HC0 : Hid (CrW RR (cutOf l es) g w4 0 w4) := Lib.hid ⟨by
    rw [H0.out, ← HRR.out]
    exact HT3.out.below hb4, fun h0 j => by
    rw [hb4.frozen (p := ⟨g, j, none⟩) (HGl.out (by rw [← HRR.out] at h0; exact h0))]
    exact HF3.out j, Grew.refl w4⟩
  have HB4 := Lib.hid (HBw3.out.trans (hb4.mono HBw3.out.size))
  have HQx4 := Lib.hid (HQx3.out.keep hb4)
  have HQy4 := Lib.hid (HQy3.out.keep hb4)
  have HR4 := Lib.hid (HR3.out.below hb4)
  have HA4 : Hid (IntsApart (fun b => b = g) w4 a l es) := Lib.hid (HA3.out.mono hb4 fun b _ e => e)
  have HL43 := Lib.hid hb4.size
  clear hown hb4 d0 d1 d2 d3 HQx3 HQy3 HR3 HA3 HBw3 HLo
  go_wp2_with fail
  go_loopw [16] (fun i wx => ∃ k : Nat, k ≤ m ∧ i = .int .i64 (k : Int) ∧ CrW RR (cutOf l es) g w4 k wx) (fun i _ => m - (intOf i).toNat)
  case atStart => exact ⟨0, by omega, rfl, HC0.out⟩
  case round =>
    obtain ⟨k, hk, rfl, hc⟩ := hrel
    have HC := Lib.hid hc
    clear hc HC0
    by_cases hlt : k < m
    · have i0 : (k : Int) < (m : Int) := by omega
      have i1 : (0 : Int) ≤ (k : Int) := by omega
      have hin := HLt.out k hlt
      have hn0 : 0 < n := by omega
      have hg3 := HGl.out hn0
      have hg := HG3.out
      have hWs := HBW.out.size
      have hxW := HQx.out.lt
      have hyW := HQy.out.lt
      have HQyr := Lib.hid (HQy4.out.grew HC.out.grew (by omega))
      obtain ⟨⟨c0, c1, c2, c3⟩, _⟩ := HQyr.out.cells
      -- the loose sector
      have hvr := (HV.out.keep (w' := w4) (Grew.refl w4))
      rcases hvr with hz | ⟨g2, off, rfl, hg2, hr2⟩
      · omega
      have hcell : wr.cell? ⟨g2, off + k, none⟩ = some (.int .i64 ((L.getD k 0 : Nat) : Int)) := by
        rw [HC.out.grew.cell (p := ⟨g2, off + k, none⟩) (cell_lt (hr2 k hlt)) (by show ¬ g2 = g; omega)]
        exact hr2 k hlt
      have hs4 : TextsAt w4 sa n S := by have h := HR4.out.s; rw [← HRR.out] at h; exact h
      have hsW : TextsAt W sa n S := by have h := HRW.out.s; rw [← HRR.out] at h; exact h
      have ht4 : TextsAt w4 na n T := by have h := HR4.out.t; rw [← HRR.out] at h; exact h
      have htW : TextsAt W na n T := by have h := HRW.out.t; rw [← HRR.out] at h; exact h
      rcases hs4 with hz | ⟨sb, rfl, hs4⟩
      · omega
      rcases hsW with hz | ⟨sb', e, hsW⟩
      · omega
      obtain rfl : sb = sb' := by simpa using e
      rcases ht4 with hz | ⟨tb, rfl, ht4⟩
      · omega
      rcases htW with hz | ⟨tb', e, htW⟩
      · omega
      obtain rfl : tb = tb' := by simpa using e
      have hyg : y ≠ g := by omega
      have hsg : sb ≠ g := by have := cell_lt (hsW _ hin); omega
      have htg : tb ≠ g := by have := cell_lt (htW _ hin); omega
      have k1 : wr.cell? ⟨sb, L.getD k 0, none⟩ = some (.string ⟨(sec S (L.getD k 0)).toArray⟩) := by
        rw [HC.out.grew.cell (p := ⟨sb, L.getD k 0, none⟩) (cell_lt (hs4 _ hin)) hsg]
        exact hs4 _ hin
      have k2 : wr.cell? ⟨tb, L.getD k 0, none⟩ = some (.string ⟨(sec T (L.getD k 0)).toArray⟩) := by
        rw [HC.out.grew.cell (p := ⟨tb, L.getD k 0, none⟩) (cell_lt (ht4 _ hin)) htg]
        exact ht4 _ hin
      have hrow := HC.out.row
      have hfree := HC.out.free
      rw [← HRR.out] at hrow hfree
      have HTr := Lib.hid (HTe.out wr g k hrow hlt hin)
      have hgc : ∃ u, wr.cell? ⟨g, L.getD k 0, none⟩ = some u := by
        rcases hrow with hz | ⟨b, e, hr⟩
        · simp only at hz; omega
        · obtain rfl : g = b := by simpa using e
          exact ⟨_, hr _ hin⟩
      obtain ⟨old, hold⟩ := hgc
      have hofr := hfree hn0 (L.getD k 0)
      have zA : (⟨(sec T (L.getD k 0)).toArray⟩ : ByteArray).size = 64 := sec_length _ _
      have zB : (⟨(sec S (L.getD k 0)).toArray⟩ : ByteArray).size = 64 := sec_length _ _
      have HHK := Lib.hid hlt
      have hAr := HA4.out.keep HC.out.grew
      have hcc := cutOf_le l es k
      have hcut : cutOf l es k = if k < l then (min (max (es k) 0) 64).toNat else 0 := rfl
      have HGr := Lib.hid HC.out.grew
      have HFr := Lib.hid hfree
      clear hr2 hs4 hsW ht4 htW hrow hfree HV HA4 HR4 HRW hlt hk hg3 hg hWs hxW hyW HC HTe
      generalize L.getD k 0 = q at *
      generalize (⟨(sec T q).toArray⟩ : ByteArray) = A at *
      generalize (⟨(sec S q).toArray⟩ : ByteArray) = B at *
      have hq0 : (0 : Int) ≤ (q : Int) := by omega
      have hqn : (q : Int) < (n : Int) := by omega
      have zAi : (A.size : Int) = 64 := by omega
      have zBi : (B.size : Int) = 64 := by omega
      have hkk : k < 5000 := by have := HLn.out; have := HN4.out; have := HHK.out; omega
      generalize hctv : cutOf l es k = ct at *
      have HCtv := Lib.hid hctv
      clear hctv
      obtain ⟨ci, hci⟩ : ∃ ci : Int, (ct : Int) = ci := ⟨_, rfl⟩
      have hc0 : (0 : Int) ≤ ci := by omega
      have hc1 : ci ≤ 64 := by omega
      obtain rfl : ci.toNat = ct := by omega
      clear hci
      have hadd : ∀ wx : World, (Op.stringOp .add (A.extract 0 ci.toNat) (B.extract ci.toNat 64)).run Try.prog wx = .ok (.string (A.extract 0 ci.toNat ++ B.extract ci.toNat 64)) wx := fun wx => run_string_add_sum wx _ _ (by rw [ByteArray.size_extract, ByteArray.size_extract]; omega)
      have HAft : Hid (∀ V, (wr.setCell ⟨g, q, none⟩ V).cell? ⟨y, 0, none⟩ = some (.slice (some ⟨sb, 0, none⟩) n sc) ∧ (wr.setCell ⟨g, q, none⟩ V).cell? ⟨y, 1, none⟩ = some (.slice (some ⟨tb, 0, none⟩) n nc) ∧ (wr.setCell ⟨g, q, none⟩ V).cell? ⟨sb, q, none⟩ = some (.string B) ∧ (wr.setCell ⟨g, q, none⟩ V).cell? ⟨tb, q, none⟩ = some (.string A)) := Lib.hid fun V => by
        have off : ∀ b o, b ≠ g → (wr.setCell ⟨g, q, none⟩ V).cell? ⟨b, o, none⟩ = wr.cell? ⟨b, o, none⟩ := fun b o hb => World.cell?_setCell_other _ _ _ _ fun e => hb (congrArg Addr.block e).symm
        rw [off y 0 hyg, off y 1 hyg, off sb q hsg, off tb q htg]
        exact ⟨c0, c1, k1, k2⟩
      have HFn : Hid (∀ V, V = A.extract 0 ci.toNat ++ B.extract ci.toNat 64 → CrW RR (cutOf l es) g w4 (k + 1) (wr.setCell ⟨g, q, none⟩ (.string V)).drew) := Lib.hid fun V hV => by
        subst hV
        refine ⟨?_, fun h0 j => ?_, (HGr.out.setCell _ _ fun _ => rfl).drew⟩
        · rw [← HRR.out]
          exact HTr.out
        · show (wr.setCell ⟨g, q, none⟩ _).frozen? ⟨g, j, none⟩ = false
          rw [World.frozen?_setCell]
          exact HFr.out hn0 j
      clear HTr
      by_cases hkl : k < l
      · have i3 : (k : Int) < (l : Int) := by omega
        rw [if_pos hkl] at hcut
        rcases hAr with hz | ⟨b2, off2, rfl, _, hr⟩
        · omega
        have hcell2 := hr k hkl
        have hcase : (es k < 0 ∧ ci = 0) ∨ (es k = 0 ∧ ci = 0) ∨ (0 < es k ∧ es k < 64 ∧ es k = ci) ∨ (es k = 64 ∧ ci = 64) ∨ (64 < es k ∧ ci = 64) := by omega
        clear hr hcut
        generalize es k = ej at *
        rcases hcase with ⟨h1, rfl⟩ | ⟨rfl, rfl⟩ | ⟨h1, h2, rfl⟩ | ⟨rfl, rfl⟩ | ⟨h1, rfl⟩
        · go_wp2_with fail
          go_region_held3 (fun wx => wx.cell? ⟨y, 0, none⟩ = some (.slice (some ⟨sb, 0, none⟩) n sc) ∧ wx.cell? ⟨y, 1, none⟩ = some (.slice (some ⟨tb, 0, none⟩) n nc) ∧ wx.cell? ⟨sb, q, none⟩ = some (.string B) ∧ wx.cell? ⟨tb, q, none⟩ = some (.string A))
            (first | exact ⟨c0, c1, k1, k2⟩ | exact HAft.out _) (fail)
          go_wp2_with fail
          go_roundw
          case rel =>
            refine ⟨k + 1, by have := HHK.out; omega, by go_num, ?_⟩
            apply HFn.out
            simp
          case measure => simp [intOf]; have := HHK.out; omega
        · go_wp2_with fail
          go_region_held3 (fun wx => wx.cell? ⟨y, 0, none⟩ = some (.slice (some ⟨sb, 0, none⟩) n sc) ∧ wx.cell? ⟨y, 1, none⟩ = some (.slice (some ⟨tb, 0, none⟩) n nc) ∧ wx.cell? ⟨sb, q, none⟩ = some (.string B) ∧ wx.cell? ⟨tb, q, none⟩ = some (.string A))
            (first | exact ⟨c0, c1, k1, k2⟩ | exact HAft.out _) (fail)
          go_wp2_with fail
          go_roundw
          case rel =>
            refine ⟨k + 1, by have := HHK.out; omega, by go_num, ?_⟩
            apply HFn.out
            simp
          case measure => simp [intOf]; have := HHK.out; omega
        · go_wp2_with fail
          go_region_held3 (fun wx => wx.cell? ⟨y, 0, none⟩ = some (.slice (some ⟨sb, 0, none⟩) n sc) ∧ wx.cell? ⟨y, 1, none⟩ = some (.slice (some ⟨tb, 0, none⟩) n nc) ∧ wx.cell? ⟨sb, q, none⟩ = some (.string B) ∧ wx.cell? ⟨tb, q, none⟩ = some (.string A))
            (first | exact ⟨c0, c1, k1, k2⟩ | exact HAft.out _) (fail)
          go_wp2_with fail
          go_roundw
          case rel =>
            refine ⟨k + 1, by have := HHK.out; omega, by go_num, ?_⟩
            apply HFn.out
            simp
          case measure => simp [intOf]; have := HHK.out; omega
        · go_wp2_with fail
          go_region_held3 (fun wx => wx.cell? ⟨y, 0, none⟩ = some (.slice (some ⟨sb, 0, none⟩) n sc) ∧ wx.cell? ⟨y, 1, none⟩ = some (.slice (some ⟨tb, 0, none⟩) n nc) ∧ wx.cell? ⟨sb, q, none⟩ = some (.string B) ∧ wx.cell? ⟨tb, q, none⟩ = some (.string A))
            (first | exact ⟨c0, c1, k1, k2⟩ | exact HAft.out _) (fail)
          go_wp2_with fail
          go_roundw
          case rel =>
            refine ⟨k + 1, by have := HHK.out; omega, by go_num, ?_⟩
            apply HFn.out
            simp
          case measure => simp [intOf]; have := HHK.out; omega
        · go_wp2_with fail
          go_region_held3 (fun wx => wx.cell? ⟨y, 0, none⟩ = some (.slice (some ⟨sb, 0, none⟩) n sc) ∧ wx.cell? ⟨y, 1, none⟩ = some (.slice (some ⟨tb, 0, none⟩) n nc) ∧ wx.cell? ⟨sb, q, none⟩ = some (.string B) ∧ wx.cell? ⟨tb, q, none⟩ = some (.string A))
            (first | exact ⟨c0, c1, k1, k2⟩ | exact HAft.out _) (fail)
          go_wp2_with fail
          go_roundw
          case rel =>
            refine ⟨k + 1, by have := HHK.out; omega, by go_num, ?_⟩
            apply HFn.out
            simp
          case measure => simp [intOf]; have := HHK.out; omega
      · have i3 : ¬ (k : Int) < (l : Int) := by omega
        rw [if_neg hkl] at hcut
        obtain rfl : ci = 0 := by omega
        clear hcut
        clear hAr
        · go_wp2_with fail
          go_region_held3 (fun wx => wx.cell? ⟨y, 0, none⟩ = some (.slice (some ⟨sb, 0, none⟩) n sc) ∧ wx.cell? ⟨y, 1, none⟩ = some (.slice (some ⟨tb, 0, none⟩) n nc) ∧ wx.cell? ⟨sb, q, none⟩ = some (.string B) ∧ wx.cell? ⟨tb, q, none⟩ = some (.string A))
            (first | exact ⟨c0, c1, k1, k2⟩ | exact HAft.out _) (fail)
          go_wp2_with fail
          go_roundw
          case rel =>
            refine ⟨k + 1, by have := HHK.out; omega, by go_num, ?_⟩
            apply HFn.out
            simp
          case measure => simp [intOf]; have := HHK.out; omega
    · have i0 : ¬ (k : Int) < (m : Int) := by omega
      obtain rfl : k = m := by omega
      have HRow : Hid (TextsAt wr (some ⟨g, 0, none⟩) n FS) := Lib.hid (by have h := HC.out.row; rw [HFin.out.1, ← HRR.out] at h; exact h)
      have HSm : Hid (∀ i, i < n → sameIn FT FS i) := Lib.hid (by have h := HFin.out.2; rw [← HRR.out] at h; exact h)
      have hxg : x ≠ g := by have := HQx.out.lt; have := HG3.out; omega
      have HQxr := Lib.hid (HQx4.out.grew HC.out.grew hxg)
      have HBr := Lib.hid (HC.out.grew.below HB4.out HB4.out.size fun b e => by have := HG3.out; have := HBW.out.size; omega)
      have HXg := Lib.hid hxg

      clear hxg hlt hk HC HV HA4 HR4 HRW HQy HQy4 HTe
      go_upto_region 10 with fail
      go_wp2_with (at_builtin; (refine wpList_copy_texts rfl _ _ rfl wr (some ⟨g, 0, none⟩) n cap FS rfl rfl HRow.out HN4.out (fun e => by cases e) ?_); (intro g' cap' w6 ht hf hb hg); (obtain ⟨⟨d0, d1, d2, d3⟩, f0, f1, f2, f3⟩ := (HQxr.out.keep hb).cells); (have HT6 := Lib.hid ht); (have HB6 := Lib.hid hb); (have HG6 := Lib.hid hg); (clear ht hf hb hg))
      have HQ6 := Lib.hid (HQxr.out.keep HB6.out)
      have HR := Lib.hid (quad_set HQ6.out.at' (.slice (some ⟨g, 0, none⟩) n cap) (.slice (some ⟨g', 0, none⟩) n cap') (.int .i64 (-1)) (.bool false))
      refine bodyPost_ret (results_cell_row rfl _ _ x _ _ _ _ rfl HR.out Try.underlying28 rfl size_ref) rfl ?_
      have hgr : Grew (fun k => k = x) w6 ((((w6.setCell ⟨x, 0, none⟩ (.slice (some ⟨g, 0, none⟩) n cap)).setCell ⟨x, 1, none⟩ (.slice (some ⟨g', 0, none⟩) n cap')).setCell ⟨x, 2, none⟩ (.int .i64 (-1))).setCell ⟨x, 3, none⟩ (.bool false)) :=
        ((((Grew.refl (S := fun k => k = x) w6).setCell ⟨x, 0, none⟩ _ fun _ => rfl).setCell ⟨x, 1, none⟩ _ fun _ => rfl).setCell ⟨x, 2, none⟩ _ fun _ => rfl).setCell ⟨x, 3, none⟩ _ fun _ => rfl
      have hB6 : Below w.heap.size w w6 := HBr.out.trans (HB6.out.mono HBr.out.size)
      have hx := HX.out
      have hBf := hgr.below hB6 hB6.size (fun k e => by omega)
      have hxg := HXg.out
      have hxr := HQxr.out.lt
      have hg6 := HG6.out
      refine ⟨⟨some ⟨g, 0, none⟩, some ⟨g', 0, none⟩, n, cap, cap', FS, FT, -1, false⟩, rfl, rfl, rfl, rfl, rfl, rfl, ⟨(HRow.out.below HB6.out).keep hgr (fun b e => ?_), (HT6.out.same HSm.out).keep hgr (fun b e => ?_), HN4.out, (fun e => nomatch e), (fun e => nomatch e)⟩, hBf⟩
      · obtain rfl : g = b := by simpa using e
        exact fun e => hxg e.symm
      · obtain rfl : g' = b := by simpa using e
        show ¬ g' = x
        omega
end Go.Proofs.Ytjggofbaipppbaa
