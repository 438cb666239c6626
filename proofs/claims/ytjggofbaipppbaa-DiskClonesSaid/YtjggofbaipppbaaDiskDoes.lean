/-
  The law's `does`: a call on both disks.
-/
import Derived.Test.YtjggofbaipppbaaDiskDoesA
import Derived.Deep.CutBlock
namespace Go.Proofs.Ytjggofbaipppbaa
open Go.RowKit

/-- the document's disk stored to the result's box -/
def setR (w : World) (r : RefM) (wx : World) : World := (((wx.setCell ⟨w.heap.size + 3, 0, none⟩ (.slice r.sa r.n r.sc)).setCell ⟨w.heap.size + 3, 1, none⟩ (.slice r.na r.n r.nc)).setCell ⟨w.heap.size + 3, 2, none⟩ (.int .i64 r.left)).setCell ⟨w.heap.size + 3, 3, none⟩ (.bool r.dead)
theorem setR_grew (w : World) (r : RefM) (wx : World) : Grew (fun k => k = w.heap.size + 3) wx (setR w r wx) :=
  ((((Grew.refl (S := fun k => k = w.heap.size + 3) wx).setCell ⟨w.heap.size + 3, 0, none⟩ _ fun _ => rfl).setCell ⟨w.heap.size + 3, 1, none⟩ _ fun _ => rfl).setCell ⟨w.heap.size + 3, 2, none⟩ _ fun _ => rfl).setCell ⟨w.heap.size + 3, 3, none⟩ _ fun _ => rfl
theorem setR_off {w : World} (r : RefM) (wx : World) {q : Addr} (h : q.block ≠ w.heap.size + 3) : (setR w r wx).cell? q = wx.cell? q := by
  unfold setR
  rw [World.cell?_setCell_far _ _ _ _ (fun e => h e.symm), World.cell?_setCell_far _ _ _ _ (fun e => h e.symm), World.cell?_setCell_far _ _ _ _ (fun e => h e.symm), World.cell?_setCell_far _ _ _ _ (fun e => h e.symm)]
theorem DoPost.setR {m : DiskM} {w : World} {p : Nat} {r r2 : RefM} {kind a n : Int} {s : ByteArray} {ca : Option Addr} {cl cc : Nat} {A : Int} {wx : World} (hB : Bx w p r kind a n s ca cl cc A wx) (hlt : ∀ k, m.own k → k < w.heap.size) (h : DoPost m w p r2 wx) : DoPost m w p r2 (setR w r2 wx) := by
  obtain ⟨m', h1, h2, h3, h4, h5, h6⟩ := h
  have g := setR_grew w r2 wx
  refine ⟨m', h1, h2, h3.keep g fun k hk e => ?_, h4.keepC g fun b t hc e => ?_, h5.step g fun k hk e => ?_, h6⟩
  · rcases h6.1 k hk with h | h
    · have := hlt k h; omega
    · omega
  · have e : b = w.heap.size + 3 := e
    rw [e, hB.q3.cells.1.1] at hc
    cases hc
  · have e : k = w.heap.size + 3 := e
    omega
/-- behind the program's call and the store of the document's disk -/
theorem doFin {m : DiskM} {w : World} {r r' : RefM} {kind a n : Int} {s : ByteArray} {ca : Option Addr} {cl cc : Nat} {A o : Int} {V : World} (OF : Option Int → DiskM → Prop) (hsame : ∀ o' m', OF o' m' → Same m m') (hrel : ∀ o' m', OF o' m' → o'.getD 0 = o ∧ Rel m' r')
    (hD : DiskAt m w) (hB : Bx w m.d r kind a n s ca cl cc A V) (hDV : DiskAt m V) (hRV : RefAt r' V) (hGV : Grew m.own w V) (o' : Option Int) (m' : DiskM) (wx : World) (hw : OF o' m') (hd : DiskAt m' wx) (hg : Grew m.own V wx) :
    (o'.getD 0 == o) = true ∧ ∃ p r2, Bx w p r2 kind a n s ca cl cc A (setX w r' wx) ∧ DoPost m w p r2 (setX w r' wx) := by
  obtain ⟨f1, f2⟩ := hrel o' m' hw
  have hs := hsame o' m' hw
  have hB2 := hB.step hg fun j e => Or.inl (hD.below j e)
  have hp : DoPost m w m.d r' wx := ⟨m', hs.d, f2, hd, hRV.keepD (hs.n.symm.trans f2.n) hDV hg, hGV.trans hg, fun j hj => Or.inl (by rw [hs.own] at hj; exact hj), hs.n⟩
  exact ⟨by rw [f1]; simp, m.d, r', hB2.setX r', hp.setX hB2 hD⟩
set_option maxRecDepth 100000 in
set_option maxHeartbeats 8000000 in
theorem does_any (m : DiskM) (r : RefM) (hR : Rel m r) (kind a n : Int) (s : ByteArray) (hs : s.size ≤ maxLen) (ca : Option Addr) (cl cc : Nat) (es : Nat → Int) (w : World) (hD : DiskAt m w) (hr : RefAt r w) (hA : IntsApart m.own w ca cl es) :
    Calls Try.prog 12 #[.pointer (some ⟨m.d, 0, none⟩), .agg r.cells, .agg #[.int .i64 kind, .int .i64 a, .int .i64 n, .string s, .slice ca cl cc]] w fun e w' => ∃ p r', e = .returned (.tuple #[.pointer (some ⟨p, 0, none⟩), .agg r'.cells, .bool true]) ∧ DoPost m w p r' w' := by
  have HRel := Lib.hid hR
  have HD := Lib.hid hD
  have HRf := Lib.hid hr
  have HA := Lib.hid hA
  have hcut := fun wx => cut_any s 70 wx hs (by omega)
  have HCut := Lib.hid hcut
  clear hR hD hr hA hcut
  obtain ⟨k0, hk0, hk0l⟩ := maskD kind 255 (by decide)
  have hk0' : bits .and .i64 kind 255 = (k0 : Int) := hk0
  obtain ⟨k, hkm⟩ : ∃ k : Nat, (k0 : Int) % 10 = (k : Int) := ⟨k0 % 10, by omega⟩
  have HK : Hid (k < 10) := Lib.hid (by omega)
  have hk0n : (0 : Int) ≤ (k0 : Int) := by omega
  clear hk0
  obtain ⟨A, hAo⟩ : ∃ A, atOf a = A := ⟨_, rfl⟩
  have HAt := Lib.hid hAo
  clear hAo
  generalize hSz : s.extract 0 (min 70 s.size) = t at *
  clear hSz
  have e1 : r.cells = #[.slice r.sa r.n r.sc, .slice r.na r.n r.nc, .int .i64 r.left, .bool r.dead] := rfl
  rw [e1]
  clear e1
  go_enter Try.func12, Try.ntmps12
  go_upto_region 1 with fail
  have HB : Hid (∀ v, Bx w m.d r kind a n s ca cl cc v (((((w.alloc (.cells #[.pointer (some ⟨m.d, 0, none⟩)] 24)).alloc (.cells #[.slice r.sa r.n r.sc, .slice r.na r.n r.nc, .int .i64 r.left, .bool r.dead] 28)).alloc (.cells #[.int .i64 kind, .int .i64 a, .int .i64 n, .string s, .slice ca cl cc] 34)).alloc (.cells #[.slice none 0 0, .slice none 0 0, .int .i64 0, .bool false] 28)).alloc (.cells #[.int .i64 v] 3)) ∧ Grew (fun _ => False) w (((((w.alloc (.cells #[.pointer (some ⟨m.d, 0, none⟩)] 24)).alloc (.cells #[.slice r.sa r.n r.sc, .slice r.na r.n r.nc, .int .i64 r.left, .bool r.dead] 28)).alloc (.cells #[.int .i64 kind, .int .i64 a, .int .i64 n, .string s, .slice ca cl cc] 34)).alloc (.cells #[.slice none 0 0, .slice none 0 0, .int .i64 0, .bool false] 28)).alloc (.cells #[.int .i64 v] 3))) := Lib.hid fun v => by
    have s1 : (w.alloc (.cells #[.pointer (some ⟨m.d, 0, none⟩)] 24)).heap.size = w.heap.size + 1 := by simp
    obtain ⟨x, hx⟩ : ∃ x, x = w.alloc (.cells #[.pointer (some ⟨m.d, 0, none⟩)] 24) := ⟨_, rfl⟩
    rw [← hx] at s1 ⊢
    have g1 : Grew (fun _ => False) w x := by rw [hx]; exact (Grew.refl w).alloc _
    have b0 : x.cell? ⟨w.heap.size, 0, none⟩ = some (.pointer (some ⟨m.d, 0, none⟩)) := by rw [hx]; exact boxNew rfl
    have f0 : x.frozen? ⟨w.heap.size, 0, none⟩ = false := by rw [hx]; exact boxFree rfl
    clear hx
    have gx : Grew (fun _ => False) x ((((x.alloc (.cells #[.slice r.sa r.n r.sc, .slice r.na r.n r.nc, .int .i64 r.left, .bool r.dead] 28)).alloc (.cells #[.int .i64 kind, .int .i64 a, .int .i64 n, .string s, .slice ca cl cc] 34)).alloc (.cells #[.slice none 0 0, .slice none 0 0, .int .i64 0, .bool false] 28)).alloc (.cells #[.int .i64 v] 3)) := ((((Grew.refl x).alloc _).alloc _).alloc _).alloc _
    refine ⟨⟨by rw [gx.cell (p := ⟨w.heap.size, 0, none⟩) (by show w.heap.size < _; omega) fun e => e]; exact b0, by rw [gx.frozen (p := ⟨w.heap.size, 0, none⟩) (by show w.heap.size < _; omega) fun e => e]; exact f0, ⟨?_⟩, ?_, ⟨?_⟩, ?_⟩, g1.trans gx⟩
    · rw [Below.heap_alloc _ _ _ (by simp; omega), Below.heap_alloc _ _ _ (by simp; omega), Below.heap_alloc _ _ _ (by simp; omega), ← s1]
      exact heap_alloc_new _ _
    · have s2 : (x.alloc (.cells #[.slice r.sa r.n r.sc, .slice r.na r.n r.nc, .int .i64 r.left, .bool r.dead] 28)).heap.size = w.heap.size + 2 := by simp [s1]
      rw [Below.heap_alloc _ _ _ (by simp; omega), Below.heap_alloc _ _ _ (by simp; omega), ← s2]
      exact heap_alloc_new _ _
    · have s3 : ((x.alloc (.cells #[.slice r.sa r.n r.sc, .slice r.na r.n r.nc, .int .i64 r.left, .bool r.dead] 28)).alloc (.cells #[.int .i64 kind, .int .i64 a, .int .i64 n, .string s, .slice ca cl cc] 34)).heap.size = w.heap.size + 3 := by simp [s1]
      rw [Below.heap_alloc _ _ _ (by simp; omega), ← s3]
      exact heap_alloc_new _ _
    · exact boxNew (by simp [s1])
  have ha1 : ((((w.alloc (.cells #[.pointer (some ⟨m.d, 0, none⟩)] 24)).alloc (.cells #[.slice r.sa r.n r.sc, .slice r.na r.n r.nc, .int .i64 r.left, .bool r.dead] 28)).alloc (.cells #[.int .i64 kind, .int .i64 a, .int .i64 n, .string s, .slice ca cl cc] 34)).alloc (.cells #[.slice none 0 0, .slice none 0 0, .int .i64 0, .bool false] 28)).cell? ⟨w.heap.size + 2, 1, none⟩ = some (.int .i64 a) := by
    have h := (HB.out 0).1.a5
    rw [Below.heap_alloc _ _ _ (by simp)] at h
    exact (five_at h).2.1
  have hWs : ((((w.alloc (.cells #[.pointer (some ⟨m.d, 0, none⟩)] 24)).alloc (.cells #[.slice r.sa r.n r.sc, .slice r.na r.n r.nc, .int .i64 r.left, .bool r.dead] 28)).alloc (.cells #[.int .i64 kind, .int .i64 a, .int .i64 n, .string s, .slice ca cl cc] 34)).alloc (.cells #[.slice none 0 0, .slice none 0 0, .int .i64 0, .bool false] 28)).heap.size = w.heap.size + 4 := by simp
  generalize ((((w.alloc (.cells #[.pointer (some ⟨m.d, 0, none⟩)] 24)).alloc (.cells #[.slice r.sa r.n r.sc, .slice r.na r.n r.nc, .int .i64 r.left, .bool r.dead] 28)).alloc (.cells #[.int .i64 kind, .int .i64 a, .int .i64 n, .string s, .slice ca cl cc] 34)).alloc (.cells #[.slice none 0 0, .slice none 0 0, .int .i64 0, .bool false] 28)) = W at *
  go_upto_region 2 with fail
  clear ha1
  go_cut [32] (fun c wx => c = .bool (decide (0 ≤ a ∧ a < 40)) ∧ wx = W.alloc (.cells #[.int .i64 a] 3))
  case first =>
    have h4 : (W.alloc (.cells #[.int .i64 a] 3)).cell? ⟨w.heap.size + 4, 0, none⟩ = some (.int .i64 a) := (HB.out a).1.b4
    by_cases h0 : 0 ≤ a
    · by_cases h1 : a < 40
      · go_wp2_with fail
        go_meet
        exact ⟨by rw [decide_eq_true (⟨h0, h1⟩ : 0 ≤ a ∧ a < 40)], rfl⟩
      · go_wp2_with fail
        go_meet
        exact ⟨by rw [decide_eq_false (show ¬ (0 ≤ a ∧ a < 40) by omega)], rfl⟩
    · go_wp2_with fail
      go_meet
      exact ⟨by rw [decide_eq_false (show ¬ (0 ≤ a ∧ a < 40) by omega)], rfl⟩
  case rest =>
    obtain ⟨rfl, rfl⟩ := hcut
    go_upto_if 32 with fail
    go_cut [] (fun wx => Bx w m.d r kind a n s ca cl cc A wx ∧ Grew (fun _ => False) w wx)
    case first =>
      by_cases h0 : 0 ≤ a ∧ a < 40
      · have h4 : (W.alloc (.cells #[.int .i64 a] 3)).cell? ⟨w.heap.size + 4, 0, none⟩ = some (.int .i64 a) := (HB.out a).1.b4
        have h5 : (W.alloc (.cells #[.int .i64 a] 3)).frozen? ⟨w.heap.size + 4, 0, none⟩ = false := boxFree hWs
        have hA' : a % 10 = A := by rw [← HAt.out]; unfold atOf; rw [if_pos h0]
        rw [decide_eq_true h0]
        go_wp2_with fail
        go_meet
        exact HB.out A
      · have hA' : a = A := by rw [← HAt.out]; unfold atOf; rw [if_neg h0]
        rw [decide_eq_false h0]
        go_wp2_with fail
        go_meet
        rw [← hA']
        exact HB.out a
    case rest =>
      obtain ⟨hbx, hg⟩ := hcut
      have HBx := Lib.hid hbx
      have HG := Lib.hid hg
      clear hbx hg HB hWs
      obtain ⟨y0, y1, y2, y3, y4⟩ := five_at HBx.out.a5
      go_wp2_with fail
      refine (HCut.out _).mono ?_
      rintro e w' ⟨rfl, rfl⟩
      clear HCut
      go_upto_block 0 with fail
      rw [hkm]
      clear hkm hk0n hk0l hk0'
      have HD0 : Hid (DiskAt m wc) := Lib.hid (HD.out.keep HG.out fun _ _ e => e)
      have HW0 : Hid (Below w.heap.size w wc) := Lib.hid (HG.out.below (Below.refl _ _) (Nat.le_refl _) fun _ e => e.elim)
      have HR0 : Hid (RefAt r wc) := Lib.hid (HRf.out.below HW0.out)
      have HA0 : Hid (IntsApart m.own wc ca cl es) := Lib.hid (HA.out.keep (HG.out.mono fun _ _ e => e.elim))
      have HLt : Hid (∀ j, m.own j → j < w.heap.size) := Lib.hid HD.out.below
      have HGr : Hid (Grew m.own w wc) := Lib.hid (HG.out.mono fun _ _ e => e.elim)
      have HL5 : Hid (w.heap.size + 5 ≤ wc.heap.size) := Lib.hid (cell_lt HBx.out.b4)
      clear HG y0 y1 y2 y3 y4
      go_cut [11] from 13 to 143 (fun ok wx => ok = .bool true ∧ ∃ p r', Bx w p r' kind a n s ca cl cc A wx ∧ DoPost m w p r' wx)
      case first =>
        obtain ⟨⟨c0, c1, c2, c3⟩, _⟩ := HBx.out.q1.cells
        obtain ⟨y0, y1, y2, y3, y4⟩ := five_at HBx.out.a5
        have b0 := HBx.out.b0
        have b4 := HBx.out.b4
        have hcase : k < 4 ∨ k = 4 ∨ k = 5 ∨ k = 6 ∨ k = 7 ∨ k = 8 ∨ k = 9 := by have := HK.out; omega
        rcases hcase with hk | rfl | rfl | rfl | rfl | rfl | rfl
        · have i0 : (k : Int) < 4 := by omega
          have HWr := Lib.hid (refWrite_rel m r HRel.out A t wc HR0.out)
          have HLw := Lib.hid (fun wx h => lawWrite_any m A t wx h HRel.out.fits)
          have e1 : r.cells = #[.slice r.sa r.n r.sc, .slice r.na r.n r.nc, .int .i64 r.left, .bool r.dead] := rfl
          rw [e1] at HWr
          clear e1
          go_wp2_with fail
          refine HWr.out.mono ?_
          rintro e w1 ⟨o, r', rfl, hr1, hb1, hrel⟩
          have HR1 := Lib.hid hr1
          have HB1 := Lib.hid hb1
          have HRl := Lib.hid hrel
          have e1 : r'.cells = #[.slice r'.sa r'.n r'.sc, .slice r'.na r'.n r'.nc, .int .i64 r'.left, .bool r'.dead] := rfl
          rw [e1]
          clear e1 hr1 hb1 hrel HWr
          go_upto_region 13 with fail
          have HQV : Hid (Quad w1.heap.size (.slice r'.sa r'.n r'.sc) (.slice r'.na r'.n r'.nc) (.int .i64 r'.left) (.bool r'.dead) (w1.alloc (.cells #[.slice r'.sa r'.n r'.sc, .slice r'.na r'.n r'.nc, .int .i64 r'.left, .bool r'.dead] 28))) := Lib.hid ⟨heap_alloc_new w1 _⟩
          have hgV : Grew (fun _ => False) wc (w1.alloc (.cells #[.slice r'.sa r'.n r'.sc, .slice r'.na r'.n r'.nc, .int .i64 r'.left, .bool r'.dead] 28)) := (Grew.of_below HB1.out).alloc _
          have HBV := Lib.hid (HBx.out.step hgV fun _ e => e.elim)
          have HDV : Hid (DiskAt m (w1.alloc (.cells #[.slice r'.sa r'.n r'.sc, .slice r'.na r'.n r'.nc, .int .i64 r'.left, .bool r'.dead] 28))) := Lib.hid (HD0.out.keep hgV fun _ _ e => e)
          have HRV : Hid (RefAt r' (w1.alloc (.cells #[.slice r'.sa r'.n r'.sc, .slice r'.na r'.n r'.nc, .int .i64 r'.left, .bool r'.dead] 28))) := Lib.hid (HR1.out.below ((Below.refl _ _).alloc (Nat.le_refl _) _))
          have HGV : Hid (Grew m.own w (w1.alloc (.cells #[.slice r'.sa r'.n r'.sc, .slice r'.na r'.n r'.nc, .int .i64 r'.left, .bool r'.dead] 28))) := Lib.hid (HGr.out.trans (hgV.mono fun _ _ e => e.elim))
          have HqL : Hid (w.heap.size + 5 ≤ w1.heap.size) := Lib.hid (Nat.le_trans HL5.out HB1.out.size)
          clear hgV HR1 HB1 HGr c0 c1 c2 c3 y0 y1 y2 y3 y4 b0 b4
          generalize (w1.alloc (.cells #[.slice r'.sa r'.n r'.sc, .slice r'.na r'.n r'.nc, .int .i64 r'.left, .bool r'.dead] 28)) = V at *
          generalize w1.heap.size = q at *
          obtain ⟨⟨c0, c1, c2, c3⟩, _⟩ := HQV.out.cells
          have b0 := HBV.out.b0
          have b4 := HBV.out.b4
          obtain ⟨⟨d0, d1, d2, d3⟩, z0, z1, z2, z3⟩ := HBV.out.q1.cells
          have HSk : Hid (∀ wx, Grew m.own V.drew wx → (wx.cell? ⟨q, 0, none⟩ = some (.slice r'.sa r'.n r'.sc) ∧ wx.cell? ⟨q, 1, none⟩ = some (.slice r'.na r'.n r'.nc) ∧ wx.cell? ⟨q, 2, none⟩ = some (.int .i64 r'.left) ∧ wx.cell? ⟨q, 3, none⟩ = some (.bool r'.dead)) ∧ ((wx.cell? ⟨w.heap.size + 1, 0, none⟩ = some (.slice r.sa r.n r.sc) ∧ wx.cell? ⟨w.heap.size + 1, 1, none⟩ = some (.slice r.na r.n r.nc) ∧ wx.cell? ⟨w.heap.size + 1, 2, none⟩ = some (.int .i64 r.left) ∧ wx.cell? ⟨w.heap.size + 1, 3, none⟩ = some (.bool r.dead)) ∧ wx.frozen? ⟨w.heap.size + 1, 0, none⟩ = false ∧ wx.frozen? ⟨w.heap.size + 1, 1, none⟩ = false ∧ wx.frozen? ⟨w.heap.size + 1, 2, none⟩ = false ∧ wx.frozen? ⟨w.heap.size + 1, 3, none⟩ = false)) := Lib.hid fun wx hg => by
            have hq := HQV.out.grew (undrew hg) (fun e => by have := HLt.out _ e; have := HqL.out; omega)
            exact ⟨hq.cells.1, (HBV.out.q1.grew (undrew hg) (fun e => by have := HLt.out _ e; omega)).cells⟩
          have HSg : Hid (∀ wx, Grew m.own V wx → (wx.cell? ⟨q, 0, none⟩ = some (.slice r'.sa r'.n r'.sc) ∧ wx.cell? ⟨q, 1, none⟩ = some (.slice r'.na r'.n r'.nc) ∧ wx.cell? ⟨q, 2, none⟩ = some (.int .i64 r'.left) ∧ wx.cell? ⟨q, 3, none⟩ = some (.bool r'.dead)) ∧ wx.cell? ⟨w.heap.size, 0, none⟩ = some (.pointer (some ⟨m.d, 0, none⟩)) ∧ wx.cell? ⟨w.heap.size + 4, 0, none⟩ = some (.int .i64 A)) := Lib.hid fun wx hg => by
            have hq := HQV.out.grew hg (fun e => by have := HLt.out _ e; have := HqL.out; omega)
            have hb := HBV.out.step hg fun j e => Or.inl (HLt.out j e)
            exact ⟨hq.cells.1, hb.b0, hb.b4⟩
          have HSs : Hid (∀ wx, Grew m.own V wx → ((setX w r' wx).cell? ⟨q, 0, none⟩ = some (.slice r'.sa r'.n r'.sc) ∧ (setX w r' wx).cell? ⟨q, 1, none⟩ = some (.slice r'.na r'.n r'.nc) ∧ (setX w r' wx).cell? ⟨q, 2, none⟩ = some (.int .i64 r'.left) ∧ (setX w r' wx).cell? ⟨q, 3, none⟩ = some (.bool r'.dead)) ∧ (setX w r' wx).cell? ⟨w.heap.size, 0, none⟩ = some (.pointer (some ⟨m.d, 0, none⟩)) ∧ (setX w r' wx).cell? ⟨w.heap.size + 4, 0, none⟩ = some (.int .i64 A)) := Lib.hid fun wx hg => by
            have hq := (HQV.out.grew hg (fun e => by have := HLt.out _ e; have := HqL.out; omega)).grew (setX_grew w r' wx) (by have := HqL.out; omega)
            have hb := (HBV.out.step hg fun j e => Or.inl (HLt.out j e)).setX r'
            exact ⟨hq.cells.1, hb.b0, hb.b4⟩
          have HFin := Lib.hid (fun o' m' wx (hw : WriteOf m A t o' m') (hd : DiskAt m' wx) (hg : Grew m.own V wx) => doFin (WriteOf m A t) (fun _ _ h => h.same) HRl.out HD.out HBV.out HDV.out HRV.out HGV.out o' m' wx hw hd hg)
          have HDVd : Hid (DiskAt m V.drew) := Lib.hid (HDV.out.keep (Grew.refl V).drew fun _ _ e => e)
          clear d0 d1 d2 d3 z0 z1 z2 z3
          go_region_held3 (fun wx => (wx.cell? ⟨q, 0, none⟩ = some (.slice r'.sa r'.n r'.sc) ∧ wx.cell? ⟨q, 1, none⟩ = some (.slice r'.na r'.n r'.nc) ∧ wx.cell? ⟨q, 2, none⟩ = some (.int .i64 r'.left) ∧ wx.cell? ⟨q, 3, none⟩ = some (.bool r'.dead)) ∧ wx.cell? ⟨w.heap.size, 0, none⟩ = some (.pointer (some ⟨m.d, 0, none⟩)) ∧ wx.cell? ⟨w.heap.size + 4, 0, none⟩ = some (.int .i64 A))
            (first | exact HSg.out V (Grew.refl V) | exact HSg.out _ HG2.out | exact HSs.out _ HG2.out)
            (first | (go_at_call 30; (with_reducible refine (HLw.out _ HDVd.out).mono ?_); rintro e w2 ⟨o', m', rfl, hw2, hd2, hg2⟩; (obtain ⟨_, ⟨l0, l1, l2, l3⟩, l4, l5, l6, l7⟩ := HSk.out w2 hg2); (have HG2 := Lib.hid (undrew hg2)); (have HW2 := Lib.hid (And.intro hw2 hd2)); clear hw2 hd2 hg2))
          all_goals
            have hfin := HFin.out _ _ _ HW2.out.1 HW2.out.2 HG2.out
            obtain ⟨hq, hrest⟩ := hfin
            have HRest := Lib.hid hrest
            clear hrest
            rw [hq]
            go_wp2_with fail
            go_meet
            exact ⟨rfl, HRest.out⟩
        · have HLr := Lib.hid (fun wx h => lawRead_any m A wx h)
          have HRr := Lib.hid (fun wx h => refRead_rel m r HRel.out A wx h)
          have e1 : r.cells = #[.slice r.sa r.n r.sc, .slice r.na r.n r.nc, .int .i64 r.left, .bool r.dead] := rfl
          rw [e1] at HRr
          clear e1
          go_wp2_with fail
          refine (HLr.out _ HD0.out).mono ?_
          rintro e w1 ⟨o', l, rfl, hw1, hd1, hg1⟩
          have HW1 := Lib.hid hw1
          have HD1 := Lib.hid hd1
          have hg1' := hg1 (fun _ => False)
          have HG1 : Hid (Grew m.own w w1) := Lib.hid (HGr.out.trans (hg1 m.own))
          have HB1 := Lib.hid (HBx.out.step hg1' fun _ e => e.elim)
          have HR1 : Hid (RefAt r w1) := Lib.hid (HR0.out.keepC hg1' fun _ _ _ e => e)
          clear hw1 hd1 hg1 hg1' c0 c1 c2 c3 y0 y1 y2 y3 y4 b0 b4
          obtain ⟨⟨c0, c1, c2, c3⟩, _⟩ := HB1.out.q1.cells
          have b4 := HB1.out.b4
          go_wp2_with fail
          refine (HRr.out _ HR1.out).mono ?_
          rintro e w2 ⟨o, s2, rfl, hb2, hrel⟩
          obtain ⟨f1, f2⟩ := hrel o' l HW1.out
          have HB2 := Lib.hid hb2
          clear hrel hb2
          rw [f2, f1]
          have i9 : (s2.toList == s2.toList) = true := by simp
          have i8 : (o == o) = true := by simp
          clear f1 f2
          go_wp2_with fail
          go_meet
          exact ⟨rfl, m.d, r, HB1.out.step (Grew.of_below (S := fun _ => False) HB2.out) (fun _ e => e.elim), m, rfl, HRel.out, HD1.out.keep (Grew.of_below (S := fun _ => False) HB2.out) (fun _ _ e => e), HR1.out.below HB2.out, HG1.out.trans (Grew.of_below HB2.out), fun j hj => Or.inl hj, rfl⟩
        · have HSy := Lib.hid (refSync_rel m r HRel.out wc HR0.out)
          have HLs := Lib.hid (fun wx h => lawSync_any m wx h HRel.out.fits)
          have e1 : r.cells = #[.slice r.sa r.n r.sc, .slice r.na r.n r.nc, .int .i64 r.left, .bool r.dead] := rfl
          rw [e1] at HSy
          clear e1
          go_wp2_with fail
          refine HSy.out.mono ?_
          rintro e w1 ⟨o, r', rfl, hr1, hb1, hrel⟩
          have HR1 := Lib.hid hr1
          have HB1 := Lib.hid hb1
          have HRl := Lib.hid hrel
          have e1 : r'.cells = #[.slice r'.sa r'.n r'.sc, .slice r'.na r'.n r'.nc, .int .i64 r'.left, .bool r'.dead] := rfl
          rw [e1]
          clear e1 hr1 hb1 hrel HSy
          go_upto_region 20 with fail
          have HQV : Hid (Quad w1.heap.size (.slice r'.sa r'.n r'.sc) (.slice r'.na r'.n r'.nc) (.int .i64 r'.left) (.bool r'.dead) (w1.alloc (.cells #[.slice r'.sa r'.n r'.sc, .slice r'.na r'.n r'.nc, .int .i64 r'.left, .bool r'.dead] 28))) := Lib.hid ⟨heap_alloc_new w1 _⟩
          have hgV : Grew (fun _ => False) wc (w1.alloc (.cells #[.slice r'.sa r'.n r'.sc, .slice r'.na r'.n r'.nc, .int .i64 r'.left, .bool r'.dead] 28)) := (Grew.of_below HB1.out).alloc _
          have HBV := Lib.hid (HBx.out.step hgV fun _ e => e.elim)
          have HDV : Hid (DiskAt m (w1.alloc (.cells #[.slice r'.sa r'.n r'.sc, .slice r'.na r'.n r'.nc, .int .i64 r'.left, .bool r'.dead] 28))) := Lib.hid (HD0.out.keep hgV fun _ _ e => e)
          have HRV : Hid (RefAt r' (w1.alloc (.cells #[.slice r'.sa r'.n r'.sc, .slice r'.na r'.n r'.nc, .int .i64 r'.left, .bool r'.dead] 28))) := Lib.hid (HR1.out.below ((Below.refl _ _).alloc (Nat.le_refl _) _))
          have HGV : Hid (Grew m.own w (w1.alloc (.cells #[.slice r'.sa r'.n r'.sc, .slice r'.na r'.n r'.nc, .int .i64 r'.left, .bool r'.dead] 28))) := Lib.hid (HGr.out.trans (hgV.mono fun _ _ e => e.elim))
          have HqL : Hid (w.heap.size + 5 ≤ w1.heap.size) := Lib.hid (Nat.le_trans HL5.out HB1.out.size)
          clear hgV HR1 HB1 HGr c0 c1 c2 c3 y0 y1 y2 y3 y4 b0 b4
          generalize (w1.alloc (.cells #[.slice r'.sa r'.n r'.sc, .slice r'.na r'.n r'.nc, .int .i64 r'.left, .bool r'.dead] 28)) = V at *
          generalize w1.heap.size = q at *
          obtain ⟨⟨c0, c1, c2, c3⟩, _⟩ := HQV.out.cells
          have b0 := HBV.out.b0
          have b4 := HBV.out.b4
          obtain ⟨⟨d0, d1, d2, d3⟩, z0, z1, z2, z3⟩ := HBV.out.q1.cells
          have HSk : Hid (∀ wx, Grew m.own V.drew wx → (wx.cell? ⟨q, 0, none⟩ = some (.slice r'.sa r'.n r'.sc) ∧ wx.cell? ⟨q, 1, none⟩ = some (.slice r'.na r'.n r'.nc) ∧ wx.cell? ⟨q, 2, none⟩ = some (.int .i64 r'.left) ∧ wx.cell? ⟨q, 3, none⟩ = some (.bool r'.dead)) ∧ ((wx.cell? ⟨w.heap.size + 1, 0, none⟩ = some (.slice r.sa r.n r.sc) ∧ wx.cell? ⟨w.heap.size + 1, 1, none⟩ = some (.slice r.na r.n r.nc) ∧ wx.cell? ⟨w.heap.size + 1, 2, none⟩ = some (.int .i64 r.left) ∧ wx.cell? ⟨w.heap.size + 1, 3, none⟩ = some (.bool r.dead)) ∧ wx.frozen? ⟨w.heap.size + 1, 0, none⟩ = false ∧ wx.frozen? ⟨w.heap.size + 1, 1, none⟩ = false ∧ wx.frozen? ⟨w.heap.size + 1, 2, none⟩ = false ∧ wx.frozen? ⟨w.heap.size + 1, 3, none⟩ = false)) := Lib.hid fun wx hg => by
            have hq := HQV.out.grew (undrew hg) (fun e => by have := HLt.out _ e; have := HqL.out; omega)
            exact ⟨hq.cells.1, (HBV.out.q1.grew (undrew hg) (fun e => by have := HLt.out _ e; omega)).cells⟩
          have HSg : Hid (∀ wx, Grew m.own V wx → (wx.cell? ⟨q, 0, none⟩ = some (.slice r'.sa r'.n r'.sc) ∧ wx.cell? ⟨q, 1, none⟩ = some (.slice r'.na r'.n r'.nc) ∧ wx.cell? ⟨q, 2, none⟩ = some (.int .i64 r'.left) ∧ wx.cell? ⟨q, 3, none⟩ = some (.bool r'.dead)) ∧ wx.cell? ⟨w.heap.size, 0, none⟩ = some (.pointer (some ⟨m.d, 0, none⟩)) ∧ wx.cell? ⟨w.heap.size + 4, 0, none⟩ = some (.int .i64 A)) := Lib.hid fun wx hg => by
            have hq := HQV.out.grew hg (fun e => by have := HLt.out _ e; have := HqL.out; omega)
            have hb := HBV.out.step hg fun j e => Or.inl (HLt.out j e)
            exact ⟨hq.cells.1, hb.b0, hb.b4⟩
          have HSs : Hid (∀ wx, Grew m.own V wx → ((setX w r' wx).cell? ⟨q, 0, none⟩ = some (.slice r'.sa r'.n r'.sc) ∧ (setX w r' wx).cell? ⟨q, 1, none⟩ = some (.slice r'.na r'.n r'.nc) ∧ (setX w r' wx).cell? ⟨q, 2, none⟩ = some (.int .i64 r'.left) ∧ (setX w r' wx).cell? ⟨q, 3, none⟩ = some (.bool r'.dead)) ∧ (setX w r' wx).cell? ⟨w.heap.size, 0, none⟩ = some (.pointer (some ⟨m.d, 0, none⟩)) ∧ (setX w r' wx).cell? ⟨w.heap.size + 4, 0, none⟩ = some (.int .i64 A)) := Lib.hid fun wx hg => by
            have hq := (HQV.out.grew hg (fun e => by have := HLt.out _ e; have := HqL.out; omega)).grew (setX_grew w r' wx) (by have := HqL.out; omega)
            have hb := (HBV.out.step hg fun j e => Or.inl (HLt.out j e)).setX r'
            exact ⟨hq.cells.1, hb.b0, hb.b4⟩
          have HFin := Lib.hid (fun o' m' wx (hw : SyncOf m o' m') (hd : DiskAt m' wx) (hg : Grew m.own V wx) => doFin (SyncOf m) (fun _ _ h => h.same) HRl.out HD.out HBV.out HDV.out HRV.out HGV.out o' m' wx hw hd hg)
          have HDVd : Hid (DiskAt m V.drew) := Lib.hid (HDV.out.keep (Grew.refl V).drew fun _ _ e => e)
          clear d0 d1 d2 d3 z0 z1 z2 z3
          go_region_held3 (fun wx => (wx.cell? ⟨q, 0, none⟩ = some (.slice r'.sa r'.n r'.sc) ∧ wx.cell? ⟨q, 1, none⟩ = some (.slice r'.na r'.n r'.nc) ∧ wx.cell? ⟨q, 2, none⟩ = some (.int .i64 r'.left) ∧ wx.cell? ⟨q, 3, none⟩ = some (.bool r'.dead)) ∧ wx.cell? ⟨w.heap.size, 0, none⟩ = some (.pointer (some ⟨m.d, 0, none⟩)) ∧ wx.cell? ⟨w.heap.size + 4, 0, none⟩ = some (.int .i64 A))
            (first | exact HSg.out V (Grew.refl V) | exact HSg.out _ HG2.out | exact HSs.out _ HG2.out)
            (first | (go_at_call 32; (with_reducible refine (HLs.out _ HDVd.out).mono ?_); rintro e w2 ⟨o', m', rfl, hw2, hd2, hg2⟩; (obtain ⟨_, ⟨l0, l1, l2, l3⟩, l4, l5, l6, l7⟩ := HSk.out w2 hg2); (have HG2 := Lib.hid (undrew hg2)); (have HW2 := Lib.hid (And.intro hw2 hd2)); clear hw2 hd2 hg2))
          all_goals
            have hfin := HFin.out _ _ _ HW2.out.1 HW2.out.2 HG2.out
            obtain ⟨hq, hrest⟩ := hfin
            have HRest := Lib.hid hrest
            clear hrest
            rw [hq]
            go_wp2_with fail
            go_meet
            exact ⟨rfl, HRest.out⟩
        · have HCd := Lib.hid (crash_any m ca cl cc es wc HD0.out HA0.out)
          have HCr := Lib.hid (fun wx h hA => refCrash_rel m r HRel.out ca cl cc es wx h hA)
          have e1 : r.cells = #[.slice r.sa r.n r.sc, .slice r.na r.n r.nc, .int .i64 r.left, .bool r.dead] := rfl
          rw [e1] at HCr
          clear e1
          go_wp2_with fail
          refine HCd.out.mono ?_
          rintro e w1 ⟨rfl, hd1, hg1⟩
          have HD1 := Lib.hid hd1
          have HG1 := Lib.hid hg1
          have HB1 := Lib.hid (HBx.out.step hg1 fun j e => Or.inl (HLt.out j e))
          have HR1 : Hid (RefAt r w1) := Lib.hid (HR0.out.keepD HRel.out.n HD0.out hg1)
          have HA1 : Hid (IntsApart (fun _ => False) w1 ca cl es) := Lib.hid ((HA0.out.keep hg1).mono (Below.refl _ w1) fun _ _ e => e.elim)
          clear hd1 hg1 c0 c1 c2 c3 y0 y1 y2 y3 y4 b0 b4 HCd
          obtain ⟨⟨c0, c1, c2, c3⟩, _⟩ := HB1.out.q1.cells
          obtain ⟨y0, y1, y2, y3, y4⟩ := five_at HB1.out.a5
          go_wp2_with fail
          refine (HCr.out _ HR1.out HA1.out).mono ?_
          rintro e w2 ⟨r', rfl, hr2, hb2, hrel⟩
          have hB2 := HB1.out.step (Grew.of_below (S := fun _ => False) hb2) fun _ e => e.elim
          have HB2 := Lib.hid hB2
          have HP2 : Hid (DoPost m w m.d r' w2) := Lib.hid ⟨m.crashed (cutOf cl es), crashed_d m _, hrel, HD1.out.keep (Grew.of_below (S := fun _ => False) hb2) (fun _ _ e => e), hr2, (HGr.out.trans HG1.out).trans (Grew.of_below hb2), fun j hj => Or.inl (by rw [crashed_own] at hj; exact hj), crashed_n m _⟩
          obtain ⟨⟨d0, d1, d2, d3⟩, z0, z1, z2, z3⟩ := hB2.q1.cells
          have e1 : r'.cells = #[.slice r'.sa r'.n r'.sc, .slice r'.na r'.n r'.nc, .int .i64 r'.left, .bool r'.dead] := rfl
          rw [e1]
          clear e1 hr2 hb2 hrel hB2 HCr c0 c1 c2 c3 y0 y1 y2 y3 y4
          go_wp2_with fail
          go_meet
          exact ⟨rfl, m.d, r', HB2.out.setX r', HP2.out.setX HB2.out HD.out⟩
        · have HSp := Lib.hid (refSpoil_rel m r HRel.out A n wc HR0.out)
          have hmf : ∀ (fn : Fn) (first cap : Array Value) (w : World), (Instr.makeFunc fn first cap).run Try.prog w = .ok (.func fn first cap) w := fun _ _ _ _ => rfl
          have e1 : r.cells = #[.slice r.sa r.n r.sc, .slice r.na r.n r.nc, .int .i64 r.left, .bool r.dead] := rfl
          rw [e1] at HSp
          clear e1
          go_wp2_with fail
          refine HSp.out.mono ?_
          rintro e w1 ⟨o, r', rfl, hr1, hb1, hrel⟩
          have HR1 := Lib.hid hr1
          have HB1 := Lib.hid hb1
          have HRl := Lib.hid hrel
          have e1 : r'.cells = #[.slice r'.sa r'.n r'.sc, .slice r'.na r'.n r'.nc, .int .i64 r'.left, .bool r'.dead] := rfl
          rw [e1]
          clear e1 hr1 hb1 hrel HSp
          go_upto_region 26 with fail
          have HQV : Hid (Quad w1.heap.size (.slice r'.sa r'.n r'.sc) (.slice r'.na r'.n r'.nc) (.int .i64 r'.left) (.bool r'.dead) (w1.alloc (.cells #[.slice r'.sa r'.n r'.sc, .slice r'.na r'.n r'.nc, .int .i64 r'.left, .bool r'.dead] 28))) := Lib.hid ⟨heap_alloc_new w1 _⟩
          have hgV : Grew (fun _ => False) wc (w1.alloc (.cells #[.slice r'.sa r'.n r'.sc, .slice r'.na r'.n r'.nc, .int .i64 r'.left, .bool r'.dead] 28)) := (Grew.of_below HB1.out).alloc _
          have HBV := Lib.hid (HBx.out.step hgV fun _ e => e.elim)
          have HDV : Hid (DiskAt m (w1.alloc (.cells #[.slice r'.sa r'.n r'.sc, .slice r'.na r'.n r'.nc, .int .i64 r'.left, .bool r'.dead] 28))) := Lib.hid (HD0.out.keep hgV fun _ _ e => e)
          have HRV : Hid (RefAt r' (w1.alloc (.cells #[.slice r'.sa r'.n r'.sc, .slice r'.na r'.n r'.nc, .int .i64 r'.left, .bool r'.dead] 28))) := Lib.hid (HR1.out.below ((Below.refl _ _).alloc (Nat.le_refl _) _))
          have HGV : Hid (Grew m.own w (w1.alloc (.cells #[.slice r'.sa r'.n r'.sc, .slice r'.na r'.n r'.nc, .int .i64 r'.left, .bool r'.dead] 28))) := Lib.hid (HGr.out.trans (hgV.mono fun _ _ e => e.elim))
          have HqL : Hid (w.heap.size + 5 ≤ w1.heap.size) := Lib.hid (Nat.le_trans HL5.out HB1.out.size)
          clear hgV HR1 HB1 HGr c0 c1 c2 c3 y0 y1 y2 y3 y4 b0 b4
          generalize (w1.alloc (.cells #[.slice r'.sa r'.n r'.sc, .slice r'.na r'.n r'.nc, .int .i64 r'.left, .bool r'.dead] 28)) = V at *
          generalize w1.heap.size = q at *
          obtain ⟨⟨c0, c1, c2, c3⟩, _⟩ := HQV.out.cells
          have b0 := HBV.out.b0
          have b4 := HBV.out.b4
          obtain ⟨⟨d0, d1, d2, d3⟩, z0, z1, z2, z3⟩ := HBV.out.q1.cells
          have HSk : Hid (∀ wx, Grew m.own V.drew wx → (wx.cell? ⟨q, 0, none⟩ = some (.slice r'.sa r'.n r'.sc) ∧ wx.cell? ⟨q, 1, none⟩ = some (.slice r'.na r'.n r'.nc) ∧ wx.cell? ⟨q, 2, none⟩ = some (.int .i64 r'.left) ∧ wx.cell? ⟨q, 3, none⟩ = some (.bool r'.dead)) ∧ ((wx.cell? ⟨w.heap.size + 1, 0, none⟩ = some (.slice r.sa r.n r.sc) ∧ wx.cell? ⟨w.heap.size + 1, 1, none⟩ = some (.slice r.na r.n r.nc) ∧ wx.cell? ⟨w.heap.size + 1, 2, none⟩ = some (.int .i64 r.left) ∧ wx.cell? ⟨w.heap.size + 1, 3, none⟩ = some (.bool r.dead)) ∧ wx.frozen? ⟨w.heap.size + 1, 0, none⟩ = false ∧ wx.frozen? ⟨w.heap.size + 1, 1, none⟩ = false ∧ wx.frozen? ⟨w.heap.size + 1, 2, none⟩ = false ∧ wx.frozen? ⟨w.heap.size + 1, 3, none⟩ = false)) := Lib.hid fun wx hg => by
            have hq := HQV.out.grew (undrew hg) (fun e => by have := HLt.out _ e; have := HqL.out; omega)
            exact ⟨hq.cells.1, (HBV.out.q1.grew (undrew hg) (fun e => by have := HLt.out _ e; omega)).cells⟩
          have HSg : Hid (∀ wx, Grew m.own V wx → (wx.cell? ⟨q, 0, none⟩ = some (.slice r'.sa r'.n r'.sc) ∧ wx.cell? ⟨q, 1, none⟩ = some (.slice r'.na r'.n r'.nc) ∧ wx.cell? ⟨q, 2, none⟩ = some (.int .i64 r'.left) ∧ wx.cell? ⟨q, 3, none⟩ = some (.bool r'.dead)) ∧ wx.cell? ⟨w.heap.size, 0, none⟩ = some (.pointer (some ⟨m.d, 0, none⟩)) ∧ wx.cell? ⟨w.heap.size + 4, 0, none⟩ = some (.int .i64 A)) := Lib.hid fun wx hg => by
            have hq := HQV.out.grew hg (fun e => by have := HLt.out _ e; have := HqL.out; omega)
            have hb := HBV.out.step hg fun j e => Or.inl (HLt.out j e)
            exact ⟨hq.cells.1, hb.b0, hb.b4⟩
          have HSs : Hid (∀ wx, Grew m.own V wx → ((setX w r' wx).cell? ⟨q, 0, none⟩ = some (.slice r'.sa r'.n r'.sc) ∧ (setX w r' wx).cell? ⟨q, 1, none⟩ = some (.slice r'.na r'.n r'.nc) ∧ (setX w r' wx).cell? ⟨q, 2, none⟩ = some (.int .i64 r'.left) ∧ (setX w r' wx).cell? ⟨q, 3, none⟩ = some (.bool r'.dead)) ∧ (setX w r' wx).cell? ⟨w.heap.size, 0, none⟩ = some (.pointer (some ⟨m.d, 0, none⟩)) ∧ (setX w r' wx).cell? ⟨w.heap.size + 4, 0, none⟩ = some (.int .i64 A)) := Lib.hid fun wx hg => by
            have hq := (HQV.out.grew hg (fun e => by have := HLt.out _ e; have := HqL.out; omega)).grew (setX_grew w r' wx) (by have := HqL.out; omega)
            have hb := (HBV.out.step hg fun j e => Or.inl (HLt.out j e)).setX r'
            exact ⟨hq.cells.1, hb.b0, hb.b4⟩
          have HFin := Lib.hid (fun o' m' wx (hw : SpoilOf m A n o' m') (hd : DiskAt m' wx) (hg : Grew m.own V wx) => doFin (SpoilOf m A n) (fun _ _ h => spoil_same h) HRl.out HD.out HBV.out HDV.out HRV.out HGV.out o' m' wx hw hd hg)
          have HDVd : Hid (DiskAt m V.drew) := Lib.hid (HDV.out.keep (Grew.refl V).drew fun _ _ e => e)
          clear d0 d1 d2 d3 z0 z1 z2 z3
          go_region_held3 (fun wx => (wx.cell? ⟨q, 0, none⟩ = some (.slice r'.sa r'.n r'.sc) ∧ wx.cell? ⟨q, 1, none⟩ = some (.slice r'.na r'.n r'.nc) ∧ wx.cell? ⟨q, 2, none⟩ = some (.int .i64 r'.left) ∧ wx.cell? ⟨q, 3, none⟩ = some (.bool r'.dead)) ∧ wx.cell? ⟨w.heap.size, 0, none⟩ = some (.pointer (some ⟨m.d, 0, none⟩)) ∧ wx.cell? ⟨w.heap.size + 4, 0, none⟩ = some (.int .i64 A))
            (first | exact HSg.out V (Grew.refl V) | exact HSg.out _ HG2.out | exact HSs.out _ HG2.out)
            (first | (go_at_call 33; (with_reducible refine (guardSpoil m w V.drew (HBV.out.step (S := fun _ => False) (Grew.refl V).drew fun _ e => e.elim) HDVd.out HLt.out).mono ?_); rintro e w2 ⟨o', m', rfl, hw2, hd2, hg2⟩; (obtain ⟨_, ⟨l0, l1, l2, l3⟩, l4, l5, l6, l7⟩ := HSk.out w2 hg2); (have HG2 := Lib.hid (undrew hg2)); (have HW2 := Lib.hid (And.intro hw2 hd2)); clear hw2 hd2 hg2))
          all_goals
            have hfin := HFin.out _ _ _ HW2.out.1 HW2.out.2 HG2.out
            obtain ⟨hq, hrest⟩ := hfin
            have HRest := Lib.hid hrest
            clear hrest
            rw [hq]
            go_wp2_with fail
            go_meet
            exact ⟨rfl, HRest.out⟩
        · by_cases hn0 : 0 < n
          · obtain ⟨p7, hp7, hpl⟩ := maskD n 7 (by decide)
            have hp7' : bits .and .i64 n 7 = (p7 : Int) := hp7
            rcases Nat.eq_zero_or_pos p7 with rfl | hpp
            · have hz : bits .and .i64 n 7 = 0 := hp7'
              clear hp7 hp7' hpl
              have HAm := Lib.hid (arm_any m 0 wc HD0.out)
              go_wp2_with fail
              refine HAm.out.mono ?_
              rintro e w1 ⟨rfl, rfl⟩
              have hg1 : Grew m.own wc ((wc.setCell ⟨m.d, 2, none⟩ (.bool true)).setCell ⟨m.d, 3, none⟩ (.int .i64 (max 0 0))) := ((Grew.refl wc).setCell ⟨m.d, 2, none⟩ _ fun _ => Or.inl rfl).setCell ⟨m.d, 3, none⟩ _ fun _ => Or.inl rfl
              have HD1 := Lib.hid (HD0.out.arm (max 0 0))
              have HB1 := Lib.hid (HBx.out.step hg1 fun j e => Or.inl (HLt.out j e))
              have HR1 := Lib.hid (HR0.out.keepD HRel.out.n HD0.out hg1)
              have HG1 := Lib.hid (HGr.out.trans hg1)
              clear hg1 c0 c1 c2 c3 y0 y1 y2 y3 y4 b0 b4 HAm
              generalize (wc.setCell ⟨m.d, 2, none⟩ (.bool true)).setCell ⟨m.d, 3, none⟩ (.int .i64 (max 0 0)) = w2 at *
              obtain ⟨⟨c0, c1, c2, c3⟩, z0, z1, z2, z3⟩ := HB1.out.q1.cells
              go_wp2_with fail
              go_meet
              have hgx : Grew (fun j => j = w.heap.size + 1) w2 (w2.setCell ⟨w.heap.size + 1, 2, none⟩ (.int .i64 0)) := (Grew.refl (S := fun j => j = w.heap.size + 1) w2).setCell ⟨w.heap.size + 1, 2, none⟩ _ fun _ => rfl
              have hqx : Quad (w.heap.size + 1) (.slice r.sa r.n r.sc) (.slice r.na r.n r.nc) (.int .i64 0) (.bool r.dead) (w2.setCell ⟨w.heap.size + 1, 2, none⟩ (.int .i64 0)) := ⟨by have := HB1.out.q1.at'; simp [World.setCell, Array.getElem?_modify, this]⟩
              have hmx : max 0 0 = (0 : Int) := by omega
              have hP : DoPost m w m.d { r with left := 0 } w2 := ⟨{ m with armed := true, left := max 0 0 }, rfl, ⟨HRel.out.n, HRel.out.S, HRel.out.T, HRel.out.dead, (fun e => nomatch e), fun _ => hmx.symm, ⟨by show 0 ≤ max 0 0; omega, by show max 0 0 ≤ 2 ^ 62; omega⟩⟩, HD1.out, ⟨HR1.out.s, HR1.out.t, HR1.out.n, HR1.out.zs, HR1.out.zt⟩, HG1.out, fun j hj => Or.inl hj, rfl⟩
              exact ⟨rfl, m.d, { r with left := 0 }, HB1.out.box hgx hqx, hP.box HB1.out HD.out hgx⟩
            · have hpi : (0 : Int) < (p7 : Int) := by omega
              have hpk : (p7 : Int) ≤ 7 := by omega
              clear hp7
              have HAm := Lib.hid (arm_any m (p7 : Int) wc HD0.out)
              go_wp2_with fail
              refine HAm.out.mono ?_
              rintro e w1 ⟨rfl, rfl⟩
              have hg1 : Grew m.own wc ((wc.setCell ⟨m.d, 2, none⟩ (.bool true)).setCell ⟨m.d, 3, none⟩ (.int .i64 (max (p7 : Int) 0))) := ((Grew.refl wc).setCell ⟨m.d, 2, none⟩ _ fun _ => Or.inl rfl).setCell ⟨m.d, 3, none⟩ _ fun _ => Or.inl rfl
              have HD1 := Lib.hid (HD0.out.arm (max (p7 : Int) 0))
              have HB1 := Lib.hid (HBx.out.step hg1 fun j e => Or.inl (HLt.out j e))
              have HR1 := Lib.hid (HR0.out.keepD HRel.out.n HD0.out hg1)
              have HG1 := Lib.hid (HGr.out.trans hg1)
              clear hg1 c0 c1 c2 c3 y0 y1 y2 y3 y4 b0 b4 HAm
              generalize (wc.setCell ⟨m.d, 2, none⟩ (.bool true)).setCell ⟨m.d, 3, none⟩ (.int .i64 (max (p7 : Int) 0)) = w2 at *
              obtain ⟨⟨c0, c1, c2, c3⟩, z0, z1, z2, z3⟩ := HB1.out.q1.cells
              go_wp2_with fail
              go_meet
              have hgx : Grew (fun j => j = w.heap.size + 1) w2 (w2.setCell ⟨w.heap.size + 1, 2, none⟩ (.int .i64 (p7 : Int))) := (Grew.refl (S := fun j => j = w.heap.size + 1) w2).setCell ⟨w.heap.size + 1, 2, none⟩ _ fun _ => rfl
              have hqx : Quad (w.heap.size + 1) (.slice r.sa r.n r.sc) (.slice r.na r.n r.nc) (.int .i64 (p7 : Int)) (.bool r.dead) (w2.setCell ⟨w.heap.size + 1, 2, none⟩ (.int .i64 (p7 : Int))) := ⟨by have := HB1.out.q1.at'; simp [World.setCell, Array.getElem?_modify, this]⟩
              have hmx : max (p7 : Int) 0 = ((p7 : Int) : Int) := by omega
              have hP : DoPost m w m.d { r with left := (p7 : Int) } w2 := ⟨{ m with armed := true, left := max (p7 : Int) 0 }, rfl, ⟨HRel.out.n, HRel.out.S, HRel.out.T, HRel.out.dead, (fun e => nomatch e), fun _ => hmx.symm, ⟨by show 0 ≤ max (p7 : Int) 0; omega, by show max (p7 : Int) 0 ≤ 2 ^ 62; omega⟩⟩, HD1.out, ⟨HR1.out.s, HR1.out.t, HR1.out.n, HR1.out.zs, HR1.out.zt⟩, HG1.out, fun j hj => Or.inl hj, rfl⟩
              exact ⟨rfl, m.d, { r with left := (p7 : Int) }, HB1.out.box hgx hqx, hP.box HB1.out HD.out hgx⟩
          · by_cases hn1 : n = 0
            · subst hn1
              have HAm := Lib.hid (arm_any m 0 wc HD0.out)
              go_wp2_with fail
              refine HAm.out.mono ?_
              rintro e w1 ⟨rfl, rfl⟩
              have hg1 : Grew m.own wc ((wc.setCell ⟨m.d, 2, none⟩ (.bool true)).setCell ⟨m.d, 3, none⟩ (.int .i64 (max 0 0))) := ((Grew.refl wc).setCell ⟨m.d, 2, none⟩ _ fun _ => Or.inl rfl).setCell ⟨m.d, 3, none⟩ _ fun _ => Or.inl rfl
              have HD1 := Lib.hid (HD0.out.arm (max 0 0))
              have HB1 := Lib.hid (HBx.out.step hg1 fun j e => Or.inl (HLt.out j e))
              have HR1 := Lib.hid (HR0.out.keepD HRel.out.n HD0.out hg1)
              have HG1 := Lib.hid (HGr.out.trans hg1)
              clear hg1 c0 c1 c2 c3 y0 y1 y2 y3 y4 b0 b4 HAm
              generalize (wc.setCell ⟨m.d, 2, none⟩ (.bool true)).setCell ⟨m.d, 3, none⟩ (.int .i64 (max 0 0)) = w2 at *
              obtain ⟨⟨c0, c1, c2, c3⟩, z0, z1, z2, z3⟩ := HB1.out.q1.cells
              go_wp2_with fail
              go_meet
              have hgx : Grew (fun j => j = w.heap.size + 1) w2 (w2.setCell ⟨w.heap.size + 1, 2, none⟩ (.int .i64 0)) := (Grew.refl (S := fun j => j = w.heap.size + 1) w2).setCell ⟨w.heap.size + 1, 2, none⟩ _ fun _ => rfl
              have hqx : Quad (w.heap.size + 1) (.slice r.sa r.n r.sc) (.slice r.na r.n r.nc) (.int .i64 0) (.bool r.dead) (w2.setCell ⟨w.heap.size + 1, 2, none⟩ (.int .i64 0)) := ⟨by have := HB1.out.q1.at'; simp [World.setCell, Array.getElem?_modify, this]⟩
              have hmx : max 0 0 = (0 : Int) := by omega
              have hP : DoPost m w m.d { r with left := 0 } w2 := ⟨{ m with armed := true, left := max 0 0 }, rfl, ⟨HRel.out.n, HRel.out.S, HRel.out.T, HRel.out.dead, (fun e => nomatch e), fun _ => hmx.symm, ⟨by show 0 ≤ max 0 0; omega, by show max 0 0 ≤ 2 ^ 62; omega⟩⟩, HD1.out, ⟨HR1.out.s, HR1.out.t, HR1.out.n, HR1.out.zs, HR1.out.zt⟩, HG1.out, fun j hj => Or.inl hj, rfl⟩
              exact ⟨rfl, m.d, { r with left := 0 }, HB1.out.box hgx hqx, hP.box HB1.out HD.out hgx⟩
            · have hn2 : n < 0 := by omega
              have HAm := Lib.hid (arm_any m n wc HD0.out)
              go_wp2_with fail
              refine HAm.out.mono ?_
              rintro e w1 ⟨rfl, rfl⟩
              have hg1 : Grew m.own wc ((wc.setCell ⟨m.d, 2, none⟩ (.bool true)).setCell ⟨m.d, 3, none⟩ (.int .i64 (max n 0))) := ((Grew.refl wc).setCell ⟨m.d, 2, none⟩ _ fun _ => Or.inl rfl).setCell ⟨m.d, 3, none⟩ _ fun _ => Or.inl rfl
              have HD1 := Lib.hid (HD0.out.arm (max n 0))
              have HB1 := Lib.hid (HBx.out.step hg1 fun j e => Or.inl (HLt.out j e))
              have HR1 := Lib.hid (HR0.out.keepD HRel.out.n HD0.out hg1)
              have HG1 := Lib.hid (HGr.out.trans hg1)
              clear hg1 c0 c1 c2 c3 y0 y1 y2 y3 y4 b0 b4 HAm
              generalize (wc.setCell ⟨m.d, 2, none⟩ (.bool true)).setCell ⟨m.d, 3, none⟩ (.int .i64 (max n 0)) = w2 at *
              obtain ⟨⟨c0, c1, c2, c3⟩, z0, z1, z2, z3⟩ := HB1.out.q1.cells
              go_wp2_with fail
              go_meet
              have hgx : Grew (fun j => j = w.heap.size + 1) w2 (w2.setCell ⟨w.heap.size + 1, 2, none⟩ (.int .i64 0)) := (Grew.refl (S := fun j => j = w.heap.size + 1) w2).setCell ⟨w.heap.size + 1, 2, none⟩ _ fun _ => rfl
              have hqx : Quad (w.heap.size + 1) (.slice r.sa r.n r.sc) (.slice r.na r.n r.nc) (.int .i64 0) (.bool r.dead) (w2.setCell ⟨w.heap.size + 1, 2, none⟩ (.int .i64 0)) := ⟨by have := HB1.out.q1.at'; simp [World.setCell, Array.getElem?_modify, this]⟩
              have hmx : max n 0 = (0 : Int) := by omega
              have hP : DoPost m w m.d { r with left := 0 } w2 := ⟨{ m with armed := true, left := max n 0 }, rfl, ⟨HRel.out.n, HRel.out.S, HRel.out.T, HRel.out.dead, (fun e => nomatch e), fun _ => hmx.symm, ⟨by show 0 ≤ max n 0; omega, by show max n 0 ≤ 2 ^ 62; omega⟩⟩, HD1.out, ⟨HR1.out.s, HR1.out.t, HR1.out.n, HR1.out.zs, HR1.out.zt⟩, HG1.out, fun j hj => Or.inl hj, rfl⟩
              exact ⟨rfl, m.d, { r with left := 0 }, HB1.out.box hgx hqx, hP.box HB1.out HD.out hgx⟩
        · have HCl := Lib.hid (clone_any m wc HD0.out)
          go_wp2_with fail
          refine HCl.out.mono ?_
          rintro e w1 ⟨x, m', rfl, hcl⟩
          have HC := Lib.hid hcl
          have hB1 := HBx.out.step (Grew.of_below (S := fun _ => False) hcl.below) fun _ e => e.elim
          have HB1 := Lib.hid hB1
          have d0 := hB1.b0
          have z0 := hB1.f0
          clear hcl hB1 c0 c1 c2 c3 y0 y1 y2 y3 y4 b0 b4 HCl
          have hg2 : Grew (fun j => j = w.heap.size) w1 (w1.setCell ⟨w.heap.size, 0, none⟩ (.pointer (some ⟨x, 0, none⟩))) := (Grew.refl (S := fun j => j = w.heap.size) w1).setCell ⟨w.heap.size, 0, none⟩ _ fun _ => rfl
          have HG2 := Lib.hid hg2
          have HD2 : Hid (DiskAt m (w1.setCell ⟨w.heap.size, 0, none⟩ (.pointer (some ⟨x, 0, none⟩)))) := Lib.hid (HC.out.old.keep hg2 fun j hj e => by have := HLt.out j hj; have e : j = w.heap.size := e; omega)
          have HM2 : Hid (DiskAt m' (w1.setCell ⟨w.heap.size, 0, none⟩ (.pointer (some ⟨x, 0, none⟩)))) := Lib.hid (HC.out.at'.keep hg2 fun j hj e => by have := HC.out.fresh j hj; have := HL5.out; have e : j = w.heap.size := e; omega)
          have HB2 : Hid (Bx w x r kind a n s ca cl cc A (w1.setCell ⟨w.heap.size, 0, none⟩ (.pointer (some ⟨x, 0, none⟩)))) := Lib.hid (by
            have h := HB1.out
            exact ⟨World.cell?_setCell_same _ _ _ h.b0, by rw [World.frozen?_setCell]; exact h.f0, h.q1.off (by omega), by rw [Below.heap_setCell _ _ _ _ (by show w.heap.size + 2 ≠ w.heap.size; omega)]; exact h.a5, h.q3.off (by omega), by rw [World.cell?_setCell_far _ _ _ _ (by show w.heap.size ≠ w.heap.size + 4; omega)]; exact h.b4⟩)
          have HR2 : Hid (RefAt r (w1.setCell ⟨w.heap.size, 0, none⟩ (.pointer (some ⟨x, 0, none⟩)))) := Lib.hid ((HR0.out.below HC.out.below).keepC hg2 fun b t hc e => by
            have e : b = w.heap.size := e
            rw [e, HB1.out.b0] at hc
            cases hc)
          have HGw2 : Hid (Grew m.own w (w1.setCell ⟨w.heap.size, 0, none⟩ (.pointer (some ⟨x, 0, none⟩)))) := Lib.hid ((HGr.out.trans (Grew.of_below HC.out.below)).step hg2 fun j hj e => by have e : j = w.heap.size := e; omega)
          clear hg2
          have HCr := Lib.hid (fun wx h => crash_any m none 0 0 (fun _ => 0) wx h (Or.inl rfl))
          have HWr := Lib.hid (fun wx h => lawWrite_any (m.crashed (cutOf 0 fun _ => 0)) 0 ⟨#[111, 108, 100]⟩ wx h (live_crashed m _).fits)
          rw [crashed_d, crashed_own] at HWr
          go_upto_region 9 with fail
          clear d0 z0
          generalize w1.setCell ⟨w.heap.size, 0, none⟩ (.pointer (some ⟨x, 0, none⟩)) = w2 at *
          go_wp2_with fail
          refine (HCr.out _ HD2.out).mono ?_
          rintro e w3 ⟨rfl, hd3, hg3⟩
          have HD3 := Lib.hid hd3
          have HG3 := Lib.hid hg3
          clear hd3 hg3 HCr
          go_wp2_with fail
          refine (HWr.out _ HD3.out).mono ?_
          rintro e w4 ⟨o', mm, rfl, _, _, hg4⟩
          have HG4 := Lib.hid (HG3.out.trans hg4)
          clear hg4 HWr
          go_wp2_with fail
          go_meet
          have hfr : ∀ j, m'.own j → ¬ m.own j := fun j h1 h2 => by have := HC.out.fresh j h1; have := HLt.out j h2; have := HL5.out; omega
          have hc := HC.out
          have hr := HRel.out
          exact ⟨rfl, x, r, HB2.out.step HG4.out (fun j e => Or.inl (HLt.out j e)), m', hc.d, ⟨hc.n.trans hr.n, hc.S.trans hr.S, hc.T.trans hr.T, hc.dead.trans hr.dead, fun e => hr.free (hc.armed.symm.trans e), fun e => (hr.armed (hc.armed.symm.trans e)).trans hc.left.symm, by unfold DiskM.fits; rw [hc.left]; exact hr.fits⟩, HM2.out.keep HG4.out hfr, HR2.out.keepD hr.n HD2.out HG4.out, HGw2.out.trans HG4.out, fun j hj => Or.inr (by have := hc.fresh j hj; have := HL5.out; omega), hc.n⟩
      case rest =>
        obtain ⟨rfl, p, r', hbx, m', hp, hrel, hd, hrf, hgw, hown⟩ := hcut
        subst hp
        have HPo : Hid (DoPost m w m'.d r' wc.drew) := Lib.hid ⟨m', rfl, hrel, hd.keep (Grew.refl wc).drew (fun _ _ e => e), hrf.keepC (S := fun _ => False) (Grew.refl wc).drew (fun _ _ _ e => e), hgw.drew, hown⟩
        have HBn : Hid (Bx w m'.d r' kind a n s ca cl cc A wc.drew) := Lib.hid (hbx.step (S := fun _ => False) (Grew.refl wc).drew fun _ e => e.elim)
        have HDe := Lib.hid (fun wx h => dead_any m' wx h)
        have hde := hrel.dead
        have i9 : (r'.dead == r'.dead) = true := by simp
        obtain ⟨⟨c0, c1, c2, c3⟩, _⟩ := hbx.q1.cells
        obtain ⟨⟨d0, d1, d2, d3⟩, z0, z1, z2, z3⟩ := hbx.q3.cells
        have b0 := hbx.b0
        have HDd : Hid (DiskAt m' wc.drew) := Lib.hid (hd.keep (Grew.refl wc).drew fun _ _ e => e)
        have HSg : Hid ((wc.drew.cell? ⟨w.heap.size + 1, 0, none⟩ = some (.slice r'.sa r'.n r'.sc) ∧ wc.drew.cell? ⟨w.heap.size + 1, 1, none⟩ = some (.slice r'.na r'.n r'.nc) ∧ wc.drew.cell? ⟨w.heap.size + 1, 2, none⟩ = some (.int .i64 r'.left) ∧ wc.drew.cell? ⟨w.heap.size + 1, 3, none⟩ = some (.bool r'.dead)) ∧ wc.drew.cell? ⟨w.heap.size, 0, none⟩ = some (.pointer (some ⟨m'.d, 0, none⟩))) := Lib.hid ⟨HBn.out.q1.cells.1, HBn.out.b0⟩
        have HSs : Hid (((setR w r' wc.drew).cell? ⟨w.heap.size + 1, 0, none⟩ = some (.slice r'.sa r'.n r'.sc) ∧ (setR w r' wc.drew).cell? ⟨w.heap.size + 1, 1, none⟩ = some (.slice r'.na r'.n r'.nc) ∧ (setR w r' wc.drew).cell? ⟨w.heap.size + 1, 2, none⟩ = some (.int .i64 r'.left) ∧ (setR w r' wc.drew).cell? ⟨w.heap.size + 1, 3, none⟩ = some (.bool r'.dead)) ∧ (setR w r' wc.drew).cell? ⟨w.heap.size, 0, none⟩ = some (.pointer (some ⟨m'.d, 0, none⟩))) := Lib.hid (by
          obtain ⟨⟨h0, h1, h2, h3⟩, h4⟩ := HSg.out
          exact ⟨⟨(setR_off r' _ (by show w.heap.size + 1 ≠ _; omega)).trans h0, (setR_off r' _ (by show w.heap.size + 1 ≠ _; omega)).trans h1, (setR_off r' _ (by show w.heap.size + 1 ≠ _; omega)).trans h2, (setR_off r' _ (by show w.heap.size + 1 ≠ _; omega)).trans h3⟩, (setR_off r' _ (by show w.heap.size ≠ _; omega)).trans h4⟩)
        have HSk := Lib.hid HBn.out.q3.cells
        have HSw : Hid ((wc.cell? ⟨w.heap.size + 1, 0, none⟩ = some (.slice r'.sa r'.n r'.sc) ∧ wc.cell? ⟨w.heap.size + 1, 1, none⟩ = some (.slice r'.na r'.n r'.nc) ∧ wc.cell? ⟨w.heap.size + 1, 2, none⟩ = some (.int .i64 r'.left) ∧ wc.cell? ⟨w.heap.size + 1, 3, none⟩ = some (.bool r'.dead)) ∧ wc.cell? ⟨w.heap.size, 0, none⟩ = some (.pointer (some ⟨m'.d, 0, none⟩))) := Lib.hid ⟨⟨c0, c1, c2, c3⟩, b0⟩
        clear hrel hd hrf hgw hown hbx
        rw [hde] at HDe
        clear hde
        go_upto_region 33 with fail
        go_region_held3 (fun wx => (wx.cell? ⟨w.heap.size + 1, 0, none⟩ = some (.slice r'.sa r'.n r'.sc) ∧ wx.cell? ⟨w.heap.size + 1, 1, none⟩ = some (.slice r'.na r'.n r'.nc) ∧ wx.cell? ⟨w.heap.size + 1, 2, none⟩ = some (.int .i64 r'.left) ∧ wx.cell? ⟨w.heap.size + 1, 3, none⟩ = some (.bool r'.dead)) ∧ wx.cell? ⟨w.heap.size, 0, none⟩ = some (.pointer (some ⟨m'.d, 0, none⟩)))
          (first | exact HSw.out | exact HSg.out | exact HSs.out)
          (first | (go_at_call 20; (with_reducible refine (HDe.out _ HDd.out).mono ?_); rintro e w2 ⟨rfl, rfl⟩; (obtain ⟨⟨l0, l1, l2, l3⟩, l4, l5, l6, l7⟩ := HSk.out)))
        have HQ4 : Hid ((setR w r' wc.drew).heap[w.heap.size + 1 + 1 + 1]? = some (.cells #[.slice r'.sa r'.n r'.sc, .slice r'.na r'.n r'.nc, .int .i64 r'.left, .bool r'.dead] 28)) := Lib.hid (quad_set HBn.out.q3.at' _ _ _ _)
        have hw : ((((wc.setCell ⟨w.heap.size + 1 + 1 + 1, 0, none⟩ (.slice r'.sa r'.n r'.sc)).setCell ⟨w.heap.size + 1 + 1 + 1, 1, none⟩ (.slice r'.na r'.n r'.nc)).setCell ⟨w.heap.size + 1 + 1 + 1, 2, none⟩ (.int .i64 r'.left)).setCell ⟨w.heap.size + 1 + 1 + 1, 3, none⟩ (.bool r'.dead)).drew = setR w r' wc.drew := rfl
        rw [hw]
        have HFi : Hid (DoPost m w m'.d r' (setR w r' wc.drew)) := Lib.hid (HPo.out.setR HBn.out HLt.out)
        clear hw HPo HBn
        generalize setR w r' wc.drew = wy at *
        go_wp2_with fail
        refine bodyPost_ret (results_tct rfl _ _ (w.heap.size + 1 + 1 + 1) _ _ _ _ rfl HQ4.out Try.underlying28 size_ref) rfl ?_
        exact ⟨m'.d, r', rfl, HFi.out⟩
end Go.Proofs.Ytjggofbaipppbaa
