/-
  The document's own disk: Spoil where it works.
-/
import Derived.Test.YtjggofbaipppbaaRefSpoil
import Derived.Deep.RegionWith
namespace Go.Proofs.Ytjggofbaipppbaa
open Go.RowKit

theorem Quad.set {x o : Nat} {v0 v1 v2 v3 : Value} {w : World} (h : Quad x v0 v1 v2 v3 w) (v : Value) : (o = 0 → Quad x v v1 v2 v3 (w.setCell ⟨x, o, none⟩ v)) ∧ (o = 1 → Quad x v0 v v2 v3 (w.setCell ⟨x, o, none⟩ v)) :=
  ⟨fun e => ⟨by have := h.at'; subst e; simp [World.setCell, Array.getElem?_modify, this]⟩, fun e => ⟨by have := h.at'; subst e; simp [World.setCell, Array.getElem?_modify, this]⟩⟩
theorem Quad.off {x y o : Nat} {v0 v1 v2 v3 v : Value} {w : World} (h : Quad x v0 v1 v2 v3 w) (hne : x ≠ y) : Quad x v0 v1 v2 v3 (w.setCell ⟨y, o, none⟩ v) := ⟨by rw [Below.heap_setCell _ _ _ _ hne]; exact h.at'⟩
theorem undrew {S : Nat → Prop} {w w' : World} (h : Grew S w.drew w') : Grew S w w' := ⟨h.os, h.tape, h.output, h.size, h.block⟩
set_option maxRecDepth 100000 in
set_option maxHeartbeats 2000000 in
theorem refSpoil_works (r : RefM) (k b : Nat) (w : World) (h : RefAt r w) (hk : k < r.n) (hb : b < 64) :
    Calls Try.prog 41 #[.agg r.cells, .int .i64 (k : Int), .int .i64 (b : Int), .int .u8 65] w fun e w' => ∃ r', e = .returned (.tuple #[.agg r'.cells, .int .i64 0]) ∧ r'.n = r.n ∧ r'.S = bendF r.S (k * 64 + b) 65 ∧ r'.T = bendF r.T (k * 64 + b) 65 ∧ r'.left = r.left ∧ r'.dead = r.dead ∧ RefAt r' w' ∧ Below w.heap.size w w' := by
  have H := Lib.hid h
  clear h
  obtain ⟨sa, na, n, sc, nc, S, T, l, d⟩ := r
  simp only at hk ⊢
  have e1 : (⟨sa, na, n, sc, nc, S, T, l, d⟩ : RefM).cells = #[.slice sa n sc, .slice na n nc, .int .i64 l, .bool d] := rfl
  rw [e1]
  clear e1
  have HBT := Lib.hid fun wx => bent_any ⟨(sec T k).toArray⟩ b (sec_size T k) (by rw [sec_size]; exact hb) wx
  have HBS := Lib.hid fun wx => bent_any ⟨(sec S k).toArray⟩ b (sec_size S k) (by rw [sec_size]; exact hb) wx
  have HTT := Lib.hid (fun (wx : World) (g : Nat) (h : TextsAt wx (some ⟨g, 0, none⟩) n T) => h.bent k b hk hb)
  have HTS := Lib.hid (fun (wx : World) (g : Nat) (h : TextsAt wx (some ⟨g, 0, none⟩) n S) => h.bent k b hk hb)
  generalize bentOf ⟨(sec T k).toArray⟩ b _ = BT at *
  generalize bentOf ⟨(sec S k).toArray⟩ b _ = BS at *
  obtain ⟨FS, hFS⟩ : ∃ FS, bendF S (k * 64 + b) 65 = FS := ⟨_, rfl⟩
  obtain ⟨FT, hFT⟩ : ∃ FT, bendF T (k * 64 + b) 65 = FT := ⟨_, rfl⟩
  rw [hFS] at HTS ⊢
  rw [hFT] at HTT ⊢
  clear hFS hFT
  have i0 : ¬ (k : Int) < 0 := by omega
  have i0' : (0 : Int) ≤ (k : Int) := by omega
  have i1 : ¬ (n : Int) ≤ (k : Int) := by omega
  have i1' : (k : Int) < (n : Int) := by omega
  have i2 : ¬ (b : Int) < 0 := by omega
  have i3 : ¬ (63 : Int) < (b : Int) := by omega
  have HK := Lib.hid hk
  clear hk hb
  go_enter Try.func41, Try.ntmps41
  go_upto_region 1 with fail
  have q1 : Quad (w.heap.size + 1) (.slice none 0 0) (.slice none 0 0) (.int .i64 0) (.bool false) ((w.alloc (.cells #[.slice sa n sc, .slice na n nc, .int .i64 l, .bool d] 28)).alloc (.cells #[.slice none 0 0, .slice none 0 0, .int .i64 0, .bool false] 28)) := ⟨heap_alloc2_new w _ _⟩
  have q0 : Quad w.heap.size (.slice sa n sc) (.slice na n nc) (.int .i64 l) (.bool d) ((w.alloc (.cells #[.slice sa n sc, .slice na n nc, .int .i64 l, .bool d] 28)).alloc (.cells #[.slice none 0 0, .slice none 0 0, .int .i64 0, .bool false] 28)) := ⟨heap_alloc2_old w _ _⟩
  have HB := Lib.hid (two_below w (.cells #[.slice sa n sc, .slice na n nc, .int .i64 l, .bool d] 28) (.cells #[.slice none 0 0, .slice none 0 0, .int .i64 0, .bool false] 28))
  obtain ⟨⟨c0, c1, c2, c3⟩, _⟩ := q0.cells
  have HW := Lib.hid (H.out.below HB.out)
  generalize ((w.alloc (.cells #[.slice sa n sc, .slice na n nc, .int .i64 l, .bool d] 28)).alloc (.cells #[.slice none 0 0, .slice none 0 0, .int .i64 0, .bool false] 28)) = W at *
  obtain ⟨y, hy⟩ : ∃ y, w.heap.size = y := ⟨_, rfl⟩
  obtain ⟨x, hx⟩ : ∃ x, w.heap.size + 1 = x := ⟨_, rfl⟩
  have HY := Lib.hid hy
  have HX := Lib.hid hx
  rw [hx] at q1 ⊢
  rw [hy] at q0 c0 c1 c2 c3 ⊢
  clear hx hy
  have HQx := Lib.hid q1
  have HQy := Lib.hid q0
  go_upto_region 5 with fail
  clear c0 c1 c2 c3
  have hq4 : Quad y (.slice sa n sc) (.slice na n nc) (.int .i64 l) (.bool d) (W.alloc (.cells #[] 9)) := q0.keep ((Below.refl _ _).alloc (Nat.le_refl _) _)
  obtain ⟨⟨c0, c1, c2, c3⟩, _⟩ := hq4.cells
  clear q0 q1 hq4
  go_upto_region 6 with (at_builtin; (refine wpList_copy_texts rfl _ _ rfl W na n nc T rfl rfl HW.out.t HW.out.n HW.out.zt ?_); (intro g1 cap1 w3 ht hf hb hg); (obtain ⟨⟨d0, d1, d2, d3⟩, z0, z1, z2, z3⟩ := (HQy.out.keep hb).cells); (have HT3 := Lib.hid ht); (have HF3 := Lib.hid hf); (have HB3 := Lib.hid hb); (have HG3 := Lib.hid hg); (clear ht hf hb hg))
  clear c0 c1 c2 c3 d0 d1 d2 d3 z0 z1 z2 z3
  have hyW : y < W.heap.size := HQy.out.lt
  have hxW : x < W.heap.size := HQx.out.lt
  have hg1 := HG3.out
  have hsb : ∀ b', sa = some ⟨b', 0, none⟩ → ¬ b' = y := fun b' e he => by
    rcases H.out.s with h | ⟨c, e2, hr⟩
    · have h : n = 0 := h
      have := HK.out
      omega
    · have e2 : sa = some ⟨c, 0, none⟩ := e2
      rw [e] at e2
      obtain rfl : b' = c := by simpa using e2
      have := cell_lt (hr k HK.out)
      have := HY.out
      omega
  have HS4 : Hid (TextsAt (w3.setCell ⟨y, 1, none⟩ (.slice (some ⟨g1, 0, none⟩) n cap1)) sa n S) := Lib.hid ((HW.out.s.below HB3.out).keep (S := fun k => k = y) ((Grew.refl w3).setCell ⟨y, 1, none⟩ _ fun _ => rfl) hsb)
  have HT4 : Hid (TextsAt (w3.setCell ⟨y, 1, none⟩ (.slice (some ⟨g1, 0, none⟩) n cap1)) (some ⟨g1, 0, none⟩) n T) := Lib.hid (HT3.out.keep (S := fun k => k = y) ((Grew.refl w3).setCell ⟨y, 1, none⟩ _ fun _ => rfl) fun b' e => by
    obtain rfl : g1 = b' := by simpa using e
    show ¬ g1 = y
    omega)
  have HF4 : Hid (∀ j, (w3.setCell ⟨y, 1, none⟩ (.slice (some ⟨g1, 0, none⟩) n cap1)).frozen? ⟨g1, j, none⟩ = false) := Lib.hid fun j => by rw [World.frozen?_setCell]; exact HF3.out j
  have HQy4 := Lib.hid (((HQy.out.keep HB3.out).set (o := 1) (.slice (some ⟨g1, 0, none⟩) n cap1)).2 rfl)
  have HQx4 : Hid (Quad x (.slice none 0 0) (.slice none 0 0) (.int .i64 0) (.bool false) (w3.setCell ⟨y, 1, none⟩ (.slice (some ⟨g1, 0, none⟩) n cap1))) := Lib.hid ((HQx.out.keep HB3.out).off (by have := HX.out; have := HY.out; omega))
  have HB4 : Hid (Below w.heap.size w (w3.setCell ⟨y, 1, none⟩ (.slice (some ⟨g1, 0, none⟩) n cap1))) := Lib.hid ((HB.out.trans (HB3.out.mono HB.out.size)).setCell (by show w.heap.size ≤ y; have := HY.out; omega) _)
  have HG1l : Hid (g1 < (w3.setCell ⟨y, 1, none⟩ (.slice (some ⟨g1, 0, none⟩) n cap1)).heap.size) := Lib.hid (by
    rcases HT4.out with h | ⟨c, e, hr⟩
    · have := HK.out; omega
    · obtain rfl : g1 = c := by simpa using e
      exact cell_lt (hr k HK.out))
  have HZs : Hid (sa = none → sc = 0) := Lib.hid HW.out.zs
  have HN4 : Hid (n ≤ 4096) := Lib.hid HW.out.n
  have HGy : Hid (y < g1 ∧ x < g1) := Lib.hid ⟨by omega, by omega⟩
  clear hsb HT3 HF3 HB3 HG3 hyW hxW hg1 HQy HQx HW HB
  generalize w3.setCell ⟨y, 1, none⟩ (.slice (some ⟨g1, 0, none⟩) n cap1) = W4 at *
  have hq5 : Quad y (.slice sa n sc) (.slice (some ⟨g1, 0, none⟩) n cap1) (.int .i64 l) (.bool d) (W4.alloc (.cells #[] 9)) := HQy4.out.keep ((Below.refl _ _).alloc (Nat.le_refl _) _)
  obtain ⟨⟨c0, c1, c2, c3⟩, _⟩ := hq5.cells
  clear hq5
  go_upto_region 7 with (at_builtin; (refine wpList_copy_texts rfl _ _ rfl W4 sa n sc S rfl rfl HS4.out HN4.out HZs.out ?_); (intro g0 cap0 w5 ht hf hb hg); (obtain ⟨⟨d0, d1, d2, d3⟩, z0, z1, z2, z3⟩ := (HQy4.out.keep hb).cells); (have HS5 := Lib.hid ht); (have HF5 := Lib.hid hf); (have HB5 := Lib.hid hb); (have HG5 := Lib.hid hg); (clear ht hf hb hg))
  clear c0 c1 c2 c3 d0 d1 d2 d3 z0 z1 z2 z3
  have hg5 := HG5.out
  have hg1l := HG1l.out
  have hgy := HGy.out
  have HS6 : Hid (TextsAt (w5.setCell ⟨y, 0, none⟩ (.slice (some ⟨g0, 0, none⟩) n cap0)) (some ⟨g0, 0, none⟩) n S) := Lib.hid (HS5.out.keep (S := fun k => k = y) ((Grew.refl w5).setCell ⟨y, 0, none⟩ _ fun _ => rfl) fun b' e => by
    obtain rfl : g0 = b' := by simpa using e
    show ¬ g0 = y
    omega)
  have HT6 : Hid (TextsAt (w5.setCell ⟨y, 0, none⟩ (.slice (some ⟨g0, 0, none⟩) n cap0)) (some ⟨g1, 0, none⟩) n T) := Lib.hid ((HT4.out.below HB5.out).keep (S := fun k => k = y) ((Grew.refl w5).setCell ⟨y, 0, none⟩ _ fun _ => rfl) fun b' e => by
    obtain rfl : g1 = b' := by simpa using e
    show ¬ g1 = y
    omega)
  have HFs : Hid (∀ j, (w5.setCell ⟨y, 0, none⟩ (.slice (some ⟨g0, 0, none⟩) n cap0)).frozen? ⟨g0, j, none⟩ = false) := Lib.hid fun j => by rw [World.frozen?_setCell]; exact HF5.out j
  have HFt : Hid (∀ j, (w5.setCell ⟨y, 0, none⟩ (.slice (some ⟨g0, 0, none⟩) n cap0)).frozen? ⟨g1, j, none⟩ = false) := Lib.hid fun j => by rw [World.frozen?_setCell, HB5.out.frozen (p := ⟨g1, j, none⟩) hg1l]; exact HF4.out j
  have HQy6 := Lib.hid (((HQy4.out.keep HB5.out).set (o := 0) (.slice (some ⟨g0, 0, none⟩) n cap0)).1 rfl)
  have HQx6 : Hid (Quad x (.slice none 0 0) (.slice none 0 0) (.int .i64 0) (.bool false) (w5.setCell ⟨y, 0, none⟩ (.slice (some ⟨g0, 0, none⟩) n cap0))) := Lib.hid ((HQx4.out.keep HB5.out).off (by have := HX.out; have := HY.out; omega))
  have HB6 : Hid (Below w.heap.size w (w5.setCell ⟨y, 0, none⟩ (.slice (some ⟨g0, 0, none⟩) n cap0))) := Lib.hid ((HB4.out.trans (HB5.out.mono HB4.out.size)).setCell (by show w.heap.size ≤ y; have := HY.out; omega) _)
  have HG0 : Hid (g1 < g0) := Lib.hid (by omega)
  clear hg5 hg1l hgy HS5 HF5 HB5 HG5 HT4 HF4 HS4 HQy4 HQx4 HB4 HZs HG1l
  generalize w5.setCell ⟨y, 0, none⟩ (.slice (some ⟨g0, 0, none⟩) n cap0) = W6 at *
  have hrow : ∀ (g : Nat) (F : Nat → UInt8) (wx : World), TextsAt wx (some ⟨g, 0, none⟩) n F → wx.cell? ⟨g, k, none⟩ = some (.string ⟨(sec F k).toArray⟩) := fun g F wx h => by
    rcases h with h | ⟨c, e, hr⟩
    · have := HK.out; omega
    · obtain rfl : g = c := by simpa using e
      exact hr k HK.out
  have HRow := Lib.hid hrow
  clear hrow
  go_cut [] (fun wx => TextsAt wx (some ⟨g1, 0, none⟩) n FT ∧ Grew (fun z => z = g1) W6 wx)
  case first =>
    obtain ⟨⟨c0, c1, c2, c3⟩, _⟩ := HQy6.out.cells
    have m1 := HRow.out g1 T W6 HT6.out
    have f1 := HFt.out k
    have HAf : Hid (∀ w7, Below W6.drew.heap.size W6.drew w7 → w7.cell? ⟨y, 1, none⟩ = some (.slice (some ⟨g1, 0, none⟩) n cap1) ∧ w7.cell? ⟨g1, k, none⟩ = some (.string ⟨(sec T k).toArray⟩) ∧ w7.frozen? ⟨g1, k, none⟩ = false) := Lib.hid fun w7 hb => by
      rw [hb.cell (p := ⟨y, 1, none⟩) (cell_lt c1), hb.cell (p := ⟨g1, k, none⟩) (cell_lt m1), hb.frozen (p := ⟨g1, k, none⟩) (cell_lt m1)]
      exact ⟨c1, m1, f1⟩
    generalize (⟨(sec T k).toArray⟩ : ByteArray) = A at *
    go_region_with (go_at_call 64; (with_reducible refine (HBT.out _).mono ?_); rintro e w7 ⟨rfl, hb7⟩; (obtain ⟨k1, k2, k3⟩ := HAf.out w7 hb7); (have HB7 := Lib.hid hb7); clear hb7)
    all_goals
      go_wp2_with fail
      go_meet
      exact ⟨HTT.out _ g1 (HT6.out.below (w := W6.drew) HB7.out), (undrew (Grew.of_below HB7.out)).setCell _ _ fun _ => rfl⟩
  case rest =>
    obtain ⟨ht7, hg7⟩ := hcut
    have HT7 := Lib.hid ht7
    have HB7 : Hid (Below w.heap.size w wc) := Lib.hid (hg7.below HB6.out HB6.out.size fun z e => by have := HGy.out; have := HY.out; omega)
    have HQy7 := Lib.hid (HQy6.out.grew hg7 (by have := HGy.out; omega))
    have HQx7 := Lib.hid (HQx6.out.grew hg7 (by have := HGy.out; omega))
    have HS7 : Hid (TextsAt wc (some ⟨g0, 0, none⟩) n S) := Lib.hid (HS6.out.keep hg7 fun b' e => by
      obtain rfl : g0 = b' := by simpa using e
      show ¬ g0 = g1
      have := HG0.out
      omega)
    have HF7 : Hid (wc.frozen? ⟨g0, k, none⟩ = false) := Lib.hid (by
      rw [hg7.frozen (p := ⟨g0, k, none⟩) (cell_lt (HRow.out g0 S _ HS6.out)) (by show ¬ g0 = g1; have := HG0.out; omega)]
      exact HFs.out k)
    clear ht7 hg7 HT6 HS6 HFs HFt HQy6 HQx6 HB6
    go_wp2_with fail
    go_cut [] (fun wx => TextsAt wx (some ⟨g0, 0, none⟩) n FS ∧ TextsAt wx (some ⟨g1, 0, none⟩) n FT ∧ Quad y (.slice (some ⟨g0, 0, none⟩) n cap0) (.slice (some ⟨g1, 0, none⟩) n cap1) (.int .i64 l) (.bool d) wx ∧ Quad x (.slice none 0 0) (.slice none 0 0) (.int .i64 0) (.bool false) wx ∧ Below w.heap.size w wx)
    case first =>
      obtain ⟨⟨c0, c1, c2, c3⟩, _⟩ := HQy7.out.cells
      have m1 := HRow.out g0 S wc HS7.out
      have f1 := HF7.out
      have HAf : Hid (∀ w7, Below wc.drew.heap.size wc.drew w7 → w7.cell? ⟨y, 0, none⟩ = some (.slice (some ⟨g0, 0, none⟩) n cap0) ∧ w7.cell? ⟨g0, k, none⟩ = some (.string ⟨(sec S k).toArray⟩) ∧ w7.frozen? ⟨g0, k, none⟩ = false) := Lib.hid fun w7 hb => by
        rw [hb.cell (p := ⟨y, 0, none⟩) (cell_lt c0), hb.cell (p := ⟨g0, k, none⟩) (cell_lt m1), hb.frozen (p := ⟨g0, k, none⟩) (cell_lt m1)]
        exact ⟨c0, m1, f1⟩
      have HAl : Hid (∀ wx, Grew (fun z => z = g0) wc wx → TextsAt wx (some ⟨g0, 0, none⟩) n FS → TextsAt wx (some ⟨g0, 0, none⟩) n FS ∧ TextsAt wx (some ⟨g1, 0, none⟩) n FT ∧ Quad y (.slice (some ⟨g0, 0, none⟩) n cap0) (.slice (some ⟨g1, 0, none⟩) n cap1) (.int .i64 l) (.bool d) wx ∧ Quad x (.slice none 0 0) (.slice none 0 0) (.int .i64 0) (.bool false) wx ∧ Below w.heap.size w wx) := Lib.hid fun wx hg hs => by
        have h1 := HGy.out
        have h2 := HG0.out
        have h3 := HY.out
        refine ⟨hs, HT7.out.keep hg fun b' e => ?_, HQy7.out.grew hg (by omega), HQx7.out.grew hg (by omega), hg.below HB7.out HB7.out.size fun z e => by omega⟩
        obtain rfl : g1 = b' := by simpa using e
        show ¬ g1 = g0
        omega
      generalize (⟨(sec S k).toArray⟩ : ByteArray) = A at *
      go_region_with (go_at_call 64; (with_reducible refine (HBS.out _).mono ?_); rintro e w7 ⟨rfl, hb7⟩; (obtain ⟨k1, k2, k3⟩ := HAf.out w7 hb7); (have HB8 := Lib.hid hb7); clear hb7)
      all_goals
        go_wp2_with fail
        go_meet
        exact HAl.out _ (undrew ((Grew.of_below HB8.out).setCell ⟨g0, k, none⟩ (.string BS) fun _ => rfl)) (HTS.out _ g0 (HS7.out.below (w := wc.drew) HB8.out))
    case rest =>
      obtain ⟨hs8, ht8, hqy, hqx, hb8⟩ := hcut
      have HS8 := Lib.hid hs8
      have HT8 := Lib.hid ht8
      have HB8 := Lib.hid hb8
      obtain ⟨⟨c0, c1, c2, c3⟩, _⟩ := hqy.cells
      obtain ⟨⟨f0, f1, f2, f3⟩, z0, z1, z2, z3⟩ := hqx.cells
      have HR := Lib.hid (quad_set hqx.at' (.slice (some ⟨g0, 0, none⟩) n cap0) (.slice (some ⟨g1, 0, none⟩) n cap1) (.int .i64 l) (.bool d))
      clear hs8 ht8 hqy hqx hb8
      go_wp2_with fail
      refine bodyPost_ret (results_pair rfl _ _ x _ _ _ _ rfl HR.out Try.underlying28 size_ref) rfl ?_
      have h1 := HGy.out
      have h2 := HG0.out
      have hx := HX.out
      have hgr : Grew (fun k => k = x) wc ((((wc.setCell ⟨x, 0, none⟩ (.slice (some ⟨g0, 0, none⟩) n cap0)).setCell ⟨x, 1, none⟩ (.slice (some ⟨g1, 0, none⟩) n cap1)).setCell ⟨x, 2, none⟩ (.int .i64 l)).setCell ⟨x, 3, none⟩ (.bool d)) :=
        ((((Grew.refl (S := fun k => k = x) wc).setCell ⟨x, 0, none⟩ _ fun _ => rfl).setCell ⟨x, 1, none⟩ _ fun _ => rfl).setCell ⟨x, 2, none⟩ _ fun _ => rfl).setCell ⟨x, 3, none⟩ _ fun _ => rfl
      have hBf := hgr.below HB8.out HB8.out.size (fun k e => by omega)
      refine ⟨⟨some ⟨g0, 0, none⟩, some ⟨g1, 0, none⟩, n, cap0, cap1, FS, FT, l, d⟩, rfl, rfl, rfl, rfl, rfl, rfl, ⟨HS8.out.keep hgr (fun b' e => ?_), HT8.out.keep hgr (fun b' e => ?_), HN4.out, (fun e => nomatch e), (fun e => nomatch e)⟩, hBf⟩
      · obtain rfl : g0 = b' := by simpa using e
        show ¬ g0 = x
        omega
      · obtain rfl : g1 = b' := by simpa using e
        show ¬ g1 = x
        omega
/-- Spoil, whatever it is asked -/
theorem refSpoil_any (r : RefM) (at' by' : Int) (w : World) (h : RefAt r w) :
    Calls Try.prog 41 #[.agg r.cells, .int .i64 at', .int .i64 by', .int .u8 65] w fun e w' => ∃ o r', e = .returned (.tuple #[.agg r'.cells, .int .i64 o]) ∧ RefSpoilt r at' by' o r' ∧ RefAt r' w' ∧ Below w.heap.size w w' := by
  by_cases h0 : at' < 0
  · refine (refSpoil_stop r at' by' 6 w h (Or.inl ⟨h0, rfl⟩)).mono ?_
    rintro e w' ⟨rfl, hr, hb⟩
    exact ⟨6, r, rfl, .range (Or.inl h0), hr, hb⟩
  by_cases h1 : (r.n : Int) ≤ at'
  · refine (refSpoil_stop r at' by' 6 w h (Or.inr (Or.inl ⟨by omega, h1, rfl⟩))).mono ?_
    rintro e w' ⟨rfl, hr, hb⟩
    exact ⟨6, r, rfl, .range (Or.inr h1), hr, hb⟩
  obtain ⟨k, hk⟩ : ∃ k : Nat, at' = (k : Int) := ⟨at'.toNat, by omega⟩
  by_cases h2 : by' < 0
  · refine (refSpoil_stop r at' by' 4 w h (Or.inr (Or.inr (Or.inl ⟨by omega, by omega, h2, rfl⟩)))).mono ?_
    rintro e w' ⟨rfl, hr, hb⟩
    exact ⟨4, r, rfl, .arg k hk (by omega) (Or.inl h2), hr, hb⟩
  by_cases h3 : 64 ≤ by'
  · refine (refSpoil_stop r at' by' 4 w h (Or.inr (Or.inr (Or.inr ⟨by omega, by omega, h3, rfl⟩)))).mono ?_
    rintro e w' ⟨rfl, hr, hb⟩
    exact ⟨4, r, rfl, .arg k hk (by omega) (Or.inr h3), hr, hb⟩
  obtain ⟨b, hb⟩ : ∃ b : Nat, by' = (b : Int) := ⟨by'.toNat, by omega⟩
  subst hk hb
  refine (refSpoil_works r k b w h (by omega) (by omega)).mono ?_
  rintro e w' ⟨r', rfl, f1, f2, f3, f4, f5, hr, hb⟩
  exact ⟨0, r', rfl, .works k b r' rfl (by omega) rfl (by omega) f1 f2 f3 f4 f5, hr, hb⟩
end Go.Proofs.Ytjggofbaipppbaa
