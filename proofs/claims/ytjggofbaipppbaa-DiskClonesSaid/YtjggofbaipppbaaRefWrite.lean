/-
  The document's own disk: Write: a contract.
-/
import Derived.Test.YtjggofbaipppbaaRefSync
namespace Go.Proofs.Ytjggofbaipppbaa
open Go.RowKit

/-- a sector's bytes written over -/
def wroteF (T : Nat → UInt8) (k : Nat) (g : Nat → UInt8) : Nat → UInt8 := fun j => if k * 64 ≤ j ∧ j < k * 64 + 64 then g (j - k * 64) else T j
theorem wroteF_is (m : DiskM) (k : Nat) (g : Nat → UInt8) : (m.wrote k g).T = wroteF m.T k g := rfl
theorem sec_wroteF (T : Nat → UInt8) (k : Nat) (s : ByteArray) (hs : s.size ≤ 64) (i : Nat) : (⟨(sec (wroteF T k (txtf s)) i).toArray⟩ : ByteArray) = if i = k then tail0 s (64 - s.size) else ⟨(sec T i).toArray⟩ := by
  by_cases e : i = k
  · subst e
    rw [if_pos rfl]
    apply ByteArray.ext
    apply Array.toList_inj.mp
    have hl : s.data.toList.length = s.size := by simp
    have h1 : (tail0 s (64 - s.size)).data.toList = s.data.toList ++ List.replicate (64 - s.size) 0 := by simp [tail0, ByteArray.data_append]
    rw [h1]
    show sec (wroteF T i (txtf s)) i = _
    refine List.ext_getElem (by simp [sec, hl]; omega) fun j h2 h3 => ?_
    have hj : j < 64 := by simpa [sec] using h2
    rw [sec_get]
    have h4 : wroteF T i (txtf s) (i * 64 + j) = txtf s j := by
      unfold wroteF
      rw [if_pos ⟨by omega, by omega⟩]
      congr 1
      omega
    rw [h4]
    unfold txtf
    rw [List.getD_eq_getElem?_getD]
    by_cases hjs : j < s.data.toList.length
    · rw [List.getElem?_eq_getElem hjs, List.getElem_append_left hjs]
      rfl
    · rw [List.getElem?_eq_none (by omega), List.getElem_append_right (by omega)]
      simp
  · rw [if_neg e]
    have h : sec (wroteF T k (txtf s)) i = sec T i := by
      unfold sec
      refine List.map_congr_left fun j hj => ?_
      have hj : j < 64 := by simpa using hj
      unfold wroteF
      rw [if_neg (by omega)]
    rw [h]
/-- the row of texts with one stored -/
theorem TextsAt.store {w : World} {g n : Nat} {T : Nat → UInt8} (h : TextsAt w (some ⟨g, 0, none⟩) n T) (k : Nat) (hk : k < n) (s : ByteArray) (hs : s.size ≤ 64) : TextsAt (w.setCell ⟨g, k, none⟩ (.string (tail0 s (64 - s.size)))) (some ⟨g, 0, none⟩) n (wroteF T k (txtf s)) := by
  rcases h with h | ⟨b, e, hr⟩
  · omega
  obtain rfl : g = b := by simpa using e
  refine Or.inr ⟨g, rfl, fun i hi => ?_⟩
  rw [sec_wroteF T k s hs i]
  by_cases e : i = k
  · subst e
    rw [if_pos rfl]
    exact World.cell?_setCell_same _ _ _ (hr i hi)
  · rw [if_neg e, World.cell?_setCell_other _ _ _ _ (fun h => e (by cases h; rfl))]
    exact hr i hi
/-- what is known behind the copy and the store of a text -/
structure QuadsW (y x g k : Nat) (v0 v1 v2 v3 v t : Value) (w : World) : Prop where
  a1 : w.cell? ⟨y, 1, none⟩ = some v1
  a2 : w.frozen? ⟨y, 1, none⟩ = false
  b1 : (w.setCell ⟨y, 1, none⟩ v).cell? ⟨y, 1, none⟩ = some v
  b2 : ∃ u, (w.setCell ⟨y, 1, none⟩ v).cell? ⟨g, k, none⟩ = some u
  b3 : (w.setCell ⟨y, 1, none⟩ v).frozen? ⟨g, k, none⟩ = false
  c0 : ((w.setCell ⟨y, 1, none⟩ v).setCell ⟨g, k, none⟩ t).cell? ⟨y, 0, none⟩ = some v0
  c1 : ((w.setCell ⟨y, 1, none⟩ v).setCell ⟨g, k, none⟩ t).cell? ⟨y, 1, none⟩ = some v
  c2 : ((w.setCell ⟨y, 1, none⟩ v).setCell ⟨g, k, none⟩ t).cell? ⟨y, 2, none⟩ = some v2
  c3 : ((w.setCell ⟨y, 1, none⟩ v).setCell ⟨g, k, none⟩ t).cell? ⟨y, 3, none⟩ = some v3
  x0 : ((w.setCell ⟨y, 1, none⟩ v).setCell ⟨g, k, none⟩ t).cell? ⟨x, 0, none⟩ = some (.slice none 0 0)
  x1 : ((w.setCell ⟨y, 1, none⟩ v).setCell ⟨g, k, none⟩ t).cell? ⟨x, 1, none⟩ = some (.slice none 0 0)
  x2 : ((w.setCell ⟨y, 1, none⟩ v).setCell ⟨g, k, none⟩ t).cell? ⟨x, 2, none⟩ = some (.int .i64 0)
  x3 : ((w.setCell ⟨y, 1, none⟩ v).setCell ⟨g, k, none⟩ t).cell? ⟨x, 3, none⟩ = some (.bool false)
  z0 : ((w.setCell ⟨y, 1, none⟩ v).setCell ⟨g, k, none⟩ t).frozen? ⟨x, 0, none⟩ = false
  z1 : ((w.setCell ⟨y, 1, none⟩ v).setCell ⟨g, k, none⟩ t).frozen? ⟨x, 1, none⟩ = false
  z2 : ((w.setCell ⟨y, 1, none⟩ v).setCell ⟨g, k, none⟩ t).frozen? ⟨x, 2, none⟩ = false
  z3 : ((w.setCell ⟨y, 1, none⟩ v).setCell ⟨g, k, none⟩ t).frozen? ⟨x, 3, none⟩ = false
  res : ((((((w.setCell ⟨y, 1, none⟩ v).setCell ⟨g, k, none⟩ t).setCell ⟨x, 0, none⟩ v0).setCell ⟨x, 1, none⟩ v).setCell ⟨x, 2, none⟩ v2).setCell ⟨x, 3, none⟩ v3).heap[x]? = some (.cells #[v0, v, v2, v3] 28)
theorem quadsW {y x g k : Nat} {v0 v1 v2 v3 u : Value} {w : World} (h : Quad y v0 v1 v2 v3 w) (q : Quad x (.slice none 0 0) (.slice none 0 0) (.int .i64 0) (.bool false) w) (hxy : x ≠ y) (hgy : g ≠ y) (hgx : g ≠ x) (hu : w.cell? ⟨g, k, none⟩ = some u) (hf : w.frozen? ⟨g, k, none⟩ = false) (v t : Value) : QuadsW y x g k v0 v1 v2 v3 v t w := by
  have h4 : Quad y v0 v v2 v3 (w.setCell ⟨y, 1, none⟩ v) := ⟨by have := h.at'; simp [World.setCell, Array.getElem?_modify, this]⟩
  have q4 : Quad x (.slice none 0 0) (.slice none 0 0) (.int .i64 0) (.bool false) (w.setCell ⟨y, 1, none⟩ v) := ⟨by rw [Below.heap_setCell _ _ _ _ hxy]; exact q.at'⟩
  have h5 : Quad y v0 v v2 v3 ((w.setCell ⟨y, 1, none⟩ v).setCell ⟨g, k, none⟩ t) := ⟨by rw [Below.heap_setCell _ _ _ _ (fun e => hgy e.symm)]; exact h4.at'⟩
  have q5 : Quad x (.slice none 0 0) (.slice none 0 0) (.int .i64 0) (.bool false) ((w.setCell ⟨y, 1, none⟩ v).setCell ⟨g, k, none⟩ t) := ⟨by rw [Below.heap_setCell _ _ _ _ (fun e => hgx e.symm)]; exact q4.at'⟩
  obtain ⟨a1, b1⟩ := h.cells
  obtain ⟨a4, _⟩ := h4.cells
  obtain ⟨a5, _⟩ := h5.cells
  obtain ⟨a6, b6⟩ := q5.cells
  exact ⟨a1.2.1, b1.2.1, a4.2.1, ⟨u, by rw [World.cell?_setCell_far _ _ _ _ (fun e => hgy e.symm)]; exact hu⟩, by rw [World.frozen?_setCell]; exact hf, a5.1, a5.2.1, a5.2.2.1, a5.2.2.2, a6.1, a6.2.1, a6.2.2.1, a6.2.2.2, b6.1, b6.2.1, b6.2.2.1, b6.2.2.2, quad_set q5.at' v0 v v2 v3⟩
set_option maxHeartbeats 2000000 in
theorem refWrite_works (r : RefM) (k : Nat) (s : ByteArray) (w : World) (h : RefAt r w) (hl : r.left ≤ 2 ^ 62) (hd : r.dead = false) (hk : k < r.n) (hs : s.size ≤ 64) (h0 : ¬ r.left = 0) :
    Calls Try.prog 38 #[.agg r.cells, .int .i64 (k : Int), .string s] w fun e w' => ∃ r', e = .returned (.tuple #[.agg r'.cells, .int .i64 0]) ∧ r'.n = r.n ∧ r'.S = r.S ∧ r'.T = wroteF r.T k (txtf s) ∧ r'.dead = false ∧ r'.left = (if 0 < r.left then r.left - 1 else r.left) ∧ RefAt r' w' ∧ Below w.heap.size w w' := by
  have HSp := Lib.hid fun wx => refSpend_any r wx hl
  have HRd := Lib.hid fun wx (h : RefAt r wx) => refRead_any r k wx h
  have H := Lib.hid h
  clear h hl
  obtain ⟨sa, na, n, sc, nc, S, T, l, d⟩ := r
  simp only at hd hk h0
  subst hd
  have e1 : (⟨sa, na, n, sc, nc, S, T, l, false⟩ : RefM).cells = #[.slice sa n sc, .slice na n nc, .int .i64 l, .bool false] := rfl
  rw [e1] at HSp HRd ⊢
  clear e1
  have hsz : ¬ 64 < (s.size : Int) := by omega
  simp only
  obtain ⟨Lp, hLp⟩ : ∃ Lp, (if 0 < l then l - 1 else l) = Lp := ⟨_, rfl⟩
  rw [hLp]
  have HLp := Lib.hid hLp
  clear hLp
  go_enter Try.func38, Try.ntmps38
  go_wp2_with fail
  have q1 : Quad (w.heap.size + 1) (.slice none 0 0) (.slice none 0 0) (.int .i64 0) (.bool false) ((w.alloc (.cells #[.slice sa n sc, .slice na n nc, .int .i64 l, .bool false] 28)).alloc (.cells #[.slice none 0 0, .slice none 0 0, .int .i64 0, .bool false] 28)) := ⟨heap_alloc2_new w _ _⟩
  have q0 : Quad w.heap.size (.slice sa n sc) (.slice na n nc) (.int .i64 l) (.bool false) ((w.alloc (.cells #[.slice sa n sc, .slice na n nc, .int .i64 l, .bool false] 28)).alloc (.cells #[.slice none 0 0, .slice none 0 0, .int .i64 0, .bool false] 28)) := ⟨heap_alloc2_old w _ _⟩
  have HB := Lib.hid (two_below w (.cells #[.slice sa n sc, .slice na n nc, .int .i64 l, .bool false] 28) (.cells #[.slice none 0 0, .slice none 0 0, .int .i64 0, .bool false] 28))
  have HQ := Lib.hid q1
  have HQ0 := Lib.hid q0
  clear q1 q0
  generalize (w.alloc (.cells #[.slice sa n sc, .slice na n nc, .int .i64 l, .bool false] 28)).alloc (.cells #[.slice none 0 0, .slice none 0 0, .int .i64 0, .bool false] 28) = W at *
  refine (HRd.out _ (H.out.below HB.out)).mono ?_
  rintro e w1 ⟨o, R, rfl, hR, hb⟩
  obtain rfl : o = 0 := by
    cases hR with
    | cut e => cases e
    | range _ e => simp only at e; omega
    | works j _ _ _ => rfl
  have HQ1 := Lib.hid (HQ.out.keep hb)
  have HQ01 := Lib.hid (HQ0.out.keep hb)
  have HB1 := Lib.hid (HB.out.trans (hb.mono HB.out.size))
  obtain ⟨⟨c0, c1, c2, c3⟩, _⟩ := HQ01.out.cells
  clear hR hb HQ HQ0 HB HRd
  go_wp2_with fail
  refine (HSp.out _).mono ?_
  rintro e w2 ⟨o, r1, rfl, hS, f1, f2, f3, f4, f5, f6, f7, hb⟩
  obtain ⟨sa', na', n', sc', nc', S', T', l', d'⟩ := r1
  simp only at f1 f2 f3 f4 f5 f6 f7
  subst f1 f2 f3 f4 f5 f6 f7
  obtain ⟨rfl, rfl, hl'⟩ : o = 0 ∧ d' = false ∧ l' = (if 0 < l then l - 1 else l) := by
    cases hS with
    | cut e => cases e
    | dies _ e => exact absurd e h0
    | armed _ e => exact ⟨rfl, rfl, by rw [if_pos e]⟩
    | free _ e => exact ⟨rfl, rfl, by rw [if_neg (by simp only at e; omega)]⟩
  have HL' := Lib.hid hl'
  have HQ2 := Lib.hid (HQ1.out.keep hb)
  have HB2 := Lib.hid (HB1.out.trans (hb.mono HB1.out.size))
  clear hS hb HQ1 HQ01 HB1 HSp c0 c1 c2 c3 hl'
  have e2 : (⟨sa', na', n', sc', nc', S', T', l', false⟩ : RefM).cells = #[.slice sa' n' sc', .slice na' n' nc', .int .i64 l', .bool false] := rfl
  rw [e2]
  clear e2
  have hlt1 := HQ2.out.lt
  have hq2 : Quad (w.heap.size + 1) (.slice none 0 0) (.slice none 0 0) (.int .i64 0) (.bool false) (w2.alloc (.cells #[.slice sa' n' sc', .slice na' n' nc', .int .i64 l', .bool false] 28)) := HQ2.out.keep ((Below.refl _ _).alloc (Nat.le_refl _) _)
  have hq3 : Quad w2.heap.size (.slice sa' n' sc') (.slice na' n' nc') (.int .i64 l') (.bool false) (w2.alloc (.cells #[.slice sa' n' sc', .slice na' n' nc', .int .i64 l', .bool false] 28)) := ⟨heap_alloc_new w2 _⟩
  have HBV : Hid (Below w.heap.size w (w2.alloc (.cells #[.slice sa' n' sc', .slice na' n' nc', .int .i64 l', .bool false] 28))) := Lib.hid (HB2.out.alloc HB2.out.size _)
  go_wp2_with fail
  generalize w2.alloc (.cells #[.slice sa' n' sc', .slice na' n' nc', .int .i64 l', .bool false] 28) = V at *
  generalize w2.heap.size = y at *
  generalize hx1 : w.heap.size + 1 = x1 at *
  have HX1 := Lib.hid hx1
  have HV := Lib.hid (H.out.below HBV.out)
  have HQx := Lib.hid hq2
  have HQy := Lib.hid hq3
  clear hq2 hq3 HQ2 HB2 hx1
  go_loopw [2] (fun s2 wx => ∃ j : Nat, s.size + j ≤ 64 ∧ s2 = .string (tail0 s j) ∧ wx = V) (fun s2 _ => 64 - lenOf s2)
  case atStart => exact ⟨0, by omega, by rw [tail0_zero], rfl⟩
  case round =>
    obtain ⟨j, hj, rfl, rfl⟩ := hrel
    have HT := Lib.hid (tail0_succ s j)
    have hz := tail0_size s j
    generalize hP : tail0 s j = P at *
    have HP := Lib.hid hP
    have HZ := Lib.hid hz
    clear hP
    by_cases hlt : s.size + j < 64
    · have hi : (P.size : Int) < 64 := by omega
      have hc : ∀ wx : World, (Op.stringOp .add P ⟨#[0]⟩).run Try.prog wx = .ok (.string (P ++ ⟨#[0]⟩)) wx := fun wx => run_string_add_sum wx P _ (by show P.size + 1 ≤ _; omega)
      clear hz
      go_wp2_with fail
      go_roundw
      case rel => exact ⟨j + 1, by omega, by rw [HT.out], trivial⟩
      case measure =>
        show 64 - (P ++ (⟨#[0]⟩ : ByteArray)).size < 64 - P.size
        rw [ByteArray.size_append]
        show 64 - (P.size + 1) < _
        have := HZ.out
        omega
    · have hi : ¬ (P.size : Int) < 64 := by omega
      have HPe : Hid (P = tail0 s (64 - s.size)) := Lib.hid (by rw [← HP.out]; congr 1; omega)
      have hkn1 : (0 : Int) ≤ (k : Int) := by omega
      have hkn2 : (k : Int) < (n' : Int) := by omega
      have HAft : Hid (∀ g cap w3, TextsAt w3 (some ⟨g, 0, none⟩) n' T' → (∀ j, w3.frozen? ⟨g, j, none⟩ = false) → Below wr.heap.size wr w3 → wr.heap.size ≤ g → QuadsW y x1 g k (.slice sa' n' sc') (.slice na' n' nc') (.int .i64 l') (.bool false) (.slice (some ⟨g, 0, none⟩) n' cap) (.string P) w3) := Lib.hid fun g cap w3 ht hf hb hg => by
        rcases ht with h | ⟨b, e, hr⟩
        · omega
        obtain rfl : g = b := by simpa using e
        have := HQy.out.lt
        have := HQx.out.lt
        exact quadsW (HQy.out.keep hb) (HQx.out.keep hb) (by omega) (by omega) (by omega) (hr k hk) (hf k) _ _
      have hq4 : Quad y (.slice sa' n' sc') (.slice na' n' nc') (.int .i64 l') (.bool false) (wr.alloc (.cells #[] 9)) := HQy.out.keep ((Below.refl _ _).alloc (Nat.le_refl _) _)
      obtain ⟨⟨c0, c1, c2, c3⟩, _⟩ := hq4.cells
      clear hz hq4
      go_upto_region 11 with fail
      go_upto_region 12 with (at_builtin; (refine wpList_copy_texts rfl _ _ rfl wr na' n' nc' T' rfl rfl HV.out.t HV.out.n HV.out.zt ?_); (intro g cap w3 ht hf hb hg); (obtain ⟨a1, a2, b1, ⟨u, b2⟩, b3, d0, d1, d2, d3, x0, x1', x2, x3, z0, z1, z2, z3, hres⟩ := HAft.out g cap w3 ht hf hb hg); (have HT3 := Lib.hid ht); (have HB3 := Lib.hid hb); (have HG3 := Lib.hid hg); (have HR := Lib.hid hres); (clear ht hf hb hg hres))
      generalize hw4 : w3.setCell ⟨y, 1, none⟩ (.slice (some ⟨g, 0, none⟩) n' cap) = w4 at *
      have HW4 := Lib.hid hw4
      clear hw4
      go_upto_region 13 with fail
      generalize hw5 : w4.setCell ⟨g, k, none⟩ (.string P) = w5 at *
      have HW5 := Lib.hid hw5
      clear hw5 a1 a2 b1 b2 b3 c0 c1 c2 c3
      go_wp2_with fail
      refine bodyPost_ret (results_pair rfl _ _ x1 _ _ _ _ rfl HR.out Try.underlying28 size_ref) rfl ?_
      have hx1 := HX1.out
      have hyV := HQy.out.lt
      have hxV := HQx.out.lt
      have hg3 := HG3.out
      obtain rfl := HW5.out
      obtain rfl := HW4.out
      have hst := HT3.out.keep (S := fun k => k = y) ((Grew.refl w3).setCell ⟨y, 1, none⟩ (.slice (some ⟨g, 0, none⟩) n' cap) fun _ => rfl) (fun b e => by obtain rfl : g = b := (by simpa using e); show ¬ g = y; omega)
      have hst2 := hst.store k hk s hs
      rw [← HPe.out] at hst2
      have hgr : Grew (fun k => k = x1) ((w3.setCell ⟨y, 1, none⟩ (.slice (some ⟨g, 0, none⟩) n' cap)).setCell ⟨g, k, none⟩ (.string P)) ((((((w3.setCell ⟨y, 1, none⟩ (.slice (some ⟨g, 0, none⟩) n' cap)).setCell ⟨g, k, none⟩ (.string P)).setCell ⟨x1, 0, none⟩ (.slice sa' n' sc')).setCell ⟨x1, 1, none⟩ (.slice (some ⟨g, 0, none⟩) n' cap)).setCell ⟨x1, 2, none⟩ (.int .i64 l')).setCell ⟨x1, 3, none⟩ (.bool false)) :=
        ((((Grew.refl (S := fun k => k = x1) _).setCell ⟨x1, 0, none⟩ _ fun _ => rfl).setCell ⟨x1, 1, none⟩ _ fun _ => rfl).setCell ⟨x1, 2, none⟩ _ fun _ => rfl).setCell ⟨x1, 3, none⟩ _ fun _ => rfl
      have hB3 : Below w.heap.size w w3 := HBV.out.trans (HB3.out.mono (by omega))
      have hB4 := (hB3.setCell (p := ⟨y, 1, none⟩) (by show w.heap.size ≤ y; omega) (.slice (some ⟨g, 0, none⟩) n' cap)).setCell (p := ⟨g, k, none⟩) (by show w.heap.size ≤ g; omega) (.string P)
      have hBf := hgr.below hB4 hB4.size (fun k e => by omega)
      have hold := H.out.below hBf
      refine ⟨⟨sa', some ⟨g, 0, none⟩, n', sc', cap, S', wroteF T' k (txtf s), l', false⟩, rfl, rfl, rfl, rfl, rfl, HL'.out.trans HLp.out, ⟨hold.s, hst2.keep hgr (fun b e => ?_), hold.n, hold.zs, fun e => ?_⟩, hBf⟩
      · obtain rfl : g = b := by simpa using e
        show ¬ g = x1
        omega
      · cases e
end Go.Proofs.Ytjggofbaipppbaa
