/-
  The document's own disk: Write that is refused: contracts.
-/
import Derived.Test.YtjggofbaipppbaaRefWrite
namespace Go.Proofs.Ytjggofbaipppbaa
open Go.RowKit

set_option maxHeartbeats 2000000 in
theorem refWrite_stop (r : RefM) (at' : Int) (s : ByteArray) (w : World) (h : RefAt r w) (hst : r.dead = true ∨ at' < 0 ∨ r.n ≤ at') :
    Calls Try.prog 38 #[.agg r.cells, .int .i64 at', .string s] w fun e w' => e = .returned (.tuple #[.agg r.cells, .int .i64 (if r.dead then 12 else 6)]) ∧ RefAt r w' ∧ Below w.heap.size w w' := by
  have HRd := Lib.hid fun wx (h : RefAt r wx) => refRead_any r at' wx h
  have H := Lib.hid h
  clear h
  obtain ⟨sa, na, n, sc, nc, S, T, l, d⟩ := r
  simp only at hst ⊢
  obtain ⟨c, hc⟩ : ∃ c : Int, (if d then 12 else 6) = c := ⟨_, rfl⟩
  have hc0 : ¬ c = 0 := by rw [← hc]; split <;> decide
  have hcb : (c == 0) = false := by rw [beq_eq_false_iff_ne]; exact hc0
  rw [hc]
  have e1 : (⟨sa, na, n, sc, nc, S, T, l, d⟩ : RefM).cells = #[.slice sa n sc, .slice na n nc, .int .i64 l, .bool d] := rfl
  rw [e1] at HRd ⊢
  clear e1
  have HC := Lib.hid hc
  have HSt := Lib.hid hst
  clear hc hst
  go_enter Try.func38, Try.ntmps38
  go_wp2_with fail
  have q1 : Quad (w.heap.size + 1) (.slice none 0 0) (.slice none 0 0) (.int .i64 0) (.bool false) ((w.alloc (.cells #[.slice sa n sc, .slice na n nc, .int .i64 l, .bool d] 28)).alloc (.cells #[.slice none 0 0, .slice none 0 0, .int .i64 0, .bool false] 28)) := ⟨heap_alloc2_new w _ _⟩
  have q0 : Quad w.heap.size (.slice sa n sc) (.slice na n nc) (.int .i64 l) (.bool d) ((w.alloc (.cells #[.slice sa n sc, .slice na n nc, .int .i64 l, .bool d] 28)).alloc (.cells #[.slice none 0 0, .slice none 0 0, .int .i64 0, .bool false] 28)) := ⟨heap_alloc2_old w _ _⟩
  have HB := Lib.hid (two_below w (.cells #[.slice sa n sc, .slice na n nc, .int .i64 l, .bool d] 28) (.cells #[.slice none 0 0, .slice none 0 0, .int .i64 0, .bool false] 28))
  have HQ := Lib.hid q1
  have HQ0 := Lib.hid q0
  clear q1 q0
  generalize (w.alloc (.cells #[.slice sa n sc, .slice na n nc, .int .i64 l, .bool d] 28)).alloc (.cells #[.slice none 0 0, .slice none 0 0, .int .i64 0, .bool false] 28) = W at *
  refine (HRd.out _ (H.out.below HB.out)).mono ?_
  rintro e w1 ⟨o, R, rfl, hR, hb⟩
  obtain rfl : o = c := by
    have hc := HC.out
    cases hR with
    | cut e => have : d = true := e; rw [this] at hc; simpa using hc
    | range e _ => have : d = false := e; rw [this] at hc; simpa using hc
    | works j e e2 e3 =>
      simp only at e e2 e3
      rcases HSt.out with h | h | h
      · rw [h] at e; cases e
      · omega
      · omega
  have hq1 := HQ.out.keep hb
  have hq0 := HQ0.out.keep hb
  have HB1 := Lib.hid (HB.out.trans (hb.mono HB.out.size))
  obtain ⟨⟨c0, c1, c2, c3⟩, _⟩ := hq0.cells
  obtain ⟨⟨f0, f1, f2, f3⟩, z0, z1, z2, z3⟩ := hq1.cells
  have HR := Lib.hid (quad_set hq1.at' (.slice sa n sc) (.slice na n nc) (.int .i64 l) (.bool d))
  clear hR hb HQ HQ0 HB HRd hq1 hq0
  go_wp2_with fail
  refine bodyPost_ret (results_pair rfl _ _ (w.heap.size + 1) _ _ _ _ rfl HR.out Try.underlying28 size_ref) rfl ?_
  have hB2 := (((HB1.out.setCell (p := ⟨w.heap.size + 1, 0, none⟩) (Nat.le_succ _) (.slice sa n sc)).setCell (p := ⟨w.heap.size + 1, 1, none⟩) (Nat.le_succ _) (.slice na n nc)).setCell (p := ⟨w.heap.size + 1, 2, none⟩) (Nat.le_succ _) (.int .i64 l)).setCell (p := ⟨w.heap.size + 1, 3, none⟩) (Nat.le_succ _) (.bool d)
  exact ⟨rfl, H.out.below hB2, hB2⟩
set_option maxHeartbeats 2000000 in
theorem refWrite_big (r : RefM) (at' : Int) (s : ByteArray) (w : World) (h : RefAt r w) (hst : r.dead = false ∧ 0 ≤ at' ∧ at' < r.n) (hs : 64 < s.size) :
    Calls Try.prog 38 #[.agg r.cells, .int .i64 at', .string s] w fun e w' => e = .returned (.tuple #[.agg r.cells, .int .i64 3]) ∧ RefAt r w' ∧ Below w.heap.size w w' := by
  have HRd := Lib.hid fun wx (h : RefAt r wx) => refRead_any r at' wx h
  have H := Lib.hid h
  clear h
  obtain ⟨sa, na, n, sc, nc, S, T, l, d⟩ := r
  simp only at hst ⊢
  have hsz : 64 < (s.size : Int) := by omega
  have e1 : (⟨sa, na, n, sc, nc, S, T, l, d⟩ : RefM).cells = #[.slice sa n sc, .slice na n nc, .int .i64 l, .bool d] := rfl
  rw [e1] at HRd ⊢
  clear e1
  have HSt := Lib.hid hst
  clear hst
  go_enter Try.func38, Try.ntmps38
  go_wp2_with fail
  have q1 : Quad (w.heap.size + 1) (.slice none 0 0) (.slice none 0 0) (.int .i64 0) (.bool false) ((w.alloc (.cells #[.slice sa n sc, .slice na n nc, .int .i64 l, .bool d] 28)).alloc (.cells #[.slice none 0 0, .slice none 0 0, .int .i64 0, .bool false] 28)) := ⟨heap_alloc2_new w _ _⟩
  have q0 : Quad w.heap.size (.slice sa n sc) (.slice na n nc) (.int .i64 l) (.bool d) ((w.alloc (.cells #[.slice sa n sc, .slice na n nc, .int .i64 l, .bool d] 28)).alloc (.cells #[.slice none 0 0, .slice none 0 0, .int .i64 0, .bool false] 28)) := ⟨heap_alloc2_old w _ _⟩
  have HB := Lib.hid (two_below w (.cells #[.slice sa n sc, .slice na n nc, .int .i64 l, .bool d] 28) (.cells #[.slice none 0 0, .slice none 0 0, .int .i64 0, .bool false] 28))
  have HQ := Lib.hid q1
  have HQ0 := Lib.hid q0
  clear q1 q0
  generalize (w.alloc (.cells #[.slice sa n sc, .slice na n nc, .int .i64 l, .bool d] 28)).alloc (.cells #[.slice none 0 0, .slice none 0 0, .int .i64 0, .bool false] 28) = W at *
  refine (HRd.out _ (H.out.below HB.out)).mono ?_
  rintro e w1 ⟨o, R, rfl, hR, hb⟩
  obtain rfl : o = 0 := by
    cases hR with
    | cut e => have h := HSt.out.1; have e' : d = true := e; rw [h] at e'; cases e'
    | range _ e => simp only at e; have := HSt.out; omega
    | works j _ _ _ => rfl
  have hq1 := HQ.out.keep hb
  have hq0 := HQ0.out.keep hb
  have HB1 := Lib.hid (HB.out.trans (hb.mono HB.out.size))
  obtain ⟨⟨c0, c1, c2, c3⟩, _⟩ := hq0.cells
  obtain ⟨⟨f0, f1, f2, f3⟩, z0, z1, z2, z3⟩ := hq1.cells
  have HR := Lib.hid (quad_set hq1.at' (.slice sa n sc) (.slice na n nc) (.int .i64 l) (.bool d))
  clear hR hb HQ HQ0 HB HRd hq1 hq0
  go_wp2_with fail
  refine bodyPost_ret (results_pair rfl _ _ (w.heap.size + 1) _ _ _ _ rfl HR.out Try.underlying28 size_ref) rfl ?_
  have hB2 := (((HB1.out.setCell (p := ⟨w.heap.size + 1, 0, none⟩) (Nat.le_succ _) (.slice sa n sc)).setCell (p := ⟨w.heap.size + 1, 1, none⟩) (Nat.le_succ _) (.slice na n nc)).setCell (p := ⟨w.heap.size + 1, 2, none⟩) (Nat.le_succ _) (.int .i64 l)).setCell (p := ⟨w.heap.size + 1, 3, none⟩) (Nat.le_succ _) (.bool d)
  exact ⟨rfl, H.out.below hB2, hB2⟩
set_option maxHeartbeats 2000000 in
theorem refWrite_dies (r : RefM) (at' : Int) (s : ByteArray) (w : World) (h : RefAt r w) (hst : r.dead = false ∧ 0 ≤ at' ∧ at' < r.n) (hs : s.size ≤ 64) (h0 : r.left = 0) :
    Calls Try.prog 38 #[.agg r.cells, .int .i64 at', .string s] w fun e w' => e = .returned (.tuple #[.agg ({ r with dead := true } : RefM).cells, .int .i64 12]) ∧ RefAt { r with dead := true } w' ∧ Below w.heap.size w w' := by
  have HRd := Lib.hid fun wx (h : RefAt r wx) => refRead_any r at' wx h
  have HSp := Lib.hid fun wx => refSpend_any r wx (by rw [h0]; decide)
  have H := Lib.hid h
  clear h
  obtain ⟨sa, na, n, sc, nc, S, T, l, d⟩ := r
  simp only at hst h0 ⊢
  subst h0
  have hsz : ¬ 64 < (s.size : Int) := by omega
  have e1 : (⟨sa, na, n, sc, nc, S, T, 0, d⟩ : RefM).cells = #[.slice sa n sc, .slice na n nc, .int .i64 0, .bool d] := rfl
  rw [e1] at HRd HSp
  rw [e1]
  have e3 : (⟨sa, na, n, sc, nc, S, T, 0, true⟩ : RefM).cells = #[.slice sa n sc, .slice na n nc, .int .i64 0, .bool true] := rfl
  rw [e3]
  clear e1 e3
  have HSt := Lib.hid hst
  clear hst
  go_enter Try.func38, Try.ntmps38
  go_wp2_with fail
  have q1 : Quad (w.heap.size + 1) (.slice none 0 0) (.slice none 0 0) (.int .i64 0) (.bool false) ((w.alloc (.cells #[.slice sa n sc, .slice na n nc, .int .i64 0, .bool d] 28)).alloc (.cells #[.slice none 0 0, .slice none 0 0, .int .i64 0, .bool false] 28)) := ⟨heap_alloc2_new w _ _⟩
  have q0 : Quad w.heap.size (.slice sa n sc) (.slice na n nc) (.int .i64 0) (.bool d) ((w.alloc (.cells #[.slice sa n sc, .slice na n nc, .int .i64 0, .bool d] 28)).alloc (.cells #[.slice none 0 0, .slice none 0 0, .int .i64 0, .bool false] 28)) := ⟨heap_alloc2_old w _ _⟩
  have HB := Lib.hid (two_below w (.cells #[.slice sa n sc, .slice na n nc, .int .i64 0, .bool d] 28) (.cells #[.slice none 0 0, .slice none 0 0, .int .i64 0, .bool false] 28))
  have HQ := Lib.hid q1
  have HQ0 := Lib.hid q0
  clear q1 q0
  generalize (w.alloc (.cells #[.slice sa n sc, .slice na n nc, .int .i64 0, .bool d] 28)).alloc (.cells #[.slice none 0 0, .slice none 0 0, .int .i64 0, .bool false] 28) = W at *
  refine (HRd.out _ (H.out.below HB.out)).mono ?_
  rintro e w1 ⟨o, R, rfl, hR, hb⟩
  obtain rfl : o = 0 := by
    cases hR with
    | cut e => have h := HSt.out.1; have e' : d = true := e; rw [h] at e'; cases e'
    | range _ e => simp only at e; have := HSt.out; omega
    | works j _ _ _ => rfl
  have HQ1 := Lib.hid (HQ.out.keep hb)
  have hq0 := HQ0.out.keep hb
  have HB1 := Lib.hid (HB.out.trans (hb.mono HB.out.size))
  obtain ⟨⟨c0, c1, c2, c3⟩, _⟩ := hq0.cells
  clear hR hb HQ HQ0 HB HRd hq0
  go_wp2_with fail
  refine (HSp.out _).mono ?_
  rintro e w2 ⟨o, r1, rfl, hS, f1, f2, f3, f4, f5, f6, f7, hb⟩
  obtain ⟨sa', na', n', sc', nc', S', T', l', d'⟩ := r1
  simp only at f1 f2 f3 f4 f5 f6 f7
  subst f1 f2 f3 f4 f5 f6 f7
  obtain ⟨rfl, rfl, rfl⟩ : o = 12 ∧ d' = true ∧ l' = 0 := by
    cases hS with
    | cut e => have h := HSt.out.1; have e' : d = true := e; rw [h] at e'; cases e'
    | dies _ _ => exact ⟨rfl, rfl, rfl⟩
    | armed _ e => simp only at e; omega
    | free _ e => simp only at e; omega
  have hq2 : Quad (w.heap.size + 1) (.slice none 0 0) (.slice none 0 0) (.int .i64 0) (.bool false) (w2.alloc (.cells #[.slice sa' n' sc', .slice na' n' nc', .int .i64 0, .bool true] 28)) := (HQ1.out.keep hb).keep ((Below.refl _ _).alloc (Nat.le_refl _) _)
  have hB2 := HB1.out.trans (hb.mono HB1.out.size)
  have HBV : Hid (Below w.heap.size w (w2.alloc (.cells #[.slice sa' n' sc', .slice na' n' nc', .int .i64 0, .bool true] 28))) := Lib.hid (hB2.alloc hB2.size _)
  obtain ⟨⟨f0, f1, f2, f3⟩, z0, z1, z2, z3⟩ := hq2.cells
  have HR := Lib.hid (quad_set hq2.at' (.slice sa' n' sc') (.slice na' n' nc') (.int .i64 0) (.bool true))
  have e2 : (⟨sa', na', n', sc', nc', S', T', 0, true⟩ : RefM).cells = #[.slice sa' n' sc', .slice na' n' nc', .int .i64 0, .bool true] := rfl
  rw [e2]
  clear hS hb HQ1 HB1 HSp c0 c1 c2 c3 hq2 hB2 e2
  go_wp2_with fail
  refine bodyPost_ret (results_pair rfl _ _ (w.heap.size + 1) _ _ _ _ rfl HR.out Try.underlying28 size_ref) rfl ?_
  have hB3 := (((HBV.out.setCell (p := ⟨w.heap.size + 1, 0, none⟩) (Nat.le_succ _) (.slice sa' n' sc')).setCell (p := ⟨w.heap.size + 1, 1, none⟩) (Nat.le_succ _) (.slice na' n' nc')).setCell (p := ⟨w.heap.size + 1, 2, none⟩) (Nat.le_succ _) (.int .i64 0)).setCell (p := ⟨w.heap.size + 1, 3, none⟩) (Nat.le_succ _) (.bool true)
  have hold := H.out.below hB3
  exact ⟨rfl, ⟨hold.s, hold.t, hold.n, hold.zs, hold.zt⟩, hB3⟩
end Go.Proofs.Ytjggofbaipppbaa
