/-
  The document's own disk: Spoil: a contract.
-/
import Derived.Test.YtjggofbaipppbaaRefCrash2
import Derived.Test.YtjggofbaipppbaaDiskSpoil
namespace Go.Proofs.Ytjggofbaipppbaa
open Go.RowKit

/-- what the document's Spoil answers -/
inductive RefSpoilt (r : RefM) (at' by' : Int) : Int → RefM → Prop
  | range : (at' < 0 ∨ r.n ≤ at') → RefSpoilt r at' by' 6 r
  | arg (k : Nat) : at' = k → k < r.n → (by' < 0 ∨ 64 ≤ by') → RefSpoilt r at' by' 4 r
  | works (k b : Nat) (r' : RefM) : at' = k → k < r.n → by' = b → b < 64 → r'.n = r.n → r'.S = bendF r.S (k * 64 + b) 65 → r'.T = bendF r.T (k * 64 + b) 65 → r'.left = r.left → r'.dead = r.dead → RefSpoilt r at' by' 0 r'
theorem sec_size (f : Nat → UInt8) (k : Nat) : (⟨(sec f k).toArray⟩ : ByteArray).size = 64 := sec_length f k
theorem sec_bend (f : Nat → UInt8) (k b : Nat) (hb : b < 64) (i : Nat) : (⟨(sec (bendF f (k * 64 + b) 65) i).toArray⟩ : ByteArray) = if i = k then bentOf ⟨(sec f k).toArray⟩ b (by rw [sec_size]; exact hb) else ⟨(sec f i).toArray⟩ := by
  by_cases e : i = k
  · subst e
    rw [if_pos rfl]
    unfold bentOf
    apply ByteArray.ext
    apply Array.toList_inj.mp
    rw [ByteArray.data_append, ByteArray.data_append, Array.toList_append, Array.toList_append, ByteArray.data_extract, ByteArray.data_extract, Array.toList_extract, Array.toList_extract, List.extract_eq_take_drop, List.extract_eq_take_drop]
    show sec (bendF f (i * 64 + b) 65) i = List.take (b - 0) (List.drop 0 (sec f i)) ++ [(sec f i)[b]'(by simpa using hb) ^^^ 65] ++ List.take (64 - (b + 1)) (List.drop (b + 1) (sec f i))
    rw [List.drop_zero, Nat.sub_zero, List.take_of_length_le (l := List.drop (b + 1) (sec f i)) (by simp)]
    refine List.ext_getElem (by simp; omega) fun j h3 h4 => ?_
    have hj : j < 64 := by simpa using h3
    rw [sec_get]
    unfold bendF
    by_cases h1 : j < b
    · rw [if_neg (by omega), List.getElem_append_left (by simp; omega), List.getElem_append_left (by simp; omega), List.getElem_take, sec_get]
    · by_cases h2 : j = b
      · subst h2
        rw [if_pos rfl, List.getElem_append_left (by simp; omega), List.getElem_append_right (by simp; omega)]
        simp [sec_get]
      · rw [if_neg (by omega), List.getElem_append_right (by simp; omega), List.getElem_drop, sec_get]
        congr 1
        simp
        omega
  · rw [if_neg e]
    have h : sec (bendF f (k * 64 + b) 65) i = sec f i := by
      unfold sec
      refine List.map_congr_left fun j hj => ?_
      have hj : j < 64 := by simpa using hj
      unfold bendF
      rw [if_neg (by omega)]
    rw [h]
theorem TextsAt.bent {w : World} {g n : Nat} {f : Nat → UInt8} (h : TextsAt w (some ⟨g, 0, none⟩) n f) (k b : Nat) (hk : k < n) (hb : b < 64) :
    TextsAt (w.setCell ⟨g, k, none⟩ (.string (bentOf ⟨(sec f k).toArray⟩ b (by rw [sec_size]; exact hb)))) (some ⟨g, 0, none⟩) n (bendF f (k * 64 + b) 65) := by
  rcases h with h | ⟨c, e, hr⟩
  · omega
  obtain rfl : g = c := by simpa using e
  refine Or.inr ⟨g, rfl, fun i hi => ?_⟩
  rw [sec_bend f k b hb i]
  by_cases e : i = k
  · subst e
    rw [if_pos rfl]
    exact World.cell?_setCell_same _ _ _ (hr i hi)
  · rw [if_neg e, World.cell?_setCell_other _ _ _ _ (fun h => e (by cases h; rfl))]
    exact hr i hi
set_option maxRecDepth 100000 in
set_option maxHeartbeats 2000000 in
theorem refSpoil_stop (r : RefM) (at' by' o : Int) (w : World) (h : RefAt r w) (hst : (at' < 0 ∧ o = 6) ∨ (0 ≤ at' ∧ r.n ≤ at' ∧ o = 6) ∨ (0 ≤ at' ∧ at' < r.n ∧ by' < 0 ∧ o = 4) ∨ (0 ≤ at' ∧ at' < r.n ∧ 64 ≤ by' ∧ o = 4)) :
    Calls Try.prog 41 #[.agg r.cells, .int .i64 at', .int .i64 by', .int .u8 65] w fun e w' => e = .returned (.tuple #[.agg r.cells, .int .i64 o]) ∧ RefAt r w' ∧ Below w.heap.size w w' := by
  have H := Lib.hid h
  clear h
  obtain ⟨sa, na, n, sc, nc, S, T, l, d⟩ := r
  simp only at hst
  have e1 : (⟨sa, na, n, sc, nc, S, T, l, d⟩ : RefM).cells = #[.slice sa n sc, .slice na n nc, .int .i64 l, .bool d] := rfl
  rw [e1]
  clear e1
  go_enter Try.func41, Try.ntmps41
  go_upto_region 1 with fail
  have q1 : Quad (w.heap.size + 1) (.slice none 0 0) (.slice none 0 0) (.int .i64 0) (.bool false) ((w.alloc (.cells #[.slice sa n sc, .slice na n nc, .int .i64 l, .bool d] 28)).alloc (.cells #[.slice none 0 0, .slice none 0 0, .int .i64 0, .bool false] 28)) := ⟨heap_alloc2_new w _ _⟩
  have q0 : Quad w.heap.size (.slice sa n sc) (.slice na n nc) (.int .i64 l) (.bool d) ((w.alloc (.cells #[.slice sa n sc, .slice na n nc, .int .i64 l, .bool d] 28)).alloc (.cells #[.slice none 0 0, .slice none 0 0, .int .i64 0, .bool false] 28)) := ⟨heap_alloc2_old w _ _⟩
  have HB := Lib.hid (two_below w (.cells #[.slice sa n sc, .slice na n nc, .int .i64 l, .bool d] 28) (.cells #[.slice none 0 0, .slice none 0 0, .int .i64 0, .bool false] 28))
  obtain ⟨⟨c0, c1, c2, c3⟩, _⟩ := q0.cells
  obtain ⟨⟨f0, f1, f2, f3⟩, z0, z1, z2, z3⟩ := q1.cells
  have HR := Lib.hid (quad_set q1.at' (.slice sa n sc) (.slice na n nc) (.int .i64 l) (.bool d))
  clear q0 q1
  generalize ((w.alloc (.cells #[.slice sa n sc, .slice na n nc, .int .i64 l, .bool d] 28)).alloc (.cells #[.slice none 0 0, .slice none 0 0, .int .i64 0, .bool false] 28)) = W at *
  rcases hst with ⟨h1, rfl⟩ | ⟨h0, h1, rfl⟩ | ⟨h0, h1, h2, rfl⟩ | ⟨h0, h1, h2, rfl⟩
  · skip
    go_wp2_with fail
    refine bodyPost_ret (results_pair rfl _ _ (w.heap.size + 1) _ _ _ _ rfl HR.out Try.underlying28 size_ref) rfl ?_
    have hB2 := (((HB.out.setCell (p := ⟨w.heap.size + 1, 0, none⟩) (Nat.le_succ _) (.slice sa n sc)).setCell (p := ⟨w.heap.size + 1, 1, none⟩) (Nat.le_succ _) (.slice na n nc)).setCell (p := ⟨w.heap.size + 1, 2, none⟩) (Nat.le_succ _) (.int .i64 l)).setCell (p := ⟨w.heap.size + 1, 3, none⟩) (Nat.le_succ _) (.bool d)
    exact ⟨rfl, H.out.below hB2, hB2⟩
  · have h0' : ¬ at' < 0 := by omega
    go_wp2_with fail
    refine bodyPost_ret (results_pair rfl _ _ (w.heap.size + 1) _ _ _ _ rfl HR.out Try.underlying28 size_ref) rfl ?_
    have hB2 := (((HB.out.setCell (p := ⟨w.heap.size + 1, 0, none⟩) (Nat.le_succ _) (.slice sa n sc)).setCell (p := ⟨w.heap.size + 1, 1, none⟩) (Nat.le_succ _) (.slice na n nc)).setCell (p := ⟨w.heap.size + 1, 2, none⟩) (Nat.le_succ _) (.int .i64 l)).setCell (p := ⟨w.heap.size + 1, 3, none⟩) (Nat.le_succ _) (.bool d)
    exact ⟨rfl, H.out.below hB2, hB2⟩
  · have h0' : ¬ at' < 0 := by omega
    have h1' : ¬ (n : Int) ≤ at' := by omega
    go_wp2_with fail
    refine bodyPost_ret (results_pair rfl _ _ (w.heap.size + 1) _ _ _ _ rfl HR.out Try.underlying28 size_ref) rfl ?_
    have hB2 := (((HB.out.setCell (p := ⟨w.heap.size + 1, 0, none⟩) (Nat.le_succ _) (.slice sa n sc)).setCell (p := ⟨w.heap.size + 1, 1, none⟩) (Nat.le_succ _) (.slice na n nc)).setCell (p := ⟨w.heap.size + 1, 2, none⟩) (Nat.le_succ _) (.int .i64 l)).setCell (p := ⟨w.heap.size + 1, 3, none⟩) (Nat.le_succ _) (.bool d)
    exact ⟨rfl, H.out.below hB2, hB2⟩
  · have h0' : ¬ at' < 0 := by omega
    have h1' : ¬ (n : Int) ≤ at' := by omega
    have h2' : ¬ by' < 0 := by omega
    go_wp2_with fail
    refine bodyPost_ret (results_pair rfl _ _ (w.heap.size + 1) _ _ _ _ rfl HR.out Try.underlying28 size_ref) rfl ?_
    have hB2 := (((HB.out.setCell (p := ⟨w.heap.size + 1, 0, none⟩) (Nat.le_succ _) (.slice sa n sc)).setCell (p := ⟨w.heap.size + 1, 1, none⟩) (Nat.le_succ _) (.slice na n nc)).setCell (p := ⟨w.heap.size + 1, 2, none⟩) (Nat.le_succ _) (.int .i64 l)).setCell (p := ⟨w.heap.size + 1, 3, none⟩) (Nat.le_succ _) (.bool d)
    exact ⟨rfl, H.out.below hB2, hB2⟩
end Go.Proofs.Ytjggofbaipppbaa
