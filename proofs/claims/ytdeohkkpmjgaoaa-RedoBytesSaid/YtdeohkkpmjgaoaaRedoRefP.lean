/-
  The document's Parse of an op: a contract.
-/
import Derived.Test.YtdeohkkpmjgaoaaRedoRef
namespace Go.Proofs.Ytdeohkkpmjgaoaa
open Go.RowKit

theorem ext_list (S : ByteArray) (a b : Nat) : (S.extract a b).data.toList = (S.data.toList.drop a).take (b - a) := by
  simp [ByteArray.data_extract, Array.toList_extract, List.extract_eq_take_drop]
theorem ext_size (S : ByteArray) (a b : Nat) : (S.extract a b).size ≤ b - a := by rw [ByteArray.size_extract]; omega
theorem num_one (s : ByteArray) (h : 0 < s.size) : (s[0]'h).toNat = num (s.data.toList.take 1) := by
  have := num_take_succ s.data.toList 0 (by simpa using h)
  rw [this]
  simp [num]
  rfl
theorem opr_set {w : World} {x : Nat} {a b c d e : Value} (h : w.heap[x]? = some zeroOpr) :
    (((((w.setCell ⟨x, 0, none⟩ a).setCell ⟨x, 1, none⟩ b).setCell ⟨x, 2, none⟩ c).setCell ⟨x, 3, none⟩ d).setCell ⟨x, 4, none⟩ e).heap[x]? = some (.cells #[a, b, c, d, e] 99) := by
  simp [World.setCell, Array.getElem?_modify, h]
theorem opr_ret (w : World) (a b c d e : Value) : (w.alloc (.cells #[a, b, c, d, e] 99)).heap[w.heap.size]? = some (.cells #[a, b, c, d, e] 99) := heap_alloc_new w _
theorem opr_below (w : World) (a b c d e : Value) : Below w.heap.size w (w.alloc (.cells #[a, b, c, d, e] 99)) := (Below.refl _ _).alloc (Nat.le_refl _) _
set_option maxHeartbeats 1000000 in
theorem refRedoParse_any (s : ByteArray) (hs : s.size ≤ 1000) (w : World) :
    Calls Try.prog 72 #[.string s] w fun e w' => e = .returned (.tuple #[.agg (gotRO s).told, .int .i64 ((redoE s).getD 0)]) ∧ Below w.heap.size w w' := by
  have HE : Hid (redoE s = if s.size < 9 then some 2 else if (roOf s).k < 1 ∨ 7 < (roOf s).k then some 15 else none) := Lib.hid rfl
  have HG : Hid (gotRO s = if redoE s = none then roOf s else RO.none) := Lib.hid rfl
  by_cases h9 : s.size < 9
  · have h9' : (s.size : Int) < 9 := by omega
    have HE := Lib.hid (HE.out.trans (if_pos h9))
    have HG : Hid (gotRO s = RO.none) := Lib.hid (by rw [HG.out, HE.out, if_neg (by simp)])
    rw [HE.out, HG.out]
    go_enter Try.func72, Try.ntmps72
    go_wp2_with fail
    refine bodyPost_ret (results_two rfl _ _ w.heap.size _ _ _ _ rfl (opr_ret w _ _ _ _ _) Try.underlying99 oprSize) rfl ?_
    exact ⟨rfl, opr_below w _ _ _ _ _⟩
  · have h9' : ¬ (s.size : Int) < 9 := by omega
    have h0 := num_one s (by omega)
    have hb0 := num1_lt s.data.toList
    have HK : Hid ((roOf s).k = num (s.data.toList.take 1)) := Lib.hid rfl
    have HNum : ∀ a b, b - a ≤ 6 → ∀ wx : World, Calls Try.prog 123 #[.string (s.extract a b)] wx fun e w' => e = .returned (.int .i64 (num ((s.data.toList.drop a).take (b - a)) : Nat)) ∧ wx = w' := fun a b h wx => by
      have := number_any (s.extract a b) (Nat.le_trans (ext_size s a b) h) wx
      rw [ext_list] at this
      exact this
    have HN1 := Lib.hid (HNum 1 5 (by decide))
    have HN2 := Lib.hid (HNum 5 7 (by decide))
    have HN3 := Lib.hid (HNum 7 9 (by decide))
    clear HNum
    have HT : Hid ((roOf s).told = #[.int .i64 (num (s.data.toList.take 1) : Nat), .int .i64 (num ((s.data.toList.drop 1).take (5 - 1)) : Nat), .int .i64 (num ((s.data.toList.drop 5).take (7 - 5)) : Nat), .int .i64 (num ((s.data.toList.drop 7).take (9 - 7)) : Nat), .string (s.extract 9 s.size)]) := Lib.hid rfl
    generalize num (s.data.toList.take 1) = a0 at *
    generalize num ((s.data.toList.drop 1).take (5 - 1)) = a1 at *
    generalize num ((s.data.toList.drop 5).take (7 - 5)) = a2 at *
    generalize num ((s.data.toList.drop 7).take (9 - 7)) = a3 at *
    by_cases hk : a0 < 1 ∨ 7 < a0
    · have HE := Lib.hid (HE.out.trans ((if_neg h9).trans (if_pos (by rw [HK.out]; exact hk))))
      have HG : Hid (gotRO s = RO.none) := Lib.hid (by rw [HG.out, HE.out, if_neg (by simp)])
      rw [HE.out, HG.out]
      clear HT HN1 HN2 HN3
      by_cases hlt : a0 < 1
      · have i0 : (a0 : Int) < 1 := by omega
        clear hk hlt
        go_enter Try.func72, Try.ntmps72
        go_wp2_with fail
        refine bodyPost_ret (results_two rfl _ _ w.heap.size _ _ _ _ rfl (opr_ret w _ _ _ _ _) Try.underlying99 oprSize) rfl ?_
        exact ⟨rfl, opr_below w _ _ _ _ _⟩
      · have i0 : ¬ (a0 : Int) < 1 := by omega
        have i1 : (7 : Int) < (a0 : Int) := by omega
        clear hk hlt
        go_enter Try.func72, Try.ntmps72
        go_wp2_with fail
        refine bodyPost_ret (results_two rfl _ _ w.heap.size _ _ _ _ rfl (opr_ret w _ _ _ _ _) Try.underlying99 oprSize) rfl ?_
        exact ⟨rfl, opr_below w _ _ _ _ _⟩
    · have i0 : ¬ (a0 : Int) < 1 := by omega
      have i1 : ¬ (7 : Int) < (a0 : Int) := by omega
      have HE := Lib.hid (HE.out.trans ((if_neg h9).trans (if_neg (by rw [HK.out]; exact hk))))
      have HG : Hid (gotRO s = roOf s) := Lib.hid (by rw [HG.out, HE.out, if_pos rfl])
      rw [HE.out, HG.out, HT.out]
      clear hk HE HG HT HK
      have j0 : (0 : Int) < (s.size : Int) := by omega
      have j1 : (1 : Int) ≤ (s.size : Int) := by omega
      have j5 : (5 : Int) ≤ (s.size : Int) := by omega
      have j7 : (7 : Int) ≤ (s.size : Int) := by omega
      have j9 : (9 : Int) ≤ (s.size : Int) := by omega
      have hcv : IntKind.i64.wrap (a0 : Int) = (a0 : Int) := by
        simp only [IntKind.wrap, IntKind.bits, IntKind.signed]
        simp
        omega
      go_enter Try.func72, Try.ntmps72
      go_wp2_with fail
      go_region_held3 (fun _ => True) (exact trivial) (first | (go_at_call 123; (first | (with_reducible refine (HN1.out _).mono ?_) | (with_reducible refine (HN2.out _).mono ?_) | (with_reducible refine (HN3.out _).mono ?_)); rintro e w' ⟨rfl, rfl⟩))
      all_goals
        go_wp2_with fail
        refine bodyPost_ret (results_two rfl _ _ w.heap.size _ _ _ _ rfl (opr_ret w _ _ _ _ _) Try.underlying99 oprSize) rfl ?_
        exact ⟨rfl, (opr_below w _ _ _ _ _).drew⟩
end Go.Proofs.Ytdeohkkpmjgaoaa
