/-
  The calls of an In, for every text: contracts by walking their text.
-/
import Derived.Test.YtbohpffigmllkaaGreatDoorPackGuard
import Derived.Laws.BitsAllLaws
import Derived.IntWalk
namespace Go.Proofs.YtbohpffigmllkaaGreatDoor
open Go.RowKit

/-- how many bytes a number takes -/
def wid (n : Int) : Nat := (min (max n 1) 8).toNat
theorem wid_bd (n : Int) : 1 ≤ wid n ∧ wid n ≤ 8 := by unfold wid; omega

theorem width_any (n : Int) (w : World) :
    Calls Tryz.prog 158 #[.int .i64 n] w fun e w' => e = .returned (.int .i64 (wid n)) ∧ w = w' := by
  unfold wid
  go_enter Tryz.func158, Tryz.ntmps158
  go_wp2
  all_goals
    go_ret
    refine ⟨congrArg (fun x => Ending.returned (.int .i64 x)) ?_, rfl⟩
    first | omega | (rename_i h; split at h <;> omega) | (split at * <;> omega)
theorem read_any (s : ByteArray) (w : World) :
    Calls Tryz.prog 161 #[.string s] w fun e w' => e = .returned (.pointer (some ⟨w.heap.size, 0, none⟩)) ∧ w.alloc (.cells #[.string s] 183) = w' := by
  go_enter Tryz.func161, Tryz.ntmps161
  go_wp2
  go_ret
  exact ⟨rfl, rfl⟩
theorem text_neg (p : Addr) (n : Int) (w : World) (hn : n < 0) :
    Calls Tryz.prog 131 #[.pointer (some p), .int .i64 n] w fun e w' => e = failed 4 ∧ w = w' := by
  go_enter Tryz.func131, Tryz.ntmps131
  go_wp2_with fail
  refine (fail_any 4 _).mono ?_
  rintro e w' ⟨rfl, rfl⟩
  unfold failed
  go_wp2
  exact ⟨rfl, rfl, rfl⟩
theorem text_end (p : Addr) (s : ByteArray) (n : Int) (w : World) (h0 : 0 ≤ n) (hn : (s.size : Int) < n) (hc : w.cell? p = some (.string s)) :
    Calls Tryz.prog 131 #[.pointer (some p), .int .i64 n] w fun e w' => e = failed 2 ∧ w = w' := by
  have hz : ¬ n < 0 := by omega
  go_enter Tryz.func131, Tryz.ntmps131
  go_wp2_with fail
  refine (fail_any 2 _).mono ?_
  rintro e w' ⟨rfl, rfl⟩
  unfold failed
  go_wp2
  exact ⟨rfl, rfl, rfl⟩
theorem text_ok (p : Addr) (s : ByteArray) (n : Int) (w : World) (h0 : 0 ≤ n) (hn : n ≤ (s.size : Int)) (hc : w.cell? p = some (.string s)) (hz : w.frozen? p = false) :
    Calls Tryz.prog 131 #[.pointer (some p), .int .i64 n] w fun e w' => e = .returned (.string (s.extract 0 n.toNat)) ∧ w.setCell p (.string (s.extract n.toNat s.size)) = w' := by
  have h1 : ¬ n < 0 := by omega
  have h2 : ¬ (s.size : Int) < n := by omega
  go_enter Tryz.func131, Tryz.ntmps131
  go_wp2
  go_ret
  exact ⟨rfl, rfl⟩
theorem done_ok (p : Addr) (w : World) (hc : w.cell? p = some (.string ⟨#[]⟩)) :
    Calls Tryz.prog 162 #[.pointer (some p)] w fun e w' => e = .returned (.tuple #[]) ∧ w = w' := by
  go_enter Tryz.func162, Tryz.ntmps162
  go_wp2
  go_end0
  exact ⟨rfl, rfl⟩
theorem done_not (p : Addr) (s : ByteArray) (w : World) (hs : (!s.toList.isEmpty) = true) (hc : w.cell? p = some (.string s)) :
    Calls Tryz.prog 162 #[.pointer (some p)] w fun e w' => e = failed 1 ∧ w = w' := by
  go_enter Tryz.func162, Tryz.ntmps162
  go_wp2_with fail
  refine (fail_any 1 _).mono ?_
  rintro e w' ⟨rfl, rfl⟩
  unfold failed
  go_wp2
  exact ⟨rfl, rfl, rfl⟩
theorem take_snoc (s : ByteArray) (k : Nat) (h : k < s.size) : s.data.toList.take (k + 1) = s.data.toList.take k ++ [s[k]] := by
  rw [List.take_succ_eq_append_getElem (by simpa using h)]; rfl
/-- the number that bytes are, the highest first -/
def num (l : List UInt8) : Nat := l.foldl (fun n b => n * 256 + b.toNat) 0
theorem num_snoc (l : List UInt8) (b : UInt8) : num (l ++ [b]) = num l * 256 + b.toNat := by unfold num; rw [List.foldl_append]; rfl
theorem num_foldl (l : List UInt8) (n : Nat) : l.foldl (fun n b => n * 256 + b.toNat) n < (n + 1) * 256 ^ l.length := by
  induction l generalizing n with
  | nil => simp
  | cons b l ih =>
    have h1 := ih (n * 256 + b.toNat)
    have h2 := b.toNat_lt
    rw [List.foldl_cons, List.length_cons, Nat.pow_succ, Nat.mul_comm (256 ^ l.length) 256, ← Nat.mul_assoc]
    exact Nat.lt_of_lt_of_le h1 (Nat.mul_le_mul_right _ (by omega))
theorem num_lt (l : List UInt8) : num l < 256 ^ l.length := by have := num_foldl l 0; unfold num; omega
theorem or_step (X : Nat) (b : UInt8) (h : X < 72057594037927936) : bits .or .u64 (IntKind.u64.wrap ((X : Int) * 256)) (IntKind.u64.wrap (b.toNat : Int)) = ((X * 256 + b.toNat : Nat) : Int) := by
  have hb := b.toNat_lt
  have e1 : IntKind.u64.wrap ((X : Int) * 256) = ((X * 256 : Nat) : Int) := by simp only [IntKind.wrap, IntKind.bits, IntKind.signed]; simp; omega
  have e2 : IntKind.u64.wrap (b.toNat : Int) = ((b.toNat : Nat) : Int) := by simp only [IntKind.wrap, IntKind.bits, IntKind.signed]; simp; omega
  rw [e1, e2, u64_or_nat _ _ (by omega) (by omega)]
  congr 1
  have e3 := Nat.shiftLeft_add_eq_or_of_lt (i := 8) (b := b.toNat) (by omega) X
  rw [Nat.shiftLeft_eq] at e3
  exact e3.symm
theorem num_take (t : ByteArray) (k : Nat) (h : k < t.size) (hm : t.size ≤ 8) : bits .or .u64 (IntKind.u64.wrap ((num (t.data.toList.take k) : Int) * 256)) (IntKind.u64.wrap ((t[k]).toNat : Int)) = (num (t.data.toList.take (k + 1)) : Int) := by
  rw [take_snoc t k h, num_snoc, or_step]
  have h1 := num_lt (t.data.toList.take k)
  have h2 : (t.data.toList.take k).length ≤ 7 := by rw [List.length_take]; omega
  have h3 : 256 ^ (t.data.toList.take k).length ≤ 256 ^ 7 := Nat.pow_le_pow_right (by decide) h2
  omega
set_option maxHeartbeats 400000 in
theorem num_ok (p : Addr) (s : ByteArray) (n : Int) (w : World) (hn : wid n ≤ s.size) (hc : w.cell? p = some (.string s)) (hz : w.frozen? p = false) :
    Calls Tryz.prog 132 #[.pointer (some p), .int .i64 n] w fun e w' => e = .returned (.int .u64 (num (s.data.toList.take (wid n)))) ∧ w.setCell p (.string (s.extract (wid n) s.size)) = w' := by
  have hb := wid_bd n
  have HW := Lib.hid (width_any n w)
  have ht : (s.extract 0 (wid n)).size = wid n := by rw [ByteArray.size_extract]; omega
  have hd : (s.extract 0 (wid n)).data.toList = s.data.toList.take (wid n) := by rw [ByteArray.data_extract, Array.toList_extract, List.extract_eq_take_drop, List.drop_zero, Nat.sub_zero]
  rw [← hd]
  have HT := Lib.hid (text_ok p s (wid n) w (by omega) (by omega) hc hz)
  clear hd hc hz
  rw [Int.toNat_natCast] at HT
  generalize wid n = m at *
  generalize s.extract 0 m = t at *
  go_enter Tryz.func132, Tryz.ntmps132
  go_wp2_with fail
  refine HW.out.mono ?_
  rintro e w' ⟨rfl, rfl⟩
  go_wp2_with fail
  refine HT.out.mono ?_
  rintro e w' ⟨rfl, rfl⟩
  go_wp2_with fail
  go_loop [6, 14] (fun x i => ∃ k : Nat, k ≤ m ∧ i = .int .i64 k ∧ x = .int .u64 (num (t.data.toList.take k))) (fun _ i => m - (intOf i).toNat)
  case atStart => exact ⟨0, by omega, rfl, rfl⟩
  case round =>
    obtain ⟨k, hk, rfl, rfl⟩ := hrel
    by_cases hlt : k < m
    · have HN := Lib.hid (num_take t k (by omega) (by omega))
      go_wp2
      go_round
      case rel => exact ⟨k + 1, by omega, by go_num, congrArg (Value.int .u64) HN.out⟩
      case measure => simp [intOf]; omega
    · have HE : Hid (t.data.toList.take k = t.data.toList) := Lib.hid (List.take_of_length_le (by simp; omega))
      go_wp2
      go_ret
      exact ⟨by rw [HE.out]; rfl, rfl⟩
set_option maxHeartbeats 400000 in
theorem num_end (p : Addr) (s : ByteArray) (n : Int) (w : World) (hn : s.size < wid n) (hc : w.cell? p = some (.string s)) :
    Calls Tryz.prog 132 #[.pointer (some p), .int .i64 n] w fun e w' => e = failed 2 ∧ w = w' := by
  have HW := Lib.hid (width_any n w)
  have HT := Lib.hid (text_end p s (wid n) w (by omega) (by omega) hc)
  clear hc
  generalize wid n = m at *
  go_enter Tryz.func132, Tryz.ntmps132
  go_wp2_with fail
  refine HW.out.mono ?_
  rintro e w' ⟨rfl, rfl⟩
  go_wp2_with fail
  refine HT.out.mono ?_
  rintro e w' ⟨rfl, rfl⟩
  unfold failed
  go_wp2
  exact ⟨rfl, rfl, rfl⟩
end Go.Proofs.YtbohpffigmllkaaGreatDoor
