/-
  node: Span and Slot for every level; Digest and Empty of noughts; the node laws' awake.
-/
import Derived.Test.YtheccbnejamhlaaDoorShaKit
import Derived.BigRegion
namespace Go.Proofs.YtheccbnejamhlaaDoor
open Go.RowKit

theorem run_max2 (P : Program) (w : World) (ts : Array TypeId) (t : TypeId) (x y z : Int) (h : z = max x y) : (Builtin.max_ ts t #[.int .i64 x, .int .i64 y]).run P w = .ok (.int .i64 z) w := by
  subst h
  by_cases hc : x < y
  · rw [Int.max_eq_right (by omega)]
    simp [Builtin.max_, Builtin.max2, hc]
  · rw [Int.max_eq_left (by omega)]
    simp [Builtin.max_, Builtin.max2, hc]
theorem run_min2 (P : Program) (w : World) (ts : Array TypeId) (t : TypeId) (x y z : Int) (h : z = min x y) : (Builtin.min_ ts t #[.int .i64 x, .int .i64 y]).run P w = .ok (.int .i64 z) w := by
  subst h
  by_cases hc : y < x
  · rw [Int.min_eq_right (by omega)]
    simp [Builtin.min_, Builtin.min2, hc]
  · rw [Int.min_eq_left (by omega)]
    simp [Builtin.min_, Builtin.min2, hc]
/-- a level that may be: 0, 1 or 2 -/
def lvl (l : Int) : Nat := (min (max l 0) 2).toNat
theorem lvl_le (l : Int) : lvl l ≤ 2 := by unfold lvl; omega
theorem lvl_eq (l : Int) : ((lvl l : Nat) : Int) = min (max l 0) 2 := by unfold lvl; omega
theorem pow8 : ∀ k, k ≤ 2 → 8 ^ k ≤ 64 := fun k h => by
  obtain rfl | rfl | rfl : k = 0 ∨ k = 1 ∨ k = 2 := by omega
  all_goals decide
set_option maxRecDepth 100000 in
set_option maxHeartbeats 4000000 in
theorem span_any (l : Int) (w : World) :
    Calls Tryd.prog 28 #[.int .i64 l] w fun e w' => e = .returned (.int .i64 ((8 * 8 ^ lvl l : Nat) : Int)) ∧ w = w' := by
  obtain ⟨X, hX⟩ : ∃ X : Int, X = max l 0 := ⟨_, rfl⟩
  have hmx := fun (wx : World) (ts : Array TypeId) (t : TypeId) => run_max2 Tryd.prog wx ts t l 0 X hX
  have hmn := fun (wx : World) (ts : Array TypeId) (t : TypeId) => run_min2 Tryd.prog wx ts t X 2 ((lvl l : Nat) : Int) (by rw [hX, lvl_eq])
  have hle := lvl_le l
  generalize lvl l = N at *
  clear hX
  go_enter Tryd.func28, Tryd.ntmps28
  go_wp2_with fail
  go_loop [3, 7] (fun v i => ∃ k : Nat, k ≤ N ∧ i = .int .i64 k ∧ v = .int .i64 ((8 * 8 ^ k : Nat) : Int)) (fun _ i => 2 - (intOf i).toNat)
  case atStart => exact ⟨0, by omega, rfl, rfl⟩
  case round =>
    obtain ⟨k, hk, rfl, rfl⟩ := hrel
    by_cases hlt : k < N
    · have i0 : (k : Int) < (N : Int) := by omega
      have hp := pow8 k (by omega)
      have hp2 : 8 * 8 ^ (k + 1) = 8 * 8 ^ k * 8 := by rw [Nat.pow_succ]; omega
      have HP2 := Lib.hid hp2
      obtain ⟨Q, hQ⟩ : ∃ Q, 8 * 8 ^ k = Q := ⟨_, rfl⟩
      rw [hQ] at HP2 ⊢
      have hQ5 : (Q : Int) ≤ 512 := by omega
      have hQ6 : (0 : Int) ≤ (Q : Int) := by omega
      have hwr : IntKind.i64.wrap ((Q : Int) * 8) = (Q : Int) * 8 := IntWalk.i64_in _ (by omega)
      clear hp hp2 hQ
      have HK := Lib.hid hlt
      go_wp2_with fail
      go_round
      case rel => exact ⟨k + 1, HK.out, by go_num, by rw [HP2.out]; go_num⟩
      case measure => simp [intOf]; have := HK.out; omega
    · have hkN : k = N := by omega
      have i0 : ¬ ((k : Int) < (N : Int)) := by omega
      rw [hkN] at i0 ⊢
      clear hkN hlt hk
      go_wp2_with fail
      go_ret
      exact ⟨rfl, rfl⟩
set_option maxRecDepth 100000 in
set_option maxHeartbeats 4000000 in
theorem slot_any (l : Int) (a : Nat) (ha : a < 65536) (w : World) :
    Calls Tryd.prog 27 #[.int .i64 l, .int .i64 (a : Int)] w fun e w' => e = .returned (.tuple #[.int .i64 ((a / 8 ^ lvl l % 8 : Nat) : Int), .int .i64 ((a % 8 ^ lvl l : Nat) : Int)]) ∧ ∃ n, w' = w.drewN n := by
  have HSp := Lib.hid fun wx => span_any l wx
  have hp := pow8 (lvl l) (lvl_le l)
  have hp0 : 0 < 8 ^ lvl l := Nat.pow_pos (by decide)
  generalize 8 ^ lvl l = D at *
  obtain ⟨S, hS⟩ : ∃ S, 8 * D = S := ⟨_, rfl⟩
  rw [hS] at HSp
  have d1 : (S : Int) / 8 = (D : Int) := by omega
  have d2 : ((a : Int).tdiv (D : Int)) = ((a / D : Nat) : Int) := by rw [Int.tdiv_eq_ediv_of_nonneg (by omega)]; exact (Int.natCast_ediv a D).symm
  have d3 : ((a : Int).tmod (D : Int)) = ((a % D : Nat) : Int) := by rw [Int.tmod_eq_emod_of_nonneg (by omega)]; exact (Int.natCast_emod a D).symm
  have hq : a / D < 65536 := Nat.lt_of_le_of_lt (Nat.div_le_self a D) ha
  have hr : a % D < 64 := Nat.lt_of_lt_of_le (Nat.mod_lt _ hp0) hp
  generalize a / D = q at *
  generalize a % D = r at *
  have HD4 : Hid ((q : Int) % 8 = ((q % 8 : Nat) : Int)) := Lib.hid (by omega)
  generalize q % 8 = q8 at *
  have z0 : ¬ (D : Int) = 0 := by omega
  have z1 : ((D : Int) == 0) = false := by rw [beq_eq_false_iff_ne]; omega
  have z2 : (0 : Int) ≤ (S : Int) := by omega
  have z3 : (q : Int) ≤ 65536 := by omega
  have z4 : (D : Int) ≤ 64 := by omega
  have z5 : (0 : Int) < (D : Int) := by omega
  clear hS hp hp0 hq hr
  go_enter Tryd.func27, Tryd.ntmps27
  go_upto_region 2 with (go_at_call 28; with_reducible refine (HSp.out _).mono ?_; rintro e w' ⟨rfl, rfl⟩)
  go_quiet (fail)
  go_wp2_with fail
  go_ret2
  refine ⟨?_, nq, rfl⟩
  rw [← HD4.out]
  rfl
end Go.Proofs.YtheccbnejamhlaaDoor
