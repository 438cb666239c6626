/-
  NodeSlots: for every level and every place the law answers true.
-/
import Derived.Test.YtheccbnejamhlaaDoorNodeAwake
namespace Go.Proofs.YtheccbnejamhlaaDoor
open Go.RowKit

theorem and_65535 (a : Int) (_h : (Lit.int .i64 a).wf = true) : ∃ n : Nat, n < 65536 ∧ bits .and .i64 a 65535 = (n : Int) := by
  have hx : (BitVec.ofInt 64 a &&& BitVec.ofInt 64 65535).toNat < 65536 := by
    rw [BitVec.toNat_and]
    exact Nat.lt_of_le_of_lt Nat.and_le_right (by decide)
  refine ⟨_, hx, ?_⟩
  show IntKind.i64.wrap ((BitVec.ofInt 64 a &&& BitVec.ofInt 64 65535).toNat : Int) = _
  rw [IntWalk.i64_in _ (by omega)]
set_option maxRecDepth 100000 in
set_option maxHeartbeats 4000000 in
theorem nodeSlots_walk (a0 a1 : Int) (_w0 : (Lit.int .i64 a0).wf = true) (w1 : (Lit.int .i64 a1).wf = true) (w : World) (_hL : Laid KK SS w) :
    Calls Tryd.prog 8 #[.int .i64 a0, .int .i64 a1] w fun e w' => e = .returned (.bool true) ∧ Below w.heap.size w w' := by
  clear _hL
  obtain ⟨a, ha, hand⟩ := and_65535 a1 w1
  clear w1
  have HSp := Lib.hid fun wx => span_any a0 wx
  have HSl := Lib.hid fun wx => slot_any a0 a ha wx
  obtain ⟨X, hX⟩ : ∃ X : Int, X = max a0 0 := ⟨_, rfl⟩
  have hmx := fun (wx : World) (ts : Array TypeId) (t : TypeId) => run_max2 Tryd.prog wx ts t a0 0 X hX
  have hmn := fun (wx : World) (ts : Array TypeId) (t : TypeId) => run_min2 Tryd.prog wx ts t X 2 ((lvl a0 : Nat) : Int) (by rw [hX, lvl_eq])
  have hle := lvl_le a0
  generalize lvl a0 = N at *
  clear hX
  go_enter Tryd.func8, Tryd.ntmps8
  go_wp2_with fail
  refine (nodeAwake w).mono ?_
  rintro e w2 ⟨rfl, hb2⟩
  have HB2 := Lib.hid hb2
  clear hb2
  go_wp2_with fail
  go_loop [5, 6] (fun v i => ∃ k : Nat, k ≤ N ∧ i = .int .i64 k ∧ v = .int .i64 ((8 ^ k : Nat) : Int)) (fun _ i => 2 - (intOf i).toNat)
  case atStart => exact ⟨0, by omega, rfl, rfl⟩
  case round =>
    obtain ⟨k, hk, rfl, rfl⟩ := hrel
    by_cases hlt : k < N
    · have i0 : (k : Int) < (N : Int) := by omega
      have hp := pow8 k (by omega)
      have HP2 := Lib.hid (Nat.pow_succ 8 k)
      obtain ⟨Q, hQ⟩ : ∃ Q, 8 ^ k = Q := ⟨_, rfl⟩
      rw [hQ] at HP2 hp ⊢
      have hQ5 : (Q : Int) ≤ 64 := by omega
      have hQ6 : (0 : Int) ≤ (Q : Int) := by omega
      clear hp hQ
      have HK := Lib.hid hlt
      go_wp2_with fail
      go_round
      case rel => exact ⟨k + 1, HK.out, by go_num, by rw [show 8 ^ (k + 1) = Q * 8 from HP2.out]; go_num⟩
      case measure => simp [intOf]; have := HK.out; omega
    · have hkN : k = N := by omega
      have i0 : ¬ ((k : Int) < (N : Int)) := by omega
      rw [hkN] at i0 ⊢
      have hp := pow8 N hle
      have hp0 : 0 < 8 ^ N := Nat.pow_pos (by decide)
      clear hkN hlt hk
      generalize 8 ^ N = D at *
      have e1 : a % (D * 8) = a % D + D * (a / D % 8) := Nat.mod_mul
      have d2 : ((a : Int).tdiv (D : Int)) = ((a / D : Nat) : Int) := by rw [Int.tdiv_eq_ediv_of_nonneg (by omega)]; exact (Int.natCast_ediv a D).symm
      have d3 : ((a : Int).tmod (D : Int)) = ((a % D : Nat) : Int) := by rw [Int.tmod_eq_emod_of_nonneg (by omega)]; exact (Int.natCast_emod a D).symm
      have d5 : ((a : Int).tmod (8 * (D : Int))) = ((a % (D * 8) : Nat) : Int) := by
        rw [show 8 * (D : Int) = ((D * 8 : Nat) : Int) by omega, Int.tmod_eq_emod_of_nonneg (by omega)]
        exact (Int.natCast_emod a (D * 8)).symm
      have hq : a / D < 65536 := Nat.lt_of_le_of_lt (Nat.div_le_self a D) ha
      have hr : a % D < 64 := Nat.lt_of_lt_of_le (Nat.mod_lt _ hp0) hp
      generalize a / D = q at *
      generalize a % D = r at *
      have hq8 : q % 8 < 8 := Nat.mod_lt _ (by decide)
      have d4 : (q : Int) % 8 = ((q % 8 : Nat) : Int) := by omega
      generalize q % 8 = q8 at *
      generalize a % (D * 8) = M at *
      have hqD : q8 * D < 512 := by
        have := Nat.mul_le_mul (Nat.le_of_lt_succ hq8) hp
        omega
      have d6 : ((q8 * D : Nat) : Int) = (q8 : Int) * (D : Int) := Int.natCast_mul _ _
      obtain ⟨PD, hPD⟩ : ∃ PD : Nat, q8 * D = PD := ⟨_, rfl⟩
      rw [Nat.mul_comm D q8, hPD] at e1
      rw [hPD] at hqD d6
      have d7 : (q8 : Int) * (D : Int) = (PD : Int) := d6.symm
      have d8 : (PD : Int) + (r : Int) = (M : Int) := by omega
      have z0 : ¬ (D : Int) = 0 := by omega
      have z1 : ((D : Int) == 0) = false := by rw [beq_eq_false_iff_ne]; omega
      have z4 : (D : Int) ≤ 64 := by omega
      have z5 : (0 : Int) < (D : Int) := by omega
      have z6 : (q : Int) ≤ 65536 := by omega
      have z7 : (PD : Int) ≤ 512 := by omega
      have z8 : (r : Int) ≤ 64 := by omega
      have z9 : ¬ (8 * (D : Int)) = 0 := by omega
      have z10 : ((8 * (D : Int)) == 0) = false := by rw [beq_eq_false_iff_ne]; omega
      have HSp2 : Hid (∀ wx : World, Calls Tryd.prog 28 #[.int .i64 a0] wx fun e w' => e = .returned (.int .i64 (8 * (D : Int))) ∧ wx = w') := Lib.hid fun wx => by
        have := HSp.out wx
        rw [show ((8 * D : Nat) : Int) = 8 * (D : Int) by omega] at this
        exact this
      clear e1 hq hr hq8 hqD d6 hPD hp hp0 HSp ha
      go_wp2_with fail
      refine (HSl.out _).mono ?_
      rintro e w' ⟨rfl, n, rfl⟩
      have HB3 := Lib.hid (below_drewN HB2.out n)
      generalize w2.drewN n = w3 at *
      go_wp2_with (go_at_call 28; with_reducible refine (HSp2.out _).mono ?_; rintro e w' ⟨rfl, rfl⟩)
      go_ret
      exact ⟨rfl, HB3.out⟩
end Go.Proofs.YtheccbnejamhlaaDoor
