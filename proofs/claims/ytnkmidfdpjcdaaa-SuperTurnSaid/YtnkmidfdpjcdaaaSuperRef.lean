/-
  The document's Check of a super: a contract.
-/
import Derived.Test.YtnkmidfdpjcdaaaSuperFew
namespace Go.Proofs.Ytnkmidfdpjcdaaa
open Go.RowKit

set_option maxHeartbeats 4000000 in
theorem refCheck_any (s : Sup) (hs : s.fits) (n : Nat) (hn : n < 100000) (w : World) : Calls Try.prog 24 #[.agg s.refCells, .int .i64 n] w fun e w' => e = .returned (.int .i64 (s.check n : Nat)) ∧ Below w.heap.size w w' := by
  obtain ⟨C, hC⟩ : ∃ C, s.check n = C := ⟨_, rfl⟩
  rw [hC]
  unfold Sup.check Sup.inb at hC
  obtain ⟨ep, j, b, h, nx⟩ := s
  have bj := hs.j
  have bb := hs.b
  have bh := hs.h
  clear hs
  dsimp only [Sup.refCells] at *
  by_cases c0 : 4 ≤ j
  rotate_left
  · rw [if_pos (decide_eq_false (by omega))] at hC
    have HC := Lib.hid hC
    clear hC
    have k0 : (j : Int) < 4 := by omega
    go_enter Try.func24, Try.ntmps24
    go_wp2_with fail
    go_ret
    exact ⟨by rw [← HC.out]; rfl, (Below.refl _ _).alloc (Nat.le_refl _) _⟩
  have k0 : ¬ (j : Int) < 4 := by omega
  by_cases c1 : j ≤ 512
  rotate_left
  · rw [if_pos (decide_eq_false (by omega))] at hC
    have HC := Lib.hid hC
    clear hC
    have k1 : (512 : Int) < (j : Int) := by omega
    go_enter Try.func24, Try.ntmps24
    go_wp2_with fail
    go_ret
    exact ⟨by rw [← HC.out]; rfl, (Below.refl _ _).alloc (Nat.le_refl _) _⟩
  have k1 : ¬ (512 : Int) < (j : Int) := by omega
  by_cases c2 : 1 ≤ b
  rotate_left
  · rw [if_pos (decide_eq_false (by omega))] at hC
    have HC := Lib.hid hC
    clear hC
    have k2 : (b : Int) < 1 := by omega
    go_enter Try.func24, Try.ntmps24
    go_wp2_with fail
    go_ret
    exact ⟨by rw [← HC.out]; rfl, (Below.refl _ _).alloc (Nat.le_refl _) _⟩
  have k2 : ¬ (b : Int) < 1 := by omega
  by_cases c3 : b ≤ 256
  rotate_left
  · rw [if_pos (decide_eq_false (by omega))] at hC
    have HC := Lib.hid hC
    clear hC
    have k3 : (256 : Int) < (b : Int) := by omega
    go_enter Try.func24, Try.ntmps24
    go_wp2_with fail
    go_ret
    exact ⟨by rw [← HC.out]; rfl, (Below.refl _ _).alloc (Nat.le_refl _) _⟩
  have k3 : ¬ (256 : Int) < (b : Int) := by omega
  by_cases c4 : ¬ ep = 0
  rotate_left
  · rw [if_pos (decide_eq_false (by omega))] at hC
    have HC := Lib.hid hC
    clear hC
    have k4 : ((ep : Int) == 0) = true := by rw [beq_iff_eq]; omega
    go_enter Try.func24, Try.ntmps24
    go_wp2_with fail
    go_ret
    exact ⟨by rw [← HC.out]; rfl, (Below.refl _ _).alloc (Nat.le_refl _) _⟩
  have k4 : ((ep : Int) == 0) = false := by rw [beq_eq_false_iff_ne]; omega
  by_cases c5 : ¬ nx = 0
  rotate_left
  · rw [if_pos (decide_eq_false (by omega))] at hC
    have HC := Lib.hid hC
    clear hC
    have k5 : ((nx : Int) == 0) = true := by rw [beq_iff_eq]; omega
    go_enter Try.func24, Try.ntmps24
    go_wp2_with fail
    go_ret
    exact ⟨by rw [← HC.out]; rfl, (Below.refl _ _).alloc (Nat.le_refl _) _⟩
  have k5 : ((nx : Int) == 0) = false := by rw [beq_eq_false_iff_ne]; omega
  rw [if_neg (by rw [decide_eq_true (by omega)]; decide)] at hC
  by_cases h1 : 4096 < n
  · rw [if_pos h1] at hC
    have HC := Lib.hid hC
    clear hC
    have i1 : (4096 : Int) < (n : Int) := by omega
    go_enter Try.func24, Try.ntmps24
    go_wp2_with fail
    go_ret
    exact ⟨by rw [← HC.out]; rfl, (Below.refl _ _).alloc (Nat.le_refl _) _⟩
  · rw [if_neg h1] at hC
    have i1 : ¬ (4096 : Int) < (n : Int) := by omega
    by_cases h2 : n < 2 + j + 32
    · rw [if_pos h2] at hC
      have HC := Lib.hid hC
      clear hC
      have i2 : (n : Int) < 2 + (j : Int) + 32 := by omega
      go_enter Try.func24, Try.ntmps24
      go_wp2_with fail
      go_ret
      exact ⟨by rw [← HC.out]; rfl, (Below.refl _ _).alloc (Nat.le_refl _) _⟩
    · rw [if_neg h2] at hC
      have i2 : ¬ (n : Int) < 2 + (j : Int) + 32 := by omega
      by_cases h3 : h = 0
      · subst h3
        rw [if_neg (by simp)] at hC
        have HC := Lib.hid hC
        clear hC
        go_enter Try.func24, Try.ntmps24
        go_wp2_with fail
        go_ret
        exact ⟨by rw [← HC.out]; rfl, (Below.refl _ _).alloc (Nat.le_refl _) _⟩
      · have i3 : ((h : Int) == 0) = false := by rw [beq_eq_false_iff_ne]; omega
        have i3' : ((h : Int) != 0) = true := by simp; omega
        by_cases h4 : h < 2 + j
        · rw [if_pos ⟨h3, Or.inl h4⟩] at hC
          have HC := Lib.hid hC
          clear hC
          have i4 : (h : Int) < 2 + (j : Int) := by omega
          go_enter Try.func24, Try.ntmps24
          go_wp2_with fail
          go_ret
          exact ⟨by rw [← HC.out]; rfl, (Below.refl _ _).alloc (Nat.le_refl _) _⟩
        · have i4 : ¬ (h : Int) < 2 + (j : Int) := by omega
          by_cases h5 : n ≤ h
          · rw [if_pos ⟨h3, Or.inr h5⟩] at hC
            have HC := Lib.hid hC
            clear hC
            have i5 : (n : Int) ≤ (h : Int) := by omega
            go_enter Try.func24, Try.ntmps24
            go_wp2_with fail
            go_ret
            exact ⟨by rw [← HC.out]; rfl, (Below.refl _ _).alloc (Nat.le_refl _) _⟩
          · rw [if_neg (by omega)] at hC
            have HC := Lib.hid hC
            clear hC
            have i5 : ¬ (n : Int) ≤ (h : Int) := by omega
            go_enter Try.func24, Try.ntmps24
            go_wp2_with fail
            go_ret
            exact ⟨by rw [← HC.out]; rfl, (Below.refl _ _).alloc (Nat.le_refl _) _⟩
end Go.Proofs.Ytnkmidfdpjcdaaa
