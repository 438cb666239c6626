/-
  A super: its numbers; Heap, Check, slot: contracts.
-/
import Derived.Test.YtnkmidfdpjcdaaaStampTornMath
import Derived.Test.YtnkmidfdpjcdaaaDiskSureMath
import Derived.Test.YtnkmidfdpjcdaaaStampRef
import Derived.Test.YtnkmidfdpjcdaaaCut
import Derived.Deep.RegionWith
import Derived.Deep.QuietTactic
import Derived.BigQuiet
import Derived.WalkSmall
namespace Go.Proofs.Ytnkmidfdpjcdaaa
open Go.RowKit

/-- a super's numbers -/
structure Sup where
  ep : Nat
  j : Nat
  b : Nat
  h : Nat
  nx : Nat
def Sup.cells (s : Sup) : Array Value := #[.int .u32 s.ep, .int .i64 s.j, .int .i64 s.b, .int .i64 s.h, .int .u32 s.nx]
/-- numbers that fit into their bytes -/
structure Sup.fits (s : Sup) : Prop where
  ep : s.ep < 4294967296
  j : s.j < 65536
  b : s.b < 65536
  h : s.h < 65536
  nx : s.nx < 4294967296
def Sup.inb (s : Sup) : Bool := decide (4 ≤ s.j ∧ s.j ≤ 512 ∧ 1 ≤ s.b ∧ s.b ≤ 256 ∧ ¬ s.ep = 0 ∧ ¬ s.nx = 0)
/-- the error of Check -/
def Sup.check (s : Sup) (n : Nat) : Nat := if s.inb = false then 4 else if 4096 < n then 3 else if n < 2 + s.j + 32 then 8 else if ¬ s.h = 0 ∧ (s.h < 2 + s.j ∨ n ≤ s.h) then 6 else 0
theorem heap_any (s : Sup) (hs : s.fits) (w : World) : Calls Try.prog 48 #[.agg s.cells] w fun e w' => e = .returned (.int .i64 ((2 + s.j : Nat) : Int)) ∧ Below w.heap.size w w' := by
  obtain ⟨ep, j, b, h, nx⟩ := s
  have hj := hs.j
  clear hs
  dsimp only [Sup.cells] at *
  go_enter Try.func48, Try.ntmps48
  go_wp2_with fail
  go_ret
  exact ⟨by show Ending.returned (.int .i64 (2 + (j : Int))) = _; rw [show ((2 + j : Nat) : Int) = 2 + (j : Int) by omega], (Below.refl _ _).alloc (Nat.le_refl _) _⟩
set_option maxHeartbeats 1000000 in
theorem inb_any (s : Sup) (hs : s.fits) (w : World) : Calls Try.prog 51 #[.agg s.cells] w fun e w' => e = .returned (.bool s.inb) ∧ Below w.heap.size w w' := by
  obtain ⟨ep, j, b, h, nx⟩ := s
  have hj := hs.j
  have hb := hs.b
  clear hs
  unfold Sup.inb
  dsimp only [Sup.cells] at *
  by_cases c0 : 4 ≤ j
  rotate_left
  · rw [decide_eq_false (by omega)]
    have k0 : ¬ (4 : Int) ≤ (j : Int) := by omega
    go_enter Try.func51, Try.ntmps51
    go_wp2_with fail
    go_ret
    exact ⟨rfl, (Below.refl _ _).alloc (Nat.le_refl _) _⟩
  have k0 : (4 : Int) ≤ (j : Int) := by omega
  by_cases c1 : j ≤ 512
  rotate_left
  · rw [decide_eq_false (by omega)]
    have k1 : ¬ (j : Int) ≤ 512 := by omega
    go_enter Try.func51, Try.ntmps51
    go_wp2_with fail
    go_ret
    exact ⟨rfl, (Below.refl _ _).alloc (Nat.le_refl _) _⟩
  have k1 : (j : Int) ≤ 512 := by omega
  by_cases c2 : 1 ≤ b
  rotate_left
  · rw [decide_eq_false (by omega)]
    have k2 : ¬ (1 : Int) ≤ (b : Int) := by omega
    go_enter Try.func51, Try.ntmps51
    go_wp2_with fail
    go_ret
    exact ⟨rfl, (Below.refl _ _).alloc (Nat.le_refl _) _⟩
  have k2 : (1 : Int) ≤ (b : Int) := by omega
  by_cases c3 : b ≤ 256
  rotate_left
  · rw [decide_eq_false (by omega)]
    have k3 : ¬ (b : Int) ≤ 256 := by omega
    go_enter Try.func51, Try.ntmps51
    go_wp2_with fail
    go_ret
    exact ⟨rfl, (Below.refl _ _).alloc (Nat.le_refl _) _⟩
  have k3 : (b : Int) ≤ 256 := by omega
  by_cases c4 : ep = 0
  · subst c4
    rw [decide_eq_false (by simp)]
    go_enter Try.func51, Try.ntmps51
    go_wp2_with fail
    go_ret
    exact ⟨rfl, (Below.refl _ _).alloc (Nat.le_refl _) _⟩
  · have k4 : ((ep : Int) == 0) = false := by rw [beq_eq_false_iff_ne]; omega
    have k5 : ((ep : Int) != 0) = true := by simp; omega
    have hfin : decide (4 ≤ j ∧ j ≤ 512 ∧ 1 ≤ b ∧ b ≤ 256 ∧ ¬ ep = 0 ∧ ¬ nx = 0) = ((nx : Int) != 0) := by
      rw [Bool.eq_iff_iff]
      simp
      omega
    rw [hfin]
    clear hfin
    go_enter Try.func51, Try.ntmps51
    go_wp2_with fail
    go_ret
    first | exact ⟨rfl, (Below.refl _ _).alloc (Nat.le_refl _) _⟩ | exact ⟨by rw [← Bool.true_and ((nx : Int) != 0), ← k5]; rfl, (Below.refl _ _).alloc (Nat.le_refl _) _⟩
theorem slot_any (ep : Nat) (he : ep < 4294967296) (w : World) : Calls Try.prog 66 #[.int .u32 ep] w fun e w' => e = .returned (.int .i64 ((ep % 2 : Nat) : Int)) ∧ w = w' := by
  go_enter Try.func66, Try.ntmps66
  go_wp2_with fail
  go_ret
  exact ⟨by show Ending.returned (.int .i64 ((ep : Int) % 2)) = _; rw [show ((ep % 2 : Nat) : Int) = (ep : Int) % 2 by omega], rfl⟩
theorem fiveAt {w : World} {x : Nat} {t : TypeId} {a b c d e : Value} (h : w.heap[x]? = some (.cells #[a, b, c, d, e] t)) : (w.cell? ⟨x, 0, none⟩ = some a ∧ w.cell? ⟨x, 1, none⟩ = some b ∧ w.cell? ⟨x, 2, none⟩ = some c ∧ w.cell? ⟨x, 3, none⟩ = some d ∧ w.cell? ⟨x, 4, none⟩ = some e) := by
  simp [World.cell?, h]
theorem supSize : (Try.prog.info? 51).map (·.size) = some 5 := by kernel_rfl
set_option maxHeartbeats 2000000 in
theorem check_any (s : Sup) (hs : s.fits) (n : Nat) (hn : n < 100000) (w : World) : Calls Try.prog 26 #[.agg s.cells, .int .i64 n] w fun e w' => e = .returned (.int .i64 (s.check n : Nat)) ∧ Below w.heap.size w w' := by
  have HI := Lib.hid fun wx => inb_any s hs wx
  have HH := Lib.hid fun wx => heap_any s hs wx
  obtain ⟨C, hC⟩ : ∃ C, s.check n = C := ⟨_, rfl⟩
  rw [hC]
  unfold Sup.check at hC
  obtain ⟨I, hI⟩ : ∃ I, s.inb = I := ⟨_, rfl⟩
  rw [hI] at HI hC
  clear hI
  have hj := hs.j
  have hh := hs.h
  clear hs
  obtain ⟨ep, j, b, h, nx⟩ := s
  dsimp only [Sup.cells] at *
  have HC := Lib.hid hC
  clear hC
  cases I with
  | false =>
    rw [if_pos rfl] at HC
    go_enter Try.func26, Try.ntmps26
    go_wp2_with fail
    refine (HI.out _).mono ?_
    rintro e w1 ⟨rfl, hb1⟩
    have HB := Lib.hid (((Below.refl _ w).alloc (Nat.le_refl _) (.cells #[.int .u32 ep, .int .i64 j, .int .i64 b, .int .i64 h, .int .u32 nx] 51)).trans (hb1.mono (by simp)))
    clear hb1
    go_wp2_with fail
    go_ret
    exact ⟨by rw [← HC.out]; rfl, HB.out⟩
  | true =>
    rw [if_neg (by decide)] at HC
    go_enter Try.func26, Try.ntmps26
    go_wp2_with fail
    refine (HI.out _).mono ?_
    rintro e w1 ⟨rfl, hb1⟩
    have HB := Lib.hid (((Below.refl _ w).alloc (Nat.le_refl _) (.cells #[.int .u32 ep, .int .i64 j, .int .i64 b, .int .i64 h, .int .u32 nx] 51)).trans (hb1.mono (by simp)))
    have hlow : w.heap.size < w1.heap.size := by have := hb1.size; simp at this; omega
    have hblk : w1.heap[w.heap.size]? = some (.cells #[.int .u32 ep, .int .i64 j, .int .i64 b, .int .i64 h, .int .u32 nx] 51) := by
      rw [hb1.block w.heap.size (by simp)]
      exact heap_alloc_new w _
    have HK : Hid (∀ w2, Below w1.heap.size w1 w2 → w2.heap[w.heap.size]? = some (.cells #[.int .u32 ep, .int .i64 j, .int .i64 b, .int .i64 h, .int .u32 nx] 51)) := Lib.hid fun w2 hb => by rw [hb.block w.heap.size hlow]; exact hblk
    clear hb1 HI hlow
    by_cases h1 : 4096 < n
    · rw [if_pos h1] at HC
      have i1 : (4096 : Int) < (n : Int) := by omega
      go_wp2_with fail
      go_ret
      exact ⟨by rw [← HC.out]; rfl, HB.out⟩
    · rw [if_neg h1] at HC
      have i1 : ¬ (4096 : Int) < (n : Int) := by omega
      obtain ⟨l0, l1, l2, l3, l4⟩ := fiveAt hblk
      go_wp2_with fail
      refine (HH.out _).mono ?_
      rintro e w2 ⟨rfl, hb2⟩
      have hf2 := fiveAt (HK.out w2 hb2)
      have HK2 : Hid (∀ w3, Below w2.heap.size w2 w3 → (w3.cell? ⟨w.heap.size, 0, none⟩ = some (.int .u32 ep) ∧ w3.cell? ⟨w.heap.size, 1, none⟩ = some (.int .i64 j) ∧ w3.cell? ⟨w.heap.size, 2, none⟩ = some (.int .i64 b) ∧ w3.cell? ⟨w.heap.size, 3, none⟩ = some (.int .i64 h) ∧ w3.cell? ⟨w.heap.size, 4, none⟩ = some (.int .u32 nx))) := Lib.hid fun w3 hb => fiveAt (HK.out w3 (hb2.trans (hb.mono hb2.size)))
      have HB2 := Lib.hid (HB.out.trans (hb2.mono HB.out.size))
      clear hb2 HB HK hblk l0 l1 l2 l3 l4
      by_cases h2 : n < 2 + j + 32
      · rw [if_pos h2] at HC
        have i2 : (n : Int) < ((2 + j : Nat) : Int) + 32 := by omega
        go_wp2_with fail
        go_ret
        exact ⟨by rw [← HC.out]; rfl, HB2.out⟩
      · rw [if_neg h2] at HC
        have i2 : ¬ (n : Int) < ((2 + j : Nat) : Int) + 32 := by omega
        obtain ⟨l0, l1, l2, l3, l4⟩ := hf2
        have HHd := Lib.hid (HH.out w2.drew)
        obtain ⟨J2, hJ2⟩ : ∃ J2 : Int, ((2 + j : Nat) : Int) = J2 := ⟨_, rfl⟩
        have hJa : J2 ≤ 2 + (j : Int) := by omega
        have hJb : 2 + (j : Int) ≤ J2 := by omega
        rw [hJ2] at HHd i2 ⊢
        clear hJ2
        go_upto_region 7 with fail
        by_cases h3 : h = 0
        · subst h3
          rw [if_neg (by simp)] at HC
          go_quiet (fail)
          go_wp2_with fail
          go_ret
          exact ⟨by rw [← HC.out]; rfl, below_drewN HB2.out _⟩
        · have i3 : ((h : Int) == 0) = false := by rw [beq_eq_false_iff_ne]; omega
          have i3' : ((h : Int) != 0) = true := by simp; omega
          by_cases h4 : h < 2 + j
          · rw [if_pos ⟨h3, Or.inl h4⟩] at HC
            have i4 : (h : Int) < J2 := by omega
            have i4' : decide ((h : Int) < J2) = true := decide_eq_true i4
            first | (go_region_with (go_at_call 48; (with_reducible refine HHd.out.mono ?_); rintro e w3 ⟨rfl, hb3⟩; (obtain ⟨m0, m1, m2, m3, m4⟩ := HK2.out w3 ((Below.refl _ w2).drew.trans hb3)); (have HB3 := Lib.hid (HB2.out.drew.trans (hb3.mono HB2.out.drew.size))); clear hb3)) | fail
            all_goals
              go_wp2_with fail
              go_ret
              exact ⟨by rw [← HC.out]; rfl, HB3.out⟩
          · have i4 : ¬ (h : Int) < J2 := by omega
            have i4' : decide ((h : Int) < J2) = false := decide_eq_false i4
            by_cases h5 : n ≤ h
            · rw [if_pos ⟨h3, Or.inr h5⟩] at HC
              have i5 : (n : Int) ≤ (h : Int) := by omega
              go_region_held3 (fun wx => wx.cell? ⟨w.heap.size, 0, none⟩ = some (.int .u32 ep) ∧ wx.cell? ⟨w.heap.size, 1, none⟩ = some (.int .i64 j) ∧ wx.cell? ⟨w.heap.size, 2, none⟩ = some (.int .i64 b) ∧ wx.cell? ⟨w.heap.size, 3, none⟩ = some (.int .i64 h) ∧ wx.cell? ⟨w.heap.size, 4, none⟩ = some (.int .u32 nx)) (first | exact ⟨l0, l1, l2, l3, l4⟩ | exact HK3.out) (first | (go_at_call 48; (with_reducible refine HHd.out.mono ?_); rintro e w3 ⟨rfl, hb3⟩; (have HK3 := Lib.hid (HK2.out w3 ((Below.refl _ w2).drew.trans hb3))); (have HB3 := Lib.hid (HB2.out.drew.trans (hb3.mono HB2.out.drew.size))); clear hb3))
              go_wp2_with fail
              go_ret
              exact ⟨by rw [← HC.out]; rfl, HB3.out⟩
            · rw [if_neg (by omega)] at HC
              have i5 : ¬ (n : Int) ≤ (h : Int) := by omega
              go_region_held3 (fun wx => wx.cell? ⟨w.heap.size, 0, none⟩ = some (.int .u32 ep) ∧ wx.cell? ⟨w.heap.size, 1, none⟩ = some (.int .i64 j) ∧ wx.cell? ⟨w.heap.size, 2, none⟩ = some (.int .i64 b) ∧ wx.cell? ⟨w.heap.size, 3, none⟩ = some (.int .i64 h) ∧ wx.cell? ⟨w.heap.size, 4, none⟩ = some (.int .u32 nx)) (first | exact ⟨l0, l1, l2, l3, l4⟩ | exact HK3.out) (first | (go_at_call 48; (with_reducible refine HHd.out.mono ?_); rintro e w3 ⟨rfl, hb3⟩; (have HK3 := Lib.hid (HK2.out w3 ((Below.refl _ w2).drew.trans hb3))); (have HB3 := Lib.hid (HB2.out.drew.trans (hb3.mono HB2.out.drew.size))); clear hb3))
              go_wp2_with fail
              go_ret
              exact ⟨by rw [← HC.out]; rfl, HB3.out⟩
end Go.Proofs.Ytnkmidfdpjcdaaa
