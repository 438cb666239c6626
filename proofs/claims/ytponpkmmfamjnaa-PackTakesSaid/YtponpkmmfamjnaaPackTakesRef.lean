/-
  The law's own 'takes': a thing of the document's, by its kind.
-/
import Derived.Test.YtponpkmmfamjnaaPackRefIn
namespace Go.Proofs.Ytponpkmmfamjnaa
open Go.RowKit

theorem and255 (k : Int) : ∃ p : Nat, bits .and .i64 k 255 = (p : Int) ∧ p < 256 := by
  refine ⟨(BitVec.ofInt 64 k &&& BitVec.ofInt 64 255).toNat, ?_, ?_⟩
  · have h : (BitVec.ofInt 64 k &&& BitVec.ofInt 64 255).toNat ≤ 255 := by
      rw [BitVec.toNat_and]
      exact Nat.le_trans Nat.and_le_right (by decide)
    show IntKind.i64.wrap ((BitVec.ofInt 64 k &&& BitVec.ofInt 64 255).toNat : Int) = _
    generalize (BitVec.ofInt 64 k &&& BitVec.ofInt 64 255).toNat = y at *
    simp only [IntKind.wrap, IntKind.bits, IntKind.signed]
    simp
    omega
  · rw [BitVec.toNat_and]
    exact Nat.lt_of_le_of_lt Nat.and_le_right (by decide)
theorem three_below {w w1 : World} {o1 o2 o3 o : Obj} {v0 v1 : Value} (h : Below (((w.alloc o1).alloc o2).alloc o3).heap.size (((w.alloc o1).alloc o2).alloc o3) w1) : Below w.heap.size w (((w1.setCell ⟨w.heap.size + 2, 0, none⟩ v0).setCell ⟨w.heap.size + 2, 1, none⟩ v1).alloc o) := by
  have h0 : Below w.heap.size w w1 := ((((Below.refl w.heap.size w).alloc (Nat.le_refl _) o1).alloc (by simp) o2).alloc (by simp; omega) o3).trans (h.mono (by simp; omega))
  have hs := h0.size
  exact ((h0.setCell (p := ⟨w.heap.size + 2, 0, none⟩) (by show _ ≤ w.heap.size + 2; omega) _).setCell (p := ⟨w.heap.size + 2, 1, none⟩) (by show _ ≤ w.heap.size + 2; omega) _).alloc (by simpa [World.setCell] using hs) _
theorem three_cells {w w1 : World} {o1 o2 : Obj} {u0 u1 : Value} {t : TypeId} (h : Below (((w.alloc o1).alloc o2).alloc (.cells #[u0, u1] t)).heap.size (((w.alloc o1).alloc o2).alloc (.cells #[u0, u1] t)) w1) :
    w.heap.size + 2 < w1.heap.size ∧ w1.cell? ⟨w.heap.size + 2, 0, none⟩ = some u0 ∧ w1.cell? ⟨w.heap.size + 2, 1, none⟩ = some u1 := by
  have hs := h.size
  have hs2 : ((w.alloc o1).alloc o2).heap.size = w.heap.size + 2 := by simp
  refine ⟨by simp at hs; omega, ?_, ?_⟩
  · rw [h.cell (by show w.heap.size + 2 < _; simp), ← hs2, World.cell?_alloc_new]; rfl
  · rw [h.cell (by show w.heap.size + 2 < _; simp), ← hs2, World.cell?_alloc_new]; rfl

set_option maxRecDepth 100000 in
set_option maxHeartbeats 2000000 in
theorem takes_text (s s' t : ByteArray) (e' kd n most : Int) (p : Nat) (w : World) (hp : bits .and .i64 kd 255 = (p : Int)) (hq : p % 5 = 0)
    (hT : ∀ wx : World, Calls Try.prog 52 #[inOf s 0, .int .i64 n] wx fun e w' => e = .returned (.tuple #[inOf s' e', .string t]) ∧ Below wx.heap.size wx w') :
    Calls Try.prog 16 #[inOf s 0, .agg #[.int .i64 kd, .int .i64 n, .int .u64 most]] w fun e w' => e = .returned (.tuple #[inOf s' e', .int .u64 0, .string t]) ∧ Below w.heap.size w w' := by
  have HT := Lib.hid hT
  clear hT
  unfold inOf at *
  have q0 : (((p : Int) % 5) == 0) = true := by simp; omega
  clear hq
  go_enter Try.func16, Try.ntmps16
  go_wp2_with fail
  refine (HT.out _).mono ?_
  rintro e w1 ⟨rfl, hb⟩
  obtain ⟨hz, d0, d1⟩ := three_cells hb
  obtain ⟨hc, hf⟩ := bcell hb
  have HB := Lib.hid hb
  clear hb HT
  obtain ⟨r0, r1⟩ := pair_set (o := .cells #[.string s', .int .i64 e'] 28) (v0 := .string s') (v1 := .int .i64 e') d0 d1 hz
  go_wp2
  exact bodyPost_ret (v := .tuple #[.agg #[.string s', .int .i64 e'], .int .u64 0, .string t]) (by simp [results, Try.results16, go_sem, r0, r1]) rfl ⟨rfl, three_below HB.out⟩
theorem pair_set0 {w : World} {b : Nat} {u0 u1 v0 v1 : Value} (c0 : w.cell? ⟨b, 0, none⟩ = some u0) (c1 : w.cell? ⟨b, 1, none⟩ = some u1) :
    ((w.setCell ⟨b, 0, none⟩ v0).setCell ⟨b, 1, none⟩ v1).cell? ⟨b, 0, none⟩ = some v0 ∧ ((w.setCell ⟨b, 0, none⟩ v0).setCell ⟨b, 1, none⟩ v1).cell? ⟨b, 1, none⟩ = some v1 := by
  constructor
  · rw [World.cell?_setCell_other (h := by simp)]
    exact World.cell?_setCell_same _ _ _ c0
  · exact World.cell?_setCell_same _ _ _ (by rw [World.cell?_setCell_other (h := by simp)]; exact c1)
theorem three_below0 {w w1 : World} {o1 o2 o3 : Obj} {v0 v1 : Value} (h : Below (((w.alloc o1).alloc o2).alloc o3).heap.size (((w.alloc o1).alloc o2).alloc o3) w1) : Below w.heap.size w ((w1.setCell ⟨w.heap.size + 2, 0, none⟩ v0).setCell ⟨w.heap.size + 2, 1, none⟩ v1) := by
  have h0 : Below w.heap.size w w1 := ((((Below.refl w.heap.size w).alloc (Nat.le_refl _) o1).alloc (by simp) o2).alloc (by simp; omega) o3).trans (h.mono (by simp; omega))
  exact (h0.setCell (p := ⟨w.heap.size + 2, 0, none⟩) (by show _ ≤ w.heap.size + 2; omega) _).setCell (p := ⟨w.heap.size + 2, 1, none⟩) (by show _ ≤ w.heap.size + 2; omega) _

set_option maxRecDepth 100000 in
set_option maxHeartbeats 2000000 in
theorem takes_num (s s' : ByteArray) (x : Nat) (e' kd n most : Int) (p : Nat) (w : World) (hp : bits .and .i64 kd 255 = (p : Int)) (hq : p % 5 = 1)
    (hT : ∀ wx : World, Calls Try.prog 53 #[inOf s 0, .int .i64 n] wx fun e w' => e = .returned (.tuple #[inOf s' e', .int .u64 x]) ∧ Below wx.heap.size wx w') :
    Calls Try.prog 16 #[inOf s 0, .agg #[.int .i64 kd, .int .i64 n, .int .u64 most]] w fun e w' => e = .returned (.tuple #[inOf s' e', .int .u64 x, .string ⟨#[]⟩]) ∧ Below w.heap.size w w' := by
  have HT := Lib.hid hT
  clear hT
  unfold inOf at *
  have q0 : (((p : Int) % 5) == 0) = false := by simp; omega
  have q1 : (((p : Int) % 5) == 1) = true := by simp; omega
  clear hq
  go_enter Try.func16, Try.ntmps16
  go_wp2_with fail
  refine (HT.out _).mono ?_
  rintro e w1 ⟨rfl, hb⟩
  obtain ⟨hz, d0, d1⟩ := three_cells hb
  obtain ⟨hc, hf⟩ := bcell hb
  have HB := Lib.hid hb
  clear hb HT
  obtain ⟨r0, r1⟩ := pair_set (o := .cells #[.string s', .int .i64 e'] 28) (v0 := .string s') (v1 := .int .i64 e') d0 d1 hz
  go_wp2
  exact bodyPost_ret (v := .tuple #[.agg #[.string s', .int .i64 e'], .int .u64 x, .string ⟨#[]⟩]) (by simp [results, Try.results16, go_sem, r0, r1]) rfl ⟨rfl, three_below HB.out⟩

set_option maxRecDepth 100000 in
set_option maxHeartbeats 2000000 in
theorem takes_small (s s' : ByteArray) (x : Nat) (e' kd n most : Int) (p : Nat) (w : World) (hp : bits .and .i64 kd 255 = (p : Int)) (hq : p % 5 = 2) (hx : x ≤ top)
    (hT : ∀ wx : World, Calls Try.prog 54 #[inOf s 0, .int .i64 n, .int .u64 most] wx fun e w' => e = .returned (.tuple #[inOf s' e', .int .i64 x]) ∧ Below wx.heap.size wx w') :
    Calls Try.prog 16 #[inOf s 0, .agg #[.int .i64 kd, .int .i64 n, .int .u64 most]] w fun e w' => e = .returned (.tuple #[inOf s' e', .int .u64 x, .string ⟨#[]⟩]) ∧ Below w.heap.size w w' := by
  have HT := Lib.hid hT
  clear hT
  unfold inOf at *
  have q0 : (((p : Int) % 5) == 0) = false := by simp; omega
  have q1 : (((p : Int) % 5) == 1) = false := by simp; omega
  have q2 : (((p : Int) % 5) == 2) = true := by simp; omega
  unfold top at hx
  have hx2 : IntKind.u64.wrap (x : Int) = (x : Int) := by simp only [IntKind.wrap, IntKind.bits, IntKind.signed]; simp; omega
  clear hq
  go_enter Try.func16, Try.ntmps16
  go_wp2_with fail
  refine (HT.out _).mono ?_
  rintro e w1 ⟨rfl, hb⟩
  obtain ⟨hz, d0, d1⟩ := three_cells hb
  obtain ⟨hc, hf⟩ := bcell hb
  have HB := Lib.hid hb
  clear hb HT
  obtain ⟨r0, r1⟩ := pair_set (o := .cells #[.string s', .int .i64 e'] 28) (v0 := .string s') (v1 := .int .i64 e') d0 d1 hz
  go_wp2
  exact bodyPost_ret (v := .tuple #[.agg #[.string s', .int .i64 e'], .int .u64 x, .string ⟨#[]⟩]) (by simp [results, Try.results16, go_sem, r0, r1]) rfl ⟨rfl, three_below HB.out⟩

set_option maxRecDepth 100000 in
set_option maxHeartbeats 2000000 in
theorem takes_zero (s s' : ByteArray)  (e' kd n most : Int) (p : Nat) (w : World) (hp : bits .and .i64 kd 255 = (p : Int)) (hq : p % 5 = 3)
    (hT : ∀ wx : World, Calls Try.prog 55 #[inOf s 0] wx fun e w' => e = .returned (inOf s' e') ∧ Below wx.heap.size wx w') :
    Calls Try.prog 16 #[inOf s 0, .agg #[.int .i64 kd, .int .i64 n, .int .u64 most]] w fun e w' => e = .returned (.tuple #[inOf s' e', .int .u64 0, .string ⟨#[]⟩]) ∧ Below w.heap.size w w' := by
  have HT := Lib.hid hT
  clear hT
  unfold inOf at *
  have q0 : (((p : Int) % 5) == 0) = false := by simp; omega
  have q1 : (((p : Int) % 5) == 1) = false := by simp; omega
  have q2 : (((p : Int) % 5) == 2) = false := by simp; omega
  have q3 : (((p : Int) % 5) == 3) = true := by simp; omega
  clear hq
  go_enter Try.func16, Try.ntmps16
  go_wp2_with fail
  refine (HT.out _).mono ?_
  rintro e w1 ⟨rfl, hb⟩
  obtain ⟨hz, d0, d1⟩ := three_cells hb
  obtain ⟨hc, hf⟩ := bcell hb
  have HB := Lib.hid hb
  clear hb HT
  obtain ⟨r0, r1⟩ := pair_set (o := .cells #[.string s', .int .i64 e'] 28) (v0 := .string s') (v1 := .int .i64 e') d0 d1 hz
  obtain ⟨r2, r3⟩ := pair_set0 (v0 := .string s') (v1 := .int .i64 e') d0 d1
  go_wp2
  exact bodyPost_ret (v := .tuple #[.agg #[.string s', .int .i64 e'], .int .u64 0, .string ⟨#[]⟩]) (by simp [results, Try.results16, go_sem, r2, r3]) rfl ⟨rfl, three_below0 HB.out⟩

set_option maxRecDepth 100000 in
set_option maxHeartbeats 2000000 in
theorem takes_done (s s' : ByteArray)  (e' kd n most : Int) (p : Nat) (w : World) (hp : bits .and .i64 kd 255 = (p : Int)) (hq : p % 5 = 4)
    (hT : ∀ wx : World, Calls Try.prog 56 #[inOf s 0] wx fun e w' => e = .returned (inOf s' e') ∧ Below wx.heap.size wx w') :
    Calls Try.prog 16 #[inOf s 0, .agg #[.int .i64 kd, .int .i64 n, .int .u64 most]] w fun e w' => e = .returned (.tuple #[inOf s' e', .int .u64 0, .string ⟨#[]⟩]) ∧ Below w.heap.size w w' := by
  have HT := Lib.hid hT
  clear hT
  unfold inOf at *
  have q0 : (((p : Int) % 5) == 0) = false := by simp; omega
  have q1 : (((p : Int) % 5) == 1) = false := by simp; omega
  have q2 : (((p : Int) % 5) == 2) = false := by simp; omega
  have q3 : (((p : Int) % 5) == 3) = false := by simp; omega
  clear hq
  go_enter Try.func16, Try.ntmps16
  go_wp2_with fail
  refine (HT.out _).mono ?_
  rintro e w1 ⟨rfl, hb⟩
  obtain ⟨hz, d0, d1⟩ := three_cells hb
  obtain ⟨hc, hf⟩ := bcell hb
  have HB := Lib.hid hb
  clear hb HT
  obtain ⟨r0, r1⟩ := pair_set (o := .cells #[.string s', .int .i64 e'] 28) (v0 := .string s') (v1 := .int .i64 e') d0 d1 hz
  obtain ⟨r2, r3⟩ := pair_set0 (v0 := .string s') (v1 := .int .i64 e') d0 d1
  go_wp2
  exact bodyPost_ret (v := .tuple #[.agg #[.string s', .int .i64 e'], .int .u64 0, .string ⟨#[]⟩]) (by simp [results, Try.results16, go_sem, r2, r3]) rfl ⟨rfl, three_below0 HB.out⟩
end Go.Proofs.Ytponpkmmfamjnaa
