/-
  A byte of a sector is made another one: Spoil, for every place and byte.
-/
import Derived.Test.YtjggofbaipppbaaDiskAwake
import Derived.StillTailTactics
namespace Go.Proofs.Ytjggofbaipppbaa
open Go.RowKit

theorem xor_u8 (a b : UInt8) : bits .xor .u8 ((a.toNat : Nat) : Int) ((b.toNat : Nat) : Int) = ((a ^^^ b).toNat : Int) := by
  have ha := a.toNat_lt
  have hb := b.toNat_lt
  have e1 : ∀ c : Nat, c < 256 → (BitVec.ofInt 8 ((c : Nat) : Int)).toNat = c := fun c hc => by
    rw [BitVec.toNat_ofInt]
    omega
  have hx : a.toNat ^^^ b.toNat < 256 := Nat.xor_lt_two_pow (n := 8) ha hb
  show IntKind.u8.wrap ((BitVec.ofInt 8 (a.toNat : Int) ^^^ BitVec.ofInt 8 (b.toNat : Int)).toNat : Int) = _
  rw [BitVec.toNat_xor, e1 _ ha, e1 _ hb, UInt8.toNat_xor]
  generalize a.toNat ^^^ b.toNat = y at *
  simp only [IntKind.wrap, IntKind.bits, IntKind.signed]
  simp
  omega
def bendF (f : Nat → UInt8) (q : Nat) (x : UInt8) : Nat → UInt8 := fun j => if j = q then f j ^^^ x else f j
def DiskM.spoilt (m : DiskM) (q : Nat) (x : UInt8) : DiskM := { m with S := bendF m.S q x, T := bendF m.T q x }
theorem RowAt.bend {b len : Nat} {f : Nat → UInt8} {w : World} (h : RowAt b len f w) (q : Nat) (hq : q < len) (x : UInt8) : RowAt b len (bendF f q x) (w.setCell ⟨b, q, none⟩ (.int .u8 ((f q ^^^ x).toNat : Int))) := by
  refine ⟨by simpa using h.lt, fun j hj => ?_, fun j hj => by rw [set_free]; exact h.free j hj⟩
  unfold bendF
  by_cases e : j = q
  · subst e
    rw [if_pos rfl, set_same (h.cell j hj)]
  · rw [if_neg e, set_off (fun e' => e e'.symm)]
    exact h.cell j hj
theorem row_off {b len k d : Nat} {f : Nat → UInt8} {w : World} (v : Value) (h : RowAt b len f w) (hne : d ≠ b) : RowAt b len f (w.setCell ⟨d, k, none⟩ v) := row_set v h hne
theorem DiskAt.spoil {m : DiskM} {w : World} (h : DiskAt m w) (q : Nat) (hq : q < 64 * m.n) (x : UInt8) :
    DiskAt { m with S := bendF m.S q x } (w.setCell ⟨m.bs, q, none⟩ (.int .u8 ((m.S q ^^^ x).toNat : Int))) := by
  have e : ∀ j, (w.setCell ⟨m.bs, q, none⟩ (.int .u8 ((m.S q ^^^ x).toNat : Int))).cell? ⟨m.d, j, none⟩ = w.cell? ⟨m.d, j, none⟩ := fun j => World.cell?_setCell_other _ _ _ _ (fun e => by have := congrArg Addr.block e; exact h.n1 this.symm)
  exact ⟨by simpa using h.lt, h.n1, h.n2, h.n3, h.size, by rw [e]; exact h.c0, by rw [e]; exact h.c1, by rw [e]; exact h.c2, by rw [e]; exact h.c3, by rw [e]; exact h.c4, fun j => by simpa using h.free j, h.sure.bend q hq x, row_off _ h.there h.n3⟩
theorem DiskAt.spoil2 {m : DiskM} {w : World} (h : DiskAt m w) (q : Nat) (hq : q < 64 * m.n) (x : UInt8) :
    DiskAt { m with T := bendF m.T q x } (w.setCell ⟨m.bt, q, none⟩ (.int .u8 ((m.T q ^^^ x).toNat : Int))) := by
  have e : ∀ j, (w.setCell ⟨m.bt, q, none⟩ (.int .u8 ((m.T q ^^^ x).toNat : Int))).cell? ⟨m.d, j, none⟩ = w.cell? ⟨m.d, j, none⟩ := fun j => World.cell?_setCell_other _ _ _ _ (fun e => by have := congrArg Addr.block e; exact h.n2 this.symm)
  exact ⟨by simpa using h.lt, h.n1, h.n2, h.n3, h.size, by rw [e]; exact h.c0, by rw [e]; exact h.c1, by rw [e]; exact h.c2, by rw [e]; exact h.c3, by rw [e]; exact h.c4, fun j => by simpa using h.free j, row_off _ h.sure h.n3.symm, h.there.bend q hq x⟩
set_option maxRecDepth 10000 in
set_option maxHeartbeats 1000000 in
theorem spoil_ok (m : DiskM) (k b : Nat) (x : UInt8) (w : World) (h : DiskAt m w) (hk : k < m.n) (hb : b < 64) :
    Calls Try.prog 35 #[.pointer (some ⟨m.d, 0, none⟩), .int .i64 (k : Int), .int .i64 (b : Int), .int .u8 ((x.toNat : Nat) : Int)] w fun e w' => e = .returned (.tuple #[]) ∧ DiskAt (m.spoilt (k * 64 + b) x) w' ∧ Grew m.own w w' := by
  have H' := Lib.hid (sector_ok m k w h (by omega) (by omega))
  have hkb : (0 : Int) ≤ (k : Int) ∧ (k : Int) < m.n := by omega
  have hbb : (0 : Int) ≤ (b : Int) ∧ (b : Int) < 64 := by omega
  have hq : k * 64 + b < 64 * m.n := by omega
  have hX := xor_u8 (m.S (k * 64 + b)) x
  have hX2 := xor_u8 (m.T (k * 64 + b)) x
  have h1 := h.drew
  have k0 := h.c0
  have k1 := h.sure.cell (k * 64 + b) hq
  have s1 := h1.sure.free (k * 64 + b) hq
  have s1c := h1.sure.cell (k * 64 + b) hq
  have d1 := h1.spoil (k * 64 + b) hq x
  have g1 : Grew m.own w (w.drew.setCell ⟨m.bs, k * 64 + b, none⟩ (.int .u8 ((m.S (k * 64 + b) ^^^ x).toNat : Int))) := (Grew.refl w).drew.setCell _ _ fun _ => Or.inr (Or.inl rfl)
  rw [UInt8.toNat_xor] at hX hX2 d1 g1
  have HQ := Lib.hid hq
  have HD1 := Lib.hid d1
  have HG1 := Lib.hid g1
  have HS1 := Lib.hid (And.intro s1 s1c)
  clear h h1 d1 g1 hq s1 s1c
  go_enter Try.func35, Try.ntmps35
  go_wp2_with fail
  refine H'.out.mono ?_
  rintro e w' ⟨rfl, rfl⟩
  go_wp2_with fail
  go_still_tail 13, (by kernel_rfl)
  change wpList _ _ _ _ _ w.drew
  generalize w.drew = w2 at *
  obtain ⟨s1, s1c⟩ := HS1.out
  go_upto_region 4 with fail
  clear HS1 hX s1 s1c k0 k1
  generalize w2.setCell ⟨m.bs, k * 64 + b, none⟩ (.int .u8 (((m.S (k * 64 + b)).toNat ^^^ x.toNat : Nat) : Int)) = wb at HD1 HG1 ⊢
  have k0 := HD1.out.c1
  have k1 := HD1.out.there.cell (k * 64 + b) HQ.out
  have h2 := HD1.out.drew
  have HS2 := Lib.hid (And.intro (h2.there.free (k * 64 + b) HQ.out) (h2.there.cell (k * 64 + b) HQ.out))
  have d2 := h2.spoil2 (k * 64 + b) HQ.out x
  have g2 : Grew m.own w (wb.drew.setCell ⟨m.bt, k * 64 + b, none⟩ (.int .u8 ((m.T (k * 64 + b) ^^^ x).toNat : Int))) := HG1.out.drew.setCell _ _ fun _ => Or.inr (Or.inr rfl)
  have d2 : DiskAt (m.spoilt (k * 64 + b) x) (wb.drew.setCell ⟨m.bt, k * 64 + b, none⟩ (.int .u8 ((m.T (k * 64 + b) ^^^ x).toNat : Int))) := d2
  rw [UInt8.toNat_xor] at d2 g2
  have HD2 := Lib.hid d2
  have HG2 := Lib.hid g2
  clear h2 HD1 HG1 HQ d2 g2
  go_still_tail 13, (by kernel_rfl)
  change wpList _ _ _ _ _ wb.drew
  generalize wb.drew = w3 at *
  obtain ⟨s2, s2c⟩ := HS2.out
  go_wp2_with fail
  go_end0
  exact ⟨rfl, HD2.out, HG2.out⟩
theorem spoil_range (m : DiskM) (at' b x : Int) (w : World) (h : DiskAt m w) (hn : at' < 0 ∨ m.n ≤ at') :
    Calls Try.prog 35 #[.pointer (some ⟨m.d, 0, none⟩), .int .i64 at', .int .i64 b, .int .u8 x] w fun e w' => e = failed 6 ∧ w = w' := by
  have H' := Lib.hid (sector_not m at' w h hn)
  clear h hn
  go_enter Try.func35, Try.ntmps35
  go_wp2_with fail
  refine H'.out.mono ?_
  rintro e w' ⟨rfl, rfl⟩
  unfold failed
  go_wp2_with fail
  exact ⟨rfl, rfl, rfl⟩
theorem spoil_arg (m : DiskM) (k : Nat) (b x : Int) (w : World) (h : DiskAt m w) (hk : k < m.n) (hb : b < 0 ∨ 64 ≤ b) :
    Calls Try.prog 35 #[.pointer (some ⟨m.d, 0, none⟩), .int .i64 (k : Int), .int .i64 b, .int .u8 x] w fun e w' => e = failed 4 ∧ w = w' := by
  have H' := Lib.hid (sector_ok m k w h (by omega) (by omega))
  have HF := Lib.hid (fail_any 4 w)
  clear h hk
  by_cases h0 : b < 0
  all_goals
    first | (have h1 : (64 : Int) ≤ b := by omega) | skip
    clear hb
    go_enter Try.func35, Try.ntmps35
    go_wp2_with fail
    refine H'.out.mono ?_
    rintro e w' ⟨rfl, rfl⟩
    go_wp2_with fail
    refine HF.out.mono ?_
    rintro e w' ⟨rfl, rfl⟩
    unfold failed
    go_wp2_with fail
    exact ⟨rfl, rfl, rfl⟩
end Go.Proofs.Ytjggofbaipppbaa
