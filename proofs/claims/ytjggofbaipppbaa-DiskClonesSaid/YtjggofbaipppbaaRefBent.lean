/-
  The document's own disk: a byte bent: a contract.
-/
import Derived.Test.YtjggofbaipppbaaRefNew
import Derived.Deep.RegionWith
namespace Go.Proofs.Ytjggofbaipppbaa
open Go.RowKit

theorem bend_all : ∀ n : Fin 256, bits .xor .u8 ((n.val : Nat) : Int) 65 = (((UInt8.ofNat n.val) ^^^ 65).toNat : Int) := by decide +kernel
theorem bend (b : UInt8) : bits .xor .u8 ((b.toNat : Nat) : Int) 65 = ((b ^^^ 65).toNat : Int) := by
  have h := bend_all ⟨b.toNat, b.toNat_lt⟩
  simpa using h
def bentOf (s : ByteArray) (k : Nat) (hk : k < s.size) : ByteArray := s.extract 0 k ++ ⟨#[(s[k]'hk) ^^^ 65]⟩ ++ s.extract (k + 1) 64
set_option maxRecDepth 10000 in
set_option maxHeartbeats 2000000 in
theorem bent_any (s : ByteArray) (k : Nat) (hs : s.size = 64) (hk : k < s.size) (w : World) : Calls Try.prog 64 #[.string s, .int .i64 (k : Int), .int .u8 65] w fun e w' => e = .returned (.string (bentOf s k hk)) ∧ Below w.heap.size w w' := by
  have i1 : (0 : Int) ≤ (k : Int) := by omega
  have i2 : (k : Int) < 64 := by omega
  have i3 : (k : Int) ≤ 64 := by omega
  have hi : (s.size : Int) = 64 := by omega
  have e1 : IntKind.i64.wrap ((k : Int) + 1) = ((k + 1 : Nat) : Int) := by rw [IntWalk.i64_in _ (by omega)]; omega
  have i4 : (0 : Int) ≤ ((k + 1 : Nat) : Int) := by omega
  have i5 : ((k + 1 : Nat) : Int) ≤ 64 := by omega
  have hb := bend (s[k]'hk)
  have hBe : bentOf s k hk = s.extract 0 k ++ ⟨#[(s[k]'hk) ^^^ 65]⟩ ++ s.extract (k + 1) 64 := rfl
  rw [hBe]
  clear hBe
  generalize (s[k]'hk) ^^^ 65 = b2 at *
  have hone := one_at ((w.alloc (.cells #[.int .u8 (b2.toNat : Int)] 5)).drew) w.heap.size b2 (boxNew rfl)
  have hone2 := one_at (w.drew.alloc (.cells #[.int .u8 (b2.toNat : Int)] 5)) w.heap.size b2 (boxNew rfl)
  have z1 : (s.extract 0 k).size = k := by rw [ByteArray.size_extract]; omega
  have hc1 : ∀ wx : World, (Op.stringOp .add (s.extract 0 k) ⟨#[b2]⟩).run Try.prog wx = .ok (.string (s.extract 0 k ++ ⟨#[b2]⟩)) wx := fun wx => run_string_add_sum wx _ _ (by show _ + 1 ≤ _; omega)
  have z2 : (s.extract (k + 1) 64).size ≤ 64 := by rw [ByteArray.size_extract]; omega
  have i6 : (0 : Int) ≤ (k : Int) + 1 ∧ (k : Int) + 1 ≤ 64 := by omega
  have hc2 : ∀ wx : World, (Op.stringOp .add (s.extract 0 k ++ ⟨#[b2]⟩) (s.extract (k + 1) 64)).run Try.prog wx = .ok (.string (s.extract 0 k ++ ⟨#[b2]⟩ ++ s.extract (k + 1) 64)) wx := fun wx => run_string_add_sum wx _ _ (by rw [ByteArray.size_append]; show (s.extract 0 k).size + 1 + _ ≤ _; omega)
  go_enter Try.func64, Try.ntmps64
  go_wp2_with fail
  go_region_with fail
  all_goals
    go_wp2_with fail
    go_ret
    first | exact ⟨rfl, ((Below.refl _ _).alloc (Nat.le_refl _) _).drew⟩ | exact ⟨rfl, (Below.refl _ _).drew.alloc (Nat.le_refl _) _⟩
end Go.Proofs.Ytjggofbaipppbaa
