/-
  The document's own bytes of a number.
-/
import Derived.Test.YtbohpffigmllkaaGreatDoorPackOuts
import Derived.Test.YtbohpffigmllkaaGreatDoorPackMath
namespace Go.Proofs.YtbohpffigmllkaaGreatDoor
open Go.RowKit

theorem enc_cons (a n : Nat) : enc a (n + 1) = UInt8.ofNat (a / 256 ^ n) :: enc a n := by
  unfold enc
  rw [List.range_succ_eq_map, List.map_cons, List.map_map]
  congr 1
  refine List.map_congr_left fun i _ => ?_
  show UInt8.ofNat (a / 256 ^ (n + 1 - 1 - (i + 1))) = _
  rw [show n + 1 - 1 - (i + 1) = n - 1 - i from by omega]
theorem byte_mod (x : Nat) : IntKind.u8.wrap ((x : Int) % 256) = ((UInt8.ofNat x).toNat : Int) := by
  rw [UInt8.toNat_ofNat']
  simp only [IntKind.wrap, IntKind.bits, IntKind.signed]
  simp
theorem one_byte (w : World) (b : UInt8) : (convert 81 9 (.slice (some ⟨w.heap.size, 0, none⟩) 1 1)).run Tryz.prog (w.alloc (.cells #[.int .u8 (b.toNat : Int)] 5)) = .ok (.string ⟨#[b]⟩) (w.alloc (.cells #[.int .u8 (b.toNat : Int)] 5)) := by
  refine run_convert_bytes_back _ _ _ 5 ⟨w.heap.size, 0, none⟩ 1 [b] Tryz.underlying81 Tryz.underlying5 Tryz.underlying9 fun j hj => ?_
  have : j = 0 := by simpa using hj
  subst this
  rw [Addr.add_lit]
  simp
theorem quo_u64 (X : Nat) (h : X < 18446744073709551616) : IntKind.u64.wrap ((X : Int) / 256) = ((X / 256 : Nat) : Int) := by
  simp only [IntKind.wrap, IntKind.bits, IntKind.signed]
  simp
  omega
theorem cons_bytes (b : UInt8) (l : List UInt8) : (⟨#[b]⟩ : ByteArray) ++ ⟨l.toArray⟩ = ⟨(b :: l).toArray⟩ := by
  apply ByteArray.ext
  simp

end Go.Proofs.YtbohpffigmllkaaGreatDoor
