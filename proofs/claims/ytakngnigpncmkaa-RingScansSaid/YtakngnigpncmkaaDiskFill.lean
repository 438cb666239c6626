/-
  A new sector, and a text in it.
-/
import Derived.Test.YtakngnigpncmkaaDiskSync
import Derived.Lib.LazyBuf
import Derived.Deep.CutBlock
namespace Go.Proofs.Ytakngnigpncmkaa
open Go.RowKit

/-- the cells of a new sector -/
def lit64 : Array Value := #[.int .u8 0, .int .u8 0, .int .u8 0, .int .u8 0, .int .u8 0, .int .u8 0, .int .u8 0, .int .u8 0, .int .u8 0, .int .u8 0, .int .u8 0, .int .u8 0, .int .u8 0, .int .u8 0, .int .u8 0, .int .u8 0, .int .u8 0, .int .u8 0, .int .u8 0, .int .u8 0, .int .u8 0, .int .u8 0, .int .u8 0, .int .u8 0, .int .u8 0, .int .u8 0, .int .u8 0, .int .u8 0, .int .u8 0, .int .u8 0, .int .u8 0, .int .u8 0, .int .u8 0, .int .u8 0, .int .u8 0, .int .u8 0, .int .u8 0, .int .u8 0, .int .u8 0, .int .u8 0, .int .u8 0, .int .u8 0, .int .u8 0, .int .u8 0, .int .u8 0, .int .u8 0, .int .u8 0, .int .u8 0, .int .u8 0, .int .u8 0, .int .u8 0, .int .u8 0, .int .u8 0, .int .u8 0, .int .u8 0, .int .u8 0, .int .u8 0, .int .u8 0, .int .u8 0, .int .u8 0, .int .u8 0, .int .u8 0, .int .u8 0, .int .u8 0]
theorem lit64_at (j : Nat) (h : j < 64) : lit64[j]? = some (.int .u8 0) := by
  have e : lit64 = Array.replicate 64 (.int .u8 0) := by kernel_rfl
  rw [e, Array.getElem?_replicate, if_pos h]
theorem row_new (w : World) (t : TypeId) : RowAt w.heap.size 64 (fun _ => 0) (w.alloc (.cells lit64 t)) := by
  refine ⟨by simp, fun j hj => ?_, fun j hj => by simp⟩
  have e := lit64_at j hj
  rw [World.cell?_alloc_new, e]
  rfl
/-- the bytes of a text, and noughts behind -/
def txtf (s : ByteArray) (j : Nat) : UInt8 := s.data.toList.getD j 0
theorem txt_row (s : ByteArray) : (s.data.toList.map fun x => Value.int .u8 (x.toNat : Int)) = rowOf (txtf s) 0 s.size := by
  have hl : s.data.toList.length = s.size := by simp
  refine List.ext_getElem (by simp) fun j h1 h2 => ?_
  have hj : j < s.data.toList.length := by simpa using h1
  have e := rowOf_get (txtf s) 0 s.size j (by omega)
  rw [List.getElem?_eq_getElem h2] at e
  injection e with e
  rw [e, List.getElem_map, Nat.zero_add]
  unfold txtf
  rw [List.getD_eq_getElem?_getD, List.getElem?_eq_getElem hj, Option.getD_some]
theorem copy_text (b : Nat) (s : ByteArray) (w : World) (h : RowAt b 64 (fun _ => 0) w) (hs : s.size ≤ 64) :
    (Builtin.copy_ #[83, 9] 3 #[.slice (some ⟨b, 0, none⟩) 64 64, .string s]).run Try.prog w = .ok (.int .i64 s.size) (w.setCells b 0 (rowOf (txtf s) 0 s.size)) := by
  rw [← txt_row]
  refine run_copy_string w _ _ _ 5 b 0 64 64 s Try.underlying83 (fun w => by kernel_rfl) hs (fun j hj => ?_) (fun j hj => h.free (0 + j) (by omega))
  rw [h.cell (0 + j) (by omega)]
  rfl
theorem row_filled (b : Nat) (s : ByteArray) (w : World) (h : RowAt b 64 (fun _ => 0) w) (hs : s.size ≤ 64) : RowAt b 64 (txtf s) (w.setCells b 0 (rowOf (txtf s) 0 s.size)) := by
  have z := h.over (txtf s) 0 s.size (by omega)
  refine ⟨z.lt, fun j hj => ?_, z.free⟩
  have e := z.cell j hj
  by_cases hj' : j < s.size
  · rw [if_pos (by omega)] at e
    exact e
  · rw [if_neg (by omega)] at e
    have hl : s.data.toList.length = s.size := by simp
    have e2 : txtf s j = 0 := by
      unfold txtf
      rw [List.getD_eq_getElem?_getD, List.getElem?_eq_none (by omega), Option.getD_none]
    rw [e2]
    exact e
/-- a sector of what is there is another one -/
def DiskM.wrote (m : DiskM) (k : Nat) (g : Nat → UInt8) : DiskM := { m with T := fun j => if k * 64 ≤ j ∧ j < k * 64 + 64 then g (j - k * 64) else m.T j }
theorem rowOf_shift (g : Nat → UInt8) (o n : Nat) : rowOf (fun j => g (j - o)) o n = rowOf g 0 n := by
  unfold rowOf
  simp
theorem DiskAt.wrote {m : DiskM} {w : World} (h : DiskAt m w) (k : Nat) (hk : k < m.n) (g : Nat → UInt8) : DiskAt (m.wrote k g) (w.setCells m.bt (k * 64) (rowOf g 0 64)) := by
  have gr : Grew (fun k => k = m.bt) w (w.setCells m.bt (k * 64) (rowOf g 0 64)) := setCells_grew _ _ w w (Grew.refl w) fun _ => rfl
  have c : ∀ j v, w.cell? ⟨m.d, j, none⟩ = some v → (w.setCells m.bt (k * 64) (rowOf g 0 64)).cell? ⟨m.d, j, none⟩ = some v := fun j v hc => by rw [gr.cell (p := ⟨m.d, j, none⟩) h.lt h.n2]; exact hc
  have hs := h.there.over (fun j => g (j - k * 64)) (k * 64) 64 (by omega)
  rw [rowOf_shift] at hs
  exact ⟨Nat.lt_of_lt_of_le h.lt gr.size, h.n1, h.n2, h.n3, h.size, c _ _ h.c0, c _ _ h.c1, c _ _ h.c2, c _ _ h.c3, c _ _ h.c4, fun j => by rw [World.frozen?_setCells]; exact h.free j, h.sure.kept gr h.n3, hs⟩
end Go.Proofs.Ytakngnigpncmkaa
