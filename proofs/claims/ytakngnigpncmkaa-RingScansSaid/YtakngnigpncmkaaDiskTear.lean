/-
  A sector is torn.
-/
import Derived.Test.YtakngnigpncmkaaDiskLawRead
import Derived.Deep.RegionHeld3
namespace Go.Proofs.Ytakngnigpncmkaa
open Go.RowKit

/-- the first bytes of a sector reach what is sure -/
def DiskM.reach (m : DiskM) (k c : Nat) : DiskM := { m with S := fun j => if k * 64 ≤ j ∧ j < k * 64 + c then m.T j else m.S j }
theorem DiskAt.reach {m : DiskM} {w : World} (h : DiskAt m w) (k c : Nat) (hk : k < m.n) (hc : c ≤ 64) : DiskAt (m.reach k c) (w.setCells m.bs (k * 64) (rowOf m.T (k * 64) c)) := by
  have g : Grew (fun k => k = m.bs) w (w.setCells m.bs (k * 64) (rowOf m.T (k * 64) c)) := setCells_grew _ _ w w (Grew.refl w) fun _ => rfl
  have e : ∀ j v, w.cell? ⟨m.d, j, none⟩ = some v → (w.setCells m.bs (k * 64) (rowOf m.T (k * 64) c)).cell? ⟨m.d, j, none⟩ = some v := fun j v hc => by rw [g.cell (p := ⟨m.d, j, none⟩) h.lt h.n1]; exact hc
  exact ⟨Nat.lt_of_lt_of_le h.lt g.size, h.n1, h.n2, h.n3, h.size, e _ _ h.c0, e _ _ h.c1, e _ _ h.c2, e _ _ h.c3, e _ _ h.c4, fun j => by rw [World.frozen?_setCells]; exact h.free j, h.sure.over m.T (k * 64) c (by omega), h.there.kept g fun e => h.n3 e.symm⟩
theorem copy_part (m : DiskM) (k c : Nat) (w : World) (h : DiskAt m w) (hk : k < m.n) (hc : c ≤ 64) :
    (Builtin.copy_ #[83, 83] 3 #[.slice (some ⟨m.bs, k * 64, none⟩) c 64, .slice (some ⟨m.bt, k * 64, none⟩) 64 64]).run Try.prog w = .ok (.int .i64 c) (w.setCells m.bs (k * 64) (rowOf m.T (k * 64) c)) := by
  refine run_copy_wide w _ _ _ 5 m.bs (k * 64) c 64 ⟨m.bt, k * 64, none⟩ 64 64 1 c _ Try.underlying83 (fun w => by kernel_rfl) (Nat.min_eq_right hc) (by simp) ?_ ?_ ?_ (rowOf_one _ _ _)
  · intro j v hv
    have hj : j < c := by
      rcases Nat.lt_or_ge j c with hj | hj
      · exact hj
      · rw [List.getElem?_eq_none (by simpa using hj)] at hv
        simp at hv
    rw [rowOf_get _ _ _ _ hj] at hv
    rw [Addr.add_mid, ← hv, h.there.cell (k * 64 + j) (by omega)]
  · intro j hj
    rw [h.sure.cell (k * 64 + j) (by simp at hj; omega)]
    rfl
  · intro j hj
    exact h.sure.free (k * 64 + j) (by simp at hj; omega)
theorem slice_cut (b o c : Nat) (hc : c ≤ 64) : ∀ w : World, (Instr.sliceAt 100 (.pointer (some ⟨b, o, none⟩)) none (some (.int .i64 (c : Int))) none).run Try.prog w = .ok (.slice (some ⟨b, o, none⟩) c 64) w := by
  intro w
  have e1 : Try.prog.arrayLen 100 = 64 := by kernel_rfl
  have e2 : Try.prog.elem 100 = 5 := by kernel_rfl
  have e3 : (sizeOf 5).run Try.prog w = .ok 1 w := by kernel_rfl
  have h := run_sliceAt_array_h (P := Try.prog) w 100 ⟨b, o, none⟩ (by rw [e1, e2]; exact Try.underlying100) .i64 (c : Int) (by omega) (by rw [e1]; omega)
  rw [h, e1, e2, e3]
  simp only [Result.andThen_ok, slicedAt, Int.toNat_natCast]
  rw [if_neg (by omega), Addr.add_mid]
  simp
end Go.Proofs.Ytakngnigpncmkaa
