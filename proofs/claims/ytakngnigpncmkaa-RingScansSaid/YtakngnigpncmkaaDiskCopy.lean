/-
  A row of sectors goes over into another one.
-/
import Derived.Test.YtakngnigpncmkaaDiskRead
namespace Go.Proofs.Ytakngnigpncmkaa
open Go.RowKit

/-- 'copy' of elements of z cells: all is read before anything is written -/
theorem run_copy_wide {P : Program} (w : World) (dT sT ty elem : TypeId) (b o dLen dCap : Nat) (a : Addr) (sLen sCap z n : Nat) (cs : List Value)
    (hu : P.underlying dT = some (.slice elem)) (hz : ∀ w, (Go.sizeOf elem).run P w = .ok z w) (hn : Nat.min sLen dLen = n) (hl : cs.length = n * z)
    (hsrc : ∀ j v, cs[j]? = some v → w.cell? (a.add j) = some v) (hc : ∀ j, j < cs.length → (w.cell? ⟨b, o + j, none⟩).isSome = true) (hf : ∀ j, j < cs.length → w.frozen? ⟨b, o + j, none⟩ = false) (h1 : ∀ v ∈ cs, v.oneCell' = true) :
    (Builtin.copy_ #[dT, sT] ty #[.slice (some ⟨b, o, none⟩) dLen dCap, .slice (some a) sLen sCap]).run P w = .ok (goInt n) (w.setCells b o cs) := by
  have hld := run_loadCells_list (P := P) w a cs hsrc
  have hst := run_storeCells_cells (P := P) b o cs 0 w (by simpa using hc) (by simpa using hf) h1
  simp [Builtin.copy_, run_underlying hu, Builtin.lenOf, Builtin.firstCells, hz, hn, ← hl, hld, hst]
/-- the cells of a row -/
def rowOf (f : Nat → UInt8) (o len : Nat) : List Value := (List.range len).map fun j => .int .u8 ((f (o + j)).toNat : Int)
@[simp] theorem rowOf_length (f : Nat → UInt8) (o len : Nat) : (rowOf f o len).length = len := by simp [rowOf]
theorem rowOf_get (f : Nat → UInt8) (o len j : Nat) (h : j < len) : (rowOf f o len)[j]? = some (.int .u8 ((f (o + j)).toNat : Int)) := by simp [rowOf, h]
theorem rowOf_one (f : Nat → UInt8) (o len : Nat) : ∀ v ∈ rowOf f o len, v.oneCell' = true := by
  intro v hv
  obtain ⟨x, _, rfl⟩ := List.mem_map.1 hv
  rfl
theorem setCells_grew {S : Nat → Prop} {b : Nat} : ∀ (vs : List Value) (o : Nat) (a w : World), Grew S a w → (b < a.heap.size → S b) → Grew S a (w.setCells b o vs)
  | [], _, _, _, h, _ => h
  | v :: r, o, a, w, h, hb => setCells_grew r (o + 1) a (w.setCell ⟨b, o, none⟩ v) (h.setCell ⟨b, o, none⟩ v hb) hb
/-- a part of a row is written over -/
theorem RowAt.over {b len : Nat} {f : Nat → UInt8} {w : World} (h : RowAt b len f w) (g : Nat → UInt8) (o n : Nat) (ho : o + n ≤ len) :
    RowAt b len (fun j => if o ≤ j ∧ j < o + n then g j else f j) (w.setCells b o (rowOf g o n)) := by
  have hin : ∀ j, j < (rowOf g o n).length → (w.cell? ⟨b, o + j, none⟩).isSome = true := fun j hj => by
    rw [h.cell (o + j) (by simp at hj; omega)]
    rfl
  refine ⟨Nat.lt_of_lt_of_le h.lt (setCells_grew (S := fun _ => True) _ _ w w (Grew.refl w) fun _ => trivial).size, fun j hj => ?_, fun j hj => by rw [World.frozen?_setCells]; exact h.free j hj⟩
  by_cases hj' : o ≤ j ∧ j < o + n
  · obtain ⟨i, rfl⟩ : ∃ i, j = o + i := ⟨j - o, by omega⟩
    have hi : i < (rowOf g o n).length := by simp; omega
    rw [World.cell?_setCells_in b _ o w hin i hi, if_pos hj']
    have e := rowOf_get g o n i (by omega)
    rw [List.getElem?_eq_getElem hi] at e
    exact e
  · rw [World.cell?_setCells_out b _ o w _ (fun _ _ => by simp; omega), if_neg hj']
    exact h.cell j hj
theorem copy_all (m : DiskM) (w : World) (h : DiskAt m w) :
    (Builtin.copy_ #[88, 88] 3 #[.slice (some ⟨m.bs, 0, none⟩) m.n m.cs, .slice (some ⟨m.bt, 0, none⟩) m.n m.ct]).run Try.prog w = .ok (.int .i64 m.n) (w.setCells m.bs 0 (rowOf m.T 0 (64 * m.n))) := by
  refine run_copy_wide w _ _ _ 100 m.bs 0 m.n m.cs ⟨m.bt, 0, none⟩ m.n m.ct 64 m.n _ Try.underlying88 (fun w => by kernel_rfl) (Nat.min_self _) (by simp; omega) ?_ ?_ ?_ (rowOf_one _ _ _)
  · intro j v hv
    have hj : j < 64 * m.n := by
      rcases Nat.lt_or_ge j (64 * m.n) with hj | hj
      · exact hj
      · rw [List.getElem?_eq_none (by simpa using hj)] at hv
        simp at hv
    rw [rowOf_get _ _ _ _ hj] at hv
    rw [Addr.add_mid, ← hv, h.there.cell (0 + j) (by omega)]
  · intro j hj
    rw [h.sure.cell (0 + j) (by simp at hj; omega)]
    rfl
  · intro j hj
    exact h.sure.free (0 + j) (by simp at hj; omega)
/-- what is there is sure -/
theorem DiskAt.synced {m : DiskM} {w : World} (h : DiskAt m w) : DiskAt { m with S := m.T } (w.setCells m.bs 0 (rowOf m.T 0 (64 * m.n))) := by
  have g : Grew (fun k => k = m.bs) w (w.setCells m.bs 0 (rowOf m.T 0 (64 * m.n))) := setCells_grew _ _ w w (Grew.refl w) fun _ => rfl
  have c : ∀ j v, w.cell? ⟨m.d, j, none⟩ = some v → (w.setCells m.bs 0 (rowOf m.T 0 (64 * m.n))).cell? ⟨m.d, j, none⟩ = some v := fun j v hc => by rw [g.cell (p := ⟨m.d, j, none⟩) h.lt h.n1]; exact hc
  have hs := h.sure.over m.T 0 (64 * m.n) (by omega)
  refine ⟨Nat.lt_of_lt_of_le h.lt g.size, h.n1, h.n2, h.n3, h.size, c _ _ h.c0, c _ _ h.c1, c _ _ h.c2, c _ _ h.c3, c _ _ h.c4, fun j => by rw [World.frozen?_setCells]; exact h.free j, ⟨hs.lt, fun j hj => ?_, hs.free⟩, h.there.kept g fun e => h.n3 e.symm⟩
  have e := hs.cell j hj
  rw [if_pos (by have hj' : j < 64 * m.n := hj; omega)] at e
  exact e
end Go.Proofs.Ytakngnigpncmkaa
