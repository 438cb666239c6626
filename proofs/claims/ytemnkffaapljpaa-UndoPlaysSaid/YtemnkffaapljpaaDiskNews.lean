/-
  Texts put together: DiskNew, DiskNewFn.
-/
import Derived.Test.YtemnkffaapljpaaDiskOne
import Derived.Laws.MakeOwn
/-
  A new disk.
-/
namespace Go.Proofs.Ytemnkffaapljpaa
open Go.RowKit

theorem make_any (k : Nat) (hk : k ≤ 4096) : ∃ Z : Array Value, (∀ j, j < 64 * k → Z[j]? = some (.int .u8 0)) ∧ ∀ w : World, (Instr.makeSlice 119 (.int .i64 (k : Int)) (.int .i64 (k : Int))).run Try.prog w = .ok (.slice (some ⟨w.heap.size, 0, none⟩) k k) (w.alloc (.cells Z 144)) := by
  have hm : (Try.prog.info? 144).map (fun i => (i.zero, i.size, i.bytes)) = some (some (.agg lit64), 64, 64) := by kernel_rfl
  obtain ⟨i, hi, hz, hs, hb⟩ : ∃ i, Try.prog.info? 144 = some i ∧ i.zero = some (.agg lit64) ∧ i.size = 64 ∧ i.bytes = 64 := by
    cases hq : Try.prog.info? 144 with
    | none => rw [hq] at hm; simp at hm
    | some i =>
      rw [hq, Option.map_some] at hm
      injection hm with hm
      injection hm with e1 hm
      injection hm with e2 e3
      exact ⟨i, rfl, e1, e2, e3⟩
  refine ⟨madeCells lit64 (k * 64), fun j hj => ?_, fun w => ?_⟩
  · have e : lit64.size = 64 := by kernel_rfl
    unfold madeCells
    rw [Array.getElem?_map, Array.getElem?_range, if_pos (by omega), Option.map_some, e]
    have z := lit64_at (j % 64) (by omega)
    rw [getElem!_def, z]
  · have z := run_make (P := Try.prog) w 119 144 i _ Try.underlying119 hi hz .i64 .i64 k k (by omega) (by omega) (by rw [hb]; omega) (by omega)
    rw [hs, Int.toNat_natCast] at z
    rw [z]
    rfl
theorem row_made (w : World) (Z : Array Value) (k : Nat) (hZ : ∀ j, j < 64 * k → Z[j]? = some (.int .u8 0)) (t : TypeId) : RowAt w.heap.size (64 * k) (fun _ => 0) (w.alloc (.cells Z t)) := by
  refine ⟨by simp, fun j hj => ?_, fun j hj => by simp⟩
  rw [World.cell?_alloc_new, hZ j hj]
  rfl
theorem new_free (w : World) (C : Array Value) (t : TypeId) (j : Nat) : (w.alloc (.cells C t)).frozen? ⟨w.heap.size, j, none⟩ = false := by simp
/-- how many sectors -/
def diskLen (n : Int) : Nat := (min (max n 0) 4096).toNat
theorem diskLen_le (n : Int) : diskLen n ≤ 4096 := by unfold diskLen; omega
/-- a new one -/
def newDisk (d bs bt n : Nat) : DiskM := ⟨d, bs, bt, n, n, n, fun _ => 0, fun _ => 0, false, 0, false⟩
theorem newDisk_at (w : World) (Z : Array Value) (k : Nat) (hk : k ≤ 4096) (hZ : ∀ j, j < 64 * k → Z[j]? = some (.int .u8 0)) (t u : TypeId) (bs bt : Nat) (hb : bs = w.heap.size ∧ bt = w.heap.size + 1 ∨ bt = w.heap.size ∧ bs = w.heap.size + 1) :
    DiskAt (newDisk (w.heap.size + 2) bs bt k) (((w.alloc (.cells Z t)).alloc (.cells Z t)).alloc (.cells #[.slice (some ⟨bs, 0, none⟩) k k, .slice (some ⟨bt, 0, none⟩) k k, .bool false, .int .i64 0, .bool false] u)) := by
  have r1 := row_made w Z k hZ t
  have r2 := row_made (w.alloc (.cells Z t)) Z k hZ t
  rw [World.size_alloc] at r2
  have r1' := (r1.kept (S := fun _ => False) (((Grew.refl _).alloc (.cells Z t)).alloc (.cells #[.slice (some ⟨bs, 0, none⟩) k k, .slice (some ⟨bt, 0, none⟩) k k, .bool false, .int .i64 0, .bool false] u)) fun e => e)
  have r2' := (r2.kept (S := fun _ => False) ((Grew.refl _).alloc (.cells #[.slice (some ⟨bs, 0, none⟩) k k, .slice (some ⟨bt, 0, none⟩) k k, .bool false, .int .i64 0, .bool false] u)) fun e => e)
  have hd : ((w.alloc (.cells Z t)).alloc (.cells Z t)).heap.size = w.heap.size + 2 := by simp
  have c : ∀ j, (((w.alloc (.cells Z t)).alloc (.cells Z t)).alloc (.cells #[.slice (some ⟨bs, 0, none⟩) k k, .slice (some ⟨bt, 0, none⟩) k k, .bool false, .int .i64 0, .bool false] u)).cell? ⟨w.heap.size + 2, j, none⟩ = (#[.slice (some ⟨bs, 0, none⟩) k k, .slice (some ⟨bt, 0, none⟩) k k, .bool false, .int .i64 0, .bool false] : Array Value)[j]? := fun j => by
    rw [← hd]
    exact World.cell?_alloc_new _ _ _ _
  have f : ∀ j, (((w.alloc (.cells Z t)).alloc (.cells Z t)).alloc (.cells #[.slice (some ⟨bs, 0, none⟩) k k, .slice (some ⟨bt, 0, none⟩) k k, .bool false, .int .i64 0, .bool false] u)).frozen? ⟨w.heap.size + 2, j, none⟩ = false := fun j => by
    rw [← hd]
    exact new_free _ _ _ _
  rcases hb with ⟨rfl, rfl⟩ | ⟨rfl, rfl⟩
  · exact ⟨by simp [newDisk], by simp [newDisk], by simp [newDisk], by simp [newDisk], hk, c 0, c 1, c 2, c 3, c 4, f, r1', r2'⟩
  · exact ⟨by simp [newDisk], by simp [newDisk], by simp [newDisk], by simp [newDisk], hk, c 0, c 1, c 2, c 3, c 4, f, r2', r1'⟩
end Go.Proofs.Ytemnkffaapljpaa

/-
  New.
-/
namespace Go.Proofs.Ytemnkffaapljpaa
open Go.RowKit

/-- what New answers -/
structure NewOf (n : Int) (w : World) (m : DiskM) (w' : World) : Prop where
  at' : DiskAt m w'
  fresh : ∀ k, m.own k → w.heap.size ≤ k
  grew : ∀ S, Grew S w w'
  is : ∃ d bs bt, m = newDisk d bs bt (diskLen n)
theorem newOf (n : Int) (w : World) (Z : Array Value) (hZ : ∀ j, j < 64 * diskLen n → Z[j]? = some (.int .u8 0)) (t u : TypeId) (bs bt : Nat) (hb : bs = w.heap.size ∧ bt = w.heap.size + 1 ∨ bt = w.heap.size ∧ bs = w.heap.size + 1) :
    NewOf n w (newDisk (w.heap.size + 2) bs bt (diskLen n)) (((w.alloc (.cells Z t)).alloc (.cells Z t)).alloc (.cells #[.slice (some ⟨bs, 0, none⟩) (diskLen n) (diskLen n), .slice (some ⟨bt, 0, none⟩) (diskLen n) (diskLen n), .bool false, .int .i64 0, .bool false] u)) := by
  refine ⟨newDisk_at w Z _ (diskLen_le n) hZ t u bs bt hb, fun k hk => ?_, fun S => (((Grew.refl _).alloc _).alloc _).alloc _, _, _, _, rfl⟩
  simp only [DiskM.own, newDisk] at hk
  omega
theorem NewOf.drew {n : Int} {w w' : World} {m : DiskM} (h : NewOf n w m w') : NewOf n w m w'.drew := ⟨h.at'.drew, h.fresh, fun S => (h.grew S).drew, h.is⟩
set_option maxRecDepth 100000 in
theorem new_any (n : Int) (w : World) :
    Calls Try.prog 25 #[.int .i64 n] w fun e w' => ∃ m, e = .returned (.pointer (some ⟨m.d, 0, none⟩)) ∧ NewOf n w m w' := by
  obtain ⟨Z, hZ, hmk⟩ := make_any (diskLen n) (diskLen_le n)
  have HN := Lib.hid (fun w bs bt hb => newOf n w Z hZ 144 121 bs bt hb)
  obtain ⟨k, hk⟩ : ∃ k, diskLen n = k := ⟨_, rfl⟩
  rw [hk] at HN hmk
  have hv : (k : Int) = min (max n 0) 4096 := by rw [← hk]; unfold diskLen; omega
  clear hZ
  go_enter Try.func25, Try.ntmps25
  go_upto_region 2 with fail
  have hif : (if (4096 : Int) < (if n < 0 then 0 else n) then 4096 else (if n < 0 then 0 else n)) = (k : Int) := by
    rw [hv]
    repeat' split
    all_goals omega
  rw [hif]
  generalize (if n < 0 then (0 : Int) else n) = n1
  clear hif hv
  go_region_held3 (fun _ => True) (exact trivial) (fail)
  all_goals (go_wp2_with fail)
  all_goals go_ret
  · exact ⟨newDisk (w.heap.size + 2) w.heap.size (w.heap.size + 1) k, rfl, (HN.out w w.heap.size (w.heap.size + 1) (Or.inl ⟨rfl, rfl⟩)).drew⟩
  · exact ⟨newDisk (w.heap.size + 2) (w.heap.size + 1) w.heap.size k, rfl, (HN.out w (w.heap.size + 1) w.heap.size (Or.inr ⟨rfl, rfl⟩)).drew⟩
end Go.Proofs.Ytemnkffaapljpaa
