/-
  New.
-/
import Derived.Test.YtakngnigpncmkaaDiskNew
namespace Go.Proofs.Ytakngnigpncmkaa
open Go.RowKit

/-- what New answers -/
structure NewOf (n : Int) (w : World) (m : DiskM) (w' : World) : Prop where
  at' : DiskAt m w'
  fresh : ∀ k, m.own k → w.heap.size ≤ k
  grew : ∀ S, Grew S w w'
  is : ∃ d bs bt, m = newDisk d bs bt (diskLen n)
theorem newOf (n : Int) (w : World) (Z : Array Value) (hZ : ∀ j, j < 64 * diskLen n → Z[j]? = some (.int .u8 0)) (t u : TypeId) (bs bt : Nat) (hb : bs = w.heap.size ∧ bt = w.heap.size + 1 ∨ bt = w.heap.size ∧ bs = w.heap.size + 1) :
    NewOf n w (newDisk (w.heap.size + 2) bs bt (diskLen n)) (((w.alloc (.cells Z t)).alloc (.cells Z t)).alloc (.cells #[.slice (some ⟨bs, 0, none⟩) (diskLen n) (diskLen n), .slice (some ⟨bt, 0, none⟩) (diskLen n) (diskLen n), .bool false, .int .i64 0, .bool false] u)) := by
  refine ⟨newDisk_at w Z _ (diskLen_le n) hZ t u bs bt hb, fun k hk => ?_, fun S => (((Grew.refl _).alloc _).alloc _).alloc _, _, _, _, rfl⟩
  simp only [DiskM.own, newDisk] at hk
  omega
theorem NewOf.drew {n : Int} {w w' : World} {m : DiskM} (h : NewOf n w m w') : NewOf n w m w'.drew := ⟨h.at'.drew, h.fresh, fun S => (h.grew S).drew, h.is⟩
set_option maxRecDepth 100000 in
theorem new_any (n : Int) (w : World) :
    Calls Try.prog 14 #[.int .i64 n] w fun e w' => ∃ m, e = .returned (.pointer (some ⟨m.d, 0, none⟩)) ∧ NewOf n w m w' := by
  obtain ⟨Z, hZ, hmk⟩ := make_any (diskLen n) (diskLen_le n)
  have HN := Lib.hid (fun w bs bt hb => newOf n w Z hZ 100 90 bs bt hb)
  obtain ⟨k, hk⟩ : ∃ k, diskLen n = k := ⟨_, rfl⟩
  rw [hk] at HN hmk
  have hv : (k : Int) = min (max n 0) 4096 := by rw [← hk]; unfold diskLen; omega
  clear hZ
  go_enter Try.func14, Try.ntmps14
  go_upto_region 2 with fail
  have hif : (if (4096 : Int) < (if n < 0 then 0 else n) then 4096 else (if n < 0 then 0 else n)) = (k : Int) := by
    rw [hv]
    repeat' split
    all_goals omega
  rw [hif]
  generalize (if n < 0 then (0 : Int) else n) = n1
  clear hif hv
  go_region_held3 (fun _ => True) (exact trivial) (fail)
  all_goals (go_wp2_with fail)
  all_goals go_ret
  · exact ⟨newDisk (w.heap.size + 2) w.heap.size (w.heap.size + 1) k, rfl, (HN.out w w.heap.size (w.heap.size + 1) (Or.inl ⟨rfl, rfl⟩)).drew⟩
  · exact ⟨newDisk (w.heap.size + 2) (w.heap.size + 1) w.heap.size k, rfl, (HN.out w (w.heap.size + 1) w.heap.size (Or.inr ⟨rfl, rfl⟩)).drew⟩
end Go.Proofs.Ytakngnigpncmkaa
