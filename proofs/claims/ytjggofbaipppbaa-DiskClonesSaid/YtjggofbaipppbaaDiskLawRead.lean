/-
  The law's Read of a disk, in a Guard.
-/
import Derived.Test.YtjggofbaipppbaaDiskLawFn
namespace Go.Proofs.Ytjggofbaipppbaa
open Go.RowKit

/-- Read, before the Guard: what it answers -/
theorem read_all (m : DiskM) (at' : Int) (w : World) (h : DiskAt m w) :
    Calls Try.prog 46 #[.pointer (some ⟨m.d, 0, none⟩), .int .i64 at'] w fun e w' => ∃ o l, ReadOf m at' o l ∧ e = (match o with | none => .returned (.string ⟨l.toArray⟩) | some k => failed k) ∧ w = w' := by
  by_cases hd : m.dead = true
  · refine (read_cut m at' w h hd).mono ?_
    rintro e w' ⟨rfl, rfl⟩
    exact ⟨some 12, _, .cut hd, rfl, rfl⟩
  · have hd : m.dead = false := by simpa using hd
    by_cases hr : at' < 0 ∨ m.n ≤ at'
    · refine (read_not m at' w h hd hr).mono ?_
      rintro e w' ⟨rfl, rfl⟩
      exact ⟨some 6, _, .range hd hr, rfl, rfl⟩
    · obtain ⟨k, rfl⟩ : ∃ k : Nat, at' = k := ⟨at'.toNat, by omega⟩
      refine (read_ok m k w h hd (by omega)).mono ?_
      rintro e w' ⟨rfl, rfl⟩
      exact ⟨none, _, .works k hd rfl (by omega), rfl, rfl⟩
theorem read1_any (m : DiskM) (at' : Int) (a b c : Nat) (w : World) (h : DiskAt m w) (ca : w.cell? ⟨a, 0, none⟩ = some (.pointer (some ⟨m.d, 0, none⟩))) (cb : w.cell? ⟨b, 0, none⟩ = some (.int .i64 at')) (cc : w.cell? ⟨c, 0, none⟩ = some (.string ⟨#[]⟩)) (fc : w.frozen? ⟨c, 0, none⟩ = false) :
    Calls Try.prog 45 #[.pointer (some ⟨a, 0, none⟩), .pointer (some ⟨b, 0, none⟩), .pointer (some ⟨c, 0, none⟩)] w fun e w' => ∃ o l, e = Ends o ∧ ReadOf m at' o l ∧ w'.cell? ⟨c, 0, none⟩ = some (.string ⟨l.toArray⟩) ∧ Grew (fun k => k = c) w w' := by
  have H := Lib.hid (read_all m at' w h)
  clear h
  go_enter Try.func45, Try.ntmps45
  go_wp2_with fail
  refine H.out.mono ?_
  rintro e w' ⟨o, l, hR, rfl, rfl⟩
  have HR := Lib.hid hR
  clear hR H
  cases o with
  | none =>
    dsimp only
    go_wp2_with fail
    go_end0
    exact ⟨none, l, rfl, HR.out, World.cell?_setCell_same _ _ _ cc, (Grew.refl w).setCell _ _ fun _ => rfl⟩
  | some k =>
    have e0 : l = [] := by cases HR.out <;> rfl
    subst e0
    unfold failed
    dsimp only
    exact ⟨rfl, some k, [], rfl, HR.out, cc, Grew.refl w⟩
theorem lawRead_any (m : DiskM) (at' : Int) (w : World) (h : DiskAt m w) :
    Calls Try.prog 18 #[.pointer (some ⟨m.d, 0, none⟩), .int .i64 at'] w fun e w' => ∃ o l, e = .returned (.tuple #[.string ⟨l.toArray⟩, .int .i64 (o.getD 0)]) ∧ ReadOf m at' o l ∧ DiskAt m w' ∧ ∀ S, Grew S w w' := by
  have hmf : ∀ (fn : Fn) (first cap : Array Value) (w : World), (Instr.makeFunc fn first cap).run Try.prog w = .ok (.func fn first cap) w := fun _ _ _ _ => rfl
  obtain ⟨W, hW⟩ : ∃ W, ((w.alloc (.cells #[.pointer (some ⟨m.d, 0, none⟩)] 24)).alloc (.cells #[.int .i64 at'] 3)).alloc (.cells #[.string ⟨#[]⟩] 9) = W := ⟨_, rfl⟩
  have g0 : ∀ S, Grew S w W := fun S => by rw [← hW]; exact (((Grew.refl w).alloc _).alloc _).alloc _
  obtain ⟨hsz, ⟨ca, cb, cc⟩, _, _, fc⟩ := box3 hW
  have hD : DiskAt m W := h.keep (g0 fun _ => False) fun _ _ e => e
  have HG : Hid (Calls Try.prog 33 #[.func (.func 45) #[] #[.pointer (some ⟨w.heap.size, 0, none⟩), .pointer (some ⟨w.heap.size + 1, 0, none⟩), .pointer (some ⟨w.heap.size + 1 + 1, 0, none⟩)]] W fun e w' => ∃ o l, e = .returned (.int .i64 (o.getD 0)) ∧ w'.cell? ⟨w.heap.size + 1 + 1, 0, none⟩ = some (.string ⟨l.toArray⟩) ∧ ReadOf m at' o l ∧ DiskAt m w' ∧ ∀ S, Grew S w w') := by
    refine Lib.hid ((guard_grew 45 #[.pointer (some ⟨w.heap.size, 0, none⟩), .pointer (some ⟨w.heap.size + 1, 0, none⟩), .pointer (some ⟨w.heap.size + 1 + 1, 0, none⟩)] W (fun k => k = w.heap.size + 1 + 1) (fun o w1 => ∃ l, ReadOf m at' o l ∧ w1.cell? ⟨w.heap.size + 1 + 1, 0, none⟩ = some (.string ⟨l.toArray⟩)) (by omega) (fun _ => by kernel_rfl) ?_).mono ?_)
    · have g1 : Grew (fun _ => False) W (W.alloc errBox) := (Grew.refl W).alloc _
      refine (read1_any m at' w.heap.size (w.heap.size + 1) (w.heap.size + 1 + 1) _ (hD.keep g1 fun _ _ e => e) (by rw [g1.cell (p := ⟨w.heap.size, 0, none⟩) (by show w.heap.size < _; omega) fun e => e]; exact ca) (by rw [g1.cell (p := ⟨w.heap.size + 1, 0, none⟩) (by show w.heap.size + 1 < _; omega) fun e => e]; exact cb) (by rw [g1.cell (p := ⟨w.heap.size + 1 + 1, 0, none⟩) (by show w.heap.size + 1 + 1 < _; omega) fun e => e]; exact cc) (by rw [g1.frozen (p := ⟨w.heap.size + 1 + 1, 0, none⟩) (by show w.heap.size + 1 + 1 < _; omega) fun e => e]; exact fc)).mono ?_
      rintro e w' ⟨o, l, rfl, hs, hc, hg⟩
      exact ⟨o, rfl, hg, l, hs, hc⟩
    · rintro e w' ⟨o, w1, rfl, ⟨l, hs, hc⟩, rfl, hg, hlt⟩
      refine ⟨o, l, rfl, ?_, hs, hD.keep hg fun k hk e => ?_, fun S => (g0 S).step hg fun x hx e => ?_⟩
      · rw [(done_only W.heap.size o w1).cell (p := ⟨w.heap.size + 1 + 1, 0, none⟩) (by show w.heap.size + 1 + 1 < _; omega) (by show ¬ w.heap.size + 1 + 1 = _; omega)]
        exact hc
      · have := h.below k hk
        omega
      · omega
  rw [← hW] at HG
  clear h hW g0 ca cb cc fc hsz hD
  go_enter Try.func18, Try.ntmps18
  go_wp2_with fail
  refine HG.out.mono ?_
  rintro e w' ⟨o, l, rfl, hc, hr⟩
  have HR := Lib.hid hr
  clear hr HG
  go_wp2_with fail
  go_ret2
  exact ⟨o, l, rfl, HR.out⟩
end Go.Proofs.Ytjggofbaipppbaa
