/-
  The law's calls of a disk, each in a Guard: contracts.
-/
import Derived.Test.YtjggofbaipppbaaDiskLaw
import Derived.Test.YtjggofbaipppbaaBoxes
import Derived.Laws.EntriesVeiled
namespace Go.Proofs.Ytjggofbaipppbaa
open Go.RowKit

/-- the same disk, where it lies -/
structure Same (m m' : DiskM) : Prop where
  d : m'.d = m.d
  bs : m'.bs = m.bs
  bt : m'.bt = m.bt
  n : m'.n = m.n
theorem Same.own {m m' : DiskM} (h : Same m m') : m'.own = m.own := by
  unfold DiskM.own
  rw [h.d, h.bs, h.bt]
theorem WriteOf.same {m m' : DiskM} {at' : Int} {s : ByteArray} {o : Option Int} (h : WriteOf m at' s o m') : Same m m' := by
  cases h with
  | cut _ => exact ⟨rfl, rfl, rfl, rfl⟩
  | range _ _ => exact ⟨rfl, rfl, rfl, rfl⟩
  | big k _ _ _ _ => exact ⟨rfl, rfl, rfl, rfl⟩
  | dies k _ _ _ _ _ _ => exact ⟨rfl, rfl, rfl, rfl⟩
  | works k _ _ _ _ _ => exact ⟨by simp [DiskM.wrote], by simp [DiskM.wrote], by simp [DiskM.wrote], by simp [DiskM.wrote]⟩
theorem SyncOf.same {m m' : DiskM} {o : Option Int} (h : SyncOf m o m') : Same m m' := by
  cases h with
  | cut _ => exact ⟨rfl, rfl, rfl, rfl⟩
  | dies _ _ _ => exact ⟨rfl, rfl, rfl, rfl⟩
  | works _ _ => exact ⟨by simp, by simp, by simp, by simp⟩
theorem DiskAt.below {m : DiskM} {w : World} (h : DiskAt m w) : ∀ k, m.own k → k < w.heap.size := by
  rintro k (rfl | rfl | rfl)
  · exact h.lt
  · exact h.sure.lt
  · exact h.there.lt
theorem DiskAt.keep {m : DiskM} {S : Nat → Prop} {w w' : World} (h : DiskAt m w) (g : Grew S w w') (hS : ∀ k, m.own k → ¬ S k) : DiskAt m w' :=
  h.kept g (hS _ (Or.inl rfl)) (hS _ (Or.inr (Or.inl rfl))) (hS _ (Or.inr (Or.inr rfl)))
theorem done_only (b : Nat) (o : Option Int) (w : World) : Grew (fun k => k = b) w (done b o w) := by
  cases o with
  | none => exact (Grew.refl w).setCell _ _ fun _ => rfl
  | some k => exact ((Grew.refl (S := fun k => k = b) w).setCell ⟨b, 0, none⟩ _ fun _ => rfl).alloc _
theorem lawSync_any (m : DiskM) (w : World) (h : DiskAt m w) (hf : m.fits) :
    Calls Try.prog 32 #[.pointer (some ⟨m.d, 0, none⟩)] w fun e w' => ∃ o m', e = .returned (.int .i64 (o.getD 0)) ∧ SyncOf m o m' ∧ DiskAt m' w' ∧ Grew m.own w w' := by
  have hmf : ∀ (fn : Fn) (first cap : Array Value) (w : World), (Instr.makeFunc fn first cap).run Try.prog w = .ok (.func fn first cap) w := fun _ _ _ _ => rfl
  have HG : Hid (Calls Try.prog 33 #[.func (.func 58) #[.pointer (some ⟨m.d, 0, none⟩)] #[]] w fun e w' => ∃ o m', e = .returned (.int .i64 (o.getD 0)) ∧ SyncOf m o m' ∧ DiskAt m' w' ∧ Grew m.own w w') := by
    refine Lib.hid ((guard_first_grew 58 (.pointer (some ⟨m.d, 0, none⟩)) w m.own (fun o w1 => ∃ m', SyncOf m o m' ∧ DiskAt m' w1) (fun e => absurd (h.below _ e) (Nat.lt_irrefl _)) (fun _ => by kernel_rfl) ?_).mono ?_)
    · refine (sync_all m _ (h.kept (S := fun _ => False) ((Grew.refl w).alloc _) (fun e => e) (fun e => e) (fun e => e)) hf).mono ?_
      rintro e w' ⟨o, m', rfl, hs, hd, hg⟩
      exact ⟨o, rfl, hg, m', hs, hd⟩
    · rintro e w' ⟨o, w1, rfl, ⟨m', hs, hd⟩, rfl, hg, _⟩
      exact ⟨o, m', rfl, hs, hd.keep (done_only _ _ _) (fun k hk e => by rw [hs.same.own] at hk; have := h.below k hk; omega), hg⟩
  clear h hf
  go_enter Try.func32, Try.ntmps32
  go_wp2_with fail
  refine HG.out.mono ?_
  rintro e w' ⟨o, m', rfl, hr⟩
  have HR := Lib.hid hr
  clear hr HG
  go_wp2_with fail
  go_ret
  exact ⟨o, m', rfl, HR.out⟩
theorem write1_any (m : DiskM) (at' : Int) (s : ByteArray) (a b c : Nat) (w : World) (h : DiskAt m w) (hf : m.fits) (ca : w.cell? ⟨a, 0, none⟩ = some (.pointer (some ⟨m.d, 0, none⟩))) (cb : w.cell? ⟨b, 0, none⟩ = some (.int .i64 at')) (cc : w.cell? ⟨c, 0, none⟩ = some (.string s)) :
    Calls Try.prog 56 #[.pointer (some ⟨a, 0, none⟩), .pointer (some ⟨b, 0, none⟩), .pointer (some ⟨c, 0, none⟩)] w fun e w' => ∃ o m', e = Ends o ∧ WriteOf m at' s o m' ∧ DiskAt m' w' ∧ Grew m.own w w' := by
  have H := Lib.hid (write_all m at' s w h hf)
  clear h hf
  go_enter Try.func56, Try.ntmps56
  go_wp2_with fail
  refine H.out.mono ?_
  rintro e w' ⟨o, m', rfl, hr⟩
  have HR := Lib.hid hr
  clear hr H
  cases o with
  | none =>
    unfold Ends
    go_wp2_with fail
    go_end0
    exact ⟨none, m', rfl, HR.out⟩
  | some k =>
    unfold Ends failed
    go_wp2_with fail
    exact ⟨rfl, some k, m', rfl, HR.out⟩
theorem lawWrite_any (m : DiskM) (at' : Int) (s : ByteArray) (w : World) (h : DiskAt m w) (hf : m.fits) :
    Calls Try.prog 30 #[.pointer (some ⟨m.d, 0, none⟩), .int .i64 at', .string s] w fun e w' => ∃ o m', e = .returned (.int .i64 (o.getD 0)) ∧ WriteOf m at' s o m' ∧ DiskAt m' w' ∧ Grew m.own w w' := by
  have hmf : ∀ (fn : Fn) (first cap : Array Value) (w : World), (Instr.makeFunc fn first cap).run Try.prog w = .ok (.func fn first cap) w := fun _ _ _ _ => rfl
  obtain ⟨W, hW⟩ : ∃ W, ((w.alloc (.cells #[.pointer (some ⟨m.d, 0, none⟩)] 24)).alloc (.cells #[.int .i64 at'] 3)).alloc (.cells #[.string s] 9) = W := ⟨_, rfl⟩
  have g0 : ∀ S, Grew S w W := fun S => by rw [← hW]; exact (((Grew.refl w).alloc _).alloc _).alloc _
  have ca : W.cell? ⟨w.heap.size, 0, none⟩ = some (.pointer (some ⟨m.d, 0, none⟩)) := by rw [← hW]; exact boxOld (boxOld (boxNew rfl) (by simp)) (by simp; omega)
  have cb : W.cell? ⟨w.heap.size + 1, 0, none⟩ = some (.int .i64 at') := by rw [← hW]; exact boxOld (boxNew (by simp)) (by simp)
  have cc : W.cell? ⟨w.heap.size + 1 + 1, 0, none⟩ = some (.string s) := by rw [← hW]; exact boxNew (by simp)
  have hsz : W.heap.size = w.heap.size + 3 := by rw [← hW]; simp
  have hD : DiskAt m W := h.keep (g0 fun _ => False) fun _ _ e => e
  have HG : Hid (Calls Try.prog 33 #[.func (.func 56) #[] #[.pointer (some ⟨w.heap.size, 0, none⟩), .pointer (some ⟨w.heap.size + 1, 0, none⟩), .pointer (some ⟨w.heap.size + 1 + 1, 0, none⟩)]] W fun e w' => ∃ o m', e = .returned (.int .i64 (o.getD 0)) ∧ WriteOf m at' s o m' ∧ DiskAt m' w' ∧ Grew m.own w w') := by
    refine Lib.hid ((guard_grew 56 #[.pointer (some ⟨w.heap.size, 0, none⟩), .pointer (some ⟨w.heap.size + 1, 0, none⟩), .pointer (some ⟨w.heap.size + 1 + 1, 0, none⟩)] W m.own (fun o w1 => ∃ m', WriteOf m at' s o m' ∧ DiskAt m' w1) (fun e => absurd (hD.below _ e) (Nat.lt_irrefl _)) (fun _ => by kernel_rfl) ?_).mono ?_)
    · have g1 : Grew (fun _ => False) W (W.alloc errBox) := (Grew.refl W).alloc _
      refine (write1_any m at' s w.heap.size (w.heap.size + 1) (w.heap.size + 1 + 1) _ (hD.keep g1 fun _ _ e => e) hf (by rw [g1.cell (p := ⟨w.heap.size, 0, none⟩) (by show w.heap.size < _; omega) fun e => e]; exact ca) (by rw [g1.cell (p := ⟨w.heap.size + 1, 0, none⟩) (by show w.heap.size + 1 < _; omega) fun e => e]; exact cb) (by rw [g1.cell (p := ⟨w.heap.size + 1 + 1, 0, none⟩) (by show w.heap.size + 1 + 1 < _; omega) fun e => e]; exact cc)).mono ?_
      rintro e w' ⟨o, m', rfl, hs, hd, hg⟩
      exact ⟨o, rfl, hg, m', hs, hd⟩
    · rintro e w' ⟨o, w1, rfl, ⟨m', hs, hd⟩, rfl, hg, _⟩
      exact ⟨o, m', rfl, hs, hd.keep (done_only _ _ _) (fun k hk e => by rw [hs.same.own] at hk; have := hD.below k hk; omega), (g0 m.own).trans hg⟩
  rw [← hW] at HG
  clear h hf hW g0 ca cb cc hsz hD
  go_enter Try.func30, Try.ntmps30
  go_wp2_with fail
  refine HG.out.mono ?_
  rintro e w' ⟨o, m', rfl, hr⟩
  have HR := Lib.hid hr
  clear hr HG
  go_wp2_with fail
  go_ret
  exact ⟨o, m', rfl, HR.out⟩
end Go.Proofs.Ytjggofbaipppbaa
