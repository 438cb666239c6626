/-
  The law's Read of a super, in a Guard: a contract.
-/
import Derived.Test.YtnkmidfdpjcdaaaSuperLaw
namespace Go.Proofs.Ytnkmidfdpjcdaaa
open Go.RowKit

theorem best_zero (m : DiskM) : ∀ k, (best m k).ep = 0 → best m k = Sup.none
  | 0, _ => rfl
  | k + 1, h => by
    unfold best at h ⊢
    by_cases hb : better m k (best m k)
    · rw [if_pos hb] at h
      have := hb.2.2
      omega
    · rw [if_neg hb] at h ⊢
      exact best_zero m k h
/-- the super that is read, and the error -/
def lastOf (m : DiskM) : Sup := best m (min 2 m.n)
def lastE (m : DiskM) : Option Int := if (lastOf m).ep = 0 then some 1 else none
theorem supRead1_any (p : Nat) (m : DiskM) (hp : m.d = p) (hL : m.dead = false) (a b : Nat) (w : World) (hD : DiskAt m w) (ca : w.cell? ⟨a, 0, none⟩ = some (.pointer (some ⟨p, 0, none⟩))) (cb : w.heap[b]? = some zeroSup) :
    Calls Try.prog 52 #[.pointer (some ⟨a, 0, none⟩), .pointer (some ⟨b, 0, none⟩)] w fun e w' => e = Ends (lastE m) ∧ w'.heap[b]? = some (.cells (lastOf m).cells 51) ∧ Grew (fun k => k = b) w w' := by
  have H := Lib.hid (supRead_any p m hp hL w hD)
  have hbl : b < w.heap.size := by
    rcases Nat.lt_or_ge b w.heap.size with h1 | h1
    · exact h1
    · rw [Array.getElem?_eq_none h1] at cb; cases cb
  have HZ := Lib.hid (best_zero m (min 2 m.n))
  obtain ⟨E, hE⟩ : ∃ E, lastE m = E := ⟨_, rfl⟩
  obtain ⟨L, hLa⟩ : ∃ L, lastOf m = L := ⟨_, rfl⟩
  rw [hE, hLa]
  unfold lastE at hE
  rw [hLa] at hE
  unfold lastOf at hLa
  rw [hLa] at H HZ
  clear hLa hD
  obtain ⟨ep, j, b', h, nx⟩ := L
  dsimp only [Sup.cells] at *
  have HCb := Lib.hid cb
  clear cb
  by_cases h0 : ep = 0
  · rw [if_pos h0] at hE
    subst hE
    have HN : Hid ((⟨ep, j, b', h, nx⟩ : Sup) = Sup.none) := Lib.hid (HZ.out h0)
    have HFin : Hid ((.cells #[.int .u32 ep, .int .i64 j, .int .i64 b', .int .i64 h, .int .u32 nx] 51 : Obj) = zeroSup) := Lib.hid (by have := HN.out; unfold Sup.none at this; cases this; rfl)
    go_enter Try.func52, Try.ntmps52
    go_wp2_with fail
    refine H.out.mono ?_
    rintro e w1 ⟨_, he, hb1⟩
    obtain rfl := he h0
    have HB := Lib.hid hb1
    clear he hb1
    unfold failed
    go_wp2_with fail
    exact ⟨rfl, rfl, by rw [HFin.out, HB.out.block b hbl]; exact HCb.out, Grew.of_below HB.out⟩
  · rw [if_neg h0] at hE
    subst hE
    go_enter Try.func52, Try.ntmps52
    go_wp2_with fail
    refine H.out.mono ?_
    rintro e w1 ⟨he, _, hb1⟩
    obtain rfl := he h0
    have hz1 : w1.heap[b]? = some zeroSup := by rw [hb1.block b hbl]; exact HCb.out
    obtain ⟨⟨y0, y1, y2, y3, y4⟩, g0, g1, g2, g3, g4⟩ := zero_cells hz1
    have HQ := Lib.hid (five_set hz1 (.int .u32 ep) (.int .i64 j) (.int .i64 b') (.int .i64 h) (.int .u32 nx))
    have HG : Hid (Grew (fun k => k = b) w w1) := Lib.hid (Grew.of_below hb1)
    clear he hb1 hz1
    go_wp2_with fail
    go_end0
    exact ⟨rfl, HQ.out, ((((HG.out.setCell _ _ fun _ => rfl).setCell _ _ fun _ => rfl).setCell _ _ fun _ => rfl).setCell _ _ fun _ => rfl).setCell _ _ fun _ => rfl⟩
set_option maxHeartbeats 1000000 in
theorem lawSupRead_any (p : Nat) (m : DiskM) (hp : m.d = p) (hL : m.dead = false) (w : World) (hD : DiskAt m w) :
    Calls Try.prog 27 #[.pointer (some ⟨p, 0, none⟩)] w fun e w' => e = .returned (.tuple #[.agg (lastOf m).cells, .int .i64 ((lastE m).getD 0)]) ∧ Below w.heap.size w w' := by
  have hmf : ∀ (fn : Fn) (first cap : Array Value) (w : World), (Instr.makeFunc fn first cap).run Try.prog w = .ok (.func fn first cap) w := fun _ _ _ _ => rfl
  obtain ⟨W, hW⟩ : ∃ W, ((w.alloc (.cells #[.pointer (some ⟨p, 0, none⟩)] 24)).alloc zeroSup).alloc zeroSup = W := ⟨_, rfl⟩
  have g0 : ∀ S, Grew S w W := fun S => by rw [← hW]; exact (((Grew.refl w).alloc _).alloc _).alloc _
  have s1 : (w.alloc (.cells #[.pointer (some ⟨p, 0, none⟩)] 24)).heap.size = w.heap.size + 1 := by simp
  have s2 : ((w.alloc (.cells #[.pointer (some ⟨p, 0, none⟩)] 24)).alloc zeroSup).heap.size = w.heap.size + 1 + 1 := by simp
  have hsz : W.heap.size = w.heap.size + 3 := by rw [← hW]; simp
  have ca : W.cell? ⟨w.heap.size, 0, none⟩ = some (.pointer (some ⟨p, 0, none⟩)) := by rw [← hW]; exact boxOld (boxOld (boxNew rfl) (by simp)) (by simp; omega)
  have cr : W.heap[w.heap.size + 1]? = some zeroSup := by
    rw [← hW, Below.heap_alloc _ _ _ (by rw [s2]; omega), ← s1]
    exact heap_alloc_new _ _
  have cb : W.heap[w.heap.size + 1 + 1]? = some zeroSup := by
    rw [← hW, ← s2]
    exact heap_alloc_new _ _
  have hDW : DiskAt m W := hD.keep (g0 fun _ => False) fun _ _ e => e
  have HG : Hid (Calls Try.prog 33 #[.func (.func 52) #[] #[.pointer (some ⟨w.heap.size, 0, none⟩), .pointer (some ⟨w.heap.size + 1 + 1, 0, none⟩)]] W fun e w' => e = .returned (.int .i64 ((lastE m).getD 0)) ∧ w'.heap[w.heap.size + 1 + 1]? = some (.cells (lastOf m).cells 51) ∧ w'.heap[w.heap.size + 1]? = some zeroSup ∧ Below w.heap.size w w') := by
    refine Lib.hid ((guard_grew 52 #[.pointer (some ⟨w.heap.size, 0, none⟩), .pointer (some ⟨w.heap.size + 1 + 1, 0, none⟩)] W (fun k => k = w.heap.size + 1 + 1) (fun o w1 => o = lastE m ∧ w1.heap[w.heap.size + 1 + 1]? = some (.cells (lastOf m).cells 51)) (by omega) (fun _ => by kernel_rfl) ?_).mono ?_)
    · have g1 : Grew (fun _ => False) W (W.alloc errBox) := (Grew.refl W).alloc _
      refine (supRead1_any p m hp hL w.heap.size (w.heap.size + 1 + 1) _ (hDW.keep g1 fun _ _ e => e) (by rw [g1.cell (p := ⟨w.heap.size, 0, none⟩) (by show w.heap.size < _; omega) fun e => e]; exact ca) (by rw [g1.block _ (by omega) fun e => e]; exact cb)).mono ?_
      rintro e w' ⟨rfl, hq, hg⟩
      exact ⟨_, rfl, hg, rfl, hq⟩
    · rintro e w' ⟨o, w1, rfl, ⟨rfl, hq⟩, rfl, hg, hlt⟩
      have gd := done_only W.heap.size (lastE m) w1
      refine ⟨rfl, by rw [gd.block _ (by omega) (by omega)]; exact hq, by rw [hg.block _ (by omega) (by omega)]; exact cr, ?_⟩
      exact hg.below (by have := g0 fun _ => False; exact this.below (Below.refl _ _) (Nat.le_refl _) fun _ x => x.elim) (by omega) fun k e => by omega
  rw [← hW] at HG
  clear hW g0 ca cb cr hsz hD hDW s1 s2
  generalize (lastE m).getD 0 = E at *
  generalize lastOf m = L at *
  obtain ⟨ep, j, b', h, nx⟩ := L
  dsimp only [Sup.cells] at *
  go_enter Try.func27, Try.ntmps27
  go_wp2_with fail
  refine HG.out.mono ?_
  rintro e w1 ⟨rfl, hq, hr, hb⟩
  obtain ⟨q0, q1, q2, q3, q4⟩ := fiveAt hq
  obtain ⟨⟨y0, y1, y2, y3, y4⟩, g0, g1, g2, g3, g4⟩ := zero_cells hr
  have HQ := Lib.hid (five_set hr (.int .u32 ep) (.int .i64 j) (.int .i64 b') (.int .i64 h) (.int .u32 nx))
  have HB := Lib.hid hb
  clear hq hr hb HG
  go_wp2_with fail
  refine bodyPost_ret (results_two rfl _ _ (w.heap.size + 1) _ _ _ _ rfl HQ.out Try.underlying51 supSize) rfl ?_
  exact ⟨rfl, ((((HB.out.setCell (Nat.le_succ _) _).setCell (Nat.le_succ _) _).setCell (Nat.le_succ _) _).setCell (Nat.le_succ _) _).setCell (Nat.le_succ _) _⟩
end Go.Proofs.Ytnkmidfdpjcdaaa
