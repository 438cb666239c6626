/-
  The law's Write of a super, in a Guard: a contract.
-/
import Derived.Test.YtnkmidfdpjcdaaaSuperRead
namespace Go.Proofs.Ytnkmidfdpjcdaaa
open Go.RowKit

/-- how Write ends, and what it leaves of the disk -/
def supO (s : Sup) (m : DiskM) : Option Int := if s.check m.n = 0 then none else some ((s.check m.n : Nat) : Int)
def supW (s : Sup) (m : DiskM) : DiskM := if s.check m.n = 0 then m.wrote (s.ep % 2) (txtf s.frame) else m
theorem supW_same (s : Sup) (m : DiskM) : (supW s m).d = m.d ∧ (supW s m).n = m.n ∧ (supW s m).own = m.own ∧ (supW s m).S = m.S ∧ (m.Live → (supW s m).Live) := by
  unfold supW
  split
  · exact ⟨rfl, rfl, rfl, rfl, fun h => live_wrote h _ _⟩
  · exact ⟨rfl, rfl, rfl, rfl, fun h => h⟩
theorem check_room (s : Sup) (n : Nat) (h : s.check n = 0) : 38 ≤ n ∧ s.inb = true := by
  unfold Sup.check at h
  cases hi : s.inb with
  | false => rw [hi, if_pos rfl] at h; cases h
  | true =>
    rw [hi, if_neg (by decide)] at h
    by_cases h1 : 4096 < n
    · rw [if_pos h1] at h; cases h
    · rw [if_neg h1] at h
      by_cases h2 : n < 2 + s.j + 32
      · rw [if_pos h2] at h; cases h
      · have hj : 4 ≤ s.j := by
          unfold Sup.inb at hi
          have := of_decide_eq_true hi
          exact this.1
        exact ⟨by omega, rfl⟩
theorem supWrite_all (s : Sup) (hs : s.fits) (p : Nat) (m : DiskM) (hp : m.d = p) (hL : m.Live) (w : World) (hD : DiskAt m w) :
    Calls Try.prog 50 #[.agg s.cells, .pointer (some ⟨p, 0, none⟩)] w fun e w' => e = Ends (supO s m) ∧ DiskAt (supW s m) w' ∧ Grew m.own w w' := by
  by_cases hc : s.check m.n = 0
  · have e1 : supO s m = none := by unfold supO; rw [if_pos hc]
    have e2 : supW s m = m.wrote (s.ep % 2) (txtf s.frame) := by unfold supW; rw [if_pos hc]
    rw [e1, e2]
    exact supWrite_ok s hs p m hp hL w hD hc (by have := (check_room s m.n hc).1; omega)
  · have e1 : supO s m = some ((s.check m.n : Nat) : Int) := by unfold supO; rw [if_neg hc]
    have e2 : supW s m = m := by unfold supW; rw [if_neg hc]
    rw [e1, e2]
    refine (supWrite_not s hs p m hp w hD hc).mono ?_
    rintro e w' ⟨rfl, hb⟩
    exact ⟨rfl, hD.keep (Grew.of_below (S := fun _ => False) hb) fun _ _ e => e, Grew.of_below hb⟩
theorem supWrite1_any (s : Sup) (hs : s.fits) (p : Nat) (m : DiskM) (hp : m.d = p) (hL : m.Live) (a b : Nat) (w : World) (hD : DiskAt m w) (ca : w.heap[a]? = some (.cells s.cells 51)) (cb : w.cell? ⟨b, 0, none⟩ = some (.pointer (some ⟨p, 0, none⟩))) :
    Calls Try.prog 49 #[.pointer (some ⟨a, 0, none⟩), .pointer (some ⟨b, 0, none⟩)] w fun e w' => e = Ends (supO s m) ∧ DiskAt (supW s m) w' ∧ Grew m.own w w' := by
  have H := Lib.hid (supWrite_all s hs p m hp hL w hD)
  generalize supW s m = M at *
  generalize supO s m = O at *
  obtain ⟨ep, j, b', h, nx⟩ := s
  dsimp only [Sup.cells] at *
  obtain ⟨l0, l1, l2, l3, l4⟩ := fiveAt ca
  clear hD ca hs
  go_enter Try.func49, Try.ntmps49
  go_wp2_with fail
  refine H.out.mono ?_
  rintro e w' ⟨rfl, hr⟩
  have HR := Lib.hid hr
  clear hr H
  cases O with
  | none =>
    unfold Ends
    go_wp2_with fail
    go_end0
    exact ⟨rfl, HR.out⟩
  | some k =>
    unfold Ends failed
    go_wp2_with fail
    exact ⟨rfl, rfl, HR.out⟩
set_option maxHeartbeats 1000000 in
theorem lawSupWrite_any (s : Sup) (hs : s.fits) (p : Nat) (m : DiskM) (hp : m.d = p) (hL : m.Live) (w : World) (hD : DiskAt m w) :
    Calls Try.prog 25 #[.pointer (some ⟨p, 0, none⟩), .agg s.cells] w fun e w' => e = .returned (.int .i64 (s.check m.n : Nat)) ∧ DiskAt (supW s m) w' ∧ Grew m.own w w' := by
  have hmf : ∀ (fn : Fn) (first cap : Array Value) (w : World), (Instr.makeFunc fn first cap).run Try.prog w = .ok (.func fn first cap) w := fun _ _ _ _ => rfl
  have HE : Hid ((supO s m).getD 0 = (s.check m.n : Nat)) := Lib.hid (by
    unfold supO
    by_cases hc : s.check m.n = 0
    · rw [if_pos hc, hc]; rfl
    · rw [if_neg hc]; rfl)
  obtain ⟨W, hW⟩ : ∃ W, (w.alloc (.cells #[.pointer (some ⟨p, 0, none⟩)] 24)).alloc (.cells s.cells 51) = W := ⟨_, rfl⟩
  have g0 : ∀ S, Grew S w W := fun S => by rw [← hW]; exact ((Grew.refl w).alloc _).alloc _
  have hs1 : (w.alloc (.cells #[.pointer (some ⟨p, 0, none⟩)] 24)).heap.size = w.heap.size + 1 := by simp
  have hsz : W.heap.size = w.heap.size + 2 := by rw [← hW]; simp
  have cb : W.cell? ⟨w.heap.size, 0, none⟩ = some (.pointer (some ⟨p, 0, none⟩)) := by rw [← hW]; exact boxOld (boxNew rfl) (by simp)
  have ca : W.heap[w.heap.size + 1]? = some (.cells s.cells 51) := by
    rw [← hW, ← hs1]
    exact heap_alloc_new _ _
  have hDW : DiskAt m W := hD.keep (g0 fun _ => False) fun _ _ e => e
  have hown : ∀ k, m.own k → k < w.heap.size := hD.below
  have hO := (supW_same s m).2.2.1
  have HG : Hid (Calls Try.prog 33 #[.func (.func 49) #[] #[.pointer (some ⟨w.heap.size + 1, 0, none⟩), .pointer (some ⟨w.heap.size, 0, none⟩)]] W fun e w' => e = .returned (.int .i64 (s.check m.n : Nat)) ∧ DiskAt (supW s m) w' ∧ Grew m.own w w') := by
    refine Lib.hid ((guard_grew 49 #[.pointer (some ⟨w.heap.size + 1, 0, none⟩), .pointer (some ⟨w.heap.size, 0, none⟩)] W m.own (fun o w1 => o = supO s m ∧ DiskAt (supW s m) w1) (fun e => by have := hown _ e; omega) (fun _ => by kernel_rfl) ?_).mono ?_)
    · have g1 : Grew (fun _ => False) W (W.alloc errBox) := (Grew.refl W).alloc _
      refine (supWrite1_any s hs p m hp hL (w.heap.size + 1) w.heap.size _ (hDW.keep g1 fun _ _ e => e) (by rw [g1.block (w.heap.size + 1) (by omega) fun e => e]; exact ca) (by rw [g1.cell (p := ⟨w.heap.size, 0, none⟩) (by show w.heap.size < _; omega) fun e => e]; exact cb)).mono ?_
      rintro e w' ⟨rfl, hd, hg⟩
      exact ⟨_, rfl, hg, rfl, hd⟩
    · rintro e w' ⟨o, w1, rfl, ⟨rfl, hd⟩, rfl, hg, hlt⟩
      exact ⟨by rw [HE.out], hd.keep (done_only _ _ _) (fun k hk e => by rw [hO] at hk; have := hown k hk; omega), (g0 m.own).trans hg⟩
  rw [← hW] at HG
  clear hW g0 ca cb hsz hD hDW hown hO HE hs1
  generalize s.check m.n = C at *
  generalize supW s m = M at *
  obtain ⟨ep, j, b', h, nx⟩ := s
  dsimp only [Sup.cells] at *
  clear hs
  go_enter Try.func25, Try.ntmps25
  go_wp2_with fail
  refine HG.out.mono ?_
  rintro e w' ⟨rfl, hr⟩
  have HR := Lib.hid hr
  clear hr HG
  go_wp2_with fail
  go_ret
  exact ⟨rfl, HR.out⟩
end Go.Proofs.Ytnkmidfdpjcdaaa
