/-
  Guard of a method value: the function has its receiver.
-/
import Derived.Test.YtjggofbaipppbaaGuardGrew
namespace Go.Proofs.Ytjggofbaipppbaa
open Go.RowKit

set_option maxHeartbeats 400000 in
theorem guard_first (g : FuncId) (p : Value) (w : World) (R : Option Int → World → Prop) (hg : ∀ w : World, (callFunc g #[p]).run Try.prog w = .ok (.enter g #[p]) w)
    (hrun : Calls Try.prog g #[p] (w.alloc (.cells #[.int .i64 0] 40)) fun e w' => ∃ o, e = Ends o ∧ w'.cell? ⟨w.heap.size, 0, none⟩ = some (.int .i64 0) ∧ w'.frozen? ⟨w.heap.size, 0, none⟩ = false ∧ w.heap.size < w'.heap.size ∧ R o w') :
    Calls Try.prog 33 #[.func (.func g) #[p] #[]] w fun e w' => ∃ o w1, R o w1 ∧ e = .returned (.int .i64 (o.getD 0)) ∧ w' = done w.heap.size o w1 := by
  have hmf : ∀ (fn : Fn) (first cap : Array Value) (w : World), (Instr.makeFunc fn first cap).run Try.prog w = .ok (.func fn first cap) w := fun _ _ _ _ => rfl
  have HR := Lib.hid hrun
  clear hrun
  go_enter_defers Try.func33, Try.ntmps33
  go_wp2_with fail
  refine HR.out.mono ?_
  rintro e w1 ⟨o, rfl, hc, hz, hb, hR⟩
  cases o with
  | none =>
    unfold Ends
    go_wp2_with fail
    refine leaves_cons (f := 59) (args := #[.pointer (some ⟨w.heap.size, 0, none⟩)]) (by simp) (by simp [go_sem]) ?_
    refine (catch_idle ⟨w.heap.size, 0, none⟩ _).mono ?_
    rintro e u' w'' ⟨rfl, rfl, rfl⟩
    have hs : (w1.setCell ⟨w.heap.size, 0, none⟩ (.int .i64 0)).cell? ⟨w.heap.size, 0, none⟩ = some (.int .i64 0) := World.cell?_setCell_same _ _ _ hc
    simp only [Leaves, settle]
    exact ⟨.int .i64 0, by simp [results, Try.results33, go_sem, hs], none, w1, hR, rfl, rfl⟩
  | some k =>
    unfold Ends failed
    go_wp2_with fail
    refine leaves_cons (f := 59) (args := #[.pointer (some ⟨w.heap.size, 0, none⟩)]) (by simp) (by simp [go_sem]) ?_
    refine (catch_failed w.heap.size 0 k [] _ hb hc hz).mono ?_
    rintro e u' w'' ⟨rfl, rfl, rfl⟩
    have hs : (w1.setCell ⟨w.heap.size, 0, none⟩ (.int .i64 k)).cell? ⟨w.heap.size, 0, none⟩ = some (.int .i64 k) := World.cell?_setCell_same _ _ _ hc
    have hs' : ((w1.setCell ⟨w.heap.size, 0, none⟩ (.int .i64 k)).alloc (.cells #[.int .i64 k] 95)).cell? ⟨w.heap.size, 0, none⟩ = some (.int .i64 k) := by
      rw [World.cell?_alloc_past (hn := by simpa using hb), hs]
    simp only [settle]
    exact ⟨.int .i64 k, by simp [results, Try.results33, go_sem, hs'], some k, w1, hR, rfl, rfl⟩
theorem guard_first_grew (g : FuncId) (p : Value) (W : World) (S : Nat → Prop) (R : Option Int → World → Prop) (hS : ¬ S W.heap.size) (hg : ∀ w : World, (callFunc g #[p]).run Try.prog w = .ok (.enter g #[p]) w)
    (hrun : Calls Try.prog g #[p] (W.alloc errBox) fun e w' => ∃ o, e = Ends o ∧ Grew S (W.alloc errBox) w' ∧ R o w') :
    Calls Try.prog 33 #[.func (.func g) #[p] #[]] W fun e w' => ∃ o w1, e = .returned (.int .i64 (o.getD 0)) ∧ R o w1 ∧ w' = done W.heap.size o w1 ∧ Grew S W w' ∧ W.heap.size < w1.heap.size := by
  refine (guard_first g p W (fun o w1 => R o w1 ∧ Grew S (W.alloc errBox) w1) hg (hrun.mono ?_)).mono ?_
  · rintro e w' ⟨o, rfl, hG, hR⟩
    have hs : W.heap.size < (W.alloc errBox).heap.size := by simp
    exact ⟨o, rfl, by rw [hG.cell hs hS]; simp, by rw [hG.frozen hs hS]; simp, Nat.lt_of_lt_of_le hs hG.size, hR, hG⟩
  · rintro e w' ⟨o, w1, ⟨hR, hG⟩, rfl, rfl⟩
    exact ⟨o, w1, rfl, hR, rfl, done_grew hG, Nat.lt_of_lt_of_le (by simp) hG.size⟩
end Go.Proofs.Ytjggofbaipppbaa
