/-
  Guard, by what it runs: what is left alone, the error that is answered.
-/
import Derived.Test.YtbohpffigmllkaaGreatDoorPackGuard
import Derived.Test.YtbohpffigmllkaaGreatDoorGrew
namespace Go.Proofs.YtbohpffigmllkaaGreatDoor
open Go.RowKit

abbrev errBox : Obj := .cells #[.int .i64 0] 37
theorem done_grew {S : Nat → Prop} {W w1 : World} {o : Option Int} (h : Grew S (W.alloc errBox) w1) : Grew S W (done W.heap.size o w1) := by
  have h0 : Grew S W w1 := ((Grew.refl (S := S) W).alloc errBox).step h fun _ _ x => x
  cases o with
  | none => exact h0.setCell _ _ fun h => by simp at h
  | some k => exact (h0.setCell ⟨W.heap.size, 0, none⟩ _ fun h => by simp at h).alloc _
theorem guard_grew (g : FuncId) (cap : Array Value) (W : World) (S : Nat → Prop) (R : Option Int → World → Prop) (hS : ¬ S W.heap.size) (hg : ∀ w : World, (callFunc g cap).run Tryz.prog w = .ok (.enter g cap) w)
    (hrun : Calls Tryz.prog g cap (W.alloc errBox) fun e w' => ∃ o, e = Ends o ∧ Grew S (W.alloc errBox) w' ∧ R o w') :
    Calls Tryz.prog 38 #[.func (.func g) #[] cap] W fun e w' => ∃ o w1, e = .returned (.int .i64 (o.getD 0)) ∧ R o w1 ∧ w' = done W.heap.size o w1 ∧ Grew S W w' ∧ W.heap.size < w1.heap.size := by
  refine (guard_any g cap W (fun o w1 => R o w1 ∧ Grew S (W.alloc errBox) w1) hg (hrun.mono ?_)).mono ?_
  · rintro e w' ⟨o, rfl, hG, hR⟩
    have hs : W.heap.size < (W.alloc errBox).heap.size := by simp
    exact ⟨o, rfl, by rw [hG.cell hs hS]; simp, by rw [hG.frozen hs hS]; simp, Nat.lt_of_lt_of_le hs hG.size, hR, hG⟩
  · rintro e w' ⟨o, w1, ⟨hR, hG⟩, rfl, rfl⟩
    exact ⟨o, w1, rfl, hR, rfl, done_grew hG, Nat.lt_of_lt_of_le (by simp) hG.size⟩
theorem cell_lt {w : World} {b o : Nat} {v : Value} (h : w.cell? ⟨b, o, none⟩ = some v) : b < w.heap.size := by
  rcases Nat.lt_or_ge b w.heap.size with h1 | h1
  · exact h1
  · have e : w.heap[b]? = none := Array.getElem?_eq_none h1
    simp [World.cell?, e] at h
end Go.Proofs.YtbohpffigmllkaaGreatDoor
