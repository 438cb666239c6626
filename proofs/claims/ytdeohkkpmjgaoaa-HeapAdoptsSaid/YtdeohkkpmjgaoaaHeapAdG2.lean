/-
  Law 10's HeapAdopts: an Adopt in a Guard: the Guard's contracts.
-/
import Derived.Test.YtdeohkkpmjgaoaaHeapAdG
namespace Go.Proofs.Ytdeohkkpmjgaoaa
open Go.RowKit Go.Maps Go.ChangeMaps Go.WideShapes

/-- a box that isn't the heap's, not of an int, is written -/
theorem HeapI.other {b : HB} {s : HS} {w w' : World} (h : HeapI b s w) {x : Nat} {t : TypeId} {fz : Nat × Nat} (hx : ∃ c, w.heap[x]? = some (.cells c t fz)) (ht : t ≠ 3) (hS : ¬ b.S0 x) (k : Grew (fun q => q = x) w w') : HeapI b s w' :=
  h.keep k (fun i hi e => hS ⟨i, hi, e.symm⟩) fun r _ hr e => by
    obtain ⟨c, hc⟩ := hx
    obtain ⟨c2, fz2, h2⟩ := hr
    have e : r = x := e
    rw [e, hc] at h2
    simp at h2
    exact ht h2.2.1
set_option maxRecDepth 100000 in
theorem adG_in (b : HB) (ok : b.ok) (s : HS) (i : Nat) (hi : i < b.n) (hS : (s.S i = 0 ∧ s.R ((b.f + i : Nat) : Int) = none) ∨ (s.S i = 1 ∧ ∃ r : Nat, s.R ((b.f + i : Nat) : Int) = some (r : Int) ∧ r < 10000)) (hx ax fx : Nat) (u : Bool) (hn : ¬ b.S0 fx) (w : World) (h : HeapI b s w) (hl : LogAt b.B b.g 0 (.slice none 0 0) [] w) (b1 : Box hx 54 (.pointer (some ⟨b.hb, 0, none⟩)) w) (b2 : Box ax 3 (.int .i64 ((b.f + i : Nat) : Int)) w) (b3 : Box fx 4 (.bool u) w) :
    Calls Try.prog 27 #[.func (.func 28) #[] #[.pointer (some ⟨hx, 0, none⟩), .pointer (some ⟨ax, 0, none⟩), .pointer (some ⟨fx, 0, none⟩)]] w fun e w' => e = .returned (.int .i64 0) ∧ HeapI b (s.adopt i ((b.f + i : Nat) : Int)) w' ∧ LogAt b.B b.g 0 (.slice none 0 0) [] w' ∧ Box fx 4 (.bool (decide (s.S i = 0))) w' ∧ Grew (fun q => b.S0 q ∨ q = fx) w w' := by
  have a := ((Grew.refl (S := fun _ => False) w).alloc errBox)
  have hf := b3.lt
  have n1 : ¬ (fx = b.rb ∨ fx = b.q) := fun e => by
    rcases e with e | e
    · exact hn ⟨4, by decide, e⟩
    · exact hn ⟨3, by decide, e⟩
  have hsz : ¬ b.S0 w.heap.size := HB.not0 ok h.sz (Nat.le_refl _)
  refine (guard_any 28 _ w (fun o w' => o = none ∧ HeapI b (s.adopt i ((b.f + i : Nat) : Int)) w' ∧ LogAt b.B b.g 0 (.slice none 0 0) [] w' ∧ Box fx 4 (.bool (decide (s.S i = 0))) w' ∧ Grew (fun q => b.S0 q ∨ q = fx) w w' ∧ w'.heap[w.heap.size]? = some errBox) (fun _ => by rfl) ((ad1_in b ok s i hi hS hx ax fx u n1 _ (h.alloc errBox) (hl.keepAlloc errBox) (b1.keepAlloc errBox) (b2.keepAlloc errBox) (b3.keepAlloc errBox)).mono ?_)).mono ?_
  · rintro e w' ⟨rfl, w1, i1, l1, g1, rfl⟩
    have x1 : w1.heap[w.heap.size]? = some errBox := (g1.block _ (by simp) (fun e => by
      rcases e with e | e
      · exact hsz ⟨4, by decide, e⟩
      · exact hsz ⟨3, by decide, e⟩)).trans (heap_alloc_new w errBox)
    have y1 : Box fx 4 (.bool u) w1 := (b3.keepAlloc errBox).keep g1 n1
    have k1 : Grew (fun q => q = fx) w1 (w1.setCell ⟨fx, 0, none⟩ (.bool (decide (s.S i = 0)))) := (Grew.refl w1).setCell _ _ fun _ => rfl
    have x2 : (w1.setCell ⟨fx, 0, none⟩ (.bool (decide (s.S i = 0)))).heap[w.heap.size]? = some errBox := (k1.block _ (by have := g1.size; simp at this; omega) (by omega)).trans x1
    refine ⟨none, rfl, by simp [World.cell?, x2, errBox], by simp [World.frozen?, x2, errBox], ?_, rfl, i1.other (t := 4) ⟨_, y1⟩ (by decide) hn k1, l1.keep k1 (fun e => hn ⟨1, by decide, e.symm⟩) (fun q hq _ => by cases hq), y1.set _, ?_, x2⟩
    · have := g1.size
      have k2 := k1.size
      simp at this
      omega
    · refine ((a.mono fun _ _ e => e.elim).trans (g1.mono fun q _ e => ?_)).trans (k1.mono fun q _ e => Or.inr e)
      rcases e with e | e
      · exact Or.inl ⟨4, by decide, e⟩
      · exact Or.inl ⟨3, by decide, e⟩
  · rintro e w' ⟨o, w1, ⟨rfl, i1, l1, y1, g1, x1⟩, rfl, rfl⟩
    have gd : Grew (fun q => q = w.heap.size) w1 (done w.heap.size none w1) := done_alone w.heap.size none w1
    refine ⟨rfl, i1.other (t := 43) ⟨_, x1⟩ (by decide) hsz gd, l1.keep gd (fun e => hsz ⟨1, by decide, e.symm⟩) (fun q hq _ => by cases hq), y1.keep gd (by omega), g1.step gd fun x hx e => absurd hx (by omega)⟩
set_option maxRecDepth 100000 in
theorem adG_out (b : HB) (ok : b.ok) (s : HS) (at' : Int) (ho : at' < b.f ∨ ((b.f + b.n : Nat) : Int) ≤ at') (hx ax fx : Nat) (w : World) (h : HeapI b s w) (hl : LogAt b.B b.g 0 (.slice none 0 0) [] w) (b1 : Box hx 54 (.pointer (some ⟨b.hb, 0, none⟩)) w) (b2 : Box ax 3 (.int .i64 at') w) :
    Calls Try.prog 27 #[.func (.func 28) #[] #[.pointer (some ⟨hx, 0, none⟩), .pointer (some ⟨ax, 0, none⟩), .pointer (some ⟨fx, 0, none⟩)]] w fun e w' => e = .returned (.int .i64 6) ∧ HeapI b s w' ∧ LogAt b.B b.g 0 (.slice none 0 0) [] w' ∧ Grew (fun _ => False) w w' := by
  have hsz : ¬ b.S0 w.heap.size := HB.not0 ok h.sz (Nat.le_refl _)
  refine (guard_any 28 _ w (fun o w' => o = some 6 ∧ (w.alloc errBox).drew.drew = w') (fun _ => by rfl) ((ad1_out b ok s at' ho hx ax fx _ (h.alloc errBox) (b1.keepAlloc errBox) (b2.keepAlloc errBox)).mono ?_)).mono ?_
  · rintro e w' ⟨rfl, rfl⟩
    refine ⟨some 6, rfl, boxNew rfl, boxFree rfl, by show _ < (w.alloc errBox).heap.size; simp, rfl, rfl⟩
  · rintro e w' ⟨o, w1, ⟨rfl, rfl⟩, rfl, rfl⟩
    have gd : Grew (fun q => q = w.heap.size) (w.alloc errBox).drew.drew (done w.heap.size (some 6) (w.alloc errBox).drew.drew) := done_alone w.heap.size (some 6) _
    have x1 : (w.alloc errBox).drew.drew.heap[w.heap.size]? = some errBox := heap_alloc_new w errBox
    refine ⟨rfl, (h.alloc errBox).drew.drew.other (t := 43) ⟨_, x1⟩ (by decide) hsz gd, (hl.keepAlloc errBox).drew'.drew'.keep gd (fun e => hsz ⟨1, by decide, e.symm⟩) (fun q hq _ => by cases hq), ((((Grew.refl (S := fun _ => False) w).alloc errBox).drew).drew).step gd fun x hx e => absurd hx (by omega)⟩
end Go.Proofs.Ytdeohkkpmjgaoaa
