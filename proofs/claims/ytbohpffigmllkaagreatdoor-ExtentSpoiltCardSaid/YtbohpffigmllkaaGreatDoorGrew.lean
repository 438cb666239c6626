/-
  What a call leaves alone: all blocks that were there, but those of which S speaks.
-/
import Derived.Test.YtbohpffigmllkaaGreatDoorRows
import Derived.WalkKit
import Derived.Below
import Derived.Deep.AppendLies
namespace Go.Proofs.YtbohpffigmllkaaGreatDoor
open Go.RowKit

structure Grew (S : Nat → Prop) (w w' : World) : Prop where
  os : w'.os = w.os
  tape : w'.tape = w.tape
  output : w'.output = w.output
  size : w.heap.size ≤ w'.heap.size
  block : ∀ k, k < w.heap.size → ¬ S k → w'.heap[k]? = w.heap[k]?

theorem Grew.refl {S : Nat → Prop} (w : World) : Grew S w w := ⟨rfl, rfl, rfl, Nat.le_refl _, fun _ _ _ => rfl⟩
theorem Grew.step {S T : Nat → Prop} {a b c : World} (h : Grew S a b) (k : Grew T b c) (hT : ∀ x, x < a.heap.size → T x → S x) : Grew S a c :=
  ⟨k.os.trans h.os, k.tape.trans h.tape, k.output.trans h.output, Nat.le_trans h.size k.size,
    fun i hi hs => (k.block i (Nat.lt_of_lt_of_le hi h.size) fun ht => hs (hT i hi ht)).trans (h.block i hi hs)⟩
theorem Grew.trans {S : Nat → Prop} {a b c : World} (h : Grew S a b) (k : Grew S b c) : Grew S a c := h.step k fun _ _ x => x
theorem Grew.mono {S T : Nat → Prop} {a b : World} (h : Grew S a b) (hS : ∀ x, x < a.heap.size → S x → T x) : Grew T a b :=
  ⟨h.os, h.tape, h.output, h.size, fun i hi ht => h.block i hi fun hs => ht (hS i hi hs)⟩
theorem Grew.drew {S : Nat → Prop} {a w : World} (h : Grew S a w) : Grew S a w.drew := ⟨h.os, h.tape, h.output, h.size, h.block⟩
theorem Grew.alloc {S : Nat → Prop} {a w : World} (h : Grew S a w) (o : Obj) : Grew S a (w.alloc o) :=
  h.step (T := fun _ => False) ⟨rfl, rfl, rfl, by simp, fun k hk _ => Below.heap_alloc _ _ _ hk⟩ fun _ _ x => x.elim
theorem Grew.setCell {S : Nat → Prop} {a w : World} (h : Grew S a w) (p : Addr) (v : Value) (hp : p.block < a.heap.size → S p.block) : Grew S a (w.setCell p v) :=
  h.step (T := fun k => k = p.block) ⟨rfl, rfl, rfl, by simp [World.setCell], fun k _ hs => Below.heap_setCell _ _ _ _ hs⟩ fun x hx e => by subst e; exact hp hx
theorem Grew.grown {S : Nat → Prop} {a w w' : World} {row : Option Nat} (h : Grew S a w) (hg : w.grownBy w' row) (hr : ∀ k, k < a.heap.size → row = some k → S k) : Grew S a w' :=
  h.step (T := fun k => row = some k) ⟨hg.os, hg.tape, hg.output, hg.size, fun k hk hs => hg.block k hk fun e => hs e.symm⟩ hr
theorem Grew.cell {S : Nat → Prop} {w w' : World} (h : Grew S w w') {p : Addr} (hp : p.block < w.heap.size) (hs : ¬ S p.block) : w'.cell? p = w.cell? p := World.cell?_of_block (w := w) (h.block p.block hp hs)
theorem Grew.frozen {S : Nat → Prop} {w w' : World} (h : Grew S w w') {p : Addr} (hp : p.block < w.heap.size) (hs : ¬ S p.block) : w'.frozen? p = w.frozen? p := World.frozen?_of_block (w := w) (h.block p.block hp hs)
theorem Grew.of_below {S : Nat → Prop} {w w' : World} (h : Below w.heap.size w w') : Grew S w w' := ⟨h.os, h.tape, h.output, h.size, fun k hk _ => h.block k hk⟩
theorem Grew.below {S : Nat → Prop} {W w w' : World} {B : Nat} (h : Grew S w w') (hb : Below B W w) (hB : B ≤ w.heap.size) (hS : ∀ k, S k → B ≤ k) : Below B W w' :=
  hb.trans ⟨h.os, h.tape, h.output, h.size, fun k hk => h.block k (by omega) fun hs => by have := hS k hs; omega⟩
end Go.Proofs.YtbohpffigmllkaaGreatDoor
