/-
  An Out on its way through calls; a new one: no function of stamp.
-/
import Derived.Test.YtbohpffigmllkaaGreatDoorPackOuts
import Derived.Test.YtbohpffigmllkaaGreatDoorPackMath
import Derived.Test.YtbohpffigmllkaaGreatDoorGuardGrew
import Derived.Test.YtbohpffigmllkaaGreatDoorBoxes
import Derived.Deep.RegionHeld3
import Derived.Deep.DeepCutAuto
namespace Go.Proofs.YtbohpffigmllkaaGreatDoor
open Go.RowKit

theorem OutAt.own_lt {B o : Nat} {v : Value} {l : List UInt8} {w : World} (h : OutAt B o v l w) : ∀ k, v.ownBlock = some k → k < w.heap.size := by
  intro k hk
  rcases h.row.2 with ⟨rfl, _⟩ | ⟨g', cap', cur, rfl, hb, hg, _⟩
  · cases hk
  · simp [Value.ownBlock] at hk
    subst hk
    rcases Nat.lt_or_ge g' w.heap.size with h1 | h1
    · exact h1
    · rw [Array.getElem?_eq_none h1] at hg; cases hg
theorem OutAt.kept {B o : Nat} {v : Value} {l : List UInt8} {S : Nat → Prop} {W W' : World} (h : OutAt B o v l W) (g : Grew S W W') (ho : ¬ S o) (hr : ∀ k, v.ownBlock = some k → ¬ S k) : OutAt B o v l W' := by
  have h1 := h.lt
  have h2 := h.base
  have h3 := g.size
  refine ⟨h1, by omega, by rw [g.cell (by show o < _; omega) ho]; exact h.cell, by rw [g.frozen (by show o < _; omega) ho]; exact h.frozen, h.row.1, ?_⟩
  rcases h.row.2 with h0 | ⟨g', cap', cur, rfl, hb, hg, rest⟩
  · exact Or.inl h0
  · refine Or.inr ⟨g', cap', cur, rfl, hb, ?_, rest⟩
    rw [g.block g' (h.own_lt g' rfl) (hr g' rfl)]
    exact hg
theorem OutAt.drew {B o : Nat} {v : Value} {l : List UInt8} {W : World} (h : OutAt B o v l W) : OutAt B o v l W.drew := ⟨h.lt, h.base, h.cell, h.frozen, h.row⟩
/-- an Out on its way: from the world w, where its row was v -/
structure OutVia (B o : Nat) (v : Value) (w : World) (v1 : Value) (l : List UInt8) (w1 : World) : Prop where
  at1 : OutAt B o v1 l w1
  own : ∀ k, k < w.heap.size → v1.ownBlock = some k → v.ownBlock = some k
  grew : Grew (outs o v) w w1
theorem OutVia.start {B o : Nat} {v : Value} {l : List UInt8} {w : World} (h : OutAt B o v l w) : OutVia B o v w v l w := ⟨h, fun _ _ e => e, Grew.refl _⟩
theorem OutVia.to {B o : Nat} {v v1 : Value} {l : List UInt8} {w w1 : World} (h : OutVia B o v w v1 l w1) : OutTo B o v l w w1 := ⟨v1, h.at1, h.own, h.grew⟩
theorem OutVia.drew {B o : Nat} {v v1 : Value} {l : List UInt8} {w w1 : World} (h : OutVia B o v w v1 l w1) : OutVia B o v w v1 l w1.drew := ⟨h.at1.drew, h.own, h.grew.drew⟩
theorem OutVia.alloc {B o : Nat} {v v1 : Value} {l : List UInt8} {w w1 : World} (h : OutVia B o v w v1 l w1) (x : Obj) : OutVia B o v w v1 l (w1.alloc x) :=
  ⟨h.at1.kept (S := fun _ => False) ((Grew.refl w1).alloc x) (fun x => x) (fun _ _ x => x), h.own, h.grew.alloc x⟩
theorem OutVia.next {B o : Nat} {v v1 : Value} {l l2 : List UInt8} {w w1 w2 : World} (h : OutVia B o v w v1 l w1) (k : OutTo B o v1 l2 w1 w2) : ∃ v2, Hid (OutVia B o v w v2 l2 w2) := by
  obtain ⟨v2, a, b, c⟩ := k
  have hs := h.grew.size
  refine ⟨v2, Lib.hid ⟨a, fun k hk e => h.own k hk (b k (by omega) e), h.grew.step c ?_⟩⟩
  rintro x hx (e | e)
  · exact Or.inl e
  · exact Or.inr (h.own x hx e)
/-- a cell outside of what an Out has stays -/
theorem OutVia.cell {B o : Nat} {v v1 : Value} {l : List UInt8} {w w1 : World} (h : OutVia B o v w v1 l w1) {p : Addr} (hp : p.block < w.heap.size) (ho : p.block ≠ o) (hv : v.ownBlock ≠ some p.block) : w1.cell? p = w.cell? p :=
  h.grew.cell hp (fun e => e.elim ho hv)
theorem wid4 : wid 4 = 4 := rfl
theorem wid1 : wid 1 = 1 := rfl
/-- two cells of a new block -/
theorem pair_cells (w : World) (a b : Value) (t : TypeId) : (w.alloc (.cells #[a, b] t)).cell? ⟨w.heap.size, 0, none⟩ = some a ∧ (w.alloc (.cells #[a, b] t)).cell? ⟨w.heap.size, 1, none⟩ = some b := by
  constructor <;> (rw [World.cell?_alloc_new]; simp)
/-- what stands in an Out's blocks isn't what was there otherwise -/
theorem OutAt.far {B o : Nat} {v : Value} {l : List UInt8} {w : World} (h : OutAt B o v l w) {b : Nat} (hb : w.heap.size ≤ b) : ¬ outs o v b := by
  have := h.lt
  have := h.base
  rintro (e | e)
  · omega
  · have := h.own_lt _ e; omega
theorem u32_as_u64 (a : Nat) (ha : a < 4294967296) : IntKind.u64.wrap (a : Int) = a := by
  simp only [IntKind.wrap, IntKind.bits, IntKind.signed]
  simp
  omega

theorem OutVia.back {B o : Nat} {v v1 : Value} {l : List UInt8} {w W w1 : World} (h : OutVia B o v W v1 l w1) (g : Grew (fun _ => False) w W) : OutVia B o v w v1 l w1 := by
  have := g.size
  exact ⟨h.at1, fun k hk e => h.own k (by omega) e, (g.mono (T := outs o v) fun _ _ x => x.elim).trans h.grew⟩

theorem ownNone : (Value.slice none 0 0).ownBlock = none := rfl
theorem outNew2 (w : World) (x : Obj) : OutAt (w.heap.size + 2) (w.heap.size + 1) (.slice none 0 0) [] ((w.alloc x).alloc (.cells #[.slice none 0 0] 97)) := by
  have hs : (w.alloc x).heap.size = w.heap.size + 1 := by simp
  have h := boxNew (w := w.alloc x) (t := 97) (v := .slice none 0 0) hs
  have h2 := boxFree (w := w.alloc x) (t := 97) (v := .slice none 0 0) hs
  exact ⟨by omega, by simp, h, h2, by simp [cellsOf, World.ownsRow]⟩
theorem outNew1 (w : World) : OutAt (w.heap.size + 1) w.heap.size (.slice none 0 0) [] (w.alloc (.cells #[.slice none 0 0] 97)) := by
  have h := boxNew (w := w) (t := 97) (v := .slice none 0 0) rfl
  have h2 := boxFree (w := w) (t := 97) (v := .slice none 0 0) rfl
  exact ⟨by omega, by simp, h, h2, by simp [cellsOf, World.ownsRow]⟩
end Go.Proofs.YtbohpffigmllkaaGreatDoor
