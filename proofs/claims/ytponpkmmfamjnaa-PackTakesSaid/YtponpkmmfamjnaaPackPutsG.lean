/-
  PackPuts' Guards.
-/
import Derived.Test.YtponpkmmfamjnaaPackPutsFn
namespace Go.Proofs.Ytponpkmmfamjnaa
open Go.RowKit

theorem OutAt.own_lt {B o : Nat} {v : Value} {l : List UInt8} {w : World} (h : OutAt B o v l w) : ∀ k, v.ownBlock = some k → k < w.heap.size := by
  intro k hk
  rcases h.row.2 with ⟨rfl, _⟩ | ⟨g', cap', cur, rfl, hb, hg, _⟩
  · cases hk
  · simp [Value.ownBlock] at hk
    subst hk
    rcases Nat.lt_or_ge g' w.heap.size with h1 | h1
    · exact h1
    · rw [Array.getElem?_eq_none h1] at hg; cases hg
theorem OutAt.kept {B o : Nat} {v : Value} {l : List UInt8} {S : Nat → Prop} {W W' : World} (h : OutAt B o v l W) (g : Grew S W W') (ho : ¬ S o) (hr : ∀ k, v.ownBlock = some k → ¬ S k) : OutAt B o v l W' := by
  have h1 := h.lt
  have h2 := h.base
  have h3 := g.size
  refine ⟨h1, by omega, by rw [g.cell (by show o < _; omega) ho]; exact h.cell, by rw [g.frozen (by show o < _; omega) ho]; exact h.frozen, h.row.1, ?_⟩
  rcases h.row.2 with h0 | ⟨g', cap', cur, rfl, hb, hg, rest⟩
  · exact Or.inl h0
  · refine Or.inr ⟨g', cap', cur, rfl, hb, ?_, rest⟩
    rw [g.block g' (h.own_lt g' rfl) (hr g' rfl)]
    exact hg
theorem done_step (b : Nat) (o : Option Int) (w : World) : Grew (fun k => k = b) w (done b o w) := by
  cases o with
  | none => exact (Grew.refl w).setCell _ _ fun _ => rfl
  | some k => exact ((Grew.refl (S := fun k => k = b) w).setCell ⟨b, 0, none⟩ _ fun _ => rfl).alloc _

theorem guard_big (B o pf : Nat) (v : Value) (l : List UInt8) (f : Int) (W : World) (h : OutAt B o v l W) (cf : W.cell? ⟨pf, 0, none⟩ = some (.int .i64 f)) (hf : f < l.length) :
    Calls Try.prog 14 #[.func (.func 27) #[] #[.pointer (some ⟨o, 0, none⟩), .pointer (some ⟨pf, 0, none⟩)]] W fun e w' => e = .returned (.int .i64 3) ∧ Grew (fun _ => False) W w' := by
  have hin := puts1_big B o pf v l f (W.alloc errBox) (h.kept (S := fun _ => False) ((Grew.refl W).alloc _) (fun x => x) (fun _ _ x => x)) (old_cell cf (cell_lt cf)) hf
  refine (guard_grew _ _ W (fun _ => False) (fun o' _ => o' = some 3) (fun x => x) (fun _ => by kernel_rfl) (hin.mono ?_)).mono ?_
  · rintro e w' ⟨rfl, rfl⟩
    exact ⟨some 3, rfl, Grew.refl _, rfl⟩
  · rintro e w' ⟨o', w1, rfl, rfl, rfl, hG, _⟩
    exact ⟨rfl, hG⟩
theorem guard_fill (B o pf : Nat) (v : Value) (l : List UInt8) (f : Int) (W : World) (h : OutAt B o v l W) (cf : W.cell? ⟨pf, 0, none⟩ = some (.int .i64 f)) (hf : l.length ≤ f) (hm : f < 1000000) :
    Calls Try.prog 14 #[.func (.func 27) #[] #[.pointer (some ⟨o, 0, none⟩), .pointer (some ⟨pf, 0, none⟩)]] W fun e w' => e = .returned (.int .i64 0) ∧ OutTo B o v (l ++ List.replicate (f.toNat - l.length) 0) W w' := by
  have h1 := h.lt
  have h2 := h.base
  have hS : ¬ outs o v W.heap.size := by
    rintro (e | e)
    · omega
    · have := h.own_lt _ e; omega
  have hin := puts1_ok B o pf v l f (W.alloc errBox) (h.kept (S := fun _ => False) ((Grew.refl W).alloc _) (fun x => x) (fun _ _ x => x)) (old_cell cf (cell_lt cf)) hf hm
  refine (guard_grew _ _ W (outs o v) (fun o' w1 => o' = none ∧ OutTo B o v (l ++ List.replicate (f.toNat - l.length) 0) (W.alloc errBox) w1) hS (fun _ => by kernel_rfl) (hin.mono ?_)).mono ?_
  · rintro e w' ⟨rfl, hT⟩
    exact ⟨none, rfl, hT.choose_spec.2.2, rfl, hT⟩
  · rintro e w' ⟨o', w1, rfl, ⟨rfl, v', hA, hv, hG1⟩, rfl, hG, hlt⟩
    refine ⟨rfl, v', hA.kept (done_step _ _ _) (by omega) ?_, fun k hk e => hv k (by simp; omega) e, hG⟩
    rintro k e rfl
    have := h.own_lt _ (hv _ (by simp) e)
    omega
theorem guard_puts2 (pg pm ps pn px pt py : Nat) (A S B : List UInt8) (k : Nat) (m n : Int) (w : World)
    (hA : A.length = wid m) (hB : B.length = wid n) (hk : k < 1000)
    (cg : w.cell? ⟨pg, 0, none⟩ = some (.string (mk (A ++ (S ++ (B ++ List.replicate k 0)))))) (cm : w.cell? ⟨pm, 0, none⟩ = some (.int .i64 m)) (cs : w.cell? ⟨ps, 0, none⟩ = some (.string (mk S))) (cn : w.cell? ⟨pn, 0, none⟩ = some (.int .i64 n))
    (cx : w.cell? ⟨px, 0, none⟩ = some (.int .u64 0)) (fx : w.frozen? ⟨px, 0, none⟩ = false) (ct : w.cell? ⟨pt, 0, none⟩ = some (.string ⟨#[]⟩)) (ft : w.frozen? ⟨pt, 0, none⟩ = false) (cy : w.cell? ⟨py, 0, none⟩ = some (.int .u64 0)) (fy : w.frozen? ⟨py, 0, none⟩ = false)
    (h1 : px ≠ pt) (h2 : px ≠ py) (h3 : pt ≠ py) (h4 : ¬ (pm = px ∨ pm = pt ∨ pm = py)) (h5 : ¬ (ps = px ∨ ps = pt ∨ ps = py)) (h6 : ¬ (pn = px ∨ pn = pt ∨ pn = py)) :
    Calls Try.prog 14 #[.func (.func 29) #[] #[.pointer (some ⟨pg, 0, none⟩), .pointer (some ⟨pm, 0, none⟩), .pointer (some ⟨ps, 0, none⟩), .pointer (some ⟨pn, 0, none⟩), .pointer (some ⟨px, 0, none⟩), .pointer (some ⟨pt, 0, none⟩), .pointer (some ⟨py, 0, none⟩)]] w fun e w' =>
      e = .returned (.int .i64 0) ∧ PutsTo px pt py (num A) (num B) (mk S) w w' := by
  have lx := cell_lt cx
  have lt := cell_lt ct
  have ly := cell_lt cy
  have hin := puts2_any pg pm ps pn px pt py A S B k m n (w.alloc errBox) hA hB hk (old_cell cg (cell_lt cg)) (old_cell cm (cell_lt cm)) (old_cell cs (cell_lt cs)) (old_cell cn (cell_lt cn))
    (old_cell cx lx) (old_frozen fx lx) (old_cell ct lt) (old_frozen ft lt) (old_cell cy ly) (old_frozen fy ly) h1 h2 h3 h4 h5 h6
  refine (guard_grew _ _ w (fun k => k = px ∨ k = pt ∨ k = py) (fun o w1 => o = none ∧ PutsTo px pt py (num A) (num B) (mk S) (w.alloc errBox) w1) (by omega) (fun _ => by kernel_rfl) (hin.mono ?_)).mono ?_
  · rintro e w' ⟨rfl, hT⟩
    exact ⟨none, rfl, hT.grew, rfl, hT⟩
  · rintro e w' ⟨o', w1, rfl, ⟨rfl, hT⟩, rfl, hG, hlt⟩
    refine ⟨rfl, hG, ?_, ?_, ?_⟩
    · rw [done_cell (by show px ≠ _; omega) (by show px < _; omega)]; exact hT.cx
    · rw [done_cell (by show pt ≠ _; omega) (by show pt < _; omega)]; exact hT.ct
    · rw [done_cell (by show py ≠ _; omega) (by show py < _; omega)]; exact hT.cy
end Go.Proofs.Ytponpkmmfamjnaa
