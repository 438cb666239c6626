/-
  DiskClones: what holds of the disk that is played on and of the one beside it.
-/
import Derived.Test.YtjggofbaipppbaaDiskPlaysA
namespace Go.Proofs.Ytjggofbaipppbaa
open Go.RowKit

structure Two (w : World) (B C N : Nat) (m : DiskM) (r : RefM) (mc : DiskM) (y : RefM) (wx : World) : Prop where
  a : Play w B N m r wx
  b : Play w C N mc y wx
  ne : B ≠ C
  offB : ∀ k, mc.own k → k ≠ B
  offC : ∀ k, m.own k → k ≠ C
  apart : ∀ k, m.own k → ¬ mc.own k
theorem Two.grew {w : World} {B C N : Nat} {m : DiskM} {r : RefM} {mc : DiskM} {y : RefM} {wx wy : World} (h : Two w B C N m r mc y wx) (g : Grew (fun _ => False) wx wy) : Two w B C N m r mc y wy :=
  ⟨h.a.grew g, h.b.grew g, h.ne, h.offB, h.offC, h.apart⟩
theorem Two.does {w : World} {B C N : Nat} {m : DiskM} {r : RefM} {mc : DiskM} {y : RefM} {wr : World} {p : Nat} {r2 : RefM} {w3 : World} (h : Two w B C N m r mc y wr) (hd : DoPost m wr.drew p r2 w3) : QuadR B r w3 ∧ ∃ m2, m2.d = p ∧ Two w B C N m2 r2 mc y (setB B r2 w3) := by
  obtain ⟨m', h1, h2, h3, h4, h5, h6, h7⟩ := hd
  have hB := h.a.box.lt
  have hC := h.b.box.lt
  have hs := h.a.below.size
  have g5 := undrew h5
  have hq : QuadR B r w3 := h.a.box.grew g5 fun e => (h.a.own _ e).2 rfl
  have hlt := h.b.at'.below
  have hown : ∀ k, m'.own k → m.own k ∨ wr.heap.size + 5 ≤ k := h6
  have gB := setB_grew B r2 w3
  have hyc : RefAt y w3 := h.b.ref.keepD (h.a.n.trans (h.b.n.symm.trans h.b.rel.n)) h.a.at' g5
  have hb3 : Play w C N mc y w3 := ⟨h.b.n, h.b.rel, h.b.at'.keep g5 fun k hk e => h.apart k e hk, hyc, h.b.box.grew g5 fun e => h.offC _ e rfl, h.b.own, h.b.base, g5.below h.b.below h.b.below.size fun k hk => (h.a.own k hk).1⟩
  refine ⟨hq, m', h1, ⟨Play.put (h7.trans h.a.n) h2 h3 h4 hq (fun k hk => ?_) h.a.base (g5.below h.a.below h.a.below.size fun k hk => (h.a.own k hk).1), ⟨hb3.n, hb3.rel, hb3.at'.keep gB fun k hk e => h.offB k hk e, hb3.ref.keepC gB fun b t hc e => ?_, hb3.box.grew gB (fun e => h.ne e.symm), hb3.own, hb3.base, gB.below hb3.below hb3.below.size fun k e => ?_⟩, h.ne, h.offB, fun k hk => ?_, fun k hk hc => ?_⟩⟩
  · rcases hown k hk with h' | h'
    · exact h.a.own k h'
    · exact ⟨by omega, by omega⟩
  · have e : b = B := e
    rw [e, hq.cells.1.1] at hc
    cases hc
  · have e : k = B := e
    have := h.a.base
    omega
  · rcases hown k hk with h' | h'
    · exact h.offC k h'
    · omega
  · rcases hown k hk with h' | h'
    · exact h.apart k h' hc
    · have := hlt k hc
      omega
/-- the copy -/
theorem Two.start {w : World} {B C N : Nat} {m : DiskM} {r : RefM} {wr w5 wC : World} {x : Nat} {mc : DiskM} (h : Play w B N m r wr) (hc : CloneOf m wr x mc w5) (g : Grew (fun k => k = C) w5 wC) (hq : QuadR C r wC) (hne : B ≠ C) (hbase : w.heap.size ≤ C) (hCm : ∀ k, m.own k → k ≠ C) (hC2 : ∀ k, mc.own k → k ≠ C) (hC3 : ∀ t, w5.cell? ⟨C, 0, none⟩ ≠ some (.string t)) : Two w B C N m r mc r wC := by
  have h5 : Play w B N m r w5 := h.grew (Grew.of_below hc.below)
  have hB := h.box.lt
  have hs := h.below.size
  have hl := h.at'.below
  have hr : RefAt r wC := h5.ref.keepC g fun b t hb e => by
    have e : b = C := e
    rw [e] at hb
    exact hC3 t hb
  have hbl : Below w.heap.size w wC := g.below h5.below h5.below.size fun k e => by have e : k = C := e; omega
  exact ⟨⟨h.n, h.rel, h5.at'.keep g fun k hk e => hCm k hk e, hr, h5.box.grew g hne, h.own, h.base, hbl⟩, ⟨hc.n.trans h.n, ⟨hc.n.trans h.rel.n, hc.S.trans h.rel.S, hc.T.trans h.rel.T, hc.dead.trans h.rel.dead, fun e => h.rel.free (hc.armed.symm.trans e), fun e => (h.rel.armed (hc.armed.symm.trans e)).trans hc.left.symm, by unfold DiskM.fits; rw [hc.left]; exact h.rel.fits⟩, hc.at'.keep g fun k hk e => hC2 k hk e, hr, hq, fun k hk => ⟨by have := hc.fresh k hk; omega, hC2 k hk⟩, hbase, hbl⟩, hne, fun k hk => by have := hc.fresh k hk; omega, hCm, fun k hk h2 => by have := hl k hk; have := hc.fresh k h2; omega⟩
/-- a row of eight that was just made -/
theorem ints8 {S : Nat → Prop} (w : World) (t : TypeId) (hS : ¬ S w.heap.size) : IntsApart S (w.alloc (.cells #[.int .i64 64, .int .i64 64, .int .i64 64, .int .i64 64, .int .i64 64, .int .i64 64, .int .i64 64, .int .i64 64] t)) (some ⟨w.heap.size, 0, none⟩) 8 (fun _ => 64) := by
  have h := World.rowIs_alloc w #[.int .i64 64, .int .i64 64, .int .i64 64, .int .i64 64, .int .i64 64, .int .i64 64, .int .i64 64, .int .i64 64] t (fun _ => .int .i64 64) fun i hi => by
    have : i < 8 := hi
    match i, this with
    | 0, _ => rfl
    | 1, _ => rfl
    | 2, _ => rfl
    | 3, _ => rfl
    | 4, _ => rfl
    | 5, _ => rfl
    | 6, _ => rfl
    | 7, _ => rfl
  refine Or.inr ⟨w.heap.size, 0, rfl, hS, fun i hi => ?_⟩
  rw [Nat.zero_add]
  exact h.cell hi
end Go.Proofs.Ytjggofbaipppbaa
