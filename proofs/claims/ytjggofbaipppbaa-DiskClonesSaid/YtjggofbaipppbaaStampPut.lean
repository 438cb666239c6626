/-
  A stamp put into an Out: for every stamp its eight bytes, contracts by walking their text.
-/
import Derived.Test.YtjggofbaipppbaaPackOuts
import Derived.Test.YtjggofbaipppbaaPackMath
import Derived.Test.YtjggofbaipppbaaGuardGrew
import Derived.Test.YtjggofbaipppbaaBoxes
import Derived.Deep.RegionHeld3
import Derived.Deep.DeepCutAuto
namespace Go.Proofs.Ytjggofbaipppbaa
open Go.RowKit

theorem OutAt.own_lt {B o : Nat} {v : Value} {l : List UInt8} {w : World} (h : OutAt B o v l w) : ∀ k, v.ownBlock = some k → k < w.heap.size := by
  intro k hk
  rcases h.row.2 with ⟨rfl, _⟩ | ⟨g', cap', cur, rfl, hb, hg, _⟩
  · cases hk
  · simp [Value.ownBlock] at hk
    subst hk
    rcases Nat.lt_or_ge g' w.heap.size with h1 | h1
    · exact h1
    · rw [Array.getElem?_eq_none h1] at hg; cases hg
theorem OutAt.kept {B o : Nat} {v : Value} {l : List UInt8} {S : Nat → Prop} {W W' : World} (h : OutAt B o v l W) (g : Grew S W W') (ho : ¬ S o) (hr : ∀ k, v.ownBlock = some k → ¬ S k) : OutAt B o v l W' := by
  have h1 := h.lt
  have h2 := h.base
  have h3 := g.size
  refine ⟨h1, by omega, by rw [g.cell (by show o < _; omega) ho]; exact h.cell, by rw [g.frozen (by show o < _; omega) ho]; exact h.frozen, h.row.1, ?_⟩
  rcases h.row.2 with h0 | ⟨g', cap', cur, rfl, hb, hg, rest⟩
  · exact Or.inl h0
  · refine Or.inr ⟨g', cap', cur, rfl, hb, ?_, rest⟩
    rw [g.block g' (h.own_lt g' rfl) (hr g' rfl)]
    exact hg
theorem OutAt.drew {B o : Nat} {v : Value} {l : List UInt8} {W : World} (h : OutAt B o v l W) : OutAt B o v l W.drew := ⟨h.lt, h.base, h.cell, h.frozen, h.row⟩
/-- an Out on its way: from the world w, where its row was v -/
structure OutVia (B o : Nat) (v : Value) (w : World) (v1 : Value) (l : List UInt8) (w1 : World) : Prop where
  at1 : OutAt B o v1 l w1
  own : ∀ k, k < w.heap.size → v1.ownBlock = some k → v.ownBlock = some k
  grew : Grew (outs o v) w w1
theorem OutVia.start {B o : Nat} {v : Value} {l : List UInt8} {w : World} (h : OutAt B o v l w) : OutVia B o v w v l w := ⟨h, fun _ _ e => e, Grew.refl _⟩
theorem OutVia.to {B o : Nat} {v v1 : Value} {l : List UInt8} {w w1 : World} (h : OutVia B o v w v1 l w1) : OutTo B o v l w w1 := ⟨v1, h.at1, h.own, h.grew⟩
theorem OutVia.drew {B o : Nat} {v v1 : Value} {l : List UInt8} {w w1 : World} (h : OutVia B o v w v1 l w1) : OutVia B o v w v1 l w1.drew := ⟨h.at1.drew, h.own, h.grew.drew⟩
theorem OutVia.alloc {B o : Nat} {v v1 : Value} {l : List UInt8} {w w1 : World} (h : OutVia B o v w v1 l w1) (x : Obj) : OutVia B o v w v1 l (w1.alloc x) :=
  ⟨h.at1.kept (S := fun _ => False) ((Grew.refl w1).alloc x) (fun x => x) (fun _ _ x => x), h.own, h.grew.alloc x⟩
theorem OutVia.next {B o : Nat} {v v1 : Value} {l l2 : List UInt8} {w w1 w2 : World} (h : OutVia B o v w v1 l w1) (k : OutTo B o v1 l2 w1 w2) : ∃ v2, Hid (OutVia B o v w v2 l2 w2) := by
  obtain ⟨v2, a, b, c⟩ := k
  have hs := h.grew.size
  refine ⟨v2, Lib.hid ⟨a, fun k hk e => h.own k hk (b k (by omega) e), h.grew.step c ?_⟩⟩
  rintro x hx (e | e)
  · exact Or.inl e
  · exact Or.inr (h.own x hx e)
/-- a cell outside of what an Out has stays -/
theorem OutVia.cell {B o : Nat} {v v1 : Value} {l : List UInt8} {w w1 : World} (h : OutVia B o v w v1 l w1) {p : Addr} (hp : p.block < w.heap.size) (ho : p.block ≠ o) (hv : v.ownBlock ≠ some p.block) : w1.cell? p = w.cell? p :=
  h.grew.cell hp (fun e => e.elim ho hv)
theorem wid4 : wid 4 = 4 := rfl
theorem wid1 : wid 1 = 1 := rfl
/-- two cells of a new block -/
theorem pair_cells (w : World) (a b : Value) (t : TypeId) : (w.alloc (.cells #[a, b] t)).cell? ⟨w.heap.size, 0, none⟩ = some a ∧ (w.alloc (.cells #[a, b] t)).cell? ⟨w.heap.size, 1, none⟩ = some b := by
  constructor <;> (rw [World.cell?_alloc_new]; simp)
/-- what stands in an Out's blocks isn't what was there otherwise -/
theorem OutAt.far {B o : Nat} {v : Value} {l : List UInt8} {w : World} (h : OutAt B o v l w) {b : Nat} (hb : w.heap.size ≤ b) : ¬ outs o v b := by
  have := h.lt
  have := h.base
  rintro (e | e)
  · omega
  · have := h.own_lt _ e; omega
theorem u32_as_u64 (a : Nat) (ha : a < 4294967296) : IntKind.u64.wrap (a : Int) = a := by
  simp only [IntKind.wrap, IntKind.bits, IntKind.signed]
  simp
  omega

theorem OutVia.back {B o : Nat} {v v1 : Value} {l : List UInt8} {w W w1 : World} (h : OutVia B o v W v1 l w1) (g : Grew (fun _ => False) w W) : OutVia B o v w v1 l w1 := by
  have := g.size
  exact ⟨h.at1, fun k hk e => h.own k (by omega) e, (g.mono (T := outs o v) fun _ _ x => x.elim).trans h.grew⟩

set_option maxHeartbeats 1000000 in
theorem put_any (B o : Nat) (v : Value) (l : List UInt8) (a b : Nat) (w : World) (h : OutAt B o v l w) (hl : l.length < 900000) (ha : a < 4294967296) (hb : b < 4294967296) :
    Calls Try.prog 72 #[.agg #[.int .u32 a, .int .u32 b], .pointer (some ⟨o, 0, none⟩)] w fun e w' => e = .returned (.tuple #[]) ∧ OutTo B o v (l ++ (enc a 4 ++ enc b 4)) w w' := by
  have hfar := h.far (Nat.le_refl _)
  obtain ⟨p0, p1⟩ := pair_cells w (.int .u32 a) (.int .u32 b) 103
  have hsz : w.heap.size < (w.alloc (.cells #[.int .u32 a, .int .u32 b] 103)).heap.size := by simp
  have hg : Grew (fun _ => False) w ((w.alloc (.cells #[.int .u32 a, .int .u32 b] 103)).drew) := ((Grew.refl w).alloc _).drew
  have u1 := u32_as_u64 a ha
  have u2 := u32_as_u64 b hb
  have H := Lib.hid h
  clear h
  go_enter Try.func72, Try.ntmps72
  go_wp2_with fail
  obtain ⟨W, hW⟩ : ∃ W, w.alloc (.cells #[.int .u32 a, .int .u32 b] 103) = W := ⟨_, rfl⟩
  rw [hW] at p0 p1 hsz hg ⊢
  obtain ⟨x, hx⟩ : ∃ x, w.heap.size = x := ⟨_, rfl⟩
  rw [hx] at p0 p1 hsz hfar ⊢
  clear hW hx
  have H0 : Hid (OutVia B o v W.drew v l W.drew) := Lib.hid (OutVia.start (H.out.kept hg (fun x => x) (fun _ _ x => x)))
  have HB : Hid (∀ v1 l1 w1, OutVia B o v W.drew v1 l1 w1 → OutVia B o v w v1 l1 w1) := Lib.hid fun _ _ _ h => h.back hg
  have HK : Hid (∀ v1 l1 w1, OutVia B o v W.drew v1 l1 w1 → w1.cell? ⟨x, 0, none⟩ = some (.int .u32 a) ∧ w1.cell? ⟨x, 1, none⟩ = some (.int .u32 b)) := Lib.hid fun v1 l1 w1 h =>
    ⟨by rw [h.cell (p := ⟨x, 0, none⟩) hsz (fun e => hfar (Or.inl e)) (fun e => hfar (Or.inr e))]; exact p0, by rw [h.cell (p := ⟨x, 1, none⟩) hsz (fun e => hfar (Or.inl e)) (fun e => hfar (Or.inr e))]; exact p1⟩
  clear p0 p1 hg hfar hsz H
  go_region_held3 (fun wx => wx.cell? ⟨x, 0, none⟩ = some (.int .u32 a) ∧ wx.cell? ⟨x, 1, none⟩ = some (.int .u32 b))
    (first | exact HK.out _ _ _ H0.out | exact HK.out _ _ _ H1.out | exact HK.out _ _ _ H2.out)
    (first
      | (go_at_call 73; (with_reducible refine (outNum_any B o v l a 4 W.drew H0.out.at1 ?_).mono ?_); (focus omega); rintro e w1 ⟨rfl, T1⟩; (obtain ⟨v1, H1⟩ := H0.out.next T1); clear T1)
      | (go_at_call 73; (with_reducible refine (outNum_any B o v1 _ b 4 w1 H1.out.at1 ?_).mono ?_); (focus (rw [List.length_append, enc_len, wid4]; omega)); rintro e w2 ⟨rfl, T2⟩; (obtain ⟨v2, H2⟩ := H1.out.next T2); clear T2))
  go_wp2_with fail
  go_end0
  refine ⟨rfl, ?_⟩
  have h := (HB.out _ _ _ H2.out).to
  rw [wid4, List.append_assoc] at h
  exact h
end Go.Proofs.Ytjggofbaipppbaa
