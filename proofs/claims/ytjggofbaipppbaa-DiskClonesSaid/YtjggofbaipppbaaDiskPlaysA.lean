/-
  DiskPlays and DiskClones: what holds behind each call.
-/
import Derived.Test.YtjggofbaipppbaaDiskDoes
namespace Go.Proofs.Ytjggofbaipppbaa
open Go.RowKit

/-- a call of the list -/
structure DAct where
  kind : Int
  a : Int
  n : Int
  s : ByteArray
  ca : Option Addr
  cl : Nat
  cc : Nat
  es : Nat → Int
/-- a list of calls, whole -/
def FullAt (w : World) (a : Option Addr) (l : Nat) (A : Nat → DAct) : Prop :=
  l = 0 ∨ ∃ b off, a = some ⟨b, off, none⟩ ∧ ∀ i, i < l → (w.cell? ⟨b, off + i * 5, none⟩ = some (.int .i64 (A i).kind) ∧ w.cell? ⟨b, off + i * 5 + 1, none⟩ = some (.int .i64 (A i).a) ∧ w.cell? ⟨b, off + i * 5 + 2, none⟩ = some (.int .i64 (A i).n) ∧ w.cell? ⟨b, off + i * 5 + 3, none⟩ = some (.string (A i).s) ∧ w.cell? ⟨b, off + i * 5 + 4, none⟩ = some (.slice (A i).ca (A i).cl (A i).cc)) ∧ (A i).s.size ≤ maxLen ∧ IntsApart (fun _ => False) w (A i).ca (A i).cl (A i).es
theorem IntsApart.fresh {S : Nat → Prop} {w w' : World} {a : Option Addr} {l : Nat} {es : Nat → Int} (h : IntsApart (fun _ => False) w a l es) (k : Below w.heap.size w w') (hS : ∀ b, S b → w.heap.size ≤ b) : IntsApart S w' a l es := by
  rcases h with h | ⟨b, off, rfl, _, hr⟩
  · exact Or.inl h
  · by_cases h0 : l = 0
    · exact Or.inl h0
    · have hbw := cell_lt (hr 0 (by omega))
      exact Or.inr ⟨b, off, rfl, fun hk => (by have := hS b hk; have hb2 : b < w.heap.size := hbw; omega), fun i hi => by rw [k.cell (cell_lt (hr i hi))]; exact hr i hi⟩
theorem FullAt.keep {w w' : World} {a : Option Addr} {l : Nat} {A : Nat → DAct} (h : FullAt w a l A) (k : Below w.heap.size w w') : FullAt w' a l A := by
  rcases h with h | ⟨b, off, rfl, hr⟩
  · exact Or.inl h
  · refine Or.inr ⟨b, off, rfl, fun i hi => ?_⟩
    obtain ⟨⟨h0, h1, h2, h3, h4⟩, hs, hA⟩ := hr i hi
    exact ⟨⟨by rw [k.cell (cell_lt h0)]; exact h0, by rw [k.cell (cell_lt h1)]; exact h1, by rw [k.cell (cell_lt h2)]; exact h2, by rw [k.cell (cell_lt h3)]; exact h3, by rw [k.cell (cell_lt h4)]; exact h4⟩, hs, hA.fresh k fun _ e => e.elim⟩
def setB (B : Nat) (r : RefM) (wx : World) : World := (((wx.setCell ⟨B, 0, none⟩ (.slice r.sa r.n r.sc)).setCell ⟨B, 1, none⟩ (.slice r.na r.n r.nc)).setCell ⟨B, 2, none⟩ (.int .i64 r.left)).setCell ⟨B, 3, none⟩ (.bool r.dead)
theorem setB_grew (B : Nat) (r : RefM) (wx : World) : Grew (fun k => k = B) wx (setB B r wx) :=
  ((((Grew.refl (S := fun k => k = B) wx).setCell ⟨B, 0, none⟩ _ fun _ => rfl).setCell ⟨B, 1, none⟩ _ fun _ => rfl).setCell ⟨B, 2, none⟩ _ fun _ => rfl).setCell ⟨B, 3, none⟩ _ fun _ => rfl
abbrev QuadR (B : Nat) (r : RefM) (wx : World) : Prop := Quad B (.slice r.sa r.n r.sc) (.slice r.na r.n r.nc) (.int .i64 r.left) (.bool r.dead) wx
structure Play (w : World) (B N : Nat) (m : DiskM) (r : RefM) (wx : World) : Prop where
  n : m.n = N
  rel : Rel m r
  at' : DiskAt m wx
  ref : RefAt r wx
  box : QuadR B r wx
  own : ∀ k, m.own k → w.heap.size ≤ k ∧ k ≠ B
  base : w.heap.size ≤ B
  below : Below w.heap.size w wx
theorem Play.grew {w : World} {B N : Nat} {m : DiskM} {r : RefM} {wx wy : World} (h : Play w B N m r wx) (g : Grew (fun _ => False) wx wy) : Play w B N m r wy :=
  ⟨h.n, h.rel, h.at'.keep g fun _ _ e => e, h.ref.keepC g fun _ _ _ e => e, h.box.grew g fun e => e, h.own, h.base, g.below h.below h.below.size fun _ e => e.elim⟩
theorem Play.put {w : World} {B N : Nat} {r0 : RefM} {w3 : World} {m' : DiskM} {r' : RefM} (hn : m'.n = N) (hrel : Rel m' r') (hat : DiskAt m' w3) (href : RefAt r' w3) (hbox : QuadR B r0 w3) (hown : ∀ k, m'.own k → w.heap.size ≤ k ∧ k ≠ B) (hbase : w.heap.size ≤ B) (hbelow : Below w.heap.size w w3) : Play w B N m' r' (setB B r' w3) := by
  have g := setB_grew B r' w3
  refine ⟨hn, hrel, hat.keep g fun k hk => (hown k hk).2, href.keepC g fun b t hc e => ?_, ⟨quad_set hbox.at' _ _ _ _⟩, hown, hbase, g.below hbelow hbelow.size fun k e => ?_⟩
  · have e : b = B := e
    rw [e, hbox.cells.1.1] at hc
    cases hc
  · have e : k = B := e
    omega
theorem Play.does {w : World} {B N : Nat} {m : DiskM} {r : RefM} {wr : World} {p : Nat} {r2 : RefM} {w3 : World} (h : Play w B N m r wr) (hd : DoPost m wr.drew p r2 w3) : QuadR B r w3 ∧ ∃ m2, m2.d = p ∧ Play w B N m2 r2 (setB B r2 w3) := by
  obtain ⟨m', h1, h2, h3, h4, h5, h6, h7⟩ := hd
  have hB := h.box.lt
  have hs := h.below.size
  have hq : QuadR B r w3 := h.box.grew (undrew h5) fun e => (h.own _ e).2 rfl
  refine ⟨hq, m', h1, Play.put (h7.trans h.n) h2 h3 h4 hq (fun k hk => ?_) h.base ((undrew h5).below h.below h.below.size fun k hk => (h.own k hk).1)⟩
  rcases h6 k hk with h' | h'
  · exact h.own k h'
  · have h8 : wr.heap.size + 5 ≤ k := h'
    exact ⟨by omega, by omega⟩
end Go.Proofs.Ytjggofbaipppbaa
