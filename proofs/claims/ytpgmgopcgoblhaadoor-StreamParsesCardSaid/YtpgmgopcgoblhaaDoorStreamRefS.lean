/-
  The document's own Parse of any bytes: a contract.
-/
import Derived.Test.YtpgmgopcgoblhaaDoorStreamRefM
import Derived.Test.YtpgmgopcgoblhaaDoorPackRefNum
import Derived.Test.YtpgmgopcgoblhaaDoorCrcRef
namespace Go.Proofs.YtpgmgopcgoblhaaDoor
open Go.RowKit

abbrev inL (x : RX) : Array Value := #[.string ⟨x.1.toArray⟩, .int .i64 x.2]
/-- the result, what is left -/
structure RQ (w : World) (X : Nat) (x : RX) (wx : World) : Prop where
  below : Below w.heap.size w wx
  res : wx.heap[w.heap.size]? = some (.cells rf0 32)
  xb : wx.heap[X]? = some (.cells (inL x) 70)
  lt : w.heap.size < X
/-- and the stream that is made -/
structure RS (w : World) (X S : Nat) (x : RX) (z : Int) (B T : ByteArray) (v : Value) (acc : List It) (wx : World) : Prop where
  q : RQ w X x wx
  sb : wx.heap[S]? = some (.cells #[.int .i64 z, .string B, .string T, v] 32)
  row : wx.ownsRow (S + 1) 55 2 v acc.length (itCells acc)
  lt : X < S
theorem two' {w : World} {x : Nat} {t : TypeId} {a b : Value} (h : w.heap[x]? = some (.cells #[a, b] t)) : w.cell? ⟨x, 0, none⟩ = some a ∧ w.cell? ⟨x, 1, none⟩ = some b ∧ ∀ k, w.frozen? ⟨x, k, none⟩ = false := by
  refine ⟨?_, ?_, fun k => ?_⟩ <;> simp [World.cell?, World.frozen?, h]
theorem own_set {w : World} {B n k : Nat} {t : TypeId} {v : Value} {xs : List Value} (h : w.ownsRow B t k v n xs) (c o : Nat) (u : Value) (hc : ∀ g, v.ownBlock = some g → g ≠ c) : (w.setCell ⟨c, o, none⟩ u).ownsRow B t k v n xs := by
  refine ⟨h.1, ?_⟩
  rcases h.2 with h0 | ⟨b, cap, cur, rfl, hb, hg, rest⟩
  · exact Or.inl h0
  · refine Or.inr ⟨b, cap, cur, rfl, hb, ?_, rest⟩
    rw [Below.heap_setCell _ _ _ _ (by show b ≠ c; exact hc b rfl)]
    exact hg
section
variable {w : World} {X S : Nat} {x : RX} {z : Int} {B T : ByteArray} {v : Value} {acc : List It} {wx wy : World}
theorem RQ.step (h : RQ w X x wx) (k : Below wx.heap.size wx wy) : RQ w X x wy :=
  ⟨h.below.trans (k.mono h.below.size), by rw [k.block _ (blk_lt h.res)]; exact h.res, by rw [k.block _ (blk_lt h.xb)]; exact h.xb, h.lt⟩
theorem RQ.set (h : RQ w X x wx) (x' : RX) : RQ w X x' ((wx.setCell ⟨X, 0, none⟩ (.string ⟨x'.1.toArray⟩)).setCell ⟨X, 1, none⟩ (.int .i64 x'.2)) := by
  have h1 := h.lt
  have q1 := blk_set (k := 0) (v := .string ⟨x'.1.toArray⟩) h.xb
  have q2 := blk_set (k := 1) (v := .int .i64 x'.2) q1
  exact ⟨(h.below.setCell (by show w.heap.size ≤ X; omega) _).setCell (by show w.heap.size ≤ X; omega) _, by rw [Below.heap_setCell _ _ _ _ (by show w.heap.size ≠ X; omega), Below.heap_setCell _ _ _ _ (by show w.heap.size ≠ X; omega)]; exact h.res, q2, h1⟩
theorem RQ.far (h : RQ w X x wx) (c o : Nat) (u : Value) (hc : X < c) : RQ w X x (wx.setCell ⟨c, o, none⟩ u) := by
  have h1 := h.lt
  exact ⟨h.below.setCell (by show w.heap.size ≤ c; omega) _, by rw [Below.heap_setCell _ _ _ _ (by show w.heap.size ≠ c; omega)]; exact h.res, by rw [Below.heap_setCell _ _ _ _ (by show X ≠ c; omega)]; exact h.xb, h1⟩
theorem RS.step (h : RS w X S x z B T v acc wx) (k : Below wx.heap.size wx wy) : RS w X S x z B T v acc wy :=
  ⟨h.q.step k, by rw [k.block _ (blk_lt h.sb)]; exact h.sb, own_grew h.row (Grew.of_below (S := fun _ => False) k) (fun _ e => e.elim), h.lt⟩
theorem RS.set (h : RS w X S x z B T v acc wx) (x' : RX) : RS w X S x' z B T v acc ((wx.setCell ⟨X, 0, none⟩ (.string ⟨x'.1.toArray⟩)).setCell ⟨X, 1, none⟩ (.int .i64 x'.2)) := by
  have h1 := h.lt
  refine ⟨h.q.set x', by rw [Below.heap_setCell _ _ _ _ (by show S ≠ X; omega), Below.heap_setCell _ _ _ _ (by show S ≠ X; omega)]; exact h.sb, ?_, h1⟩
  exact own_grew h.row (((Grew.refl (S := fun k => k = X) wx).setCell _ _ (fun _ => rfl)).setCell _ _ (fun _ => rfl)) (fun k e => by subst e; omega)
theorem RS.far (h : RS w X S x z B T v acc wx) (c o : Nat) (u : Value) (hc : S < c) (hg : ∀ g, v.ownBlock = some g → g ≠ c) : RS w X S x z B T v acc (wx.setCell ⟨c, o, none⟩ u) := by
  have h1 := h.lt
  exact ⟨h.q.far c o u (by omega), by rw [Below.heap_setCell _ _ _ _ (by show S ≠ c; omega)]; exact h.sb, own_set h.row c o u hg, h1⟩
theorem RS.poke (h : RS w X S x z B T v acc wx) (k : Nat) (u : Value) {z' : Int} {B' T' : ByteArray} (e : (#[.int .i64 z, .string B, .string T, v] : Array Value).setIfInBounds k u = #[.int .i64 z', .string B', .string T', v]) : RS w X S x z' B' T' v acc (wx.setCell ⟨S, k, none⟩ u) := by
  have h1 := h.lt
  have q := blk_set (k := k) (v := u) h.sb
  rw [e] at q
  exact ⟨h.q.far S k u h1, q, own_grew h.row ((Grew.refl (S := fun z => z = S) wx).setCell _ _ (fun _ => rfl)) (fun k e => by subst e; omega), h1⟩
theorem RS.rowTo (h : RS w X S x z B T v acc wx) {v' : Value} {acc' : List It} (hgr : wx.grownBy wy v.ownBlock) (hown : wy.ownsRow (S + 1) 55 2 v' acc'.length (itCells acc')) :
    (wy.cell? ⟨S, 3, none⟩ = some v ∧ wy.frozen? ⟨S, 3, none⟩ = false) ∧ RS w X S x z B T v' acc' (wy.setCell ⟨S, 3, none⟩ v') := by
  have h1 := h.lt
  have h2 := h.q.lt
  have g : Grew (fun k => S + 1 ≤ k) wx wy := (Grew.refl wx).grown hgr (fun k _ e => (h.row.lt k e).1)
  have hsb : wy.heap[S]? = some (.cells #[.int .i64 z, .string B, .string T, v] 32) := by rw [g.block _ (blk_lt h.sb) (by omega)]; exact h.sb
  have q : RQ w X x wy := ⟨g.below h.q.below h.q.below.size (fun k hk => by omega), by rw [g.block _ (blk_lt h.q.res) (by omega)]; exact h.q.res, by rw [g.block _ (blk_lt h.q.xb) (by omega)]; exact h.q.xb, h2⟩
  refine ⟨⟨(four hsb).2.2.2.1, (four hsb).2.2.2.2 3⟩, q.far S 3 v' h1, blk_set hsb, own_grew hown ((Grew.refl (S := fun z => z = S) wy).setCell _ _ (fun _ => rfl)) (fun k e => by subst e; omega), h1⟩
end
/-- what the document's Parse leaves -/
def RPost (t : List UInt8) (w : World) (e : Ending) (w' : World) : Prop :=
  Below w.heap.size w w' ∧ ((∃ k, allP t = .error k ∧ k ≠ 0 ∧ e = .returned (.tuple #[.agg rf0, .int .i64 k])) ∨ (∃ s v, allP t = .ok s ∧ e = .returned (.tuple #[.agg (rfL s.size ⟨s.base.toArray⟩ ⟨s.target.toArray⟩ v), .int .i64 0]) ∧ ItsAt w' v s.items))
/-- an error: nothing but the number -/
theorem rp_err {t : List UInt8} {w w' : World} {k : Int} (hb : Below w.heap.size w w') (hp : allP t = .error k) (hk : k ≠ 0) : RPost t w (.returned (.tuple #[.agg rf0, .int .i64 k])) w' := ⟨hb, Or.inl ⟨k, hp, hk, rfl⟩⟩
theorem res_set {w wx : World} (hb : Below w.heap.size w wx) (hr : wx.heap[w.heap.size]? = some (.cells rf0 32)) (a b c : Value) (d : Value) : Below w.heap.size w ((((wx.setCell ⟨w.heap.size, 0, none⟩ a).setCell ⟨w.heap.size, 1, none⟩ b).setCell ⟨w.heap.size, 2, none⟩ c).setCell ⟨w.heap.size, 3, none⟩ d) ∧ ((((wx.setCell ⟨w.heap.size, 0, none⟩ a).setCell ⟨w.heap.size, 1, none⟩ b).setCell ⟨w.heap.size, 2, none⟩ c).setCell ⟨w.heap.size, 3, none⟩ d).heap[w.heap.size]? = some (.cells #[a, b, c, d] 32) := by
  have q1 := blk_set (k := 0) (v := a) hr
  have q2 := blk_set (k := 1) (v := b) q1
  have q3 := blk_set (k := 2) (v := c) q2
  have q4 := blk_set (k := 3) (v := d) q3
  exact ⟨(((hb.setCell (Nat.le_refl _) _).setCell (Nat.le_refl _) _).setCell (Nat.le_refl _) _).setCell (Nat.le_refl _) _, q4⟩
end Go.Proofs.YtpgmgopcgoblhaaDoor
