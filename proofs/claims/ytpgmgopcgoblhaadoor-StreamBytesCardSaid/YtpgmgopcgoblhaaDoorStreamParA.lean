/-
  While a stream is parsed: where it lies, what is left of the bytes, the row of items.
-/
import Derived.Test.YtpgmgopcgoblhaaDoorStreamSum
import Derived.Test.YtpgmgopcgoblhaaDoorStreamItem
import Derived.Test.YtpgmgopcgoblhaaDoorStreamCheck
namespace Go.Proofs.YtpgmgopcgoblhaaDoor
open Go.RowKit

def itCells (l : List It) : List Value := l.flatMap fun x => [.int .i64 x.pl, .string ⟨x.dt.toArray⟩]
theorem itCells_len (l : List It) : (itCells l).length = l.length * 2 := by
  induction l with
  | nil => rfl
  | cons x r ih =>
    show (([.int .i64 x.pl, .string ⟨x.dt.toArray⟩] : List Value) ++ itCells r).length = _
    rw [List.length_append, ih]
    show 2 + _ = (r.length + 1) * 2
    omega
theorem itCells_at : ∀ (l : List It) (i : Nat) (x : It), l[i]? = some x → (itCells l)[i * 2]? = some (.int .i64 x.pl) ∧ (itCells l)[i * 2 + 1]? = some (.string ⟨x.dt.toArray⟩)
  | [], _, _, h => by cases h
  | y :: r, 0, x, h => by
    have h : y = x := by simpa using h
    subst h
    exact ⟨rfl, rfl⟩
  | y :: r, i + 1, x, h => by
    have h : r[i]? = some x := by simpa using h
    obtain ⟨a, b⟩ := itCells_at r i x h
    have e : itCells (y :: r) = .int .i64 y.pl :: .string ⟨y.dt.toArray⟩ :: itCells r := rfl
    rw [e, show (i + 1) * 2 = i * 2 + 1 + 1 by omega]
    exact ⟨by rw [List.getElem?_cons_succ, List.getElem?_cons_succ]; exact a, by rw [List.getElem?_cons_succ, List.getElem?_cons_succ]; exact b⟩
theorem itCells_snoc (l : List It) (x : It) : itCells (l ++ [x]) = itCells l ++ [.int .i64 x.pl, .string ⟨x.dt.toArray⟩] := by simp [itCells]
theorem its_own {w : World} {B : Nat} {v : Value} {l : List It} (h : w.ownsRow B 51 2 v l.length (itCells l)) : ItsAt w v l := by
  rcases h.2 with ⟨rfl, h0⟩ | ⟨b, cap, cur, rfl, _⟩
  · exact Or.inl ⟨List.eq_nil_of_length_eq_zero h0, rfl⟩
  · refine Or.inr ⟨b, cap, rfl, fun i x hx => ?_⟩
    obtain ⟨a1, a2⟩ := itCells_at l i x hx
    have c1 := h.cells (g := b) rfl _ _ a1
    have c2 := h.cells (g := b) rfl _ _ a2
    rw [Addr.add_mid, Nat.zero_add] at c1 c2
    exact ⟨c1, c2⟩
theorem own_grew {w w' : World} {B n k : Nat} {t : TypeId} {v : Value} {xs : List Value} {S : Nat → Prop} (h : w.ownsRow B t k v n xs) (g : Grew S w w') (hS : ∀ q, S q → q < B) : w'.ownsRow B t k v n xs := by
  have hl := h.lt
  refine ⟨h.1, ?_⟩
  rcases h.2 with h0 | ⟨b, cap, cur, rfl, hb, hg, rest⟩
  · exact Or.inl h0
  · refine Or.inr ⟨b, cap, cur, rfl, hb, ?_, rest⟩
    rw [g.block b (hl b rfl).2 (fun s => by have := hS b s; omega)]
    exact hg
theorem Cells.piece {b n : Nat} {P K K' T : List Value} {w : World} (h : Cells b n (cellsAt (P ++ (K ++ T))) w) (hn : (P ++ (K ++ T)).length = n) (hk : K'.length = K.length) : Cells b n (cellsAt (P ++ (K' ++ T))) (w.setCells b P.length K') := by
  rw [List.length_append, List.length_append] at hn
  refine (h.splice P.length K' (by omega)).congr fun j hj => ?_
  unfold cellsAt
  by_cases h1 : j < P.length
  · rw [if_neg (by omega), List.getD_eq_getElem?_getD, List.getD_eq_getElem?_getD, List.getElem?_append_left h1, List.getElem?_append_left h1]
  · by_cases h2 : j < P.length + K'.length
    · rw [if_pos (by omega), List.getD_eq_getElem?_getD, List.getD_eq_getElem?_getD, List.getElem?_append_right (by omega), List.getElem?_append_left (by omega)]
    · rw [if_neg (by omega), List.getD_eq_getElem?_getD, List.getD_eq_getElem?_getD, List.getElem?_append_right (by omega), List.getElem?_append_right (by omega), List.getElem?_append_right (by omega), List.getElem?_append_right (by omega), hk]

/-- while a stream is parsed -/
structure PrAt (w : World) (q S : Nat) (Z : List Value) (r : List UInt8) (size : Int) (base target : List UInt8) (v : Value) (acc : List It) (wx : World) : Prop where
  inp : InP q r wx
  only : OnlyQ q w wx
  res : Cells w.heap.size 66 (cellsAt Z) wx
  st : Cells S 66 (cellsAt (stL size base target v)) wx
  row : wx.ownsRow (S + 1) 51 2 v acc.length (itCells acc)
  qlt : q < w.heap.size
  slt : w.heap.size < S
  bl : base.length = 32
  tl : target.length = 32
section
variable {w : World} {q S : Nat} {Z : List Value} {r : List UInt8} {size : Int} {base target : List UInt8} {v : Value} {acc : List It} {wx : World}
theorem PrAt.eat (h : PrAt w q S Z r size base target v acc wx) {r' : List UInt8} {wy : World} (hi : InP q r' wy) (hg : OnlyQ q wx wy) : PrAt w q S Z r' size base target v acc wy := by
  have h1 := h.qlt
  have h2 := h.slt
  exact ⟨hi, h.only.trans hg, h.res.grew hg (by omega), h.st.grew hg (by omega), own_grew h.row hg (fun k e => by subst e; omega), h1, h2, h.bl, h.tl⟩
theorem PrAt.fell (h : PrAt w q S Z r size base target v acc wx) {wy : World} (hg : OnlyQ q wx wy) : OnlyQ q w wy := h.only.trans hg
theorem PrAt.drew (h : PrAt w q S Z r size base target v acc wx) : PrAt w q S Z r size base target v acc wx.drew := ⟨h.inp.drew, h.only.drew, h.res.drew, h.st.drew, h.row, h.qlt, h.slt, h.bl, h.tl⟩
theorem PrAt.alloc (h : PrAt w q S Z r size base target v acc wx) (o : Obj) : PrAt w q S Z r size base target v acc (wx.alloc o) := ⟨h.inp.alloc o, h.only.alloc o, h.res.alloc o, h.st.alloc o, h.row.alloc o, h.qlt, h.slt, h.bl, h.tl⟩
theorem PrAt.poke (h : PrAt w q S Z r size base target v acc wx) {P K K' T : List Value} {size' : Int} {base' target' : List UInt8} {v' : Value} (e : stL size base target v = P ++ (K ++ T)) (hk : K'.length = K.length) (e' : stL size' base' target' v' = P ++ (K' ++ T))
    (hrow : wx.ownsRow (S + 1) 51 2 v' acc.length (itCells acc)) (hb : base'.length = 32) (ht : target'.length = 32) : PrAt w q S Z r size' base' target' v' acc (wx.setCells S P.length K') := by
  have h1 := h.qlt
  have h2 := h.slt
  have hl := stL_len (size := size) (v := v) h.bl h.tl
  have hst := h.st
  rw [e] at hl hst
  refine ⟨h.inp.row S _ K' (by omega), Grew.row h.only S _ K' (fun x => by omega), h.res.farRow K' (by omega), ?_, own_grew hrow (Grew.row (S := fun k => k = S) (Grew.refl wx) S P.length K' (fun _ => rfl)) (fun k e => by subst e; omega), h1, h2, hb, ht⟩
  rw [e']
  exact hst.piece hl hk
theorem PrAt.sizeTo (h : PrAt w q S Z r size base target v acc wx) (z : Int) : PrAt w q S Z r z base target v acc (wx.setCell ⟨S, 0, none⟩ (.int .i64 z)) :=
  h.poke (P := []) (K := [.int .i64 size]) (K' := [.int .i64 z]) (T := cellsOf base ++ (cellsOf target ++ [v])) rfl rfl rfl h.row h.bl h.tl
theorem PrAt.baseTo (h : PrAt w q S Z r size base target v acc wx) (b : List UInt8) (hb : b.length = 32) : PrAt w q S Z r size b target v acc (wx.setCells S 1 (cellsOf b)) :=
  h.poke (P := [.int .i64 size]) (K := cellsOf base) (K' := cellsOf b) (T := cellsOf target ++ [v]) rfl (by rw [cellsOf_len, cellsOf_len, hb, h.bl]) rfl h.row hb h.tl
theorem PrAt.targetTo (h : PrAt w q S Z r size base target v acc wx) (b : List UInt8) (hb : b.length = 32) : PrAt w q S Z r size base b v acc (wx.setCells S 33 (cellsOf b)) := by
  have e : (.int .i64 size :: cellsOf base : List Value).length = 33 := by rw [List.length_cons, cellsOf_len, h.bl]
  have t := h.poke (P := .int .i64 size :: cellsOf base) (K := cellsOf target) (K' := cellsOf b) (T := [v]) (size' := size) (base' := base) (target' := b) (v' := v) (by simp [stL]) (by rw [cellsOf_len, cellsOf_len, hb, h.tl]) (by simp [stL]) h.row h.bl hb
  rw [e] at t
  exact t
theorem PrAt.rowTo (h : PrAt w q S Z r size base target v acc wx) {v' : Value} {acc' : List It} {wy : World} (hgr : wx.grownBy wy v.ownBlock) (hown : wy.ownsRow (S + 1) 51 2 v' acc'.length (itCells acc')) : PrAt w q S Z r size base target v' acc' (wy.setCell ⟨S, 65, none⟩ v') := by
  have h1 := h.qlt
  have h2 := h.slt
  have hsz := h.st.1
  have hlt := h.row.lt
  have g : Grew (fun k => S + 1 ≤ k) wx wy := (Grew.refl wx).grown hgr (fun k _ e => (hlt k e).1)
  have gq : OnlyQ q w wy := (h.only.step g (fun x hx s => by omega))
  have hi := h.inp.grew g (by omega)
  have hres := h.res.grew g (by omega)
  have hst := h.st.grew g (by omega)
  have e : (.int .i64 size :: (cellsOf base ++ cellsOf target) : List Value).length = 65 := by rw [List.length_cons, List.length_append, cellsOf_len, cellsOf_len, h.bl, h.tl]
  have hl := stL_len (size := size) (v := v) h.bl h.tl
  have e1 : ∀ u, stL size base target u = (.int .i64 size :: (cellsOf base ++ cellsOf target)) ++ ([u] ++ []) := fun u => by simp [stL]
  rw [e1] at hst hl
  have hp := hst.piece (K' := [v']) hl rfl
  rw [e] at hp
  rw [← e1] at hp
  refine ⟨hi.row S 65 [v'] (by omega), Grew.row gq S 65 [v'] (fun x => by omega), hres.farRow (o := 65) [v'] (by omega), hp, own_grew hown (Grew.row (S := fun k => k = S) (Grew.refl wy) S 65 [v'] (fun _ => rfl)) (fun k e => by subst e; omega), h1, h2, h.bl, h.tl⟩
end
end Go.Proofs.YtpgmgopcgoblhaaDoor
