/-
  Rows of texts that grow, in the seat of node: append of texts, and where the new row lies.
-/
import Derived.Test.YtcmohjgccedmgaaDoorNodeDig
import Derived.Deep.AppendLies
import Derived.Laws.OwnMore
import Derived.OwnWalk
namespace Go.Proofs.YtcmohjgccedmgaaDoor
open Go.RowKit

def textsOf (l : List ByteArray) : List Value := l.map fun s => Value.string s
theorem infoStr : (Tryd.prog.info? 9).map (fun i => (i.zero, i.size, i.bytes)) = some (some (.string ⟨#[]⟩), 1, 16) := by kernel_rfl
/-- what an append of texts leaves: the row, what else has turned, where it lies -/
structure MoreStrs (w : World) (B : Nat) (v : Value) (l k : List ByteArray) (g cap : Nat) (w' : World) : Prop where
  own : w'.ownsRow B 9 1 (.slice (some ⟨g, 0, none⟩) (l.length + k.length) cap) (l.length + k.length) (textsOf (l ++ k))
  grown : w.grownBy w' v.ownBlock
  lies : v.ownBlock = some g ∨ g = w.heap.size
  lt : g < w'.heap.size
theorem wpList_more_strs {w : World} {ops : Array Oper} {rest : List Oper} {o : Oper} {a : Act} {Q : Exit → Act → World → Prop} (hgd : o.guard = none) (s x : Operand)
    (ho : o.op = .call { callee := .builtin .append, args := #[s, x], argTypes := #[49, 49] })
    (B : Nat) (v : Value) (l k : List ByteArray) (hs : a.eval s = v) (n : Nat) (hn : l.length = n) (hown : w.ownsRow B 9 1 v n (textsOf l)) (b m c : Nat) (hx : a.eval x = .slice (some ⟨b, 0, none⟩) m c) (hm : k.length = m)
    (hk : ∀ i (h : i < k.length), w.cell? ⟨b, i, none⟩ = some (.string k[i])) (h0 : 0 < m) (hl : n + m < 1000000) (hB : B ≤ w.heap.size)
    (h : ∀ g cap w', MoreStrs w B v l k g cap w' → wpList Tryd.prog ops Q rest (a.put o.dst (.slice (some ⟨g, 0, none⟩) (n + m) cap)) w') : wpList Tryd.prog ops Q (o :: rest) a w := by
  subst hn hm
  obtain ⟨i0, hi, hz0, hz1, hz2⟩ := info_parts infoStr
  refine wpList_append_lies w hgd s x 49 ho B 9 i0 (.string ⟨#[]⟩) 1 16 Tryd.underlying49 hi hz0 hz1 hz2 rfl (by decide) v _ _ hs hown ⟨b, 0, none⟩ k.length c (textsOf k) hx (by simp [textsOf]) (fun j u hu => ?_) (fun u hu => ?_) h0 (by unfold maxLen; omega) (by omega) hB _ rfl fun g cap w' h1 h2 h3 h4 => h g cap w' ⟨?_, h2, h3, h4⟩
  · unfold textsOf at hu
    rw [List.getElem?_map] at hu
    by_cases hj : j < k.length
    · rw [List.getElem?_eq_getElem hj] at hu
      rw [Addr.add_lit]
      have := hk j hj
      simp only [Option.map_some, Option.some.injEq] at hu
      rw [← hu]
      simpa using this
    · rw [List.getElem?_eq_none (by omega)] at hu
      simp at hu
  · unfold textsOf at hu
    obtain ⟨t, _, rfl⟩ := List.mem_map.1 hu
    rfl
  · have e : textsOf (l ++ k) = textsOf l ++ textsOf k := by simp [textsOf]
    rw [e]
    exact h1
theorem one_str (w : World) (t : ByteArray) : ∀ i (h : i < [t].length), (w.alloc (.cells #[.string t] 9)).cell? ⟨w.heap.size, i, none⟩ = some (.string [t][i]) := fun i h => by
  have : i = 0 := by simpa using h
  subst this
  exact boxNew rfl
theorem MoreStrs.below {w W w' : World} {B C : Nat} {v : Value} {l k : List ByteArray} {g cap n : Nat} {xs : List Value} (h : MoreStrs w B v l k g cap w') (hb : Below C W w) (ho : w.ownsRow B 9 1 v n xs) (hC : C ≤ B) (hs : C ≤ w.heap.size) : Below C W w' :=
  hb.grown h.grown hs (fun q hq => Nat.le_trans hC (ho.lt q hq).1)
theorem own_none (w : World) : (w.alloc (.cells #[] 9)).ownsRow w.heap.size 9 1 (.slice (some ⟨w.heap.size, 0, none⟩) 0 0) 0 (textsOf []) := World.ownsRow_lit (base := w.heap.size) (e := 9) (size := 1) w #[] 0 (Nat.le_refl _) (by decide) rfl
end Go.Proofs.YtcmohjgccedmgaaDoor
