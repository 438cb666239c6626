/-
  A disk with a journal, rows of texts beside it: what the calls leave.
-/
import Derived.Test.YtakngnigpncmkaaRingRef
import Derived.Test.YtakngnigpncmkaaRingApp
import Derived.Test.YtakngnigpncmkaaRingAwake
import Derived.Laws.BitsAllLaws
namespace Go.Proofs.Ytakngnigpncmkaa
open Go.RowKit

theorem mask7' (k : Int) : ∃ p : Nat, bits .and .i64 k 7 = (p : Int) ∧ p < 8 := by
  refine ⟨(BitVec.ofInt 64 k &&& BitVec.ofInt 64 7).toNat, ?_, ?_⟩
  · have h : (BitVec.ofInt 64 k &&& BitVec.ofInt 64 7).toNat ≤ 7 := by
      rw [BitVec.toNat_and]
      exact Nat.le_trans Nat.and_le_right (by decide)
    show IntKind.i64.wrap ((BitVec.ofInt 64 k &&& BitVec.ofInt 64 7).toNat : Int) = _
    generalize (BitVec.ofInt 64 k &&& BitVec.ofInt 64 7).toNat = y at *
    simp only [IntKind.wrap, IntKind.bits, IntKind.signed]
    simp
    omega
  · rw [BitVec.toNat_and]
    exact Nat.lt_of_le_of_lt Nat.and_le_right (by decide)
theorem run_max2 (P : Program) (w : World) (ts : Array TypeId) (t : TypeId) (x y z : Int) (h : z = max x y) : (Builtin.max_ ts t #[.int .i64 x, .int .i64 y]).run P w = .ok (.int .i64 z) w := by
  subst h
  by_cases hc : x < y
  · rw [Int.max_eq_right (by omega)]
    simp [Builtin.max_, Builtin.max2, hc]
  · rw [Int.max_eq_left (by omega)]
    simp [Builtin.max_, Builtin.max2, hc]
theorem run_min2 (P : Program) (w : World) (ts : Array TypeId) (t : TypeId) (x y z : Int) (h : z = min x y) : (Builtin.min_ ts t #[.int .i64 x, .int .i64 y]).run P w = .ok (.int .i64 z) w := by
  subst h
  by_cases hc : y < x
  · rw [Int.min_eq_right (by omega)]
    simp [Builtin.min_, Builtin.min2, hc]
  · rw [Int.min_eq_left (by omega)]
    simp [Builtin.min_, Builtin.min2, hc]
/-- where all lies: the disk, the journal and the records below B, rows of texts from there on -/
structure Lay (w : World) (B r : Nat) (O : Nat → Prop) (fa : Option Addr) : Prop where
  lowO : ∀ k, O k → k < B
  lowR : r < B
  lowL : ∀ b, fa = some ⟨b, 0, none⟩ → ¬ O b ∧ b ≠ r
  highO : ∀ k, O k → w.heap.size ≤ k
  highR : w.heap.size ≤ r
  ro : ¬ O r
/-- a disk with a journal, two rows of texts, and the records that are appended -/
structure Apps (w : World) (N B p r f nn ep : Nat) (O : Nat → Prop) (fa : Option Addr) (L : List ByteArray) (u : Nat) (M : DiskM) (v1 v2 : Value) (l1 l2 : List ByteArray) (wx : World) : Prop where
  lay : Lay w B r O fa
  d : M.d = p
  live : M.Live
  n : M.n = N
  own : M.own = O
  at' : DiskAt M wx
  ring : RingAt r p f nn ep u wx
  one : wx.ownsRow B 9 1 v1 l1.length (textsOf l1)
  two : wx.ownsRow B 9 1 v2 l2.length (textsOf l2)
  apart : v1.ownBlock = none ∨ v1.ownBlock ≠ v2.ownBlock
  few : StrsAt wx fa L.length L
  fewap : ∀ b, fa = some ⟨b, 0, none⟩ → b < wx.heap.size ∧ v1.ownBlock ≠ some b ∧ v2.ownBlock ≠ some b
  below : Below w.heap.size w wx
  size : B ≤ wx.heap.size
theorem Apps.wB {w : World} {N B p r f nn ep : Nat} {O : Nat → Prop} {fa : Option Addr} {L : List ByteArray} {u : Nat} {M : DiskM} {v1 v2 : Value} {l1 l2 : List ByteArray} {wx : World} (h : Apps w N B p r f nn ep O fa L u M v1 v2 l1 l2 wx) : w.heap.size ≤ B := Nat.le_trans h.lay.highR (Nat.le_of_lt h.lay.lowR)
theorem Apps.step {w : World} {N B p r f nn ep : Nat} {O : Nat → Prop} {fa : Option Addr} {L : List ByteArray} {u : Nat} {M : DiskM} {v1 v2 : Value} {l1 l2 : List ByteArray} {wx wy : World} (h : Apps w N B p r f nn ep O fa L u M v1 v2 l1 l2 wx) (hb : Below wx.heap.size wx wy) :
    Apps w N B p r f nn ep O fa L u M v1 v2 l1 l2 wy :=
  ⟨h.lay, h.d, h.live, h.n, h.own, h.at'.keep (Grew.of_below (S := fun _ => False) hb) fun _ _ e => e, h.ring.below hb, own_below h.one hb, own_below h.two hb, h.apart, h.few.below hb, fun b e => ⟨Nat.lt_of_lt_of_le (h.fewap b e).1 hb.size, (h.fewap b e).2⟩, h.below.trans (hb.mono h.below.size), Nat.le_trans h.size hb.size⟩
theorem StrsAt.grew {w w' : World} {a : Option Addr} {n : Nat} {l : List ByteArray} {S : Nat → Prop} (h : StrsAt w a n l) (g : Grew S w w') (hS : ∀ b, a = some ⟨b, 0, none⟩ → ¬ S b) : StrsAt w' a n l := by
  refine ⟨h.1, ?_⟩
  rcases h.2 with h0 | ⟨b, rfl, hr⟩
  · exact Or.inl h0
  · exact Or.inr ⟨b, rfl, fun i hi => by rw [g.cell (p := ⟨b, i, none⟩) (cell_lt (hr i hi)) (hS b rfl)]; exact hr i hi⟩
theorem own_grew {w w' : World} {S : Nat → Prop} {B n : Nat} {e : TypeId} {v : Value} {xs : List Value} (h : w.ownsRow B e 1 v n xs) (g : Grew S w w') (hS : ∀ k, B ≤ k → ¬ S k) : w'.ownsRow B e 1 v n xs := by
  rcases h.2 with ⟨rfl, h0⟩ | ⟨b, cap, cur, rfl, a1, a2, a3, a4, a5, a6⟩
  · exact ⟨h.1, Or.inl ⟨rfl, h0⟩⟩
  · have hlt : b < w.heap.size := by
      rcases Nat.lt_or_ge b w.heap.size with e | e
      · exact e
      · rw [Array.getElem?_eq_none e] at a2; cases a2
    exact ⟨h.1, Or.inr ⟨b, cap, cur, rfl, a1, (g.block b hlt (hS b a1)).trans a2, a3, a4, a5, a6⟩⟩
theorem Apps.append {w : World} {N B p r f nn ep : Nat} {O : Nat → Prop} {fa : Option Addr} {L : List ByteArray} {u : Nat} {M : DiskM} {v1 v2 : Value} {l1 l2 : List ByteArray} {wx : World} (h : Apps w N B p r f nn ep O fa L u M v1 v2 l1 l2 wx) (hf : f + nn ≤ N) (hu : u ≤ nn) (he : ep < 4294967296) (t : ByteArray) (ht : t.size ≤ 150) :
    Calls Try.prog 45 #[.pointer (some ⟨r, 0, none⟩), .string t] wx fun e w' => e = .returned (.tuple #[.bool (decide (u + costOf t.size ≤ nn)), .int .i64 0]) ∧ Apps w N B p r f nn ep O fa L (appU nn u t) (appM M f nn ep u t) v1 v2 l1 l2 w' ∧ Grew (fun k => O k ∨ k = r) wx w' := by
  refine (lawAppend_any r p f nn ep u t M h.d h.live wx h.ring h.at' (by rw [h.own]; exact h.lay.ro) (by rw [h.n]; exact hf) hu he (by omega)).mono ?_
  rintro e w' ⟨rfl, hd, hr', hg⟩
  obtain ⟨s1, s2, s3, s4, s5⟩ := appM_same M f nn ep u t
  rw [h.own] at hg
  have hB : ∀ k, B ≤ k → ¬ (O k ∨ k = r) := fun k hk e => e.elim (fun e => by have := h.lay.lowO k e; omega) (fun e => by have := h.lay.lowR; omega)
  refine ⟨rfl, ⟨h.lay, s1.trans h.d, s5 h.live, s2.trans h.n, s3.trans h.own, hd, hr', own_grew h.one hg hB, own_grew h.two hg hB, h.apart, h.few.grew hg ?_, fun b e => ⟨Nat.lt_of_lt_of_le (h.fewap b e).1 hg.size, (h.fewap b e).2⟩, hg.below h.below h.below.size ?_, Nat.le_trans h.size hg.size⟩, hg⟩
  · rintro b hb (e | e)
    · exact (h.lay.lowL b hb).1 e
    · exact (h.lay.lowL b hb).2 e
  · rintro k (e | e)
    · exact h.lay.highO k e
    · rw [e]; exact h.lay.highR
theorem Apps.more1 {w : World} {N B p r f nn ep : Nat} {O : Nat → Prop} {fa : Option Addr} {L : List ByteArray} {u : Nat} {M : DiskM} {v1 v2 : Value} {l1 l2 k : List ByteArray} {g cap : Nat} {wx wy : World} (h : Apps w N B p r f nn ep O fa L u M v1 v2 l1 l2 wx) (hm : MoreStrs wx B v1 l1 k g cap wy) :
    Apps w N B p r f nn ep O fa L u M (.slice (some ⟨g, 0, none⟩) (l1.length + k.length) cap) v2 (l1 ++ k) l2 wy := by
  have hg : Grew (fun k => v1.ownBlock = some k) wx wy := (Grew.refl wx).grown hm.grown fun _ _ e => e
  have hlt := h.one.lt
  have hlt2 := h.two.lt
  have hsym : v2.ownBlock = none ∨ v2.ownBlock ≠ v1.ownBlock := by
    rcases h.apart with e | e
    · cases e2 : v2.ownBlock with
      | none => exact Or.inl rfl
      | some q => exact Or.inr (by rw [e]; simp)
    · exact Or.inr fun e2 => e e2.symm
  refine ⟨h.lay, h.d, h.live, h.n, h.own, h.at'.keep hg fun q hq e => ?_, h.ring.keep hg fun e => ?_, by rw [List.length_append]; exact hm.own, h.two.kept hm.grown hsym, Or.inr ?_, h.few.grew hg fun b hb e => (h.fewap b hb).2.1 e, fun b hb => ⟨Nat.lt_of_lt_of_le (h.fewap b hb).1 hg.size, fun e => ?_, (h.fewap b hb).2.2⟩, hm.below h.below h.one h.wB h.below.size, Nat.le_trans h.size hg.size⟩
  · rw [h.own] at hq
    have := (hlt q e).1
    have := h.lay.lowO q hq
    omega
  · have := (hlt r e).1
    have := h.lay.lowR
    omega
  · show some g ≠ v2.ownBlock
    intro e
    rcases hm.lies with e1 | e1
    · rcases h.apart with e2 | e2
      · rw [e2] at e1; cases e1
      · exact e2 (e1.trans e)
    · have := (hlt2 g e.symm).2
      omega
  · have e : some g = some b := e
    obtain rfl : g = b := Option.some.inj e
    rcases hm.lies with e1 | e1
    · exact (h.fewap g hb).2.1 e1
    · have := (h.fewap g hb).1
      omega
theorem Apps.more2 {w : World} {N B p r f nn ep : Nat} {O : Nat → Prop} {fa : Option Addr} {L : List ByteArray} {u : Nat} {M : DiskM} {v1 v2 : Value} {l1 l2 k : List ByteArray} {g cap : Nat} {wx wy : World} (h : Apps w N B p r f nn ep O fa L u M v1 v2 l1 l2 wx) (hm : MoreStrs wx B v2 l2 k g cap wy) :
    Apps w N B p r f nn ep O fa L u M v1 (.slice (some ⟨g, 0, none⟩) (l2.length + k.length) cap) l1 (l2 ++ k) wy := by
  have hg : Grew (fun k => v2.ownBlock = some k) wx wy := (Grew.refl wx).grown hm.grown fun _ _ e => e
  have hlt := h.one.lt
  have hlt2 := h.two.lt
  refine ⟨h.lay, h.d, h.live, h.n, h.own, h.at'.keep hg fun q hq e => ?_, h.ring.keep hg fun e => ?_, h.one.kept hm.grown h.apart, by rw [List.length_append]; exact hm.own, ?_, h.few.grew hg fun b hb e => (h.fewap b hb).2.2 e, fun b hb => ⟨Nat.lt_of_lt_of_le (h.fewap b hb).1 hg.size, (h.fewap b hb).2.1, fun e => ?_⟩, hm.below h.below h.two h.wB h.below.size, Nat.le_trans h.size hg.size⟩
  · rw [h.own] at hq
    have := (hlt2 q e).1
    have := h.lay.lowO q hq
    omega
  · have := (hlt2 r e).1
    have := h.lay.lowR
    omega
  · cases e1 : v1.ownBlock with
    | none => exact Or.inl rfl
    | some q =>
      refine Or.inr ?_
      show some q ≠ some g
      intro e
      have e' : q = g := Option.some.inj e
      subst e'
      rcases hm.lies with e2 | e2
      · rcases h.apart with e3 | e3
        · rw [e1] at e3; cases e3
        · exact e3 (e1.trans e2.symm)
      · have := (hlt q e1).2
        omega
  · have e : some g = some b := e
    obtain rfl : g = b := Option.some.inj e
    rcases hm.lies with e1 | e1
    · exact (h.fewap g hb).2.2 e1
    · have := (h.fewap g hb).1
      omega
/-- the frames of a record, in a row of their own -/
def FrAt (g C : Nat) (F : Nat → ByteArray) (w : World) : Prop := ∀ i (h : i < ((List.range C).map F).length), w.cell? ⟨g, i, none⟩ = some (.string ((List.range C).map F)[i])
theorem Apps.frames {w : World} {N B p r f nn ep : Nat} {O : Nat → Prop} {fa : Option Addr} {L : List ByteArray} {u : Nat} {M : DiskM} {v1 v2 : Value} {l1 l2 : List ByteArray} {wx : World} (h : Apps w N B p r f nn ep O fa L u M v1 v2 l1 l2 wx) (hu : u < 1000) (he : ep < 4294967296) (t : ByteArray) (ht : t.size ≤ 150) (x : Int) (hx : x = (u : Int) + 1) :
    Calls Try.prog 44 #[.int .u32 ep, .int .i64 x, .string t] wx fun e w' => ∃ g cap, e = .returned (.slice (some ⟨g, 0, none⟩) (costOf t.size) cap) ∧ FrAt g (costOf t.size) (recFrame ep u t) w' ∧ wx.heap.size ≤ g ∧ g < w'.heap.size ∧ Apps w N B p r f nn ep O fa L u M v1 v2 l1 l2 w' := by
  refine (refFrames_any ep u x hx t wx he (by omega) (by omega)).mono ?_
  rintro e w' ⟨v, rfl, ho, hb⟩
  obtain ⟨d, hd, _⟩ := cost_pos t.size
  obtain ⟨g, cap, rfl, h1, h2⟩ := ho.form (by omega)
  have hs := strs_own ho
  refine ⟨g, cap, rfl, ?_, h1, h2, h.step hb⟩
  rcases hs.2 with e | ⟨b, e, hr⟩
  · omega
  · cases e
    exact hr
theorem FrAt.grew {g C : Nat} {F : Nat → ByteArray} {S : Nat → Prop} {w w' : World} (h : FrAt g C F w) (hg : Grew S w w') (hS : ¬ S g) : FrAt g C F w' := fun i hi => by rw [hg.cell (p := ⟨g, i, none⟩) (cell_lt (h i hi)) hS]; exact h i hi
theorem Apps.sync {w : World} {N B p r f nn ep : Nat} {O : Nat → Prop} {fa : Option Addr} {L : List ByteArray} {u : Nat} {M : DiskM} {v1 v2 : Value} {l1 l2 : List ByteArray} {wx : World} (h : Apps w N B p r f nn ep O fa L u M v1 v2 l1 l2 wx) :
    Calls Try.prog 36 #[.pointer (some ⟨p, 0, none⟩)] wx fun e w' => e = .returned (.int .i64 0) ∧ Apps w N B p r f nn ep O fa L u { M with S := M.T } v1 v2 l1 l2 w' := by
  refine (lawSync_live p M h.d h.live wx h.at').mono ?_
  rintro e w' ⟨rfl, hd, hg⟩
  rw [h.own] at hg
  have hB : ∀ k, B ≤ k → ¬ O k := fun k hk e => by have := h.lay.lowO k e; omega
  exact ⟨rfl, h.lay, h.d, live_synced h.live, h.n, h.own, hd, h.ring.keep hg h.lay.ro, own_grew h.one hg hB, own_grew h.two hg hB, h.apart, h.few.grew hg fun b hb => (h.lay.lowL b hb).1, fun b e => ⟨Nat.lt_of_lt_of_le (h.fewap b e).1 hg.size, (h.fewap b e).2⟩, hg.below h.below h.below.size h.lay.highO, Nat.le_trans h.size hg.size⟩
end Go.Proofs.Ytakngnigpncmkaa
