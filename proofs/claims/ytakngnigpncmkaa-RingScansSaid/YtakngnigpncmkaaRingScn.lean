/-
  RingScans: for all sectors the law answers true.
-/
import Derived.Test.YtakngnigpncmkaaRingApps
import Derived.Deep.RegionWith
namespace Go.Proofs.Ytakngnigpncmkaa
open Go.RowKit

theorem mask63 (k : Int) : ∃ p : Nat, bits .and .i64 k 63 = (p : Int) ∧ p < 64 := by
  refine ⟨(BitVec.ofInt 64 k &&& BitVec.ofInt 64 63).toNat, ?_, ?_⟩
  · have h : (BitVec.ofInt 64 k &&& BitVec.ofInt 64 63).toNat ≤ 63 := by
      rw [BitVec.toNat_and]
      exact Nat.le_trans Nat.and_le_right (by decide)
    show IntKind.i64.wrap ((BitVec.ofInt 64 k &&& BitVec.ofInt 64 63).toNat : Int) = _
    generalize (BitVec.ofInt 64 k &&& BitVec.ofInt 64 63).toNat = y at *
    simp only [IntKind.wrap, IntKind.bits, IntKind.signed]
    simp
    omega
  · rw [BitVec.toNat_and]
    exact Nat.lt_of_le_of_lt Nat.and_le_right (by decide)
theorem xor8 (x y : Int) : ∃ b : UInt8, bits .xor .u8 x y = (b.toNat : Int) := by
  have h : ∀ z : Int, ∃ b : UInt8, IntKind.u8.wrap z = (b.toNat : Int) := fun z => by
    refine ⟨UInt8.ofNat (z % 256).toNat, ?_⟩
    simp only [IntKind.wrap, IntKind.bits, IntKind.signed, UInt8.toNat_ofNat']
    simp
    omega
  exact h _
/-- a disk of eight sectors, two rows of texts -/
structure Scn (w : World) (B p : Nat) (O : Nat → Prop) (fa : Option Addr) (L : List ByteArray) (M : DiskM) (v1 v2 : Value) (l1 l2 : List ByteArray) (wx : World) : Prop where
  lowO : ∀ k, O k → k < B
  highO : ∀ k, O k → w.heap.size ≤ k
  fewO : ∀ b, fa = some ⟨b, 0, none⟩ → ¬ O b
  d : M.d = p
  live : M.Live
  n : M.n = 8
  own : M.own = O
  at' : DiskAt M wx
  one : wx.ownsRow B 9 1 v1 l1.length (textsOf l1)
  two : wx.ownsRow B 9 1 v2 l2.length (textsOf l2)
  apart : v1.ownBlock = none ∨ v1.ownBlock ≠ v2.ownBlock
  few : StrsAt wx fa L.length L
  fewap : ∀ b, fa = some ⟨b, 0, none⟩ → b < wx.heap.size ∧ v1.ownBlock ≠ some b ∧ v2.ownBlock ≠ some b
  wB : w.heap.size ≤ B
  below : Below w.heap.size w wx
  size : B ≤ wx.heap.size
theorem Scn.step {w : World} {B p : Nat} {O : Nat → Prop} {fa : Option Addr} {L : List ByteArray} {M : DiskM} {v1 v2 : Value} {l1 l2 : List ByteArray} {wx wy : World} (h : Scn w B p O fa L M v1 v2 l1 l2 wx) (hb : Below wx.heap.size wx wy) :
    Scn w B p O fa L M v1 v2 l1 l2 wy :=
  ⟨h.lowO, h.highO, h.fewO, h.d, h.live, h.n, h.own, h.at'.keep (Grew.of_below (S := fun _ => False) hb) fun _ _ e => e, own_below h.one hb, own_below h.two hb, h.apart, h.few.below hb, fun b e => ⟨Nat.lt_of_lt_of_le (h.fewap b e).1 hb.size, (h.fewap b e).2⟩, h.wB, h.below.trans (hb.mono h.below.size), Nat.le_trans h.size hb.size⟩
theorem Scn.more1 {w : World} {B p : Nat} {O : Nat → Prop} {fa : Option Addr} {L : List ByteArray} {M : DiskM} {v1 v2 : Value} {l1 l2 k : List ByteArray} {g cap : Nat} {wx wy : World} (h : Scn w B p O fa L M v1 v2 l1 l2 wx) (hm : MoreStrs wx B v1 l1 k g cap wy) :
    Scn w B p O fa L M (.slice (some ⟨g, 0, none⟩) (l1.length + k.length) cap) v2 (l1 ++ k) l2 wy := by
  have hg : Grew (fun k => v1.ownBlock = some k) wx wy := (Grew.refl wx).grown hm.grown fun _ _ e => e
  have hlt := h.one.lt
  have hlt2 := h.two.lt
  have hsym : v2.ownBlock = none ∨ v2.ownBlock ≠ v1.ownBlock := by
    rcases h.apart with e | e
    · cases e2 : v2.ownBlock with
      | none => exact Or.inl rfl
      | some q => exact Or.inr (by rw [e]; simp)
    · exact Or.inr fun e2 => e e2.symm
  refine ⟨h.lowO, h.highO, h.fewO, h.d, h.live, h.n, h.own, h.at'.keep hg fun q hq e => ?_, by rw [List.length_append]; exact hm.own, h.two.kept hm.grown hsym, Or.inr ?_, h.few.grew hg fun b hb e => (h.fewap b hb).2.1 e, fun b hb => ⟨Nat.lt_of_lt_of_le (h.fewap b hb).1 hg.size, fun e => ?_, (h.fewap b hb).2.2⟩, h.wB, hm.below h.below h.one h.wB h.below.size, Nat.le_trans h.size hg.size⟩
  · rw [h.own] at hq
    have := (hlt q e).1
    have := h.lowO q hq
    omega
  · show some g ≠ v2.ownBlock
    intro e
    rcases hm.lies with e1 | e1
    · rcases h.apart with e2 | e2
      · rw [e2] at e1; cases e1
      · exact e2 (e1.trans e)
    · have := (hlt2 g e.symm).2
      omega
  · have e : some g = some b := e
    obtain rfl : g = b := Option.some.inj e
    rcases hm.lies with e1 | e1
    · exact (h.fewap g hb).2.1 e1
    · have := (h.fewap g hb).1
      omega
theorem Scn.more2 {w : World} {B p : Nat} {O : Nat → Prop} {fa : Option Addr} {L : List ByteArray} {M : DiskM} {v1 v2 : Value} {l1 l2 k : List ByteArray} {g cap : Nat} {wx wy : World} (h : Scn w B p O fa L M v1 v2 l1 l2 wx) (hm : MoreStrs wx B v2 l2 k g cap wy) :
    Scn w B p O fa L M v1 (.slice (some ⟨g, 0, none⟩) (l2.length + k.length) cap) l1 (l2 ++ k) wy := by
  have hg : Grew (fun k => v2.ownBlock = some k) wx wy := (Grew.refl wx).grown hm.grown fun _ _ e => e
  have hlt := h.one.lt
  have hlt2 := h.two.lt
  refine ⟨h.lowO, h.highO, h.fewO, h.d, h.live, h.n, h.own, h.at'.keep hg fun q hq e => ?_, h.one.kept hm.grown h.apart, by rw [List.length_append]; exact hm.own, ?_, h.few.grew hg fun b hb e => (h.fewap b hb).2.2 e, fun b hb => ⟨Nat.lt_of_lt_of_le (h.fewap b hb).1 hg.size, (h.fewap b hb).2.1, fun e => ?_⟩, h.wB, hm.below h.below h.two h.wB h.below.size, Nat.le_trans h.size hg.size⟩
  · rw [h.own] at hq
    have := (hlt2 q e).1
    have := h.lowO q hq
    omega
  · cases e1 : v1.ownBlock with
    | none => exact Or.inl rfl
    | some q =>
      refine Or.inr ?_
      show some q ≠ some g
      intro e
      have e' : q = g := Option.some.inj e
      subst e'
      rcases hm.lies with e2 | e2
      · rcases h.apart with e3 | e3
        · rw [e1] at e3; cases e3
        · exact e3 (e1.trans e2.symm)
      · have := (hlt q e1).2
        omega
  · have e : some g = some b := e
    obtain rfl : g = b := Option.some.inj e
    rcases hm.lies with e1 | e1
    · exact (h.fewap g hb).2.2 e1
    · have := (h.fewap g hb).1
      omega
theorem Scn.frames {w : World} {B p : Nat} {O : Nat → Prop} {fa : Option Addr} {L : List ByteArray} {M : DiskM} {v1 v2 : Value} {l1 l2 : List ByteArray} {wx : World} (h : Scn w B p O fa L M v1 v2 l1 l2 wx) (ep u : Nat) (hu : u < 1000) (he : ep < 4294967296) (t : ByteArray) (ht : t.size ≤ 150) (x : Int) (hx : x = (u : Int) + 1) :
    Calls Try.prog 44 #[.int .u32 ep, .int .i64 x, .string t] wx fun e w' => ∃ g cap, e = .returned (.slice (some ⟨g, 0, none⟩) (costOf t.size) cap) ∧ FrAt g (costOf t.size) (recFrame ep u t) w' ∧ Scn w B p O fa L M v1 v2 l1 l2 w' := by
  refine (refFrames_any ep u x hx t wx he (by omega) (by omega)).mono ?_
  rintro e w' ⟨v, rfl, ho, hb⟩
  obtain ⟨d, hd, _⟩ := cost_pos t.size
  obtain ⟨g, cap, rfl, h1, h2⟩ := ho.form (by omega)
  have hs := strs_own ho
  refine ⟨g, cap, rfl, ?_, h.step hb⟩
  rcases hs.2 with e | ⟨b, e, hr⟩
  · omega
  · cases e
    exact hr
theorem own_set {w : World} {B n g cap i : Nat} {l : List ByteArray} (s : ByteArray) (h : w.ownsRow B 9 1 (.slice (some ⟨g, 0, none⟩) n cap) n (textsOf l)) (_hi : i < n) : (w.setCell ⟨g, i, none⟩ (.string s)).ownsRow B 9 1 (.slice (some ⟨g, 0, none⟩) n cap) n (textsOf (l.set i s)) := by
  rcases h.2 with ⟨e, _⟩ | ⟨g', cap', cur, e, a1, a2, a3, a4, a5, a6⟩
  · cases e
  · cases e
    refine ⟨by have := h.1; simpa [textsOf] using this, Or.inr ⟨g, cap, cur.setIfInBounds i (.string s), rfl, a1, ?_, a3, a4, by simpa using a5, ?_⟩⟩
    · simp [World.setCell, Array.getElem?_modify, a2]
    · have e1 : textsOf (l.set i s) = (textsOf l).set i (.string s) := by simp [textsOf, List.map_set]
      rw [e1, ← a6]
      simp [List.take_set]
theorem own_free {w : World} {B n g cap i : Nat} {xs : List Value} (h : w.ownsRow B 9 1 (.slice (some ⟨g, 0, none⟩) n cap) n xs) : w.frozen? ⟨g, i, none⟩ = false := by
  rcases h.2 with ⟨e, _⟩ | ⟨g', cap', cur, e, a1, a2, a3, a4, a5, a6⟩
  · cases e
  · cases e
    simp [World.frozen?, a2]
theorem Scn.store {w : World} {B p : Nat} {O : Nat → Prop} {fa : Option Addr} {L : List ByteArray} {M : DiskM} {n g cap i : Nat} {v2 : Value} {l1 l2 : List ByteArray} {wx : World} (h : Scn w B p O fa L M (.slice (some ⟨g, 0, none⟩) n cap) v2 l1 l2 wx) (hn : l1.length = n) (s : ByteArray) (hi : i < n) :
    Scn w B p O fa L M (.slice (some ⟨g, 0, none⟩) n cap) v2 (l1.set i s) l2 (wx.setCell ⟨g, i, none⟩ (.string s)) := by
  subst hn
  have hg : Grew (fun k => k = g) wx (wx.setCell ⟨g, i, none⟩ (.string s)) := (Grew.refl wx).setCell _ _ fun _ => rfl
  have hlt := h.one.lt g rfl
  refine ⟨h.lowO, h.highO, h.fewO, h.d, h.live, h.n, h.own, h.at'.keep hg fun q hq e => ?_, by rw [List.length_set]; exact own_set s h.one hi, ?_, h.apart, h.few.grew hg fun b hb e => ?_, fun b hb => ⟨Nat.lt_of_lt_of_le (h.fewap b hb).1 hg.size, (h.fewap b hb).2⟩, h.wB, h.below.setCell (Nat.le_trans h.wB hlt.1) _, Nat.le_trans h.size hg.size⟩
  · rw [h.own] at hq
    have := h.lowO q hq
    omega
  · refine h.two.kept (row := some g) ⟨hg.os, hg.tape, hg.output, hg.size, fun k hk hne => hg.block k hk fun e => hne (by rw [e])⟩ ?_
    rcases h.apart with e | e
    · cases e
    · exact Or.inr fun e2 => e (by rw [e2]; rfl)
  · subst e
    exact (h.fewap b hb).2.1 rfl
theorem Scn.write {w : World} {B p : Nat} {O : Nat → Prop} {fa : Option Addr} {L : List ByteArray} {M : DiskM} {v1 v2 : Value} {l1 l2 : List ByteArray} {wx : World} (h : Scn w B p O fa L M v1 v2 l1 l2 wx) (k : Nat) (hk : k < 8) (s : ByteArray) (hs : s.size = 64) :
    Calls Try.prog 34 #[.pointer (some ⟨p, 0, none⟩), .int .i64 (k : Int), .string s] wx fun e w' => e = .returned (.int .i64 0) ∧ Scn w B p O fa L (M.wrote k (txtf s)) v1 v2 l1 l2 w' := by
  refine (lawWrite_live p M h.d k (by rw [h.n]; exact hk) s (by omega) h.live wx h.at').mono ?_
  rintro e w' ⟨rfl, hd, hg⟩
  rw [h.own] at hg
  have hB : ∀ k, B ≤ k → ¬ O k := fun k hk e => by have := h.lowO k e; omega
  exact ⟨rfl, h.lowO, h.highO, h.fewO, h.d, live_wrote h.live _ _, h.n, h.own, hd, own_grew h.one hg hB, own_grew h.two hg hB, h.apart, h.few.grew hg fun b hb => h.fewO b hb, fun b e => ⟨Nat.lt_of_lt_of_le (h.fewap b e).1 hg.size, (h.fewap b e).2⟩, h.wB, hg.below h.below h.below.size h.highO, Nat.le_trans h.size hg.size⟩
/-- the first k sectors -/
def firstK (M : DiskM) (k : Nat) : List ByteArray := (List.range k).map fun i => sectB M (0 + i)
theorem firstK_more (M : DiskM) (k : Nat) (s : ByteArray) (hs : s.size = 64) : firstK M k ++ [s] = firstK (M.wrote k (txtf s)) (k + 1) := by
  unfold firstK
  rw [List.range_succ, List.map_append]
  congr 1
  · refine List.map_congr_left fun i hi => ?_
    have : i < k := by simpa using hi
    rw [sectB_other _ _ _ _ (by omega)]
  · simp [sectB_wrote M k s hs]
end Go.Proofs.Ytakngnigpncmkaa
