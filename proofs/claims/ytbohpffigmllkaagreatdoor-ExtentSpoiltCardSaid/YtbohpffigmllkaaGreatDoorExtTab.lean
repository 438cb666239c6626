/-
  A table by sums in a Try: what a key had is remembered, and it is put into: contracts.
-/
import Derived.Test.YtbohpffigmllkaaGreatDoorExtKept
import Derived.Maps.Own
namespace Go.Proofs.YtbohpffigmllkaaGreatDoor
open Go.RowKit Go.Maps Go.ChangeMaps Go.WideShapes

def tblK (P : Program) : Tbl (List UInt8) Int where
  t := 78
  kt := 51
  et := 3
  R := plainElem P 3
  kv := fun l => .agg (bytesOf l).toArray
  kl := fun l => .string l
  vv := fun a => .int .i64 a
  el := fun a => .lit (.int .i64 a)
  ok := fun l => l.length = 32
  okv := fun a => (Lit.int .i64 a).wf = true
  z := 0
theorem laidOutP : laidOutB Tryz.prog = true := by kernel_rfl
theorem tblK_fine : (tblK Tryz.prog).Fine where
  und := Tryz.underlying78
  law := Keyed.of_law (deep_law_laid laidOutP (m := 2) (by omega) (of_decide_eq_true (by kernel_rfl)) (by kernel_rfl) (by kernel_rfl))
  key := fun k h => key_sum k h
  isKey := fun _ => trivial
  inj := fun _ _ e => Lit.string.inj e
  val := fun v h => by
    dsimp only [tblK] at h ⊢
    exact plainElem_int Tryz.underlying3 h
  inv := fun x v ps h => by
    dsimp only [tblK] at h ⊢
    obtain ⟨a, rfl, e, _⟩ := plainElem_int_inv Tryz.underlying3 h
    have e1 : DataW.lit (.int .i64 v) = .lit (.int .i64 a) := congrArg Prod.fst e
    exact congrArg (Value.int .i64) (Lit.int.inj (DataW.lit.inj e1)).2.symm
  zero := fun w => by kernel_rfl
  okz := (by decide : (Lit.int .i64 0).wf = true)
theorem rangeNew (w : World) (L : List Value) (t : TypeId) : (w.alloc (.cells L.toArray t)).rangeAt w.heap.size 0 L := fun j v hv => by
  rw [Nat.zero_add, World.cell?_alloc_new]
  simpa using hv
theorem rangeKeep {S : Nat → Prop} {w w' : World} {b : Nat} {L : List Value} (h : w.rangeAt b 0 L) (hb : b < w.heap.size) (g : Grew S w w') (hS : ¬ S b) : w'.rangeAt b 0 L := fun j v hv => by
  rw [g.cell (p := ⟨b, 0 + j, none⟩) hb hS]
  exact h j v hv
set_option maxRecDepth 100000 in
set_option maxHeartbeats 1000000 in
theorem keepK (B g dp b : Nat) (v : Value) (fs : List Step) (F : List UInt8 → Option Int) (L : List (List UInt8)) (k : List UInt8) (w : World) (h : LogAt B g (dp + 1) v fs w) (hl : fs.length < 100000) (hB : B ≤ w.heap.size) (hT : Tab (tblK Tryz.prog) b F L w) (hok : k.length = 32) :
    Calls Tryz.prog 99 #[.pointer (some ⟨g, 0, none⟩), .map (some b), .agg (bytesOf k).toArray] w fun e w' => e = .returned (.tuple #[]) ∧ ∃ v' s, LogAt B g (dp + 1) v' (fs ++ [s]) w' ∧ Grew (fun q => q = g ∨ v.ownBlock = some q) w w' ∧ (∀ o, ¬ o = 1 → w'.cell? ⟨g, o, none⟩ = w.cell? ⟨g, o, none⟩) ∧ (∀ o, w'.frozen? ⟨g, o, none⟩ = w.frozen? ⟨g, o, none⟩) := by
  have hmf : ∀ (fn : Fn) (first cap : Array Value) (w : World), (Instr.makeFunc fn first cap).run Tryz.prog w = .ok (.func fn first cap) w := fun _ _ _ _ => rfl
  obtain ⟨W1, hW1⟩ : ∃ W1, w.alloc (.cells #[.map (some b)] 78) = W1 := ⟨_, rfl⟩
  obtain ⟨W2, hW2⟩ : ∃ W2, W1.alloc (.cells (bytesOf k).toArray 51) = W2 := ⟨_, rfl⟩
  obtain ⟨u, hu⟩ : ∃ u, (F k).getD 0 = u := ⟨_, rfl⟩
  obtain ⟨hd, hhd⟩ : ∃ hd, (F k).isSome = hd := ⟨_, rfl⟩
  have s1 : W1.heap.size = w.heap.size + 1 := by rw [← hW1]; simp
  have s2 : W2.heap.size = w.heap.size + 2 := by rw [← hW2]; simp [s1]
  have g2 : Grew (fun _ => False) w W2 := by rw [← hW2, ← hW1]; exact ((Grew.refl w).alloc _).alloc _
  have hT2 : Tab (tblK Tryz.prog) b F L W2 := hT.keep g2 fun e => e
  have hlk : (Instr.lookup 78 (.map (some b)) (.agg (bytesOf k).toArray) true).run Tryz.prog W2 = .ok (.tuple #[.int .i64 u, .bool hd]) W2 := by
    have := hT2.look tblK_fine k hok
    rw [hhd] at this
    have e : (tblK Tryz.prog).vv ((F k).getD (tblK Tryz.prog).z) = .int .i64 u := by rw [← hu]; rfl
    rw [e] at this
    exact this
  have cm2 : W2.cell? ⟨w.heap.size, 0, none⟩ = some (.map (some b)) := by
    rw [← hW2, ← hW1, World.cell?_alloc_past (hn := by simp), World.cell?_alloc_new]
    rfl
  have hr2 : W2.rangeAt (w.heap.size + 1) 0 (bytesOf k) := by rw [← hW2, ← s1]; exact rangeNew _ _ _
  have HIk : Hid ((Tryz.prog.info? 51).map (·.size) = some (bytesOf k).length) := Lib.hid (by rw [bytesOf_len, hok]; kernel_rfl)
  obtain ⟨W4, hW4⟩ : ∃ W4, (W2.alloc (.cells #[.int .i64 u] 3)).alloc (.cells #[.bool hd] 4) = W4 := ⟨_, rfl⟩
  have g4 : Grew (fun _ => False) W2 W4 := by rw [← hW4]; exact ((Grew.refl W2).alloc _).alloc _
  have g04 : Grew (fun _ => False) w W4 := g2.trans g4
  have hL4 : LogAt B g (dp + 1) v fs W4 := h.keep g04 (fun e => e) (fun _ _ e => e)
  have HBk := Lib.hid (back_some B g dp v fs (127, #[.pointer (some ⟨w.heap.size + 3, 0, none⟩), .pointer (some ⟨w.heap.size + 2, 0, none⟩), .pointer (some ⟨w.heap.size, 0, none⟩), .pointer (some ⟨w.heap.size + 1, 0, none⟩)]) W4 hL4 hl (Nat.le_trans hB g04.size))
  have hgl := h.lt
  have HFin : Hid (∀ w', Grew (fun q => q = g ∨ v.ownBlock = some q) W4 w' → Grew (fun q => q = g ∨ v.ownBlock = some q) w w') := Lib.hid fun w' hg => (g04.mono fun _ _ e => e.elim).step hg fun _ _ e => e
  have HC := Lib.hid (fun o => (g04.cell (p := ⟨g, o, none⟩) hgl fun e => e))
  have HZ := Lib.hid (fun o => (g04.frozen (p := ⟨g, o, none⟩) hgl fun e => e))
  obtain ⟨N, hN⟩ : ∃ N, bytesOf k = N := ⟨_, rfl⟩
  rw [hN] at hW2 hlk hr2 HIk ⊢
  clear s1 g2 g4 g04 hT2 hL4 h hT hu hhd hN
  subst hW4
  subst hW2
  subst hW1
  unfold stepV at HBk
  go_enter Tryz.func99, Tryz.ntmps99
  go_wp2_with (with_reducible refine wpList_load_mid rfl 51 _ rfl (w.heap.size + 1) 0 rfl N _ hr2 Tryz.underlying51 rfl HIk.out ?_)
  refine HBk.out.mono ?_
  rintro e w1 ⟨rfl, v', hl1, hg1, hk1, hk2⟩
  have HF2 := Lib.hid (HFin.out w1 hg1)
  have HL1 := Lib.hid hl1
  have HK1 := Lib.hid fun o ho => (hk1 o ho).trans (HC.out o)
  have HK2 := Lib.hid fun o => (hk2 o).trans (HZ.out o)
  clear hl1 hg1 hk1 hk2 HC HZ HBk HFin hlk s2 hgl hr2 cm2
  go_wp2_with fail
  go_end0
  exact ⟨rfl, v', _, HL1.out, HF2.out, HK1.out, HK2.out⟩
set_option maxRecDepth 100000 in
set_option maxHeartbeats 1000000 in
/-- a Put in a Try -/
theorem putK (B g dp b : Nat) (v : Value) (fs : List Step) (F : List UInt8 → Option Int) (L : List (List UInt8)) (k : List UInt8) (y : Int) (w : World) (h : LogAt B g (dp + 1) v fs w) (hl : fs.length < 100000) (hB : B ≤ w.heap.size) (hT : Tab (tblK Tryz.prog) b F L w) (hok : k.length = 32) (hk : k ∈ L) (hL : L.length < 1000000) (hy : (Lit.int .i64 y).wf = true) (hbg : b ≠ g) :
    Calls Tryz.prog 60 #[.pointer (some ⟨g, 0, none⟩), .map (some b), .agg (bytesOf k).toArray, .int .i64 y] w fun e w' => e = .returned (.tuple #[]) ∧ Tab (tblK Tryz.prog) b (upF F k (some y)) L w' ∧ (∃ v' s, LogAt B g (dp + 1) v' (fs ++ [s]) w') ∧ Grew (fun q => q = g ∨ v.ownBlock = some q ∨ q = b) w w' := by
  obtain ⟨W1, hW1⟩ : ∃ W1, w.alloc (.cells (bytesOf k).toArray 51) = W1 := ⟨_, rfl⟩
  have s1 : W1.heap.size = w.heap.size + 1 := by rw [← hW1]; simp
  have g1 : Grew (fun _ => False) w W1 := by rw [← hW1]; exact (Grew.refl w).alloc _
  have hr1 : W1.rangeAt w.heap.size 0 (bytesOf k) := by rw [← hW1]; exact rangeNew _ _ _
  have hL1 : LogAt B g (dp + 1) v fs W1 := h.keep g1 (fun e => e) (fun _ _ e => e)
  have hT1 : Tab (tblK Tryz.prog) b F L W1 := hT.keep g1 fun e => e
  have HKp := Lib.hid (keepK B g dp b v fs F L k W1 hL1 hl (by omega) hT1 hok)
  have HIk : Hid ((Tryz.prog.info? 51).map (·.size) = some (bytesOf k).length) := Lib.hid (by rw [bytesOf_len, hok]; kernel_rfl)
  have hbt := hT1.lt
  have hgl := hL1.lt
  have hwl : w.heap.size < W1.heap.size := by omega
  have hvo : ∀ q, v.ownBlock = some q → q < w.heap.size := fun q hq => (h.row.lt q hq).2
  have hbv : ¬ (b = g ∨ v.ownBlock = some b) := by
    rintro (e | e)
    · exact hbg e
    · obtain ⟨c, fz, e1⟩ := Lib.ownsRow_kind h.row b e
      obtain ⟨D, ⟨es, clock, e2, _⟩, _⟩ := hT.own
      rw [e1] at e2
      cases e2
  have HKeep : Hid (∀ w1, Grew (fun q => q = g ∨ v.ownBlock = some q) W1 w1 → Tab (tblK Tryz.prog) b F L w1 ∧ w1.rangeAt w.heap.size 0 (bytesOf k) ∧ Grew (fun q => q = g ∨ v.ownBlock = some q ∨ q = b) w w1) := Lib.hid fun w1 hg => ⟨hT1.keep hg hbv, rangeKeep hr1 hwl hg (by rintro (e | e); exact absurd hgl (by have := h.lt; omega); exact absurd (hvo _ e) (by omega)), (g1.mono fun _ _ e => e.elim).step hg fun q _ e => by rcases e with e | e; exact Or.inl e; exact Or.inr (Or.inl e)⟩
  have HO := Lib.hid hok
  have HY := Lib.hid hy
  have HIn := Lib.hid hk
  have HLL := Lib.hid hL
  have HBG := Lib.hid hbg
  obtain ⟨N, hN⟩ : ∃ N, bytesOf k = N := ⟨_, rfl⟩
  have HN := Lib.hid hN
  rw [hN] at hW1 hr1 HKp HIk HKeep ⊢
  clear s1 g1 hL1 hT1 h hT hbt hgl hwl hvo hbv hok hy hk hL hbg hN
  subst hW1
  go_enter Tryz.func60, Tryz.ntmps60
  go_wp2_with (with_reducible refine wpList_load_mid rfl 51 _ rfl w.heap.size 0 rfl N _ hr1 Tryz.underlying51 rfl HIk.out ?_)
  refine HKp.out.mono ?_
  rintro e w1 ⟨rfl, v', s, hl1, hg1, _, _⟩
  obtain ⟨q1, hr2, q3⟩ := HKeep.out w1 hg1
  have HT1 := Lib.hid q1
  have HG1 := Lib.hid q3
  have HL1 := Lib.hid hl1
  clear HKp hg1 q1 q3 hl1 hr1
  go_wp2_with (first
    | (with_reducible refine wpList_load_mid rfl 51 _ rfl w.heap.size 0 rfl N _ hr2 Tryz.underlying51 rfl HIk.out ?_)
    | (at_mapUpdate; (refine wpList_tab_put (T := (tblK Tryz.prog)) tblK_fine HT1.out HLL.out rfl _ _ _ rfl rfl k y (by rw [← HN.out]; rfl) rfl HIn.out HO.out HY.out ?_); (intro w2 hT2 hG2); (have HT2 := Lib.hid hT2); (have HG2 := Lib.hid hG2); clear hT2 hG2))
  go_end0
  exact ⟨rfl, HT2.out, ⟨v', s.1, s.2, HL1.out.tab HT1.out HBG.out HG2.out⟩, HG1.out.step HG2.out fun q _ e => Or.inr (Or.inr e)⟩
end Go.Proofs.YtbohpffigmllkaaGreatDoor
