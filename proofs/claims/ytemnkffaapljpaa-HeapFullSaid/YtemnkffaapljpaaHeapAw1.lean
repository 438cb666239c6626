/-
  Law 10's awake: what it runs in a Try: contract.
-/
import Derived.Test.YtemnkffaapljpaaHeapIn
namespace Go.Proofs.Ytemnkffaapljpaa
open Go.RowKit Go.Maps Go.ChangeMaps Go.WideShapes

def awA : HS := HS.new.put 0 2
def awB : HS := awA.letYoung 0 2 2
def awC : HS := awB.put 1 3
theorem plainB {S0 : Nat → Prop} {b : Nat} {t : TypeId} {x : Value} {w : World} (h : Box b t x w) (hs : ¬ S0 b) (h1 : t ≠ 1) (h2 : t ≠ 43) : Plain S0 w b := ⟨hs, _, _, _, h, h1, h2⟩
/-- awake's boxes -/
structure Aw (b : HB) (hx ax gx bx e0 : Nat) (a : Int) (g : Bool) (c : Int) (w : World) : Prop where
  bh : Box hx 54 (.pointer (some ⟨b.hb, 0, none⟩)) w
  ba : Box ax 3 (.int .i64 a) w
  bg : Box gx 4 (.bool g) w
  bb : Box bx 3 (.int .i64 c) w
  be : w.heap[e0]? = some errBox
/-- where they lie -/
structure AwP (b : HB) (hx ax gx bx e0 n0 : Nat) : Prop where
  s : ∀ k, k = hx ∨ k = ax ∨ k = gx ∨ k = bx ∨ k = e0 → ¬ b.S0 k
  lt : ax < b.B ∧ gx < b.B ∧ bx < b.B
  n1 : hx ≠ ax ∧ hx ≠ gx ∧ hx ≠ bx ∧ ax ≠ gx ∧ ax ≠ bx ∧ gx ≠ bx
  n2 : e0 ≠ ax ∧ e0 ≠ gx ∧ e0 ≠ bx
  nn : n0 ≤ ax ∧ n0 ≤ gx ∧ n0 ≤ bx ∧ n0 ≤ b.B
  own : ∀ k, b.S0 k → n0 ≤ k
section
variable {b : HB} {hx ax gx bx e0 n0 : Nat} {a : Int} {g : Bool} {c : Int} {w w' : World}
theorem Aw.mut (h : Aw b hx ax gx bx e0 a g c w) (p : AwP b hx ax gx bx e0 n0) (k : Grew (Mut b.B b.S0 w) w w') : Aw b hx ax gx bx e0 a g c w' := by
  have kk := Kept.of k
  have hs := p.s
  refine ⟨(kk _ (plainB h.bh (hs _ (by simp)) (by decide) (by decide))).trans h.bh, (kk _ (plainB h.ba (hs _ (by simp)) (by decide) (by decide))).trans h.ba, (kk _ (plainB h.bg (hs _ (by simp)) (by decide) (by decide))).trans h.bg, (kk _ (plainB h.bb (hs _ (by simp)) (by decide) (by decide))).trans h.bb, ?_⟩
  have hlt : e0 < w.heap.size := by
    rcases Nat.lt_or_ge e0 w.heap.size with e | e
    · exact e
    · have := h.be; rw [Array.getElem?_eq_none e] at this; cases this
  refine (k.block e0 hlt ?_).trans h.be
  rintro (m | m)
  · exact hs _ (by simp) m
  · exact notFunc_err h.be m
theorem AwP.below (p : AwP b hx ax gx bx e0 n0) (k : Grew (Mut b.B b.S0 w) w w') : Grew (fun k => n0 ≤ k) w w' := k.mono fun q _ m => by
  rcases m with m | m
  · exact p.own q m
  · exact Nat.le_trans p.nn.2.2.2 m.1
theorem Aw.setA (h : Aw b hx ax gx bx e0 a g c w) (p : AwP b hx ax gx bx e0 n0) (y : Int) : Aw b hx ax gx bx e0 y g c (w.setCell ⟨ax, 0, none⟩ (.int .i64 y)) :=
  ⟨h.bh.keepSet _ _ _ p.n1.1, h.ba.set _, h.bg.keepSet _ _ _ p.n1.2.2.2.1.symm, h.bb.keepSet _ _ _ p.n1.2.2.2.2.1.symm, (Below.heap_setCell _ _ _ _ p.n2.1).trans h.be⟩
theorem Aw.setG (h : Aw b hx ax gx bx e0 a g c w) (p : AwP b hx ax gx bx e0 n0) (y : Bool) : Aw b hx ax gx bx e0 a y c (w.setCell ⟨gx, 0, none⟩ (.bool y)) :=
  ⟨h.bh.keepSet _ _ _ p.n1.2.1, h.ba.keepSet _ _ _ p.n1.2.2.2.1, h.bg.set _, h.bb.keepSet _ _ _ p.n1.2.2.2.2.2.symm, (Below.heap_setCell _ _ _ _ p.n2.2.1).trans h.be⟩
theorem Aw.setB (h : Aw b hx ax gx bx e0 a g c w) (p : AwP b hx ax gx bx e0 n0) (y : Int) : Aw b hx ax gx bx e0 a g y (w.setCell ⟨bx, 0, none⟩ (.int .i64 y)) :=
  ⟨h.bh.keepSet _ _ _ p.n1.2.2.1, h.ba.keepSet _ _ _ p.n1.2.2.2.2.1, h.bg.keepSet _ _ _ p.n1.2.2.2.2.2, h.bb.set _, (Below.heap_setCell _ _ _ _ p.n2.2.2).trans h.be⟩
end
theorem set_above {n0 : Nat} {w w' : World} (h : Grew (fun k => n0 ≤ k) w w') (x : Nat) (v : Value) (hx : n0 ≤ x) : Grew (fun k => n0 ≤ k) w (w'.setCell ⟨x, 0, none⟩ v) := h.setCell _ _ fun _ => hx
set_option maxRecDepth 100000 in
set_option maxHeartbeats 1000000 in
theorem aw1_any (b : HB) (ok : b.ok) (hbf : b.f = 2) (hbn : b.n = 4) (hx ax gx bx e0 n0 : Nat) (p : AwP b hx ax gx bx e0 n0) (w : World) (h : InTry b HS.new 0 w) (hA : Aw b hx ax gx bx e0 0 false 0 w) :
    Calls Try.prog 81 #[.pointer (some ⟨hx, 0, none⟩), .pointer (some ⟨ax, 0, none⟩), .pointer (some ⟨gx, 0, none⟩), .pointer (some ⟨bx, 0, none⟩)] w fun e w' => e = .returned (.tuple #[]) ∧ InTry b awC 10 w' ∧ Aw b hx ax gx bx e0 2 true 3 w' ∧ Grew (fun k => n0 ≤ k) w w' := by
  have t2 : ((b.f + 0 : Nat) : Int) = 2 := by rw [hbf]; rfl
  have t3 : ((b.f + 1 : Nat) : Int) = 3 := by rw [hbf]; rfl
  have HP1 : Hid (∀ t : ByteArray, t.size ≤ 64 → ∀ W, InTry b HS.new 0 W → Calls Try.prog 39 #[.pointer (some ⟨b.hb, 0, none⟩), .string t] W fun e w' => e = .returned (.int .i64 2) ∧ InTry b awA 3 w' ∧ Grew (Mut b.B b.S0 W) W w') := Lib.hid fun t ht W hW => (inPut b ok HS.new t ht (by decide) (by rw [hbn]; decide) 0 (by decide) W hW).mono (by
    rintro e w' ⟨j, hj, h0, hno, rfl, hi, hg⟩
    have hj0 : j = 0 := by
      rcases Nat.eq_zero_or_pos j with e | e
      · exact e
      · exact absurd rfl (hno 0 e)
    subst hj0
    rw [t2] at hi ⊢
    exact ⟨rfl, hi, hg⟩)
  have HL : Hid (∀ W, InTry b awA 3 W → Calls Try.prog 35 #[.pointer (some ⟨b.hb, 0, none⟩), .int .i64 2] W fun e w' => e = .returned (.bool true) ∧ InTry b awB 7 w' ∧ Grew (Mut b.B b.S0 W) W w') := Lib.hid fun W hW => by
    have := inLessYoung b ok awA 0 (by omega) (by decide) (by rw [t2]; decide) (by rw [t2]; decide) (by decide) 3 (by decide) W hW
    rw [t2, show b.f + 0 = 2 by omega] at this
    exact this
  have HP2 : Hid (∀ t : ByteArray, t.size ≤ 64 → ∀ W, InTry b awB 7 W → Calls Try.prog 39 #[.pointer (some ⟨b.hb, 0, none⟩), .string t] W fun e w' => e = .returned (.int .i64 3) ∧ InTry b awC 10 w' ∧ Grew (Mut b.B b.S0 W) W w') := Lib.hid fun t ht W hW => (inPut b ok awB t ht (by decide) (by rw [hbn]; decide) 7 (by decide) W hW).mono (by
    rintro e w' ⟨j, hj, h0, hno, rfl, hi, hg⟩
    have hj1 : j = 1 := by
      rcases Nat.lt_or_ge j 1 with e | e
      · obtain rfl : j = 0 := by omega
        exact absurd h0 (by decide)
      · rcases Nat.lt_or_ge 1 j with e2 | e2
        · exact absurd (show awB.S 1 = 0 by decide) (hno 1 e2)
        · omega
    subst hj1
    rw [t3] at hi ⊢
    exact ⟨rfl, hi, hg⟩)
  have HA := Lib.hid hA
  have HP := Lib.hid p
  have HP1x := Lib.hid (HP1.out { data := #[120] } (by decide) w h)
  have d1 := hA.bh.cell
  clear hA p h HP1 t2 t3 hbf hbn
  go_enter Try.func81, Try.ntmps81
  go_wp2_with fail
  refine HP1x.out.mono ?_
  rintro e w1 ⟨rfl, i1, g1⟩
  have A1 := HA.out.mut HP.out g1
  have i2 := i1.box (v := .int .i64 2) (HP.out.s ax (by simp)) HP.out.lt.1
  have A2 := A1.setA HP.out 2
  have G2 := Lib.hid (set_above (HP.out.below g1) ax (.int .i64 2) HP.out.nn.1)
  have HLx := Lib.hid (HL.out _ i2)
  have HA2 := Lib.hid A2
  have d1 := A1.bh.cell
  have d2 := A1.ba.cell
  have f2 := A1.ba.free
  have d3 := A2.bh.cell
  have d4 := A2.ba.cell
  clear i1 g1 A1 i2 A2 HL HP1x HA
  go_wp2_with fail
  refine HLx.out.mono ?_
  rintro e w2 ⟨rfl, i1, g1⟩
  have A1 := HA2.out.mut HP.out g1
  have i2 := i1.box (v := .bool true) (HP.out.s gx (by simp)) HP.out.lt.2.1
  have A2 := A1.setG HP.out true
  have G3 := Lib.hid (set_above (G2.out.trans (HP.out.below g1)) gx (.bool true) HP.out.nn.2.1)
  have HPx := Lib.hid (HP2.out { data := #[121] } (by decide) _ i2)
  have HA3 := Lib.hid A2
  have d5 := A1.bg.cell
  have f5 := A1.bg.free
  have d6 := A2.bh.cell
  clear i1 g1 A1 i2 A2 HLx HP2 HA2 G2 d1 d2 f2 d3 d4
  go_wp2_with fail
  refine HPx.out.mono ?_
  rintro e w3 ⟨rfl, i1, g1⟩
  have A1 := HA3.out.mut HP.out g1
  have HI := Lib.hid (i1.box (v := .int .i64 3) (HP.out.s bx (by simp)) HP.out.lt.2.2)
  have HA4 := Lib.hid (A1.setB HP.out 3)
  have G4 := Lib.hid (set_above (G3.out.trans (HP.out.below g1)) bx (.int .i64 3) HP.out.nn.2.2.1)
  have d7 := A1.bb.cell
  have f7 := A1.bb.free
  clear i1 g1 A1 HPx HA3 G3 d5 f5 d6
  go_wp2_with fail
  go_end0
  exact ⟨rfl, HI.out, HA4.out, G4.out⟩
end Go.Proofs.Ytemnkffaapljpaa
