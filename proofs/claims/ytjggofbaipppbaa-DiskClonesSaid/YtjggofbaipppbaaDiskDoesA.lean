/-
  The law's `does`: its boxes; what keeps them.
-/
import Derived.Test.YtjggofbaipppbaaDiskRel
import Derived.Test.YtjggofbaipppbaaDiskClone
import Derived.Test.YtjggofbaipppbaaCut
import Derived.Deep.DeepCutAuto
import Derived.Deep.RegionHeld3
import Derived.Deep.RegionWith
namespace Go.Proofs.Ytjggofbaipppbaa
open Go.RowKit

theorem maskD (k : Int) (n : Nat) (hn : n < 4294967296) : ∃ p : Nat, bits .and .i64 k (n : Int) = (p : Int) ∧ p ≤ n := by
  have h : (BitVec.ofInt 64 k &&& BitVec.ofInt 64 n).toNat ≤ n := by
    rw [BitVec.toNat_and]
    refine Nat.le_trans Nat.and_le_right ?_
    rw [BitVec.toNat_ofInt]
    omega
  refine ⟨_, ?_, h⟩
  show IntKind.i64.wrap ((BitVec.ofInt 64 k &&& BitVec.ofInt 64 n).toNat : Int) = _
  rw [IntWalk.i64_in _ (by omega)]
/-- which sector is asked for -/
def atOf (a : Int) : Int := if 0 ≤ a ∧ a < 40 then a % 10 else a
/-- the call's boxes: the disk's pointer, the document's disk, the step, the result, the sector -/
structure Bx (w : World) (p : Nat) (r : RefM) (kind a n : Int) (s : ByteArray) (ca : Option Addr) (cl cc : Nat) (A : Int) (wx : World) : Prop where
  b0 : wx.cell? ⟨w.heap.size, 0, none⟩ = some (.pointer (some ⟨p, 0, none⟩))
  f0 : wx.frozen? ⟨w.heap.size, 0, none⟩ = false
  q1 : Quad (w.heap.size + 1) (.slice r.sa r.n r.sc) (.slice r.na r.n r.nc) (.int .i64 r.left) (.bool r.dead) wx
  a5 : wx.heap[w.heap.size + 2]? = some (.cells #[.int .i64 kind, .int .i64 a, .int .i64 n, .string s, .slice ca cl cc] 34)
  q3 : Quad (w.heap.size + 3) (.slice none 0 0) (.slice none 0 0) (.int .i64 0) (.bool false) wx
  b4 : wx.cell? ⟨w.heap.size + 4, 0, none⟩ = some (.int .i64 A)
theorem Bx.step {w : World} {p : Nat} {r : RefM} {kind a n : Int} {s : ByteArray} {ca : Option Addr} {cl cc : Nat} {A : Int} {wx wy : World} {S : Nat → Prop} (h : Bx w p r kind a n s ca cl cc A wx) (g : Grew S wx wy) (hS : ∀ k, S k → k < w.heap.size ∨ wx.heap.size ≤ k) : Bx w p r kind a n s ca cl cc A wy := by
  have l0 := cell_lt h.b0
  have l4 := cell_lt h.b4
  have no : ∀ k, w.heap.size ≤ k → k ≤ w.heap.size + 4 → ¬ S k := fun k h1 h2 hs => by
    have := hS k hs
    omega
  exact ⟨by rw [g.cell (p := ⟨w.heap.size, 0, none⟩) l0 (no w.heap.size (by omega) (by omega))]; exact h.b0, by rw [g.frozen (p := ⟨w.heap.size, 0, none⟩) l0 (no w.heap.size (by omega) (by omega))]; exact h.f0, h.q1.grew g (no _ (by omega) (by omega)), by rw [g.block (w.heap.size + 2) (by omega) (no (w.heap.size + 2) (by omega) (by omega))]; exact h.a5, h.q3.grew g (no _ (by omega) (by omega)), by rw [g.cell (p := ⟨w.heap.size + 4, 0, none⟩) l4 (no (w.heap.size + 4) (by omega) (by omega))]; exact h.b4⟩
theorem five_at {w : World} {x : Nat} {t : TypeId} {a b c d e : Value} (h : w.heap[x]? = some (.cells #[a, b, c, d, e] t)) :
    w.cell? ⟨x, 0, none⟩ = some a ∧ w.cell? ⟨x, 1, none⟩ = some b ∧ w.cell? ⟨x, 2, none⟩ = some c ∧ w.cell? ⟨x, 3, none⟩ = some d ∧ w.cell? ⟨x, 4, none⟩ = some e := by
  simp [World.cell?, h]
/-- what a step leaves -/
def DoPost (m : DiskM) (w : World) (p : Nat) (r : RefM) (wx : World) : Prop :=
  ∃ m', m'.d = p ∧ Rel m' r ∧ DiskAt m' wx ∧ RefAt r wx ∧ Grew m.own w wx ∧ (∀ k, m'.own k → m.own k ∨ w.heap.size + 5 ≤ k) ∧ m'.n = m.n
theorem RefAt.keepC {r : RefM} {S : Nat → Prop} {w w' : World} (h : RefAt r w) (g : Grew S w w') (hS : ∀ b t, w.cell? ⟨b, 0, none⟩ = some (.string t) → ¬ S b) : RefAt r w' := by
  have key : ∀ (a : Option Addr) (f : Nat → UInt8), TextsAt w a r.n f → TextsAt w' a r.n f := fun a f ht => by
    by_cases h0 : r.n = 0
    · exact Or.inl h0
    · rcases ht with e | ⟨b, rfl, hr⟩
      · exact absurd e h0
      · exact Or.inr ⟨b, rfl, fun i hi => by rw [g.cell (p := ⟨b, i, none⟩) (cell_lt (hr i hi)) (hS b _ (hr 0 (by omega)))]; exact hr i hi⟩
  exact ⟨key _ _ h.s, key _ _ h.t, h.n, h.zs, h.zt⟩
/-- the document's disk stored to its box -/
def setX (w : World) (r : RefM) (wx : World) : World := (((wx.setCell ⟨w.heap.size + 1, 0, none⟩ (.slice r.sa r.n r.sc)).setCell ⟨w.heap.size + 1, 1, none⟩ (.slice r.na r.n r.nc)).setCell ⟨w.heap.size + 1, 2, none⟩ (.int .i64 r.left)).setCell ⟨w.heap.size + 1, 3, none⟩ (.bool r.dead)
theorem setX_grew (w : World) (r : RefM) (wx : World) : Grew (fun k => k = w.heap.size + 1) wx (setX w r wx) :=
  ((((Grew.refl (S := fun k => k = w.heap.size + 1) wx).setCell ⟨w.heap.size + 1, 0, none⟩ _ fun _ => rfl).setCell ⟨w.heap.size + 1, 1, none⟩ _ fun _ => rfl).setCell ⟨w.heap.size + 1, 2, none⟩ _ fun _ => rfl).setCell ⟨w.heap.size + 1, 3, none⟩ _ fun _ => rfl
theorem Bx.setX {w : World} {p : Nat} {r : RefM} {kind a n : Int} {s : ByteArray} {ca : Option Addr} {cl cc : Nat} {A : Int} {wx : World} (h : Bx w p r kind a n s ca cl cc A wx) (r2 : RefM) : Bx w p r2 kind a n s ca cl cc A (setX w r2 wx) := by
  have g := setX_grew w r2 wx
  have l0 := cell_lt h.b0
  have l4 := cell_lt h.b4
  have no : ∀ k, k ≠ w.heap.size + 1 → ¬ k = w.heap.size + 1 := fun _ h => h
  exact ⟨by rw [g.cell (p := ⟨w.heap.size, 0, none⟩) l0 (by show ¬ w.heap.size = _; omega)]; exact h.b0, by rw [g.frozen (p := ⟨w.heap.size, 0, none⟩) l0 (by show ¬ w.heap.size = _; omega)]; exact h.f0, ⟨quad_set h.q1.at' _ _ _ _⟩, by rw [g.block (w.heap.size + 2) (by omega) (by omega)]; exact h.a5, h.q3.grew g (by omega), by rw [g.cell (p := ⟨w.heap.size + 4, 0, none⟩) l4 (by show ¬ w.heap.size + 4 = _; omega)]; exact h.b4⟩
theorem DoPost.setX {m : DiskM} {w : World} {p : Nat} {r r2 : RefM} {kind a n : Int} {s : ByteArray} {ca : Option Addr} {cl cc : Nat} {A : Int} {wx : World} (hB : Bx w p r kind a n s ca cl cc A wx) (hD : DiskAt m w) (h : DoPost m w p r2 wx) : DoPost m w p r2 (setX w r2 wx) := by
  obtain ⟨m', h1, h2, h3, h4, h5, h6⟩ := h
  have g := setX_grew w r2 wx
  have hlt := hD.below
  refine ⟨m', h1, h2, h3.keep g fun k hk e => ?_, h4.keepC g fun b t hc e => ?_, h5.step g fun k hk e => ?_, h6⟩
  · rcases h6.1 k hk with h | h
    · have := hlt k h; omega
    · omega
  · have e : b = w.heap.size + 1 := e
    rw [e, hB.q1.cells.1.1] at hc
    cases hc
  · have e : k = w.heap.size + 1 := e
    omega
/-- another value in the document's box -/
theorem Bx.box {w : World} {p : Nat} {r r2 : RefM} {kind a n : Int} {s : ByteArray} {ca : Option Addr} {cl cc : Nat} {A : Int} {wx wy : World} (h : Bx w p r kind a n s ca cl cc A wx) (g : Grew (fun k => k = w.heap.size + 1) wx wy) (hq : Quad (w.heap.size + 1) (.slice r2.sa r2.n r2.sc) (.slice r2.na r2.n r2.nc) (.int .i64 r2.left) (.bool r2.dead) wy) : Bx w p r2 kind a n s ca cl cc A wy := by
  have l0 := cell_lt h.b0
  have l4 := cell_lt h.b4
  exact ⟨by rw [g.cell (p := ⟨w.heap.size, 0, none⟩) l0 (by show ¬ w.heap.size = _; omega)]; exact h.b0, by rw [g.frozen (p := ⟨w.heap.size, 0, none⟩) l0 (by show ¬ w.heap.size = _; omega)]; exact h.f0, hq, by rw [g.block (w.heap.size + 2) (by omega) (by omega)]; exact h.a5, h.q3.grew g (by omega), by rw [g.cell (p := ⟨w.heap.size + 4, 0, none⟩) l4 (by show ¬ w.heap.size + 4 = _; omega)]; exact h.b4⟩
theorem DoPost.box {m : DiskM} {w : World} {p : Nat} {r r2 : RefM} {kind a n : Int} {s : ByteArray} {ca : Option Addr} {cl cc : Nat} {A : Int} {wx wy : World} (hB : Bx w p r kind a n s ca cl cc A wx) (hD : DiskAt m w) (h : DoPost m w p r2 wx) (g : Grew (fun k => k = w.heap.size + 1) wx wy) : DoPost m w p r2 wy := by
  obtain ⟨m', h1, h2, h3, h4, h5, h6⟩ := h
  have hlt := hD.below
  refine ⟨m', h1, h2, h3.keep g fun k hk e => ?_, h4.keepC g fun b t hc e => ?_, h5.step g fun k hk e => ?_, h6⟩
  · rcases h6.1 k hk with h | h
    · have := hlt k h; omega
    · omega
  · have e : b = w.heap.size + 1 := e
    rw [e, hB.q1.cells.1.1] at hc
    cases hc
  · have e : k = w.heap.size + 1 := e
    omega
theorem DiskAt.arm {m : DiskM} {w : World} (h : DiskAt m w) (l : Int) : DiskAt { m with armed := true, left := l } ((w.setCell ⟨m.d, 2, none⟩ (.bool true)).setCell ⟨m.d, 3, none⟩ (.int .i64 l)) := by
  have g : Grew (fun k => k = m.d) w ((w.setCell ⟨m.d, 2, none⟩ (.bool true)).setCell ⟨m.d, 3, none⟩ (.int .i64 l)) := ((Grew.refl (S := fun k => k = m.d) w).setCell ⟨m.d, 2, none⟩ _ fun _ => rfl).setCell ⟨m.d, 3, none⟩ _ fun _ => rfl
  have off : ∀ j, j ≠ 2 → j ≠ 3 → ((w.setCell ⟨m.d, 2, none⟩ (.bool true)).setCell ⟨m.d, 3, none⟩ (.int .i64 l)).cell? ⟨m.d, j, none⟩ = w.cell? ⟨m.d, j, none⟩ := fun j h2 h3 => by
    rw [World.cell?_setCell_other _ _ _ _ (fun e => h3 (by injection e with e1 e2 e3; exact e2.symm)), World.cell?_setCell_other _ _ _ _ (fun e => h2 (by injection e with e1 e2 e3; exact e2.symm))]
  refine ⟨Nat.lt_of_lt_of_le h.lt g.size, h.n1, h.n2, h.n3, h.size, ?_, ?_, ?_, ?_, ?_, fun j => by rw [World.frozen?_setCell, World.frozen?_setCell]; exact h.free j, h.sure.kept g (fun e => h.n1 e.symm), h.there.kept g (fun e => h.n2 e.symm)⟩
  · rw [off 0 (by decide) (by decide)]; exact h.c0
  · rw [off 1 (by decide) (by decide)]; exact h.c1
  · rw [World.cell?_setCell_other _ _ _ _ (fun e => by cases e)]
    exact World.cell?_setCell_same _ _ _ h.c2
  · exact World.cell?_setCell_same _ _ _ (by rw [World.cell?_setCell_other _ _ _ _ (fun e => by cases e)]; exact h.c3)
  · rw [off 4 (by decide) (by decide)]; exact h.c4
theorem results_tct {fn : Func} {p u v : Tmp} {ty : TypeId} {P : Program} (h : fn.results = #[.tmp u, .cell p ty, .tmp v]) (tmps : Array Value) (w : World) (g : Nat) (t : TypeId) (cs : Array Value) (fr : Nat × Nat) (fs : Array Field)
    (hp : tmps.getD p undef = .pointer (some ⟨g, 0, none⟩)) (hg : w.heap[g]? = some (.cells cs t fr)) (hu : P.underlying ty = some (.struct fs)) (hi : (P.info? ty).map (·.size) = some cs.size) :
    (results fn tmps).run P w = .ok (.tuple #[tmps.getD u undef, .agg cs, tmps.getD v undef]) w := by
  simp only [results, h]
  have hp2 : tmps[p]?.getD undef = .pointer (some ⟨g, 0, none⟩) := by simpa using hp
  simp [Sem.run_bind, Result.andThen, asAddr]
  rw [hp2]
  simp [run_loadVar_row w g t ty cs fr _ hg hu rfl hi]
/-- Spoil of the program's disk, in a Guard -/
theorem does1_any (m : DiskM) (w0 : World) {r : RefM} {kind a n : Int} {s : ByteArray} {ca : Option Addr} {cl cc : Nat} {A : Int} (w : World) (hB : Bx w0 m.d r kind a n s ca cl cc A w) (hD : DiskAt m w) :
    Calls Try.prog 42 #[.pointer (some ⟨w0.heap.size, 0, none⟩), .pointer (some ⟨w0.heap.size + 4, 0, none⟩), .pointer (some ⟨w0.heap.size + 2, 0, none⟩)] w fun e w' => ∃ o m', e = Ends o ∧ SpoilOf m A n o m' ∧ DiskAt m' w' ∧ Grew m.own w w' := by
  have HSp := Lib.hid (spoil_all m A n w hD)
  obtain ⟨y0, y1, y2, y3, y4⟩ := five_at hB.a5
  have b0 := hB.b0
  have b4 := hB.b4
  clear hB hD
  go_enter Try.func42, Try.ntmps42
  go_wp2_with fail
  refine HSp.out.mono ?_
  rintro e w1 ⟨o, m', rfl, hs, hd, hg⟩
  have HH := Lib.hid (And.intro hs (And.intro hd hg))
  clear hs hd hg
  cases o with
  | none =>
    unfold Ends
    go_wp2_with fail
    go_end0
    exact ⟨none, m', rfl, HH.out.1, HH.out.2.1, HH.out.2.2⟩
  | some k =>
    unfold Ends failed
    go_wp2_with fail
    exact ⟨rfl, some k, m', rfl, HH.out.1, HH.out.2.1, HH.out.2.2⟩
theorem guardSpoil (m : DiskM) (w0 : World) {r : RefM} {kind a n : Int} {s : ByteArray} {ca : Option Addr} {cl cc : Nat} {A : Int} (w : World) (hB : Bx w0 m.d r kind a n s ca cl cc A w) (hD : DiskAt m w) (hlt : ∀ k, m.own k → k < w0.heap.size) :
    Calls Try.prog 33 #[.func (.func 42) #[] #[.pointer (some ⟨w0.heap.size, 0, none⟩), .pointer (some ⟨w0.heap.size + 4, 0, none⟩), .pointer (some ⟨w0.heap.size + 2, 0, none⟩)]] w fun e w' => ∃ o m', e = .returned (.int .i64 (o.getD 0)) ∧ SpoilOf m A n o m' ∧ DiskAt m' w' ∧ Grew m.own w w' := by
  have l4 := cell_lt hB.b4
  refine (guard_grew 42 #[.pointer (some ⟨w0.heap.size, 0, none⟩), .pointer (some ⟨w0.heap.size + 4, 0, none⟩), .pointer (some ⟨w0.heap.size + 2, 0, none⟩)] w m.own (fun o w1 => ∃ m', SpoilOf m A n o m' ∧ DiskAt m' w1) (fun e => by have := hlt _ e; omega) (fun _ => by kernel_rfl) ?_).mono ?_
  · have g1 : Grew (fun _ => False) w (w.alloc errBox) := (Grew.refl w).alloc _
    refine (does1_any m w0 _ (hB.step g1 fun _ x => x.elim) (hD.keep g1 fun _ _ x => x)).mono ?_
    rintro e w' ⟨o, m', rfl, hs, hd, hg⟩
    exact ⟨o, rfl, hg, m', hs, hd⟩
  · rintro e w' ⟨o, w1, rfl, ⟨m', hs, hd⟩, rfl, hg, hlt2⟩
    exact ⟨o, m', rfl, hs, hd.keep (done_only _ o w1) (fun k hk e => by
      rw [(spoil_same hs).own] at hk
      have := hlt k hk
      have e : k = w.heap.size := e
      omega), hg⟩
end Go.Proofs.Ytjggofbaipppbaa
