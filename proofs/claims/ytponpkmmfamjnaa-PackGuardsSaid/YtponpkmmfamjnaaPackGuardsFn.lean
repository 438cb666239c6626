/-
  PackGuards' own functions: Guards within Guards, by induction on how many are left.
-/
import Derived.Test.YtponpkmmfamjnaaPackAwake
import Derived.Test.YtponpkmmfamjnaaGuardGrew
import Derived.IntWalk
namespace Go.Proofs.Ytponpkmmfamjnaa
open Go.RowKit

theorem old_cellAt {w : World} {o : Obj} {b j : Nat} {v : Value} (h : w.cell? ⟨b, j, none⟩ = some v) (hb : b < w.heap.size) : (w.alloc o).cell? ⟨b, j, none⟩ = some v := by
  rw [World.cell?_alloc_past (hn := hb), h]

/-- where things lie: the arguments' rows, the law's boxes -/
structure GAt where
  be : Nat
  oe : Nat
  le : Nat
  ce : Nat
  bb : Nat
  ob : Nat
  lb : Nat
  cb : Nat
  B : Nat
  x : Nat
  n : Nat
  es : Nat → Int
  bs : Nat → Bool
/-- does Guard k fail? -/
def GAt.odd (g : GAt) (k : Nat) : Bool := bits .and .i64 (g.es k) 1 == 1
def GAt.err (g : GAt) (k : Nat) : Int := bits .and .i64 (g.es k) 15
def GAt.early (g : GAt) (k : Nat) : Bool := g.odd k && !g.bs k
/-- how many of the d Guards from k on run -/
def GAt.cnt (g : GAt) : Nat → Nat → Nat
  | _, 0 => 0
  | k, d + 1 => if g.early k then 1 else 1 + g.cnt (k + 1) d
def GAt.caps (g : GAt) : Array Value := #[.pointer (some ⟨g.x, 0, none⟩), .pointer (some ⟨g.x + 1, 0, none⟩), .pointer (some ⟨g.B, 0, none⟩), .pointer (some ⟨g.B + 1, 0, none⟩), .pointer (some ⟨g.x + 3, 0, none⟩), .pointer (some ⟨g.x + 2, 0, none⟩)]
structure GInv (g : GAt) (r : Nat) (w : World) : Prop where
  hB : g.B + 1 < g.x
  he : g.be < g.B
  hb : g.bb < g.B
  hx : g.x + 3 < w.heap.size
  cE : w.cell? ⟨g.B, 0, none⟩ = some (.slice (some ⟨g.be, g.oe, none⟩) g.le g.ce)
  cB : w.cell? ⟨g.B + 1, 0, none⟩ = some (.slice (some ⟨g.bb, g.ob, none⟩) g.lb g.cb)
  cN : w.cell? ⟨g.x, 0, none⟩ = some (.int .i64 g.n)
  cR : w.cell? ⟨g.x + 1, 0, none⟩ = some (.int .i64 r)
  fR : w.frozen? ⟨g.x + 1, 0, none⟩ = false
  cF : w.cell? ⟨g.x + 2, 0, none⟩ = some (.bool true)
  fF : w.frozen? ⟨g.x + 2, 0, none⟩ = false
  cG : w.cell? ⟨g.x + 3, 0, none⟩ = some (.func (.func 30) #[] g.caps)
  es : ∀ k, k < g.n → w.cell? ⟨g.be, g.oe + k, none⟩ = some (.int .i64 (g.es k))
  bs : ∀ k, k < g.n → w.cell? ⟨g.bb, g.ob + k, none⟩ = some (.bool (g.bs k))
  len : g.n ≤ g.le ∧ g.n ≤ g.lb ∧ g.n ≤ 8
theorem GInv.grew {g : GAt} {r : Nat} {w w' : World} (h : GInv g r w) (k : Grew (fun _ => False) w w') : GInv g r w' := by
  have h1 := h.hB
  have h2 := h.he
  have h3 := h.hb
  have h4 := h.hx
  have hs := k.size
  have c : ∀ b o v, b < w.heap.size → w.cell? ⟨b, o, none⟩ = some v → w'.cell? ⟨b, o, none⟩ = some v := fun b o v hb hc => by rw [k.cell (p := ⟨b, o, none⟩) hb (fun x => x)]; exact hc
  have f : ∀ b, b < w.heap.size → w.frozen? ⟨b, 0, none⟩ = false → w'.frozen? ⟨b, 0, none⟩ = false := fun b hb hc => by rw [k.frozen (p := ⟨b, 0, none⟩) hb (fun x => x)]; exact hc
  exact ⟨h1, h2, h3, by omega, c _ _ _ (by omega) h.cE, c _ _ _ (by omega) h.cB, c _ _ _ (by omega) h.cN, c _ _ _ (by omega) h.cR, f _ (by omega) h.fR, c _ _ _ (by omega) h.cF, f _ (by omega) h.fF, c _ _ _ (by omega) h.cG,
    fun k hk => c _ _ _ (by omega) (h.es k hk), fun k hk => c _ _ _ (by omega) (h.bs k hk), h.len⟩
theorem GInv.set {g : GAt} {r : Nat} {w : World} (h : GInv g r w) (m : Nat) : GInv g m (w.setCell ⟨g.x + 1, 0, none⟩ (.int .i64 m)) := by
  have h1 := h.hB
  have h2 := h.he
  have h3 := h.hb
  have h4 := h.hx
  have c : ∀ b o v, b ≠ g.x + 1 → w.cell? ⟨b, o, none⟩ = some v → (w.setCell ⟨g.x + 1, 0, none⟩ (.int .i64 m)).cell? ⟨b, o, none⟩ = some v := fun b o v hb hc => by
    rw [World.cell?_of_block (Below.heap_setCell _ _ _ _ hb)]; exact hc
  exact ⟨h1, h2, h3, by simpa [World.setCell] using h4, c _ _ _ (by omega) h.cE, c _ _ _ (by omega) h.cB, c _ _ _ (by omega) h.cN, World.cell?_setCell_same _ _ _ h.cR, by rw [World.frozen?_setCell]; exact h.fR,
    c _ _ _ (by omega) h.cF, by rw [World.frozen?_setCell]; exact h.fF, c _ _ _ (by omega) h.cG, fun k hk => c _ _ _ (by omega) (h.es k hk), fun k hk => c _ _ _ (by omega) (h.bs k hk), h.len⟩
theorem GInv.fine {g : GAt} {r : Nat} {w : World} (h : GInv g r w) : GInv g r (w.setCell ⟨g.x + 2, 0, none⟩ (.bool true)) := by
  have h1 := h.hB
  have h2 := h.he
  have h3 := h.hb
  have h4 := h.hx
  have c : ∀ b o v, b ≠ g.x + 2 → w.cell? ⟨b, o, none⟩ = some v → (w.setCell ⟨g.x + 2, 0, none⟩ (.bool true)).cell? ⟨b, o, none⟩ = some v := fun b o v hb hc => by
    rw [World.cell?_of_block (Below.heap_setCell _ _ _ _ hb)]; exact hc
  exact ⟨h1, h2, h3, by simpa [World.setCell] using h4, c _ _ _ (by omega) h.cE, c _ _ _ (by omega) h.cB, c _ _ _ (by omega) h.cN, c _ _ _ (by omega) h.cR, by rw [World.frozen?_setCell]; exact h.fR,
    World.cell?_setCell_same _ _ _ h.cF, by rw [World.frozen?_setCell]; exact h.fF, c _ _ _ (by omega) h.cG, fun k hk => c _ _ _ (by omega) (h.es k hk), fun k hk => c _ _ _ (by omega) (h.bs k hk), h.len⟩
/-- what is written -/
def GAt.writes (g : GAt) : Nat → Prop := fun k => k = g.x + 1 ∨ k = g.x + 2

/-- what run(k) leaves -/
def RunTo (g : GAt) (m : Nat) (w : World) (e : Ending) (w' : World) : Prop := e = .returned (.tuple #[]) ∧ GInv g m w' ∧ Grew g.writes w w'
/-- what a Guard's function leaves -/
def InTo (g : GAt) (m : Nat) (o : Option Int) (w : World) (e : Ending) (w' : World) : Prop := e = Ends o ∧ GInv g m w' ∧ Grew g.writes w w'

/-- run(k) with d Guards left, whatever the world -/
def RunSaid (g : GAt) (k d : Nat) : Prop := ∀ (r : Nat) (w : World), GInv g r w → r ≤ k →
  Calls Try.prog 30 (#[.int .i64 k] ++ g.caps) w (RunTo g (r + g.cnt k d) w)

set_option maxHeartbeats 1000000 in
theorem inner_early (g : GAt) (k kb r : Nat) (w : World) (h : GInv g r w) (hk : k < g.n) (hr : r ≤ k) (hkb : w.cell? ⟨kb, 0, none⟩ = some (.int .i64 k)) (ho : g.odd k = true) (hb : g.bs k = false) (hne : kb ≠ g.x + 1) :
    Calls Try.prog 31 #[.pointer (some ⟨g.x + 1, 0, none⟩), .pointer (some ⟨g.B, 0, none⟩), .pointer (some ⟨kb, 0, none⟩), .pointer (some ⟨g.B + 1, 0, none⟩), .pointer (some ⟨g.x + 3, 0, none⟩)] w
      (InTo g (r + 1) (some (g.err k)) w) := by
  have H1 : Hid (GInv g (r + 1) (w.setCell ⟨g.x + 1, 0, none⟩ (.int .i64 ((r : Int) + 1)))) := Lib.hid (h.set (r + 1))
  have cR := h.cR
  have fR := h.fR
  have cE := H1.out.cE
  have cB := H1.out.cB
  have ce := H1.out.es k hk
  have cb := H1.out.bs k hk
  rw [hb] at cb
  obtain ⟨l1, l2, l3⟩ := h.len
  have hkb' : (w.setCell ⟨g.x + 1, 0, none⟩ (.int .i64 ((r : Int) + 1))).cell? ⟨kb, 0, none⟩ = some (.int .i64 k) := by rw [World.cell?_of_block (Below.heap_setCell _ _ _ _ hne)]; exact hkb
  unfold GAt.odd at ho
  clear h hb
  go_enter Try.func31, Try.ntmps31
  go_wp2_with fail
  refine (fail_any _ _).mono ?_
  rintro e w' ⟨rfl, rfl⟩
  unfold failed
  go_wp2
  exact ⟨rfl, rfl, H1.out, (Grew.refl w).setCell _ _ fun _ => Or.inl rfl⟩
end Go.Proofs.Ytponpkmmfamjnaa
