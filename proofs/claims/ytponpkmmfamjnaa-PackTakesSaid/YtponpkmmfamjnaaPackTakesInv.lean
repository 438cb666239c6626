/-
  PackTakes: what is there while its things are taken; what each thing leaves.
-/
import Derived.Test.YtponpkmmfamjnaaPackTakesRef
import Derived.Test.YtponpkmmfamjnaaPackOrderFn
import Derived.Test.YtponpkmmfamjnaaGuardGrew
namespace Go.Proofs.Ytponpkmmfamjnaa
open Go.RowKit

/-- where things lie: the list's row, its box, the In and the law's boxes behind it -/
structure TAt where
  be : Nat
  oe : Nat
  le : Nat
  ce : Nat
  bl : Nat
  y : Nat
  kd : Nat → Int
  n : Nat → Int
  mo : Nat → Int
/-- how many are taken at most -/
def TAt.most (g : TAt) : Nat := min g.le 15
/-- the document's In is s with the error e; the program's In is z; d things were taken -/
structure TInv (g : TAt) (s : ByteArray) (e : Int) (z : ByteArray) (d : Nat) (w : World) : Prop where
  hl : g.bl < g.y
  hb : g.be < g.bl
  hy : g.y + 4 < w.heap.size
  cL : w.cell? ⟨g.bl, 0, none⟩ = some (.slice (some ⟨g.be, g.oe, none⟩) g.le g.ce)
  cZ : w.cell? ⟨g.y, 0, none⟩ = some (.string z)
  fZ : w.frozen? ⟨g.y, 0, none⟩ = false
  cI : w.cell? ⟨g.y + 1, 0, none⟩ = some (.pointer (some ⟨g.y, 0, none⟩))
  cS : w.cell? ⟨g.y + 2, 0, none⟩ = some (.string s)
  fS : w.frozen? ⟨g.y + 2, 0, none⟩ = false
  cE : w.cell? ⟨g.y + 2, 1, none⟩ = some (.int .i64 e)
  fE : w.frozen? ⟨g.y + 2, 1, none⟩ = false
  cF : w.cell? ⟨g.y + 3, 0, none⟩ = some (.bool true)
  fF : w.frozen? ⟨g.y + 3, 0, none⟩ = false
  cD : w.cell? ⟨g.y + 4, 0, none⟩ = some (.int .i64 d)
  fD : w.frozen? ⟨g.y + 4, 0, none⟩ = false
  row : ∀ k, k < g.most → w.cell? ⟨g.be, g.oe + k * 3, none⟩ = some (.int .i64 (g.kd k)) ∧ w.cell? ⟨g.be, g.oe + k * 3 + 1, none⟩ = some (.int .i64 (g.n k)) ∧ w.cell? ⟨g.be, g.oe + k * 3 + 2, none⟩ = some (.int .u64 (g.mo k))
def TAt.writes (g : TAt) : Nat → Prop := fun k => g.y ≤ k ∧ k ≤ g.y + 4
theorem TInv.grew {g : TAt} {s z : ByteArray} {e : Int} {d : Nat} {w w' : World} (h : TInv g s e z d w) (k : Grew (fun _ => False) w w') : TInv g s e z d w' := by
  have h1 := h.hl
  have h2 := h.hb
  have h4 := h.hy
  have hs := k.size
  have c : ∀ b o v, b < w.heap.size → w.cell? ⟨b, o, none⟩ = some v → w'.cell? ⟨b, o, none⟩ = some v := fun b o v hb hc => by rw [k.cell (p := ⟨b, o, none⟩) hb (fun x => x)]; exact hc
  have f : ∀ b o, b < w.heap.size → w.frozen? ⟨b, o, none⟩ = false → w'.frozen? ⟨b, o, none⟩ = false := fun b o hb hc => by rw [k.frozen (p := ⟨b, o, none⟩) hb (fun x => x)]; exact hc
  exact ⟨h1, h2, by omega, c _ _ _ (by omega) h.cL, c _ _ _ (by omega) h.cZ, f _ _ (by omega) h.fZ, c _ _ _ (by omega) h.cI, c _ _ _ (by omega) h.cS, f _ _ (by omega) h.fS, c _ _ _ (by omega) h.cE, f _ _ (by omega) h.fE, c _ _ _ (by omega) h.cF, f _ _ (by omega) h.fF, c _ _ _ (by omega) h.cD, f _ _ (by omega) h.fD,
    fun k hk => ⟨c _ _ _ (by omega) (h.row k hk).1, c _ _ _ (by omega) (h.row k hk).2.1, c _ _ _ (by omega) (h.row k hk).2.2⟩⟩
theorem cell_apart {w : World} {b o b' o' : Nat} {x v : Value} (h : b ≠ b' ∨ o ≠ o') (hc : w.cell? ⟨b, o, none⟩ = some v) : (w.setCell ⟨b', o', none⟩ x).cell? ⟨b, o, none⟩ = some v := by
  rw [World.cell?_setCell_other (h := by intro e; injection e with e1 e2; omega)]; exact hc
theorem TInv.setIn {g : TAt} {s z : ByteArray} {e : Int} {d : Nat} {w : World} (h : TInv g s e z d w) (z' : ByteArray) : TInv g s e z' d (w.setCell ⟨g.y, 0, none⟩ (.string z')) := by
  have h1 := h.hl
  have h2 := h.hb
  have f : ∀ a, w.frozen? a = false → (w.setCell ⟨g.y, 0, none⟩ (.string z')).frozen? a = false := fun a ha => by rw [World.frozen?_setCell]; exact ha
  exact ⟨h1, h2, by simpa [World.setCell] using h.hy, cell_apart (by omega) h.cL, World.cell?_setCell_same _ _ _ h.cZ, f _ h.fZ, cell_apart (by omega) h.cI, cell_apart (by omega) h.cS, f _ h.fS, cell_apart (by omega) h.cE, f _ h.fE, cell_apart (by omega) h.cF, f _ h.fF, cell_apart (by omega) h.cD, f _ h.fD,
    fun k hk => ⟨cell_apart (by omega) (h.row k hk).1, cell_apart (by omega) (h.row k hk).2.1, cell_apart (by omega) (h.row k hk).2.2⟩⟩
theorem TInv.setX {g : TAt} {s z : ByteArray} {e : Int} {d : Nat} {w : World} (h : TInv g s e z d w) (s' : ByteArray) (e' : Int) : TInv g s' e' z d ((w.setCell ⟨g.y + 2, 0, none⟩ (.string s')).setCell ⟨g.y + 2, 1, none⟩ (.int .i64 e')) := by
  have h1 := h.hl
  have h2 := h.hb
  have f : ∀ a, w.frozen? a = false → ((w.setCell ⟨g.y + 2, 0, none⟩ (.string s')).setCell ⟨g.y + 2, 1, none⟩ (.int .i64 e')).frozen? a = false := fun a ha => by rw [World.frozen?_setCell, World.frozen?_setCell]; exact ha
  have c : ∀ b o v, b ≠ g.y + 2 → w.cell? ⟨b, o, none⟩ = some v → ((w.setCell ⟨g.y + 2, 0, none⟩ (.string s')).setCell ⟨g.y + 2, 1, none⟩ (.int .i64 e')).cell? ⟨b, o, none⟩ = some v := fun b o v hb hc => cell_apart (Or.inl hb) (cell_apart (Or.inl hb) hc)
  exact ⟨h1, h2, by simpa [World.setCell] using h.hy, c _ _ _ (by omega) h.cL, c _ _ _ (by omega) h.cZ, f _ h.fZ, c _ _ _ (by omega) h.cI, cell_apart (by omega) (World.cell?_setCell_same _ _ _ h.cS), f _ h.fS, World.cell?_setCell_same _ _ _ (cell_apart (by omega) h.cE), f _ h.fE, c _ _ _ (by omega) h.cF, f _ h.fF, c _ _ _ (by omega) h.cD, f _ h.fD,
    fun k hk => ⟨c _ _ _ (by omega) (h.row k hk).1, c _ _ _ (by omega) (h.row k hk).2.1, c _ _ _ (by omega) (h.row k hk).2.2⟩⟩
theorem TInv.setFine {g : TAt} {s z : ByteArray} {e : Int} {d : Nat} {w : World} (h : TInv g s e z d w) : TInv g s e z d (w.setCell ⟨g.y + 3, 0, none⟩ (.bool true)) := by
  have h1 := h.hl
  have h2 := h.hb
  have f : ∀ a, w.frozen? a = false → (w.setCell ⟨g.y + 3, 0, none⟩ (.bool true)).frozen? a = false := fun a ha => by rw [World.frozen?_setCell]; exact ha
  exact ⟨h1, h2, by simpa [World.setCell] using h.hy, cell_apart (by omega) h.cL, cell_apart (by omega) h.cZ, f _ h.fZ, cell_apart (by omega) h.cI, cell_apart (by omega) h.cS, f _ h.fS, cell_apart (by omega) h.cE, f _ h.fE, World.cell?_setCell_same _ _ _ h.cF, f _ h.fF, cell_apart (by omega) h.cD, f _ h.fD,
    fun k hk => ⟨cell_apart (by omega) (h.row k hk).1, cell_apart (by omega) (h.row k hk).2.1, cell_apart (by omega) (h.row k hk).2.2⟩⟩
theorem TInv.setDone {g : TAt} {s z : ByteArray} {e : Int} {d : Nat} {w : World} (h : TInv g s e z d w) (d' : Nat) : TInv g s e z d' (w.setCell ⟨g.y + 4, 0, none⟩ (.int .i64 d')) := by
  have h1 := h.hl
  have h2 := h.hb
  have f : ∀ a, w.frozen? a = false → (w.setCell ⟨g.y + 4, 0, none⟩ (.int .i64 d')).frozen? a = false := fun a ha => by rw [World.frozen?_setCell]; exact ha
  exact ⟨h1, h2, by simpa [World.setCell] using h.hy, cell_apart (by omega) h.cL, cell_apart (by omega) h.cZ, f _ h.fZ, cell_apart (by omega) h.cI, cell_apart (by omega) h.cS, f _ h.fS, cell_apart (by omega) h.cE, f _ h.fE, cell_apart (by omega) h.cF, f _ h.fF, World.cell?_setCell_same _ _ _ h.cD, f _ h.fD,
    fun k hk => ⟨cell_apart (by omega) (h.row k hk).1, cell_apart (by omega) (h.row k hk).2.1, cell_apart (by omega) (h.row k hk).2.2⟩⟩
theorem TInv.drew {g : TAt} {s z : ByteArray} {e : Int} {d : Nat} {w : World} (h : TInv g s e z d w) : TInv g s e z d w.drew := h.grew (Grew.refl w).drew

/-- what taking a thing leaves: the rest, the error, the number, the text -/
structure Took where
  s : ByteArray
  e : Int
  x : Nat
  t : ByteArray
/-- a program's call that takes: it answers v, or fails, as the error says -/
def Gives (f : FuncId) (args : Array Value) (y : Nat) (z : ByteArray) (r : Took) (v : Value) : Prop := ∀ w : World, w.cell? ⟨y, 0, none⟩ = some (.string z) → w.frozen? ⟨y, 0, none⟩ = false → 
  Calls Try.prog f args w fun e w' => (r.e = 0 ∧ e = .returned v ∧ w.setCell ⟨y, 0, none⟩ (.string r.s) = w') ∨ (r.e ≠ 0 ∧ e = failed r.e ∧ (w.setCell ⟨y, 0, none⟩ (.string r.s) = w' ∨ (w = w' ∧ r.s = z)))
/-- thing k of kind q, of the text z: the document's answer, and the program's -/
structure Does (g : TAt) (k : Nat) (z : ByteArray) (r : Took) : Prop where
  lt : r.x < 18446744073709551616
  le : r.s.size ≤ z.size
  ref : ∀ w : World, Calls Try.prog 16 #[inOf z 0, .agg #[.int .i64 (g.kd k), .int .i64 (g.n k), .int .u64 (g.mo k)]] w fun e w' => e = .returned (.tuple #[inOf r.s r.e, .int .u64 r.x, .string r.t]) ∧ Below w.heap.size w w'
end Go.Proofs.Ytponpkmmfamjnaa
