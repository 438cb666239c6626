/-
  PackOrder's own function: Small of the first number's bytes, in a Guard.
-/
import Derived.Test.YtponpkmmfamjnaaPackAwake
import Derived.Test.YtponpkmmfamjnaaPackMath
import Derived.Deep.RegionWith
import Derived.Deep.RegionHeld3
import Derived.Deep.DeepCutAuto
namespace Go.Proofs.Ytponpkmmfamjnaa
open Go.RowKit

/-- a way that a region's walk must go on with, behind a call that fails -/
theorem phantom {p : Prop} (h : ¬ Hid False → p) (k : Hid False → p) : p := (Classical.em (Hid False)).elim k h
/-- what the law's own function leaves: x is there if it came to its end -/
def OrderTo (n : Nat) (o : Option Int) (x : Int) (w : World) (o' : Option Int) (w' : World) : Prop :=
  o' = o ∧ Grew (fun k => k = n) w w' ∧ w'.cell? ⟨n, 0, none⟩ = some (.int .i64 x) ∧ w'.frozen? ⟨n, 0, none⟩ = false

theorem old_cell {w : World} {o : Obj} {b : Nat} {v : Value} (h : w.cell? ⟨b, 0, none⟩ = some v) (hb : b < w.heap.size) : (w.alloc o).cell? ⟨b, 0, none⟩ = some v := by
  rw [World.cell?_alloc_past (hn := hb), h]
theorem old_frozen {w : World} {o : Obj} {b : Nat} (h : w.frozen? ⟨b, 0, none⟩ = false) (hb : b < w.heap.size) : (w.alloc o).frozen? ⟨b, 0, none⟩ = false := by
  rw [World.frozen?_alloc_old (h := by simp; omega), h]

set_option maxHeartbeats 1000000 in
theorem orderFn_ok (ps pb pn : Nat) (s : ByteArray) (b x : Nat) (w : World) (_hs : ps < w.heap.size) (hb : pb < w.heap.size) (hn : pn < w.heap.size)
    (cs : w.cell? ⟨ps, 0, none⟩ = some (.string s)) (cb : w.cell? ⟨pb, 0, none⟩ = some (.int .u64 b)) (cn : w.cell? ⟨pn, 0, none⟩ = some (.int .i64 0)) (fn : w.frozen? ⟨pn, 0, none⟩ = false)
    (h8 : s.size = 8) (hx : num s.data.toList = x) (h1 : x ≤ b) (h2 : x ≤ top) :
    Calls Try.prog 33 #[.pointer (some ⟨ps, 0, none⟩), .pointer (some ⟨pb, 0, none⟩), .pointer (some ⟨pn, 0, none⟩)] w fun e w' => ∃ o, e = Ends o ∧ OrderTo pn none x w o w' := by
  have E8 : Hid (wid 8 ≤ s.size) := Lib.hid (by rw [h8]; decide)
  have HX : Hid (num (s.data.toList.take (wid 8)) = x) := Lib.hid (by rw [List.take_of_length_le (by simp [h8]; decide)]; exact hx)
  have HM : Hid ((x : Int) ≤ b) := Lib.hid (by omega)
  have HT := Lib.hid h2
  have cb' := old_cell (o := .cells #[.string s] 83) cb hb
  have cn' := old_cell (o := .cells #[.string s] 83) cn hn
  have fn' := old_frozen (o := .cells #[.string s] 83) fn hn
  clear h8 hx h1 h2
  generalize hr : s.extract (wid 8) s.size = r
  have HR := Lib.hid hr
  clear hr
  have hne : ¬ w.heap.size = pn := by omega
  go_enter Try.func33, Try.ntmps33
  go_region_with (first
    | (go_at_call 13; refine (read_any _ _).mono ?_; rintro e w' ⟨rfl, rfl⟩)
    | (go_at_call 19; go_must (refine (small_ok _ s 8 b x _ E8.out (by simp) (by simp) HX.out (Int.not_lt.2 HM.out) HT.out).mono ?_); rintro e w' ⟨rfl, rfl⟩))
  all_goals
    go_end0
    exact ⟨none, rfl, rfl, (((Grew.refl (S := fun k => k = pn) w).setCell _ _ fun _ => rfl).alloc _).drew, old_cell (World.cell?_setCell_same _ _ _ cn) (by simpa [World.setCell] using hn), old_frozen (by rw [World.frozen?_setCell]; exact fn) (by simpa [World.setCell] using hn)⟩
set_option maxHeartbeats 1000000 in
theorem orderFn_big (ps pb pn : Nat) (s : ByteArray) (b x : Nat) (w : World) (_hs : ps < w.heap.size) (hb : pb < w.heap.size) (hn : pn < w.heap.size)
    (cs : w.cell? ⟨ps, 0, none⟩ = some (.string s)) (cb : w.cell? ⟨pb, 0, none⟩ = some (.int .u64 b)) (cn : w.cell? ⟨pn, 0, none⟩ = some (.int .i64 0)) (fn : w.frozen? ⟨pn, 0, none⟩ = false)
    (h8 : s.size = 8) (hx : num s.data.toList = x) (h1 : b < x ∨ top < x) :
    Calls Try.prog 33 #[.pointer (some ⟨ps, 0, none⟩), .pointer (some ⟨pb, 0, none⟩), .pointer (some ⟨pn, 0, none⟩)] w fun e w' => ∃ o, e = Ends o ∧ OrderTo pn (some 3) 0 w o w' := by
  have E8 : Hid (wid 8 ≤ s.size) := Lib.hid (by rw [h8]; decide)
  have HX : Hid (num (s.data.toList.take (wid 8)) = x) := Lib.hid (by rw [List.take_of_length_le (by simp [h8]; decide)]; exact hx)
  have HM : Hid ((b : Int) < x ∨ top < x) := Lib.hid (by omega)
  have cb' := old_cell (o := .cells #[.string s] 83) cb hb
  clear h8 hx h1
  have HCN := Lib.hid cn
  have HFN := Lib.hid fn
  have cn' := old_cell (o := .cells #[.string s] 83) cn hn
  have fn' := old_frozen (o := .cells #[.string s] 83) fn hn
  have hne : ¬ w.heap.size = pn := by omega
  go_enter Try.func33, Try.ntmps33
  go_region_with (first
    | (go_at_call 13; refine (read_any _ _).mono ?_; rintro e w' ⟨rfl, rfl⟩)
    | (go_at_call 19; refine (small_big _ s 8 b x _ E8.out (by simp) (by simp) HX.out HM.out).mono ?_; rintro e w' ⟨he, rfl⟩; refine phantom (fun _ => ?_) (fun hF => ?_); (focus (subst he; unfold failed; go_simp; exact ⟨rfl, some 3, rfl, rfl, ((Grew.refl w).alloc _).drew, old_cell HCN.out hn, old_frozen HFN.out hn⟩)); (obtain rfl : e = .returned (.int .i64 0) := hF.out.elim)))
  all_goals exact hF.out.elim

end Go.Proofs.Ytponpkmmfamjnaa
