/-
  What is taken of an In, as lists of bytes; an item is taken: contracts.
-/
import Derived.Test.YtpgmgopcgoblhaaDoorStreamPut
import Derived.Test.YtpgmgopcgoblhaaDoorPackIn
namespace Go.Proofs.YtpgmgopcgoblhaaDoor
open Go.RowKit

/-- the bytes that an In at block q has left -/
structure InP (q : Nat) (r : List UInt8) (w : World) : Prop where
  cell : w.cell? ⟨q, 0, none⟩ = some (.string ⟨r.toArray⟩)
  froz : w.frozen? ⟨q, 0, none⟩ = false
theorem InP.lt {q : Nat} {r : List UInt8} {w : World} (h : InP q r w) : q < w.heap.size := cell_lt h.cell
theorem InP.alloc {q : Nat} {r : List UInt8} {w : World} (h : InP q r w) (o : Obj) : InP q r (w.alloc o) := ⟨boxOld h.cell h.lt, boxOldFree h.froz h.lt⟩
theorem InP.drew {q : Nat} {r : List UInt8} {w : World} (h : InP q r w) : InP q r w.drew := ⟨h.cell, h.froz⟩
theorem InP.grew {q : Nat} {r : List UInt8} {S : Nat → Prop} {w w' : World} (h : InP q r w) (k : Grew S w w') (hS : ¬ S q) : InP q r w' :=
  ⟨(k.cell (p := ⟨q, 0, none⟩) h.lt hS).trans h.cell, (k.frozen (p := ⟨q, 0, none⟩) h.lt hS).trans h.froz⟩
theorem InP.set {q : Nat} {r : List UInt8} {w : World} (h : InP q r w) (r' : List UInt8) : InP q r' (w.setCell ⟨q, 0, none⟩ (.string ⟨r'.toArray⟩)) :=
  ⟨World.cell?_setCell_same _ _ _ h.cell, by rw [World.frozen?_setCell]; exact h.froz⟩
abbrev OnlyQ (q : Nat) (w w' : World) : Prop := Grew (fun k => k = q) w w'
theorem ba_size (r : List UInt8) : (⟨r.toArray⟩ : ByteArray).size = r.length := by simp [ByteArray.size]
theorem ba_list (r : List UInt8) : (⟨r.toArray⟩ : ByteArray).data.toList = r := rfl
theorem ba_take (r : List UInt8) (n : Nat) : (⟨r.toArray⟩ : ByteArray).extract 0 n = ⟨(r.take n).toArray⟩ := by
  rw [ByteArray.ext_iff, ByteArray.data_extract]
  simp
theorem ba_drop (r : List UInt8) (n : Nat) : (⟨r.toArray⟩ : ByteArray).extract n (⟨r.toArray⟩ : ByteArray).size = ⟨(r.drop n).toArray⟩ := by
  rw [ByteArray.ext_iff, ByteArray.data_extract, ba_size]
  simp [List.take_of_length_le]
theorem inText (q n : Nat) (r : List UInt8) (w : World) (h : InP q r w) (hn : n ≤ r.length) :
    Calls Tryd.prog 49 #[.pointer (some ⟨q, 0, none⟩), .int .i64 (n : Int)] w fun e w' => e = .returned (.string ⟨(r.take n).toArray⟩) ∧ InP q (r.drop n) w' ∧ OnlyQ q w w' := by
  have t := text_ok ⟨q, 0, none⟩ ⟨r.toArray⟩ (n : Int) w (by omega) (by rw [ba_size]; omega) h.cell h.froz
  refine t.mono ?_
  rintro e w' ⟨rfl, rfl⟩
  rw [Int.toNat_natCast, ba_take, ba_drop]
  exact ⟨rfl, h.set _, (Grew.refl w).setCell _ _ fun _ => rfl⟩
theorem inText_end (q n : Nat) (r : List UInt8) (w : World) (h : InP q r w) (hn : r.length < n) :
    Calls Tryd.prog 49 #[.pointer (some ⟨q, 0, none⟩), .int .i64 (n : Int)] w fun e w' => e = failed 2 ∧ w = w' :=
  text_end ⟨q, 0, none⟩ ⟨r.toArray⟩ (n : Int) w (by omega) (by rw [ba_size]; omega) h.cell
theorem inNum (q : Nat) (size : Int) (n : Nat) (r : List UInt8) (w : World) (h : InP q r w) (hs : wid size = n) (hn : n ≤ r.length) :
    Calls Tryd.prog 50 #[.pointer (some ⟨q, 0, none⟩), .int .i64 size] w fun e w' => e = .returned (.int .u64 (num (r.take n) : Nat)) ∧ InP q (r.drop n) w' ∧ OnlyQ q w w' := by
  have t := num_ok ⟨q, 0, none⟩ ⟨r.toArray⟩ size w (by rw [hs, ba_size]; exact hn) h.cell h.froz
  rw [hs, ba_drop, ba_list] at t
  refine t.mono ?_
  rintro e w' ⟨rfl, rfl⟩
  exact ⟨rfl, h.set _, (Grew.refl w).setCell _ _ fun _ => rfl⟩
theorem inNum_end (q : Nat) (size : Int) (n : Nat) (r : List UInt8) (w : World) (h : InP q r w) (hs : wid size = n) (hn : r.length < n) :
    Calls Tryd.prog 50 #[.pointer (some ⟨q, 0, none⟩), .int .i64 size] w fun e w' => e = failed 2 ∧ w = w' :=
  num_end ⟨q, 0, none⟩ ⟨r.toArray⟩ size w (by rw [hs, ba_size]; exact hn) h.cell
end Go.Proofs.YtpgmgopcgoblhaaDoor
