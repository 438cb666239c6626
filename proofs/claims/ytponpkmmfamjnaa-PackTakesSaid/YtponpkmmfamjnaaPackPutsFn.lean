/-
  PackPuts' own functions: filled up, or too many; taken again.
-/
import Derived.Test.YtponpkmmfamjnaaPackRefNum
import Derived.Test.YtponpkmmfamjnaaPackOrderFn
import Derived.Test.YtponpkmmfamjnaaGuardGrew
namespace Go.Proofs.Ytponpkmmfamjnaa
open Go.RowKit

def mk (l : List UInt8) : ByteArray := ⟨l.toArray⟩
theorem mk_size (l : List UInt8) : (mk l).size = l.length := by show l.toArray.size = _; simp
theorem mk_data (l : List UInt8) : (mk l).data.toList = l := by simp [mk]
theorem mk_of (s : ByteArray) : mk s.data.toList = s := by cases s; simp [mk]
theorem mk_extract (l : List UInt8) (i j : Nat) : (mk l).extract i j = mk ((l.take j).drop i) := by
  apply ByteArray.ext
  apply Array.ext'
  rw [ByteArray.data_extract, Array.toList_extract, List.extract_eq_take_drop]
  simp [mk, List.drop_take]
theorem mk_head (A R : List UInt8) (n : Nat) (h : A.length = n) : (mk (A ++ R)).extract 0 n = mk A := by
  subst h
  rw [mk_extract]
  simp
theorem mk_tail (A R : List UInt8) (n : Nat) (h : A.length = n) : (mk (A ++ R)).extract n (mk (A ++ R)).size = mk R := by
  subst h
  rw [mk_extract, mk_size, List.take_of_length_le (Nat.le_refl _)]
  simp
theorem num_app (p : Addr) (A R : List UInt8) (n : Int) (w : World) (h : A.length = wid n) (hc : w.cell? p = some (.string (mk (A ++ R)))) (hz : w.frozen? p = false) :
    Calls Try.prog 18 #[.pointer (some p), .int .i64 n] w fun e w' => e = .returned (.int .u64 (num A)) ∧ w.setCell p (.string (mk R)) = w' := by
  have := num_ok p (mk (A ++ R)) n w (by rw [mk_size]; simp; omega) hc hz
  rw [mk_tail A R _ h, mk_data] at this
  have e : (A ++ R).take (wid n) = A := by rw [← h]; simp
  rw [e] at this
  exact this
theorem text_app (p : Addr) (A R : List UInt8) (n : Int) (w : World) (h : n = A.length) (hc : w.cell? p = some (.string (mk (A ++ R)))) (hz : w.frozen? p = false) :
    Calls Try.prog 17 #[.pointer (some p), .int .i64 n] w fun e w' => e = .returned (.string (mk A)) ∧ w.setCell p (.string (mk R)) = w' := by
  have := text_ok p (mk (A ++ R)) n w (by omega) (by rw [mk_size]; simp; omega) hc hz
  rw [mk_tail A R _ (by omega), mk_head A R _ (by omega)] at this
  exact this
theorem zero_app (p : Addr) (k : Nat) (w : World) (hk : k < 1000000) (hc : w.cell? p = some (.string (mk (List.replicate k 0)))) (hz : w.frozen? p = false) :
    Calls Try.prog 20 #[.pointer (some p)] w fun e w' => e = .returned (.tuple #[]) ∧ w.setCell p (.string ⟨#[]⟩) = w' := by
  refine zero_ok p _ w (fun j hj => ?_) (by rw [mk_size]; unfold maxLen; simp; omega) hc hz
  show (List.replicate k (0 : UInt8)).toArray[j]'_ = 0
  simp

set_option maxHeartbeats 1000000 in
theorem puts1_big (B o pf : Nat) (v : Value) (l : List UInt8) (f : Int) (w : World) (h : OutAt B o v l w) (cf : w.cell? ⟨pf, 0, none⟩ = some (.int .i64 f)) (hf : f < l.length) :
    Calls Try.prog 27 #[.pointer (some ⟨o, 0, none⟩), .pointer (some ⟨pf, 0, none⟩)] w fun e w' => e = failed 3 ∧ w = w' := by
  have HC := Lib.hid (outFill_big B o v l f w h hf)
  clear h hf
  go_enter Try.func27, Try.ntmps27
  go_wp2_with fail
  refine HC.out.mono ?_
  rintro e w' ⟨rfl, rfl⟩
  unfold failed
  go_wp2
  exact ⟨rfl, rfl, rfl⟩
set_option maxHeartbeats 1000000 in
theorem puts1_ok (B o pf : Nat) (v : Value) (l : List UInt8) (f : Int) (w : World) (h : OutAt B o v l w) (cf : w.cell? ⟨pf, 0, none⟩ = some (.int .i64 f)) (hf : l.length ≤ f) (hm : f < 1000000) :
    Calls Try.prog 27 #[.pointer (some ⟨o, 0, none⟩), .pointer (some ⟨pf, 0, none⟩)] w fun e w' => e = .returned (.tuple #[]) ∧ OutTo B o v (l ++ List.replicate (f.toNat - l.length) 0) w w' := by
  have HC := Lib.hid (outFill_ok B o v l f w h hf hm)
  clear h hf hm
  go_enter Try.func27, Try.ntmps27
  go_wp2_with fail
  refine HC.out.mono ?_
  rintro e w' ⟨rfl, hT⟩
  have HT := Lib.hid hT
  clear hT
  go_wp2_with fail
  go_end0
  exact ⟨rfl, HT.out⟩

/-- what is taken again -/
structure PutsTo (px pt py : Nat) (X Y : Nat) (T : ByteArray) (w w' : World) : Prop where
  grew : Grew (fun k => k = px ∨ k = pt ∨ k = py) w w'
  cx : w'.cell? ⟨px, 0, none⟩ = some (.int .u64 X)
  ct : w'.cell? ⟨pt, 0, none⟩ = some (.string T)
  cy : w'.cell? ⟨py, 0, none⟩ = some (.int .u64 Y)

theorem newCell {w : World} {t : TypeId} {v : Value} {b : Nat} (h : w.heap.size = b) : (w.alloc (.cells #[v] t)).cell? ⟨b, 0, none⟩ = some v := by subst h; simp
theorem newFrozen {w : World} {t : TypeId} {v : Value} {b : Nat} (h : w.heap.size = b) : (w.alloc (.cells #[v] t)).frozen? ⟨b, 0, none⟩ = false := by subst h; simp
theorem puts_end {px pt py : Nat} {w : World} {X Y : Nat} {T : ByteArray} {o : Obj} {u v t : Value} (lx : px < w.heap.size) (lt : pt < w.heap.size) (ly : py < w.heap.size) (cx : w.cell? ⟨px, 0, none⟩ = some u) (ct : w.cell? ⟨pt, 0, none⟩ = some t) (cy : w.cell? ⟨py, 0, none⟩ = some v)
    (h1 : px ≠ pt) (h2 : px ≠ py) (h3 : pt ≠ py) : PutsTo px pt py X Y T w ((((w.setCell ⟨px, 0, none⟩ (.int .u64 X)).setCell ⟨pt, 0, none⟩ (.string T)).setCell ⟨py, 0, none⟩ (.int .u64 Y)).alloc o).drew := by
  have s : (((w.setCell ⟨px, 0, none⟩ (.int .u64 X)).setCell ⟨pt, 0, none⟩ (.string T)).setCell ⟨py, 0, none⟩ (.int .u64 Y)).heap.size = w.heap.size := by simp [World.setCell]
  have other : ∀ (w : World) (b c : Nat) (x : Value), b ≠ c → (w.setCell ⟨c, 0, none⟩ x).cell? ⟨b, 0, none⟩ = w.cell? ⟨b, 0, none⟩ := fun w b c x h => World.cell?_of_block (Below.heap_setCell _ _ _ _ h)
  refine ⟨?_, ?_, ?_, ?_⟩
  · exact (((((Grew.refl w).setCell _ _ fun _ => by simp).setCell _ _ fun _ => by simp).setCell _ _ fun _ => by simp).alloc _).drew
  · refine old_cell (o := o) ?_ (by omega)
    rw [other _ _ _ _ h2, other _ _ _ _ h1]
    exact World.cell?_setCell_same _ _ _ cx
  · refine old_cell (o := o) ?_ (by omega)
    rw [other _ _ _ _ h3]
    exact World.cell?_setCell_same _ _ _ (by rw [other _ _ _ _ (Ne.symm h1)]; exact ct)
  · refine old_cell (o := o) ?_ (by omega)
    exact World.cell?_setCell_same _ _ _ (by rw [other _ _ _ _ (Ne.symm h3), other _ _ _ _ (Ne.symm h2)]; exact cy)
set_option maxHeartbeats 2000000 in
theorem puts2_any (pg pm ps pn px pt py : Nat) (A S B : List UInt8) (k : Nat) (m n : Int) (w : World)
    (hA : A.length = wid m) (hB : B.length = wid n) (hk : k < 1000)
    (cg : w.cell? ⟨pg, 0, none⟩ = some (.string (mk (A ++ (S ++ (B ++ List.replicate k 0)))))) (cm : w.cell? ⟨pm, 0, none⟩ = some (.int .i64 m)) (cs : w.cell? ⟨ps, 0, none⟩ = some (.string (mk S))) (cn : w.cell? ⟨pn, 0, none⟩ = some (.int .i64 n))
    (cx : w.cell? ⟨px, 0, none⟩ = some (.int .u64 0)) (fx : w.frozen? ⟨px, 0, none⟩ = false) (ct : w.cell? ⟨pt, 0, none⟩ = some (.string ⟨#[]⟩)) (ft : w.frozen? ⟨pt, 0, none⟩ = false) (cy : w.cell? ⟨py, 0, none⟩ = some (.int .u64 0)) (fy : w.frozen? ⟨py, 0, none⟩ = false)
    (h1 : px ≠ pt) (h2 : px ≠ py) (h3 : pt ≠ py) (h4 : ¬ (pm = px ∨ pm = pt ∨ pm = py)) (h5 : ¬ (ps = px ∨ ps = pt ∨ ps = py)) (h6 : ¬ (pn = px ∨ pn = pt ∨ pn = py)) :
    Calls Try.prog 29 #[.pointer (some ⟨pg, 0, none⟩), .pointer (some ⟨pm, 0, none⟩), .pointer (some ⟨ps, 0, none⟩), .pointer (some ⟨pn, 0, none⟩), .pointer (some ⟨px, 0, none⟩), .pointer (some ⟨pt, 0, none⟩), .pointer (some ⟨py, 0, none⟩)] w fun e w' =>
      e = .returned (.tuple #[]) ∧ PutsTo px pt py (num A) (num B) (mk S) w w' := by
  have lx := cell_lt cx
  have lt := cell_lt ct
  have ly := cell_lt cy
  have HK : Hid (∀ wx : World, Grew (fun k => k = px ∨ k = pt ∨ k = py) w wx → wx.cell? ⟨pm, 0, none⟩ = some (.int .i64 m) ∧ wx.cell? ⟨ps, 0, none⟩ = some (.string (mk S)) ∧ wx.cell? ⟨pn, 0, none⟩ = some (.int .i64 n)) := Lib.hid fun wx g =>
    ⟨by rw [g.cell (cell_lt cm) h4]; exact cm, by rw [g.cell (cell_lt cs) h5]; exact cs, by rw [g.cell (cell_lt cn) h6]; exact cn⟩
  have e1 : ¬ w.heap.size = px := by omega
  have e2 : ¬ w.heap.size = pt := by omega
  have e3 : ¬ w.heap.size = py := by omega
  have cx' : ∀ o : Obj, (w.alloc o).cell? ⟨px, 0, none⟩ = some (.int .u64 0) := fun o => old_cell cx lx
  have fx' : ∀ o : Obj, (w.alloc o).frozen? ⟨px, 0, none⟩ = false := fun o => old_frozen fx lx
  have HS1 : Hid (((mk S).size : Int) = S.length) := Lib.hid (by rw [mk_size])
  have HA := Lib.hid hA
  have HB := Lib.hid hB
  clear hA hB
  go_enter Try.func29, Try.ntmps29
  go_wp2_with fail
  refine (read_any _ _).mono ?_
  rintro e w' ⟨rfl, rfl⟩
  go_wp2_with fail
  go_region_held3 (fun wx => wx.cell? ⟨pm, 0, none⟩ = some (.int .i64 m) ∧ wx.cell? ⟨ps, 0, none⟩ = some (.string (mk S)) ∧ wx.cell? ⟨pn, 0, none⟩ = some (.int .i64 n))
    (exact HK.out _ (by repeat (first | exact Grew.refl _ | refine Grew.drew ?_ | refine Grew.alloc ?_ _ | refine Grew.setCell ?_ _ _ (fun _ => by simp))))
    (first
      | (go_at_call 18; (with_reducible refine (num_app ⟨w.heap.size, 0, none⟩ A (S ++ (B ++ List.replicate k 0)) m _ HA.out ?_ ?_).mono ?_); (focus (simp; done)); (focus (simp; done)); rintro e w' ⟨rfl, rfl⟩)
      | (go_at_call 17; (with_reducible refine (text_app ⟨w.heap.size, 0, none⟩ S (B ++ List.replicate k 0) _ _ HS1.out ?_ ?_).mono ?_); (focus (simp; done)); (focus (simp; done)); rintro e w' ⟨rfl, rfl⟩)
      | (go_at_call 18; (with_reducible refine (num_app ⟨w.heap.size, 0, none⟩ B (List.replicate k 0) n _ HB.out ?_ ?_).mono ?_); (focus (simp; done)); (focus (simp; done)); rintro e w' ⟨rfl, rfl⟩))
  go_wp2_with fail
  refine (zero_app ⟨w.heap.size, 0, none⟩ k _ (by omega) ?_ ?_).mono ?_
  · show World.cell? (World.alloc _ _) _ = _
    exact newCell (by simp [World.setCell])
  · show World.frozen? (World.alloc _ _) _ = _
    exact newFrozen (by simp [World.setCell])
  rintro e w' ⟨rfl, rfl⟩
  have es : ∀ v u : Value, (((((w.setCell ⟨px, 0, none⟩ (.int .u64 (num A))).setCell ⟨pt, 0, none⟩ (.string (mk S))).setCell ⟨py, 0, none⟩ (.int .u64 (num B))).alloc (.cells #[v] 83)).drew).setCell ⟨w.heap.size, 0, none⟩ u = ((((w.setCell ⟨px, 0, none⟩ (.int .u64 (num A))).setCell ⟨pt, 0, none⟩ (.string (mk S))).setCell ⟨py, 0, none⟩ (.int .u64 (num B))).alloc (.cells #[u] 83)).drew := by
    intro v u
    exact congrArg World.drew (World.setCell_alloc_at _ _ _ _ _ (by simp [World.setCell]))
  rw [es]
  clear es
  go_wp2_with fail
  refine (done_ok ⟨w.heap.size, 0, none⟩ _ ?_).mono ?_
  · show World.cell? (World.alloc _ _) _ = _
    exact newCell (by simp [World.setCell])
  rintro e w' ⟨rfl, rfl⟩
  go_wp2_with fail
  go_end0
  exact ⟨rfl, puts_end lx lt ly cx ct cy h1 h2 h3⟩
end Go.Proofs.Ytponpkmmfamjnaa
