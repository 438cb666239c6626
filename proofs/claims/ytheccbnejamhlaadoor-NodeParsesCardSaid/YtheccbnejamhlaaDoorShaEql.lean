/-
  Two sums as values: equal or not; a sum at an index; the sum of 'abc' by the document's numbers.
-/
import Derived.Test.YtheccbnejamhlaaDoorShaOf
import Derived.Laws.StructEq
import Derived.ChangeKeysEq
namespace Go.Proofs.YtheccbnejamhlaaDoor
open Go.RowKit

def rounds : List Nat := [1116352408, 1899447441, 3049323471, 3921009573, 961987163, 1508970993, 2453635748, 2870763221, 3624381080, 310598401, 607225278, 1426881987, 1925078388, 2162078206, 2614888103, 3248222580, 3835390401, 4022224774, 264347078, 604807628, 770255983, 1249150122, 1555081692, 1996064986, 2554220882, 2821834349, 2952996808, 3210313671, 3336571891, 3584528711, 113926993, 338241895, 666307205, 773529912, 1294757372, 1396182291, 1695183700, 1986661051, 2177026350, 2456956037, 2730485921, 2820302411, 3259730800, 3345764771, 3516065817, 3600352804, 4094571909, 275423344, 430227734, 506948616, 659060556, 883997877, 958139571, 1322822218, 1537002063, 1747873779, 1955562222, 2024104815, 2227730452, 2361852424, 2428436474, 2756734187, 3204031479, 3329325298]
def KK (i : Nat) : Nat := rounds.getD i 0
def SS : Sha.St := ⟨1779033703, 3144134277, 1013904242, 2773480762, 1359893119, 2600822924, 528734635, 1541459225⟩
set_option maxRecDepth 1000000 in
theorem abc : (List.range 32).map (Sha.dg (Sha.sha KK SS [97, 98, 99])) = [0xba, 0x78, 0x16, 0xbf, 0x8f, 0x01, 0xcf, 0xea, 0x41, 0x41, 0x40, 0xde, 0x5d, 0xae, 0x22, 0x23, 0xb0, 0x03, 0x61, 0xa3, 0x96, 0x17, 0x7a, 0x9c, 0xb4, 0x10, 0xff, 0x61, 0xf2, 0x00, 0x15, 0xad] := by decide +kernel

theorem KK_lt (i : Nat) : KK i < 4294967296 := by
  unfold KK
  have h : ∀ x ∈ rounds, x < 4294967296 := by decide +kernel
  exact Sha.getD_lt _ h i
theorem SS_ok : SS.ok := by
  unfold Sha.St.ok SS
  decide
theorem sum_cell (s : Sha.St) (j : Nat) (h : j < 32) : (sumOf s).toArray[j]? = some (.int .u8 (Sha.dg s j : Nat)) := by
  unfold sumOf
  rw [List.getElem?_toArray, List.getElem?_map, List.getElem?_range h]
  rfl
theorem plain8 : Tryd.prog.plainKey 5 = true := by kernel_rfl
theorem items_run (d : Nat) (f g : Nat → Nat) (xs ys : Array Value) (w : World) : ∀ is : List Nat, (∀ i ∈ is, xs[i]? = some (.int .u8 (f i : Nat))) → (∀ i ∈ is, ys[i]? = some (.int .u8 (g i : Nat))) →
    (Op.eqItems (d + 1) 5 1 xs ys is).run Tryd.prog w = .ok (is.all fun i => f i == g i) w
  | [], _, _ => by simp [Op.eqItems]
  | i :: is, hx, hy => by
    have ih := items_run d f g xs ys w is (fun j hj => hx j (List.mem_cons_of_mem _ hj)) (fun j hj => hy j (List.mem_cons_of_mem _ hj))
    have p1 := run_part_plain (P := Tryd.prog) w plain8 (off := i * 1) (by rw [Nat.mul_one]; exact hx i (List.mem_cons_self))
    have p2 := run_part_plain (P := Tryd.prog) w plain8 (off := i * 1) (by rw [Nat.mul_one]; exact hy i (List.mem_cons_self))
    have p3 := run_equalIn_int (P := Tryd.prog) w d 5 .u8 .u8 ((f i : Nat) : Int) ((g i : Nat) : Int) Tryd.underlying5
    have e : ((f i : Int) == (g i : Int)) = (f i == g i) := by
      rw [Bool.eq_iff_iff, beq_iff_eq, beq_iff_eq]
      omega
    rw [e] at p3
    simp only [Op.eqItems, Sem.run_bind, p1, p2, p3, Result.andThen_ok, List.all_cons]
    cases hc : (f i == g i)
    · simp
    · simpa using ih
def same (s t : Sha.St) : Bool := (List.range 32).all fun i => Sha.dg s i == Sha.dg t i
theorem same_self (s : Sha.St) : same s s = true := by simp [same]
theorem sum_eql (s t : Sha.St) : ∀ w : World, (Op.equalIn 10000 24 (.agg (sumOf s).toArray) (.agg (sumOf t).toArray)).run Tryd.prog w = .ok (same s t) w := fun w => by
  have hi : ∃ i, Tryd.prog.info? 5 = some i := info_of_underlying Tryd.underlying5
  obtain ⟨i, hi⟩ := hi
  have c : Tryd.prog.cellsOf 5 = 1 := by kernel_rfl
  rw [run_equalIn_array (P := Tryd.prog) w 9999 (e := 5) (n := 32) (i := i) _ _ Tryd.underlying24 hi, c]
  exact items_run 9998 (Sha.dg s) (Sha.dg t) _ _ w (List.range 32) (fun j hj => sum_cell s j (by simpa using hj)) (fun j hj => sum_cell t j (by simpa using hj))
end Go.Proofs.YtheccbnejamhlaaDoor
