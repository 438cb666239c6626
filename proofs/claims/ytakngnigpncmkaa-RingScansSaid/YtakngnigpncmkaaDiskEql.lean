/-
  Two sectors as values: equal or not.
-/
import Derived.Test.YtakngnigpncmkaaDiskTearFn
import Derived.Laws.StructEq
import Derived.ChangeKeysEq
namespace Go.Proofs.Ytakngnigpncmkaa
open Go.RowKit

theorem plain8 : Try.prog.plainKey 5 = true := by kernel_rfl
theorem items_run (d : Nat) (f g : Nat → UInt8) (xs ys : Array Value) (w : World) : ∀ is : List Nat, (∀ i ∈ is, xs[i]? = some (.int .u8 ((f i).toNat : Int))) → (∀ i ∈ is, ys[i]? = some (.int .u8 ((g i).toNat : Int))) →
    (Op.eqItems (d + 1) 5 1 xs ys is).run Try.prog w = .ok (is.all fun i => f i == g i) w
  | [], _, _ => by simp [Op.eqItems]
  | i :: is, hx, hy => by
    have ih := items_run d f g xs ys w is (fun j hj => hx j (List.mem_cons_of_mem _ hj)) (fun j hj => hy j (List.mem_cons_of_mem _ hj))
    have p1 := run_part_plain (P := Try.prog) w plain8 (off := i * 1) (by rw [Nat.mul_one]; exact hx i (List.mem_cons_self))
    have p2 := run_part_plain (P := Try.prog) w plain8 (off := i * 1) (by rw [Nat.mul_one]; exact hy i (List.mem_cons_self))
    have p3 := run_equalIn_int (P := Try.prog) w d 5 .u8 .u8 ((f i).toNat : Int) ((g i).toNat : Int) Try.underlying5
    have e : (((f i).toNat : Int) == ((g i).toNat : Int)) = (f i == g i) := by
      rw [Bool.eq_iff_iff, beq_iff_eq, beq_iff_eq]
      constructor
      · intro h
        exact UInt8.toNat_inj.1 (by omega)
      · intro h
        rw [h]
    rw [e] at p3
    simp only [Op.eqItems, Sem.run_bind, p1, p2, p3, Result.andThen_ok, List.all_cons]
    cases hc : (f i == g i)
    · simp
    · simpa using ih
/-- are these bytes the same? -/
def alike (f g : Nat → UInt8) (o : Nat) : Bool := (List.range 64).all fun j => f (o + j) == g (o + j)
theorem sec_eql (f g : Nat → UInt8) (o : Nat) : ∀ w : World, (Op.equalIn 10000 100 (.agg (rowOf (fun j => f (o + j)) 0 64).toArray) (.agg (rowOf (fun j => g (o + j)) 0 64).toArray)).run Try.prog w = .ok (alike f g o) w := fun w => by
  obtain ⟨i, hi⟩ : ∃ i, Try.prog.info? 5 = some i := info_of_underlying Try.underlying5
  have c : Try.prog.cellsOf 5 = 1 := by kernel_rfl
  rw [run_equalIn_array (P := Try.prog) w 9999 (e := 5) (n := 64) (i := i) _ _ Try.underlying100 hi, c]
  exact items_run 9998 (fun j => f (o + j)) (fun j => g (o + j)) _ _ w (List.range 64)
    (fun j hj => by rw [List.getElem?_toArray, rowOf_get _ _ _ _ (by simpa using hj), Nat.zero_add]) (fun j hj => by rw [List.getElem?_toArray, rowOf_get _ _ _ _ (by simpa using hj), Nat.zero_add])
theorem sec_neq (f g : Nat → UInt8) (o : Nat) : ∀ w : World, (binOp .neq 100 (.agg (rowOf (fun j => f (o + j)) 0 64).toArray) (.agg (rowOf (fun j => g (o + j)) 0 64).toArray)).run Try.prog w = .ok (.bool (!alike f g o)) w := fun w => by
  have e : (Op.equalIn Op.maxDepth 100 (.agg (rowOf (fun j => f (o + j)) 0 64).toArray) (.agg (rowOf (fun j => g (o + j)) 0 64).toArray)).run Try.prog w = .ok (alike f g o) w := sec_eql f g o w
  simp [binOp, Op.equal, e]
end Go.Proofs.Ytakngnigpncmkaa
