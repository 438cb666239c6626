/-
  A table by sums: how its keys are read; it is remembered, and put into, in a Try: contracts.
-/
import Derived.Test.YtbohpffigmllkaaGreatDoorTabs
import Derived.Test.YtbohpffigmllkaaGreatDoorShaHeadFn
import Derived.DeepKeys5
namespace Go.Proofs.YtbohpffigmllkaaGreatDoor
open Go.RowKit Go.Maps Go.ChangeMaps Go.WideShapes

theorem mapM_some {α β : Type} (f : α → Option β) (g : α → β) : ∀ L : List α, (∀ x ∈ L, f x = some (g x)) → L.mapM f = some (L.map g)
  | [], _ => rfl
  | x :: L, h => by
    rw [List.mapM_cons, h x List.mem_cons_self, mapM_some f g L fun y hy => h y (List.mem_cons_of_mem _ hy)]
    rfl
theorem bytesOf_len (l : List UInt8) : (bytesOf l).length = l.length := by simp [bytesOf]
theorem bytesOf_at (l : List UInt8) (j : Nat) (h : j < l.length) : (bytesOf l)[j]? = some (.int .u8 ((l[j]).toNat : Int)) := by
  unfold bytesOf
  rw [List.getElem?_map, List.getElem?_eq_getElem h]
  rfl
theorem bytesOf_one (l : List UInt8) : (bytesOf l).toArray.all (·.oneCell') = true :=
  all_oneCell_toArray fun v hv => by
    unfold bytesOf at hv
    obtain ⟨x, _, rfl⟩ := List.mem_map.1 hv
    rfl
theorem arr_bytes (f : Nat → Nat) (hf : ∀ j, f j < 256) : arr f = bytesOf (txt f) := by
  refine List.ext_getElem? fun j => ?_
  have hl : (txt f).length = 32 := by simp [txt]
  by_cases hj : j < 32
  · rw [arr_at f j hj, bytesOf_at _ j (by omega)]
    have : ((txt f)[j]'(by omega)).toNat = f j := by
      unfold txt
      rw [List.getElem_map, List.getElem_range, UInt8.toNat_ofNat']
      exact Nat.mod_eq_of_lt (hf j)
    rw [this]
  · rw [List.getElem?_eq_none (by rw [arr_len]; omega), List.getElem?_eq_none (by rw [bytesOf_len]; omega)]
theorem wf_u8 (n : Nat) (h : n < 256) : (Lit.int .u8 (n : Int)).wf = true := by
  have h1 : IntKind.u8.min = 0 := rfl
  have h2 : IntKind.u8.max = 255 := rfl
  simp [Lit.wf, h1, h2]
  omega
theorem keyLits_u8 (d : Nat) (b : UInt8) : Tryz.prog.keyLits (d + 1) 5 [.int .u8 (b.toNat : Int)] = some [.int .u8 (b.toNat : Int)] := by
  unfold Program.keyLits
  rw [Tryz.underlying5]
  simp only [true_and]
  rw [if_pos (wf_u8 _ b.toNat_lt)]
theorem byte_key (b : UInt8) : Lit.keyBytes (.int .u8 (b.toNat : Int)) = [b] := by
  have h : b.toNat < 256 := b.toNat_lt
  show bytesBE 1 _ = _
  have e : ((b.toNat : Int) % 2 ^ IntKind.u8.bits).toNat = b.toNat := by
    have : (2 : Int) ^ IntKind.u8.bits = 256 := rfl
    rw [this]
    omega
  rw [e]
  show [UInt8.ofNat (b.toNat % 256)] = [b]
  rw [Nat.mod_eq_of_lt h]
  simp
theorem cells_sha : Tryz.prog.cellsOf 51 = 32 := by kernel_rfl
theorem cells_byte : Tryz.prog.cellsOf 5 = 1 := by kernel_rfl
theorem types_some : ∃ d, Tryz.prog.types.size = d + 1 := by
  have h : (51 : TypeId) < Tryz.prog.types.size := of_decide_eq_true (by kernel_rfl)
  exact Nat.exists_eq_succ_of_ne_zero (Nat.ne_of_gt (Nat.lt_of_le_of_lt (Nat.zero_le _) h))
theorem bytes_key : ∀ l : List UInt8, keyBytes (l.map fun b => Lit.int .u8 (b.toNat : Int)) = l
  | [] => rfl
  | b :: r => by
    have ih := bytes_key r
    unfold keyBytes at ih ⊢
    rw [List.map_cons, List.flatMap_cons, ih, byte_key]
    rfl
theorem flat_one {α β : Type} (g : α → β) : ∀ L : List α, (L.map fun i => [g i]).flatten = L.map g
  | [] => rfl
  | x :: L => by
    rw [List.map_cons, List.flatten_cons, flat_one g L]
    rfl
set_option maxRecDepth 100000 in
theorem key_sum (l : List UInt8) (h : l.length = 32) : keyOf Tryz.prog 51 (.agg (bytesOf l).toArray) = some (.string l) := by
  obtain ⟨d, hd⟩ := types_some
  have hk : Tryz.prog.keyType 51 = true := by kernel_rfl
  have hf : (Value.agg (bytesOf l).toArray).formed Tryz.prog 51 = true := by
    simp [Value.formed, Tryz.underlying51, cells_sha, bytesOf_len, h]
  have hl : Tryz.prog.keyLits (Tryz.prog.types.size + 1) 51 (bytesOf l) = some (l.map fun b => Lit.int .u8 (b.toNat : Int)) := by
    unfold Program.keyLits
    rw [Tryz.underlying51]
    simp only
    rw [if_pos (by rw [bytesOf_len, h, cells_sha]), cells_byte, hd]
    rw [mapM_some (g := fun i => [Lit.int .u8 ((l.getD i 0).toNat : Int)]) _ (List.range 32)]
    · show some _ = some _
      congr 1
      rw [flat_one (fun i => Lit.int .u8 ((l.getD i 0).toNat : Int))]
      refine List.ext_getElem? fun j => ?_
      by_cases hj : j < 32
      · rw [List.getElem?_map, List.getElem?_map, List.getElem?_range hj, List.getElem?_eq_getElem (by omega)]
        simp [List.getD_eq_getElem?_getD, List.getElem?_eq_getElem (show j < l.length by omega)]
      · rw [List.getElem?_eq_none (by simp; omega), List.getElem?_eq_none (by simp; omega)]
    · intro i hi
      have hi' : i < 32 := by simpa using hi
      have e : ((bytesOf l).drop (i * 1)).take 1 = [.int .u8 ((l.getD i 0).toNat : Int)] := by
        refine List.ext_getElem? fun j => ?_
        by_cases hj : j = 0
        · subst hj
          rw [List.getElem?_take_of_lt (by omega), List.getElem?_drop, bytesOf_at l _ (by omega)]
          simp [List.getD_eq_getElem?_getD, List.getElem?_eq_getElem (show i < l.length by omega)]
        · rw [List.getElem?_take_eq_none (by omega), List.getElem?_eq_none (by simp; omega)]
      rw [e]
      exact keyLits_u8 d _
  unfold keyOf
  rw [Tryz.underlying51]
  simp only
  rw [hk, hf]
  show ((Tryz.prog.keyLits (Tryz.prog.types.size + 1) 51 (bytesOf l)).map fun ls => Lit.string (keyBytes ls)) = _
  rw [hl]
  show some (Lit.string (keyBytes _)) = _
  rw [bytes_key]
end Go.Proofs.YtbohpffigmllkaaGreatDoor
