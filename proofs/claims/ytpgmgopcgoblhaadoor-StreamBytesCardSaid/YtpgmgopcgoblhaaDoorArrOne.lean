/-
  An array of 32 bytes handed in by value: it is a list's cells.
-/
import Derived.Test.YtpgmgopcgoblhaaDoorStreamMade
import Derived.Test.YtpgmgopcgoblhaaDoorCells
import Derived.ProofKit
import Derived.OpenShut
namespace Go.Proofs.YtpgmgopcgoblhaaDoor
open Go.ChangeShapes Go.WideShapes Go.ChangeAt Go.RowKit

theorem okWide_array {P : Program} {w : World} {r : Reach} {base : Nat} {t e : TypeId} {n : Nat} {v : Value} (ht : P.underlying t = some (.array n e)) (h : Value.okWide P w r base t v) : ∃ cs, v = .agg cs ∧ cs.size = P.cellsOf t := by
  simp only [Value.okWide, ht] at h
  obtain ⟨cs, h1, h2, _⟩ := h
  exact ⟨cs, h1, h2⟩
/-- the byte in a row's cell -/
def byteAt (cs : List Value) (j : Nat) : Nat := match cs[j]? with | some (.int _ n) => n.toNat % 256 | _ => 0
theorem byteAt_lt (cs : List Value) (j : Nat) : byteAt cs j < 256 := by
  unfold byteAt
  split
  · omega
  · decide
def Bytes (cs : List Value) (n : Nat) : Prop := cs.length = n ∧ ∀ j, j < n → ∃ k : Nat, k < 256 ∧ cs[j]? = some (.int .u8 (k : Int))
theorem Bytes.at' {cs : List Value} {n : Nat} (h : Bytes cs n) (j : Nat) (hj : j < n) : cs[j]? = some (.int .u8 (byteAt cs j : Nat)) := by
  obtain ⟨k, hk, e⟩ := h.2 j hj
  unfold byteAt
  rw [e]
  show _ = some (Value.int .u8 (((k : Int).toNat % 256 : Nat) : Int))
  rw [show (k : Int).toNat % 256 = k by omega]
section
variable {H : Type} {enc : TypeId × Value → H} {w : World} {base : Nat} {spare : Nat → Bool} {held : Bool} {fuel : Nat} {cs : List Value} {x : DataW H × List MemPlace}
theorem bytes_of_trod (h : DataW.trod enc Tryd.prog w base spare held fuel 22 cs = some x) : Bytes cs 32 := by
  obtain ⟨xs, m, _, _, hl, hx, hi⟩ := DataW.trod_array Tryd.underlying22 h
  rw [show Tryd.prog.cellsOf 22 = 32 by kernel_rfl] at hl
  rw [show Tryd.prog.cellsOf 5 = 1 by kernel_rfl] at hi
  refine ⟨hl, fun j hj => ?_⟩
  have h1 := hi j hj
  rw [List.getElem?_eq_getElem (by omega)] at h1
  obtain ⟨n, e, _, hw⟩ := DataW.trod_int Tryd.underlying5 h1
  have hb := bounds_u8 hw
  have hc : cs[j]? = some (.int .u8 n) := by
    have := congrArg (fun l => l[0]?) e
    simpa using this
  exact ⟨n.toNat, by omega, by rw [hc, Int.toNat_of_nonneg hb.1]⟩
end
set_option maxRecDepth 20000 in
theorem Bytes.arr {cs : List Value} (h : Bytes cs 32) : cs = arr (byteAt cs) := by
  apply List.ext_getElem?
  intro j
  by_cases hj : j < 32
  · rw [h.at' j hj, arr_at _ j hj]
  · rw [List.getElem?_eq_none (by rw [h.1]; omega), List.getElem?_eq_none (by rw [arr_len]; omega)]
set_option maxRecDepth 20000 in
theorem open_arrF {H : Type} {enc : TypeId × Value → H} {w : World} {base b0 : Nat} {spare : Nat → Bool} {held : Bool} {r : Reach} {v : Value} {d : DataW H} {p : List MemPlace}
    (hv : Value.okWide Tryd.prog w r b0 22 v) (h : DataW.Trod enc Tryd.prog w base spare held 22 v d p) :
    ∃ f : Nat → Nat, (∀ j, f j < 256) ∧ v = .agg (arr f).toArray := by
  obtain ⟨cs, rfl, _⟩ := okWide_array Tryd.underlying22 hv
  obtain ⟨fuel, hf⟩ := h
  have hb : Bytes cs.toList 32 := bytes_of_trod hf
  exact ⟨_, byteAt_lt cs.toList, by rw [← hb.arr]⟩

set_option maxRecDepth 20000 in
theorem open_arr {H : Type} {enc : TypeId × Value → H} {w : World} {base b0 : Nat} {spare : Nat → Bool} {held : Bool} {r : Reach} {v : Value} {d : DataW H} {p : List MemPlace}
    (hv : Value.okWide Tryd.prog w r b0 22 v) (h : DataW.Trod enc Tryd.prog w base spare held 22 v d p) :
    ∃ l : List UInt8, l.length = 32 ∧ v = .agg (cellsOf l).toArray := by
  obtain ⟨f, hf, rfl⟩ := open_arrF hv h
  refine ⟨txt f, by simp [txt], ?_⟩
  have e : cellsOf (txt f) = arr f := by
    unfold cellsOf txt arr
    rw [List.map_map]
    refine List.map_congr_left fun j _ => ?_
    have := hf j
    simp
    omega
  rw [e]
end Go.Proofs.YtpgmgopcgoblhaaDoor
