/-
  awake: the answers that the document fixes for 'abc'.
-/
import Derived.Test.YtheccbnejamhlaaDoorShaHex
namespace Go.Proofs.YtheccbnejamhlaaDoor
open Go.RowKit

theorem Laid.below {K : Nat → Nat} {s : Sha.St} {w w' : World} (h : Laid K s w) (k : Below w.heap.size w w') : Laid K s w' :=
  ⟨fun j v hv => by
    have h1 := h.table.1
    rw [k.cell (p := ⟨0, 0 + j, none⟩) (by show 0 < w.heap.size; omega)]
    exact h.start j v hv, h.table.only (b := w.heap.size) (.of_below k) (by have := h.table.1; omega)⟩
theorem Laid.alloc {K : Nat → Nat} {s : Sha.St} {w : World} (h : Laid K s w) (o : Obj) : Laid K s (w.alloc o) := h.below ((Below.refl _ _).alloc (Nat.le_refl _) _)
theorem Laid.drew {K : Nat → Nat} {s : Sha.St} {w : World} (h : Laid K s w) : Laid K s w.drew := h.below (Below.refl _ _).drew
def shaOf (l : List UInt8) : Sha.St := Sha.sha KK SS l
def sumVal (l : List UInt8) : Value := .agg (sumOf (shaOf l)).toArray
theorem of_one (b cap : Nat) (t : ByteArray) (l : List UInt8) (w : World) (hl : t.data.toList = l) (hL : Laid KK SS w) (ht : t.size ≤ maxLen) (hb : b < w.heap.size) (hc : w.cell? ⟨b, 0, none⟩ = some (.string t)) :
    Calls Tryd.prog 11 #[.slice (some ⟨b, 0, none⟩) 1 cap] w fun r w' => r = .returned (sumVal l) ∧ Below w.heap.size w w' := by
  have h := of_any b 0 cap [t] KK SS w KK_lt SS_ok hL (by simp) (fun i hi => by have : i < 1 := hi; obtain rfl : i = 0 := (by omega); exact hc) hb (fun i hi => by have : i < 1 := hi; obtain rfl : i = 0 := (by omega); exact ht)
  have e : cat [t] = l := by rw [← hl]; simp [cat]
  rw [e] at h
  exact h
theorem of_two (b cap : Nat) (t u : ByteArray) (l : List UInt8) (w : World) (hl : t.data.toList ++ u.data.toList = l) (hL : Laid KK SS w) (ht : t.size ≤ maxLen) (hu : u.size ≤ maxLen) (hb : b < w.heap.size) (hc : w.cell? ⟨b, 0, none⟩ = some (.string t)) (hd : w.cell? ⟨b, 1, none⟩ = some (.string u)) :
    Calls Tryd.prog 11 #[.slice (some ⟨b, 0, none⟩) 2 cap] w fun r w' => r = .returned (sumVal l) ∧ Below w.heap.size w w' := by
  have h := of_any b 0 cap [t, u] KK SS w KK_lt SS_ok hL (by simp)
    (fun i hi => by
      have : i < 2 := hi
      rcases (by omega : i = 0 ∨ i = 1) with rfl | rfl
      · exact hc
      · exact hd) hb
    (fun i hi => by
      have : i < 2 := hi
      rcases (by omega : i = 0 ∨ i = 1) with rfl | rfl
      · exact ht
      · exact hu)
  have e : cat [t, u] = l := by rw [← hl]; simp [cat]
  rw [e] at h
  exact h
theorem of_three (b cap : Nat) (t u v : ByteArray) (l : List UInt8) (w : World) (hl : t.data.toList ++ u.data.toList ++ v.data.toList = l) (hL : Laid KK SS w) (ht : t.size ≤ maxLen) (hu : u.size ≤ maxLen) (hv : v.size ≤ maxLen) (hb : b < w.heap.size)
    (hc : w.cell? ⟨b, 0, none⟩ = some (.string t)) (hd : w.cell? ⟨b, 1, none⟩ = some (.string u)) (he : w.cell? ⟨b, 2, none⟩ = some (.string v)) :
    Calls Tryd.prog 11 #[.slice (some ⟨b, 0, none⟩) 3 cap] w fun r w' => r = .returned (sumVal l) ∧ Below w.heap.size w w' := by
  have h := of_any b 0 cap [t, u, v] KK SS w KK_lt SS_ok hL (by simp)
    (fun i hi => by
      have : i < 3 := hi
      rcases (by omega : i = 0 ∨ i = 1 ∨ i = 2) with rfl | rfl | rfl
      · exact hc
      · exact hd
      · exact he) hb
    (fun i hi => by
      have : i < 3 := hi
      rcases (by omega : i = 0 ∨ i = 1 ∨ i = 2) with rfl | rfl | rfl
      · exact ht
      · exact hu
      · exact hv)
  have e : cat [t, u, v] = l := by rw [← hl]; simp [cat]
  rw [e] at h
  exact h
def abcHex : ByteArray := ⟨#[98, 97, 55, 56, 49, 54, 98, 102, 56, 102, 48, 49, 99, 102, 101, 97, 52, 49, 52, 49, 52, 48, 100, 101, 53, 100, 97, 101, 50, 50, 50, 51, 98, 48, 48, 51, 54, 49, 97, 51, 57, 54, 49, 55, 55, 97, 57, 99, 98, 52, 49, 48, 102, 102, 54, 49, 102, 50, 48, 48, 49, 53, 97, 100]⟩
set_option maxRecDepth 1000000 in
theorem abc_hex : hexOf (Sha.dg (shaOf [97, 98, 99])) 32 = [98, 97, 55, 56, 49, 54, 98, 102, 56, 102, 48, 49, 99, 102, 101, 97, 52, 49, 52, 49, 52, 48, 100, 101, 53, 100, 97, 101, 50, 50, 50, 51, 98, 48, 48, 51, 54, 49, 97, 51, 57, 54, 49, 55, 55, 97, 57, 99, 98, 52, 49, 48, 102, 102, 54, 49, 102, 50, 48, 48, 49, 53, 97, 100] := by decide +kernel
theorem hex_abc (w : World) : Calls Tryd.prog 15 #[sumVal [97, 98, 99]] w fun r w' => r = .returned (.string abcHex) ∧ Below w.heap.size w w' := by
  have h := hex_any (shaOf [97, 98, 99]) w
  rw [abc_hex] at h
  exact h
theorem below_next {W w w1 : World} (h : Below W.heap.size W w) (o : Obj) (k : Below (w.alloc o).heap.size (w.alloc o) w1) : Below W.heap.size W w1 := by
  have hs := h.size
  exact (h.alloc hs o).trans (k.mono (by simp; omega))
theorem sumVal_guard (l m : List UInt8) : ∀ (x y : Operand) (w : World), (eqGuard .eql 24 x y (sumVal l) (sumVal m)).run Tryd.prog w = .ok () w := fun x y w =>
  run_eqGuard_agg (P := Tryd.prog) w .eql 24 x y _ _ (by kernel_rfl)
theorem sumVal_eql (l m : List UInt8) : ∀ w : World, (binOp .eql 24 (sumVal l) (sumVal m)).run Tryd.prog w = .ok (.bool (same (shaOf l) (shaOf m))) w := fun w => by
  unfold sumVal
  rw [run_eql_struct, sum_eql]
  rfl

set_option maxRecDepth 100000 in
set_option maxHeartbeats 1000000 in
theorem awake_any (w : World) (hL : Laid KK SS w) :
    Calls Tryd.prog 12 #[] w fun e w' => e = .returned (.bool true) ∧ Below w.heap.size w w' := by
  have HL := Lib.hid hL
  clear hL
  go_enter Tryd.func12, Tryd.ntmps12
  go_wp2_with fail
  refine (of_one _ _ ⟨#[97, 98, 99]⟩ [97, 98, 99] _ rfl (HL.out.alloc _) (by decide) (by simp) (by simp)).mono ?_
  rintro e w1 ⟨rfl, hb1⟩
  have HB1 := Lib.hid hb1
  clear hb1
  go_wp2_with fail
  refine (hex_abc _).mono ?_
  rintro e w2 ⟨rfl, hb2⟩
  have HB2 := Lib.hid hb2
  clear hb2
  have hq : abcHex.toList = [98, 97, 55, 56, 49, 54, 98, 102, 56, 102, 48, 49, 99, 102, 101, 97, 52, 49, 52, 49, 52, 48, 100, 101, 53, 100, 97, 101, 50, 50, 50, 51, 98, 48, 48, 51, 54, 49, 97, 51, 57, 54, 49, 55, 55, 97, 57, 99, 98, 52, 49, 48, 102, 102, 54, 49, 102, 50, 48, 48, 49, 53, 97, 100] := ByteArray.toList_mk _
  have g1 := sumVal_guard [97, 98, 99] [97, 98, 99]
  have g2 := sumVal_eql [97, 98, 99] [97, 98, 99]
  rw [same_self] at g2
  have HL2 := Lib.hid (((HL.out.alloc (.cells #[.string ⟨#[97, 98, 99]⟩] 9)).below HB1.out).below HB2.out)
  go_wp2_with fail
  refine (of_two _ _ ⟨#[97]⟩ ⟨#[98, 99]⟩ [97, 98, 99] _ rfl (HL2.out.alloc _) (by decide) (by decide) (by simp) (by simp) (by simp)).mono ?_
  rintro e w3 ⟨rfl, hb3⟩
  have HB3 := Lib.hid hb3
  have HL3 := Lib.hid ((HL2.out.alloc _).below hb3)
  clear hb3
  go_wp2_with fail
  refine (of_one _ _ ⟨#[97, 98, 99]⟩ [97, 98, 99] _ rfl (HL3.out.alloc _) (by decide) (by simp) (by simp)).mono ?_
  rintro e w4 ⟨rfl, hb4⟩
  have HB4 := Lib.hid hb4
  clear hb4
  go_wp2_with fail
  go_ret
  exact ⟨rfl, below_next (below_next ((below_next (Below.refl _ _) _ HB1.out).trans (HB2.out.mono (by have := HB1.out.size; simp at this; omega))) _ HB3.out) _ HB4.out⟩
end Go.Proofs.YtheccbnejamhlaaDoor
