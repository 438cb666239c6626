/-
  A map of grants: Take, Hold, Give, Later, Back, Is, Free, Late, Held: contracts.
-/
import Derived.Test.YtjjmapmombhmlaaGrants2
namespace Go.Proofs.Ytjjmapmombhmlaa
open Go.RowKit

/-- what a call that turns a sector from a to b answers and leaves -/
def Turned (m g f n : Nat) (S : Nat → Nat) (i a b : Nat) (w : World) (r : Bool) (w' : World) : Prop :=
  ((S i = a → r = true ∧ MapAt m g f n (upd S i b) w') ∧ (¬ S i = a → r = false ∧ MapAt m g f n S w')) ∧ Grew (fun k => k = g) w w'
theorem turn_any (m g f n : Nat) (S : Nat → Nat) (i a b : Nat) (w : World) (h : MapAt m g f n S w) (hf : f ≤ 4096) (hn : n ≤ 4096) (hi : i < n) :
    Calls Try.prog 102 #[.pointer (some ⟨m, 0, none⟩), .int .i64 ((f + i : Nat) : Int), .int .u8 a, .int .u8 b] w fun e w' => ∃ r, e = .returned (.bool r) ∧ Turned m g f n S i a b w r w' := by
  by_cases hs : S i = a
  · refine (turn_ok m g f n S i a b w h hf hn hi hs).mono ?_
    rintro e w' ⟨rfl, rfl⟩
    exact ⟨true, rfl, ⟨fun _ => ⟨rfl, (h.set i b).drew.drew⟩, fun k => absurd hs k⟩, ((Grew.refl (S := fun k => k = g) w).setCell ⟨g, i, none⟩ _ (fun _ => rfl)).drew.drew⟩
  · refine (turn_not m g f n S i a b w h hf hn hi hs).mono ?_
    rintro e w' ⟨rfl, rfl⟩
    exact ⟨false, rfl, ⟨fun k => absurd k hs, fun _ => ⟨rfl, h.drew⟩⟩, (Grew.refl w).drew⟩
theorem hold_any (m g f n : Nat) (S : Nat → Nat) (i : Nat) (w : World) (h : MapAt m g f n S w) (hf : f ≤ 4096) (hn : n ≤ 4096) (hi : i < n) :
    Calls Try.prog 64 #[.pointer (some ⟨m, 0, none⟩), .int .i64 ((f + i : Nat) : Int)] w fun e w' => ∃ r, e = .returned (.bool r) ∧ Turned m g f n S i 0 1 w r w' := by
  have HT := Lib.hid (turn_any m g f n S i 0 1 w h hf hn hi)
  generalize Turned m g f n S i 0 1 w = Z at HT ⊢
  generalize f + i = T at HT ⊢
  clear h hf hn hi
  go_enter Try.func64, Try.ntmps64
  go_wp2_with fail
  refine HT.out.mono ?_
  rintro e w' ⟨r, rfl, hz⟩
  have HZ := Lib.hid hz
  clear hz HT
  go_wp2_with fail
  go_ret
  exact ⟨r, rfl, HZ.out⟩
theorem give_any (m g f n : Nat) (S : Nat → Nat) (i : Nat) (w : World) (h : MapAt m g f n S w) (hf : f ≤ 4096) (hn : n ≤ 4096) (hi : i < n) :
    Calls Try.prog 74 #[.pointer (some ⟨m, 0, none⟩), .int .i64 ((f + i : Nat) : Int)] w fun e w' => ∃ r, e = .returned (.bool r) ∧ Turned m g f n S i 1 0 w r w' := by
  have HT := Lib.hid (turn_any m g f n S i 1 0 w h hf hn hi)
  generalize Turned m g f n S i 1 0 w = Z at HT ⊢
  generalize f + i = T at HT ⊢
  clear h hf hn hi
  go_enter Try.func74, Try.ntmps74
  go_wp2_with fail
  refine HT.out.mono ?_
  rintro e w' ⟨r, rfl, hz⟩
  have HZ := Lib.hid hz
  clear hz HT
  go_wp2_with fail
  go_ret
  exact ⟨r, rfl, HZ.out⟩
theorem later_any (m g f n : Nat) (S : Nat → Nat) (i : Nat) (w : World) (h : MapAt m g f n S w) (hf : f ≤ 4096) (hn : n ≤ 4096) (hi : i < n) :
    Calls Try.prog 106 #[.pointer (some ⟨m, 0, none⟩), .int .i64 ((f + i : Nat) : Int)] w fun e w' => ∃ r, e = .returned (.bool r) ∧ Turned m g f n S i 1 2 w r w' := by
  have HT := Lib.hid (turn_any m g f n S i 1 2 w h hf hn hi)
  generalize Turned m g f n S i 1 2 w = Z at HT ⊢
  generalize f + i = T at HT ⊢
  clear h hf hn hi
  go_enter Try.func106, Try.ntmps106
  go_wp2_with fail
  refine HT.out.mono ?_
  rintro e w' ⟨r, rfl, hz⟩
  have HZ := Lib.hid hz
  clear hz HT
  go_wp2_with fail
  go_ret
  exact ⟨r, rfl, HZ.out⟩
theorem back_any (m g f n : Nat) (S : Nat → Nat) (i : Nat) (w : World) (h : MapAt m g f n S w) (hf : f ≤ 4096) (hn : n ≤ 4096) (hi : i < n) :
    Calls Try.prog 105 #[.pointer (some ⟨m, 0, none⟩), .int .i64 ((f + i : Nat) : Int)] w fun e w' => ∃ r, e = .returned (.bool r) ∧ Turned m g f n S i 2 1 w r w' := by
  have HT := Lib.hid (turn_any m g f n S i 2 1 w h hf hn hi)
  generalize Turned m g f n S i 2 1 w = Z at HT ⊢
  generalize f + i = T at HT ⊢
  clear h hf hn hi
  go_enter Try.func105, Try.ntmps105
  go_wp2_with fail
  refine HT.out.mono ?_
  rintro e w' ⟨r, rfl, hz⟩
  have HZ := Lib.hid hz
  clear hz HT
  go_wp2_with fail
  go_ret
  exact ⟨r, rfl, HZ.out⟩
theorem free_any (m g f n : Nat) (S : Nat → Nat) (w : World) (h : MapAt m g f n S w) (hn : n ≤ 4096) :
    Calls Try.prog 67 #[.pointer (some ⟨m, 0, none⟩)] w fun e w' => e = .returned (.int .i64 (cnt S 0 n)) ∧ w = w' := by
  have HT := Lib.hid (count_any m g f n S 0 w h hn)
  generalize cnt S 0 n = c at HT ⊢
  clear h hn
  go_enter Try.func67, Try.ntmps67
  go_wp2_with fail
  refine HT.out.mono ?_
  rintro e w' ⟨rfl, rfl⟩
  go_wp2_with fail
  go_ret
  exact ⟨rfl, rfl⟩
theorem held_any (m g f n : Nat) (S : Nat → Nat) (w : World) (h : MapAt m g f n S w) (hn : n ≤ 4096) :
    Calls Try.prog 66 #[.pointer (some ⟨m, 0, none⟩)] w fun e w' => e = .returned (.int .i64 (cnt S 1 n)) ∧ w = w' := by
  have HT := Lib.hid (count_any m g f n S 1 w h hn)
  generalize cnt S 1 n = c at HT ⊢
  clear h hn
  go_enter Try.func66, Try.ntmps66
  go_wp2_with fail
  refine HT.out.mono ?_
  rintro e w' ⟨rfl, rfl⟩
  go_wp2_with fail
  go_ret
  exact ⟨rfl, rfl⟩
theorem late_any (m g f n : Nat) (S : Nat → Nat) (w : World) (h : MapAt m g f n S w) (hn : n ≤ 4096) :
    Calls Try.prog 71 #[.pointer (some ⟨m, 0, none⟩)] w fun e w' => e = .returned (.int .i64 (cnt S 2 n)) ∧ w = w' := by
  have HT := Lib.hid (count_any m g f n S 2 w h hn)
  generalize cnt S 2 n = c at HT ⊢
  clear h hn
  go_enter Try.func71, Try.ntmps71
  go_wp2_with fail
  refine HT.out.mono ?_
  rintro e w' ⟨rfl, rfl⟩
  go_wp2_with fail
  go_ret
  exact ⟨rfl, rfl⟩
theorem is_any (m g f n : Nat) (S : Nat → Nat) (i : Nat) (w : World) (h : MapAt m g f n S w) (hf : f ≤ 4096) (hn : n ≤ 4096) (hi : i < n) :
    Calls Try.prog 62 #[.pointer (some ⟨m, 0, none⟩), .int .i64 ((f + i : Nat) : Int)] w fun e w' => e = .returned (.bool (decide (S i = 1))) ∧ w.drew = w' := by
  have HT := Lib.hid (has_in m g f n S i 1 w h hf hn hi)
  generalize decide (S i = 1) = c at HT ⊢
  generalize f + i = T at HT ⊢
  clear h hf hn hi
  go_enter Try.func62, Try.ntmps62
  go_wp2_with fail
  refine HT.out.mono ?_
  rintro e w' ⟨rfl, rfl⟩
  go_wp2_with fail
  go_ret
  exact ⟨rfl, rfl⟩
/-- what Take answers and leaves -/
inductive Taken (m g f n : Nat) (S : Nat → Nat) (w : World) : Value → World → Prop where
  | one (j : Nat) (w' : World) (hj : j < n) (h0 : S j = 0) (hno : ∀ i, i < j → ¬ S i = 0) (h : MapAt m g f n (upd S j 1) w') (hg : Grew (fun k => k = g) w w') : Taken m g f n S w (.tuple #[.int .i64 ((f + j : Nat) : Int), .bool true]) w'
  | none (w' : World) (hno : ∀ i, i < n → ¬ S i = 0) (h : MapAt m g f n S w') (hg : Grew (fun k => k = g) w w') : Taken m g f n S w (.tuple #[.int .i64 0, .bool false]) w'
set_option maxHeartbeats 1000000 in
theorem take_any (m g f n : Nat) (S : Nat → Nat) (w : World) (h : MapAt m g f n S w) (hf : f ≤ 4096) (hn : n ≤ 4096) :
    Calls Try.prog 72 #[.pointer (some ⟨m, 0, none⟩)] w fun e w' => ∃ v, e = .returned v ∧ Taken m g f n S w v w' := by
  have c0 := h.c0
  have c1 := h.c1
  have HX := Lib.hid (index_any g n S w h.row hn)
  have H := Lib.hid h
  clear h
  go_enter Try.func72, Try.ntmps72
  go_wp2_with fail
  refine HX.out.mono ?_
  rintro e w' ⟨⟨j, hj, h0, hno, rfl⟩ | ⟨hno, rfl⟩, rfl⟩
  · have hcell := H.out.row.cell hj
    have hfr := H.out.row.frozen j
    have e5 : ¬ (j : Int) < 0 := by omega
    have e6 : (j : Int) < (n : Int) := by omega
    have e4 : IntKind.i64.wrap ((f : Int) + (j : Int)) = (f : Int) + (j : Int) := IntWalk.i64_in _ (by omega)
    have c0' : (w.setCell ⟨g, j, none⟩ (.int .u8 1)).cell? ⟨m, 0, none⟩ = some (.int .i64 f) := by rw [World.cell?_setCell_far _ _ _ _ (fun e => H.out.ne e.symm)]; exact c0
    have HN := Lib.hid hno
    have H0 := Lib.hid h0
    clear hno h0 HX
    go_wp2_with fail
    go_ret2
    exact ⟨_, rfl, Taken.one j _ hj H0.out HN.out (H.out.set j 1) ((Grew.refl (S := fun k => k = g) w).setCell ⟨g, j, none⟩ _ (fun _ => rfl))⟩
  · have HN := Lib.hid hno
    clear hno HX
    go_wp2_with fail
    go_ret2
    exact ⟨_, rfl, Taken.none _ HN.out H.out (Grew.refl _)⟩
end Go.Proofs.Ytjjmapmombhmlaa
