/-
  extent's law: the answers that the document fixes, in every world.
-/
import Derived.Test.YtbohpffigmllkaaGreatDoorExtCost
import Derived.Test.YtbohpffigmllkaaGreatDoorShelfRepeat
import Derived.Test.YtbohpffigmllkaaGreatDoorBoxes
import Derived.Laws.MakeOwn
import Derived.Deep.RegionHeld3
namespace Go.Proofs.YtbohpffigmllkaaGreatDoor
open Go.RowKit

theorem make_secs : ∃ Z : Array Value, ∀ w : World, (Instr.makeSlice 75 (.int .i64 9) (.int .i64 9)).run Tryz.prog w = .ok (.slice (some ⟨w.heap.size, 0, none⟩) 9 9) (w.alloc (.cells Z 107)) := by
  have hm : (Tryz.prog.info? 107).map (fun i => (i.zero.isSome, i.size, i.bytes)) = some (true, 64, 64) := by kernel_rfl
  obtain ⟨i, hi, hz, hs, hb⟩ : ∃ i, Tryz.prog.info? 107 = some i ∧ i.zero.isSome = true ∧ i.size = 64 ∧ i.bytes = 64 := by
    cases hq : Tryz.prog.info? 107 with
    | none => rw [hq] at hm; simp at hm
    | some i =>
      rw [hq, Option.map_some] at hm
      injection hm with hm
      injection hm with e1 hm
      injection hm with e2 e3
      exact ⟨i, rfl, e1, e2, e3⟩
  obtain ⟨z, hz⟩ := Option.isSome_iff_exists.1 hz
  exact ⟨_, fun w => run_make (P := Tryz.prog) w 75 107 i z Tryz.underlying75 hi hz .i64 .i64 9 9 (by omega) (by omega) (by rw [hb]; omega) (by omega)⟩
theorem make_seven : ∃ Z : Array Value, ∀ w : World, (Instr.makeSlice 120 (.int .i64 7) (.int .i64 7)).run Tryz.prog w = .ok (.slice (some ⟨w.heap.size, 0, none⟩) 7 7) (w.alloc (.cells Z 135)) := by
  have hm : (Tryz.prog.info? 135).map (fun i => (i.zero.isSome, i.bytes)) = some (true, 1) := by kernel_rfl
  obtain ⟨i, hi, hz, hb⟩ : ∃ i, Tryz.prog.info? 135 = some i ∧ i.zero.isSome = true ∧ i.bytes = 1 := by
    cases hq : Tryz.prog.info? 135 with
    | none => rw [hq] at hm; simp at hm
    | some i =>
      rw [hq, Option.map_some] at hm
      injection hm with hm
      injection hm with e1 e2
      exact ⟨i, rfl, e1, e2⟩
  obtain ⟨z, hz⟩ := Option.isSome_iff_exists.1 hz
  exact ⟨_, fun w => run_make (P := Tryz.prog) w 120 135 i z Tryz.underlying120 hi hz .i64 .i64 7 7 (by omega) (by omega) (by rw [hb]; omega) (by omega)⟩
set_option maxRecDepth 100000 in
theorem disk9 (w : World) : Calls Tryz.prog 9 #[.int .i64 9] w fun e w' => ∃ b s, e = .returned (.pointer (some ⟨b, 0, none⟩)) ∧ w'.cell? ⟨b, 1, none⟩ = some (.slice s 9 9) ∧ Below w.heap.size w w' := by
  obtain ⟨Z, hmk⟩ := make_secs
  have HC : Hid (∀ s1 s2 : Option Addr, (((w.alloc (.cells Z 107)).alloc (.cells Z 107)).alloc (.cells #[.slice s1 9 9, .slice s2 9 9, .bool false, .int .i64 0, .bool false] 77)).cell? ⟨w.heap.size + 2, 1, none⟩ = some (.slice s2 9 9)) := Lib.hid fun s1 s2 => by
    have hd : ((w.alloc (.cells Z 107)).alloc (.cells Z 107)).heap.size = w.heap.size + 2 := by simp
    rw [← hd, World.cell?_alloc_new]
    rfl
  have HB : Hid (∀ o, Below w.heap.size w (((w.alloc (.cells Z 107)).alloc (.cells Z 107)).alloc o)) := Lib.hid fun o => boxBelow3 _ _ _
  go_enter Tryz.func9, Tryz.ntmps9
  go_upto_region 2 with fail
  rw [show min (max (9 : Int) 0) 4096 = 9 by decide]
  go_region_held3 (fun _ => True) (exact trivial) (fail)
  all_goals (go_wp2_with fail)
  all_goals go_ret
  · exact ⟨w.heap.size + 2, _, rfl, HC.out _ _, (HB.out _).drew⟩
  · exact ⟨w.heap.size + 2, _, rfl, HC.out _ _, (HB.out _).drew⟩
set_option maxRecDepth 100000 in
theorem grants7 (w : World) : Calls Tryz.prog 51 #[.int .i64 2, .int .i64 9] w fun e w' => ∃ b, e = .returned (.pointer (some ⟨b, 0, none⟩)) ∧ Below w.heap.size w w' := by
  obtain ⟨Z, hmk⟩ := make_seven
  have HB : Hid (∀ o, Below w.heap.size w ((w.alloc (.cells Z 135)).alloc o)) := Lib.hid fun o => ((Below.refl _ _).alloc (Nat.le_refl _) _).alloc (by simp) _
  have h7 : IntKind.i64.wrap ((9 : Int) - 2) = 7 := by decide
  have h70 : max (7 : Int) 0 = 7 := by decide
  go_enter Tryz.func51, Tryz.ntmps51
  go_wp2_with fail
  go_ret
  exact ⟨_, rfl, HB.out _⟩
theorem len9 (b : Nat) (s : Option Addr) (w : World) (h : w.cell? ⟨b, 1, none⟩ = some (.slice s 9 9)) : Calls Tryz.prog 52 #[.pointer (some ⟨b, 0, none⟩)] w fun e w' => e = .returned (.int .i64 9) ∧ w = w' := by
  go_enter Tryz.func52, Tryz.ntmps52
  go_wp2_with fail
  go_ret
  exact ⟨rfl, rfl⟩
theorem below_map {w wx : World} (h : Below w.heap.size w wx) (o : Obj) : Below w.heap.size w (wx.alloc o) := h.alloc h.size o
theorem heap9 (b : Nat) (s : Option Addr) (w : World) (h : w.cell? ⟨b, 1, none⟩ = some (.slice s 9 9)) : Calls Tryz.prog 8 #[.pointer (some ⟨b, 0, none⟩), .int .i64 2] w fun e w' => ∃ c, e = .returned (.pointer (some ⟨c, 0, none⟩)) ∧ Below w.heap.size w w' := by
  have HL := Lib.hid fun wx hc => len9 b s wx hc
  have HG := Lib.hid grants7
  have h1 : ∀ o, (w.alloc o).cell? ⟨b, 1, none⟩ = some (.slice s 9 9) := fun o => by
    rw [World.cell?_alloc_past (hn := World.block_lt_of_cell? w _ h)]
    exact h
  have H1 := Lib.hid h1
  clear h h1
  have hmm : ∀ (t : TypeId) (wx : World), (Instr.makeMap t none).run Tryz.prog wx = .ok (.map (some wx.heap.size)) (wx.alloc (.map #[] 0)) := fun _ _ => rfl
  go_enter Tryz.func8, Tryz.ntmps8
  go_wp2_with fail
  refine (HL.out _ (H1.out _)).mono ?_
  rintro e w1 ⟨rfl, rfl⟩
  go_wp2_with fail
  refine (HG.out _).mono ?_
  rintro e w2 ⟨c, rfl, hb⟩
  have HB2 : Hid (Below w.heap.size w w2) := Lib.hid ((below_map (Below.refl _ w) _).trans (hb.mono (by simp)))
  clear hb
  go_wp2_with fail
  go_ret
  exact ⟨_, rfl, below_map (below_map (below_map HB2.out _) _) _⟩
theorem ext8 (b : Nat) (w : World) : Calls Tryz.prog 10 #[.pointer (some ⟨b, 0, none⟩), .int .i64 8] w fun e w' => ∃ c, e = .returned (.pointer (some ⟨c, 0, none⟩)) ∧ Below w.heap.size w w' := by
  have hmm : ∀ (t : TypeId) (wx : World), (Instr.makeMap t none).run Tryz.prog wx = .ok (.map (some wx.heap.size)) (wx.alloc (.map #[] 0)) := fun _ _ => rfl
  go_enter Tryz.func10, Tryz.ntmps10
  go_wp2_with fail
  go_ret
  exact ⟨_, rfl, below_map (below_map (Below.refl _ w) _) _⟩
/-- the text of which awake asks what it costs -/
def a255 : List UInt8 := 97 :: List.replicate 255 0
theorem a255_cost : costN a255 = 2 := by decide +kernel
theorem rep255 (w : World) : Calls Tryz.prog 50 #[.string ⟨#[0]⟩, .int .i64 255] w fun e w' => e = .returned (.string ⟨(List.replicate 255 (0 : UInt8)).toArray⟩) ∧ Below w.heap.size w w' := by
  have h := libRepeat ⟨#[0]⟩ 255 w (by decide) (by decide)
  refine h.mono ?_
  rintro e w' ⟨rfl, hb⟩
  refine ⟨?_, hb⟩
  have e : Lib.repeatL [(0 : UInt8)] 255 = List.replicate 255 0 := by decide +kernel
  show Ending.returned (.string ⟨(Lib.repeatL [(0 : UInt8)] 255).toArray⟩) = _
  rw [e]
theorem cost255 (w : World) : Calls Tryz.prog 44 #[.string ⟨a255.toArray⟩] w fun e w' => e = .returned (.int .i64 2) ∧ Below w.heap.size w w' := by
  have h := cost_any ⟨a255.toArray⟩ w (by decide +kernel)
  rw [show (⟨a255.toArray⟩ : ByteArray).data.toList = a255 by simp, a255_cost] at h
  exact h
theorem zero2 (w : World) : Calls Tryz.prog 43 #[.string ⟨#[0, 0]⟩] w fun e w' => e = .returned (.bool true) ∧ Below w.heap.size w w' := by
  refine (zero_any ⟨#[0, 0]⟩ w (by decide)).mono ?_
  rintro e w' ⟨rfl, hw⟩
  refine ⟨rfl, ?_⟩
  rcases hw with rfl | rfl
  · exact Below.refl _ _
  · exact (Below.refl _ _).drew
theorem zeroA (w : World) : Calls Tryz.prog 43 #[.string ⟨#[97]⟩] w fun e w' => e = .returned (.bool false) ∧ Below w.heap.size w w' := by
  refine (zero_any ⟨#[97]⟩ w (by decide)).mono ?_
  rintro e w' ⟨rfl, hw⟩
  refine ⟨rfl, ?_⟩
  rcases hw with rfl | rfl
  · exact Below.refl _ _
  · exact (Below.refl _ _).drew
set_option maxRecDepth 100000 in
set_option maxHeartbeats 1000000 in
theorem extAwake (w : World) : Calls Tryz.prog 7 #[] w fun e w' => e = .returned (.bool true) ∧ Below w.heap.size w w' := by
  have HR := Lib.hid rep255
  have HC := Lib.hid cost255
  have HZ2 := Lib.hid zero2
  have HZA := Lib.hid zeroA
  have HD := Lib.hid disk9
  have HH := Lib.hid fun b s wx h => heap9 b s wx h
  have HE := Lib.hid ext8
  have hadd : ∀ wx : World, (Op.stringOp .add ⟨#[97]⟩ ⟨(List.replicate 255 (0 : UInt8)).toArray⟩).run Tryz.prog wx = .ok (.string ⟨a255.toArray⟩) wx := fun wx => by
    have h := run_string_add_sum (P := Tryz.prog) wx ⟨#[97]⟩ ⟨(List.replicate 255 (0 : UInt8)).toArray⟩ (by decide +kernel)
    rw [h]
    congr 2
  generalize (⟨(List.replicate 255 (0 : UInt8)).toArray⟩ : ByteArray) = RR at *
  generalize (⟨a255.toArray⟩ : ByteArray) = AA at *
  go_enter Tryz.func7, Tryz.ntmps7
  go_wp2_with fail
  refine (HR.out w).mono ?_
  rintro e w1 ⟨rfl, hb1⟩
  have HB1 := Lib.hid hb1
  clear hb1
  go_wp2_with fail
  refine (HC.out w1).mono ?_
  rintro e w2 ⟨rfl, hb2⟩
  have HB2 := Lib.hid (HB1.out.trans (hb2.mono HB1.out.size))
  clear hb2
  go_wp2_with fail
  refine (HZ2.out w2).mono ?_
  rintro e w3 ⟨rfl, hb3⟩
  have HB3 := Lib.hid (HB2.out.trans (hb3.mono HB2.out.size))
  clear hb3
  go_wp2_with fail
  refine (HZA.out w3).mono ?_
  rintro e w4 ⟨rfl, hb4⟩
  have HB4 := Lib.hid (HB3.out.trans (hb4.mono HB3.out.size))
  clear hb4
  go_wp2_with fail
  refine (HD.out w4).mono ?_
  rintro e w5 ⟨b, s, rfl, hc, hb5⟩
  have HB5 := Lib.hid (HB4.out.trans (hb5.mono HB4.out.size))
  have HCc := Lib.hid hc
  clear hb5 hc
  go_wp2_with fail
  refine (HH.out b s w5 HCc.out).mono ?_
  rintro e w6 ⟨c, rfl, hb6⟩
  have HB6 := Lib.hid (HB5.out.trans (hb6.mono HB5.out.size))
  clear hb6
  go_wp2_with fail
  refine (HE.out c w6).mono ?_
  rintro e w7 ⟨d, rfl, hb7⟩
  have HB7 := Lib.hid (HB6.out.trans (hb7.mono HB6.out.size))
  clear hb7
  go_wp2_with fail
  go_ret
  exact ⟨rfl, HB7.out⟩
end Go.Proofs.YtbohpffigmllkaaGreatDoor
