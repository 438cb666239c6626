/-
  extent.New, and the law's Try of a Put.
-/
import Derived.Test.YtbohpffigmllkaaGreatDoorExtPut
import Derived.Test.YtbohpffigmllkaaGreatDoorHeapB
namespace Go.Proofs.YtbohpffigmllkaaGreatDoor
open Go.RowKit Go.Maps Go.ChangeMaps Go.WideShapes

set_option maxRecDepth 100000 in
theorem eNew_any (b : HB) (L : List (List UInt8)) (w : World) :
    Calls Tryz.prog 10 #[.pointer (some ⟨b.hb, 0, none⟩), .int .i64 8] w fun e w' => e = .returned (.pointer (some ⟨w.heap.size + 1, 0, none⟩)) ∧ StAt b (w.heap.size + 1) w.heap.size 8 w' ∧ Tab (tblK Tryz.prog) w.heap.size (fun _ => none) L w' ∧ Grew (fun _ => False) w w' ∧ w'.heap.size = w.heap.size + 2 := by
  have hT : Hid (Tab (tblK Tryz.prog) w.heap.size (fun _ => none) L (w.alloc (.map #[] 0))) := Lib.hid (Tab.made _ _ _)
  have hmm := @run_makeMap Tryz.prog
  have hF : Hid (StAt b (w.heap.size + 1) w.heap.size 8 ((w.alloc (.map #[] 0)).alloc (.cells #[.pointer (some ⟨b.hb, 0, none⟩), .int .i64 8, .map (some w.heap.size)] 80))) := Lib.hid (by
    have := heap_alloc_new (w.alloc (.map #[] 0)) (.cells #[.pointer (some ⟨b.hb, 0, none⟩), .int .i64 8, .map (some w.heap.size)] 80)
    rw [World.size_alloc] at this
    exact this)
  have hT2 : Hid (Tab (tblK Tryz.prog) w.heap.size (fun _ => none) L ((w.alloc (.map #[] 0)).alloc (.cells #[.pointer (some ⟨b.hb, 0, none⟩), .int .i64 8, .map (some w.heap.size)] 80))) := Lib.hid (hT.out.keep (S := fun _ => False) ((Grew.refl _).alloc _) (fun e => e))
  have hg : Hid (Grew (fun _ => False) w ((w.alloc (.map #[] 0)).alloc (.cells #[.pointer (some ⟨b.hb, 0, none⟩), .int .i64 8, .map (some w.heap.size)] 80))) := Lib.hid (((Grew.refl _).alloc _).alloc _)
  clear hT
  go_enter Tryz.func10, Tryz.ntmps10
  go_wp2_with fail
  go_ret
  exact ⟨rfl, hF.out, hT2.out, hg.out, by simp⟩
end Go.Proofs.YtbohpffigmllkaaGreatDoor
