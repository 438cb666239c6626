/-
  The law's Frame, in a Guard: for every stamp and text the frame, or the error; and what the law asks at its head.
-/
import Derived.Test.YtdojmlfpckgdoaaStampFrame
import Derived.Laws.EntriesVeiled
namespace Go.Proofs.Ytdojmlfpckgdoaa
open Go.RowKit

def frameErr (t : ByteArray) : Option Int := if t.size ≤ 47 then none else some 3
def frameRes (a b : Nat) (t : ByteArray) : ByteArray := if t.size ≤ 47 then ⟨(frameOf a b t.data.toList).toArray⟩ else ⟨#[]⟩
theorem frame1_any (px py pz a b : Nat) (t : ByteArray) (w : World) (ha : a < 4294967296) (hb : b < 4294967296) (c0 : w.cell? ⟨px, 0, none⟩ = some (.int .u32 a)) (c1 : w.cell? ⟨px, 1, none⟩ = some (.int .u32 b)) (ct : w.cell? ⟨py, 0, none⟩ = some (.string t))
    (cz : w.cell? ⟨pz, 0, none⟩ = some (.string ⟨#[]⟩)) (fz : w.frozen? ⟨pz, 0, none⟩ = false) :
    Calls Try.prog 63 #[.pointer (some ⟨px, 0, none⟩), .pointer (some ⟨py, 0, none⟩), .pointer (some ⟨pz, 0, none⟩)] w fun e w' =>
      ∃ o, e = Ends o ∧ Grew (fun k => k = pz) w w' ∧ o = frameErr t ∧ w'.cell? ⟨pz, 0, none⟩ = some (.string (frameRes a b t)) := by
  by_cases ht : t.size ≤ 47
  · have HF := Lib.hid (frame_ok a b t w ht ha hb)
    have e1 : frameErr t = none := by unfold frameErr; rw [if_pos ht]
    have e2 : frameRes a b t = ⟨(frameOf a b t.data.toList).toArray⟩ := by unfold frameRes; rw [if_pos ht]
    rw [e1, e2]
    generalize (⟨(frameOf a b t.data.toList).toArray⟩ : ByteArray) = F at HF ⊢
    clear e1 e2
    have hz := cell_lt cz
    go_enter Try.func63, Try.ntmps63
    go_wp2_with fail
    refine HF.out.mono ?_
    rintro e w1 ⟨rfl, hb1⟩
    have cz1 : w1.cell? ⟨pz, 0, none⟩ = some (.string ⟨#[]⟩) := by rw [hb1.cell hz]; exact cz
    have fz1 : w1.frozen? ⟨pz, 0, none⟩ = false := by rw [hb1.frozen hz]; exact fz
    have HB := Lib.hid hb1
    clear hb1 c0 c1 ct cz fz
    go_wp2_with fail
    go_end0
    exact ⟨none, rfl, (Grew.of_below HB.out).setCell _ _ fun _ => rfl, rfl, World.cell?_setCell_same _ _ _ cz1⟩
  · have HF := Lib.hid (frame_big a b t w (by omega))
    have e1 : frameErr t = some 3 := by unfold frameErr; rw [if_neg ht]
    have e2 : frameRes a b t = ⟨#[]⟩ := by unfold frameRes; rw [if_neg ht]
    rw [e1, e2]
    clear e1 e2
    have hz := cell_lt cz
    have HZ := Lib.hid cz
    clear cz
    go_enter Try.func63, Try.ntmps63
    go_wp2_with fail
    refine HF.out.mono ?_
    rintro e w1 ⟨rfl, hb1⟩
    have cz1 : w1.cell? ⟨pz, 0, none⟩ = some (.string ⟨#[]⟩) := by rw [hb1.cell hz]; exact HZ.out
    have HB := Lib.hid hb1
    clear hb1 c0 c1 ct fz
    unfold failed
    go_wp2_with fail
    refine ⟨rfl, some 3, rfl, Grew.of_below HB.out, rfl, cz1⟩
theorem guardFrame (px py pz a b : Nat) (t : ByteArray) (w : World) (ha : a < 4294967296) (hb : b < 4294967296) (c0 : w.cell? ⟨px, 0, none⟩ = some (.int .u32 a)) (c1 : w.cell? ⟨px, 1, none⟩ = some (.int .u32 b)) (ct : w.cell? ⟨py, 0, none⟩ = some (.string t))
    (cz : w.cell? ⟨pz, 0, none⟩ = some (.string ⟨#[]⟩)) (fz : w.frozen? ⟨pz, 0, none⟩ = false) :
    Calls Try.prog 53 #[.func (.func 63) #[] #[.pointer (some ⟨px, 0, none⟩), .pointer (some ⟨py, 0, none⟩), .pointer (some ⟨pz, 0, none⟩)]] w fun e w' =>
      e = .returned (.int .i64 ((frameErr t).getD 0)) ∧ Grew (fun k => k = pz) w w' ∧ w'.cell? ⟨pz, 0, none⟩ = some (.string (frameRes a b t)) := by
  have hz := cell_lt cz
  have hin := frame1_any px py pz a b t (w.alloc errBox) ha hb (by rw [World.cell?_alloc_past (hn := cell_lt c0), c0]) (by rw [World.cell?_alloc_past (hn := cell_lt c1), c1]) (by rw [World.cell?_alloc_past (hn := cell_lt ct), ct])
    (by rw [World.cell?_alloc_past (hn := hz), cz]) (by rw [World.frozen?_alloc_old (h := by simp; omega), fz])
  refine (guard_grew _ _ w (fun k => k = pz) (fun o w1 => o = frameErr t ∧ w1.cell? ⟨pz, 0, none⟩ = some (.string (frameRes a b t))) (by omega) (fun _ => by kernel_rfl) hin).mono ?_
  rintro e w' ⟨o', w1, rfl, ⟨rfl, hc⟩, rfl, hG, hlt⟩
  refine ⟨rfl, hG, ?_⟩
  rw [done_cell (by show pz ≠ _; omega) (by show pz < _; omega)]
  exact hc
theorem lawFrame_any (a b : Nat) (t : ByteArray) (w : World) (ha : a < 4294967296) (hb : b < 4294967296) :
    Calls Try.prog 30 #[.agg #[.int .u32 a, .int .u32 b], .string t] w fun e w' => e = .returned (.tuple #[.string (frameRes a b t), .int .i64 ((frameErr t).getD 0)]) ∧ Below w.heap.size w w' := by
  have hmf : ∀ (fn : Fn) (first cap : Array Value) (w : World), (Instr.makeFunc fn first cap).run Try.prog w = .ok (.func fn first cap) w := fun _ _ _ _ => rfl
  obtain ⟨W, hW⟩ : ∃ W, ((w.alloc (.cells #[.int .u32 a, .int .u32 b] 56)).alloc (.cells #[.string t] 9)).alloc (.cells #[.string ⟨#[]⟩] 9) = W := ⟨_, rfl⟩
  have hB : Below w.heap.size w W := by rw [← hW]; exact boxBelow3 _ _ _
  have hs : W.heap.size = w.heap.size + 3 := by rw [← hW]; simp
  have s1 : (w.alloc (.cells #[.int .u32 a, .int .u32 b] 56)).heap.size = w.heap.size + 1 := by simp
  have s2 : ((w.alloc (.cells #[.int .u32 a, .int .u32 b] 56)).alloc (.cells #[.string t] 9)).heap.size = w.heap.size + 2 := by simp
  obtain ⟨p0, p1⟩ := pair_cells w (.int .u32 a) (.int .u32 b) 56
  have q0 : W.cell? ⟨w.heap.size, 0, none⟩ = some (.int .u32 a) := by rw [← hW]; exact boxOld (boxOld p0 (by omega)) (by omega)
  have q1 : W.cell? ⟨w.heap.size, 1, none⟩ = some (.int .u32 b) := by rw [← hW, World.cell?_alloc_past (hn := by show w.heap.size < _; omega), World.cell?_alloc_past (hn := by show w.heap.size < _; omega)]; exact p1
  have qt : W.cell? ⟨w.heap.size + 1, 0, none⟩ = some (.string t) := by rw [← hW]; exact boxOld (boxNew s1) (by omega)
  have qz : W.cell? ⟨w.heap.size + 2, 0, none⟩ = some (.string ⟨#[]⟩) := by rw [← hW]; exact boxNew s2
  have fz : W.frozen? ⟨w.heap.size + 2, 0, none⟩ = false := by rw [← hW]; exact boxFree s2
  have HG := Lib.hid (guardFrame w.heap.size (w.heap.size + 1) (w.heap.size + 2) a b t W ha hb q0 q1 qt qz fz)
  have HE : Hid (∀ w', Grew (fun k => k = w.heap.size + 2) W w' → Below w.heap.size w w') := Lib.hid fun w' g => g.below hB (by omega) (fun k e => by omega)
  have HW := Lib.hid hW
  clear hB hs s1 s2 p0 p1 q0 q1 qt qz fz hW
  generalize (frameErr t).getD 0 = k at HG ⊢
  generalize frameRes a b t = F at HG ⊢
  go_enter Try.func30, Try.ntmps30
  go_wp2_with fail
  rw [HW.out]
  refine HG.out.mono ?_
  rintro e w1 ⟨rfl, g, c⟩
  have c' : w1.cell? ⟨w.heap.size + 1 + 1, 0, none⟩ = some (.string F) := c
  have HB := Lib.hid (HE.out _ g)
  clear HG HE g HW c
  go_wp2_with fail
  go_ret2
  exact ⟨rfl, HB.out⟩
end Go.Proofs.Ytdojmlfpckgdoaa
