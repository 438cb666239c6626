/-
  Texts put together: UndoLog, UndoTry, UndoSet, UndoAwake, UndoGen.
-/
import Derived.Test.YtbohpffigmllkaaGreatDoorBoxes
import Derived.Lib.OwnKind
import Derived.IntWalk
import Derived.Laws.EntriesVeiled
import Derived.Deep.LoopGhost
/-
  A log in memory: what it remembers; Deep, Back, and how it goes back: contracts.
-/
namespace Go.Proofs.YtbohpffigmllkaaGreatDoor
open Go.RowKit

/-- a step back: a function and what it has caught -/
abbrev Step := FuncId × Array Value
def stepV (s : Step) : Value := .func (.func s.1) #[] s.2
def stepsV (l : List Step) : List Value := l.map stepV
/-- a block that holds no steps -/
def other (b : Nat) (w : World) : Prop := ∃ c t fz, w.heap[b]? = some (.cells c t fz) ∧ t ≠ 1
structure LogAt (B g dp : Nat) (v : Value) (fs : List Step) (w : World) : Prop where
  c0 : w.cell? ⟨g, 0, none⟩ = some (.int .i64 dp)
  c1 : w.cell? ⟨g, 1, none⟩ = some v
  f0 : w.frozen? ⟨g, 0, none⟩ = false
  f1 : w.frozen? ⟨g, 1, none⟩ = false
  row : w.ownsRow B 1 1 v fs.length (stepsV fs)
  kind : other g w
theorem LogAt.lt {B g dp : Nat} {v : Value} {fs : List Step} {w : World} (h : LogAt B g dp v fs w) : g < w.heap.size := cell_lt h.c0
theorem other.lt {b : Nat} {w : World} (h : other b w) : b < w.heap.size := by
  obtain ⟨c, t, fz, e, _⟩ := h
  rcases Nat.lt_or_ge b w.heap.size with h1 | h1
  · exact h1
  · rw [Array.getElem?_eq_none h1] at e; cases e
theorem other.block {b : Nat} {w w' : World} (h : other b w) (e : w'.heap[b]? = w.heap[b]?) : other b w' := by
  obtain ⟨c, t, fz, e1, ht⟩ := h
  exact ⟨c, t, fz, e.trans e1, ht⟩
theorem other.ne {b B n : Nat} {v : Value} {xs : List Value} {w : World} (h : other b w) (ho : w.ownsRow B 1 1 v n xs) : v.ownBlock ≠ some b := fun e => by
  obtain ⟨c, t, fz, e1, ht⟩ := h
  obtain ⟨c', fz', e2⟩ := Lib.ownsRow_kind ho b e
  rw [e1] at e2
  simp at e2
  exact ht e2.2.1
theorem other.set {b : Nat} {w : World} (h : other b w) (p : Addr) (x : Value) : other b (w.setCell p x) := by
  obtain ⟨c, t, fz, e1, ht⟩ := h
  by_cases hb : b = p.block
  · subst hb
    by_cases hs : p.spot.isSome = true
    · exact ⟨c, t, fz, by simp [World.setCell, Array.getElem?_modify, e1, hs], ht⟩
    · exact ⟨c.setIfInBounds p.off x, t, fz, by simp [World.setCell, Array.getElem?_modify, e1, hs], ht⟩
  · exact ⟨c, t, fz, by rw [Below.heap_setCell _ _ _ _ hb]; exact e1, ht⟩
/-- what a call leaves of a log: all blocks but g and the steps' row may have turned -/
theorem LogAt.keep {B g dp : Nat} {v : Value} {fs : List Step} {S : Nat → Prop} {w w' : World} (h : LogAt B g dp v fs w) (k : Grew S w w') (hg : ¬ S g) (hr : ∀ q, v.ownBlock = some q → ¬ S q) : LogAt B g dp v fs w' := by
  refine ⟨by rw [k.cell (p := ⟨g, 0, none⟩) h.lt hg]; exact h.c0, by rw [k.cell (p := ⟨g, 1, none⟩) h.lt hg]; exact h.c1, by rw [k.frozen (p := ⟨g, 0, none⟩) h.lt hg]; exact h.f0, by rw [k.frozen (p := ⟨g, 1, none⟩) h.lt hg]; exact h.f1, ?_, h.kind.block (k.block g h.lt hg)⟩
  rcases h.row.2 with ⟨rfl, h0⟩ | ⟨b, cap, cur, rfl, a1, a2, a3, a4, a5, a6⟩
  · exact ⟨h.row.1, Or.inl ⟨rfl, h0⟩⟩
  · have hlt : b < w.heap.size := by
      rcases Nat.lt_or_ge b w.heap.size with e | e
      · exact e
      · rw [Array.getElem?_eq_none e] at a2; cases a2
    exact ⟨h.row.1, Or.inr ⟨b, cap, cur, rfl, a1, (k.block b hlt (hr b rfl)).trans a2, a3, a4, a5, a6⟩⟩
/-- a store of one that isn't the log's -/
theorem LogAt.keepSet {B g dp : Nat} {v : Value} {fs : List Step} {w : World} (h : LogAt B g dp v fs w) (b o : Nat) (x : Value) (hb : other b w) (hn : b ≠ g) : LogAt B g dp v fs (w.setCell ⟨b, o, none⟩ x) :=
  h.keep (S := fun k => k = b) ((Grew.refl w).setCell _ _ fun _ => rfl) (fun e => hn e.symm) (fun q hq e => by subst e; exact hb.ne h.row hq)
theorem LogAt.keepAlloc {B g dp : Nat} {v : Value} {fs : List Step} {w : World} (h : LogAt B g dp v fs w) (o : Obj) : LogAt B g dp v fs (w.alloc o) :=
  h.keep (S := fun _ => False) ((Grew.refl w).alloc o) (fun e => e) (fun _ _ e => e)
theorem LogAt.deep {B g dp : Nat} {v : Value} {fs : List Step} {w : World} (h : LogAt B g dp v fs w) (d : Nat) : LogAt B g d v fs (w.setCell ⟨g, 0, none⟩ (.int .i64 d)) := by
  have k : Grew (fun k => k = g) w (w.setCell ⟨g, 0, none⟩ (.int .i64 d)) := (Grew.refl w).setCell _ _ fun _ => rfl
  refine ⟨World.cell?_setCell_same _ _ _ h.c0, ?_, ?_, ?_, ?_, h.kind.set _ _⟩
  · rw [World.cell?_setCell_other _ _ _ _ (by simp)]; exact h.c1
  · rw [World.frozen?_setCell]; exact h.f0
  · rw [World.frozen?_setCell]; exact h.f1
  · rcases h.row.2 with ⟨rfl, h0⟩ | ⟨b, cap, cur, rfl, a1, a2, a3, a4, a5, a6⟩
    · exact ⟨h.row.1, Or.inl ⟨rfl, h0⟩⟩
    · exact ⟨h.row.1, Or.inr ⟨b, cap, cur, rfl, a1, by rw [Below.heap_setCell _ _ _ _ (fun e => h.kind.ne h.row (congrArg some e))]; exact a2, a3, a4, a5, a6⟩⟩
/-- another row of steps -/
theorem LogAt.steps {B g dp : Nat} {v v' : Value} {fs fs' : List Step} {w : World} (h : LogAt B g dp v fs w) (ho : w.ownsRow B 1 1 v' fs'.length (stepsV fs')) : LogAt B g dp v' fs' (w.setCell ⟨g, 1, none⟩ v') := by
  refine ⟨?_, World.cell?_setCell_same _ _ _ h.c1, ?_, ?_, ?_, h.kind.set _ _⟩
  · rw [World.cell?_setCell_other _ _ _ _ (by simp)]; exact h.c0
  · rw [World.frozen?_setCell]; exact h.f0
  · rw [World.frozen?_setCell]; exact h.f1
  · rcases ho.2 with ⟨rfl, h0⟩ | ⟨b, cap, cur, rfl, a1, a2, a3, a4, a5, a6⟩
    · exact ⟨ho.1, Or.inl ⟨rfl, h0⟩⟩
    · exact ⟨ho.1, Or.inr ⟨b, cap, cur, rfl, a1, by rw [Below.heap_setCell _ _ _ _ (fun e => h.kind.ne ho (congrArg some e))]; exact a2, a3, a4, a5, a6⟩⟩
theorem own_take {B n k cap : Nat} {ao : Option Addr} {fs : List Step} {w : World} (h : w.ownsRow B 1 1 (.slice ao n cap) n (stepsV fs)) (hk : k ≤ n) : w.ownsRow B 1 1 (.slice ao k cap) k (stepsV (fs.take k)) := by
  have hl : fs.length = n := by simpa [stepsV] using h.1
  refine ⟨by simp [stepsV]; omega, ?_⟩
  rcases h.2 with ⟨e, h0⟩ | ⟨b, cap', cur, e, a1, a2, a3, a4, a5, a6⟩
  · cases e
    exact Or.inl ⟨by obtain rfl : k = 0 := by omega
                     rfl, by omega⟩
  · cases e
    refine Or.inr ⟨b, cap, cur, rfl, a1, a2, by omega, a4, a5, ?_⟩
    have e1 : stepsV (fs.take k) = (stepsV fs).take k := by simp [stepsV, List.map_take]
    rw [e1, ← a6, List.take_take]
    congr 1
    omega
theorem deep_any (B g dp : Nat) (v : Value) (fs : List Step) (w : World) (h : LogAt B g dp v fs w) :
    Calls Tryz.prog 54 #[.pointer (some ⟨g, 0, none⟩)] w fun e w' => e = .returned (.int .i64 dp) ∧ w = w' := by
  have c0 := h.c0
  clear h
  go_enter Tryz.func54, Tryz.ntmps54
  go_wp2_with fail
  go_ret
  exact ⟨rfl, rfl⟩
theorem back_none (B g : Nat) (v : Value) (fs : List Step) (s : Value) (w : World) (h : LogAt B g 0 v fs w) :
    Calls Tryz.prog 126 #[.pointer (some ⟨g, 0, none⟩), s] w fun e w' => e = .returned (.tuple #[]) ∧ w = w' := by
  have c0 := h.c0
  clear h
  go_enter Tryz.func126, Tryz.ntmps126
  go_wp2_with fail
  go_end0
  exact ⟨rfl, rfl⟩
theorem infoFn : (Tryz.prog.info? 1).map (fun i => (i.zero, i.size, i.bytes)) = some (some .nilFunc, 1, 8) := by kernel_rfl
theorem info_parts' {P : Program} {t : TypeId} {z : Option Value} {n b : Nat} (h : (P.info? t).map (fun i => (i.zero, i.size, i.bytes)) = some (z, n, b)) : ∃ i, P.info? t = some i ∧ i.zero = z ∧ i.size = n ∧ i.bytes = b := by
  cases e : P.info? t with
  | none => rw [e] at h; cases h
  | some i =>
    rw [e] at h
    simp at h
    exact ⟨i, rfl, h.1, h.2.1, h.2.2⟩
set_option maxRecDepth 10000 in
set_option maxHeartbeats 1000000 in
theorem back_some (B g dp : Nat) (v : Value) (fs : List Step) (s : Step) (w : World) (h : LogAt B g (dp + 1) v fs w) (hl : fs.length < 100000) (hB : B ≤ w.heap.size) :
    Calls Tryz.prog 126 #[.pointer (some ⟨g, 0, none⟩), stepV s] w fun e w' => e = .returned (.tuple #[]) ∧ ∃ v', LogAt B g (dp + 1) v' (fs ++ [s]) w' ∧ Grew (fun k => k = g ∨ v.ownBlock = some k) w w' ∧ (∀ o, ¬ o = 1 → w'.cell? ⟨g, o, none⟩ = w.cell? ⟨g, o, none⟩) ∧ (∀ o, w'.frozen? ⟨g, o, none⟩ = w.frozen? ⟨g, o, none⟩) := by
  obtain ⟨i0, hi, hz0, hz1, hz2⟩ := info_parts' infoFn
  have HI0 := Lib.hid hi
  have HI1 := Lib.hid hz0
  have HI2 := Lib.hid hz1
  have HI3 := Lib.hid hz2
  clear hi hz0 hz1 hz2
  have c0 := h.c0
  have c1 := h.c1
  have f1 := h.f1
  have H := Lib.hid h
  have hi : (0 : Int) < ((dp + 1 : Nat) : Int) := by omega
  have hgl := h.lt
  clear h
  obtain ⟨F, C, rfl⟩ : ∃ F C, s = (F, C) := ⟨s.1, s.2, rfl⟩
  show Calls Tryz.prog 126 #[.pointer (some ⟨g, 0, none⟩), .func (.func F) #[] C] w _
  have HO := Lib.hid (H.out.row.alloc (.cells #[.func (.func F) #[] C] 1))
  have HK : Hid (∀ w', (w.alloc (.cells #[.func (.func F) #[] C] 1)).grownBy w' v.ownBlock → w'.cell? ⟨g, 1, none⟩ = some v ∧ w'.frozen? ⟨g, 1, none⟩ = false ∧ LogAt B g (dp + 1) v fs w ∧ (∀ v', w'.ownsRow B 1 1 v' (fs.length + 1) (stepsV (fs ++ [(F, C)])) → LogAt B g (dp + 1) v' (fs ++ [(F, C)]) (w'.setCell ⟨g, 1, none⟩ v')) ∧ Grew (fun k => k = g ∨ v.ownBlock = some k) w w' ∧ (∀ o, w'.cell? ⟨g, o, none⟩ = w.cell? ⟨g, o, none⟩) ∧ (∀ o, w'.frozen? ⟨g, o, none⟩ = w.frozen? ⟨g, o, none⟩)) := Lib.hid fun w' hg => by
    have hla := H.out.keepAlloc (.cells #[.func (.func F) #[] C] 1)
    have hne := hla.kind.ne hla.row
    have gr : Grew (fun k => v.ownBlock = some k) (w.alloc (.cells #[.func (.func F) #[] C] 1)) w' := (Grew.refl _).grown hg fun _ _ e => e
    have e0 := gr.cell (p := ⟨g, 0, none⟩) hla.lt hne
    have e1 := gr.cell (p := ⟨g, 1, none⟩) hla.lt hne
    have z0 := gr.frozen (p := ⟨g, 0, none⟩) hla.lt hne
    have z1 := gr.frozen (p := ⟨g, 1, none⟩) hla.lt hne
    refine ⟨by rw [e1]; exact hla.c1, by rw [z1]; exact hla.f1, H.out, fun v' ho => ?_, ((Grew.refl w).alloc _).step gr fun _ _ e => Or.inr e, fun o => (gr.cell (p := ⟨g, o, none⟩) hla.lt hne).trans (((Grew.refl (S := fun _ => False) w).alloc _).cell (p := ⟨g, o, none⟩) H.out.lt fun e => e), fun o => (gr.frozen (p := ⟨g, o, none⟩) hla.lt hne).trans (((Grew.refl (S := fun _ => False) w).alloc _).frozen (p := ⟨g, o, none⟩) H.out.lt fun e => e)⟩
    have hk' : other g w' := hla.kind.block (gr.block g hla.lt hne)
    refine ⟨?_, World.cell?_setCell_same _ _ _ (show w'.cell? ⟨g, 1, none⟩ = some v by rw [e1]; exact hla.c1), ?_, ?_, ?_, hk'.set _ _⟩
    · rw [World.cell?_setCell_other _ _ _ _ (by simp), e0]; exact hla.c0
    · rw [World.frozen?_setCell, z0]; exact hla.f0
    · rw [World.frozen?_setCell, z1]; exact hla.f1
    · have e2 : (fs ++ [(F, C)]).length = fs.length + 1 := by simp
      rw [e2]
      rcases ho.2 with ⟨rfl, h0⟩ | ⟨b, cap, cur, rfl, a1, a2, a3, a4, a5, a6⟩
      · omega
      · exact ⟨ho.1, Or.inr ⟨b, cap, cur, rfl, a1, by rw [Below.heap_setCell _ _ _ _ (fun e => hk'.ne ho (congrArg some e))]; exact a2, a3, a4, a5, a6⟩⟩
  have hnn : ∀ wx : World, (binOp .neq 1 (.func (.func F) #[] C) .nilFunc).run Tryz.prog wx = .ok (.bool true) wx := fun _ => by kernel_rfl
  go_enter Tryz.func126, Tryz.ntmps126
  go_wp2_with (at_builtin; (refine wpList_append_lies _ rfl _ _ 66 rfl B 1 i0 .nilFunc 1 8 Tryz.underlying66 HI0.out HI1.out HI2.out HI3.out rfl (by decide) v fs.length (stepsV fs) rfl HO.out ⟨w.heap.size, 0, none⟩ 1 1 [.func (.func F) #[] C] rfl rfl ?_ ?_ (by decide) ?_ ?_ ?_ _ rfl ?_); (focus (intro j u hu; match j, hu with | 0, hu => (simp at hu; subst hu; rw [Addr.add_lit]; exact boxNew rfl))); (focus (intro u hu; simp at hu; subst hu; rfl)); (focus (unfold maxLen; omega)); (focus omega); (focus (simp; omega)); (intro g1 cap1 w1 hown hgr hlies hlt); (obtain ⟨k1, k2, _, k3, k4, k5, k6⟩ := HK.out w1 hgr); (have HN := Lib.hid (k3 _ (by simpa [stepsV, stepV] using hown))); (have HG := Lib.hid k4); (have HC5 := Lib.hid k5); (have HC6 := Lib.hid k6); clear hown hgr hlies hlt k3 k4 k5 k6)
  go_end0
  exact ⟨rfl, _, HN.out, HG.out.setCell _ _ fun _ => Or.inl rfl, fun o ho => by rw [World.cell?_setCell_other _ _ _ _ (by intro e; cases e; exact ho rfl)]; exact HC5.out o, fun o => by rw [World.frozen?_setCell]; exact HC6.out o⟩
end Go.Proofs.YtbohpffigmllkaaGreatDoor

/-
  A log: the steps back, one by one; a Try, by what it runs: contracts.
-/
namespace Go.Proofs.YtbohpffigmllkaaGreatDoor
open Go.RowKit

def sliceLen : Option Value → Nat
  | some (.slice _ n _) => n
  | _ => 0
theorem step_cell {B n cap : Nat} {ao : Option Addr} {fs : List Step} {w : World} (h : w.ownsRow B 1 1 (.slice ao n cap) n (stepsV fs)) (i : Nat) (hi : i < fs.length) : ∃ b, ao = some ⟨b, 0, none⟩ ∧ w.cell? ⟨b, i, none⟩ = some (stepV fs[i]) ∧ n ≤ cap := by
  have hl : fs.length = n := by simpa [stepsV] using h.1
  rcases h.2 with ⟨e, h0⟩ | ⟨b, cap', cur, e, a1, a2, a3, a4, a5, a6⟩
  · omega
  · cases e
    refine ⟨b, rfl, ?_, a3⟩
    have := h.cells (g := b) rfl i (stepV fs[i]) (by simp [stepsV, hi])
    rw [Addr.add_lit] at this
    simpa using this
set_option maxRecDepth 10000 in
set_option maxHeartbeats 1000000 in
theorem undo_any (B g dp n0 : Nat) (fs : List Step) (P : Nat → World → Prop) (v : Value) (w : World) (hL : LogAt B g dp v fs w) (hP : P fs.length w) (hn : n0 ≤ fs.length) (hf : fs.length < 100000)
    (hset : ∀ k wx x, P k wx → P k (wx.setCell ⟨g, 1, none⟩ x))
    (hstep : ∀ k, n0 ≤ k → (hk : k < fs.length) → ∀ vx wx, LogAt B g dp vx (fs.take k) wx → P (k + 1) wx → (∀ wy : World, (callFunc fs[k].1 fs[k].2).run Tryz.prog wy = .ok (.enter fs[k].1 fs[k].2) wy) ∧ Calls Tryz.prog fs[k].1 fs[k].2 wx fun e w' => e = .returned (.tuple #[]) ∧ (∃ v', LogAt B g dp v' (fs.take k) w') ∧ P k w') :
    Calls Tryz.prog 90 #[.pointer (some ⟨g, 0, none⟩), .int .i64 n0] w fun e w' => e = .returned (.tuple #[]) ∧ (∃ v', LogAt B g dp v' (fs.take n0) w') ∧ P n0 w' := by
  have HL := Lib.hid hL
  have HP := Lib.hid hP
  have HSet := Lib.hid hset
  have HStep := Lib.hid hstep
  clear hL hP hset hstep
  go_enter Tryz.func90, Tryz.ntmps90
  go_wp2_with fail
  go_loopw [4] (fun _ wx => ∃ k vx, n0 ≤ k ∧ k ≤ fs.length ∧ LogAt B g dp vx (fs.take k) wx ∧ P k wx) (fun _ wx => sliceLen (wx.cell? ⟨g, 1, none⟩))
  case atStart => exact ⟨fs.length, v, hn, Nat.le_refl _, by rw [List.take_of_length_le (Nat.le_refl _)]; exact HL.out, HP.out⟩
  case round =>
    obtain ⟨k, vx, hk1, hk2, hl, hp⟩ := hrel
    have hlen : (fs.take k).length = k := by rw [List.length_take]; omega
    have hr := hl.row
    rw [hlen] at hr
    obtain ⟨ao, cap, rfl⟩ : ∃ ao cap, vx = .slice ao k cap := by
      rcases hr.2 with ⟨e, h0⟩ | ⟨b, cap', cur, e, _⟩
      · exact ⟨none, 0, by rw [e, h0]⟩
      · exact ⟨_, _, e⟩
    have c1 := hl.c1
    have f1 := hl.f1
    have Hl := Lib.hid hl
    have Hp := Lib.hid hp
    have HR := Lib.hid hr
    clear hl hp hr hlen HL HP
    by_cases hlt : n0 < k
    · obtain ⟨j, rfl⟩ : ∃ j, k = j + 1 := ⟨k - 1, by omega⟩
      obtain ⟨b, rfl, hc, hcap⟩ := step_cell HR.out j (by rw [List.length_take]; omega)
      have hj : j < fs.length := by omega
      have e1 : (fs.take (j + 1))[j]'(by rw [List.length_take]; omega) = fs[j] := by simp
      rw [e1] at hc
      have i1 : (n0 : Int) < ((j + 1 : Nat) : Int) := by omega
      have i2 : ((j + 1 : Nat) : Int) - 1 = (j : Int) := by omega
      have i3 : (0 : Int) ≤ (j : Int) := by omega
      have i4 : (j : Int) < ((j + 1 : Nat) : Int) := by omega
      have i5 : (j : Int) ≤ (cap : Int) := by omega
      have HW : Hid (LogAt B g dp (.slice (some ⟨b, 0, none⟩) j cap) (fs.take j) (wr.setCell ⟨g, 1, none⟩ (.slice (some ⟨b, 0, none⟩) j cap)) ∧ P (j + 1) (wr.setCell ⟨g, 1, none⟩ (.slice (some ⟨b, 0, none⟩) j cap))) := Lib.hid (by
        have ht := own_take HR.out (k := j) (by omega)
        rw [List.take_take, show min j (j + 1) = j by omega] at ht
        have hlj : (fs.take j).length = j := by rw [List.length_take]; omega
        exact ⟨Hl.out.steps (by rw [hlj]; exact ht), HSet.out _ _ _ Hp.out⟩)
      obtain ⟨hcall, hrun⟩ := HStep.out j (by omega) hj _ _ HW.out.1 HW.out.2
      obtain ⟨F, C, hFC⟩ : ∃ F C, fs[j] = (F, C) := ⟨fs[j].1, fs[j].2, rfl⟩
      rw [hFC] at hc hcall hrun
      have HRun := Lib.hid hrun
      have hc' : wr.cell? ⟨b, j, none⟩ = some (.func (.func F) #[] C) := hc
      have hcall' : ∀ wy : World, (callFunc F C).run Tryz.prog wy = .ok (.enter F C) wy := hcall
      clear hrun hFC e1 hc hcall
      go_wp2_with fail
      refine HRun.out.mono ?_
      rintro e w1 ⟨rfl, ⟨v', hl'⟩, hp'⟩
      have Hl' := Lib.hid hl'
      have Hp' := Lib.hid hp'
      clear hl' hp' HRun HW
      go_wp2_with fail
      go_roundw
      case rel => exact ⟨j, v', by omega, by omega, Hl'.out, Hp'.out⟩
      case measure =>
        rw [Hl'.out.c1, c1]
        have hr := Hl'.out.row
        have hlj : (fs.take j).length = j := by rw [List.length_take]; omega
        rw [hlj] at hr
        rcases hr.2 with ⟨e, h0⟩ | ⟨b, cap', cur, e, _⟩
        · rw [e]
          show 0 < j + 1
          omega
        · rw [e]
          show j < j + 1
          omega
    · obtain rfl : k = n0 := by omega
      have i1 : ¬ (k : Int) < (k : Int) := by omega
      go_wp2_with fail
      go_end0
      exact ⟨rfl, ⟨_, Hl.out⟩, Hp.out⟩
theorem LogAt.done {B g dp b : Nat} {v : Value} {fs : List Step} {w : World} (h : LogAt B g dp v fs w) (hb : w.heap[b]? = some errBox) (hn : b ≠ g) (o : Option Int) : LogAt B g dp v fs (done b o w) := by
  have ho : other b w := ⟨_, _, _, hb, by decide⟩
  cases o with
  | none => exact h.keepSet b 0 _ ho hn
  | some k => exact (h.keepSet b 0 _ ho hn).keepAlloc _
/-- what a Try does at its end -/
def endTry (g dp : Nat) (w : World) : World := if dp = 0 then (w.setCell ⟨g, 0, none⟩ (.int .i64 (0 : Nat))).setCell ⟨g, 1, none⟩ (.slice none 0 0) else w.setCell ⟨g, 0, none⟩ (.int .i64 dp)
theorem LogAt.endTry {B g dp d : Nat} {v : Value} {fs : List Step} {w : World} (h : LogAt B g d v fs w) : ∃ v', LogAt B g dp v' (if dp = 0 then [] else fs) (endTry g dp w) := by
  unfold Go.Proofs.YtbohpffigmllkaaGreatDoor.endTry
  by_cases hd : dp = 0
  · subst hd
    rw [if_pos rfl, if_pos rfl]
    exact ⟨_, (h.deep 0).steps (World.ownsRow_nil _ _ _ _)⟩
  · rw [if_neg hd, if_neg hd]
    exact ⟨v, h.deep dp⟩
set_option maxRecDepth 10000 in
set_option maxHeartbeats 2000000 in
theorem try_any (B g dp : Nat) (v : Value) (fs : List Step) (run : FuncId) (cap : Array Value) (w : World) (hL : LogAt B g dp v fs w) (hd : dp < 100000) (R : Option Int → List Step → World → Prop) (Q : Int → World → Prop)
    (hcall : ∀ wy : World, (callFunc run cap).run Tryz.prog wy = .ok (.enter run cap) wy)
    (hrun : Calls Tryz.prog run cap ((w.setCell ⟨g, 0, none⟩ (.int .i64 ((dp + 1 : Nat) : Int))).alloc errBox) fun e w' => ∃ o fs' v', e = Ends o ∧ w'.heap[w.heap.size]? = some errBox ∧ LogAt B g (dp + 1) v' (fs ++ fs') w' ∧ (∀ k, o = some k → ¬ k = 0) ∧ R o fs' w')
    (hundo : ∀ k fs' v' w', w'.heap[w.heap.size]? = some errBox → LogAt B g (dp + 1) v' (fs ++ fs') (done w.heap.size (some k) w') → R (some k) fs' w' → Calls Tryz.prog 90 #[.pointer (some ⟨g, 0, none⟩), .int .i64 fs.length] (done w.heap.size (some k) w') fun e w'' => e = .returned (.tuple #[]) ∧ (∃ v'', LogAt B g (dp + 1) v'' fs w'') ∧ Q k w'') :
    Calls Tryz.prog 53 #[.pointer (some ⟨g, 0, none⟩), .func (.func run) #[] cap] w fun e w' => ∃ o, e = .returned (.int .i64 (o.getD 0)) ∧ ∃ w3, w' = endTry g dp w3 ∧
      ((o = none ∧ ∃ fs' w1, R none fs' w1 ∧ w1.heap[w.heap.size]? = some errBox ∧ w3 = done w.heap.size none w1 ∧ ∃ v', LogAt B g (dp + 1) v' (fs ++ fs') w3) ∨ (∃ k, o = some k ∧ ¬ k = 0 ∧ Q k w3 ∧ ∃ v', LogAt B g (dp + 1) v' fs w3)) := by
  have c0 := hL.c0
  have c1 := hL.c1
  have f0 := hL.f0
  have hgl := hL.lt
  obtain ⟨ao, cp, rfl⟩ : ∃ ao cp, v = .slice ao fs.length cp := by
    rcases hL.row.2 with ⟨e, h0⟩ | ⟨b, cap', cur, e, _⟩
    · exact ⟨none, 0, by rw [e, h0]⟩
    · exact ⟨_, _, e⟩
  have hsz : (w.setCell ⟨g, 0, none⟩ (.int .i64 ((dp + 1 : Nat) : Int))).heap.size = w.heap.size := by simp [World.setCell]
  have hG := guard_any run cap (w.setCell ⟨g, 0, none⟩ (.int .i64 ((dp + 1 : Nat) : Int))) (fun o w' => ∃ fs' v', w'.heap[w.heap.size]? = some errBox ∧ LogAt B g (dp + 1) v' (fs ++ fs') w' ∧ (∀ k, o = some k → ¬ k = 0) ∧ R o fs' w') hcall (hrun.mono (by
    rintro e w' ⟨o, fs', v', rfl, hb, hl, hk, hr⟩
    rw [hsz]
    refine ⟨o, rfl, ?_, ?_, ?_, fs', v', hb, hl, hk, hr⟩
    · simp [World.cell?, hb]
    · simp [World.frozen?, hb]
    · rcases Nat.lt_or_ge w.heap.size w'.heap.size with h1 | h1
      · exact h1
      · rw [Array.getElem?_eq_none h1] at hb; cases hb))
  rw [hsz] at hG
  have HG := Lib.hid hG
  have HU := Lib.hid hundo
  have hne : w.heap.size ≠ g := by omega
  clear hG hrun hundo hsz hcall
  go_enter Tryz.func53, Tryz.ntmps53
  go_wp2_with fail
  refine HG.out.mono ?_
  rintro e w1 ⟨o, w1', ⟨fs', v', hb, hl, hk, hr⟩, rfl, rfl⟩
  have hld := hl.done hb hne o
  cases o with
  | none =>
    have d0 := hld.c0
    have d1 := hld.f0
    have d3 := hld.f1
    have d2 := hld.c1
    have HD := Lib.hid hld
    have HR := Lib.hid hr
    have Hb := Lib.hid hb
    obtain ⟨w3, hw3⟩ : ∃ w3, done w.heap.size none w1' = w3 := ⟨_, rfl⟩
    rw [hw3] at d0 d1 d2 d3 HD ⊢
    have HW3 := Lib.hid hw3
    clear hld hr hb hl hk hw3 HG HU
    show (match Ending.returned (.int .i64 0), w3 with | _, _ => _)
    by_cases hz : dp = 0
    · subst hz
      have i1 : ((0 + 1 : Nat) : Int) - 1 = 0 := by omega
      go_wp2_with fail
      go_ret
      exact ⟨none, rfl, w3, rfl, Or.inl ⟨rfl, fs', w1', HR.out, Hb.out, HW3.out.symm, v', HD.out⟩⟩
    · have i1 : ((dp + 1 : Nat) : Int) - 1 = (dp : Int) := by omega
      have i2 : ((dp : Int) == 0) = false := by rw [beq_eq_false_iff_ne]; omega
      go_wp2_with fail
      go_ret
      exact ⟨none, rfl, w3, by unfold endTry; rw [if_neg hz], Or.inl ⟨rfl, fs', w1', HR.out, Hb.out, HW3.out.symm, v', HD.out⟩⟩
  | some k =>
    have hk0 := hk k rfl
    have HUk := Lib.hid (HU.out k fs' v' w1' hb hld hr)
    have i0 : (k == 0) = false := by rw [beq_eq_false_iff_ne]; exact hk0
    have Hk0 := Lib.hid hk0
    clear hld hr hb hl hk HG HU hk0
    generalize done w.heap.size (some k) w1' = w2 at *
    show (match Ending.returned (.int .i64 k), w2 with | _, _ => _)
    go_wp2_with fail
    refine HUk.out.mono ?_
    rintro e w3 ⟨rfl, ⟨v3, hl3⟩, hq⟩
    have d0 := hl3.c0
    have d1 := hl3.f0
    have d2 := hl3.c1
    have d3 := hl3.f1
    have HD := Lib.hid hl3
    have HQ := Lib.hid hq
    clear hl3 hq HUk
    by_cases hz : dp = 0
    · subst hz
      have i1 : ((0 + 1 : Nat) : Int) - 1 = 0 := by omega
      go_wp2_with fail
      go_ret
      exact ⟨some k, rfl, w3, rfl, Or.inr ⟨k, rfl, Hk0.out, HQ.out, v3, HD.out⟩⟩
    · have i1 : ((dp + 1 : Nat) : Int) - 1 = (dp : Int) := by omega
      have i2 : ((dp : Int) == 0) = false := by rw [beq_eq_false_iff_ne]; omega
      go_wp2_with fail
      go_ret
      exact ⟨some k, rfl, w3, by unfold endTry; rw [if_neg hz], Or.inr ⟨k, rfl, Hk0.out, HQ.out, v3, HD.out⟩⟩
end Go.Proofs.YtbohpffigmllkaaGreatDoor

/-
  Set, of a number, and how it is undone: contracts; what the law asks at its head.
-/
namespace Go.Proofs.YtbohpffigmllkaaGreatDoor
open Go.RowKit

/-- a block of one cell -/
def Box (b : Nat) (t : TypeId) (x : Value) (w : World) : Prop := w.heap[b]? = some (.cells #[x] t (0, 0))
theorem Box.cell {b : Nat} {t : TypeId} {x : Value} {w : World} (h : Box b t x w) : w.cell? ⟨b, 0, none⟩ = some x := by unfold Box at h; simp [World.cell?, h]
theorem Box.free {b : Nat} {t : TypeId} {x : Value} {w : World} (h : Box b t x w) : w.frozen? ⟨b, 0, none⟩ = false := by unfold Box at h; simp [World.frozen?, h]
theorem Box.lt {b : Nat} {t : TypeId} {x : Value} {w : World} (h : Box b t x w) : b < w.heap.size := cell_lt h.cell
theorem Box.keep {b : Nat} {t : TypeId} {x : Value} {S : Nat → Prop} {w w' : World} (h : Box b t x w) (k : Grew S w w') (hS : ¬ S b) : Box b t x w' := (k.block b h.lt hS).trans h
theorem Box.other {b : Nat} {t : TypeId} {x : Value} {w : World} (h : Box b t x w) (ht : t ≠ 1) : other b w := ⟨_, _, _, h, ht⟩
theorem Box.new (w : World) (t : TypeId) (x : Value) : Box w.heap.size t x (w.alloc (.cells #[x] t)) := heap_alloc_new w _
theorem Box.set {b : Nat} {t : TypeId} {x : Value} {w : World} (h : Box b t x w) (y : Value) : Box b t y (w.setCell ⟨b, 0, none⟩ y) := by
  unfold Box at h ⊢
  simp [World.setCell, Array.getElem?_modify, h]
theorem Box.keepSet {b : Nat} {t : TypeId} {x : Value} {w : World} (h : Box b t x w) (a o : Nat) (y : Value) (hn : b ≠ a) : Box b t x (w.setCell ⟨a, o, none⟩ y) := by
  unfold Box at h ⊢
  rw [Below.heap_setCell _ _ _ _ hn]
  exact h
theorem Box.keepAlloc {b : Nat} {t : TypeId} {x : Value} {w : World} (h : Box b t x w) (o : Obj) : Box b t x (w.alloc o) := (Below.heap_alloc _ _ _ h.lt).trans h
/-- a cell that is set: not the log's own -/
structure Cell (g a o : Nat) (x : Int) (w : World) : Prop where
  c : w.cell? ⟨a, o, none⟩ = some (.int .i64 x)
  f : w.frozen? ⟨a, o, none⟩ = false
  k : other a w
  n : a ≠ g ∨ 2 ≤ o
theorem LogAt.keepStore {B g dp a o : Nat} {v : Value} {fs : List Step} {x : Int} {w : World} (h : LogAt B g dp v fs w) (hc : Cell g a o x w) (y : Value) : LogAt B g dp v fs (w.setCell ⟨a, o, none⟩ y) := by
  by_cases hn : a = g
  · subst hn
    have ho : 2 ≤ o := hc.n.elim (fun e => absurd rfl e) id
    refine ⟨?_, ?_, by rw [World.frozen?_setCell]; exact h.f0, by rw [World.frozen?_setCell]; exact h.f1, ?_, h.kind.set _ _⟩
    · rw [World.cell?_setCell_other _ _ _ _ (by intro e; cases e; omega)]; exact h.c0
    · rw [World.cell?_setCell_other _ _ _ _ (by intro e; cases e; omega)]; exact h.c1
    · rcases h.row.2 with ⟨rfl, h0⟩ | ⟨b, cap, cur, rfl, a1, a2, a3, a4, a5, a6⟩
      · exact ⟨h.row.1, Or.inl ⟨rfl, h0⟩⟩
      · exact ⟨h.row.1, Or.inr ⟨b, cap, cur, rfl, a1, by rw [Below.heap_setCell _ _ _ _ (fun e => h.kind.ne h.row (congrArg some e))]; exact a2, a3, a4, a5, a6⟩⟩
  · exact h.keepSet a o y hc.k hn
theorem Cell.set {g a o : Nat} {x : Int} {w : World} (h : Cell g a o x w) (y : Int) : Cell g a o y (w.setCell ⟨a, o, none⟩ (.int .i64 y)) :=
  ⟨World.cell?_setCell_same _ _ _ h.c, by rw [World.frozen?_setCell]; exact h.f, h.k.set _ _, h.n⟩
theorem Cell.lt {g a o : Nat} {x : Int} {w : World} (h : Cell g a o x w) : a < w.heap.size := cell_lt h.c
theorem Cell.keep {g a o : Nat} {x : Int} {S : Nat → Prop} {w w' : World} (h : Cell g a o x w) (k : Grew S w w') (hS : ¬ S a) : Cell g a o x w' :=
  ⟨by rw [k.cell (p := ⟨a, o, none⟩) h.lt hS]; exact h.c, by rw [k.frozen (p := ⟨a, o, none⟩) h.lt hS]; exact h.f, h.k.block (k.block a h.lt hS), h.n⟩
theorem Cell.keepSet {g a o : Nat} {x : Int} {w : World} (h : Cell g a o x w) (b p : Nat) (y : Value) (hn : b ≠ a ∨ p ≠ o) : Cell g a o x (w.setCell ⟨b, p, none⟩ y) :=
  ⟨by rw [World.cell?_setCell_other _ _ _ _ (by simp; omega)]; exact h.c, by rw [World.frozen?_setCell]; exact h.f, h.k.set _ _, h.n⟩
end Go.Proofs.YtbohpffigmllkaaGreatDoor

/-
  What the law asks of a log at its head.
-/
namespace Go.Proofs.YtbohpffigmllkaaGreatDoor
open Go.RowKit

theorem done_alone (b : Nat) (o : Option Int) (w : World) : Grew (fun k => k = b) w (done b o w) := by
  cases o with
  | none => exact (Grew.refl (S := fun k => k = b) w).setCell _ _ fun _ => rfl
  | some k => exact ((Grew.refl (S := fun k => k = b) w).setCell ⟨b, 0, none⟩ _ fun _ => rfl).alloc _
theorem LogAt.end0 {B g d : Nat} {v : Value} {fs : List Step} {w : World} (h : LogAt B g d v fs w) (B' : Nat) : LogAt B' g 0 (.slice none 0 0) [] (Go.Proofs.YtbohpffigmllkaaGreatDoor.endTry g 0 w) := by
  unfold Go.Proofs.YtbohpffigmllkaaGreatDoor.endTry
  rw [if_pos rfl]
  have h1 := (h.deep 0).steps (fs' := []) (World.ownsRow_nil _ _ _ _)
  exact ⟨h1.c0, h1.c1, h1.f0, h1.f1, World.ownsRow_nil _ _ _ _, h1.kind⟩
theorem end0_grew (g : Nat) (w : World) : Grew (fun k => k = g) w (endTry g 0 w) := by
  unfold endTry
  rw [if_pos rfl]
  exact ((Grew.refl (S := fun k => k = g) w).setCell _ _ fun _ => rfl).setCell _ _ fun _ => rfl
theorem log_new (w : World) (B : Nat) : LogAt B w.heap.size 0 (.slice none 0 0) [] (w.alloc (.cells #[.int .i64 0, .slice none 0 0] 68)) := by
  have hb := heap_alloc_new w (.cells #[.int .i64 0, .slice none 0 0] 68)
  refine ⟨by simp, by simp, by simp, by simp, World.ownsRow_nil _ _ _ _, ⟨_, _, _, hb, by decide⟩⟩
theorem LogAt.rebase {B g d : Nat} {w : World} (h : LogAt B g d (.slice none 0 0) [] w) (B' : Nat) : LogAt B' g d (.slice none 0 0) [] w := ⟨h.c0, h.c1, h.f0, h.f1, World.ownsRow_nil _ _ _ _, h.kind⟩
/-- a Grew over what lies from a place on -/
theorem Grew.to_below {S : Nat → Prop} {W w w' : World} {B : Nat} (h : Grew S w w') (hb : Below B W w) (hS : ∀ k, S k → B ≤ k) (hs : B ≤ w.heap.size) : Below B W w' := h.below hb hs hS
end Go.Proofs.YtbohpffigmllkaaGreatDoor

/-
  A state that a log guards: steps back that are good for it; how all of them go back; a Try of it: contracts.
-/
namespace Go.Proofs.YtbohpffigmllkaaGreatDoor
open Go.RowKit

/-- a block of steps -/
def isFunc (B k : Nat) (w : World) : Prop := B ≤ k ∧ ∃ c fz, w.heap[k]? = some (.cells c 1 fz)
/-- what may turn: the state's own blocks, and the log's rows -/
def Mut (B : Nat) (S0 : Nat → Prop) (w : World) (k : Nat) : Prop := S0 k ∨ isFunc B k w
theorem Mut.back {B : Nat} {S0 : Nat → Prop} {w w2 : World} {k : Nat} (h : Grew (Mut B S0 w) w w2) (hk : k < w.heap.size) (m : Mut B S0 w2 k) : Mut B S0 w k := by
  rcases m with m | ⟨hB, c, fz, e⟩
  · exact Or.inl m
  · by_cases hm : Mut B S0 w k
    · exact hm
    · rw [h.block k hk hm] at e
      exact Or.inr ⟨hB, c, fz, e⟩
theorem Grew.thenMut {B : Nat} {S0 : Nat → Prop} {w w2 w3 : World} (h : Grew (Mut B S0 w) w w2) (k : Grew (Mut B S0 w2) w2 w3) : Grew (Mut B S0 w) w w3 := h.step k fun _ hx m => Mut.back h hx m
/-- what a log and a Guard write beside the state: rows of steps, a Guard's box -/
def Touch (w : World) (k : Nat) : Prop := ∃ c t fz, w.heap[k]? = some (.cells c t fz) ∧ (t = 1 ∨ t = 37)
/-- a state in memory that a log guards -/
structure Logged {σ : Type} (g : Nat) (S0 : Nat → Prop) (I : σ → World → Prop) : Prop where
  own : S0 g
  set : ∀ s w o x, o < 2 → I s w → I s (w.setCell ⟨g, o, none⟩ x)
  keep : ∀ s w w', I s w → Grew (fun k => ¬ S0 k ∧ Touch w k) w w' → I s w'
  lt : ∀ s w k, I s w → S0 k → k < w.heap.size
/-- a block that no log, no Guard and not the state has -/
def Plain (S0 : Nat → Prop) (w : World) (k : Nat) : Prop := ¬ S0 k ∧ ∃ c t fz, w.heap[k]? = some (.cells c t fz) ∧ t ≠ 1 ∧ t ≠ 37
/-- a step back is good: whatever has turned since but the blocks that it needs, it takes the state from the one to the other -/
def Good {σ : Type} (B g : Nat) (S0 : Nat → Prop) (I : σ → World → Prop) (s : Step) (s1 s0 : σ) (w : World) : Prop :=
  (∀ wy : World, (callFunc s.1 s.2).run Tryz.prog wy = .ok (.enter s.1 s.2) wy) ∧ ∃ F : Nat → Prop, (∀ k, F k → Plain S0 w k) ∧ ∀ wx, (∀ k, F k → wx.heap[k]? = w.heap[k]?) → I s1 wx → Calls Tryz.prog s.1 s.2 wx fun e w' => e = .returned (.tuple #[]) ∧ I s0 w' ∧ Grew (Mut B S0 wx) wx w' ∧ ∀ B' dp v fs, LogAt B' g dp v fs wx → LogAt B' g dp v fs w'
theorem Plain.lt {S0 : Nat → Prop} {w : World} {k : Nat} (h : Plain S0 w k) : k < w.heap.size := by
  obtain ⟨_, c, t, fz, e, _⟩ := h
  rcases Nat.lt_or_ge k w.heap.size with h1 | h1
  · exact h1
  · rw [Array.getElem?_eq_none h1] at e; cases e
theorem Plain.stays {B : Nat} {S0 : Nat → Prop} {w w2 : World} {k : Nat} (h : Plain S0 w k) (g : Grew (Mut B S0 w) w w2) : w2.heap[k]? = w.heap[k]? := g.block k h.lt fun m => by
  obtain ⟨n, c, t, fz, e, h1, _⟩ := h
  rcases m with m | ⟨_, c', fz', e'⟩
  · exact n m
  · rw [e] at e'
    simp at e'
    exact h1 e'.2.1
/-- what turns is the state, the log's rows, and a Guard's box -/
def Kept (S0 : Nat → Prop) (w w2 : World) : Prop := ∀ k, Plain S0 w k → w2.heap[k]? = w.heap[k]?
theorem Kept.of {B : Nat} {S0 : Nat → Prop} {w w2 : World} (g : Grew (Mut B S0 w) w w2) : Kept S0 w w2 := fun _ h => h.stays g
theorem Kept.trans {S0 : Nat → Prop} {w w2 w3 : World} (h : Kept S0 w w2) (k : Kept S0 w2 w3) : Kept S0 w w3 := fun x hx => by
  have e := h x hx
  refine (k x ?_).trans e
  obtain ⟨n, c, t, fz, e1, r⟩ := hx
  exact ⟨n, c, t, fz, e.trans e1, r⟩
theorem Kept.done {S0 : Nat → Prop} {w : World} {b : Nat} (h : w.heap[b]? = some errBox) (o : Option Int) : Kept S0 w (done b o w) := fun k hk => by
  refine (done_alone b o w).block k hk.lt fun e => ?_
  obtain ⟨_, c, t, fz, e1, _, r⟩ := hk
  subst e
  rw [h] at e1
  simp at e1
  exact r e1.2.1.symm
section
variable {σ : Type} {B g : Nat} {S0 : Nat → Prop} {I : σ → World → Prop}
theorem Good.later {s : Step} {s1 s0 : σ} {w w2 : World} (h : Good B g S0 I s s1 s0 w) (k : Kept S0 w w2) : Good B g S0 I s s1 s0 w2 := by
  obtain ⟨h1, F, hF, h2⟩ := h
  refine ⟨h1, F, fun x hx => ?_, fun wx hx => h2 wx fun x hf => (hx x hf).trans (k x (hF x hf))⟩
  obtain ⟨n, c, t, fz, e, r⟩ := hF x hx
  exact ⟨n, c, t, fz, (k x (hF x hx)).trans e, r⟩
/-- all steps of a list are good, from one state to the next -/
def Goods (B g : Nat) (S0 : Nat → Prop) (I : σ → World → Prop) (fs : List Step) (τ : Nat → σ) (w : World) : Prop := ∀ i (h : i < fs.length), Good B g S0 I fs[i] (τ (i + 1)) (τ i) w
theorem Goods.later {fs : List Step} {τ : Nat → σ} {w w2 : World} (h : Goods B g S0 I fs τ w) (k : Kept S0 w w2) : Goods B g S0 I fs τ w2 := fun i hi => (h i hi).later k
theorem Goods.nil (τ : Nat → σ) (w : World) : Goods B g S0 I [] τ w := fun _ hi => absurd hi (Nat.not_lt_zero _)
/-- some steps from one state to another -/
def Path (B g : Nat) (S0 : Nat → Prop) (I : σ → World → Prop) (fs : List Step) (s0 s1 : σ) (w : World) : Prop := ∃ τ : Nat → σ, τ 0 = s0 ∧ τ fs.length = s1 ∧ Goods B g S0 I fs τ w
theorem Path.later {fs : List Step} {s0 s1 : σ} {w w2 : World} (h : Path B g S0 I fs s0 s1 w) (k : Kept S0 w w2) : Path B g S0 I fs s0 s1 w2 := by
  obtain ⟨τ, a, b, c⟩ := h
  exact ⟨τ, a, b, c.later k⟩
theorem Path.nil (s : σ) (w : World) : Path B g S0 I [] s s w := ⟨fun _ => s, rfl, rfl, Goods.nil _ _⟩
theorem Path.snoc {fs : List Step} {s0 s1 s2 : σ} {s : Step} {w : World} (h : Path B g S0 I fs s0 s1 w) (k : Good B g S0 I s s2 s1 w) : Path B g S0 I (fs ++ [s]) s0 s2 w := by
  obtain ⟨τ, a, b, c⟩ := h
  refine ⟨fun i => if i ≤ fs.length then τ i else s2, ?_, ?_, fun i hi => ?_⟩
  · show (if 0 ≤ fs.length then τ 0 else s2) = s0
    rw [if_pos (Nat.zero_le _)]
    exact a
  · show (if (fs ++ [s]).length ≤ fs.length then _ else s2) = s2
    rw [if_neg (by simp)]
  · have hi' : i < fs.length + 1 := by simpa using hi
    by_cases h1 : i < fs.length
    · have e1 : (fs ++ [s])[i] = fs[i] := List.getElem_append_left h1
      rw [e1]
      show Good B g S0 I fs[i] (if i + 1 ≤ fs.length then τ (i + 1) else s2) (if i ≤ fs.length then τ i else s2) w
      rw [if_pos (by omega), if_pos (by omega)]
      exact c i h1
    · obtain rfl : i = fs.length := by omega
      have e1 : (fs ++ [s])[fs.length] = s := by simp
      rw [e1]
      show Good B g S0 I s (if fs.length + 1 ≤ fs.length then τ (fs.length + 1) else s2) (if fs.length ≤ fs.length then τ fs.length else s2) w
      rw [if_neg (by omega), if_pos (Nat.le_refl _), b]
      exact k
theorem Path.append {fs fs' : List Step} {s0 s1 s2 : σ} {w : World} (h : Path B g S0 I fs s0 s1 w) (k : Path B g S0 I fs' s1 s2 w) : Path B g S0 I (fs ++ fs') s0 s2 w := by
  obtain ⟨τ, a, b, c⟩ := h
  obtain ⟨τ', a', b', c'⟩ := k
  refine ⟨fun i => if i ≤ fs.length then τ i else τ' (i - fs.length), ?_, ?_, fun i hi => ?_⟩
  · show (if 0 ≤ fs.length then τ 0 else _) = s0
    rw [if_pos (Nat.zero_le _)]
    exact a
  · show (if (fs ++ fs').length ≤ fs.length then _ else τ' ((fs ++ fs').length - fs.length)) = s2
    rw [List.length_append]
    by_cases h0 : fs'.length = 0
    · rw [if_pos (by omega), h0, Nat.add_zero, b, ← b', h0, a']
    · rw [if_neg (by omega), Nat.add_sub_cancel_left]
      exact b'
  · have hi' : i < fs.length + fs'.length := by simpa using hi
    by_cases h1 : i < fs.length
    · have e1 : (fs ++ fs')[i] = fs[i] := List.getElem_append_left h1
      rw [e1]
      show Good B g S0 I fs[i] (if i + 1 ≤ fs.length then τ (i + 1) else _) (if i ≤ fs.length then τ i else _) w
      rw [if_pos (by omega), if_pos (by omega)]
      exact c i h1
    · obtain ⟨j, rfl⟩ : ∃ j, i = fs.length + j := ⟨i - fs.length, by omega⟩
      have hj : j < fs'.length := by omega
      have e1 : (fs ++ fs')[fs.length + j] = fs'[j] := by rw [List.getElem_append_right (by omega)]; simp
      rw [e1]
      show Good B g S0 I fs'[j] (if fs.length + j + 1 ≤ fs.length then _ else τ' (fs.length + j + 1 - fs.length)) (if fs.length + j ≤ fs.length then τ (fs.length + j) else τ' (fs.length + j - fs.length)) w
      rw [if_neg (by omega), show fs.length + j + 1 - fs.length = j + 1 by omega, show fs.length + j - fs.length = j by omega]
      by_cases h0 : j = 0
      · subst h0
        rw [if_pos (by omega)]
        show Good B g S0 I fs'[0] (τ' (0 + 1)) (τ fs.length) w
        rw [b, ← a']
        exact c' 0 hj
      · rw [if_neg (by omega)]
        exact c' j hj
theorem undo_gen (L : Logged g S0 I) (B dp n0 : Nat) (fs fs' : List Step) (s0 s1 : σ) (v : Value) (w : World) (hL : LogAt B g dp v (fs ++ fs') w) (hI : I s1 w) (hn : fs.length = n0) (hf : (fs ++ fs').length < 100000) (hp : Path B g S0 I fs' s0 s1 w) :
    Calls Tryz.prog 90 #[.pointer (some ⟨g, 0, none⟩), .int .i64 n0] w fun e w' => e = .returned (.tuple #[]) ∧ (∃ v', LogAt B g dp v' fs w') ∧ I s0 w' ∧ Grew (Mut B S0 w) w w' := by
  subst hn
  obtain ⟨τ, h0, h1, hg⟩ := hp
  have e1 : (fs ++ fs').take fs.length = fs := by simp
  refine (undo_any B g dp fs.length (fs ++ fs') (fun k wx => I (τ (k - fs.length)) wx ∧ Grew (Mut B S0 w) w wx) v w hL ⟨by rw [List.length_append, Nat.add_sub_cancel_left, h1]; exact hI, Grew.refl w⟩ (by simp) hf ?_ ?_).mono ?_
  · rintro k wx x ⟨a, b⟩
    exact ⟨L.set _ _ 1 x (by decide) a, b.setCell _ _ fun _ => Or.inl L.own⟩
  · rintro k hk0 hk vx wx hl ⟨a, b⟩
    obtain ⟨j, rfl⟩ : ∃ j, k = fs.length + j := ⟨k - fs.length, by omega⟩
    have hj : j < fs'.length := by rw [List.length_append] at hk; omega
    have e2 : (fs ++ fs')[fs.length + j] = fs'[j] := by rw [List.getElem_append_right (by omega)]; simp
    rw [e2]
    rw [show fs.length + j + 1 - fs.length = j + 1 by omega] at a
    have hgj := hg j hj
    obtain ⟨g1, F, gF, g2⟩ := hgj
    refine ⟨g1, (g2 wx (fun x hx => (gF x hx).stays b) a).mono ?_⟩
    rintro e w' ⟨he, hi, hgr, hlog⟩
    exact ⟨he, ⟨vx, hlog _ _ _ _ hl⟩, by rw [Nat.add_sub_cancel_left]; exact hi, b.thenMut hgr⟩
  · rintro e w' ⟨rfl, hv, hi, hgr⟩
    rw [e1] at hv
    rw [Nat.sub_self, h0] at hi
    exact ⟨rfl, hv, hi, hgr⟩
/-- what was done in a Try: at most so many steps, from one state to another -/
structure Did {σ : Type} (B g dp : Nat) (S0 : Nat → Prop) (I : σ → World → Prop) (fs : List Step) (n : Nat) (s s' : σ) (w w' : World) : Prop where
  log : ∃ v' fs', LogAt B g (dp + 1) v' (fs ++ fs') w' ∧ fs'.length ≤ n ∧ Path B g S0 I fs' s s' w'
  st : I s' w'
  grew : Grew (Mut B S0 w) w w'
theorem Did.one {B dp : Nat} {fs : List Step} {s s' : σ} {w w' : World} {v' : Value} {st : Step} (h : LogAt B g (dp + 1) v' (fs ++ [st]) w') (hI : I s' w') (hG : Good B g S0 I st s' s w') (hg : Grew (Mut B S0 w) w w') : Did B g dp S0 I fs 1 s s' w w' :=
  ⟨⟨v', [st], h, Nat.le_refl _, (Path.nil s w').snoc hG⟩, hI, hg⟩
theorem Did.none {B dp : Nat} {fs : List Step} {s : σ} {w : World} {v : Value} (h : LogAt B g (dp + 1) v fs w) (hI : I s w) : Did B g dp S0 I fs 0 s s w w :=
  ⟨⟨v, [], by rw [List.append_nil]; exact h, Nat.le_refl _, Path.nil s w⟩, hI, Grew.refl w⟩
theorem Did.then {B dp n m : Nat} {fs : List Step} {s s1 s2 : σ} {w w1 w2 : World} (h : Did B g dp S0 I fs n s s1 w w1) (k : ∀ v1 fs1, LogAt B g (dp + 1) v1 (fs ++ fs1) w1 → fs1.length ≤ n → Did B g dp S0 I (fs ++ fs1) m s1 s2 w1 w2) : Did B g dp S0 I fs (n + m) s s2 w w2 := by
  obtain ⟨⟨v1, fs1, l1, n1, p1⟩, i1, g1⟩ := h
  obtain ⟨⟨v2, fs2, l2, n2, p2⟩, i2, g2⟩ := k v1 fs1 l1 n1
  exact ⟨⟨v2, fs1 ++ fs2, by rw [← List.append_assoc]; exact l2, by rw [List.length_append]; omega, (p1.later (Kept.of g2)).append p2⟩, i2, g1.thenMut g2⟩
theorem Did.chain {B dp n m : Nat} {fs fs1 : List Step} {s s1 s2 : σ} {w w1 w2 : World} {v1 : Value} (_l : LogAt B g (dp + 1) v1 (fs ++ fs1) w1) (n1 : fs1.length ≤ n) (p1 : Path B g S0 I fs1 s s1 w1) (g1 : Grew (Mut B S0 w) w w1) (k : Did B g dp S0 I (fs ++ fs1) m s1 s2 w1 w2) : Did B g dp S0 I fs (n + m) s s2 w w2 := by
  obtain ⟨⟨v2, fs2, l2, n2, p2⟩, i2, g2⟩ := k
  exact ⟨⟨v2, fs1 ++ fs2, by rw [← List.append_assoc]; exact l2, by rw [List.length_append]; omega, (p1.later (Kept.of g2)).append p2⟩, i2, g1.thenMut g2⟩
theorem Did.mono {B dp n m : Nat} {fs : List Step} {s s1 : σ} {w w1 : World} (h : Did B g dp S0 I fs n s s1 w w1) (hm : n ≤ m) : Did B g dp S0 I fs m s s1 w w1 := by
  obtain ⟨⟨v1, fs1, l1, n1, p1⟩, i1, g1⟩ := h
  exact ⟨⟨v1, fs1, l1, Nat.le_trans n1 hm, p1⟩, i1, g1⟩
/-- where what a Try runs begins -/
def tryWorld (g dp : Nat) (w : World) : World := (w.setCell ⟨g, 0, none⟩ (.int .i64 ((dp + 1 : Nat) : Int))).alloc errBox
theorem tryWorld_grew (g dp : Nat) (w : World) : Grew (fun k => k = g) w (tryWorld g dp w) := ((Grew.refl (S := fun k => k = g) w).setCell _ _ fun _ => rfl).alloc _
theorem tryWorld_size (g dp : Nat) (w : World) : (tryWorld g dp w).heap.size = w.heap.size + 1 := by simp [tryWorld, World.setCell]
theorem tryWorld_box (g dp : Nat) (w : World) : (tryWorld g dp w).heap[w.heap.size]? = some errBox := by
  have h := heap_alloc_new (w.setCell ⟨g, 0, none⟩ (.int .i64 ((dp + 1 : Nat) : Int))) errBox
  have e : (w.setCell ⟨g, 0, none⟩ (.int .i64 ((dp + 1 : Nat) : Int))).heap.size = w.heap.size := by simp [World.setCell]
  rw [e] at h
  exact h
theorem notFunc_err {w : World} {k : Nat} (h : w.heap[k]? = some errBox) : ¬ isFunc B k w := by
  rintro ⟨_, c, fz, e⟩
  rw [h] at e
  simp at e
theorem grow_not (S0 : Nat → Prop) (w : World) (o : Obj) : Grew (fun k => ¬ S0 k ∧ Touch w k) w (w.alloc o) := (Grew.refl w).alloc o
theorem Grew.err {B : Nat} {w W w' : World} {b : Nat} {o : Option Int} (h : Grew (Mut B S0 w) w W) (e : w' = done b o W) (hb : w.heap.size ≤ b) : Grew (Mut B S0 w) w w' := by
  subst e
  exact h.step (done_alone b o W) fun x hx e => absurd hx (by omega)
set_option maxHeartbeats 1000000 in
theorem try_gen (L : Logged g S0 I) (B dp : Nat) (v : Value) (fs : List Step) (run : FuncId) (cap : Array Value) (s0 : σ) (w : World) (hL : LogAt B g dp v fs w) (hd : dp < 100000) (hI : I s0 w) (R : Option Int → List Step → σ → World → Prop)
    (hcall : ∀ wy : World, (callFunc run cap).run Tryz.prog wy = .ok (.enter run cap) wy)
    (hrun : LogAt B g (dp + 1) v fs (tryWorld g dp w) → I s0 (tryWorld g dp w) → Calls Tryz.prog run cap (tryWorld g dp w) fun e w' => ∃ o fs' v' s1, e = Ends o ∧ LogAt B g (dp + 1) v' (fs ++ fs') w' ∧ (∀ k, o = some k → ¬ k = 0) ∧ I s1 w' ∧ Path B g S0 I fs' s0 s1 w' ∧ (fs ++ fs').length < 100000 ∧ Grew (Mut B S0 (tryWorld g dp w)) (tryWorld g dp w) w' ∧ R o fs' s1 w') :
    Calls Tryz.prog 53 #[.pointer (some ⟨g, 0, none⟩), .func (.func run) #[] cap] w fun e w' => ∃ o fs' s1 w1, e = .returned (.int .i64 (o.getD 0)) ∧ R o fs' s1 w1 ∧ Grew (fun k => Mut B S0 w1 k ∨ k = w.heap.size) w1 w' ∧ Grew (Mut B S0 w) w w' ∧ w.heap.size < w1.heap.size ∧ w1.heap[w.heap.size]? = some errBox ∧
      ((o = none ∧ I s1 w' ∧ (∃ v', LogAt B g dp v' (if dp = 0 then [] else fs ++ fs') w') ∧ Path B g S0 I fs' s0 s1 w') ∨ (∃ k, o = some k ∧ ¬ k = 0 ∧ I s0 w' ∧ ∃ v', LogAt B g dp v' (if dp = 0 then [] else fs) w')) := by
  have hgl := hL.lt
  have hne : w.heap.size ≠ g := by omega
  have hL1 : LogAt B g (dp + 1) v fs (tryWorld g dp w) := (hL.deep (dp + 1)).keepAlloc _
  have hI1 : I s0 (tryWorld g dp w) := L.keep _ _ _ (L.set _ _ 0 (.int .i64 ((dp + 1 : Nat) : Int)) (by decide) hI) (grow_not S0 _ errBox)
  have hs1 := tryWorld_size g dp w
  have hb1 := tryWorld_box g dp w
  have hnm : ¬ Mut B S0 (tryWorld g dp w) w.heap.size := by
    rintro (m | m)
    · have := L.lt _ _ _ hI m
      omega
    · exact notFunc_err hb1 m
  have gW : Grew (Mut B S0 w) w (tryWorld g dp w) := (tryWorld_grew g dp w).mono fun x _ e => by subst e; exact Or.inl L.own
  have hend : ∀ wx, Grew (fun k => k = g) wx (endTry g dp wx) := fun wx => by
    unfold endTry
    by_cases h0 : dp = 0
    · rw [if_pos h0]
      exact ((Grew.refl (S := fun k => k = g) wx).setCell _ _ fun _ => rfl).setCell _ _ fun _ => rfl
    · rw [if_neg h0]
      exact (Grew.refl (S := fun k => k = g) wx).setCell _ _ fun _ => rfl
  have hendI : ∀ s wx, I s wx → I s (endTry g dp wx) := fun s wx h => by
    unfold endTry
    by_cases h0 : dp = 0
    · rw [if_pos h0]
      exact L.set _ _ 1 _ (by decide) (L.set _ _ 0 _ (by decide) h)
    · rw [if_neg h0]
      exact L.set _ _ 0 _ (by decide) h
  have hns : ∀ s wx, I s wx → wx = wx → ¬ S0 w.heap.size := fun _ _ _ _ m => by
    have := L.lt _ _ _ hI m
    omega
  refine (try_any B g dp v fs run cap w hL hd
    (fun o fs' w' => ∃ s1, I s1 w' ∧ Path B g S0 I fs' s0 s1 w' ∧ (fs ++ fs').length < 100000 ∧ Grew (Mut B S0 (tryWorld g dp w)) (tryWorld g dp w) w' ∧ R o fs' s1 w')
    (fun k w' => ∃ fs' s1 w1, R (some k) fs' s1 w1 ∧ I s0 w' ∧ Grew (fun k => Mut B S0 w1 k ∨ k = w.heap.size) w1 w' ∧ Grew (Mut B S0 w) w w1 ∧ Grew (Mut B S0 w) w w' ∧ w.heap.size < w1.heap.size ∧ w1.heap[w.heap.size]? = some errBox) hcall ?_ ?_).mono ?_
  · refine (hrun hL1 hI1).mono ?_
    rintro e w' ⟨o, fs', v', s1, rfl, hl, hk, hi, hp, hlen, hgr, hR⟩
    refine ⟨o, fs', v', rfl, ?_, hl, hk, s1, hi, hp, hlen, hgr, hR⟩
    rw [hgr.block _ (by omega) hnm]
    exact hb1
  · rintro k fs' v' w' hbx hl ⟨s1, hi, hp, hlen, hgr, hR⟩
    have gd := done_alone w.heap.size (some k) w'
    have gdm : Grew (fun k => ¬ S0 k ∧ Touch w' k) w' (done w.heap.size (some k) w') := gd.mono fun x _ e => by subst e; exact ⟨hns _ _ hi rfl, _, _, _, hbx, Or.inr rfl⟩
    have hid := L.keep _ _ _ hi gdm
    have gw' : Grew (Mut B S0 w) w w' := gW.thenMut hgr
    have gwd : Grew (Mut B S0 w) w (done w.heap.size (some k) w') := gw'.err rfl (Nat.le_refl _)
    have hpd : Path B g S0 I fs' s0 s1 (done w.heap.size (some k) w') := hp.later (Kept.done hbx _)
    refine (undo_gen L B (dp + 1) fs.length fs fs' s0 s1 v' _ hl hid rfl hlen hpd).mono ?_
    rintro e w2 ⟨rfl, hv2, hi2, hg2⟩
    have hlt : w.heap.size < w'.heap.size := Nat.lt_of_lt_of_le (by rw [hs1]; omega) hgr.size
    have hgx : Grew (fun q => Mut B S0 w' q ∨ q = w.heap.size) w' w2 := (gd.mono fun x _ e => Or.inr e).step hg2 fun x hx m => by
      by_cases hxe : x = w.heap.size
      · exact Or.inr hxe
      · rcases m with m | ⟨hB, c, fz, e⟩
        · exact Or.inl (Or.inl m)
        · rw [gd.block x hx hxe] at e
          exact Or.inl (Or.inr ⟨hB, c, fz, e⟩)
    exact ⟨rfl, hv2, fs', s1, w', hR, hi2, hgx, gw', gwd.thenMut hg2, hlt, hbx⟩
  · rintro e w' ⟨o, rfl, w3, rfl, h⟩
    rcases h with ⟨rfl, fs', w1, ⟨s1, hi, hp, hlen, hgr, hR⟩, hbx, rfl, v', hl⟩ | ⟨k, rfl, hk, ⟨fs', s1, w1, hR, hi, hgx, gw1, gw3, hlt, hbx⟩, v', hl⟩
    · have gd := done_alone w.heap.size none w1
      have gdm : Grew (fun k => ¬ S0 k ∧ Touch w1 k) w1 (done w.heap.size none w1) := gd.mono fun x _ e => by subst e; exact ⟨hns _ _ hi rfl, _, _, _, hbx, Or.inr rfl⟩
      have hid := L.keep _ _ _ hi gdm
      have gw' : Grew (Mut B S0 w) w w1 := gW.thenMut hgr
      have gwd : Grew (Mut B S0 w) w (done w.heap.size none w1) := gw'.err rfl (Nat.le_refl _)
      have hlt : w.heap.size < w1.heap.size := Nat.lt_of_lt_of_le (by rw [hs1]; omega) hgr.size
      have hge := hend (done w.heap.size none w1)
      obtain ⟨v2, hl2⟩ := hl.endTry (dp := dp)
      refine ⟨none, fs', s1, w1, rfl, hR, ?_, gwd.step hge fun x _ e => by subst e; exact Or.inl L.own, hlt, hbx, Or.inl ⟨rfl, hendI _ _ hid, ⟨v2, hl2⟩, ?_⟩⟩
      · exact (gd.mono fun x _ e => Or.inr e).step hge fun x _ e => by subst e; exact Or.inl (Or.inl L.own)
      · exact (hp.later (Kept.done hbx _)).later (Kept.of (B := B) (hge.mono fun x _ e => by rw [e]; exact Or.inl L.own))
    · have hge := hend w3
      obtain ⟨v2, hl2⟩ := hl.endTry (dp := dp)
      exact ⟨some k, fs', s1, w1, rfl, hR, hgx.step hge fun x _ e => by subst e; exact Or.inl (Or.inl L.own), gw3.step hge fun x _ e => by subst e; exact Or.inl L.own, hlt, hbx, Or.inr ⟨k, rfl, hk, hendI _ _ hi, v2, hl2⟩⟩
end
end Go.Proofs.YtbohpffigmllkaaGreatDoor
