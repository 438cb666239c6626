/-
  A log in memory: what it remembers; Deep, Back, and how it goes back: contracts.
-/
import Derived.Test.YtjjmapmombhmlaaBoxes
import Derived.Lib.OwnKind
import Derived.IntWalk
import Derived.Laws.EntriesVeiled
namespace Go.Proofs.Ytjjmapmombhmlaa
open Go.RowKit

/-- a step back: a function and what it has caught -/
abbrev Step := FuncId × Array Value
def stepV (s : Step) : Value := .func (.func s.1) #[] s.2
def stepsV (l : List Step) : List Value := l.map stepV
/-- a block that holds no steps -/
def other (b : Nat) (w : World) : Prop := ∃ c t fz, w.heap[b]? = some (.cells c t fz) ∧ t ≠ 1
structure LogAt (B g dp : Nat) (v : Value) (fs : List Step) (w : World) : Prop where
  c0 : w.cell? ⟨g, 0, none⟩ = some (.int .i64 dp)
  c1 : w.cell? ⟨g, 1, none⟩ = some v
  f0 : w.frozen? ⟨g, 0, none⟩ = false
  f1 : w.frozen? ⟨g, 1, none⟩ = false
  row : w.ownsRow B 1 1 v fs.length (stepsV fs)
  kind : other g w
theorem LogAt.lt {B g dp : Nat} {v : Value} {fs : List Step} {w : World} (h : LogAt B g dp v fs w) : g < w.heap.size := cell_lt h.c0
theorem other.lt {b : Nat} {w : World} (h : other b w) : b < w.heap.size := by
  obtain ⟨c, t, fz, e, _⟩ := h
  rcases Nat.lt_or_ge b w.heap.size with h1 | h1
  · exact h1
  · rw [Array.getElem?_eq_none h1] at e; cases e
theorem other.block {b : Nat} {w w' : World} (h : other b w) (e : w'.heap[b]? = w.heap[b]?) : other b w' := by
  obtain ⟨c, t, fz, e1, ht⟩ := h
  exact ⟨c, t, fz, e.trans e1, ht⟩
theorem other.ne {b B n : Nat} {v : Value} {xs : List Value} {w : World} (h : other b w) (ho : w.ownsRow B 1 1 v n xs) : v.ownBlock ≠ some b := fun e => by
  obtain ⟨c, t, fz, e1, ht⟩ := h
  obtain ⟨c', fz', e2⟩ := Lib.ownsRow_kind ho b e
  rw [e1] at e2
  simp at e2
  exact ht e2.2.1
theorem other.set {b : Nat} {w : World} (h : other b w) (p : Addr) (x : Value) : other b (w.setCell p x) := by
  obtain ⟨c, t, fz, e1, ht⟩ := h
  by_cases hb : b = p.block
  · subst hb
    by_cases hs : p.spot.isSome = true
    · exact ⟨c, t, fz, by simp [World.setCell, Array.getElem?_modify, e1, hs], ht⟩
    · exact ⟨c.setIfInBounds p.off x, t, fz, by simp [World.setCell, Array.getElem?_modify, e1, hs], ht⟩
  · exact ⟨c, t, fz, by rw [Below.heap_setCell _ _ _ _ hb]; exact e1, ht⟩
/-- what a call leaves of a log: all blocks but g and the steps' row may have turned -/
theorem LogAt.keep {B g dp : Nat} {v : Value} {fs : List Step} {S : Nat → Prop} {w w' : World} (h : LogAt B g dp v fs w) (k : Grew S w w') (hg : ¬ S g) (hr : ∀ q, v.ownBlock = some q → ¬ S q) : LogAt B g dp v fs w' := by
  refine ⟨by rw [k.cell (p := ⟨g, 0, none⟩) h.lt hg]; exact h.c0, by rw [k.cell (p := ⟨g, 1, none⟩) h.lt hg]; exact h.c1, by rw [k.frozen (p := ⟨g, 0, none⟩) h.lt hg]; exact h.f0, by rw [k.frozen (p := ⟨g, 1, none⟩) h.lt hg]; exact h.f1, ?_, h.kind.block (k.block g h.lt hg)⟩
  rcases h.row.2 with ⟨rfl, h0⟩ | ⟨b, cap, cur, rfl, a1, a2, a3, a4, a5, a6⟩
  · exact ⟨h.row.1, Or.inl ⟨rfl, h0⟩⟩
  · have hlt : b < w.heap.size := by
      rcases Nat.lt_or_ge b w.heap.size with e | e
      · exact e
      · rw [Array.getElem?_eq_none e] at a2; cases a2
    exact ⟨h.row.1, Or.inr ⟨b, cap, cur, rfl, a1, (k.block b hlt (hr b rfl)).trans a2, a3, a4, a5, a6⟩⟩
/-- a store of one that isn't the log's -/
theorem LogAt.keepSet {B g dp : Nat} {v : Value} {fs : List Step} {w : World} (h : LogAt B g dp v fs w) (b o : Nat) (x : Value) (hb : other b w) (hn : b ≠ g) : LogAt B g dp v fs (w.setCell ⟨b, o, none⟩ x) :=
  h.keep (S := fun k => k = b) ((Grew.refl w).setCell _ _ fun _ => rfl) (fun e => hn e.symm) (fun q hq e => by subst e; exact hb.ne h.row hq)
theorem LogAt.keepAlloc {B g dp : Nat} {v : Value} {fs : List Step} {w : World} (h : LogAt B g dp v fs w) (o : Obj) : LogAt B g dp v fs (w.alloc o) :=
  h.keep (S := fun _ => False) ((Grew.refl w).alloc o) (fun e => e) (fun _ _ e => e)
theorem LogAt.deep {B g dp : Nat} {v : Value} {fs : List Step} {w : World} (h : LogAt B g dp v fs w) (d : Nat) : LogAt B g d v fs (w.setCell ⟨g, 0, none⟩ (.int .i64 d)) := by
  have k : Grew (fun k => k = g) w (w.setCell ⟨g, 0, none⟩ (.int .i64 d)) := (Grew.refl w).setCell _ _ fun _ => rfl
  refine ⟨World.cell?_setCell_same _ _ _ h.c0, ?_, ?_, ?_, ?_, h.kind.set _ _⟩
  · rw [World.cell?_setCell_other _ _ _ _ (by simp)]; exact h.c1
  · rw [World.frozen?_setCell]; exact h.f0
  · rw [World.frozen?_setCell]; exact h.f1
  · rcases h.row.2 with ⟨rfl, h0⟩ | ⟨b, cap, cur, rfl, a1, a2, a3, a4, a5, a6⟩
    · exact ⟨h.row.1, Or.inl ⟨rfl, h0⟩⟩
    · exact ⟨h.row.1, Or.inr ⟨b, cap, cur, rfl, a1, by rw [Below.heap_setCell _ _ _ _ (fun e => h.kind.ne h.row (congrArg some e))]; exact a2, a3, a4, a5, a6⟩⟩
/-- another row of steps -/
theorem LogAt.steps {B g dp : Nat} {v v' : Value} {fs fs' : List Step} {w : World} (h : LogAt B g dp v fs w) (ho : w.ownsRow B 1 1 v' fs'.length (stepsV fs')) : LogAt B g dp v' fs' (w.setCell ⟨g, 1, none⟩ v') := by
  refine ⟨?_, World.cell?_setCell_same _ _ _ h.c1, ?_, ?_, ?_, h.kind.set _ _⟩
  · rw [World.cell?_setCell_other _ _ _ _ (by simp)]; exact h.c0
  · rw [World.frozen?_setCell]; exact h.f0
  · rw [World.frozen?_setCell]; exact h.f1
  · rcases ho.2 with ⟨rfl, h0⟩ | ⟨b, cap, cur, rfl, a1, a2, a3, a4, a5, a6⟩
    · exact ⟨ho.1, Or.inl ⟨rfl, h0⟩⟩
    · exact ⟨ho.1, Or.inr ⟨b, cap, cur, rfl, a1, by rw [Below.heap_setCell _ _ _ _ (fun e => h.kind.ne ho (congrArg some e))]; exact a2, a3, a4, a5, a6⟩⟩
theorem own_take {B n k cap : Nat} {ao : Option Addr} {fs : List Step} {w : World} (h : w.ownsRow B 1 1 (.slice ao n cap) n (stepsV fs)) (hk : k ≤ n) : w.ownsRow B 1 1 (.slice ao k cap) k (stepsV (fs.take k)) := by
  have hl : fs.length = n := by simpa [stepsV] using h.1
  refine ⟨by simp [stepsV]; omega, ?_⟩
  rcases h.2 with ⟨e, h0⟩ | ⟨b, cap', cur, e, a1, a2, a3, a4, a5, a6⟩
  · cases e
    exact Or.inl ⟨by obtain rfl : k = 0 := by omega
                     rfl, by omega⟩
  · cases e
    refine Or.inr ⟨b, cap, cur, rfl, a1, a2, by omega, a4, a5, ?_⟩
    have e1 : stepsV (fs.take k) = (stepsV fs).take k := by simp [stepsV, List.map_take]
    rw [e1, ← a6, List.take_take]
    congr 1
    omega
theorem deep_any (B g dp : Nat) (v : Value) (fs : List Step) (w : World) (h : LogAt B g dp v fs w) :
    Calls Try.prog 13 #[.pointer (some ⟨g, 0, none⟩)] w fun e w' => e = .returned (.int .i64 dp) ∧ w = w' := by
  have c0 := h.c0
  clear h
  go_enter Try.func13, Try.ntmps13
  go_wp2_with fail
  go_ret
  exact ⟨rfl, rfl⟩
theorem back_none (B g : Nat) (v : Value) (fs : List Step) (s : Value) (w : World) (h : LogAt B g 0 v fs w) :
    Calls Try.prog 97 #[.pointer (some ⟨g, 0, none⟩), s] w fun e w' => e = .returned (.tuple #[]) ∧ w = w' := by
  have c0 := h.c0
  clear h
  go_enter Try.func97, Try.ntmps97
  go_wp2_with fail
  go_end0
  exact ⟨rfl, rfl⟩
theorem infoFn : (Try.prog.info? 1).map (fun i => (i.zero, i.size, i.bytes)) = some (some .nilFunc, 1, 8) := by kernel_rfl
theorem info_parts' {P : Program} {t : TypeId} {z : Option Value} {n b : Nat} (h : (P.info? t).map (fun i => (i.zero, i.size, i.bytes)) = some (z, n, b)) : ∃ i, P.info? t = some i ∧ i.zero = z ∧ i.size = n ∧ i.bytes = b := by
  cases e : P.info? t with
  | none => rw [e] at h; cases h
  | some i =>
    rw [e] at h
    simp at h
    exact ⟨i, rfl, h.1, h.2.1, h.2.2⟩
set_option maxRecDepth 10000 in
set_option maxHeartbeats 1000000 in
theorem back_some (B g dp : Nat) (v : Value) (fs : List Step) (s : Step) (w : World) (h : LogAt B g (dp + 1) v fs w) (hl : fs.length < 100000) (hB : B ≤ w.heap.size) :
    Calls Try.prog 97 #[.pointer (some ⟨g, 0, none⟩), stepV s] w fun e w' => e = .returned (.tuple #[]) ∧ ∃ v', LogAt B g (dp + 1) v' (fs ++ [s]) w' ∧ Grew (fun k => k = g ∨ v.ownBlock = some k) w w' ∧ (∀ o, ¬ o = 1 → w'.cell? ⟨g, o, none⟩ = w.cell? ⟨g, o, none⟩) ∧ (∀ o, w'.frozen? ⟨g, o, none⟩ = w.frozen? ⟨g, o, none⟩) := by
  obtain ⟨i0, hi, hz0, hz1, hz2⟩ := info_parts' infoFn
  have HI0 := Lib.hid hi
  have HI1 := Lib.hid hz0
  have HI2 := Lib.hid hz1
  have HI3 := Lib.hid hz2
  clear hi hz0 hz1 hz2
  have c0 := h.c0
  have c1 := h.c1
  have f1 := h.f1
  have H := Lib.hid h
  have hi : (0 : Int) < ((dp + 1 : Nat) : Int) := by omega
  have hgl := h.lt
  clear h
  obtain ⟨F, C, rfl⟩ : ∃ F C, s = (F, C) := ⟨s.1, s.2, rfl⟩
  show Calls Try.prog 97 #[.pointer (some ⟨g, 0, none⟩), .func (.func F) #[] C] w _
  have HO := Lib.hid (H.out.row.alloc (.cells #[.func (.func F) #[] C] 1))
  have HK : Hid (∀ w', (w.alloc (.cells #[.func (.func F) #[] C] 1)).grownBy w' v.ownBlock → w'.cell? ⟨g, 1, none⟩ = some v ∧ w'.frozen? ⟨g, 1, none⟩ = false ∧ LogAt B g (dp + 1) v fs w ∧ (∀ v', w'.ownsRow B 1 1 v' (fs.length + 1) (stepsV (fs ++ [(F, C)])) → LogAt B g (dp + 1) v' (fs ++ [(F, C)]) (w'.setCell ⟨g, 1, none⟩ v')) ∧ Grew (fun k => k = g ∨ v.ownBlock = some k) w w' ∧ (∀ o, w'.cell? ⟨g, o, none⟩ = w.cell? ⟨g, o, none⟩) ∧ (∀ o, w'.frozen? ⟨g, o, none⟩ = w.frozen? ⟨g, o, none⟩)) := Lib.hid fun w' hg => by
    have hla := H.out.keepAlloc (.cells #[.func (.func F) #[] C] 1)
    have hne := hla.kind.ne hla.row
    have gr : Grew (fun k => v.ownBlock = some k) (w.alloc (.cells #[.func (.func F) #[] C] 1)) w' := (Grew.refl _).grown hg fun _ _ e => e
    have e0 := gr.cell (p := ⟨g, 0, none⟩) hla.lt hne
    have e1 := gr.cell (p := ⟨g, 1, none⟩) hla.lt hne
    have z0 := gr.frozen (p := ⟨g, 0, none⟩) hla.lt hne
    have z1 := gr.frozen (p := ⟨g, 1, none⟩) hla.lt hne
    refine ⟨by rw [e1]; exact hla.c1, by rw [z1]; exact hla.f1, H.out, fun v' ho => ?_, ((Grew.refl w).alloc _).step gr fun _ _ e => Or.inr e, fun o => (gr.cell (p := ⟨g, o, none⟩) hla.lt hne).trans (((Grew.refl (S := fun _ => False) w).alloc _).cell (p := ⟨g, o, none⟩) H.out.lt fun e => e), fun o => (gr.frozen (p := ⟨g, o, none⟩) hla.lt hne).trans (((Grew.refl (S := fun _ => False) w).alloc _).frozen (p := ⟨g, o, none⟩) H.out.lt fun e => e)⟩
    have hk' : other g w' := hla.kind.block (gr.block g hla.lt hne)
    refine ⟨?_, World.cell?_setCell_same _ _ _ (show w'.cell? ⟨g, 1, none⟩ = some v by rw [e1]; exact hla.c1), ?_, ?_, ?_, hk'.set _ _⟩
    · rw [World.cell?_setCell_other _ _ _ _ (by simp), e0]; exact hla.c0
    · rw [World.frozen?_setCell, z0]; exact hla.f0
    · rw [World.frozen?_setCell, z1]; exact hla.f1
    · have e2 : (fs ++ [(F, C)]).length = fs.length + 1 := by simp
      rw [e2]
      rcases ho.2 with ⟨rfl, h0⟩ | ⟨b, cap, cur, rfl, a1, a2, a3, a4, a5, a6⟩
      · omega
      · exact ⟨ho.1, Or.inr ⟨b, cap, cur, rfl, a1, by rw [Below.heap_setCell _ _ _ _ (fun e => hk'.ne ho (congrArg some e))]; exact a2, a3, a4, a5, a6⟩⟩
  have hnn : ∀ wx : World, (binOp .neq 1 (.func (.func F) #[] C) .nilFunc).run Try.prog wx = .ok (.bool true) wx := fun _ => by kernel_rfl
  go_enter Try.func97, Try.ntmps97
  go_wp2_with (at_builtin; (refine wpList_append_lies _ rfl _ _ 28 rfl B 1 i0 .nilFunc 1 8 Try.underlying28 HI0.out HI1.out HI2.out HI3.out rfl (by decide) v fs.length (stepsV fs) rfl HO.out ⟨w.heap.size, 0, none⟩ 1 1 [.func (.func F) #[] C] rfl rfl ?_ ?_ (by decide) ?_ ?_ ?_ _ rfl ?_); (focus (intro j u hu; match j, hu with | 0, hu => (simp at hu; subst hu; rw [Addr.add_lit]; exact boxNew rfl))); (focus (intro u hu; simp at hu; subst hu; rfl)); (focus (unfold maxLen; omega)); (focus omega); (focus (simp; omega)); (intro g1 cap1 w1 hown hgr hlies hlt); (obtain ⟨k1, k2, _, k3, k4, k5, k6⟩ := HK.out w1 hgr); (have HN := Lib.hid (k3 _ (by simpa [stepsV, stepV] using hown))); (have HG := Lib.hid k4); (have HC5 := Lib.hid k5); (have HC6 := Lib.hid k6); clear hown hgr hlies hlt k3 k4 k5 k6)
  go_end0
  exact ⟨rfl, _, HN.out, HG.out.setCell _ _ fun _ => Or.inl rfl, fun o ho => by rw [World.cell?_setCell_other _ _ _ _ (by intro e; cases e; exact ho rfl)]; exact HC5.out o, fun o => by rw [World.frozen?_setCell]; exact HC6.out o⟩
end Go.Proofs.Ytjjmapmombhmlaa
