/-
  UndoPlays: what a Try of steps runs: a contract, given one of the steps behind it.
-/
import Derived.Test.YtemnkffaapljpaaUPlayR
import Derived.StillTailTactics
namespace Go.Proofs.Ytemnkffaapljpaa
open Go.RowKit Go.Maps Go.ChangeMaps Go.WideShapes
theorem LogAt.field {B g dp : Nat} {v : Value} {fs : List Step} {w : World} (h : LogAt B g dp v fs w) (o : Nat) (ho : 2 ≤ o) (y : Value) : LogAt B g dp v fs (w.setCell ⟨g, o, none⟩ y) := by
  refine ⟨?_, ?_, by rw [World.frozen?_setCell]; exact h.f0, by rw [World.frozen?_setCell]; exact h.f1, ?_, h.kind.set _ _⟩
  · rw [World.cell?_setCell_other _ _ _ _ (by intro e; cases e; omega)]; exact h.c0
  · rw [World.cell?_setCell_other _ _ _ _ (by intro e; cases e; omega)]; exact h.c1
  · rcases h.row.2 with ⟨rfl, h0⟩ | ⟨b, cap, cur, rfl, a1, a2, a3, a4, a5, a6⟩
    · exact ⟨h.row.1, Or.inl ⟨rfl, h0⟩⟩
    · exact ⟨h.row.1, Or.inr ⟨b, cap, cur, rfl, a1, by rw [Below.heap_setCell _ _ _ _ (fun e => h.kind.ne h.row (congrArg some e))]; exact a2, a3, a4, a5, a6⟩⟩
theorem Ran.after {σ ι : Type} {B g d m : Nat} {S0 : Nat → Prop} {I : ι → σ → World → Prop} {fs : List Step} {j : ι} {s s2 : σ} {w w1 w2 : World} (g1 : Grew (Mut B S0 w) w w1) (k : Ran B g d S0 I fs m j s s2 w1 w2) : Ran B g d S0 I fs m j s s2 w w2 := ⟨k.log, k.st, g1.thenMut k.grew⟩
theorem deep_still (B g dp : Nat) (v : Value) (fs : List Step) (w : World) (h : LogAt B g dp v fs w) :
    Calls Try.prog 18 #[.pointer (some ⟨g, 0, none⟩)] w fun e w' => e = .returned (.int .i64 dp) ∧ w' = w := (deep_any B g dp v fs w h).mono fun _ _ r => ⟨r.1, r.2.symm⟩
theorem RunEnd.after {B g tb n : Nat} {L : Nat → UA} {F a d : Nat} {fs : List Step} {s : US} {w w1 : World} {e : Ending} {w' : World} (g1 : Grew (Mut B (UO g tb) w) w w1) (h : RunEnd B g tb n L F a d fs s w1 e w') : RunEnd B g tb n L F a d fs s w e w' := ⟨h.1, h.2.after g1⟩
theorem uo_grew {B g tb : Nat} {w : World} (o : Nat) (x : Value) : Grew (Mut B (UO g tb) w) w (w.setCell ⟨g, o, none⟩ x) := (Grew.refl w).setCell _ _ fun _ => Or.inl (Or.inl rfl)
set_option maxRecDepth 100000 in
set_option maxHeartbeats 1000000 in
theorem tryIn_any (B g tb n cap : Nat) (ao : Option Addr) (L : Nat → UA) (F : Nat) (ih : RunOk B g tb n cap ao L F) (xw xd xl a d : Nat) (v : Value) (fs : List Step) (s : US) (w : World) (ha : a ≤ n) (hF : n - a ≤ F) (hf : fs.length + 2 * (n - a) ≤ 200) (hd : d + 1 + (n - a) ≤ 100) (hB : B ≤ w.heap.size) (hb : Boxs g xw xd xl d n cap ao w) (hS : ¬ UO g tb xw ∧ ¬ UO g tb xd ∧ ¬ UO g tb xl) (h : UW g tb a s w) (hl : LogAt B g (d + 1) v fs w) (hA : AsAt g tb ao n L w) :
    Calls Try.prog 127 #[.pointer (some ⟨xw, 0, none⟩), .pointer (some ⟨xd, 0, none⟩), .pointer (some ⟨xl, 0, none⟩)] w (RunEnd B g tb n L F a (d + 1) fs s w) := by
  have hbd := hb.kept (w' := w.drew) hS fun _ _ => rfl
  have HD := Lib.hid (deep_still B g (d + 1) v fs w.drew hl.drew')
  have HR : Hid (Calls Try.prog 16 #[.pointer (some ⟨g, 0, none⟩), .slice ao n cap] (w.drew.setCell ⟨g, 8, none⟩ (.bool true)) (RunEnd B g tb n L F a (d + 1) fs s w)) := Lib.hid (by
    have k : Grew (Mut B (UO g tb) w) w (w.drew.setCell ⟨g, 8, none⟩ (.bool true)) := (Grew.refl w).drew.setCell _ _ fun _ => Or.inl (Or.inl rfl)
    exact (ih a (d + 1) v fs s _ ha hF (fun e => absurd e (Nat.succ_ne_zero _)) hf hd (Nat.le_trans hB k.size) h.drew.fineTo (hl.drew'.field 8 (by decide) _) (hA.kept (Kept.of k))).mono fun _ _ r => r.after k)
  have c1 := hbd.w'.cell
  have c2 := hbd.d'.cell
  have c3 := hbd.l'.cell
  have c4 := h.drew.fine
  have f4 := h.drew.fr 8
  have q1 : (w.drew.setCell ⟨g, 8, none⟩ (.bool true)).cell? ⟨xw, 0, none⟩ = some (.pointer (some ⟨g, 0, none⟩)) := (World.cell?_setCell_other _ _ _ _ (by intro e; cases e)).trans c1
  have q3 : (w.drew.setCell ⟨g, 8, none⟩ (.bool true)).cell? ⟨xl, 0, none⟩ = some (.slice ao n cap) := (World.cell?_setCell_other _ _ _ _ (by intro e; cases e)).trans c3
  have e8 : (w.setCell ⟨g, 8, none⟩ (.bool true)).drew = w.drew.setCell ⟨g, 8, none⟩ (.bool true) := rfl
  rw [← e8] at HR q1 q3
  clear e8
  have hdw : IntKind.i64.wrap ((d : Int) + 1) = ((d + 1 : Nat) : Int) := by
    simp only [IntKind.wrap, IntKind.bits, IntKind.signed]
    simp
    omega
  have HE : Hid (∀ e w', RunEnd B g tb n L F a (d + 1) fs s w e w' → RunEnd B g tb n L F a (d + 1) fs s w e w') := Lib.hid fun _ _ h => h
  obtain ⟨R, hR⟩ : ∃ R : Ending → World → Prop, RunEnd B g tb n L F a (d + 1) fs s w = R := ⟨_, rfl⟩
  have HRw : Hid (∀ e w', R e w' → ∃ o, e = Ends o) := Lib.hid fun e w' r => by rw [← hR] at r; exact ⟨_, r.1⟩
  rw [hR] at HR ⊢
  generalize hD1 : ((d + 1 : Nat) : Int) = D1 at *
  clear hR HE hbd hb h hl hA ih hS ha hF hf hd hB
  go_enter Try.func127, Try.ntmps127
  go_wp2_with fail
  refine wp_region_still_tail 16 (by kernel_rfl) (by kernel_rfl) ?_
  change wpStill _ _ (w.drew) (fun a' => wpList _ _ _ _ a' (w.drew)) _ _
  simp only [List.take_succ_cons, List.take_zero, List.drop_succ_cons, List.drop_zero]
  repeat (first | still_step | still_call HD.out)
  refine wpStill_nil ?_
  go_wp2_with fail
  refine HR.out.mono ?_
  intro e w1 r
  obtain ⟨o, rfl⟩ := HRw.out e w1 r
  have HF := Lib.hid r
  clear HD HR HRw r
  cases o with
  | none =>
    go_wp2_with fail
    go_end0
    exact HF.out
  | some k =>
    unfold Ends failed
    go_wp2_with fail
    unfold Ends failed at HF
    exact ⟨rfl, HF.out⟩
end Go.Proofs.Ytemnkffaapljpaa
