/-
  A log: the steps back, one by one; a Try, by what it runs: contracts.
-/
import Derived.Test.YtjjmapmombhmlaaUndoLog
import Derived.Deep.LoopGhost
namespace Go.Proofs.Ytjjmapmombhmlaa
open Go.RowKit

def sliceLen : Option Value → Nat
  | some (.slice _ n _) => n
  | _ => 0
theorem step_cell {B n cap : Nat} {ao : Option Addr} {fs : List Step} {w : World} (h : w.ownsRow B 1 1 (.slice ao n cap) n (stepsV fs)) (i : Nat) (hi : i < fs.length) : ∃ b, ao = some ⟨b, 0, none⟩ ∧ w.cell? ⟨b, i, none⟩ = some (stepV fs[i]) ∧ n ≤ cap := by
  have hl : fs.length = n := by simpa [stepsV] using h.1
  rcases h.2 with ⟨e, h0⟩ | ⟨b, cap', cur, e, a1, a2, a3, a4, a5, a6⟩
  · omega
  · cases e
    refine ⟨b, rfl, ?_, a3⟩
    have := h.cells (g := b) rfl i (stepV fs[i]) (by simp [stepsV, hi])
    rw [Addr.add_lit] at this
    simpa using this
set_option maxRecDepth 10000 in
set_option maxHeartbeats 1000000 in
theorem undo_any (B g dp n0 : Nat) (fs : List Step) (P : Nat → World → Prop) (v : Value) (w : World) (hL : LogAt B g dp v fs w) (hP : P fs.length w) (hn : n0 ≤ fs.length) (hf : fs.length < 100000)
    (hset : ∀ k wx x, P k wx → P k (wx.setCell ⟨g, 1, none⟩ x))
    (hstep : ∀ k, n0 ≤ k → (hk : k < fs.length) → ∀ vx wx, LogAt B g dp vx (fs.take k) wx → P (k + 1) wx → (∀ wy : World, (callFunc fs[k].1 fs[k].2).run Try.prog wy = .ok (.enter fs[k].1 fs[k].2) wy) ∧ Calls Try.prog fs[k].1 fs[k].2 wx fun e w' => e = .returned (.tuple #[]) ∧ (∃ v', LogAt B g dp v' (fs.take k) w') ∧ P k w') :
    Calls Try.prog 96 #[.pointer (some ⟨g, 0, none⟩), .int .i64 n0] w fun e w' => e = .returned (.tuple #[]) ∧ (∃ v', LogAt B g dp v' (fs.take n0) w') ∧ P n0 w' := by
  have HL := Lib.hid hL
  have HP := Lib.hid hP
  have HSet := Lib.hid hset
  have HStep := Lib.hid hstep
  clear hL hP hset hstep
  go_enter Try.func96, Try.ntmps96
  go_wp2_with fail
  go_loopw [4] (fun _ wx => ∃ k vx, n0 ≤ k ∧ k ≤ fs.length ∧ LogAt B g dp vx (fs.take k) wx ∧ P k wx) (fun _ wx => sliceLen (wx.cell? ⟨g, 1, none⟩))
  case atStart => exact ⟨fs.length, v, hn, Nat.le_refl _, by rw [List.take_of_length_le (Nat.le_refl _)]; exact HL.out, HP.out⟩
  case round =>
    obtain ⟨k, vx, hk1, hk2, hl, hp⟩ := hrel
    have hlen : (fs.take k).length = k := by rw [List.length_take]; omega
    have hr := hl.row
    rw [hlen] at hr
    obtain ⟨ao, cap, rfl⟩ : ∃ ao cap, vx = .slice ao k cap := by
      rcases hr.2 with ⟨e, h0⟩ | ⟨b, cap', cur, e, _⟩
      · exact ⟨none, 0, by rw [e, h0]⟩
      · exact ⟨_, _, e⟩
    have c1 := hl.c1
    have f1 := hl.f1
    have Hl := Lib.hid hl
    have Hp := Lib.hid hp
    have HR := Lib.hid hr
    clear hl hp hr hlen HL HP
    by_cases hlt : n0 < k
    · obtain ⟨j, rfl⟩ : ∃ j, k = j + 1 := ⟨k - 1, by omega⟩
      obtain ⟨b, rfl, hc, hcap⟩ := step_cell HR.out j (by rw [List.length_take]; omega)
      have hj : j < fs.length := by omega
      have e1 : (fs.take (j + 1))[j]'(by rw [List.length_take]; omega) = fs[j] := by simp
      rw [e1] at hc
      have i1 : (n0 : Int) < ((j + 1 : Nat) : Int) := by omega
      have i2 : ((j + 1 : Nat) : Int) - 1 = (j : Int) := by omega
      have i3 : (0 : Int) ≤ (j : Int) := by omega
      have i4 : (j : Int) < ((j + 1 : Nat) : Int) := by omega
      have i5 : (j : Int) ≤ (cap : Int) := by omega
      have HW : Hid (LogAt B g dp (.slice (some ⟨b, 0, none⟩) j cap) (fs.take j) (wr.setCell ⟨g, 1, none⟩ (.slice (some ⟨b, 0, none⟩) j cap)) ∧ P (j + 1) (wr.setCell ⟨g, 1, none⟩ (.slice (some ⟨b, 0, none⟩) j cap))) := Lib.hid (by
        have ht := own_take HR.out (k := j) (by omega)
        rw [List.take_take, show min j (j + 1) = j by omega] at ht
        have hlj : (fs.take j).length = j := by rw [List.length_take]; omega
        exact ⟨Hl.out.steps (by rw [hlj]; exact ht), HSet.out _ _ _ Hp.out⟩)
      obtain ⟨hcall, hrun⟩ := HStep.out j (by omega) hj _ _ HW.out.1 HW.out.2
      obtain ⟨F, C, hFC⟩ : ∃ F C, fs[j] = (F, C) := ⟨fs[j].1, fs[j].2, rfl⟩
      rw [hFC] at hc hcall hrun
      have HRun := Lib.hid hrun
      have hc' : wr.cell? ⟨b, j, none⟩ = some (.func (.func F) #[] C) := hc
      have hcall' : ∀ wy : World, (callFunc F C).run Try.prog wy = .ok (.enter F C) wy := hcall
      clear hrun hFC e1 hc hcall
      go_wp2_with fail
      refine HRun.out.mono ?_
      rintro e w1 ⟨rfl, ⟨v', hl'⟩, hp'⟩
      have Hl' := Lib.hid hl'
      have Hp' := Lib.hid hp'
      clear hl' hp' HRun HW
      go_wp2_with fail
      go_roundw
      case rel => exact ⟨j, v', by omega, by omega, Hl'.out, Hp'.out⟩
      case measure =>
        rw [Hl'.out.c1, c1]
        have hr := Hl'.out.row
        have hlj : (fs.take j).length = j := by rw [List.length_take]; omega
        rw [hlj] at hr
        rcases hr.2 with ⟨e, h0⟩ | ⟨b, cap', cur, e, _⟩
        · rw [e]
          show 0 < j + 1
          omega
        · rw [e]
          show j < j + 1
          omega
    · obtain rfl : k = n0 := by omega
      have i1 : ¬ (k : Int) < (k : Int) := by omega
      go_wp2_with fail
      go_end0
      exact ⟨rfl, ⟨_, Hl.out⟩, Hp.out⟩
theorem LogAt.done {B g dp b : Nat} {v : Value} {fs : List Step} {w : World} (h : LogAt B g dp v fs w) (hb : w.heap[b]? = some errBox) (hn : b ≠ g) (o : Option Int) : LogAt B g dp v fs (done b o w) := by
  have ho : other b w := ⟨_, _, _, hb, by decide⟩
  cases o with
  | none => exact h.keepSet b 0 _ ho hn
  | some k => exact (h.keepSet b 0 _ ho hn).keepAlloc _
/-- what a Try does at its end -/
def endTry (g dp : Nat) (w : World) : World := if dp = 0 then (w.setCell ⟨g, 0, none⟩ (.int .i64 (0 : Nat))).setCell ⟨g, 1, none⟩ (.slice none 0 0) else w.setCell ⟨g, 0, none⟩ (.int .i64 dp)
theorem LogAt.endTry {B g dp d : Nat} {v : Value} {fs : List Step} {w : World} (h : LogAt B g d v fs w) : ∃ v', LogAt B g dp v' (if dp = 0 then [] else fs) (endTry g dp w) := by
  unfold Go.Proofs.Ytjjmapmombhmlaa.endTry
  by_cases hd : dp = 0
  · subst hd
    rw [if_pos rfl, if_pos rfl]
    exact ⟨_, (h.deep 0).steps (World.ownsRow_nil _ _ _ _)⟩
  · rw [if_neg hd, if_neg hd]
    exact ⟨v, h.deep dp⟩
set_option maxRecDepth 10000 in
set_option maxHeartbeats 2000000 in
theorem try_any (B g dp : Nat) (v : Value) (fs : List Step) (run : FuncId) (cap : Array Value) (w : World) (hL : LogAt B g dp v fs w) (hd : dp < 100000) (R : Option Int → List Step → World → Prop) (Q : Int → World → Prop)
    (hcall : ∀ wy : World, (callFunc run cap).run Try.prog wy = .ok (.enter run cap) wy)
    (hrun : Calls Try.prog run cap ((w.setCell ⟨g, 0, none⟩ (.int .i64 ((dp + 1 : Nat) : Int))).alloc errBox) fun e w' => ∃ o fs' v', e = Ends o ∧ w'.heap[w.heap.size]? = some errBox ∧ LogAt B g (dp + 1) v' (fs ++ fs') w' ∧ (∀ k, o = some k → ¬ k = 0) ∧ R o fs' w')
    (hundo : ∀ k fs' v' w', w'.heap[w.heap.size]? = some errBox → LogAt B g (dp + 1) v' (fs ++ fs') (done w.heap.size (some k) w') → R (some k) fs' w' → Calls Try.prog 96 #[.pointer (some ⟨g, 0, none⟩), .int .i64 fs.length] (done w.heap.size (some k) w') fun e w'' => e = .returned (.tuple #[]) ∧ (∃ v'', LogAt B g (dp + 1) v'' fs w'') ∧ Q k w'') :
    Calls Try.prog 51 #[.pointer (some ⟨g, 0, none⟩), .func (.func run) #[] cap] w fun e w' => ∃ o, e = .returned (.int .i64 (o.getD 0)) ∧ ∃ w3, w' = endTry g dp w3 ∧
      ((o = none ∧ ∃ fs' w1, R none fs' w1 ∧ w1.heap[w.heap.size]? = some errBox ∧ w3 = done w.heap.size none w1 ∧ ∃ v', LogAt B g (dp + 1) v' (fs ++ fs') w3) ∨ (∃ k, o = some k ∧ ¬ k = 0 ∧ Q k w3 ∧ ∃ v', LogAt B g (dp + 1) v' fs w3)) := by
  have c0 := hL.c0
  have c1 := hL.c1
  have f0 := hL.f0
  have hgl := hL.lt
  obtain ⟨ao, cp, rfl⟩ : ∃ ao cp, v = .slice ao fs.length cp := by
    rcases hL.row.2 with ⟨e, h0⟩ | ⟨b, cap', cur, e, _⟩
    · exact ⟨none, 0, by rw [e, h0]⟩
    · exact ⟨_, _, e⟩
  have hsz : (w.setCell ⟨g, 0, none⟩ (.int .i64 ((dp + 1 : Nat) : Int))).heap.size = w.heap.size := by simp [World.setCell]
  have hG := guard_any run cap (w.setCell ⟨g, 0, none⟩ (.int .i64 ((dp + 1 : Nat) : Int))) (fun o w' => ∃ fs' v', w'.heap[w.heap.size]? = some errBox ∧ LogAt B g (dp + 1) v' (fs ++ fs') w' ∧ (∀ k, o = some k → ¬ k = 0) ∧ R o fs' w') hcall (hrun.mono (by
    rintro e w' ⟨o, fs', v', rfl, hb, hl, hk, hr⟩
    rw [hsz]
    refine ⟨o, rfl, ?_, ?_, ?_, fs', v', hb, hl, hk, hr⟩
    · simp [World.cell?, hb]
    · simp [World.frozen?, hb]
    · rcases Nat.lt_or_ge w.heap.size w'.heap.size with h1 | h1
      · exact h1
      · rw [Array.getElem?_eq_none h1] at hb; cases hb))
  rw [hsz] at hG
  have HG := Lib.hid hG
  have HU := Lib.hid hundo
  have hne : w.heap.size ≠ g := by omega
  clear hG hrun hundo hsz hcall
  go_enter Try.func51, Try.ntmps51
  go_wp2_with fail
  refine HG.out.mono ?_
  rintro e w1 ⟨o, w1', ⟨fs', v', hb, hl, hk, hr⟩, rfl, rfl⟩
  have hld := hl.done hb hne o
  cases o with
  | none =>
    have d0 := hld.c0
    have d1 := hld.f0
    have d3 := hld.f1
    have d2 := hld.c1
    have HD := Lib.hid hld
    have HR := Lib.hid hr
    have Hb := Lib.hid hb
    obtain ⟨w3, hw3⟩ : ∃ w3, done w.heap.size none w1' = w3 := ⟨_, rfl⟩
    rw [hw3] at d0 d1 d2 d3 HD ⊢
    have HW3 := Lib.hid hw3
    clear hld hr hb hl hk hw3 HG HU
    show (match Ending.returned (.int .i64 0), w3 with | _, _ => _)
    by_cases hz : dp = 0
    · subst hz
      have i1 : ((0 + 1 : Nat) : Int) - 1 = 0 := by omega
      go_wp2_with fail
      go_ret
      exact ⟨none, rfl, w3, rfl, Or.inl ⟨rfl, fs', w1', HR.out, Hb.out, HW3.out.symm, v', HD.out⟩⟩
    · have i1 : ((dp + 1 : Nat) : Int) - 1 = (dp : Int) := by omega
      have i2 : ((dp : Int) == 0) = false := by rw [beq_eq_false_iff_ne]; omega
      go_wp2_with fail
      go_ret
      exact ⟨none, rfl, w3, by unfold endTry; rw [if_neg hz], Or.inl ⟨rfl, fs', w1', HR.out, Hb.out, HW3.out.symm, v', HD.out⟩⟩
  | some k =>
    have hk0 := hk k rfl
    have HUk := Lib.hid (HU.out k fs' v' w1' hb hld hr)
    have i0 : (k == 0) = false := by rw [beq_eq_false_iff_ne]; exact hk0
    have Hk0 := Lib.hid hk0
    clear hld hr hb hl hk HG HU hk0
    generalize done w.heap.size (some k) w1' = w2 at *
    show (match Ending.returned (.int .i64 k), w2 with | _, _ => _)
    go_wp2_with fail
    refine HUk.out.mono ?_
    rintro e w3 ⟨rfl, ⟨v3, hl3⟩, hq⟩
    have d0 := hl3.c0
    have d1 := hl3.f0
    have d2 := hl3.c1
    have d3 := hl3.f1
    have HD := Lib.hid hl3
    have HQ := Lib.hid hq
    clear hl3 hq HUk
    by_cases hz : dp = 0
    · subst hz
      have i1 : ((0 + 1 : Nat) : Int) - 1 = 0 := by omega
      go_wp2_with fail
      go_ret
      exact ⟨some k, rfl, w3, rfl, Or.inr ⟨k, rfl, Hk0.out, HQ.out, v3, HD.out⟩⟩
    · have i1 : ((dp + 1 : Nat) : Int) - 1 = (dp : Int) := by omega
      have i2 : ((dp : Int) == 0) = false := by rw [beq_eq_false_iff_ne]; omega
      go_wp2_with fail
      go_ret
      exact ⟨some k, rfl, w3, by unfold endTry; rw [if_neg hz], Or.inr ⟨k, rfl, Hk0.out, HQ.out, v3, HD.out⟩⟩
end Go.Proofs.Ytjjmapmombhmlaa
