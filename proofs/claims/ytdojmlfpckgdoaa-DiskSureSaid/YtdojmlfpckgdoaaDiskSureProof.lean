/-
  For every two lists of calls and every list of cuts, DiskSure answers true and leaves its arguments as they were: no condition.
-/
import Derived.Test.YtdojmlfpckgdoaaDiskSureLaw
import Derived.ProofKit
import Derived.OpenShut
import Derived.ShutString
import Derived.Deep.Slices
import Derived.Deep.Grids
namespace Go.Proofs.Ytdojmlfpckgdoaa.diskSure
open Go.ChangeShapes Go.WideShapes Go.ChangeAt Go.RowKit Go.Deep
open Go.ChangeMaps (open_string shut_string)
set_option linter.unusedVariables false
theorem own : ownKnob Try.prog.godebug = none := by kernel_rfl
theorem laidOut : laidOutB Try.prog = true := by kernel_rfl
theorem cellsInt : Try.prog.cellsOf 3 = 1 := by kernel_rfl
theorem cellsText : Try.prog.cellsOf 9 = 1 := by kernel_rfl
theorem cellsInts : Try.prog.cellsOf 32 = 1 := by kernel_rfl
theorem cellsAct : Try.prog.cellsOf 34 = 5 := by kernel_rfl
theorem five_of {α : Type} {l : List α} (h : l.length = 5) : ∃ a b c d e, l = [a, b, c, d, e] := by
  match l, h with
  | [a, b, c, d, e], _ => exact ⟨a, b, c, d, e, rfl⟩
/-- a call of the list: the sector, the text -/
theorem act {H : Type} {enc : TypeId × Value → H} {w : World} {base fuel : Nat} {spare : Nat → Bool} {held : Bool} {a : Addr} {cs : List Value} {x : DataW H × List MemPlace}
    (hc : w.cells? base a 5 = some cs) (h : DataW.trod enc Try.prog w base spare held fuel 34 cs = some x) :
    ∃ (e : Int) (s : ByteArray), w.cell? (a.add 1) = some (.int .i64 e) ∧ w.cell? (a.add 3) = some (.string s) ∧ s.size ≤ maxLen ∧ ∃ k, w.cell? (a.add 0) = some k := by
  obtain ⟨_, hl, hat⟩ := World.cells?_some hc
  obtain ⟨xs, n', _, _, _, hxl, hf⟩ := DataW.trod_struct Try.underlying34 h
  obtain ⟨c0, c1, c2, c3, c4, rfl⟩ := five_of hl
  obtain ⟨x0, x1, x2, x3, x4, rfl⟩ := five_of hxl
  have f1 : DataW.trod enc Try.prog w base spare held n' 3 [c1] = some x1 := by have h := hf 1 _ rfl; simpa [cellsInt] using h
  have f3 : DataW.trod enc Try.prog w base spare held n' 9 [c3] = some x3 := by have h := hf 3 _ rfl; simpa [cellsInt, cellsText] using h
  obtain ⟨e, e1, _⟩ := DataW.trod_int Try.underlying3 f1
  obtain ⟨s, e3, _, hs⟩ := DataW.trod_string Try.underlying9 f3
  obtain rfl : c1 = .int .i64 e := by simpa using e1
  obtain rfl : c3 = .string s := by simpa using e3
  exact ⟨e, s, hat 1 (by decide), hat 3 (by decide), hs, c0, hat 0 (by decide)⟩
theorem row_at {w : World} {a : Addr} {n : Nat} {V : Nat → Value} (h : ∀ i, i < n → w.cell? (a.add i) = some (V i)) (hp : 0 < n) :
    ∃ b off, a = ⟨b, off, none⟩ ∧ ∀ j, j < n → w.cell? ⟨b, off + j, none⟩ = some (V j) := by
  obtain ⟨b, off, spot⟩ := a
  have hspot : spot = none := by simpa [Addr.add] using World.cell?_spot (h 0 hp)
  subst hspot
  exact ⟨b, off, rfl, fun j hj => by rw [← Go.WideShapes.add_plain]; exact h j hj⟩
/-- a list of calls, as the law reads it -/
theorem acts {H : Type} {enc : TypeId × Value → H} {W : World} {fuel : Nat} {a1 : Option Addr} {l1 c1 : Nat} {x : DataW H × List MemPlace}
    (f1 : DataW.trod enc Try.prog W 0 (fun _ => true) true fuel 22 (Value.slice a1 l1 c1).cells.toList = some x) : ∃ es ss, ActsAt W a1 l1 es ss := by
  rcases open_slice Try.underlying22 f1 with ⟨hcs, hx⟩ | ⟨a, len', cap', m, n, D, Pl, hcs, _, hl, hm, hmm, hx, hi⟩
  · simp [Value.cells] at hcs
    exact ⟨fun _ => 0, fun _ => ⟨#[]⟩, Or.inl hcs.2.1⟩
  · simp [Value.cells] at hcs
    obtain ⟨rfl, rfl, rfl⟩ := hcs
    simp only [if_true] at hmm
    subst hmm
    by_cases h0 : l1 = 0
    · exact ⟨fun _ => 0, fun _ => ⟨#[]⟩, Or.inl h0⟩
    have hc : ∀ i, i < m → ∃ (e : Int) (s : ByteArray), W.cell? (a.add (i * 5 + 1)) = some (.int .i64 e) ∧ W.cell? (a.add (i * 5 + 3)) = some (.string s) ∧ s.size ≤ maxLen ∧ ∃ k, W.cell? (a.add (i * 5 + 0)) = some k := fun i hi' => by
      obtain ⟨cs', hc, ht⟩ := hi i hi'
      rw [cellsAct] at hc
      obtain ⟨e, s, h1, h3, hs, k, h0⟩ := act hc ht
      rw [add_add] at h1 h3 h0
      exact ⟨e, s, h1, h3, hs, k, h0⟩
    obtain ⟨b, off, spot⟩ := a
    have hspot : spot = none := by
      obtain ⟨_, _, _, _, _, _, h⟩ := hc 0 (by omega)
      simpa [Addr.add] using World.cell?_spot h
    subst hspot
    let E : Nat → Int := fun i => if h : i < m then (hc i h).choose else 0
    let S : Nat → ByteArray := fun i => if h : i < m then (hc i h).choose_spec.choose else ⟨#[]⟩
    refine ⟨E, S, Or.inr ⟨b, off, rfl, fun i hi' => ?_⟩⟩
    have him : i < m := by omega
    have h := (hc i him).choose_spec.choose_spec
    have b1 : (⟨b, off, none⟩ : Addr).add (i * 5 + 1) = ⟨b, off + i * 5 + 1, none⟩ := by rw [Addr.add_lit]; rfl
    have b3 : (⟨b, off, none⟩ : Addr).add (i * 5 + 3) = ⟨b, off + i * 5 + 3, none⟩ := by rw [Addr.add_lit]; rfl
    simp only [E, S, dif_pos him]
    exact ⟨by rw [← b1]; exact h.1, by rw [← b3]; exact h.2.1, h.2.2.1⟩

set_option maxRecDepth 100000 in
theorem lifted (os : Os) (started : os.Started) (H : Type) (enc : TypeId × Value → H) :
    ReturnsInHanded {} Try.checked os 4 .any (Rows.diskSureSpec.pre6 enc Try.prog Try.f4 Rows.diskSureRow.domain false) (Rows.diskSureSpec.post enc Try.prog Try.f4 false true false false) := by
  refine returnsInHanded_of_change (C := Try.checked) own started (by kernel_rfl) Try.func4
    (ChangeSpec.witness6 (enc := enc) (C := Try.checked) false ⟨#[], #[.slice none 0 0, .slice none 0 0, .slice none 0 0], []⟩ 8 (by kernel_rfl) (by kernel_rfl) (by kernel_rfl) (by kernel_rfl)) ?_
  intro W base args ds gs before hval0 hW hcnd _
  have hval : ∀ (j : Nat) t v, Try.f4.params[j]? = some t → args[j]? = some v → Value.okWide Try.prog W .any base t v := hval0
  have hW' := hW
  obtain ⟨p, q, hA0, hV, rfl, hfz, hnd⟩ := hW
  have hA : DataW.TrodAll enc Try.prog W 0 (fun _ => true) true Try.f4.params.toList args.toList ds p := hA0
  rw [Try.params4] at hA hval
  obtain ⟨v0, vs0, d0, ds0, p0, q0, hargs, rfl, rfl, h0, r0⟩ := trodAll_cons hA
  obtain ⟨v1, vs1, d1, ds1, p1, q1, rfl, rfl, rfl, h1, r1⟩ := trodAll_cons r0
  obtain ⟨v2, vs2, d2, ds2, p2, q2, rfl, rfl, rfl, h2, r2⟩ := trodAll_cons r1
  obtain ⟨rfl, rfl, rfl⟩ := trodAll_nil r2
  obtain rfl : args = #[v0, v1, v2] := by cases args; simp_all
  obtain ⟨rfl, rfl⟩ := trodVars_none hV
  obtain ⟨a0, l0, c0, rfl⟩ := okWide_slice Try.underlying22 (hval 0 22 v0 rfl rfl)
  obtain ⟨a1, l1, c1, rfl⟩ := okWide_slice Try.underlying22 (hval 1 22 v1 rfl rfl)
  obtain ⟨a2, l2, c2, rfl⟩ := okWide_slice Try.underlying32 (hval 2 32 v2 rfl rfl)
  have k0 := h0
  have k1 := h1
  have k2 := h2
  obtain ⟨fuel0, f0⟩ := h0
  obtain ⟨fuel1, f1⟩ := h1
  obtain ⟨fuel2, f2⟩ := h2
  clear hA0 hval0
  simp only [List.append_nil] at hW'
  have hlt : ∀ x ∈ p0 ++ (p1 ++ p2), x.block < W.heap.size := fun x hx => by simpa using hW'.lt x hx
  obtain ⟨e0, s0, w0⟩ := acts f0
  obtain ⟨e1, s1, w1⟩ := acts f1
  obtain ⟨e2, w2⟩ : ∃ es, IntsAt W a2 l2 es := by
    rcases open_ints Try.underlying32 Try.underlying3 cellsInt f2 with ⟨hcs, hx⟩ | ⟨a, len', cap', zs, hcs, _, hl, hm, hz, hx, hcell, hwz⟩
    · simp [Value.cells] at hcs
      exact ⟨fun _ => 0, Or.inl hcs.2.1⟩
    · simp [Value.cells] at hcs
      obtain ⟨rfl, rfl, rfl⟩ := hcs
      simp at hz
      refine ⟨fun i => zs.getD i 0, ?_⟩
      by_cases h0 : l2 = 0
      · exact Or.inl h0
      · obtain ⟨b, off, rfl, hr⟩ := row_at (n := c2) (V := fun i => .int .i64 (zs.getD i 0)) (fun i hi => hcell i (by omega)) (by omega)
        exact Or.inr ⟨b, off, rfl, fun i hi => hr i (by omega)⟩
  refine (diskSure_walk a0 a1 a2 l0 c0 l1 c1 l2 c2 e0 e1 e2 s0 s1 W w0 w1 w2).mono fun e W' ⟨he, bel⟩ => ?_
  subst he
  refine ⟨_, rfl, _, _, _, [], p0 ++ (p1 ++ p2), [], hW', trodAll_mk1 (shut_bool Try.underlying4 _), ?_, rfl, bel.frame _, fun h => by cases h⟩
  have t0 := Below.trod laidOut (by kernel_rfl) (of_decide_eq_true (by kernel_rfl)) k0 bel (fun x hx => hlt x (List.mem_append_left _ hx))
  have t1 := Below.trod laidOut (by kernel_rfl) (of_decide_eq_true (by kernel_rfl)) k1 bel (fun x hx => hlt x (List.mem_append_right _ (List.mem_append_left _ hx)))
  have t2 := Below.trod laidOut (by kernel_rfl) (of_decide_eq_true (by kernel_rfl)) k2 bel (fun x hx => hlt x (List.mem_append_right _ (List.mem_append_right _ hx)))
  have t := trodAll_cons_mk t0 (trodAll_cons_mk t1 (trodAll_cons_mk t2 trodAll_mk0))
  rw [List.append_nil] at t
  exact t

theorem over : Rows.diskSureRow.holds Try.pinned (OpenSpec.ofChange Rows.diskSureSpec) :=
  OpenClaim.holds_of_wide 4 Try.f4 rfl rfl rfl rfl rfl rfl rfl ⟨rfl, rfl, rfl, rfl, rfl⟩ rfl rfl rfl rfl rfl (by kernel_rfl) Try.func4 (by kernel_rfl)
    (of_decide_eq_true (by kernel_rfl)) (by unfold Func.isWrapper; first | (rw [if_pos (by decide +kernel)]; kernel_rfl) | (rw [if_neg (by decide +kernel)]; exact ⟨rfl, rfl⟩))
    (fun os started H enc _ => lifted os started H enc)

end Go.Proofs.Ytdojmlfpckgdoaa.diskSure
namespace Go.Proofs.Ytdojmlfpckgdoaa
theorem diskSure_holds : Rows.DiskSureSaid := diskSure.over
#print axioms diskSure_holds
end Go.Proofs.Ytdojmlfpckgdoaa
