/-
  slices.Clone of sectors, and Clone of a disk: contracts.
-/
import Derived.Test.YtjggofbaipppbaaDiskAwake
import Derived.Deep.DeepAppendWide
import Derived.Laws.OwnMore
import Derived.Lib.LazyBuf
namespace Go.Proofs.Ytjggofbaipppbaa
open Go.RowKit

theorem infoSector : (Try.prog.info? 84).map (fun i => (i.zero.map (·.cells.size), i.size, i.bytes)) = some (some 64, 64, 64) := by kernel_rfl
set_option maxRecDepth 10000 in
set_option maxHeartbeats 1000000 in
theorem rows_clone (b n c : Nat) (f : Nat → UInt8) (w : World) (h : RowAt b (64 * n) f w) (hn : n ≤ 4096) :
    Calls Try.prog 47 #[.slice (some ⟨b, 0, none⟩) n c] w fun e w' => ∃ g cap, e = .returned (.slice (some ⟨g, 0, none⟩) n cap) ∧ RowAt g (64 * n) f w' ∧ Below w.heap.size w w' ∧ w.heap.size ≤ g := by
  obtain ⟨i0, hi, hx⟩ := Option.map_eq_some_iff.1 infoSector
  simp only [Prod.mk.injEq] at hx
  obtain ⟨hz, h64, hb64⟩ := hx
  obtain ⟨z, hz0, hz1⟩ := Option.map_eq_some_iff.1 hz
  have HI0 := Lib.hid hi
  have HI1 := Lib.hid hz0
  have HI2 := Lib.hid h64
  have HI3 := Lib.hid hb64
  have HI4 := Lib.hid hz1
  have heq : ∀ wx : World, (binOp .eql 72 (.slice (some ⟨b, 0, none⟩) n c) (.slice none 0 0)).run Try.prog wx = .ok (.bool false) wx := fun wx => _root_.Go.run_eql_slice_nil wx _ _ _ _ _ Try.underlying72
  have H := Lib.hid h
  clear hi hz h64 hb64 hz0 hz1 h
  go_enter Try.func47, Try.ntmps47
  go_wp2_with (at_builtin; refine wpList_append_own_wide _ rfl _ _ 72 rfl w.heap.size 84 i0 z 64 64 Try.underlying72 HI0.out HI1.out HI2.out HI3.out HI4.out (by decide) _ 0 [] rfl ?c0 ⟨b, 0, none⟩ n c (rowOf f 0 (64 * n)) rfl ?cl ?c1 ?c2 ?c3 ?c4 ?c5 ?_)
  case c0 => exact World.ownsRow_lit w #[] 0 (Nat.le_refl _) (by decide) rfl
  case cl => rw [rowOf_length]; omega
  case c1 =>
    intro j u hu
    have hj : j < 64 * n := by
      rcases Nat.lt_or_ge j (64 * n) with h | h
      · exact h
      · rw [List.getElem?_eq_none (by simpa using h)] at hu; cases hu
    rw [rowOf_get _ _ _ _ hj, Nat.zero_add] at hu
    have e : (⟨b, 0, none⟩ : Addr).add j = ⟨b, j, none⟩ := by unfold Addr.add; split <;> simp_all
    rw [e, World.cell?_alloc_past (hn := H.out.lt), H.out.cell j hj]
    exact hu
  case c2 => exact rowOf_one f 0 (64 * n)
  case c3 => unfold maxLen; omega
  case c4 => omega
  case c5 => simp
  · intro v' w1 hown hgrow hne
    obtain ⟨hlen, ⟨e, _⟩ | ⟨g, cap, cur, rfl, hg1, hg2, hg3, hg4, hg5, hg6⟩⟩ := id hown
    · exact absurd e hne
    have HR : Hid (RowAt g (64 * n) f w1) := Lib.hid ⟨(hown.lt g rfl).2, fun j hj => by
        rw [hown.cellAt j (by omega), rowOf_get _ _ _ _ hj, Nat.zero_add], fun j _ => hown.frozenAt j⟩
    have HB : Hid (Below w.heap.size w w1) := Lib.hid (((Below.refl _ _).alloc (Nat.le_refl _) _).grown hgrow (by simp) (fun k hk => by simp [Value.ownBlock] at hk; omega))
    clear hown hgrow hne hlen hg2 hg4 hg5 hg6 hg3
    go_wp2_with fail
    go_ret
    exact ⟨g, cap, rfl, HR.out, HB.out, hg1⟩
/-- another disk that is the same -/
structure CloneOf (m : DiskM) (w : World) (x : Nat) (m' : DiskM) (w' : World) : Prop where
  d : m'.d = x
  n : m'.n = m.n
  S : m'.S = m.S
  T : m'.T = m.T
  armed : m'.armed = m.armed
  left : m'.left = m.left
  dead : m'.dead = m.dead
  at' : DiskAt m' w'
  old : DiskAt m w'
  below : Below w.heap.size w w'
  fresh : ∀ k, m'.own k → w.heap.size ≤ k
/-- five cells of a block -/
structure Five (x : Nat) (v0 v1 v2 v3 v4 : Value) (w : World) : Prop where
  lt : x < w.heap.size
  c0 : w.cell? ⟨x, 0, none⟩ = some v0
  c1 : w.cell? ⟨x, 1, none⟩ = some v1
  c2 : w.cell? ⟨x, 2, none⟩ = some v2
  c3 : w.cell? ⟨x, 3, none⟩ = some v3
  c4 : w.cell? ⟨x, 4, none⟩ = some v4
  free : ∀ j, w.frozen? ⟨x, j, none⟩ = false
theorem Five.new (w : World) (v0 v1 v2 v3 v4 : Value) (t : TypeId) : Five w.heap.size v0 v1 v2 v3 v4 (w.alloc (.cells #[v0, v1, v2, v3, v4] t)) :=
  ⟨by simp, by rw [World.cell?_alloc_new]; rfl, by rw [World.cell?_alloc_new]; rfl, by rw [World.cell?_alloc_new]; rfl, by rw [World.cell?_alloc_new]; rfl, by rw [World.cell?_alloc_new]; rfl, fun j => by simp⟩
theorem Five.keep {x : Nat} {v0 v1 v2 v3 v4 : Value} {w w' : World} (h : Five x v0 v1 v2 v3 v4 w) (k : Below w.heap.size w w') : Five x v0 v1 v2 v3 v4 w' :=
  ⟨Nat.lt_of_lt_of_le h.lt k.size, by rw [k.cell h.lt]; exact h.c0, by rw [k.cell h.lt]; exact h.c1, by rw [k.cell h.lt]; exact h.c2, by rw [k.cell h.lt]; exact h.c3, by rw [k.cell h.lt]; exact h.c4, fun j => by rw [k.frozen h.lt]; exact h.free j⟩
theorem Five.set0 {x : Nat} {v0 v1 v2 v3 v4 : Value} {w : World} (h : Five x v0 v1 v2 v3 v4 w) (v : Value) : Five x v v1 v2 v3 v4 (w.setCell ⟨x, 0, none⟩ v) :=
  ⟨by simpa [World.setCell] using h.lt, set_same h.c0, by rw [set_off (by decide)]; exact h.c1, by rw [set_off (by decide)]; exact h.c2, by rw [set_off (by decide)]; exact h.c3, by rw [set_off (by decide)]; exact h.c4, fun j => by rw [set_free]; exact h.free j⟩
theorem Five.set1 {x : Nat} {v0 v1 v2 v3 v4 : Value} {w : World} (h : Five x v0 v1 v2 v3 v4 w) (v : Value) : Five x v0 v v2 v3 v4 (w.setCell ⟨x, 1, none⟩ v) :=
  ⟨by simpa [World.setCell] using h.lt, by rw [set_off (by decide)]; exact h.c0, set_same h.c1, by rw [set_off (by decide)]; exact h.c2, by rw [set_off (by decide)]; exact h.c3, by rw [set_off (by decide)]; exact h.c4, fun j => by rw [set_free]; exact h.free j⟩
set_option maxRecDepth 10000 in
set_option maxHeartbeats 1000000 in
theorem clone_any (m : DiskM) (w : World) (h : DiskAt m w) :
    Calls Try.prog 19 #[.pointer (some ⟨m.d, 0, none⟩)] w fun e w' => ∃ x m', e = .returned (.pointer (some ⟨x, 0, none⟩)) ∧ CloneOf m w x m' w' := by
  have c0 := h.c0
  have c1 := h.c1
  have c2 := h.c2
  have c3 := h.c3
  have c4 := h.c4
  obtain ⟨W, hW⟩ : ∃ W, w.alloc (.cells #[.slice (some ⟨m.bs, 0, none⟩) m.n m.cs, .slice (some ⟨m.bt, 0, none⟩) m.n m.ct, .bool m.armed, .int .i64 m.left, .bool m.dead] 74) = W := ⟨_, rfl⟩
  have hD : DiskAt m W := by rw [← hW]; exact h.kept (S := fun _ => False) ((Grew.refl w).alloc _) (fun x => x) (fun x => x) (fun x => x)
  have HB : Hid (Below w.heap.size w W) := Lib.hid (by rw [← hW]; exact (Below.refl _ _).alloc (Nat.le_refl _) _)
  have hF := Five.new w (.slice (some ⟨m.bs, 0, none⟩) m.n m.cs) (.slice (some ⟨m.bt, 0, none⟩) m.n m.ct) (.bool m.armed) (.int .i64 m.left) (.bool m.dead) 74
  rw [hW] at hF
  have HF := Lib.hid hF
  have HW := Lib.hid hW
  have HD := Lib.hid hD
  have d0 := hD.c0
  have HR1 := Lib.hid (rows_clone m.bs m.n m.cs m.S W hD.sure hD.size)
  have HO : Hid (∀ k, m.own k → k < w.heap.size) := Lib.hid h.below
  clear hW hD hF
  go_enter Try.func19, Try.ntmps19
  go_upto_region 2 with fail
  rw [HW.out]
  generalize hx : w.heap.size = x at *
  have HX := Lib.hid hx
  clear hx c0 c1 c2 c3 c4 h HW
  go_wp2_with fail
  with_reducible refine HR1.out.mono ?_
  rintro e w1 ⟨g1, cap1, rfl, hr1, hb1, hg1⟩
  have HF1 := Lib.hid (HF.out.keep hb1)
  have p0 := HF1.out.c0
  have p0f := HF1.out.free 0
  have HD2 : Hid (DiskAt m (w1.setCell ⟨x, 0, none⟩ (.slice (some ⟨g1, 0, none⟩) m.n cap1))) := Lib.hid ((HD.out.kept (S := fun _ => False) (Grew.of_below hb1) (fun x => x) (fun x => x) (fun x => x)).keep (S := fun k => k = x) ((Grew.refl w1).setCell ⟨x, 0, none⟩ _ fun _ => rfl) (fun k hk e => by have := HO.out k hk; omega))
  have HF2 := Lib.hid (HF1.out.set0 (.slice (some ⟨g1, 0, none⟩) m.n cap1))
  have hlt := HF.out.lt
  have HA2 : Hid (RowAt g1 (64 * m.n) m.S (w1.setCell ⟨x, 0, none⟩ (.slice (some ⟨g1, 0, none⟩) m.n cap1))) := Lib.hid (row_set _ hr1 (by omega))
  have HB2 : Hid (Below x w (w1.setCell ⟨x, 0, none⟩ (.slice (some ⟨g1, 0, none⟩) m.n cap1))) := Lib.hid ((HB.out.trans (hb1.mono (Nat.le_of_lt hlt))).setCell (Nat.le_refl _) _)
  have HG1 : Hid (x < g1) := Lib.hid (by omega)
  clear hr1 hb1 hg1 HR1 HF HF1 HD HB d0 hlt
  go_upto_region 3 with fail
  generalize w1.setCell ⟨x, 0, none⟩ (.slice (some ⟨g1, 0, none⟩) m.n cap1) = W2 at *
  have d1 := HD2.out.c1
  have HR2 := Lib.hid (rows_clone m.bt m.n m.ct m.T W2 HD2.out.there HD2.out.size)
  go_wp2_with fail
  with_reducible refine HR2.out.mono ?_
  rintro e w3 ⟨g2, cap2, rfl, hr2, hb2, hg2⟩
  have HF3 := Lib.hid (HF2.out.keep hb2)
  have p1 := HF3.out.c1
  have p1f := HF3.out.free 1
  have HD4 : Hid (DiskAt m (w3.setCell ⟨x, 1, none⟩ (.slice (some ⟨g2, 0, none⟩) m.n cap2))) := Lib.hid ((HD2.out.kept (S := fun _ => False) (Grew.of_below hb2) (fun x => x) (fun x => x) (fun x => x)).keep (S := fun k => k = x) ((Grew.refl w3).setCell ⟨x, 1, none⟩ _ fun _ => rfl) (fun k hk e => by have := HO.out k hk; omega))
  have HF4 := Lib.hid (HF3.out.set1 (.slice (some ⟨g2, 0, none⟩) m.n cap2))
  have hlt2 := HF2.out.lt
  have hg1 := HG1.out
  have hs1 := HA2.out.lt
  have HA4 : Hid (RowAt g1 (64 * m.n) m.S (w3.setCell ⟨x, 1, none⟩ (.slice (some ⟨g2, 0, none⟩) m.n cap2))) := Lib.hid (row_set _ (HA2.out.kept (S := fun _ => False) (Grew.of_below hb2) (fun x => x)) (by omega))
  have HT4 : Hid (RowAt g2 (64 * m.n) m.T (w3.setCell ⟨x, 1, none⟩ (.slice (some ⟨g2, 0, none⟩) m.n cap2))) := Lib.hid (row_set _ hr2 (by omega))
  have HB4 : Hid (Below x w (w3.setCell ⟨x, 1, none⟩ (.slice (some ⟨g2, 0, none⟩) m.n cap2))) := Lib.hid ((HB2.out.trans (hb2.mono (Nat.le_of_lt hlt2))).setCell (Nat.le_refl _) _)
  have HG2 : Hid (x < g1 ∧ g1 < g2) := Lib.hid (by omega)
  clear hr2 hb2 hg2 HR2 HF2 HF3 HD2 HB2 hlt2 hg1 hs1
  go_wp2_with fail
  go_ret
  refine ⟨x, ⟨x, g1, g2, m.n, cap1, cap2, m.S, m.T, m.armed, m.left, m.dead⟩, rfl, rfl, rfl, rfl, rfl, rfl, rfl, rfl, ?_, HD4.out, ?_, ?_⟩
  · have hg := HG2.out
    exact ⟨HF4.out.lt, by show x ≠ g1; omega, by show x ≠ g2; omega, by show g1 ≠ g2; omega, HD4.out.size, HF4.out.c0, HF4.out.c1, HF4.out.c2, HF4.out.c3, HF4.out.c4, HF4.out.free, HA4.out, HT4.out⟩
  · rw [HX.out]
    exact HB4.out
  · rw [HX.out]
    have hg := HG2.out
    rintro k (e | e | e)
    · have : k = x := e
      omega
    · have : k = g1 := e
      omega
    · have : k = g2 := e
      omega
end Go.Proofs.Ytjggofbaipppbaa
