/-
  A heap within a Try: Put: contracts.
-/
import Derived.Test.YtjjmapmombhmlaaHeapYoung2
namespace Go.Proofs.Ytjjmapmombhmlaa
open Go.RowKit Go.Maps Go.ChangeMaps Go.WideShapes

/-- the same heap, and another content of its disk -/
abbrev HB.at (b : HB) (U : Nat → UInt8) : HB := { b with T := U }
theorem HB.ok.at {b : HB} (ok : b.ok) (U : Nat → UInt8) : (b.at U).ok := ⟨ok.nd, ok.lt, ok.f, ok.n⟩
/-- what lies there behind a write -/
def wroteT (T : Nat → UInt8) (k : Nat) (s : ByteArray) : Nat → UInt8 := fun j => if k * 64 ≤ j ∧ j < k * 64 + 64 then txtf s (j - k * 64) else T j
theorem HeapI.disk {b : HB} {s : HS} {w w' : World} (ok : b.ok) (h : HeapI b s w) {M : DiskM} (hM : DiskAt M w') (hm : M.d = b.d ∧ M.bs = b.bs ∧ M.bt = b.bt ∧ M.n = b.f + b.n ∧ M.armed = false ∧ M.dead = false ∧ M.left ≤ 2 ^ 62) (k : Grew (fun q => q = b.d ∨ q = b.bs ∨ q = b.bt) w w') : HeapI (b.at M.T) s w' := by
  have hh := h.hlt
  have ne : ∀ i, i < 6 → ¬ (b.blk i = b.d ∨ b.blk i = b.bs ∨ b.blk i = b.bt) := fun i hi e => by
    rcases e with e | e | e
    · exact ok.nd i 6 (by omega) (by decide) (by omega) e
    · exact ok.nd i 7 (by omega) (by decide) (by omega) e
    · exact ok.nd i 8 (by omega) (by decide) (by omega) e
  have c : ∀ o, w'.cell? ⟨b.hb, o, none⟩ = w.cell? ⟨b.hb, o, none⟩ := fun o => k.cell (p := ⟨b.hb, o, none⟩) hh (ne 0 (by decide))
  obtain ⟨v, e5, ho⟩ := h.c5
  refine ⟨(c 0).trans h.c0, (c 1).trans h.c1, (c 2).trans h.c2, (c 3).trans h.c3, (c 4).trans h.c4, ⟨v, (c 5).trans e5, ownInt_keep ho k fun q hq e => ?_⟩, (c 6).trans h.c6, fun o => by rw [k.frozen (p := ⟨b.hb, o, none⟩) hh (ne 0 (by decide))]; exact h.fr o, h.gr.keep k (ne 2 (by decide)) (ne 3 (by decide)), h.rf.keep k (ne 4 (by decide)), h.yg.keep k (ne 5 (by decide)), ⟨M, hM, hm.1, hm.2.1, hm.2.2.1, hm.2.2.2.1, hm.2.2.2.2.1, hm.2.2.2.2.2.1, hm.2.2.2.2.2.2, rfl⟩, Nat.le_trans h.sz k.size, h.kd.block (k.block b.hb hh (ne 0 (by decide))), fun e => (c 5).trans (h.nl e)⟩
  have a0 := (ho.lt q hq).1
  have a6 := ok.lt 6 (by decide)
  have a7 := ok.lt 7 (by decide)
  have a8 := ok.lt 8 (by decide)
  have b6 : b.blk 6 = b.d := rfl
  have b7 : b.blk 7 = b.bs := rfl
  have b8 : b.blk 8 = b.bt := rfl
  omega
theorem hWrite_any (b : HB) (ok : b.ok) (s : HS) (i : Nat) (hi : i < b.n) (t : ByteArray) (ht : t.size ≤ 64) (w : World) (h : HeapI b s w) : Calls Try.prog 42 #[.pointer (some ⟨b.d, 0, none⟩), .int .i64 ((b.f + i : Nat) : Int), .string t] w fun e w' => e = .returned (.tuple #[]) ∧ HeapI (b.at (wroteT b.T (b.f + i) t)) s w' ∧ Grew (fun q => q = b.d ∨ q = b.bs ∨ q = b.bt) w w' := by
  obtain ⟨M, hM, m1, m2, m3, m4, m5, m6, m7, m8⟩ := h.dk
  have hsp : M.spent = M := by unfold DiskM.spent; rw [m5]; rfl
  have := write_ok M (b.f + i) t w hM m6 (by rw [m4]; omega) ht m7 (fun e => by rw [m5] at e; cases e)
  rw [m1, hsp] at this
  refine this.mono ?_
  rintro e w' ⟨rfl, hd, hg⟩
  have hg' : Grew (fun q => q = b.d ∨ q = b.bs ∨ q = b.bt) w w' := hg.mono fun q _ e => by
    rcases e with e | e | e
    · exact Or.inl (e.trans m1)
    · exact Or.inr (Or.inl (e.trans m2))
    · exact Or.inr (Or.inr (e.trans m3))
  rw [← m8]
  exact ⟨rfl, h.disk ok hd ⟨m1, m2, m3, m4, m5, m6, m7⟩ hg', hg'⟩
set_option maxRecDepth 100000 in
theorem putStep_any (b : HB) (ok : b.ok) (s : HS) (i : Nat) (hi : i < b.n) (t : ByteArray) (ht : t.size ≤ 64) (x y z : Nat) (w : World) (d1 : w.cell? ⟨x, 0, none⟩ = some (.pointer (some ⟨b.hb, 0, none⟩))) (d2 : w.cell? ⟨y, 0, none⟩ = some (.int .i64 ((b.f + i : Nat) : Int))) (d3 : w.cell? ⟨z, 0, none⟩ = some (.string t)) (h : HeapI b s w) : Calls Try.prog 73 #[.pointer (some ⟨x, 0, none⟩), .pointer (some ⟨y, 0, none⟩), .pointer (some ⟨z, 0, none⟩)] w fun e w' => e = .returned (.tuple #[]) ∧ HeapI (b.at (wroteT b.T (b.f + i) t)) s w' ∧ Grew (fun q => q = b.d ∨ q = b.bs ∨ q = b.bt) w w' := by
  have e1 : w.drew.cell? ⟨x, 0, none⟩ = some (.pointer (some ⟨b.hb, 0, none⟩)) := d1
  have e2 : w.drew.cell? ⟨y, 0, none⟩ = some (.int .i64 ((b.f + i : Nat) : Int)) := d2
  have e3 : w.drew.cell? ⟨z, 0, none⟩ = some (.string t) := d3
  have c0 := h.drew.c0
  have HW := Lib.hid (hWrite_any b ok s i hi t ht w.drew h.drew)
  have hU : ∃ U, wroteT b.T (b.f + i) t = U := ⟨_, rfl⟩
  obtain ⟨U, hU⟩ := hU
  rw [hU] at HW ⊢
  clear hU
  generalize ((b.f + i : Nat) : Int) = T at *
  clear h hi ht d1 d2 d3
  go_enter Try.func73, Try.ntmps73
  go_upto_region 0 with fail
  refine wp_region_still_tail 6 (by kernel_rfl) (by kernel_rfl) ?_
  change wpStill _ _ (w.drew) (fun a' => wpList _ _ _ _ a' (w.drew)) _ _
  simp only [List.take_succ_cons, List.take_zero, List.drop_succ_cons, List.drop_zero]
  repeat still_step
  refine wpStill_nil ?_
  go_wp2_with fail
  refine HW.out.mono ?_
  rintro e w' ⟨rfl, h1, hg⟩
  have HR := Lib.hid (And.intro h1 (((Grew.refl w).drew).trans hg))
  clear h1 hg HW
  go_wp2_with fail
  go_end0
  exact ⟨rfl, HR.out.1, HR.out.2⟩
theorem putY (b : HB) (ok : b.ok) (s : HS) (i : Nat) (hi : i < b.n) (dp : Nat) (v : Value) (fs : List Step) (w : World) (hf : fs.length < 100000) (h : HeapI b s w) (hl : LogAt b.B b.g (dp + 1) v fs w) : Calls Try.prog 75 #[.pointer (some ⟨b.g, 0, none⟩), .map (some b.yb), .int .i64 ((b.f + i : Nat) : Int), .agg #[]] w fun e w' => e = .returned (.tuple #[]) ∧ Did b.B b.g dp b.S0 (HeapI b) fs 1 s { s with Y := upF s.Y ((b.f + i : Nat) : Int) (some ()) } w w' :=
  putIU (heapLogged ok) (youngAcc ok) (b.few ok) b.B dp v fs s _ () w hl hf h.sz h (b.wf ok hi) trivial (b.keys_mem i hi) (heapLog ok hl h)
set_option maxRecDepth 100000 in
/-- the Guard around the writing -/
theorem putGuard_any (b : HB) (ok : b.ok) (s : HS) (i : Nat) (hi : i < b.n) (t : ByteArray) (ht : t.size ≤ 64) (x y z : Nat) (w : World) (hx : x < w.heap.size) (hy : y < w.heap.size) (hz : z < w.heap.size) (d1 : w.cell? ⟨x, 0, none⟩ = some (.pointer (some ⟨b.hb, 0, none⟩))) (d2 : w.cell? ⟨y, 0, none⟩ = some (.int .i64 ((b.f + i : Nat) : Int))) (d3 : w.cell? ⟨z, 0, none⟩ = some (.string t)) (h : HeapI b s w) : Calls Try.prog 17 #[.func (.func 73) #[] #[.pointer (some ⟨x, 0, none⟩), .pointer (some ⟨y, 0, none⟩), .pointer (some ⟨z, 0, none⟩)]] w fun e w' => e = .returned (.int .i64 0) ∧ HeapI (b.at (wroteT b.T (b.f + i) t)) s w' ∧ Grew (fun q => q = b.d ∨ q = b.bs ∨ q = b.bt) w w' := by
  have a := ((Grew.refl (S := fun _ => False) w).alloc (.cells #[.int .i64 0] 45))
  have hB := h.sz
  have hlt := h.dk
  refine (guard_any 73 #[.pointer (some ⟨x, 0, none⟩), .pointer (some ⟨y, 0, none⟩), .pointer (some ⟨z, 0, none⟩)] w (fun o w' => o = none ∧ HeapI (b.at (wroteT b.T (b.f + i) t)) s w' ∧ Grew (fun q => q = b.d ∨ q = b.bs ∨ q = b.bt) w w' ∧ w'.heap[w.heap.size]? = some (.cells #[.int .i64 0] 45)) (fun _ => rfl) ((putStep_any b ok s i hi t ht x y z _ ((a.cell (p := ⟨x, 0, none⟩) hx fun e => e).trans d1) ((a.cell (p := ⟨y, 0, none⟩) hy fun e => e).trans d2) ((a.cell (p := ⟨z, 0, none⟩) hz fun e => e).trans d3) (h.alloc _)).mono ?_)).mono ?_
  · rintro e w' ⟨rfl, h1, hg⟩
    have nb : ¬ (w.heap.size = b.d ∨ w.heap.size = b.bs ∨ w.heap.size = b.bt) := by
      have a6 := ok.lt 6 (by decide)
      have a7 := ok.lt 7 (by decide)
      have a8 := ok.lt 8 (by decide)
      have b6 : b.blk 6 = b.d := rfl
      have b7 : b.blk 7 = b.bs := rfl
      have b8 : b.blk 8 = b.bt := rfl
      omega
    have s1 : w.heap.size < (w.alloc (.cells #[.int .i64 0] 45)).heap.size := by simp
    refine ⟨none, rfl, ?_, ?_, Nat.lt_of_lt_of_le s1 hg.size, rfl, h1, (a.mono fun _ _ e => e.elim).trans hg, (hg.block _ s1 nb).trans (heap_alloc_new w _)⟩
    · rw [hg.cell (p := ⟨w.heap.size, 0, none⟩) s1 nb]
      exact boxNew rfl
    · rw [hg.frozen (p := ⟨w.heap.size, 0, none⟩) s1 nb]
      simp
  · rintro e w' ⟨o, w1, ⟨rfl, h1, hg, hbx⟩, rfl, rfl⟩
    have gd : Grew (fun q => q = w.heap.size) w1 (done w.heap.size none w1) := done_alone w.heap.size none w1
    refine ⟨rfl, h1.keep gd (fun j hj e => ?_) fun r hr hk e => ?_, hg.step gd fun x hx e => absurd hx (by omega)⟩
    · have := (ok.at (wroteT b.T (b.f + i) t)).lt j hj
      have e9 : (b.at (wroteT b.T (b.f + i) t)).B = b.B := rfl
      omega
    · obtain ⟨c, fz, e1⟩ := hk
      have e : r = w.heap.size := e
      rw [e, hbx] at e1
      simp at e1
end Go.Proofs.Ytjjmapmombhmlaa
