/-
  A heap within a Try: first, letGo of one that isn't young, Less: contracts.
-/
import Derived.Test.YtjjmapmombhmlaaHeapStep
namespace Go.Proofs.Ytjjmapmombhmlaa
open Go.RowKit Go.Maps Go.ChangeMaps Go.WideShapes

theorem Did.fromDrew {σ : Type} {B g dp n : Nat} {S0 : Nat → Prop} {I : σ → World → Prop} {fs : List Step} {s s' : σ} {w w' : World} (h : Did B g dp S0 I fs n s s' w.drew w') : Did B g dp S0 I fs n s s' w w' := ⟨h.log, h.st, ((Grew.refl w).drew).trans h.grew⟩
theorem HB.not0 {b : HB} (ok : b.ok) {w : World} (h : b.B ≤ w.heap.size) {x : Nat} (hx : w.heap.size ≤ x) : ¬ b.S0 x := by
  rintro ⟨i, hi, rfl⟩
  have := ok.lt i hi
  omega
/-- behind the two boxes that first and letGo make -/
structure Front (b : HB) (T : Int) (w W : World) : Prop where
  grew : Grew (fun _ => False) w W
  two : Boxes2 b w.heap.size (w.heap.size + 1) T W
  d1 : W.cell? ⟨w.heap.size, 0, none⟩ = some (.pointer (some ⟨b.hb, 0, none⟩))
  d2 : W.cell? ⟨w.heap.size + 1, 0, none⟩ = some (.int .i64 T)
theorem Boxes2.cells {b : HB} {x y : Nat} {T : Int} {w : World} (h : Boxes2 b x y T w) : w.cell? ⟨x, 0, none⟩ = some (.pointer (some ⟨b.hb, 0, none⟩)) ∧ w.cell? ⟨y, 0, none⟩ = some (.int .i64 T) := by
  have h1 := h.bx
  have h2 := h.by'
  exact ⟨by simp [World.cell?, h1], by simp [World.cell?, h2]⟩
theorem front (b : HB) (T : Int) (w : World) : Front b T w ((w.alloc (.cells #[.pointer (some ⟨b.hb, 0, none⟩)] 43)).alloc (.cells #[.int .i64 T] 3)) := by
  have s1 : (w.alloc (.cells #[.pointer (some ⟨b.hb, 0, none⟩)] 43)).heap.size = w.heap.size + 1 := by simp
  have hB : Boxes2 b w.heap.size (w.heap.size + 1) T ((w.alloc (.cells #[.pointer (some ⟨b.hb, 0, none⟩)] 43)).alloc (.cells #[.int .i64 T] 3)) := by
    refine ⟨?_, ?_⟩
    · rw [Below.heap_alloc _ _ _ (by rw [s1]; omega)]
      exact heap_alloc_new w _
    · have := heap_alloc_new (w.alloc (.cells #[.pointer (some ⟨b.hb, 0, none⟩)] 43)) (.cells #[.int .i64 T] 3)
      rw [s1] at this
      exact this
  exact ⟨((Grew.refl w).alloc _).alloc _, hB, hB.cells.1, hB.cells.2⟩
theorem Boxes2.kept {b : HB} {x y : Nat} {T : Int} {w w' : World} (h : Boxes2 b x y T w) (hS : ¬ b.S0 x ∧ ¬ b.S0 y) (k : Kept b.S0 w w') : Boxes2 b x y T w' :=
  ⟨(k x ⟨hS.1, _, _, _, h.bx, by decide, by decide⟩).trans h.bx, (k y ⟨hS.2, _, _, _, h.by', by decide, by decide⟩).trans h.by'⟩
/-- a step that a log took, beside the heap -/
theorem backed {b : HB} (ok : b.ok) {s : HS} {dp : Nat} {v : Value} {fs : List Step} {W w1 : World} (hI : HeapI b s W) (hL : LogAt b.B b.g dp v fs W) (hg : Grew (fun q => q = b.g ∨ v.ownBlock = some q) W w1) (hc : ∀ o, ¬ o = 1 → w1.cell? ⟨b.g, o, none⟩ = W.cell? ⟨b.g, o, none⟩) (hz : ∀ o, w1.frozen? ⟨b.g, o, none⟩ = W.frozen? ⟨b.g, o, none⟩) : HeapI b s w1 ∧ Grew (Mut b.B b.S0 W) W w1 :=
  ⟨heapLog ok hL hI w1 hg hc hz, hg.mono fun q _ e => by
    rcases e with e | e
    · exact Or.inl ⟨1, by decide, e⟩
    · exact Or.inr ⟨(hL.row.lt q e).1, Lib.ownsRow_kind hL.row q e⟩⟩
theorem HB.wf {b : HB} (ok : b.ok) {i : Nat} (hi : i < b.n) : (Lit.int .i64 ((b.f + i : Nat) : Int)).wf = true := wf_small _ (by omega) (by have := ok.f; have := ok.n; omega)
theorem HB.few {b : HB} (ok : b.ok) : b.keys.length < 1000000 := by rw [b.keys_len]; have := ok.n; omega
theorem putR (b : HB) (ok : b.ok) (s : HS) (i : Nat) (y : Int) (hi : i < b.n) (hy : (Lit.int .i64 y).wf = true) (dp : Nat) (v : Value) (fs : List Step) (w : World) (hf : fs.length < 100000) (h : HeapI b s w) (hl : LogAt b.B b.g (dp + 1) v fs w) : Calls Try.prog 55 #[.pointer (some ⟨b.g, 0, none⟩), .map (some b.rb), .int .i64 ((b.f + i : Nat) : Int), .int .i64 y] w fun e w' => e = .returned (.tuple #[]) ∧ Did b.B b.g dp b.S0 (HeapI b) fs 1 s { s with R := upF s.R ((b.f + i : Nat) : Int) (some y) } w w' :=
  putII (heapLogged ok) (refsAcc ok) (b.few ok) b.B dp v fs s _ y w hl hf h.sz h (b.wf ok hi) hy (b.keys_mem i hi) (heapLog ok hl h)
theorem dropR (b : HB) (ok : b.ok) (s : HS) (i : Nat) (hi : i < b.n) (dp : Nat) (v : Value) (fs : List Step) (w : World) (hf : fs.length < 100000) (h : HeapI b s w) (hl : LogAt b.B b.g (dp + 1) v fs w) : Calls Try.prog 56 #[.pointer (some ⟨b.g, 0, none⟩), .map (some b.rb), .int .i64 ((b.f + i : Nat) : Int)] w fun e w' => e = .returned (.tuple #[]) ∧ Did b.B b.g dp b.S0 (HeapI b) fs 1 s { s with R := upF s.R ((b.f + i : Nat) : Int) none } w w' :=
  dropII (heapLogged ok) (refsAcc ok) (b.few ok) b.B dp v fs s _ w hl hf h.sz h (b.wf ok hi) (heapLog ok hl h)
set_option maxRecDepth 100000 in
set_option maxHeartbeats 1000000 in
/-- a sector that was free is wanted by one: in a Try -/
theorem first1_any (b : HB) (ok : b.ok) (s s0 : HS) (i : Nat) (hi : i < b.n) (hs : s.S i = 1) (h0 : { s with S := upd s.S i 0 } = s0) (dp : Nat) (v : Value) (fs : List Step) (w : World) (hf : fs.length < 90000) (h : HeapI b s w) (hl : LogAt b.B b.g (dp + 1) v fs w) : Calls Try.prog 65 #[.pointer (some ⟨b.hb, 0, none⟩), .int .i64 ((b.f + i : Nat) : Int)] w fun e w' => e = .returned (.tuple #[]) ∧ Did b.B b.g dp b.S0 (HeapI b) fs 2 s0 { s with R := upF s.R ((b.f + i : Nat) : Int) (some 1) } w w' := by
  have hmf : ∀ (fn : Fn) (first cap : Array Value) (w : World), (Instr.makeFunc fn first cap).run Try.prog w = .ok (.func fn first cap) w := fun _ _ _ _ => rfl
  obtain ⟨W, hW⟩ : ∃ W, (w.alloc (.cells #[.pointer (some ⟨b.hb, 0, none⟩)] 43)).alloc (.cells #[.int .i64 ((b.f + i : Nat) : Int)] 3) = W := ⟨_, rfl⟩
  have hF : Front b ((b.f + i : Nat) : Int) w W := hW ▸ front b _ w
  have hI : HeapI b s W := by rw [← hW]; exact (h.alloc _).alloc _
  have hL : LogAt b.B b.g (dp + 1) v fs W := hl.keep hF.grew (fun e => e) fun _ _ e => e
  have n0 := HB.not0 ok h.sz (Nat.le_refl w.heap.size)
  have n1 := HB.not0 ok h.sz (Nat.le_succ w.heap.size)
  have HBk := Lib.hid (back_some b.B b.g dp v fs (stepFirst w.heap.size (w.heap.size + 1)) W hL (by omega) hI.sz)
  have HN : Hid (∀ w1, Grew (fun q => q = b.g ∨ v.ownBlock = some q) W w1 → (∀ o, ¬ o = 1 → w1.cell? ⟨b.g, o, none⟩ = W.cell? ⟨b.g, o, none⟩) → (∀ o, w1.frozen? ⟨b.g, o, none⟩ = W.frozen? ⟨b.g, o, none⟩) → HeapI b s w1 ∧ Boxes2 b w.heap.size (w.heap.size + 1) ((b.f + i : Nat) : Int) w1 ∧ Grew (Mut b.B b.S0 w) w w1) := Lib.hid fun w1 hg hc hz => by
    obtain ⟨a1, a2⟩ := backed ok hI hL hg hc hz
    exact ⟨a1, hF.two.kept ⟨n0, n1⟩ (Kept.of a2), (hF.grew.mono fun _ _ e => e.elim).thenMut a2⟩
  have HG : Hid (∀ w1 v1, LogAt b.B b.g (dp + 1) v1 (fs ++ [stepFirst w.heap.size (w.heap.size + 1)]) w1 → HeapI b s w1 → Boxes2 b w.heap.size (w.heap.size + 1) ((b.f + i : Nat) : Int) w1 → Grew (Mut b.B b.S0 w) w w1 → Did b.B b.g dp b.S0 (HeapI b) fs 1 s0 s w w1 ∧ ∀ w2, Did b.B b.g dp b.S0 (HeapI b) (fs ++ [stepFirst w.heap.size (w.heap.size + 1)]) 1 s { s with R := upF s.R ((b.f + i : Nat) : Int) (some 1) } w1.drew w2 → Did b.B b.g dp b.S0 (HeapI b) fs 2 s0 { s with R := upF s.R ((b.f + i : Nat) : Int) (some 1) } w w2) := Lib.hid fun w1 v1 hl1 hi1 hb1 hg1 => by
    have hG := goodFirst b ok s s0 i hi hs _ _ w1 hb1 ⟨n0, n1⟩ h0
    exact ⟨Did.one hl1 hi1 hG hg1, fun w2 hd => Did.chain (n := 1) hl1 (Nat.le_refl _) ((Path.nil s0 w1).snoc hG) hg1 hd.fromDrew⟩
  have HP : Hid (∀ w1 v1, LogAt b.B b.g (dp + 1) v1 (fs ++ [stepFirst w.heap.size (w.heap.size + 1)]) w1 → HeapI b s w1 → Calls Try.prog 55 #[.pointer (some ⟨b.g, 0, none⟩), .map (some b.rb), .int .i64 ((b.f + i : Nat) : Int), .int .i64 1] w1 fun e w' => e = .returned (.tuple #[]) ∧ Did b.B b.g dp b.S0 (HeapI b) (fs ++ [stepFirst w.heap.size (w.heap.size + 1)]) 1 s { s with R := upF s.R ((b.f + i : Nat) : Int) (some 1) } w1 w') := Lib.hid fun w1 v1 hl1 hi1 => putR b ok s i 1 hi (by decide) dp v1 _ w1 (by rw [List.length_append]; show _ + 1 < _; omega) hi1 hl1
  have d1 := hF.d1
  have d2 := hF.d2
  have c1 := hI.c1
  clear hF hI hL n0 n1 h hl hf hi hs h0
  unfold stepV stepFirst at HBk
  generalize ((b.f + i : Nat) : Int) = T at *
  subst hW
  go_enter Try.func65, Try.ntmps65
  go_wp2_with fail
  refine HBk.out.mono ?_
  rintro e w1 ⟨rfl, v1, hl1, hg1, hk1, hk2⟩
  obtain ⟨a1, a2, a3⟩ := HN.out w1 hg1 hk1 hk2
  obtain ⟨a4, a5⟩ := HG.out w1 v1 hl1 a1 a2 a3
  have HPx := Lib.hid (HP.out w1.drew v1 hl1.drew' a1.drew)
  have HE := Lib.hid a5
  have f1 := a1.drew.c1
  have f3 := a1.drew.c3
  have e1 : w1.drew.cell? ⟨w.heap.size, 0, none⟩ = some (.pointer (some ⟨b.hb, 0, none⟩)) := a2.cells.1
  have e2 : w1.drew.cell? ⟨w.heap.size + 1, 0, none⟩ = some (.int .i64 T) := a2.cells.2
  clear hl1 hg1 hk1 hk2 a1 a2 a3 a4 a5 HN HG HP HBk d1 d2 c1
  go_upto_region 2 with fail
  refine wp_region_still_tail 9 (by kernel_rfl) (by kernel_rfl) ?_
  change wpStill _ _ (w1.drew) (fun a' => wpList _ _ _ _ a' (w1.drew)) _ _
  simp only [List.take_succ_cons, List.take_zero, List.drop_succ_cons, List.drop_zero]
  repeat still_step
  refine wpStill_nil ?_
  go_wp2_with fail
  refine HPx.out.mono ?_
  rintro e w2 ⟨rfl, hd⟩
  have HD := Lib.hid (HE.out w2 hd)
  clear hd HE HPx
  go_wp2_with fail
  go_end0
  exact ⟨rfl, HD.out⟩
set_option maxRecDepth 100000 in
set_option maxHeartbeats 1000000 in
/-- Less of one that more than one want -/
theorem less1_more (b : HB) (ok : b.ok) (s : HS) (i r : Nat) (hi : i < b.n) (hs : s.S i = 1) (hr : s.R ((b.f + i : Nat) : Int) = some ((r + 2 : Nat) : Int)) (hrb : r < 10000) (dp : Nat) (v : Value) (fs : List Step) (w : World) (hf : fs.length < 90000) (h : HeapI b s w) (hl : LogAt b.B b.g (dp + 1) v fs w) : Calls Try.prog 25 #[.pointer (some ⟨b.hb, 0, none⟩), .int .i64 ((b.f + i : Nat) : Int)] w fun e w' => e = .returned (.bool false) ∧ Did b.B b.g dp b.S0 (HeapI b) fs 1 s { s with R := upF s.R ((b.f + i : Nat) : Int) (some ((r + 1 : Nat) : Int)) } w w' := by
  have HN := Lib.hid (needHeld_ok b ok s i hi hs w h)
  have hd1 := h.drew
  have c1 := hd1.c1
  have c3 := hd1.c3
  have hd2 := h.drew.drew
  have f1 := hd2.c1
  have f3 := hd2.c3
  have hlk : (Instr.lookup 27 (.map (some b.rb)) (.int .i64 ((b.f + i : Nat) : Int)) false).run Try.prog w.drew = .ok (.int .i64 ((r + 2 : Nat) : Int)) w.drew := by
    have := hd1.rf.look1 tblII_fine _ (b.wf ok hi)
    rw [hr] at this
    exact this
  have HP : Hid (Calls Try.prog 55 #[.pointer (some ⟨b.g, 0, none⟩), .map (some b.rb), .int .i64 ((b.f + i : Nat) : Int), .int .i64 ((r + 1 : Nat) : Int)] w.drew.drew fun e w' => e = .returned (.tuple #[]) ∧ Did b.B b.g dp b.S0 (HeapI b) fs 1 s { s with R := upF s.R ((b.f + i : Nat) : Int) (some ((r + 1 : Nat) : Int)) } w.drew.drew w') := Lib.hid (putR b ok s i _ hi (wf_small _ (by omega) (by omega)) dp v fs _ (by omega) hd2 hl.drew'.drew')
  have e3 : ((r + 1 : Nat) : Int) = ((r + 2 : Nat) : Int) - 1 := by omega
  have hw : IntKind.i64.wrap (((r + 2 : Nat) : Int) - 1) = ((r + 2 : Nat) : Int) - 1 := IntWalk.i64_in _ (by omega)
  have hgt : decide (((r + 2 : Nat) : Int) > 1) = true := decide_eq_true (by omega)
  have hlt : decide ((1 : Int) < ((r + 2 : Nat) : Int)) = true := decide_eq_true (by omega)
  clear hd1 hd2 h hl hf hs hr hrb hi
  rw [e3] at HP ⊢
  clear e3
  generalize ((r + 2 : Nat) : Int) = R2 at *
  generalize ((b.f + i : Nat) : Int) = T at *
  go_enter Try.func25, Try.ntmps25
  go_wp2_with fail
  refine HN.out.mono ?_
  rintro e w' ⟨rfl, rfl⟩
  clear HN
  go_upto_region 4 with fail
  refine wp_region_still_tail 11 (by kernel_rfl) (by kernel_rfl) ?_
  change wpStill _ _ (w.drew.drew) (fun a' => wpList _ _ _ _ a' (w.drew.drew)) _ _
  simp only [List.take_succ_cons, List.take_zero, List.drop_succ_cons, List.drop_zero]
  repeat still_step
  refine wpStill_nil ?_
  go_wp2_with fail
  refine HP.out.mono ?_
  rintro e w2 ⟨rfl, hd⟩
  have HD := Lib.hid hd.fromDrew.fromDrew
  clear hd HP
  go_wp2_with fail
  go_ret
  exact ⟨rfl, HD.out⟩
end Go.Proofs.Ytjjmapmombhmlaa
