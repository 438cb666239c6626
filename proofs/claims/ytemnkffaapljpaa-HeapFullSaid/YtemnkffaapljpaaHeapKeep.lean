/-
  A heap within a Try: Keep, and how it is undone: contracts.
-/
import Derived.Test.YtemnkffaapljpaaHoldPuts
namespace Go.Proofs.Ytemnkffaapljpaa
open Go.RowKit Go.Maps Go.ChangeMaps Go.WideShapes

theorem run_max2 (P : Program) (w : World) (ts : Array TypeId) (t : TypeId) (x y z : Int) (h : z = max x y) : (Builtin.max_ ts t #[.int .i64 x, .int .i64 y]).run P w = .ok (.int .i64 z) w := by
  subst h
  by_cases hc : x < y
  · rw [Int.max_eq_right (by omega)]
    simp [Builtin.max_, Builtin.max2, hc]
  · rw [Int.max_eq_left (by omega)]
    simp [Builtin.max_, Builtin.max2, hc]
theorem HeapI.keeps {b : HB} {s : HS} {w : World} (ok : b.ok) (h : HeapI b s w) (K : Int) : HeapI b { s with K := K } (w.setCell ⟨b.hb, 6, none⟩ (.int .i64 K)) := by
  have k : Grew (fun q => q = b.blk 0) w (w.setCell ⟨b.hb, 6, none⟩ (.int .i64 K)) := (Grew.refl (S := fun q => q = b.blk 0) w).setCell _ _ fun _ => rfl
  have c := h.but ok (j := 0) (by decide) k
  obtain ⟨v, e5, ho⟩ := h.c5
  have o : ∀ j, j ≠ 6 → (w.setCell ⟨b.hb, 6, none⟩ (.int .i64 K)).cell? ⟨b.hb, j, none⟩ = w.cell? ⟨b.hb, j, none⟩ := fun j hj => World.cell?_setCell_other _ _ _ _ (by intro e; cases e; exact hj rfl)
  refine ⟨(o 0 (by decide)).trans h.c0, (o 1 (by decide)).trans h.c1, (o 2 (by decide)).trans h.c2, (o 3 (by decide)).trans h.c3, (o 4 (by decide)).trans h.c4, ⟨v, (o 5 (by decide)).trans e5, ownInt_keep ho k fun q hq e => ?_⟩, World.cell?_setCell_same _ _ _ h.c6, fun x => by rw [World.frozen?_setCell]; exact h.fr x, c.gr (by decide) (by decide), c.rf (by decide), c.yg (by decide), c.dk (by decide), c.sz, h.kd.set _ _, fun e => (o 5 (by decide)).trans (h.nl e)⟩
  have a1 := (ho.lt q hq).1
  have a2 := ok.lt 0 (by decide)
  have e' : q = b.blk 0 := e
  omega
def stepK (x y : Nat) : Step := (125, #[.pointer (some ⟨x, 0, none⟩), .pointer (some ⟨y, 0, none⟩)])
structure KBox (b : HB) (x y : Nat) (K : Int) (w : World) : Prop where
  bx : w.heap[x]? = some (.cells #[.int .i64 K] 3)
  by' : w.heap[y]? = some (.cells #[.pointer (some ⟨b.hb, 6, none⟩)] 106)
theorem KBox.kept {b : HB} {x y : Nat} {K : Int} {w w' : World} (h : KBox b x y K w) (hS : ¬ b.S0 x ∧ ¬ b.S0 y) (k : Kept b.S0 w w') : KBox b x y K w' :=
  ⟨(k x ⟨hS.1, _, _, _, h.bx, by decide, by decide⟩).trans h.bx, (k y ⟨hS.2, _, _, _, h.by', by decide, by decide⟩).trans h.by'⟩
theorem kFront (b : HB) (K : Int) (w : World) : KBox b (w.heap.size + 1) w.heap.size K ((w.alloc (.cells #[.pointer (some ⟨b.hb, 6, none⟩)] 106)).alloc (.cells #[.int .i64 K] 3)) := by
  have s1 : (w.alloc (.cells #[.pointer (some ⟨b.hb, 6, none⟩)] 106)).heap.size = w.heap.size + 1 := by simp
  refine ⟨?_, ?_⟩
  · have := heap_alloc_new (w.alloc (.cells #[.pointer (some ⟨b.hb, 6, none⟩)] 106)) (.cells #[.int .i64 K] 3)
    rw [s1] at this
    exact this
  · rw [Below.heap_alloc _ _ _ (by rw [s1]; omega)]
    exact heap_alloc_new w _
set_option maxRecDepth 100000 in
theorem goodK (b : HB) (ok : b.ok) (s s0 : HS) (x y : Nat) (w : World) (hB : KBox b x y s0.K w) (hS : ¬ b.S0 x ∧ ¬ b.S0 y) (h0 : { s with K := s0.K } = s0) : Good b.B b.g b.S0 (HeapI b) (stepK x y) s s0 w := by
  refine ⟨fun _ => rfl, fun k => k = x ∨ k = y, ?_, ?_⟩
  · rintro k (rfl | rfl)
    · exact ⟨hS.1, _, _, _, hB.bx, by decide, by decide⟩
    · exact ⟨hS.2, _, _, _, hB.by', by decide, by decide⟩
  · intro wx hx hI
    have p1 := hx x (Or.inl rfl)
    have p2 := hx y (Or.inr rfl)
    rw [hB.bx] at p1
    rw [hB.by'] at p2
    refine (setBack_any x y b.hb 6 s0.K s.K wx (by simp [World.cell?, p1]) (by simp [World.cell?, p2]) hI.c6 (hI.fr 6)).mono ?_
    rintro e w' ⟨rfl, rfl⟩
    have g : Grew (fun q => q = b.hb) wx (wx.setCell ⟨b.hb, 6, none⟩ (.int .i64 s0.K)) := (Grew.refl wx).setCell _ _ fun _ => rfl
    refine ⟨rfl, ?_, g.mono fun q _ e => Or.inl ⟨0, by decide, e⟩, fun B' dp v fs hl => hl.keep g (fun e => ok.nd 1 0 (by decide) (by decide) (by decide) e) fun q hq e => ?_⟩
    · rw [← h0]
      exact hI.keeps ok s0.K
    · subst e
      exact hI.kd.ne hl.row hq
set_option maxRecDepth 100000 in
set_option maxHeartbeats 1000000 in
theorem setK_any (b : HB) (ok : b.ok) (s : HS) (K : Int) (dp : Nat) (v : Value) (fs : List Step) (w : World) (hf : fs.length < 100000) (h : HeapI b s w) (hl : LogAt b.B b.g (dp + 1) v fs w) : Calls Try.prog 74 #[.pointer (some ⟨b.g, 0, none⟩), .pointer (some ⟨b.hb, 6, none⟩), .int .i64 K] w fun e w' => e = .returned (.tuple #[]) ∧ Did b.B b.g dp b.S0 (HeapI b) fs 1 s { s with K := K } w w' := by
  have hmf : ∀ (fn : Fn) (first cap : Array Value) (w : World), (Instr.makeFunc fn first cap).run Try.prog w = .ok (.func fn first cap) w := fun _ _ _ _ => rfl
  obtain ⟨W, hW⟩ : ∃ W, (w.alloc (.cells #[.pointer (some ⟨b.hb, 6, none⟩)] 106)).alloc (.cells #[.int .i64 s.K] 3) = W := ⟨_, rfl⟩
  have g0 : Grew (fun _ => False) w W := by rw [← hW]; exact ((Grew.refl w).alloc _).alloc _
  have hB : KBox b (w.heap.size + 1) w.heap.size s.K W := by rw [← hW]; exact kFront b _ w
  have hI : HeapI b s W := by rw [← hW]; exact (h.alloc _).alloc _
  have hL : LogAt b.B b.g (dp + 1) v fs W := hl.keep g0 (fun e => e) fun _ _ e => e
  have n0 := HB.not0 ok h.sz (Nat.le_refl w.heap.size)
  have n1 := HB.not0 ok h.sz (Nat.le_succ w.heap.size)
  have HBk := Lib.hid (back_some b.B b.g dp v fs (stepK (w.heap.size + 1) w.heap.size) W hL (by omega) hI.sz)
  have HN : Hid (∀ w1 v1, LogAt b.B b.g (dp + 1) v1 (fs ++ [stepK (w.heap.size + 1) w.heap.size]) w1 → Grew (fun q => q = b.g ∨ v.ownBlock = some q) W w1 → (∀ o, ¬ o = 1 → w1.cell? ⟨b.g, o, none⟩ = W.cell? ⟨b.g, o, none⟩) → (∀ o, w1.frozen? ⟨b.g, o, none⟩ = W.frozen? ⟨b.g, o, none⟩) → HeapI b s w1 ∧ w1.cell? ⟨w.heap.size, 0, none⟩ = some (.pointer (some ⟨b.hb, 6, none⟩)) ∧ Did b.B b.g dp b.S0 (HeapI b) fs 1 s { s with K := K } w (w1.setCell ⟨b.hb, 6, none⟩ (.int .i64 K))) := Lib.hid fun w1 v1 l1 hg hc hz => by
    obtain ⟨i1, m1⟩ := backed ok hI hL hg hc hz
    have m01 : Grew (Mut b.B b.S0 w) w w1 := (g0.mono fun _ _ e => e.elim).thenMut m1
    have hb1 := hB.kept ⟨n1, n0⟩ (Kept.of m1)
    have g2 : Grew (fun q => q = b.hb) w1 (w1.setCell ⟨b.hb, 6, none⟩ (.int .i64 K)) := (Grew.refl w1).setCell _ _ fun _ => rfl
    have m2 : Grew (Mut b.B b.S0 w1) w1 (w1.setCell ⟨b.hb, 6, none⟩ (.int .i64 K)) := g2.mono fun q _ e => Or.inl ⟨0, by decide, e⟩
    have l2 : LogAt b.B b.g (dp + 1) v1 (fs ++ [stepK (w.heap.size + 1) w.heap.size]) (w1.setCell ⟨b.hb, 6, none⟩ (.int .i64 K)) := l1.keep g2 (fun e => ok.nd 1 0 (by decide) (by decide) (by decide) e) fun q hq e => by subst e; exact i1.kd.ne l1.row hq
    exact ⟨i1, by have := hb1.by'; simp [World.cell?, this], Did.one l2 (i1.keeps ok K) (goodK b ok _ s _ _ _ (hb1.kept ⟨n1, n0⟩ (Kept.of m2)) ⟨n1, n0⟩ rfl) (m01.thenMut m2)⟩
  have d1 : (w.alloc (.cells #[.pointer (some ⟨b.hb, 6, none⟩)] 106)).cell? ⟨w.heap.size, 0, none⟩ = some (.pointer (some ⟨b.hb, 6, none⟩)) := boxNew rfl
  have d5 : (w.alloc (.cells #[.pointer (some ⟨b.hb, 6, none⟩)] 106)).cell? ⟨b.hb, 6, none⟩ = some (.int .i64 s.K) := (h.alloc (.cells #[.pointer (some ⟨b.hb, 6, none⟩)] 106)).c6
  clear g0 hB hI hL n0 n1 h hl hf
  unfold stepV stepK at HBk
  subst hW
  go_enter Try.func74, Try.ntmps74
  go_wp2_with fail
  refine HBk.out.mono ?_
  rintro e w1 ⟨rfl, v1, hl1, hg1, hk1, hk2⟩
  obtain ⟨i1, d2, hd⟩ := HN.out w1 v1 hl1 hg1 hk1 hk2
  have f5 := i1.fr 6
  have c5 := i1.c6
  have HD := Lib.hid hd
  clear hl1 hg1 hk1 hk2 i1 hd HN HBk d1 d5
  go_wp2_with fail
  go_end0
  exact ⟨rfl, HD.out⟩
set_option maxRecDepth 100000 in
set_option maxHeartbeats 1000000 in
/-- so many are to be left, in a Try -/
theorem keep1_any (b : HB) (ok : b.ok) (s : HS) (n : Nat) (hn : n < 1000) (dp : Nat) (v : Value) (fs : List Step) (w : World) (hf : fs.length < 100000) (h : HeapI b s w) (hl : LogAt b.B b.g (dp + 1) v fs w) : Calls Try.prog 38 #[.pointer (some ⟨b.hb, 0, none⟩), .int .i64 (n : Int)] w fun e w' => e = .returned (.tuple #[]) ∧ Did b.B b.g dp b.S0 (HeapI b) fs 1 s { s with K := (n : Int) } w w' := by
  have HS := Lib.hid (setK_any b ok s n dp v fs w.drew hf h.drew hl.drew')
  have c1 := h.drew.c1
  clear h hl hf
  have hmx : ∀ (ts : Array TypeId) (t : TypeId) (wx : World), (Builtin.max_ ts t #[.int .i64 (n : Int), .int .i64 0]).run Try.prog wx = .ok (.int .i64 (n : Int)) wx := fun ts t wx => run_max2 _ wx ts t _ _ _ (by omega)
  go_enter Try.func38, Try.ntmps38
  refine wp_region_still_tail 9 (by kernel_rfl) (by kernel_rfl) ?_
  change wpStill _ _ (w.drew) (fun a' => wpList _ _ _ _ a' (w.drew)) _ _
  simp only [List.take_succ_cons, List.take_zero, List.drop_succ_cons, List.drop_zero]
  repeat still_step
  refine wpStill_nil ?_
  go_wp2_with fail
  refine HS.out.mono ?_
  rintro e w2 ⟨rfl, hd⟩
  have HD := Lib.hid hd.fromDrew
  clear hd HS
  go_wp2_with fail
  go_end0
  exact ⟨rfl, HD.out⟩
set_option maxRecDepth 100000 in
set_option maxHeartbeats 1000000 in
/-- no room: ErrSpace, and nothing has turned -/
theorem putFull_any (b : HB) (ok : b.ok) (s : HS) (t : ByteArray) (hK : (cnt s.S 0 b.n : Nat) ≤ s.K) (w : World) (h : HeapI b s w) : Calls Try.prog 39 #[.pointer (some ⟨b.hb, 0, none⟩), .string t] w fun e w' => e = failed 8 ∧ Grew (fun _ => False) w w' := by
  obtain ⟨W, hW⟩ : ∃ W, (w.alloc (.cells #[.pointer (some ⟨b.hb, 0, none⟩)] 54)).alloc (.cells #[.string t] 9) = W := ⟨_, rfl⟩
  have g0 : Grew (fun _ => False) w W := by rw [← hW]; exact ((Grew.refl w).alloc _).alloc _
  have hI : HeapI b s W := by rw [← hW]; exact (h.alloc _).alloc _
  have hx : W.heap[w.heap.size]? = some (.cells #[.pointer (some ⟨b.hb, 0, none⟩)] 54) := by
    rw [← hW, Below.heap_alloc _ _ _ (by simp)]
    exact heap_alloc_new w _
  have d1 : W.drew.cell? ⟨w.heap.size, 0, none⟩ = some (.pointer (some ⟨b.hb, 0, none⟩)) := by show W.cell? _ = _; simp [World.cell?, hx]
  have c6 := hI.drew.c6
  have HFree := Lib.hid (hFree_any b ok s W.drew hI.drew)
  have HG0 := Lib.hid g0.drew
  have e1 : decide (((cnt s.S 0 b.n : Nat) : Int) ≤ s.K) = true := decide_eq_true hK
  clear h hI g0 hx
  go_enter Try.func39, Try.ntmps39
  go_upto_region 1 with fail
  refine wp_region_held_drew (S := fun wx => wx.cell? ⟨w.heap.size, 0, none⟩ = some (.pointer (some ⟨b.hb, 0, none⟩)) ∧ wx.cell? ⟨b.hb, 6, none⟩ = some (.int .i64 s.K)) (by kernel_rfl) (And.intro d1 c6) (fun hHeld => ?_)
  refine wpAnyH_take (i := 0) (oi := { dst := some 8, op := Op.load 54 (Operand.tmp 2), type := 54, pos := "heap.go:66", after := #[], guard := none }) (v := ?_) rfl (by kernel_rfl) (by kernel_rfl) (by kernel_rfl) (fun _ _ _ h => h) (Or.inl ⟨by rfl, ?_⟩) (by assumption) ?_
  rotate_left
  · (intro wz hSw; (try dsimp only at hSw); go_simp; try with_reducible rfl)
  try simp only [Act.put, List.setIfInBounds_toArray, List.set_cons_zero, List.set_cons_succ]
  refine wpAnyH_take (i := 2) (oi := { dst := some 10, op := Op.load 54 (Operand.tmp 2), type := 54, pos := "heap.go:66", after := #[], guard := none }) (v := ?_) rfl (by kernel_rfl) (by kernel_rfl) (by kernel_rfl) (fun _ _ _ h => h) (Or.inl ⟨by rfl, ?_⟩) (by assumption) ?_
  rotate_left
  · (intro wz hSw; (try dsimp only at hSw); go_simp; try with_reducible rfl)
  try simp only [Act.put, List.setIfInBounds_toArray, List.set_cons_zero, List.set_cons_succ]
  refine wpAnyH_take (i := 3) (oi := { dst := some 11, op := Op.nilCheck (Operand.tmp 10), type := 0, pos := "heap.go:66", after := #[{ on := 2, ground := Ground.data }], guard := none }) (v := ?_) rfl (by kernel_rfl) (by kernel_rfl) (by kernel_rfl) (fun _ _ _ h => h) (Or.inl ⟨by rfl, ?_⟩) (by assumption) ?_
  rotate_left
  · (intro wz hSw; (try dsimp only at hSw); go_simp; try with_reducible rfl)
  try simp only [Act.put, List.setIfInBounds_toArray, List.set_cons_zero, List.set_cons_succ]
  refine wpAnyH_take (i := 4) (oi := { dst := some 12, op := Op.fieldAddr 118 (Operand.tmp 11) 6, type := 0, pos := "heap.go:66", after := #[{ on := 3, ground := Ground.data }], guard := none }) (v := ?_) rfl (by kernel_rfl) (by kernel_rfl) (by kernel_rfl) (fun _ _ _ h => h) (Or.inl ⟨by rfl, ?_⟩) (by assumption) ?_
  rotate_left
  · (intro wz hSw; (try dsimp only at hSw); go_simp; try with_reducible rfl)
  try simp only [Act.put, List.setIfInBounds_toArray, List.set_cons_zero, List.set_cons_succ]
  refine wpAnyH_take (i := 5) (oi := { dst := some 13, op := Op.load 3 (Operand.tmp 12), type := 3, pos := "heap.go:66", after := #[{ on := 4, ground := Ground.data }], guard := none }) (v := ?_) rfl (by kernel_rfl) (by kernel_rfl) (by kernel_rfl) (fun _ _ _ h => h) (Or.inl ⟨by rfl, ?_⟩) (by assumption) ?_
  rotate_left
  · (intro wz hSw; (try dsimp only at hSw); go_simp; try with_reducible rfl)
  try simp only [Act.put, List.setIfInBounds_toArray, List.set_cons_zero, List.set_cons_succ]
  refine wpAnyH_ready (rs := [1]) (by kernel_rfl) (by simp) ?_
  refine AllReadyH.cons (o := { dst := some 9, op := Op.call { callee := Callee.value (Operand.func 32), args := #[Operand.tmp 8], argTypes := #[54] }, type := 3, pos := "heap.go:66", after := #[{ on := 0, ground := Ground.data }], guard := none }) rfl (fun K hK => ?_) AllReadyH.nil
  go_simp
  refine HFree.out.mono ?_
  rintro e w' ⟨rfl, rfl⟩
  try go_wp2_with fail
  refine hK.out _ _ hHeld (fun hHeld => ?_)
  clear hK K
  try simp only [Act.put, List.setIfInBounds_toArray, List.set_cons_zero, List.set_cons_succ]
  refine wpAnyH_take (i := 6) (oi := { dst := some 14, op := Op.binOp BinOp.leq 3 (Operand.tmp 9) (Operand.tmp 13) 3, type := 4, pos := "heap.go:66", after := #[{ on := 1, ground := Ground.data }, { on := 5, ground := Ground.data }], guard := none }) (v := ?_) rfl (by kernel_rfl) (by kernel_rfl) (by kernel_rfl) (fun _ _ _ h => h) (Or.inl ⟨by rfl, ?_⟩) (by assumption) ?_
  rotate_left
  · (intro wz hSw; (try dsimp only at hSw); go_simp; try with_reducible rfl)
  try simp only [Act.put, List.setIfInBounds_toArray, List.set_cons_zero, List.set_cons_succ]
  refine wpAnyH_done (by kernel_rfl) ?_ _
  have HF := Lib.hid (fail_any 8 W.drew)
  go_wp2_with fail
  refine HF.out.mono ?_
  rintro e w3 ⟨rfl, rfl⟩
  unfold failed
  go_wp2_with fail
  exact ⟨rfl, rfl, HG0.out⟩
end Go.Proofs.Ytemnkffaapljpaa
