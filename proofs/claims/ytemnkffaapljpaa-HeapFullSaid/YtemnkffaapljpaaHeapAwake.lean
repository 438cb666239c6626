/-
  Law 10's awake: contract.
-/
import Derived.Test.YtemnkffaapljpaaHeapAw1
import Derived.LaidEqlPtr
namespace Go.Proofs.Ytemnkffaapljpaa
open Go.RowKit Go.Maps Go.ChangeMaps Go.WideShapes

theorem awC_fin (b : HB) (hbf : b.f = 2) : (awC.fin b).S = fun i => if 2 + i ∈ [2] then 0 else awC.S i := by
  funext i
  show (if b.f + i ∈ awC.G.take awC.G.length then 0 else awC.S i) = _
  rw [hbf]
  rfl
theorem awC_gone (b : HB) (hbf : b.f = 2) (hbn : b.n = 4) : GoneOk b awC where
  all := fun x hx => ⟨0, by omega, by rw [hbf]; simpa [awC, awB, HS.put, HS.letYoung, awA, HS.new] using hx, by decide⟩
  nd := by decide
  len := by decide
/-- what awake asks of the heap in the end -/
structure AwEnd (b : HB) (hx ax gx bx : Nat) (w : World) : Prop where
  c1 : w.cell? ⟨hx, 0, none⟩ = some (.pointer (some ⟨b.hb, 0, none⟩))
  c2 : w.cell? ⟨ax, 0, none⟩ = some (.int .i64 2)
  c3 : w.cell? ⟨gx, 0, none⟩ = some (.bool true)
  c4 : w.cell? ⟨bx, 0, none⟩ = some (.int .i64 3)
  free : Calls Try.prog 32 #[.pointer (some ⟨b.hb, 0, none⟩)] w fun e w' => e = .returned (.int .i64 3) ∧ w = w'
  refs : Calls Try.prog 30 #[.pointer (some ⟨b.hb, 0, none⟩), .int .i64 3] w fun e w' => e = .returned (.int .i64 1) ∧ w = w'
  held : Calls Try.prog 31 #[.pointer (some ⟨b.hb, 0, none⟩)] w fun e w' => e = .returned (.int .i64 1) ∧ w = w'
/-- awake's boxes, made -/
theorem aw_boxes (b : HB) (w2 W : World) (hW : (((w2.alloc (.cells #[.pointer (some ⟨b.hb, 0, none⟩)] 54)).alloc (.cells #[.int .i64 0] 3)).alloc (.cells #[.int .i64 0] 3)).alloc (.cells #[.bool false] 4) = W) : W.heap.size = w2.heap.size + 4 ∧ Grew (fun _ => False) w2 W ∧ Box w2.heap.size 54 (.pointer (some ⟨b.hb, 0, none⟩)) W ∧ Box (w2.heap.size + 1) 3 (.int .i64 0) W ∧ Box (w2.heap.size + 1 + 1) 3 (.int .i64 0) W ∧ Box (w2.heap.size + 1 + 1 + 1) 4 (.bool false) W := by
  have s1 : (w2.alloc (.cells #[.pointer (some ⟨b.hb, 0, none⟩)] 54)).heap.size = w2.heap.size + 1 := by simp
  have s2 : ((w2.alloc (.cells #[.pointer (some ⟨b.hb, 0, none⟩)] 54)).alloc (.cells #[.int .i64 0] 3)).heap.size = w2.heap.size + 2 := by simp
  have s3 : (((w2.alloc (.cells #[.pointer (some ⟨b.hb, 0, none⟩)] 54)).alloc (.cells #[.int .i64 0] 3)).alloc (.cells #[.int .i64 0] 3)).heap.size = w2.heap.size + 3 := by simp
  have s4 : W.heap.size = w2.heap.size + 4 := by rw [← hW]; simp
  have gW : Grew (fun _ => False) w2 W := by rw [← hW]; exact ((((Grew.refl w2).alloc _).alloc _).alloc _).alloc _
  have x1 := Box.new w2 54 (.pointer (some ⟨b.hb, 0, none⟩))
  have x2 := Box.new (w2.alloc (.cells #[.pointer (some ⟨b.hb, 0, none⟩)] 54)) 3 (.int .i64 0)
  have x3 := Box.new ((w2.alloc (.cells #[.pointer (some ⟨b.hb, 0, none⟩)] 54)).alloc (.cells #[.int .i64 0] 3)) 3 (.int .i64 0)
  have x4 := Box.new (((w2.alloc (.cells #[.pointer (some ⟨b.hb, 0, none⟩)] 54)).alloc (.cells #[.int .i64 0] 3)).alloc (.cells #[.int .i64 0] 3)) 4 (.bool false)
  rw [s1] at x2
  rw [s2] at x3
  rw [s3] at x4
  have y1 : Box w2.heap.size 54 (.pointer (some ⟨b.hb, 0, none⟩)) W := by rw [← hW]; exact ((x1.keepAlloc _).keepAlloc _).keepAlloc _
  have y2 : Box (w2.heap.size + 1) 3 (.int .i64 0) W := by rw [← hW]; exact (x2.keepAlloc _).keepAlloc _
  have y3 : Box (w2.heap.size + 2) 3 (.int .i64 0) W := by rw [← hW]; exact x3.keepAlloc _
  have y4 : Box (w2.heap.size + 3) 4 (.bool false) W := by rw [← hW]; exact x4
  exact ⟨s4, gW, y1, y2, y3, y4⟩
set_option maxRecDepth 100000 in
/-- awake's Try -/
theorem aw_try (M : DiskM) (w w1 w2 : World) (b : HB) (hM : NewOf 6 w M w1) (ok : b.ok) (hbf : b.f = 2) (hbn : b.n = 4) (hbd : b.d = M.d) (hI : HeapI b HS.new w2) (hL : LogAt b.B b.g 0 (.slice none 0 0) [] w2) (hg : Grew (fun _ => False) w1 w2) (hB : b.B ≤ w2.heap.size) (hfr : ∀ i, i < 6 → w1.heap.size ≤ b.blk i) (hbs : b.bs = M.bs) (hbt : b.bt = M.bt)
    (W : World) (s4 : W.heap.size = w2.heap.size + 4) (gW : Grew (fun _ => False) w2 W) (y1 : Box w2.heap.size 54 (.pointer (some ⟨b.hb, 0, none⟩)) W) (y2 : Box (w2.heap.size + 1) 3 (.int .i64 0) W) (y3 : Box (w2.heap.size + 1 + 1) 3 (.int .i64 0) W) (y4 : Box (w2.heap.size + 1 + 1 + 1) 4 (.bool false) W) :
    Calls Try.prog 33 #[.pointer (some ⟨b.hb, 0, none⟩), .func (.func 81) #[] #[.pointer (some ⟨w2.heap.size, 0, none⟩), .pointer (some ⟨w2.heap.size + 1, 0, none⟩), .pointer (some ⟨w2.heap.size + 1 + 1 + 1, 0, none⟩), .pointer (some ⟨w2.heap.size + 1 + 1, 0, none⟩)]] W fun e w' => e = .returned (.int .i64 0) ∧ AwEnd b w2.heap.size (w2.heap.size + 1) (w2.heap.size + 1 + 1 + 1) (w2.heap.size + 1 + 1) w' ∧ Below w.heap.size w w' := by
  obtain ⟨b', hb'⟩ : ∃ b' : HB, ({ b with B := w2.heap.size + 4 } : HB) = b' := ⟨_, rfl⟩
  have ok' : b'.ok := by rw [← hb']; exact HB.ok_at ok _ (by omega)
  have f' : b'.f = 2 := by rw [← hb']; exact hbf
  have n' : b'.n = 4 := by rw [← hb']; exact hbn
  have p' : b'.hb = b.hb := by rw [← hb']
  have B' : b'.B = w2.heap.size + 4 := by rw [← hb']
  have hS0 : ∀ k, b'.S0 k → b.S0 k := fun k hk => by
    obtain ⟨i, hi, rfl⟩ := hk
    rw [← hb']
    exact ⟨i, hi, b.blk_at _ i hi⟩
  have iW : HeapI b HS.new W := hI.keep gW (fun _ _ e => e) fun _ _ _ e => e
  have iW' : HeapI b' HS.new W := by rw [← hb']; exact iW.rebase rfl _ (by omega)
  have lW : LogAt b'.B b'.g 0 (.slice none 0 0) [] W := by
    rw [← hb']
    exact (hL.keep gW (fun e => e) fun _ _ e => e).rebase _
  have hsz1 : w.heap.size ≤ w1.heap.size := (hM.grew fun _ => False).size
  have hsz2 : w1.heap.size ≤ w2.heap.size := hg.size
  have P : AwP b' w2.heap.size (w2.heap.size + 1) (w2.heap.size + 1 + 1 + 1) (w2.heap.size + 1 + 1) W.heap.size w.heap.size := by
    refine ⟨fun k hk hS => HB.not0 ok hB (x := k) (by omega) (hS0 k hS), by omega, by omega, by omega, by omega, fun k hk => ?_⟩
    obtain ⟨i, hi, rfl⟩ := hS0 k hk
    by_cases h6 : i < 6
    · exact Nat.le_trans hsz1 (hfr i h6)
    · have h9 : i = 6 ∨ i = 7 ∨ i = 8 := by omega
      rcases h9 with rfl | rfl | rfl
      · exact hM.fresh _ (Or.inl hbd)
      · exact hM.fresh _ (Or.inr (Or.inl hbs))
      · exact hM.fresh _ (Or.inr (Or.inr hbt))
  have gT := tryWorld_grew b'.g 0 W
  have hgS : b'.S0 b'.g := ⟨1, by decide, rfl⟩
  have bT : ∀ {x : Nat} {t : TypeId} {v : Value}, Box x t v W → ¬ b'.S0 x → Box x t v (tryWorld b'.g 0 W) := fun h hs => h.keep gT fun e => hs (e ▸ hgS)
  rw [← p']
  refine (hTryOk b' ok' HS.new W iW' lW 81 _ (fun s1 w' => s1 = awC ∧ Aw b' w2.heap.size (w2.heap.size + 1) (w2.heap.size + 1 + 1 + 1) (w2.heap.size + 1 + 1) W.heap.size 2 true 3 w' ∧ Grew (fun k => w.heap.size ≤ k) (tryWorld b'.g 0 W) w') (fun _ => by rfl) fun hin => ?_).mono ?_
  · have hA : Aw b' w2.heap.size (w2.heap.size + 1) (w2.heap.size + 1 + 1 + 1) (w2.heap.size + 1 + 1) W.heap.size 0 false 0 (tryWorld b'.g 0 W) :=
      ⟨bT (by rw [p']; exact y1) (P.s _ (by simp)), bT y2 (P.s _ (by simp)), bT y4 (P.s _ (by simp)), bT y3 (P.s _ (by simp)), tryWorld_box b'.g 0 W⟩
    refine (aw1_any b' ok' f' n' _ _ _ _ _ _ P _ hin hA).mono ?_
    rintro e w' ⟨rfl, hi, hA', hgr⟩
    exact ⟨awC, 10, rfl, hi, awC_gone b' f' n', hA'.be, rfl, hA', hgr⟩
  · rintro e w' ⟨s1, w5, rfl, ⟨rfl, hA, hgr⟩, hI6, _, g6⟩
    have q : ∀ {x : Nat} {t : TypeId} {v : Value}, Box x t v w5 → ¬ b'.S0 x → x ≠ W.heap.size → Box x t v w' := fun h hs hn => h.keep g6 fun e => e.elim hs hn
    have z1 := q hA.bh (P.s _ (by simp)) (by omega)
    have z2 := q hA.ba (P.s _ (by simp)) (by omega)
    have z3 := q hA.bg (P.s _ (by simp)) (by omega)
    have z4 := q hA.bb (P.s _ (by simp)) (by omega)
    have hF := hFree_any b' ok' _ w' hI6
    have hH := hHeld_any b' ok' _ w' hI6
    have hR := hRefs_any b' _ 3 (by decide) w' hI6
    rw [awC_fin b' f', n', show cnt (fun i => if 2 + i ∈ [2] then 0 else awC.S i) 0 4 = 3 by decide] at hF
    rw [awC_fin b' f', n', show cnt (fun i => if 2 + i ∈ [2] then 0 else awC.S i) 1 4 = 1 by decide] at hH
    refine ⟨rfl, ⟨by rw [← p']; exact z1.cell, z2.cell, z3.cell, z4.cell, by rw [← p']; exact hF, by rw [← p']; exact hR, by rw [← p']; exact hH⟩, ?_⟩
    have k1 : Grew (fun k => w.heap.size ≤ k) w W := ((hM.grew _).trans (hg.mono fun _ _ e => e.elim)).trans (gW.mono fun _ _ e => e.elim)
    have k2 : Grew (fun k => w.heap.size ≤ k) w w' := ((k1.trans (gT.mono fun x _ e => by rw [e]; exact P.own _ hgS)).trans hgr).trans (g6.mono fun x _ e => by
      rcases e with e | e
      · exact P.own x e
      · omega)
    exact k2.below (Below.refl _ w) (Nat.le_refl _) fun _ e => e
theorem disk_neq_same (a : Addr) (w : World) : (binOp .neq 52 (.pointer (some a)) (.pointer (some a))).run Try.prog w = .ok (.bool false) w := by
  obtain ⟨j, hj⟩ : ∃ j, Try.prog.info? 121 = some j := Option.isSome_iff_exists.1 (by kernel_rfl)
  have h : ∀ d : Nat, (Op.equalIn (d + 1) 52 (.pointer (some a)) (.pointer (some a))).run Try.prog w = .ok true w := fun d => by
    simp [Op.equalIn, run_underlying Try.underlying52, sizeOf, typeInfo, hj, run_sameAddr_same]
  simp only [binOp]
  simp [Op.equal, Op.maxDepth, h 9999]
set_option maxRecDepth 100000 in
set_option maxHeartbeats 1000000 in
theorem heapAwake (w : World) : Calls Try.prog 24 #[] w fun e w' => e = .returned (.bool true) ∧ Below w.heap.size w w' := by
  have hmf : ∀ (fn : Fn) (first cap : Array Value) (w : World), (Instr.makeFunc fn first cap).run Try.prog w = .ok (.func fn first cap) w := fun _ _ _ _ => rfl
  go_enter Try.func24, Try.ntmps24
  go_wp2_with fail
  refine (new_any 6 w).mono ?_
  rintro e w1 ⟨M, rfl, hM⟩
  have hn : M.n = 2 + 4 ∧ M.armed = false ∧ M.dead = false ∧ M.left ≤ 2 ^ 62 := by
    obtain ⟨d, bs, bt, e⟩ := hM.is
    rw [e]
    exact ⟨by show diskLen 6 = 6; decide, rfl, rfl, by show (0 : Int) ≤ 2 ^ 62; decide⟩
  have HNew : Hid (Calls Try.prog 26 #[.pointer (some ⟨M.d, 0, none⟩), .int .i64 2] w1 fun e w' => ∃ b : HB, e = .returned (.pointer (some ⟨b.hb, 0, none⟩)) ∧ b.ok ∧ b.f = 2 ∧ b.n = 4 ∧ b.d = M.d ∧ HeapI b HS.new w' ∧ LogAt b.B b.g 0 (.slice none 0 0) [] w' ∧ Grew (fun _ => False) w1 w' ∧ b.B ≤ w'.heap.size ∧ (∀ i, i < 6 → w1.heap.size ≤ b.blk i) ∧ b.bs = M.bs ∧ b.bt = M.bt) := Lib.hid (hNew_any M 2 4 w1 (by decide) (by decide) hM.at' hn.1 hn.2.1 hn.2.2.1 hn.2.2.2)
  have HM := Lib.hid hM
  clear hM hn
  go_wp2_with fail
  refine HNew.out.mono ?_
  rintro e w2 ⟨b, rfl, ok, hbf, hbn, hbd, hI, hL, hg, hB, hfr, hbs, hbt⟩
  have i3 := hI.alloc (.cells #[.pointer (some ⟨b.hb, 0, none⟩)] 54)
  have c0 := i3.c0
  rw [hbd] at c0
  have c1 := i3.c1
  have d1 : (w2.alloc (.cells #[.pointer (some ⟨b.hb, 0, none⟩)] 54)).cell? ⟨w2.heap.size, 0, none⟩ = some (.pointer (some ⟨b.hb, 0, none⟩)) := boxNew rfl
  obtain ⟨W, hW⟩ : ∃ W, (((w2.alloc (.cells #[.pointer (some ⟨b.hb, 0, none⟩)] 54)).alloc (.cells #[.int .i64 0] 3)).alloc (.cells #[.int .i64 0] 3)).alloc (.cells #[.bool false] 4) = W := ⟨_, rfl⟩
  obtain ⟨s4, gW, y1, y2, y3, y4⟩ := aw_boxes b w2 W hW
  obtain ⟨V, hV⟩ : ∃ V, ((W.setCell ⟨w2.heap.size + 1, 0, none⟩ (.int .i64 0)).setCell ⟨w2.heap.size + 1 + 1, 0, none⟩ (.int .i64 0)).setCell ⟨w2.heap.size + 1 + 1 + 1, 0, none⟩ (.bool false) = V := ⟨_, rfl⟩
  have v1 : Box w2.heap.size 54 (.pointer (some ⟨b.hb, 0, none⟩)) V := by rw [← hV]; exact ((y1.keepSet _ _ _ (by omega)).keepSet _ _ _ (by omega)).keepSet _ _ _ (by omega)
  have HTr := Lib.hid (aw_try M w w1 w2 b HM.out ok hbf hbn hbd hI hL hg hB hfr hbs hbt V (by rw [← hV]; simpa [World.setCell] using s4) (by rw [← hV]; exact ((gW.setCell _ _ (fun e => absurd e (by show ¬ w2.heap.size + 1 < _; omega))).setCell _ _ (fun e => absurd e (by show ¬ w2.heap.size + 1 + 1 < _; omega))).setCell _ _ (fun e => absurd e (by show ¬ w2.heap.size + 1 + 1 + 1 < _; omega))) v1
    (by rw [← hV]; exact ((y2.set _).keepSet _ _ _ (by omega)).keepSet _ _ _ (by omega)) (by rw [← hV]; exact ((y3.keepSet _ _ _ (by omega)).set _).keepSet _ _ _ (by omega)) (by rw [← hV]; exact ((y4.keepSet _ _ _ (by omega)).keepSet _ _ _ (by omega)).set _))
  have d2 := v1.cell
  have q1 := y2.cell
  have q2 := y2.free
  have q3 : (W.setCell ⟨w2.heap.size + 1, 0, none⟩ (.int .i64 0)).cell? ⟨w2.heap.size + 1 + 1, 0, none⟩ = some (.int .i64 0) := (y3.keepSet _ _ _ (by omega)).cell
  have q4 : (W.setCell ⟨w2.heap.size + 1, 0, none⟩ (.int .i64 0)).frozen? ⟨w2.heap.size + 1 + 1, 0, none⟩ = false := (y3.keepSet _ _ _ (by omega)).free
  have q5 : ((W.setCell ⟨w2.heap.size + 1, 0, none⟩ (.int .i64 0)).setCell ⟨w2.heap.size + 1 + 1, 0, none⟩ (.int .i64 0)).cell? ⟨w2.heap.size + 1 + 1 + 1, 0, none⟩ = some (.bool false) := ((y4.keepSet _ _ _ (by omega)).keepSet _ _ _ (by omega)).cell
  have q6 : ((W.setCell ⟨w2.heap.size + 1, 0, none⟩ (.int .i64 0)).setCell ⟨w2.heap.size + 1 + 1, 0, none⟩ (.int .i64 0)).frozen? ⟨w2.heap.size + 1 + 1 + 1, 0, none⟩ = false := ((y4.keepSet _ _ _ (by omega)).keepSet _ _ _ (by omega)).free
  have hne := fun wz => disk_neq_same ⟨M.d, 0, none⟩ wz
  clear HM HNew ok hbf hbn hbd hI hL hg hB hfr hbs hbt i3 s4 gW y1 y2 y3 y4 v1
  go_wp2_with fail
  refine HTr.out.mono ?_
  rintro e w3 ⟨rfl, hE, hB3⟩
  have HB3 := Lib.hid hB3
  have h1 := hE.c1
  have h2 := hE.c2
  have h3 := hE.c3
  have h4 := hE.c4
  have HFr := Lib.hid hE.free
  have HRe := Lib.hid hE.refs
  have HHe := Lib.hid hE.held
  clear hE hB3 HTr c0 c1 d1 d2 hne q1 q2 q3 q4 q5 q6
  go_wp2_with fail
  refine HFr.out.mono ?_
  rintro e w' ⟨rfl, rfl⟩
  go_wp2_with fail
  refine HRe.out.mono ?_
  rintro e w' ⟨rfl, rfl⟩
  go_wp2_with fail
  refine HHe.out.mono ?_
  rintro e w' ⟨rfl, rfl⟩
  go_wp2_with fail
  go_ret
  exact ⟨rfl, HB3.out⟩
end Go.Proofs.Ytemnkffaapljpaa
