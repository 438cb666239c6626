/-
  UndoPlays' world: four cells and a table that a log guards; at, fine and trys, which it doesn't.
-/
import Derived.Test.YtemnkffaapljpaaUPlayGen
namespace Go.Proofs.Ytemnkffaapljpaa
open Go.RowKit Go.Maps Go.ChangeMaps Go.WideShapes
structure US where
  c : Nat → Int
  T : Int → Option Int
def keys4 : List Int := [0, 1, 2, 3]
def upN (c : Nat → Int) (i : Nat) (y : Int) : Nat → Int := fun k => if k = i then y else c k
theorem upN_back (c : Nat → Int) (i : Nat) (y : Int) : upN (upN c i y) i (c i) = c := by
  funext k
  unfold upN
  by_cases h : k = i
  · rw [if_pos h, h]
  · rw [if_neg h, if_neg h]
structure UW (g tb : Nat) (a : Nat) (s : US) (w : World) : Prop where
  cell : ∀ i, i < 4 → w.cell? ⟨g, 2 + i, none⟩ = some (.int .i64 (s.c i))
  tp : w.cell? ⟨g, 6, none⟩ = some (.map (some tb))
  at' : w.cell? ⟨g, 7, none⟩ = some (.int .i64 a)
  fine : w.cell? ⟨g, 8, none⟩ = some (.bool true)
  trys : ∃ t, w.cell? ⟨g, 9, none⟩ = some (.int .i64 t)
  fr : ∀ o, w.frozen? ⟨g, o, none⟩ = false
  tab : Tab (tblII Try.prog) tb s.T keys4 w
  ne : tb ≠ g
def UO (g tb : Nat) (k : Nat) : Prop := k = g ∨ k = tb
theorem UW.lt {g tb a : Nat} {s : US} {w : World} (h : UW g tb a s w) : g < w.heap.size := cell_lt h.tp
theorem UW.keep {g tb a : Nat} {s : US} {S : Nat → Prop} {w w' : World} (h : UW g tb a s w) (k : Grew S w w') (h1 : ¬ S g) (h2 : ¬ S tb) : UW g tb a s w' := by
  have hl := h.lt
  have e : ∀ o, w'.cell? ⟨g, o, none⟩ = w.cell? ⟨g, o, none⟩ := fun o => k.cell (p := ⟨g, o, none⟩) hl h1
  obtain ⟨t, ht⟩ := h.trys
  exact ⟨fun i hi => (e _).trans (h.cell i hi), (e _).trans h.tp, (e _).trans h.at', (e _).trans h.fine, ⟨t, (e _).trans ht⟩, fun o => by rw [k.frozen (p := ⟨g, o, none⟩) hl h1]; exact h.fr o, h.tab.keep k h2, h.ne⟩
theorem UW.alloc {g tb a : Nat} {s : US} {w : World} (h : UW g tb a s w) (o : Obj) : UW g tb a s (w.alloc o) :=
  h.keep ((Grew.refl (S := fun _ => False) w).alloc o) (fun e => e) fun e => e
theorem UW.drew {g tb a : Nat} {s : US} {w : World} (h : UW g tb a s w) : UW g tb a s w.drew :=
  ⟨h.cell, h.tp, h.at', h.fine, h.trys, h.fr, h.tab.block rfl, h.ne⟩
theorem uwTab {g tb : Nat} (hn : tb ≠ g) {F : Int → Option Int} {w : World} (h : Tab (tblII Try.prog) tb F keys4 w) (o : Nat) (x : Value) : Tab (tblII Try.prog) tb F keys4 (w.setCell ⟨g, o, none⟩ x) :=
  h.keep ((Grew.refl (S := fun q => q = g) w).setCell _ _ fun _ => rfl) hn
/-- a cell of the block is set -/
theorem UW.store {g tb a : Nat} {s : US} {w : World} (h : UW g tb a s w) (i : Nat) (hi : i < 4) (y : Int) : UW g tb a { s with c := upN s.c i y } (w.setCell ⟨g, 2 + i, none⟩ (.int .i64 y)) := by
  have o : ∀ j, j ≠ 2 + i → (w.setCell ⟨g, 2 + i, none⟩ (.int .i64 y)).cell? ⟨g, j, none⟩ = w.cell? ⟨g, j, none⟩ := fun j hj => World.cell?_setCell_other _ _ _ _ (by intro e; cases e; exact hj rfl)
  obtain ⟨t, ht⟩ := h.trys
  refine ⟨fun k hk => ?_, (o 6 (by omega)).trans h.tp, (o 7 (by omega)).trans h.at', (o 8 (by omega)).trans h.fine, ⟨t, (o 9 (by omega)).trans ht⟩, fun x => by rw [World.frozen?_setCell]; exact h.fr x, uwTab h.ne h.tab _ _, h.ne⟩
  show World.cell? _ _ = some (Value.int .i64 (upN s.c i y k))
  unfold upN
  by_cases hki : k = i
  · rw [if_pos hki, hki]
    exact World.cell?_setCell_same _ _ _ (h.cell i hi)
  · rw [if_neg hki, o (2 + k) (by omega)]
    exact h.cell k hk
theorem UW.atTo {g tb a : Nat} {s : US} {w : World} (h : UW g tb a s w) (a' : Nat) : UW g tb a' s (w.setCell ⟨g, 7, none⟩ (.int .i64 a')) := by
  have o : ∀ j, j ≠ 7 → (w.setCell ⟨g, 7, none⟩ (.int .i64 a')).cell? ⟨g, j, none⟩ = w.cell? ⟨g, j, none⟩ := fun j hj => World.cell?_setCell_other _ _ _ _ (by intro e; cases e; exact hj rfl)
  obtain ⟨t, ht⟩ := h.trys
  exact ⟨fun k hk => (o (2 + k) (by omega)).trans (h.cell k hk), (o 6 (by omega)).trans h.tp, World.cell?_setCell_same _ _ _ h.at', (o 8 (by omega)).trans h.fine, ⟨t, (o 9 (by omega)).trans ht⟩, fun x => by rw [World.frozen?_setCell]; exact h.fr x, uwTab h.ne h.tab _ _, h.ne⟩
theorem UW.fineTo {g tb a : Nat} {s : US} {w : World} (h : UW g tb a s w) : UW g tb a s (w.setCell ⟨g, 8, none⟩ (.bool true)) := by
  have o : ∀ j, j ≠ 8 → (w.setCell ⟨g, 8, none⟩ (.bool true)).cell? ⟨g, j, none⟩ = w.cell? ⟨g, j, none⟩ := fun j hj => World.cell?_setCell_other _ _ _ _ (by intro e; cases e; exact hj rfl)
  obtain ⟨t, ht⟩ := h.trys
  exact ⟨fun k hk => (o (2 + k) (by omega)).trans (h.cell k hk), (o 6 (by omega)).trans h.tp, (o 7 (by omega)).trans h.at', World.cell?_setCell_same _ _ _ h.fine, ⟨t, (o 9 (by omega)).trans ht⟩, fun x => by rw [World.frozen?_setCell]; exact h.fr x, uwTab h.ne h.tab _ _, h.ne⟩
theorem UW.trysTo {g tb a : Nat} {s : US} {w : World} (h : UW g tb a s w) (t' : Int) : UW g tb a s (w.setCell ⟨g, 9, none⟩ (.int .i64 t')) := by
  have o : ∀ j, j ≠ 9 → (w.setCell ⟨g, 9, none⟩ (.int .i64 t')).cell? ⟨g, j, none⟩ = w.cell? ⟨g, j, none⟩ := fun j hj => World.cell?_setCell_other _ _ _ _ (by intro e; cases e; exact hj rfl)
  obtain ⟨t, ht⟩ := h.trys
  exact ⟨fun k hk => (o (2 + k) (by omega)).trans (h.cell k hk), (o 6 (by omega)).trans h.tp, (o 7 (by omega)).trans h.at', (o 8 (by omega)).trans h.fine, ⟨t', World.cell?_setCell_same _ _ _ ht⟩, fun x => by rw [World.frozen?_setCell]; exact h.fr x, uwTab h.ne h.tab _ _, h.ne⟩
/-- a Back has been: only the log's own cells, and its row, have turned -/
theorem UW.backed {B g tb a dp : Nat} {s : US} {v : Value} {fs : List Step} {w w' : World} (h : UW g tb a s w) (hl : LogAt B g dp v fs w) (hg : Grew (fun q => q = g ∨ v.ownBlock = some q) w w') (hc : ∀ o, ¬ o = 1 → w'.cell? ⟨g, o, none⟩ = w.cell? ⟨g, o, none⟩) (hz : ∀ o, w'.frozen? ⟨g, o, none⟩ = w.frozen? ⟨g, o, none⟩) : UW g tb a s w' := by
  obtain ⟨t, ht⟩ := h.trys
  refine ⟨fun i hi => (hc _ (by omega)).trans (h.cell i hi), (hc _ (by omega)).trans h.tp, (hc _ (by omega)).trans h.at', (hc _ (by omega)).trans h.fine, ⟨t, (hc _ (by omega)).trans ht⟩, fun o => (hz o).trans (h.fr o), h.tab.keep hg ?_, h.ne⟩
  rintro (e | e)
  · exact h.ne e
  · obtain ⟨c, fz, e1⟩ := Lib.ownsRow_kind hl.row tb e
    obtain ⟨D, ⟨es, clock, e2, _⟩, _⟩ := h.tab.own
    rw [e2] at e1
    cases e1
theorem uwLogged (g tb : Nat) (a : Nat) : Logged g (UO g tb) (UW g tb a) where
  own := Or.inl rfl
  set s w o x ho h := by
    have q : ∀ j, 2 ≤ j → (w.setCell ⟨g, o, none⟩ x).cell? ⟨g, j, none⟩ = w.cell? ⟨g, j, none⟩ := fun j hj => World.cell?_setCell_other _ _ _ _ (by intro e; cases e; omega)
    obtain ⟨t, ht⟩ := h.trys
    exact ⟨fun k hk => (q (2 + k) (by omega)).trans (h.cell k hk), (q 6 (by omega)).trans h.tp, (q 7 (by omega)).trans h.at', (q 8 (by omega)).trans h.fine, ⟨t, (q 9 (by omega)).trans ht⟩, fun x => by rw [World.frozen?_setCell]; exact h.fr x, uwTab h.ne h.tab _ _, h.ne⟩
  keep s w w' h k := h.keep k (fun e => e.1 (Or.inl rfl)) fun e => e.1 (Or.inr rfl)
  lt s w k h e := by
    rcases e with e | e
    · rw [e]; exact h.lt
    · rw [e]; exact h.tab.lt
theorem uwAcc (g tb : Nat) (a : Nat) (hn : tb ≠ g) : Acc g (UO g tb) (UW g tb a) (tblII Try.prog) tb keys4 (fun s => s.T) (fun s F => { s with T := F }) where
  tab s w h := h.tab
  upd s w w' F h hT k := by
    have hl := h.lt
    have e : ∀ o, w'.cell? ⟨g, o, none⟩ = w.cell? ⟨g, o, none⟩ := fun o => k.cell (p := ⟨g, o, none⟩) hl fun e => h.ne e.symm
    obtain ⟨t, ht⟩ := h.trys
    exact ⟨fun i hi => (e _).trans (h.cell i hi), (e _).trans h.tp, (e _).trans h.at', (e _).trans h.fine, ⟨t, (e _).trans ht⟩, fun o => by rw [k.frozen (p := ⟨g, o, none⟩) hl fun e => h.ne e.symm]; exact h.fr o, hT, h.ne⟩
  own := Or.inr rfl
  ne := hn
  back _ _ := rfl
  got _ _ := rfl
theorem uo_new {g tb a : Nat} {s : US} {w : World} (h : UW g tb a s w) {k : Nat} (hk : w.heap.size ≤ k) : ¬ UO g tb k := fun e => by
  have := (uwLogged g tb a).lt _ _ _ h e
  omega
/-- Set's own boxes -/
def stepS (x y : Nat) : Step := (125, #[.pointer (some ⟨x, 0, none⟩), .pointer (some ⟨y, 0, none⟩)])
structure SBox (g o x y : Nat) (K : Int) (w : World) : Prop where
  bx : w.heap[x]? = some (.cells #[.int .i64 K] 3)
  by' : w.heap[y]? = some (.cells #[.pointer (some ⟨g, o, none⟩)] 106)
theorem SBox.kept {g tb o x y : Nat} {K : Int} {w w' : World} (h : SBox g o x y K w) (hS : ¬ UO g tb x ∧ ¬ UO g tb y) (k : Kept (UO g tb) w w') : SBox g o x y K w' :=
  ⟨(k x ⟨hS.1, _, _, _, h.bx, by decide, by decide⟩).trans h.bx, (k y ⟨hS.2, _, _, _, h.by', by decide, by decide⟩).trans h.by'⟩
theorem sFront (g o : Nat) (K : Int) (w : World) : SBox g o (w.heap.size + 1) w.heap.size K ((w.alloc (.cells #[.pointer (some ⟨g, o, none⟩)] 106)).alloc (.cells #[.int .i64 K] 3)) := by
  have s1 : (w.alloc (.cells #[.pointer (some ⟨g, o, none⟩)] 106)).heap.size = w.heap.size + 1 := by simp
  refine ⟨?_, ?_⟩
  · have := heap_alloc_new (w.alloc (.cells #[.pointer (some ⟨g, o, none⟩)] 106)) (.cells #[.int .i64 K] 3)
    rw [s1] at this
    exact this
  · rw [Below.heap_alloc _ _ _ (by rw [s1]; omega)]
    exact heap_alloc_new w _
theorem uwCell {B g tb a dp : Nat} {s : US} {v : Value} {fs : List Step} {w : World} (h : UW g tb a s w) (hl : LogAt B g dp v fs w) (i : Nat) (hi : i < 4) : Cell g g (2 + i) (s.c i) w := ⟨h.cell i hi, h.fr _, hl.kind, Or.inr (by omega)⟩
set_option maxRecDepth 100000 in
theorem goodS (B g tb a : Nat) (s s0 : US) (i : Nat) (hi : i < 4) (x y : Nat) (w : World) (hB : SBox g (2 + i) x y (s0.c i) w) (hS : ¬ UO g tb x ∧ ¬ UO g tb y) (h0 : { s with c := upN s.c i (s0.c i) } = s0) : Good B g (UO g tb) (UW g tb a) (stepS x y) s s0 w := by
  refine ⟨fun _ => rfl, fun k => k = x ∨ k = y, ?_, ?_⟩
  · rintro k (rfl | rfl)
    · exact ⟨hS.1, _, _, _, hB.bx, by decide, by decide⟩
    · exact ⟨hS.2, _, _, _, hB.by', by decide, by decide⟩
  · intro wx hx hI
    have p1 := hx x (Or.inl rfl)
    have p2 := hx y (Or.inr rfl)
    rw [hB.bx] at p1
    rw [hB.by'] at p2
    refine (setBack_any x y g (2 + i) (s0.c i) (s.c i) wx (by simp [World.cell?, p1]) (by simp [World.cell?, p2]) (hI.cell i hi) (hI.fr _)).mono ?_
    rintro e w' ⟨rfl, rfl⟩
    have k : Grew (fun q => q = g) wx (wx.setCell ⟨g, 2 + i, none⟩ (.int .i64 (s0.c i))) := (Grew.refl wx).setCell _ _ fun _ => rfl
    refine ⟨rfl, ?_, k.mono fun q _ e => Or.inl (Or.inl e), fun B' dp v fs hl => hl.keepStore (uwCell hI hl i hi) _⟩
    have e := hI.store i hi (s0.c i)
    rw [h0] at e
    exact e
set_option maxRecDepth 100000 in
set_option maxHeartbeats 1000000 in
/-- Set of a cell, in a Try -/
theorem setU1 (B g tb a : Nat) (s : US) (i : Nat) (hi : i < 4) (y : Int) (dp : Nat) (v : Value) (fs : List Step) (w : World) (hf : fs.length < 100000) (hBs : B ≤ w.heap.size) (h : UW g tb a s w) (hl : LogAt B g (dp + 1) v fs w) : Calls Try.prog 74 #[.pointer (some ⟨g, 0, none⟩), .pointer (some ⟨g, 2 + i, none⟩), .int .i64 y] w fun e w' => e = .returned (.tuple #[]) ∧ Ran B g (dp + 1) (UO g tb) (UW g tb) fs 1 a s { s with c := upN s.c i y } w w' := by
  have hmf : ∀ (fn : Fn) (first cap : Array Value) (w : World), (Instr.makeFunc fn first cap).run Try.prog w = .ok (.func fn first cap) w := fun _ _ _ _ => rfl
  obtain ⟨O, hO⟩ : ∃ O, 2 + i = O := ⟨_, rfl⟩
  obtain ⟨W, hW⟩ : ∃ W, (w.alloc (.cells #[.pointer (some ⟨g, O, none⟩)] 106)).alloc (.cells #[.int .i64 (s.c i)] 3) = W := ⟨_, rfl⟩
  have g0 : Grew (fun _ => False) w W := by rw [← hW]; exact ((Grew.refl w).alloc _).alloc _
  have hB : SBox g O (w.heap.size + 1) w.heap.size (s.c i) W := by rw [← hW]; exact sFront g O _ w
  have hI : UW g tb a s W := by rw [← hW]; exact (h.alloc _).alloc _
  have hL : LogAt B g (dp + 1) v fs W := hl.keep g0 (fun e => e) fun _ _ e => e
  have n0 := uo_new h (Nat.le_refl w.heap.size)
  have n1 := uo_new h (Nat.le_succ w.heap.size)
  have HBk := Lib.hid (back_some B g dp v fs (stepS (w.heap.size + 1) w.heap.size) W hL (by omega) (Nat.le_trans hBs g0.size))
  have HN : Hid (∀ w1 v1, LogAt B g (dp + 1) v1 (fs ++ [stepS (w.heap.size + 1) w.heap.size]) w1 → Grew (fun q => q = g ∨ v.ownBlock = some q) W w1 → (∀ o, ¬ o = 1 → w1.cell? ⟨g, o, none⟩ = W.cell? ⟨g, o, none⟩) → (∀ o, w1.frozen? ⟨g, o, none⟩ = W.frozen? ⟨g, o, none⟩) → w1.cell? ⟨g, O, none⟩ = some (.int .i64 (s.c i)) ∧ w1.frozen? ⟨g, O, none⟩ = false ∧ w1.cell? ⟨w.heap.size, 0, none⟩ = some (.pointer (some ⟨g, O, none⟩)) ∧ Ran B g (dp + 1) (UO g tb) (UW g tb) fs 1 a s { s with c := upN s.c i y } w (w1.setCell ⟨g, O, none⟩ (.int .i64 y))) := Lib.hid fun w1 v1 l1 hg hc hz => by
    subst hO
    have i1 := hI.backed hL hg hc hz
    have m1 : Grew (Mut B (UO g tb) W) W w1 := hg.mono fun q _ e => by
      rcases e with e | e
      · exact Or.inl (Or.inl e)
      · exact Or.inr ⟨(hL.row.lt q e).1, Lib.ownsRow_kind hL.row q e⟩
    have m01 : Grew (Mut B (UO g tb) w) w w1 := (g0.mono fun _ _ e => e.elim).thenMut m1
    have hb1 := hB.kept ⟨n1, n0⟩ (Kept.of m1)
    have g2 : Grew (fun q => q = g) w1 (w1.setCell ⟨g, 2 + i, none⟩ (.int .i64 y)) := (Grew.refl w1).setCell _ _ fun _ => rfl
    have m2 : Grew (Mut B (UO g tb) w1) w1 (w1.setCell ⟨g, 2 + i, none⟩ (.int .i64 y)) := g2.mono fun q _ e => Or.inl (Or.inl e)
    have l2 := l1.keepStore (uwCell i1 l1 i hi) (.int .i64 y)
    exact ⟨i1.cell i hi, i1.fr _, by have := hb1.by'; simp [World.cell?, this], Ran.one l2 (i1.store i hi y) (fun j => goodS B g tb j _ s i hi _ _ _ (hb1.kept ⟨n1, n0⟩ (Kept.of m2)) ⟨n1, n0⟩ (by rw [upN_back])) (m01.thenMut m2)⟩
  have d1 : (w.alloc (.cells #[.pointer (some ⟨g, O, none⟩)] 106)).cell? ⟨w.heap.size, 0, none⟩ = some (.pointer (some ⟨g, O, none⟩)) := boxNew rfl
  have d5 : (w.alloc (.cells #[.pointer (some ⟨g, O, none⟩)] 106)).cell? ⟨g, O, none⟩ = some (.int .i64 (s.c i)) := by rw [← hO]; exact (h.alloc _).cell i hi
  clear g0 hB hI hL n0 n1 h hl hf hBs
  rw [hO]
  generalize s.c i = K at *
  unfold stepV stepS at HBk
  subst hW
  clear hO
  go_enter Try.func74, Try.ntmps74
  go_wp2_with fail
  refine HBk.out.mono ?_
  rintro e w1 ⟨rfl, v1, hl1, hg1, hk1, hk2⟩
  obtain ⟨c5, f5, d2, hd⟩ := HN.out w1 v1 hl1 hg1 hk1 hk2
  have HD := Lib.hid hd
  clear hl1 hg1 hk1 hk2 hd HN HBk d1 d5
  go_wp2_with fail
  go_end0
  exact ⟨rfl, HD.out⟩
set_option maxRecDepth 100000 in
set_option maxHeartbeats 1000000 in
/-- and outside of one -/
theorem setU0 (B g tb a : Nat) (s : US) (i : Nat) (hi : i < 4) (y : Int) (v : Value) (w : World) (h : UW g tb a s w) (hl : LogAt B g 0 v [] w) : Calls Try.prog 74 #[.pointer (some ⟨g, 0, none⟩), .pointer (some ⟨g, 2 + i, none⟩), .int .i64 y] w fun e w' => e = .returned (.tuple #[]) ∧ Ran B g 0 (UO g tb) (UW g tb) [] 0 a s { s with c := upN s.c i y } w w' := by
  have hmf : ∀ (fn : Fn) (first cap : Array Value) (w : World), (Instr.makeFunc fn first cap).run Try.prog w = .ok (.func fn first cap) w := fun _ _ _ _ => rfl
  obtain ⟨O, hO⟩ : ∃ O, 2 + i = O := ⟨_, rfl⟩
  obtain ⟨W, hW⟩ : ∃ W, (w.alloc (.cells #[.pointer (some ⟨g, O, none⟩)] 106)).alloc (.cells #[.int .i64 (s.c i)] 3) = W := ⟨_, rfl⟩
  have g0 : Grew (fun _ => False) w W := by rw [← hW]; exact ((Grew.refl w).alloc _).alloc _
  have hB : SBox g O (w.heap.size + 1) w.heap.size (s.c i) W := by rw [← hW]; exact sFront g O _ w
  have hI : UW g tb a s W := by rw [← hW]; exact (h.alloc _).alloc _
  have hL : LogAt B g 0 v [] W := hl.keep g0 (fun e => e) fun _ _ e => e
  have HBk := Lib.hid (back_none B g v [] (stepV (stepS (w.heap.size + 1) w.heap.size)) W hL)
  have m01 : Grew (Mut B (UO g tb) w) w W := g0.mono fun _ _ e => e.elim
  have HD : Hid (Ran B g 0 (UO g tb) (UW g tb) [] 0 a s { s with c := upN s.c i y } w (W.setCell ⟨g, O, none⟩ (.int .i64 y))) := Lib.hid (by
    subst hO
    have g2 : Grew (fun q => q = g) W (W.setCell ⟨g, 2 + i, none⟩ (.int .i64 y)) := (Grew.refl W).setCell _ _ fun _ => rfl
    exact Ran.out (hL.keepStore (uwCell hI hL i hi) _) (hI.store i hi y) (m01.thenMut (g2.mono fun q _ e => Or.inl (Or.inl e))))
  have c5 : W.cell? ⟨g, O, none⟩ = some (.int .i64 (s.c i)) := by rw [← hO]; exact hI.cell i hi
  have f5 : W.frozen? ⟨g, O, none⟩ = false := hI.fr _
  have d2 : W.cell? ⟨w.heap.size, 0, none⟩ = some (.pointer (some ⟨g, O, none⟩)) := by have := hB.by'; simp [World.cell?, this]
  have d1 : (w.alloc (.cells #[.pointer (some ⟨g, O, none⟩)] 106)).cell? ⟨w.heap.size, 0, none⟩ = some (.pointer (some ⟨g, O, none⟩)) := boxNew rfl
  have d5 : (w.alloc (.cells #[.pointer (some ⟨g, O, none⟩)] 106)).cell? ⟨g, O, none⟩ = some (.int .i64 (s.c i)) := by rw [← hO]; exact (h.alloc _).cell i hi
  clear g0 hB hI hL h hl m01
  rw [hO]
  generalize s.c i = K at *
  unfold stepV stepS at HBk
  clear hO
  obtain ⟨W', hW'⟩ : ∃ W', W' = W := ⟨_, rfl⟩
  subst hW
  go_enter Try.func74, Try.ntmps74
  go_wp2_with fail
  refine HBk.out.mono ?_
  rintro e w1 ⟨rfl, rfl⟩
  rw [← hW'] at c5 f5 d2 HD ⊢
  clear d1 d5 HBk hW'
  go_wp2_with fail
  go_end0
  exact ⟨rfl, HD.out⟩
end Go.Proofs.Ytemnkffaapljpaa
