/-
  Texts put together: Heap, HeapFn, HeapAd, HeapStep, HeapLess, HeapLet, HeapLast, HeapTry, HeapGone.
-/
import Derived.Test.YtbohpffigmllkaaGreatDoorTabs
import Derived.Test.YtbohpffigmllkaaGreatDoorDiskNews
import Derived.Test.YtbohpffigmllkaaGreatDoorGrantsG
import Derived.StillTailTactics
/-
  A heap in memory, as a value: what it has, what stays.
-/
namespace Go.Proofs.YtbohpffigmllkaaGreatDoor
open Go.RowKit Go.Maps Go.ChangeMaps Go.WideShapes

/-- where a heap lies: its blocks, all below B; its sectors: n of them, from f on -/
structure HB where
  hb : Nat
  g : Nat
  m : Nat
  q : Nat
  rb : Nat
  yb : Nat
  d : Nat
  bs : Nat
  bt : Nat
  f : Nat
  n : Nat
  B : Nat
  T : Nat → UInt8
def HB.blk (b : HB) : Nat → Nat
  | 0 => b.hb
  | 1 => b.g
  | 2 => b.m
  | 3 => b.q
  | 4 => b.rb
  | 5 => b.yb
  | 6 => b.d
  | 7 => b.bs
  | _ => b.bt
structure HB.ok (b : HB) : Prop where
  nd : ∀ i j, i < 9 → j < 9 → i ≠ j → b.blk i ≠ b.blk j
  lt : ∀ i, i < 9 → b.blk i < b.B
  f : b.f ≤ 2048
  n : b.n ≤ 2048
def HB.S0 (b : HB) (k : Nat) : Prop := ∃ i, i < 9 ∧ k = b.blk i
def HB.keys (b : HB) : List Int := (List.range b.n).map fun i => ((b.f + i : Nat) : Int)
theorem HB.keys_len (b : HB) : b.keys.length = b.n := by simp [HB.keys]
theorem HB.keys_mem (b : HB) (i : Nat) (h : i < b.n) : ((b.f + i : Nat) : Int) ∈ b.keys := List.mem_map.2 ⟨i, List.mem_range.2 h, rfl⟩
/-- what a heap has: each sector's state, how many want it, who is young, who is gone, how many are to be left -/
structure HS where
  S : Nat → Nat
  R : Int → Option Int
  Y : Int → Option Unit
  G : List Nat
  K : Int
def intsG (l : List Nat) : List Value := l.map fun x : Nat => .int .i64 ((x : Nat) : Int)
structure HeapI (b : HB) (s : HS) (w : World) : Prop where
  c0 : w.cell? ⟨b.hb, 0, none⟩ = some (.pointer (some ⟨b.d, 0, none⟩))
  c1 : w.cell? ⟨b.hb, 1, none⟩ = some (.pointer (some ⟨b.g, 0, none⟩))
  c2 : w.cell? ⟨b.hb, 2, none⟩ = some (.pointer (some ⟨b.m, 0, none⟩))
  c3 : w.cell? ⟨b.hb, 3, none⟩ = some (.map (some b.rb))
  c4 : w.cell? ⟨b.hb, 4, none⟩ = some (.map (some b.yb))
  c5 : ∃ v, w.cell? ⟨b.hb, 5, none⟩ = some v ∧ w.ownsRow b.B 3 1 v s.G.length (intsG s.G)
  c6 : w.cell? ⟨b.hb, 6, none⟩ = some (.int .i64 s.K)
  fr : ∀ o, w.frozen? ⟨b.hb, o, none⟩ = false
  gr : MapAt b.m b.q b.f b.n s.S w
  rf : Tab (tblII Tryz.prog) b.rb s.R b.keys w
  yg : Tab (tblIU Tryz.prog) b.yb s.Y b.keys w
  dk : ∃ M : DiskM, DiskAt M w ∧ M.d = b.d ∧ M.bs = b.bs ∧ M.bt = b.bt ∧ M.n = b.f + b.n ∧ M.armed = false ∧ M.dead = false ∧ M.left ≤ 2 ^ 62 ∧ M.T = b.T
  sz : b.B ≤ w.heap.size
  kd : other b.hb w
  nl : s.G = [] → w.cell? ⟨b.hb, 5, none⟩ = some (.slice none 0 0)
theorem ownInt_keep {w w' : World} {S : Nat → Prop} {B n : Nat} {e : TypeId} {v : Value} {xs : List Value} (h : w.ownsRow B e 1 v n xs) (g : Grew S w w') (hS : ∀ k, v.ownBlock = some k → ¬ S k) : w'.ownsRow B e 1 v n xs := by
  rcases h.2 with ⟨rfl, h0⟩ | ⟨b, cap, cur, rfl, a1, a2, a3, a4, a5, a6⟩
  · exact ⟨h.1, Or.inl ⟨rfl, h0⟩⟩
  · have hlt : b < w.heap.size := by
      rcases Nat.lt_or_ge b w.heap.size with e | e
      · exact e
      · rw [Array.getElem?_eq_none e] at a2; cases a2
    exact ⟨h.1, Or.inr ⟨b, cap, cur, rfl, a1, (g.block b hlt (hS b rfl)).trans a2, a3, a4, a5, a6⟩⟩
section
variable {b : HB} {s : HS} {w w' : World}
theorem HeapI.hlt (h : HeapI b s w) : b.hb < w.heap.size := cell_lt h.c0
/-- what leaves all of the heap's blocks and the gone ones' row alone -/
theorem HeapI.keep {T : Nat → Prop} (h : HeapI b s w) (k : Grew T w w') (h0 : ∀ i, i < 9 → ¬ T (b.blk i)) (h1 : ∀ r, b.B ≤ r → (∃ c fz, w.heap[r]? = some (.cells c 3 fz)) → ¬ T r) : HeapI b s w' := by
  have hh := h.hlt
  have c : ∀ o, w'.cell? ⟨b.hb, o, none⟩ = w.cell? ⟨b.hb, o, none⟩ := fun o => k.cell (p := ⟨b.hb, o, none⟩) hh (h0 0 (by decide))
  obtain ⟨v, e5, ho⟩ := h.c5
  obtain ⟨M, hM, m1, m2, m3, r⟩ := h.dk
  refine ⟨(c 0).trans h.c0, (c 1).trans h.c1, (c 2).trans h.c2, (c 3).trans h.c3, (c 4).trans h.c4, ⟨v, (c 5).trans e5, ownInt_keep ho k fun q hq => h1 q (ho.lt q hq).1 (Lib.ownsRow_kind ho q hq)⟩, (c 6).trans h.c6, fun o => by rw [k.frozen (p := ⟨b.hb, o, none⟩) hh (h0 0 (by decide))]; exact h.fr o, h.gr.keep k (h0 2 (by decide)) (h0 3 (by decide)), h.rf.keep k (h0 4 (by decide)), h.yg.keep k (h0 5 (by decide)), ⟨M, hM.kept k (by rw [m1]; exact h0 6 (by decide)) (by rw [m2]; exact h0 7 (by decide)) (by rw [m3]; exact h0 8 (by decide)), m1, m2, m3, r⟩, Nat.le_trans h.sz k.size, h.kd.block (k.block b.hb hh (h0 0 (by decide))), fun e => (c 5).trans (h.nl e)⟩
/-- all but what lies in one of the heap's blocks -/
structure HeapBut (j : Nat) (b : HB) (s : HS) (w : World) : Prop where
  c : j ≠ 0 → (w.cell? ⟨b.hb, 0, none⟩ = some (.pointer (some ⟨b.d, 0, none⟩)) ∧ w.cell? ⟨b.hb, 1, none⟩ = some (.pointer (some ⟨b.g, 0, none⟩)) ∧ w.cell? ⟨b.hb, 2, none⟩ = some (.pointer (some ⟨b.m, 0, none⟩)) ∧ w.cell? ⟨b.hb, 3, none⟩ = some (.map (some b.rb)) ∧ w.cell? ⟨b.hb, 4, none⟩ = some (.map (some b.yb)) ∧ w.cell? ⟨b.hb, 6, none⟩ = some (.int .i64 s.K) ∧ (∀ o, w.frozen? ⟨b.hb, o, none⟩ = false) ∧ (∃ v, w.cell? ⟨b.hb, 5, none⟩ = some v ∧ w.ownsRow b.B 3 1 v s.G.length (intsG s.G)))
  gr : j ≠ 2 → j ≠ 3 → MapAt b.m b.q b.f b.n s.S w
  rf : j ≠ 4 → Tab (tblII Tryz.prog) b.rb s.R b.keys w
  yg : j ≠ 5 → Tab (tblIU Tryz.prog) b.yb s.Y b.keys w
  dk : j < 6 → ∃ M : DiskM, DiskAt M w ∧ M.d = b.d ∧ M.bs = b.bs ∧ M.bt = b.bt ∧ M.n = b.f + b.n ∧ M.armed = false ∧ M.dead = false ∧ M.left ≤ 2 ^ 62 ∧ M.T = b.T
  sz : b.B ≤ w.heap.size
  kd : j ≠ 0 → other b.hb w
  nl : j ≠ 0 → s.G = [] → w.cell? ⟨b.hb, 5, none⟩ = some (.slice none 0 0)
theorem HeapI.but (h : HeapI b s w) (ok : b.ok) {j : Nat} (hj : j < 9) (k : Grew (fun q => q = b.blk j) w w') : HeapBut j b s w' := by
  have hh := h.hlt
  have ne : ∀ i, i < 9 → i ≠ j → ¬ b.blk i = b.blk j := fun i hi e => ok.nd i j hi hj e
  obtain ⟨v, e5, ho⟩ := h.c5
  obtain ⟨M, hM, m1, m2, m3, r⟩ := h.dk
  refine ⟨fun hj0 => ?_, fun a1 a2 => h.gr.keep k (ne 2 (by decide) fun e => a1 e.symm) (ne 3 (by decide) fun e => a2 e.symm), fun a => h.rf.keep k (ne 4 (by decide) fun e => a e.symm), fun a => h.yg.keep k (ne 5 (by decide) fun e => a e.symm), fun a => ⟨M, hM.kept k (by rw [m1]; exact ne 6 (by decide) (by omega)) (by rw [m2]; exact ne 7 (by decide) (by omega)) (by rw [m3]; exact ne 8 (by decide) (by omega)), m1, m2, m3, r⟩, Nat.le_trans h.sz k.size, fun a => h.kd.block (k.block b.hb hh (ne 0 (by decide) fun e => a e.symm)), fun a e => (k.cell (p := ⟨b.hb, 5, none⟩) hh (ne 0 (by decide) fun e => a e.symm)).trans (h.nl e)⟩
  have h0 := ne 0 (by decide) fun e => hj0 e.symm
  have c : ∀ o, w'.cell? ⟨b.hb, o, none⟩ = w.cell? ⟨b.hb, o, none⟩ := fun o => k.cell (p := ⟨b.hb, o, none⟩) hh h0
  exact ⟨(c 0).trans h.c0, (c 1).trans h.c1, (c 2).trans h.c2, (c 3).trans h.c3, (c 4).trans h.c4, (c 6).trans h.c6, fun o => by rw [k.frozen (p := ⟨b.hb, o, none⟩) hh h0]; exact h.fr o, v, (c 5).trans e5, ownInt_keep ho k fun q hq e => by
    have h1 := (ho.lt q hq).1
    have h2 := ok.lt j hj
    omega⟩
theorem HeapI.refs (h : HeapI b s w) (ok : b.ok) {F : Int → Option Int} (hT : Tab (tblII Tryz.prog) b.rb F b.keys w') (k : Grew (fun q => q = b.rb) w w') : HeapI b { s with R := F } w' := by
  have u := h.but ok (j := 4) (by decide) k
  obtain ⟨d0, d1, d2, d3, d4, d6, fr, d5⟩ := u.c (by decide)
  exact ⟨d0, d1, d2, d3, d4, d5, d6, fr, u.gr (by decide) (by decide), hT, u.yg (by decide), u.dk (by decide), u.sz, u.kd (by decide), u.nl (by decide)⟩
theorem HeapI.youngs (h : HeapI b s w) (ok : b.ok) {F : Int → Option Unit} (hT : Tab (tblIU Tryz.prog) b.yb F b.keys w') (k : Grew (fun q => q = b.yb) w w') : HeapI b { s with Y := F } w' := by
  have u := h.but ok (j := 5) (by decide) k
  obtain ⟨d0, d1, d2, d3, d4, d6, fr, d5⟩ := u.c (by decide)
  exact ⟨d0, d1, d2, d3, d4, d5, d6, fr, u.gr (by decide) (by decide), u.rf (by decide), hT, u.dk (by decide), u.sz, u.kd (by decide), u.nl (by decide)⟩
theorem HeapI.grants (h : HeapI b s w) (ok : b.ok) {S : Nat → Nat} (hT : MapAt b.m b.q b.f b.n S w') (k : Grew (fun q => q = b.q) w w') : HeapI b { s with S := S } w' := by
  have u := h.but ok (j := 3) (by decide) k
  obtain ⟨d0, d1, d2, d3, d4, d6, fr, d5⟩ := u.c (by decide)
  exact ⟨d0, d1, d2, d3, d4, d5, d6, fr, hT, u.rf (by decide), u.yg (by decide), u.dk (by decide), u.sz, u.kd (by decide), u.nl (by decide)⟩
theorem heapLogged (ok : b.ok) : Logged b.g b.S0 (HeapI b) where
  own := ⟨1, by decide, rfl⟩
  set := fun s w o x ho h => by
    have k : Grew (fun q => q = b.blk 1) w (w.setCell ⟨b.g, o, none⟩ x) := (Grew.refl (S := fun q => q = b.blk 1) w).setCell _ _ fun _ => rfl
    have u := h.but ok (j := 1) (by decide) k
    obtain ⟨d0, d1, d2, d3, d4, d6, fr, d5⟩ := u.c (by decide)
    exact ⟨d0, d1, d2, d3, d4, d5, d6, fr, u.gr (by decide) (by decide), u.rf (by decide), u.yg (by decide), u.dk (by decide), u.sz, u.kd (by decide), u.nl (by decide)⟩
  keep := fun s w w' h k => h.keep k (fun i hi e => e.1 ⟨i, hi, rfl⟩) fun r _ hr e => by
    obtain ⟨c, fz, e1⟩ := hr
    obtain ⟨_, c', t', fz', e2, e3⟩ := e
    rw [e1] at e2
    simp at e2
    rcases e3 with e3 | e3 <;> (rw [← e2.2.1] at e3; exact absurd e3 (by decide))
  lt := fun s w k h e => by
    obtain ⟨i, hi, rfl⟩ := e
    exact Nat.lt_of_lt_of_le (ok.lt i hi) h.sz
theorem refsAcc (ok : b.ok) : Acc b.g b.S0 (HeapI b) (tblII Tryz.prog) b.rb b.keys (fun s => s.R) (fun s F => { s with R := F }) where
  tab := fun _ _ h => h.rf
  upd := fun _ _ _ _ h hT k => h.refs ok hT k
  own := ⟨4, by decide, rfl⟩
  ne := ok.nd 4 1 (by decide) (by decide) (by decide)
  back := fun _ _ => rfl
  got := fun _ _ => rfl
theorem youngAcc (ok : b.ok) : Acc b.g b.S0 (HeapI b) (tblIU Tryz.prog) b.yb b.keys (fun s => s.Y) (fun s F => { s with Y := F }) where
  tab := fun _ _ h => h.yg
  upd := fun _ _ _ _ h hT k => h.youngs ok hT k
  own := ⟨5, by decide, rfl⟩
  ne := ok.nd 5 1 (by decide) (by decide) (by decide)
  back := fun _ _ => rfl
  got := fun _ _ => rfl
/-- what a step that is remembered leaves of the heap -/
theorem heapLog (ok : b.ok) {dp : Nat} {v : Value} {fs : List Step} (hl : LogAt b.B b.g dp v fs w) (h : HeapI b s w) : ∀ w', Grew (fun q => q = b.g ∨ v.ownBlock = some q) w w' → (∀ o, ¬ o = 1 → w'.cell? ⟨b.g, o, none⟩ = w.cell? ⟨b.g, o, none⟩) → (∀ o, w'.frozen? ⟨b.g, o, none⟩ = w.frozen? ⟨b.g, o, none⟩) → HeapI b s w' := fun w' k _ _ => by
  have h1 : ∀ i, i < 9 → i ≠ 1 → ¬ (b.blk i = b.g ∨ v.ownBlock = some (b.blk i)) := fun i hi hne e => by
    rcases e with e | e
    · exact ok.nd i 1 hi (by decide) hne e
    · have a := (hl.row.lt _ e).1
      have c := ok.lt i hi
      omega
  have hh := h.hlt
  have c : ∀ o, w'.cell? ⟨b.hb, o, none⟩ = w.cell? ⟨b.hb, o, none⟩ := fun o => k.cell (p := ⟨b.hb, o, none⟩) hh (h1 0 (by decide) (by decide))
  obtain ⟨u, e5, ho⟩ := h.c5
  obtain ⟨M, hM, m1, m2, m3, r⟩ := h.dk
  refine ⟨(c 0).trans h.c0, (c 1).trans h.c1, (c 2).trans h.c2, (c 3).trans h.c3, (c 4).trans h.c4, ⟨u, (c 5).trans e5, ownInt_keep ho k fun q hq e => ?_⟩, (c 6).trans h.c6, fun o => by rw [k.frozen (p := ⟨b.hb, o, none⟩) hh (h1 0 (by decide) (by decide))]; exact h.fr o, h.gr.keep k (h1 2 (by decide) (by decide)) (h1 3 (by decide) (by decide)), h.rf.keep k (h1 4 (by decide) (by decide)), h.yg.keep k (h1 5 (by decide) (by decide)), ⟨M, hM.kept k (by rw [m1]; exact h1 6 (by decide) (by decide)) (by rw [m2]; exact h1 7 (by decide) (by decide)) (by rw [m3]; exact h1 8 (by decide) (by decide)), m1, m2, m3, r⟩, Nat.le_trans h.sz k.size, h.kd.block (k.block b.hb hh (h1 0 (by decide) (by decide))), fun e => (c 5).trans (h.nl e)⟩
  obtain ⟨cc, fz, kk⟩ := Lib.ownsRow_kind ho q hq
  rcases e with e | e
  · have a := (ho.lt q hq).1
    have a2 := ok.lt 1 (by decide)
    have a3 : b.blk 1 = b.g := rfl
    omega
  · obtain ⟨c2, fz2, k2⟩ := Lib.ownsRow_kind hl.row q e
    rw [kk] at k2
    simp at k2
end
end Go.Proofs.YtbohpffigmllkaaGreatDoor

/-
  A heap outside of a Try: counts, who is held, More, Adopt: contracts.
-/
namespace Go.Proofs.YtbohpffigmllkaaGreatDoor
open Go.RowKit Go.Maps Go.ChangeMaps Go.WideShapes

theorem HeapI.drew {b : HB} {s : HS} {w : World} (h : HeapI b s w) : HeapI b s w.drew := h.keep (T := fun _ => False) (Grew.refl w).drew (fun _ _ e => e) fun _ _ _ e => e
theorem HeapI.alloc {b : HB} {s : HS} {w : World} (h : HeapI b s w) (o : Obj) : HeapI b s (w.alloc o) := h.keep (T := fun _ => False) ((Grew.refl w).alloc o) (fun _ _ e => e) fun _ _ _ e => e
theorem LogAt.drew' {B g dp : Nat} {v : Value} {fs : List Step} {w : World} (h : LogAt B g dp v fs w) : LogAt B g dp v fs w.drew := ⟨h.c0, h.c1, h.f0, h.f1, h.row, h.kind⟩
theorem hHeld_any (b : HB) (ok : b.ok) (s : HS) (w : World) (h : HeapI b s w) : Calls Tryz.prog 28 #[.pointer (some ⟨b.hb, 0, none⟩)] w fun e w' => e = .returned (.int .i64 (cnt s.S 1 b.n)) ∧ w = w' := by
  have HH := Lib.hid (held_any b.m b.q b.f b.n s.S w h.gr (Nat.le_trans ok.n (by decide)))
  have c2 := h.c2
  generalize cnt s.S 1 b.n = x at *
  clear h
  go_enter Tryz.func28, Tryz.ntmps28
  go_wp2_with fail
  refine HH.out.mono ?_
  rintro e w' ⟨rfl, rfl⟩
  go_wp2_with fail
  go_ret
  exact ⟨rfl, rfl⟩
theorem hFree_any (b : HB) (ok : b.ok) (s : HS) (w : World) (h : HeapI b s w) : Calls Tryz.prog 151 #[.pointer (some ⟨b.hb, 0, none⟩)] w fun e w' => e = .returned (.int .i64 (cnt s.S 0 b.n)) ∧ w = w' := by
  have HH := Lib.hid (free_any b.m b.q b.f b.n s.S w h.gr (Nat.le_trans ok.n (by decide)))
  have c2 := h.c2
  generalize cnt s.S 0 b.n = x at *
  clear h
  go_enter Tryz.func151, Tryz.ntmps151
  go_wp2_with fail
  refine HH.out.mono ?_
  rintro e w' ⟨rfl, rfl⟩
  go_wp2_with fail
  go_ret
  exact ⟨rfl, rfl⟩
theorem hLate_any (b : HB) (ok : b.ok) (s : HS) (w : World) (h : HeapI b s w) : Calls Tryz.prog 20 #[.pointer (some ⟨b.hb, 0, none⟩)] w fun e w' => e = .returned (.int .i64 (cnt s.S 2 b.n)) ∧ w = w' := by
  have HH := Lib.hid (late_any b.m b.q b.f b.n s.S w h.gr (Nat.le_trans ok.n (by decide)))
  have c2 := h.c2
  generalize cnt s.S 2 b.n = x at *
  clear h
  go_enter Tryz.func20, Tryz.ntmps20
  go_wp2_with fail
  refine HH.out.mono ?_
  rintro e w' ⟨rfl, rfl⟩
  go_wp2_with fail
  go_ret
  exact ⟨rfl, rfl⟩
theorem hRefs_any (b : HB) (s : HS) (at' : Int) (hat : (Lit.int .i64 at').wf = true) (w : World) (h : HeapI b s w) : Calls Tryz.prog 35 #[.pointer (some ⟨b.hb, 0, none⟩), .int .i64 at'] w fun e w' => e = .returned (.int .i64 ((s.R at').getD 0)) ∧ w = w' := by
  have c3 := h.c3
  have hlk : (Instr.lookup 71 (.map (some b.rb)) (.int .i64 at') false).run Tryz.prog w = .ok (.int .i64 ((s.R at').getD 0)) w := h.rf.look1 tblII_fine at' hat
  generalize (s.R at').getD 0 = x at *
  clear h hat
  go_enter Tryz.func35, Tryz.ntmps35
  go_wp2_with fail
  go_ret
  exact ⟨rfl, rfl⟩
theorem needHeld_ok (b : HB) (ok : b.ok) (s : HS) (i : Nat) (hi : i < b.n) (hs : s.S i = 1) (w : World) (h : HeapI b s w) : Calls Tryz.prog 100 #[.pointer (some ⟨b.hb, 0, none⟩), .int .i64 ((b.f + i : Nat) : Int)] w fun e w' => e = .returned (.tuple #[]) ∧ w.drew = w' := by
  have HH := Lib.hid (is_any b.m b.q b.f b.n s.S i w h.gr (Nat.le_trans ok.f (by decide)) (Nat.le_trans ok.n (by decide)) hi)
  rw [hs] at HH
  have c2 := h.c2
  generalize b.f + i = T at *
  clear h hs hi
  go_enter Tryz.func100, Tryz.ntmps100
  go_wp2_with fail
  refine HH.out.mono ?_
  rintro e w' ⟨rfl, rfl⟩
  go_wp2_with fail
  go_end0
  exact ⟨rfl, rfl⟩
/-- a keep outside of a Try -/
theorem keep0II (B g b : Nat) (v : Value) (fs : List Step) (F : Int → Option Int) (L : List Int) (k : Int) (w : World) (h : LogAt B g 0 v fs w) (hT : Tab (tblII Tryz.prog) b F L w) (hok : (Lit.int .i64 k).wf = true) :
    Calls Tryz.prog 129 #[.pointer (some ⟨g, 0, none⟩), .map (some b), .int .i64 k] w fun e w' => e = .returned (.tuple #[]) ∧ Grew (fun _ => False) w w' := by
  have hmf : ∀ (fn : Fn) (first cap : Array Value) (w : World), (Instr.makeFunc fn first cap).run Tryz.prog w = .ok (.func fn first cap) w := fun _ _ _ _ => rfl
  obtain ⟨W2, hW2⟩ : ∃ W2, (w.alloc (.cells #[.map (some b)] 71)).alloc (.cells #[.int .i64 k] 3) = W2 := ⟨_, rfl⟩
  obtain ⟨u, hu⟩ : ∃ u, (F k).getD 0 = u := ⟨_, rfl⟩
  obtain ⟨hd, hhd⟩ : ∃ hd, (F k).isSome = hd := ⟨_, rfl⟩
  have g2 : Grew (fun _ => False) w W2 := by rw [← hW2]; exact ((Grew.refl w).alloc _).alloc _
  have hT2 : Tab (tblII Tryz.prog) b F L W2 := hT.keep g2 fun e => e
  have hlk : (Instr.lookup 71 (.map (some b)) (.int .i64 k) true).run Tryz.prog W2 = .ok (.tuple #[.int .i64 u, .bool hd]) W2 := by
    have := hT2.look tblII_fine k hok
    rw [hhd] at this
    have e : (tblII Tryz.prog).vv ((F k).getD (tblII Tryz.prog).z) = .int .i64 u := by rw [← hu]; rfl
    rw [e] at this
    exact this
  obtain ⟨W4, hW4⟩ : ∃ W4, (W2.alloc (.cells #[.int .i64 u] 3)).alloc (.cells #[.bool hd] 4) = W4 := ⟨_, rfl⟩
  have g4 : Grew (fun _ => False) W2 W4 := by rw [← hW4]; exact ((Grew.refl W2).alloc _).alloc _
  have g04 : Grew (fun _ => False) w W4 := g2.trans g4
  have hL4 : LogAt B g 0 v fs W4 := h.keep g04 (fun e => e) (fun _ _ e => e)
  have HBk := Lib.hid fun sv => back_none B g v fs sv W4 hL4
  have HG := Lib.hid g04
  clear g2 g4 g04 hT2 hL4 h hT hu hhd hok
  subst hW4
  subst hW2
  go_enter Tryz.func129, Tryz.ntmps129
  go_wp2_with fail
  refine (HBk.out _).mono ?_
  rintro e w1 ⟨rfl, rfl⟩
  clear HBk hlk
  go_wp2_with fail
  go_end0
  exact ⟨rfl, HG.out⟩
set_option maxRecDepth 100000 in
/-- a Put outside of a Try -/
theorem put0II (B g b : Nat) (v : Value) (fs : List Step) (F : Int → Option Int) (L : List Int) (hL : L.length < 1000000) (k y : Int) (w : World) (h : LogAt B g 0 v fs w) (hT : Tab (tblII Tryz.prog) b F L w) (hok : (Lit.int .i64 k).wf = true) (hy : (Lit.int .i64 y).wf = true) (hk : k ∈ L) :
    Calls Tryz.prog 101 #[.pointer (some ⟨g, 0, none⟩), .map (some b), .int .i64 k, .int .i64 y] w fun e w' => e = .returned (.tuple #[]) ∧ Tab (tblII Tryz.prog) b (upF F k (some y)) L w' ∧ Grew (fun q => q = b) w w' := by
  have HK := Lib.hid (keep0II B g b v fs F L k w h hT hok)
  have HT := Lib.hid hT
  have HO := Lib.hid hok
  have HY := Lib.hid hy
  have HIn := Lib.hid hk
  have HLL := Lib.hid hL
  clear h hT hok hy hk hL
  go_enter Tryz.func101, Tryz.ntmps101
  go_wp2_with fail
  refine HK.out.mono ?_
  rintro e w1 ⟨rfl, hg1⟩
  have HT1 := Lib.hid (HT.out.keep hg1 fun e => e)
  have HG1 := Lib.hid hg1
  clear HK HT hg1
  go_wp2_with (at_mapUpdate; (refine wpList_tab_put (T := tblII Tryz.prog) tblII_fine HT1.out HLL.out rfl _ _ _ rfl rfl k y rfl rfl HIn.out HO.out HY.out ?_); (intro w2 hT2 hG2); (have HT2 := Lib.hid hT2); (have HG2 := Lib.hid hG2); clear hT2 hG2)
  go_end0
  exact ⟨rfl, HT2.out, (HG1.out.mono fun _ _ e => e.elim).trans HG2.out⟩
end Go.Proofs.YtbohpffigmllkaaGreatDoor

/-
  A heap outside of a Try: More, Adopt: contracts (written by gen_had.py).
-/
namespace Go.Proofs.YtbohpffigmllkaaGreatDoor
open Go.RowKit Go.Maps Go.ChangeMaps Go.WideShapes

theorem wf_small (x : Int) (h0 : 0 ≤ x) (h1 : x < 1000000) : (Lit.int .i64 x).wf = true := WalkArith.wf_i64 (by omega)
set_option maxRecDepth 10000 in
set_option maxHeartbeats 1000000 in
theorem more0_any (b : HB) (ok : b.ok) (s : HS) (i r : Nat) (hi : i < b.n) (hs : s.S i = 1) (hr : s.R ((b.f + i : Nat) : Int) = some (r : Int)) (hrb : r < 10000) (v : Value) (w : World) (h : HeapI b s w) (hl : LogAt b.B b.g 0 v [] w) : Calls Tryz.prog 61 #[.pointer (some ⟨b.hb, 0, none⟩), .int .i64 ((b.f + i : Nat) : Int)] w fun e w' => e = .returned (.tuple #[]) ∧ HeapI b { s with R := upF s.R ((b.f + i : Nat) : Int) (some ((r + 1 : Nat) : Int)) } w' ∧ Grew (fun q => q = b.rb) w w' := by
  have HN := Lib.hid (needHeld_ok b ok s i hi hs w h)
  have hd2 := h.drew.drew
  have ld2 := hl.drew'.drew'
  have c1 := hd2.c1
  have c3 := hd2.c3
  have ct := hd2.rf
  have wk : (Lit.int .i64 ((b.f + i : Nat) : Int)).wf = true := wf_small _ (by omega) (by have := ok.f; have := ok.n; omega)
  have hb := b.keys_mem i hi
  have HLk : Hid (∀ wz, Tab (tblII Tryz.prog) b.rb s.R b.keys wz → (Instr.lookup 71 (.map (some b.rb)) (.int .i64 ((b.f + i : Nat) : Int)) false).run Tryz.prog wz = .ok (.int .i64 (r : Int)) wz) := Lib.hid fun wz hz => by
    have := hz.look1 tblII_fine _ wk
    rw [hr] at this
    exact this
  have HPut : Hid (Calls Tryz.prog 101 #[.pointer (some ⟨b.g, 0, none⟩), .map (some b.rb), .int .i64 ((b.f + i : Nat) : Int), .int .i64 ((r : Int) + 1)] w.drew.drew fun e w' => e = .returned (.tuple #[]) ∧ Tab (tblII Tryz.prog) b.rb (upF s.R ((b.f + i : Nat) : Int) (some ((r : Int) + 1))) b.keys w' ∧ Grew (fun q => q = b.rb) w.drew.drew w') := Lib.hid (put0II b.B b.g b.rb v [] s.R b.keys (by rw [b.keys_len]; have := ok.n; omega) _ _ _ ld2 ct wk (wf_small _ (by omega) (by omega)) hb)
  have HS2 : Hid (∀ w2, Tab (tblII Tryz.prog) b.rb (upF s.R ((b.f + i : Nat) : Int) (some ((r : Int) + 1))) b.keys w2 → Grew (fun q => q = b.rb) w.drew.drew w2 → HeapI b { s with R := upF s.R ((b.f + i : Nat) : Int) (some ((r : Int) + 1)) } w2) := Lib.hid fun w2 hT hg => hd2.refs ok hT hg
  have e3 : (r : Int) + 1 = ((r + 1 : Nat) : Int) := rfl
  have hw : IntKind.i64.wrap ((r : Int) + 1) = (r : Int) + 1 := IntWalk.i64_in _ (by omega)
  clear h hl hd2 ld2 wk hb hs hr
  rw [← e3]
  clear e3
  generalize b.f + i = T at *
  go_enter Tryz.func61, Tryz.ntmps61
  go_wp2_with fail
  refine HN.out.mono ?_
  rintro e w' ⟨rfl, rfl⟩
  clear HN
  go_upto_region 1 with fail
  have hlk := HLk.out w.drew.drew ct
  refine wp_region_still_tail 16 (by kernel_rfl) (by kernel_rfl) ?_
  change wpStill _ _ w.drew.drew (fun a' => wpList _ _ _ _ a' w.drew.drew) _ _
  simp only [List.take_succ_cons, List.take_zero, List.drop_succ_cons, List.drop_zero]
  repeat still_step
  refine wpStill_nil ?_
  go_wp2_with fail
  refine HPut.out.mono ?_
  rintro e w2 ⟨rfl, hT2, hg2⟩
  have HT2 := Lib.hid hT2
  have HG2 := Lib.hid hg2
  clear hT2 hg2
  go_wp2_with fail
  go_end0
  exact ⟨rfl, HS2.out _ HT2.out HG2.out, ((Grew.refl w).drew.drew).trans HG2.out⟩
set_option maxRecDepth 10000 in
set_option maxHeartbeats 1000000 in
/-- a sector that was free is wanted by one: outside of a Try -/
theorem first0_any (b : HB) (ok : b.ok) (s : HS) (i : Nat) (hi : i < b.n) (v : Value) (w : World) (h : HeapI b s w) (hl : LogAt b.B b.g 0 v [] w) : Calls Tryz.prog 155 #[.pointer (some ⟨b.hb, 0, none⟩), .int .i64 ((b.f + i : Nat) : Int)] w fun e w' => e = .returned (.tuple #[]) ∧ HeapI b { s with R := upF s.R ((b.f + i : Nat) : Int) (some 1) } w' ∧ Grew (fun q => q = b.rb) w w' := by
  have hmf : ∀ (fn : Fn) (first cap : Array Value) (w : World), (Instr.makeFunc fn first cap).run Tryz.prog w = .ok (.func fn first cap) w := fun _ _ _ _ => rfl
  have wk : (Lit.int .i64 ((b.f + i : Nat) : Int)).wf = true := wf_small _ (by omega) (by have := ok.f; have := ok.n; omega)
  have hb := b.keys_mem i hi
  generalize ((b.f + i : Nat) : Int) = T at *
  obtain ⟨W, hW⟩ : ∃ W, (w.alloc (.cells #[.pointer (some ⟨b.hb, 0, none⟩)] 24)).alloc (.cells #[.int .i64 T] 3) = W := ⟨_, rfl⟩
  have g0 : Grew (fun _ => False) w W := by rw [← hW]; exact ((Grew.refl w).alloc _).alloc _
  have hI : HeapI b s W := by rw [← hW]; exact (h.alloc _).alloc _
  have hL : LogAt b.B b.g 0 v [] W := hl.keep g0 (fun e => e) fun _ _ e => e
  have d1 : W.cell? ⟨w.heap.size, 0, none⟩ = some (.pointer (some ⟨b.hb, 0, none⟩)) := by rw [← hW]; exact boxOld (boxNew rfl) (by simp)
  have d2 : W.cell? ⟨w.heap.size + 1, 0, none⟩ = some (.int .i64 T) := by rw [← hW]; exact boxNew (by simp)
  have c1 := hI.c1
  have HBk := Lib.hid fun sv => back_none b.B b.g v [] sv W hL
  have hId := hI.drew
  have e1 : W.drew.cell? ⟨w.heap.size, 0, none⟩ = some (.pointer (some ⟨b.hb, 0, none⟩)) := d1
  have e2 : W.drew.cell? ⟨w.heap.size + 1, 0, none⟩ = some (.int .i64 T) := d2
  have f1 := hId.c1
  have f3 := hId.c3
  have HPut := Lib.hid (put0II b.B b.g b.rb v [] s.R b.keys (by rw [b.keys_len]; have := ok.n; omega) T 1 W.drew hL.drew' hId.rf wk (by decide) hb)
  have HS2 : Hid (∀ w2, Tab (tblII Tryz.prog) b.rb (upF s.R T (some 1)) b.keys w2 → Grew (fun q => q = b.rb) W.drew w2 → HeapI b { s with R := upF s.R T (some 1) } w2 ∧ Grew (fun q => q = b.rb) w w2) := Lib.hid fun w2 hT hg => ⟨hId.refs ok hT hg, (g0.drew.mono fun _ _ e => e.elim).trans hg⟩
  clear h hl hI hL g0 hId wk hb hi
  subst hW
  go_enter Tryz.func155, Tryz.ntmps155
  go_wp2_with fail
  refine (HBk.out _).mono ?_
  rintro e w' ⟨rfl, rfl⟩
  clear HBk
  go_upto_region 2 with fail
  generalize (w.alloc (.cells #[.pointer (some ⟨b.hb, 0, none⟩)] 24)).alloc (.cells #[.int .i64 T] 3) = W at *
  refine wp_region_still_tail 9 (by kernel_rfl) (by kernel_rfl) ?_
  change wpStill _ _ (W.drew) (fun a' => wpList _ _ _ _ a' (W.drew)) _ _
  simp only [List.take_succ_cons, List.take_zero, List.drop_succ_cons, List.drop_zero]
  repeat still_step
  refine wpStill_nil ?_
  go_wp2_with fail
  refine HPut.out.mono ?_
  rintro e w2 ⟨rfl, hT2, hg2⟩
  have HF := Lib.hid (HS2.out _ hT2 hg2)
  clear hT2 hg2 HPut HS2
  go_wp2_with fail
  go_end0
  exact ⟨rfl, HF.out.1, HF.out.2⟩
theorem upd_same (S : Nat → Nat) (i v : Nat) : upd S i v i = v := if_pos rfl
end Go.Proofs.YtbohpffigmllkaaGreatDoor

/-
  A heap within a Try: how letGo and first are undone; what a log remembers of them.
-/
namespace Go.Proofs.YtbohpffigmllkaaGreatDoor
open Go.RowKit Go.Maps Go.ChangeMaps Go.WideShapes

theorem MapAt.other {m q f n : Nat} {S : Nat → Nat} {w : World} (h : MapAt m q f n S w) : other q w := by
  obtain ⟨c, e, _⟩ := h.row
  exact ⟨c, _, _, e, by decide⟩
/-- a log, when the grants turned -/
theorem LogAt.turned {b : HB} (ok : b.ok) {s : HS} {B dp : Nat} {v : Value} {fs : List Step} {w w' : World} (h : HeapI b s w) (hl : LogAt B b.g dp v fs w) (hg : Grew (fun q => q = b.q) w w') : LogAt B b.g dp v fs w' :=
  hl.keep hg (fun e => ok.nd 1 3 (by decide) (by decide) (by decide) e) fun q hq e => by subst e; exact h.gr.other.ne hl.row hq
theorem HeapI.turn {b : HB} (ok : b.ok) {s : HS} {i a c : Nat} {w w' : World} {r : Bool} (h : HeapI b s w) (hs : s.S i = a) (ht : Turned b.m b.q b.f b.n s.S i a c w r w') : r = true ∧ HeapI b { s with S := upd s.S i c } w' := by
  obtain ⟨r1, hm⟩ := ht.1.1 hs
  exact ⟨r1, h.grants ok hm ht.2⟩
theorem upd_back (S : Nat → Nat) (i v : Nat) : upd (upd S i v) i (S i) = S := by
  funext j
  unfold upd
  by_cases h : j = i
  · rw [if_pos h, h]
  · rw [if_neg h, if_neg h]
theorem upd_upd (S : Nat → Nat) (i v u : Nat) : upd (upd S i v) i u = upd S i u := by
  funext j
  unfold upd
  by_cases h : j = i
  · rw [if_pos h, if_pos h]
  · rw [if_neg h, if_neg h, if_neg h]
set_option maxRecDepth 100000 in
theorem letStep_any (b : HB) (ok : b.ok) (s : HS) (i : Nat) (hi : i < b.n) (hs : s.S i = 2) (x y : Nat) (w : World) (d1 : w.cell? ⟨x, 0, none⟩ = some (.pointer (some ⟨b.hb, 0, none⟩))) (d2 : w.cell? ⟨y, 0, none⟩ = some (.int .i64 ((b.f + i : Nat) : Int))) (h : HeapI b s w) : Calls Tryz.prog 137 #[.pointer (some ⟨x, 0, none⟩), .pointer (some ⟨y, 0, none⟩)] w fun e w' => e = .returned (.tuple #[]) ∧ HeapI b { s with S := upd s.S i 1 } w' ∧ Grew (fun q => q = b.q) w w' := by
  have e1 : w.drew.cell? ⟨x, 0, none⟩ = some (.pointer (some ⟨b.hb, 0, none⟩)) := d1
  have e2 : w.drew.cell? ⟨y, 0, none⟩ = some (.int .i64 ((b.f + i : Nat) : Int)) := d2
  have c2 := h.drew.c2
  have HB := Lib.hid (back_any b.m b.q b.f b.n s.S i w.drew h.drew.gr (Nat.le_trans ok.f (by decide)) (Nat.le_trans ok.n (by decide)) hi)
  have HF : Hid (∀ r w', Turned b.m b.q b.f b.n s.S i 2 1 w.drew r w' → HeapI b { s with S := upd s.S i 1 } w' ∧ Grew (fun q => q = b.q) w w') := Lib.hid fun r w' ht => ⟨(h.drew.turn ok hs ht).2, ((Grew.refl w).drew).trans ht.2⟩
  generalize ((b.f + i : Nat) : Int) = T at *
  clear h hs hi d1 d2
  go_enter Tryz.func137, Tryz.ntmps137
  go_upto_region 0 with fail
  refine wp_region_still_tail 5 (by kernel_rfl) (by kernel_rfl) ?_
  change wpStill _ _ (w.drew) (fun a' => wpList _ _ _ _ a' (w.drew)) _ _
  simp only [List.take_succ_cons, List.take_zero, List.drop_succ_cons, List.drop_zero]
  repeat still_step
  refine wpStill_nil ?_
  go_wp2_with fail
  refine HB.out.mono ?_
  rintro e w' ⟨r, rfl, ht⟩
  have HR := Lib.hid (HF.out r w' ht)
  clear ht HB HF
  go_wp2_with fail
  go_end0
  exact ⟨rfl, HR.out.1, HR.out.2⟩
set_option maxRecDepth 100000 in
theorem firstStep_any (b : HB) (ok : b.ok) (s : HS) (i : Nat) (hi : i < b.n) (hs : s.S i = 1) (x y : Nat) (w : World) (d1 : w.cell? ⟨x, 0, none⟩ = some (.pointer (some ⟨b.hb, 0, none⟩))) (d2 : w.cell? ⟨y, 0, none⟩ = some (.int .i64 ((b.f + i : Nat) : Int))) (h : HeapI b s w) : Calls Tryz.prog 173 #[.pointer (some ⟨x, 0, none⟩), .pointer (some ⟨y, 0, none⟩)] w fun e w' => e = .returned (.tuple #[]) ∧ HeapI b { s with S := upd s.S i 0 } w' ∧ Grew (fun q => q = b.q) w w' := by
  have e1 : w.drew.cell? ⟨x, 0, none⟩ = some (.pointer (some ⟨b.hb, 0, none⟩)) := d1
  have e2 : w.drew.cell? ⟨y, 0, none⟩ = some (.int .i64 ((b.f + i : Nat) : Int)) := d2
  have c2 := h.drew.c2
  have HB := Lib.hid (give_any b.m b.q b.f b.n s.S i w.drew h.drew.gr (Nat.le_trans ok.f (by decide)) (Nat.le_trans ok.n (by decide)) hi)
  have HF : Hid (∀ r w', Turned b.m b.q b.f b.n s.S i 1 0 w.drew r w' → HeapI b { s with S := upd s.S i 0 } w' ∧ Grew (fun q => q = b.q) w w') := Lib.hid fun r w' ht => ⟨(h.drew.turn ok hs ht).2, ((Grew.refl w).drew).trans ht.2⟩
  generalize ((b.f + i : Nat) : Int) = T at *
  clear h hs hi d1 d2
  go_enter Tryz.func173, Tryz.ntmps173
  go_upto_region 0 with fail
  refine wp_region_still_tail 5 (by kernel_rfl) (by kernel_rfl) ?_
  change wpStill _ _ (w.drew) (fun a' => wpList _ _ _ _ a' (w.drew)) _ _
  simp only [List.take_succ_cons, List.take_zero, List.drop_succ_cons, List.drop_zero]
  repeat still_step
  refine wpStill_nil ?_
  go_wp2_with fail
  refine HB.out.mono ?_
  rintro e w' ⟨r, rfl, ht⟩
  have HR := Lib.hid (HF.out r w' ht)
  clear ht HB HF
  go_wp2_with fail
  go_end0
  exact ⟨rfl, HR.out.1, HR.out.2⟩
def stepLet (x y : Nat) : Step := (137, #[.pointer (some ⟨x, 0, none⟩), .pointer (some ⟨y, 0, none⟩)])
def stepFirst (x y : Nat) : Step := (173, #[.pointer (some ⟨x, 0, none⟩), .pointer (some ⟨y, 0, none⟩)])
/-- the two boxes that a step back of a sector needs -/
structure Boxes2 (b : HB) (x y : Nat) (T : Int) (w : World) : Prop where
  bx : w.heap[x]? = some (.cells #[.pointer (some ⟨b.hb, 0, none⟩)] 24)
  by' : w.heap[y]? = some (.cells #[.int .i64 T] 3)
set_option maxRecDepth 100000 in
theorem goodLet (b : HB) (ok : b.ok) (s s0 : HS) (i : Nat) (hi : i < b.n) (hs : s.S i = 2) (x y : Nat) (w : World) (hB : Boxes2 b x y ((b.f + i : Nat) : Int) w) (hS : ¬ b.S0 x ∧ ¬ b.S0 y) (h0 : { s with S := upd s.S i 1 } = s0) : Good b.B b.g b.S0 (HeapI b) (stepLet x y) s s0 w := by
  refine ⟨fun _ => rfl, fun k => k = x ∨ k = y, ?_, ?_⟩
  · rintro k (rfl | rfl)
    · exact ⟨hS.1, _, _, _, hB.bx, by decide, by decide⟩
    · exact ⟨hS.2, _, _, _, hB.by', by decide, by decide⟩
  · intro wx hx hI
    have p1 := hx x (Or.inl rfl)
    have p2 := hx y (Or.inr rfl)
    rw [hB.bx] at p1
    rw [hB.by'] at p2
    refine (letStep_any b ok s i hi hs x y wx (by simp [World.cell?, p1]) (by simp [World.cell?, p2]) hI).mono ?_
    rintro e w' ⟨rfl, h1, hg⟩
    exact ⟨rfl, h0 ▸ h1, hg.mono fun q _ e => Or.inl ⟨3, by decide, e⟩, fun B' dp v fs hl => hl.turned ok hI hg⟩
set_option maxRecDepth 100000 in
theorem goodFirst (b : HB) (ok : b.ok) (s s0 : HS) (i : Nat) (hi : i < b.n) (hs : s.S i = 1) (x y : Nat) (w : World) (hB : Boxes2 b x y ((b.f + i : Nat) : Int) w) (hS : ¬ b.S0 x ∧ ¬ b.S0 y) (h0 : { s with S := upd s.S i 0 } = s0) : Good b.B b.g b.S0 (HeapI b) (stepFirst x y) s s0 w := by
  refine ⟨fun _ => rfl, fun k => k = x ∨ k = y, ?_, ?_⟩
  · rintro k (rfl | rfl)
    · exact ⟨hS.1, _, _, _, hB.bx, by decide, by decide⟩
    · exact ⟨hS.2, _, _, _, hB.by', by decide, by decide⟩
  · intro wx hx hI
    have p1 := hx x (Or.inl rfl)
    have p2 := hx y (Or.inr rfl)
    rw [hB.bx] at p1
    rw [hB.by'] at p2
    refine (firstStep_any b ok s i hi hs x y wx (by simp [World.cell?, p1]) (by simp [World.cell?, p2]) hI).mono ?_
    rintro e w' ⟨rfl, h1, hg⟩
    exact ⟨rfl, h0 ▸ h1, hg.mono fun q _ e => Or.inl ⟨3, by decide, e⟩, fun B' dp v fs hl => hl.turned ok hI hg⟩
end Go.Proofs.YtbohpffigmllkaaGreatDoor

/-
  A heap within a Try: first, letGo of one that isn't young, Less: contracts.
-/
namespace Go.Proofs.YtbohpffigmllkaaGreatDoor
open Go.RowKit Go.Maps Go.ChangeMaps Go.WideShapes

theorem Did.fromDrew {σ : Type} {B g dp n : Nat} {S0 : Nat → Prop} {I : σ → World → Prop} {fs : List Step} {s s' : σ} {w w' : World} (h : Did B g dp S0 I fs n s s' w.drew w') : Did B g dp S0 I fs n s s' w w' := ⟨h.log, h.st, ((Grew.refl w).drew).trans h.grew⟩
theorem HB.not0 {b : HB} (ok : b.ok) {w : World} (h : b.B ≤ w.heap.size) {x : Nat} (hx : w.heap.size ≤ x) : ¬ b.S0 x := by
  rintro ⟨i, hi, rfl⟩
  have := ok.lt i hi
  omega
/-- behind the two boxes that first and letGo make -/
structure Front (b : HB) (T : Int) (w W : World) : Prop where
  grew : Grew (fun _ => False) w W
  two : Boxes2 b w.heap.size (w.heap.size + 1) T W
  d1 : W.cell? ⟨w.heap.size, 0, none⟩ = some (.pointer (some ⟨b.hb, 0, none⟩))
  d2 : W.cell? ⟨w.heap.size + 1, 0, none⟩ = some (.int .i64 T)
theorem Boxes2.cells {b : HB} {x y : Nat} {T : Int} {w : World} (h : Boxes2 b x y T w) : w.cell? ⟨x, 0, none⟩ = some (.pointer (some ⟨b.hb, 0, none⟩)) ∧ w.cell? ⟨y, 0, none⟩ = some (.int .i64 T) := by
  have h1 := h.bx
  have h2 := h.by'
  exact ⟨by simp [World.cell?, h1], by simp [World.cell?, h2]⟩
theorem front (b : HB) (T : Int) (w : World) : Front b T w ((w.alloc (.cells #[.pointer (some ⟨b.hb, 0, none⟩)] 24)).alloc (.cells #[.int .i64 T] 3)) := by
  have s1 : (w.alloc (.cells #[.pointer (some ⟨b.hb, 0, none⟩)] 24)).heap.size = w.heap.size + 1 := by simp
  have hB : Boxes2 b w.heap.size (w.heap.size + 1) T ((w.alloc (.cells #[.pointer (some ⟨b.hb, 0, none⟩)] 24)).alloc (.cells #[.int .i64 T] 3)) := by
    refine ⟨?_, ?_⟩
    · rw [Below.heap_alloc _ _ _ (by rw [s1]; omega)]
      exact heap_alloc_new w _
    · have := heap_alloc_new (w.alloc (.cells #[.pointer (some ⟨b.hb, 0, none⟩)] 24)) (.cells #[.int .i64 T] 3)
      rw [s1] at this
      exact this
  exact ⟨((Grew.refl w).alloc _).alloc _, hB, hB.cells.1, hB.cells.2⟩
theorem Boxes2.kept {b : HB} {x y : Nat} {T : Int} {w w' : World} (h : Boxes2 b x y T w) (hS : ¬ b.S0 x ∧ ¬ b.S0 y) (k : Kept b.S0 w w') : Boxes2 b x y T w' :=
  ⟨(k x ⟨hS.1, _, _, _, h.bx, by decide, by decide⟩).trans h.bx, (k y ⟨hS.2, _, _, _, h.by', by decide, by decide⟩).trans h.by'⟩
/-- a step that a log took, beside the heap -/
theorem backed {b : HB} (ok : b.ok) {s : HS} {dp : Nat} {v : Value} {fs : List Step} {W w1 : World} (hI : HeapI b s W) (hL : LogAt b.B b.g dp v fs W) (hg : Grew (fun q => q = b.g ∨ v.ownBlock = some q) W w1) (hc : ∀ o, ¬ o = 1 → w1.cell? ⟨b.g, o, none⟩ = W.cell? ⟨b.g, o, none⟩) (hz : ∀ o, w1.frozen? ⟨b.g, o, none⟩ = W.frozen? ⟨b.g, o, none⟩) : HeapI b s w1 ∧ Grew (Mut b.B b.S0 W) W w1 :=
  ⟨heapLog ok hL hI w1 hg hc hz, hg.mono fun q _ e => by
    rcases e with e | e
    · exact Or.inl ⟨1, by decide, e⟩
    · exact Or.inr ⟨(hL.row.lt q e).1, Lib.ownsRow_kind hL.row q e⟩⟩
theorem HB.wf {b : HB} (ok : b.ok) {i : Nat} (hi : i < b.n) : (Lit.int .i64 ((b.f + i : Nat) : Int)).wf = true := wf_small _ (by omega) (by have := ok.f; have := ok.n; omega)
theorem HB.few {b : HB} (ok : b.ok) : b.keys.length < 1000000 := by rw [b.keys_len]; have := ok.n; omega
theorem putR (b : HB) (ok : b.ok) (s : HS) (i : Nat) (y : Int) (hi : i < b.n) (hy : (Lit.int .i64 y).wf = true) (dp : Nat) (v : Value) (fs : List Step) (w : World) (hf : fs.length < 100000) (h : HeapI b s w) (hl : LogAt b.B b.g (dp + 1) v fs w) : Calls Tryz.prog 101 #[.pointer (some ⟨b.g, 0, none⟩), .map (some b.rb), .int .i64 ((b.f + i : Nat) : Int), .int .i64 y] w fun e w' => e = .returned (.tuple #[]) ∧ Did b.B b.g dp b.S0 (HeapI b) fs 1 s { s with R := upF s.R ((b.f + i : Nat) : Int) (some y) } w w' :=
  putII (heapLogged ok) (refsAcc ok) (b.few ok) b.B dp v fs s _ y w hl hf h.sz h (b.wf ok hi) hy (b.keys_mem i hi) (heapLog ok hl h)
theorem dropR (b : HB) (ok : b.ok) (s : HS) (i : Nat) (hi : i < b.n) (dp : Nat) (v : Value) (fs : List Step) (w : World) (hf : fs.length < 100000) (h : HeapI b s w) (hl : LogAt b.B b.g (dp + 1) v fs w) : Calls Tryz.prog 135 #[.pointer (some ⟨b.g, 0, none⟩), .map (some b.rb), .int .i64 ((b.f + i : Nat) : Int)] w fun e w' => e = .returned (.tuple #[]) ∧ Did b.B b.g dp b.S0 (HeapI b) fs 1 s { s with R := upF s.R ((b.f + i : Nat) : Int) none } w w' :=
  dropII (heapLogged ok) (refsAcc ok) (b.few ok) b.B dp v fs s _ w hl hf h.sz h (b.wf ok hi) (heapLog ok hl h)
set_option maxRecDepth 100000 in
set_option maxHeartbeats 1000000 in
/-- a sector that was free is wanted by one: in a Try -/
theorem first1_any (b : HB) (ok : b.ok) (s s0 : HS) (i : Nat) (hi : i < b.n) (hs : s.S i = 1) (h0 : { s with S := upd s.S i 0 } = s0) (dp : Nat) (v : Value) (fs : List Step) (w : World) (hf : fs.length < 90000) (h : HeapI b s w) (hl : LogAt b.B b.g (dp + 1) v fs w) : Calls Tryz.prog 155 #[.pointer (some ⟨b.hb, 0, none⟩), .int .i64 ((b.f + i : Nat) : Int)] w fun e w' => e = .returned (.tuple #[]) ∧ Did b.B b.g dp b.S0 (HeapI b) fs 2 s0 { s with R := upF s.R ((b.f + i : Nat) : Int) (some 1) } w w' := by
  have hmf : ∀ (fn : Fn) (first cap : Array Value) (w : World), (Instr.makeFunc fn first cap).run Tryz.prog w = .ok (.func fn first cap) w := fun _ _ _ _ => rfl
  obtain ⟨W, hW⟩ : ∃ W, (w.alloc (.cells #[.pointer (some ⟨b.hb, 0, none⟩)] 24)).alloc (.cells #[.int .i64 ((b.f + i : Nat) : Int)] 3) = W := ⟨_, rfl⟩
  have hF : Front b ((b.f + i : Nat) : Int) w W := hW ▸ front b _ w
  have hI : HeapI b s W := by rw [← hW]; exact (h.alloc _).alloc _
  have hL : LogAt b.B b.g (dp + 1) v fs W := hl.keep hF.grew (fun e => e) fun _ _ e => e
  have n0 := HB.not0 ok h.sz (Nat.le_refl w.heap.size)
  have n1 := HB.not0 ok h.sz (Nat.le_succ w.heap.size)
  have HBk := Lib.hid (back_some b.B b.g dp v fs (stepFirst w.heap.size (w.heap.size + 1)) W hL (by omega) hI.sz)
  have HN : Hid (∀ w1, Grew (fun q => q = b.g ∨ v.ownBlock = some q) W w1 → (∀ o, ¬ o = 1 → w1.cell? ⟨b.g, o, none⟩ = W.cell? ⟨b.g, o, none⟩) → (∀ o, w1.frozen? ⟨b.g, o, none⟩ = W.frozen? ⟨b.g, o, none⟩) → HeapI b s w1 ∧ Boxes2 b w.heap.size (w.heap.size + 1) ((b.f + i : Nat) : Int) w1 ∧ Grew (Mut b.B b.S0 w) w w1) := Lib.hid fun w1 hg hc hz => by
    obtain ⟨a1, a2⟩ := backed ok hI hL hg hc hz
    exact ⟨a1, hF.two.kept ⟨n0, n1⟩ (Kept.of a2), (hF.grew.mono fun _ _ e => e.elim).thenMut a2⟩
  have HG : Hid (∀ w1 v1, LogAt b.B b.g (dp + 1) v1 (fs ++ [stepFirst w.heap.size (w.heap.size + 1)]) w1 → HeapI b s w1 → Boxes2 b w.heap.size (w.heap.size + 1) ((b.f + i : Nat) : Int) w1 → Grew (Mut b.B b.S0 w) w w1 → Did b.B b.g dp b.S0 (HeapI b) fs 1 s0 s w w1 ∧ ∀ w2, Did b.B b.g dp b.S0 (HeapI b) (fs ++ [stepFirst w.heap.size (w.heap.size + 1)]) 1 s { s with R := upF s.R ((b.f + i : Nat) : Int) (some 1) } w1.drew w2 → Did b.B b.g dp b.S0 (HeapI b) fs 2 s0 { s with R := upF s.R ((b.f + i : Nat) : Int) (some 1) } w w2) := Lib.hid fun w1 v1 hl1 hi1 hb1 hg1 => by
    have hG := goodFirst b ok s s0 i hi hs _ _ w1 hb1 ⟨n0, n1⟩ h0
    exact ⟨Did.one hl1 hi1 hG hg1, fun w2 hd => Did.chain (n := 1) hl1 (Nat.le_refl _) ((Path.nil s0 w1).snoc hG) hg1 hd.fromDrew⟩
  have HP : Hid (∀ w1 v1, LogAt b.B b.g (dp + 1) v1 (fs ++ [stepFirst w.heap.size (w.heap.size + 1)]) w1 → HeapI b s w1 → Calls Tryz.prog 101 #[.pointer (some ⟨b.g, 0, none⟩), .map (some b.rb), .int .i64 ((b.f + i : Nat) : Int), .int .i64 1] w1 fun e w' => e = .returned (.tuple #[]) ∧ Did b.B b.g dp b.S0 (HeapI b) (fs ++ [stepFirst w.heap.size (w.heap.size + 1)]) 1 s { s with R := upF s.R ((b.f + i : Nat) : Int) (some 1) } w1 w') := Lib.hid fun w1 v1 hl1 hi1 => putR b ok s i 1 hi (by decide) dp v1 _ w1 (by rw [List.length_append]; show _ + 1 < _; omega) hi1 hl1
  have d1 := hF.d1
  have d2 := hF.d2
  have c1 := hI.c1
  clear hF hI hL n0 n1 h hl hf hi hs h0
  unfold stepV stepFirst at HBk
  generalize ((b.f + i : Nat) : Int) = T at *
  subst hW
  go_enter Tryz.func155, Tryz.ntmps155
  go_wp2_with fail
  refine HBk.out.mono ?_
  rintro e w1 ⟨rfl, v1, hl1, hg1, hk1, hk2⟩
  obtain ⟨a1, a2, a3⟩ := HN.out w1 hg1 hk1 hk2
  obtain ⟨a4, a5⟩ := HG.out w1 v1 hl1 a1 a2 a3
  have HPx := Lib.hid (HP.out w1.drew v1 hl1.drew' a1.drew)
  have HE := Lib.hid a5
  have f1 := a1.drew.c1
  have f3 := a1.drew.c3
  have e1 : w1.drew.cell? ⟨w.heap.size, 0, none⟩ = some (.pointer (some ⟨b.hb, 0, none⟩)) := a2.cells.1
  have e2 : w1.drew.cell? ⟨w.heap.size + 1, 0, none⟩ = some (.int .i64 T) := a2.cells.2
  clear hl1 hg1 hk1 hk2 a1 a2 a3 a4 a5 HN HG HP HBk d1 d2 c1
  go_upto_region 2 with fail
  refine wp_region_still_tail 9 (by kernel_rfl) (by kernel_rfl) ?_
  change wpStill _ _ (w1.drew) (fun a' => wpList _ _ _ _ a' (w1.drew)) _ _
  simp only [List.take_succ_cons, List.take_zero, List.drop_succ_cons, List.drop_zero]
  repeat still_step
  refine wpStill_nil ?_
  go_wp2_with fail
  refine HPx.out.mono ?_
  rintro e w2 ⟨rfl, hd⟩
  have HD := Lib.hid (HE.out w2 hd)
  clear hd HE HPx
  go_wp2_with fail
  go_end0
  exact ⟨rfl, HD.out⟩
set_option maxRecDepth 100000 in
set_option maxHeartbeats 1000000 in
/-- Less of one that more than one want -/
theorem less1_more (b : HB) (ok : b.ok) (s : HS) (i r : Nat) (hi : i < b.n) (hs : s.S i = 1) (hr : s.R ((b.f + i : Nat) : Int) = some ((r + 2 : Nat) : Int)) (hrb : r < 10000) (dp : Nat) (v : Value) (fs : List Step) (w : World) (hf : fs.length < 90000) (h : HeapI b s w) (hl : LogAt b.B b.g (dp + 1) v fs w) : Calls Tryz.prog 66 #[.pointer (some ⟨b.hb, 0, none⟩), .int .i64 ((b.f + i : Nat) : Int)] w fun e w' => e = .returned (.bool false) ∧ Did b.B b.g dp b.S0 (HeapI b) fs 1 s { s with R := upF s.R ((b.f + i : Nat) : Int) (some ((r + 1 : Nat) : Int)) } w w' := by
  have HN := Lib.hid (needHeld_ok b ok s i hi hs w h)
  have hd1 := h.drew
  have c1 := hd1.c1
  have c3 := hd1.c3
  have hd2 := h.drew.drew
  have f1 := hd2.c1
  have f3 := hd2.c3
  have hlk : (Instr.lookup 71 (.map (some b.rb)) (.int .i64 ((b.f + i : Nat) : Int)) false).run Tryz.prog w.drew = .ok (.int .i64 ((r + 2 : Nat) : Int)) w.drew := by
    have := hd1.rf.look1 tblII_fine _ (b.wf ok hi)
    rw [hr] at this
    exact this
  have HP : Hid (Calls Tryz.prog 101 #[.pointer (some ⟨b.g, 0, none⟩), .map (some b.rb), .int .i64 ((b.f + i : Nat) : Int), .int .i64 ((r + 1 : Nat) : Int)] w.drew.drew fun e w' => e = .returned (.tuple #[]) ∧ Did b.B b.g dp b.S0 (HeapI b) fs 1 s { s with R := upF s.R ((b.f + i : Nat) : Int) (some ((r + 1 : Nat) : Int)) } w.drew.drew w') := Lib.hid (putR b ok s i _ hi (wf_small _ (by omega) (by omega)) dp v fs _ (by omega) hd2 hl.drew'.drew')
  have e3 : ((r + 1 : Nat) : Int) = ((r + 2 : Nat) : Int) - 1 := by omega
  have hw : IntKind.i64.wrap (((r + 2 : Nat) : Int) - 1) = ((r + 2 : Nat) : Int) - 1 := IntWalk.i64_in _ (by omega)
  have hgt : decide (((r + 2 : Nat) : Int) > 1) = true := decide_eq_true (by omega)
  have hlt : decide ((1 : Int) < ((r + 2 : Nat) : Int)) = true := decide_eq_true (by omega)
  clear hd1 hd2 h hl hf hs hr hrb hi
  rw [e3] at HP ⊢
  clear e3
  generalize ((r + 2 : Nat) : Int) = R2 at *
  generalize ((b.f + i : Nat) : Int) = T at *
  go_enter Tryz.func66, Tryz.ntmps66
  go_wp2_with fail
  refine HN.out.mono ?_
  rintro e w' ⟨rfl, rfl⟩
  clear HN
  go_upto_region 4 with fail
  refine wp_region_still_tail 11 (by kernel_rfl) (by kernel_rfl) ?_
  change wpStill _ _ (w.drew.drew) (fun a' => wpList _ _ _ _ a' (w.drew.drew)) _ _
  simp only [List.take_succ_cons, List.take_zero, List.drop_succ_cons, List.drop_zero]
  repeat still_step
  refine wpStill_nil ?_
  go_wp2_with fail
  refine HP.out.mono ?_
  rintro e w2 ⟨rfl, hd⟩
  have HD := Lib.hid hd.fromDrew.fromDrew
  clear hd HP
  go_wp2_with fail
  go_ret
  exact ⟨rfl, HD.out⟩
end Go.Proofs.YtbohpffigmllkaaGreatDoor

/-
  A heap within a Try: letGo of one that isn't young, Less of one that one wants: contracts.
-/
namespace Go.Proofs.YtbohpffigmllkaaGreatDoor
open Go.RowKit Go.Maps Go.ChangeMaps Go.WideShapes

def HS.letGo (s : HS) (i : Nat) (T : Int) : HS := { s with S := upd s.S i 2, R := upF s.R T none }
/-- what lies where letGo looks whether a sector is young -/
structure Let3 (b : HB) (x y : Nat) (T : Int) (s : HS) (w : World) : Prop where
  st : HeapI b s w
  two : Boxes2 b x y T w
theorem Boxes2.alloc {b : HB} {x y : Nat} {T : Int} {w : World} (h : Boxes2 b x y T w) (o : Obj) : Boxes2 b x y T (w.alloc o) := by
  have hx : x < w.heap.size := by
    rcases Nat.lt_or_ge x w.heap.size with e | e
    · exact e
    · have := h.bx; rw [Array.getElem?_eq_none e] at this; cases this
  have hy : y < w.heap.size := by
    rcases Nat.lt_or_ge y w.heap.size with e | e
    · exact e
    · have := h.by'; rw [Array.getElem?_eq_none e] at this; cases this
  exact ⟨by rw [Below.heap_alloc _ _ _ (by omega)]; exact h.bx, by rw [Below.heap_alloc _ _ _ (by omega)]; exact h.by'⟩
theorem Did.alloc {b : HB} {dp n : Nat} {fs : List Step} {s s' : HS} {w w' : World} (h : Did b.B b.g dp b.S0 (HeapI b) fs n s s' w w') (o : Obj) : Did b.B b.g dp b.S0 (HeapI b) fs n s s' w (w'.alloc o) := by
  obtain ⟨⟨v, fs', l, n1, p⟩, i, g⟩ := h
  have k : Grew (Mut b.B b.S0 w') w' (w'.alloc o) := (Grew.refl w').alloc o
  exact ⟨⟨v, fs', l.keepAlloc o, n1, p.later (Kept.of k)⟩, i.alloc o, g.thenMut k⟩
theorem Did.drew {b : HB} {dp n : Nat} {fs : List Step} {s s' : HS} {w w' : World} (h : Did b.B b.g dp b.S0 (HeapI b) fs n s s' w w') : Did b.B b.g dp b.S0 (HeapI b) fs n s s' w w'.drew := by
  obtain ⟨⟨v, fs', l, n1, p⟩, i, g⟩ := h
  have k : Grew (Mut b.B b.S0 w') w' w'.drew := (Grew.refl w').drew
  exact ⟨⟨v, fs', l.drew', n1, p.later (Kept.of k)⟩, i.drew, g.thenMut k⟩
set_option maxRecDepth 100000 in
set_option maxHeartbeats 1000000 in
/-- a sector is let go that isn't young: in a Try -/
theorem letGo1_old (b : HB) (ok : b.ok) (s : HS) (i : Nat) (hi : i < b.n) (hs : s.S i = 1) (hy : s.Y ((b.f + i : Nat) : Int) = none) (dp : Nat) (v : Value) (fs : List Step) (w : World) (hf : fs.length < 90000) (h : HeapI b s w) (hl : LogAt b.B b.g (dp + 1) v fs w) : Calls Tryz.prog 105 #[.pointer (some ⟨b.hb, 0, none⟩), .int .i64 ((b.f + i : Nat) : Int)] w fun e w' => e = .returned (.tuple #[]) ∧ Did b.B b.g dp b.S0 (HeapI b) fs 2 s (s.letGo i ((b.f + i : Nat) : Int)) w w' := by
  have hmf : ∀ (fn : Fn) (first cap : Array Value) (w : World), (Instr.makeFunc fn first cap).run Tryz.prog w = .ok (.func fn first cap) w := fun _ _ _ _ => rfl
  obtain ⟨W, hW⟩ : ∃ W, (w.alloc (.cells #[.pointer (some ⟨b.hb, 0, none⟩)] 24)).alloc (.cells #[.int .i64 ((b.f + i : Nat) : Int)] 3) = W := ⟨_, rfl⟩
  have hF : Front b ((b.f + i : Nat) : Int) w W := hW ▸ front b _ w
  have hI : HeapI b s W := by rw [← hW]; exact (h.alloc _).alloc _
  have hL : LogAt b.B b.g (dp + 1) v fs W := hl.keep hF.grew (fun e => e) fun _ _ e => e
  have n0 := HB.not0 ok h.sz (Nat.le_refl w.heap.size)
  have n1 := HB.not0 ok h.sz (Nat.le_succ w.heap.size)
  have HD := Lib.hid (dropR b ok s i hi dp v fs W.drew (by omega) hI.drew hL.drew')
  -- behind the drop
  have HN1 : Hid (∀ w1, Did b.B b.g dp b.S0 (HeapI b) fs 1 s { s with R := upF s.R ((b.f + i : Nat) : Int) none } W.drew w1 → Let3 b w.heap.size (w.heap.size + 1) ((b.f + i : Nat) : Int) { s with R := upF s.R ((b.f + i : Nat) : Int) none } w1 ∧ Grew (Mut b.B b.S0 w) w w1) := Lib.hid fun w1 hd =>
    ⟨⟨hd.st, hF.two.kept ⟨n0, n1⟩ (Kept.of hd.fromDrew.grew)⟩, (hF.grew.mono fun _ _ e => e.elim).thenMut hd.fromDrew.grew⟩
  -- Later
  have HLa : Hid (∀ w1, HeapI b { s with R := upF s.R ((b.f + i : Nat) : Int) none } w1 → Calls Tryz.prog 136 #[.pointer (some ⟨b.m, 0, none⟩), .int .i64 ((b.f + i : Nat) : Int)] w1.drew fun e w' => ∃ r, e = .returned (.bool r) ∧ Turned b.m b.q b.f b.n s.S i 1 2 w1.drew r w') := Lib.hid fun w1 h1 => later_any b.m b.q b.f b.n s.S i w1.drew h1.drew.gr (Nat.le_trans ok.f (by decide)) (Nat.le_trans ok.n (by decide)) hi
  have HN2 : Hid (∀ w1 w2 r, Let3 b w.heap.size (w.heap.size + 1) ((b.f + i : Nat) : Int) { s with R := upF s.R ((b.f + i : Nat) : Int) none } w1 → Turned b.m b.q b.f b.n s.S i 1 2 w1.drew r w2 → Let3 b w.heap.size (w.heap.size + 1) ((b.f + i : Nat) : Int) (s.letGo i ((b.f + i : Nat) : Int)) w2 ∧ Grew (fun q => q = b.q) w1 w2) := Lib.hid fun w1 w2 r h1 ht => by
    have hg : Grew (fun q => q = b.q) w1 w2 := ((Grew.refl w1).drew).trans ht.2
    have hg' : Grew (Mut b.B b.S0 w1) w1 w2 := hg.mono fun q _ e => Or.inl ⟨3, by decide, e⟩
    exact ⟨⟨(h1.st.drew.turn ok (s := { s with R := upF s.R ((b.f + i : Nat) : Int) none }) hs ht).2, h1.two.kept ⟨n0, n1⟩ (Kept.of hg')⟩, hg⟩
  -- the step back of that
  have HBk : Hid (∀ v1 fs1 w2, LogAt b.B b.g (dp + 1) v1 (fs ++ fs1) w2 → fs1.length ≤ 1 → HeapI b (s.letGo i ((b.f + i : Nat) : Int)) w2 → Calls Tryz.prog 126 #[.pointer (some ⟨b.g, 0, none⟩), .func (.func 137) #[] #[.pointer (some ⟨w.heap.size, 0, none⟩), .pointer (some ⟨w.heap.size + 1, 0, none⟩)]] w2 fun e w' => e = .returned (.tuple #[]) ∧ ∃ v', LogAt b.B b.g (dp + 1) v' (fs ++ fs1 ++ [stepLet w.heap.size (w.heap.size + 1)]) w' ∧ Grew (fun k => k = b.g ∨ v1.ownBlock = some k) w2 w' ∧ (∀ o, ¬ o = 1 → w'.cell? ⟨b.g, o, none⟩ = w2.cell? ⟨b.g, o, none⟩) ∧ (∀ o, w'.frozen? ⟨b.g, o, none⟩ = w2.frozen? ⟨b.g, o, none⟩)) := Lib.hid fun v1 fs1 w2 l2 n1 i2 => back_some b.B b.g dp v1 (fs ++ fs1) (stepLet w.heap.size (w.heap.size + 1)) w2 l2 (by rw [List.length_append]; omega) i2.sz
  have HN3 : Hid (∀ w1 w2 w3 v1 fs1 v3, Did b.B b.g dp b.S0 (HeapI b) fs 1 s { s with R := upF s.R ((b.f + i : Nat) : Int) none } W.drew w1 → LogAt b.B b.g (dp + 1) v1 (fs ++ fs1) w1 → fs1.length ≤ 1 → Path b.B b.g b.S0 (HeapI b) fs1 s { s with R := upF s.R ((b.f + i : Nat) : Int) none } w1 → Grew (fun q => q = b.q) w1 w2 → LogAt b.B b.g (dp + 1) v1 (fs ++ fs1) w2 → Let3 b w.heap.size (w.heap.size + 1) ((b.f + i : Nat) : Int) (s.letGo i ((b.f + i : Nat) : Int)) w2 → LogAt b.B b.g (dp + 1) v3 (fs ++ fs1 ++ [stepLet w.heap.size (w.heap.size + 1)]) w3 → Grew (fun k => k = b.g ∨ v1.ownBlock = some k) w2 w3 → (∀ o, ¬ o = 1 → w3.cell? ⟨b.g, o, none⟩ = w2.cell? ⟨b.g, o, none⟩) → (∀ o, w3.frozen? ⟨b.g, o, none⟩ = w2.frozen? ⟨b.g, o, none⟩) → Did b.B b.g dp b.S0 (HeapI b) fs 2 s (s.letGo i ((b.f + i : Nat) : Int)) w w3 ∧ Boxes2 b w.heap.size (w.heap.size + 1) ((b.f + i : Nat) : Int) w3) := Lib.hid fun w1 w2 w3 v1 fs1 v3 hd l1 n1' p1 g12 l2 t2 l3 g3 k1 k2 => by
    obtain ⟨i3, m3⟩ := backed ok t2.st l2 g3 k1 k2
    have b3 := t2.two.kept ⟨n0, n1⟩ (Kept.of m3)
    have m12 : Grew (Mut b.B b.S0 w1) w1 w2 := g12.mono fun q _ e => Or.inl ⟨3, by decide, e⟩
    have m13 := m12.thenMut m3
    have hG := goodLet b ok (s.letGo i ((b.f + i : Nat) : Int)) { s with R := upF s.R ((b.f + i : Nat) : Int) none } i hi (by show upd s.S i 2 i = 2; exact if_pos rfl) _ _ w3 b3 ⟨n0, n1⟩ (by
      show HS.mk (upd (upd s.S i 2) i 1) (upF s.R ((b.f + i : Nat) : Int) none) s.Y s.G s.K = HS.mk s.S (upF s.R ((b.f + i : Nat) : Int) none) s.Y s.G s.K
      have := upd_back s.S i 2
      rw [hs] at this
      rw [this])
    have hd' := hd.fromDrew
    refine ⟨⟨⟨v3, fs1 ++ [stepLet w.heap.size (w.heap.size + 1)], by rw [← List.append_assoc]; exact l3, by rw [List.length_append]; show _ + 1 ≤ 2; omega, (p1.later (Kept.of m13)).snoc hG⟩, i3, ((hF.grew.mono fun _ _ e => e.elim).thenMut hd'.grew).thenMut m13⟩, b3⟩
  have HLk : Hid (∀ w3, HeapI b (s.letGo i ((b.f + i : Nat) : Int)) w3 → (Instr.lookup 72 (.map (some b.yb)) (.int .i64 ((b.f + i : Nat) : Int)) true).run Tryz.prog w3 = .ok (.tuple #[.agg #[], .bool false]) w3) := Lib.hid fun w3 h3 => by
    have := h3.yg.look tblIU_fine _ (b.wf ok hi)
    have e : (s.letGo i ((b.f + i : Nat) : Int)).Y ((b.f + i : Nat) : Int) = none := hy
    rw [e] at this
    exact this
  have d1 : W.drew.cell? ⟨w.heap.size, 0, none⟩ = some (.pointer (some ⟨b.hb, 0, none⟩)) := hF.d1
  have d2 : W.drew.cell? ⟨w.heap.size + 1, 0, none⟩ = some (.int .i64 ((b.f + i : Nat) : Int)) := hF.d2
  have c1 := hI.drew.c1
  have c3 := hI.drew.c3
  have HT : Hid (∀ B dp v fs w1 w2 sx, HeapI b sx w1 → LogAt B b.g dp v fs w1 → Grew (fun q => q = b.q) w1 w2 → LogAt B b.g dp v fs w2) := Lib.hid fun B dp v fs w1 w2 sx h1 l1 g1 => l1.turned ok h1 g1
  clear hF hI hL n0 n1 h hl hf hi hs hy
  generalize ((b.f + i : Nat) : Int) = T at *
  go_enter Tryz.func105, Tryz.ntmps105
  go_upto_region 1 with fail
  refine wp_region_still_tail 9 (by kernel_rfl) (by kernel_rfl) ?_
  change wpStill _ _ (W.drew) (fun a' => wpList _ _ _ _ a' (W.drew)) _ _
  simp only [List.take_succ_cons, List.take_zero, List.drop_succ_cons, List.drop_zero]
  repeat still_step
  refine wpStill_nil ?_
  go_wp2_with fail
  refine HD.out.mono ?_
  rintro e w1 ⟨rfl, hd⟩
  obtain ⟨t1, m1⟩ := HN1.out w1 hd
  obtain ⟨v1, fs1, l1, n1, p1⟩ := hd.log
  have HLx := Lib.hid (HLa.out w1 t1.st)
  have HT1 := Lib.hid t1
  have HDx := Lib.hid hd
  have HL1 := Lib.hid l1
  have HP1 := Lib.hid p1
  have d1 := t1.two.cells.1
  have d2 := t1.two.cells.2
  have d3 : w1.drew.cell? ⟨w.heap.size, 0, none⟩ = some (.pointer (some ⟨b.hb, 0, none⟩)) := d1
  have d4 : w1.drew.cell? ⟨w.heap.size + 1, 0, none⟩ = some (.int .i64 T) := d2
  have c2 := t1.st.drew.c2
  clear hd m1 l1 p1 t1 HD HN1 HLa c1 c3 d1 d2
  go_upto_region 2 with fail
  refine wp_region_still_tail 5 (by kernel_rfl) (by kernel_rfl) ?_
  change wpStill _ _ (w1.drew) (fun a' => wpList _ _ _ _ a' (w1.drew)) _ _
  simp only [List.take_succ_cons, List.take_zero, List.drop_succ_cons, List.drop_zero]
  repeat still_step
  refine wpStill_nil ?_
  go_wp2_with fail
  refine HLx.out.mono ?_
  rintro e w2 ⟨r, rfl, ht⟩
  obtain ⟨t2, g12⟩ := HN2.out w1 w2 r HT1.out ht
  have l2 := HT.out _ _ _ _ _ _ _ HT1.out.st HL1.out g12
  have HBx := Lib.hid (HBk.out v1 fs1 w2 l2 n1 t2.st)
  have HT2 := Lib.hid t2
  have HL2 := Lib.hid l2
  have HG2 := Lib.hid g12
  have d1 := t2.two.cells.1
  have d2 := t2.two.cells.2
  have c1 := t2.st.c1
  clear ht t2 g12 l2 d3 d4 c2 HN2 HLx HBk HT
  go_wp2_with fail
  refine HBx.out.mono ?_
  rintro e w3 ⟨rfl, v3, l3, g3, k1, k2⟩
  obtain ⟨hd3, b3⟩ := HN3.out w1 w2 w3 v1 fs1 v3 HDx.out HL1.out n1 HP1.out HG2.out HL2.out HT2.out l3 g3 k1 k2
  have HD3 := Lib.hid ((hd3.alloc (.cells #[] 159)).drew)
  have i4 := HD3.out.st
  have b4 := b3.alloc (.cells #[] 159)
  have hlk := HLk.out _ i4
  have d3 : (w3.alloc (.cells #[] 159)).drew.cell? ⟨w.heap.size, 0, none⟩ = some (.pointer (some ⟨b.hb, 0, none⟩)) := b4.cells.1
  have d4 : (w3.alloc (.cells #[] 159)).drew.cell? ⟨w.heap.size + 1, 0, none⟩ = some (.int .i64 T) := b4.cells.2
  have c4 := i4.c4
  have i5 := hd3.st.drew
  have c5 := i5.c4
  have hlk5 := HLk.out _ i5
  have d5 : w3.drew.cell? ⟨w.heap.size, 0, none⟩ = some (.pointer (some ⟨b.hb, 0, none⟩)) := b3.cells.1
  have d6 : w3.drew.cell? ⟨w.heap.size + 1, 0, none⟩ = some (.int .i64 T) := b3.cells.2
  clear i5 l3 g3 k1 k2 hd3 b3 b4 i4 d1 d2 c1 HN3 HBx HT2 HL2 HG2 HDx HL1 HP1 HT1 HLk n1
  go_upto_region 4 with fail
  go_region
  all_goals go_wp2_with fail
  all_goals go_end0
  all_goals exact ⟨rfl, HD3.out⟩
end Go.Proofs.YtbohpffigmllkaaGreatDoor

/-
  A heap within a Try: Less of one that one wants; freeGone of none and of one; a Try of the heap: contracts.
-/
namespace Go.Proofs.YtbohpffigmllkaaGreatDoor
open Go.RowKit Go.Maps Go.ChangeMaps Go.WideShapes

set_option maxRecDepth 100000 in
set_option maxHeartbeats 1000000 in
theorem less1_last (b : HB) (ok : b.ok) (s s' : HS) (i n : Nat) (hi : i < b.n) (hs : s.S i = 1) (hr : s.R ((b.f + i : Nat) : Int) = some 1) (dp : Nat) (fs : List Step) (w : World) (h : HeapI b s w)
    (hlet : Calls Tryz.prog 105 #[.pointer (some ⟨b.hb, 0, none⟩), .int .i64 ((b.f + i : Nat) : Int)] w.drew fun e w' => e = .returned (.tuple #[]) ∧ Did b.B b.g dp b.S0 (HeapI b) fs n s s' w.drew w') :
    Calls Tryz.prog 66 #[.pointer (some ⟨b.hb, 0, none⟩), .int .i64 ((b.f + i : Nat) : Int)] w fun e w' => e = .returned (.bool true) ∧ Did b.B b.g dp b.S0 (HeapI b) fs n s s' w w' := by
  have HN := Lib.hid (needHeld_ok b ok s i hi hs w h)
  have hd1 := h.drew
  have c3 := hd1.c3
  have hlk : (Instr.lookup 71 (.map (some b.rb)) (.int .i64 ((b.f + i : Nat) : Int)) false).run Tryz.prog w.drew = .ok (.int .i64 1) w.drew := by
    have := hd1.rf.look1 tblII_fine _ (b.wf ok hi)
    rw [hr] at this
    exact this
  have HP := Lib.hid hlet
  clear hlet hd1 h hs hr hi
  generalize ((b.f + i : Nat) : Int) = T at *
  go_enter Tryz.func66, Tryz.ntmps66
  go_wp2_with fail
  refine HN.out.mono ?_
  rintro e w' ⟨rfl, rfl⟩
  clear HN
  go_wp2_with fail
  refine HP.out.mono ?_
  rintro e w2 ⟨rfl, hd⟩
  have HD := Lib.hid hd.fromDrew
  clear hd HP
  go_wp2_with fail
  go_ret
  exact ⟨rfl, HD.out⟩
theorem less1_old (b : HB) (ok : b.ok) (s : HS) (i : Nat) (hi : i < b.n) (hs : s.S i = 1) (hr : s.R ((b.f + i : Nat) : Int) = some 1) (hy : s.Y ((b.f + i : Nat) : Int) = none) (dp : Nat) (v : Value) (fs : List Step) (w : World) (hf : fs.length < 90000) (h : HeapI b s w) (hl : LogAt b.B b.g (dp + 1) v fs w) :
    Calls Tryz.prog 66 #[.pointer (some ⟨b.hb, 0, none⟩), .int .i64 ((b.f + i : Nat) : Int)] w fun e w' => e = .returned (.bool true) ∧ Did b.B b.g dp b.S0 (HeapI b) fs 2 s (s.letGo i ((b.f + i : Nat) : Int)) w w' :=
  less1_last b ok s _ i 2 hi hs hr dp fs w h (letGo1_old b ok s i hi hs hy dp v fs w.drew hf h.drew hl.drew')
theorem HeapI.clear5 {b : HB} {s : HS} {w : World} (ok : b.ok) (h : HeapI b s w) : HeapI b { s with G := [] } (w.setCell ⟨b.hb, 5, none⟩ (.slice none 0 0)) := by
  have k : Grew (fun q => q = b.blk 0) w (w.setCell ⟨b.hb, 5, none⟩ (.slice none 0 0)) := (Grew.refl (S := fun q => q = b.blk 0) w).setCell _ _ fun _ => rfl
  have u := h.but ok (j := 0) (by decide) k
  obtain ⟨v, e5, _⟩ := h.c5
  have o : ∀ j, j ≠ 5 → (w.setCell ⟨b.hb, 5, none⟩ (.slice none 0 0)).cell? ⟨b.hb, j, none⟩ = w.cell? ⟨b.hb, j, none⟩ := fun j hj => World.cell?_setCell_other _ _ _ _ (by intro e; cases e; exact hj rfl)
  exact ⟨(o 0 (by decide)).trans h.c0, (o 1 (by decide)).trans h.c1, (o 2 (by decide)).trans h.c2, (o 3 (by decide)).trans h.c3, (o 4 (by decide)).trans h.c4, ⟨_, World.cell?_setCell_same _ _ _ e5, World.ownsRow_nil _ _ _ _⟩, (o 6 (by decide)).trans h.c6, fun x => by rw [World.frozen?_setCell]; exact h.fr x, u.gr (by decide) (by decide), u.rf (by decide), u.yg (by decide), u.dk (by decide), u.sz, h.kd.set _ _, fun _ => World.cell?_setCell_same _ _ _ e5⟩
theorem int_cell {B n cap : Nat} {ao : Option Addr} {fs : List Nat} {w : World} (h : w.ownsRow B 3 1 (.slice ao n cap) n (intsG fs)) (i : Nat) (hi : i < fs.length) : ∃ b, ao = some ⟨b, 0, none⟩ ∧ w.cell? ⟨b, i, none⟩ = some (.int .i64 ((fs[i] : Nat) : Int)) ∧ n ≤ cap := by
  have hl : fs.length = n := by simpa [intsG] using h.1
  rcases h.2 with ⟨e, h0⟩ | ⟨b, cap', cur, e, a1, a2, a3, a4, a5, a6⟩
  · omega
  · cases e
    refine ⟨b, rfl, ?_, a3⟩
    have := h.cells (g := b) rfl i (.int .i64 ((fs[i] : Nat) : Int)) (by simp [intsG, hi])
    rw [Addr.add_lit] at this
    simpa using this
/-- the first k that were gone are free -/
def goneS (b : HB) (s : HS) (k : Nat) : HS := { s with S := fun i => if b.f + i ∈ s.G.take k then 0 else s.S i }
theorem goneS_zero (b : HB) (s : HS) : goneS b s 0 = s := by
  have : (fun i => if b.f + i ∈ s.G.take 0 then 0 else s.S i) = s.S := funext fun i => if_neg (by simp)
  unfold goneS
  rw [this]
theorem goneS_at (b : HB) (s : HS) (hn : s.G.Nodup) (k i : Nat) (hk : k < s.G.length) (hx : s.G[k] = b.f + i) : (goneS b s k).S i = s.S i := by
  refine if_neg fun hm => ?_
  obtain ⟨j, hj, e⟩ := List.mem_take_iff_getElem.1 hm
  have hj' : j < k := by omega
  exact List.pairwise_iff_getElem.1 hn j k (by omega) hk hj' (e.trans hx.symm)
theorem goneS_succ (b : HB) (s : HS) (k i : Nat) (hk : k < s.G.length) (hx : s.G[k] = b.f + i) : { goneS b s k with S := upd (upd (goneS b s k).S i 1) i 0 } = goneS b s (k + 1) := by
  have : upd (upd (goneS b s k).S i 1) i 0 = (goneS b s (k + 1)).S := by
    rw [upd_upd]
    funext j
    show (if j = i then 0 else if b.f + j ∈ s.G.take k then 0 else s.S j) = if b.f + j ∈ s.G.take (k + 1) then 0 else s.S j
    rw [List.take_succ_eq_append_getElem hk, hx]
    by_cases h : j = i
    · subst h
      rw [if_pos rfl, if_pos (by simp)]
    · rw [if_neg h]
      by_cases h2 : b.f + j ∈ s.G.take k
      · rw [if_pos h2, if_pos (by simp [h2])]
      · rw [if_neg h2, if_neg (by simp [h2, h])]
  rw [this]
  rfl
set_option maxRecDepth 100000 in
set_option maxHeartbeats 1000000 in
/-- what was let go of young ones is free -/
theorem freeGone_any (b : HB) (ok : b.ok) (s : HS) (hG : ∀ x ∈ s.G, ∃ i, i < b.n ∧ x = b.f + i ∧ s.S i = 2) (hn : s.G.Nodup) (hlen : s.G.length < 100000) (w : World) (h : HeapI b s w) : Calls Tryz.prog 55 #[.pointer (some ⟨b.hb, 0, none⟩)] w fun e w' => e = .returned (.tuple #[]) ∧ HeapI b { goneS b s s.G.length with G := [] } w' ∧ Grew (fun q => q = b.hb ∨ q = b.q) w w' := by
  have Hst := Lib.hid h
  obtain ⟨v, e5, hv⟩ := h.c5
  obtain ⟨_, a, c, hvv⟩ := rowOwn hv
  have hvv : v = .slice a s.G.length c := hvv
  subst hvv
  have HV := Lib.hid hv
  have HGo := Lib.hid hG
  clear h hv hG
  go_enter Tryz.func55, Tryz.ntmps55
  go_wp2_with fail
  go_loopw [9] (fun i wx => ∃ k : Nat, k ≤ s.G.length ∧ i = .int .i64 k ∧ HeapI b (goneS b s k) wx ∧ wx.ownsRow b.B 3 1 (.slice a s.G.length c) s.G.length (intsG s.G) ∧ Grew (fun q => q = b.q) w wx) (fun i _ => s.G.length - (intOf i).toNat)
  case atStart => exact ⟨0, Nat.zero_le _, rfl, by rw [goneS_zero]; exact Hst.out, HV.out, Grew.refl w⟩
  case round =>
    obtain ⟨k, hk, rfl, hI, hv, hg⟩ := hrel
    have HG := Lib.hid hg
    clear hg
    by_cases hlt : k < s.G.length
    · obtain ⟨bb, rfl, hc, hcap⟩ := int_cell hv k hlt
      obtain ⟨i, hi, hx, hs⟩ := HGo.out s.G[k] (List.getElem_mem hlt)
      rw [hx] at hc
      have i1 : (k : Int) < (s.G.length : Int) := by omega
      have i0 : (0 : Int) ≤ (k : Int) := by omega
      have hk2 : (goneS b s k).S i = 2 := (goneS_at b s hn k i hlt hx).trans hs
      have HB := Lib.hid (back_any b.m b.q b.f b.n (goneS b s k).S i wr hI.gr (Nat.le_trans ok.f (by decide)) (Nat.le_trans ok.n (by decide)) hi)
      have c2 := hI.c2
      have HT : Hid (∀ r w1, Turned b.m b.q b.f b.n (goneS b s k).S i 2 1 wr r w1 → HeapI b { goneS b s k with S := upd (goneS b s k).S i 1 } w1 ∧ Calls Tryz.prog 92 #[.pointer (some ⟨b.m, 0, none⟩), .int .i64 ((b.f + i : Nat) : Int)] w1 fun e w' => ∃ r, e = .returned (.bool r) ∧ (HeapI b (goneS b s (k + 1)) w' ∧ w'.ownsRow b.B 3 1 (.slice (some ⟨bb, 0, none⟩) s.G.length c) s.G.length (intsG s.G) ∧ Grew (fun q => q = b.q) w w')) := Lib.hid fun r w1 ht => by
        have h1 := (hI.turn ok hk2 ht).2
        refine ⟨h1, (give_any b.m b.q b.f b.n _ i w1 h1.gr (Nat.le_trans ok.f (by decide)) (Nat.le_trans ok.n (by decide)) hi).mono ?_⟩
        rintro e w2 ⟨r2, rfl, ht2⟩
        have h2 := (h1.turn ok (show upd (goneS b s k).S i 1 i = 1 from if_pos rfl) ht2).2
        have gg : Grew (fun q => q = b.q) wr w2 := ht.2.trans ht2.2
        refine ⟨r2, rfl, ?_, ownInt_keep hv gg fun q hq e => ?_, HG.out.trans gg⟩
        · rw [← goneS_succ b s k i hlt hx]
          exact h2
        · have a1 := (hv.lt q hq).1
          have a2 := ok.lt 3 (by decide)
          have a3 : b.blk 3 = b.q := rfl
          omega
      clear hI hv hs hx
      go_wp2_with fail
      refine HB.out.mono ?_
      rintro e w1 ⟨r, rfl, ht⟩
      obtain ⟨h1, hg1⟩ := HT.out r w1 ht
      have HGi := Lib.hid hg1
      have c2 := h1.c2
      clear h1 hg1 ht HB HT
      go_wp2_with fail
      refine HGi.out.mono ?_
      rintro e w2 ⟨r2, rfl, h2⟩
      have H2 := Lib.hid h2
      clear h2 HGi
      go_wp2_with fail
      go_roundw
      case rel => exact ⟨k + 1, by omega, rfl, H2.out⟩
      case measure => simp [intOf]; omega
    · have i1 : ¬ (k : Int) < (s.G.length : Int) := by omega
      obtain rfl : k = s.G.length := by omega
      have HC := Lib.hid (hI.clear5 ok)
      have HGg : Hid (Grew (fun q => q = b.hb ∨ q = b.q) w (wr.setCell ⟨b.hb, 5, none⟩ (.slice none 0 0))) := Lib.hid ((HG.out.mono fun _ _ e => Or.inr e).step ((Grew.refl (S := fun q => q = b.hb) wr).setCell _ _ fun _ => rfl) fun _ _ e => Or.inl e)
      have f5 := hI.fr 5
      obtain ⟨v5, c5, _⟩ := hI.c5
      clear hI hv
      go_wp2_with fail
      go_end0
      exact ⟨rfl, HC.out, HGg.out⟩
end Go.Proofs.YtbohpffigmllkaaGreatDoor

/-
  An outermost Try of a heap: contract.
-/
namespace Go.Proofs.YtbohpffigmllkaaGreatDoor
open Go.RowKit Go.Maps Go.ChangeMaps Go.WideShapes

/-- those that are gone are late, each once -/
structure GoneOk (b : HB) (s : HS) : Prop where
  all : ∀ x ∈ s.G, ∃ i, i < b.n ∧ x = b.f + i ∧ s.S i = 2
  nd : s.G.Nodup
  len : s.G.length < 100000
theorem GoneOk.nil {b : HB} {s : HS} (h : s.G = []) : GoneOk b s := ⟨by rw [h]; simp, by rw [h]; exact List.nodup_nil, by rw [h]; decide⟩
/-- behind an outermost Try -/
def HS.fin (b : HB) (s : HS) : HS := { goneS b s s.G.length with G := [] }
theorem HS.fin_nil (b : HB) (s : HS) (h : s.G = []) : s.fin b = s := by
  unfold HS.fin
  rw [h]
  show ({ goneS b s 0 with G := [] } : HS) = s
  rw [goneS_zero]
  cases s
  cases h
  rfl
theorem deep0_any (B g dp : Nat) (v : Value) (fs : List Step) (w : World) (h : LogAt B g dp v fs w) : Calls Tryz.prog 54 #[.pointer (some ⟨g, 0, none⟩)] w fun e w' => e = .returned (.int .i64 dp) ∧ w = w' := by
  have c0 := h.c0
  clear h
  go_enter Tryz.func54, Tryz.ntmps54
  go_wp2_with fail
  go_ret
  exact ⟨rfl, rfl⟩
set_option maxHeartbeats 1000000 in
theorem try_gen0 {σ : Type} {g : Nat} {S0 : Nat → Prop} {I : σ → World → Prop} (L : Logged g S0 I) (B dp : Nat) (v : Value) (fs : List Step) (run : FuncId) (cap : Array Value) (s0 : σ) (w : World) (hL : LogAt B g dp v fs w) (hd : dp < 100000) (hI : I s0 w) (R : Option Int → List Step → σ → World → Prop)
    (hcall : ∀ wy : World, (callFunc run cap).run Tryz.prog wy = .ok (.enter run cap) wy)
    (hrun : LogAt B g (dp + 1) v fs (tryWorld g dp w) → I s0 (tryWorld g dp w) → Calls Tryz.prog run cap (tryWorld g dp w) fun e w' => ∃ o fs' v' s1, e = Ends o ∧ LogAt B g (dp + 1) v' (fs ++ fs') w' ∧ (∀ k, o = some k → ¬ k = 0) ∧ I s1 w' ∧ Path B g S0 I fs' s0 s1 w' ∧ (fs ++ fs').length < 100000 ∧ Grew (Mut B S0 (tryWorld g dp w)) (tryWorld g dp w) w' ∧ R o fs' s1 w') :
    Calls Tryz.prog 53 #[.pointer (some ⟨g, 0, none⟩), .func (.func run) #[] cap] w fun e w' => ∃ o fs' s1 w1, e = .returned (.int .i64 (o.getD 0)) ∧ R o fs' s1 w1 ∧ Grew (fun k => Mut B S0 w1 k ∨ k = w.heap.size) w1 w' ∧ Grew (Mut B S0 w) w w' ∧ (dp = 0 → w'.cell? ⟨g, 1, none⟩ = some (.slice none 0 0)) ∧ w.heap.size < w1.heap.size ∧ w1.heap[w.heap.size]? = some errBox ∧
      ((o = none ∧ I s1 w' ∧ (∃ v', LogAt B g dp v' (if dp = 0 then [] else fs ++ fs') w') ∧ Path B g S0 I fs' s0 s1 w') ∨ (∃ k, o = some k ∧ ¬ k = 0 ∧ I s0 w' ∧ ∃ v', LogAt B g dp v' (if dp = 0 then [] else fs) w')) := by
  have hgl := hL.lt
  have hne : w.heap.size ≠ g := by omega
  have hL1 : LogAt B g (dp + 1) v fs (tryWorld g dp w) := (hL.deep (dp + 1)).keepAlloc _
  have hI1 : I s0 (tryWorld g dp w) := L.keep _ _ _ (L.set _ _ 0 (.int .i64 ((dp + 1 : Nat) : Int)) (by decide) hI) (grow_not S0 _ errBox)
  have hs1 := tryWorld_size g dp w
  have hb1 := tryWorld_box g dp w
  have hnm : ¬ Mut B S0 (tryWorld g dp w) w.heap.size := by
    rintro (m | m)
    · have := L.lt _ _ _ hI m
      omega
    · exact notFunc_err hb1 m
  have gW : Grew (Mut B S0 w) w (tryWorld g dp w) := (tryWorld_grew g dp w).mono fun x _ e => by subst e; exact Or.inl L.own
  have hend : ∀ wx, Grew (fun k => k = g) wx (endTry g dp wx) := fun wx => by
    unfold endTry
    by_cases h0 : dp = 0
    · rw [if_pos h0]
      exact ((Grew.refl (S := fun k => k = g) wx).setCell _ _ fun _ => rfl).setCell _ _ fun _ => rfl
    · rw [if_neg h0]
      exact (Grew.refl (S := fun k => k = g) wx).setCell _ _ fun _ => rfl
  have hendI : ∀ s wx, I s wx → I s (endTry g dp wx) := fun s wx h => by
    unfold endTry
    by_cases h0 : dp = 0
    · rw [if_pos h0]
      exact L.set _ _ 1 _ (by decide) (L.set _ _ 0 _ (by decide) h)
    · rw [if_neg h0]
      exact L.set _ _ 0 _ (by decide) h
  have hns : ∀ s wx, I s wx → wx = wx → ¬ S0 w.heap.size := fun _ _ _ _ m => by
    have := L.lt _ _ _ hI m
    omega
  refine (try_any B g dp v fs run cap w hL hd
    (fun o fs' w' => ∃ s1, I s1 w' ∧ Path B g S0 I fs' s0 s1 w' ∧ (fs ++ fs').length < 100000 ∧ Grew (Mut B S0 (tryWorld g dp w)) (tryWorld g dp w) w' ∧ R o fs' s1 w')
    (fun k w' => ∃ fs' s1 w1, R (some k) fs' s1 w1 ∧ I s0 w' ∧ Grew (fun k => Mut B S0 w1 k ∨ k = w.heap.size) w1 w' ∧ Grew (Mut B S0 w) w w1 ∧ Grew (Mut B S0 w) w w' ∧ w.heap.size < w1.heap.size ∧ w1.heap[w.heap.size]? = some errBox) hcall ?_ ?_).mono ?_
  · refine (hrun hL1 hI1).mono ?_
    rintro e w' ⟨o, fs', v', s1, rfl, hl, hk, hi, hp, hlen, hgr, hR⟩
    refine ⟨o, fs', v', rfl, ?_, hl, hk, s1, hi, hp, hlen, hgr, hR⟩
    rw [hgr.block _ (by omega) hnm]
    exact hb1
  · rintro k fs' v' w' hbx hl ⟨s1, hi, hp, hlen, hgr, hR⟩
    have gd := done_alone w.heap.size (some k) w'
    have gdm : Grew (fun k => ¬ S0 k ∧ Touch w' k) w' (done w.heap.size (some k) w') := gd.mono fun x _ e => by subst e; exact ⟨hns _ _ hi rfl, _, _, _, hbx, Or.inr rfl⟩
    have hid := L.keep _ _ _ hi gdm
    have gw' : Grew (Mut B S0 w) w w' := gW.thenMut hgr
    have gwd : Grew (Mut B S0 w) w (done w.heap.size (some k) w') := gw'.err rfl (Nat.le_refl _)
    have hpd : Path B g S0 I fs' s0 s1 (done w.heap.size (some k) w') := hp.later (Kept.done hbx _)
    refine (undo_gen L B (dp + 1) fs.length fs fs' s0 s1 v' _ hl hid rfl hlen hpd).mono ?_
    rintro e w2 ⟨rfl, hv2, hi2, hg2⟩
    have hlt : w.heap.size < w'.heap.size := Nat.lt_of_lt_of_le (by rw [hs1]; omega) hgr.size
    have hgx : Grew (fun q => Mut B S0 w' q ∨ q = w.heap.size) w' w2 := (gd.mono fun x _ e => Or.inr e).step hg2 fun x hx m => by
      by_cases hxe : x = w.heap.size
      · exact Or.inr hxe
      · rcases m with m | ⟨hB, c, fz, e⟩
        · exact Or.inl (Or.inl m)
        · rw [gd.block x hx hxe] at e
          exact Or.inl (Or.inr ⟨hB, c, fz, e⟩)
    exact ⟨rfl, hv2, fs', s1, w', hR, hi2, hgx, gw', gwd.thenMut hg2, hlt, hbx⟩
  · rintro e w' ⟨o, rfl, w3, rfl, h⟩
    rcases h with ⟨rfl, fs', w1, ⟨s1, hi, hp, hlen, hgr, hR⟩, hbx, rfl, v', hl⟩ | ⟨k, rfl, hk, ⟨fs', s1, w1, hR, hi, hgx, gw1, gw3, hlt, hbx⟩, v', hl⟩
    · have gd := done_alone w.heap.size none w1
      have gdm : Grew (fun k => ¬ S0 k ∧ Touch w1 k) w1 (done w.heap.size none w1) := gd.mono fun x _ e => by subst e; exact ⟨hns _ _ hi rfl, _, _, _, hbx, Or.inr rfl⟩
      have hid := L.keep _ _ _ hi gdm
      have gw' : Grew (Mut B S0 w) w w1 := gW.thenMut hgr
      have gwd : Grew (Mut B S0 w) w (done w.heap.size none w1) := gw'.err rfl (Nat.le_refl _)
      have hlt : w.heap.size < w1.heap.size := Nat.lt_of_lt_of_le (by rw [hs1]; omega) hgr.size
      have hge := hend (done w.heap.size none w1)
      obtain ⟨v2, hl2⟩ := hl.endTry (dp := dp)
      refine ⟨none, fs', s1, w1, rfl, hR, ?_, gwd.step hge fun x _ e => by subst e; exact Or.inl L.own, fun e0 => by subst e0; exact (hl.end0 B).c1, hlt, hbx, Or.inl ⟨rfl, hendI _ _ hid, ⟨v2, hl2⟩, ?_⟩⟩
      · exact (gd.mono fun x _ e => Or.inr e).step hge fun x _ e => by subst e; exact Or.inl (Or.inl L.own)
      · exact (hp.later (Kept.done hbx _)).later (Kept.of (B := B) (hge.mono fun x _ e => by rw [e]; exact Or.inl L.own))
    · have hge := hend w3
      obtain ⟨v2, hl2⟩ := hl.endTry (dp := dp)
      exact ⟨some k, fs', s1, w1, rfl, hR, hgx.step hge fun x _ e => by subst e; exact Or.inl (Or.inl L.own), gw3.step hge fun x _ e => by subst e; exact Or.inl L.own, fun e0 => by subst e0; exact (hl.end0 B).c1, hlt, hbx, Or.inr ⟨k, rfl, hk, hendI _ _ hi, v2, hl2⟩⟩
/-- what an outermost Try of a heap leaves -/
structure Tried (b : HB) (s : HS) (w : World) (o : Option Int) (s1 : HS) (w1 w' : World) : Prop where
  st : HeapI b (if o = none then s1.fin b else s) w'
  log : LogAt b.B b.g 0 (.slice none 0 0) [] w'
  tail : Grew (fun k => Mut b.B b.S0 w1 k ∨ k = w.heap.size) w1 w'
  grew : Grew (Mut b.B b.S0 w) w w'
set_option maxRecDepth 100000 in
set_option maxHeartbeats 1000000 in
theorem hTry_any (b : HB) (ok : b.ok) (s : HS) (hs0 : s.G = []) (v : Value) (w : World) (h : HeapI b s w) (hl : LogAt b.B b.g 0 v [] w) (run : FuncId) (cap : Array Value) (R : Option Int → HS → World → Prop)
    (hcall : ∀ wy : World, (callFunc run cap).run Tryz.prog wy = .ok (.enter run cap) wy)
    (hrun : LogAt b.B b.g 1 v [] (tryWorld b.g 0 w) → HeapI b s (tryWorld b.g 0 w) → Calls Tryz.prog run cap (tryWorld b.g 0 w) fun e w' => ∃ o fs' v' s1, e = Ends o ∧ LogAt b.B b.g 1 v' fs' w' ∧ (∀ k, o = some k → ¬ k = 0) ∧ HeapI b s1 w' ∧ Path b.B b.g b.S0 (HeapI b) fs' s s1 w' ∧ fs'.length < 100000 ∧ Grew (Mut b.B b.S0 (tryWorld b.g 0 w)) (tryWorld b.g 0 w) w' ∧ (o = none → GoneOk b s1) ∧ R o s1 w') :
    Calls Tryz.prog 12 #[.pointer (some ⟨b.hb, 0, none⟩), .func (.func run) #[] cap] w fun e w' => ∃ o s1 w1, e = .returned (.int .i64 (o.getD 0)) ∧ R o s1 w1 ∧ Tried b s w o s1 w1 w' := by
  have HT := Lib.hid (try_gen0 (heapLogged ok) b.B 0 v [] run cap s w hl (by decide) h (fun o _ s1 w1 => (o = none → GoneOk b s1) ∧ R o s1 w1) hcall (fun a1 a2 => (hrun a1 a2).mono (by
    rintro e w' ⟨o, fs', v', s1, he, l1, hk, i1, p1, n1, g1, r1⟩
    exact ⟨o, fs', v', s1, he, l1, hk, i1, p1, n1, g1, r1⟩)))
  have c1 := h.c1
  have HS0 := Lib.hid hs0
  clear h hl hrun hs0
  go_enter Tryz.func12, Tryz.ntmps12
  go_wp2_with fail
  refine HT.out.mono ?_
  rintro e w2 ⟨o, fs', s1, w1, rfl, ⟨hgo, hR⟩, g12, g02, hz, _, _, hend⟩
  have hmid : HeapI b (if o = none then s1 else s) w2 ∧ (∃ v', LogAt b.B b.g 0 v' [] w2) ∧ GoneOk b (if o = none then s1 else s) ∧ (if o = none then s1 else s).fin b = if o = none then s1.fin b else s := by
    rcases hend with ⟨rfl, i2, hv, _⟩ | ⟨k, rfl, _, i2, hv⟩
    · exact ⟨i2, hv, hgo rfl, rfl⟩
    · exact ⟨i2, hv, GoneOk.nil HS0.out, s.fin_nil b HS0.out⟩
  obtain ⟨i2, ⟨v2, l2⟩, go2, e2⟩ := hmid
  obtain rfl : v2 = .slice none 0 0 := Option.some.inj (l2.c1.symm.trans (hz trivial))
  have HF := Lib.hid (freeGone_any b ok _ go2.all go2.nd go2.len w2 i2)
  have HD := Lib.hid (deep0_any b.B b.g 0 _ [] w2 l2)
  have c1 := i2.c1
  have HEnd : Hid (∀ w3, HeapI b { goneS b (if o = none then s1 else s) (if o = none then s1 else s).G.length with G := [] } w3 → Grew (fun q => q = b.hb ∨ q = b.q) w2 w3 → Tried b s w o s1 w1 w3) := Lib.hid fun w3 h3 g3 => by
    have g3' : ∀ x, (x = b.hb ∨ x = b.q) → b.S0 x := fun x e => by
      rcases e with e | e
      · exact ⟨0, by decide, e⟩
      · exact ⟨3, by decide, e⟩
    refine ⟨e2 ▸ h3, l2.keep g3 ?_ fun q hq e => ?_, g12.step g3 fun x _ e => Or.inl (Or.inl (g3' x e)), g02.step g3 fun x _ e => Or.inl (g3' x e)⟩
    · rintro (e | e)
      · exact ok.nd 1 0 (by decide) (by decide) (by decide) e
      · exact ok.nd 1 3 (by decide) (by decide) (by decide) e
    · have a1 := (l2.row.lt q hq).1
      obtain ⟨j, hj, rfl⟩ := g3' q e
      have := ok.lt j hj
      omega
  clear i2 l2 go2 e2 g12 g02 hend hgo HT HS0
  go_wp2_with fail
  refine HD.out.mono ?_
  rintro e w3 ⟨rfl, rfl⟩
  clear HD
  go_wp2_with fail
  refine HF.out.mono ?_
  rintro e w3 ⟨rfl, h3, g3⟩
  have HX := Lib.hid (HEnd.out w3 h3 g3)
  have HR := Lib.hid hR
  clear h3 g3 HEnd HF hR
  go_wp2_with fail
  go_ret
  exact ⟨o, s1, w1, rfl, HR.out, HX.out⟩
end Go.Proofs.YtbohpffigmllkaaGreatDoor

/-
  A heap within a Try: who is gone, set and undone: contracts.
-/
namespace Go.Proofs.YtbohpffigmllkaaGreatDoor
open Go.RowKit Go.Maps Go.ChangeMaps Go.WideShapes

theorem HeapI.gone {b : HB} {s : HS} {w : World} (ok : b.ok) (h : HeapI b s w) (G : List Nat) (u : Value) (hu : w.ownsRow b.B 3 1 u G.length (intsG G)) (hn : G = [] → u = .slice none 0 0) : HeapI b { s with G := G } (w.setCell ⟨b.hb, 5, none⟩ u) := by
  have k : Grew (fun q => q = b.blk 0) w (w.setCell ⟨b.hb, 5, none⟩ u) := (Grew.refl (S := fun q => q = b.blk 0) w).setCell _ _ fun _ => rfl
  have c := h.but ok (j := 0) (by decide) k
  obtain ⟨v, e5, _⟩ := h.c5
  have o : ∀ j, j ≠ 5 → (w.setCell ⟨b.hb, 5, none⟩ u).cell? ⟨b.hb, j, none⟩ = w.cell? ⟨b.hb, j, none⟩ := fun j hj => World.cell?_setCell_other _ _ _ _ (by intro e; cases e; exact hj rfl)
  refine ⟨(o 0 (by decide)).trans h.c0, (o 1 (by decide)).trans h.c1, (o 2 (by decide)).trans h.c2, (o 3 (by decide)).trans h.c3, (o 4 (by decide)).trans h.c4, ⟨_, World.cell?_setCell_same _ _ _ e5, ownInt_keep hu k fun q hq e => ?_⟩, (o 6 (by decide)).trans h.c6, fun x => by rw [World.frozen?_setCell]; exact h.fr x, c.gr (by decide) (by decide), c.rf (by decide), c.yg (by decide), c.dk (by decide), c.sz, h.kd.set _ _, fun e => (World.cell?_setCell_same _ _ _ e5).trans (congrArg some (hn e))⟩
  have a1 := (hu.lt q hq).1
  have a2 := ok.lt 0 (by decide)
  have e' : q = b.blk 0 := e
  omega
def stepG (x y : Nat) : Step := (165, #[.pointer (some ⟨x, 0, none⟩), .pointer (some ⟨y, 0, none⟩)])
structure GBox (b : HB) (x y : Nat) (v : Value) (w : World) : Prop where
  bx : w.heap[x]? = some (.cells #[v] 54)
  by' : w.heap[y]? = some (.cells #[.pointer (some ⟨b.hb, 5, none⟩)] 163)
set_option maxRecDepth 100000 in
theorem gStep_any (b : HB) (s : HS) (a : Option Addr) (n c : Nat) (x y : Nat) (w : World) (d1 : w.cell? ⟨x, 0, none⟩ = some (.slice a n c)) (d2 : w.cell? ⟨y, 0, none⟩ = some (.pointer (some ⟨b.hb, 5, none⟩))) (h : HeapI b s w) : Calls Tryz.prog 165 #[.pointer (some ⟨x, 0, none⟩), .pointer (some ⟨y, 0, none⟩)] w fun e w' => e = .returned (.tuple #[]) ∧ w.setCell ⟨b.hb, 5, none⟩ (.slice a n c) = w' := by
  obtain ⟨v, c5, _⟩ := h.c5
  have f5 := h.fr 5
  clear h
  go_enter Tryz.func165, Tryz.ntmps165
  go_wp2_with fail
  go_end0
  exact ⟨rfl, rfl⟩
set_option maxRecDepth 100000 in
theorem goodG (b : HB) (ok : b.ok) (s s0 : HS) (a : Option Addr) (n c x y : Nat) (w : World) (hB : GBox b x y (.slice a n c) w) (hS : ¬ b.S0 x ∧ ¬ b.S0 y) (ho : w.ownsRow b.B 3 1 (.slice a n c) s0.G.length (intsG s0.G)) (hn : s0.G = [] → (Value.slice a n c) = .slice none 0 0) (h0 : { s with G := s0.G } = s0) : Good b.B b.g b.S0 (HeapI b) (stepG x y) s s0 w := by
  refine ⟨fun _ => rfl, fun k => k = x ∨ k = y ∨ (Value.slice a n c).ownBlock = some k, ?_, ?_⟩
  · rintro k (rfl | rfl | hk)
    · exact ⟨hS.1, _, _, _, hB.bx, by decide, by decide⟩
    · exact ⟨hS.2, _, _, _, hB.by', by decide, by decide⟩
    · obtain ⟨cc, fz, e⟩ := Lib.ownsRow_kind ho k hk
      refine ⟨?_, cc, _, fz, e, by decide, by decide⟩
      rintro ⟨i, hi, rfl⟩
      have a1 := (ho.lt _ hk).1
      have a2 := ok.lt i hi
      omega
  · intro wx hx hI
    have p1 := hx x (Or.inl rfl)
    have p2 := hx y (Or.inr (Or.inl rfl))
    rw [hB.bx] at p1
    rw [hB.by'] at p2
    have hox : wx.ownsRow b.B 3 1 (.slice a n c) s0.G.length (intsG s0.G) := by
      rcases ho.2 with ⟨e, h0⟩ | ⟨r, cap, cur, e, a1, a2, a3, a4, a5, a6⟩
      · exact ⟨ho.1, Or.inl ⟨e, h0⟩⟩
      · exact ⟨ho.1, Or.inr ⟨r, cap, cur, e, a1, (hx r (Or.inr (Or.inr (by rw [e]; rfl)))).trans a2, a3, a4, a5, a6⟩⟩
    refine (gStep_any b s a n c x y wx (by simp [World.cell?, p1]) (by simp [World.cell?, p2]) hI).mono ?_
    rintro e w' ⟨rfl, rfl⟩
    have g : Grew (fun q => q = b.hb) wx (wx.setCell ⟨b.hb, 5, none⟩ (.slice a n c)) := (Grew.refl wx).setCell _ _ fun _ => rfl
    refine ⟨rfl, ?_, g.mono fun q _ e => Or.inl ⟨0, by decide, e⟩, fun B' dp v fs hl => hl.keep g (fun e => ok.nd 1 0 (by decide) (by decide) (by decide) e) fun q hq e => ?_⟩
    · rw [← h0]
      exact hI.gone ok s0.G _ hox hn
    · subst e
      exact hI.kd.ne hl.row hq
end Go.Proofs.YtbohpffigmllkaaGreatDoor
