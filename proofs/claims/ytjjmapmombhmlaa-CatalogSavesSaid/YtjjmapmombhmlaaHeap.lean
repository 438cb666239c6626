/-
  A heap in memory, as a value: what it has, what stays.
-/
import Derived.Test.YtjjmapmombhmlaaTabIU
import Derived.Test.YtjjmapmombhmlaaTabII
import Derived.Test.YtjjmapmombhmlaaDiskNews
import Derived.Test.YtjjmapmombhmlaaGrants3
namespace Go.Proofs.Ytjjmapmombhmlaa
open Go.RowKit Go.Maps Go.ChangeMaps Go.WideShapes

/-- where a heap lies: its blocks, all below B; its sectors: n of them, from f on -/
structure HB where
  hb : Nat
  g : Nat
  m : Nat
  q : Nat
  rb : Nat
  yb : Nat
  d : Nat
  bs : Nat
  bt : Nat
  f : Nat
  n : Nat
  B : Nat
  T : Nat → UInt8
def HB.blk (b : HB) : Nat → Nat
  | 0 => b.hb
  | 1 => b.g
  | 2 => b.m
  | 3 => b.q
  | 4 => b.rb
  | 5 => b.yb
  | 6 => b.d
  | 7 => b.bs
  | _ => b.bt
structure HB.ok (b : HB) : Prop where
  nd : ∀ i j, i < 9 → j < 9 → i ≠ j → b.blk i ≠ b.blk j
  lt : ∀ i, i < 9 → b.blk i < b.B
  f : b.f ≤ 2048
  n : b.n ≤ 2048
def HB.S0 (b : HB) (k : Nat) : Prop := ∃ i, i < 9 ∧ k = b.blk i
def HB.keys (b : HB) : List Int := (List.range b.n).map fun i => ((b.f + i : Nat) : Int)
theorem HB.keys_len (b : HB) : b.keys.length = b.n := by simp [HB.keys]
theorem HB.keys_mem (b : HB) (i : Nat) (h : i < b.n) : ((b.f + i : Nat) : Int) ∈ b.keys := List.mem_map.2 ⟨i, List.mem_range.2 h, rfl⟩
/-- what a heap has: each sector's state, how many want it, who is young, who is gone, how many are to be left -/
structure HS where
  S : Nat → Nat
  R : Int → Option Int
  Y : Int → Option Unit
  G : List Nat
  K : Int
def intsG (l : List Nat) : List Value := l.map fun x : Nat => .int .i64 ((x : Nat) : Int)
structure HeapI (b : HB) (s : HS) (w : World) : Prop where
  c0 : w.cell? ⟨b.hb, 0, none⟩ = some (.pointer (some ⟨b.d, 0, none⟩))
  c1 : w.cell? ⟨b.hb, 1, none⟩ = some (.pointer (some ⟨b.g, 0, none⟩))
  c2 : w.cell? ⟨b.hb, 2, none⟩ = some (.pointer (some ⟨b.m, 0, none⟩))
  c3 : w.cell? ⟨b.hb, 3, none⟩ = some (.map (some b.rb))
  c4 : w.cell? ⟨b.hb, 4, none⟩ = some (.map (some b.yb))
  c5 : ∃ v, w.cell? ⟨b.hb, 5, none⟩ = some v ∧ w.ownsRow b.B 3 1 v s.G.length (intsG s.G)
  c6 : w.cell? ⟨b.hb, 6, none⟩ = some (.int .i64 s.K)
  fr : ∀ o, w.frozen? ⟨b.hb, o, none⟩ = false
  gr : MapAt b.m b.q b.f b.n s.S w
  rf : Tab (tblII Try.prog) b.rb s.R b.keys w
  yg : Tab (tblIU Try.prog) b.yb s.Y b.keys w
  dk : ∃ M : DiskM, DiskAt M w ∧ M.d = b.d ∧ M.bs = b.bs ∧ M.bt = b.bt ∧ M.n = b.f + b.n ∧ M.armed = false ∧ M.dead = false ∧ M.left ≤ 2 ^ 62 ∧ M.T = b.T
  sz : b.B ≤ w.heap.size
  kd : other b.hb w
  nl : s.G = [] → w.cell? ⟨b.hb, 5, none⟩ = some (.slice none 0 0)
theorem ownInt_keep {w w' : World} {S : Nat → Prop} {B n : Nat} {e : TypeId} {v : Value} {xs : List Value} (h : w.ownsRow B e 1 v n xs) (g : Grew S w w') (hS : ∀ k, v.ownBlock = some k → ¬ S k) : w'.ownsRow B e 1 v n xs := by
  rcases h.2 with ⟨rfl, h0⟩ | ⟨b, cap, cur, rfl, a1, a2, a3, a4, a5, a6⟩
  · exact ⟨h.1, Or.inl ⟨rfl, h0⟩⟩
  · have hlt : b < w.heap.size := by
      rcases Nat.lt_or_ge b w.heap.size with e | e
      · exact e
      · rw [Array.getElem?_eq_none e] at a2; cases a2
    exact ⟨h.1, Or.inr ⟨b, cap, cur, rfl, a1, (g.block b hlt (hS b rfl)).trans a2, a3, a4, a5, a6⟩⟩
section
variable {b : HB} {s : HS} {w w' : World}
theorem HeapI.hlt (h : HeapI b s w) : b.hb < w.heap.size := cell_lt h.c0
/-- what leaves all of the heap's blocks and the gone ones' row alone -/
theorem HeapI.keep {T : Nat → Prop} (h : HeapI b s w) (k : Grew T w w') (h0 : ∀ i, i < 9 → ¬ T (b.blk i)) (h1 : ∀ r, b.B ≤ r → (∃ c fz, w.heap[r]? = some (.cells c 3 fz)) → ¬ T r) : HeapI b s w' := by
  have hh := h.hlt
  have c : ∀ o, w'.cell? ⟨b.hb, o, none⟩ = w.cell? ⟨b.hb, o, none⟩ := fun o => k.cell (p := ⟨b.hb, o, none⟩) hh (h0 0 (by decide))
  obtain ⟨v, e5, ho⟩ := h.c5
  obtain ⟨M, hM, m1, m2, m3, r⟩ := h.dk
  refine ⟨(c 0).trans h.c0, (c 1).trans h.c1, (c 2).trans h.c2, (c 3).trans h.c3, (c 4).trans h.c4, ⟨v, (c 5).trans e5, ownInt_keep ho k fun q hq => h1 q (ho.lt q hq).1 (Lib.ownsRow_kind ho q hq)⟩, (c 6).trans h.c6, fun o => by rw [k.frozen (p := ⟨b.hb, o, none⟩) hh (h0 0 (by decide))]; exact h.fr o, h.gr.keep k (h0 2 (by decide)) (h0 3 (by decide)), h.rf.keep k (h0 4 (by decide)), h.yg.keep k (h0 5 (by decide)), ⟨M, hM.kept k (by rw [m1]; exact h0 6 (by decide)) (by rw [m2]; exact h0 7 (by decide)) (by rw [m3]; exact h0 8 (by decide)), m1, m2, m3, r⟩, Nat.le_trans h.sz k.size, h.kd.block (k.block b.hb hh (h0 0 (by decide))), fun e => (c 5).trans (h.nl e)⟩
/-- all but what lies in one of the heap's blocks -/
structure HeapBut (j : Nat) (b : HB) (s : HS) (w : World) : Prop where
  c : j ≠ 0 → (w.cell? ⟨b.hb, 0, none⟩ = some (.pointer (some ⟨b.d, 0, none⟩)) ∧ w.cell? ⟨b.hb, 1, none⟩ = some (.pointer (some ⟨b.g, 0, none⟩)) ∧ w.cell? ⟨b.hb, 2, none⟩ = some (.pointer (some ⟨b.m, 0, none⟩)) ∧ w.cell? ⟨b.hb, 3, none⟩ = some (.map (some b.rb)) ∧ w.cell? ⟨b.hb, 4, none⟩ = some (.map (some b.yb)) ∧ w.cell? ⟨b.hb, 6, none⟩ = some (.int .i64 s.K) ∧ (∀ o, w.frozen? ⟨b.hb, o, none⟩ = false) ∧ (∃ v, w.cell? ⟨b.hb, 5, none⟩ = some v ∧ w.ownsRow b.B 3 1 v s.G.length (intsG s.G)))
  gr : j ≠ 2 → j ≠ 3 → MapAt b.m b.q b.f b.n s.S w
  rf : j ≠ 4 → Tab (tblII Try.prog) b.rb s.R b.keys w
  yg : j ≠ 5 → Tab (tblIU Try.prog) b.yb s.Y b.keys w
  dk : j < 6 → ∃ M : DiskM, DiskAt M w ∧ M.d = b.d ∧ M.bs = b.bs ∧ M.bt = b.bt ∧ M.n = b.f + b.n ∧ M.armed = false ∧ M.dead = false ∧ M.left ≤ 2 ^ 62 ∧ M.T = b.T
  sz : b.B ≤ w.heap.size
  kd : j ≠ 0 → other b.hb w
  nl : j ≠ 0 → s.G = [] → w.cell? ⟨b.hb, 5, none⟩ = some (.slice none 0 0)
theorem HeapI.but (h : HeapI b s w) (ok : b.ok) {j : Nat} (hj : j < 9) (k : Grew (fun q => q = b.blk j) w w') : HeapBut j b s w' := by
  have hh := h.hlt
  have ne : ∀ i, i < 9 → i ≠ j → ¬ b.blk i = b.blk j := fun i hi e => ok.nd i j hi hj e
  obtain ⟨v, e5, ho⟩ := h.c5
  obtain ⟨M, hM, m1, m2, m3, r⟩ := h.dk
  refine ⟨fun hj0 => ?_, fun a1 a2 => h.gr.keep k (ne 2 (by decide) fun e => a1 e.symm) (ne 3 (by decide) fun e => a2 e.symm), fun a => h.rf.keep k (ne 4 (by decide) fun e => a e.symm), fun a => h.yg.keep k (ne 5 (by decide) fun e => a e.symm), fun a => ⟨M, hM.kept k (by rw [m1]; exact ne 6 (by decide) (by omega)) (by rw [m2]; exact ne 7 (by decide) (by omega)) (by rw [m3]; exact ne 8 (by decide) (by omega)), m1, m2, m3, r⟩, Nat.le_trans h.sz k.size, fun a => h.kd.block (k.block b.hb hh (ne 0 (by decide) fun e => a e.symm)), fun a e => (k.cell (p := ⟨b.hb, 5, none⟩) hh (ne 0 (by decide) fun e => a e.symm)).trans (h.nl e)⟩
  have h0 := ne 0 (by decide) fun e => hj0 e.symm
  have c : ∀ o, w'.cell? ⟨b.hb, o, none⟩ = w.cell? ⟨b.hb, o, none⟩ := fun o => k.cell (p := ⟨b.hb, o, none⟩) hh h0
  exact ⟨(c 0).trans h.c0, (c 1).trans h.c1, (c 2).trans h.c2, (c 3).trans h.c3, (c 4).trans h.c4, (c 6).trans h.c6, fun o => by rw [k.frozen (p := ⟨b.hb, o, none⟩) hh h0]; exact h.fr o, v, (c 5).trans e5, ownInt_keep ho k fun q hq e => by
    have h1 := (ho.lt q hq).1
    have h2 := ok.lt j hj
    omega⟩
theorem HeapI.refs (h : HeapI b s w) (ok : b.ok) {F : Int → Option Int} (hT : Tab (tblII Try.prog) b.rb F b.keys w') (k : Grew (fun q => q = b.rb) w w') : HeapI b { s with R := F } w' := by
  have u := h.but ok (j := 4) (by decide) k
  obtain ⟨d0, d1, d2, d3, d4, d6, fr, d5⟩ := u.c (by decide)
  exact ⟨d0, d1, d2, d3, d4, d5, d6, fr, u.gr (by decide) (by decide), hT, u.yg (by decide), u.dk (by decide), u.sz, u.kd (by decide), u.nl (by decide)⟩
theorem HeapI.youngs (h : HeapI b s w) (ok : b.ok) {F : Int → Option Unit} (hT : Tab (tblIU Try.prog) b.yb F b.keys w') (k : Grew (fun q => q = b.yb) w w') : HeapI b { s with Y := F } w' := by
  have u := h.but ok (j := 5) (by decide) k
  obtain ⟨d0, d1, d2, d3, d4, d6, fr, d5⟩ := u.c (by decide)
  exact ⟨d0, d1, d2, d3, d4, d5, d6, fr, u.gr (by decide) (by decide), u.rf (by decide), hT, u.dk (by decide), u.sz, u.kd (by decide), u.nl (by decide)⟩
theorem HeapI.grants (h : HeapI b s w) (ok : b.ok) {S : Nat → Nat} (hT : MapAt b.m b.q b.f b.n S w') (k : Grew (fun q => q = b.q) w w') : HeapI b { s with S := S } w' := by
  have u := h.but ok (j := 3) (by decide) k
  obtain ⟨d0, d1, d2, d3, d4, d6, fr, d5⟩ := u.c (by decide)
  exact ⟨d0, d1, d2, d3, d4, d5, d6, fr, hT, u.rf (by decide), u.yg (by decide), u.dk (by decide), u.sz, u.kd (by decide), u.nl (by decide)⟩
theorem heapLogged (ok : b.ok) : Logged b.g b.S0 (HeapI b) where
  own := ⟨1, by decide, rfl⟩
  set := fun s w o x ho h => by
    have k : Grew (fun q => q = b.blk 1) w (w.setCell ⟨b.g, o, none⟩ x) := (Grew.refl (S := fun q => q = b.blk 1) w).setCell _ _ fun _ => rfl
    have u := h.but ok (j := 1) (by decide) k
    obtain ⟨d0, d1, d2, d3, d4, d6, fr, d5⟩ := u.c (by decide)
    exact ⟨d0, d1, d2, d3, d4, d5, d6, fr, u.gr (by decide) (by decide), u.rf (by decide), u.yg (by decide), u.dk (by decide), u.sz, u.kd (by decide), u.nl (by decide)⟩
  keep := fun s w w' h k => h.keep k (fun i hi e => e.1 ⟨i, hi, rfl⟩) fun r _ hr e => by
    obtain ⟨c, fz, e1⟩ := hr
    obtain ⟨_, c', t', fz', e2, e3⟩ := e
    rw [e1] at e2
    simp at e2
    rcases e3 with e3 | e3 <;> (rw [← e2.2.1] at e3; exact absurd e3 (by decide))
  lt := fun s w k h e => by
    obtain ⟨i, hi, rfl⟩ := e
    exact Nat.lt_of_lt_of_le (ok.lt i hi) h.sz
theorem refsAcc (ok : b.ok) : Acc b.g b.S0 (HeapI b) (tblII Try.prog) b.rb b.keys (fun s => s.R) (fun s F => { s with R := F }) where
  tab := fun _ _ h => h.rf
  upd := fun _ _ _ _ h hT k => h.refs ok hT k
  own := ⟨4, by decide, rfl⟩
  ne := ok.nd 4 1 (by decide) (by decide) (by decide)
  back := fun _ _ => rfl
  got := fun _ _ => rfl
theorem youngAcc (ok : b.ok) : Acc b.g b.S0 (HeapI b) (tblIU Try.prog) b.yb b.keys (fun s => s.Y) (fun s F => { s with Y := F }) where
  tab := fun _ _ h => h.yg
  upd := fun _ _ _ _ h hT k => h.youngs ok hT k
  own := ⟨5, by decide, rfl⟩
  ne := ok.nd 5 1 (by decide) (by decide) (by decide)
  back := fun _ _ => rfl
  got := fun _ _ => rfl
/-- what a step that is remembered leaves of the heap -/
theorem heapLog (ok : b.ok) {dp : Nat} {v : Value} {fs : List Step} (hl : LogAt b.B b.g dp v fs w) (h : HeapI b s w) : ∀ w', Grew (fun q => q = b.g ∨ v.ownBlock = some q) w w' → (∀ o, ¬ o = 1 → w'.cell? ⟨b.g, o, none⟩ = w.cell? ⟨b.g, o, none⟩) → (∀ o, w'.frozen? ⟨b.g, o, none⟩ = w.frozen? ⟨b.g, o, none⟩) → HeapI b s w' := fun w' k _ _ => by
  have h1 : ∀ i, i < 9 → i ≠ 1 → ¬ (b.blk i = b.g ∨ v.ownBlock = some (b.blk i)) := fun i hi hne e => by
    rcases e with e | e
    · exact ok.nd i 1 hi (by decide) hne e
    · have a := (hl.row.lt _ e).1
      have c := ok.lt i hi
      omega
  have hh := h.hlt
  have c : ∀ o, w'.cell? ⟨b.hb, o, none⟩ = w.cell? ⟨b.hb, o, none⟩ := fun o => k.cell (p := ⟨b.hb, o, none⟩) hh (h1 0 (by decide) (by decide))
  obtain ⟨u, e5, ho⟩ := h.c5
  obtain ⟨M, hM, m1, m2, m3, r⟩ := h.dk
  refine ⟨(c 0).trans h.c0, (c 1).trans h.c1, (c 2).trans h.c2, (c 3).trans h.c3, (c 4).trans h.c4, ⟨u, (c 5).trans e5, ownInt_keep ho k fun q hq e => ?_⟩, (c 6).trans h.c6, fun o => by rw [k.frozen (p := ⟨b.hb, o, none⟩) hh (h1 0 (by decide) (by decide))]; exact h.fr o, h.gr.keep k (h1 2 (by decide) (by decide)) (h1 3 (by decide) (by decide)), h.rf.keep k (h1 4 (by decide) (by decide)), h.yg.keep k (h1 5 (by decide) (by decide)), ⟨M, hM.kept k (by rw [m1]; exact h1 6 (by decide) (by decide)) (by rw [m2]; exact h1 7 (by decide) (by decide)) (by rw [m3]; exact h1 8 (by decide) (by decide)), m1, m2, m3, r⟩, Nat.le_trans h.sz k.size, h.kd.block (k.block b.hb hh (h1 0 (by decide) (by decide))), fun e => (c 5).trans (h.nl e)⟩
  obtain ⟨cc, fz, kk⟩ := Lib.ownsRow_kind ho q hq
  rcases e with e | e
  · have a := (ho.lt q hq).1
    have a2 := ok.lt 1 (by decide)
    have a3 : b.blk 1 = b.g := rfl
    omega
  · obtain ⟨c2, fz2, k2⟩ := Lib.ownsRow_kind hl.row q e
    rw [kk] at k2
    simp at k2
end
end Go.Proofs.Ytjjmapmombhmlaa
