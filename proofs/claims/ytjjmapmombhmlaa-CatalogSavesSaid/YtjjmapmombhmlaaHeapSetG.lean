/-
  A heap within a Try: Set of who is gone: contract.
-/
import Derived.Test.YtjjmapmombhmlaaHeapGone
namespace Go.Proofs.Ytjjmapmombhmlaa
open Go.RowKit Go.Maps Go.ChangeMaps Go.WideShapes

theorem GBox.kept {b : HB} {x y : Nat} {v : Value} {w w' : World} (h : GBox b x y v w) (hS : ¬ b.S0 x ∧ ¬ b.S0 y) (k : Kept b.S0 w w') : GBox b x y v w' :=
  ⟨(k x ⟨hS.1, _, _, _, h.bx, by decide, by decide⟩).trans h.bx, (k y ⟨hS.2, _, _, _, h.by', by decide, by decide⟩).trans h.by'⟩
theorem GBox.cells {b : HB} {x y : Nat} {v : Value} {w : World} (h : GBox b x y v w) : w.cell? ⟨x, 0, none⟩ = some v ∧ w.cell? ⟨y, 0, none⟩ = some (.pointer (some ⟨b.hb, 5, none⟩)) := by
  have h1 := h.bx
  have h2 := h.by'
  exact ⟨by simp [World.cell?, h1], by simp [World.cell?, h2]⟩
theorem gFront (b : HB) (v : Value) (w : World) : GBox b (w.heap.size + 1) w.heap.size v ((w.alloc (.cells #[.pointer (some ⟨b.hb, 5, none⟩)] 128)).alloc (.cells #[v] 40)) := by
  have s1 : (w.alloc (.cells #[.pointer (some ⟨b.hb, 5, none⟩)] 128)).heap.size = w.heap.size + 1 := by simp
  refine ⟨?_, ?_⟩
  · have := heap_alloc_new (w.alloc (.cells #[.pointer (some ⟨b.hb, 5, none⟩)] 128)) (.cells #[v] 40)
    rw [s1] at this
    exact this
  · rw [Below.heap_alloc _ _ _ (by rw [s1]; omega)]
    exact heap_alloc_new w _
theorem own_past {b : HB} (ok : b.ok) {w w' : World} {u : Value} {G : List Nat} (hu : w.ownsRow b.B 3 1 u G.length (intsG G)) (g : Grew (Mut b.B b.S0 w) w w') : w'.ownsRow b.B 3 1 u G.length (intsG G) :=
  ownInt_keep hu g fun q hq m => by
    rcases m with ⟨i, hi, rfl⟩ | ⟨_, c, fz, e⟩
    · have a1 := (hu.lt _ hq).1
      have a2 := ok.lt i hi
      omega
    · obtain ⟨c2, fz2, e2⟩ := Lib.ownsRow_kind hu q hq
      rw [e] at e2
      simp at e2
set_option maxRecDepth 100000 in
set_option maxHeartbeats 1000000 in
theorem setG_any (b : HB) (ok : b.ok) (s : HS) (G : List Nat) (u : Value) (dp : Nat) (v : Value) (fs : List Step) (w : World) (hf : fs.length < 100000) (h : HeapI b s w) (hl : LogAt b.B b.g (dp + 1) v fs w) (hu : w.ownsRow b.B 3 1 u G.length (intsG G)) (hne : ¬ G = []) : Calls Try.prog 109 #[.pointer (some ⟨b.g, 0, none⟩), .pointer (some ⟨b.hb, 5, none⟩), u] w fun e w' => e = .returned (.tuple #[]) ∧ Did b.B b.g dp b.S0 (HeapI b) fs 1 s { s with G := G } w w' := by
  have hmf : ∀ (fn : Fn) (first cap : Array Value) (w : World), (Instr.makeFunc fn first cap).run Try.prog w = .ok (.func fn first cap) w := fun _ _ _ _ => rfl
  obtain ⟨o, e5, ho⟩ := h.c5
  obtain ⟨_, a, c, hoo⟩ := rowOwn ho
  have hoo : o = .slice a s.G.length c := hoo
  subst hoo
  obtain ⟨_, ua, uc, huu⟩ := rowOwn hu
  have huu : u = .slice ua G.length uc := huu
  subst huu
  have hnil : s.G = [] → (Value.slice a s.G.length c) = .slice none 0 0 := fun e => Option.some.inj (e5.symm.trans (h.nl e))
  obtain ⟨W, hW⟩ : ∃ W, (w.alloc (.cells #[.pointer (some ⟨b.hb, 5, none⟩)] 128)).alloc (.cells #[.slice a s.G.length c] 40) = W := ⟨_, rfl⟩
  have g0 : Grew (fun _ => False) w W := by rw [← hW]; exact ((Grew.refl w).alloc _).alloc _
  have hB : GBox b (w.heap.size + 1) w.heap.size (.slice a s.G.length c) W := by rw [← hW]; exact gFront b _ w
  have hI : HeapI b s W := by rw [← hW]; exact (h.alloc _).alloc _
  have hL : LogAt b.B b.g (dp + 1) v fs W := hl.keep g0 (fun e => e) fun _ _ e => e
  have n0 := HB.not0 ok h.sz (Nat.le_refl w.heap.size)
  have n1 := HB.not0 ok h.sz (Nat.le_succ w.heap.size)
  have HBk := Lib.hid (back_some b.B b.g dp v fs (stepG (w.heap.size + 1) w.heap.size) W hL (by omega) hI.sz)
  have HN : Hid (∀ w1 v1, LogAt b.B b.g (dp + 1) v1 (fs ++ [stepG (w.heap.size + 1) w.heap.size]) w1 → Grew (fun q => q = b.g ∨ v.ownBlock = some q) W w1 → (∀ o, ¬ o = 1 → w1.cell? ⟨b.g, o, none⟩ = W.cell? ⟨b.g, o, none⟩) → (∀ o, w1.frozen? ⟨b.g, o, none⟩ = W.frozen? ⟨b.g, o, none⟩) → HeapI b s w1 ∧ w1.cell? ⟨w.heap.size, 0, none⟩ = some (.pointer (some ⟨b.hb, 5, none⟩)) ∧ Did b.B b.g dp b.S0 (HeapI b) fs 1 s { s with G := G } w (w1.setCell ⟨b.hb, 5, none⟩ (.slice ua G.length uc))) := Lib.hid fun w1 v1 l1 hg hc hz => by
    obtain ⟨i1, m1⟩ := backed ok hI hL hg hc hz
    have m01 : Grew (Mut b.B b.S0 w) w w1 := (g0.mono fun _ _ e => e.elim).thenMut m1
    have hb1 := hB.kept ⟨n1, n0⟩ (Kept.of m1)
    have u1 := own_past ok hu m01
    have o1 := own_past ok ho m01
    have g2 : Grew (fun q => q = b.hb) w1 (w1.setCell ⟨b.hb, 5, none⟩ (.slice ua G.length uc)) := (Grew.refl w1).setCell _ _ fun _ => rfl
    have m2 : Grew (Mut b.B b.S0 w1) w1 (w1.setCell ⟨b.hb, 5, none⟩ (.slice ua G.length uc)) := g2.mono fun q _ e => Or.inl ⟨0, by decide, e⟩
    have i2 := i1.gone ok G _ u1 fun e => absurd e hne
    have l2 : LogAt b.B b.g (dp + 1) v1 (fs ++ [stepG (w.heap.size + 1) w.heap.size]) (w1.setCell ⟨b.hb, 5, none⟩ (.slice ua G.length uc)) := l1.keep g2 (fun e => ok.nd 1 0 (by decide) (by decide) (by decide) e) fun q hq e => by subst e; exact i1.kd.ne l1.row hq
    exact ⟨i1, hb1.cells.2, Did.one l2 i2 (goodG b ok _ s a _ c _ _ _ (hb1.kept ⟨n1, n0⟩ (Kept.of m2)) ⟨n1, n0⟩ (own_past ok o1 m2) hnil rfl) (m01.thenMut m2)⟩
  have d1 : (w.alloc (.cells #[.pointer (some ⟨b.hb, 5, none⟩)] 128)).cell? ⟨w.heap.size, 0, none⟩ = some (.pointer (some ⟨b.hb, 5, none⟩)) := boxNew rfl
  have d5 : (w.alloc (.cells #[.pointer (some ⟨b.hb, 5, none⟩)] 128)).cell? ⟨b.hb, 5, none⟩ = some (.slice a s.G.length c) := by
    obtain ⟨v5, c5, _⟩ := (h.alloc (.cells #[.pointer (some ⟨b.hb, 5, none⟩)] 128)).c5
    rw [(((Grew.refl (S := fun _ => False) w).alloc (.cells #[.pointer (some ⟨b.hb, 5, none⟩)] 128)).cell (p := ⟨b.hb, 5, none⟩) h.hlt fun e => e)]
    exact e5
  clear g0 hB hI hL n0 n1 h hl hf hu ho e5 hnil hne
  unfold stepV stepG at HBk
  subst hW
  go_enter Try.func109, Try.ntmps109
  go_wp2_with fail
  refine HBk.out.mono ?_
  rintro e w1 ⟨rfl, v1, hl1, hg1, hk1, hk2⟩
  obtain ⟨i1, d2, hd⟩ := HN.out w1 v1 hl1 hg1 hk1 hk2
  have f5 := i1.fr 5
  obtain ⟨v5, c5, _⟩ := i1.c5
  have HD := Lib.hid hd
  clear hl1 hg1 hk1 hk2 i1 hd HN HBk d1 d5
  go_wp2_with fail
  go_end0
  exact ⟨rfl, HD.out⟩
end Go.Proofs.Ytjjmapmombhmlaa
