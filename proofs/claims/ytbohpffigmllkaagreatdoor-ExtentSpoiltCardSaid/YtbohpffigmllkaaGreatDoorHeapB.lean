/-
  Texts put together: HeapSetG, HeapYoung2, HeapPut, HeapPut1, HeapNew, HeapIn, HeapC, HoldPuts.
-/
import Derived.Test.YtbohpffigmllkaaGreatDoorHeapA
import Derived.Deep.RegionLawGrows
import Derived.Deep.RegionHeld3
/-
  A heap within a Try: Set of who is gone: contract.
-/
namespace Go.Proofs.YtbohpffigmllkaaGreatDoor
open Go.RowKit Go.Maps Go.ChangeMaps Go.WideShapes

theorem GBox.kept {b : HB} {x y : Nat} {v : Value} {w w' : World} (h : GBox b x y v w) (hS : ¬ b.S0 x ∧ ¬ b.S0 y) (k : Kept b.S0 w w') : GBox b x y v w' :=
  ⟨(k x ⟨hS.1, _, _, _, h.bx, by decide, by decide⟩).trans h.bx, (k y ⟨hS.2, _, _, _, h.by', by decide, by decide⟩).trans h.by'⟩
theorem GBox.cells {b : HB} {x y : Nat} {v : Value} {w : World} (h : GBox b x y v w) : w.cell? ⟨x, 0, none⟩ = some v ∧ w.cell? ⟨y, 0, none⟩ = some (.pointer (some ⟨b.hb, 5, none⟩)) := by
  have h1 := h.bx
  have h2 := h.by'
  exact ⟨by simp [World.cell?, h1], by simp [World.cell?, h2]⟩
theorem gFront (b : HB) (v : Value) (w : World) : GBox b (w.heap.size + 1) w.heap.size v ((w.alloc (.cells #[.pointer (some ⟨b.hb, 5, none⟩)] 163)).alloc (.cells #[v] 54)) := by
  have s1 : (w.alloc (.cells #[.pointer (some ⟨b.hb, 5, none⟩)] 163)).heap.size = w.heap.size + 1 := by simp
  refine ⟨?_, ?_⟩
  · have := heap_alloc_new (w.alloc (.cells #[.pointer (some ⟨b.hb, 5, none⟩)] 163)) (.cells #[v] 54)
    rw [s1] at this
    exact this
  · rw [Below.heap_alloc _ _ _ (by rw [s1]; omega)]
    exact heap_alloc_new w _
theorem own_past {b : HB} (ok : b.ok) {w w' : World} {u : Value} {G : List Nat} (hu : w.ownsRow b.B 3 1 u G.length (intsG G)) (g : Grew (Mut b.B b.S0 w) w w') : w'.ownsRow b.B 3 1 u G.length (intsG G) :=
  ownInt_keep hu g fun q hq m => by
    rcases m with ⟨i, hi, rfl⟩ | ⟨_, c, fz, e⟩
    · have a1 := (hu.lt _ hq).1
      have a2 := ok.lt i hi
      omega
    · obtain ⟨c2, fz2, e2⟩ := Lib.ownsRow_kind hu q hq
      rw [e] at e2
      simp at e2
set_option maxRecDepth 100000 in
set_option maxHeartbeats 1000000 in
theorem setG_any (b : HB) (ok : b.ok) (s : HS) (G : List Nat) (u : Value) (dp : Nat) (v : Value) (fs : List Step) (w : World) (hf : fs.length < 100000) (h : HeapI b s w) (hl : LogAt b.B b.g (dp + 1) v fs w) (hu : w.ownsRow b.B 3 1 u G.length (intsG G)) (hne : ¬ G = []) : Calls Tryz.prog 139 #[.pointer (some ⟨b.g, 0, none⟩), .pointer (some ⟨b.hb, 5, none⟩), u] w fun e w' => e = .returned (.tuple #[]) ∧ Did b.B b.g dp b.S0 (HeapI b) fs 1 s { s with G := G } w w' := by
  have hmf : ∀ (fn : Fn) (first cap : Array Value) (w : World), (Instr.makeFunc fn first cap).run Tryz.prog w = .ok (.func fn first cap) w := fun _ _ _ _ => rfl
  obtain ⟨o, e5, ho⟩ := h.c5
  obtain ⟨_, a, c, hoo⟩ := rowOwn ho
  have hoo : o = .slice a s.G.length c := hoo
  subst hoo
  obtain ⟨_, ua, uc, huu⟩ := rowOwn hu
  have huu : u = .slice ua G.length uc := huu
  subst huu
  have hnil : s.G = [] → (Value.slice a s.G.length c) = .slice none 0 0 := fun e => Option.some.inj (e5.symm.trans (h.nl e))
  obtain ⟨W, hW⟩ : ∃ W, (w.alloc (.cells #[.pointer (some ⟨b.hb, 5, none⟩)] 163)).alloc (.cells #[.slice a s.G.length c] 54) = W := ⟨_, rfl⟩
  have g0 : Grew (fun _ => False) w W := by rw [← hW]; exact ((Grew.refl w).alloc _).alloc _
  have hB : GBox b (w.heap.size + 1) w.heap.size (.slice a s.G.length c) W := by rw [← hW]; exact gFront b _ w
  have hI : HeapI b s W := by rw [← hW]; exact (h.alloc _).alloc _
  have hL : LogAt b.B b.g (dp + 1) v fs W := hl.keep g0 (fun e => e) fun _ _ e => e
  have n0 := HB.not0 ok h.sz (Nat.le_refl w.heap.size)
  have n1 := HB.not0 ok h.sz (Nat.le_succ w.heap.size)
  have HBk := Lib.hid (back_some b.B b.g dp v fs (stepG (w.heap.size + 1) w.heap.size) W hL (by omega) hI.sz)
  have HN : Hid (∀ w1 v1, LogAt b.B b.g (dp + 1) v1 (fs ++ [stepG (w.heap.size + 1) w.heap.size]) w1 → Grew (fun q => q = b.g ∨ v.ownBlock = some q) W w1 → (∀ o, ¬ o = 1 → w1.cell? ⟨b.g, o, none⟩ = W.cell? ⟨b.g, o, none⟩) → (∀ o, w1.frozen? ⟨b.g, o, none⟩ = W.frozen? ⟨b.g, o, none⟩) → HeapI b s w1 ∧ w1.cell? ⟨w.heap.size, 0, none⟩ = some (.pointer (some ⟨b.hb, 5, none⟩)) ∧ Did b.B b.g dp b.S0 (HeapI b) fs 1 s { s with G := G } w (w1.setCell ⟨b.hb, 5, none⟩ (.slice ua G.length uc))) := Lib.hid fun w1 v1 l1 hg hc hz => by
    obtain ⟨i1, m1⟩ := backed ok hI hL hg hc hz
    have m01 : Grew (Mut b.B b.S0 w) w w1 := (g0.mono fun _ _ e => e.elim).thenMut m1
    have hb1 := hB.kept ⟨n1, n0⟩ (Kept.of m1)
    have u1 := own_past ok hu m01
    have o1 := own_past ok ho m01
    have g2 : Grew (fun q => q = b.hb) w1 (w1.setCell ⟨b.hb, 5, none⟩ (.slice ua G.length uc)) := (Grew.refl w1).setCell _ _ fun _ => rfl
    have m2 : Grew (Mut b.B b.S0 w1) w1 (w1.setCell ⟨b.hb, 5, none⟩ (.slice ua G.length uc)) := g2.mono fun q _ e => Or.inl ⟨0, by decide, e⟩
    have i2 := i1.gone ok G _ u1 fun e => absurd e hne
    have l2 : LogAt b.B b.g (dp + 1) v1 (fs ++ [stepG (w.heap.size + 1) w.heap.size]) (w1.setCell ⟨b.hb, 5, none⟩ (.slice ua G.length uc)) := l1.keep g2 (fun e => ok.nd 1 0 (by decide) (by decide) (by decide) e) fun q hq e => by subst e; exact i1.kd.ne l1.row hq
    exact ⟨i1, hb1.cells.2, Did.one l2 i2 (goodG b ok _ s a _ c _ _ _ (hb1.kept ⟨n1, n0⟩ (Kept.of m2)) ⟨n1, n0⟩ (own_past ok o1 m2) hnil rfl) (m01.thenMut m2)⟩
  have d1 : (w.alloc (.cells #[.pointer (some ⟨b.hb, 5, none⟩)] 163)).cell? ⟨w.heap.size, 0, none⟩ = some (.pointer (some ⟨b.hb, 5, none⟩)) := boxNew rfl
  have d5 : (w.alloc (.cells #[.pointer (some ⟨b.hb, 5, none⟩)] 163)).cell? ⟨b.hb, 5, none⟩ = some (.slice a s.G.length c) := by
    obtain ⟨v5, c5, _⟩ := (h.alloc (.cells #[.pointer (some ⟨b.hb, 5, none⟩)] 163)).c5
    rw [(((Grew.refl (S := fun _ => False) w).alloc (.cells #[.pointer (some ⟨b.hb, 5, none⟩)] 163)).cell (p := ⟨b.hb, 5, none⟩) h.hlt fun e => e)]
    exact e5
  clear g0 hB hI hL n0 n1 h hl hf hu ho e5 hnil hne
  unfold stepV stepG at HBk
  subst hW
  go_enter Tryz.func139, Tryz.ntmps139
  go_wp2_with fail
  refine HBk.out.mono ?_
  rintro e w1 ⟨rfl, v1, hl1, hg1, hk1, hk2⟩
  obtain ⟨i1, d2, hd⟩ := HN.out w1 v1 hl1 hg1 hk1 hk2
  have f5 := i1.fr 5
  obtain ⟨v5, c5, _⟩ := i1.c5
  have HD := Lib.hid hd
  clear hl1 hg1 hk1 hk2 i1 hd HN HBk d1 d5
  go_wp2_with fail
  go_end0
  exact ⟨rfl, HD.out⟩
end Go.Proofs.YtbohpffigmllkaaGreatDoor

/-
  A heap within a Try: letGo of a young one: contract.
-/
namespace Go.Proofs.YtbohpffigmllkaaGreatDoor
open Go.RowKit Go.Maps Go.ChangeMaps Go.WideShapes

def HS.letYoung (s : HS) (i : Nat) (T : Int) (x : Nat) : HS := { s with S := upd s.S i 2, R := upF s.R T none, Y := upF s.Y T none, G := s.G ++ [x] }
theorem own_low {w : World} {B B' n : Nat} {e : TypeId} {v : Value} {xs : List Value} (h : w.ownsRow B' e 1 v n xs) (hb : B ≤ B') : w.ownsRow B e 1 v n xs := ⟨h.1, h.2.imp id fun ⟨g, cap, cur, h1, h2, h3⟩ => ⟨g, cap, cur, h1, Nat.le_trans hb h2, h3⟩⟩
theorem dropY (b : HB) (ok : b.ok) (s : HS) (i : Nat) (hi : i < b.n) (dp : Nat) (v : Value) (fs : List Step) (w : World) (hf : fs.length < 100000) (h : HeapI b s w) (hl : LogAt b.B b.g (dp + 1) v fs w) : Calls Tryz.prog 138 #[.pointer (some ⟨b.g, 0, none⟩), .map (some b.yb), .int .i64 ((b.f + i : Nat) : Int)] w fun e w' => e = .returned (.tuple #[]) ∧ Did b.B b.g dp b.S0 (HeapI b) fs 1 s { s with Y := upF s.Y ((b.f + i : Nat) : Int) none } w w' :=
  dropIU (heapLogged ok) (youngAcc ok) (b.few ok) b.B dp v fs s _ w hl hf h.sz h (b.wf ok hi) (heapLog ok hl h)
set_option maxRecDepth 100000 in
set_option maxHeartbeats 1000000 in
/-- a young sector is let go: in a Try -/
theorem letGo1_young (b : HB) (ok : b.ok) (s : HS) (i : Nat) (hi : i < b.n) (hs : s.S i = 1) (hy : s.Y ((b.f + i : Nat) : Int) = some ()) (hgl : s.G.length < 90000) (dp : Nat) (v : Value) (fs : List Step) (w : World) (hf : fs.length < 90000) (h : HeapI b s w) (hl : LogAt b.B b.g (dp + 1) v fs w) : Calls Tryz.prog 105 #[.pointer (some ⟨b.hb, 0, none⟩), .int .i64 ((b.f + i : Nat) : Int)] w fun e w' => e = .returned (.tuple #[]) ∧ Did b.B b.g dp b.S0 (HeapI b) fs 4 s (s.letYoung i ((b.f + i : Nat) : Int) (b.f + i)) w w' := by
  have hmf : ∀ (fn : Fn) (first cap : Array Value) (w : World), (Instr.makeFunc fn first cap).run Tryz.prog w = .ok (.func fn first cap) w := fun _ _ _ _ => rfl
  obtain ⟨W, hW⟩ : ∃ W, (w.alloc (.cells #[.pointer (some ⟨b.hb, 0, none⟩)] 24)).alloc (.cells #[.int .i64 ((b.f + i : Nat) : Int)] 3) = W := ⟨_, rfl⟩
  have hF : Front b ((b.f + i : Nat) : Int) w W := hW ▸ front b _ w
  have hI : HeapI b s W := by rw [← hW]; exact (h.alloc _).alloc _
  have hL : LogAt b.B b.g (dp + 1) v fs W := hl.keep hF.grew (fun e => e) fun _ _ e => e
  have n0 := HB.not0 ok h.sz (Nat.le_refl w.heap.size)
  have n1 := HB.not0 ok h.sz (Nat.le_succ w.heap.size)
  have HD := Lib.hid (dropR b ok s i hi dp v fs W.drew (by omega) hI.drew hL.drew')
  -- behind the drop
  have HN1 : Hid (∀ w1, Did b.B b.g dp b.S0 (HeapI b) fs 1 s { s with R := upF s.R ((b.f + i : Nat) : Int) none } W.drew w1 → Let3 b w.heap.size (w.heap.size + 1) ((b.f + i : Nat) : Int) { s with R := upF s.R ((b.f + i : Nat) : Int) none } w1 ∧ Grew (Mut b.B b.S0 w) w w1) := Lib.hid fun w1 hd =>
    ⟨⟨hd.st, hF.two.kept ⟨n0, n1⟩ (Kept.of hd.fromDrew.grew)⟩, (hF.grew.mono fun _ _ e => e.elim).thenMut hd.fromDrew.grew⟩
  -- Later
  have HLa : Hid (∀ w1, HeapI b { s with R := upF s.R ((b.f + i : Nat) : Int) none } w1 → Calls Tryz.prog 136 #[.pointer (some ⟨b.m, 0, none⟩), .int .i64 ((b.f + i : Nat) : Int)] w1.drew fun e w' => ∃ r, e = .returned (.bool r) ∧ Turned b.m b.q b.f b.n s.S i 1 2 w1.drew r w') := Lib.hid fun w1 h1 => later_any b.m b.q b.f b.n s.S i w1.drew h1.drew.gr (Nat.le_trans ok.f (by decide)) (Nat.le_trans ok.n (by decide)) hi
  have HN2 : Hid (∀ w1 w2 r, Let3 b w.heap.size (w.heap.size + 1) ((b.f + i : Nat) : Int) { s with R := upF s.R ((b.f + i : Nat) : Int) none } w1 → Turned b.m b.q b.f b.n s.S i 1 2 w1.drew r w2 → Let3 b w.heap.size (w.heap.size + 1) ((b.f + i : Nat) : Int) (s.letGo i ((b.f + i : Nat) : Int)) w2 ∧ Grew (fun q => q = b.q) w1 w2) := Lib.hid fun w1 w2 r h1 ht => by
    have hg : Grew (fun q => q = b.q) w1 w2 := ((Grew.refl w1).drew).trans ht.2
    have hg' : Grew (Mut b.B b.S0 w1) w1 w2 := hg.mono fun q _ e => Or.inl ⟨3, by decide, e⟩
    exact ⟨⟨(h1.st.drew.turn ok (s := { s with R := upF s.R ((b.f + i : Nat) : Int) none }) hs ht).2, h1.two.kept ⟨n0, n1⟩ (Kept.of hg')⟩, hg⟩
  -- the step back of that
  have HBk : Hid (∀ v1 fs1 w2, LogAt b.B b.g (dp + 1) v1 (fs ++ fs1) w2 → fs1.length ≤ 1 → HeapI b (s.letGo i ((b.f + i : Nat) : Int)) w2 → Calls Tryz.prog 126 #[.pointer (some ⟨b.g, 0, none⟩), .func (.func 137) #[] #[.pointer (some ⟨w.heap.size, 0, none⟩), .pointer (some ⟨w.heap.size + 1, 0, none⟩)]] w2 fun e w' => e = .returned (.tuple #[]) ∧ ∃ v', LogAt b.B b.g (dp + 1) v' (fs ++ fs1 ++ [stepLet w.heap.size (w.heap.size + 1)]) w' ∧ Grew (fun k => k = b.g ∨ v1.ownBlock = some k) w2 w' ∧ (∀ o, ¬ o = 1 → w'.cell? ⟨b.g, o, none⟩ = w2.cell? ⟨b.g, o, none⟩) ∧ (∀ o, w'.frozen? ⟨b.g, o, none⟩ = w2.frozen? ⟨b.g, o, none⟩)) := Lib.hid fun v1 fs1 w2 l2 n1 i2 => back_some b.B b.g dp v1 (fs ++ fs1) (stepLet w.heap.size (w.heap.size + 1)) w2 l2 (by rw [List.length_append]; omega) i2.sz
  have HN3 : Hid (∀ w1 w2 w3 v1 fs1 v3, Did b.B b.g dp b.S0 (HeapI b) fs 1 s { s with R := upF s.R ((b.f + i : Nat) : Int) none } W.drew w1 → LogAt b.B b.g (dp + 1) v1 (fs ++ fs1) w1 → fs1.length ≤ 1 → Path b.B b.g b.S0 (HeapI b) fs1 s { s with R := upF s.R ((b.f + i : Nat) : Int) none } w1 → Grew (fun q => q = b.q) w1 w2 → LogAt b.B b.g (dp + 1) v1 (fs ++ fs1) w2 → Let3 b w.heap.size (w.heap.size + 1) ((b.f + i : Nat) : Int) (s.letGo i ((b.f + i : Nat) : Int)) w2 → LogAt b.B b.g (dp + 1) v3 (fs ++ fs1 ++ [stepLet w.heap.size (w.heap.size + 1)]) w3 → Grew (fun k => k = b.g ∨ v1.ownBlock = some k) w2 w3 → (∀ o, ¬ o = 1 → w3.cell? ⟨b.g, o, none⟩ = w2.cell? ⟨b.g, o, none⟩) → (∀ o, w3.frozen? ⟨b.g, o, none⟩ = w2.frozen? ⟨b.g, o, none⟩) → Did b.B b.g dp b.S0 (HeapI b) fs 2 s (s.letGo i ((b.f + i : Nat) : Int)) w w3 ∧ Boxes2 b w.heap.size (w.heap.size + 1) ((b.f + i : Nat) : Int) w3) := Lib.hid fun w1 w2 w3 v1 fs1 v3 hd l1 n1' p1 g12 l2 t2 l3 g3 k1 k2 => by
    obtain ⟨i3, m3⟩ := backed ok t2.st l2 g3 k1 k2
    have b3 := t2.two.kept ⟨n0, n1⟩ (Kept.of m3)
    have m12 : Grew (Mut b.B b.S0 w1) w1 w2 := g12.mono fun q _ e => Or.inl ⟨3, by decide, e⟩
    have m13 := m12.thenMut m3
    have hG := goodLet b ok (s.letGo i ((b.f + i : Nat) : Int)) { s with R := upF s.R ((b.f + i : Nat) : Int) none } i hi (by show upd s.S i 2 i = 2; exact if_pos rfl) _ _ w3 b3 ⟨n0, n1⟩ (by
      show HS.mk (upd (upd s.S i 2) i 1) (upF s.R ((b.f + i : Nat) : Int) none) s.Y s.G s.K = HS.mk s.S (upF s.R ((b.f + i : Nat) : Int) none) s.Y s.G s.K
      have := upd_back s.S i 2
      rw [hs] at this
      rw [this])
    have hd' := hd.fromDrew
    refine ⟨⟨⟨v3, fs1 ++ [stepLet w.heap.size (w.heap.size + 1)], by rw [← List.append_assoc]; exact l3, by rw [List.length_append]; show _ + 1 ≤ 2; omega, (p1.later (Kept.of m13)).snoc hG⟩, i3, ((hF.grew.mono fun _ _ e => e.elim).thenMut hd'.grew).thenMut m13⟩, b3⟩
  have HLk : Hid (∀ w3, HeapI b (s.letGo i ((b.f + i : Nat) : Int)) w3 → (Instr.lookup 72 (.map (some b.yb)) (.int .i64 ((b.f + i : Nat) : Int)) true).run Tryz.prog w3 = .ok (.tuple #[.agg #[], .bool true]) w3) := Lib.hid fun w3 h3 => by
    have := h3.yg.look tblIU_fine _ (b.wf ok hi)
    have e : (s.letGo i ((b.f + i : Nat) : Int)).Y ((b.f + i : Nat) : Int) = some () := hy
    rw [e] at this
    exact this
  have d1 : W.drew.cell? ⟨w.heap.size, 0, none⟩ = some (.pointer (some ⟨b.hb, 0, none⟩)) := hF.d1
  have d2 : W.drew.cell? ⟨w.heap.size + 1, 0, none⟩ = some (.int .i64 ((b.f + i : Nat) : Int)) := hF.d2
  have c1 := hI.drew.c1
  have c3 := hI.drew.c3
  have HT : Hid (∀ B dp v fs w1 w2 sx, HeapI b sx w1 → LogAt B b.g dp v fs w1 → Grew (fun q => q = b.q) w1 w2 → LogAt B b.g dp v fs w2) := Lib.hid fun B dp v fs w1 w2 sx h1 l1 g1 => l1.turned ok h1 g1
  have HDY : Hid (∀ w4 v4 fs4, LogAt b.B b.g (dp + 1) v4 (fs ++ fs4) w4 → fs4.length ≤ 2 → HeapI b (s.letGo i ((b.f + i : Nat) : Int)) w4 → Calls Tryz.prog 138 #[.pointer (some ⟨b.g, 0, none⟩), .map (some b.yb), .int .i64 ((b.f + i : Nat) : Int)] w4 fun e w' => e = .returned (.tuple #[]) ∧ Did b.B b.g dp b.S0 (HeapI b) (fs ++ fs4) 1 (s.letGo i ((b.f + i : Nat) : Int)) { s.letGo i ((b.f + i : Nat) : Int) with Y := upF s.Y ((b.f + i : Nat) : Int) none } w4 w') := Lib.hid fun w4 v4 fs4 l4 n4 i4 => dropY b ok (s.letGo i ((b.f + i : Nat) : Int)) i hi dp v4 _ w4 (by rw [List.length_append]; omega) i4 l4
  have HSG : Hid (∀ w5 v5 fs5 u, LogAt b.B b.g (dp + 1) v5 (fs ++ fs5) w5 → fs5.length ≤ 3 → HeapI b { s.letGo i ((b.f + i : Nat) : Int) with Y := upF s.Y ((b.f + i : Nat) : Int) none } w5 → w5.ownsRow b.B 3 1 u (s.G ++ [b.f + i]).length (intsG (s.G ++ [b.f + i])) → Calls Tryz.prog 139 #[.pointer (some ⟨b.g, 0, none⟩), .pointer (some ⟨b.hb, 5, none⟩), u] w5 fun e w' => e = .returned (.tuple #[]) ∧ Did b.B b.g dp b.S0 (HeapI b) (fs ++ fs5) 1 { s.letGo i ((b.f + i : Nat) : Int) with Y := upF s.Y ((b.f + i : Nat) : Int) none } (s.letYoung i ((b.f + i : Nat) : Int) (b.f + i)) w5 w') := Lib.hid fun w5 v5 fs5 u l5 n5 i5 hu => setG_any b ok { s.letGo i ((b.f + i : Nat) : Int) with Y := upF s.Y ((b.f + i : Nat) : Int) none } (s.G ++ [b.f + i]) u dp v5 _ w5 (by rw [List.length_append]; omega) i5 l5 hu (by simp)
  have HNb : Hid (¬ b.S0 w.heap.size ∧ ¬ b.S0 (w.heap.size + 1)) := Lib.hid ⟨n0, n1⟩
  clear hF hI hL n0 n1 h hl hf hi hs hy
  generalize hTe : ((b.f + i : Nat) : Int) = T at *
  obtain ⟨i0, hi0, hz0, hz1, hz2⟩ := info_parts' infoInt
  have HI0 := Lib.hid hi0
  have HI1 := Lib.hid hz0
  have HI2 := Lib.hid hz1
  have HI3 := Lib.hid hz2
  clear hi0 hz0 hz1 hz2
  go_enter Tryz.func105, Tryz.ntmps105
  go_upto_region 1 with fail
  refine wp_region_still_tail 9 (by kernel_rfl) (by kernel_rfl) ?_
  change wpStill _ _ (W.drew) (fun a' => wpList _ _ _ _ a' (W.drew)) _ _
  simp only [List.take_succ_cons, List.take_zero, List.drop_succ_cons, List.drop_zero]
  repeat still_step
  refine wpStill_nil ?_
  go_wp2_with fail
  refine HD.out.mono ?_
  rintro e w1 ⟨rfl, hd⟩
  obtain ⟨t1, m1⟩ := HN1.out w1 hd
  obtain ⟨v1, fs1, l1, n1, p1⟩ := hd.log
  have HLx := Lib.hid (HLa.out w1 t1.st)
  have HT1 := Lib.hid t1
  have HDx := Lib.hid hd
  have HL1 := Lib.hid l1
  have HP1 := Lib.hid p1
  have d1 := t1.two.cells.1
  have d2 := t1.two.cells.2
  have d3 : w1.drew.cell? ⟨w.heap.size, 0, none⟩ = some (.pointer (some ⟨b.hb, 0, none⟩)) := d1
  have d4 : w1.drew.cell? ⟨w.heap.size + 1, 0, none⟩ = some (.int .i64 T) := d2
  have c2 := t1.st.drew.c2
  clear hd m1 l1 p1 t1 HD HN1 HLa c1 c3 d1 d2
  go_upto_region 2 with fail
  refine wp_region_still_tail 5 (by kernel_rfl) (by kernel_rfl) ?_
  change wpStill _ _ (w1.drew) (fun a' => wpList _ _ _ _ a' (w1.drew)) _ _
  simp only [List.take_succ_cons, List.take_zero, List.drop_succ_cons, List.drop_zero]
  repeat still_step
  refine wpStill_nil ?_
  go_wp2_with fail
  refine HLx.out.mono ?_
  rintro e w2 ⟨r, rfl, ht⟩
  obtain ⟨t2, g12⟩ := HN2.out w1 w2 r HT1.out ht
  have l2 := HT.out _ _ _ _ _ _ _ HT1.out.st HL1.out g12
  have HBx := Lib.hid (HBk.out v1 fs1 w2 l2 n1 t2.st)
  have HT2 := Lib.hid t2
  have HL2 := Lib.hid l2
  have HG2 := Lib.hid g12
  have d1 := t2.two.cells.1
  have d2 := t2.two.cells.2
  have c1 := t2.st.c1
  clear ht t2 g12 l2 d3 d4 c2 HN2 HLx HBk HT
  go_wp2_with fail
  refine HBx.out.mono ?_
  rintro e w3 ⟨rfl, v3, l3, g3, k1, k2⟩
  obtain ⟨hd3, b3⟩ := HN3.out w1 w2 w3 v1 fs1 v3 HDx.out HL1.out n1 HP1.out HG2.out HL2.out HT2.out l3 g3 k1 k2
  have HD3 := Lib.hid ((hd3.alloc (.cells #[] 159)).drew)
  have i4 := HD3.out.st
  have b4 := b3.alloc (.cells #[] 159)
  have hlk := HLk.out _ i4
  have d3 : (w3.alloc (.cells #[] 159)).drew.cell? ⟨w.heap.size, 0, none⟩ = some (.pointer (some ⟨b.hb, 0, none⟩)) := b4.cells.1
  have d4 : (w3.alloc (.cells #[] 159)).drew.cell? ⟨w.heap.size + 1, 0, none⟩ = some (.int .i64 T) := b4.cells.2
  have HB4 : Hid (Boxes2 b w.heap.size (w.heap.size + 1) T (w3.alloc (.cells #[] 159)).drew) := Lib.hid ⟨b4.bx, b4.by'⟩
  have c4 := i4.c4
  have i5 := hd3.st.drew
  have c5 := i5.c4
  have hlk5 := HLk.out _ i5
  have d5 : w3.drew.cell? ⟨w.heap.size, 0, none⟩ = some (.pointer (some ⟨b.hb, 0, none⟩)) := b3.cells.1
  have d6 : w3.drew.cell? ⟨w.heap.size + 1, 0, none⟩ = some (.int .i64 T) := b3.cells.2
  clear i5 l3 g3 k1 k2 hd3 b3 b4 i4 d1 d2 c1 HN3 HBx HT2 HL2 HG2 HDx HL1 HP1 HT1 HLk n1
  go_upto_region 4 with fail
  go_region
  all_goals generalize (w3.alloc (.cells #[] 159)).drew = w4 at *
  all_goals (
    have D4 := HD3.out
    obtain ⟨⟨v4, fs4, l4, n4, p4⟩, i4, g4⟩ := D4
    have HDr := Lib.hid (HDY.out w4.drew v4 fs4 l4.drew' n4 i4.drew)
    have HCh : Hid (∀ w5, Did b.B b.g dp b.S0 (HeapI b) (fs ++ fs4) 1 (s.letGo i T) { s.letGo i T with Y := upF s.Y T none } w4.drew w5 → Did b.B b.g dp b.S0 (HeapI b) fs 3 s { s.letGo i T with Y := upF s.Y T none } w w5 ∧ Boxes2 b w.heap.size (w.heap.size + 1) T w5) := Lib.hid fun w5 k => ⟨Did.chain l4 n4 p4 g4 k.fromDrew, HB4.out.kept HNb.out (Kept.of k.fromDrew.grew)⟩
    have e1 : w4.drew.cell? ⟨w.heap.size, 0, none⟩ = some (.pointer (some ⟨b.hb, 0, none⟩)) := HB4.out.cells.1
    have e2 : w4.drew.cell? ⟨w.heap.size + 1, 0, none⟩ = some (.int .i64 T) := HB4.out.cells.2
    have e3 := i4.drew.c1
    have e4 := i4.drew.c4
    clear l4 n4 p4 i4 g4 d3 d4 d5 d6 c4 c5 hlk hlk5
    go_upto_region 6 with fail
    refine wp_region_still_tail 9 (by kernel_rfl) (by kernel_rfl) ?_
    change wpStill _ _ (w4.drew) (fun a' => wpList _ _ _ _ a' (w4.drew)) _ _
    simp only [List.take_succ_cons, List.take_zero, List.drop_succ_cons, List.drop_zero]
    repeat still_step
    refine wpStill_nil ?_
    go_wp2_with fail
    refine HDr.out.mono ?_
    rintro e w5 ⟨rfl, hd⟩
    obtain ⟨hd5, b5⟩ := HCh.out w5 hd
    have HD5 := Lib.hid hd5
    have HB5 := Lib.hid b5
    clear hd hd5 b5 HDr HCh e1 e2 e3 e4
    have D5 := HD5.out
    obtain ⟨⟨v5, fs5, l5, n5, p5⟩, i5, g5⟩ := D5
    have HI5 := Lib.hid i5
    have hsz5 := i5.sz
    have hlt5 := i5.hlt
    have HSx : Hid (∀ wz, Grew (fun _ => False) w5 wz → wz.cell? ⟨w.heap.size, 0, none⟩ = some (.pointer (some ⟨b.hb, 0, none⟩)) ∧ wz.cell? ⟨w.heap.size + 1, 0, none⟩ = some (.int .i64 T) ∧ wz.cell? ⟨b.hb, 1, none⟩ = some (.pointer (some ⟨b.g, 0, none⟩))) := Lib.hid fun wz k => by
      have kb := HB5.out.kept HNb.out (Kept.of (B := b.B) (k.mono fun _ _ e => e.elim))
      exact ⟨kb.cells.1, kb.cells.2, (i5.keep k (fun _ _ e => e) fun _ _ _ e => e).c1⟩
    have HOwn : Hid (∀ wz u, Grew (fun _ => False) w5 wz → wz.ownsRow b.B 3 1 u (s.G.length + 1) (intsG s.G ++ [.int .i64 T]) → Calls Tryz.prog 139 #[.pointer (some ⟨b.g, 0, none⟩), .pointer (some ⟨b.hb, 5, none⟩), u] wz fun e w' => e = .returned (.tuple #[]) ∧ Did b.B b.g dp b.S0 (HeapI b) fs 4 s (s.letYoung i T (b.f + i)) w w' ∧ w'.cell? ⟨w.heap.size, 0, none⟩ = some (.pointer (some ⟨b.hb, 0, none⟩)) ∧ w'.cell? ⟨w.heap.size + 1, 0, none⟩ = some (.int .i64 T) ∧ w'.cell? ⟨b.hb, 1, none⟩ = some (.pointer (some ⟨b.g, 0, none⟩))) := Lib.hid fun wz u k hu => by
      have km : Grew (Mut b.B b.S0 w5) w5 wz := k.mono fun _ _ e => e.elim
      have iz := i5.keep k (fun _ _ e => e) fun _ _ _ e => e
      have lz := l5.keep k (fun e => e) fun _ _ e => e
      have bz := HB5.out.kept HNb.out (Kept.of km)
      have hu' : wz.ownsRow b.B 3 1 u (s.G ++ [b.f + i]).length (intsG (s.G ++ [b.f + i])) := by
        have e1 : (s.G ++ [b.f + i]).length = s.G.length + 1 := by simp
        have e2 : intsG (s.G ++ [b.f + i]) = intsG s.G ++ [.int .i64 T] := by rw [← hTe]; simp [intsG]
        rw [e1, e2]
        exact hu
      refine (HSG.out wz v5 fs5 u lz n5 iz hu').mono ?_
      rintro e w7 ⟨rfl, hd⟩
      have b7 := bz.kept HNb.out (Kept.of hd.grew)
      exact ⟨rfl, Did.chain lz n5 (p5.later (Kept.of km)) (g5.thenMut km) hd, b7.cells.1, b7.cells.2, hd.st.c1⟩
    obtain ⟨o, o5, ho⟩ := i5.c5
    have e1 := HB5.out.cells.1
    have e2 := HB5.out.cells.2
    have e3 := i5.c1
    rcases ho.2 with ⟨rfl, h0⟩ | ⟨r, cap, cur, rfl, a1, a2, a3, a4, a5, a6⟩
    · have h0 : s.G.length = 0 := h0
      have hG0 : s.G = [] := List.eq_nil_of_length_eq_zero h0
      rw [h0, hG0] at HOwn
      replace o5 : w5.cell? ⟨b.hb, 5, none⟩ = some (.slice none 0 0) := o5
      have o6 : w5.drew.cell? ⟨b.hb, 5, none⟩ = some (.slice none 0 0) := o5
      have o7 : (w5.drew.alloc (.cells #[.int .i64 T] 3)).cell? ⟨b.hb, 5, none⟩ = some (.slice none 0 0) := ((((Grew.refl (S := fun _ => False) w5).drew).alloc (.cells #[.int .i64 T] 3)).cell (p := ⟨b.hb, 5, none⟩) hlt5 fun e => e).trans o5
      clear l5 n5 p5 i5 g5 HSG ho HB5 HD5 HDY
      go_upto_region 8 with fail
      refine wp_region_held_drew (S := fun wx => wx.cell? ⟨w.heap.size, 0, none⟩ = some (.pointer (some ⟨b.hb, 0, none⟩)) ∧ wx.cell? ⟨w.heap.size + 1, 0, none⟩ = some (.int .i64 T) ∧ wx.cell? ⟨b.hb, 1, none⟩ = some (.pointer (some ⟨b.g, 0, none⟩))) (by kernel_rfl) (HSx.out w5.drew ((Grew.refl w5).drew)) (fun hHeld => ?_)
      refine wpAnyH_take (i := 0) (oi := { dst := some 54, op := Op.load 24 (Operand.tmp 2), type := 24, pos := "heap.go:122", after := #[], guard := none }) (v := ?_) rfl (by kernel_rfl) (by kernel_rfl) (by kernel_rfl) (fun _ _ _ h => h) (Or.inl ⟨by rfl, ?_⟩) (by assumption) ?_
      rotate_left
      · (intro wz hSw; (obtain ⟨hS1, hS2, hS3⟩ := hSw); go_simp; try with_reducible rfl)
      try simp only [Act.put, List.setIfInBounds_toArray, List.set_cons_zero, List.set_cons_succ]
      refine wpAnyH_take (i := 1) (oi := { dst := some 55, op := Op.nilCheck (Operand.tmp 54), type := 0, pos := "heap.go:122", after := #[{ on := 0, ground := Ground.data }], guard := none }) (v := ?_) rfl (by kernel_rfl) (by kernel_rfl) (by kernel_rfl) (fun _ _ _ h => h) (Or.inl ⟨by rfl, ?_⟩) (by assumption) ?_
      rotate_left
      · (intro wz hSw; (obtain ⟨hS1, hS2, hS3⟩ := hSw); go_simp; try with_reducible rfl)
      try simp only [Act.put, List.setIfInBounds_toArray, List.set_cons_zero, List.set_cons_succ]
      refine wpAnyH_take (i := 2) (oi := { dst := some 56, op := Op.fieldAddr 74 (Operand.tmp 55) 1, type := 0, pos := "heap.go:122", after := #[{ on := 1, ground := Ground.data }], guard := none }) (v := ?_) rfl (by kernel_rfl) (by kernel_rfl) (by kernel_rfl) (fun _ _ _ h => h) (Or.inl ⟨by rfl, ?_⟩) (by assumption) ?_
      rotate_left
      · (intro wz hSw; (obtain ⟨hS1, hS2, hS3⟩ := hSw); go_simp; try with_reducible rfl)
      try simp only [Act.put, List.setIfInBounds_toArray, List.set_cons_zero, List.set_cons_succ]
      refine wpAnyH_take (i := 3) (oi := { dst := some 57, op := Op.load 65 (Operand.tmp 56), type := 65, pos := "heap.go:122", after := #[{ on := 2, ground := Ground.data }], guard := none }) (v := ?_) rfl (by kernel_rfl) (by kernel_rfl) (by kernel_rfl) (fun _ _ _ h => h) (Or.inl ⟨by rfl, ?_⟩) (by assumption) ?_
      rotate_left
      · (intro wz hSw; (obtain ⟨hS1, hS2, hS3⟩ := hSw); go_simp; try with_reducible rfl)
      try simp only [Act.put, List.setIfInBounds_toArray, List.set_cons_zero, List.set_cons_succ]
      refine wpAnyH_take (i := 4) (oi := { dst := some 58, op := Op.load 24 (Operand.tmp 2), type := 24, pos := "heap.go:122", after := #[], guard := none }) (v := ?_) rfl (by kernel_rfl) (by kernel_rfl) (by kernel_rfl) (fun _ _ _ h => h) (Or.inl ⟨by rfl, ?_⟩) (by assumption) ?_
      rotate_left
      · (intro wz hSw; (obtain ⟨hS1, hS2, hS3⟩ := hSw); go_simp; try with_reducible rfl)
      try simp only [Act.put, List.setIfInBounds_toArray, List.set_cons_zero, List.set_cons_succ]
      refine wpAnyH_take (i := 5) (oi := { dst := some 59, op := Op.nilCheck (Operand.tmp 58), type := 0, pos := "heap.go:122", after := #[{ on := 4, ground := Ground.data }], guard := none }) (v := ?_) rfl (by kernel_rfl) (by kernel_rfl) (by kernel_rfl) (fun _ _ _ h => h) (Or.inl ⟨by rfl, ?_⟩) (by assumption) ?_
      rotate_left
      · (intro wz hSw; (obtain ⟨hS1, hS2, hS3⟩ := hSw); go_simp; try with_reducible rfl)
      try simp only [Act.put, List.setIfInBounds_toArray, List.set_cons_zero, List.set_cons_succ]
      refine wpAnyH_take (i := 6) (oi := { dst := some 60, op := Op.fieldAddr 74 (Operand.tmp 59) 5, type := 0, pos := "heap.go:122", after := #[{ on := 5, ground := Ground.data }], guard := none }) (v := ?_) rfl (by kernel_rfl) (by kernel_rfl) (by kernel_rfl) (fun _ _ _ h => h) (Or.inl ⟨by rfl, ?_⟩) (by assumption) ?_
      rotate_left
      · (intro wz hSw; (obtain ⟨hS1, hS2, hS3⟩ := hSw); go_simp; try with_reducible rfl)
      try simp only [Act.put, List.setIfInBounds_toArray, List.set_cons_zero, List.set_cons_succ]
      refine wpAnyH_take (i := 7) (oi := { dst := some 61, op := Op.load 24 (Operand.tmp 2), type := 24, pos := "heap.go:122", after := #[], guard := none }) (v := ?_) rfl (by kernel_rfl) (by kernel_rfl) (by kernel_rfl) (fun _ _ _ h => h) (Or.inl ⟨by rfl, ?_⟩) (by assumption) ?_
      rotate_left
      · (intro wz hSw; (obtain ⟨hS1, hS2, hS3⟩ := hSw); go_simp; try with_reducible rfl)
      try simp only [Act.put, List.setIfInBounds_toArray, List.set_cons_zero, List.set_cons_succ]
      refine wpAnyH_take (i := 8) (oi := { dst := some 62, op := Op.nilCheck (Operand.tmp 61), type := 0, pos := "heap.go:122", after := #[{ on := 7, ground := Ground.data }], guard := none }) (v := ?_) rfl (by kernel_rfl) (by kernel_rfl) (by kernel_rfl) (fun _ _ _ h => h) (Or.inl ⟨by rfl, ?_⟩) (by assumption) ?_
      rotate_left
      · (intro wz hSw; (obtain ⟨hS1, hS2, hS3⟩ := hSw); go_simp; try with_reducible rfl)
      try simp only [Act.put, List.setIfInBounds_toArray, List.set_cons_zero, List.set_cons_succ]
      refine wpAnyH_take (i := 9) (oi := { dst := some 63, op := Op.fieldAddr 74 (Operand.tmp 62) 5, type := 0, pos := "heap.go:122", after := #[{ on := 8, ground := Ground.data }], guard := none }) (v := ?_) rfl (by kernel_rfl) (by kernel_rfl) (by kernel_rfl) (fun _ _ _ h => h) (Or.inl ⟨by rfl, ?_⟩) (by assumption) ?_
      rotate_left
      · (intro wz hSw; (obtain ⟨hS1, hS2, hS3⟩ := hSw); go_simp; try with_reducible rfl)
      try simp only [Act.put, List.setIfInBounds_toArray, List.set_cons_zero, List.set_cons_succ]
      refine wpAnyH_take (i := 11) (oi := { dst := some 65, op := Op.move (Operand.tmp 6), type := 3, pos := "heap.go:122", after := #[], guard := none }) (v := ?_) rfl (by kernel_rfl) (by kernel_rfl) (by kernel_rfl) (fun _ _ _ h => h) (Or.inl ⟨by rfl, ?_⟩) (by assumption) ?_
      rotate_left
      · (intro wz hSw; (obtain ⟨hS1, hS2, hS3⟩ := hSw); go_simp; try with_reducible rfl)
      try simp only [Act.put, List.setIfInBounds_toArray, List.set_cons_zero, List.set_cons_succ]
      refine wpAnyH_take (i := 12) (oi := { dst := some 66, op := Op.move (Operand.tmp 6), type := 3, pos := "heap.go:122", after := #[], guard := none }) (v := ?_) rfl (by kernel_rfl) (by kernel_rfl) (by kernel_rfl) (fun _ _ _ h => h) (Or.inl ⟨by rfl, ?_⟩) (by assumption) ?_
      rotate_left
      · (intro wz hSw; (obtain ⟨hS1, hS2, hS3⟩ := hSw); go_simp; try with_reducible rfl)
      try simp only [Act.put, List.setIfInBounds_toArray, List.set_cons_zero, List.set_cons_succ]
      refine wpAnyH_take (i := 14) (oi := { dst := some 68, op := Op.load 3 (Operand.tmp 3), type := 3, pos := "heap.go:122", after := #[], guard := none }) (v := ?_) rfl (by kernel_rfl) (by kernel_rfl) (by kernel_rfl) (fun _ _ _ h => h) (Or.inl ⟨by rfl, ?_⟩) (by assumption) ?_
      rotate_left
      · (intro wz hSw; (obtain ⟨hS1, hS2, hS3⟩ := hSw); go_simp; try with_reducible rfl)
      try simp only [Act.put, List.setIfInBounds_toArray, List.set_cons_zero, List.set_cons_succ]
      refine wpAnyH_ready (rs := [10, 15]) (by kernel_rfl) (by simp) ?_
      refine AllReadyH.cons (o := { dst := some 64, op := Op.load 54 (Operand.tmp 63), type := 54, pos := "heap.go:122", after := #[{ on := 9, ground := Ground.data }], guard := none }) rfl (fun K hK => ?_) (AllReadyH.cons (o := { dst := some 69, op := Op.buildSlice 54 1 #[(0, Operand.tmp 68)], type := 54, pos := "heap.go:122", after := #[{ on := 14, ground := Ground.data }], guard := none }) rfl (fun K hK => ?_) AllReadyH.nil)
      · go_simp
        try go_wp2_with fail
        refine hK.out _ _ hHeld (fun hHeld => ?_)
        clear hK K
        try simp only [Act.put, List.setIfInBounds_toArray, List.set_cons_zero, List.set_cons_succ]
        refine wpAnyH_take (i := 13) (oi := { dst := some 67, op := Op.slice 54 (Operand.tmp 64) none (some (Operand.tmp 65)) (some (Operand.tmp 66)), type := 54, pos := "heap.go:122", after := #[{ on := 10, ground := Ground.data }, { on := 11, ground := Ground.data }, { on := 12, ground := Ground.data }], guard := none }) (v := ?_) rfl (by kernel_rfl) (by kernel_rfl) (by kernel_rfl) (fun _ _ _ h => h) (Or.inl ⟨by rfl, ?_⟩) (by assumption) ?_
        rotate_left
        · (intro wz hSw; (obtain ⟨hS1, hS2, hS3⟩ := hSw); go_simp; try with_reducible rfl)
        try simp only [Act.put, List.setIfInBounds_toArray, List.set_cons_zero, List.set_cons_succ]
        refine wpAnyH_ready (rs := [15]) (by kernel_rfl) (by simp) ?_
        refine AllReadyH.cons (o := { dst := some 69, op := Op.buildSlice 54 1 #[(0, Operand.tmp 68)], type := 54, pos := "heap.go:122", after := #[{ on := 14, ground := Ground.data }], guard := none }) rfl (fun K hK => ?_) AllReadyH.nil
        go_simp
        try go_wp2_with fail
        refine hK.out _ _ (HSx.out _ (((Grew.refl w5).drew).alloc _)) (fun hHeld => ?_)
        clear hK K
        try simp only [Act.put, List.setIfInBounds_toArray, List.set_cons_zero, List.set_cons_succ]
        refine wpAnyH_ready (rs := [16]) (by kernel_rfl) (by simp) ?_
        refine AllReadyH.cons (o := { dst := some 70, op := Op.call { callee := Callee.builtin Builtin.append, args := #[Operand.tmp 67, Operand.tmp 69], argTypes := #[54, 54] }, type := 54, pos := "heap.go:122", after := #[{ on := 13, ground := Ground.data }, { on := 15, ground := Ground.data }], guard := none }) rfl (fun K hK => ?_) AllReadyH.nil
        refine step_append_grows rfl (.tmp 67) (.tmp 69) 54 rfl 3 i0 (.int .i64 0) 1 8 Tryz.underlying54 HI0.out HI1.out HI2.out HI3.out rfl (by decide) none 0 0 [] rfl ?_ ?_ ?_ ⟨w5.heap.size, 0, none⟩ 1 1 [.int .i64 T] rfl rfl ?_ ?_ ?_ ?_ ?_ ?_
        · exact fun _ => ⟨rfl, rfl⟩
        · rfl
        · exact fun _ e => nomatch e
        · intro j z hz
          match j, hz with
          | 0, hz => (simp at hz; subst hz; rw [Addr.add_lit]; exact boxNew rfl)
        · (intro z hz; simp at hz; subst hz; rfl)
        · omega
        · (unfold maxLen; omega)
        · omega
        intro u6 w6 hown hgr
        have k6 : Grew (fun _ => False) w5 w6 := (((Grew.refl w5).drew).alloc _).grown hgr fun _ _ e => nomatch e
        have HU6 := Lib.hid (HOwn.out w6 u6 k6 (own_low hown (by show b.B ≤ (w5.drew.alloc _).heap.size; have := hsz5; simp; omega)))
        have hS6 := HSx.out w6 k6
        have HU7 := Lib.hid (HU6.out)
        clear hown hgr k6 HU6
        refine hK.out _ _ hS6 (fun hHeld => ?_)
        clear hK K
        try simp only [Act.put, List.setIfInBounds_toArray, List.set_cons_zero, List.set_cons_succ]
        refine wpAnyH_ready (rs := [17]) (by kernel_rfl) (by simp) ?_
        refine AllReadyH.cons (o := { dst := some 71, op := Op.call { callee := Callee.value (Operand.func 139), args := #[Operand.tmp 57, Operand.tmp 60, Operand.tmp 70], argTypes := #[65, 163, 54] }, type := 0, pos := "heap.go:122", after := #[{ on := 3, ground := Ground.data }, { on := 6, ground := Ground.data }, { on := 16, ground := Ground.data }, { on := 16, ground := Ground.chain }], guard := none }) rfl (fun K hK => ?_) AllReadyH.nil
        go_simp
        refine HU7.out.mono ?_
        rintro e w7 ⟨rfl, hd7, hS7⟩
        have HD7 := Lib.hid hd7
        clear hd7 HU7
        try go_wp2_with fail
        refine hK.out _ _ hS7 (fun hHeld => ?_)
        clear hK K
        try simp only [Act.put, List.setIfInBounds_toArray, List.set_cons_zero, List.set_cons_succ]
        refine wpAnyH_done (by kernel_rfl) ?_ _
        go_wp2_with fail
        go_end0
        exact ⟨rfl, HD7.out⟩
      · go_simp
        try go_wp2_with fail
        refine hK.out _ _ (HSx.out _ (((Grew.refl w5).drew).alloc _)) (fun hHeld => ?_)
        clear hK K
        try simp only [Act.put, List.setIfInBounds_toArray, List.set_cons_zero, List.set_cons_succ]
        refine wpAnyH_ready (rs := [10]) (by kernel_rfl) (by simp) ?_
        refine AllReadyH.cons (o := { dst := some 64, op := Op.load 54 (Operand.tmp 63), type := 54, pos := "heap.go:122", after := #[{ on := 9, ground := Ground.data }], guard := none }) rfl (fun K hK => ?_) AllReadyH.nil
        go_simp
        try go_wp2_with fail
        refine hK.out _ _ hHeld (fun hHeld => ?_)
        clear hK K
        try simp only [Act.put, List.setIfInBounds_toArray, List.set_cons_zero, List.set_cons_succ]
        refine wpAnyH_take (i := 13) (oi := { dst := some 67, op := Op.slice 54 (Operand.tmp 64) none (some (Operand.tmp 65)) (some (Operand.tmp 66)), type := 54, pos := "heap.go:122", after := #[{ on := 10, ground := Ground.data }, { on := 11, ground := Ground.data }, { on := 12, ground := Ground.data }], guard := none }) (v := ?_) rfl (by kernel_rfl) (by kernel_rfl) (by kernel_rfl) (fun _ _ _ h => h) (Or.inl ⟨by rfl, ?_⟩) (by assumption) ?_
        rotate_left
        · (intro wz hSw; (obtain ⟨hS1, hS2, hS3⟩ := hSw); go_simp; try with_reducible rfl)
        try simp only [Act.put, List.setIfInBounds_toArray, List.set_cons_zero, List.set_cons_succ]
        refine wpAnyH_ready (rs := [16]) (by kernel_rfl) (by simp) ?_
        refine AllReadyH.cons (o := { dst := some 70, op := Op.call { callee := Callee.builtin Builtin.append, args := #[Operand.tmp 67, Operand.tmp 69], argTypes := #[54, 54] }, type := 54, pos := "heap.go:122", after := #[{ on := 13, ground := Ground.data }, { on := 15, ground := Ground.data }], guard := none }) rfl (fun K hK => ?_) AllReadyH.nil
        refine step_append_grows rfl (.tmp 67) (.tmp 69) 54 rfl 3 i0 (.int .i64 0) 1 8 Tryz.underlying54 HI0.out HI1.out HI2.out HI3.out rfl (by decide) none 0 0 [] rfl ?_ ?_ ?_ ⟨w5.heap.size, 0, none⟩ 1 1 [.int .i64 T] rfl rfl ?_ ?_ ?_ ?_ ?_ ?_
        · exact fun _ => ⟨rfl, rfl⟩
        · rfl
        · exact fun _ e => nomatch e
        · intro j z hz
          match j, hz with
          | 0, hz => (simp at hz; subst hz; rw [Addr.add_lit]; exact boxNew rfl)
        · (intro z hz; simp at hz; subst hz; rfl)
        · omega
        · (unfold maxLen; omega)
        · omega
        intro u6 w6 hown hgr
        have k6 : Grew (fun _ => False) w5 w6 := (((Grew.refl w5).drew).alloc _).grown hgr fun _ _ e => nomatch e
        have HU6 := Lib.hid (HOwn.out w6 u6 k6 (own_low hown (by show b.B ≤ (w5.drew.alloc _).heap.size; have := hsz5; simp; omega)))
        have hS6 := HSx.out w6 k6
        have HU7 := Lib.hid (HU6.out)
        clear hown hgr k6 HU6
        refine hK.out _ _ hS6 (fun hHeld => ?_)
        clear hK K
        try simp only [Act.put, List.setIfInBounds_toArray, List.set_cons_zero, List.set_cons_succ]
        refine wpAnyH_ready (rs := [17]) (by kernel_rfl) (by simp) ?_
        refine AllReadyH.cons (o := { dst := some 71, op := Op.call { callee := Callee.value (Operand.func 139), args := #[Operand.tmp 57, Operand.tmp 60, Operand.tmp 70], argTypes := #[65, 163, 54] }, type := 0, pos := "heap.go:122", after := #[{ on := 3, ground := Ground.data }, { on := 6, ground := Ground.data }, { on := 16, ground := Ground.data }, { on := 16, ground := Ground.chain }], guard := none }) rfl (fun K hK => ?_) AllReadyH.nil
        go_simp
        refine HU7.out.mono ?_
        rintro e w7 ⟨rfl, hd7, hS7⟩
        have HD7 := Lib.hid hd7
        clear hd7 HU7
        try go_wp2_with fail
        refine hK.out _ _ hS7 (fun hHeld => ?_)
        clear hK K
        try simp only [Act.put, List.setIfInBounds_toArray, List.set_cons_zero, List.set_cons_succ]
        refine wpAnyH_done (by kernel_rfl) ?_ _
        go_wp2_with fail
        go_end0
        exact ⟨rfl, HD7.out⟩
    · have i1 : (0 : Int) ≤ (s.G.length : Int) := by omega
      have i2 : (s.G.length : Int) ≤ (cap : Int) := by have a3 : s.G.length ≤ cap := a3; omega
      replace o5 : w5.cell? ⟨b.hb, 5, none⟩ = some (.slice (some ⟨r, 0, none⟩) s.G.length cap) := o5
      have i3 : s.G.length ≤ cap := a3
      have o6 : w5.drew.cell? ⟨b.hb, 5, none⟩ = some (.slice (some ⟨r, 0, none⟩) s.G.length cap) := o5
      have o7 : (w5.drew.alloc (.cells #[.int .i64 T] 3)).cell? ⟨b.hb, 5, none⟩ = some (.slice (some ⟨r, 0, none⟩) s.G.length cap) := ((((Grew.refl (S := fun _ => False) w5).drew).alloc (.cells #[.int .i64 T] 3)).cell (p := ⟨b.hb, 5, none⟩) hlt5 fun e => e).trans o5
      have HCell : Hid (∀ wz, Grew (fun _ => False) w5 wz → ∀ j z, (intsG s.G)[j]? = some z → wz.cell? ((⟨r, 0, none⟩ : Addr).add j) = some z) := Lib.hid fun wz k j z hz => (ownInt_keep ho k fun _ _ e => e).cells (g := r) rfl j z hz
      clear l5 n5 p5 i5 g5 HSG ho HB5 HD5 HDY
      clear a1 a2 a3 a4 a5 a6
      go_upto_region 8 with fail
      refine wp_region_held_drew (S := fun wx => wx.cell? ⟨w.heap.size, 0, none⟩ = some (.pointer (some ⟨b.hb, 0, none⟩)) ∧ wx.cell? ⟨w.heap.size + 1, 0, none⟩ = some (.int .i64 T) ∧ wx.cell? ⟨b.hb, 1, none⟩ = some (.pointer (some ⟨b.g, 0, none⟩))) (by kernel_rfl) (HSx.out w5.drew ((Grew.refl w5).drew)) (fun hHeld => ?_)
      refine wpAnyH_take (i := 0) (oi := { dst := some 54, op := Op.load 24 (Operand.tmp 2), type := 24, pos := "heap.go:122", after := #[], guard := none }) (v := ?_) rfl (by kernel_rfl) (by kernel_rfl) (by kernel_rfl) (fun _ _ _ h => h) (Or.inl ⟨by rfl, ?_⟩) (by assumption) ?_
      rotate_left
      · (intro wz hSw; (obtain ⟨hS1, hS2, hS3⟩ := hSw); go_simp; try with_reducible rfl)
      try simp only [Act.put, List.setIfInBounds_toArray, List.set_cons_zero, List.set_cons_succ]
      refine wpAnyH_take (i := 1) (oi := { dst := some 55, op := Op.nilCheck (Operand.tmp 54), type := 0, pos := "heap.go:122", after := #[{ on := 0, ground := Ground.data }], guard := none }) (v := ?_) rfl (by kernel_rfl) (by kernel_rfl) (by kernel_rfl) (fun _ _ _ h => h) (Or.inl ⟨by rfl, ?_⟩) (by assumption) ?_
      rotate_left
      · (intro wz hSw; (obtain ⟨hS1, hS2, hS3⟩ := hSw); go_simp; try with_reducible rfl)
      try simp only [Act.put, List.setIfInBounds_toArray, List.set_cons_zero, List.set_cons_succ]
      refine wpAnyH_take (i := 2) (oi := { dst := some 56, op := Op.fieldAddr 74 (Operand.tmp 55) 1, type := 0, pos := "heap.go:122", after := #[{ on := 1, ground := Ground.data }], guard := none }) (v := ?_) rfl (by kernel_rfl) (by kernel_rfl) (by kernel_rfl) (fun _ _ _ h => h) (Or.inl ⟨by rfl, ?_⟩) (by assumption) ?_
      rotate_left
      · (intro wz hSw; (obtain ⟨hS1, hS2, hS3⟩ := hSw); go_simp; try with_reducible rfl)
      try simp only [Act.put, List.setIfInBounds_toArray, List.set_cons_zero, List.set_cons_succ]
      refine wpAnyH_take (i := 3) (oi := { dst := some 57, op := Op.load 65 (Operand.tmp 56), type := 65, pos := "heap.go:122", after := #[{ on := 2, ground := Ground.data }], guard := none }) (v := ?_) rfl (by kernel_rfl) (by kernel_rfl) (by kernel_rfl) (fun _ _ _ h => h) (Or.inl ⟨by rfl, ?_⟩) (by assumption) ?_
      rotate_left
      · (intro wz hSw; (obtain ⟨hS1, hS2, hS3⟩ := hSw); go_simp; try with_reducible rfl)
      try simp only [Act.put, List.setIfInBounds_toArray, List.set_cons_zero, List.set_cons_succ]
      refine wpAnyH_take (i := 4) (oi := { dst := some 58, op := Op.load 24 (Operand.tmp 2), type := 24, pos := "heap.go:122", after := #[], guard := none }) (v := ?_) rfl (by kernel_rfl) (by kernel_rfl) (by kernel_rfl) (fun _ _ _ h => h) (Or.inl ⟨by rfl, ?_⟩) (by assumption) ?_
      rotate_left
      · (intro wz hSw; (obtain ⟨hS1, hS2, hS3⟩ := hSw); go_simp; try with_reducible rfl)
      try simp only [Act.put, List.setIfInBounds_toArray, List.set_cons_zero, List.set_cons_succ]
      refine wpAnyH_take (i := 5) (oi := { dst := some 59, op := Op.nilCheck (Operand.tmp 58), type := 0, pos := "heap.go:122", after := #[{ on := 4, ground := Ground.data }], guard := none }) (v := ?_) rfl (by kernel_rfl) (by kernel_rfl) (by kernel_rfl) (fun _ _ _ h => h) (Or.inl ⟨by rfl, ?_⟩) (by assumption) ?_
      rotate_left
      · (intro wz hSw; (obtain ⟨hS1, hS2, hS3⟩ := hSw); go_simp; try with_reducible rfl)
      try simp only [Act.put, List.setIfInBounds_toArray, List.set_cons_zero, List.set_cons_succ]
      refine wpAnyH_take (i := 6) (oi := { dst := some 60, op := Op.fieldAddr 74 (Operand.tmp 59) 5, type := 0, pos := "heap.go:122", after := #[{ on := 5, ground := Ground.data }], guard := none }) (v := ?_) rfl (by kernel_rfl) (by kernel_rfl) (by kernel_rfl) (fun _ _ _ h => h) (Or.inl ⟨by rfl, ?_⟩) (by assumption) ?_
      rotate_left
      · (intro wz hSw; (obtain ⟨hS1, hS2, hS3⟩ := hSw); go_simp; try with_reducible rfl)
      try simp only [Act.put, List.setIfInBounds_toArray, List.set_cons_zero, List.set_cons_succ]
      refine wpAnyH_take (i := 7) (oi := { dst := some 61, op := Op.load 24 (Operand.tmp 2), type := 24, pos := "heap.go:122", after := #[], guard := none }) (v := ?_) rfl (by kernel_rfl) (by kernel_rfl) (by kernel_rfl) (fun _ _ _ h => h) (Or.inl ⟨by rfl, ?_⟩) (by assumption) ?_
      rotate_left
      · (intro wz hSw; (obtain ⟨hS1, hS2, hS3⟩ := hSw); go_simp; try with_reducible rfl)
      try simp only [Act.put, List.setIfInBounds_toArray, List.set_cons_zero, List.set_cons_succ]
      refine wpAnyH_take (i := 8) (oi := { dst := some 62, op := Op.nilCheck (Operand.tmp 61), type := 0, pos := "heap.go:122", after := #[{ on := 7, ground := Ground.data }], guard := none }) (v := ?_) rfl (by kernel_rfl) (by kernel_rfl) (by kernel_rfl) (fun _ _ _ h => h) (Or.inl ⟨by rfl, ?_⟩) (by assumption) ?_
      rotate_left
      · (intro wz hSw; (obtain ⟨hS1, hS2, hS3⟩ := hSw); go_simp; try with_reducible rfl)
      try simp only [Act.put, List.setIfInBounds_toArray, List.set_cons_zero, List.set_cons_succ]
      refine wpAnyH_take (i := 9) (oi := { dst := some 63, op := Op.fieldAddr 74 (Operand.tmp 62) 5, type := 0, pos := "heap.go:122", after := #[{ on := 8, ground := Ground.data }], guard := none }) (v := ?_) rfl (by kernel_rfl) (by kernel_rfl) (by kernel_rfl) (fun _ _ _ h => h) (Or.inl ⟨by rfl, ?_⟩) (by assumption) ?_
      rotate_left
      · (intro wz hSw; (obtain ⟨hS1, hS2, hS3⟩ := hSw); go_simp; try with_reducible rfl)
      try simp only [Act.put, List.setIfInBounds_toArray, List.set_cons_zero, List.set_cons_succ]
      refine wpAnyH_take (i := 11) (oi := { dst := some 65, op := Op.move (Operand.tmp 6), type := 3, pos := "heap.go:122", after := #[], guard := none }) (v := ?_) rfl (by kernel_rfl) (by kernel_rfl) (by kernel_rfl) (fun _ _ _ h => h) (Or.inl ⟨by rfl, ?_⟩) (by assumption) ?_
      rotate_left
      · (intro wz hSw; (obtain ⟨hS1, hS2, hS3⟩ := hSw); go_simp; try with_reducible rfl)
      try simp only [Act.put, List.setIfInBounds_toArray, List.set_cons_zero, List.set_cons_succ]
      refine wpAnyH_take (i := 12) (oi := { dst := some 66, op := Op.move (Operand.tmp 6), type := 3, pos := "heap.go:122", after := #[], guard := none }) (v := ?_) rfl (by kernel_rfl) (by kernel_rfl) (by kernel_rfl) (fun _ _ _ h => h) (Or.inl ⟨by rfl, ?_⟩) (by assumption) ?_
      rotate_left
      · (intro wz hSw; (obtain ⟨hS1, hS2, hS3⟩ := hSw); go_simp; try with_reducible rfl)
      try simp only [Act.put, List.setIfInBounds_toArray, List.set_cons_zero, List.set_cons_succ]
      refine wpAnyH_take (i := 14) (oi := { dst := some 68, op := Op.load 3 (Operand.tmp 3), type := 3, pos := "heap.go:122", after := #[], guard := none }) (v := ?_) rfl (by kernel_rfl) (by kernel_rfl) (by kernel_rfl) (fun _ _ _ h => h) (Or.inl ⟨by rfl, ?_⟩) (by assumption) ?_
      rotate_left
      · (intro wz hSw; (obtain ⟨hS1, hS2, hS3⟩ := hSw); go_simp; try with_reducible rfl)
      try simp only [Act.put, List.setIfInBounds_toArray, List.set_cons_zero, List.set_cons_succ]
      refine wpAnyH_ready (rs := [10, 15]) (by kernel_rfl) (by simp) ?_
      refine AllReadyH.cons (o := { dst := some 64, op := Op.load 54 (Operand.tmp 63), type := 54, pos := "heap.go:122", after := #[{ on := 9, ground := Ground.data }], guard := none }) rfl (fun K hK => ?_) (AllReadyH.cons (o := { dst := some 69, op := Op.buildSlice 54 1 #[(0, Operand.tmp 68)], type := 54, pos := "heap.go:122", after := #[{ on := 14, ground := Ground.data }], guard := none }) rfl (fun K hK => ?_) AllReadyH.nil)
      · go_simp
        try go_wp2_with fail
        refine hK.out _ _ hHeld (fun hHeld => ?_)
        clear hK K
        try simp only [Act.put, List.setIfInBounds_toArray, List.set_cons_zero, List.set_cons_succ]
        refine wpAnyH_take (i := 13) (oi := { dst := some 67, op := Op.slice 54 (Operand.tmp 64) none (some (Operand.tmp 65)) (some (Operand.tmp 66)), type := 54, pos := "heap.go:122", after := #[{ on := 10, ground := Ground.data }, { on := 11, ground := Ground.data }, { on := 12, ground := Ground.data }], guard := none }) (v := ?_) rfl (by kernel_rfl) (by kernel_rfl) (by kernel_rfl) (fun _ _ _ h => h) (Or.inl ⟨by rfl, ?_⟩) (by assumption) ?_
        rotate_left
        · (intro wz hSw; (obtain ⟨hS1, hS2, hS3⟩ := hSw); go_simp; try with_reducible rfl)
        try simp only [Act.put, List.setIfInBounds_toArray, List.set_cons_zero, List.set_cons_succ]
        refine wpAnyH_ready (rs := [15]) (by kernel_rfl) (by simp) ?_
        refine AllReadyH.cons (o := { dst := some 69, op := Op.buildSlice 54 1 #[(0, Operand.tmp 68)], type := 54, pos := "heap.go:122", after := #[{ on := 14, ground := Ground.data }], guard := none }) rfl (fun K hK => ?_) AllReadyH.nil
        go_simp
        try go_wp2_with fail
        refine hK.out _ _ (HSx.out _ (((Grew.refl w5).drew).alloc _)) (fun hHeld => ?_)
        clear hK K
        try simp only [Act.put, List.setIfInBounds_toArray, List.set_cons_zero, List.set_cons_succ]
        refine wpAnyH_ready (rs := [16]) (by kernel_rfl) (by simp) ?_
        refine AllReadyH.cons (o := { dst := some 70, op := Op.call { callee := Callee.builtin Builtin.append, args := #[Operand.tmp 67, Operand.tmp 69], argTypes := #[54, 54] }, type := 54, pos := "heap.go:122", after := #[{ on := 13, ground := Ground.data }, { on := 15, ground := Ground.data }], guard := none }) rfl (fun K hK => ?_) AllReadyH.nil
        refine step_append_grows rfl (.tmp 67) (.tmp 69) 54 rfl 3 i0 (.int .i64 0) 1 8 Tryz.underlying54 HI0.out HI1.out HI2.out HI3.out rfl (by decide) (some ⟨r, 0, none⟩) s.G.length s.G.length (intsG s.G) rfl ?_ ?_ ?_ ⟨w5.heap.size, 0, none⟩ 1 1 [.int .i64 T] rfl rfl ?_ ?_ ?_ ?_ ?_ ?_
        · exact fun e => nomatch e
        · simp [intsG]
        · intro bz hbz
          cases hbz
          exact HCell.out _ (((Grew.refl w5).drew).alloc _)
        · intro j z hz
          match j, hz with
          | 0, hz => (simp at hz; subst hz; rw [Addr.add_lit]; exact boxNew rfl)
        · (intro z hz; simp at hz; subst hz; rfl)
        · omega
        · (unfold maxLen; omega)
        · omega
        intro u6 w6 hown hgr
        have k6 : Grew (fun _ => False) w5 w6 := (((Grew.refl w5).drew).alloc _).grown hgr fun _ _ e => nomatch e
        have HU6 := Lib.hid (HOwn.out w6 u6 k6 (own_low hown (by show b.B ≤ (w5.drew.alloc _).heap.size; have := hsz5; simp; omega)))
        have hS6 := HSx.out w6 k6
        have HU7 := Lib.hid (HU6.out)
        clear hown hgr k6 HU6
        refine hK.out _ _ hS6 (fun hHeld => ?_)
        clear hK K
        try simp only [Act.put, List.setIfInBounds_toArray, List.set_cons_zero, List.set_cons_succ]
        refine wpAnyH_ready (rs := [17]) (by kernel_rfl) (by simp) ?_
        refine AllReadyH.cons (o := { dst := some 71, op := Op.call { callee := Callee.value (Operand.func 139), args := #[Operand.tmp 57, Operand.tmp 60, Operand.tmp 70], argTypes := #[65, 163, 54] }, type := 0, pos := "heap.go:122", after := #[{ on := 3, ground := Ground.data }, { on := 6, ground := Ground.data }, { on := 16, ground := Ground.data }, { on := 16, ground := Ground.chain }], guard := none }) rfl (fun K hK => ?_) AllReadyH.nil
        go_simp
        refine HU7.out.mono ?_
        rintro e w7 ⟨rfl, hd7, hS7⟩
        have HD7 := Lib.hid hd7
        clear hd7 HU7
        try go_wp2_with fail
        refine hK.out _ _ hS7 (fun hHeld => ?_)
        clear hK K
        try simp only [Act.put, List.setIfInBounds_toArray, List.set_cons_zero, List.set_cons_succ]
        refine wpAnyH_done (by kernel_rfl) ?_ _
        go_wp2_with fail
        go_end0
        exact ⟨rfl, HD7.out⟩
      · go_simp
        try go_wp2_with fail
        refine hK.out _ _ (HSx.out _ (((Grew.refl w5).drew).alloc _)) (fun hHeld => ?_)
        clear hK K
        try simp only [Act.put, List.setIfInBounds_toArray, List.set_cons_zero, List.set_cons_succ]
        refine wpAnyH_ready (rs := [10]) (by kernel_rfl) (by simp) ?_
        refine AllReadyH.cons (o := { dst := some 64, op := Op.load 54 (Operand.tmp 63), type := 54, pos := "heap.go:122", after := #[{ on := 9, ground := Ground.data }], guard := none }) rfl (fun K hK => ?_) AllReadyH.nil
        go_simp
        try go_wp2_with fail
        refine hK.out _ _ hHeld (fun hHeld => ?_)
        clear hK K
        try simp only [Act.put, List.setIfInBounds_toArray, List.set_cons_zero, List.set_cons_succ]
        refine wpAnyH_take (i := 13) (oi := { dst := some 67, op := Op.slice 54 (Operand.tmp 64) none (some (Operand.tmp 65)) (some (Operand.tmp 66)), type := 54, pos := "heap.go:122", after := #[{ on := 10, ground := Ground.data }, { on := 11, ground := Ground.data }, { on := 12, ground := Ground.data }], guard := none }) (v := ?_) rfl (by kernel_rfl) (by kernel_rfl) (by kernel_rfl) (fun _ _ _ h => h) (Or.inl ⟨by rfl, ?_⟩) (by assumption) ?_
        rotate_left
        · (intro wz hSw; (obtain ⟨hS1, hS2, hS3⟩ := hSw); go_simp; try with_reducible rfl)
        try simp only [Act.put, List.setIfInBounds_toArray, List.set_cons_zero, List.set_cons_succ]
        refine wpAnyH_ready (rs := [16]) (by kernel_rfl) (by simp) ?_
        refine AllReadyH.cons (o := { dst := some 70, op := Op.call { callee := Callee.builtin Builtin.append, args := #[Operand.tmp 67, Operand.tmp 69], argTypes := #[54, 54] }, type := 54, pos := "heap.go:122", after := #[{ on := 13, ground := Ground.data }, { on := 15, ground := Ground.data }], guard := none }) rfl (fun K hK => ?_) AllReadyH.nil
        refine step_append_grows rfl (.tmp 67) (.tmp 69) 54 rfl 3 i0 (.int .i64 0) 1 8 Tryz.underlying54 HI0.out HI1.out HI2.out HI3.out rfl (by decide) (some ⟨r, 0, none⟩) s.G.length s.G.length (intsG s.G) rfl ?_ ?_ ?_ ⟨w5.heap.size, 0, none⟩ 1 1 [.int .i64 T] rfl rfl ?_ ?_ ?_ ?_ ?_ ?_
        · exact fun e => nomatch e
        · simp [intsG]
        · intro bz hbz
          cases hbz
          exact HCell.out _ (((Grew.refl w5).drew).alloc _)
        · intro j z hz
          match j, hz with
          | 0, hz => (simp at hz; subst hz; rw [Addr.add_lit]; exact boxNew rfl)
        · (intro z hz; simp at hz; subst hz; rfl)
        · omega
        · (unfold maxLen; omega)
        · omega
        intro u6 w6 hown hgr
        have k6 : Grew (fun _ => False) w5 w6 := (((Grew.refl w5).drew).alloc _).grown hgr fun _ _ e => nomatch e
        have HU6 := Lib.hid (HOwn.out w6 u6 k6 (own_low hown (by show b.B ≤ (w5.drew.alloc _).heap.size; have := hsz5; simp; omega)))
        have hS6 := HSx.out w6 k6
        have HU7 := Lib.hid (HU6.out)
        clear hown hgr k6 HU6
        refine hK.out _ _ hS6 (fun hHeld => ?_)
        clear hK K
        try simp only [Act.put, List.setIfInBounds_toArray, List.set_cons_zero, List.set_cons_succ]
        refine wpAnyH_ready (rs := [17]) (by kernel_rfl) (by simp) ?_
        refine AllReadyH.cons (o := { dst := some 71, op := Op.call { callee := Callee.value (Operand.func 139), args := #[Operand.tmp 57, Operand.tmp 60, Operand.tmp 70], argTypes := #[65, 163, 54] }, type := 0, pos := "heap.go:122", after := #[{ on := 3, ground := Ground.data }, { on := 6, ground := Ground.data }, { on := 16, ground := Ground.data }, { on := 16, ground := Ground.chain }], guard := none }) rfl (fun K hK => ?_) AllReadyH.nil
        go_simp
        refine HU7.out.mono ?_
        rintro e w7 ⟨rfl, hd7, hS7⟩
        have HD7 := Lib.hid hd7
        clear hd7 HU7
        try go_wp2_with fail
        refine hK.out _ _ hS7 (fun hHeld => ?_)
        clear hK K
        try simp only [Act.put, List.setIfInBounds_toArray, List.set_cons_zero, List.set_cons_succ]
        refine wpAnyH_done (by kernel_rfl) ?_ _
        go_wp2_with fail
        go_end0
        exact ⟨rfl, HD7.out⟩)
end Go.Proofs.YtbohpffigmllkaaGreatDoor

/-
  A heap within a Try: Put: contracts.
-/
namespace Go.Proofs.YtbohpffigmllkaaGreatDoor
open Go.RowKit Go.Maps Go.ChangeMaps Go.WideShapes

/-- the same heap, and another content of its disk -/
abbrev HB.at (b : HB) (U : Nat → UInt8) : HB := { b with T := U }
theorem HB.ok.at {b : HB} (ok : b.ok) (U : Nat → UInt8) : (b.at U).ok := ⟨ok.nd, ok.lt, ok.f, ok.n⟩
/-- what lies there behind a write -/
def wroteT (T : Nat → UInt8) (k : Nat) (s : ByteArray) : Nat → UInt8 := fun j => if k * 64 ≤ j ∧ j < k * 64 + 64 then txtf s (j - k * 64) else T j
theorem HeapI.disk {b : HB} {s : HS} {w w' : World} (ok : b.ok) (h : HeapI b s w) {M : DiskM} (hM : DiskAt M w') (hm : M.d = b.d ∧ M.bs = b.bs ∧ M.bt = b.bt ∧ M.n = b.f + b.n ∧ M.armed = false ∧ M.dead = false ∧ M.left ≤ 2 ^ 62) (k : Grew (fun q => q = b.d ∨ q = b.bs ∨ q = b.bt) w w') : HeapI (b.at M.T) s w' := by
  have hh := h.hlt
  have ne : ∀ i, i < 6 → ¬ (b.blk i = b.d ∨ b.blk i = b.bs ∨ b.blk i = b.bt) := fun i hi e => by
    rcases e with e | e | e
    · exact ok.nd i 6 (by omega) (by decide) (by omega) e
    · exact ok.nd i 7 (by omega) (by decide) (by omega) e
    · exact ok.nd i 8 (by omega) (by decide) (by omega) e
  have c : ∀ o, w'.cell? ⟨b.hb, o, none⟩ = w.cell? ⟨b.hb, o, none⟩ := fun o => k.cell (p := ⟨b.hb, o, none⟩) hh (ne 0 (by decide))
  obtain ⟨v, e5, ho⟩ := h.c5
  refine ⟨(c 0).trans h.c0, (c 1).trans h.c1, (c 2).trans h.c2, (c 3).trans h.c3, (c 4).trans h.c4, ⟨v, (c 5).trans e5, ownInt_keep ho k fun q hq e => ?_⟩, (c 6).trans h.c6, fun o => by rw [k.frozen (p := ⟨b.hb, o, none⟩) hh (ne 0 (by decide))]; exact h.fr o, h.gr.keep k (ne 2 (by decide)) (ne 3 (by decide)), h.rf.keep k (ne 4 (by decide)), h.yg.keep k (ne 5 (by decide)), ⟨M, hM, hm.1, hm.2.1, hm.2.2.1, hm.2.2.2.1, hm.2.2.2.2.1, hm.2.2.2.2.2.1, hm.2.2.2.2.2.2, rfl⟩, Nat.le_trans h.sz k.size, h.kd.block (k.block b.hb hh (ne 0 (by decide))), fun e => (c 5).trans (h.nl e)⟩
  have a0 := (ho.lt q hq).1
  have a6 := ok.lt 6 (by decide)
  have a7 := ok.lt 7 (by decide)
  have a8 := ok.lt 8 (by decide)
  have b6 : b.blk 6 = b.d := rfl
  have b7 : b.blk 7 = b.bs := rfl
  have b8 : b.blk 8 = b.bt := rfl
  omega
theorem hWrite_any (b : HB) (ok : b.ok) (s : HS) (i : Nat) (hi : i < b.n) (t : ByteArray) (ht : t.size ≤ 64) (w : World) (h : HeapI b s w) : Calls Tryz.prog 154 #[.pointer (some ⟨b.d, 0, none⟩), .int .i64 ((b.f + i : Nat) : Int), .string t] w fun e w' => e = .returned (.tuple #[]) ∧ HeapI (b.at (wroteT b.T (b.f + i) t)) s w' ∧ Grew (fun q => q = b.d ∨ q = b.bs ∨ q = b.bt) w w' := by
  obtain ⟨M, hM, m1, m2, m3, m4, m5, m6, m7, m8⟩ := h.dk
  have hsp : M.spent = M := by unfold DiskM.spent; rw [m5]; rfl
  have := write_ok M (b.f + i) t w hM m6 (by rw [m4]; omega) ht m7 (fun e => by rw [m5] at e; cases e)
  rw [m1, hsp] at this
  refine this.mono ?_
  rintro e w' ⟨rfl, hd, hg⟩
  have hg' : Grew (fun q => q = b.d ∨ q = b.bs ∨ q = b.bt) w w' := hg.mono fun q _ e => by
    rcases e with e | e | e
    · exact Or.inl (e.trans m1)
    · exact Or.inr (Or.inl (e.trans m2))
    · exact Or.inr (Or.inr (e.trans m3))
  rw [← m8]
  exact ⟨rfl, h.disk ok hd ⟨m1, m2, m3, m4, m5, m6, m7⟩ hg', hg'⟩
set_option maxRecDepth 100000 in
theorem putStep_any (b : HB) (ok : b.ok) (s : HS) (i : Nat) (hi : i < b.n) (t : ByteArray) (ht : t.size ≤ 64) (x y z : Nat) (w : World) (d1 : w.cell? ⟨x, 0, none⟩ = some (.pointer (some ⟨b.hb, 0, none⟩))) (d2 : w.cell? ⟨y, 0, none⟩ = some (.int .i64 ((b.f + i : Nat) : Int))) (d3 : w.cell? ⟨z, 0, none⟩ = some (.string t)) (h : HeapI b s w) : Calls Tryz.prog 153 #[.pointer (some ⟨x, 0, none⟩), .pointer (some ⟨y, 0, none⟩), .pointer (some ⟨z, 0, none⟩)] w fun e w' => e = .returned (.tuple #[]) ∧ HeapI (b.at (wroteT b.T (b.f + i) t)) s w' ∧ Grew (fun q => q = b.d ∨ q = b.bs ∨ q = b.bt) w w' := by
  have e1 : w.drew.cell? ⟨x, 0, none⟩ = some (.pointer (some ⟨b.hb, 0, none⟩)) := d1
  have e2 : w.drew.cell? ⟨y, 0, none⟩ = some (.int .i64 ((b.f + i : Nat) : Int)) := d2
  have e3 : w.drew.cell? ⟨z, 0, none⟩ = some (.string t) := d3
  have c0 := h.drew.c0
  have HW := Lib.hid (hWrite_any b ok s i hi t ht w.drew h.drew)
  have hU : ∃ U, wroteT b.T (b.f + i) t = U := ⟨_, rfl⟩
  obtain ⟨U, hU⟩ := hU
  rw [hU] at HW ⊢
  clear hU
  generalize ((b.f + i : Nat) : Int) = T at *
  clear h hi ht d1 d2 d3
  go_enter Tryz.func153, Tryz.ntmps153
  go_upto_region 0 with fail
  refine wp_region_still_tail 6 (by kernel_rfl) (by kernel_rfl) ?_
  change wpStill _ _ (w.drew) (fun a' => wpList _ _ _ _ a' (w.drew)) _ _
  simp only [List.take_succ_cons, List.take_zero, List.drop_succ_cons, List.drop_zero]
  repeat still_step
  refine wpStill_nil ?_
  go_wp2_with fail
  refine HW.out.mono ?_
  rintro e w' ⟨rfl, h1, hg⟩
  have HR := Lib.hid (And.intro h1 (((Grew.refl w).drew).trans hg))
  clear h1 hg HW
  go_wp2_with fail
  go_end0
  exact ⟨rfl, HR.out.1, HR.out.2⟩
theorem putY (b : HB) (ok : b.ok) (s : HS) (i : Nat) (hi : i < b.n) (dp : Nat) (v : Value) (fs : List Step) (w : World) (hf : fs.length < 100000) (h : HeapI b s w) (hl : LogAt b.B b.g (dp + 1) v fs w) : Calls Tryz.prog 156 #[.pointer (some ⟨b.g, 0, none⟩), .map (some b.yb), .int .i64 ((b.f + i : Nat) : Int), .agg #[]] w fun e w' => e = .returned (.tuple #[]) ∧ Did b.B b.g dp b.S0 (HeapI b) fs 1 s { s with Y := upF s.Y ((b.f + i : Nat) : Int) (some ()) } w w' :=
  putIU (heapLogged ok) (youngAcc ok) (b.few ok) b.B dp v fs s _ () w hl hf h.sz h (b.wf ok hi) trivial (b.keys_mem i hi) (heapLog ok hl h)
set_option maxRecDepth 100000 in
/-- the Guard around the writing -/
theorem putGuard_any (b : HB) (ok : b.ok) (s : HS) (i : Nat) (hi : i < b.n) (t : ByteArray) (ht : t.size ≤ 64) (x y z : Nat) (w : World) (hx : x < w.heap.size) (hy : y < w.heap.size) (hz : z < w.heap.size) (d1 : w.cell? ⟨x, 0, none⟩ = some (.pointer (some ⟨b.hb, 0, none⟩))) (d2 : w.cell? ⟨y, 0, none⟩ = some (.int .i64 ((b.f + i : Nat) : Int))) (d3 : w.cell? ⟨z, 0, none⟩ = some (.string t)) (h : HeapI b s w) : Calls Tryz.prog 38 #[.func (.func 153) #[] #[.pointer (some ⟨x, 0, none⟩), .pointer (some ⟨y, 0, none⟩), .pointer (some ⟨z, 0, none⟩)]] w fun e w' => e = .returned (.int .i64 0) ∧ HeapI (b.at (wroteT b.T (b.f + i) t)) s w' ∧ Grew (fun q => q = b.d ∨ q = b.bs ∨ q = b.bt) w w' := by
  have a := ((Grew.refl (S := fun _ => False) w).alloc (.cells #[.int .i64 0] 37))
  have hB := h.sz
  have hlt := h.dk
  refine (guard_any 153 #[.pointer (some ⟨x, 0, none⟩), .pointer (some ⟨y, 0, none⟩), .pointer (some ⟨z, 0, none⟩)] w (fun o w' => o = none ∧ HeapI (b.at (wroteT b.T (b.f + i) t)) s w' ∧ Grew (fun q => q = b.d ∨ q = b.bs ∨ q = b.bt) w w' ∧ w'.heap[w.heap.size]? = some (.cells #[.int .i64 0] 37)) (fun _ => rfl) ((putStep_any b ok s i hi t ht x y z _ ((a.cell (p := ⟨x, 0, none⟩) hx fun e => e).trans d1) ((a.cell (p := ⟨y, 0, none⟩) hy fun e => e).trans d2) ((a.cell (p := ⟨z, 0, none⟩) hz fun e => e).trans d3) (h.alloc _)).mono ?_)).mono ?_
  · rintro e w' ⟨rfl, h1, hg⟩
    have nb : ¬ (w.heap.size = b.d ∨ w.heap.size = b.bs ∨ w.heap.size = b.bt) := by
      have a6 := ok.lt 6 (by decide)
      have a7 := ok.lt 7 (by decide)
      have a8 := ok.lt 8 (by decide)
      have b6 : b.blk 6 = b.d := rfl
      have b7 : b.blk 7 = b.bs := rfl
      have b8 : b.blk 8 = b.bt := rfl
      omega
    have s1 : w.heap.size < (w.alloc (.cells #[.int .i64 0] 37)).heap.size := by simp
    refine ⟨none, rfl, ?_, ?_, Nat.lt_of_lt_of_le s1 hg.size, rfl, h1, (a.mono fun _ _ e => e.elim).trans hg, (hg.block _ s1 nb).trans (heap_alloc_new w _)⟩
    · rw [hg.cell (p := ⟨w.heap.size, 0, none⟩) s1 nb]
      exact boxNew rfl
    · rw [hg.frozen (p := ⟨w.heap.size, 0, none⟩) s1 nb]
      simp
  · rintro e w' ⟨o, w1, ⟨rfl, h1, hg, hbx⟩, rfl, rfl⟩
    have gd : Grew (fun q => q = w.heap.size) w1 (done w.heap.size none w1) := done_alone w.heap.size none w1
    refine ⟨rfl, h1.keep gd (fun j hj e => ?_) fun r hr hk e => ?_, hg.step gd fun x hx e => absurd hx (by omega)⟩
    · have := (ok.at (wroteT b.T (b.f + i) t)).lt j hj
      have e9 : (b.at (wroteT b.T (b.f + i) t)).B = b.B := rfl
      omega
    · obtain ⟨c, fz, e1⟩ := hk
      have e : r = w.heap.size := e
      rw [e, hbx] at e1
      simp at e1
end Go.Proofs.YtbohpffigmllkaaGreatDoor

/-
  A heap within a Try: Put: contract (written by gen_hput.py).
-/
namespace Go.Proofs.YtbohpffigmllkaaGreatDoor
open Go.RowKit Go.Maps Go.ChangeMaps Go.WideShapes

def HS.put (s : HS) (j : Nat) (T : Int) : HS := { s with S := upd s.S j 1, R := upF s.R T (some 1), Y := upF s.Y T (some ()) }
theorem cnt_none (S : Nat → Nat) (k : Nat) : ∀ n, (∀ i, i < n → ¬ S i = k) → cnt S k n = 0
  | 0, _ => rfl
  | n + 1, h => by
    have e := cnt_none S k n fun i hi => h i (by omega)
    have := h n (by omega)
    simp [cnt, e, this]
/-- behind Put's two boxes and Take -/
structure PutAt (b : HB) (s : HS) (j : Nat) (t : ByteArray) (w W2 : World) (y : Nat) : Prop where
  st : HeapI b { s with S := upd s.S j 1 } W2
  two : Boxes2 b w.heap.size y ((b.f + j : Nat) : Int) W2
  d3 : W2.cell? ⟨w.heap.size + 1, 0, none⟩ = some (.string t)
  y : w.heap.size ≤ y ∧ y < W2.heap.size
  lt : w.heap.size + 1 < W2.heap.size
  grew : Grew (Mut b.B b.S0 w) w W2
set_option maxRecDepth 100000 in
set_option maxHeartbeats 2000000 in
/-- bytes are put: in a Try, where there is room -/
theorem put1_any (b : HB) (ok : b.ok) (s : HS) (t : ByteArray) (ht : t.size ≤ 64) (hK0 : 0 ≤ s.K) (hK : s.K < (cnt s.S 0 b.n : Nat)) (dp : Nat) (v : Value) (fs : List Step) (w : World) (hf : fs.length < 90000) (h : HeapI b s w) (hl : LogAt b.B b.g (dp + 1) v fs w) : Calls Tryz.prog 122 #[.pointer (some ⟨b.hb, 0, none⟩), .string t] w fun e w' => ∃ j, j < b.n ∧ s.S j = 0 ∧ (∀ i, i < j → ¬ s.S i = 0) ∧ e = .returned (.int .i64 ((b.f + j : Nat) : Int)) ∧ Did b.B b.g dp b.S0 (HeapI (b.at (wroteT b.T (b.f + j) t))) fs 3 s (s.put j ((b.f + j : Nat) : Int)) w w' := by
  have hmf : ∀ (fn : Fn) (first cap : Array Value) (w : World), (Instr.makeFunc fn first cap).run Tryz.prog w = .ok (.func fn first cap) w := fun _ _ _ _ => rfl
  obtain ⟨W, hW⟩ : ∃ W, (w.alloc (.cells #[.pointer (some ⟨b.hb, 0, none⟩)] 24)).alloc (.cells #[.string t] 9) = W := ⟨_, rfl⟩
  have g0 : Grew (fun _ => False) w W := by rw [← hW]; exact ((Grew.refl w).alloc _).alloc _
  have s0 : W.heap.size = w.heap.size + 2 := by rw [← hW]; simp
  have hI : HeapI b s W := by rw [← hW]; exact (h.alloc _).alloc _
  have hL : LogAt b.B b.g (dp + 1) v fs W := hl.keep g0 (fun e => e) fun _ _ e => e
  have n0 := HB.not0 ok h.sz (Nat.le_refl w.heap.size)
  have hx : W.heap[w.heap.size]? = some (.cells #[.pointer (some ⟨b.hb, 0, none⟩)] 24) := by
    rw [← hW, Below.heap_alloc _ _ _ (by simp)]
    exact heap_alloc_new w _
  have d1 : W.drew.cell? ⟨w.heap.size, 0, none⟩ = some (.pointer (some ⟨b.hb, 0, none⟩)) := by show W.cell? _ = _; simp [World.cell?, hx]
  have d3 : W.cell? ⟨w.heap.size + 1, 0, none⟩ = some (.string t) := by rw [← hW]; exact boxNew (by simp)
  have c6 := hI.drew.c6
  have c2 := hI.drew.c2
  have HFree := Lib.hid (hFree_any b ok s W.drew hI.drew)
  have HTake := Lib.hid (take_any b.m b.q b.f b.n s.S W.drew hI.drew.gr (Nat.le_trans ok.f (by decide)) (Nat.le_trans ok.n (by decide)))
  have hno : ∀ w1, Taken b.m b.q b.f b.n s.S W.drew (.tuple #[.int .i64 0, .bool false]) w1 → ∀ i, i < b.n → ¬ s.S i = 0 → True := fun _ _ _ _ _ => trivial
  have HP2 : Hid (∀ j w1, j < b.n → s.S j = 0 → MapAt b.m b.q b.f b.n (upd s.S j 1) w1 → Grew (fun k => k = b.q) W.drew w1 → PutAt b s j t w (w1.alloc (.cells #[.int .i64 ((b.f + j : Nat) : Int)] 3)) w1.heap.size ∧ LogAt b.B b.g (dp + 1) v fs (w1.alloc (.cells #[.int .i64 ((b.f + j : Nat) : Int)] 3))) := Lib.hid fun j w1 hj hs hm hg => by
    have hg' : Grew (fun q => q = b.q) W w1 := ((Grew.refl W).drew).trans hg
    have hs1 : W.heap.size ≤ w1.heap.size := hg'.size
    have i1 := hI.grants ok hm hg'
    have l1 := hL.turned ok hI hg'
    have nq : ∀ k, w.heap.size ≤ k → ¬ k = b.q := fun k hk e => HB.not0 ok h.sz hk ⟨3, by decide, e⟩
    refine ⟨⟨i1.alloc _, ⟨?_, heap_alloc_new w1 _⟩, ?_, ⟨by omega, by simp⟩, by simp; omega, ?_⟩, l1.keepAlloc _⟩
    · rw [Below.heap_alloc _ _ _ (by omega), hg'.block _ (by omega) (nq _ (Nat.le_refl _))]
      exact hx
    · rw [((Grew.refl (S := fun _ => False) w1).alloc (.cells #[.int .i64 ((b.f + j : Nat) : Int)] 3)).cell (p := ⟨w.heap.size + 1, 0, none⟩) (by show w.heap.size + 1 < _; omega) fun e => e, hg'.cell (p := ⟨w.heap.size + 1, 0, none⟩) (by show w.heap.size + 1 < _; omega) (nq _ (Nat.le_succ _))]
      exact d3
    · have a1 : Grew (Mut b.B b.S0 W) W w1 := hg'.mono fun q _ e => Or.inl ⟨3, by decide, e⟩
      exact (((g0.mono fun _ _ e => e.elim).thenMut a1).thenMut ((Grew.refl w1).alloc _))
  have HG : Hid (∀ j W2 y, j < b.n → PutAt b s j t w W2 y → Calls Tryz.prog 38 #[.func (.func 153) #[] #[.pointer (some ⟨w.heap.size, 0, none⟩), .pointer (some ⟨y, 0, none⟩), .pointer (some ⟨w.heap.size + 1, 0, none⟩)]] W2 fun e w' => e = .returned (.int .i64 0) ∧ HeapI (b.at (wroteT b.T (b.f + j) t)) { s with S := upd s.S j 1 } w' ∧ Grew (fun q => q = b.d ∨ q = b.bs ∨ q = b.bt) W2 w') := Lib.hid fun j W2 y hj hp =>
    putGuard_any b ok { s with S := upd s.S j 1 } j hj t ht w.heap.size y (w.heap.size + 1) W2 (by have := hp.lt; omega) hp.y.2 hp.lt hp.two.cells.1 hp.two.cells.2 hp.d3 hp.st
  have HN3 : Hid (∀ j W2 y w3, j < b.n → s.S j = 0 → PutAt b s j t w W2 y → LogAt b.B b.g (dp + 1) v fs W2 → HeapI (b.at (wroteT b.T (b.f + j) t)) { s with S := upd s.S j 1 } w3 → Grew (fun q => q = b.d ∨ q = b.bs ∨ q = b.bt) W2 w3 → Boxes2 b w.heap.size y ((b.f + j : Nat) : Int) w3 ∧ Grew (Mut b.B b.S0 w) w w3 ∧ ¬ b.S0 y ∧ Calls Tryz.prog 155 #[.pointer (some ⟨b.hb, 0, none⟩), .int .i64 ((b.f + j : Nat) : Int)] w3 fun e w' => e = .returned (.tuple #[]) ∧ Did b.B b.g dp b.S0 (HeapI (b.at (wroteT b.T (b.f + j) t))) fs 2 s { s with S := upd s.S j 1, R := upF s.R ((b.f + j : Nat) : Int) (some 1) } w3 w') := Lib.hid fun j W2 y w3 hj hs hp l2 i3 g3 => by
    have ny := HB.not0 ok h.sz hp.y.1
    have hq : ∀ q, (q = b.d ∨ q = b.bs ∨ q = b.bt) → b.S0 q := fun q e => by
      rcases e with e | e | e
      · exact ⟨6, by decide, e⟩
      · exact ⟨7, by decide, e⟩
      · exact ⟨8, by decide, e⟩
    have m3 : Grew (Mut b.B b.S0 W2) W2 w3 := g3.mono fun q _ e => Or.inl (hq q e)
    have l3 : LogAt b.B b.g (dp + 1) v fs w3 := by
      refine l2.keep g3 ?_ fun q hq' e => ?_
      · rintro (e | e | e)
        · exact ok.nd 1 6 (by decide) (by decide) (by decide) e
        · exact ok.nd 1 7 (by decide) (by decide) (by decide) e
        · exact ok.nd 1 8 (by decide) (by decide) (by decide) e
      · obtain ⟨k, hk, rfl⟩ := hq q e
        have a1 := (l2.row.lt _ hq').1
        have a2 := ok.lt k hk
        omega
    refine ⟨hp.two.kept ⟨n0, ny⟩ (Kept.of m3), hp.grew.thenMut m3, ny, first1_any (b.at (wroteT b.T (b.f + j) t)) (ok.at _) { s with S := upd s.S j 1 } s j hj (by show upd s.S j 1 j = 1; exact if_pos rfl) ?_ dp v fs w3 hf i3 l3⟩
    have := upd_back s.S j 1
    rw [hs] at this
    show HS.mk (upd (upd s.S j 1) j 0) s.R s.Y s.G s.K = s
    rw [this]
  have HN4 : Hid (∀ j w3 w4 y, j < b.n → ¬ b.S0 y → Boxes2 b w.heap.size y ((b.f + j : Nat) : Int) w3 → Grew (Mut b.B b.S0 w) w w3 → Did b.B b.g dp b.S0 (HeapI (b.at (wroteT b.T (b.f + j) t))) fs 2 s { s with S := upd s.S j 1, R := upF s.R ((b.f + j : Nat) : Int) (some 1) } w3 w4 → Boxes2 b w.heap.size y ((b.f + j : Nat) : Int) w4 ∧ HeapI (b.at (wroteT b.T (b.f + j) t)) { s with S := upd s.S j 1, R := upF s.R ((b.f + j : Nat) : Int) (some 1) } w4 ∧ Calls Tryz.prog 156 #[.pointer (some ⟨b.g, 0, none⟩), .map (some b.yb), .int .i64 ((b.f + j : Nat) : Int), .agg #[]] w4.drew fun e w' => e = .returned (.tuple #[]) ∧ Did b.B b.g dp b.S0 (HeapI (b.at (wroteT b.T (b.f + j) t))) fs 3 s (s.put j ((b.f + j : Nat) : Int)) w w' ∧ w'.cell? ⟨y, 0, none⟩ = some (.int .i64 ((b.f + j : Nat) : Int))) := Lib.hid fun j w3 w4 y hj ny hb g3 hd => by
    have b4 := hb.kept ⟨n0, ny⟩ (Kept.of hd.grew)
    obtain ⟨⟨v4, fs4, l4, n4, p4⟩, i4, g4⟩ := hd
    refine ⟨b4, i4, (putY (b.at (wroteT b.T (b.f + j) t)) (ok.at _) _ j hj dp v4 (fs ++ fs4) w4.drew (by rw [List.length_append]; omega) i4.drew l4.drew').mono ?_⟩
    rintro e w' ⟨rfl, hd⟩
    have hd' := hd.fromDrew
    exact ⟨rfl, Did.chain l4 n4 p4 (g3.thenMut g4) hd', (b4.kept ⟨n0, ny⟩ (Kept.of hd'.grew)).cells.2⟩
  have e1 : decide (((cnt s.S 0 b.n : Nat) : Int) ≤ s.K) = false := decide_eq_false (by omega)
  have e1' : ¬ ((cnt s.S 0 b.n : Nat) : Int) ≤ s.K := by omega
  have HZ : Hid ((∀ i, i < b.n → ¬ s.S i = 0) → False) := Lib.hid fun hn => by
    have := cnt_none s.S 0 b.n hn
    omega
  clear h hl hI hL g0 s0 hx hno d3 hK0 hf ht n0
  go_enter Tryz.func122, Tryz.ntmps122
  go_upto_region 1 with fail
  refine wp_region_held_drew (S := fun wx => wx.cell? ⟨w.heap.size, 0, none⟩ = some (.pointer (some ⟨b.hb, 0, none⟩)) ∧ wx.cell? ⟨b.hb, 6, none⟩ = some (.int .i64 s.K)) (by kernel_rfl) (And.intro d1 c6) (fun hHeld => ?_)
  refine wpAnyH_take (i := 0) (oi := { dst := some 8, op := Op.load 24 (Operand.tmp 2), type := 24, pos := "heap.go:66", after := #[], guard := none }) (v := ?_) rfl (by kernel_rfl) (by kernel_rfl) (by kernel_rfl) (fun _ _ _ h => h) (Or.inl ⟨by rfl, ?_⟩) (by assumption) ?_
  rotate_left
  · (intro wz hSw; (try dsimp only at hSw); go_simp; try with_reducible rfl)
  try simp only [Act.put, List.setIfInBounds_toArray, List.set_cons_zero, List.set_cons_succ]
  refine wpAnyH_take (i := 2) (oi := { dst := some 10, op := Op.load 24 (Operand.tmp 2), type := 24, pos := "heap.go:66", after := #[], guard := none }) (v := ?_) rfl (by kernel_rfl) (by kernel_rfl) (by kernel_rfl) (fun _ _ _ h => h) (Or.inl ⟨by rfl, ?_⟩) (by assumption) ?_
  rotate_left
  · (intro wz hSw; (try dsimp only at hSw); go_simp; try with_reducible rfl)
  try simp only [Act.put, List.setIfInBounds_toArray, List.set_cons_zero, List.set_cons_succ]
  refine wpAnyH_take (i := 3) (oi := { dst := some 11, op := Op.nilCheck (Operand.tmp 10), type := 0, pos := "heap.go:66", after := #[{ on := 2, ground := Ground.data }], guard := none }) (v := ?_) rfl (by kernel_rfl) (by kernel_rfl) (by kernel_rfl) (fun _ _ _ h => h) (Or.inl ⟨by rfl, ?_⟩) (by assumption) ?_
  rotate_left
  · (intro wz hSw; (try dsimp only at hSw); go_simp; try with_reducible rfl)
  try simp only [Act.put, List.setIfInBounds_toArray, List.set_cons_zero, List.set_cons_succ]
  refine wpAnyH_take (i := 4) (oi := { dst := some 12, op := Op.fieldAddr 74 (Operand.tmp 11) 6, type := 0, pos := "heap.go:66", after := #[{ on := 3, ground := Ground.data }], guard := none }) (v := ?_) rfl (by kernel_rfl) (by kernel_rfl) (by kernel_rfl) (fun _ _ _ h => h) (Or.inl ⟨by rfl, ?_⟩) (by assumption) ?_
  rotate_left
  · (intro wz hSw; (try dsimp only at hSw); go_simp; try with_reducible rfl)
  try simp only [Act.put, List.setIfInBounds_toArray, List.set_cons_zero, List.set_cons_succ]
  refine wpAnyH_take (i := 5) (oi := { dst := some 13, op := Op.load 3 (Operand.tmp 12), type := 3, pos := "heap.go:66", after := #[{ on := 4, ground := Ground.data }], guard := none }) (v := ?_) rfl (by kernel_rfl) (by kernel_rfl) (by kernel_rfl) (fun _ _ _ h => h) (Or.inl ⟨by rfl, ?_⟩) (by assumption) ?_
  rotate_left
  · (intro wz hSw; (try dsimp only at hSw); go_simp; try with_reducible rfl)
  try simp only [Act.put, List.setIfInBounds_toArray, List.set_cons_zero, List.set_cons_succ]
  refine wpAnyH_ready (rs := [1]) (by kernel_rfl) (by simp) ?_
  refine AllReadyH.cons (o := { dst := some 9, op := Op.call { callee := Callee.value (Operand.func 151), args := #[Operand.tmp 8], argTypes := #[24] }, type := 3, pos := "heap.go:66", after := #[{ on := 0, ground := Ground.data }], guard := none }) rfl (fun K hK => ?_) AllReadyH.nil
  go_simp
  refine HFree.out.mono ?_
  rintro e w' ⟨rfl, rfl⟩
  try go_wp2_with fail
  refine hK.out _ _ hHeld (fun hHeld => ?_)
  clear hK K
  try simp only [Act.put, List.setIfInBounds_toArray, List.set_cons_zero, List.set_cons_succ]
  refine wpAnyH_take (i := 6) (oi := { dst := some 14, op := Op.binOp BinOp.leq 3 (Operand.tmp 9) (Operand.tmp 13) 3, type := 4, pos := "heap.go:66", after := #[{ on := 1, ground := Ground.data }, { on := 5, ground := Ground.data }], guard := none }) (v := ?_) rfl (by kernel_rfl) (by kernel_rfl) (by kernel_rfl) (fun _ _ _ h => h) (Or.inl ⟨by rfl, ?_⟩) (by assumption) ?_
  rotate_left
  · (intro wz hSw; (try dsimp only at hSw); go_simp; try with_reducible rfl)
  try simp only [Act.put, List.setIfInBounds_toArray, List.set_cons_zero, List.set_cons_succ]
  refine wpAnyH_done (by kernel_rfl) ?_ _
  go_wp2_with fail
  refine HTake.out.mono ?_
  rintro e w1 ⟨vv, rfl, ht⟩
  cases ht with
  | none _ hno => exact (HZ.out hno).elim
  | one j _ hj hs hno hm hg =>
    obtain ⟨hp, l2⟩ := HP2.out j w1 hj hs hm hg
    have HPx := Lib.hid hp
    have HL2 := Lib.hid l2
    have HNo := Lib.hid hno
    have HGx := Lib.hid (HG.out j _ _ hj hp)
    clear hp l2 hno hm hg HP2 HG HTake HFree HZ
    go_wp2_with fail
    refine HGx.out.mono ?_
    rintro e w3 ⟨rfl, i3, g3⟩
    obtain ⟨b3, g03, ny, hfirst⟩ := HN3.out j _ _ w3 hj hs HPx.out HL2.out i3 g3
    have HF3 := Lib.hid hfirst
    have HB3 := Lib.hid b3
    have HG3 := Lib.hid g03
    have HNy := Lib.hid ny
    have d4 := b3.cells.1
    have d5 := b3.cells.2
    clear i3 g3 b3 g03 ny hfirst HGx HN3 HPx HL2
    go_wp2_with fail
    refine HF3.out.mono ?_
    rintro e w4 ⟨rfl, hd⟩
    obtain ⟨b4, i4, hput⟩ := HN4.out j w3 w4 w1.heap.size hj HNy.out HB3.out HG3.out hd
    have HPu := Lib.hid hput
    have d6 : w4.drew.cell? ⟨w.heap.size, 0, none⟩ = some (.pointer (some ⟨b.hb, 0, none⟩)) := b4.cells.1
    have d7 : w4.drew.cell? ⟨w1.heap.size, 0, none⟩ = some (.int .i64 ((b.f + j : Nat) : Int)) := b4.cells.2
    have c1 := i4.drew.c1
    have c4 := i4.drew.c4
    clear hd b4 i4 hput d4 d5 HN4 HF3 HB3 HG3 HNy
    go_upto_region 9 with fail
    refine wp_region_still_tail 10 (by kernel_rfl) (by kernel_rfl) ?_
    change wpStill _ _ (w4.drew) (fun a' => wpList _ _ _ _ a' (w4.drew)) _ _
    simp only [List.take_succ_cons, List.take_zero, List.drop_succ_cons, List.drop_zero]
    repeat still_step
    refine wpStill_nil ?_
    go_wp2_with fail
    refine HPu.out.mono ?_
    rintro e w5 ⟨rfl, hd, d8⟩
    have HD := Lib.hid hd
    clear hd HPu d6 d7 c1 c4
    go_wp2_with fail
    go_ret
    exact ⟨j, hj, hs, HNo.out, rfl, HD.out⟩
end Go.Proofs.YtbohpffigmllkaaGreatDoor

/-
  A new heap: contract.
-/
namespace Go.Proofs.YtbohpffigmllkaaGreatDoor
open Go.RowKit Go.Maps Go.ChangeMaps Go.WideShapes

theorem nine (i : Nat) (h : i < 9) : i = 0 ∨ i = 1 ∨ i = 2 ∨ i = 3 ∨ i = 4 ∨ i = 5 ∨ i = 6 ∨ i = 7 ∨ i = 8 := by omega
/-- of a new heap all is free -/
def HS.new : HS := ⟨fun _ => 0, fun _ => none, fun _ => none, [], 0⟩
def newHB (M : DiskM) (f n z m q z2 : Nat) : HB := ⟨z2 + 2, z, m, q, z2, z2 + 1, M.d, M.bs, M.bt, f, n, z2 + 3, M.T⟩
theorem newHB_ok (M : DiskM) (f n z m q z2 : Nat) (hf : f ≤ 2048) (hn : n ≤ 2048) (a1 : M.d < z) (a2 : M.bs < z) (a3 : M.bt < z) (a4 : M.d ≠ M.bs) (a5 : M.d ≠ M.bt) (a6 : M.bs ≠ M.bt) (b1 : z < m) (b2 : z < q) (b3 : m ≠ q) (b4 : m < z2) (b5 : q < z2) : (newHB M f n z m q z2).ok where
  nd := by
    intro i j hi hj hne e
    rcases nine i hi with rfl | rfl | rfl | rfl | rfl | rfl | rfl | rfl | rfl <;> rcases nine j hj with rfl | rfl | rfl | rfl | rfl | rfl | rfl | rfl | rfl <;> first | exact hne rfl | (simp only [HB.blk, newHB] at e; omega)
  lt := by
    intro i hi
    rcases nine i hi with rfl | rfl | rfl | rfl | rfl | rfl | rfl | rfl | rfl <;> (simp only [HB.blk, newHB]; omega)
  f := hf
  n := hn
/-- what New leaves behind grants.New -/
def heapWorld (M : DiskM) (z m : Nat) (w2 : World) : World := ((w2.alloc (.map #[] 0)).alloc (.map #[] 0)).alloc (.cells #[.pointer (some ⟨M.d, 0, none⟩), .pointer (some ⟨z, 0, none⟩), .pointer (some ⟨m, 0, none⟩), .map (some w2.heap.size), .map (some (w2.heap.size + 1)), .slice none 0 0, .int .i64 0] 74)
theorem newHeap (M : DiskM) (f n m q : Nat) (w w2 : World) (hf : f ≤ 2048) (hn : n ≤ 2048) (hM : DiskAt M w) (hMn : M.n = f + n) (m5 : M.armed = false) (m6 : M.dead = false) (m7 : M.left ≤ 2 ^ 62) (hm : MapAt m q f n (fun _ => 0) w2)
    (hg : Grew (fun _ => False) (w.alloc (.cells #[.int .i64 0, .slice none 0 0] 68)) w2) (h1 : w.heap.size < m) (h2 : w.heap.size < q) :
    (newHB M f n w.heap.size m q w2.heap.size).ok ∧ HeapI (newHB M f n w.heap.size m q w2.heap.size) HS.new (heapWorld M w.heap.size m w2) ∧ LogAt (newHB M f n w.heap.size m q w2.heap.size).B w.heap.size 0 (.slice none 0 0) [] (heapWorld M w.heap.size m w2) ∧ Grew (fun _ => False) w (heapWorld M w.heap.size m w2) := by
  have g0 : Grew (fun _ => False) w w2 := ((Grew.refl w).alloc _).trans hg
  have g1 : Grew (fun _ => False) w2 (w2.alloc (.map #[] 0)) := (Grew.refl w2).alloc _
  have g2 : Grew (fun _ => False) w2 ((w2.alloc (.map #[] 0)).alloc (.map #[] 0)) := g1.alloc _
  have g3 : Grew (fun _ => False) w2 (heapWorld M w.heap.size m w2) := g2.alloc _
  have g13 : Grew (fun _ => False) (w2.alloc (.map #[] 0)) (heapWorld M w.heap.size m w2) := ((Grew.refl (w2.alloc (.map #[] 0))).alloc _).alloc _
  have g23 : Grew (fun _ => False) ((w2.alloc (.map #[] 0)).alloc (.map #[] 0)) (heapWorld M w.heap.size m w2) := (Grew.refl _).alloc _
  have g03 := g0.trans g3
  have s1 : (w2.alloc (.map #[] 0)).heap.size = w2.heap.size + 1 := by simp
  have s2 : ((w2.alloc (.map #[] 0)).alloc (.map #[] 0)).heap.size = w2.heap.size + 2 := by simp
  have s3 : (heapWorld M w.heap.size m w2).heap.size = w2.heap.size + 3 := by simp [heapWorld]
  have hbx : (heapWorld M w.heap.size m w2).heap[w2.heap.size + 2]? = some (.cells #[.pointer (some ⟨M.d, 0, none⟩), .pointer (some ⟨w.heap.size, 0, none⟩), .pointer (some ⟨m, 0, none⟩), .map (some w2.heap.size), .map (some (w2.heap.size + 1)), .slice none 0 0, .int .i64 0] 74) := by
    rw [← s2]
    exact heap_alloc_new _ _
  have hlg := (log_new w (w2.heap.size + 3))
  have hL := (hlg.keep hg (fun e => e) fun _ _ e => e).keep g3 (fun e => e) fun _ _ e => e
  refine ⟨newHB_ok M f n _ m q _ hf hn hM.lt hM.sure.lt hM.there.lt hM.n1 hM.n2 hM.n3 h1 h2 hm.ne hm.ltm hm.ltg, ?_, hL, g03⟩
  refine ⟨?_, ?_, ?_, ?_, ?_, ⟨.slice none 0 0, ?_, World.ownsRow_nil _ _ _ _⟩, ?_, ?_, hm.keep g3 (fun e => e) fun e => e, ?_, ?_, ⟨M, hM.kept g03 (fun e => e) (fun e => e) fun e => e, rfl, rfl, rfl, hMn, m5, m6, m7, rfl⟩, ?_, ⟨_, _, _, hbx, by decide⟩, fun _ => ?_⟩
  · show (heapWorld M w.heap.size m w2).cell? ⟨w2.heap.size + 2, 0, none⟩ = _
    simp [World.cell?, hbx]
    rfl
  · show (heapWorld M w.heap.size m w2).cell? ⟨w2.heap.size + 2, 1, none⟩ = _
    simp [World.cell?, hbx]
    rfl
  · show (heapWorld M w.heap.size m w2).cell? ⟨w2.heap.size + 2, 2, none⟩ = _
    simp [World.cell?, hbx]
    rfl
  · show (heapWorld M w.heap.size m w2).cell? ⟨w2.heap.size + 2, 3, none⟩ = _
    simp [World.cell?, hbx]
    rfl
  · show (heapWorld M w.heap.size m w2).cell? ⟨w2.heap.size + 2, 4, none⟩ = _
    simp [World.cell?, hbx]
    rfl
  · show (heapWorld M w.heap.size m w2).cell? ⟨w2.heap.size + 2, 5, none⟩ = _
    simp [World.cell?, hbx]
  · show (heapWorld M w.heap.size m w2).cell? ⟨w2.heap.size + 2, 6, none⟩ = _
    simp [World.cell?, hbx]
    rfl
  · intro o
    show (heapWorld M w.heap.size m w2).frozen? ⟨w2.heap.size + 2, o, none⟩ = false
    simp [World.frozen?, hbx]
  · exact (Tab.made (tblII Tryz.prog) _ w2).keep g13 fun e => e
  · have := (Tab.made (tblIU Tryz.prog) (newHB M f n w.heap.size m q w2.heap.size).keys (w2.alloc (.map #[] 0))).keep g23 fun e => e
    rw [s1] at this
    exact this
  · show w2.heap.size + 3 ≤ _
    omega
  · show (heapWorld M w.heap.size m w2).cell? ⟨w2.heap.size + 2, 5, none⟩ = _
    simp [World.cell?, hbx]
set_option maxRecDepth 100000 in
theorem hNewT_any (M : DiskM) (f n : Nat) (w : World) (hf : f ≤ 2048) (hn : n ≤ 2048) (hM : DiskAt M w) (hMn : M.n = f + n) (m5 : M.armed = false) (m6 : M.dead = false) (m7 : M.left ≤ 2 ^ 62) : Calls Tryz.prog 8 #[.pointer (some ⟨M.d, 0, none⟩), .int .i64 f] w fun e w' => ∃ b : HB, e = .returned (.pointer (some ⟨b.hb, 0, none⟩)) ∧ b.ok ∧ b.f = f ∧ b.n = n ∧ b.d = M.d ∧ HeapI b HS.new w' ∧ LogAt b.B b.g 0 (.slice none 0 0) [] w' ∧ Grew (fun _ => False) w w' ∧ b.B ≤ w'.heap.size ∧ (∀ i, i < 6 → w.heap.size ≤ b.blk i) ∧ b.bs = M.bs ∧ b.bt = M.bt ∧ b.T = M.T := by
  have HLen := Lib.hid (len_any M (w.alloc (.cells #[.int .i64 0, .slice none 0 0] 68)) (hM.kept ((Grew.refl (S := fun _ => False) w).alloc _) (fun e => e) (fun e => e) fun e => e))
  rw [hMn] at HLen
  have HMap := Lib.hid (new_map f n (w.alloc (.cells #[.int .i64 0, .slice none 0 0] 68)) (Nat.le_trans hf (by decide)) (Nat.le_trans hn (by decide)))
  have HN : Hid (∀ w2 m q, MapAt m q f n (fun _ => 0) w2 → Below (w.alloc (.cells #[.int .i64 0, .slice none 0 0] 68)).heap.size (w.alloc (.cells #[.int .i64 0, .slice none 0 0] 68)) w2 → (w.alloc (.cells #[.int .i64 0, .slice none 0 0] 68)).heap.size ≤ m → (w.alloc (.cells #[.int .i64 0, .slice none 0 0] 68)).heap.size ≤ q → ∃ b : HB, b.hb = w2.heap.size + 2 ∧ b.ok ∧ b.f = f ∧ b.n = n ∧ b.d = M.d ∧ HeapI b HS.new (heapWorld M w.heap.size m w2) ∧ LogAt b.B b.g 0 (.slice none 0 0) [] (heapWorld M w.heap.size m w2) ∧ Grew (fun _ => False) w (heapWorld M w.heap.size m w2) ∧ b.B ≤ (heapWorld M w.heap.size m w2).heap.size ∧ (∀ i, i < 6 → w.heap.size ≤ b.blk i) ∧ b.bs = M.bs ∧ b.bt = M.bt ∧ b.T = M.T) := Lib.hid fun w2 m q hm hb h1 h2 => by
    have s1 : (w.alloc (.cells #[.int .i64 0, .slice none 0 0] 68)).heap.size = w.heap.size + 1 := by simp
    obtain ⟨a1, a2, a3, a4⟩ := newHeap M f n m q w w2 hf hn hM hMn m5 m6 m7 hm (Grew.of_below hb) (by omega) (by omega)
    have hsz := hb.size
    refine ⟨_, rfl, a1, rfl, rfl, rfl, a2, a3, a4, a2.sz, fun i hi => ?_, rfl, rfl, rfl⟩
    have h6 : i = 0 ∨ i = 1 ∨ i = 2 ∨ i = 3 ∨ i = 4 ∨ i = 5 := by omega
    rcases h6 with rfl | rfl | rfl | rfl | rfl | rfl <;> (simp only [HB.blk, newHB]; omega)
  have hmm := @run_makeMap Tryz.prog
  clear hM hMn m5 m6 m7 hf hn
  go_enter Tryz.func8, Tryz.ntmps8
  go_wp2_with fail
  refine HLen.out.mono ?_
  rintro e w' ⟨rfl, rfl⟩
  go_wp2_with fail
  refine HMap.out.mono ?_
  rintro e w2 ⟨m, q, rfl, hm, hb, h1, h2⟩
  have HX := Lib.hid (HN.out w2 m q hm hb h1 h2)
  clear hm hb h1 h2 HN HMap HLen
  go_wp2_with fail
  go_ret
  obtain ⟨b, e, r⟩ := HX.out
  exact ⟨b, by rw [e]; rfl, r⟩
theorem hNew_any (M : DiskM) (f n : Nat) (w : World) (hf : f ≤ 2048) (hn : n ≤ 2048) (hM : DiskAt M w) (hMn : M.n = f + n) (m5 : M.armed = false) (m6 : M.dead = false) (m7 : M.left ≤ 2 ^ 62) : Calls Tryz.prog 8 #[.pointer (some ⟨M.d, 0, none⟩), .int .i64 f] w fun e w' => ∃ b : HB, e = .returned (.pointer (some ⟨b.hb, 0, none⟩)) ∧ b.ok ∧ b.f = f ∧ b.n = n ∧ b.d = M.d ∧ HeapI b HS.new w' ∧ LogAt b.B b.g 0 (.slice none 0 0) [] w' ∧ Grew (fun _ => False) w w' ∧ b.B ≤ w'.heap.size ∧ (∀ i, i < 6 → w.heap.size ≤ b.blk i) ∧ b.bs = M.bs ∧ b.bt = M.bt := by
  refine (hNewT_any M f n w hf hn hM hMn m5 m6 m7).mono ?_
  rintro e w' ⟨b, h1, h2, h3, h4, h5, h6, h7, h8, h9, h10, h11, h12, _⟩
  exact ⟨b, h1, h2, h3, h4, h5, h6, h7, h8, h9, h10, h11, h12⟩
end Go.Proofs.YtbohpffigmllkaaGreatDoor

/-
  A heap within an outermost Try that doesn't fail: contracts.
-/
namespace Go.Proofs.YtbohpffigmllkaaGreatDoor
open Go.RowKit Go.Maps Go.ChangeMaps Go.WideShapes

theorem HB.blk_at (b : HB) (B' : Nat) (i : Nat) (hi : i < 9) : ({ b with B := B' } : HB).blk i = b.blk i := by
  rcases nine i hi with rfl | rfl | rfl | rfl | rfl | rfl | rfl | rfl | rfl <;> rfl
theorem HB.ok_at {b : HB} (ok : b.ok) (B' : Nat) (h : b.B ≤ B') : ({ b with B := B' } : HB).ok where
  nd := fun i j hi hj hne => by rw [b.blk_at B' i hi, b.blk_at B' j hj]; exact ok.nd i j hi hj hne
  lt := fun i hi => by rw [b.blk_at B' i hi]; exact Nat.lt_of_lt_of_le (ok.lt i hi) h
  f := ok.f
  n := ok.n
/-- what lies in front of a Try can lie below it -/
theorem HeapI.rebase {b : HB} {s : HS} {w : World} (h : HeapI b s w) (hG : s.G = []) (B' : Nat) (hw : B' ≤ w.heap.size) : HeapI { b with B := B' } s w :=
  ⟨h.c0, h.c1, h.c2, h.c3, h.c4, ⟨.slice none 0 0, h.nl hG, by rw [hG]; exact World.ownsRow_nil _ _ _ _⟩, h.c6, h.fr, h.gr, h.rf, h.yg, h.dk, hw, h.kd, h.nl⟩
/-- a heap in a Try, at most so many steps behind its beginning -/
structure InTry (b : HB) (s : HS) (n : Nat) (w : World) : Prop where
  log : ∃ v fs, fs.length ≤ n ∧ LogAt b.B b.g 1 v fs w
  st : HeapI b s w
theorem InTry.of {b : HB} {s s' : HS} {m n : Nat} {fs : List Step} {w w' : World} (hf : fs.length ≤ n) (h : Did b.B b.g 0 b.S0 (HeapI b) fs m s s' w w') : InTry b s' (n + m) w' := by
  obtain ⟨⟨v, fs', l, n1, _⟩, i, _⟩ := h
  exact ⟨⟨v, fs ++ fs', by rw [List.length_append]; omega, l⟩, i⟩
theorem InTry.drew {b : HB} {s : HS} {n : Nat} {w : World} (h : InTry b s n w) : InTry b s n w.drew := by
  obtain ⟨⟨v, fs, n1, l⟩, i⟩ := h
  exact ⟨⟨v, fs, n1, l.drew'⟩, i.drew⟩
/-- a box that was there ahead of the Try is written -/
theorem InTry.box {b : HB} {s : HS} {n : Nat} {w : World} (h : InTry b s n w) {x : Nat} {v : Value} (hS : ¬ b.S0 x) (hB : x < b.B) : InTry b s n (w.setCell ⟨x, 0, none⟩ v) := by
  have k : Grew (fun q => q = x) w (w.setCell ⟨x, 0, none⟩ v) := (Grew.refl w).setCell _ _ fun _ => rfl
  obtain ⟨⟨lv, fs, n1, l⟩, i⟩ := h
  refine ⟨⟨lv, fs, n1, l.keep k (fun e => hS ⟨1, by decide, e.symm⟩) fun q hq e => ?_⟩, i.keep k (fun j hj e => hS ⟨j, hj, e.symm⟩) fun r hr _ e => ?_⟩
  · have := (l.row.lt q hq).1
    omega
  · have e : r = x := e
    omega
theorem inPut (b : HB) (ok : b.ok) (s : HS) (t : ByteArray) (ht : t.size ≤ 64) (hK0 : 0 ≤ s.K) (hK : s.K < (cnt s.S 0 b.n : Nat)) (n : Nat) (hn : n < 80000) (w : World) (h : InTry b s n w) : Calls Tryz.prog 122 #[.pointer (some ⟨b.hb, 0, none⟩), .string t] w fun e w' => ∃ j, j < b.n ∧ s.S j = 0 ∧ (∀ i, i < j → ¬ s.S i = 0) ∧ e = .returned (.int .i64 ((b.f + j : Nat) : Int)) ∧ InTry (b.at (wroteT b.T (b.f + j) t)) (s.put j ((b.f + j : Nat) : Int)) (n + 3) w' ∧ Grew (Mut b.B b.S0 w) w w' := by
  obtain ⟨⟨v, fs, n1, l⟩, i⟩ := h
  refine (put1_any b ok s t ht hK0 hK 0 v fs w (by omega) i l).mono ?_
  rintro e w' ⟨j, a1, a2, a3, a4, hd⟩
  exact ⟨j, a1, a2, a3, a4, InTry.of (b := b.at (wroteT b.T (b.f + j) t)) n1 hd, hd.grew⟩
theorem inLessMore (b : HB) (ok : b.ok) (s : HS) (i r : Nat) (hi : i < b.n) (hs : s.S i = 1) (hr : s.R ((b.f + i : Nat) : Int) = some ((r + 2 : Nat) : Int)) (hrb : r < 10000) (n : Nat) (hn : n < 80000) (w : World) (h : InTry b s n w) : Calls Tryz.prog 66 #[.pointer (some ⟨b.hb, 0, none⟩), .int .i64 ((b.f + i : Nat) : Int)] w fun e w' => e = .returned (.bool false) ∧ InTry b { s with R := upF s.R ((b.f + i : Nat) : Int) (some ((r + 1 : Nat) : Int)) } (n + 1) w' ∧ Grew (Mut b.B b.S0 w) w w' := by
  obtain ⟨⟨v, fs, n1, l⟩, ii⟩ := h
  refine (less1_more b ok s i r hi hs hr hrb 0 v fs w (by omega) ii l).mono ?_
  rintro e w' ⟨a4, hd⟩
  exact ⟨a4, InTry.of n1 hd, hd.grew⟩
theorem inLessOld (b : HB) (ok : b.ok) (s : HS) (i : Nat) (hi : i < b.n) (hs : s.S i = 1) (hr : s.R ((b.f + i : Nat) : Int) = some 1) (hy : s.Y ((b.f + i : Nat) : Int) = none) (n : Nat) (hn : n < 80000) (w : World) (h : InTry b s n w) : Calls Tryz.prog 66 #[.pointer (some ⟨b.hb, 0, none⟩), .int .i64 ((b.f + i : Nat) : Int)] w fun e w' => e = .returned (.bool true) ∧ InTry b (s.letGo i ((b.f + i : Nat) : Int)) (n + 2) w' ∧ Grew (Mut b.B b.S0 w) w w' := by
  obtain ⟨⟨v, fs, n1, l⟩, ii⟩ := h
  refine (less1_old b ok s i hi hs hr hy 0 v fs w (by omega) ii l).mono ?_
  rintro e w' ⟨a4, hd⟩
  exact ⟨a4, InTry.of n1 hd, hd.grew⟩
theorem inLessYoung (b : HB) (ok : b.ok) (s : HS) (i : Nat) (hi : i < b.n) (hs : s.S i = 1) (hr : s.R ((b.f + i : Nat) : Int) = some 1) (hy : s.Y ((b.f + i : Nat) : Int) = some ()) (hgl : s.G.length < 90000) (n : Nat) (hn : n < 80000) (w : World) (h : InTry b s n w) : Calls Tryz.prog 66 #[.pointer (some ⟨b.hb, 0, none⟩), .int .i64 ((b.f + i : Nat) : Int)] w fun e w' => e = .returned (.bool true) ∧ InTry b (s.letYoung i ((b.f + i : Nat) : Int) (b.f + i)) (n + 4) w' ∧ Grew (Mut b.B b.S0 w) w w' := by
  obtain ⟨⟨v, fs, n1, l⟩, ii⟩ := h
  refine (less1_last b ok s _ i 4 hi hs hr 0 fs w ii (letGo1_young b ok s i hi hs hy hgl 0 v fs w.drew (by omega) ii.drew l.drew')).mono ?_
  rintro e w' ⟨a4, hd⟩
  exact ⟨a4, InTry.of n1 hd, hd.grew⟩
set_option maxRecDepth 100000 in
set_option maxHeartbeats 1000000 in
/-- an outermost Try that doesn't fail -/
theorem hTryOk (b : HB) (ok : b.ok) (s : HS) (w : World) (h : HeapI b s w) (hl : LogAt b.B b.g 0 (.slice none 0 0) [] w) (run : FuncId) (cap : Array Value) (R : HS → World → Prop)
    (hcall : ∀ wy : World, (callFunc run cap).run Tryz.prog wy = .ok (.enter run cap) wy)
    (hrun : InTry b s 0 (tryWorld b.g 0 w) → Calls Tryz.prog run cap (tryWorld b.g 0 w) fun e w' => ∃ s1 n, e = .returned (.tuple #[]) ∧ InTry b s1 n w' ∧ GoneOk b s1 ∧ w'.heap[w.heap.size]? = some errBox ∧ R s1 w') :
    Calls Tryz.prog 12 #[.pointer (some ⟨b.hb, 0, none⟩), .func (.func run) #[] cap] w fun e w' => ∃ s1 w1, e = .returned (.int .i64 0) ∧ R s1 w1 ∧ HeapI b (s1.fin b) w' ∧ LogAt b.B b.g 0 (.slice none 0 0) [] w' ∧ Grew (fun k => b.S0 k ∨ k = w.heap.size) w1 w' := by
  have gT := tryWorld_grew b.g 0 w
  have hsz := h.sz
  have i0 : HeapI b s (tryWorld b.g 0 w) := ((heapLogged ok).set _ _ 0 (.int .i64 ((0 + 1 : Nat) : Int)) (by decide) h).alloc errBox
  have l0 : LogAt b.B b.g 1 (.slice none 0 0) [] (tryWorld b.g 0 w) := (hl.deep 1).keepAlloc _
  have HT := Lib.hid (try_any b.B b.g 0 (.slice none 0 0) [] run cap w hl (by decide)
    (fun o _ w' => o = none ∧ ∃ s1, HeapI b s1 w' ∧ GoneOk b s1 ∧ R s1 w') (fun _ _ => False) hcall
    ((hrun ⟨⟨_, [], Nat.le_refl _, l0⟩, i0⟩).mono (by
      rintro e w' ⟨s1, n, rfl, ⟨⟨v, fs, n1, l⟩, i⟩, hgo, hbx, hR⟩
      exact ⟨none, fs, v, rfl, hbx, by rw [List.nil_append]; exact l, (fun _ e => by cases e), rfl, s1, i, hgo, hR⟩))
    (by
      rintro k fs' v' w' _ _ ⟨e, _⟩
      cases e))
  have c1 := h.c1
  clear h hl hrun i0 l0 gT
  go_enter Tryz.func12, Tryz.ntmps12
  go_wp2_with fail
  refine HT.out.mono ?_
  rintro e w2 ⟨o, rfl, w3, rfl, hend⟩
  have hmid : o = none ∧ ∃ s1 w1, R s1 w1 ∧ GoneOk b s1 ∧ HeapI b s1 (endTry b.g 0 w3) ∧ LogAt b.B b.g 0 (.slice none 0 0) [] (endTry b.g 0 w3) ∧ Grew (fun k => b.S0 k ∨ k = w.heap.size) w1 (endTry b.g 0 w3) := by
    rcases hend with ⟨rfl, fs', w1, ⟨_, s1, i, hgo, hR⟩, hbx, rfl, v', l⟩ | ⟨k, _, _, hf, _⟩
    · refine ⟨rfl, s1, w1, hR, hgo, ?_, l.end0 _, ?_⟩
      · have gd := done_alone w.heap.size none w1
        have i1 : HeapI b s1 (done w.heap.size none w1) := i.keep gd (fun j hj e => by have := ok.lt j hj; omega) fun r hr hk e => by
          obtain ⟨c, fz, e1⟩ := hk
          have e : r = w.heap.size := e
          rw [e, hbx] at e1
          simp [errBox] at e1
        unfold endTry
        rw [if_pos rfl]
        exact (heapLogged ok).set _ _ 1 _ (by decide) ((heapLogged ok).set _ _ 0 _ (by decide) i1)
      · exact ((done_alone w.heap.size none w1).mono fun x _ e => Or.inr e).step (end0_grew b.g _) fun x _ e => Or.inl ⟨1, by decide, e⟩
    · exact hf.elim
  obtain ⟨rfl, s1, w1, hR, hgo, i2, l2, g2⟩ := hmid
  generalize endTry b.g 0 w3 = w2 at *
  have HF := Lib.hid (freeGone_any b ok s1 hgo.all hgo.nd hgo.len w2 i2)
  have HD := Lib.hid (deep0_any b.B b.g 0 _ [] w2 l2)
  have c1 := i2.c1
  have HEnd : Hid (∀ w4, HeapI b { goneS b s1 s1.G.length with G := [] } w4 → Grew (fun q => q = b.hb ∨ q = b.q) w2 w4 → ∃ s1 w1, R s1 w1 ∧ HeapI b (s1.fin b) w4 ∧ LogAt b.B b.g 0 (.slice none 0 0) [] w4 ∧ Grew (fun k => b.S0 k ∨ k = w.heap.size) w1 w4) := Lib.hid fun w4 h4 g4 => by
    refine ⟨s1, w1, hR, h4, l2.keep g4 ?_ (fun q hq e => by cases hq), g2.step g4 fun x _ e => Or.inl ?_⟩
    · rintro (e | e)
      · exact ok.nd 1 0 (by decide) (by decide) (by decide) e
      · exact ok.nd 1 3 (by decide) (by decide) (by decide) e
    · rcases e with e | e
      · exact ⟨0, by decide, e⟩
      · exact ⟨3, by decide, e⟩
  clear i2 l2 g2 hR hgo hend HT
  go_wp2_with fail
  refine HD.out.mono ?_
  rintro e w4 ⟨rfl, rfl⟩
  clear HD
  go_wp2_with fail
  refine HF.out.mono ?_
  rintro e w4 ⟨rfl, h4, g4⟩
  have HX := Lib.hid (HEnd.out w4 h4 g4)
  clear h4 g4 HEnd HF
  go_wp2_with fail
  go_ret
  obtain ⟨s1, w1, r1, r2, r3, r4⟩ := HX.out
  exact ⟨s1, w1, rfl, r1, r2, r3, r4⟩
end Go.Proofs.YtbohpffigmllkaaGreatDoor

/-
  What lies on a heap's disk; Get; an outermost Try, and what it turns: contracts.
-/
namespace Go.Proofs.YtbohpffigmllkaaGreatDoor
open Go.RowKit Go.Maps Go.ChangeMaps Go.WideShapes

/-- what lies on a heap's disk -/
def DT (b : HB) (T : Nat → UInt8) (w : World) : Prop := ∃ M : DiskM, DiskAt M w ∧ M.d = b.d ∧ M.bs = b.bs ∧ M.bt = b.bt ∧ M.n = b.f + b.n ∧ M.armed = false ∧ M.dead = false ∧ M.left ≤ 2 ^ 62 ∧ M.T = T
theorem DT.keep {b : HB} {T : Nat → UInt8} {S : Nat → Prop} {w w' : World} (h : DT b T w) (k : Grew S w w') (h6 : ¬ S b.d) (h7 : ¬ S b.bs) (h8 : ¬ S b.bt) : DT b T w' := by
  obtain ⟨M, hM, m1, m2, m3, r⟩ := h
  exact ⟨M, hM.kept k (by rw [m1]; exact h6) (by rw [m2]; exact h7) (by rw [m3]; exact h8), m1, m2, m3, r⟩
theorem DT.drew {b : HB} {T : Nat → UInt8} {w : World} (h : DT b T w) : DT b T w.drew := h.keep (S := fun _ => False) (Grew.refl w).drew (fun e => e) (fun e => e) fun e => e
/-- a sector's text -/
def secB (T : Nat → UInt8) (k : Nat) : ByteArray := ⟨(sec T k).toArray⟩
/-- the heap's own blocks beside its tables and its disk -/
def TrySet (b : HB) (k : Nat) : Prop := k = b.g ∨ k = b.hb ∨ k = b.q
theorem TrySet.in0 {b : HB} {k : Nat} (h : TrySet b k) : b.S0 k := by
  rcases h with e | e | e
  · exact ⟨1, by decide, e⟩
  · exact ⟨0, by decide, e⟩
  · exact ⟨3, by decide, e⟩
theorem HB.ndisk {b : HB} (ok : b.ok) {k : Nat} (h : TrySet b k ∨ k = b.rb ∨ k = b.yb) : k ≠ b.d ∧ k ≠ b.bs ∧ k ≠ b.bt := by
  have : ∃ i, i < 6 ∧ k = b.blk i := by
    rcases h with (e | e | e) | e | e
    · exact ⟨1, by decide, e⟩
    · exact ⟨0, by decide, e⟩
    · exact ⟨3, by decide, e⟩
    · exact ⟨4, by decide, e⟩
    · exact ⟨5, by decide, e⟩
  obtain ⟨i, hi, rfl⟩ := this
  exact ⟨ok.nd i 6 (by omega) (by decide) (by omega), ok.nd i 7 (by omega) (by decide) (by omega), ok.nd i 8 (by omega) (by decide) (by omega)⟩
theorem HB.diskLt {b : HB} (ok : b.ok) : b.d < b.B ∧ b.bs < b.B ∧ b.bt < b.B := ⟨ok.lt 6 (by decide), ok.lt 7 (by decide), ok.lt 8 (by decide)⟩
theorem HeapI.dt {b : HB} {s : HS} {w : World} (h : HeapI b s w) : DT b b.T w := h.dk
set_option maxRecDepth 100000 in
theorem hGet_any (b : HB) (ok : b.ok) (s : HS) (i : Nat) (hi : i < b.n) (hs : s.S i = 1) (T : Nat → UInt8) (w : World) (h : HeapI b s w) (hD : DT b T w) : Calls Tryz.prog 104 #[.pointer (some ⟨b.hb, 0, none⟩), .int .i64 ((b.f + i : Nat) : Int)] w fun e w' => e = .returned (.string (secB T (b.f + i))) ∧ w.drew = w' := by
  have HN := Lib.hid (needHeld_ok b ok s i hi hs w h)
  obtain ⟨M, hM, m1, m2, m3, m4, m5, m6, m7, m8⟩ := hD
  have hr := read_ok M (b.f + i) w.drew hM.drew m6 (by omega)
  rw [m1, m8] at hr
  have HR := Lib.hid hr
  have c0 := h.drew.c0
  have hsec : Hid ((⟨(sec T (b.f + i)).toArray⟩ : ByteArray) = secB T (b.f + i)) := Lib.hid rfl
  rw [hsec.out] at HR
  clear h hM hr hsec hs hi
  generalize secB T (b.f + i) = t at *
  generalize b.f + i = X at *
  go_enter Tryz.func104, Tryz.ntmps104
  go_wp2_with fail
  refine HN.out.mono ?_
  rintro e w' ⟨rfl, rfl⟩
  clear HN
  go_wp2_with fail
  refine HR.out.mono ?_
  rintro e w' ⟨rfl, rfl⟩
  go_wp2_with fail
  go_ret
  exact ⟨rfl, rfl⟩
set_option maxRecDepth 100000 in
set_option maxHeartbeats 1000000 in
/-- an outermost Try that doesn't fail: what it turns behind what it runs -/
theorem hTryU (b : HB) (ok : b.ok) (s : HS) (w : World) (h : HeapI b s w) (hl : LogAt b.B b.g 0 (.slice none 0 0) [] w) (run : FuncId) (cap : Array Value) (R : HS → (Nat → UInt8) → World → Prop)
    (hcall : ∀ wy : World, (callFunc run cap).run Tryz.prog wy = .ok (.enter run cap) wy)
    (hrun : InTry b s 0 (tryWorld b.g 0 w) → Calls Tryz.prog run cap (tryWorld b.g 0 w) fun e w' => ∃ s1 n U, e = .returned (.tuple #[]) ∧ InTry (b.at U) s1 n w' ∧ GoneOk b s1 ∧ w'.heap[w.heap.size]? = some errBox ∧ R s1 U w') :
    Calls Tryz.prog 12 #[.pointer (some ⟨b.hb, 0, none⟩), .func (.func run) #[] cap] w fun e w' => ∃ s1 U w1, e = .returned (.int .i64 0) ∧ R s1 U w1 ∧ HeapI (b.at U) (s1.fin b) w' ∧ LogAt b.B b.g 0 (.slice none 0 0) [] w' ∧ Grew (fun k => TrySet b k ∨ k = w.heap.size) w1 w' := by
  have gT := tryWorld_grew b.g 0 w
  have hsz := h.sz
  have i0 : HeapI b s (tryWorld b.g 0 w) := ((heapLogged ok).set _ _ 0 (.int .i64 ((0 + 1 : Nat) : Int)) (by decide) h).alloc errBox
  have l0 : LogAt b.B b.g 1 (.slice none 0 0) [] (tryWorld b.g 0 w) := (hl.deep 1).keepAlloc _
  have HT := Lib.hid (try_any b.B b.g 0 (.slice none 0 0) [] run cap w hl (by decide)
    (fun o _ w' => o = none ∧ ∃ s1 U, HeapI (b.at U) s1 w' ∧ GoneOk b s1 ∧ R s1 U w') (fun _ _ => False) hcall
    ((hrun ⟨⟨_, [], Nat.le_refl _, l0⟩, i0⟩).mono (by
      rintro e w' ⟨s1, n, U, rfl, ⟨⟨v, fs, n1, l⟩, i⟩, hgo, hbx, hR⟩
      exact ⟨none, fs, v, rfl, hbx, by rw [List.nil_append]; exact l, (fun _ e => by cases e), rfl, s1, U, i, hgo, hR⟩))
    (by
      rintro k fs' v' w' _ _ ⟨e, _⟩
      cases e))
  have c1 := h.c1
  clear h hl hrun i0 l0 gT
  go_enter Tryz.func12, Tryz.ntmps12
  go_wp2_with fail
  refine HT.out.mono ?_
  rintro e w2 ⟨o, rfl, w3, rfl, hend⟩
  have hmid : o = none ∧ ∃ s1 U w1, R s1 U w1 ∧ GoneOk b s1 ∧ HeapI (b.at U) s1 (endTry b.g 0 w3) ∧ LogAt b.B b.g 0 (.slice none 0 0) [] (endTry b.g 0 w3) ∧ Grew (fun k => TrySet b k ∨ k = w.heap.size) w1 (endTry b.g 0 w3) := by
    rcases hend with ⟨rfl, fs', w1, ⟨_, s1, U, i, hgo, hR⟩, hbx, rfl, v', l⟩ | ⟨k, _, _, hf, _⟩
    · refine ⟨rfl, s1, U, w1, hR, hgo, ?_, l.end0 _, ?_⟩
      · have gd := done_alone w.heap.size none w1
        have i1 : HeapI (b.at U) s1 (done w.heap.size none w1) := i.keep gd (fun j hj e => by have := (ok.at U).lt j hj; have e9 : (b.at U).B = b.B := rfl; omega) fun r hr hk e => by
          obtain ⟨c, fz, e1⟩ := hk
          have e : r = w.heap.size := e
          rw [e, hbx] at e1
          simp [errBox] at e1
        unfold endTry
        rw [if_pos rfl]
        exact (heapLogged (ok.at U)).set _ _ 1 _ (by decide) ((heapLogged (ok.at U)).set _ _ 0 _ (by decide) i1)
      · exact ((done_alone w.heap.size none w1).mono fun x _ e => Or.inr e).step (end0_grew b.g _) fun x _ e => Or.inl (Or.inl e)
    · exact hf.elim
  obtain ⟨rfl, s1, U, w1, hR, hgo, i2, l2, g2⟩ := hmid
  generalize endTry b.g 0 w3 = w2 at *
  have HF := Lib.hid (freeGone_any (b.at U) (ok.at U) s1 hgo.all hgo.nd hgo.len w2 i2)
  have HD := Lib.hid (deep0_any b.B b.g 0 _ [] w2 l2)
  have c1 := i2.c1
  have HEnd : Hid (∀ w4, HeapI (b.at U) { goneS b s1 s1.G.length with G := [] } w4 → Grew (fun q => q = b.hb ∨ q = b.q) w2 w4 → ∃ s1 U w1, R s1 U w1 ∧ HeapI (b.at U) (s1.fin b) w4 ∧ LogAt b.B b.g 0 (.slice none 0 0) [] w4 ∧ Grew (fun k => TrySet b k ∨ k = w.heap.size) w1 w4) := Lib.hid fun w4 h4 g4 => by
    refine ⟨s1, U, w1, hR, h4, l2.keep g4 ?_ (fun q hq e => by cases hq), g2.step g4 fun x _ e => Or.inl (Or.inr e)⟩
    rintro (e | e)
    · exact ok.nd 1 0 (by decide) (by decide) (by decide) e
    · exact ok.nd 1 3 (by decide) (by decide) (by decide) e
  clear i2 l2 g2 hR hgo hend HT
  go_wp2_with fail
  refine HD.out.mono ?_
  rintro e w4 ⟨rfl, rfl⟩
  clear HD
  go_wp2_with fail
  refine HF.out.mono ?_
  rintro e w4 ⟨rfl, h4, g4⟩
  have HX := Lib.hid (HEnd.out w4 h4 g4)
  clear h4 g4 HEnd HF
  go_wp2_with fail
  go_ret
  obtain ⟨s2, U2, w5, r1, r2, r3, r4⟩ := HX.out
  exact ⟨s2, U2, w5, rfl, r1, r2, r3, r4⟩
/-- the same, of what writes nothing -/
theorem hTryC (b : HB) (ok : b.ok) (s : HS) (w : World) (h : HeapI b s w) (hl : LogAt b.B b.g 0 (.slice none 0 0) [] w) (run : FuncId) (cap : Array Value) (R : HS → World → Prop)
    (hcall : ∀ wy : World, (callFunc run cap).run Tryz.prog wy = .ok (.enter run cap) wy)
    (hrun : InTry b s 0 (tryWorld b.g 0 w) → Calls Tryz.prog run cap (tryWorld b.g 0 w) fun e w' => ∃ s1 n, e = .returned (.tuple #[]) ∧ InTry b s1 n w' ∧ GoneOk b s1 ∧ w'.heap[w.heap.size]? = some errBox ∧ R s1 w') :
    Calls Tryz.prog 12 #[.pointer (some ⟨b.hb, 0, none⟩), .func (.func run) #[] cap] w fun e w' => ∃ s1 w1, e = .returned (.int .i64 0) ∧ R s1 w1 ∧ HeapI b (s1.fin b) w' ∧ LogAt b.B b.g 0 (.slice none 0 0) [] w' ∧ Grew (fun k => TrySet b k ∨ k = w.heap.size) w1 w' := by
  refine (hTryU b ok s w h hl run cap (fun s1 U w1 => U = b.T ∧ R s1 w1) hcall fun hin => (hrun hin).mono ?_).mono ?_
  · rintro e w' ⟨s1, n, he, hi, hg, hb, hR⟩
    exact ⟨s1, n, b.T, he, hi, hg, hb, rfl, hR⟩
  · rintro e w' ⟨s1, U, w1, he, ⟨rfl, hR⟩, hi, hl, hg⟩
    exact ⟨s1, w1, he, hR, hi, hl, hg⟩
end Go.Proofs.YtbohpffigmllkaaGreatDoor

/-
  Texts put together: HeapDeep, HoldPut.
-/
/-
  A heap within Tries of any depth that don't fail; holding.Whole and holding.Put in one: contracts.
-/
namespace Go.Proofs.YtbohpffigmllkaaGreatDoor
open Go.RowKit Go.Maps Go.ChangeMaps Go.WideShapes

/-- a heap whose gone ones are none keeps what leaves its own blocks alone -/
theorem HeapI.keepNil {b : HB} {s : HS} {w w' : World} {T : Nat → Prop} (h : HeapI b s w) (hG : s.G = []) (k : Grew T w w') (h0 : ∀ i, i < 9 → ¬ T (b.blk i)) : HeapI b s w' := by
  have h1 := (h.rebase hG w.heap.size (Nat.le_refl _)).keep k (fun i hi => by rw [b.blk_at _ i hi]; exact h0 i hi) (fun r hr hk e => by
    obtain ⟨c, fz, e1⟩ := hk
    have hr : w.heap.size ≤ r := hr
    rw [Array.getElem?_eq_none hr] at e1
    cases e1)
  exact ⟨h1.c0, h1.c1, h1.c2, h1.c3, h1.c4, ⟨.slice none 0 0, h1.nl hG, by rw [hG]; exact World.ownsRow_nil _ _ _ _⟩, h1.c6, h1.fr, h1.gr, h1.rf, h1.yg, h1.dk, Nat.le_trans h.sz k.size, h1.kd, h1.nl⟩
theorem Box.pl {S0 : Nat → Prop} {b : Nat} {t : TypeId} {x : Value} {w : World} (h : Box b t x w) (hs : ¬ S0 b) (h1 : t ≠ 1) (h2 : t ≠ 37) : Plain S0 w b := ⟨hs, _, _, _, h, h1, h2⟩
/-- a heap in Tries, behind some steps that the log has -/
structure InL (b : HB) (s : HS) (dp : Nat) (f0 : List Step) (n : Nat) (w : World) : Prop where
  log : ∃ v fs, (f0 ++ fs).length ≤ n ∧ LogAt b.B b.g dp v (f0 ++ fs) w
  st : HeapI b s w
theorem InTry.deep {b : HB} {s : HS} {n : Nat} {w : World} (h : InTry b s n w) : InL b s 1 [] n w := by
  obtain ⟨⟨v, fs, n1, l⟩, i⟩ := h
  exact ⟨⟨v, fs, by rw [List.nil_append]; exact n1, by rw [List.nil_append]; exact l⟩, i⟩
theorem InL.first {b : HB} {s : HS} {n : Nat} {w : World} (h : InL b s 1 [] n w) : InTry b s n w := by
  obtain ⟨⟨v, fs, n1, l⟩, i⟩ := h
  rw [List.nil_append] at n1 l
  exact ⟨⟨v, fs, n1, l⟩, i⟩
theorem InL.of {b : HB} {s s' : HS} {dp m n : Nat} {f0 fs : List Step} {w w' : World} (hf : (f0 ++ fs).length ≤ n) (h : Did b.B b.g dp b.S0 (HeapI b) (f0 ++ fs) m s s' w w') : InL b s' (dp + 1) f0 (n + m) w' := by
  obtain ⟨⟨v, fs', l, n1, _⟩, i, _⟩ := h
  rw [List.append_assoc] at l
  exact ⟨⟨v, fs ++ fs', by rw [← List.append_assoc, List.length_append]; omega, l⟩, i⟩
section
variable {b : HB} {s : HS} {dp n : Nat} {f0 : List Step} {w w' : World}
theorem InL.keep {T : Nat → Prop} (h : InL b s dp f0 n w) (hG : s.G = []) (k : Grew T w w') (h0 : ∀ x, b.S0 x → ¬ T x) (h1 : ∀ r c fz, w.heap[r]? = some (.cells c 1 fz) → ¬ T r) : InL b s dp f0 n w' := by
  obtain ⟨⟨v, fs, n1, l⟩, i⟩ := h
  exact ⟨⟨v, fs, n1, l.keep k (h0 _ ⟨1, by decide, rfl⟩) fun q hq => by
    obtain ⟨c, fz, e⟩ := Lib.ownsRow_kind l.row q hq
    exact h1 q c fz e⟩, i.keepNil hG k fun j hj => h0 _ ⟨j, hj, rfl⟩⟩
theorem InL.drew (h : InL b s dp f0 n w) : InL b s dp f0 n w.drew := by
  obtain ⟨⟨v, fs, n1, l⟩, i⟩ := h
  exact ⟨⟨v, fs, n1, l.drew'⟩, i.drew⟩
theorem InL.alloc (h : InL b s dp f0 n w) (hG : s.G = []) (o : Obj) : InL b s dp f0 n (w.alloc o) := h.keep hG ((Grew.refl (S := fun _ => False) w).alloc o) (fun _ _ e => e) fun _ _ _ _ e => e
/-- a box is written -/
theorem InL.box (h : InL b s dp f0 n w) (hG : s.G = []) {x : Nat} {t : TypeId} {u v : Value} (hx : Box x t u w) (ht : t ≠ 1) (hS : ¬ b.S0 x) : InL b s dp f0 n (w.setCell ⟨x, 0, none⟩ v) := h.keep hG ((Grew.refl (S := fun q => q = x) w).setCell _ _ fun _ => rfl) (fun q hq e => hS (e ▸ hq)) fun r c fz hr e => by
  subst e
  unfold Box at hx
  rw [hx] at hr
  simp at hr
  exact ht hr.2.1
theorem InL.size (h : InL b s dp f0 n w) : b.B ≤ w.heap.size := h.st.sz
theorem lPut (ok : b.ok) (t : ByteArray) (ht : t.size ≤ 64) (hK0 : 0 ≤ s.K) (hK : s.K < (cnt s.S 0 b.n : Nat)) (hn : n < 80000) (h : InL b s (dp + 1) f0 n w) : Calls Tryz.prog 122 #[.pointer (some ⟨b.hb, 0, none⟩), .string t] w fun e w' => ∃ j, j < b.n ∧ s.S j = 0 ∧ (∀ i, i < j → ¬ s.S i = 0) ∧ e = .returned (.int .i64 ((b.f + j : Nat) : Int)) ∧ InL (b.at (wroteT b.T (b.f + j) t)) (s.put j ((b.f + j : Nat) : Int)) (dp + 1) f0 (n + 3) w' ∧ Grew (Mut b.B b.S0 w) w w' := by
  obtain ⟨⟨v, fs, n1, l⟩, i⟩ := h
  refine (put1_any b ok s t ht hK0 hK dp v (f0 ++ fs) w (by omega) i l).mono ?_
  rintro e w' ⟨j, a1, a2, a3, a4, hd⟩
  exact ⟨j, a1, a2, a3, a4, InL.of (b := (b.at (wroteT b.T (b.f + j) t))) n1 hd, hd.grew⟩
set_option maxRecDepth 100000 in
set_option maxHeartbeats 1000000 in
/-- a Try within a Try, that doesn't fail -/
theorem lTry (ok : b.ok) (hdp : 0 < dp) (hd : dp < 100000) (h : InL b s dp f0 n w) (run : FuncId) (cap : Array Value) (R : HS → Nat → (Nat → UInt8) → World → Prop)
    (hcall : ∀ wy : World, (callFunc run cap).run Tryz.prog wy = .ok (.enter run cap) wy)
    (hrun : ∀ f1, InL b s (dp + 1) f1 n (tryWorld b.g dp w) → Calls Tryz.prog run cap (tryWorld b.g dp w) fun e w' => ∃ s1 n1 U, e = .returned (.tuple #[]) ∧ InL (b.at U) s1 (dp + 1) f1 n1 w' ∧ s1.G = [] ∧ w'.heap[w.heap.size]? = some errBox ∧ R s1 n1 U w') :
    Calls Tryz.prog 12 #[.pointer (some ⟨b.hb, 0, none⟩), .func (.func run) #[] cap] w fun e w' => ∃ s1 n1 U w1, e = .returned (.int .i64 0) ∧ R s1 n1 U w1 ∧ InL (b.at U) s1 dp f0 n1 w' ∧ Grew (fun k => k = b.g ∨ k = w.heap.size) w1 w' ∧ w.heap.size < w1.heap.size := by
  obtain ⟨⟨v, fs, n1, l⟩, i⟩ := h
  have hsz := i.sz
  have hne : ¬ dp = 0 := by omega
  have i0 : HeapI b s (tryWorld b.g dp w) := ((heapLogged ok).set _ _ 0 (.int .i64 ((dp + 1 : Nat) : Int)) (by decide) i).alloc errBox
  have l0 : LogAt b.B b.g (dp + 1) v (f0 ++ fs) (tryWorld b.g dp w) := (l.deep (dp + 1)).keepAlloc _
  have HT := Lib.hid (try_any b.B b.g dp v (f0 ++ fs) run cap w l hd
    (fun o fs' w' => o = none ∧ ∃ s1 n1 U, HeapI (b.at U) s1 w' ∧ s1.G = [] ∧ (f0 ++ fs ++ fs').length ≤ n1 ∧ R s1 n1 U w') (fun _ _ => False) hcall
    ((hrun (f0 ++ fs) ⟨⟨v, [], by rw [List.append_nil]; exact n1, by rw [List.append_nil]; exact l0⟩, i0⟩).mono (by
      rintro e w' ⟨s1, n2, U, rfl, ⟨⟨v2, fs2, hl2, l2⟩, i2⟩, hG, hbx, hR⟩
      exact ⟨none, fs2, v2, rfl, hbx, l2, (fun _ e => by cases e), rfl, s1, n2, U, i2, hG, hl2, hR⟩))
    (by
      rintro k fs' v' w' _ _ ⟨e, _⟩
      cases e))
  have c1 := i.c1
  have hdz : ((dp : Int) == 0) = false := by rw [beq_eq_false_iff_ne]; omega
  clear hrun i0 l0 l i n1
  go_enter Tryz.func12, Tryz.ntmps12
  go_wp2_with fail
  refine HT.out.mono ?_
  rintro e w2 ⟨o, rfl, w3, rfl, hend⟩
  have hmid : o = none ∧ ∃ s1 n1 U w1, R s1 n1 U w1 ∧ InL (b.at U) s1 dp f0 n1 (endTry b.g dp w3) ∧ Grew (fun k => k = b.g ∨ k = w.heap.size) w1 (endTry b.g dp w3) ∧ w.heap.size < w1.heap.size := by
    rcases hend with ⟨rfl, fs', w1, ⟨_, s1, n2, U, i, hG, hl, hR⟩, hbx, rfl, v', l⟩ | ⟨k, _, _, hf, _⟩
    · have hlt : w.heap.size < w1.heap.size := by
        rcases Nat.lt_or_ge w.heap.size w1.heap.size with e | e
        · exact e
        · rw [Array.getElem?_eq_none e] at hbx; cases hbx
      have gd := done_alone w.heap.size none w1
      have i1 : HeapI (b.at U) s1 (done w.heap.size none w1) := i.keep gd (fun j hj e => by have := (ok.at U).lt j hj; have e9 : (b.at U).B = b.B := rfl; omega) fun r hr hk e => by
        obtain ⟨c, fz, e1⟩ := hk
        have e : r = w.heap.size := e
        rw [e, hbx] at e1
        simp [errBox] at e1
      have i2 : HeapI (b.at U) s1 (endTry b.g dp (done w.heap.size none w1)) := by
        unfold endTry
        rw [if_neg hne]
        exact (heapLogged (ok.at U)).set _ _ 0 _ (by decide) i1
      obtain ⟨v2, l2⟩ := l.endTry (dp := dp)
      rw [if_neg hne, List.append_assoc] at l2
      refine ⟨rfl, s1, n2, U, w1, hR, ⟨⟨v2, fs ++ fs', by rw [← List.append_assoc]; exact hl, l2⟩, i2⟩, ?_, hlt⟩
      have ge : Grew (fun k => k = b.g) (done w.heap.size none w1) (endTry b.g dp (done w.heap.size none w1)) := by
        unfold endTry
        rw [if_neg hne]
        exact (Grew.refl _).setCell _ _ fun _ => rfl
      exact (gd.mono fun x _ e => Or.inr e).step ge fun x _ e => Or.inl e
    · exact hf.elim
  obtain ⟨rfl, s1, n2, U, w1, hR, hin, g2, hlt⟩ := hmid
  generalize endTry b.g dp w3 = w2 at *
  obtain ⟨v5, fs5, n5, l5⟩ := hin.log
  have HD := Lib.hid (deep0_any b.B b.g dp _ _ w2 l5)
  have c1 := hin.st.c1
  have HIn := Lib.hid hin
  have HR := Lib.hid hR
  have HG2 := Lib.hid g2
  have HLt := Lib.hid hlt
  clear hend HT hin hR g2 hlt l5 n5
  go_wp2_with fail
  refine HD.out.mono ?_
  rintro e w4 ⟨rfl, rfl⟩
  clear HD
  go_wp2_with fail
  go_ret
  exact ⟨s1, n2, U, w1, rfl, HR.out, HIn.out, HG2.out, HLt.out⟩
/-- holding.Whole of a Try that doesn't fail -/
theorem whole_ok (hb : Value) (run : Value) (Q : World → Prop) (h : Calls Tryz.prog 12 #[hb, run] w fun e w' => e = .returned (.int .i64 0) ∧ Q w') :
    Calls Tryz.prog 63 #[hb, run] w fun e w' => e = .returned (.tuple #[]) ∧ Q w' := by
  have H := Lib.hid h
  clear h
  go_enter Tryz.func63, Tryz.ntmps63
  go_wp2_with fail
  refine H.out.mono ?_
  rintro e w1 ⟨rfl, hq⟩
  have HQ := Lib.hid hq
  clear hq
  go_wp2_with fail
  go_end0
  exact ⟨rfl, HQ.out⟩
/-- what holding.Put runs -/
theorem hput1_any (ok : b.ok) (hf : 1 ≤ b.f) (hG : s.G = []) (t : ByteArray) (ht : t.size ≤ 64) (hK0 : 0 ≤ s.K) (hK : s.K < (cnt s.S 0 b.n : Nat)) (hn : n < 80000) (xh xs xa : Nat) (h : InL b s (dp + 1) f0 n w) (bh : Box xh 24 (.pointer (some ⟨b.hb, 0, none⟩)) w) (bs : Box xs 9 (.string t) w) (ba : Box xa 3 (.int .i64 0) w) (sa : ¬ b.S0 xa) :
    Calls Tryz.prog 121 #[.pointer (some ⟨xh, 0, none⟩), .pointer (some ⟨xs, 0, none⟩), .pointer (some ⟨xa, 0, none⟩)] w fun e w' => ∃ j, j < b.n ∧ s.S j = 0 ∧ (∀ i, i < j → ¬ s.S i = 0) ∧ e = .returned (.tuple #[]) ∧ InL (b.at (wroteT b.T (b.f + j) t)) (s.put j ((b.f + j : Nat) : Int)) (dp + 1) f0 (n + 3) w' ∧ Box xa 3 (.int .i64 ((b.f + j : Nat) : Int)) w' ∧ Grew (fun k => Mut b.B b.S0 w k ∨ k = xa) w w' := by
  have HP := Lib.hid (lPut ok t ht hK0 hK hn h)
  have c1 := bh.cell
  have c2 := bs.cell
  have HA := Lib.hid ba
  have HHn := Lib.hid (hG)
  clear h hK0 hK hG
  go_enter Tryz.func121, Tryz.ntmps121
  go_wp2_with fail
  refine HP.out.mono ?_
  rintro e w1 ⟨j, hj, h0, hmin, rfl, hin, hg⟩
  have kk := Kept.of hg
  have ba1 : Box xa 3 (.int .i64 0) w1 := (kk _ (Box.pl HA.out sa (by decide) (by decide))).trans HA.out
  have HIn := Lib.hid (hin.box (v := .int .i64 ((b.f + j : Nat) : Int)) HHn.out ba1 (by decide) sa)
  have HB2 := Lib.hid (ba1.set (.int .i64 ((b.f + j : Nat) : Int)))
  have HG2 : Hid (Grew (fun k => Mut b.B b.S0 w k ∨ k = xa) w (w1.setCell ⟨xa, 0, none⟩ (.int .i64 ((b.f + j : Nat) : Int)))) := Lib.hid ((hg.mono fun x _ e => Or.inl e).setCell _ _ fun _ => Or.inr rfl)
  have d1 := ba1.cell
  have d2 := ba1.free
  have d3 := HB2.out.cell
  have hz : (((b.f + j : Nat) : Int) == 0) = false := by rw [beq_eq_false_iff_ne]; omega
  have HFin : Hid (j < b.n ∧ s.S j = 0 ∧ (∀ i, i < j → ¬ s.S i = 0)) := Lib.hid ⟨hj, h0, hmin⟩
  clear hin hg kk ba1 HP c1 c2 bh bs ba hj h0 hmin hf HHn
  obtain ⟨T, hT⟩ : ∃ T, ((b.f + j : Nat) : Int) = T := ⟨_, rfl⟩
  rw [hT] at HIn HB2 HG2 d3 hz ⊢
  have HT := Lib.hid hT
  clear hT
  obtain ⟨W, hW⟩ : ∃ W, w1.setCell ⟨xa, 0, none⟩ (.int .i64 T) = W := ⟨_, rfl⟩
  rw [hW] at HIn HB2 HG2 d3
  go_upto_region 1 with fail
  clear hW d1 d2
  go_wp2_with fail
  go_end0
  refine ⟨j, HFin.out.1, HFin.out.2.1, HFin.out.2.2, rfl, ?_⟩
  rw [HT.out]
  exact ⟨HIn.out, HB2.out, HG2.out⟩
end
end Go.Proofs.YtbohpffigmllkaaGreatDoor

/-
  holding.Put within a Try of a heap: contract.
-/
namespace Go.Proofs.YtbohpffigmllkaaGreatDoor
open Go.RowKit Go.Maps Go.ChangeMaps Go.WideShapes

theorem HB.far {b : HB} (ok : b.ok) {x : Nat} (hx : b.B ≤ x) : ¬ b.S0 x := by
  rintro ⟨i, hi, rfl⟩
  have := ok.lt i hi
  omega
section
variable {b : HB} {s : HS} {dp n : Nat} {f0 : List Step} {w w' : World}
/-- holding.Put's three boxes, made -/
structure HpAt (b : HB) (s : HS) (dp : Nat) (f0 : List Step) (n x : Nat) (t : ByteArray) (w W : World) : Prop where
  inl : InL b s dp f0 n W
  bh : Box x 24 (.pointer (some ⟨b.hb, 0, none⟩)) W
  bs : Box (x + 1) 9 (.string t) W
  ba : Box (x + 1 + 1) 3 (.int .i64 0) W
  sz : W.heap.size = x + 3
  hx : w.heap.size = x
  g : Grew (fun _ => False) w W
theorem hpAt (hG : s.G = []) (t : ByteArray) (h : InL b s dp f0 n w) : HpAt b s dp f0 n w.heap.size t w (((w.alloc (.cells #[.pointer (some ⟨b.hb, 0, none⟩)] 24)).alloc (.cells #[.string t] 9)).alloc (.cells #[.int .i64 0] 3)) := by
  have s1 : (w.alloc (.cells #[.pointer (some ⟨b.hb, 0, none⟩)] 24)).heap.size = w.heap.size + 1 := by simp
  have s2 : ((w.alloc (.cells #[.pointer (some ⟨b.hb, 0, none⟩)] 24)).alloc (.cells #[.string t] 9)).heap.size = w.heap.size + 1 + 1 := by simp
  have x1 := Box.new w 24 (.pointer (some ⟨b.hb, 0, none⟩))
  have x2 := Box.new (w.alloc (.cells #[.pointer (some ⟨b.hb, 0, none⟩)] 24)) 9 (.string t)
  have x3 := Box.new ((w.alloc (.cells #[.pointer (some ⟨b.hb, 0, none⟩)] 24)).alloc (.cells #[.string t] 9)) 3 (.int .i64 0)
  rw [s1] at x2
  rw [s2] at x3
  exact ⟨((h.alloc hG _).alloc hG _).alloc hG _, (x1.keepAlloc _).keepAlloc _, x2.keepAlloc _, x3, by simp, rfl, (((Grew.refl w).alloc _).alloc _).alloc _⟩
theorem HpAt.set0 {x : Nat} {t : ByteArray} {W : World} (ok : b.ok) (hG : s.G = []) (hsz : b.B ≤ w.heap.size) (h : HpAt b s dp f0 n x t w W) : HpAt b s dp f0 n x t w (W.setCell ⟨x + 1 + 1, 0, none⟩ (.int .i64 0)) := by
  have hx := h.hx
  exact ⟨h.inl.box hG h.ba (by decide) (HB.far ok (by omega)), h.bh.keepSet _ _ _ (by omega), h.bs.keepSet _ _ _ (by omega), h.ba.set _, by rw [World.size_setCell]; exact h.sz, hx, h.g.setCell _ _ fun e => by
    have e : x + 1 + 1 < w.heap.size := e
    omega⟩
/-- what holding.Put's Try leaves -/
structure HpEnd (b : HB) (s : HS) (dp : Nat) (f0 : List Step) (n xa : Nat) (t : ByteArray) (w : World) (j : Nat) (w' : World) : Prop where
  lt : j < b.n
  free : s.S j = 0
  min : ∀ i, i < j → ¬ s.S i = 0
  inl : InL (b.at (wroteT b.T (b.f + j) t)) (s.put j ((b.f + j : Nat) : Int)) dp f0 (n + 3) w'
  ba : Box xa 3 (.int .i64 ((b.f + j : Nat) : Int)) w'
  g : Grew (Mut b.B b.S0 w) w w'
set_option maxRecDepth 100000 in
theorem hpTry (ok : b.ok) (hf : 1 ≤ b.f) (hG : s.G = []) (t : ByteArray) (ht : t.size ≤ 64) (hK0 : 0 ≤ s.K) (hK : s.K < (cnt s.S 0 b.n : Nat)) (hn : n < 80000) (hdp : 0 < dp) (hd : dp < 100000) (x : Nat) {W : World} (h : HpAt b s dp f0 n x t w W) (hsz : b.B ≤ w.heap.size) :
    Calls Tryz.prog 12 #[.pointer (some ⟨b.hb, 0, none⟩), .func (.func 121) #[] #[.pointer (some ⟨x, 0, none⟩), .pointer (some ⟨x + 1, 0, none⟩), .pointer (some ⟨x + 1 + 1, 0, none⟩)]] W fun e w' => e = .returned (.int .i64 0) ∧ ∃ j, HpEnd b s dp f0 n (x + 1 + 1) t w j w' := by
  have hx := h.hx
  have hWs := h.sz
  have f1 : ¬ b.S0 x := HB.far ok (by omega)
  have f2 : ¬ b.S0 (x + 1) := HB.far ok (by omega)
  have f3 : ¬ b.S0 (x + 1 + 1) := HB.far ok (by omega)
  have f4 : ¬ b.S0 W.heap.size := HB.far ok (by omega)
  have gT := tryWorld_grew b.g dp W
  have hgS : b.S0 b.g := ⟨1, by decide, rfl⟩
  have bT : ∀ {y : Nat} {ty : TypeId} {v : Value}, Box y ty v W → ¬ b.S0 y → Box y ty v (tryWorld b.g dp W) := fun h hs => h.keep gT fun e => hs (e ▸ hgS)
  refine (lTry ok hdp hd h.inl _ _ (fun s1 n1 U w1 => ∃ j, j < b.n ∧ s.S j = 0 ∧ (∀ i, i < j → ¬ s.S i = 0) ∧ s1 = s.put j ((b.f + j : Nat) : Int) ∧ n1 = n + 3 ∧ U = wroteT b.T (b.f + j) t ∧ Box (x + 1 + 1) 3 (.int .i64 ((b.f + j : Nat) : Int)) w1 ∧ Grew (Mut b.B b.S0 w) w w1) (fun _ => by rfl) ?_).mono ?_
  · intro f1' hin
    refine (hput1_any ok hf hG t ht hK0 hK hn x (x + 1) (x + 1 + 1) hin (bT h.bh f1) (bT h.bs f2) (bT h.ba f3) f3).mono ?_
    rintro e w1 ⟨j, hj, h0, hmin, rfl, hi, hb, hg⟩
    refine ⟨_, _, _, rfl, hi, hG, ?_, j, hj, h0, hmin, rfl, rfl, rfl, hb, ?_⟩
    · rw [hg.block _ (by rw [tryWorld_size]; omega) ?_]
      · exact tryWorld_box b.g dp W
      · rintro (m | m)
        · rcases m with m | m
          · exact f4 m
          · exact notFunc_err (tryWorld_box b.g dp W) m
        · omega
    · have g1 : Grew (Mut b.B b.S0 w) w (tryWorld b.g dp W) := (h.g.mono fun _ _ e => e.elim).step gT fun y _ e => Or.inl (e ▸ hgS)
      exact g1.step hg fun y hy m => by
        rcases m with m | m
        · exact Mut.back g1 hy m
        · omega
  · rintro e w' ⟨s1, n1, U, w1, rfl, ⟨j, hj, h0, hmin, rfl, rfl, rfl, hb, hg⟩, hin, g2, _⟩
    refine ⟨rfl, j, hj, h0, hmin, hin, hb.keep g2 ?_, hg.step g2 fun y hy e => ?_⟩
    · rintro (e | e)
      · exact f3 (e ▸ hgS)
      · omega
    · rcases e with e | e
      · exact Or.inl (e ▸ hgS)
      · omega
set_option maxRecDepth 100000 in
theorem hPut_any (ok : b.ok) (hf : 1 ≤ b.f) (hG : s.G = []) (t : ByteArray) (ht : t.size ≤ 64) (hK0 : 0 ≤ s.K) (hK : s.K < (cnt s.S 0 b.n : Nat)) (hn : n < 80000) (hdp : 0 < dp) (hd : dp < 100000) (h : InL b s dp f0 n w) :
    Calls Tryz.prog 96 #[.pointer (some ⟨b.hb, 0, none⟩), .string t] w fun e w' => ∃ j, j < b.n ∧ s.S j = 0 ∧ (∀ i, i < j → ¬ s.S i = 0) ∧ e = .returned (.int .i64 ((b.f + j : Nat) : Int)) ∧ InL (b.at (wroteT b.T (b.f + j) t)) (s.put j ((b.f + j : Nat) : Int)) dp f0 (n + 3) w' ∧ Grew (Mut b.B b.S0 w) w w' := by
  have hmf : ∀ (fn : Fn) (first cap : Array Value) (w : World), (Instr.makeFunc fn first cap).run Tryz.prog w = .ok (.func fn first cap) w := fun _ _ _ _ => rfl
  have HA := hpAt hG t h
  have hsz := h.size
  have c0 := HA.bh.cell
  obtain ⟨W, hW⟩ : ∃ W, (((w.alloc (.cells #[.pointer (some ⟨b.hb, 0, none⟩)] 24)).alloc (.cells #[.string t] 9)).alloc (.cells #[.int .i64 0] 3)) = W := ⟨_, rfl⟩
  rw [hW] at HA c0
  have q1 := HA.ba.cell
  have q2 := HA.ba.free
  replace HA := HA.set0 ok hG hsz
  obtain ⟨V, hV⟩ : ∃ V, W.setCell ⟨w.heap.size + 1 + 1, 0, none⟩ (.int .i64 0) = V := ⟨_, rfl⟩
  rw [hV] at HA
  have c1 := HA.bh.cell
  have HT := Lib.hid (whole_ok _ _ _ (hpTry ok hf hG t ht hK0 hK hn hdp hd w.heap.size HA hsz))
  clear h HA hsz
  go_enter Tryz.func96, Tryz.ntmps96
  go_wp2_with fail
  refine HT.out.mono ?_
  rintro e w1 ⟨rfl, j, hE⟩
  have c5 := hE.ba.cell
  have HE := Lib.hid hE
  clear hE HT
  go_wp2_with fail
  go_ret
  exact ⟨j, HE.out.lt, HE.out.free, HE.out.min, rfl, HE.out.inl, HE.out.g⟩
end
end Go.Proofs.YtbohpffigmllkaaGreatDoor
