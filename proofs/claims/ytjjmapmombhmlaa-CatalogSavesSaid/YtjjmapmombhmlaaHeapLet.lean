/-
  A heap within a Try: letGo of one that isn't young, Less of one that one wants: contracts.
-/
import Derived.Test.YtjjmapmombhmlaaHeapLess
namespace Go.Proofs.Ytjjmapmombhmlaa
open Go.RowKit Go.Maps Go.ChangeMaps Go.WideShapes

def HS.letGo (s : HS) (i : Nat) (T : Int) : HS := { s with S := upd s.S i 2, R := upF s.R T none }
/-- what lies where letGo looks whether a sector is young -/
structure Let3 (b : HB) (x y : Nat) (T : Int) (s : HS) (w : World) : Prop where
  st : HeapI b s w
  two : Boxes2 b x y T w
theorem Boxes2.alloc {b : HB} {x y : Nat} {T : Int} {w : World} (h : Boxes2 b x y T w) (o : Obj) : Boxes2 b x y T (w.alloc o) := by
  have hx : x < w.heap.size := by
    rcases Nat.lt_or_ge x w.heap.size with e | e
    · exact e
    · have := h.bx; rw [Array.getElem?_eq_none e] at this; cases this
  have hy : y < w.heap.size := by
    rcases Nat.lt_or_ge y w.heap.size with e | e
    · exact e
    · have := h.by'; rw [Array.getElem?_eq_none e] at this; cases this
  exact ⟨by rw [Below.heap_alloc _ _ _ (by omega)]; exact h.bx, by rw [Below.heap_alloc _ _ _ (by omega)]; exact h.by'⟩
theorem Did.alloc {b : HB} {dp n : Nat} {fs : List Step} {s s' : HS} {w w' : World} (h : Did b.B b.g dp b.S0 (HeapI b) fs n s s' w w') (o : Obj) : Did b.B b.g dp b.S0 (HeapI b) fs n s s' w (w'.alloc o) := by
  obtain ⟨⟨v, fs', l, n1, p⟩, i, g⟩ := h
  have k : Grew (Mut b.B b.S0 w') w' (w'.alloc o) := (Grew.refl w').alloc o
  exact ⟨⟨v, fs', l.keepAlloc o, n1, p.later (Kept.of k)⟩, i.alloc o, g.thenMut k⟩
theorem Did.drew {b : HB} {dp n : Nat} {fs : List Step} {s s' : HS} {w w' : World} (h : Did b.B b.g dp b.S0 (HeapI b) fs n s s' w w') : Did b.B b.g dp b.S0 (HeapI b) fs n s s' w w'.drew := by
  obtain ⟨⟨v, fs', l, n1, p⟩, i, g⟩ := h
  have k : Grew (Mut b.B b.S0 w') w' w'.drew := (Grew.refl w').drew
  exact ⟨⟨v, fs', l.drew', n1, p.later (Kept.of k)⟩, i.drew, g.thenMut k⟩
set_option maxRecDepth 100000 in
set_option maxHeartbeats 1000000 in
/-- a sector is let go that isn't young: in a Try -/
theorem letGo1_old (b : HB) (ok : b.ok) (s : HS) (i : Nat) (hi : i < b.n) (hs : s.S i = 1) (hy : s.Y ((b.f + i : Nat) : Int) = none) (dp : Nat) (v : Value) (fs : List Step) (w : World) (hf : fs.length < 90000) (h : HeapI b s w) (hl : LogAt b.B b.g (dp + 1) v fs w) : Calls Try.prog 70 #[.pointer (some ⟨b.hb, 0, none⟩), .int .i64 ((b.f + i : Nat) : Int)] w fun e w' => e = .returned (.tuple #[]) ∧ Did b.B b.g dp b.S0 (HeapI b) fs 2 s (s.letGo i ((b.f + i : Nat) : Int)) w w' := by
  have hmf : ∀ (fn : Fn) (first cap : Array Value) (w : World), (Instr.makeFunc fn first cap).run Try.prog w = .ok (.func fn first cap) w := fun _ _ _ _ => rfl
  obtain ⟨W, hW⟩ : ∃ W, (w.alloc (.cells #[.pointer (some ⟨b.hb, 0, none⟩)] 43)).alloc (.cells #[.int .i64 ((b.f + i : Nat) : Int)] 3) = W := ⟨_, rfl⟩
  have hF : Front b ((b.f + i : Nat) : Int) w W := hW ▸ front b _ w
  have hI : HeapI b s W := by rw [← hW]; exact (h.alloc _).alloc _
  have hL : LogAt b.B b.g (dp + 1) v fs W := hl.keep hF.grew (fun e => e) fun _ _ e => e
  have n0 := HB.not0 ok h.sz (Nat.le_refl w.heap.size)
  have n1 := HB.not0 ok h.sz (Nat.le_succ w.heap.size)
  have HD := Lib.hid (dropR b ok s i hi dp v fs W.drew (by omega) hI.drew hL.drew')
  -- behind the drop
  have HN1 : Hid (∀ w1, Did b.B b.g dp b.S0 (HeapI b) fs 1 s { s with R := upF s.R ((b.f + i : Nat) : Int) none } W.drew w1 → Let3 b w.heap.size (w.heap.size + 1) ((b.f + i : Nat) : Int) { s with R := upF s.R ((b.f + i : Nat) : Int) none } w1 ∧ Grew (Mut b.B b.S0 w) w w1) := Lib.hid fun w1 hd =>
    ⟨⟨hd.st, hF.two.kept ⟨n0, n1⟩ (Kept.of hd.fromDrew.grew)⟩, (hF.grew.mono fun _ _ e => e.elim).thenMut hd.fromDrew.grew⟩
  -- Later
  have HLa : Hid (∀ w1, HeapI b { s with R := upF s.R ((b.f + i : Nat) : Int) none } w1 → Calls Try.prog 106 #[.pointer (some ⟨b.m, 0, none⟩), .int .i64 ((b.f + i : Nat) : Int)] w1.drew fun e w' => ∃ r, e = .returned (.bool r) ∧ Turned b.m b.q b.f b.n s.S i 1 2 w1.drew r w') := Lib.hid fun w1 h1 => later_any b.m b.q b.f b.n s.S i w1.drew h1.drew.gr (Nat.le_trans ok.f (by decide)) (Nat.le_trans ok.n (by decide)) hi
  have HN2 : Hid (∀ w1 w2 r, Let3 b w.heap.size (w.heap.size + 1) ((b.f + i : Nat) : Int) { s with R := upF s.R ((b.f + i : Nat) : Int) none } w1 → Turned b.m b.q b.f b.n s.S i 1 2 w1.drew r w2 → Let3 b w.heap.size (w.heap.size + 1) ((b.f + i : Nat) : Int) (s.letGo i ((b.f + i : Nat) : Int)) w2 ∧ Grew (fun q => q = b.q) w1 w2) := Lib.hid fun w1 w2 r h1 ht => by
    have hg : Grew (fun q => q = b.q) w1 w2 := ((Grew.refl w1).drew).trans ht.2
    have hg' : Grew (Mut b.B b.S0 w1) w1 w2 := hg.mono fun q _ e => Or.inl ⟨3, by decide, e⟩
    exact ⟨⟨(h1.st.drew.turn ok (s := { s with R := upF s.R ((b.f + i : Nat) : Int) none }) hs ht).2, h1.two.kept ⟨n0, n1⟩ (Kept.of hg')⟩, hg⟩
  -- the step back of that
  have HBk : Hid (∀ v1 fs1 w2, LogAt b.B b.g (dp + 1) v1 (fs ++ fs1) w2 → fs1.length ≤ 1 → HeapI b (s.letGo i ((b.f + i : Nat) : Int)) w2 → Calls Try.prog 97 #[.pointer (some ⟨b.g, 0, none⟩), .func (.func 107) #[] #[.pointer (some ⟨w.heap.size, 0, none⟩), .pointer (some ⟨w.heap.size + 1, 0, none⟩)]] w2 fun e w' => e = .returned (.tuple #[]) ∧ ∃ v', LogAt b.B b.g (dp + 1) v' (fs ++ fs1 ++ [stepLet w.heap.size (w.heap.size + 1)]) w' ∧ Grew (fun k => k = b.g ∨ v1.ownBlock = some k) w2 w' ∧ (∀ o, ¬ o = 1 → w'.cell? ⟨b.g, o, none⟩ = w2.cell? ⟨b.g, o, none⟩) ∧ (∀ o, w'.frozen? ⟨b.g, o, none⟩ = w2.frozen? ⟨b.g, o, none⟩)) := Lib.hid fun v1 fs1 w2 l2 n1 i2 => back_some b.B b.g dp v1 (fs ++ fs1) (stepLet w.heap.size (w.heap.size + 1)) w2 l2 (by rw [List.length_append]; omega) i2.sz
  have HN3 : Hid (∀ w1 w2 w3 v1 fs1 v3, Did b.B b.g dp b.S0 (HeapI b) fs 1 s { s with R := upF s.R ((b.f + i : Nat) : Int) none } W.drew w1 → LogAt b.B b.g (dp + 1) v1 (fs ++ fs1) w1 → fs1.length ≤ 1 → Path b.B b.g b.S0 (HeapI b) fs1 s { s with R := upF s.R ((b.f + i : Nat) : Int) none } w1 → Grew (fun q => q = b.q) w1 w2 → LogAt b.B b.g (dp + 1) v1 (fs ++ fs1) w2 → Let3 b w.heap.size (w.heap.size + 1) ((b.f + i : Nat) : Int) (s.letGo i ((b.f + i : Nat) : Int)) w2 → LogAt b.B b.g (dp + 1) v3 (fs ++ fs1 ++ [stepLet w.heap.size (w.heap.size + 1)]) w3 → Grew (fun k => k = b.g ∨ v1.ownBlock = some k) w2 w3 → (∀ o, ¬ o = 1 → w3.cell? ⟨b.g, o, none⟩ = w2.cell? ⟨b.g, o, none⟩) → (∀ o, w3.frozen? ⟨b.g, o, none⟩ = w2.frozen? ⟨b.g, o, none⟩) → Did b.B b.g dp b.S0 (HeapI b) fs 2 s (s.letGo i ((b.f + i : Nat) : Int)) w w3 ∧ Boxes2 b w.heap.size (w.heap.size + 1) ((b.f + i : Nat) : Int) w3) := Lib.hid fun w1 w2 w3 v1 fs1 v3 hd l1 n1' p1 g12 l2 t2 l3 g3 k1 k2 => by
    obtain ⟨i3, m3⟩ := backed ok t2.st l2 g3 k1 k2
    have b3 := t2.two.kept ⟨n0, n1⟩ (Kept.of m3)
    have m12 : Grew (Mut b.B b.S0 w1) w1 w2 := g12.mono fun q _ e => Or.inl ⟨3, by decide, e⟩
    have m13 := m12.thenMut m3
    have hG := goodLet b ok (s.letGo i ((b.f + i : Nat) : Int)) { s with R := upF s.R ((b.f + i : Nat) : Int) none } i hi (by show upd s.S i 2 i = 2; exact if_pos rfl) _ _ w3 b3 ⟨n0, n1⟩ (by
      show HS.mk (upd (upd s.S i 2) i 1) (upF s.R ((b.f + i : Nat) : Int) none) s.Y s.G s.K = HS.mk s.S (upF s.R ((b.f + i : Nat) : Int) none) s.Y s.G s.K
      have := upd_back s.S i 2
      rw [hs] at this
      rw [this])
    have hd' := hd.fromDrew
    refine ⟨⟨⟨v3, fs1 ++ [stepLet w.heap.size (w.heap.size + 1)], by rw [← List.append_assoc]; exact l3, by rw [List.length_append]; show _ + 1 ≤ 2; omega, (p1.later (Kept.of m13)).snoc hG⟩, i3, ((hF.grew.mono fun _ _ e => e.elim).thenMut hd'.grew).thenMut m13⟩, b3⟩
  have HLk : Hid (∀ w3, HeapI b (s.letGo i ((b.f + i : Nat) : Int)) w3 → (Instr.lookup 83 (.map (some b.yb)) (.int .i64 ((b.f + i : Nat) : Int)) true).run Try.prog w3 = .ok (.tuple #[.agg #[], .bool false]) w3) := Lib.hid fun w3 h3 => by
    have := h3.yg.look tblIU_fine _ (b.wf ok hi)
    have e : (s.letGo i ((b.f + i : Nat) : Int)).Y ((b.f + i : Nat) : Int) = none := hy
    rw [e] at this
    exact this
  have d1 : W.drew.cell? ⟨w.heap.size, 0, none⟩ = some (.pointer (some ⟨b.hb, 0, none⟩)) := hF.d1
  have d2 : W.drew.cell? ⟨w.heap.size + 1, 0, none⟩ = some (.int .i64 ((b.f + i : Nat) : Int)) := hF.d2
  have c1 := hI.drew.c1
  have c3 := hI.drew.c3
  have HT : Hid (∀ B dp v fs w1 w2 sx, HeapI b sx w1 → LogAt B b.g dp v fs w1 → Grew (fun q => q = b.q) w1 w2 → LogAt B b.g dp v fs w2) := Lib.hid fun B dp v fs w1 w2 sx h1 l1 g1 => l1.turned ok h1 g1
  clear hF hI hL n0 n1 h hl hf hi hs hy
  generalize ((b.f + i : Nat) : Int) = T at *
  go_enter Try.func70, Try.ntmps70
  go_upto_region 1 with fail
  refine wp_region_still_tail 9 (by kernel_rfl) (by kernel_rfl) ?_
  change wpStill _ _ (W.drew) (fun a' => wpList _ _ _ _ a' (W.drew)) _ _
  simp only [List.take_succ_cons, List.take_zero, List.drop_succ_cons, List.drop_zero]
  repeat still_step
  refine wpStill_nil ?_
  go_wp2_with fail
  refine HD.out.mono ?_
  rintro e w1 ⟨rfl, hd⟩
  obtain ⟨t1, m1⟩ := HN1.out w1 hd
  obtain ⟨v1, fs1, l1, n1, p1⟩ := hd.log
  have HLx := Lib.hid (HLa.out w1 t1.st)
  have HT1 := Lib.hid t1
  have HDx := Lib.hid hd
  have HL1 := Lib.hid l1
  have HP1 := Lib.hid p1
  have d1 := t1.two.cells.1
  have d2 := t1.two.cells.2
  have d3 : w1.drew.cell? ⟨w.heap.size, 0, none⟩ = some (.pointer (some ⟨b.hb, 0, none⟩)) := d1
  have d4 : w1.drew.cell? ⟨w.heap.size + 1, 0, none⟩ = some (.int .i64 T) := d2
  have c2 := t1.st.drew.c2
  clear hd m1 l1 p1 t1 HD HN1 HLa c1 c3 d1 d2
  go_upto_region 2 with fail
  refine wp_region_still_tail 5 (by kernel_rfl) (by kernel_rfl) ?_
  change wpStill _ _ (w1.drew) (fun a' => wpList _ _ _ _ a' (w1.drew)) _ _
  simp only [List.take_succ_cons, List.take_zero, List.drop_succ_cons, List.drop_zero]
  repeat still_step
  refine wpStill_nil ?_
  go_wp2_with fail
  refine HLx.out.mono ?_
  rintro e w2 ⟨r, rfl, ht⟩
  obtain ⟨t2, g12⟩ := HN2.out w1 w2 r HT1.out ht
  have l2 := HT.out _ _ _ _ _ _ _ HT1.out.st HL1.out g12
  have HBx := Lib.hid (HBk.out v1 fs1 w2 l2 n1 t2.st)
  have HT2 := Lib.hid t2
  have HL2 := Lib.hid l2
  have HG2 := Lib.hid g12
  have d1 := t2.two.cells.1
  have d2 := t2.two.cells.2
  have c1 := t2.st.c1
  clear ht t2 g12 l2 d3 d4 c2 HN2 HLx HBk HT
  go_wp2_with fail
  refine HBx.out.mono ?_
  rintro e w3 ⟨rfl, v3, l3, g3, k1, k2⟩
  obtain ⟨hd3, b3⟩ := HN3.out w1 w2 w3 v1 fs1 v3 HDx.out HL1.out n1 HP1.out HG2.out HL2.out HT2.out l3 g3 k1 k2
  have HD3 := Lib.hid ((hd3.alloc (.cells #[] 95)).drew)
  have i4 := HD3.out.st
  have b4 := b3.alloc (.cells #[] 95)
  have hlk := HLk.out _ i4
  have d3 : (w3.alloc (.cells #[] 95)).drew.cell? ⟨w.heap.size, 0, none⟩ = some (.pointer (some ⟨b.hb, 0, none⟩)) := b4.cells.1
  have d4 : (w3.alloc (.cells #[] 95)).drew.cell? ⟨w.heap.size + 1, 0, none⟩ = some (.int .i64 T) := b4.cells.2
  have c4 := i4.c4
  have i5 := hd3.st.drew
  have c5 := i5.c4
  have hlk5 := HLk.out _ i5
  have d5 : w3.drew.cell? ⟨w.heap.size, 0, none⟩ = some (.pointer (some ⟨b.hb, 0, none⟩)) := b3.cells.1
  have d6 : w3.drew.cell? ⟨w.heap.size + 1, 0, none⟩ = some (.int .i64 T) := b3.cells.2
  clear i5 l3 g3 k1 k2 hd3 b3 b4 i4 d1 d2 c1 HN3 HBx HT2 HL2 HG2 HDx HL1 HP1 HT1 HLk n1
  go_upto_region 4 with fail
  go_region
  all_goals go_wp2_with fail
  all_goals go_end0
  all_goals exact ⟨rfl, HD3.out⟩
end Go.Proofs.Ytjjmapmombhmlaa
