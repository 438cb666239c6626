/-
  A heap within a Try: letGo of a young one: contract.
-/
import Derived.Test.YtjjmapmombhmlaaHeapSetG
import Derived.Deep.RegionLawGrows
import Derived.Deep.RegionHeld3
namespace Go.Proofs.Ytjjmapmombhmlaa
open Go.RowKit Go.Maps Go.ChangeMaps Go.WideShapes

def HS.letYoung (s : HS) (i : Nat) (T : Int) (x : Nat) : HS := { s with S := upd s.S i 2, R := upF s.R T none, Y := upF s.Y T none, G := s.G ++ [x] }
theorem own_low {w : World} {B B' n : Nat} {e : TypeId} {v : Value} {xs : List Value} (h : w.ownsRow B' e 1 v n xs) (hb : B ≤ B') : w.ownsRow B e 1 v n xs := ⟨h.1, h.2.imp id fun ⟨g, cap, cur, h1, h2, h3⟩ => ⟨g, cap, cur, h1, Nat.le_trans hb h2, h3⟩⟩
theorem dropY (b : HB) (ok : b.ok) (s : HS) (i : Nat) (hi : i < b.n) (dp : Nat) (v : Value) (fs : List Step) (w : World) (hf : fs.length < 100000) (h : HeapI b s w) (hl : LogAt b.B b.g (dp + 1) v fs w) : Calls Try.prog 108 #[.pointer (some ⟨b.g, 0, none⟩), .map (some b.yb), .int .i64 ((b.f + i : Nat) : Int)] w fun e w' => e = .returned (.tuple #[]) ∧ Did b.B b.g dp b.S0 (HeapI b) fs 1 s { s with Y := upF s.Y ((b.f + i : Nat) : Int) none } w w' :=
  dropIU (heapLogged ok) (youngAcc ok) (b.few ok) b.B dp v fs s _ w hl hf h.sz h (b.wf ok hi) (heapLog ok hl h)
set_option maxRecDepth 100000 in
set_option maxHeartbeats 1000000 in
/-- a young sector is let go: in a Try -/
theorem letGo1_young (b : HB) (ok : b.ok) (s : HS) (i : Nat) (hi : i < b.n) (hs : s.S i = 1) (hy : s.Y ((b.f + i : Nat) : Int) = some ()) (hgl : s.G.length < 90000) (dp : Nat) (v : Value) (fs : List Step) (w : World) (hf : fs.length < 90000) (h : HeapI b s w) (hl : LogAt b.B b.g (dp + 1) v fs w) : Calls Try.prog 70 #[.pointer (some ⟨b.hb, 0, none⟩), .int .i64 ((b.f + i : Nat) : Int)] w fun e w' => e = .returned (.tuple #[]) ∧ Did b.B b.g dp b.S0 (HeapI b) fs 4 s (s.letYoung i ((b.f + i : Nat) : Int) (b.f + i)) w w' := by
  have hmf : ∀ (fn : Fn) (first cap : Array Value) (w : World), (Instr.makeFunc fn first cap).run Try.prog w = .ok (.func fn first cap) w := fun _ _ _ _ => rfl
  obtain ⟨W, hW⟩ : ∃ W, (w.alloc (.cells #[.pointer (some ⟨b.hb, 0, none⟩)] 43)).alloc (.cells #[.int .i64 ((b.f + i : Nat) : Int)] 3) = W := ⟨_, rfl⟩
  have hF : Front b ((b.f + i : Nat) : Int) w W := hW ▸ front b _ w
  have hI : HeapI b s W := by rw [← hW]; exact (h.alloc _).alloc _
  have hL : LogAt b.B b.g (dp + 1) v fs W := hl.keep hF.grew (fun e => e) fun _ _ e => e
  have n0 := HB.not0 ok h.sz (Nat.le_refl w.heap.size)
  have n1 := HB.not0 ok h.sz (Nat.le_succ w.heap.size)
  have HD := Lib.hid (dropR b ok s i hi dp v fs W.drew (by omega) hI.drew hL.drew')
  -- behind the drop
  have HN1 : Hid (∀ w1, Did b.B b.g dp b.S0 (HeapI b) fs 1 s { s with R := upF s.R ((b.f + i : Nat) : Int) none } W.drew w1 → Let3 b w.heap.size (w.heap.size + 1) ((b.f + i : Nat) : Int) { s with R := upF s.R ((b.f + i : Nat) : Int) none } w1 ∧ Grew (Mut b.B b.S0 w) w w1) := Lib.hid fun w1 hd =>
    ⟨⟨hd.st, hF.two.kept ⟨n0, n1⟩ (Kept.of hd.fromDrew.grew)⟩, (hF.grew.mono fun _ _ e => e.elim).thenMut hd.fromDrew.grew⟩
  -- Later
  have HLa : Hid (∀ w1, HeapI b { s with R := upF s.R ((b.f + i : Nat) : Int) none } w1 → Calls Try.prog 106 #[.pointer (some ⟨b.m, 0, none⟩), .int .i64 ((b.f + i : Nat) : Int)] w1.drew fun e w' => ∃ r, e = .returned (.bool r) ∧ Turned b.m b.q b.f b.n s.S i 1 2 w1.drew r w') := Lib.hid fun w1 h1 => later_any b.m b.q b.f b.n s.S i w1.drew h1.drew.gr (Nat.le_trans ok.f (by decide)) (Nat.le_trans ok.n (by decide)) hi
  have HN2 : Hid (∀ w1 w2 r, Let3 b w.heap.size (w.heap.size + 1) ((b.f + i : Nat) : Int) { s with R := upF s.R ((b.f + i : Nat) : Int) none } w1 → Turned b.m b.q b.f b.n s.S i 1 2 w1.drew r w2 → Let3 b w.heap.size (w.heap.size + 1) ((b.f + i : Nat) : Int) (s.letGo i ((b.f + i : Nat) : Int)) w2 ∧ Grew (fun q => q = b.q) w1 w2) := Lib.hid fun w1 w2 r h1 ht => by
    have hg : Grew (fun q => q = b.q) w1 w2 := ((Grew.refl w1).drew).trans ht.2
    have hg' : Grew (Mut b.B b.S0 w1) w1 w2 := hg.mono fun q _ e => Or.inl ⟨3, by decide, e⟩
    exact ⟨⟨(h1.st.drew.turn ok (s := { s with R := upF s.R ((b.f + i : Nat) : Int) none }) hs ht).2, h1.two.kept ⟨n0, n1⟩ (Kept.of hg')⟩, hg⟩
  -- the step back of that
  have HBk : Hid (∀ v1 fs1 w2, LogAt b.B b.g (dp + 1) v1 (fs ++ fs1) w2 → fs1.length ≤ 1 → HeapI b (s.letGo i ((b.f + i : Nat) : Int)) w2 → Calls Try.prog 97 #[.pointer (some ⟨b.g, 0, none⟩), .func (.func 107) #[] #[.pointer (some ⟨w.heap.size, 0, none⟩), .pointer (some ⟨w.heap.size + 1, 0, none⟩)]] w2 fun e w' => e = .returned (.tuple #[]) ∧ ∃ v', LogAt b.B b.g (dp + 1) v' (fs ++ fs1 ++ [stepLet w.heap.size (w.heap.size + 1)]) w' ∧ Grew (fun k => k = b.g ∨ v1.ownBlock = some k) w2 w' ∧ (∀ o, ¬ o = 1 → w'.cell? ⟨b.g, o, none⟩ = w2.cell? ⟨b.g, o, none⟩) ∧ (∀ o, w'.frozen? ⟨b.g, o, none⟩ = w2.frozen? ⟨b.g, o, none⟩)) := Lib.hid fun v1 fs1 w2 l2 n1 i2 => back_some b.B b.g dp v1 (fs ++ fs1) (stepLet w.heap.size (w.heap.size + 1)) w2 l2 (by rw [List.length_append]; omega) i2.sz
  have HN3 : Hid (∀ w1 w2 w3 v1 fs1 v3, Did b.B b.g dp b.S0 (HeapI b) fs 1 s { s with R := upF s.R ((b.f + i : Nat) : Int) none } W.drew w1 → LogAt b.B b.g (dp + 1) v1 (fs ++ fs1) w1 → fs1.length ≤ 1 → Path b.B b.g b.S0 (HeapI b) fs1 s { s with R := upF s.R ((b.f + i : Nat) : Int) none } w1 → Grew (fun q => q = b.q) w1 w2 → LogAt b.B b.g (dp + 1) v1 (fs ++ fs1) w2 → Let3 b w.heap.size (w.heap.size + 1) ((b.f + i : Nat) : Int) (s.letGo i ((b.f + i : Nat) : Int)) w2 → LogAt b.B b.g (dp + 1) v3 (fs ++ fs1 ++ [stepLet w.heap.size (w.heap.size + 1)]) w3 → Grew (fun k => k = b.g ∨ v1.ownBlock = some k) w2 w3 → (∀ o, ¬ o = 1 → w3.cell? ⟨b.g, o, none⟩ = w2.cell? ⟨b.g, o, none⟩) → (∀ o, w3.frozen? ⟨b.g, o, none⟩ = w2.frozen? ⟨b.g, o, none⟩) → Did b.B b.g dp b.S0 (HeapI b) fs 2 s (s.letGo i ((b.f + i : Nat) : Int)) w w3 ∧ Boxes2 b w.heap.size (w.heap.size + 1) ((b.f + i : Nat) : Int) w3) := Lib.hid fun w1 w2 w3 v1 fs1 v3 hd l1 n1' p1 g12 l2 t2 l3 g3 k1 k2 => by
    obtain ⟨i3, m3⟩ := backed ok t2.st l2 g3 k1 k2
    have b3 := t2.two.kept ⟨n0, n1⟩ (Kept.of m3)
    have m12 : Grew (Mut b.B b.S0 w1) w1 w2 := g12.mono fun q _ e => Or.inl ⟨3, by decide, e⟩
    have m13 := m12.thenMut m3
    have hG := goodLet b ok (s.letGo i ((b.f + i : Nat) : Int)) { s with R := upF s.R ((b.f + i : Nat) : Int) none } i hi (by show upd s.S i 2 i = 2; exact if_pos rfl) _ _ w3 b3 ⟨n0, n1⟩ (by
      show HS.mk (upd (upd s.S i 2) i 1) (upF s.R ((b.f + i : Nat) : Int) none) s.Y s.G s.K = HS.mk s.S (upF s.R ((b.f + i : Nat) : Int) none) s.Y s.G s.K
      have := upd_back s.S i 2
      rw [hs] at this
      rw [this])
    have hd' := hd.fromDrew
    refine ⟨⟨⟨v3, fs1 ++ [stepLet w.heap.size (w.heap.size + 1)], by rw [← List.append_assoc]; exact l3, by rw [List.length_append]; show _ + 1 ≤ 2; omega, (p1.later (Kept.of m13)).snoc hG⟩, i3, ((hF.grew.mono fun _ _ e => e.elim).thenMut hd'.grew).thenMut m13⟩, b3⟩
  have HLk : Hid (∀ w3, HeapI b (s.letGo i ((b.f + i : Nat) : Int)) w3 → (Instr.lookup 83 (.map (some b.yb)) (.int .i64 ((b.f + i : Nat) : Int)) true).run Try.prog w3 = .ok (.tuple #[.agg #[], .bool true]) w3) := Lib.hid fun w3 h3 => by
    have := h3.yg.look tblIU_fine _ (b.wf ok hi)
    have e : (s.letGo i ((b.f + i : Nat) : Int)).Y ((b.f + i : Nat) : Int) = some () := hy
    rw [e] at this
    exact this
  have d1 : W.drew.cell? ⟨w.heap.size, 0, none⟩ = some (.pointer (some ⟨b.hb, 0, none⟩)) := hF.d1
  have d2 : W.drew.cell? ⟨w.heap.size + 1, 0, none⟩ = some (.int .i64 ((b.f + i : Nat) : Int)) := hF.d2
  have c1 := hI.drew.c1
  have c3 := hI.drew.c3
  have HT : Hid (∀ B dp v fs w1 w2 sx, HeapI b sx w1 → LogAt B b.g dp v fs w1 → Grew (fun q => q = b.q) w1 w2 → LogAt B b.g dp v fs w2) := Lib.hid fun B dp v fs w1 w2 sx h1 l1 g1 => l1.turned ok h1 g1
  have HDY : Hid (∀ w4 v4 fs4, LogAt b.B b.g (dp + 1) v4 (fs ++ fs4) w4 → fs4.length ≤ 2 → HeapI b (s.letGo i ((b.f + i : Nat) : Int)) w4 → Calls Try.prog 108 #[.pointer (some ⟨b.g, 0, none⟩), .map (some b.yb), .int .i64 ((b.f + i : Nat) : Int)] w4 fun e w' => e = .returned (.tuple #[]) ∧ Did b.B b.g dp b.S0 (HeapI b) (fs ++ fs4) 1 (s.letGo i ((b.f + i : Nat) : Int)) { s.letGo i ((b.f + i : Nat) : Int) with Y := upF s.Y ((b.f + i : Nat) : Int) none } w4 w') := Lib.hid fun w4 v4 fs4 l4 n4 i4 => dropY b ok (s.letGo i ((b.f + i : Nat) : Int)) i hi dp v4 _ w4 (by rw [List.length_append]; omega) i4 l4
  have HSG : Hid (∀ w5 v5 fs5 u, LogAt b.B b.g (dp + 1) v5 (fs ++ fs5) w5 → fs5.length ≤ 3 → HeapI b { s.letGo i ((b.f + i : Nat) : Int) with Y := upF s.Y ((b.f + i : Nat) : Int) none } w5 → w5.ownsRow b.B 3 1 u (s.G ++ [b.f + i]).length (intsG (s.G ++ [b.f + i])) → Calls Try.prog 109 #[.pointer (some ⟨b.g, 0, none⟩), .pointer (some ⟨b.hb, 5, none⟩), u] w5 fun e w' => e = .returned (.tuple #[]) ∧ Did b.B b.g dp b.S0 (HeapI b) (fs ++ fs5) 1 { s.letGo i ((b.f + i : Nat) : Int) with Y := upF s.Y ((b.f + i : Nat) : Int) none } (s.letYoung i ((b.f + i : Nat) : Int) (b.f + i)) w5 w') := Lib.hid fun w5 v5 fs5 u l5 n5 i5 hu => setG_any b ok { s.letGo i ((b.f + i : Nat) : Int) with Y := upF s.Y ((b.f + i : Nat) : Int) none } (s.G ++ [b.f + i]) u dp v5 _ w5 (by rw [List.length_append]; omega) i5 l5 hu (by simp)
  have HNb : Hid (¬ b.S0 w.heap.size ∧ ¬ b.S0 (w.heap.size + 1)) := Lib.hid ⟨n0, n1⟩
  clear hF hI hL n0 n1 h hl hf hi hs hy
  generalize hTe : ((b.f + i : Nat) : Int) = T at *
  obtain ⟨i0, hi0, hz0, hz1, hz2⟩ := info_parts' infoInt
  have HI0 := Lib.hid hi0
  have HI1 := Lib.hid hz0
  have HI2 := Lib.hid hz1
  have HI3 := Lib.hid hz2
  clear hi0 hz0 hz1 hz2
  go_enter Try.func70, Try.ntmps70
  go_upto_region 1 with fail
  refine wp_region_still_tail 9 (by kernel_rfl) (by kernel_rfl) ?_
  change wpStill _ _ (W.drew) (fun a' => wpList _ _ _ _ a' (W.drew)) _ _
  simp only [List.take_succ_cons, List.take_zero, List.drop_succ_cons, List.drop_zero]
  repeat still_step
  refine wpStill_nil ?_
  go_wp2_with fail
  refine HD.out.mono ?_
  rintro e w1 ⟨rfl, hd⟩
  obtain ⟨t1, m1⟩ := HN1.out w1 hd
  obtain ⟨v1, fs1, l1, n1, p1⟩ := hd.log
  have HLx := Lib.hid (HLa.out w1 t1.st)
  have HT1 := Lib.hid t1
  have HDx := Lib.hid hd
  have HL1 := Lib.hid l1
  have HP1 := Lib.hid p1
  have d1 := t1.two.cells.1
  have d2 := t1.two.cells.2
  have d3 : w1.drew.cell? ⟨w.heap.size, 0, none⟩ = some (.pointer (some ⟨b.hb, 0, none⟩)) := d1
  have d4 : w1.drew.cell? ⟨w.heap.size + 1, 0, none⟩ = some (.int .i64 T) := d2
  have c2 := t1.st.drew.c2
  clear hd m1 l1 p1 t1 HD HN1 HLa c1 c3 d1 d2
  go_upto_region 2 with fail
  refine wp_region_still_tail 5 (by kernel_rfl) (by kernel_rfl) ?_
  change wpStill _ _ (w1.drew) (fun a' => wpList _ _ _ _ a' (w1.drew)) _ _
  simp only [List.take_succ_cons, List.take_zero, List.drop_succ_cons, List.drop_zero]
  repeat still_step
  refine wpStill_nil ?_
  go_wp2_with fail
  refine HLx.out.mono ?_
  rintro e w2 ⟨r, rfl, ht⟩
  obtain ⟨t2, g12⟩ := HN2.out w1 w2 r HT1.out ht
  have l2 := HT.out _ _ _ _ _ _ _ HT1.out.st HL1.out g12
  have HBx := Lib.hid (HBk.out v1 fs1 w2 l2 n1 t2.st)
  have HT2 := Lib.hid t2
  have HL2 := Lib.hid l2
  have HG2 := Lib.hid g12
  have d1 := t2.two.cells.1
  have d2 := t2.two.cells.2
  have c1 := t2.st.c1
  clear ht t2 g12 l2 d3 d4 c2 HN2 HLx HBk HT
  go_wp2_with fail
  refine HBx.out.mono ?_
  rintro e w3 ⟨rfl, v3, l3, g3, k1, k2⟩
  obtain ⟨hd3, b3⟩ := HN3.out w1 w2 w3 v1 fs1 v3 HDx.out HL1.out n1 HP1.out HG2.out HL2.out HT2.out l3 g3 k1 k2
  have HD3 := Lib.hid ((hd3.alloc (.cells #[] 95)).drew)
  have i4 := HD3.out.st
  have b4 := b3.alloc (.cells #[] 95)
  have hlk := HLk.out _ i4
  have d3 : (w3.alloc (.cells #[] 95)).drew.cell? ⟨w.heap.size, 0, none⟩ = some (.pointer (some ⟨b.hb, 0, none⟩)) := b4.cells.1
  have d4 : (w3.alloc (.cells #[] 95)).drew.cell? ⟨w.heap.size + 1, 0, none⟩ = some (.int .i64 T) := b4.cells.2
  have HB4 : Hid (Boxes2 b w.heap.size (w.heap.size + 1) T (w3.alloc (.cells #[] 95)).drew) := Lib.hid ⟨b4.bx, b4.by'⟩
  have c4 := i4.c4
  have i5 := hd3.st.drew
  have c5 := i5.c4
  have hlk5 := HLk.out _ i5
  have d5 : w3.drew.cell? ⟨w.heap.size, 0, none⟩ = some (.pointer (some ⟨b.hb, 0, none⟩)) := b3.cells.1
  have d6 : w3.drew.cell? ⟨w.heap.size + 1, 0, none⟩ = some (.int .i64 T) := b3.cells.2
  clear i5 l3 g3 k1 k2 hd3 b3 b4 i4 d1 d2 c1 HN3 HBx HT2 HL2 HG2 HDx HL1 HP1 HT1 HLk n1
  go_upto_region 4 with fail
  go_region
  all_goals generalize (w3.alloc (.cells #[] 95)).drew = w4 at *
  all_goals (
    have D4 := HD3.out
    obtain ⟨⟨v4, fs4, l4, n4, p4⟩, i4, g4⟩ := D4
    have HDr := Lib.hid (HDY.out w4.drew v4 fs4 l4.drew' n4 i4.drew)
    have HCh : Hid (∀ w5, Did b.B b.g dp b.S0 (HeapI b) (fs ++ fs4) 1 (s.letGo i T) { s.letGo i T with Y := upF s.Y T none } w4.drew w5 → Did b.B b.g dp b.S0 (HeapI b) fs 3 s { s.letGo i T with Y := upF s.Y T none } w w5 ∧ Boxes2 b w.heap.size (w.heap.size + 1) T w5) := Lib.hid fun w5 k => ⟨Did.chain l4 n4 p4 g4 k.fromDrew, HB4.out.kept HNb.out (Kept.of k.fromDrew.grew)⟩
    have e1 : w4.drew.cell? ⟨w.heap.size, 0, none⟩ = some (.pointer (some ⟨b.hb, 0, none⟩)) := HB4.out.cells.1
    have e2 : w4.drew.cell? ⟨w.heap.size + 1, 0, none⟩ = some (.int .i64 T) := HB4.out.cells.2
    have e3 := i4.drew.c1
    have e4 := i4.drew.c4
    clear l4 n4 p4 i4 g4 d3 d4 d5 d6 c4 c5 hlk hlk5
    go_upto_region 6 with fail
    refine wp_region_still_tail 9 (by kernel_rfl) (by kernel_rfl) ?_
    change wpStill _ _ (w4.drew) (fun a' => wpList _ _ _ _ a' (w4.drew)) _ _
    simp only [List.take_succ_cons, List.take_zero, List.drop_succ_cons, List.drop_zero]
    repeat still_step
    refine wpStill_nil ?_
    go_wp2_with fail
    refine HDr.out.mono ?_
    rintro e w5 ⟨rfl, hd⟩
    obtain ⟨hd5, b5⟩ := HCh.out w5 hd
    have HD5 := Lib.hid hd5
    have HB5 := Lib.hid b5
    clear hd hd5 b5 HDr HCh e1 e2 e3 e4
    have D5 := HD5.out
    obtain ⟨⟨v5, fs5, l5, n5, p5⟩, i5, g5⟩ := D5
    have HI5 := Lib.hid i5
    have hsz5 := i5.sz
    have hlt5 := i5.hlt
    have HSx : Hid (∀ wz, Grew (fun _ => False) w5 wz → wz.cell? ⟨w.heap.size, 0, none⟩ = some (.pointer (some ⟨b.hb, 0, none⟩)) ∧ wz.cell? ⟨w.heap.size + 1, 0, none⟩ = some (.int .i64 T) ∧ wz.cell? ⟨b.hb, 1, none⟩ = some (.pointer (some ⟨b.g, 0, none⟩))) := Lib.hid fun wz k => by
      have kb := HB5.out.kept HNb.out (Kept.of (B := b.B) (k.mono fun _ _ e => e.elim))
      exact ⟨kb.cells.1, kb.cells.2, (i5.keep k (fun _ _ e => e) fun _ _ _ e => e).c1⟩
    have HOwn : Hid (∀ wz u, Grew (fun _ => False) w5 wz → wz.ownsRow b.B 3 1 u (s.G.length + 1) (intsG s.G ++ [.int .i64 T]) → Calls Try.prog 109 #[.pointer (some ⟨b.g, 0, none⟩), .pointer (some ⟨b.hb, 5, none⟩), u] wz fun e w' => e = .returned (.tuple #[]) ∧ Did b.B b.g dp b.S0 (HeapI b) fs 4 s (s.letYoung i T (b.f + i)) w w' ∧ w'.cell? ⟨w.heap.size, 0, none⟩ = some (.pointer (some ⟨b.hb, 0, none⟩)) ∧ w'.cell? ⟨w.heap.size + 1, 0, none⟩ = some (.int .i64 T) ∧ w'.cell? ⟨b.hb, 1, none⟩ = some (.pointer (some ⟨b.g, 0, none⟩))) := Lib.hid fun wz u k hu => by
      have km : Grew (Mut b.B b.S0 w5) w5 wz := k.mono fun _ _ e => e.elim
      have iz := i5.keep k (fun _ _ e => e) fun _ _ _ e => e
      have lz := l5.keep k (fun e => e) fun _ _ e => e
      have bz := HB5.out.kept HNb.out (Kept.of km)
      have hu' : wz.ownsRow b.B 3 1 u (s.G ++ [b.f + i]).length (intsG (s.G ++ [b.f + i])) := by
        have e1 : (s.G ++ [b.f + i]).length = s.G.length + 1 := by simp
        have e2 : intsG (s.G ++ [b.f + i]) = intsG s.G ++ [.int .i64 T] := by rw [← hTe]; simp [intsG]
        rw [e1, e2]
        exact hu
      refine (HSG.out wz v5 fs5 u lz n5 iz hu').mono ?_
      rintro e w7 ⟨rfl, hd⟩
      have b7 := bz.kept HNb.out (Kept.of hd.grew)
      exact ⟨rfl, Did.chain lz n5 (p5.later (Kept.of km)) (g5.thenMut km) hd, b7.cells.1, b7.cells.2, hd.st.c1⟩
    obtain ⟨o, o5, ho⟩ := i5.c5
    have e1 := HB5.out.cells.1
    have e2 := HB5.out.cells.2
    have e3 := i5.c1
    rcases ho.2 with ⟨rfl, h0⟩ | ⟨r, cap, cur, rfl, a1, a2, a3, a4, a5, a6⟩
    · have h0 : s.G.length = 0 := h0
      have hG0 : s.G = [] := List.eq_nil_of_length_eq_zero h0
      rw [h0, hG0] at HOwn
      replace o5 : w5.cell? ⟨b.hb, 5, none⟩ = some (.slice none 0 0) := o5
      have o6 : w5.drew.cell? ⟨b.hb, 5, none⟩ = some (.slice none 0 0) := o5
      have o7 : (w5.drew.alloc (.cells #[.int .i64 T] 3)).cell? ⟨b.hb, 5, none⟩ = some (.slice none 0 0) := ((((Grew.refl (S := fun _ => False) w5).drew).alloc (.cells #[.int .i64 T] 3)).cell (p := ⟨b.hb, 5, none⟩) hlt5 fun e => e).trans o5
      clear l5 n5 p5 i5 g5 HSG ho HB5 HD5 HDY
      go_upto_region 8 with fail
      refine wp_region_held_drew (S := fun wx => wx.cell? ⟨w.heap.size, 0, none⟩ = some (.pointer (some ⟨b.hb, 0, none⟩)) ∧ wx.cell? ⟨w.heap.size + 1, 0, none⟩ = some (.int .i64 T) ∧ wx.cell? ⟨b.hb, 1, none⟩ = some (.pointer (some ⟨b.g, 0, none⟩))) (by kernel_rfl) (HSx.out w5.drew ((Grew.refl w5).drew)) (fun hHeld => ?_)
      refine wpAnyH_take (i := 0) (oi := { dst := some 54, op := Op.load 43 (Operand.tmp 2), type := 43, pos := "heap.go:122", after := #[], guard := none }) (v := ?_) rfl (by kernel_rfl) (by kernel_rfl) (by kernel_rfl) (fun _ _ _ h => h) (Or.inl ⟨by rfl, ?_⟩) (by assumption) ?_
      rotate_left
      · (intro wz hSw; (obtain ⟨hS1, hS2, hS3⟩ := hSw); go_simp; try with_reducible rfl)
      try simp only [Act.put, List.setIfInBounds_toArray, List.set_cons_zero, List.set_cons_succ]
      refine wpAnyH_take (i := 1) (oi := { dst := some 55, op := Op.nilCheck (Operand.tmp 54), type := 0, pos := "heap.go:122", after := #[{ on := 0, ground := Ground.data }], guard := none }) (v := ?_) rfl (by kernel_rfl) (by kernel_rfl) (by kernel_rfl) (fun _ _ _ h => h) (Or.inl ⟨by rfl, ?_⟩) (by assumption) ?_
      rotate_left
      · (intro wz hSw; (obtain ⟨hS1, hS2, hS3⟩ := hSw); go_simp; try with_reducible rfl)
      try simp only [Act.put, List.setIfInBounds_toArray, List.set_cons_zero, List.set_cons_succ]
      refine wpAnyH_take (i := 2) (oi := { dst := some 56, op := Op.fieldAddr 85 (Operand.tmp 55) 1, type := 0, pos := "heap.go:122", after := #[{ on := 1, ground := Ground.data }], guard := none }) (v := ?_) rfl (by kernel_rfl) (by kernel_rfl) (by kernel_rfl) (fun _ _ _ h => h) (Or.inl ⟨by rfl, ?_⟩) (by assumption) ?_
      rotate_left
      · (intro wz hSw; (obtain ⟨hS1, hS2, hS3⟩ := hSw); go_simp; try with_reducible rfl)
      try simp only [Act.put, List.setIfInBounds_toArray, List.set_cons_zero, List.set_cons_succ]
      refine wpAnyH_take (i := 3) (oi := { dst := some 57, op := Op.load 74 (Operand.tmp 56), type := 74, pos := "heap.go:122", after := #[{ on := 2, ground := Ground.data }], guard := none }) (v := ?_) rfl (by kernel_rfl) (by kernel_rfl) (by kernel_rfl) (fun _ _ _ h => h) (Or.inl ⟨by rfl, ?_⟩) (by assumption) ?_
      rotate_left
      · (intro wz hSw; (obtain ⟨hS1, hS2, hS3⟩ := hSw); go_simp; try with_reducible rfl)
      try simp only [Act.put, List.setIfInBounds_toArray, List.set_cons_zero, List.set_cons_succ]
      refine wpAnyH_take (i := 4) (oi := { dst := some 58, op := Op.load 43 (Operand.tmp 2), type := 43, pos := "heap.go:122", after := #[], guard := none }) (v := ?_) rfl (by kernel_rfl) (by kernel_rfl) (by kernel_rfl) (fun _ _ _ h => h) (Or.inl ⟨by rfl, ?_⟩) (by assumption) ?_
      rotate_left
      · (intro wz hSw; (obtain ⟨hS1, hS2, hS3⟩ := hSw); go_simp; try with_reducible rfl)
      try simp only [Act.put, List.setIfInBounds_toArray, List.set_cons_zero, List.set_cons_succ]
      refine wpAnyH_take (i := 5) (oi := { dst := some 59, op := Op.nilCheck (Operand.tmp 58), type := 0, pos := "heap.go:122", after := #[{ on := 4, ground := Ground.data }], guard := none }) (v := ?_) rfl (by kernel_rfl) (by kernel_rfl) (by kernel_rfl) (fun _ _ _ h => h) (Or.inl ⟨by rfl, ?_⟩) (by assumption) ?_
      rotate_left
      · (intro wz hSw; (obtain ⟨hS1, hS2, hS3⟩ := hSw); go_simp; try with_reducible rfl)
      try simp only [Act.put, List.setIfInBounds_toArray, List.set_cons_zero, List.set_cons_succ]
      refine wpAnyH_take (i := 6) (oi := { dst := some 60, op := Op.fieldAddr 85 (Operand.tmp 59) 5, type := 0, pos := "heap.go:122", after := #[{ on := 5, ground := Ground.data }], guard := none }) (v := ?_) rfl (by kernel_rfl) (by kernel_rfl) (by kernel_rfl) (fun _ _ _ h => h) (Or.inl ⟨by rfl, ?_⟩) (by assumption) ?_
      rotate_left
      · (intro wz hSw; (obtain ⟨hS1, hS2, hS3⟩ := hSw); go_simp; try with_reducible rfl)
      try simp only [Act.put, List.setIfInBounds_toArray, List.set_cons_zero, List.set_cons_succ]
      refine wpAnyH_take (i := 7) (oi := { dst := some 61, op := Op.load 43 (Operand.tmp 2), type := 43, pos := "heap.go:122", after := #[], guard := none }) (v := ?_) rfl (by kernel_rfl) (by kernel_rfl) (by kernel_rfl) (fun _ _ _ h => h) (Or.inl ⟨by rfl, ?_⟩) (by assumption) ?_
      rotate_left
      · (intro wz hSw; (obtain ⟨hS1, hS2, hS3⟩ := hSw); go_simp; try with_reducible rfl)
      try simp only [Act.put, List.setIfInBounds_toArray, List.set_cons_zero, List.set_cons_succ]
      refine wpAnyH_take (i := 8) (oi := { dst := some 62, op := Op.nilCheck (Operand.tmp 61), type := 0, pos := "heap.go:122", after := #[{ on := 7, ground := Ground.data }], guard := none }) (v := ?_) rfl (by kernel_rfl) (by kernel_rfl) (by kernel_rfl) (fun _ _ _ h => h) (Or.inl ⟨by rfl, ?_⟩) (by assumption) ?_
      rotate_left
      · (intro wz hSw; (obtain ⟨hS1, hS2, hS3⟩ := hSw); go_simp; try with_reducible rfl)
      try simp only [Act.put, List.setIfInBounds_toArray, List.set_cons_zero, List.set_cons_succ]
      refine wpAnyH_take (i := 9) (oi := { dst := some 63, op := Op.fieldAddr 85 (Operand.tmp 62) 5, type := 0, pos := "heap.go:122", after := #[{ on := 8, ground := Ground.data }], guard := none }) (v := ?_) rfl (by kernel_rfl) (by kernel_rfl) (by kernel_rfl) (fun _ _ _ h => h) (Or.inl ⟨by rfl, ?_⟩) (by assumption) ?_
      rotate_left
      · (intro wz hSw; (obtain ⟨hS1, hS2, hS3⟩ := hSw); go_simp; try with_reducible rfl)
      try simp only [Act.put, List.setIfInBounds_toArray, List.set_cons_zero, List.set_cons_succ]
      refine wpAnyH_take (i := 11) (oi := { dst := some 65, op := Op.move (Operand.tmp 6), type := 3, pos := "heap.go:122", after := #[], guard := none }) (v := ?_) rfl (by kernel_rfl) (by kernel_rfl) (by kernel_rfl) (fun _ _ _ h => h) (Or.inl ⟨by rfl, ?_⟩) (by assumption) ?_
      rotate_left
      · (intro wz hSw; (obtain ⟨hS1, hS2, hS3⟩ := hSw); go_simp; try with_reducible rfl)
      try simp only [Act.put, List.setIfInBounds_toArray, List.set_cons_zero, List.set_cons_succ]
      refine wpAnyH_take (i := 12) (oi := { dst := some 66, op := Op.move (Operand.tmp 6), type := 3, pos := "heap.go:122", after := #[], guard := none }) (v := ?_) rfl (by kernel_rfl) (by kernel_rfl) (by kernel_rfl) (fun _ _ _ h => h) (Or.inl ⟨by rfl, ?_⟩) (by assumption) ?_
      rotate_left
      · (intro wz hSw; (obtain ⟨hS1, hS2, hS3⟩ := hSw); go_simp; try with_reducible rfl)
      try simp only [Act.put, List.setIfInBounds_toArray, List.set_cons_zero, List.set_cons_succ]
      refine wpAnyH_take (i := 14) (oi := { dst := some 68, op := Op.load 3 (Operand.tmp 3), type := 3, pos := "heap.go:122", after := #[], guard := none }) (v := ?_) rfl (by kernel_rfl) (by kernel_rfl) (by kernel_rfl) (fun _ _ _ h => h) (Or.inl ⟨by rfl, ?_⟩) (by assumption) ?_
      rotate_left
      · (intro wz hSw; (obtain ⟨hS1, hS2, hS3⟩ := hSw); go_simp; try with_reducible rfl)
      try simp only [Act.put, List.setIfInBounds_toArray, List.set_cons_zero, List.set_cons_succ]
      refine wpAnyH_ready (rs := [10, 15]) (by kernel_rfl) (by simp) ?_
      refine AllReadyH.cons (o := { dst := some 64, op := Op.load 40 (Operand.tmp 63), type := 40, pos := "heap.go:122", after := #[{ on := 9, ground := Ground.data }], guard := none }) rfl (fun K hK => ?_) (AllReadyH.cons (o := { dst := some 69, op := Op.buildSlice 40 1 #[(0, Operand.tmp 68)], type := 40, pos := "heap.go:122", after := #[{ on := 14, ground := Ground.data }], guard := none }) rfl (fun K hK => ?_) AllReadyH.nil)
      · go_simp
        try go_wp2_with fail
        refine hK.out _ _ hHeld (fun hHeld => ?_)
        clear hK K
        try simp only [Act.put, List.setIfInBounds_toArray, List.set_cons_zero, List.set_cons_succ]
        refine wpAnyH_take (i := 13) (oi := { dst := some 67, op := Op.slice 40 (Operand.tmp 64) none (some (Operand.tmp 65)) (some (Operand.tmp 66)), type := 40, pos := "heap.go:122", after := #[{ on := 10, ground := Ground.data }, { on := 11, ground := Ground.data }, { on := 12, ground := Ground.data }], guard := none }) (v := ?_) rfl (by kernel_rfl) (by kernel_rfl) (by kernel_rfl) (fun _ _ _ h => h) (Or.inl ⟨by rfl, ?_⟩) (by assumption) ?_
        rotate_left
        · (intro wz hSw; (obtain ⟨hS1, hS2, hS3⟩ := hSw); go_simp; try with_reducible rfl)
        try simp only [Act.put, List.setIfInBounds_toArray, List.set_cons_zero, List.set_cons_succ]
        refine wpAnyH_ready (rs := [15]) (by kernel_rfl) (by simp) ?_
        refine AllReadyH.cons (o := { dst := some 69, op := Op.buildSlice 40 1 #[(0, Operand.tmp 68)], type := 40, pos := "heap.go:122", after := #[{ on := 14, ground := Ground.data }], guard := none }) rfl (fun K hK => ?_) AllReadyH.nil
        go_simp
        try go_wp2_with fail
        refine hK.out _ _ (HSx.out _ (((Grew.refl w5).drew).alloc _)) (fun hHeld => ?_)
        clear hK K
        try simp only [Act.put, List.setIfInBounds_toArray, List.set_cons_zero, List.set_cons_succ]
        refine wpAnyH_ready (rs := [16]) (by kernel_rfl) (by simp) ?_
        refine AllReadyH.cons (o := { dst := some 70, op := Op.call { callee := Callee.builtin Builtin.append, args := #[Operand.tmp 67, Operand.tmp 69], argTypes := #[40, 40] }, type := 40, pos := "heap.go:122", after := #[{ on := 13, ground := Ground.data }, { on := 15, ground := Ground.data }], guard := none }) rfl (fun K hK => ?_) AllReadyH.nil
        refine step_append_grows rfl (.tmp 67) (.tmp 69) 40 rfl 3 i0 (.int .i64 0) 1 8 Try.underlying40 HI0.out HI1.out HI2.out HI3.out rfl (by decide) none 0 0 [] rfl ?_ ?_ ?_ ⟨w5.heap.size, 0, none⟩ 1 1 [.int .i64 T] rfl rfl ?_ ?_ ?_ ?_ ?_ ?_
        · exact fun _ => ⟨rfl, rfl⟩
        · rfl
        · exact fun _ e => nomatch e
        · intro j z hz
          match j, hz with
          | 0, hz => (simp at hz; subst hz; rw [Addr.add_lit]; exact boxNew rfl)
        · (intro z hz; simp at hz; subst hz; rfl)
        · omega
        · (unfold maxLen; omega)
        · omega
        intro u6 w6 hown hgr
        have k6 : Grew (fun _ => False) w5 w6 := (((Grew.refl w5).drew).alloc _).grown hgr fun _ _ e => nomatch e
        have HU6 := Lib.hid (HOwn.out w6 u6 k6 (own_low hown (by show b.B ≤ (w5.drew.alloc _).heap.size; have := hsz5; simp; omega)))
        have hS6 := HSx.out w6 k6
        have HU7 := Lib.hid (HU6.out)
        clear hown hgr k6 HU6
        refine hK.out _ _ hS6 (fun hHeld => ?_)
        clear hK K
        try simp only [Act.put, List.setIfInBounds_toArray, List.set_cons_zero, List.set_cons_succ]
        refine wpAnyH_ready (rs := [17]) (by kernel_rfl) (by simp) ?_
        refine AllReadyH.cons (o := { dst := some 71, op := Op.call { callee := Callee.value (Operand.func 109), args := #[Operand.tmp 57, Operand.tmp 60, Operand.tmp 70], argTypes := #[74, 128, 40] }, type := 0, pos := "heap.go:122", after := #[{ on := 3, ground := Ground.data }, { on := 6, ground := Ground.data }, { on := 16, ground := Ground.data }, { on := 16, ground := Ground.chain }], guard := none }) rfl (fun K hK => ?_) AllReadyH.nil
        go_simp
        refine HU7.out.mono ?_
        rintro e w7 ⟨rfl, hd7, hS7⟩
        have HD7 := Lib.hid hd7
        clear hd7 HU7
        try go_wp2_with fail
        refine hK.out _ _ hS7 (fun hHeld => ?_)
        clear hK K
        try simp only [Act.put, List.setIfInBounds_toArray, List.set_cons_zero, List.set_cons_succ]
        refine wpAnyH_done (by kernel_rfl) ?_ _
        go_wp2_with fail
        go_end0
        exact ⟨rfl, HD7.out⟩
      · go_simp
        try go_wp2_with fail
        refine hK.out _ _ (HSx.out _ (((Grew.refl w5).drew).alloc _)) (fun hHeld => ?_)
        clear hK K
        try simp only [Act.put, List.setIfInBounds_toArray, List.set_cons_zero, List.set_cons_succ]
        refine wpAnyH_ready (rs := [10]) (by kernel_rfl) (by simp) ?_
        refine AllReadyH.cons (o := { dst := some 64, op := Op.load 40 (Operand.tmp 63), type := 40, pos := "heap.go:122", after := #[{ on := 9, ground := Ground.data }], guard := none }) rfl (fun K hK => ?_) AllReadyH.nil
        go_simp
        try go_wp2_with fail
        refine hK.out _ _ hHeld (fun hHeld => ?_)
        clear hK K
        try simp only [Act.put, List.setIfInBounds_toArray, List.set_cons_zero, List.set_cons_succ]
        refine wpAnyH_take (i := 13) (oi := { dst := some 67, op := Op.slice 40 (Operand.tmp 64) none (some (Operand.tmp 65)) (some (Operand.tmp 66)), type := 40, pos := "heap.go:122", after := #[{ on := 10, ground := Ground.data }, { on := 11, ground := Ground.data }, { on := 12, ground := Ground.data }], guard := none }) (v := ?_) rfl (by kernel_rfl) (by kernel_rfl) (by kernel_rfl) (fun _ _ _ h => h) (Or.inl ⟨by rfl, ?_⟩) (by assumption) ?_
        rotate_left
        · (intro wz hSw; (obtain ⟨hS1, hS2, hS3⟩ := hSw); go_simp; try with_reducible rfl)
        try simp only [Act.put, List.setIfInBounds_toArray, List.set_cons_zero, List.set_cons_succ]
        refine wpAnyH_ready (rs := [16]) (by kernel_rfl) (by simp) ?_
        refine AllReadyH.cons (o := { dst := some 70, op := Op.call { callee := Callee.builtin Builtin.append, args := #[Operand.tmp 67, Operand.tmp 69], argTypes := #[40, 40] }, type := 40, pos := "heap.go:122", after := #[{ on := 13, ground := Ground.data }, { on := 15, ground := Ground.data }], guard := none }) rfl (fun K hK => ?_) AllReadyH.nil
        refine step_append_grows rfl (.tmp 67) (.tmp 69) 40 rfl 3 i0 (.int .i64 0) 1 8 Try.underlying40 HI0.out HI1.out HI2.out HI3.out rfl (by decide) none 0 0 [] rfl ?_ ?_ ?_ ⟨w5.heap.size, 0, none⟩ 1 1 [.int .i64 T] rfl rfl ?_ ?_ ?_ ?_ ?_ ?_
        · exact fun _ => ⟨rfl, rfl⟩
        · rfl
        · exact fun _ e => nomatch e
        · intro j z hz
          match j, hz with
          | 0, hz => (simp at hz; subst hz; rw [Addr.add_lit]; exact boxNew rfl)
        · (intro z hz; simp at hz; subst hz; rfl)
        · omega
        · (unfold maxLen; omega)
        · omega
        intro u6 w6 hown hgr
        have k6 : Grew (fun _ => False) w5 w6 := (((Grew.refl w5).drew).alloc _).grown hgr fun _ _ e => nomatch e
        have HU6 := Lib.hid (HOwn.out w6 u6 k6 (own_low hown (by show b.B ≤ (w5.drew.alloc _).heap.size; have := hsz5; simp; omega)))
        have hS6 := HSx.out w6 k6
        have HU7 := Lib.hid (HU6.out)
        clear hown hgr k6 HU6
        refine hK.out _ _ hS6 (fun hHeld => ?_)
        clear hK K
        try simp only [Act.put, List.setIfInBounds_toArray, List.set_cons_zero, List.set_cons_succ]
        refine wpAnyH_ready (rs := [17]) (by kernel_rfl) (by simp) ?_
        refine AllReadyH.cons (o := { dst := some 71, op := Op.call { callee := Callee.value (Operand.func 109), args := #[Operand.tmp 57, Operand.tmp 60, Operand.tmp 70], argTypes := #[74, 128, 40] }, type := 0, pos := "heap.go:122", after := #[{ on := 3, ground := Ground.data }, { on := 6, ground := Ground.data }, { on := 16, ground := Ground.data }, { on := 16, ground := Ground.chain }], guard := none }) rfl (fun K hK => ?_) AllReadyH.nil
        go_simp
        refine HU7.out.mono ?_
        rintro e w7 ⟨rfl, hd7, hS7⟩
        have HD7 := Lib.hid hd7
        clear hd7 HU7
        try go_wp2_with fail
        refine hK.out _ _ hS7 (fun hHeld => ?_)
        clear hK K
        try simp only [Act.put, List.setIfInBounds_toArray, List.set_cons_zero, List.set_cons_succ]
        refine wpAnyH_done (by kernel_rfl) ?_ _
        go_wp2_with fail
        go_end0
        exact ⟨rfl, HD7.out⟩
    · have i1 : (0 : Int) ≤ (s.G.length : Int) := by omega
      have i2 : (s.G.length : Int) ≤ (cap : Int) := by have a3 : s.G.length ≤ cap := a3; omega
      replace o5 : w5.cell? ⟨b.hb, 5, none⟩ = some (.slice (some ⟨r, 0, none⟩) s.G.length cap) := o5
      have i3 : s.G.length ≤ cap := a3
      have o6 : w5.drew.cell? ⟨b.hb, 5, none⟩ = some (.slice (some ⟨r, 0, none⟩) s.G.length cap) := o5
      have o7 : (w5.drew.alloc (.cells #[.int .i64 T] 3)).cell? ⟨b.hb, 5, none⟩ = some (.slice (some ⟨r, 0, none⟩) s.G.length cap) := ((((Grew.refl (S := fun _ => False) w5).drew).alloc (.cells #[.int .i64 T] 3)).cell (p := ⟨b.hb, 5, none⟩) hlt5 fun e => e).trans o5
      have HCell : Hid (∀ wz, Grew (fun _ => False) w5 wz → ∀ j z, (intsG s.G)[j]? = some z → wz.cell? ((⟨r, 0, none⟩ : Addr).add j) = some z) := Lib.hid fun wz k j z hz => (ownInt_keep ho k fun _ _ e => e).cells (g := r) rfl j z hz
      clear l5 n5 p5 i5 g5 HSG ho HB5 HD5 HDY
      clear a1 a2 a3 a4 a5 a6
      go_upto_region 8 with fail
      refine wp_region_held_drew (S := fun wx => wx.cell? ⟨w.heap.size, 0, none⟩ = some (.pointer (some ⟨b.hb, 0, none⟩)) ∧ wx.cell? ⟨w.heap.size + 1, 0, none⟩ = some (.int .i64 T) ∧ wx.cell? ⟨b.hb, 1, none⟩ = some (.pointer (some ⟨b.g, 0, none⟩))) (by kernel_rfl) (HSx.out w5.drew ((Grew.refl w5).drew)) (fun hHeld => ?_)
      refine wpAnyH_take (i := 0) (oi := { dst := some 54, op := Op.load 43 (Operand.tmp 2), type := 43, pos := "heap.go:122", after := #[], guard := none }) (v := ?_) rfl (by kernel_rfl) (by kernel_rfl) (by kernel_rfl) (fun _ _ _ h => h) (Or.inl ⟨by rfl, ?_⟩) (by assumption) ?_
      rotate_left
      · (intro wz hSw; (obtain ⟨hS1, hS2, hS3⟩ := hSw); go_simp; try with_reducible rfl)
      try simp only [Act.put, List.setIfInBounds_toArray, List.set_cons_zero, List.set_cons_succ]
      refine wpAnyH_take (i := 1) (oi := { dst := some 55, op := Op.nilCheck (Operand.tmp 54), type := 0, pos := "heap.go:122", after := #[{ on := 0, ground := Ground.data }], guard := none }) (v := ?_) rfl (by kernel_rfl) (by kernel_rfl) (by kernel_rfl) (fun _ _ _ h => h) (Or.inl ⟨by rfl, ?_⟩) (by assumption) ?_
      rotate_left
      · (intro wz hSw; (obtain ⟨hS1, hS2, hS3⟩ := hSw); go_simp; try with_reducible rfl)
      try simp only [Act.put, List.setIfInBounds_toArray, List.set_cons_zero, List.set_cons_succ]
      refine wpAnyH_take (i := 2) (oi := { dst := some 56, op := Op.fieldAddr 85 (Operand.tmp 55) 1, type := 0, pos := "heap.go:122", after := #[{ on := 1, ground := Ground.data }], guard := none }) (v := ?_) rfl (by kernel_rfl) (by kernel_rfl) (by kernel_rfl) (fun _ _ _ h => h) (Or.inl ⟨by rfl, ?_⟩) (by assumption) ?_
      rotate_left
      · (intro wz hSw; (obtain ⟨hS1, hS2, hS3⟩ := hSw); go_simp; try with_reducible rfl)
      try simp only [Act.put, List.setIfInBounds_toArray, List.set_cons_zero, List.set_cons_succ]
      refine wpAnyH_take (i := 3) (oi := { dst := some 57, op := Op.load 74 (Operand.tmp 56), type := 74, pos := "heap.go:122", after := #[{ on := 2, ground := Ground.data }], guard := none }) (v := ?_) rfl (by kernel_rfl) (by kernel_rfl) (by kernel_rfl) (fun _ _ _ h => h) (Or.inl ⟨by rfl, ?_⟩) (by assumption) ?_
      rotate_left
      · (intro wz hSw; (obtain ⟨hS1, hS2, hS3⟩ := hSw); go_simp; try with_reducible rfl)
      try simp only [Act.put, List.setIfInBounds_toArray, List.set_cons_zero, List.set_cons_succ]
      refine wpAnyH_take (i := 4) (oi := { dst := some 58, op := Op.load 43 (Operand.tmp 2), type := 43, pos := "heap.go:122", after := #[], guard := none }) (v := ?_) rfl (by kernel_rfl) (by kernel_rfl) (by kernel_rfl) (fun _ _ _ h => h) (Or.inl ⟨by rfl, ?_⟩) (by assumption) ?_
      rotate_left
      · (intro wz hSw; (obtain ⟨hS1, hS2, hS3⟩ := hSw); go_simp; try with_reducible rfl)
      try simp only [Act.put, List.setIfInBounds_toArray, List.set_cons_zero, List.set_cons_succ]
      refine wpAnyH_take (i := 5) (oi := { dst := some 59, op := Op.nilCheck (Operand.tmp 58), type := 0, pos := "heap.go:122", after := #[{ on := 4, ground := Ground.data }], guard := none }) (v := ?_) rfl (by kernel_rfl) (by kernel_rfl) (by kernel_rfl) (fun _ _ _ h => h) (Or.inl ⟨by rfl, ?_⟩) (by assumption) ?_
      rotate_left
      · (intro wz hSw; (obtain ⟨hS1, hS2, hS3⟩ := hSw); go_simp; try with_reducible rfl)
      try simp only [Act.put, List.setIfInBounds_toArray, List.set_cons_zero, List.set_cons_succ]
      refine wpAnyH_take (i := 6) (oi := { dst := some 60, op := Op.fieldAddr 85 (Operand.tmp 59) 5, type := 0, pos := "heap.go:122", after := #[{ on := 5, ground := Ground.data }], guard := none }) (v := ?_) rfl (by kernel_rfl) (by kernel_rfl) (by kernel_rfl) (fun _ _ _ h => h) (Or.inl ⟨by rfl, ?_⟩) (by assumption) ?_
      rotate_left
      · (intro wz hSw; (obtain ⟨hS1, hS2, hS3⟩ := hSw); go_simp; try with_reducible rfl)
      try simp only [Act.put, List.setIfInBounds_toArray, List.set_cons_zero, List.set_cons_succ]
      refine wpAnyH_take (i := 7) (oi := { dst := some 61, op := Op.load 43 (Operand.tmp 2), type := 43, pos := "heap.go:122", after := #[], guard := none }) (v := ?_) rfl (by kernel_rfl) (by kernel_rfl) (by kernel_rfl) (fun _ _ _ h => h) (Or.inl ⟨by rfl, ?_⟩) (by assumption) ?_
      rotate_left
      · (intro wz hSw; (obtain ⟨hS1, hS2, hS3⟩ := hSw); go_simp; try with_reducible rfl)
      try simp only [Act.put, List.setIfInBounds_toArray, List.set_cons_zero, List.set_cons_succ]
      refine wpAnyH_take (i := 8) (oi := { dst := some 62, op := Op.nilCheck (Operand.tmp 61), type := 0, pos := "heap.go:122", after := #[{ on := 7, ground := Ground.data }], guard := none }) (v := ?_) rfl (by kernel_rfl) (by kernel_rfl) (by kernel_rfl) (fun _ _ _ h => h) (Or.inl ⟨by rfl, ?_⟩) (by assumption) ?_
      rotate_left
      · (intro wz hSw; (obtain ⟨hS1, hS2, hS3⟩ := hSw); go_simp; try with_reducible rfl)
      try simp only [Act.put, List.setIfInBounds_toArray, List.set_cons_zero, List.set_cons_succ]
      refine wpAnyH_take (i := 9) (oi := { dst := some 63, op := Op.fieldAddr 85 (Operand.tmp 62) 5, type := 0, pos := "heap.go:122", after := #[{ on := 8, ground := Ground.data }], guard := none }) (v := ?_) rfl (by kernel_rfl) (by kernel_rfl) (by kernel_rfl) (fun _ _ _ h => h) (Or.inl ⟨by rfl, ?_⟩) (by assumption) ?_
      rotate_left
      · (intro wz hSw; (obtain ⟨hS1, hS2, hS3⟩ := hSw); go_simp; try with_reducible rfl)
      try simp only [Act.put, List.setIfInBounds_toArray, List.set_cons_zero, List.set_cons_succ]
      refine wpAnyH_take (i := 11) (oi := { dst := some 65, op := Op.move (Operand.tmp 6), type := 3, pos := "heap.go:122", after := #[], guard := none }) (v := ?_) rfl (by kernel_rfl) (by kernel_rfl) (by kernel_rfl) (fun _ _ _ h => h) (Or.inl ⟨by rfl, ?_⟩) (by assumption) ?_
      rotate_left
      · (intro wz hSw; (obtain ⟨hS1, hS2, hS3⟩ := hSw); go_simp; try with_reducible rfl)
      try simp only [Act.put, List.setIfInBounds_toArray, List.set_cons_zero, List.set_cons_succ]
      refine wpAnyH_take (i := 12) (oi := { dst := some 66, op := Op.move (Operand.tmp 6), type := 3, pos := "heap.go:122", after := #[], guard := none }) (v := ?_) rfl (by kernel_rfl) (by kernel_rfl) (by kernel_rfl) (fun _ _ _ h => h) (Or.inl ⟨by rfl, ?_⟩) (by assumption) ?_
      rotate_left
      · (intro wz hSw; (obtain ⟨hS1, hS2, hS3⟩ := hSw); go_simp; try with_reducible rfl)
      try simp only [Act.put, List.setIfInBounds_toArray, List.set_cons_zero, List.set_cons_succ]
      refine wpAnyH_take (i := 14) (oi := { dst := some 68, op := Op.load 3 (Operand.tmp 3), type := 3, pos := "heap.go:122", after := #[], guard := none }) (v := ?_) rfl (by kernel_rfl) (by kernel_rfl) (by kernel_rfl) (fun _ _ _ h => h) (Or.inl ⟨by rfl, ?_⟩) (by assumption) ?_
      rotate_left
      · (intro wz hSw; (obtain ⟨hS1, hS2, hS3⟩ := hSw); go_simp; try with_reducible rfl)
      try simp only [Act.put, List.setIfInBounds_toArray, List.set_cons_zero, List.set_cons_succ]
      refine wpAnyH_ready (rs := [10, 15]) (by kernel_rfl) (by simp) ?_
      refine AllReadyH.cons (o := { dst := some 64, op := Op.load 40 (Operand.tmp 63), type := 40, pos := "heap.go:122", after := #[{ on := 9, ground := Ground.data }], guard := none }) rfl (fun K hK => ?_) (AllReadyH.cons (o := { dst := some 69, op := Op.buildSlice 40 1 #[(0, Operand.tmp 68)], type := 40, pos := "heap.go:122", after := #[{ on := 14, ground := Ground.data }], guard := none }) rfl (fun K hK => ?_) AllReadyH.nil)
      · go_simp
        try go_wp2_with fail
        refine hK.out _ _ hHeld (fun hHeld => ?_)
        clear hK K
        try simp only [Act.put, List.setIfInBounds_toArray, List.set_cons_zero, List.set_cons_succ]
        refine wpAnyH_take (i := 13) (oi := { dst := some 67, op := Op.slice 40 (Operand.tmp 64) none (some (Operand.tmp 65)) (some (Operand.tmp 66)), type := 40, pos := "heap.go:122", after := #[{ on := 10, ground := Ground.data }, { on := 11, ground := Ground.data }, { on := 12, ground := Ground.data }], guard := none }) (v := ?_) rfl (by kernel_rfl) (by kernel_rfl) (by kernel_rfl) (fun _ _ _ h => h) (Or.inl ⟨by rfl, ?_⟩) (by assumption) ?_
        rotate_left
        · (intro wz hSw; (obtain ⟨hS1, hS2, hS3⟩ := hSw); go_simp; try with_reducible rfl)
        try simp only [Act.put, List.setIfInBounds_toArray, List.set_cons_zero, List.set_cons_succ]
        refine wpAnyH_ready (rs := [15]) (by kernel_rfl) (by simp) ?_
        refine AllReadyH.cons (o := { dst := some 69, op := Op.buildSlice 40 1 #[(0, Operand.tmp 68)], type := 40, pos := "heap.go:122", after := #[{ on := 14, ground := Ground.data }], guard := none }) rfl (fun K hK => ?_) AllReadyH.nil
        go_simp
        try go_wp2_with fail
        refine hK.out _ _ (HSx.out _ (((Grew.refl w5).drew).alloc _)) (fun hHeld => ?_)
        clear hK K
        try simp only [Act.put, List.setIfInBounds_toArray, List.set_cons_zero, List.set_cons_succ]
        refine wpAnyH_ready (rs := [16]) (by kernel_rfl) (by simp) ?_
        refine AllReadyH.cons (o := { dst := some 70, op := Op.call { callee := Callee.builtin Builtin.append, args := #[Operand.tmp 67, Operand.tmp 69], argTypes := #[40, 40] }, type := 40, pos := "heap.go:122", after := #[{ on := 13, ground := Ground.data }, { on := 15, ground := Ground.data }], guard := none }) rfl (fun K hK => ?_) AllReadyH.nil
        refine step_append_grows rfl (.tmp 67) (.tmp 69) 40 rfl 3 i0 (.int .i64 0) 1 8 Try.underlying40 HI0.out HI1.out HI2.out HI3.out rfl (by decide) (some ⟨r, 0, none⟩) s.G.length s.G.length (intsG s.G) rfl ?_ ?_ ?_ ⟨w5.heap.size, 0, none⟩ 1 1 [.int .i64 T] rfl rfl ?_ ?_ ?_ ?_ ?_ ?_
        · exact fun e => nomatch e
        · simp [intsG]
        · intro bz hbz
          cases hbz
          exact HCell.out _ (((Grew.refl w5).drew).alloc _)
        · intro j z hz
          match j, hz with
          | 0, hz => (simp at hz; subst hz; rw [Addr.add_lit]; exact boxNew rfl)
        · (intro z hz; simp at hz; subst hz; rfl)
        · omega
        · (unfold maxLen; omega)
        · omega
        intro u6 w6 hown hgr
        have k6 : Grew (fun _ => False) w5 w6 := (((Grew.refl w5).drew).alloc _).grown hgr fun _ _ e => nomatch e
        have HU6 := Lib.hid (HOwn.out w6 u6 k6 (own_low hown (by show b.B ≤ (w5.drew.alloc _).heap.size; have := hsz5; simp; omega)))
        have hS6 := HSx.out w6 k6
        have HU7 := Lib.hid (HU6.out)
        clear hown hgr k6 HU6
        refine hK.out _ _ hS6 (fun hHeld => ?_)
        clear hK K
        try simp only [Act.put, List.setIfInBounds_toArray, List.set_cons_zero, List.set_cons_succ]
        refine wpAnyH_ready (rs := [17]) (by kernel_rfl) (by simp) ?_
        refine AllReadyH.cons (o := { dst := some 71, op := Op.call { callee := Callee.value (Operand.func 109), args := #[Operand.tmp 57, Operand.tmp 60, Operand.tmp 70], argTypes := #[74, 128, 40] }, type := 0, pos := "heap.go:122", after := #[{ on := 3, ground := Ground.data }, { on := 6, ground := Ground.data }, { on := 16, ground := Ground.data }, { on := 16, ground := Ground.chain }], guard := none }) rfl (fun K hK => ?_) AllReadyH.nil
        go_simp
        refine HU7.out.mono ?_
        rintro e w7 ⟨rfl, hd7, hS7⟩
        have HD7 := Lib.hid hd7
        clear hd7 HU7
        try go_wp2_with fail
        refine hK.out _ _ hS7 (fun hHeld => ?_)
        clear hK K
        try simp only [Act.put, List.setIfInBounds_toArray, List.set_cons_zero, List.set_cons_succ]
        refine wpAnyH_done (by kernel_rfl) ?_ _
        go_wp2_with fail
        go_end0
        exact ⟨rfl, HD7.out⟩
      · go_simp
        try go_wp2_with fail
        refine hK.out _ _ (HSx.out _ (((Grew.refl w5).drew).alloc _)) (fun hHeld => ?_)
        clear hK K
        try simp only [Act.put, List.setIfInBounds_toArray, List.set_cons_zero, List.set_cons_succ]
        refine wpAnyH_ready (rs := [10]) (by kernel_rfl) (by simp) ?_
        refine AllReadyH.cons (o := { dst := some 64, op := Op.load 40 (Operand.tmp 63), type := 40, pos := "heap.go:122", after := #[{ on := 9, ground := Ground.data }], guard := none }) rfl (fun K hK => ?_) AllReadyH.nil
        go_simp
        try go_wp2_with fail
        refine hK.out _ _ hHeld (fun hHeld => ?_)
        clear hK K
        try simp only [Act.put, List.setIfInBounds_toArray, List.set_cons_zero, List.set_cons_succ]
        refine wpAnyH_take (i := 13) (oi := { dst := some 67, op := Op.slice 40 (Operand.tmp 64) none (some (Operand.tmp 65)) (some (Operand.tmp 66)), type := 40, pos := "heap.go:122", after := #[{ on := 10, ground := Ground.data }, { on := 11, ground := Ground.data }, { on := 12, ground := Ground.data }], guard := none }) (v := ?_) rfl (by kernel_rfl) (by kernel_rfl) (by kernel_rfl) (fun _ _ _ h => h) (Or.inl ⟨by rfl, ?_⟩) (by assumption) ?_
        rotate_left
        · (intro wz hSw; (obtain ⟨hS1, hS2, hS3⟩ := hSw); go_simp; try with_reducible rfl)
        try simp only [Act.put, List.setIfInBounds_toArray, List.set_cons_zero, List.set_cons_succ]
        refine wpAnyH_ready (rs := [16]) (by kernel_rfl) (by simp) ?_
        refine AllReadyH.cons (o := { dst := some 70, op := Op.call { callee := Callee.builtin Builtin.append, args := #[Operand.tmp 67, Operand.tmp 69], argTypes := #[40, 40] }, type := 40, pos := "heap.go:122", after := #[{ on := 13, ground := Ground.data }, { on := 15, ground := Ground.data }], guard := none }) rfl (fun K hK => ?_) AllReadyH.nil
        refine step_append_grows rfl (.tmp 67) (.tmp 69) 40 rfl 3 i0 (.int .i64 0) 1 8 Try.underlying40 HI0.out HI1.out HI2.out HI3.out rfl (by decide) (some ⟨r, 0, none⟩) s.G.length s.G.length (intsG s.G) rfl ?_ ?_ ?_ ⟨w5.heap.size, 0, none⟩ 1 1 [.int .i64 T] rfl rfl ?_ ?_ ?_ ?_ ?_ ?_
        · exact fun e => nomatch e
        · simp [intsG]
        · intro bz hbz
          cases hbz
          exact HCell.out _ (((Grew.refl w5).drew).alloc _)
        · intro j z hz
          match j, hz with
          | 0, hz => (simp at hz; subst hz; rw [Addr.add_lit]; exact boxNew rfl)
        · (intro z hz; simp at hz; subst hz; rfl)
        · omega
        · (unfold maxLen; omega)
        · omega
        intro u6 w6 hown hgr
        have k6 : Grew (fun _ => False) w5 w6 := (((Grew.refl w5).drew).alloc _).grown hgr fun _ _ e => nomatch e
        have HU6 := Lib.hid (HOwn.out w6 u6 k6 (own_low hown (by show b.B ≤ (w5.drew.alloc _).heap.size; have := hsz5; simp; omega)))
        have hS6 := HSx.out w6 k6
        have HU7 := Lib.hid (HU6.out)
        clear hown hgr k6 HU6
        refine hK.out _ _ hS6 (fun hHeld => ?_)
        clear hK K
        try simp only [Act.put, List.setIfInBounds_toArray, List.set_cons_zero, List.set_cons_succ]
        refine wpAnyH_ready (rs := [17]) (by kernel_rfl) (by simp) ?_
        refine AllReadyH.cons (o := { dst := some 71, op := Op.call { callee := Callee.value (Operand.func 109), args := #[Operand.tmp 57, Operand.tmp 60, Operand.tmp 70], argTypes := #[74, 128, 40] }, type := 0, pos := "heap.go:122", after := #[{ on := 3, ground := Ground.data }, { on := 6, ground := Ground.data }, { on := 16, ground := Ground.data }, { on := 16, ground := Ground.chain }], guard := none }) rfl (fun K hK => ?_) AllReadyH.nil
        go_simp
        refine HU7.out.mono ?_
        rintro e w7 ⟨rfl, hd7, hS7⟩
        have HD7 := Lib.hid hd7
        clear hd7 HU7
        try go_wp2_with fail
        refine hK.out _ _ hS7 (fun hHeld => ?_)
        clear hK K
        try simp only [Act.put, List.setIfInBounds_toArray, List.set_cons_zero, List.set_cons_succ]
        refine wpAnyH_done (by kernel_rfl) ?_ _
        go_wp2_with fail
        go_end0
        exact ⟨rfl, HD7.out⟩)
end Go.Proofs.Ytjjmapmombhmlaa
