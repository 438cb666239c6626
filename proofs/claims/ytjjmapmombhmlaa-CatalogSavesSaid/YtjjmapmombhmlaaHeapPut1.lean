/-
  A heap within a Try: Put: contract (written by gen_hput.py).
-/
import Derived.Test.YtjjmapmombhmlaaHeapPut
import Derived.Deep.RegionHeld3
namespace Go.Proofs.Ytjjmapmombhmlaa
open Go.RowKit Go.Maps Go.ChangeMaps Go.WideShapes

def HS.put (s : HS) (j : Nat) (T : Int) : HS := { s with S := upd s.S j 1, R := upF s.R T (some 1), Y := upF s.Y T (some ()) }
theorem cnt_none (S : Nat → Nat) (k : Nat) : ∀ n, (∀ i, i < n → ¬ S i = k) → cnt S k n = 0
  | 0, _ => rfl
  | n + 1, h => by
    have e := cnt_none S k n fun i hi => h i (by omega)
    have := h n (by omega)
    simp [cnt, e, this]
/-- behind Put's two boxes and Take -/
structure PutAt (b : HB) (s : HS) (j : Nat) (t : ByteArray) (w W2 : World) (y : Nat) : Prop where
  st : HeapI b { s with S := upd s.S j 1 } W2
  two : Boxes2 b w.heap.size y ((b.f + j : Nat) : Int) W2
  d3 : W2.cell? ⟨w.heap.size + 1, 0, none⟩ = some (.string t)
  y : w.heap.size ≤ y ∧ y < W2.heap.size
  lt : w.heap.size + 1 < W2.heap.size
  grew : Grew (Mut b.B b.S0 w) w W2
set_option maxRecDepth 100000 in
set_option maxHeartbeats 2000000 in
/-- bytes are put: in a Try, where there is room -/
theorem put1_any (b : HB) (ok : b.ok) (s : HS) (t : ByteArray) (ht : t.size ≤ 64) (hK0 : 0 ≤ s.K) (hK : s.K < (cnt s.S 0 b.n : Nat)) (dp : Nat) (v : Value) (fs : List Step) (w : World) (hf : fs.length < 90000) (h : HeapI b s w) (hl : LogAt b.B b.g (dp + 1) v fs w) : Calls Try.prog 29 #[.pointer (some ⟨b.hb, 0, none⟩), .string t] w fun e w' => ∃ j, j < b.n ∧ s.S j = 0 ∧ (∀ i, i < j → ¬ s.S i = 0) ∧ e = .returned (.int .i64 ((b.f + j : Nat) : Int)) ∧ Did b.B b.g dp b.S0 (HeapI (b.at (wroteT b.T (b.f + j) t))) fs 3 s (s.put j ((b.f + j : Nat) : Int)) w w' := by
  have hmf : ∀ (fn : Fn) (first cap : Array Value) (w : World), (Instr.makeFunc fn first cap).run Try.prog w = .ok (.func fn first cap) w := fun _ _ _ _ => rfl
  obtain ⟨W, hW⟩ : ∃ W, (w.alloc (.cells #[.pointer (some ⟨b.hb, 0, none⟩)] 43)).alloc (.cells #[.string t] 9) = W := ⟨_, rfl⟩
  have g0 : Grew (fun _ => False) w W := by rw [← hW]; exact ((Grew.refl w).alloc _).alloc _
  have s0 : W.heap.size = w.heap.size + 2 := by rw [← hW]; simp
  have hI : HeapI b s W := by rw [← hW]; exact (h.alloc _).alloc _
  have hL : LogAt b.B b.g (dp + 1) v fs W := hl.keep g0 (fun e => e) fun _ _ e => e
  have n0 := HB.not0 ok h.sz (Nat.le_refl w.heap.size)
  have hx : W.heap[w.heap.size]? = some (.cells #[.pointer (some ⟨b.hb, 0, none⟩)] 43) := by
    rw [← hW, Below.heap_alloc _ _ _ (by simp)]
    exact heap_alloc_new w _
  have d1 : W.drew.cell? ⟨w.heap.size, 0, none⟩ = some (.pointer (some ⟨b.hb, 0, none⟩)) := by show W.cell? _ = _; simp [World.cell?, hx]
  have d3 : W.cell? ⟨w.heap.size + 1, 0, none⟩ = some (.string t) := by rw [← hW]; exact boxNew (by simp)
  have c6 := hI.drew.c6
  have c2 := hI.drew.c2
  have HFree := Lib.hid (hFree_any b ok s W.drew hI.drew)
  have HTake := Lib.hid (take_any b.m b.q b.f b.n s.S W.drew hI.drew.gr (Nat.le_trans ok.f (by decide)) (Nat.le_trans ok.n (by decide)))
  have hno : ∀ w1, Taken b.m b.q b.f b.n s.S W.drew (.tuple #[.int .i64 0, .bool false]) w1 → ∀ i, i < b.n → ¬ s.S i = 0 → True := fun _ _ _ _ _ => trivial
  have HP2 : Hid (∀ j w1, j < b.n → s.S j = 0 → MapAt b.m b.q b.f b.n (upd s.S j 1) w1 → Grew (fun k => k = b.q) W.drew w1 → PutAt b s j t w (w1.alloc (.cells #[.int .i64 ((b.f + j : Nat) : Int)] 3)) w1.heap.size ∧ LogAt b.B b.g (dp + 1) v fs (w1.alloc (.cells #[.int .i64 ((b.f + j : Nat) : Int)] 3))) := Lib.hid fun j w1 hj hs hm hg => by
    have hg' : Grew (fun q => q = b.q) W w1 := ((Grew.refl W).drew).trans hg
    have hs1 : W.heap.size ≤ w1.heap.size := hg'.size
    have i1 := hI.grants ok hm hg'
    have l1 := hL.turned ok hI hg'
    have nq : ∀ k, w.heap.size ≤ k → ¬ k = b.q := fun k hk e => HB.not0 ok h.sz hk ⟨3, by decide, e⟩
    refine ⟨⟨i1.alloc _, ⟨?_, heap_alloc_new w1 _⟩, ?_, ⟨by omega, by simp⟩, by simp; omega, ?_⟩, l1.keepAlloc _⟩
    · rw [Below.heap_alloc _ _ _ (by omega), hg'.block _ (by omega) (nq _ (Nat.le_refl _))]
      exact hx
    · rw [((Grew.refl (S := fun _ => False) w1).alloc (.cells #[.int .i64 ((b.f + j : Nat) : Int)] 3)).cell (p := ⟨w.heap.size + 1, 0, none⟩) (by show w.heap.size + 1 < _; omega) fun e => e, hg'.cell (p := ⟨w.heap.size + 1, 0, none⟩) (by show w.heap.size + 1 < _; omega) (nq _ (Nat.le_succ _))]
      exact d3
    · have a1 : Grew (Mut b.B b.S0 W) W w1 := hg'.mono fun q _ e => Or.inl ⟨3, by decide, e⟩
      exact (((g0.mono fun _ _ e => e.elim).thenMut a1).thenMut ((Grew.refl w1).alloc _))
  have HG : Hid (∀ j W2 y, j < b.n → PutAt b s j t w W2 y → Calls Try.prog 17 #[.func (.func 73) #[] #[.pointer (some ⟨w.heap.size, 0, none⟩), .pointer (some ⟨y, 0, none⟩), .pointer (some ⟨w.heap.size + 1, 0, none⟩)]] W2 fun e w' => e = .returned (.int .i64 0) ∧ HeapI (b.at (wroteT b.T (b.f + j) t)) { s with S := upd s.S j 1 } w' ∧ Grew (fun q => q = b.d ∨ q = b.bs ∨ q = b.bt) W2 w') := Lib.hid fun j W2 y hj hp =>
    putGuard_any b ok { s with S := upd s.S j 1 } j hj t ht w.heap.size y (w.heap.size + 1) W2 (by have := hp.lt; omega) hp.y.2 hp.lt hp.two.cells.1 hp.two.cells.2 hp.d3 hp.st
  have HN3 : Hid (∀ j W2 y w3, j < b.n → s.S j = 0 → PutAt b s j t w W2 y → LogAt b.B b.g (dp + 1) v fs W2 → HeapI (b.at (wroteT b.T (b.f + j) t)) { s with S := upd s.S j 1 } w3 → Grew (fun q => q = b.d ∨ q = b.bs ∨ q = b.bt) W2 w3 → Boxes2 b w.heap.size y ((b.f + j : Nat) : Int) w3 ∧ Grew (Mut b.B b.S0 w) w w3 ∧ ¬ b.S0 y ∧ Calls Try.prog 65 #[.pointer (some ⟨b.hb, 0, none⟩), .int .i64 ((b.f + j : Nat) : Int)] w3 fun e w' => e = .returned (.tuple #[]) ∧ Did b.B b.g dp b.S0 (HeapI (b.at (wroteT b.T (b.f + j) t))) fs 2 s { s with S := upd s.S j 1, R := upF s.R ((b.f + j : Nat) : Int) (some 1) } w3 w') := Lib.hid fun j W2 y w3 hj hs hp l2 i3 g3 => by
    have ny := HB.not0 ok h.sz hp.y.1
    have hq : ∀ q, (q = b.d ∨ q = b.bs ∨ q = b.bt) → b.S0 q := fun q e => by
      rcases e with e | e | e
      · exact ⟨6, by decide, e⟩
      · exact ⟨7, by decide, e⟩
      · exact ⟨8, by decide, e⟩
    have m3 : Grew (Mut b.B b.S0 W2) W2 w3 := g3.mono fun q _ e => Or.inl (hq q e)
    have l3 : LogAt b.B b.g (dp + 1) v fs w3 := by
      refine l2.keep g3 ?_ fun q hq' e => ?_
      · rintro (e | e | e)
        · exact ok.nd 1 6 (by decide) (by decide) (by decide) e
        · exact ok.nd 1 7 (by decide) (by decide) (by decide) e
        · exact ok.nd 1 8 (by decide) (by decide) (by decide) e
      · obtain ⟨k, hk, rfl⟩ := hq q e
        have a1 := (l2.row.lt _ hq').1
        have a2 := ok.lt k hk
        omega
    refine ⟨hp.two.kept ⟨n0, ny⟩ (Kept.of m3), hp.grew.thenMut m3, ny, first1_any (b.at (wroteT b.T (b.f + j) t)) (ok.at _) { s with S := upd s.S j 1 } s j hj (by show upd s.S j 1 j = 1; exact if_pos rfl) ?_ dp v fs w3 hf i3 l3⟩
    have := upd_back s.S j 1
    rw [hs] at this
    show HS.mk (upd (upd s.S j 1) j 0) s.R s.Y s.G s.K = s
    rw [this]
  have HN4 : Hid (∀ j w3 w4 y, j < b.n → ¬ b.S0 y → Boxes2 b w.heap.size y ((b.f + j : Nat) : Int) w3 → Grew (Mut b.B b.S0 w) w w3 → Did b.B b.g dp b.S0 (HeapI (b.at (wroteT b.T (b.f + j) t))) fs 2 s { s with S := upd s.S j 1, R := upF s.R ((b.f + j : Nat) : Int) (some 1) } w3 w4 → Boxes2 b w.heap.size y ((b.f + j : Nat) : Int) w4 ∧ HeapI (b.at (wroteT b.T (b.f + j) t)) { s with S := upd s.S j 1, R := upF s.R ((b.f + j : Nat) : Int) (some 1) } w4 ∧ Calls Try.prog 75 #[.pointer (some ⟨b.g, 0, none⟩), .map (some b.yb), .int .i64 ((b.f + j : Nat) : Int), .agg #[]] w4.drew fun e w' => e = .returned (.tuple #[]) ∧ Did b.B b.g dp b.S0 (HeapI (b.at (wroteT b.T (b.f + j) t))) fs 3 s (s.put j ((b.f + j : Nat) : Int)) w w' ∧ w'.cell? ⟨y, 0, none⟩ = some (.int .i64 ((b.f + j : Nat) : Int))) := Lib.hid fun j w3 w4 y hj ny hb g3 hd => by
    have b4 := hb.kept ⟨n0, ny⟩ (Kept.of hd.grew)
    obtain ⟨⟨v4, fs4, l4, n4, p4⟩, i4, g4⟩ := hd
    refine ⟨b4, i4, (putY (b.at (wroteT b.T (b.f + j) t)) (ok.at _) _ j hj dp v4 (fs ++ fs4) w4.drew (by rw [List.length_append]; omega) i4.drew l4.drew').mono ?_⟩
    rintro e w' ⟨rfl, hd⟩
    have hd' := hd.fromDrew
    exact ⟨rfl, Did.chain l4 n4 p4 (g3.thenMut g4) hd', (b4.kept ⟨n0, ny⟩ (Kept.of hd'.grew)).cells.2⟩
  have e1 : decide (((cnt s.S 0 b.n : Nat) : Int) ≤ s.K) = false := decide_eq_false (by omega)
  have e1' : ¬ ((cnt s.S 0 b.n : Nat) : Int) ≤ s.K := by omega
  have HZ : Hid ((∀ i, i < b.n → ¬ s.S i = 0) → False) := Lib.hid fun hn => by
    have := cnt_none s.S 0 b.n hn
    omega
  clear h hl hI hL g0 s0 hx hno d3 hK0 hf ht n0
  go_enter Try.func29, Try.ntmps29
  go_upto_region 1 with fail
  refine wp_region_held_drew (S := fun wx => wx.cell? ⟨w.heap.size, 0, none⟩ = some (.pointer (some ⟨b.hb, 0, none⟩)) ∧ wx.cell? ⟨b.hb, 6, none⟩ = some (.int .i64 s.K)) (by kernel_rfl) (And.intro d1 c6) (fun hHeld => ?_)
  refine wpAnyH_take (i := 0) (oi := { dst := some 8, op := Op.load 43 (Operand.tmp 2), type := 43, pos := "heap.go:66", after := #[], guard := none }) (v := ?_) rfl (by kernel_rfl) (by kernel_rfl) (by kernel_rfl) (fun _ _ _ h => h) (Or.inl ⟨by rfl, ?_⟩) (by assumption) ?_
  rotate_left
  · (intro wz hSw; (try dsimp only at hSw); go_simp; try with_reducible rfl)
  try simp only [Act.put, List.setIfInBounds_toArray, List.set_cons_zero, List.set_cons_succ]
  refine wpAnyH_take (i := 2) (oi := { dst := some 10, op := Op.load 43 (Operand.tmp 2), type := 43, pos := "heap.go:66", after := #[], guard := none }) (v := ?_) rfl (by kernel_rfl) (by kernel_rfl) (by kernel_rfl) (fun _ _ _ h => h) (Or.inl ⟨by rfl, ?_⟩) (by assumption) ?_
  rotate_left
  · (intro wz hSw; (try dsimp only at hSw); go_simp; try with_reducible rfl)
  try simp only [Act.put, List.setIfInBounds_toArray, List.set_cons_zero, List.set_cons_succ]
  refine wpAnyH_take (i := 3) (oi := { dst := some 11, op := Op.nilCheck (Operand.tmp 10), type := 0, pos := "heap.go:66", after := #[{ on := 2, ground := Ground.data }], guard := none }) (v := ?_) rfl (by kernel_rfl) (by kernel_rfl) (by kernel_rfl) (fun _ _ _ h => h) (Or.inl ⟨by rfl, ?_⟩) (by assumption) ?_
  rotate_left
  · (intro wz hSw; (try dsimp only at hSw); go_simp; try with_reducible rfl)
  try simp only [Act.put, List.setIfInBounds_toArray, List.set_cons_zero, List.set_cons_succ]
  refine wpAnyH_take (i := 4) (oi := { dst := some 12, op := Op.fieldAddr 85 (Operand.tmp 11) 6, type := 0, pos := "heap.go:66", after := #[{ on := 3, ground := Ground.data }], guard := none }) (v := ?_) rfl (by kernel_rfl) (by kernel_rfl) (by kernel_rfl) (fun _ _ _ h => h) (Or.inl ⟨by rfl, ?_⟩) (by assumption) ?_
  rotate_left
  · (intro wz hSw; (try dsimp only at hSw); go_simp; try with_reducible rfl)
  try simp only [Act.put, List.setIfInBounds_toArray, List.set_cons_zero, List.set_cons_succ]
  refine wpAnyH_take (i := 5) (oi := { dst := some 13, op := Op.load 3 (Operand.tmp 12), type := 3, pos := "heap.go:66", after := #[{ on := 4, ground := Ground.data }], guard := none }) (v := ?_) rfl (by kernel_rfl) (by kernel_rfl) (by kernel_rfl) (fun _ _ _ h => h) (Or.inl ⟨by rfl, ?_⟩) (by assumption) ?_
  rotate_left
  · (intro wz hSw; (try dsimp only at hSw); go_simp; try with_reducible rfl)
  try simp only [Act.put, List.setIfInBounds_toArray, List.set_cons_zero, List.set_cons_succ]
  refine wpAnyH_ready (rs := [1]) (by kernel_rfl) (by simp) ?_
  refine AllReadyH.cons (o := { dst := some 9, op := Op.call { callee := Callee.value (Operand.func 22), args := #[Operand.tmp 8], argTypes := #[43] }, type := 3, pos := "heap.go:66", after := #[{ on := 0, ground := Ground.data }], guard := none }) rfl (fun K hK => ?_) AllReadyH.nil
  go_simp
  refine HFree.out.mono ?_
  rintro e w' ⟨rfl, rfl⟩
  try go_wp2_with fail
  refine hK.out _ _ hHeld (fun hHeld => ?_)
  clear hK K
  try simp only [Act.put, List.setIfInBounds_toArray, List.set_cons_zero, List.set_cons_succ]
  refine wpAnyH_take (i := 6) (oi := { dst := some 14, op := Op.binOp BinOp.leq 3 (Operand.tmp 9) (Operand.tmp 13) 3, type := 4, pos := "heap.go:66", after := #[{ on := 1, ground := Ground.data }, { on := 5, ground := Ground.data }], guard := none }) (v := ?_) rfl (by kernel_rfl) (by kernel_rfl) (by kernel_rfl) (fun _ _ _ h => h) (Or.inl ⟨by rfl, ?_⟩) (by assumption) ?_
  rotate_left
  · (intro wz hSw; (try dsimp only at hSw); go_simp; try with_reducible rfl)
  try simp only [Act.put, List.setIfInBounds_toArray, List.set_cons_zero, List.set_cons_succ]
  refine wpAnyH_done (by kernel_rfl) ?_ _
  go_wp2_with fail
  refine HTake.out.mono ?_
  rintro e w1 ⟨vv, rfl, ht⟩
  cases ht with
  | none _ hno => exact (HZ.out hno).elim
  | one j _ hj hs hno hm hg =>
    obtain ⟨hp, l2⟩ := HP2.out j w1 hj hs hm hg
    have HPx := Lib.hid hp
    have HL2 := Lib.hid l2
    have HNo := Lib.hid hno
    have HGx := Lib.hid (HG.out j _ _ hj hp)
    clear hp l2 hno hm hg HP2 HG HTake HFree HZ
    go_wp2_with fail
    refine HGx.out.mono ?_
    rintro e w3 ⟨rfl, i3, g3⟩
    obtain ⟨b3, g03, ny, hfirst⟩ := HN3.out j _ _ w3 hj hs HPx.out HL2.out i3 g3
    have HF3 := Lib.hid hfirst
    have HB3 := Lib.hid b3
    have HG3 := Lib.hid g03
    have HNy := Lib.hid ny
    have d4 := b3.cells.1
    have d5 := b3.cells.2
    clear i3 g3 b3 g03 ny hfirst HGx HN3 HPx HL2
    go_wp2_with fail
    refine HF3.out.mono ?_
    rintro e w4 ⟨rfl, hd⟩
    obtain ⟨b4, i4, hput⟩ := HN4.out j w3 w4 w1.heap.size hj HNy.out HB3.out HG3.out hd
    have HPu := Lib.hid hput
    have d6 : w4.drew.cell? ⟨w.heap.size, 0, none⟩ = some (.pointer (some ⟨b.hb, 0, none⟩)) := b4.cells.1
    have d7 : w4.drew.cell? ⟨w1.heap.size, 0, none⟩ = some (.int .i64 ((b.f + j : Nat) : Int)) := b4.cells.2
    have c1 := i4.drew.c1
    have c4 := i4.drew.c4
    clear hd b4 i4 hput d4 d5 HN4 HF3 HB3 HG3 HNy
    go_upto_region 9 with fail
    refine wp_region_still_tail 10 (by kernel_rfl) (by kernel_rfl) ?_
    change wpStill _ _ (w4.drew) (fun a' => wpList _ _ _ _ a' (w4.drew)) _ _
    simp only [List.take_succ_cons, List.take_zero, List.drop_succ_cons, List.drop_zero]
    repeat still_step
    refine wpStill_nil ?_
    go_wp2_with fail
    refine HPu.out.mono ?_
    rintro e w5 ⟨rfl, hd, d8⟩
    have HD := Lib.hid hd
    clear hd HPu d6 d7 c1 c4
    go_wp2_with fail
    go_ret
    exact ⟨j, hj, hs, HNo.out, rfl, HD.out⟩
end Go.Proofs.Ytjjmapmombhmlaa
