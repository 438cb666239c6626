/-
  A new heap: contract.
-/
import Derived.Test.YtjjmapmombhmlaaHeapPut1
namespace Go.Proofs.Ytjjmapmombhmlaa
open Go.RowKit Go.Maps Go.ChangeMaps Go.WideShapes

theorem nine (i : Nat) (h : i < 9) : i = 0 ∨ i = 1 ∨ i = 2 ∨ i = 3 ∨ i = 4 ∨ i = 5 ∨ i = 6 ∨ i = 7 ∨ i = 8 := by omega
/-- of a new heap all is free -/
def HS.new : HS := ⟨fun _ => 0, fun _ => none, fun _ => none, [], 0⟩
def newHB (M : DiskM) (f n z m q z2 : Nat) : HB := ⟨z2 + 2, z, m, q, z2, z2 + 1, M.d, M.bs, M.bt, f, n, z2 + 3, M.T⟩
theorem newHB_ok (M : DiskM) (f n z m q z2 : Nat) (hf : f ≤ 2048) (hn : n ≤ 2048) (a1 : M.d < z) (a2 : M.bs < z) (a3 : M.bt < z) (a4 : M.d ≠ M.bs) (a5 : M.d ≠ M.bt) (a6 : M.bs ≠ M.bt) (b1 : z < m) (b2 : z < q) (b3 : m ≠ q) (b4 : m < z2) (b5 : q < z2) : (newHB M f n z m q z2).ok where
  nd := by
    intro i j hi hj hne e
    rcases nine i hi with rfl | rfl | rfl | rfl | rfl | rfl | rfl | rfl | rfl <;> rcases nine j hj with rfl | rfl | rfl | rfl | rfl | rfl | rfl | rfl | rfl <;> first | exact hne rfl | (simp only [HB.blk, newHB] at e; omega)
  lt := by
    intro i hi
    rcases nine i hi with rfl | rfl | rfl | rfl | rfl | rfl | rfl | rfl | rfl <;> (simp only [HB.blk, newHB]; omega)
  f := hf
  n := hn
/-- what New leaves behind grants.New -/
def heapWorld (M : DiskM) (z m : Nat) (w2 : World) : World := ((w2.alloc (.map #[] 0)).alloc (.map #[] 0)).alloc (.cells #[.pointer (some ⟨M.d, 0, none⟩), .pointer (some ⟨z, 0, none⟩), .pointer (some ⟨m, 0, none⟩), .map (some w2.heap.size), .map (some (w2.heap.size + 1)), .slice none 0 0, .int .i64 0] 85)
theorem newHeap (M : DiskM) (f n m q : Nat) (w w2 : World) (hf : f ≤ 2048) (hn : n ≤ 2048) (hM : DiskAt M w) (hMn : M.n = f + n) (m5 : M.armed = false) (m6 : M.dead = false) (m7 : M.left ≤ 2 ^ 62) (hm : MapAt m q f n (fun _ => 0) w2)
    (hg : Grew (fun _ => False) (w.alloc (.cells #[.int .i64 0, .slice none 0 0] 30)) w2) (h1 : w.heap.size < m) (h2 : w.heap.size < q) :
    (newHB M f n w.heap.size m q w2.heap.size).ok ∧ HeapI (newHB M f n w.heap.size m q w2.heap.size) HS.new (heapWorld M w.heap.size m w2) ∧ LogAt (newHB M f n w.heap.size m q w2.heap.size).B w.heap.size 0 (.slice none 0 0) [] (heapWorld M w.heap.size m w2) ∧ Grew (fun _ => False) w (heapWorld M w.heap.size m w2) := by
  have g0 : Grew (fun _ => False) w w2 := ((Grew.refl w).alloc _).trans hg
  have g1 : Grew (fun _ => False) w2 (w2.alloc (.map #[] 0)) := (Grew.refl w2).alloc _
  have g2 : Grew (fun _ => False) w2 ((w2.alloc (.map #[] 0)).alloc (.map #[] 0)) := g1.alloc _
  have g3 : Grew (fun _ => False) w2 (heapWorld M w.heap.size m w2) := g2.alloc _
  have g13 : Grew (fun _ => False) (w2.alloc (.map #[] 0)) (heapWorld M w.heap.size m w2) := ((Grew.refl (w2.alloc (.map #[] 0))).alloc _).alloc _
  have g23 : Grew (fun _ => False) ((w2.alloc (.map #[] 0)).alloc (.map #[] 0)) (heapWorld M w.heap.size m w2) := (Grew.refl _).alloc _
  have g03 := g0.trans g3
  have s1 : (w2.alloc (.map #[] 0)).heap.size = w2.heap.size + 1 := by simp
  have s2 : ((w2.alloc (.map #[] 0)).alloc (.map #[] 0)).heap.size = w2.heap.size + 2 := by simp
  have s3 : (heapWorld M w.heap.size m w2).heap.size = w2.heap.size + 3 := by simp [heapWorld]
  have hbx : (heapWorld M w.heap.size m w2).heap[w2.heap.size + 2]? = some (.cells #[.pointer (some ⟨M.d, 0, none⟩), .pointer (some ⟨w.heap.size, 0, none⟩), .pointer (some ⟨m, 0, none⟩), .map (some w2.heap.size), .map (some (w2.heap.size + 1)), .slice none 0 0, .int .i64 0] 85) := by
    rw [← s2]
    exact heap_alloc_new _ _
  have hlg := (log_new w (w2.heap.size + 3))
  have hL := (hlg.keep hg (fun e => e) fun _ _ e => e).keep g3 (fun e => e) fun _ _ e => e
  refine ⟨newHB_ok M f n _ m q _ hf hn hM.lt hM.sure.lt hM.there.lt hM.n1 hM.n2 hM.n3 h1 h2 hm.ne hm.ltm hm.ltg, ?_, hL, g03⟩
  refine ⟨?_, ?_, ?_, ?_, ?_, ⟨.slice none 0 0, ?_, World.ownsRow_nil _ _ _ _⟩, ?_, ?_, hm.keep g3 (fun e => e) fun e => e, ?_, ?_, ⟨M, hM.kept g03 (fun e => e) (fun e => e) fun e => e, rfl, rfl, rfl, hMn, m5, m6, m7, rfl⟩, ?_, ⟨_, _, _, hbx, by decide⟩, fun _ => ?_⟩
  · show (heapWorld M w.heap.size m w2).cell? ⟨w2.heap.size + 2, 0, none⟩ = _
    simp [World.cell?, hbx]
    rfl
  · show (heapWorld M w.heap.size m w2).cell? ⟨w2.heap.size + 2, 1, none⟩ = _
    simp [World.cell?, hbx]
    rfl
  · show (heapWorld M w.heap.size m w2).cell? ⟨w2.heap.size + 2, 2, none⟩ = _
    simp [World.cell?, hbx]
    rfl
  · show (heapWorld M w.heap.size m w2).cell? ⟨w2.heap.size + 2, 3, none⟩ = _
    simp [World.cell?, hbx]
    rfl
  · show (heapWorld M w.heap.size m w2).cell? ⟨w2.heap.size + 2, 4, none⟩ = _
    simp [World.cell?, hbx]
    rfl
  · show (heapWorld M w.heap.size m w2).cell? ⟨w2.heap.size + 2, 5, none⟩ = _
    simp [World.cell?, hbx]
  · show (heapWorld M w.heap.size m w2).cell? ⟨w2.heap.size + 2, 6, none⟩ = _
    simp [World.cell?, hbx]
    rfl
  · intro o
    show (heapWorld M w.heap.size m w2).frozen? ⟨w2.heap.size + 2, o, none⟩ = false
    simp [World.frozen?, hbx]
  · exact (Tab.made (tblII Try.prog) _ w2).keep g13 fun e => e
  · have := (Tab.made (tblIU Try.prog) (newHB M f n w.heap.size m q w2.heap.size).keys (w2.alloc (.map #[] 0))).keep g23 fun e => e
    rw [s1] at this
    exact this
  · show w2.heap.size + 3 ≤ _
    omega
  · show (heapWorld M w.heap.size m w2).cell? ⟨w2.heap.size + 2, 5, none⟩ = _
    simp [World.cell?, hbx]
set_option maxRecDepth 100000 in
theorem hNewT_any (M : DiskM) (f n : Nat) (w : World) (hf : f ≤ 2048) (hn : n ≤ 2048) (hM : DiskAt M w) (hMn : M.n = f + n) (m5 : M.armed = false) (m6 : M.dead = false) (m7 : M.left ≤ 2 ^ 62) : Calls Try.prog 16 #[.pointer (some ⟨M.d, 0, none⟩), .int .i64 f] w fun e w' => ∃ b : HB, e = .returned (.pointer (some ⟨b.hb, 0, none⟩)) ∧ b.ok ∧ b.f = f ∧ b.n = n ∧ b.d = M.d ∧ HeapI b HS.new w' ∧ LogAt b.B b.g 0 (.slice none 0 0) [] w' ∧ Grew (fun _ => False) w w' ∧ b.B ≤ w'.heap.size ∧ (∀ i, i < 6 → w.heap.size ≤ b.blk i) ∧ b.bs = M.bs ∧ b.bt = M.bt ∧ b.T = M.T := by
  have HLen := Lib.hid (len_any M (w.alloc (.cells #[.int .i64 0, .slice none 0 0] 30)) (hM.kept ((Grew.refl (S := fun _ => False) w).alloc _) (fun e => e) (fun e => e) fun e => e))
  rw [hMn] at HLen
  have HMap := Lib.hid (new_map f n (w.alloc (.cells #[.int .i64 0, .slice none 0 0] 30)) (Nat.le_trans hf (by decide)) (Nat.le_trans hn (by decide)))
  have HN : Hid (∀ w2 m q, MapAt m q f n (fun _ => 0) w2 → Below (w.alloc (.cells #[.int .i64 0, .slice none 0 0] 30)).heap.size (w.alloc (.cells #[.int .i64 0, .slice none 0 0] 30)) w2 → (w.alloc (.cells #[.int .i64 0, .slice none 0 0] 30)).heap.size ≤ m → (w.alloc (.cells #[.int .i64 0, .slice none 0 0] 30)).heap.size ≤ q → ∃ b : HB, b.hb = w2.heap.size + 2 ∧ b.ok ∧ b.f = f ∧ b.n = n ∧ b.d = M.d ∧ HeapI b HS.new (heapWorld M w.heap.size m w2) ∧ LogAt b.B b.g 0 (.slice none 0 0) [] (heapWorld M w.heap.size m w2) ∧ Grew (fun _ => False) w (heapWorld M w.heap.size m w2) ∧ b.B ≤ (heapWorld M w.heap.size m w2).heap.size ∧ (∀ i, i < 6 → w.heap.size ≤ b.blk i) ∧ b.bs = M.bs ∧ b.bt = M.bt ∧ b.T = M.T) := Lib.hid fun w2 m q hm hb h1 h2 => by
    have s1 : (w.alloc (.cells #[.int .i64 0, .slice none 0 0] 30)).heap.size = w.heap.size + 1 := by simp
    obtain ⟨a1, a2, a3, a4⟩ := newHeap M f n m q w w2 hf hn hM hMn m5 m6 m7 hm (Grew.of_below hb) (by omega) (by omega)
    have hsz := hb.size
    refine ⟨_, rfl, a1, rfl, rfl, rfl, a2, a3, a4, a2.sz, fun i hi => ?_, rfl, rfl, rfl⟩
    have h6 : i = 0 ∨ i = 1 ∨ i = 2 ∨ i = 3 ∨ i = 4 ∨ i = 5 := by omega
    rcases h6 with rfl | rfl | rfl | rfl | rfl | rfl <;> (simp only [HB.blk, newHB]; omega)
  have hmm := @run_makeMap Try.prog
  clear hM hMn m5 m6 m7 hf hn
  go_enter Try.func16, Try.ntmps16
  go_wp2_with fail
  refine HLen.out.mono ?_
  rintro e w' ⟨rfl, rfl⟩
  go_wp2_with fail
  refine HMap.out.mono ?_
  rintro e w2 ⟨m, q, rfl, hm, hb, h1, h2⟩
  have HX := Lib.hid (HN.out w2 m q hm hb h1 h2)
  clear hm hb h1 h2 HN HMap HLen
  go_wp2_with fail
  go_ret
  obtain ⟨b, e, r⟩ := HX.out
  exact ⟨b, by rw [e]; rfl, r⟩
theorem hNew_any (M : DiskM) (f n : Nat) (w : World) (hf : f ≤ 2048) (hn : n ≤ 2048) (hM : DiskAt M w) (hMn : M.n = f + n) (m5 : M.armed = false) (m6 : M.dead = false) (m7 : M.left ≤ 2 ^ 62) : Calls Try.prog 16 #[.pointer (some ⟨M.d, 0, none⟩), .int .i64 f] w fun e w' => ∃ b : HB, e = .returned (.pointer (some ⟨b.hb, 0, none⟩)) ∧ b.ok ∧ b.f = f ∧ b.n = n ∧ b.d = M.d ∧ HeapI b HS.new w' ∧ LogAt b.B b.g 0 (.slice none 0 0) [] w' ∧ Grew (fun _ => False) w w' ∧ b.B ≤ w'.heap.size ∧ (∀ i, i < 6 → w.heap.size ≤ b.blk i) ∧ b.bs = M.bs ∧ b.bt = M.bt := by
  refine (hNewT_any M f n w hf hn hM hMn m5 m6 m7).mono ?_
  rintro e w' ⟨b, h1, h2, h3, h4, h5, h6, h7, h8, h9, h10, h11, h12, _⟩
  exact ⟨b, h1, h2, h3, h4, h5, h6, h7, h8, h9, h10, h11, h12⟩
end Go.Proofs.Ytjjmapmombhmlaa
