/-
  HeapFull: for all numbers the law answers true.
-/
import Derived.Test.YtemnkffaapljpaaHeapFull4
import Derived.Test.YtemnkffaapljpaaHeapAwake
import Derived.Laws.BitsAllLaws
import Derived.Laws.OwnMore
import Derived.BigRegion
import Derived.Deep.RegionHeld3
namespace Go.Proofs.Ytemnkffaapljpaa
open Go.RowKit Go.Maps Go.ChangeMaps Go.WideShapes

theorem maskF (k : Int) (n : Nat) (hn : n < 4294967296) : ∃ p : Nat, bits .and .i64 k (n : Int) = (p : Int) ∧ p ≤ n := by
  have h : (BitVec.ofInt 64 k &&& BitVec.ofInt 64 n).toNat ≤ n := by
    rw [BitVec.toNat_and]
    refine Nat.le_trans Nat.and_le_right ?_
    rw [BitVec.toNat_ofInt]
    omega
  refine ⟨(BitVec.ofInt 64 k &&& BitVec.ofInt 64 n).toNat, ?_, h⟩
  show IntKind.i64.wrap ((BitVec.ofInt 64 k &&& BitVec.ofInt 64 n).toNat : Int) = _
  generalize (BitVec.ofInt 64 k &&& BitVec.ofInt 64 n).toNat = y at *
  simp only [IntKind.wrap, IntKind.bits, IntKind.signed]
  simp
  omega
set_option maxRecDepth 100000 in
set_option maxHeartbeats 4000000 in
theorem heapFull_walk (a0 a1 : Int) (F : Bool) (w : World) :
    Calls Try.prog 6 #[.int .i64 a0, .int .i64 a1, .bool F] w fun e w' => e = .returned (.bool true) ∧ Below w.heap.size w w' := by
  have hmf : ∀ (fn : Fn) (first cap : Array Value) (w : World), (Instr.makeFunc fn first cap).run Try.prog w = .ok (.func fn first cap) w := fun _ _ _ _ => rfl
  obtain ⟨p0, h0, q0⟩ := maskF a0 255 (by decide)
  obtain ⟨p1, h1, q1⟩ := maskF a1 255 (by decide)
  have h0 : bits .and .i64 a0 255 = (p0 : Int) := h0
  have h1 : bits .and .i64 a1 255 = (p1 : Int) := h1
  obtain ⟨n, hn⟩ : ∃ n, p0 % 31 = n := ⟨_, rfl⟩
  obtain ⟨kp, hkp⟩ : ∃ n, p1 % 35 = n := ⟨_, rfl⟩
  have t0 : (p0 : Int).tmod 31 = (n : Int) := by rw [Int.tmod_eq_emod_of_nonneg (by omega)]; omega
  have t1 : (p1 : Int).tmod 35 = (kp : Int) := by rw [Int.tmod_eq_emod_of_nonneg (by omega)]; omega
  have hn31 : n < 31 := by omega
  have hk35 : kp < 35 := by omega
  clear q0 q1 hn hkp
  obtain ⟨W0, hW0⟩ : ∃ W0, ((w.alloc (.cells #[.int .i64 a0] 3)).alloc (.cells #[.int .i64 a1] 3)).alloc (.cells #[.bool F] 4) = W0 := ⟨_, rfl⟩
  have s1 : (w.alloc (.cells #[.int .i64 a0] 3)).heap.size = w.heap.size + 1 := by simp
  have s2 : ((w.alloc (.cells #[.int .i64 a0] 3)).alloc (.cells #[.int .i64 a1] 3)).heap.size = w.heap.size + 1 + 1 := by simp
  have HB0 : Hid (Box w.heap.size 3 (.int .i64 a0) W0 ∧ Box (w.heap.size + 1) 3 (.int .i64 a1) W0 ∧ Box (w.heap.size + 1 + 1) 4 (.bool F) W0 ∧ Grew (fun _ => False) w W0 ∧ W0.heap.size = w.heap.size + 3) := Lib.hid (by
    rw [← hW0]
    have x1 := Box.new w 3 (.int .i64 a0)
    have x2 := Box.new (w.alloc (.cells #[.int .i64 a0] 3)) 3 (.int .i64 a1)
    have x3 := Box.new ((w.alloc (.cells #[.int .i64 a0] 3)).alloc (.cells #[.int .i64 a1] 3)) 4 (.bool F)
    rw [s1] at x2
    rw [s2] at x3
    exact ⟨(x1.keepAlloc _).keepAlloc _, x2.keepAlloc _, x3, (((Grew.refl w).alloc _).alloc _).alloc _, by simp⟩)
  clear s1 s2
  go_enter Try.func6, Try.ntmps6
  go_upto_region 1 with fail
  clear hW0
  go_wp2_with fail
  refine (heapAwake _).mono ?_
  rintro e w1 ⟨rfl, hb1⟩
  have HB1 : Hid (Box w.heap.size 3 (.int .i64 a0) w1 ∧ Box (w.heap.size + 1) 3 (.int .i64 a1) w1 ∧ Box (w.heap.size + 1 + 1) 4 (.bool F) w1 ∧ Grew (fun _ => False) w w1 ∧ w.heap.size + 3 ≤ w1.heap.size) := Lib.hid (by
    obtain ⟨x1, x2, x3, g, z⟩ := HB0.out
    have g1 := Grew.of_below (S := fun _ => False) hb1
    exact ⟨x1.keep g1 fun e => e, x2.keep g1 fun e => e, x3.keep g1 fun e => e, g.trans g1, by have := g1.size; omega⟩)
  have c0 := HB1.out.1.cell
  have c1 := HB1.out.2.1.cell
  have z0 := HB1.out.1.free
  have z1 := HB1.out.2.1.free
  clear hb1 HB0
  go_wp2_with fail
  go_region
  have HB2 : Hid (Box w.heap.size 3 (.int .i64 (n : Int)) ((w1.setCell ⟨w.heap.size, 0, none⟩ (.int .i64 (n : Int))).setCell ⟨w.heap.size + 1, 0, none⟩ (.int .i64 (kp : Int))).drew ∧ Box (w.heap.size + 1) 3 (.int .i64 (kp : Int)) ((w1.setCell ⟨w.heap.size, 0, none⟩ (.int .i64 (n : Int))).setCell ⟨w.heap.size + 1, 0, none⟩ (.int .i64 (kp : Int))).drew ∧ Box (w.heap.size + 1 + 1) 4 (.bool F) ((w1.setCell ⟨w.heap.size, 0, none⟩ (.int .i64 (n : Int))).setCell ⟨w.heap.size + 1, 0, none⟩ (.int .i64 (kp : Int))).drew ∧ Grew (fun q => w.heap.size ≤ q) w ((w1.setCell ⟨w.heap.size, 0, none⟩ (.int .i64 (n : Int))).setCell ⟨w.heap.size + 1, 0, none⟩ (.int .i64 (kp : Int))).drew ∧ w.heap.size + 3 ≤ ((w1.setCell ⟨w.heap.size, 0, none⟩ (.int .i64 (n : Int))).setCell ⟨w.heap.size + 1, 0, none⟩ (.int .i64 (kp : Int))).drew.heap.size) := Lib.hid (by
    obtain ⟨x1, x2, x3, g, z⟩ := HB1.out
    have hd : ∀ (wx : World), wx.drew.heap = wx.heap := fun _ => rfl
    have g2 : Grew (fun q => w.heap.size ≤ q) w w1 := g.mono fun _ _ e => e.elim
    refine ⟨?_, ?_, ?_, ((g2.setCell ⟨w.heap.size, 0, none⟩ (.int .i64 (n : Int)) fun _ => Nat.le_refl _).setCell ⟨w.heap.size + 1, 0, none⟩ (.int .i64 (kp : Int)) fun _ => Nat.le_succ _).drew, ?_⟩
    · unfold Box; rw [hd]; exact (x1.set _).keepSet _ _ _ (by omega)
    · unfold Box; rw [hd]; exact (x2.keepSet _ _ _ (by omega)).set _
    · unfold Box; rw [hd]; exact (x3.keepSet _ _ _ (by omega)).keepSet _ _ _ (by omega)
    · rw [hd, World.size_setCell, World.size_setCell]; exact z)
  generalize ((w1.setCell ⟨w.heap.size, 0, none⟩ (.int .i64 (n : Int))).setCell ⟨w.heap.size + 1, 0, none⟩ (.int .i64 (kp : Int))).drew = W1 at *
  have c2 := HB2.out.1.cell
  clear c0 c1 z0 z1 HB1 h0 h1 t0 t1
  go_wp2_with fail
  refine (new_any _ W1).mono ?_
  rintro e w2 ⟨M, rfl, hM⟩
  have hMn : M.n = 2 + n ∧ M.armed = false ∧ M.dead = false ∧ M.left ≤ 2 ^ 62 := by
    obtain ⟨d, bs, bt, e⟩ := hM.is
    rw [e]
    exact ⟨by show diskLen _ = 2 + n; unfold diskLen; omega, rfl, rfl, by show (0 : Int) ≤ 2 ^ 62; decide⟩
  have HNew : Hid (Calls Try.prog 26 #[.pointer (some ⟨M.d, 0, none⟩), .int .i64 2] w2 fun e w' => ∃ b : HB, e = .returned (.pointer (some ⟨b.hb, 0, none⟩)) ∧ b.ok ∧ b.f = 2 ∧ b.n = n ∧ b.d = M.d ∧ HeapI b HS.new w' ∧ LogAt b.B b.g 0 (.slice none 0 0) [] w' ∧ Grew (fun _ => False) w2 w' ∧ b.B ≤ w'.heap.size ∧ (∀ i, i < 6 → w2.heap.size ≤ b.blk i) ∧ b.bs = M.bs ∧ b.bt = M.bt) := Lib.hid (hNew_any M 2 n w2 (by decide) (by omega) hM.at' hMn.1 hMn.2.1 hMn.2.2.1 hMn.2.2.2)
  have HM := Lib.hid hM
  clear hM hMn c2
  go_wp2_with fail
  refine HNew.out.mono ?_
  rintro e w3 ⟨b, rfl, ok, hbf, hbn, hbd, hI, hL, hg, hB, hfr, hbs, hbt⟩
  obtain ⟨xh, hxh⟩ : ∃ x, w3.heap.size = x := ⟨_, rfl⟩
  obtain ⟨W, hW⟩ : ∃ W, ((w3.alloc (.cells #[.pointer (some ⟨b.hb, 0, none⟩)] 54)).alloc (.cells #[] 3)).alloc (.cells #[.slice (some ⟨w3.heap.size + 1, 0, none⟩) 0 0] 51) = W := ⟨_, rfl⟩
  have hgM : Grew (fun _ => False) W1 w2 := HM.out.grew _
  have hsz1 : W1.heap.size ≤ w2.heap.size := hgM.size
  have hsz2 : w2.heap.size ≤ w3.heap.size := hg.size
  have own : ∀ k, b.S0 k → W1.heap.size ≤ k := fun k hk => by
    obtain ⟨i, hi, rfl⟩ := hk
    by_cases h6 : i < 6
    · exact Nat.le_trans hsz1 (hfr i h6)
    · have h9 : i = 6 ∨ i = 7 ∨ i = 8 := by omega
      rcases h9 with rfl | rfl | rfl
      · exact HM.out.fresh _ (Or.inl hbd)
      · exact HM.out.fresh _ (Or.inr (Or.inl hbs))
      · exact HM.out.fresh _ (Or.inr (Or.inr hbt))
  have hnB : W1.heap.size < b.B := Nat.lt_of_le_of_lt (own _ ⟨0, by decide, rfl⟩) (ok.lt 0 (by decide))
  have hz := HB2.out.2.2.2.2
  have P : FulP b xh (w.heap.size + 1) w.heap.size (w.heap.size + 1 + 1) (xh + 1 + 1) w.heap.size := by
    refine ⟨fun k hk => ?_, ⟨by omega, by omega⟩, ⟨by omega, by omega⟩, fun k hk => by have := own k hk; omega⟩
    rcases hk with rfl | rfl | rfl | rfl | rfl
    · exact HB.far ok (by omega)
    · exact fun e => by have := own _ e; omega
    · exact fun e => by have := own _ e; omega
    · exact fun e => by have := own _ e; omega
    · exact HB.far ok (by omega)
  have s1 : (w3.alloc (.cells #[.pointer (some ⟨b.hb, 0, none⟩)] 54)).heap.size = w3.heap.size + 1 := by simp
  have s2 : ((w3.alloc (.cells #[.pointer (some ⟨b.hb, 0, none⟩)] 54)).alloc (.cells #[] 3)).heap.size = w3.heap.size + 1 + 1 := by simp
  have gW : Grew (fun _ => False) w3 W := by rw [← hW]; exact (((Grew.refl w3).alloc _).alloc _).alloc _
  have gAll : Grew (fun _ => False) W1 W := (hgM.trans hg).trans gW
  have iW : HeapI b HS.new W := hI.keep gW (fun _ _ e => e) fun _ _ _ e => e
  have lW : LogAt b.B b.g 0 (.slice none 0 0) [] W := hL.keep gW (fun e => e) fun _ _ e => e
  have hA : Ful b xh (w.heap.size + 1) w.heap.size (w.heap.size + 1 + 1) (xh + 1 + 1) w.heap.size kp n F (fun _ => False) (.slice (some ⟨w3.heap.size + 1, 0, none⟩) 0 0) 0 w W := by
    obtain ⟨y1, y2, y3, y4, _⟩ := HB2.out
    have bl := Box.new ((w3.alloc (.cells #[.pointer (some ⟨b.hb, 0, none⟩)] 54)).alloc (.cells #[] 3)) 51 (.slice (some ⟨w3.heap.size + 1, 0, none⟩) 0 0)
    rw [s2] at bl
    have ol := World.ownsRow_lit (base := b.B) (e := 3) (size := 1) (w3.alloc (.cells #[.pointer (some ⟨b.hb, 0, none⟩)] 54)) #[] 0 (by rw [s1]; omega) (by decide) rfl
    rw [s1] at ol
    refine ⟨?_, y2.keep gAll fun e => e, y1.keep gAll fun e => e, y3.keep gAll fun e => e, ?_, ?_, y4.trans (gAll.mono fun _ _ e => e.elim), fun _ e => e.elim⟩
    · rw [← hW, ← hxh]
      exact ((Box.new w3 _ _).keepAlloc _).keepAlloc _
    · rw [← hW, ← hxh]
      exact bl
    · rw [← hW]
      exact ol.alloc _
  have HT1 := Lib.hid (fullTry1 ok hbn (by omega) (by omega) P W iW lW hA)
  have d1 := hA.bh.cell
  have HP := Lib.hid P
  have HOk := Lib.hid (And.intro ok hbn)
  clear hbf hbd hI hL hg hB hfr hbs hbt hgM hsz1 hsz2 own hnB hz s1 s2 gW gAll iW lW hA P HB2 HM HNew ok hbn
  go_upto_region 6 with fail
  rw [hxh] at hW
  rw [hW]
  clear hW hxh
  go_wp2_with fail
  refine HT1.out.mono ?_
  rintro e w5 ⟨rfl, hI5, hL5, lv, hf5⟩
  have d2 := hf5.bh.cell
  have HT2 := Lib.hid (fullTry2 HOk.out.1 HOk.out.2 HP.out w5 hI5 hL5 hf5)
  clear hI5 hL5 hf5 HT1 d1
  go_wp2_with fail
  refine HT2.out.mono ?_
  rintro e w6 ⟨rfl, hI6, hL6, hf6⟩
  obtain ⟨_, a, c, hoo⟩ := rowOwn hf6.row
  have hoo : lv = .slice a (n - kp) c := hoo
  subst hoo
  have HI6 : Hid (HeapI b (fullS b.f kp (n - kp)) w6.drew) := Lib.hid hI6.drew
  have HT3 := Lib.hid (fullTry3 HOk.out.1 HOk.out.2 (by omega) HP.out w6.drew hI6.drew hL6.drew' hf6.drew)
  have HC6 : Hid (w6.drew.cell? ⟨xh, 0, none⟩ = some (.pointer (some ⟨b.hb, 0, none⟩)) ∧ w6.drew.cell? ⟨xh + 1 + 1, 0, none⟩ = some (.slice a (n - kp) c) ∧ w6.drew.cell? ⟨w.heap.size, 0, none⟩ = some (.int .i64 (n : Int)) ∧ w6.drew.cell? ⟨w.heap.size + 1, 0, none⟩ = some (.int .i64 (kp : Int))) := Lib.hid ⟨hf6.drew.bh.cell, hf6.drew.bl.cell, hf6.drew.bn.cell, hf6.drew.bk.cell⟩
  have HHe : Hid (Calls Try.prog 31 #[.pointer (some ⟨b.hb, 0, none⟩)] w6.drew fun e w' => e = .returned (.int .i64 ((n - kp : Nat) : Int)) ∧ w6.drew = w') := Lib.hid (by
    have h := hHeld_any b HOk.out.1 _ w6.drew HI6.out
    rw [show cnt (fullS b.f kp (n - kp)).S 1 b.n = n - kp from (cnt_less (n - kp) b.n (by have := HOk.out.2; omega)).2] at h
    exact h)
  have HMx : Hid (((n - kp : Nat) : Int) = max 0 ((n : Int) - (kp : Int))) := Lib.hid (by omega)
  clear hI6 hL6 hf6 HT2 d2
  obtain ⟨m, hm⟩ : ∃ m, n - kp = m := ⟨_, rfl⟩
  rw [hm] at HT3 HC6 HHe HMx
  have HM := Lib.hid hm
  clear hm HI6
  obtain ⟨Z, hZ⟩ : ∃ Z : Int, (n : Int) - (kp : Int) = Z := ⟨_, rfl⟩
  have hwr : IntKind.i64.wrap ((n : Int) - (kp : Int)) = Z := by
    rw [← hZ]
    simp only [IntKind.wrap, IntKind.bits, IntKind.signed]
    simp
    omega
  rw [hZ] at HMx
  have hmx : ∀ (ts : Array TypeId) (t : TypeId) (wx : World), (Builtin.max_ ts t #[.int .i64 0, .int .i64 Z]).run Try.prog wx = .ok (.int .i64 (m : Int)) wx := fun ts t wx => run_max2 _ wx ts t _ _ _ HMx.out
  clear hZ
  go_wp2_with fail
  go_region_held3 (fun wx => wx.cell? ⟨xh, 0, none⟩ = some (.pointer (some ⟨b.hb, 0, none⟩)) ∧ wx.cell? ⟨xh + 1 + 1, 0, none⟩ = some (.slice a m c) ∧ wx.cell? ⟨w.heap.size, 0, none⟩ = some (.int .i64 (n : Int)) ∧ wx.cell? ⟨w.heap.size + 1, 0, none⟩ = some (.int .i64 (kp : Int)))
    (first | exact HC6.out) (first | (go_at_call 31; refine HHe.out.mono ?_; rintro e w' ⟨rfl, rfl⟩))
  obtain ⟨d3, _⟩ := HC6.out
  clear hmx HMx HHe HC6 hwr
  go_wp2_with fail
  refine HT3.out.mono ?_
  rintro e w7 ⟨rfl, b', a2, c2, hhb, hbf', hbn', ok', hF⟩
  have d4 := hF.fl.bf.cell
  have HC7 : Hid (w7.drew.cell? ⟨xh, 0, none⟩ = some (.pointer (some ⟨b'.hb, 0, none⟩)) ∧ w7.drew.cell? ⟨xh + 1 + 1, 0, none⟩ = some (.slice a2 m c2) ∧ w7.drew.cell? ⟨w.heap.size, 0, none⟩ = some (.int .i64 (n : Int))) := Lib.hid ⟨hF.fl.bh.cell, hF.fl.bl.cell, hF.bn.cell⟩
  have HBel : Hid (Below w.heap.size w w7.drew) := Lib.hid (hF.gr.below (Below.refl _ w) (Nat.le_refl _) fun _ e => e).drew
  have hmn : m ≤ b'.n := by have := HM.out; omega
  have HI7 := Lib.hid hF.st
  have HF' := Lib.hid (And.intro hbf' (And.intro hbn' ok'))
  have HMn := Lib.hid hmn
  clear hF hhb hbf' hbn' ok' hmn HT3 d3 HM
  cases F with
  | true =>
    have HHe : Hid (Calls Try.prog 31 #[.pointer (some ⟨b'.hb, 0, none⟩)] w7.drew fun e w' => e = .returned (.int .i64 (m : Int)) ∧ w7.drew = w') := Lib.hid (by
      have h := hHeld_any b' HF'.out.2.2 _ w7.drew HI7.out.drew
      rw [if_pos rfl, show cnt (fullS b.f kp m).S 1 b'.n = m from (cnt_less m b'.n HMn.out).2] at h
      exact h)
    have HLa : Hid (Calls Try.prog 36 #[.pointer (some ⟨b'.hb, 0, none⟩)] w7.drew fun e w' => e = .returned (.int .i64 0) ∧ w7.drew = w') := Lib.hid (by
      have h := hLate_any b' HF'.out.2.2 _ w7.drew HI7.out.drew
      rw [if_pos rfl, show cnt (fullS b.f kp m).S 2 b'.n = 0 from cnt_none _ 2 b'.n fun i _ => by show ¬ (if i < m then 1 else 0) = 2; split <;> decide] at h
      exact h)
    clear HI7 HF' HMn
    go_wp2_with fail
    go_region_held3 (fun wx => wx.cell? ⟨xh, 0, none⟩ = some (.pointer (some ⟨b'.hb, 0, none⟩)) ∧ wx.cell? ⟨xh + 1 + 1, 0, none⟩ = some (.slice a2 m c2) ∧ wx.cell? ⟨w.heap.size, 0, none⟩ = some (.int .i64 (n : Int)))
      (first | exact HC7.out) (first | (go_at_call 31; refine HHe.out.mono ?_; rintro e w' ⟨rfl, rfl⟩) | (go_at_call 36; refine HLa.out.mono ?_; rintro e w' ⟨rfl, rfl⟩))
    all_goals
      go_wp2_with fail
      go_ret
      exact ⟨rfl, HBel.out⟩
  | false =>
    have hfin := less_fin b' kp m
    rw [HF'.out.1] at hfin
    have HHe : Hid (Calls Try.prog 31 #[.pointer (some ⟨b'.hb, 0, none⟩)] w7.drew fun e w' => e = .returned (.int .i64 0) ∧ w7.drew = w') := Lib.hid (by
      have h := hHeld_any b' HF'.out.2.2 _ w7.drew HI7.out.drew
      rw [if_neg (by decide), hfin, (cnt_all0 0 b'.n).2 1 (by decide)] at h
      exact h)
    have HFr : Hid (Calls Try.prog 32 #[.pointer (some ⟨b'.hb, 0, none⟩)] w7.drew fun e w' => e = .returned (.int .i64 (n : Int)) ∧ w7.drew = w') := Lib.hid (by
      have h := hFree_any b' HF'.out.2.2 _ w7.drew HI7.out.drew
      rw [if_neg (by decide), hfin, (cnt_all0 0 b'.n).1, HF'.out.2.1] at h
      exact h)
    clear HI7 HF' HMn hfin
    go_wp2_with fail
    go_region_held3 (fun wx => wx.cell? ⟨xh, 0, none⟩ = some (.pointer (some ⟨b'.hb, 0, none⟩)) ∧ wx.cell? ⟨xh + 1 + 1, 0, none⟩ = some (.slice a2 m c2) ∧ wx.cell? ⟨w.heap.size, 0, none⟩ = some (.int .i64 (n : Int)))
      (first | exact HC7.out) (first | (go_at_call 31; refine HHe.out.mono ?_; rintro e w' ⟨rfl, rfl⟩) | (go_at_call 32; refine HFr.out.mono ?_; rintro e w' ⟨rfl, rfl⟩))
    all_goals
      go_wp2_with fail
      go_ret
      exact ⟨rfl, HBel.out⟩
end Go.Proofs.Ytemnkffaapljpaa
