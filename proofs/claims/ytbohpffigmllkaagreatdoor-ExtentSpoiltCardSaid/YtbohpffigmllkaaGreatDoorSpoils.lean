/-
  Texts put together: GrantsAll, ExtBad, ExtSpTry, ExtSpAt.
-/
import Derived.Test.YtbohpffigmllkaaGreatDoorHeapA
import Derived.Test.YtbohpffigmllkaaGreatDoorExtGets
import Derived.Deep.RegionHeld3
import Derived.Deep.RegionWith
import Derived.Test.YtbohpffigmllkaaGreatDoorClashes
/-
  All: those that are held, rising: contract.
-/
namespace Go.Proofs.YtbohpffigmllkaaGreatDoor
open Go.RowKit Go.Maps Go.ChangeMaps Go.WideShapes

/-- those that are held among the first ones -/
def allL (f : Nat) (S : Nat → Nat) : Nat → List Value
  | 0 => []
  | j + 1 => if S j = 1 then allL f S j ++ [.int .i64 ((f : Int) + (j : Int))] else allL f S j
set_option maxRecDepth 10000 in
set_option maxHeartbeats 1000000 in
theorem all_any (m g f n : Nat) (S : Nat → Nat) (w : World) (h : MapAt m g f n S w) (hf : f ≤ 4096) (hn : n ≤ 4096) :
    Calls Tryz.prog 79 #[.pointer (some ⟨m, 0, none⟩)] w fun e w' => (∃ a c, e = .returned (.slice a (cnt S 1 n) c) ∧ w'.ownsRow w.heap.size 3 1 (.slice a (cnt S 1 n) c) (cnt S 1 n) (allL f S n)) ∧ Below w.heap.size w w' := by
  have c1 := h.c1
  have H := Lib.hid h
  clear h
  go_enter Tryz.func79, Tryz.ntmps79
  obtain ⟨i0, hi, hz0, hz1, hz2⟩ := info_parts infoInt
  have HI0 := Lib.hid hi
  have HI1 := Lib.hid hz0
  have HI2 := Lib.hid hz1
  have HI3 := Lib.hid hz2
  clear hi hz0 hz1 hz2
  go_wp2_with fail
  go_loopw [3, 11] (fun v i wx => ∃ j : Nat, j ≤ n ∧ i = .int .i64 j ∧ wx.ownsRow w.heap.size 3 1 v (cnt S 1 j) (allL f S j) ∧ Below w.heap.size w wx) (fun _ i _ => n - (intOf i).toNat)
  case atStart => exact ⟨0, by omega, rfl, by simp [World.ownsRow, cnt, allL], Below.refl _ _⟩
  case round =>
    obtain ⟨j, hj, rfl, hown, hB⟩ := hrel
    have HO := Lib.hid hown
    have HB := Lib.hid hB
    clear hown hB
    by_cases hlt : j < n
    · have hi1 : (j : Int) < (n : Int) := by omega
      have hi0 : (0 : Int) ≤ (j : Int) := by omega
      have hcell := (H.out.below HB.out).row.cell hlt
      have hc0 := (H.out.below HB.out).c0
      have hc2 := cnt_le S 1 j
      have e9 : IntKind.i64.wrap ((f : Int) + (j : Int)) = (f : Int) + (j : Int) := IntWalk.i64_in _ (by omega)
      by_cases e : S j = 1
      · have HAl : Hid (allL f S (j + 1) = allL f S j ++ [.int .i64 ((f : Int) + (j : Int))]) := Lib.hid (if_pos e)
        have HC : Hid (cnt S 1 (j + 1) = cnt S 1 j + 1) := Lib.hid (by show cnt S 1 j + _ = _; rw [if_pos e])
        have e2 : ((S j : Nat) : Int) = 1 := by omega
        generalize cnt S 1 j = c at *
        generalize allL f S j = xs at *
        go_wp2_with (at_builtin; refine wpList_append_own _ rfl _ _ 54 rfl w.heap.size 3 i0 (.int .i64 0) 1 8 Tryz.underlying54 HI0.out HI1.out HI2.out HI3.out rfl (by decide) _ _ _ rfl (HO.out.alloc _) ⟨wr.heap.size, 0, none⟩ 1 1 [.int .i64 ((f : Int) + (j : Int))] rfl rfl ?c1 ?c2 ?c3 ?c4 ?c5 ?_)
        case c1 => exact news_one wr _ _
        case c2 => first | rfl | (intro u hu; simp at hu; subst hu; rfl)
        case c3 => first | omega | (unfold maxLen; omega)
        case c4 => omega
        case c5 => have := HB.out.size; first | omega | (simp; omega)
        · intro v' w1 hown' hgrow _
          have HO1 := Lib.hid hown'
          have HB1 := Lib.hid ((HB.out.alloc HB.out.size (.cells #[.int .i64 ((f : Int) + (j : Int))] 3)).grown hgrow (by have := HB.out.size; simp; omega) (rowOwn HO.out).1)
          clear hown' hgrow
          go_wp2
          go_roundw
          case rel => exact ⟨j + 1, by omega, by go_num, by rw [HC.out, HAl.out]; exact HO1.out, HB1.out⟩
          case measure => simp [intOf]; omega
      · have HAl : Hid (allL f S (j + 1) = allL f S j) := Lib.hid (if_neg e)
        have HC : Hid (cnt S 1 (j + 1) = cnt S 1 j) := Lib.hid (by show cnt S 1 j + _ = _; rw [if_neg e]; rfl)
        have e2 : ¬ ((S j : Nat) : Int) = 1 := by omega
        generalize cnt S 1 j = c at *
        generalize S j = q at *
        have e3 : ((q : Int) == 1) = false := by rw [beq_eq_false_iff_ne]; exact e2
        go_wp2_with fail
        go_roundw
        case rel => exact ⟨j + 1, by omega, by go_num, by rw [HC.out, HAl.out]; exact HO.out, HB.out⟩
        case measure => simp [intOf]; omega
    · obtain rfl : j = n := by omega
      have hi1 : ¬ (j : Int) < (j : Int) := by omega
      obtain ⟨_, a, c, rfl⟩ := rowOwn HO.out
      go_wp2_with fail
      go_ret
      exact ⟨⟨a, c, rfl, HO.out⟩, HB.out⟩
theorem hAll_any (b : HB) (ok : b.ok) (s : HS) (w : World) (h : HeapI b s w) : Calls Tryz.prog 37 #[.pointer (some ⟨b.hb, 0, none⟩)] w fun e w' => (∃ a c, e = .returned (.slice a (cnt s.S 1 b.n) c) ∧ w'.ownsRow w.heap.size 3 1 (.slice a (cnt s.S 1 b.n) c) (cnt s.S 1 b.n) (allL b.f s.S b.n)) ∧ Below w.heap.size w w' := by
  have HH := Lib.hid (all_any b.m b.q b.f b.n s.S w h.gr (Nat.le_trans ok.f (by decide)) (Nat.le_trans ok.n (by decide)))
  have c2 := h.c2
  generalize cnt s.S 1 b.n = x at *
  generalize allL b.f s.S b.n = xs at *
  clear h
  go_enter Tryz.func37, Tryz.ntmps37
  go_wp2_with fail
  refine HH.out.mono ?_
  rintro e w' ⟨⟨a, c, rfl, ho⟩, hb⟩
  have HX := Lib.hid (And.intro ho hb)
  clear ho hb
  go_wp2_with fail
  go_ret
  exact ⟨⟨a, c, rfl, HX.out.1⟩, HX.out.2⟩
/-- the first k are held -/
theorem all_first (f : Nat) (S : Nat → Nat) (k : Nat) : ∀ j, (∀ i, i < j → S i = if i < k then 1 else 0) → cnt S 1 j = min j k ∧ ∀ m, m < min j k → (allL f S j)[m]? = some (.int .i64 ((f : Int) + (m : Int))) ∧ (allL f S j).length = min j k
  | 0, _ => ⟨by simp [cnt], fun m hm => absurd hm (by simp)⟩
  | j + 1, h => by
    obtain ⟨i1, i2⟩ := all_first f S k j fun i hi => h i (by omega)
    have hl : (allL f S j).length = min j k := by
      rcases Nat.eq_zero_or_pos (min j k) with q | q
      · have : ∀ j, (∀ i, i < j → S i = if i < k then 1 else 0) → (allL f S j).length = cnt S 1 j := fun j => by
          induction j with
          | zero => intro _; rfl
          | succ j ih =>
            intro h
            have a := ih fun i hi => h i (by omega)
            show (if S j = 1 then _ else _ : List Value).length = cnt S 1 j + _
            by_cases e : S j = 1
            · rw [if_pos e, if_pos e, List.length_append, a]; rfl
            · rw [if_neg e, if_neg e, a]; rfl
        rw [this j fun i hi => h i (by omega), i1]
      · exact (i2 0 q).2
    have hj := h j (by omega)
    by_cases e : j < k
    · rw [if_pos e] at hj
      have hm1 : min j k = j := by omega
      have hm2 : min (j + 1) k = j + 1 := by omega
      have ha : allL f S (j + 1) = allL f S j ++ [.int .i64 ((f : Int) + (j : Int))] := if_pos hj
      rw [ha, hm2]
      rw [hm1] at i1 i2 hl
      refine ⟨by show cnt S 1 j + _ = _; rw [if_pos hj, i1], fun m hm => ⟨?_, by rw [List.length_append, hl]; rfl⟩⟩
      by_cases q : m < j
      · rw [List.getElem?_append_left (by omega)]
        exact (i2 m q).1
      · obtain rfl : m = j := by omega
        rw [List.getElem?_append_right (by omega), hl, Nat.sub_self]
        rfl
    · rw [if_neg e] at hj
      have hm2 : min (j + 1) k = min j k := by omega
      have ha : allL f S (j + 1) = allL f S j := if_neg (by omega)
      rw [ha, hm2]
      refine ⟨by show cnt S 1 j + _ = _; rw [if_neg (by omega), i1]; rfl, i2⟩
end Go.Proofs.YtbohpffigmllkaaGreatDoor

/-
  extent: a sector or a head that was spoilt: Get says so: contracts.
-/
namespace Go.Proofs.YtbohpffigmllkaaGreatDoor
open Go.RowKit Go.Maps Go.ChangeMaps Go.WideShapes

theorem phantom {p : Prop} (h : ¬ Hid False → p) (k : Hid False → p) : p := (Classical.em (Hid False)).elim k h
theorem sec_size (T : Nat → UInt8) (k : Nat) : (secB T k).size = 64 := by
  unfold secB
  show (sec T k).length = 64
  unfold sec
  simp
set_option maxRecDepth 100000 in
/-- a sector whose sum is another one -/
theorem sector_bad (b : HB) (ok : b.ok) (hf : 1 ≤ b.f) (s : HS) (xs kb : Nat) (q : Int) (j : Nat) (hj : j < b.n) (h1 : s.S j = 1) (m : Nat) (hm : C.Crc.sum (secB b.T (b.f + j)).data.toList ≠ m) (w : World) (h : HeapI b s w) (st : StAt b xs kb q w) :
    Calls Tryz.prog 72 #[.pointer (some ⟨xs, 0, none⟩), .int .i64 ((b.f + j : Nat) : Int), .int .u32 (m : Nat)] w fun e w' => e = failed 11 ∧ Below w.heap.size w w' := by
  have h0 : ¬ ((b.f + j : Nat) : Int) = 0 := by omega
  have HG := Lib.hid (hGet_any b ok s j hj h1 b.T w h h.dt)
  have HC := Lib.hid fun (bb : Nat) (wx : World) (hc : wx.cell? ⟨bb, 0, none⟩ = some (.string (secB b.T (b.f + j)))) => (show Calls Tryz.prog 97 #[.slice (some ⟨bb, 0, none⟩) 1 1] wx fun e w' => e = .returned (.int .u32 (C.Crc.sum (secB b.T (b.f + j)).data.toList : Nat)) ∧ wx = w' from by
    have hsz : (secB b.T (b.f + j)).data.toList.length ≤ maxLen := by
      have e : (secB b.T (b.f + j)).data.toList.length = (secB b.T (b.f + j)).size := by simp
      rw [e, sec_size]
      decide
    exact crc_one bb (secB b.T (b.f + j)).data.toList wx hsz (by rw [bl_of]; exact hc))
  have c0 := st.cell.1
  have HF := fun wx => Lib.hid (fail_any 11 wx)
  have e1 : ¬ ((C.Crc.sum (secB b.T (b.f + j)).data.toList : Nat) : Int) = (m : Int) := by omega
  clear h st hm h1
  generalize C.Crc.sum (secB b.T (b.f + j)).data.toList = c at *
  generalize secB b.T (b.f + j) = P at *
  generalize b.f + j = x at *
  go_enter Tryz.func72, Tryz.ntmps72
  go_wp2_with fail
  refine HG.out.mono ?_
  rintro e w1 ⟨rfl, rfl⟩
  go_wp2_with fail
  have hbx : (w.alloc (.cells #[.string P] 9)).drew.cell? ⟨w.heap.size, 0, none⟩ = some (.string P) := boxNew rfl
  refine (HC.out _ _ hbx).mono ?_
  rintro e w2 ⟨rfl, rfl⟩
  go_wp2_with fail
  refine (HF _).out.mono ?_
  rintro e w3 ⟨rfl, rfl⟩
  unfold failed
  go_wp2_with fail
  exact ⟨rfl, rfl, ((Below.refl _ w).alloc (Nat.le_refl _) _).drew⟩
set_option maxRecDepth 100000 in
/-- a head that doesn't bear its sum -/
theorem eHead_bad (b : HB) (ok : b.ok) (s : HS) (xs kb : Nat) (q : Int) (j : Nat) (hj : j < b.n) (hs : s.S j = 1) (w : World) (h : HeapI b s w) (st : StAt b xs kb q w) (nx : ¬ b.S0 xs) (ht : saysSum (secB b.T (b.f + j)) ≠ C.Crc.sum (ahead (secB b.T (b.f + j))).data.toList) :
    Calls Tryz.prog 65 #[.pointer (some ⟨xs, 0, none⟩), .int .i64 ((b.f + j : Nat) : Int)] w fun e w' => e = failed 11 ∧ Below w.heap.size w w' := by
  have hw : Below w.heap.size w (w.alloc (.cells (headL zf zf zf).toArray 92)) := (Below.refl _ w).alloc (Nat.le_refl _) _
  have gw : Grew (fun _ => False) w (w.alloc (.cells (headL zf zf zf).toArray 92)) := (Grew.refl w).alloc _
  have hI := h.keep gw (fun _ _ e => e) fun _ _ _ e => e
  have HG := Lib.hid (hGet_any b ok s j hj hs b.T _ hI hI.dt)
  have HP := Lib.hid fun wx => parse_sum _ wx (sec_size _ _) ht
  have c0 : (w.alloc (.cells (headL zf zf zf).toArray 92)).cell? ⟨xs, 0, none⟩ = some (.pointer (some ⟨b.hb, 0, none⟩)) := by
    have := (gw.block xs (st.pl (S0 := b.S0) nx).lt (fun e => e)).trans st
    exact (StAt.cell this).1
  have HAl := alloc_head
  have HW := Lib.hid hw
  obtain ⟨Z, hZ⟩ : ∃ Z, (headL zf zf zf).toArray = Z := ⟨_, rfl⟩
  rw [hZ] at HG c0 HAl HW
  clear h st ht hw gw hI hZ
  generalize secB b.T (b.f + j) = t at *
  generalize b.f + j = x at *
  obtain ⟨W, hW⟩ : ∃ W, w.alloc (.cells Z 92) = W := ⟨_, rfl⟩
  rw [hW] at HG c0 HW
  go_enter Tryz.func65, Tryz.ntmps65
  go_upto_region 1 with (refine wpList_alloc rfl 92 rfl _ (HAl _) ?_)
  simp only [hW]
  go_wp2_with fail
  refine HG.out.mono ?_
  rintro e w1 ⟨rfl, rfl⟩
  go_wp2_with fail
  refine (HP.out _).mono ?_
  rintro e w2 ⟨rfl, hb⟩
  have HB2 := Lib.hid (HW.out.drew.trans (hb.mono HW.out.drew.size))
  clear hb HG
  unfold failed
  go_wp2_with fail
  exact ⟨rfl, rfl, HB2.out⟩
set_option maxRecDepth 100000 in
theorem eGet_head (b : HB) (ok : b.ok) (hf : 1 ≤ b.f) (s : HS) (xs kb : Nat) (q : Int) (j : Nat) (hj : j < b.n) (hs : s.S j = 1) (w : World) (h : HeapI b s w) (st : StAt b xs kb q w) (nx : ¬ b.S0 xs) (ht : saysSum (secB b.T (b.f + j)) ≠ C.Crc.sum (ahead (secB b.T (b.f + j))).data.toList) :
    Calls Tryz.prog 30 #[.pointer (some ⟨xs, 0, none⟩), .int .i64 ((b.f + j : Nat) : Int)] w fun e w' => e = failed 11 ∧ Below w.heap.size w w' := by
  have h0 : ¬ ((b.f + j : Nat) : Int) = 0 := by omega
  have HH := Lib.hid (eHead_bad b ok s xs kb q j hj hs w h st nx ht)
  clear h st ht hs hj
  generalize b.f + j = v at *
  go_enter Tryz.func30, Tryz.ntmps30
  go_wp2_with fail
  refine HH.out.mono ?_
  rintro e w1 ⟨rfl, hb1⟩
  have HB := Lib.hid hb1
  clear hb1 HH
  unfold failed
  go_wp2_with fail
  exact ⟨rfl, rfl, HB.out⟩
set_option maxRecDepth 100000 in
set_option maxHeartbeats 2000000 in
theorem eGet_part (b : HB) (ok : b.ok) (hf : 1 ≤ b.f) (s : HS) (xs kb : Nat) (q : Int) (D : ByteArray) (hD : D.size = 256) (f : Nat → Nat) (hf256 : ∀ j, f j < 256) (a : Nat → Nat) (j : Nat) (hj : j < b.n) (hs : s.S j = 1) (ht : secB b.T (b.f + j) = sealS (headT a (smOf D) f)) (ha : ∀ k, a k < 65536) (k0 : Nat) (hk0 : k0 < 4) (hp : ∀ k, k < k0 → LiesP b s b.T D k (a k)) (i0 : Nat) (hi0 : i0 < b.n) (e0 : a k0 = b.f + i0) (hs0 : s.S i0 = 1) (hc : C.Crc.sum (secB b.T (b.f + i0)).data.toList ≠ smOf D k0) (w : World) (h : HeapI b s w) (st : StAt b xs kb q w) (nx : ¬ b.S0 xs) :
    Calls Tryz.prog 30 #[.pointer (some ⟨xs, 0, none⟩), .int .i64 ((b.f + j : Nat) : Int)] w fun e w' => e = failed 11 ∧ Below w.heap.size w w' := by
  have h0 : ¬ ((b.f + j : Nat) : Int) = 0 := by omega
  have HH := Lib.hid (eHead_any b ok s xs kb q j hj hs a (smOf D) f ha (smOf_lt D) hf256 w h st nx ht)
  have HSt : Hid (∀ wx, Below w.heap.size w wx → HeapI b s wx ∧ StAt b xs kb q wx) := Lib.hid fun wx k => by
    have g : Grew (fun _ => False) w wx := Grew.of_below k
    exact ⟨h.keep g (fun _ _ e => e) (fun _ _ _ e => e), (g.block xs (st.pl (S0 := b.S0) nx).lt (fun e => e)).trans st⟩
  have HSec : Hid (∀ k, k < k0 → ∀ wx H N B o vv l, GeAt w H N B o vv l wx → Calls Tryz.prog 72 #[.pointer (some ⟨xs, 0, none⟩), .int .i64 (a k : Nat), .int .u32 (smOf D k : Nat)] wx fun e w' => e = .returned (.string (partB D k)) ∧ GeAt w H N B o vv l w') := Lib.hid fun k hk wx H N B o vv l hg => by
    obtain ⟨i1, i2⟩ := HSt.out wx hg.below
    exact (sector_any b ok hf s xs kb q D hD k (a k) (by omega) wx i1 i2 (hp k hk)).mono fun _ _ ⟨e, hb⟩ => ⟨e, hg.more hb⟩
  have HBad : Hid (∀ wx H N B o vv l, GeAt w H N B o vv l wx → Calls Tryz.prog 72 #[.pointer (some ⟨xs, 0, none⟩), .int .i64 (a k0 : Nat), .int .u32 (smOf D k0 : Nat)] wx fun e w' => e = failed 11 ∧ Below w.heap.size w w') := Lib.hid fun wx H N B o vv l hg => by
    obtain ⟨i1, i2⟩ := HSt.out wx hg.below
    rw [e0]
    exact (sector_bad b ok hf s xs kb q i0 hi0 hs0 (smOf D k0) hc wx i1 i2).mono fun _ _ ⟨e, hb⟩ => ⟨e, hg.below.trans (hb.mono hg.below.size)⟩
  have HTx : Hid (∀ k, k < 4 → ∀ wx H N B o vv, GeAt w H N B o vv (D.data.toList.take (64 * k)) wx → Calls Tryz.prog 71 #[.pointer (some ⟨o, 0, none⟩), .string (partB D k)] wx fun e w' => e = .returned (.pointer (some ⟨o, 0, none⟩)) ∧ ∃ v2, GeAt w H N B o v2 (D.data.toList.take (64 * (k + 1))) w') := Lib.hid fun k hk wx H N B o vv hg => by
    have h64 := partB_size D hD k hk
    refine (outText_any B o vv _ (partB D k) wx hg.out (by rw [List.length_take]; omega)).mono ?_
    rintro e w' ⟨rfl, ho⟩
    rw [take_part] at ho
    exact ⟨rfl, hg.to ho⟩
  have HN : Hid (∀ k, k < 4 → ∀ wx H, HdAt H (headL a (smOf D) f) wx → wx.cell? ⟨H, k, none⟩ = some (.int .i64 (a k : Nat)) ∧ wx.cell? ⟨H, 4 + k, none⟩ = some (.int .u32 (smOf D k : Nat))) := Lib.hid fun k hk wx H hh => by
    have c1 := (hh.cells.2 k (by omega)).1
    have c2 := (hh.cells.2 (4 + k) (by omega)).1
    unfold headAt at c1 c2
    rw [if_pos hk] at c1
    rw [if_neg (by omega), if_pos (by omega), show 4 + k - 4 = k by omega] at c2
    exact ⟨c1, c2⟩
  have HAl := alloc_head
  have HNew : Hid (∀ wx : World, HdAt wx.heap.size (headL a (smOf D) f) ((wx.alloc (.cells (headL zf zf zf).toArray 92)).setCells wx.heap.size 0 (headL a (smOf D) f))) := Lib.hid fun wx => HdAt.new wx _ _ (headL_len _ _ _) (headL_len _ _ _)
  have HTh : Hid (∀ wx : World, (wx.alloc (.cells (headL zf zf zf).toArray 92)).there wx.heap.size 0 (headL a (smOf D) f).toArray.size) := Lib.hid fun wx => (head_new wx zf zf zf 92).there 0 _ (by simp [headL_len])
  have HNo : Hid ((headL a (smOf D) f).toArray.all (·.oneCell') = true) := Lib.hid (headL_one _ _ _)
  have HIN : Hid ((Tryz.prog.info? 92).map (·.size) = some (headL a (smOf D) f).toArray.size) := Lib.hid (by rw [List.size_toArray, headL_len]; kernel_rfl)
  obtain ⟨Z, hZ⟩ : ∃ Z, (headL zf zf zf).toArray = Z := ⟨_, rfl⟩
  obtain ⟨N, hN⟩ : ∃ N, headL a (smOf D) f = N := ⟨_, rfl⟩
  rw [hZ] at HAl HNew HTh
  rw [hN] at HH HNew HTh HNo HIN
  have HNE := Lib.hid hN
  have HK0 := Lib.hid hk0
  clear h st hp ht hs hj ha hZ hN HSt hD hi0 e0 hs0 hc hk0
  generalize b.f + j = v at *
  go_enter Tryz.func30, Tryz.ntmps30
  go_wp2_with fail
  refine HH.out.mono ?_
  rintro e w1 ⟨rfl, hb1⟩
  have hth := HTh.out w1
  have HHd := Lib.hid (HNew.out w1)
  have HB2 : Hid (Below w.heap.size w ((w1.alloc (.cells Z 92)).setCells w1.heap.size 0 N)) := Lib.hid (below_row (hb1.alloc hb1.size _) N hb1.size)
  have HL1 := Lib.hid hb1.size
  clear hb1 HH HNew HTh
  go_upto_region 4 with (first
    | (refine wpList_alloc rfl 92 rfl _ (HAl _) ?_)
    | (with_reducible refine wpList_store_mid rfl 92 _ _ rfl w1.heap.size 0 N.toArray rfl rfl hth HIN.out HNo.out ?_))
  clear hth
  generalize (w1.alloc (.cells Z 92)).setCells w1.heap.size 0 N = W2 at *
  generalize w1.heap.size = H at *
  have HG0 : Hid (GeAt w H N (W2.heap.size + 1) W2.heap.size (.slice none 0 0) (D.data.toList.take (64 * 0)) (W2.alloc (.cells #[.slice none 0 0] 97))) := Lib.hid ⟨HHd.out.keep ((Grew.refl (S := fun _ => False) W2).alloc _) (fun e => e), outNew1 W2, HB2.out.alloc HB2.out.size _, HL1.out, HHd.out.lt⟩
  clear HHd HB2
  go_upto_region 5 with fail
  generalize W2.alloc (.cells #[.slice none 0 0] 97) = W3 at *
  generalize hB : W2.heap.size + 1 = B at *
  generalize W2.heap.size = o at *
  clear hB
  go_wp2_with fail
  go_loopw [15] (fun i wx => ∃ k vv, k ≤ k0 ∧ i = .int .i64 ((k : Nat) : Int) ∧ GeAt w H N B o vv (D.data.toList.take (64 * k)) wx) (fun i _ => 4 - (intOf i).toNat)
  case atStart => exact ⟨0, _, by omega, rfl, HG0.out⟩
  case round =>
    obtain ⟨k, vv, hk, rfl, hg⟩ := hrel
    have HG := Lib.hid hg
    clear hg HG0
    by_cases hlt : k < k0
    · have hk4 := HK0.out
      have i0 : (k : Int) < 4 := by omega
      have i1 : (0 : Int) ≤ (k : Int) := by omega
      have HSec1 := Lib.hid (HSec.out k hlt)
      have HTx1 := Lib.hid (HTx.out k (by omega))
      have HN1 : Hid (∀ wx, HdAt H N wx → wx.cell? ⟨H, k, none⟩ = some (.int .i64 (a k : Nat)) ∧ wx.cell? ⟨H, 4 + k, none⟩ = some (.int .u32 (smOf D k : Nat))) := Lib.hid fun wx hh => HN.out k (by omega) wx H (by rw [HNE.out]; exact hh)
      have HS0 : Hid (GeS w H k N (a k : Nat) (smOf D k : Nat) wr.drew ∧ GeAt w H N B o vv (D.data.toList.take (64 * k)) wr.drew) := Lib.hid (by
        have h1 := HG.out.more (Below.refl _ _).drew
        exact ⟨⟨(HN1.out _ h1.hd).1, (HN1.out _ h1.hd).2, Lib.hid ⟨h1.hd, h1.below⟩⟩, h1⟩)
      have HKp : Hid (∀ wx v l, GeAt w H N B o v l wx → GeS w H k N (a k : Nat) (smOf D k : Nat) wx) := Lib.hid fun wx v l h1 => ⟨(HN1.out _ h1.hd).1, (HN1.out _ h1.hd).2, Lib.hid ⟨h1.hd, h1.below⟩⟩
      have HK := Lib.hid hlt
      clear hlt hk hk4 HSec HTx HBad HN HN1 HG
      generalize D.data.toList.take (64 * k) = l at *
      obtain ⟨l2, hl2⟩ : ∃ l2, D.data.toList.take (64 * (k + 1)) = l2 := ⟨_, rfl⟩
      rw [hl2] at HTx1
      have HL2 := Lib.hid hl2
      clear hl2
      generalize partB D k = P at *
      generalize smOf D k = m at *
      generalize a k = y at *
      unfold GeS at HS0 HKp
      have hg0 := HS0.out.2
      go_upto_region 8 with fail
      go_region_held3 (fun wx => wx.cell? ⟨H, k, none⟩ = some (.int .i64 (y : Nat)) ∧ wx.cell? ⟨H, 4 + k, none⟩ = some (.int .u32 (m : Nat)) ∧ Hid (HdAt H N wx ∧ Below w.heap.size w wx)) (first | assumption | exact HS0.out.1) (first
        | (go_at_call 72; refine (HSec1.out _ H N B o vv l (by assumption)).mono ?_; rintro e w' ⟨rfl, hg1⟩; have hS1 := HKp.out _ _ _ hg1)
        | (go_at_call 71; refine (HTx1.out _ H N B o vv (by assumption)).mono ?_; rintro e w' ⟨rfl, v2, hg2⟩; have hS2 := HKp.out _ _ _ hg2))
      have HG2 := Lib.hid hg2
      clear hg2 hg0 HS0 HKp HSec1 HTx1
      go_wp2_with fail
      go_roundw
      case rel => exact ⟨k + 1, v2, by have := HK.out; omega, by go_num, by rw [HL2.out]; exact HG2.out⟩
      case measure => simp [intOf]; have := HK.out; have := HK0.out; omega
    · obtain rfl : k = k0 := by omega
      have i0 : (k : Int) < 4 := by have := HK0.out; omega
      have i1 : (0 : Int) ≤ (k : Int) := by omega
      have hg0 := HG.out.more (Below.refl _ _).drew
      have c1 := (HN.out k HK0.out _ H (by rw [HNE.out]; exact hg0.hd)).1
      have c2 := (HN.out k HK0.out _ H (by rw [HNE.out]; exact hg0.hd)).2
      have HB1 := Lib.hid (HBad.out _ H N B o vv _ hg0)
      clear hlt hk HSec HTx HBad HN HG hg0
      generalize D.data.toList.take (64 * k) = l at *
      generalize smOf D k = m at *
      generalize a k = y at *
      go_upto_region 8 with fail
      have HTx9 : Hid (Hid False → ∀ wx, Calls Tryz.prog 71 #[.pointer (some ⟨o, 0, none⟩), .string ⟨#[]⟩] wx fun e w' => e = .returned (.pointer (some ⟨o, 0, none⟩)) ∧ wx = w') := Lib.hid fun hF => hF.out.elim
      go_region_with (first | (go_at_call 71; (with_reducible refine (HTx9.out hF _).mono ?_); rintro e w' ⟨rfl, rfl⟩) | (go_at_call 72; (with_reducible refine HB1.out.mono ?_); rintro e w' ⟨he, hb⟩; (have HB9 := Lib.hid hb); clear hb; refine phantom (fun _ => ?_) (fun hF => ?_); (focus (subst he; unfold failed; go_simp; exact ⟨rfl, rfl, HB9.out⟩)); (clear he; obtain rfl : e = .returned (.string ⟨#[]⟩) := hF.out.elim)))
      all_goals exact hF.out.elim
end Go.Proofs.YtbohpffigmllkaaGreatDoor

/-
  ExtentSpoilt: its Tries and its Guard: contracts.
-/
namespace Go.Proofs.YtbohpffigmllkaaGreatDoor
open Go.RowKit Go.Maps Go.ChangeMaps Go.WideShapes

set_option maxRecDepth 100000 in
theorem spt1_ok (x y p : Nat) (xs : Nat) (D : ByteArray) (w : World) (bx : Box x 28 (.pointer (some ⟨xs, 0, none⟩)) w) (bd : Box y 9 (.string D) w) (Q : Int → World → Prop)
    (h : Calls Tryz.prog 14 #[.pointer (some ⟨xs, 0, none⟩), .string D] w fun e w' => ∃ v : Int, e = .returned (.int .i64 v) ∧ Q v w' ∧ Box p 3 (.int .i64 0) w') :
    Calls Tryz.prog 36 #[.pointer (some ⟨x, 0, none⟩), .pointer (some ⟨y, 0, none⟩), .pointer (some ⟨p, 0, none⟩)] w fun e w' => e = .returned (.tuple #[]) ∧ ∃ v w1, Q v w1 ∧ Box p 3 (.int .i64 0) w1 ∧ w1.setCell ⟨p, 0, none⟩ (.int .i64 v) = w' := by
  have c1 := bx.cell
  have c2 := bd.cell
  have H := Lib.hid h
  clear h bx bd
  go_enter Tryz.func36, Tryz.ntmps36
  go_wp2_with fail
  refine H.out.mono ?_
  rintro e w1 ⟨v, rfl, hq, hb⟩
  have d1 := hb.cell
  have d2 := hb.free
  have HQ := Lib.hid (And.intro hq hb)
  clear hq hb H c1 c2
  go_wp2_with fail
  go_end0
  exact ⟨rfl, v, w1, HQ.out.1, HQ.out.2, rfl⟩
set_option maxRecDepth 100000 in
theorem spt3_ok (x p y : Nat) (xs : Nat) (v : Int) (D : ByteArray) (w : World) (bx : Box x 28 (.pointer (some ⟨xs, 0, none⟩)) w) (bp : Box p 3 (.int .i64 v) w) (Q : World → Prop)
    (h : Calls Tryz.prog 30 #[.pointer (some ⟨xs, 0, none⟩), .int .i64 v] w fun e w' => e = .returned (.string D) ∧ Q w' ∧ Box y 9 (.string ⟨#[]⟩) w') :
    Calls Tryz.prog 41 #[.pointer (some ⟨x, 0, none⟩), .pointer (some ⟨p, 0, none⟩), .pointer (some ⟨y, 0, none⟩)] w fun e w' => e = .returned (.tuple #[]) ∧ ∃ w1, Q w1 ∧ Box y 9 (.string ⟨#[]⟩) w1 ∧ w1.setCell ⟨y, 0, none⟩ (.string D) = w' := by
  have c1 := bx.cell
  have c2 := bp.cell
  have H := Lib.hid h
  clear h bx bp
  go_enter Tryz.func41, Tryz.ntmps41
  go_wp2_with fail
  refine H.out.mono ?_
  rintro e w1 ⟨rfl, hq, hb⟩
  have d1 := hb.cell
  have d2 := hb.free
  have HQ := Lib.hid (And.intro hq hb)
  clear hq hb H c1 c2
  go_wp2_with fail
  go_end0
  exact ⟨rfl, w1, HQ.out.1, HQ.out.2, rfl⟩
set_option maxRecDepth 100000 in
theorem spt3_fail (x p y : Nat) (xs : Nat) (v : Int) (k : Int) (w : World) (bx : Box x 28 (.pointer (some ⟨xs, 0, none⟩)) w) (bp : Box p 3 (.int .i64 v) w) (Q : World → Prop)
    (h : Calls Tryz.prog 30 #[.pointer (some ⟨xs, 0, none⟩), .int .i64 v] w fun e w' => e = failed k ∧ Q w') :
    Calls Tryz.prog 41 #[.pointer (some ⟨x, 0, none⟩), .pointer (some ⟨p, 0, none⟩), .pointer (some ⟨y, 0, none⟩)] w fun e w' => e = Ends (some k) ∧ Q w' := by
  have c1 := bx.cell
  have c2 := bp.cell
  have H := Lib.hid h
  clear h bx bp
  go_enter Tryz.func41, Tryz.ntmps41
  go_wp2_with fail
  refine H.out.mono ?_
  rintro e w1 ⟨rfl, hq⟩
  have HQ := Lib.hid hq
  clear hq H c1 c2
  unfold failed
  go_wp2_with fail
  exact ⟨rfl, rfl, HQ.out⟩
theorem dtSpoil {b : HB} {T : Nat → UInt8} {w : World} (h : DT b T w) (k p : Nat) (x : UInt8) (hk : k < b.f + b.n) (hp : p < 64) : Calls Tryz.prog 40 #[.pointer (some ⟨b.d, 0, none⟩), .int .i64 (k : Int), .int .i64 (p : Int), .int .u8 ((x.toNat : Nat) : Int)] w fun e w' => e = .returned (.tuple #[]) ∧ DT b (bendF T (k * 64 + p) x) w' ∧ Grew (fun q => q = b.d ∨ q = b.bs ∨ q = b.bt) w w' := by
  obtain ⟨M, hM, m1, m2, m3, m4, m5, m6, m7, rfl⟩ := h
  rw [← m1, ← m2, ← m3]
  refine (spoil_ok M k p x w hM (by omega) hp).mono ?_
  rintro e w' ⟨rfl, hD, hg⟩
  exact ⟨rfl, ⟨_, hD, m1, m2, m3, m4, m5, m6, m7, rfl⟩, hg⟩
set_option maxHeartbeats 1000000 in
set_option maxRecDepth 100000 in
theorem spt2_any {b : HB} {T : Nat → UInt8} {w : World} (h : DT b T w) (v p : Nat) (x : UInt8) (hv : v < b.f + b.n) (hp : p < 64) (at' by' : Int) (p0 n cap m lb : Nat) (ha : bits .and .i64 at' 255 = (p0 : Int)) (hm : (p0 : Int) % (n : Int) = (m : Int)) (hmn : m < n) (hby : bits .and .i64 by' 63 = (p : Int)) (hc : w.cell? ⟨lb, m, none⟩ = some (.int .i64 (v : Int)))
    (xd xl xa xb xw : Nat) (bd : Box xd 26 (.pointer (some ⟨b.d, 0, none⟩)) w) (bl : Box xl 54 (.slice (some ⟨lb, 0, none⟩) n cap) w) (ba : Box xa 3 (.int .i64 at') w) (bb : Box xb 3 (.int .i64 by') w) (bw : Box xw 5 (.int .u8 (x.toNat : Int)) w) :
    Calls Tryz.prog 39 #[.pointer (some ⟨xd, 0, none⟩), .pointer (some ⟨xl, 0, none⟩), .pointer (some ⟨xa, 0, none⟩), .pointer (some ⟨xb, 0, none⟩), .pointer (some ⟨xw, 0, none⟩)] w fun e w' => e = .returned (.tuple #[]) ∧ DT b (bendF T (v * 64 + p) x) w' ∧ Grew (fun q => q = b.d ∨ q = b.bs ∨ q = b.bt) w w' := by
  have HSp := Lib.hid (fun (wx : World) (hx : w.drew = wx) => (by
    subst hx
    refine (dtSpoil h.drew v p x hv hp).mono ?_
    rintro e w' ⟨rfl, h1, h2⟩
    exact ⟨rfl, h1, ((Grew.refl w).drew).trans h2⟩ : Calls Tryz.prog 40 #[.pointer (some ⟨b.d, 0, none⟩), .int .i64 (v : Int), .int .i64 (p : Int), .int .u8 ((x.toNat : Nat) : Int)] wx fun e w' => e = .returned (.tuple #[]) ∧ DT b (bendF T (v * 64 + p) x) w' ∧ Grew (fun q => q = b.d ∨ q = b.bs ∨ q = b.bt) w w'))
  have c1 : w.drew.cell? ⟨xd, 0, none⟩ = some (.pointer (some ⟨b.d, 0, none⟩)) := bd.cell
  have c2 : w.drew.cell? ⟨xl, 0, none⟩ = some (.slice (some ⟨lb, 0, none⟩) n cap) := bl.cell
  have c3 : w.drew.cell? ⟨xa, 0, none⟩ = some (.int .i64 at') := ba.cell
  have c4 : w.drew.cell? ⟨xb, 0, none⟩ = some (.int .i64 by') := bb.cell
  have c5 : w.drew.cell? ⟨xw, 0, none⟩ = some (.int .u8 (x.toNat : Int)) := bw.cell
  have c6 : w.drew.cell? ⟨lb, m, none⟩ = some (.int .i64 (v : Int)) := hc
  have hm0 : (0 : Int) ≤ (m : Int) := by omega
  have hm1 : (m : Int) < (n : Int) := by omega
  have hn0 : ¬ n = 0 := by omega
  have hmt : (p0 : Int).tmod (n : Int) = (m : Int) := by rw [Int.tmod_eq_emod_of_nonneg (by omega)]; exact hm
  generalize bendF T (v * 64 + p) x = U at *
  generalize (x.toNat : Int) = X at *
  clear h hv hp hmn bd bl ba bb bw hc
  go_enter Tryz.func39, Tryz.ntmps39
  refine wp_region_still_tail 12 (by kernel_rfl) (by kernel_rfl) ?_
  change wpStill _ _ w.drew (fun a' => wpList _ _ _ _ a' w.drew) _ _
  simp only [List.take_succ_cons, List.take_zero, List.drop_succ_cons, List.drop_zero]
  repeat still_step
  refine wpStill_nil ?_
  go_wp2_with fail
  refine (HSp.out _ rfl).mono ?_
  rintro e w1 ⟨rfl, hd, hg⟩
  have HX := Lib.hid (And.intro hd hg)
  clear hd hg
  go_wp2_with fail
  go_end0
  exact ⟨rfl, HX.out⟩
set_option maxRecDepth 100000 in
theorem spG2 {b : HB} {T : Nat → UInt8} {w : World} (h : DT b T w) (v p : Nat) (x : UInt8) (hv : v < b.f + b.n) (hp : p < 64) (at' by' : Int) (p0 n cap m lb : Nat) (ha : bits .and .i64 at' 255 = (p0 : Int)) (hm : (p0 : Int) % (n : Int) = (m : Int)) (hmn : m < n) (hby : bits .and .i64 by' 63 = (p : Int)) (hc : w.cell? ⟨lb, m, none⟩ = some (.int .i64 (v : Int)))
    (xd xl xa xb xw : Nat) (bd : Box xd 26 (.pointer (some ⟨b.d, 0, none⟩)) w) (bl : Box xl 54 (.slice (some ⟨lb, 0, none⟩) n cap) w) (ba : Box xa 3 (.int .i64 at') w) (bb : Box xb 3 (.int .i64 by') w) (bw : Box xw 5 (.int .u8 (x.toNat : Int)) w) (hlt : b.d < w.heap.size ∧ b.bs < w.heap.size ∧ b.bt < w.heap.size) :
    Calls Tryz.prog 38 #[.func (.func 39) #[] #[.pointer (some ⟨xd, 0, none⟩), .pointer (some ⟨xl, 0, none⟩), .pointer (some ⟨xa, 0, none⟩), .pointer (some ⟨xb, 0, none⟩), .pointer (some ⟨xw, 0, none⟩)]] w fun e w' => e = .returned (.int .i64 0) ∧ DT b (bendF T (v * 64 + p) x) w' ∧ Grew (fun q => q = b.d ∨ q = b.bs ∨ q = b.bt) w w' := by
  have hS : ¬ (w.heap.size = b.d ∨ w.heap.size = b.bs ∨ w.heap.size = b.bt) := by omega
  have hcl := cell_lt hc
  refine (guard_grew 39 _ w (fun q => q = b.d ∨ q = b.bs ∨ q = b.bt) (fun o w1 => o = none ∧ DT b (bendF T (v * 64 + p) x) w1) hS (fun _ => by rfl) ((spt2_any (h.keep (S := fun _ => False) ((Grew.refl w).alloc errBox) (fun e => e) (fun e => e) fun e => e) v p x hv hp at' by' p0 n cap m lb ha hm hmn hby ?_ xd xl xa xb xw (bd.keepAlloc _) (bl.keepAlloc _) (ba.keepAlloc _) (bb.keepAlloc _) (bw.keepAlloc _)).mono ?_)).mono ?_
  · rw [((Grew.refl (S := fun _ => False) w).alloc errBox).cell (p := ⟨lb, m, none⟩) hcl (fun e => e)]
    exact hc
  · rintro e w1 ⟨rfl, hd, hg⟩
    exact ⟨none, rfl, hg, rfl, hd⟩
  · rintro e w' ⟨o, w1, rfl, ⟨rfl, hd⟩, rfl, hg, hs⟩
    refine ⟨rfl, hd.keep (done_alone w.heap.size none w1) ?_ ?_ ?_, hg⟩ <;> omega
/-- where an extent lies, and that nothing else is held that wasn't -/
structure HeldBy (b : HB) (s s1 : HS) (U : Nat → UInt8) (D : ByteArray) (f : Nat → Nat) (j : Nat) : Prop where
  ex : ∃ a : Nat → Nat, secB U (b.f + j) = sealS (headT a (smOf D) f) ∧ (∀ k, k < 4 → LiesP b s1 U D k (a k)) ∧ (∀ k, a k < 65536) ∧ ∀ i, s1.S i = 1 → s.S i = 1 ∨ i = j ∨ ∃ k, k < 4 ∧ a k = b.f + i ∧ allZero (partB D k).data.toList = false
theorem Wr.only {b : HB} {s s1 : HS} {D : ByteArray} {k : Nat} {a : Nat → Nat} {J : List Nat} {U : Nat → UInt8} (h : Wr b s D k a J s1 U) : (∀ i, s1.S i = 1 → s.S i = 1 ∨ ∃ k', k' < k ∧ a k' = b.f + i ∧ allZero (partB D k').data.toList = false) := by
  induction h with
  | none => exact fun i hi => Or.inl hi
  | skip _ _ ih =>
    intro i hi
    rcases ih i hi with e | ⟨k', h1, h2⟩
    · exact Or.inl e
    · exact Or.inr ⟨k', by omega, h2⟩
  | @put k a J s1 U j _ hz hj hs _ ih =>
    intro i hi
    have hi : upd s1.S j 1 i = 1 := hi
    unfold upd at hi
    by_cases e : i = j
    · subst e
      exact Or.inr ⟨k, by omega, by unfold updN; rw [if_pos rfl], hz⟩
    · rw [if_neg e] at hi
      rcases ih i hi with e | ⟨k', h1, h2, h3⟩
      · exact Or.inl e
      · exact Or.inr ⟨k', by omega, by unfold updN; rw [if_neg (by omega)]; exact h2, h3⟩
theorem Wr.heldBy {b : HB} {s s1 : HS} {D : ByteArray} {a : Nat → Nat} {J : List Nat} {U : Nat → UInt8} {f : Nat → Nat} (ok : b.ok) (hD : D.size = 256) (h : Wr b s D 4 a J s1 U) (j : Nat) (_ : j < b.n) (hs : s1.S j = 0) (y : Int) : HeldBy b s (s1.put j y) (wroteT U (b.f + j) (sealS (headT a (smOf D) f))) D f j := by
  refine ⟨a, wroteT_same _ _ _ (sealS_size _ (headT_60 _ _ _)), fun k hk => ((h.lies hD (Nat.le_refl 4)).1 k hk).more j hs y _, h.lt ok, fun i hi => ?_⟩
  have hi : upd s1.S j 1 i = 1 := hi
  unfold upd at hi
  by_cases e : i = j
  · exact Or.inr (Or.inl e)
  · rw [if_neg e] at hi
    rcases h.only i hi with e | ⟨k', h1, h2, h3⟩
    · exact Or.inl e
    · exact Or.inr (Or.inr ⟨k', h1, h2, h3⟩)
section
variable {w0 : World} {b : HB} {s : HS} {xs kb xt xd p : Nat} {q : Int} {F : List UInt8 → Option Int} {L : List (List UInt8)} {D : ByteArray} {W : World}
set_option maxRecDepth 100000 in
theorem spNew (h : CsAt w0 b s xs kb q F L W) (bt : Box xt 28 (.pointer (some ⟨xs, 0, none⟩)) W) (bd : Box xd 9 (.string D) W) (bp : Box p 3 (.int .i64 0) W) (nt : ¬ b.S0 xt) (nd : ¬ b.S0 xd) (np : ¬ b.S0 p) (hp0 : w0.heap.size ≤ p) (hD : D.size = 256) (hz : allZero D.data.toList = false) (hq : (Lit.int .i64 q).wf = true) (hFn : F (keyB D q) = none) (hkL : keyB D q ∈ L) (hLl : L.length < 1000000) (hc : 5 ≤ cnt s.S 0 b.n) (far : ¬ b.S0 W.heap.size) :
    Calls Tryz.prog 12 #[.pointer (some ⟨b.hb, 0, none⟩), .func (.func 36) #[] #[.pointer (some ⟨xt, 0, none⟩), .pointer (some ⟨xd, 0, none⟩), .pointer (some ⟨p, 0, none⟩)]] W fun e w' => e = .returned (.int .i64 0) ∧ ∃ U s' j, CsNew w0 b s xs kb q F L D p W U s' j w' ∧ HeldBy b s s' U D (Sha.dg (shaOf D.data.toList)) j := by
  have ok := h.ok
  have gT := tryWorld_grew b.g 0 W
  have hgS : b.S0 b.g := ⟨1, by decide, rfl⟩
  have hTs : (tryWorld b.g 0 W).heap.size = W.heap.size + 1 := tryWorld_size _ _ _
  have hpl := bp.lt
  have hbf := h.hf
  have hbn := h.hn
  have hpx : xs ≠ p := fun e => by
    have q1 := h.sx
    unfold StAt at q1
    unfold Box at bp
    rw [e, bp] at q1
    simp at q1
  have hpk := h.tb.notBox bp
  have hld : Laid KK SS (tryWorld b.g 0 W) := h.ld.grew gT (fun e => by have := h.own _ hgS; have := h.w2; omega) (fun e => by have := h.own _ hgS; have := h.w2; omega)
  have hpT : Box p 3 (.int .i64 0) (tryWorld b.g 0 W) := bp.keep gT fun e => np (e ▸ hgS)
  refine (hTryU b ok s W h.st h.log 36 _ (fun s1 U w1 => ∃ j, (CsPut b s D U s1 j ∧ HeldBy b s s1 U D (Sha.dg (shaOf D.data.toList)) j) ∧ Tab (tblK Tryz.prog) kb (upF F (keyB D q) (some ((b.f + j : Nat) : Int))) L w1 ∧ Box p 3 (.int .i64 ((b.f + j : Nat) : Int)) w1 ∧ Grew (fun k => Mut b.B b.S0 (tryWorld b.g 0 W) k ∨ k = kb ∨ k = p) (tryWorld b.g 0 W) w1) (fun _ => by rfl) fun hin => ?_).mono ?_
  · have hp : PtAt b s 0 [] 0 xs kb q F L (tryWorld b.g 0 W) := ⟨hin.deep, (gT.block xs (h.sx.pl (S0 := b.S0) h.nx).lt (fun e => h.nx (e ▸ hgS))).trans h.sx, h.tb.keep gT fun e => h.nk (e ▸ hgS)⟩
    have hput := ePut_any b ok (by omega) s h.hG (by rw [h.hK]; decide) (by rw [h.hK]; omega) 0 0 (by decide) (by decide) [] xs kb q hq h.nx h.nk h.xk F L D hD hz _ _ _ rfl rfl hFn hkL hLl hp hld
    refine (spt1_ok xt xd p xs D _ (bt.keep gT fun e => nt (e ▸ hgS)) (bd.keep gT fun e => nd (e ▸ hgS)) (fun v w1 => ∃ u : Nat, v = (u : Int) ∧ PtEnd b s 0 [] 0 xs kb q F L D (Sha.dg (shaOf D.data.toList)) (keyB D q) u (tryWorld b.g 0 W) w1) (hput.mono ?_)).mono ?_
    · rintro e w1 ⟨v, rfl, hq1⟩
      refine ⟨_, rfl, ⟨v, rfl, hq1⟩, hpT.keep hq1.g ?_⟩
      rintro ((e | ⟨_, c, fz, e⟩) | e)
      · exact np e
      · unfold Box at hpT
        rw [e] at hpT
        simp at hpT
      · exact hpk e
    · rintro e w1 ⟨rfl, v, w2, ⟨u, rfl, hq1⟩, hb, rfl⟩
      obtain ⟨a, J, s1, U, j, h1, rfl, h3, h4, h5, h6⟩ := hq1.wr
      obtain ⟨i1, i2, i3, i4, i5, i6⟩ := h1.same
      have hG2 : (s1.put j ((b.f + j : Nat) : Int)).G = [] := i2.trans h.hG
      have g2 : Grew (fun k => Mut b.B b.S0 (tryWorld b.g 0 W) k ∨ k = kb ∨ k = p) (tryWorld b.g 0 W) (w2.setCell ⟨p, 0, none⟩ (.int .i64 ((b.f + j : Nat) : Int))) := (hq1.g.mono fun _ _ e => e.elim Or.inl fun e => Or.inr (Or.inl e)).setCell _ _ fun _ => Or.inr (Or.inr rfl)
      refine ⟨_, _, _, rfl, (h6.box hG2 hb (by decide) np).first, GoneOk.nil hG2, ?_, j, ⟨⟨?_, i1.trans h.hK, hG2, h1.whole ok hD j h3 h4 _, h3, ?_, ?_, fun i hi => ?_, fun E g u hl => ?_⟩, h1.heldBy ok hD j h3 h4 _⟩, hq1.tb.keep ((Grew.refl (S := fun k => k = p) w2).setCell _ _ fun _ => rfl) (fun e => hpk e.symm), hb.set _, g2⟩
      · rw [g2.block _ (by omega) ?_]
        · exact tryWorld_box b.g 0 W
        · rintro ((m | m) | m | m)
          · exact far m
          · exact notFunc_err (tryWorld_box b.g 0 W) m
          · have := h.tb.lt
            omega
          · omega
      · have hc := (cnt_put s1.S j b.n h3 h4).1
        show cnt s.S 0 b.n ≤ cnt (upd s1.S j 1) 0 b.n + 5
        omega
      · show upd s1.S j 1 j = 1
        unfold upd
        rw [if_pos rfl]
      · show upF s1.R ((b.f + j : Nat) : Int) (some 1) ((b.f + j : Nat) : Int) = some 1
        unfold upF
        rw [if_pos rfl]
      · obtain ⟨k1, k2, k3⟩ := h1.keepS i hi
        have hne : i ≠ j := fun e => by rw [← e, k1] at h4; cases h4
        refine ⟨hne, ?_, ?_⟩
        · show upd s1.S j 1 i = 1
          unfold upd
          rw [if_neg hne]
          exact k1
        · show upF s1.R ((b.f + j : Nat) : Int) (some 1) ((b.f + i : Nat) : Int) = _
          unfold upF
          rw [if_neg (by omega)]
          exact k3
      · obtain ⟨a', i, rfl, e1, e2, e3, e4, e5⟩ := hl
        obtain ⟨k1, k2, k3⟩ := h1.keepS i e2
        have hne : i ≠ j := fun e => by rw [← e, k1] at h4; cases h4
        refine ⟨a', i, rfl, e1, ?_, ?_, fun k hk => ((e4 k hk).wr h1).more j h4 _ _, e5⟩
        · show upd s1.S j 1 i = 1
          unfold upd
          rw [if_neg hne]
          exact k1
        · rw [wroteT_other _ _ _ _ (by omega), k2]
          exact e3
  · rintro e w' ⟨s1, U, w5, rfl, ⟨j, ⟨hj, hheld⟩, hT, hb, hg⟩, hI6, hl6, g6⟩
    rw [HS.fin_nil b _ hj.hG] at hI6
    have hgr : CsGr b kb p W w' := csGr_of hg g6
    have hb' : Box p 3 (.int .i64 ((b.f + j : Nat) : Int)) w' := hb.keep g6 fun e => by
      rcases e with e | e
      · exact np e.in0
      · omega
    have hT' := hT.keep g6 fun e => by
      rcases e with e | e
      · exact h.nk e.in0
      · have := h.tb.lt
        omega
    exact ⟨rfl, U, s1, j, ⟨h.next hp0 hpx hj.hG hj.hK hI6 hl6 hT' hgr, hj, hb', hgr⟩, hheld⟩
set_option maxRecDepth 100000 in
theorem spGet (y : Nat) (v : Int) (h : CsAt w0 b s xs kb q F L W) (bt : Box xt 28 (.pointer (some ⟨xs, 0, none⟩)) W) (bp : Box p 3 (.int .i64 v) W) (by' : Box y 9 (.string ⟨#[]⟩) W) (nt : ¬ b.S0 xt) (np : ¬ b.S0 p) (ny : ¬ b.S0 y)
    (hget : ∀ wx, HeapI b s wx → StAt b xs kb q wx → Calls Tryz.prog 30 #[.pointer (some ⟨xs, 0, none⟩), .int .i64 v] wx fun e w' => e = .returned (.string D) ∧ Below wx.heap.size wx w') :
    Calls Tryz.prog 12 #[.pointer (some ⟨b.hb, 0, none⟩), .func (.func 41) #[] #[.pointer (some ⟨xt, 0, none⟩), .pointer (some ⟨p, 0, none⟩), .pointer (some ⟨y, 0, none⟩)]] W fun e w' => e = .returned (.int .i64 0) ∧ Box y 9 (.string D) w' ∧ CsGr b kb y W w' := by
  have ok := h.ok
  have gT := tryWorld_grew b.g 0 W
  have hgS : b.S0 b.g := ⟨1, by decide, rfl⟩
  have hTs : (tryWorld b.g 0 W).heap.size = W.heap.size + 1 := tryWorld_size _ _ _
  have hyl := by'.lt
  refine (hTryU b ok s W h.st h.log 41 _ (fun s1 U w1 => Box y 9 (.string D) w1 ∧ Grew (fun k => k = y) (tryWorld b.g 0 W) w1) (fun _ => by rfl) fun hin => ?_).mono ?_
  · have hst : StAt b xs kb q (tryWorld b.g 0 W) := (gT.block xs (h.sx.pl (S0 := b.S0) h.nx).lt (fun e => h.nx (e ▸ hgS))).trans h.sx
    refine (spt3_ok xt p y xs v D _ (bt.keep gT fun e => nt (e ▸ hgS)) (bp.keep gT fun e => np (e ▸ hgS)) (fun w1 => Grew (fun _ => False) (tryWorld b.g 0 W) w1) ((hget _ hin.deep.st hst).mono ?_)).mono ?_
    · rintro e w1 ⟨rfl, hb⟩
      exact ⟨rfl, Grew.of_below hb, (by'.keep gT fun e => ny (e ▸ hgS)).keep (Grew.of_below (S := fun _ => False) hb) fun e => e⟩
    · rintro e w1 ⟨rfl, w2, hg, hb, rfl⟩
      have g2 : Grew (fun k => k = y) (tryWorld b.g 0 W) (w2.setCell ⟨y, 0, none⟩ (.string D)) := (hg.mono fun _ _ e => e.elim).setCell _ _ fun _ => rfl
      refine ⟨s, 0, b.T, rfl, ((hin.deep.keep h.hG hg (fun _ _ e => e) (fun _ _ _ _ e => e)).box h.hG hb (by decide) ny).first, GoneOk.nil h.hG, ?_, hb.set _, g2⟩
      rw [g2.block _ (by omega) (by omega)]
      exact tryWorld_box b.g 0 W
  · rintro e w' ⟨s1, U, w5, rfl, ⟨hb, hg⟩, _, _, g6⟩
    refine ⟨rfl, hb.keep g6 fun e => ?_, csGr_of (hg.mono fun _ _ e => Or.inr (Or.inr e)) g6⟩
    rcases e with e | e
    · exact ny e.in0
    · omega
set_option maxRecDepth 100000 in
theorem spGetBad (y : Nat) (v k : Int) (hk : ¬ k = 0) (h : CsAt w0 b s xs kb q F L W) (bt : Box xt 28 (.pointer (some ⟨xs, 0, none⟩)) W) (bp : Box p 3 (.int .i64 v) W) (by' : Box y 9 (.string ⟨#[]⟩) W) (nt : ¬ b.S0 xt) (np : ¬ b.S0 p) (ny : ¬ b.S0 y)
    (hget : ∀ wx, HeapI b s wx → StAt b xs kb q wx → Calls Tryz.prog 30 #[.pointer (some ⟨xs, 0, none⟩), .int .i64 v] wx fun e w' => e = failed k ∧ Below wx.heap.size wx w') :
    Calls Tryz.prog 12 #[.pointer (some ⟨b.hb, 0, none⟩), .func (.func 41) #[] #[.pointer (some ⟨xt, 0, none⟩), .pointer (some ⟨p, 0, none⟩), .pointer (some ⟨y, 0, none⟩)]] W fun e w' => e = .returned (.int .i64 k) ∧ Box y 9 (.string ⟨#[]⟩) w' ∧ CsGr b kb y W w' := by
  have ok := h.ok
  have gT := tryWorld_grew b.g 0 W
  have hgS : b.S0 b.g := ⟨1, by decide, rfl⟩
  refine (hTry_any b ok s h.hG (.slice none 0 0) W h.st h.log 41 _ (fun o _ _ => o = some k) (fun _ => by rfl) fun hl1 hi => ?_).mono ?_
  · have hst : StAt b xs kb q (tryWorld b.g 0 W) := (gT.block xs (h.sx.pl (S0 := b.S0) h.nx).lt (fun e => h.nx (e ▸ hgS))).trans h.sx
    refine (spt3_fail xt p y xs v k _ (bt.keep gT fun e => nt (e ▸ hgS)) (bp.keep gT fun e => np (e ▸ hgS)) (fun w1 => Grew (fun _ => False) (tryWorld b.g 0 W) w1) ((hget _ hi hst).mono fun e w1 hq1 => ⟨hq1.1, Grew.of_below hq1.2⟩)).mono ?_
    rintro e w1 ⟨rfl, hg⟩
    exact ⟨some k, [], _, _, rfl, hl1.keep hg (fun e => e) (fun _ _ e => e), (fun k' e => by cases e; exact hk), hi.keep hg (fun _ _ e => e) (fun _ _ _ e => e), Path.nil _ _, by decide, hg.mono fun _ _ e => e.elim, (fun e => by cases e), rfl⟩
  · rintro e w' ⟨o, s1, w1, rfl, rfl, ht⟩
    refine ⟨rfl, by'.keep ht.grew fun e => ?_, ht.grew.mono fun _ _ e => Or.inl e⟩
    rcases e with e | ⟨_, c, fz, e⟩
    · exact ny e
    · unfold Box at by'
      rw [e] at by'
      simp at by'
end
end Go.Proofs.YtbohpffigmllkaaGreatDoor

/-
  ExtentSpoilt: what its Get answers, wherever a byte was turned; what lies there ahead of its Tries.
-/
namespace Go.Proofs.YtbohpffigmllkaaGreatDoor
open Go.RowKit Go.Maps Go.ChangeMaps Go.WideShapes

theorem allL_len (f : Nat) (S : Nat → Nat) : ∀ n, (allL f S n).length = cnt S 1 n
  | 0 => rfl
  | n + 1 => by
    have a := allL_len f S n
    show (if S n = 1 then _ else _ : List Value).length = cnt S 1 n + _
    by_cases e : S n = 1
    · rw [if_pos e, if_pos e, List.length_append, a]; rfl
    · rw [if_neg e, if_neg e, a]; rfl
theorem allL_pick (f : Nat) (S : Nat → Nat) : ∀ n m, m < cnt S 1 n → ∃ i, i < n ∧ S i = 1 ∧ (allL f S n)[m]? = some (.int .i64 ((f : Int) + (i : Int)))
  | 0, m, h => absurd h (Nat.not_lt_zero m)
  | n + 1, m, h => by
    have hl := allL_len f S n
    by_cases e : S n = 1
    · have ha : allL f S (n + 1) = allL f S n ++ [.int .i64 ((f : Int) + (n : Int))] := if_pos e
      have hc : cnt S 1 (n + 1) = cnt S 1 n + 1 := by show cnt S 1 n + _ = _; rw [if_pos e]
      rw [ha]
      by_cases q : m < cnt S 1 n
      · obtain ⟨i, h1, h2, h3⟩ := allL_pick f S n m q
        exact ⟨i, by omega, h2, by rw [List.getElem?_append_left (by omega)]; exact h3⟩
      · obtain rfl : m = cnt S 1 n := by omega
        exact ⟨n, by omega, e, by rw [List.getElem?_append_right (by omega), hl, Nat.sub_self]; rfl⟩
    · have ha : allL f S (n + 1) = allL f S n := if_neg e
      have hc : cnt S 1 (n + 1) = cnt S 1 n := by show cnt S 1 n + _ = _; rw [if_neg e]; rfl
      rw [ha]
      obtain ⟨i, h1, h2, h3⟩ := allL_pick f S n m (by omega)
      exact ⟨i, by omega, h2, h3⟩
theorem cnt_one {S : Nat → Nat} {n j : Nat} (hj : j < n) (h : S j = 1) : 1 ≤ cnt S 1 n := by
  induction n with
  | zero => exact absurd hj (Nat.not_lt_zero j)
  | succ n ih =>
    show 1 ≤ cnt S 1 n + _
    by_cases e : j = n
    · subst e; rw [if_pos h]; omega
    · have := ih (by omega); omega
theorem cnt_le1 (S : Nat → Nat) : ∀ n, cnt S 1 n ≤ n := fun n => cnt_le S 1 n
theorem bendT_other (T : Nat → UInt8) (k b : Nat) (hb : b < 64) (x : UInt8) (i : Nat) (h : i ≠ k) : secB (bendF T (k * 64 + b) x) i = secB T i := secB_congr fun j hj => by
  unfold bendF
  rw [if_neg (by omega)]
theorem bendF_zero (T : Nat → UInt8) (q : Nat) : bendF T q 0 = T := by
  funext j
  unfold bendF
  split
  · exact UInt8.xor_zero
  · rfl
theorem sec_at (T : Nat → UInt8) (k j : Nat) (h : j < 64) : (secB T k).data.toList[j]? = some (T (k * 64 + j)) := by
  unfold secB sec
  show (List.map (fun j => T (k * 64 + j)) (List.range 64))[j]? = _
  rw [List.getElem?_map, List.getElem?_range h]
  rfl
theorem sec_at_none (T : Nat → UInt8) (k j : Nat) (h : ¬ j < 64) : (secB T k).data.toList[j]? = none := by
  have := sec_size T k
  exact List.getElem?_eq_none (by
    have e : (secB T k).data.toList.length = (secB T k).size := by simp
    omega)
theorem xor_ne (a x : UInt8) (hx : x ≠ 0) : a ≠ a ^^^ x := fun e => hx (by
  have h := congrArg (fun y => a ^^^ y) e
  simp only [UInt8.xor_self, ← UInt8.xor_assoc, UInt8.zero_xor] at h
  exact h.symm)
theorem bent_at (T : Nat → UInt8) (k p : Nat) (hp : p < 64) (x : UInt8) (hx : x ≠ 0) : (secB T k).data.toList[p]? ≠ (secB (bendF T (k * 64 + p) x) k).data.toList[p]? := by
  rw [sec_at _ _ _ hp, sec_at _ _ _ hp]
  unfold bendF
  rw [if_pos rfl]
  exact fun e => xor_ne _ _ hx (Option.some.inj e)
theorem bent_off (T : Nat → UInt8) (k p : Nat) (x : UInt8) (j : Nat) (hj : j ≠ p) : (secB T k).data.toList[j]? = (secB (bendF T (k * 64 + p) x) k).data.toList[j]? := by
  by_cases h6 : j < 64
  · rw [sec_at _ _ _ h6, sec_at _ _ _ h6]
    unfold bendF
    rw [if_neg (by omega)]
  · rw [sec_at_none _ _ _ h6, sec_at_none _ _ _ h6]
/-- one byte of a text another: its sum is another -/
theorem one_sum (S T : List UInt8) (p : Nat) (hl : S.length = T.length) (hne : S[p]? ≠ T[p]?) (ho : ∀ j, j ≠ p → S[j]? = T[j]?) : C.Crc.sum S ≠ C.Crc.sum T := by
  intro e
  have cut : ∀ L : List UInt8, L = L.take p ++ (L.drop p).take 1 ++ L.drop (p + 1) := fun L => by
    rw [List.append_assoc, ← List.drop_drop, List.take_append_drop, List.take_append_drop]
  rw [cut S, cut T] at e
  have f1 : S.take p = T.take p := List.ext_getElem? fun j => by
    by_cases hj : j < p
    · rw [List.getElem?_take_of_lt hj, List.getElem?_take_of_lt hj, ho j (by omega)]
    · rw [List.getElem?_take_eq_none (by omega), List.getElem?_take_eq_none (by omega)]
  have f3 : S.drop (p + 1) = T.drop (p + 1) := List.ext_getElem? fun j => by
    rw [List.getElem?_drop, List.getElem?_drop, ho (p + 1 + j) (by omega)]
  rw [f1, f3] at e
  have g := C.Crc.sum_spoilt (T.take p) ((S.drop p).take 1) ((T.drop p).take 1) (T.drop (p + 1)) (by rw [List.length_take, List.length_take, List.length_drop, List.length_drop, hl]) (by rw [List.length_take]; omega) e
  have g0 := congrArg (fun l => l[0]?) g
  simp only [List.getElem?_take_of_lt (show 0 < 1 by omega), List.getElem?_drop, Nat.add_zero] at g0
  exact hne g0
theorem least4 (P : Nat → Prop) (k : Nat) (hk : k < 4) (h : P k) : ∃ k0, k0 < 4 ∧ P k0 ∧ ∀ i, i < k0 → ¬ P i := by
  by_cases h0 : P 0
  · exact ⟨0, by omega, h0, fun i hi => by omega⟩
  by_cases h1 : P 1
  · exact ⟨1, by omega, h1, fun i hi => by obtain rfl : i = 0 := by omega
                                           exact h0⟩
  by_cases h2 : P 2
  · refine ⟨2, by omega, h2, fun i hi => ?_⟩
    have : i = 0 ∨ i = 1 := by omega
    rcases this with rfl | rfl <;> assumption
  have h3 : k = 3 := by
    have : k = 0 ∨ k = 1 ∨ k = 2 ∨ k = 3 := by omega
    rcases this with rfl | rfl | rfl | rfl
    · exact absurd h h0
    · exact absurd h h1
    · exact absurd h h2
    · rfl
  subst h3
  refine ⟨3, by omega, h, fun i hi => ?_⟩
  have : i = 0 ∨ i = 1 ∨ i = 2 := by omega
  rcases this with rfl | rfl | rfl <;> assumption
/-- Get behind a turn of a byte of any held sector -/
theorem spGets {b : HB} (ok : b.ok) (hf : 1 ≤ b.f) {s1 : HS} {U : Nat → UInt8} {D : ByteArray} (hD : D.size = 256) {f : Nat → Nat} (hf256 : ∀ j, f j < 256) {j : Nat} (hj : j < b.n) (hs : s1.S j = 1) (hh : HeldBy b HS.new s1 U D f j) (i : Nat) (hi : i < b.n) (hsi : s1.S i = 1) (p : Nat) (hp : p < 64) (x : UInt8) (hx : x ≠ 0) (xs kb : Nat) (q : Int) (nx : ¬ b.S0 xs) (w : World)
    (h : HeapI (b.at (bendF U ((b.f + i) * 64 + p) x)) s1 w) (st : StAt b xs kb q w) :
    Calls Tryz.prog 30 #[.pointer (some ⟨xs, 0, none⟩), .int .i64 ((b.f + j : Nat) : Int)] w fun e w' => e = failed 11 ∧ Below w.heap.size w w' := by
  obtain ⟨a, h1, h2, h3, h4⟩ := hh.ex
  by_cases hij : i = j
  · subst hij
    refine eGet_head (b.at (bendF U ((b.f + i) * 64 + p) x)) (ok.at _) hf s1 xs kb q i hj hs w h st nx ?_
    show saysSum (secB (bendF U ((b.f + i) * 64 + p) x) (b.f + i)) ≠ _
    have e0 := bent_at U (b.f + i) p hp x hx
    have e1 := bent_off U (b.f + i) p x
    rw [h1] at e0 e1
    exact turned_sum _ _ p hp (sealS_size _ (headT_60 _ _ _)) (sec_size _ _) (sealS_ok _ (headT_60 _ _ _)) e0 e1
  · have hk := h4 i hsi
    rcases hk with hk | hk | ⟨k, hk4, hka, hkz⟩
    · have : (0 : Nat) = 1 := hk
      omega
    · exact absurd hk hij
    · obtain ⟨k0, hk0, ⟨ha0, hz0⟩, hmin⟩ := least4 (fun k => a k = b.f + i ∧ allZero (partB D k).data.toList = false) k hk4 ⟨hka, hkz⟩
      have hother : ∀ v, v ≠ b.f + i → secB (bendF U ((b.f + i) * 64 + p) x) v = secB U v := fun v hv => bendT_other U (b.f + i) p hp x v hv
      refine eGet_part (b.at (bendF U ((b.f + i) * 64 + p) x)) (ok.at _) hf s1 xs kb q D hD f hf256 a j hj hs ?_ h3 k0 hk0 (fun k hk => ⟨(h2 k (by omega)).1, fun hz => ?_⟩) i hi ha0 hsi ?_ w h st nx
      · show secB (bendF U ((b.f + i) * 64 + p) x) (b.f + j) = _
        rw [hother _ (by omega)]
        exact h1
      · obtain ⟨j', g1, g2, g3, g4⟩ := (h2 k (by omega)).2 hz
        refine ⟨j', g1, g2, g3, ?_⟩
        show secB (bendF U ((b.f + i) * 64 + p) x) (a k) = _
        rw [hother _ fun e => hmin k hk ⟨e, hz⟩]
        exact g4
      · show C.Crc.sum (secB (bendF U ((b.f + i) * 64 + p) x) (b.f + i)).data.toList ≠ _
        obtain ⟨j', g1, g2, g3, g4⟩ := (h2 k0 hk0).2 hz0
        rw [ha0] at g4
        unfold smOf
        rw [if_neg (by rw [hz0]; decide), ← g4]
        have l1 : (secB U (b.f + i)).data.toList.length = 64 := by have := sec_size U (b.f + i); simp [this]
        have l2 : (secB (bendF U ((b.f + i) * 64 + p) x) (b.f + i)).data.toList.length = 64 := by have := sec_size (bendF U ((b.f + i) * 64 + p) x) (b.f + i); simp [this]
        exact fun e => one_sum _ _ p (by rw [l1, l2]) (bent_at U (b.f + i) p hp x hx) (bent_off U (b.f + i) p x) e.symm
/-- the law's boxes -/
structure SpBx (w0 : World) (b : HB) (xs Y xd xk X : Nat) (at' by' c : Int) (D : ByteArray) (W : World) : Prop where
  ba : Box Y 3 (.int .i64 at') W
  bb : Box (Y + 1) 3 (.int .i64 by') W
  bw : Box (Y + 1 + 1) 5 (.int .u8 c) W
  bd : Box xd 9 (.string D) W
  bk : Box xk 26 (.pointer (some ⟨b.d, 0, none⟩)) W
  bt : Box X 28 (.pointer (some ⟨xs, 0, none⟩)) W
  na : ¬ b.S0 Y
  nb : ¬ b.S0 (Y + 1)
  nw : ¬ b.S0 (Y + 1 + 1)
  nd : ¬ b.S0 xd
  nk : ¬ b.S0 xk
  nt : ¬ b.S0 X
  np : ¬ b.S0 (X + 1)
  lo : w0.heap.size ≤ Y
  o1 : Y + 2 < xd
  o2 : xd < xk
  o3 : xk < X
theorem SpBx.turn {w0 : World} {b : HB} {xs kb p : Nat} {Y xd xk X : Nat} {at' by' c : Int} {D : ByteArray} {F : List UInt8 → Option Int} {L : List (List UInt8)} {W w' : World} (h : SpBx w0 b xs Y xd xk X at' by' c D W) (g : CsGr b kb p W w') (tb : Tab (tblK Tryz.prog) kb F L W) (hp : X < p) : SpBx w0 b xs Y xd xk X at' by' c D w' := by
  have h1 := h.o1
  have h2 := h.o2
  have h3 := h.o3
  exact ⟨g.box h.ba h.na (by decide) tb (by omega), g.box h.bb h.nb (by decide) tb (by omega), g.box h.bw h.nw (by decide) tb (by omega), g.box h.bd h.nd (by decide) tb (by omega), g.box h.bk h.nk (by decide) tb (by omega), g.box h.bt h.nt (by decide) tb (by omega), h.na, h.nb, h.nw, h.nd, h.nk, h.nt, h.np, h.lo, h1, h2, h3⟩
theorem SpBx.at' {w0 : World} {b : HB} {xs : Nat} {Y xd xk X : Nat} {at' by' c : Int} {D : ByteArray} {W : World} (h : SpBx w0 b xs Y xd xk X at' by' c D W) (U : Nat → UInt8) : SpBx w0 (b.at U) xs Y xd xk X at' by' c D W := ⟨h.ba, h.bb, h.bw, h.bd, h.bk, h.bt, h.na, h.nb, h.nw, h.nd, h.nk, h.nt, h.np, h.lo, h.o1, h.o2, h.o3⟩
theorem SpBx.keepF {w0 : World} {b : HB} {xs : Nat} {Y xd xk X : Nat} {at' by' c : Int} {D : ByteArray} {W w' : World} (h : SpBx w0 b xs Y xd xk X at' by' c D W) (k : Grew (fun _ => False) W w') : SpBx w0 b xs Y xd xk X at' by' c D w' :=
  ⟨h.ba.keep k (fun e => e), h.bb.keep k (fun e => e), h.bw.keep k (fun e => e), h.bd.keep k (fun e => e), h.bk.keep k (fun e => e), h.bt.keep k (fun e => e), h.na, h.nb, h.nw, h.nd, h.nk, h.nt, h.np, h.lo, h.o1, h.o2, h.o3⟩
theorem CsAt.keepF {w0 : World} {b : HB} {s : HS} {xs kb : Nat} {q : Int} {F : List UInt8 → Option Int} {L : List (List UInt8)} {W W' : World} (c : CsAt w0 b s xs kb q F L W) (k : Grew (fun _ => False) W W') : CsAt w0 b s xs kb q F L W' :=
  ⟨c.ok, c.hf, c.hn, c.own, c.hG, c.hK, c.st.keep k (fun _ _ e => e) (fun _ _ _ e => e), c.log.keep k (fun e => e) (fun _ _ e => e), (k.block xs (c.sx.pl (S0 := b.S0) c.nx).lt (fun e => e)).trans c.sx, c.tb.keep k (fun e => e), c.ld.grew k (fun e => e) (fun e => e), c.nx, c.nk, c.xk, c.k0, c.w2, c.g.trans (k.mono fun _ _ e => e.elim)⟩
/-- behind a turn of a byte -/
theorem CsAt.spoilt {w0 : World} {b : HB} {s : HS} {xs kb : Nat} {q : Int} {F : List UInt8 → Option Int} {L : List (List UInt8)} {W W' : World} {V : Nat → UInt8} (c : CsAt w0 b s xs kb q F L W) (hd : DT b V W') (g : Grew (fun k => k = b.d ∨ k = b.bs ∨ k = b.bt) W W') (p : Nat) (hp0 : w0.heap.size ≤ p) (hpx : xs ≠ p) : CsAt w0 (b.at V) s xs kb q F L W' ∧ CsGr b kb p W W' := by
  have hS : ∀ k, (k = b.d ∨ k = b.bs ∨ k = b.bt) → b.S0 k := by
    rintro k (e | e | e)
    · exact ⟨6, by decide, e⟩
    · exact ⟨7, by decide, e⟩
    · exact ⟨8, by decide, e⟩
  have g1 : CsGr b kb p W W' := g.mono fun k _ e => Or.inl (Or.inl (hS k e))
  have hg : ∀ k, k = b.d ∨ k = b.bs ∨ k = b.bt → k < b.B := fun k e => by
    have := HB.diskLt c.ok
    omega
  have hI : HeapI (b.at V) s W' := by
    obtain ⟨M, hM, m1, m2, m3, m4, m5, m6, m7, rfl⟩ := hd
    exact c.st.disk c.ok hM ⟨m1, m2, m3, m4, m5, m6, m7⟩ g
  refine ⟨c.next (U := V) hp0 hpx c.hG c.hK hI (c.log.keep g ?_ fun k hk e => ?_) (c.tb.keep g fun e => c.nk (hS _ e)) g1, g1⟩
  · rintro (e | e | e)
    · exact c.ok.nd 1 6 (by decide) (by decide) (by decide) e
    · exact c.ok.nd 1 7 (by decide) (by decide) (by decide) e
    · exact c.ok.nd 1 8 (by decide) (by decide) (by decide) e
  · cases hk
theorem spMk {w0 w4 w5 w6 w7 : World} {Y xd : Nat} {at' by' c : Int} {D : ByteArray} {q : Int} {M : DiskM} {b : HB} (L : List (List UInt8)) (hw2 : 1 < w0.heap.size) (hld : Laid KK SS w0) (g4 : Grew (fun _ => False) w0 w4) (hY : w0.heap.size ≤ Y) (o1 : Y + 2 < xd) (ba : Box Y 3 (.int .i64 at') w4) (bb : Box (Y + 1) 3 (.int .i64 by') w4) (bw : Box (Y + 1 + 1) 5 (.int .u8 c) w4) (bd : Box xd 9 (.string D) w4) (hM : NewOf 20 w4 M w5) (ok : b.ok) (hbf : b.f = 2) (hbn : b.n = 18) (hbd : b.d = M.d) (hI : HeapI b HS.new w6) (hL : LogAt b.B b.g 0 (.slice none 0 0) [] w6) (hg : Grew (fun _ => False) (w5.alloc (.cells #[.pointer (some ⟨M.d, 0, none⟩)] 26)) w6) (hB : b.B ≤ w6.heap.size) (hfr : ∀ i, i < 6 → w5.heap.size < b.blk i) (hbs : b.bs = M.bs) (hbt : b.bt = M.bt)
    (hx : StAt b (w6.heap.size + 1) w6.heap.size q w7) (hT : Tab (tblK Tryz.prog) w6.heap.size (fun _ => none) L w7) (g7 : Grew (fun _ => False) w6 w7) (s7 : w7.heap.size = w6.heap.size + 2) (W : World)
    (hW : ((w7.alloc (.cells #[.pointer (some ⟨w6.heap.size + 1, 0, none⟩)] 28)).alloc (.cells #[.int .i64 0] 3)) = W) :
    CsAt w0 b HS.new (w6.heap.size + 1) w6.heap.size q (fun _ => none) L W ∧ SpBx w0 b (w6.heap.size + 1) Y xd w5.heap.size w7.heap.size at' by' c D W ∧ Box (w7.heap.size + 1) 3 (.int .i64 0) W := by
  have hsz1 : w4.heap.size ≤ w5.heap.size := (hM.grew fun _ => False).size
  have hsz2 : w5.heap.size + 1 ≤ w6.heap.size := by have := hg.size; simpa using this
  have hsz0 : w0.heap.size ≤ w4.heap.size := g4.size
  have hxd := bd.lt
  have hM6 : ∀ k, M.own k → w4.heap.size ≤ k ∧ k < w5.heap.size := fun k hk => by
    refine ⟨hM.fresh k hk, ?_⟩
    have hat := hM.at'
    rcases hk with rfl | rfl | rfl
    · exact hat.lt
    · exact hat.sure.lt
    · exact hat.there.lt
  have own : ∀ k, b.S0 k → w4.heap.size ≤ k ∧ k ≠ w5.heap.size := fun k hk => by
    obtain ⟨i, hi, rfl⟩ := hk
    by_cases h6 : i < 6
    · have := hfr i h6
      omega
    · have h9 : i = 6 ∨ i = 7 ∨ i = 8 := by omega
      have h10 : M.own (b.blk i) := by
        rcases h9 with rfl | rfl | rfl
        · exact Or.inl hbd
        · exact Or.inr (Or.inl hbs)
        · exact Or.inr (Or.inr hbt)
      have := hM6 _ h10
      omega
  have s1 : (w7.alloc (.cells #[.pointer (some ⟨w6.heap.size + 1, 0, none⟩)] 28)).heap.size = w7.heap.size + 1 := by simp
  have x1 := Box.new w7 28 (.pointer (some ⟨w6.heap.size + 1, 0, none⟩))
  have x3 := Box.new (w7.alloc (.cells #[.pointer (some ⟨w6.heap.size + 1, 0, none⟩)] 28)) 3 (.int .i64 0)
  rw [s1] at x3
  have xk := Box.new w5 26 (.pointer (some ⟨M.d, 0, none⟩))
  have g8 : Grew (fun _ => False) w7 W := by rw [← hW]; exact ((Grew.refl _).alloc _).alloc _
  have b1 : Box w7.heap.size 28 (.pointer (some ⟨w6.heap.size + 1, 0, none⟩)) W := by rw [← hW]; exact x1.keepAlloc _
  have b3 : Box (w7.heap.size + 1) 3 (.int .i64 0) W := by rw [← hW]; exact x3
  have ga : Grew (fun _ => False) w6 W := g7.trans g8
  have gk : Grew (fun _ => False) (w5.alloc (.cells #[.pointer (some ⟨M.d, 0, none⟩)] 26)) W := hg.trans ga
  have gall : Grew (fun _ => False) w4 W := ((hM.grew _).trans ((Grew.refl w5).alloc _)).trans gk
  have hxs := (hx.pl (S0 := b.S0) (HB.far ok (by omega))).lt
  have bk : Box w5.heap.size 26 (.pointer (some ⟨b.d, 0, none⟩)) W := by rw [hbd]; exact xk.keep gk fun e => e
  exact ⟨⟨ok, hbf, by omega, fun k hk => Nat.le_trans hsz0 (own k hk).1, rfl, rfl, hI.keep ga (fun _ _ e => e) (fun _ _ _ e => e), hL.keep ga (fun e => e) (fun _ _ e => e), (g8.block _ hxs (fun e => e)).trans hx, hT.keep g8 (fun e => e), hld.grew (g4.trans gall) (fun e => e) (fun e => e), HB.far ok (by omega), HB.far ok (by omega), by omega, by omega, hw2, (g4.trans gall).mono fun _ _ e => e.elim⟩, ⟨ba.keep gall (fun e => e), bb.keep gall (fun e => e), bw.keep gall (fun e => e), bd.keep gall (fun e => e), bk, b1, fun e => by have := own _ e; omega, fun e => by have := own _ e; omega, fun e => by have := own _ e; omega, fun e => by have := own _ e; omega, fun e => (own _ e).2 rfl, HB.far ok (by omega), HB.far ok (by omega), hY, o1, by omega, by omega⟩, b3⟩
end Go.Proofs.YtbohpffigmllkaaGreatDoor
