/-
  extent.Parse: a text that seal.Open refuses; a text that is a head's.
-/
import Derived.Test.YtbohpffigmllkaaGreatDoorExtBytes
import Derived.Deep.RegionHeld3
namespace Go.Proofs.YtbohpffigmllkaaGreatDoor
open Go.RowKit

def zf : Nat → Nat := fun _ => 0
set_option maxRecDepth 100000 in
theorem alloc_head (w : World) : (Instr.alloc 92 true (.tuple #[])).run Tryz.prog w = .ok (.pointer (some ⟨w.heap.size, 0, none⟩)) (w.alloc (.cells (headL zf zf zf).toArray 92)) := by kernel_rfl
theorem parse_open (s : ByteArray) (k : Int) (w : World) (hO : ∀ wx : World, Calls Tryz.prog 130 #[.string s] wx fun e w' => e = failed k ∧ Below wx.heap.size wx w') :
    Calls Tryz.prog 103 #[.string s] w fun e w' => e = failed k ∧ Below w.heap.size w w' := by
  have HB : Hid (Below w.heap.size w (w.alloc (.cells (headL zf zf zf).toArray 92))) := Lib.hid ((Below.refl _ w).alloc (Nat.le_refl _) _)
  have HAl := alloc_head
  generalize (headL zf zf zf).toArray = ZN at *
  go_enter Tryz.func103, Tryz.ntmps103
  go_wp2_with (refine wpList_alloc rfl 92 rfl _ (HAl _) ?_)
  refine (hO _).mono ?_
  rintro e w1 ⟨rfl, hb⟩
  have HB1 := Lib.hid (HB.out.trans (hb.mono HB.out.size))
  unfold failed
  go_wp2_with fail
  exact ⟨rfl, rfl, HB1.out⟩
theorem parse_sum (s : ByteArray) (w : World) (h1 : s.size = 64) (h : saysSum s ≠ C.Crc.sum (ahead s).data.toList) :
    Calls Tryz.prog 103 #[.string s] w fun e w' => e = failed 11 ∧ Below w.heap.size w w' :=
  parse_open s 11 w fun wx => sealOpen_sum s wx (by omega) h
/-- within Parse: the result's block, the In on its way, all that was there -/
structure PaAt (w : World) (q : Nat) (rest : ByteArray) (wx : World) : Prop where
  below : Below w.heap.size w wx
  res : Cells w.heap.size 40 (headAt zf zf zf) wx
  cell : wx.cell? ⟨q, 0, none⟩ = some (.string rest)
  froz : wx.frozen? ⟨q, 0, none⟩ = false
  lo : w.heap.size < q
theorem PaAt.set {w : World} {q : Nat} {rest : ByteArray} {wx : World} (h : PaAt w q rest wx) (r : ByteArray) : PaAt w q r (wx.setCell ⟨q, 0, none⟩ (.string r)) :=
  ⟨h.below.setCell (Nat.le_of_lt h.lo) _, h.res.far _ (Nat.ne_of_lt h.lo), World.cell?_setCell_same _ _ _ h.cell, by rw [World.frozen?_setCell]; exact h.froz, h.lo⟩
theorem PaAt.text {w : World} {q : Nat} {rest : ByteArray} {wx : World} (h : PaAt w q rest wx) (n : Nat) (hn : n ≤ rest.size) :
    Calls Tryz.prog 131 #[.pointer (some ⟨q, 0, none⟩), .int .i64 (n : Int)] wx fun e w' => e = .returned (.string (rest.extract 0 n)) ∧ PaAt w q (rest.extract n rest.size) w' :=
  (text_ok ⟨q, 0, none⟩ rest n wx (by omega) (by omega) h.cell h.froz).mono (by
    rintro e w' ⟨rfl, rfl⟩
    exact ⟨rfl, h.set _⟩)
theorem PaAt.num {w : World} {q : Nat} {rest : ByteArray} {wx : World} (h : PaAt w q rest wx) (n : Int) (hn : wid n ≤ rest.size) :
    Calls Tryz.prog 132 #[.pointer (some ⟨q, 0, none⟩), .int .i64 n] wx fun e w' => e = .returned (.int .u64 (Go.Proofs.YtbohpffigmllkaaGreatDoor.num (rest.data.toList.take (wid n)) : Nat)) ∧ wx.setCell ⟨q, 0, none⟩ (.string (rest.extract (wid n) rest.size)) = w' :=
  num_ok ⟨q, 0, none⟩ rest n wx hn h.cell h.froz
theorem PaAt.start (s : ByteArray) (w : World) (h1 : s.size = 64) (h : saysSum s = C.Crc.sum (ahead s).data.toList) :
    Calls Tryz.prog 130 #[.string s] (w.alloc (.cells (headL zf zf zf).toArray 92)) fun e w' => e = .returned (.pointer (some ⟨w.heap.size + 3, 0, none⟩)) ∧ PaAt w (w.heap.size + 3) (ahead s) w' ∧ w'.heap.size = w.heap.size + 4 :=
  (sealOpen_ok s _ h1 h).mono (by
    rintro e w' ⟨rfl, hb, hc, hf, hs⟩
    have hz : (w.alloc (.cells (headL zf zf zf).toArray 92)).heap.size = w.heap.size + 1 := World.size_alloc _ _
    rw [hz] at hc hf hs ⊢
    have h0 := head_new w zf zf zf 92
    exact ⟨rfl, ⟨((Below.refl _ w).alloc (Nat.le_refl _) _).trans (hb.mono (by rw [hz]; omega)), h0.below hb, hc, hf, by omega⟩, hs⟩)
theorem PaAt.alloc {w : World} {q : Nat} {r : ByteArray} {wx : World} (h : PaAt w q r wx) (o : Obj) : PaAt w q r (wx.alloc o) := by
  have hq := World.block_lt_of_cell? wx _ h.cell
  have hb : Below wx.heap.size wx (wx.alloc o) := (Below.refl _ wx).alloc (Nat.le_refl _) o
  exact ⟨h.below.alloc h.below.size o, h.res.alloc o, by rw [hb.cell (p := ⟨q, 0, none⟩) hq]; exact h.cell, by rw [hb.frozen (p := ⟨q, 0, none⟩) hq]; exact h.froz, h.lo⟩
theorem PaAt.row {w : World} {q : Nat} {r : ByteArray} {wx : World} (h : PaAt w q r wx) {n : Nat} (o : Nat) (l : List Value) (hq : q < n) : PaAt w q r (wx.setCells n o l) := by
  have hlo := h.lo
  have hb : Below n wx (wx.setCells n o l) := below_row (Below.refl n wx) l (Nat.le_refl n)
  exact ⟨below_row h.below l (by omega), h.res.farRow l (by omega), by rw [hb.cell (p := ⟨q, 0, none⟩) hq]; exact h.cell, by rw [hb.frozen (p := ⟨q, 0, none⟩) hq]; exact h.froz, hlo⟩
theorem PaAt.one {w : World} {q : Nat} {r : ByteArray} {wx : World} (h : PaAt w q r wx) {n : Nat} (o : Nat) (v : Value) (hq : q < n) : PaAt w q r (wx.setCell ⟨n, o, none⟩ v) := by
  have hlo := h.lo
  have hb : Below n wx (wx.setCell ⟨n, o, none⟩ v) := (Below.refl n wx).setCell (Nat.le_refl n) _
  exact ⟨h.below.setCell (by show w.heap.size ≤ n; omega) _, h.res.far _ (by omega), by rw [hb.cell (p := ⟨q, 0, none⟩) hq]; exact h.cell, by rw [hb.frozen (p := ⟨q, 0, none⟩) hq]; exact h.froz, hlo⟩
/-- what was read so far -/
def upTo (f : Nat → Nat) (k j : Nat) : Nat := if j < k then f j else 0
theorem upTo_step (f : Nat → Nat) (k : Nat) : updN (upTo f k) k (f k) = upTo f (k + 1) := by
  funext j
  unfold updN upTo
  by_cases e : j = k
  · subst e
    rw [if_pos rfl, if_pos (by omega)]
  · rw [if_neg e]
    by_cases h : j < k
    · rw [if_pos h, if_pos (by omega)]
    · rw [if_neg h, if_neg (by omega)]
theorem upTo_zero (f : Nat → Nat) : upTo f 0 = zf := by
  funext j
  unfold upTo zf
  rw [if_neg (by omega)]
/-- within Parse's first loop -/
structure PaA (w : World) (q n : Nat) (t : ByteArray) (k : Nat) (wx : World) : Prop where
  pa : PaAt w q (t.extract (1 + 2 * k) t.size) wx
  head : Cells n 40 (headAt (upTo (saysAt t) k) zf zf) wx
  qn : q < n
/-- within its second loop -/
structure PaS (w : World) (q n : Nat) (t : ByteArray) (k : Nat) (wx : World) : Prop where
  pa : PaAt w q (t.extract (9 + 4 * k) t.size) wx
  head : Cells n 40 (headAt (upTo (saysAt t) 4) (upTo (saysSm t) k) zf) wx
  qn : q < n
theorem PaA.num {w : World} {q n : Nat} {t : ByteArray} {k : Nat} {wx : World} (h : PaA w q n t k wx) (hk : k < 4) (ht : t.size = 60) :
    Calls Tryz.prog 132 #[.pointer (some ⟨q, 0, none⟩), .int .i64 2] wx fun e w' => e = .returned (.int .u64 (saysAt t k : Nat)) ∧ PaAt w q (t.extract (1 + 2 * (k + 1)) t.size) w' ∧ Cells n 40 (headAt (upTo (saysAt t) k) zf zf) w' := by
  have hn := h.pa.num 2 (by rw [wid2, ByteArray.size_extract]; omega)
  rw [wid2, ext_ext, show 1 + 2 * k + 2 = 1 + 2 * (k + 1) by omega] at hn
  refine hn.mono ?_
  rintro e w' ⟨rfl, rfl⟩
  exact ⟨rfl, h.pa.set _, h.head.far _ (by have := h.qn; omega)⟩
theorem PaS.num {w : World} {q n : Nat} {t : ByteArray} {k : Nat} {wx : World} (h : PaS w q n t k wx) (hk : k < 4) (ht : t.size = 60) :
    Calls Tryz.prog 132 #[.pointer (some ⟨q, 0, none⟩), .int .i64 4] wx fun e w' => e = .returned (.int .u64 (saysSm t k : Nat)) ∧ PaAt w q (t.extract (9 + 4 * (k + 1)) t.size) w' ∧ Cells n 40 (headAt (upTo (saysAt t) 4) (upTo (saysSm t) k) zf) w' := by
  have hn := h.pa.num 4 (by rw [wid4, ByteArray.size_extract]; omega)
  rw [wid4, ext_ext, show 9 + 4 * k + 4 = 9 + 4 * (k + 1) by omega] at hn
  refine hn.mono ?_
  rintro e w' ⟨rfl, rfl⟩
  exact ⟨rfl, h.pa.set _, h.head.far _ (by have := h.qn; omega)⟩
theorem PaA.store {w : World} {q n : Nat} {t : ByteArray} {k : Nat} {wx : World} (p : PaAt w q (t.extract (1 + 2 * (k + 1)) t.size) wx) (c : Cells n 40 (headAt (upTo (saysAt t) k) zf zf) wx) (hk : k < 4) (hq : q < n) :
    PaA w q n t (k + 1) (wx.setCell ⟨n, k, none⟩ (.int .i64 (saysAt t k : Nat))) := by
  refine ⟨p.one _ _ hq, ?_, hq⟩
  have := c.setAt k (saysAt t k) hk
  rwa [upTo_step] at this
theorem PaS.store {w : World} {q n : Nat} {t : ByteArray} {k : Nat} {wx : World} (p : PaAt w q (t.extract (9 + 4 * (k + 1)) t.size) wx) (c : Cells n 40 (headAt (upTo (saysAt t) 4) (upTo (saysSm t) k) zf) wx) (hk : k < 4) (hq : q < n) :
    PaS w q n t (k + 1) (wx.setCell ⟨n, 4 + k, none⟩ (.int .u32 (saysSm t k : Nat))) := by
  refine ⟨p.one _ _ hq, ?_, hq⟩
  have := c.setSm k (saysSm t k) hk
  rwa [upTo_step] at this
theorem PaS.text32 {w : World} {q n : Nat} {t : ByteArray} {wx : World} (h : PaS w q n t 4 wx) (ht : t.size = 60) :
    Calls Tryz.prog 131 #[.pointer (some ⟨q, 0, none⟩), .int .i64 32] wx.drew fun e w' => e = .returned (.string (textH t)) ∧ PaAt w q (t.extract 57 t.size) w' ∧ Cells n 40 (headAt (upTo (saysAt t) 4) (upTo (saysSm t) 4) zf) w' := by
  have hn := text_ok ⟨q, 0, none⟩ (t.extract (9 + 4 * 4) t.size) 32 wx.drew (by decide) (by rw [ByteArray.size_extract]; omega) h.pa.cell h.pa.froz
  have e32 : (32 : Int).toNat = 32 := rfl
  rw [e32, ext_ext, show 9 + 4 * 4 + 32 = 57 by omega] at hn
  refine hn.mono ?_
  rintro e w' ⟨rfl, rfl⟩
  have hd : PaAt w q (t.extract (9 + 4 * 4) t.size) wx.drew := ⟨h.pa.below.drew, h.pa.res.drew, h.pa.cell, h.pa.froz, h.pa.lo⟩
  exact ⟨rfl, hd.set _, h.head.drew.far _ (by have := h.qn; omega)⟩
theorem slice_eight (b : Nat) : ∀ w : World, (Instr.sliceAt 51 (.pointer (some ⟨b, 8, none⟩)) none none none).run Tryz.prog w = .ok (.slice (some ⟨b, 8, none⟩) 32 32) w := by
  intro w
  kernel_rfl
theorem copyHead {n : Nat} {g : Nat → Value} {wx : World} (h : Cells n 40 g wx) (x : ByteArray) (hx : x.size = 32) :
    (Builtin.copy_ #[81, 9] 3 #[.slice (some ⟨n, 8, none⟩) 32 32, .string x]).run Tryz.prog wx = .ok (.int .i64 (32 : Nat)) (wx.setCells n 8 (bytesOf (x.data.toList.take 32))) :=
  run_copy_str wx _ _ _ 5 n 8 32 32 32 x (by omega) Tryz.underlying81 (fun w => by kernel_rfl) (fun j hj => by rw [(h.2 (8 + j) (by omega)).1]; rfl) (fun j hj => (h.2 (8 + j) (by omega)).2)
/-- byte j of a text of 32 bytes -/
def byB (x : ByteArray) (j : Nat) : Nat := (x.data.toList.getD j 0).toNat
theorem byB_lt (x : ByteArray) (j : Nat) : byB x j < 256 := by unfold byB; exact UInt8.toNat_lt _
theorem Cells.summed {n : Nat} {a m f : Nat → Nat} {x : ByteArray} {wx : World} (h : Cells n 40 (headAt a m f) wx) (hx : x.size = 32) :
    Cells n 40 (headAt a m (byB x)) (wx.setCells n 8 (bytesOf (x.data.toList.take 32))) := by
  have hxl : x.data.toList.length = 32 := by rw [← hx]; simp
  have hl : (x.data.toList.take 32).length = 32 := by rw [List.length_take]; omega
  refine h.setSum _ (by unfold bytesOf; rw [List.length_map, hl]) fun j hj => ?_
  unfold bytesOf byB
  rw [List.getElem?_map, List.getElem?_take_of_lt hj, List.getD_eq_getElem?_getD, List.getElem?_eq_getElem (by omega)]
  rfl
theorem u32_small (n : Nat) (h : n < 4294967296) : IntKind.u32.wrap (n : Int) = n := by
  simp only [IntKind.wrap, IntKind.bits, IntKind.signed]
  simp
  omega
/-- the head that a text says -/
def headOf (t : ByteArray) : List Value := headL (saysAt t) (saysSm t) (byteH t)
theorem headOf_eq (t : ByteArray) : headL (upTo (saysAt t) 4) (upTo (saysSm t) 4) (byB (textH t)) = headOf t :=
  headL_congr (fun j h => by unfold upTo; rw [if_pos h]) (fun j h => by unfold upTo; rw [if_pos h]) fun j h => rfl
set_option maxRecDepth 100000 in
set_option maxHeartbeats 1000000 in
theorem parse_good (s : ByteArray) (w : World) (h1 : s.size = 64) (h : saysSum s = C.Crc.sum (ahead s).data.toList) (hm : (ahead s).extract 0 1 = ⟨#[69]⟩) (hz : ∀ k (h : k < ((ahead s).extract 57 (ahead s).size).size), ((ahead s).extract 57 (ahead s).size)[k] = 0) :
    Calls Tryz.prog 103 #[.string s] w fun e w' => e = .returned (.agg (headOf (ahead s)).toArray) ∧ Below w.heap.size w w' := by
  obtain ⟨r, hr⟩ : ∃ r, (ahead s).extract 57 (ahead s).size = r := ⟨_, rfl⟩
  obtain ⟨NN, hNN⟩ : ∃ NN, headOf (ahead s) = NN := ⟨_, rfl⟩
  have HR := Lib.hid hr
  have HNN := Lib.hid hNN
  rw [hNN]
  have HZ0 : Hid (∀ k (h : k < r.size), r[k] = 0) := by subst hr; exact Lib.hid hz
  clear hr hNN hz
  have HS := Lib.hid (PaAt.start s w h1 h)
  have HAl := alloc_head
  have hz : (ahead s).size = 60 := ahead_size s (by omega)
  have HT := Lib.hid (fun wx (hp : PaAt w (w.heap.size + 3) (ahead s) wx) => hp.text 1 (by omega))
  have HTz := Lib.hid hz
  rw [hm] at HT
  clear hm h hz
  go_enter Tryz.func103, Tryz.ntmps103
  go_wp2_with (refine wpList_alloc rfl 92 rfl _ (HAl _) ?_)
  refine HS.out.mono ?_
  rintro e w1 ⟨rfl, hp, _⟩
  have HP := Lib.hid hp
  clear hp
  go_wp2_with fail
  refine (HT.out w1 HP.out).mono ?_
  rintro e w2 ⟨rfl, hp2⟩
  have HP2 := Lib.hid hp2
  clear hp2
  have HQn : Hid (w.heap.size + 3 < w2.heap.size) := Lib.hid (World.block_lt_of_cell? w2 _ HP2.out.cell)
  have HN4 : Hid (PaA w (w.heap.size + 3) w2.heap.size (ahead s) 0 (w2.alloc (.cells (headL zf zf zf).toArray 92))) := Lib.hid (by
    refine ⟨HP2.out.alloc _, ?_, HQn.out⟩
    rw [upTo_zero]
    exact head_new _ _ _ _ _)
  generalize (headL zf zf zf).toArray = ZN at *
  go_upto_region 5 with (first
    | (refine wpList_alloc rfl 92 rfl _ (HAl _) ?_))
  generalize w2.alloc (.cells ZN 92) = w4 at *
  generalize w2.heap.size = n at *
  generalize w.heap.size + 3 = q at *
  go_wp2_with fail
  go_loopw [13] (fun i wx => ∃ k : Nat, k ≤ 4 ∧ i = .int .i64 (k : Int) ∧ PaA w q n (ahead s) k wx) (fun i _ => 4 - (intOf i).toNat)
  case atStart => exact ⟨0, by omega, rfl, HN4.out⟩
  case round =>
    obtain ⟨k, hk, rfl, hd⟩ := hrel
    have HD := Lib.hid hd
    clear hd HN4
    by_cases hlt : k < 4
    · have i0 : (k : Int) < 4 := by omega
      have HNm := Lib.hid (HD.out.num hlt HTz.out)
      have u2 := i64_small (saysAt (ahead s) k) (saysAt_lt _ _)
      have HK := Lib.hid hlt
      clear hlt hk
      go_wp2_with fail
      refine HNm.out.mono ?_
      rintro e w5 ⟨rfl, hp5, hc5⟩
      have HS5 := Lib.hid (PaA.store hp5 hc5 HK.out HQn.out)
      have hcell5 := (hc5.2 k (by have := HK.out; omega)).1
      have hfroz5 := (hc5.2 k (by have := HK.out; omega)).2
      clear hp5 hc5 HNm
      go_wp2_with fail
      go_roundw
      case rel => exact ⟨k + 1, by have := HK.out; omega, by go_num, HS5.out⟩
      case measure => simp [intOf]; have := HK.out; omega
    · have i0 : ¬ (k : Int) < 4 := by omega
      obtain rfl : k = 4 := by omega
      have HE : Hid (PaS w q n (ahead s) 0 wr) := Lib.hid (by
        refine ⟨HD.out.pa, ?_, HQn.out⟩
        rw [upTo_zero]
        exact HD.out.head)
      clear hlt hk HD
      go_wp2_with fail
      go_loopw [23] (fun i wx => ∃ k : Nat, k ≤ 4 ∧ i = .int .i64 (k : Int) ∧ PaS w q n (ahead s) k wx) (fun i _ => 4 - (intOf i).toNat)
      case atStart => exact ⟨0, by omega, rfl, HE.out⟩
      case round =>
        obtain ⟨k, hk, rfl, hd⟩ := hrel
        have HD := Lib.hid hd
        clear hd HE
        by_cases hlt : k < 4
        · have i0 : (k : Int) < 4 := by omega
          have HNm := Lib.hid (HD.out.num hlt HTz.out)
          have u2 := u32_small (saysSm (ahead s) k) (saysSm_lt _ _)
          have HK := Lib.hid hlt
          clear hlt hk
          go_wp2_with fail
          refine HNm.out.mono ?_
          rintro e w5 ⟨rfl, hp5, hc5⟩
          have HS5 := Lib.hid (PaS.store hp5 hc5 HK.out HQn.out)
          have hcell5 := (hc5.2 (4 + k) (by have := HK.out; omega)).1
          have hfroz5 := (hc5.2 (4 + k) (by have := HK.out; omega)).2
          clear hp5 hc5 HNm
          go_wp2_with fail
          go_roundw
          case rel => exact ⟨k + 1, by have := HK.out; omega, by go_num, HS5.out⟩
          case measure => simp [intOf]; have := HK.out; omega
        · have i0 : ¬ (k : Int) < 4 := by omega
          obtain rfl : k = 4 := by omega
          go_upto_region 15 with fail
          clear i0 hlt hk
          have hsl := slice_eight n
          refine wp_region_held_drew (S := fun _ => True) (by kernel_rfl) trivial (fun _ => ?_)
          refine wpAnyH_take (i := 0) (oi := { dst := some 33, op := Op.fieldAddr 92 (Operand.tmp 4) 2, type := 0, pos := "extent.go:61", after := #[], guard := none }) (v := ?_) rfl (by kernel_rfl) (by kernel_rfl) (by kernel_rfl) (fun _ _ _ h => h) (Or.inl ⟨by rfl, ?_⟩) trivial ?_
          rotate_left
          · (intro wz hSw; go_simp; try with_reducible rfl)
          try simp only [Act.put, List.setIfInBounds_toArray, List.set_cons_zero, List.set_cons_succ]
          refine wpAnyH_take (i := 1) (oi := { dst := some 34, op := Op.slice 51 (Operand.tmp 33) none none none, type := 81, pos := "extent.go:61", after := #[{ on := 0, ground := Ground.data }], guard := none }) (v := ?_) rfl (by kernel_rfl) (by kernel_rfl) (by kernel_rfl) (fun _ _ _ h => h) (Or.inl ⟨by rfl, ?_⟩) trivial ?_
          rotate_left
          · (intro wz hSw; go_simp; try with_reducible rfl)
          try simp only [Act.put, List.setIfInBounds_toArray, List.set_cons_zero, List.set_cons_succ]
          refine wpAnyH_take (i := 2) (oi := { dst := some 35, op := Op.move (Operand.tmp 3), type := 156, pos := "extent.go:61", after := #[], guard := none }) (v := ?_) rfl (by kernel_rfl) (by kernel_rfl) (by kernel_rfl) (fun _ _ _ h => h) (Or.inl ⟨by rfl, ?_⟩) trivial ?_
          rotate_left
          · (intro wz hSw; go_simp; try with_reducible rfl)
          try simp only [Act.put, List.setIfInBounds_toArray, List.set_cons_zero, List.set_cons_succ]
          refine wpAnyH_ready (rs := [3]) (by kernel_rfl) (by simp) ?_
          refine AllReadyH.cons (o := { dst := some 36, op := Op.call { callee := Callee.value (Operand.func 131), args := #[Operand.tmp 35, Operand.const (Value.int IntKind.i64 32)], argTypes := #[156, 3] }, type := 9, pos := "extent.go:61", after := #[{ on := 2, ground := Ground.data }], guard := none }) rfl (fun K hK => ?_) AllReadyH.nil
          go_simp
          refine (HD.out.text32 HTz.out).mono ?_
          rintro e w5 ⟨rfl, hp5, hc5⟩
          have HP5 := Lib.hid hp5
          have HC5 := Lib.hid hc5
          have HCp := Lib.hid (copyHead hc5 (textH (ahead s)) (textH_size _ HTz.out))
          clear hp5 hc5
          try go_wp2_with fail
          refine hK.out _ _ trivial (fun _ => ?_)
          clear hK K
          try simp only [List.setIfInBounds_toArray, List.set_cons_zero, List.set_cons_succ]
          refine wpAnyH_ready (rs := [4]) (by kernel_rfl) (by simp) ?_
          refine AllReadyH.cons (o := { dst := some 37, op := Op.call { callee := Callee.builtin Builtin.copy, args := #[Operand.tmp 34, Operand.tmp 36], argTypes := #[81, 9] }, type := 3, pos := "extent.go:61", after := #[{ on := 1, ground := Ground.data }, { on := 3, ground := Ground.data }, { on := 3, ground := Ground.chain }], guard := none }) rfl (fun K hK => ?_) AllReadyH.nil
          have hcp := HCp.out
          go_simp
          refine hK.out _ _ trivial (fun _ => ?_)
          clear hK K
          refine wpAnyH_done (by kernel_rfl) ?_ _
          have HP6 := Lib.hid (HP5.out.row 8 (bytesOf ((textH (ahead s)).data.toList.take 32)) HQn.out)
          have HC6 := Lib.hid (HC5.out.summed (textH_size _ HTz.out))
          have hrs : ((ahead s).extract 57 (ahead s).size).size ≤ maxLen := by
            have := HTz.out
            rw [ByteArray.size_extract]
            unfold maxLen
            omega
          clear HP5 HC5 HCp HD
          generalize w5.setCells n 8 (bytesOf ((textH (ahead s)).data.toList.take 32)) = w6 at *
          rw [HR.out] at HP6 hrs
          have HZ := Lib.hid (zero_ok ⟨q, 0, none⟩ r w6 HZ0.out hrs HP6.out.cell HP6.out.froz)
          have HP7 := Lib.hid (HP6.out.set ⟨#[]⟩)
          have HC7 := Lib.hid (HC6.out.far (c := q) (k := 0) (.string ⟨#[]⟩) (by have := HQn.out; omega))
          clear hrs HP6 HC6
          have HNNl : Hid (NN.length = 40) := Lib.hid (by rw [← HNN.out]; exact headL_len _ _ _)
          have HNNo : Hid (NN.toArray.all (·.oneCell') = true) := Lib.hid (by rw [← HNN.out]; exact headL_one _ _ _)
          have HI1 : Hid ((Tryz.prog.info? 92).map (·.size) = some NN.toArray.size) := Lib.hid (by rw [List.size_toArray, HNNl.out]; kernel_rfl)
          have HI2 : Hid ((Tryz.prog.info? 92).map (·.size) = some NN.length) := Lib.hid (by rw [HNNl.out]; kernel_rfl)
          have HRg := Lib.hid (HC7.out.head)
          rw [headOf_eq, HNN.out] at HRg
          go_wp2_with fail
          refine HZ.out.mono ?_
          rintro e w7 ⟨rfl, rfl⟩
          generalize w6.setCell ⟨q, 0, none⟩ (.string ⟨#[]⟩) = w7 at *
          have hr7 := HRg.out
          have HTh7 : Hid (w7.there w.heap.size 0 NN.toArray.size) := Lib.hid (HP7.out.res.there 0 _ (by have := HNNl.out; simp [this]))
          go_wp2_with (first
            | (with_reducible refine wpList_load_mid rfl 92 _ rfl n 0 rfl NN _ hr7 Tryz.underlying92 rfl HI2.out ?_)
            | (with_reducible refine wpList_store_mid rfl 92 _ _ rfl w.heap.size 0 NN.toArray rfl rfl HTh7.out HI1.out HNNo.out ?_))
          refine bodyPost_ret (v := .agg NN.toArray) ?_ rfl ⟨rfl, below_row HP7.out.below NN (Nat.le_refl _)⟩
          exact results_mid Tryz.results103 _ _ w.heap.size 0 NN _ rfl (World.rangeAt_setCells_same _ _ _ _ (by have z := HTh7.out; rwa [List.size_toArray] at z)) Tryz.underlying92 rfl HI2.out
/-- a head's own bytes -/
theorem parse_own (a m f : Nat → Nat) (ha : ∀ j, a j < 65536) (hm : ∀ j, m j < 4294967296) (hf : ∀ j, f j < 256) (w : World) :
    Calls Tryz.prog 103 #[.string (sealS (headT a m f))] w fun e w' => e = .returned (.agg (headL a m f).toArray) ∧ Below w.heap.size w w' := by
  have h := parse_good (sealS (headT a m f)) w (sealS_size _ (headT_60 a m f)) (sealS_ok _ (headT_60 a m f)) (own_mark a m f) (own_zero a m f)
  have e : headOf (ahead (sealS (headT a m f))) = headL a m f := own_head a m f ha hm hf
  rwa [e] at h
end Go.Proofs.YtbohpffigmllkaaGreatDoor
