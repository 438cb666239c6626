/-
  Texts put together: ExtLies, ExtSect, ExtGet, ExtMore.
-/
import Derived.Test.YtbohpffigmllkaaGreatDoorExtNew
import Derived.Test.YtbohpffigmllkaaGreatDoorShelfRepeat
import Derived.Deep.RegionHeld3
import Derived.StillTailTactics
/-
  extent: what lies on a heap's disk behind a write, and what a Get reads there: a sector, a head.
-/
namespace Go.Proofs.YtbohpffigmllkaaGreatDoor
open Go.RowKit Go.Maps Go.ChangeMaps Go.WideShapes

theorem secB_congr {T U : Nat → UInt8} {k : Nat} (h : ∀ j, j < 64 → T (k * 64 + j) = U (k * 64 + j)) : secB T k = secB U k := by
  unfold secB sec
  congr 2
  exact List.map_congr_left fun j hj => h j (List.mem_range.1 hj)
theorem wroteT_other (T : Nat → UInt8) (k : Nat) (s : ByteArray) (i : Nat) (h : i ≠ k) : secB (wroteT T k s) i = secB T i := secB_congr fun j hj => by
  unfold wroteT
  rw [if_neg (by omega)]
theorem wroteT_same (T : Nat → UInt8) (k : Nat) (s : ByteArray) (h : s.size = 64) : secB (wroteT T k s) k = s := by
  unfold secB sec
  apply ByteArray.ext
  apply Array.toList_inj.mp
  show List.map (fun j => wroteT T k s (k * 64 + j)) (List.range 64) = s.data.toList
  have hl : s.data.toList.length = 64 := by rw [← h]; simp
  refine List.ext_getElem (by simp [hl]) fun j h1 h2 => ?_
  have hj : j < 64 := by simpa using h1
  rw [List.getElem_map, List.getElem_range]
  unfold wroteT txtf
  rw [if_pos (by omega), show k * 64 + j - k * 64 = j by omega, List.getD_eq_getElem?_getD, List.getElem?_eq_getElem h2]
  rfl
/-- where a sector of an extent lies: nowhere if it is all noughts -/
def LiesP (b : HB) (s : HS) (T : Nat → UInt8) (D : ByteArray) (k x : Nat) : Prop := (allZero (partB D k).data.toList = true → x = 0) ∧ (allZero (partB D k).data.toList = false → ∃ j, x = b.f + j ∧ j < b.n ∧ s.S j = 1 ∧ secB T x = partB D k)
theorem LiesP.more {b : HB} {s : HS} {T : Nat → UInt8} {D : ByteArray} {k x : Nat} (h : LiesP b s T D k x) (j : Nat) (hj : s.S j = 0) (y : Int) (t : ByteArray) : LiesP b (s.put j y) (wroteT T (b.f + j) t) D k x := by
  refine ⟨h.1, fun hz => ?_⟩
  obtain ⟨i, rfl, hi, hs, ht⟩ := h.2 hz
  have hne : i ≠ j := fun e => by rw [e, hj] at hs; cases hs
  refine ⟨i, rfl, hi, ?_, ?_⟩
  · show upd s.S j 1 i = 1
    unfold upd
    rw [if_neg hne]
    exact hs
  · rw [wroteT_other _ _ _ _ (by omega)]
    exact ht
theorem Wr.lies {b : HB} {s s1 : HS} {D : ByteArray} {k : Nat} {a : Nat → Nat} {J : List Nat} {U : Nat → UInt8} (hD : D.size = 256) (h : Wr b s D k a J s1 U) : k ≤ 4 → (∀ i, i < k → LiesP b s1 U D i (a i)) ∧ ∀ i, k ≤ i → a i = 0 := by
  induction h with
  | none => exact fun _ => ⟨fun i hi => by omega, fun _ _ => rfl⟩
  | @skip k a J s1 U _ hz ih =>
    intro hk
    obtain ⟨i1, i2⟩ := ih (by omega)
    refine ⟨fun i hi => ?_, fun i hi => i2 i (by omega)⟩
    by_cases e : i < k
    · exact i1 i e
    · obtain rfl : i = k := by omega
      exact ⟨fun _ => i2 _ (Nat.le_refl _), fun e => by rw [hz] at e; cases e⟩
  | @put k a J s1 U j _ hz hj hs _ ih =>
    intro hk
    obtain ⟨i1, i2⟩ := ih (by omega)
    refine ⟨fun i hi => ?_, fun i hi => ?_⟩
    · by_cases e : i = k
      · subst e
        have e1 : updN a i (b.f + j) i = b.f + j := by unfold updN; rw [if_pos rfl]
        rw [e1]
        refine ⟨fun e => by (rw [hz] at e; cases e), fun _ => ⟨j, rfl, hj, ?_, wroteT_same _ _ _ (partB_size D hD i (by omega))⟩⟩
        show upd s1.S j 1 j = 1
        unfold upd
        rw [if_pos rfl]
      · have e1 : updN a k (b.f + j) i = a i := by unfold updN; rw [if_neg e]
        rw [e1]
        exact (i1 i (by omega)).more j hs _ _
    · have e1 : updN a k (b.f + j) i = a i := by unfold updN; rw [if_neg (by omega)]
      rw [e1]
      exact i2 i (by omega)
/-- an extent lies there -/
def Lies (b : HB) (s : HS) (T : Nat → UInt8) (D : ByteArray) (f : Nat → Nat) (v : Nat) : Prop := ∃ (a : Nat → Nat) (j : Nat), v = b.f + j ∧ j < b.n ∧ s.S j = 1 ∧ secB T v = sealS (headT a (smOf D) f) ∧ (∀ k, k < 4 → LiesP b s T D k (a k)) ∧ ∀ k, a k < 65536
theorem Wr.whole {b : HB} {s s1 : HS} {D : ByteArray} {a : Nat → Nat} {J : List Nat} {U : Nat → UInt8} {f : Nat → Nat} (ok : b.ok) (hD : D.size = 256) (h : Wr b s D 4 a J s1 U) (j : Nat) (hj : j < b.n) (hs : s1.S j = 0) (y : Int) : Lies b (s1.put j y) (wroteT U (b.f + j) (sealS (headT a (smOf D) f))) D f (b.f + j) := by
  refine ⟨a, j, rfl, hj, ?_, wroteT_same _ _ _ (sealS_size _ (headT_60 _ _ _)), fun k hk => ((h.lies hD (Nat.le_refl 4)).1 k hk).more j hs y _, h.lt ok⟩
  show upd s1.S j 1 j = 1
  unfold upd
  rw [if_pos rfl]
theorem repeatL_len (l : List UInt8) : ∀ n, (Lib.repeatL l n).length = l.length * n
  | 0 => by simp [Lib.repeatL]
  | n + 1 => by
    show (l ++ Lib.repeatL l n).length = _
    rw [List.length_append, repeatL_len l n, Nat.mul_succ]
    omega
theorem repeatL_zero : ∀ n, Lib.repeatL [(0 : UInt8)] n = List.replicate n 0
  | 0 => rfl
  | n + 1 => by
    show [0] ++ Lib.repeatL [0] n = _
    rw [repeatL_zero n]
    rfl
theorem zeros_of (t : ByteArray) (h : allZero t.data.toList = true) : (⟨(Lib.repeatL [(0 : UInt8)] t.size).toArray⟩ : ByteArray) = t := by
  rw [repeatL_zero]
  apply ByteArray.ext
  apply Array.toList_inj.mp
  have hl : t.data.toList.length = t.size := by simp
  show List.replicate t.size 0 = t.data.toList
  refine List.ext_getElem (by simp [hl]) fun j h1 h2 => ?_
  rw [List.getElem_replicate]
  unfold allZero at h
  have := List.all_eq_true.1 h _ (List.getElem_mem h2)
  simpa using (of_decide_eq_true this).symm
end Go.Proofs.YtbohpffigmllkaaGreatDoor

/-
  extent: a sector and a head are read: contracts.
-/
namespace Go.Proofs.YtbohpffigmllkaaGreatDoor
open Go.RowKit Go.Maps Go.ChangeMaps Go.WideShapes

set_option maxRecDepth 100000 in
theorem sector_any (b : HB) (ok : b.ok) (hf : 1 ≤ b.f) (s : HS) (xs kb : Nat) (q : Int) (D : ByteArray) (hD : D.size = 256) (k x : Nat) (hk : k < 4) (w : World) (h : HeapI b s w) (st : StAt b xs kb q w) (hl : LiesP b s b.T D k x) :
    Calls Tryz.prog 72 #[.pointer (some ⟨xs, 0, none⟩), .int .i64 (x : Int), .int .u32 (smOf D k : Nat)] w fun e w' => e = .returned (.string (partB D k)) ∧ Below w.heap.size w w' := by
  have hs := partB_size D hD k hk
  cases hz : allZero (partB D k).data.toList with
  | true =>
    obtain rfl := hl.1 hz
    have HR : Hid (Calls Tryz.prog 50 #[.string ⟨#[0]⟩, .int .i64 64] w fun e w' => e = .returned (.string (partB D k)) ∧ Below w.heap.size w w') := Lib.hid (by
      have h1 := libRepeat ⟨#[0]⟩ 64 w (by decide) (by decide)
      have h2 := zeros_of (partB D k) hz
      rw [hs] at h2
      rw [← h2]
      exact h1)
    clear h st hl hz hs hD
    generalize partB D k = P at *
    generalize smOf D k = m at *
    go_enter Tryz.func72, Tryz.ntmps72
    go_wp2_with fail
    refine HR.out.mono ?_
    rintro e w1 ⟨rfl, hb⟩
    have HB := Lib.hid hb
    clear hb HR
    go_wp2_with fail
    go_ret
    exact ⟨rfl, HB.out⟩
  | false =>
    obtain ⟨j, rfl, hj, h1, ht⟩ := hl.2 hz
    have h0 : ¬ ((b.f + j : Nat) : Int) = 0 := by omega
    have HG := Lib.hid (hGet_any b ok s j hj h1 b.T w h h.dt)
    rw [ht] at HG
    have HC := Lib.hid fun (bb : Nat) (wx : World) (hc : wx.cell? ⟨bb, 0, none⟩ = some (.string (partB D k))) => (show Calls Tryz.prog 97 #[.slice (some ⟨bb, 0, none⟩) 1 1] wx fun e w' => e = .returned (.int .u32 (smOf D k : Nat)) ∧ wx = w' from by
      have hsz : (partB D k).data.toList.length ≤ maxLen := by
        have e : (partB D k).data.toList.length = (partB D k).size := by simp
        rw [e, hs]
        decide
      have h1 := crc_one bb (partB D k).data.toList wx hsz (by rw [bl_of]; exact hc)
      have e : smOf D k = C.Crc.sum (partB D k).data.toList := by unfold smOf; rw [if_neg (by rw [hz]; decide)]
      rw [e]
      exact h1)
    have c0 := st.cell.1
    clear h st hl hz hs hD ht h1
    generalize partB D k = P at *
    generalize smOf D k = m at *
    generalize b.f + j = x at *
    go_enter Tryz.func72, Tryz.ntmps72
    go_wp2_with fail
    refine HG.out.mono ?_
    rintro e w1 ⟨rfl, rfl⟩
    go_wp2_with fail
    have hbx : (w.alloc (.cells #[.string P] 9)).drew.cell? ⟨w.heap.size, 0, none⟩ = some (.string P) := boxNew rfl
    refine (HC.out _ _ hbx).mono ?_
    rintro e w2 ⟨rfl, rfl⟩
    go_wp2_with fail
    go_ret
    exact ⟨rfl, ((Below.refl _ w).alloc (Nat.le_refl _) _).drew⟩
set_option maxRecDepth 100000 in
theorem eHead_any (b : HB) (ok : b.ok) (s : HS) (xs kb : Nat) (q : Int) (j : Nat) (hj : j < b.n) (hs : s.S j = 1) (a m f : Nat → Nat) (ha : ∀ j, a j < 65536) (hm : ∀ j, m j < 4294967296) (hf : ∀ j, f j < 256) (w : World) (h : HeapI b s w) (st : StAt b xs kb q w) (nx : ¬ b.S0 xs) (ht : secB b.T (b.f + j) = sealS (headT a m f)) :
    Calls Tryz.prog 65 #[.pointer (some ⟨xs, 0, none⟩), .int .i64 ((b.f + j : Nat) : Int)] w fun e w' => e = .returned (.agg (headL a m f).toArray) ∧ Below w.heap.size w w' := by
  have hw : Below w.heap.size w (w.alloc (.cells (headL zf zf zf).toArray 92)) := (Below.refl _ w).alloc (Nat.le_refl _) _
  have gw : Grew (fun _ => False) w (w.alloc (.cells (headL zf zf zf).toArray 92)) := (Grew.refl w).alloc _
  have hI := h.keep gw (fun _ _ e => e) fun _ _ _ e => e
  have HG := Lib.hid (hGet_any b ok s j hj hs b.T _ hI hI.dt)
  rw [ht] at HG
  have HP := Lib.hid fun wx => parse_own a m f ha hm hf wx
  have hC : Hid (Cells w.heap.size 40 (headAt zf zf zf) (w.alloc (.cells (headL zf zf zf).toArray 92))) := Lib.hid (head_new w zf zf zf 92)
  have c0 : (w.alloc (.cells (headL zf zf zf).toArray 92)).cell? ⟨xs, 0, none⟩ = some (.pointer (some ⟨b.hb, 0, none⟩)) := by
    have := (gw.block xs (st.pl (S0 := b.S0) nx).lt (fun e => e)).trans st
    exact (StAt.cell this).1
  have HAl := alloc_head
  have HNl : Hid ((headL a m f).length = 40) := Lib.hid (headL_len _ _ _)
  have HNo : Hid ((headL a m f).toArray.all (·.oneCell') = true) := Lib.hid (headL_one _ _ _)
  have HW := Lib.hid hw
  obtain ⟨Z, hZ⟩ : ∃ Z, (headL zf zf zf).toArray = Z := ⟨_, rfl⟩
  obtain ⟨N, hN⟩ : ∃ N, headL a m f = N := ⟨_, rfl⟩
  rw [hZ] at HG hC c0 HAl HW
  rw [hN] at HP HNl HNo
  have HI1 : Hid ((Tryz.prog.info? 92).map (·.size) = some N.toArray.size) := Lib.hid (by rw [List.size_toArray, HNl.out]; kernel_rfl)
  have HI2 : Hid ((Tryz.prog.info? 92).map (·.size) = some N.length) := Lib.hid (by rw [HNl.out]; kernel_rfl)
  rw [hN]
  clear h st ht hw gw hI hZ hN
  generalize sealS (headT a m f) = t at *
  generalize b.f + j = x at *
  obtain ⟨W, hW⟩ : ∃ W, w.alloc (.cells Z 92) = W := ⟨_, rfl⟩
  rw [hW] at HG hC c0 HW
  go_enter Tryz.func65, Tryz.ntmps65
  go_upto_region 1 with (refine wpList_alloc rfl 92 rfl _ (HAl _) ?_)
  simp only [hW]
  go_wp2_with fail
  refine HG.out.mono ?_
  rintro e w1 ⟨rfl, rfl⟩
  go_wp2_with fail
  refine (HP.out _).mono ?_
  rintro e w2 ⟨rfl, hb⟩
  have HC2 := Lib.hid (hC.out.drew.below hb)
  have HB2 := Lib.hid (HW.out.drew.trans (hb.mono HW.out.drew.size))
  have HTh : Hid (w2.there w.heap.size 0 N.toArray.size) := Lib.hid (HC2.out.there 0 _ (by have := HNl.out; simp [this]))
  clear hb HG hC
  go_wp2_with (with_reducible refine wpList_store_mid rfl 92 _ _ rfl w.heap.size 0 N.toArray rfl rfl HTh.out HI1.out HNo.out ?_)
  refine bodyPost_ret (v := .agg N.toArray) ?_ rfl ⟨rfl, below_row HB2.out N (Nat.le_refl _)⟩
  exact results_mid Tryz.results65 _ _ w.heap.size 0 N _ rfl (World.rangeAt_setCells_same _ _ _ _ (by have z := HTh.out; rwa [List.size_toArray] at z)) Tryz.underlying92 rfl HI2.out
end Go.Proofs.YtbohpffigmllkaaGreatDoor

/-
  extent.Store.Get of an extent that lies there, and of 0: contract.
-/
namespace Go.Proofs.YtbohpffigmllkaaGreatDoor
open Go.RowKit Go.Maps Go.ChangeMaps Go.WideShapes

/-- a head in its block, an Out behind it -/
structure GeAt (w : World) (H : Nat) (N : List Value) (B o : Nat) (v : Value) (l : List UInt8) (wx : World) : Prop where
  hd : HdAt H N wx
  out : OutAt B o v l wx
  below : Below w.heap.size w wx
  lo : w.heap.size ≤ H
  ho : H < o
theorem GeAt.to {w : World} {H : Nat} {N : List Value} {B o : Nat} {v : Value} {l l2 : List UInt8} {wx wy : World} (h : GeAt w H N B o v l wx) (k : OutTo B o v l2 wx wy) : ∃ v2, GeAt w H N B o v2 l2 wy := by
  obtain ⟨v2, k1, _, k3⟩ := k
  have h1 := h.lo
  have h2 := h.ho
  have h3 := h.out.lt
  refine ⟨v2, h.hd.keep k3 ?_, k1, k3.below h.below h.below.size fun x hx => ?_, h1, h2⟩
  · rintro (e | e)
    · omega
    · have := h.out.own _ e
      omega
  · rcases hx with e | e
    · omega
    · have := h.out.own _ e
      omega
theorem GeAt.more {w : World} {H : Nat} {N : List Value} {B o : Nat} {v : Value} {l : List UInt8} {wx wy : World} (h : GeAt w H N B o v l wx) (k : Below wx.heap.size wx wy) : GeAt w H N B o v l wy :=
  ⟨h.hd.keep (Grew.of_below (S := fun _ => False) k) (fun e => e), h.out.kept (Grew.of_below (S := fun _ => False) k) (fun e => e) (fun _ _ e => e), h.below.trans (k.mono h.below.size), h.lo, h.ho⟩
theorem part_list' (D : ByteArray) (k : Nat) : (partB D k).data.toList = (D.data.toList.drop (64 * k)).take 64 := by
  unfold partB
  rw [ext_list, show 64 * k + 64 - 64 * k = 64 by omega]
theorem take_part (D : ByteArray) (k : Nat) : D.data.toList.take (64 * k) ++ (partB D k).data.toList = D.data.toList.take (64 * (k + 1)) := by
  rw [part_list', show 64 * (k + 1) = 64 * k + 64 by omega, List.take_add]
/-- what a round reads of the head -/
def GeS (w : World) (H k : Nat) (N : List Value) (x y : Int) (wx : World) : Prop := wx.cell? ⟨H, k, none⟩ = some (.int .i64 x) ∧ wx.cell? ⟨H, 4 + k, none⟩ = some (.int .u32 y) ∧ Hid (HdAt H N wx ∧ Below w.heap.size w wx)
set_option maxRecDepth 100000 in
theorem eGet_zero (xs : Nat) (w : World) : Calls Tryz.prog 30 #[.pointer (some ⟨xs, 0, none⟩), .int .i64 0] w fun e w' => e = .returned (.string ⟨(Lib.repeatL [(0 : UInt8)] 256).toArray⟩) ∧ Below w.heap.size w w' := by
  have HR := Lib.hid (libRepeat ⟨#[0]⟩ 256 w (by decide) (by decide))
  have e : (⟨(Lib.repeatL (⟨#[0]⟩ : ByteArray).data.toList 256).toArray⟩ : ByteArray) = ⟨(Lib.repeatL [(0 : UInt8)] 256).toArray⟩ := rfl
  rw [e] at HR
  clear e
  generalize (⟨(Lib.repeatL [(0 : UInt8)] 256).toArray⟩ : ByteArray) = P at *
  go_enter Tryz.func30, Tryz.ntmps30
  go_wp2_with fail
  refine HR.out.mono ?_
  rintro e w1 ⟨rfl, hb⟩
  have HB := Lib.hid hb
  clear hb HR
  go_wp2_with fail
  go_ret
  exact ⟨rfl, HB.out⟩
set_option maxRecDepth 100000 in
set_option maxHeartbeats 2000000 in
theorem eGet_any (b : HB) (ok : b.ok) (hf : 1 ≤ b.f) (s : HS) (xs kb : Nat) (q : Int) (D : ByteArray) (hD : D.size = 256) (f : Nat → Nat) (hf256 : ∀ j, f j < 256) (v : Nat) (w : World) (h : HeapI b s w) (st : StAt b xs kb q w) (nx : ¬ b.S0 xs) (hl : Lies b s b.T D f v) :
    Calls Tryz.prog 30 #[.pointer (some ⟨xs, 0, none⟩), .int .i64 (v : Int)] w fun e w' => e = .returned (.string D) ∧ Below w.heap.size w w' := by
  obtain ⟨a, j, rfl, hj, hs, ht, hp, ha⟩ := hl
  have h0 : ¬ ((b.f + j : Nat) : Int) = 0 := by omega
  have HH := Lib.hid (eHead_any b ok s xs kb q j hj hs a (smOf D) f ha (smOf_lt D) hf256 w h st nx ht)
  have HSt : Hid (∀ wx, Below w.heap.size w wx → HeapI b s wx ∧ StAt b xs kb q wx) := Lib.hid fun wx k => by
    have g : Grew (fun _ => False) w wx := Grew.of_below k
    exact ⟨h.keep g (fun _ _ e => e) (fun _ _ _ e => e), (g.block xs (st.pl (S0 := b.S0) nx).lt (fun e => e)).trans st⟩
  have HSec : Hid (∀ k, k < 4 → ∀ wx H N B o vv l, GeAt w H N B o vv l wx → Calls Tryz.prog 72 #[.pointer (some ⟨xs, 0, none⟩), .int .i64 (a k : Nat), .int .u32 (smOf D k : Nat)] wx fun e w' => e = .returned (.string (partB D k)) ∧ GeAt w H N B o vv l w') := Lib.hid fun k hk wx H N B o vv l hg => by
    obtain ⟨i1, i2⟩ := HSt.out wx hg.below
    exact (sector_any b ok hf s xs kb q D hD k (a k) hk wx i1 i2 (hp k hk)).mono fun _ _ ⟨e, hb⟩ => ⟨e, hg.more hb⟩
  have HTx : Hid (∀ k, k < 4 → ∀ wx H N B o vv, GeAt w H N B o vv (D.data.toList.take (64 * k)) wx → Calls Tryz.prog 71 #[.pointer (some ⟨o, 0, none⟩), .string (partB D k)] wx fun e w' => e = .returned (.pointer (some ⟨o, 0, none⟩)) ∧ ∃ v2, GeAt w H N B o v2 (D.data.toList.take (64 * (k + 1))) w') := Lib.hid fun k hk wx H N B o vv hg => by
    have h64 := partB_size D hD k hk
    refine (outText_any B o vv _ (partB D k) wx hg.out (by rw [List.length_take]; omega)).mono ?_
    rintro e w' ⟨rfl, ho⟩
    rw [take_part] at ho
    exact ⟨rfl, hg.to ho⟩
  have HBy : Hid (∀ wx H N B o vv, GeAt w H N B o vv (D.data.toList.take (64 * 4)) wx → Calls Tryz.prog 73 #[.pointer (some ⟨o, 0, none⟩)] wx fun e w' => e = .returned (.string D) ∧ wx = w') := Lib.hid fun wx H N B o vv hg => by
    have hb := outBytes_any B o vv _ wx hg.out
    have e : (⟨(D.data.toList.take (64 * 4)).toArray⟩ : ByteArray) = D := by
      rw [List.take_of_length_le (by simp; omega)]
    rw [e] at hb
    exact hb
  have HN : Hid (∀ k, k < 4 → ∀ wx H, HdAt H (headL a (smOf D) f) wx → wx.cell? ⟨H, k, none⟩ = some (.int .i64 (a k : Nat)) ∧ wx.cell? ⟨H, 4 + k, none⟩ = some (.int .u32 (smOf D k : Nat))) := Lib.hid fun k hk wx H hh => by
    have c1 := (hh.cells.2 k (by omega)).1
    have c2 := (hh.cells.2 (4 + k) (by omega)).1
    unfold headAt at c1 c2
    rw [if_pos hk] at c1
    rw [if_neg (by omega), if_pos (by omega), show 4 + k - 4 = k by omega] at c2
    exact ⟨c1, c2⟩
  have HAl := alloc_head
  have HNew : Hid (∀ wx : World, HdAt wx.heap.size (headL a (smOf D) f) ((wx.alloc (.cells (headL zf zf zf).toArray 92)).setCells wx.heap.size 0 (headL a (smOf D) f))) := Lib.hid fun wx => HdAt.new wx _ _ (headL_len _ _ _) (headL_len _ _ _)
  have HTh : Hid (∀ wx : World, (wx.alloc (.cells (headL zf zf zf).toArray 92)).there wx.heap.size 0 (headL a (smOf D) f).toArray.size) := Lib.hid fun wx => (head_new wx zf zf zf 92).there 0 _ (by simp [headL_len])
  have HNo : Hid ((headL a (smOf D) f).toArray.all (·.oneCell') = true) := Lib.hid (headL_one _ _ _)
  have HIN : Hid ((Tryz.prog.info? 92).map (·.size) = some (headL a (smOf D) f).toArray.size) := Lib.hid (by rw [List.size_toArray, headL_len]; kernel_rfl)
  obtain ⟨Z, hZ⟩ : ∃ Z, (headL zf zf zf).toArray = Z := ⟨_, rfl⟩
  obtain ⟨N, hN⟩ : ∃ N, headL a (smOf D) f = N := ⟨_, rfl⟩
  rw [hZ] at HAl HNew HTh
  rw [hN] at HH HNew HTh HNo HIN
  have HNE := Lib.hid hN
  clear h st hp ht hs hj ha hZ hN HSt hD
  generalize b.f + j = v at *
  go_enter Tryz.func30, Tryz.ntmps30
  go_wp2_with fail
  refine HH.out.mono ?_
  rintro e w1 ⟨rfl, hb1⟩
  have hth := HTh.out w1
  have HHd := Lib.hid (HNew.out w1)
  have HB2 : Hid (Below w.heap.size w ((w1.alloc (.cells Z 92)).setCells w1.heap.size 0 N)) := Lib.hid (below_row (hb1.alloc hb1.size _) N hb1.size)
  have HL1 := Lib.hid hb1.size
  clear hb1 HH HNew HTh
  go_upto_region 4 with (first
    | (refine wpList_alloc rfl 92 rfl _ (HAl _) ?_)
    | (with_reducible refine wpList_store_mid rfl 92 _ _ rfl w1.heap.size 0 N.toArray rfl rfl hth HIN.out HNo.out ?_))
  clear hth
  generalize (w1.alloc (.cells Z 92)).setCells w1.heap.size 0 N = W2 at *
  generalize w1.heap.size = H at *
  have HG0 : Hid (GeAt w H N (W2.heap.size + 1) W2.heap.size (.slice none 0 0) (D.data.toList.take (64 * 0)) (W2.alloc (.cells #[.slice none 0 0] 97))) := Lib.hid ⟨HHd.out.keep ((Grew.refl (S := fun _ => False) W2).alloc _) (fun e => e), outNew1 W2, HB2.out.alloc HB2.out.size _, HL1.out, HHd.out.lt⟩
  clear HHd HB2
  go_upto_region 5 with fail
  generalize W2.alloc (.cells #[.slice none 0 0] 97) = W3 at *
  generalize hB : W2.heap.size + 1 = B at *
  generalize W2.heap.size = o at *
  clear hB
  go_wp2_with fail
  go_loopw [15] (fun i wx => ∃ k vv, k ≤ 4 ∧ i = .int .i64 ((k : Nat) : Int) ∧ GeAt w H N B o vv (D.data.toList.take (64 * k)) wx) (fun i _ => 4 - (intOf i).toNat)
  case atStart => exact ⟨0, _, by omega, rfl, HG0.out⟩
  case round =>
    obtain ⟨k, vv, hk, rfl, hg⟩ := hrel
    have HG := Lib.hid hg
    clear hg HG0
    by_cases hlt : k < 4
    · have i0 : (k : Int) < 4 := by omega
      have i1 : (0 : Int) ≤ (k : Int) := by omega
      have HSec1 := Lib.hid (HSec.out k hlt)
      have HTx1 := Lib.hid (HTx.out k hlt)
      have HN1 : Hid (∀ wx, HdAt H N wx → wx.cell? ⟨H, k, none⟩ = some (.int .i64 (a k : Nat)) ∧ wx.cell? ⟨H, 4 + k, none⟩ = some (.int .u32 (smOf D k : Nat))) := Lib.hid fun wx hh => HN.out k hlt wx H (by rw [HNE.out]; exact hh)
      have HS0 : Hid (GeS w H k N (a k : Nat) (smOf D k : Nat) wr.drew ∧ GeAt w H N B o vv (D.data.toList.take (64 * k)) wr.drew) := Lib.hid (by
        have h1 := HG.out.more (Below.refl _ _).drew
        exact ⟨⟨(HN1.out _ h1.hd).1, (HN1.out _ h1.hd).2, Lib.hid ⟨h1.hd, h1.below⟩⟩, h1⟩)
      have HKp : Hid (∀ wx v l, GeAt w H N B o v l wx → GeS w H k N (a k : Nat) (smOf D k : Nat) wx) := Lib.hid fun wx v l h1 => ⟨(HN1.out _ h1.hd).1, (HN1.out _ h1.hd).2, Lib.hid ⟨h1.hd, h1.below⟩⟩
      have HK := Lib.hid hlt
      clear hlt hk HSec HTx HBy HN HN1 HG
      generalize D.data.toList.take (64 * k) = l at *
      obtain ⟨l2, hl2⟩ : ∃ l2, D.data.toList.take (64 * (k + 1)) = l2 := ⟨_, rfl⟩
      rw [hl2] at HTx1
      have HL2 := Lib.hid hl2
      clear hl2
      generalize partB D k = P at *
      generalize smOf D k = m at *
      generalize a k = y at *
      unfold GeS at HS0 HKp
      have hg0 := HS0.out.2
      go_upto_region 8 with fail
      go_region_held3 (fun wx => wx.cell? ⟨H, k, none⟩ = some (.int .i64 (y : Nat)) ∧ wx.cell? ⟨H, 4 + k, none⟩ = some (.int .u32 (m : Nat)) ∧ Hid (HdAt H N wx ∧ Below w.heap.size w wx)) (first | assumption | exact HS0.out.1) (first
        | (go_at_call 72; refine (HSec1.out _ H N B o vv l (by assumption)).mono ?_; rintro e w' ⟨rfl, hg1⟩; have hS1 := HKp.out _ _ _ hg1)
        | (go_at_call 71; refine (HTx1.out _ H N B o vv (by assumption)).mono ?_; rintro e w' ⟨rfl, v2, hg2⟩; have hS2 := HKp.out _ _ _ hg2))
      have HG2 := Lib.hid hg2
      clear hg2 hg0 HS0 HKp HSec1 HTx1
      go_wp2_with fail
      go_roundw
      case rel => exact ⟨k + 1, v2, by have := HK.out; omega, by go_num, by rw [HL2.out]; exact HG2.out⟩
      case measure => simp [intOf]; have := HK.out; omega
    · have i0 : ¬ (k : Int) < 4 := by omega
      obtain rfl : k = 4 := by omega
      have HB4 := Lib.hid (HBy.out _ H N B o vv HG.out)
      have HE := Lib.hid HG.out.below
      clear HBy HG
      go_wp2_with fail
      refine HB4.out.mono ?_
      rintro e w4 ⟨rfl, rfl⟩
      go_wp2_with fail
      go_ret
      exact ⟨rfl, HE.out⟩
end Go.Proofs.YtbohpffigmllkaaGreatDoor

/-
  heap.More within a Try: contract.
-/
namespace Go.Proofs.YtbohpffigmllkaaGreatDoor
open Go.RowKit Go.Maps Go.ChangeMaps Go.WideShapes

set_option maxRecDepth 10000 in
set_option maxHeartbeats 1000000 in
theorem lMore {b : HB} {s : HS} {dp n : Nat} {f0 : List Step} {w : World} (ok : b.ok) (i r : Nat) (hi : i < b.n) (hs : s.S i = 1) (hr : s.R ((b.f + i : Nat) : Int) = some (r : Int)) (hrb : r < 10000) (hn : n < 80000) (h : InL b s (dp + 1) f0 n w) :
    Calls Tryz.prog 61 #[.pointer (some ⟨b.hb, 0, none⟩), .int .i64 ((b.f + i : Nat) : Int)] w fun e w' => e = .returned (.tuple #[]) ∧ InL b { s with R := upF s.R ((b.f + i : Nat) : Int) (some ((r + 1 : Nat) : Int)) } (dp + 1) f0 (n + 1) w' ∧ Grew (Mut b.B b.S0 w) w w' := by
  have HN := Lib.hid (needHeld_ok b ok s i hi hs w h.st)
  have hd2 := h.drew.drew
  have c1 := hd2.st.c1
  have c3 := hd2.st.c3
  have ct := hd2.st.rf
  have wk : (Lit.int .i64 ((b.f + i : Nat) : Int)).wf = true := wf_small _ (by omega) (by have := ok.f; have := ok.n; omega)
  have HLk : Hid (∀ wz, Tab (tblII Tryz.prog) b.rb s.R b.keys wz → (Instr.lookup 71 (.map (some b.rb)) (.int .i64 ((b.f + i : Nat) : Int)) false).run Tryz.prog wz = .ok (.int .i64 (r : Int)) wz) := Lib.hid fun wz hz => by
    have := hz.look1 tblII_fine _ wk
    rw [hr] at this
    exact this
  have e3 : (r : Int) + 1 = ((r + 1 : Nat) : Int) := rfl
  have HPut : Hid (Calls Tryz.prog 101 #[.pointer (some ⟨b.g, 0, none⟩), .map (some b.rb), .int .i64 ((b.f + i : Nat) : Int), .int .i64 ((r : Int) + 1)] w.drew.drew fun e w' => e = .returned (.tuple #[]) ∧ InL b { s with R := upF s.R ((b.f + i : Nat) : Int) (some ((r + 1 : Nat) : Int)) } (dp + 1) f0 (n + 1) w' ∧ Grew (Mut b.B b.S0 w) w w') := Lib.hid (by
    obtain ⟨⟨v, fs, n1, l⟩, ii⟩ := hd2
    rw [e3]
    refine (putR b ok s i _ hi (wf_small _ (by omega) (by omega)) dp v (f0 ++ fs) _ (by omega) ii l).mono ?_
    rintro e w' ⟨a4, hd⟩
    exact ⟨a4, InL.of n1 hd, (((Grew.refl (S := Mut b.B b.S0 w) w).drew).drew).thenMut hd.grew⟩)
  have hw : IntKind.i64.wrap ((r : Int) + 1) = (r : Int) + 1 := IntWalk.i64_in _ (by omega)
  clear h hd2 wk hs hr e3
  generalize b.f + i = T at *
  go_enter Tryz.func61, Tryz.ntmps61
  go_wp2_with fail
  refine HN.out.mono ?_
  rintro e w' ⟨rfl, rfl⟩
  clear HN
  go_upto_region 1 with fail
  have hlk := HLk.out w.drew.drew ct
  refine wp_region_still_tail 16 (by kernel_rfl) (by kernel_rfl) ?_
  change wpStill _ _ w.drew.drew (fun a' => wpList _ _ _ _ a' w.drew.drew) _ _
  simp only [List.take_succ_cons, List.take_zero, List.drop_succ_cons, List.drop_zero]
  repeat still_step
  refine wpStill_nil ?_
  go_wp2_with fail
  refine HPut.out.mono ?_
  rintro e w2 ⟨rfl, hi2, hg2⟩
  have HI2 := Lib.hid hi2
  have HG2 := Lib.hid hg2
  clear hi2 hg2
  go_wp2_with fail
  go_end0
  exact ⟨rfl, HI2.out, HG2.out⟩
end Go.Proofs.YtbohpffigmllkaaGreatDoor
