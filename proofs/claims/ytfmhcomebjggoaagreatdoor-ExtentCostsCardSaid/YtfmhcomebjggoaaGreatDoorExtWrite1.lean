/-
  extent: what write runs: an extent's sectors and its head are put into a heap (written by gen_extwrite1.py).
-/
import Derived.Test.YtfmhcomebjggoaaGreatDoorExtWr
import Derived.Deep.RegionHeld3
namespace Go.Proofs.YtfmhcomebjggoaaGreatDoor
open Go.RowKit Go.Maps Go.ChangeMaps Go.WideShapes

theorem bl_of (x : ByteArray) : (⟨x.data.toList.toArray⟩ : ByteArray) = x := by
  apply ByteArray.ext
  simp
theorem setCells_heap (H : Nat) (t : TypeId) (fz : Nat × Nat) : ∀ (vs : List Value) (o : Nat) (w : World) (C : Array Value), w.heap[H]? = some (.cells C t fz) → ∃ C', (w.setCells H o vs).heap[H]? = some (.cells C' t fz) ∧ C'.size = C.size
  | [], _, _, C, h => ⟨C, h, rfl⟩
  | v :: r, o, w, C, h => by
    have h1 : (w.setCell ⟨H, o, none⟩ v).heap[H]? = some (.cells (C.setIfInBounds o v) t fz) := by simp [World.setCell, Array.getElem?_modify, h]
    obtain ⟨C', h2, h3⟩ := setCells_heap H t fz r (o + 1) (w.setCell ⟨H, o, none⟩ v) _ h1
    exact ⟨C', h2, by rw [h3]; simp⟩
theorem HdAt.new (w : World) (M N : List Value) (hM : M.length = 40) (hN : N.length = 40) : HdAt w.heap.size N ((w.alloc (.cells M.toArray 80)).setCells w.heap.size 0 N) := by
  obtain ⟨C', h1, h2⟩ := setCells_heap w.heap.size 80 (0, 0) N 0 (w.alloc (.cells M.toArray 80)) M.toArray (heap_alloc_new w _)
  have hth : (w.alloc (.cells M.toArray 80)).there w.heap.size 0 N.length := (Cells.new w 40 (cellsAt M) 80 M.toArray (fun j hj => by rw [List.getElem?_toArray]; exact cellsAt_get M j (by omega))).there 0 _ (by omega)
  have hr := World.rangeAt_setCells_same _ w.heap.size 0 N hth
  unfold HdAt
  rw [h1]
  congr 2
  apply Array.toList_inj.mp
  refine List.ext_getElem? fun j => ?_
  by_cases hj : j < 40
  · have h3 := hr j N[j] (List.getElem?_eq_getElem (by omega))
    rw [Nat.zero_add] at h3
    simp only [World.cell?, h1] at h3
    rw [Array.getElem?_toList, List.toList_toArray, List.getElem?_eq_getElem (by omega)]
    exact h3
  · rw [List.getElem?_eq_none (by simp at h2 ⊢; omega), List.getElem?_eq_none (by simp; omega)]
set_option maxRecDepth 100000 in
theorem build_head (f : Nat → Nat) (w : World) : (Instr.build 80 #[(2, .agg (arr f).toArray)]).run Tryz.prog w = .ok (.agg (headL zf zf f).toArray) w := by kernel_rfl
/-- all sectors were looked at: the head says where they lie -/
structure WrE (b : HB) (s : HS) (dp : Nat) (f0 : List Step) (n pd ps x kb : Nat) (bits : Int) (pa H : Nat) (D : ByteArray) (a : Nat → Nat) (J : List Nat) (s1 : HS) (U : Nat → UInt8) (N : List Value) (w W : World) : Prop where
  fr : Fr b pd ps x kb bits D W
  ba : Box pa 3 (.int .i64 0) W
  wr : Wr b s D 4 a J s1 U
  inl : InL (b.at U) s1 (dp + 1) f0 (n + 3 * J.length) W
  hd : HdAt H N W
  gr : Grew (Mut b.B b.S0 w) w W
  hw : w.heap.size ≤ H
theorem WrE.keepF {b : HB} {s : HS} {dp : Nat} {f0 : List Step} {n pd ps x kb : Nat} {bits : Int} {pa H : Nat} {D : ByteArray} {a : Nat → Nat} {J : List Nat} {s1 : HS} {U : Nat → UInt8} {N : List Value} {w W W' : World} (h : WrE b s dp f0 n pd ps x kb bits pa H D a J s1 U N w W) (hG : s.G = []) (g : Grew (fun _ => False) W W') : WrE b s dp f0 n pd ps x kb bits pa H D a J s1 U N w W' :=
  ⟨h.fr.keep g (fun _ _ e => e), h.ba.keep g (fun e => e), h.wr, h.inl.keep (h.wr.same.2.1.trans hG) g (fun _ _ e => e) (fun _ _ _ _ e => e), h.hd.keep g fun e => e, h.gr.step g fun _ _ e => e.elim, h.hw⟩
/-- its head was put at v -/
structure WrZ (b : HB) (dp : Nat) (f0 : List Step) (n pd ps x kb : Nat) (bits : Int) (pa H : Nat) (D : ByteArray) (a : Nat → Nat) (J : List Nat) (s1 : HS) (U : Nat → UInt8) (N : List Value) (SS : ByteArray) (v : Nat) (w W : World) : Prop where
  fr : Fr b pd ps x kb bits D W
  ba : Box pa 3 (.int .i64 0) W
  at' : ∃ j, v = b.f + j ∧ j < b.n ∧ s1.S j = 0 ∧ (∀ i, i < j → ¬ s1.S i = 0) ∧ InL (b.at (wroteT U (b.f + j) SS)) (s1.put j ((b.f + j : Nat) : Int)) (dp + 1) f0 (n + 3 * J.length + 3) W
  hd : HdAt H N W
  gr : Grew (Mut b.B b.S0 w) w W
/-- an extent lies there -/
def WrEnd (b : HB) (s : HS) (dp : Nat) (f0 : List Step) (n : Nat) (D : ByteArray) (f : Nat → Nat) (v : Nat) (W : World) : Prop :=
  ∃ a J s1 U j, Wr b s D 4 a J s1 U ∧ v = b.f + j ∧ j < b.n ∧ s1.S j = 0 ∧ (∀ i, i < j → ¬ s1.S i = 0) ∧ InL (b.at (wroteT U (b.f + j) (sealS (headT a (smOf D) f)))) (s1.put j ((b.f + j : Nat) : Int)) dp f0 (n + 3 * J.length + 3) W
set_option maxRecDepth 100000 in
set_option maxHeartbeats 4000000 in
theorem write1_any (b : HB) (ok : b.ok) (hf : 1 ≤ b.f) (s : HS) (hG : s.G = []) (hK0 : 0 ≤ s.K) (hK : s.K + 5 ≤ (cnt s.S 0 b.n : Nat)) (dp n : Nat) (hn : n < 70000) (hd : dp + 1 < 100000) (f0 : List Step) (pS pd ps x kb : Nat) (bits : Int) (pa : Nat) (D : ByteArray) (hD : D.size = 256) (f : Nat → Nat) (hf256 : ∀ j, f j < 256) (w : World)
    (h : InL b s (dp + 1) f0 n w) (fr : Fr b pd ps x kb bits D w) (ba : Box pa 3 (.int .i64 0) w) (bS : w.heap[pS]? = some (.cells (arr f).toArray 64 (0, 0))) (na : ¬ b.S0 pa) :
    Calls Tryz.prog 66 #[.pointer (some ⟨pS, 0, none⟩), .pointer (some ⟨pd, 0, none⟩), .pointer (some ⟨ps, 0, none⟩), .pointer (some ⟨pa, 0, none⟩)] w fun e w' => e = .returned (.tuple #[]) ∧ ∃ v : Nat, WrEnd b s (dp + 1) f0 n D f v w' ∧ Box pa 3 (.int .i64 (v : Int)) w' ∧ Grew (fun q => Mut b.B b.S0 w q ∨ q = pa) w w' := by
  have hB : b.B ≤ w.heap.size := h.size
  have hpa := ba.lt
  have hpd := fr.bd.lt
  have hps := fr.bs.lt
  have hx : x < w.heap.size := (fr.sx.pl (S0 := b.S0) fr.nx).lt
  have hrS : w.rangeAt pS 0 (arr f) := fun j v hv => by
    rw [Nat.zero_add]
    simp [World.cell?, bS, hv]
  have HIA : Hid ((Tryz.prog.info? 64).map (·.size) = some (arr f).length) := Lib.hid (by rw [arr_len]; kernel_rfl)
  have HAl := alloc_head
  have hbn := build_head f
  have HNl : Hid ((headL zf zf f).length = 40) := Lib.hid (headL_len _ _ _)
  have HNo : Hid ((headL zf zf f).toArray.all (·.oneCell') = true) := Lib.hid (headL_one _ _ _)
  have HIN : Hid ((Tryz.prog.info? 80).map (·.size) = some (headL zf zf f).toArray.size) := Lib.hid (by rw [List.size_toArray, headL_len]; kernel_rfl)
  have hgw : Grew (fun _ => False) w ((w.alloc (.cells (headL zf zf zf).toArray 80)).setCells w.heap.size 0 (headL zf zf f)) := ((Grew.refl w).alloc _).row _ _ _ fun e => absurd e (Nat.lt_irrefl _)
  have HW0 : Hid (WrAt b s dp f0 n pd ps x kb bits pa w.heap.size D f 0 w ((w.alloc (.cells (headL zf zf zf).toArray 80)).setCells w.heap.size 0 (headL zf zf f))) := Lib.hid
    ⟨fr.keep hgw (fun _ _ e => e), ba.keep hgw (fun e => e), ⟨zf, [], s, b.T, .none, h.keep hG hgw (fun _ _ e => e) (fun _ _ _ _ e => e), by rw [upTo_zero]; exact HdAt.new w _ _ (headL_len _ _ _) (headL_len _ _ _)⟩, hgw.mono fun _ _ e => e.elim, Nat.le_refl _⟩
  have HTh : Hid ((w.alloc (.cells (headL zf zf zf).toArray 80)).there w.heap.size 0 (headL zf zf f).toArray.size) := Lib.hid ((head_new w zf zf zf 80).there 0 _ (by simp [headL_len]))
  have HZt := Lib.hid (fun (t : ByteArray) (wx : World) (h : t.size ≤ maxLen) => zero_any t wx h)
  have HDs := Lib.hid hD
  have HCr := Lib.hid (fun k (hk : k < 4) (hz : allZero (partB D k).data.toList = false) (bb : Nat) (wx : World) (hc : wx.cell? ⟨bb, 0, none⟩ = some (.string (partB D k))) => (show Calls Tryz.prog 68 #[.slice (some ⟨bb, 0, none⟩) 1 1] wx fun e w' => e = .returned (.int .u32 (smOf D k : Nat)) ∧ wx = w' from by
    have hsz : (partB D k).data.toList.length ≤ maxLen := by
      have h64 := partB_size D hD k hk
      have e : (partB D k).data.toList.length = (partB D k).size := by simp
      rw [e, h64]
      decide
    have h1 := crc_one bb (partB D k).data.toList wx hsz (by rw [bl_of]; exact hc)
    have e : smOf D k = C.Crc.sum (partB D k).data.toList := by unfold smOf; rw [if_neg (by rw [hz]; decide)]
    rw [e]
    exact h1))
  have HPt := Lib.hid (fun H k (hk : k < 4) (hz : allZero (partB D k).data.toList = false) (W : World) (ha : WrAt b s dp f0 n pd ps x kb bits pa H D f k w W) => ha.put ok hf hG hD hk hz hK0 hK hn hd hB na)
  obtain ⟨X, hX⟩ : ∃ X, arr f = X := ⟨_, rfl⟩
  obtain ⟨N0, hN0⟩ : ∃ N0, headL zf zf f = N0 := ⟨_, rfl⟩
  obtain ⟨Z, hZ⟩ : ∃ Z, (headL zf zf zf).toArray = Z := ⟨_, rfl⟩
  rw [hX] at hrS HIA hbn
  rw [hN0] at hbn HNl HNo HIN HW0 HTh
  rw [hZ] at HAl HW0 HTh
  clear h fr ba bS hgw hX hN0 hZ hD
  go_enter Tryz.func66, Tryz.ntmps66
  go_upto_region 1 with (first
    | (with_reducible refine wpList_load_mid rfl 64 _ rfl pS 0 rfl X _ hrS Tryz.underlying64 rfl HIA.out ?_)
    | (refine wpList_build1 rfl 80 2 _ rfl (.agg X.toArray) (.agg N0.toArray) rfl (hbn _) ?_)
    | (refine wpList_alloc rfl 80 rfl _ (HAl _) ?_)
    | (with_reducible refine wpList_store_mid rfl 80 _ _ rfl w.heap.size 0 N0.toArray rfl rfl HTh.out HIN.out HNo.out ?_))
  clear hrS HTh HNl HNo HIN HIA hbn HAl
  generalize (w.alloc (.cells Z 80)).setCells w.heap.size 0 N0 = W0 at *
  obtain ⟨H, hH⟩ : ∃ H, w.heap.size = H := ⟨_, rfl⟩
  rw [hH] at HW0 ⊢
  have HHe := Lib.hid hH
  clear hH
  go_wp2_with fail
  go_loopw [9] (fun i wx => ∃ k : Nat, k ≤ 4 ∧ i = .int .i64 (k : Int) ∧ WrAt b s dp f0 n pd ps x kb bits pa H D f k w wx) (fun i _ => 4 - (intOf i).toNat)
  case atStart => exact ⟨0, by omega, rfl, HW0.out⟩
  case round =>
    obtain ⟨k, hk, rfl, ha⟩ := hrel
    have HA0 := Lib.hid ha
    clear ha HW0
    have hd256 := HDs.out
    by_cases hlt : k < 4
    · have i0 : (k : Int) < 4 := by omega
      have i1 : (0 : Int) ≤ (k : Int) := by omega
      obtain ⟨J0, hJ0⟩ : ∃ J0, 64 * k = J0 := ⟨_, rfl⟩
      obtain ⟨J1, hJ1⟩ : ∃ J1, J0 + 64 = J1 := ⟨_, rfl⟩
      have j0 : (k : Int) * 64 = (J0 : Int) := by omega
      have j1 : ((k : Int) + 1) * 64 = (J1 : Int) := by omega
      have j2 : (J1 : Int) ≤ (D.size : Int) := by omega
      have j3 : (J0 : Int) ≤ (J1 : Int) := by omega
      have j4 : (0 : Int) ≤ (J0 : Int) := by omega
      have j5 : (J1 : Int) ≤ 1000 := by omega
      have hp : D.extract J0 J1 = partB D k := by unfold partB; rw [hJ0, hJ1]
      have HP64 := Lib.hid (partB_size D HDs.out k hlt)
      have HZ := Lib.hid fun wx => HZt.out (partB D k) wx (by rw [HP64.out]; decide)
      have HSk := Lib.hid fun (h : allZero (partB D k).data.toList = true) W (ha : WrAt b s dp f0 n pd ps x kb bits pa H D f k w W) => ha.skip h
      have HCr := Lib.hid (HCr.out k hlt)
      have HPut := Lib.hid (HPt.out H k hlt)
      have cpd := HA0.out.fr.bd.cell
      obtain ⟨z, hz⟩ : ∃ z, allZero (partB D k).data.toList = z := ⟨_, rfl⟩
      rw [hz] at HZ HSk HCr HPut
      have HK := Lib.hid hlt
      generalize partB D k = P at *
      clear hz hlt hk hJ0 hJ1 hd256
      go_wp2_with fail
      refine (HZ.out _).mono ?_
      rintro e w4 ⟨rfl, hw4⟩
      have HA4 : Hid (WrAt b s dp f0 n pd ps x kb bits pa H D f k w w4) := Lib.hid (by
        rcases hw4 with rfl | rfl
        · exact HA0.out
        · exact HA0.out.keepF hG (Grew.refl _).drew)
      clear hw4 HA0 HZ cpd
      cases z with
      | true =>
        have HB4 := Lib.hid (HSk.out rfl _ HA4.out)
        clear HSk HCr HPut
        go_wp2_with fail
        go_roundw
        case rel => exact ⟨k + 1, by have := HK.out; omega, by go_num, HB4.out⟩
        case measure => simp [intOf]; have := HK.out; omega
      | false =>
        have HCr2 := Lib.hid (HCr.out rfl)
        have HPut2 := Lib.hid (HPut.out rfl)
        clear HCr HPut
        have HA := Lib.hid (HA4.out.keepF hG (Grew.refl (S := fun _ => False) w4).drew)
        have SF0 := Lib.hid (fun W (ha : WrAt b s dp f0 n pd ps x kb bits pa H D f k w W) => And.intro ha.fr.bs.cell ha.fr.sx.cell.1)
        have SF := Lib.hid (fun (v : Nat) W (ha : WrMid b s dp f0 n pd ps x kb bits pa H D f k v w W) => And.intro ha.fr.bs.cell ha.fr.sx.cell.1)
        have hnH : ps ≠ H ∧ x ≠ H := by have := HHe.out; omega
        have SF1 := Lib.hid (fun (v : Nat) W (ha : WrMid b s dp f0 n pd ps x kb bits pa H D f k v w W) => (show (W.setCell ⟨H, k, none⟩ (.int .i64 (v : Int))).cell? ⟨ps, 0, none⟩ = some (.pointer (some ⟨x, 0, none⟩)) ∧ (W.setCell ⟨H, k, none⟩ (.int .i64 (v : Int))).cell? ⟨x, 0, none⟩ = some (.pointer (some ⟨b.hb, 0, none⟩)) from
          ⟨by rw [World.cell?_setCell_other _ _ _ _ (fun e => hnH.1 (congrArg Addr.block e).symm)]; exact ha.fr.bs.cell, by rw [World.cell?_setCell_other _ _ _ _ (fun e => hnH.2 (congrArg Addr.block e).symm)]; exact ha.fr.sx.cell.1⟩))
        have SF2 := Lib.hid (fun (v : Nat) W (ha : WrMid b s dp f0 n pd ps x kb bits pa H D f k v w W) => (show ((W.setCell ⟨H, k, none⟩ (.int .i64 (v : Int))).setCell ⟨H, 4 + k, none⟩ (.int .u32 (smOf D k : Nat))).cell? ⟨ps, 0, none⟩ = some (.pointer (some ⟨x, 0, none⟩)) ∧ ((W.setCell ⟨H, k, none⟩ (.int .i64 (v : Int))).setCell ⟨H, 4 + k, none⟩ (.int .u32 (smOf D k : Nat))).cell? ⟨x, 0, none⟩ = some (.pointer (some ⟨b.hb, 0, none⟩)) from
          ⟨by rw [World.cell?_setCell_other _ _ _ _ (fun e => hnH.1 (congrArg Addr.block e).symm)]; exact (SF1.out v W ha).1, by rw [World.cell?_setCell_other _ _ _ _ (fun e => hnH.2 (congrArg Addr.block e).symm)]; exact (SF1.out v W ha).2⟩))
        have HHd := Lib.hid (fun (v : Nat) W (ha : WrMid b s dp f0 n pd ps x kb bits pa H D f k v w W) => (show ∃ o1 o2, W.cell? ⟨H, k, none⟩ = some o1 ∧ W.frozen? ⟨H, k, none⟩ = false ∧ (W.setCell ⟨H, k, none⟩ (.int .i64 (v : Int))).cell? ⟨H, 4 + k, none⟩ = some o2 ∧ (W.setCell ⟨H, k, none⟩ (.int .i64 (v : Int))).frozen? ⟨H, 4 + k, none⟩ = false from by
          obtain ⟨a, J, s1, U, _, _, h3⟩ := ha.st
          have hk4 := HK.out
          refine ⟨headAt a (upTo (smOf D) k) f k, headAt a (upTo (smOf D) k) f (4 + k), (h3.cells.2 k (by omega)).1, h3.free k, ?_, by rw [World.frozen?_setCell]; exact h3.free _⟩
          rw [World.cell?_setCell_other _ _ _ _ (fun e => by have h1 : k = 4 + k := congrArg Addr.off e; omega)]
          exact (h3.cells.2 (4 + k) (by omega)).1))
        clear HSk hnH
        go_upto_region 6 with fail
        refine wp_region_held_drew (S := fun wx => wx.cell? ⟨ps, 0, none⟩ = some (.pointer (some ⟨x, 0, none⟩)) ∧ wx.cell? ⟨x, 0, none⟩ = some (.pointer (some ⟨b.hb, 0, none⟩))) (by kernel_rfl) (SF0.out _ HA.out) (fun hHeld => ?_)
        refine wpAnyH_take (i := 0) (oi := { dst := some 22, op := Op.move (Operand.tmp 5), type := 3, pos := "extent.go:146", after := #[], guard := none }) (v := ?_) rfl (by kernel_rfl) (by kernel_rfl) (by kernel_rfl) (fun _ _ _ h => h) (Or.inl ⟨by rfl, ?_⟩) (by assumption) ?_
        rotate_left
        · (intro wz hSw; (try dsimp only at hSw); obtain ⟨hSw1, hSw2⟩ := hSw; go_simp; try with_reducible rfl)
        try simp only [Act.put, List.setIfInBounds_toArray, List.set_cons_zero, List.set_cons_succ]
        refine wpAnyH_take (i := 1) (oi := { dst := some 23, op := Op.move (Operand.tmp 5), type := 3, pos := "extent.go:146", after := #[{ on := 13, ground := Ground.gcOnly Departure.lateStores }], guard := none }) (v := ?_) rfl (by kernel_rfl) (by kernel_rfl) (by kernel_rfl) (fun _ _ _ h => h) (Or.inl ⟨by rfl, ?_⟩) (by assumption) ?_
        rotate_left
        · (intro wz hSw; (try dsimp only at hSw); obtain ⟨hSw1, hSw2⟩ := hSw; go_simp; try with_reducible rfl)
        try simp only [Act.put, List.setIfInBounds_toArray, List.set_cons_zero, List.set_cons_succ]
        refine wpAnyH_take (i := 2) (oi := { dst := some 24, op := Op.load 29 (Operand.tmp 2), type := 29, pos := "extent.go:146", after := #[], guard := none }) (v := ?_) rfl (by kernel_rfl) (by kernel_rfl) (by kernel_rfl) (fun _ _ _ h => h) (Or.inl ⟨by rfl, ?_⟩) (by assumption) ?_
        rotate_left
        · (intro wz hSw; (try dsimp only at hSw); obtain ⟨hSw1, hSw2⟩ := hSw; go_simp; try with_reducible rfl)
        try simp only [Act.put, List.setIfInBounds_toArray, List.set_cons_zero, List.set_cons_succ]
        refine wpAnyH_take (i := 3) (oi := { dst := some 25, op := Op.nilCheck (Operand.tmp 24), type := 0, pos := "extent.go:146", after := #[{ on := 2, ground := Ground.data }], guard := none }) (v := ?_) rfl (by kernel_rfl) (by kernel_rfl) (by kernel_rfl) (fun _ _ _ h => h) (Or.inl ⟨by rfl, ?_⟩) (by assumption) ?_
        rotate_left
        · (intro wz hSw; (try dsimp only at hSw); obtain ⟨hSw1, hSw2⟩ := hSw; go_simp; try with_reducible rfl)
        try simp only [Act.put, List.setIfInBounds_toArray, List.set_cons_zero, List.set_cons_succ]
        refine wpAnyH_take (i := 4) (oi := { dst := some 26, op := Op.fieldAddr 61 (Operand.tmp 25) 0, type := 0, pos := "extent.go:146", after := #[{ on := 3, ground := Ground.data }], guard := none }) (v := ?_) rfl (by kernel_rfl) (by kernel_rfl) (by kernel_rfl) (fun _ _ _ h => h) (Or.inl ⟨by rfl, ?_⟩) (by assumption) ?_
        rotate_left
        · (intro wz hSw; (try dsimp only at hSw); obtain ⟨hSw1, hSw2⟩ := hSw; go_simp; try with_reducible rfl)
        try simp only [Act.put, List.setIfInBounds_toArray, List.set_cons_zero, List.set_cons_succ]
        refine wpAnyH_take (i := 5) (oi := { dst := some 27, op := Op.load 27 (Operand.tmp 26), type := 27, pos := "extent.go:146", after := #[{ on := 4, ground := Ground.data }], guard := none }) (v := ?_) rfl (by kernel_rfl) (by kernel_rfl) (by kernel_rfl) (fun _ _ _ h => h) (Or.inl ⟨by rfl, ?_⟩) (by assumption) ?_
        rotate_left
        · (intro wz hSw; (try dsimp only at hSw); obtain ⟨hSw1, hSw2⟩ := hSw; go_simp; try with_reducible rfl)
        try simp only [Act.put, List.setIfInBounds_toArray, List.set_cons_zero, List.set_cons_succ]
        refine wpAnyH_take (i := 6) (oi := { dst := some 28, op := Op.move (Operand.tmp 6), type := 9, pos := "extent.go:146", after := #[], guard := none }) (v := ?_) rfl (by kernel_rfl) (by kernel_rfl) (by kernel_rfl) (fun _ _ _ h => h) (Or.inl ⟨by rfl, ?_⟩) (by assumption) ?_
        rotate_left
        · (intro wz hSw; (try dsimp only at hSw); obtain ⟨hSw1, hSw2⟩ := hSw; go_simp; try with_reducible rfl)
        try simp only [Act.put, List.setIfInBounds_toArray, List.set_cons_zero, List.set_cons_succ]
        refine wpAnyH_take (i := 8) (oi := { dst := some 30, op := Op.move (Operand.tmp 6), type := 9, pos := "extent.go:146", after := #[], guard := none }) (v := ?_) rfl (by kernel_rfl) (by kernel_rfl) (by kernel_rfl) (fun _ _ _ h => h) (Or.inl ⟨by rfl, ?_⟩) (by assumption) ?_
        rotate_left
        · (intro wz hSw; (try dsimp only at hSw); obtain ⟨hSw1, hSw2⟩ := hSw; go_simp; try with_reducible rfl)
        try simp only [Act.put, List.setIfInBounds_toArray, List.set_cons_zero, List.set_cons_succ]
        refine wpAnyH_take (i := 11) (oi := { dst := some 33, op := Op.fieldAddr 80 (Operand.tmp 4) 0, type := 0, pos := "extent.go:146", after := #[], guard := none }) (v := ?_) rfl (by kernel_rfl) (by kernel_rfl) (by kernel_rfl) (fun _ _ _ h => h) (Or.inl ⟨by rfl, ?_⟩) (by assumption) ?_
        rotate_left
        · (intro wz hSw; (try dsimp only at hSw); obtain ⟨hSw1, hSw2⟩ := hSw; go_simp; try with_reducible rfl)
        try simp only [Act.put, List.setIfInBounds_toArray, List.set_cons_zero, List.set_cons_succ]
        refine wpAnyH_take (i := 14) (oi := { dst := some 35, op := Op.fieldAddr 80 (Operand.tmp 4) 1, type := 0, pos := "extent.go:146", after := #[], guard := none }) (v := ?_) rfl (by kernel_rfl) (by kernel_rfl) (by kernel_rfl) (fun _ _ _ h => h) (Or.inl ⟨by rfl, ?_⟩) (by assumption) ?_
        rotate_left
        · (intro wz hSw; (try dsimp only at hSw); obtain ⟨hSw1, hSw2⟩ := hSw; go_simp; try with_reducible rfl)
        try simp only [Act.put, List.setIfInBounds_toArray, List.set_cons_zero, List.set_cons_succ]
        refine wpAnyH_ready (rs := [7, 9]) (by kernel_rfl) (by simp) ?_
        refine (AllReadyH.cons (o := { dst := some 29, op := Op.call { callee := Callee.value (Operand.func 67), args := #[Operand.tmp 27, Operand.tmp 28], argTypes := #[27, 9] }, type := 3, pos := "extent.go:146", after := #[{ on := 5, ground := Ground.data }, { on := 6, ground := Ground.data }], guard := none }) rfl (fun K hK => ?_) (AllReadyH.cons (o := { dst := some 31, op := Op.buildSlice 105 1 #[(0, Operand.tmp 30)], type := 105, pos := "extent.go:146", after := #[{ on := 8, ground := Ground.data }], guard := none }) rfl (fun K hK => ?_) AllReadyH.nil))
        · go_simp
          refine (HPut2.out _ HA.out).mono ?_
          rintro e w5 ⟨v, rfl, hm, hkk⟩
          have HM5 := Lib.hid hm
          clear hm hkk
          try go_wp2_with fail
          refine hK.out _ _ (SF.out _ _ HM5.out) (fun hHeld => ?_)
          clear hK K
          try simp only [Act.put, List.setIfInBounds_toArray, List.set_cons_zero, List.set_cons_succ]
          refine wpAnyH_take (i := 12) (oi := { dst := some 34, op := Op.indexAddr 76 (Operand.tmp 33) (Operand.tmp 22), type := 0, pos := "extent.go:146", after := #[{ on := 11, ground := Ground.data }, { on := 0, ground := Ground.data }, { on := 0, ground := Ground.phase }, { on := 1, ground := Ground.textOnly Departure.lateStores }, { on := 2, ground := Ground.phase }, { on := 3, ground := Ground.phase }, { on := 4, ground := Ground.phase }, { on := 5, ground := Ground.phase }, { on := 6, ground := Ground.phase }, { on := 7, ground := Ground.phase }, { on := 8, ground := Ground.textOnly Departure.lateStores }, { on := 9, ground := Ground.textOnly Departure.lateStores }, { on := 10, ground := Ground.textOnly Departure.lateStoresUnsure }], guard := none }) (v := ?_) rfl (by kernel_rfl) (by kernel_rfl) (by kernel_rfl) (fun _ _ _ h => h) (Or.inl ⟨by rfl, ?_⟩) (by assumption) ?_
          rotate_left
          · (intro wz hSw; (try dsimp only at hSw); obtain ⟨hSw1, hSw2⟩ := hSw; go_simp; try with_reducible rfl)
          try simp only [Act.put, List.setIfInBounds_toArray, List.set_cons_zero, List.set_cons_succ]
          refine wpAnyH_ready (rs := [9]) (by kernel_rfl) (by simp) ?_
          refine (AllReadyH.cons (o := { dst := some 31, op := Op.buildSlice 105 1 #[(0, Operand.tmp 30)], type := 105, pos := "extent.go:146", after := #[{ on := 8, ground := Ground.data }], guard := none }) rfl (fun K hK => ?_) AllReadyH.nil)
          go_simp
          have HM := Lib.hid (HM5.out.keepF hG ((Grew.refl (S := fun _ => False) w5).alloc (.cells #[.string P] 9)))
          have HSb : Hid ((w5.alloc (.cells #[.string P] 9)).cell? ⟨w5.heap.size, 0, none⟩ = some (.string P)) := Lib.hid (boxNew rfl)
          clear HM5
          generalize hW6 : w5.alloc (.cells #[.string P] 9) = w6 at *
          generalize w5.heap.size = sb at *
          clear hW6
          try go_wp2_with fail
          refine hK.out _ _ (SF.out _ _ HM.out) (fun hHeld => ?_)
          clear hK K
          try simp only [Act.put, List.setIfInBounds_toArray, List.set_cons_zero, List.set_cons_succ]
          refine wpAnyH_ready (rs := [10]) (by kernel_rfl) (by simp) ?_
          refine (AllReadyH.cons (o := { dst := some 32, op := Op.call { callee := Callee.value (Operand.func 68), args := #[Operand.tmp 31], argTypes := #[105] }, type := 77, pos := "extent.go:146", after := #[{ on := 9, ground := Ground.data }, { on := 7, ground := Ground.chain }], guard := none }) rfl (fun K hK => ?_) AllReadyH.nil)
          go_simp
          refine (HCr2.out _ _ HSb.out).mono ?_
          rintro e w7 ⟨rfl, rfl⟩
          try go_wp2_with fail
          refine hK.out _ _ (SF.out _ _ HM.out) (fun hHeld => ?_)
          clear hK K
          try simp only [Act.put, List.setIfInBounds_toArray, List.set_cons_zero, List.set_cons_succ]
          have HW2 := Lib.hid (HM.out.store ok hG HK.out hB hpa hpd hps hx)
          have hd1 := HHd.out _ _ HM.out
          obtain ⟨o1, o2, hc1, hz1, hc2, hz2⟩ := hd1
          refine wpAnyH_ready (rs := [13]) (by kernel_rfl) (by simp) ?_
          refine (AllReadyH.cons (o := { dst := none, op := Op.store 3 (Operand.tmp 34) (Operand.tmp 29), type := 0, pos := "extent.go:146", after := #[{ on := 12, ground := Ground.data }, { on := 7, ground := Ground.data }, { on := 10, ground := Ground.chain }, { on := 0, ground := Ground.phase }, { on := 1, ground := Ground.textOnly Departure.lateStores }, { on := 2, ground := Ground.phase }, { on := 3, ground := Ground.phase }, { on := 4, ground := Ground.phase }, { on := 5, ground := Ground.phase }, { on := 6, ground := Ground.phase }, { on := 7, ground := Ground.phase }, { on := 8, ground := Ground.textOnly Departure.lateStores }, { on := 9, ground := Ground.textOnly Departure.lateStores }, { on := 10, ground := Ground.textOnly Departure.lateStoresUnsure }], guard := none }) rfl (fun K hK => ?_) AllReadyH.nil)
          go_simp
          try go_wp2_with fail
          refine hK.out _ _ (SF1.out _ _ HM.out) (fun hHeld => ?_)
          clear hK K
          try simp only [Act.put, List.setIfInBounds_toArray, List.set_cons_zero, List.set_cons_succ]
          refine wpAnyH_take (i := 15) (oi := { dst := some 36, op := Op.indexAddr 78 (Operand.tmp 35) (Operand.tmp 23), type := 0, pos := "extent.go:146", after := #[{ on := 14, ground := Ground.data }, { on := 1, ground := Ground.data }, { on := 0, ground := Ground.phase }, { on := 1, ground := Ground.phase }, { on := 2, ground := Ground.phase }, { on := 3, ground := Ground.phase }, { on := 4, ground := Ground.phase }, { on := 5, ground := Ground.phase }, { on := 6, ground := Ground.phase }, { on := 7, ground := Ground.phase }, { on := 8, ground := Ground.phase }, { on := 9, ground := Ground.phase }, { on := 10, ground := Ground.phase }, { on := 11, ground := Ground.phase }, { on := 12, ground := Ground.phase }, { on := 13, ground := Ground.phase }], guard := none }) (v := ?_) rfl (by kernel_rfl) (by kernel_rfl) (by kernel_rfl) (fun _ _ _ h => h) (Or.inl ⟨by rfl, ?_⟩) (by assumption) ?_
          rotate_left
          · (intro wz hSw; (try dsimp only at hSw); obtain ⟨hSw1, hSw2⟩ := hSw; go_simp; try with_reducible rfl)
          try simp only [Act.put, List.setIfInBounds_toArray, List.set_cons_zero, List.set_cons_succ]
          refine wpAnyH_ready (rs := [16]) (by kernel_rfl) (by simp) ?_
          refine (AllReadyH.cons (o := { dst := none, op := Op.store 77 (Operand.tmp 36) (Operand.tmp 32), type := 0, pos := "extent.go:146", after := #[{ on := 15, ground := Ground.data }, { on := 10, ground := Ground.data }, { on := 13, ground := Ground.chain }, { on := 0, ground := Ground.phase }, { on := 1, ground := Ground.phase }, { on := 2, ground := Ground.phase }, { on := 3, ground := Ground.phase }, { on := 4, ground := Ground.phase }, { on := 5, ground := Ground.phase }, { on := 6, ground := Ground.phase }, { on := 7, ground := Ground.phase }, { on := 8, ground := Ground.phase }, { on := 9, ground := Ground.phase }, { on := 10, ground := Ground.phase }, { on := 11, ground := Ground.phase }, { on := 12, ground := Ground.phase }, { on := 13, ground := Ground.phase }], guard := none }) rfl (fun K hK => ?_) AllReadyH.nil)
          go_simp
          try go_wp2_with fail
          refine hK.out _ _ (SF2.out _ _ HM.out) (fun hHeld => ?_)
          clear hK K
          try simp only [Act.put, List.setIfInBounds_toArray, List.set_cons_zero, List.set_cons_succ]
          refine wpAnyH_done (by kernel_rfl) ?_ _
          clear hc1 hz1 hc2 hz2 hHeld
          go_wp2_with fail
          go_roundw
          case rel => exact ⟨k + 1, by have := HK.out; omega, by go_num, HW2.out⟩
          case measure => simp [intOf]; have := HK.out; omega
        · go_simp
          have HA5 := Lib.hid (HA4.out.keepF hG (((Grew.refl (S := fun _ => False) w4).alloc (.cells #[.string P] 9)).drew))
          have HX5 : Hid (Box w4.heap.size 9 (.string P) (w4.alloc (.cells #[.string P] 9)).drew) := Lib.hid (Box.new w4 _ _)
          have HNs : Hid (¬ b.S0 w4.heap.size) := Lib.hid (HB.far ok (by have := HA4.out.gr.size; omega))
          generalize hW5 : (w4.alloc (.cells #[.string P] 9)).drew = w5 at *
          clear hW5
          try go_wp2_with fail
          refine hK.out _ _ (SF0.out _ HA5.out) (fun hHeld => ?_)
          clear hK K
          try simp only [Act.put, List.setIfInBounds_toArray, List.set_cons_zero, List.set_cons_succ]
          refine wpAnyH_ready (rs := [7]) (by kernel_rfl) (by simp) ?_
          refine (AllReadyH.cons (o := { dst := some 29, op := Op.call { callee := Callee.value (Operand.func 67), args := #[Operand.tmp 27, Operand.tmp 28], argTypes := #[27, 9] }, type := 3, pos := "extent.go:146", after := #[{ on := 5, ground := Ground.data }, { on := 6, ground := Ground.data }], guard := none }) rfl (fun K hK => ?_) AllReadyH.nil)
          go_simp
          refine (HPut2.out _ HA5.out).mono ?_
          rintro e w6 ⟨v, rfl, hm, hkk⟩
          have HM := Lib.hid hm
          have HSb : Hid (w6.cell? ⟨w4.heap.size, 0, none⟩ = some (.string P)) := Lib.hid (Box.cell (t := 9) ((hkk _ (HX5.out.pl HNs.out (by decide) (by decide))).trans HX5.out))
          clear hm hkk HX5 HA5
          try go_wp2_with fail
          refine hK.out _ _ (SF.out _ _ HM.out) (fun hHeld => ?_)
          clear hK K
          try simp only [Act.put, List.setIfInBounds_toArray, List.set_cons_zero, List.set_cons_succ]
          refine wpAnyH_take (i := 12) (oi := { dst := some 34, op := Op.indexAddr 76 (Operand.tmp 33) (Operand.tmp 22), type := 0, pos := "extent.go:146", after := #[{ on := 11, ground := Ground.data }, { on := 0, ground := Ground.data }, { on := 0, ground := Ground.phase }, { on := 1, ground := Ground.textOnly Departure.lateStores }, { on := 2, ground := Ground.phase }, { on := 3, ground := Ground.phase }, { on := 4, ground := Ground.phase }, { on := 5, ground := Ground.phase }, { on := 6, ground := Ground.phase }, { on := 7, ground := Ground.phase }, { on := 8, ground := Ground.textOnly Departure.lateStores }, { on := 9, ground := Ground.textOnly Departure.lateStores }, { on := 10, ground := Ground.textOnly Departure.lateStoresUnsure }], guard := none }) (v := ?_) rfl (by kernel_rfl) (by kernel_rfl) (by kernel_rfl) (fun _ _ _ h => h) (Or.inl ⟨by rfl, ?_⟩) (by assumption) ?_
          rotate_left
          · (intro wz hSw; (try dsimp only at hSw); obtain ⟨hSw1, hSw2⟩ := hSw; go_simp; try with_reducible rfl)
          try simp only [Act.put, List.setIfInBounds_toArray, List.set_cons_zero, List.set_cons_succ]
          refine wpAnyH_ready (rs := [10]) (by kernel_rfl) (by simp) ?_
          refine (AllReadyH.cons (o := { dst := some 32, op := Op.call { callee := Callee.value (Operand.func 68), args := #[Operand.tmp 31], argTypes := #[105] }, type := 77, pos := "extent.go:146", after := #[{ on := 9, ground := Ground.data }, { on := 7, ground := Ground.chain }], guard := none }) rfl (fun K hK => ?_) AllReadyH.nil)
          go_simp
          refine (HCr2.out _ _ HSb.out).mono ?_
          rintro e w7 ⟨rfl, rfl⟩
          try go_wp2_with fail
          refine hK.out _ _ (SF.out _ _ HM.out) (fun hHeld => ?_)
          clear hK K
          try simp only [Act.put, List.setIfInBounds_toArray, List.set_cons_zero, List.set_cons_succ]
          have HW2 := Lib.hid (HM.out.store ok hG HK.out hB hpa hpd hps hx)
          have hd1 := HHd.out _ _ HM.out
          obtain ⟨o1, o2, hc1, hz1, hc2, hz2⟩ := hd1
          refine wpAnyH_ready (rs := [13]) (by kernel_rfl) (by simp) ?_
          refine (AllReadyH.cons (o := { dst := none, op := Op.store 3 (Operand.tmp 34) (Operand.tmp 29), type := 0, pos := "extent.go:146", after := #[{ on := 12, ground := Ground.data }, { on := 7, ground := Ground.data }, { on := 10, ground := Ground.chain }, { on := 0, ground := Ground.phase }, { on := 1, ground := Ground.textOnly Departure.lateStores }, { on := 2, ground := Ground.phase }, { on := 3, ground := Ground.phase }, { on := 4, ground := Ground.phase }, { on := 5, ground := Ground.phase }, { on := 6, ground := Ground.phase }, { on := 7, ground := Ground.phase }, { on := 8, ground := Ground.textOnly Departure.lateStores }, { on := 9, ground := Ground.textOnly Departure.lateStores }, { on := 10, ground := Ground.textOnly Departure.lateStoresUnsure }], guard := none }) rfl (fun K hK => ?_) AllReadyH.nil)
          go_simp
          try go_wp2_with fail
          refine hK.out _ _ (SF1.out _ _ HM.out) (fun hHeld => ?_)
          clear hK K
          try simp only [Act.put, List.setIfInBounds_toArray, List.set_cons_zero, List.set_cons_succ]
          refine wpAnyH_take (i := 15) (oi := { dst := some 36, op := Op.indexAddr 78 (Operand.tmp 35) (Operand.tmp 23), type := 0, pos := "extent.go:146", after := #[{ on := 14, ground := Ground.data }, { on := 1, ground := Ground.data }, { on := 0, ground := Ground.phase }, { on := 1, ground := Ground.phase }, { on := 2, ground := Ground.phase }, { on := 3, ground := Ground.phase }, { on := 4, ground := Ground.phase }, { on := 5, ground := Ground.phase }, { on := 6, ground := Ground.phase }, { on := 7, ground := Ground.phase }, { on := 8, ground := Ground.phase }, { on := 9, ground := Ground.phase }, { on := 10, ground := Ground.phase }, { on := 11, ground := Ground.phase }, { on := 12, ground := Ground.phase }, { on := 13, ground := Ground.phase }], guard := none }) (v := ?_) rfl (by kernel_rfl) (by kernel_rfl) (by kernel_rfl) (fun _ _ _ h => h) (Or.inl ⟨by rfl, ?_⟩) (by assumption) ?_
          rotate_left
          · (intro wz hSw; (try dsimp only at hSw); obtain ⟨hSw1, hSw2⟩ := hSw; go_simp; try with_reducible rfl)
          try simp only [Act.put, List.setIfInBounds_toArray, List.set_cons_zero, List.set_cons_succ]
          refine wpAnyH_ready (rs := [16]) (by kernel_rfl) (by simp) ?_
          refine (AllReadyH.cons (o := { dst := none, op := Op.store 77 (Operand.tmp 36) (Operand.tmp 32), type := 0, pos := "extent.go:146", after := #[{ on := 15, ground := Ground.data }, { on := 10, ground := Ground.data }, { on := 13, ground := Ground.chain }, { on := 0, ground := Ground.phase }, { on := 1, ground := Ground.phase }, { on := 2, ground := Ground.phase }, { on := 3, ground := Ground.phase }, { on := 4, ground := Ground.phase }, { on := 5, ground := Ground.phase }, { on := 6, ground := Ground.phase }, { on := 7, ground := Ground.phase }, { on := 8, ground := Ground.phase }, { on := 9, ground := Ground.phase }, { on := 10, ground := Ground.phase }, { on := 11, ground := Ground.phase }, { on := 12, ground := Ground.phase }, { on := 13, ground := Ground.phase }], guard := none }) rfl (fun K hK => ?_) AllReadyH.nil)
          go_simp
          try go_wp2_with fail
          refine hK.out _ _ (SF2.out _ _ HM.out) (fun hHeld => ?_)
          clear hK K
          try simp only [Act.put, List.setIfInBounds_toArray, List.set_cons_zero, List.set_cons_succ]
          refine wpAnyH_done (by kernel_rfl) ?_ _
          clear hc1 hz1 hc2 hz2 hHeld
          go_wp2_with fail
          go_roundw
          case rel => exact ⟨k + 1, by have := HK.out; omega, by go_num, HW2.out⟩
          case measure => simp [intOf]; have := HK.out; omega
    · have i0 : ¬ (k : Int) < 4 := by omega
      obtain rfl : k = 4 := by omega
      obtain ⟨a, J, s1, U, h1, h2, h3⟩ := HA0.out.st
      have heq : headL a (upTo (smOf D) 4) f = headL a (smOf D) f := headL_congr (fun _ _ => rfl) (fun j h => by unfold upTo; rw [if_pos h]) (fun _ _ => rfl)
      rw [heq] at h3
      have ha16 := h1.lt ok
      have HBy := Lib.hid fun wx => bytes_any a (smOf D) f ha16 (smOf_lt D) hf256 wx
      have HIL : Hid ((Tryz.prog.info? 80).map (·.size) = some (headL a (smOf D) f).length) := Lib.hid (by rw [headL_len]; kernel_rfl)
      obtain ⟨SS, hSS⟩ : ∃ SS, sealS (headT a (smOf D) f) = SS := ⟨_, rfl⟩
      have hSz : SS.size = 64 := by rw [← hSS]; exact sealS_size _ (headT_60 _ _ _)
      obtain ⟨N, hN⟩ : ∃ N, headL a (smOf D) f = N := ⟨_, rfl⟩
      rw [hSS, hN] at HBy
      rw [hN] at HIL h3
      have HE : Hid (WrE b s dp f0 n pd ps x kb bits pa H D a J s1 U N w wr.drew) := Lib.hid (WrE.keepF ⟨HA0.out.fr, HA0.out.ba, h1, h2, h3, HA0.out.gr, HA0.out.hw⟩ hG (Grew.refl _).drew)
      have HPe : Hid (∀ W, WrE b s dp f0 n pd ps x kb bits pa H D a J s1 U N w W → Calls Tryz.prog 67 #[.pointer (some ⟨b.hb, 0, none⟩), .string SS] W fun e w' => ∃ v : Nat, e = .returned (.int .i64 (v : Int)) ∧ WrZ b dp f0 n pd ps x kb bits pa H D a J s1 U N SS v w w') := Lib.hid fun W hE => by
        obtain ⟨i1, i2, i3, i4, i5, i6⟩ := h1.same
        refine (hPut_any (b := b.at U) (s := s1) (ok.at U) hf (i2.trans hG) SS (by omega) (by rw [i1]; exact hK0) (by rw [i1]; show s.K < ((cnt s1.S 0 b.n : Nat) : Int); omega) (by omega) (Nat.succ_pos dp) hd hE.inl).mono ?_
        rintro e w' ⟨j, hj, h0, hmin, rfl, hin, hg⟩
        have hg' : Grew (Mut b.B b.S0 W) W w' := hg
        have kk : Kept b.S0 W w' := Kept.of hg'
        have hHn : ¬ b.S0 H := HB.far ok (by have := hE.hw; omega)
        exact ⟨b.f + j, rfl, hE.fr.kept kk, (kk _ (hE.ba.pl na (by decide) (by decide))).trans hE.ba, ⟨j, rfl, hj, h0, hmin, hin⟩, (kk _ (hE.hd.pl hHn)).trans hE.hd, hE.gr.thenMut hg'⟩
      have SG := Lib.hid (fun W (hE : WrE b s dp f0 n pd ps x kb bits pa H D a J s1 U N w W) => And.intro (Lib.hid hE.hd.range) (And.intro hE.fr.bs.cell hE.fr.sx.cell.1))
      have SH := Lib.hid (fun (v : Nat) W (hE : WrZ b dp f0 n pd ps x kb bits pa H D a J s1 U N SS v w W) => And.intro (Lib.hid hE.hd.range) (And.intro hE.fr.bs.cell hE.fr.sx.cell.1))
      have hne1 : ps ≠ pa := fun e => by
        have q1 := HA0.out.fr.bs
        have q2 := HA0.out.ba
        unfold Box at q1 q2
        rw [e, q2] at q1
        simp at q1
      have hne2 : x ≠ pa := fun e => by
        have q1 := HA0.out.fr.sx
        have q2 := HA0.out.ba
        unfold Box at q2
        unfold StAt at q1
        rw [e, q2] at q1
        simp at q1
      have SI := Lib.hid (fun (v : Nat) W (hE : WrZ b dp f0 n pd ps x kb bits pa H D a J s1 U N SS v w W) => (show Hid ((W.setCell ⟨pa, 0, none⟩ (.int .i64 (v : Int))).rangeAt H 0 N) ∧ (W.setCell ⟨pa, 0, none⟩ (.int .i64 (v : Int))).cell? ⟨ps, 0, none⟩ = some (.pointer (some ⟨x, 0, none⟩)) ∧ (W.setCell ⟨pa, 0, none⟩ (.int .i64 (v : Int))).cell? ⟨x, 0, none⟩ = some (.pointer (some ⟨b.hb, 0, none⟩)) from by
        have g : Grew (fun q => q = pa) W (W.setCell ⟨pa, 0, none⟩ (.int .i64 (v : Int))) := (Grew.refl W).setCell _ _ fun _ => rfl
        refine ⟨Lib.hid (hE.hd.keep g (by have := HHe.out; omega)).range, ?_, ?_⟩
        · rw [World.cell?_setCell_other _ _ _ _ (fun e => hne1 (congrArg Addr.block e).symm)]
          exact hE.fr.bs.cell
        · rw [World.cell?_setCell_other _ _ _ _ (fun e => hne2 (congrArg Addr.block e).symm)]
          exact hE.fr.sx.cell.1))
      have HFin : Hid (∀ (v : Nat) W, WrZ b dp f0 n pd ps x kb bits pa H D a J s1 U N SS v w W → WrEnd b s (dp + 1) f0 n D f v (W.setCell ⟨pa, 0, none⟩ (.int .i64 (v : Int))) ∧ Box pa 3 (.int .i64 (v : Int)) (W.setCell ⟨pa, 0, none⟩ (.int .i64 (v : Int))) ∧ Grew (fun q => Mut b.B b.S0 w q ∨ q = pa) w (W.setCell ⟨pa, 0, none⟩ (.int .i64 (v : Int)))) := Lib.hid fun v W hE => by
        obtain ⟨j, e1, hj, h0, hmin, hin⟩ := hE.at'
        obtain ⟨i1, i2, i3, i4, i5, i6⟩ := h1.same
        refine ⟨⟨a, J, s1, U, j, h1, e1, hj, h0, hmin, ?_⟩, hE.ba.set _, (hE.gr.mono fun _ _ e => Or.inl e).setCell _ _ fun _ => Or.inr rfl⟩
        rw [hSS]
        exact hin.box (i2.trans hG) hE.ba (by decide) na
      clear hSS hN h1 h2 h3 heq ha16 hSz HA0 hlt hk HPt HCr HZt hd256
      go_upto_region 8 with fail
      refine wp_region_held_drew (S := fun wx => Hid (wx.rangeAt H 0 N) ∧ wx.cell? ⟨ps, 0, none⟩ = some (.pointer (some ⟨x, 0, none⟩)) ∧ wx.cell? ⟨x, 0, none⟩ = some (.pointer (some ⟨b.hb, 0, none⟩))) (by kernel_rfl) (SG.out _ HE.out) (fun hHeld => ?_)
      refine wpAnyH_take (i := 0) (oi := { dst := some 38, op := Op.load 29 (Operand.tmp 2), type := 29, pos := "extent.go:149", after := #[], guard := none }) (v := ?_) rfl (by kernel_rfl) (by kernel_rfl) (by kernel_rfl) (fun _ _ _ h => h) (Or.inl ⟨by rfl, ?_⟩) (by assumption) ?_
      rotate_left
      · (intro wz hSw; (try dsimp only at hSw); obtain ⟨_, hSw1, hSw2⟩ := hSw; go_simp; try with_reducible rfl)
      try simp only [Act.put, List.setIfInBounds_toArray, List.set_cons_zero, List.set_cons_succ]
      refine wpAnyH_take (i := 1) (oi := { dst := some 39, op := Op.nilCheck (Operand.tmp 38), type := 0, pos := "extent.go:149", after := #[{ on := 0, ground := Ground.data }], guard := none }) (v := ?_) rfl (by kernel_rfl) (by kernel_rfl) (by kernel_rfl) (fun _ _ _ h => h) (Or.inl ⟨by rfl, ?_⟩) (by assumption) ?_
      rotate_left
      · (intro wz hSw; (try dsimp only at hSw); obtain ⟨_, hSw1, hSw2⟩ := hSw; go_simp; try with_reducible rfl)
      try simp only [Act.put, List.setIfInBounds_toArray, List.set_cons_zero, List.set_cons_succ]
      refine wpAnyH_take (i := 2) (oi := { dst := some 40, op := Op.fieldAddr 61 (Operand.tmp 39) 0, type := 0, pos := "extent.go:149", after := #[{ on := 1, ground := Ground.data }], guard := none }) (v := ?_) rfl (by kernel_rfl) (by kernel_rfl) (by kernel_rfl) (fun _ _ _ h => h) (Or.inl ⟨by rfl, ?_⟩) (by assumption) ?_
      rotate_left
      · (intro wz hSw; (try dsimp only at hSw); obtain ⟨_, hSw1, hSw2⟩ := hSw; go_simp; try with_reducible rfl)
      try simp only [Act.put, List.setIfInBounds_toArray, List.set_cons_zero, List.set_cons_succ]
      refine wpAnyH_take (i := 3) (oi := { dst := some 41, op := Op.load 27 (Operand.tmp 40), type := 27, pos := "extent.go:149", after := #[{ on := 2, ground := Ground.data }], guard := none }) (v := ?_) rfl (by kernel_rfl) (by kernel_rfl) (by kernel_rfl) (fun _ _ _ h => h) (Or.inl ⟨by rfl, ?_⟩) (by assumption) ?_
      rotate_left
      · (intro wz hSw; (try dsimp only at hSw); obtain ⟨_, hSw1, hSw2⟩ := hSw; go_simp; try with_reducible rfl)
      try simp only [Act.put, List.setIfInBounds_toArray, List.set_cons_zero, List.set_cons_succ]
      refine wpAnyH_take (i := 4) (oi := { dst := some 42, op := Op.load 80 (Operand.tmp 4), type := 80, pos := "extent.go:149", after := #[], guard := none }) rfl (by kernel_rfl) (by kernel_rfl) (by kernel_rfl) (fun _ _ _ h => h) (yieldsIf_load_mid (by rfl) _ _ rfl H 0 rfl N _ (fun wz hz => hz.1.out) Tryz.underlying80 rfl HIL.out) (by assumption) ?_
      try simp only [Act.put, List.setIfInBounds_toArray, List.set_cons_zero, List.set_cons_succ]
      refine wpAnyH_ready (rs := [5]) (by kernel_rfl) (by simp) ?_
      refine (AllReadyH.cons (o := { dst := some 43, op := Op.call { callee := Callee.value (Operand.func 69), args := #[Operand.tmp 42], argTypes := #[80] }, type := 9, pos := "extent.go:149", after := #[{ on := 4, ground := Ground.data }], guard := none }) rfl (fun K hK => ?_) AllReadyH.nil)
      go_simp
      refine (HBy.out _).mono ?_
      rintro e w5 ⟨rfl, hb5⟩
      have HE5 := Lib.hid (HE.out.keepF hG (Grew.of_below hb5))
      clear hb5
      try go_wp2_with fail
      refine hK.out _ _ (SG.out _ HE5.out) (fun hHeld => ?_)
      clear hK K
      try simp only [Act.put, List.setIfInBounds_toArray, List.set_cons_zero, List.set_cons_succ]
      refine wpAnyH_ready (rs := [6]) (by kernel_rfl) (by simp) ?_
      refine (AllReadyH.cons (o := { dst := some 44, op := Op.call { callee := Callee.value (Operand.func 67), args := #[Operand.tmp 41, Operand.tmp 43], argTypes := #[27, 9] }, type := 3, pos := "extent.go:149", after := #[{ on := 3, ground := Ground.data }, { on := 5, ground := Ground.data }, { on := 5, ground := Ground.chain }], guard := none }) rfl (fun K hK => ?_) AllReadyH.nil)
      go_simp
      refine (HPe.out _ HE5.out).mono ?_
      rintro e w6 ⟨v, rfl, hend⟩
      have HZ := Lib.hid hend
      clear hend
      try go_wp2_with fail
      refine hK.out _ _ (SH.out _ _ HZ.out) (fun hHeld => ?_)
      clear hK K
      try simp only [Act.put, List.setIfInBounds_toArray, List.set_cons_zero, List.set_cons_succ]
      have hq1 := HZ.out.ba.cell
      have hq2 := HZ.out.ba.free
      refine wpAnyH_ready (rs := [7]) (by kernel_rfl) (by simp) ?_
      refine (AllReadyH.cons (o := { dst := none, op := Op.store 3 (Operand.tmp 3) (Operand.tmp 44), type := 0, pos := "extent.go:149", after := #[{ on := 6, ground := Ground.data }, { on := 6, ground := Ground.chain }, { on := 0, ground := Ground.phase }, { on := 1, ground := Ground.phase }, { on := 2, ground := Ground.phase }, { on := 3, ground := Ground.phase }, { on := 4, ground := Ground.phase }, { on := 5, ground := Ground.phase }, { on := 6, ground := Ground.phase }], guard := none }) rfl (fun K hK => ?_) AllReadyH.nil)
      go_simp
      try go_wp2_with fail
      refine hK.out _ _ (SI.out _ _ HZ.out) (fun hHeld => ?_)
      clear hK K
      try simp only [Act.put, List.setIfInBounds_toArray, List.set_cons_zero, List.set_cons_succ]
      refine wpAnyH_done (by kernel_rfl) ?_ _
      have HZF := Lib.hid (HFin.out _ _ HZ.out)
      go_end0
      exact ⟨rfl, v, HZF.out.1, HZF.out.2.1, HZF.out.2.2⟩
end Go.Proofs.YtfmhcomebjggoaaGreatDoor
