/-
  extent.Store.Put in a Try of a heap, whose table has no such sum: contract (written by gen_extput.py).
-/
import Derived.Test.YtbohpffigmllkaaGreatDoorExtPutAt
import Derived.Deep.RegionHeld3
namespace Go.Proofs.YtbohpffigmllkaaGreatDoor
open Go.RowKit Go.Maps Go.ChangeMaps Go.WideShapes

set_option maxRecDepth 100000 in
/-- no 256 bytes -/
theorem ePut_len (xs : Nat) (D : ByteArray) (hD : ¬ D.size = 256) (hm : D.size ≤ maxLen) (w : World) :
    Calls Tryz.prog 14 #[.pointer (some ⟨xs, 0, none⟩), .string D] w fun e w' => e = failed 4 ∧ w = w' := by
  have h1 : ¬ (D.size : Int) = 256 := by omega
  have HM := Lib.hid hm
  clear hm hD
  go_enter Tryz.func14, Tryz.ntmps14
  go_wp2_with fail
  refine (fail_any 4 _).mono ?_
  rintro e w1 ⟨rfl, rfl⟩
  unfold failed
  go_wp2_with fail
  exact ⟨rfl, rfl, rfl⟩
set_option maxRecDepth 100000 in
/-- 256 noughts -/
theorem ePut_zero (xs : Nat) (D : ByteArray) (hD : D.size = 256) (hz : allZero D.data.toList = true) (w : World) :
    Calls Tryz.prog 14 #[.pointer (some ⟨xs, 0, none⟩), .string D] w fun e w' => e = .returned (.int .i64 0) ∧ Grew (fun _ => False) w w' := by
  have h1 : (D.size : Int) = 256 := by omega
  have HZ := Lib.hid fun wx => zero_any D wx (by rw [hD]; decide)
  rw [hz] at HZ
  clear hD hz
  go_enter Tryz.func14, Tryz.ntmps14
  go_wp2_with fail
  refine (HZ.out _).mono ?_
  rintro e w1 ⟨rfl, hw⟩
  have HW := Lib.hid hw
  clear HZ hw
  go_wp2_with fail
  go_ret
  refine ⟨rfl, ?_⟩
  rcases HW.out with rfl | rfl
  · exact Grew.refl _
  · exact (Grew.refl _).drew
set_option maxRecDepth 100000 in
set_option maxHeartbeats 4000000 in
theorem ePut_any (b : HB) (ok : b.ok) (hf : 1 ≤ b.f) (s : HS) (hG : s.G = []) (hK0 : 0 ≤ s.K) (hK : s.K + 5 ≤ (cnt s.S 0 b.n : Nat)) (dp n : Nat) (hn : n < 70000) (hd : dp + 2 < 100000) (f0 : List Step) (xs kb : Nat) (q : Int) (hq : (Lit.int .i64 q).wf = true) (nx : ¬ b.S0 xs) (nk : ¬ b.S0 kb) (nxk : xs ≠ kb) (F : List UInt8 → Option Int) (L : List (List UInt8)) (D : ByteArray) (hD : D.size = 256) (hz : allZero D.data.toList = false) (w : World)
    (f fa : Nat → Nat) (hfD : f = Sha.dg (shaOf D.data.toList)) (hfa : fa = headF f (clamp q)) (hFn : F (txt fa) = none) (hkL : txt fa ∈ L) (hLl : L.length < 1000000)
    (h : PtAt b s dp f0 n xs kb q F L w) (hL : Laid KK SS w) :
    Calls Tryz.prog 14 #[.pointer (some ⟨xs, 0, none⟩), .string D] w fun e w' => ∃ v : Nat, e = .returned (.int .i64 (v : Int)) ∧ PtEnd b s dp f0 n xs kb q F L D f (txt fa) v w w' := by
  have hB : b.B ≤ w.heap.size := h.inl.size
  have h1 : (D.size : Int) = 256 := by omega
  have hf256 : ∀ j, f j < 256 := fun j => by rw [hfD]; exact dg_lt _ j
  have hfa256 : ∀ j, fa j < 256 := fun j => by rw [hfa]; exact headF_lt _ hf256 _ _
  have HZ := Lib.hid fun wx => zero_any D wx (by rw [hD]; decide)
  rw [hz] at HZ
  have HOf := Lib.hid fun bb (wx : World) (hl : Laid KK SS wx) (hb : bb < wx.heap.size) (hc : wx.cell? ⟨bb, 0, none⟩ = some (.string D)) => (show Calls Tryz.prog 57 #[.slice (some ⟨bb, 0, none⟩) 1 1] wx fun r w' => r = .returned (.agg (arr f).toArray) ∧ Below wx.heap.size wx w' from by
    rw [hfD]
    exact of_one bb 1 D D.data.toList wx rfl hl (by rw [hD]; decide) hb hc)
  have HHd := Lib.hid fun (wx : World) => (show Calls Tryz.prog 58 #[.agg (arr f).toArray, .int .i64 q] wx fun r w' => r = .returned (.agg (arr fa).toArray) ∧ Below wx.heap.size wx w' from by
    have := head_any f hf256 q hq wx
    rw [hfa]
    exact this)
  have HKp := Lib.hid fun (W W' : World) (hp : PtAt b s dp f0 n xs kb q F L W) (g : Grew (fun _ => False) W W') => hp.keepF hG nx g
  have HWr := Lib.hid fun (W : World) (hp : PtAt b s dp f0 n xs kb q F L W) => write_any (dp := dp + 1) ok hf hG hK0 hK hn (by omega) (by omega) xs kb q D hD f hf256 hp.inl hp.st nx
  have HLk := Lib.hid fun (W : World) (hp : PtAt b s dp f0 n xs kb q F L W) => (show (Instr.lookup 78 (.map (some kb)) (.agg (arr fa).toArray) true).run Tryz.prog W = .ok (.tuple #[.int .i64 0, .bool false]) W from by
    have h1 := hp.tb.look tblK_fine (txt fa) (txt_len _)
    rw [hFn] at h1
    have h2 : (tblK Tryz.prog).kv (txt fa) = .agg (arr fa).toArray := by
      show Value.agg (bytesOf (txt fa)).toArray = _
      rw [arr_bytes fa hfa256]
    rw [h2] at h1
    exact h1)
  have HPk := Lib.hid fun (v pa : Nat) (w1 W : World) (na : ¬ b.S0 pa) (g0 : Grew (fun q => Mut b.B b.S0 w q ∨ q = kb) w w1) (hm : PtMid b s dp f0 n xs kb q F L D f pa fa v w1 W) => hm.put ok hG hn nx nk na nxk hfa256 hkL hLl g0
  have HSc := Lib.hid fun (W : World) (hp : PtAt b s dp f0 n xs kb q F L W) => And.intro hp.st.cell.2.1 hp.st.cell.2.2
  have HIA : Hid ((Tryz.prog.info? 51).map (·.size) = some (arr f).length) := Lib.hid (by rw [arr_len]; kernel_rfl)
  have HIA2 : Hid ((Tryz.prog.info? 51).map (·.size) = some (arr f).toArray.size) := Lib.hid (by rw [List.size_toArray, arr_len]; kernel_rfl)
  have HIB : Hid ((Tryz.prog.info? 51).map (·.size) = some (arr fa).length) := Lib.hid (by rw [arr_len]; kernel_rfl)
  have HIB2 : Hid ((Tryz.prog.info? 51).map (·.size) = some (arr fa).toArray.size) := Lib.hid (by rw [List.size_toArray, arr_len]; kernel_rfl)
  have HOne := Lib.hid (sum_one f)
  have HOneB := Lib.hid (sum_one fa)
  have HSm : Hid (∀ p W, SmAt p f W → W.rangeAt p 0 (arr f)) := Lib.hid fun p W h => h.range
  have HSmB : Hid (∀ p W, SmAt p fa W → W.rangeAt p 0 (arr fa)) := Lib.hid fun p W h => h.range
  have HNew : Hid (∀ W : World, SmAt W.heap.size f ((W.alloc (.cells lit32 51)).setCells W.heap.size 0 (arr f))) := Lib.hid fun W => SmAt.new W f
  have HThr : Hid (∀ W : World, (W.alloc (.cells lit32 51)).there W.heap.size 0 (arr f).toArray.size) := Lib.hid fun W => sum_there W f
  have HPutB : Hid (∀ (W : World) (p : Nat), W.heap[p]? = some (.cells lit32 51 (0, 0)) → SmAt p fa (W.setCells p 0 (arr fa)) ∧ W.there p 0 (arr fa).toArray.size) := Lib.hid fun W p h => ⟨SmAt.put fa h rfl, SmAt.there fa h rfl⟩
  obtain ⟨X, hX⟩ : ∃ X, arr f = X := ⟨_, rfl⟩
  obtain ⟨A, hA⟩ : ∃ A, arr fa = A := ⟨_, rfl⟩
  obtain ⟨Z, hZ⟩ : ∃ Z, lit32 = Z := ⟨_, rfl⟩
  have HAl := alloc_sum
  rw [hX] at HOf HHd HIA HIA2 HOne HNew HThr HSm
  rw [hA] at HHd HLk HIB HIB2 HOneB HPutB HSmB
  rw [hZ] at HAl HNew HThr HPutB
  have HX := Lib.hid hX
  have HA := Lib.hid hA
  have HP0 := Lib.hid h
  have HL0 := Lib.hid hL
  clear h hL hX hA hZ hfD hfa hz hFn
  go_enter Tryz.func14, Tryz.ntmps14
  go_wp2_with fail
  refine (HZ.out _).mono ?_
  rintro e w1 ⟨rfl, hw⟩
  have G1 : Hid (Grew (fun _ => False) w w1) := Lib.hid (by
    rcases hw with rfl | rfl
    · exact Grew.refl _
    · exact (Grew.refl _).drew)
  have HL1 : Hid (Laid KK SS w1) := Lib.hid (by
    rcases hw with rfl | rfl
    · exact HL0.out
    · exact HL0.out.drew)
  clear HZ hw HL0
  go_wp2_with fail
  refine (HOf.out w1.heap.size _ (HL1.out.alloc _) (by simp) (boxNew rfl)).mono ?_
  rintro e w2 ⟨rfl, hb2⟩
  have G2 : Hid (Grew (fun _ => False) w w2) := Lib.hid (G1.out.trans (((Grew.refl _).alloc _).trans (Grew.of_below hb2)))
  clear HOf hb2 HL1 G1
  have HS2 := Lib.hid (HNew.out w2)
  have hth := HThr.out w2
  have G3 : Hid (Grew (fun _ => False) w ((w2.alloc (.cells Z 51)).setCells w2.heap.size 0 X)) := Lib.hid (G2.out.trans (((Grew.refl w2).alloc _).row _ _ _ fun e => absurd e (Nat.lt_irrefl _)))
  clear HNew HThr
  go_upto_region 6 with (first
    | (refine wpList_alloc rfl 51 rfl _ (HAl _) ?_)
    | (with_reducible refine wpList_store_mid rfl 51 _ _ rfl w2.heap.size 0 X.toArray rfl rfl hth HIA2.out HOne.out ?_))
  clear hth G2
  generalize (w2.alloc (.cells Z 51)).setCells w2.heap.size 0 X = W3 at *
  generalize w2.heap.size = p5 at *
  have HP3 := Lib.hid (HKp.out _ _ HP0.out G3.out)
  try simp only [Act.put, List.setIfInBounds_toArray, List.set_cons_zero, List.set_cons_succ]
  go_cut [6] (fun p wx => ∃ pa, p = .pointer (some ⟨pa, 0, none⟩) ∧ Grew (fun _ => False) w wx ∧ SmAt p5 f wx ∧ SmAt pa fa wx ∧ w.heap.size ≤ pa)
  case first =>
    have HS3 := Lib.hid (HS2.out.keep ((Grew.refl (S := fun _ => False) W3).drew) (fun e => e))
    have HP4 := Lib.hid (HKp.out _ _ HP3.out ((Grew.refl W3).drew))
    have G4 : Hid (Grew (fun _ => False) w W3.drew) := Lib.hid G3.out.drew
    clear HS2 HP3 G3
    refine wp_region_held_drew (S := fun wx => Hid (wx.rangeAt p5 0 X) ∧ wx.cell? ⟨xs, 1, none⟩ = some (.int .i64 q)) (by kernel_rfl) ⟨Lib.hid (HSm.out _ _ HS3.out), (HSc.out _ HP4.out).1⟩ (fun hHeld => ?_)
    generalize W3.drew = W4 at *
    refine wpAnyH_take (i := 0) (oi := { dst := some 18, op := Op.load 51 (Operand.tmp 5), type := 51, pos := "extent.go:124", after := #[], guard := none }) rfl (by kernel_rfl) (by kernel_rfl) (by kernel_rfl) (fun _ _ _ h => h) (yieldsIf_load_mid (by rfl) _ _ rfl p5 0 rfl X _ (fun wz hz => hz.1.out) Tryz.underlying51 rfl HIA.out) (by assumption) ?_
    try simp only [Act.put, List.setIfInBounds_toArray, List.set_cons_zero, List.set_cons_succ]
    refine wpAnyH_take (i := 1) (oi := { dst := some 19, op := Op.move (Operand.tmp 0), type := 28, pos := "extent.go:124", after := #[], guard := none }) (v := ?_) rfl (by kernel_rfl) (by kernel_rfl) (by kernel_rfl) (fun _ _ _ h => h) (Or.inl ⟨by rfl, ?_⟩) (by assumption) ?_
    rotate_left
    · (intro wz hSw; (try dsimp only at hSw); obtain ⟨_, hSw1⟩ := hSw; go_simp; try with_reducible rfl)
    try simp only [Act.put, List.setIfInBounds_toArray, List.set_cons_zero, List.set_cons_succ]
    refine wpAnyH_take (i := 2) (oi := { dst := some 20, op := Op.nilCheck (Operand.tmp 19), type := 0, pos := "extent.go:124", after := #[{ on := 1, ground := Ground.data }], guard := none }) (v := ?_) rfl (by kernel_rfl) (by kernel_rfl) (by kernel_rfl) (fun _ _ _ h => h) (Or.inl ⟨by rfl, ?_⟩) (by assumption) ?_
    rotate_left
    · (intro wz hSw; (try dsimp only at hSw); obtain ⟨_, hSw1⟩ := hSw; go_simp; try with_reducible rfl)
    try simp only [Act.put, List.setIfInBounds_toArray, List.set_cons_zero, List.set_cons_succ]
    refine wpAnyH_take (i := 3) (oi := { dst := some 21, op := Op.fieldAddr 80 (Operand.tmp 20) 1, type := 0, pos := "extent.go:124", after := #[{ on := 2, ground := Ground.data }], guard := none }) (v := ?_) rfl (by kernel_rfl) (by kernel_rfl) (by kernel_rfl) (fun _ _ _ h => h) (Or.inl ⟨by rfl, ?_⟩) (by assumption) ?_
    rotate_left
    · (intro wz hSw; (try dsimp only at hSw); obtain ⟨_, hSw1⟩ := hSw; go_simp; try with_reducible rfl)
    try simp only [Act.put, List.setIfInBounds_toArray, List.set_cons_zero, List.set_cons_succ]
    refine wpAnyH_take (i := 4) (oi := { dst := some 22, op := Op.load 3 (Operand.tmp 21), type := 3, pos := "extent.go:124", after := #[{ on := 3, ground := Ground.data }], guard := none }) (v := ?_) rfl (by kernel_rfl) (by kernel_rfl) (by kernel_rfl) (fun _ _ _ h => h) (Or.inl ⟨by rfl, ?_⟩) (by assumption) ?_
    rotate_left
    · (intro wz hSw; (try dsimp only at hSw); obtain ⟨_, hSw1⟩ := hSw; go_simp; try with_reducible rfl)
    try simp only [Act.put, List.setIfInBounds_toArray, List.set_cons_zero, List.set_cons_succ]
    refine wpAnyH_ready (rs := [5, 6]) (by kernel_rfl) (by simp) ?_
    refine (AllReadyH.cons (o := { dst := some 23, op := Op.call { callee := Callee.value (Operand.func 58), args := #[Operand.tmp 18, Operand.tmp 22], argTypes := #[51, 3] }, type := 51, pos := "extent.go:124", after := #[{ on := 0, ground := Ground.data }, { on := 4, ground := Ground.data }], guard := none }) rfl (fun K hK => ?_) (AllReadyH.cons (o := { dst := some 6, op := Op.alloc 51, type := 0, pos := "extent.go:124", after := #[], guard := none }) rfl (fun K hK => ?_) AllReadyH.nil))
    · go_simp
      refine (HHd.out _).mono ?_
      rintro e w6 ⟨rfl, hb6⟩
      have G6 := Lib.hid (Grew.of_below (S := fun _ => False) hb6)
      have HP6 := Lib.hid (HKp.out _ _ HP4.out G6.out)
      have HS6 := Lib.hid (HS3.out.keep G6.out (fun e => e))
      clear hb6
      try go_wp2_with fail
      refine hK.out _ _ ⟨Lib.hid (HSm.out _ _ HS6.out), (HSc.out _ HP6.out).1⟩ (fun hHeld => ?_)
      clear hK K
      try simp only [Act.put, List.setIfInBounds_toArray, List.set_cons_zero, List.set_cons_succ]
      have G7 : Hid (Grew (fun _ => False) w6 (w6.alloc (.cells Z 51))) := Lib.hid ((Grew.refl _).alloc _)
      have HP7 := Lib.hid (HKp.out _ _ HP6.out G7.out)
      have HS7 := Lib.hid (HS6.out.keep G7.out (fun e => e))
      have hq7 := heap_alloc_new w6 (.cells Z 51)
      refine wpAnyH_ready (rs := [6]) (by kernel_rfl) (by simp) ?_
      refine (AllReadyH.cons (o := { dst := some 6, op := Op.alloc 51, type := 0, pos := "extent.go:124", after := #[], guard := none }) rfl (fun K hK => ?_) AllReadyH.nil)
      rw [if_pos (by kernel_rfl)]
      refine wp_alloc 51 rfl _ (HAl _) ?_
      refine hK.out _ _ ⟨Lib.hid (HSm.out _ _ HS7.out), (HSc.out _ HP7.out).1⟩ (fun hHeld => ?_)
      clear hK K
      try simp only [Act.put, List.setIfInBounds_toArray, List.set_cons_zero, List.set_cons_succ]
      have hpb := HPutB.out _ _ hq7
      have hthB := hpb.2
      have HB8 := Lib.hid hpb.1
      have G8 : Hid (Grew (fun _ => False) W4 ((w6.alloc (.cells Z 51)).setCells w6.heap.size 0 A)) := Lib.hid (G6.out.trans (((Grew.refl w6).alloc _).row _ _ _ fun e => absurd e (Nat.lt_irrefl _)))
      have HS8 := Lib.hid (HS3.out.keep G8.out (fun e => e))
      have HP8 := Lib.hid (HKp.out _ _ HP4.out G8.out)
      have hle : w.heap.size ≤ w6.heap.size := Nat.le_trans G4.out.size G6.out.size
      clear hpb hq7
      refine wpAnyH_ready (rs := [7]) (by kernel_rfl) (by simp) ?_
      refine (AllReadyH.cons (o := { dst := none, op := Op.store 51 (Operand.tmp 6) (Operand.tmp 23), type := 0, pos := "extent.go:124", after := #[{ on := 6, ground := Ground.data }, { on := 5, ground := Ground.data }, { on := 5, ground := Ground.chain }, { on := 0, ground := Ground.phase }, { on := 1, ground := Ground.phase }, { on := 2, ground := Ground.phase }, { on := 3, ground := Ground.phase }, { on := 4, ground := Ground.phase }, { on := 5, ground := Ground.phase }, { on := 6, ground := Ground.phase }], guard := none }) rfl (fun K hK => ?_) AllReadyH.nil)
      rw [if_pos (by kernel_rfl)]
      with_reducible refine wp_store_mid 51 _ _ rfl w6.heap.size 0 A.toArray rfl rfl hthB HIB2.out HOneB.out ?_
      refine hK.out _ _ ⟨Lib.hid (HSm.out _ _ HS8.out), (HSc.out _ HP8.out).1⟩ (fun hHeld => ?_)
      clear hK K
      try simp only [Act.put]
      refine wpAnyH_done (by kernel_rfl) ?_ _
      go_wp2_with fail
      go_meet
      exact ⟨_, rfl, G4.out.trans G8.out, HS8.out, HB8.out, hle⟩
    · have G6 : Hid (Grew (fun _ => False) W4 (W4.alloc (.cells Z 51))) := Lib.hid ((Grew.refl _).alloc _)
      have HP6 := Lib.hid (HKp.out _ _ HP4.out G6.out)
      have HS6 := Lib.hid (HS3.out.keep G6.out (fun e => e))
      have hq6 := heap_alloc_new W4 (.cells Z 51)
      have hlt6 : W4.heap.size < (W4.alloc (.cells Z 51)).heap.size := by simp
      rw [if_pos (by kernel_rfl)]
      refine wp_alloc 51 rfl _ (HAl _) ?_
      refine hK.out _ _ ⟨Lib.hid (HSm.out _ _ HS6.out), (HSc.out _ HP6.out).1⟩ (fun hHeld => ?_)
      clear hK K
      try simp only [Act.put, List.setIfInBounds_toArray, List.set_cons_zero, List.set_cons_succ]
      refine wpAnyH_ready (rs := [5]) (by kernel_rfl) (by simp) ?_
      refine (AllReadyH.cons (o := { dst := some 23, op := Op.call { callee := Callee.value (Operand.func 58), args := #[Operand.tmp 18, Operand.tmp 22], argTypes := #[51, 3] }, type := 51, pos := "extent.go:124", after := #[{ on := 0, ground := Ground.data }, { on := 4, ground := Ground.data }], guard := none }) rfl (fun K hK => ?_) AllReadyH.nil)
      go_simp
      refine (HHd.out _).mono ?_
      rintro e w6 ⟨rfl, hb6⟩
      have G7 := Lib.hid (Grew.of_below (S := fun _ => False) hb6)
      have HP7 := Lib.hid (HKp.out _ _ HP6.out G7.out)
      have HS7 := Lib.hid (HS6.out.keep G7.out (fun e => e))
      have hq7 : w6.heap[W4.heap.size]? = some (.cells Z 51 (0, 0)) := (G7.out.block _ hlt6 (fun e => e)).trans hq6
      clear hb6
      try go_wp2_with fail
      refine hK.out _ _ ⟨Lib.hid (HSm.out _ _ HS7.out), (HSc.out _ HP7.out).1⟩ (fun hHeld => ?_)
      clear hK K
      try simp only [Act.put, List.setIfInBounds_toArray, List.set_cons_zero, List.set_cons_succ]
      have hpb := HPutB.out _ _ hq7
      have hthB := hpb.2
      have HB8 := Lib.hid hpb.1
      have G8 : Hid (Grew (fun _ => False) W4 (w6.setCells W4.heap.size 0 A)) := Lib.hid ((G6.out.trans G7.out).row _ _ _ fun e => absurd e (Nat.lt_irrefl _))
      have HS8 := Lib.hid (HS3.out.keep G8.out (fun e => e))
      have HP8 := Lib.hid (HKp.out _ _ HP4.out G8.out)
      have hle : w.heap.size ≤ W4.heap.size := G4.out.size
      clear hpb hq7 hq6 hlt6
      refine wpAnyH_ready (rs := [7]) (by kernel_rfl) (by simp) ?_
      refine (AllReadyH.cons (o := { dst := none, op := Op.store 51 (Operand.tmp 6) (Operand.tmp 23), type := 0, pos := "extent.go:124", after := #[{ on := 6, ground := Ground.data }, { on := 5, ground := Ground.data }, { on := 5, ground := Ground.chain }, { on := 0, ground := Ground.phase }, { on := 1, ground := Ground.phase }, { on := 2, ground := Ground.phase }, { on := 3, ground := Ground.phase }, { on := 4, ground := Ground.phase }, { on := 5, ground := Ground.phase }, { on := 6, ground := Ground.phase }], guard := none }) rfl (fun K hK => ?_) AllReadyH.nil)
      rw [if_pos (by kernel_rfl)]
      with_reducible refine wp_store_mid 51 _ _ rfl W4.heap.size 0 A.toArray rfl rfl hthB HIB2.out HOneB.out ?_
      refine hK.out _ _ ⟨Lib.hid (HSm.out _ _ HS8.out), (HSc.out _ HP8.out).1⟩ (fun hHeld => ?_)
      clear hK K
      try simp only [Act.put]
      refine wpAnyH_done (by kernel_rfl) ?_ _
      go_wp2_with fail
      go_meet
      exact ⟨_, rfl, G4.out.trans G8.out, HS8.out, HB8.out, hle⟩
  case rest =>
    obtain ⟨pa, rfl, hg4, hs4, ha4, hpa⟩ := hcut
    have na : ¬ b.S0 pa := HB.far ok (by omega)
    have HP5 := Lib.hid (HKp.out _ _ HP0.out hg4)
    have HG4 : Hid (Grew (fun _ => False) w wc.drew) := Lib.hid hg4.drew
    have HS4 := Lib.hid (hs4.keep ((Grew.refl (S := fun _ => False) wc).drew) (fun e => e))
    have HB4 := Lib.hid (ha4.keep ((Grew.refl (S := fun _ => False) wc).drew) (fun e => e))
    have HP4 := Lib.hid (HKp.out _ _ HP5.out ((Grew.refl wc).drew))
    clear hg4 hs4 ha4 HP5 HP0 HS2 HP3 G3
    go_upto_region 7 with fail
    refine wp_region_held_drew (S := fun wx => Hid (wx.rangeAt pa 0 A) ∧ wx.cell? ⟨xs, 2, none⟩ = some (.map (some kb)) ∧ (Instr.lookup 78 (.map (some kb)) (.agg A.toArray) true).run Tryz.prog wx = .ok (.tuple #[.int .i64 0, .bool false]) wx) (by kernel_rfl) ⟨Lib.hid (HSmB.out _ _ HB4.out), (HSc.out _ HP4.out).2, HLk.out _ HP4.out⟩ (fun hHeld => ?_)
    refine wpAnyH_take (i := 0) (oi := { dst := some 25, op := Op.move (Operand.tmp 0), type := 28, pos := "extent.go:125", after := #[], guard := none }) (v := ?_) rfl (by kernel_rfl) (by kernel_rfl) (by kernel_rfl) (fun _ _ _ h => h) (Or.inl ⟨by rfl, ?_⟩) (by assumption) ?_
    rotate_left
    · (intro wz hSw; (try dsimp only at hSw); obtain ⟨_, hSw1, hSw2⟩ := hSw; go_simp; try with_reducible rfl)
    try simp only [Act.put, List.setIfInBounds_toArray, List.set_cons_zero, List.set_cons_succ]
    refine wpAnyH_take (i := 1) (oi := { dst := some 26, op := Op.nilCheck (Operand.tmp 25), type := 0, pos := "extent.go:125", after := #[{ on := 0, ground := Ground.data }], guard := none }) (v := ?_) rfl (by kernel_rfl) (by kernel_rfl) (by kernel_rfl) (fun _ _ _ h => h) (Or.inl ⟨by rfl, ?_⟩) (by assumption) ?_
    rotate_left
    · (intro wz hSw; (try dsimp only at hSw); obtain ⟨_, hSw1, hSw2⟩ := hSw; go_simp; try with_reducible rfl)
    try simp only [Act.put, List.setIfInBounds_toArray, List.set_cons_zero, List.set_cons_succ]
    refine wpAnyH_take (i := 2) (oi := { dst := some 27, op := Op.fieldAddr 80 (Operand.tmp 26) 2, type := 0, pos := "extent.go:125", after := #[{ on := 1, ground := Ground.data }], guard := none }) (v := ?_) rfl (by kernel_rfl) (by kernel_rfl) (by kernel_rfl) (fun _ _ _ h => h) (Or.inl ⟨by rfl, ?_⟩) (by assumption) ?_
    rotate_left
    · (intro wz hSw; (try dsimp only at hSw); obtain ⟨_, hSw1, hSw2⟩ := hSw; go_simp; try with_reducible rfl)
    try simp only [Act.put, List.setIfInBounds_toArray, List.set_cons_zero, List.set_cons_succ]
    refine wpAnyH_take (i := 3) (oi := { dst := some 28, op := Op.load 78 (Operand.tmp 27), type := 78, pos := "extent.go:125", after := #[{ on := 2, ground := Ground.data }], guard := none }) (v := ?_) rfl (by kernel_rfl) (by kernel_rfl) (by kernel_rfl) (fun _ _ _ h => h) (Or.inl ⟨by rfl, ?_⟩) (by assumption) ?_
    rotate_left
    · (intro wz hSw; (try dsimp only at hSw); obtain ⟨_, hSw1, hSw2⟩ := hSw; go_simp; try with_reducible rfl)
    try simp only [Act.put, List.setIfInBounds_toArray, List.set_cons_zero, List.set_cons_succ]
    refine wpAnyH_take (i := 4) (oi := { dst := some 29, op := Op.load 51 (Operand.tmp 6), type := 51, pos := "extent.go:125", after := #[], guard := none }) rfl (by kernel_rfl) (by kernel_rfl) (by kernel_rfl) (fun _ _ _ h => h) (yieldsIf_load_mid (by rfl) _ _ rfl pa 0 rfl A _ (fun wz hz => hz.1.out) Tryz.underlying51 rfl HIB.out) (by assumption) ?_
    try simp only [Act.put, List.setIfInBounds_toArray, List.set_cons_zero, List.set_cons_succ]
    refine wpAnyH_take (i := 5) (oi := { dst := some 30, op := Op.lookup 78 (Operand.tmp 28) (Operand.tmp 29) true, type := 84, pos := "extent.go:125", after := #[{ on := 3, ground := Ground.data }, { on := 4, ground := Ground.data }], guard := none }) (v := ?_) rfl (by kernel_rfl) (by kernel_rfl) (by kernel_rfl) (fun _ _ _ h => h) (Or.inl ⟨by rfl, ?_⟩) (by assumption) ?_
    rotate_left
    · (intro wz hSw; (try dsimp only at hSw); obtain ⟨_, hSw1, hSw2⟩ := hSw; go_simp; try with_reducible rfl)
    try simp only [Act.put, List.setIfInBounds_toArray, List.set_cons_zero, List.set_cons_succ]
    refine wpAnyH_take (i := 6) (oi := { dst := some 24, op := Op.move (Operand.tmp 30), type := 84, pos := "extent.go:125", after := #[{ on := 5, ground := Ground.data }], guard := none }) (v := ?_) rfl (by kernel_rfl) (by kernel_rfl) (by kernel_rfl) (fun _ _ _ h => h) (Or.inl ⟨by rfl, ?_⟩) (by assumption) ?_
    rotate_left
    · (intro wz hSw; (try dsimp only at hSw); obtain ⟨_, hSw1, hSw2⟩ := hSw; go_simp; try with_reducible rfl)
    try simp only [Act.put, List.setIfInBounds_toArray, List.set_cons_zero, List.set_cons_succ]
    refine wpAnyH_take (i := 7) (oi := { dst := some 31, op := Op.extract (Operand.tmp 24) 0, type := 3, pos := "extent.go:125", after := #[{ on := 6, ground := Ground.data }], guard := none }) (v := ?_) rfl (by kernel_rfl) (by kernel_rfl) (by kernel_rfl) (fun _ _ _ h => h) (Or.inl ⟨by rfl, ?_⟩) (by assumption) ?_
    rotate_left
    · (intro wz hSw; (try dsimp only at hSw); obtain ⟨_, hSw1, hSw2⟩ := hSw; go_simp; try with_reducible rfl)
    try simp only [Act.put, List.setIfInBounds_toArray, List.set_cons_zero, List.set_cons_succ]
    refine wpAnyH_take (i := 8) (oi := { dst := some 32, op := Op.extract (Operand.tmp 24) 1, type := 4, pos := "extent.go:125", after := #[{ on := 6, ground := Ground.data }, { on := 9, ground := Ground.gcOnly Departure.lateStores }], guard := none }) (v := ?_) rfl (by kernel_rfl) (by kernel_rfl) (by kernel_rfl) (fun _ _ _ h => h) (Or.inl ⟨by rfl, ?_⟩) (by assumption) ?_
    rotate_left
    · (intro wz hSw; (try dsimp only at hSw); obtain ⟨_, hSw1, hSw2⟩ := hSw; go_simp; try with_reducible rfl)
    try simp only [Act.put, List.setIfInBounds_toArray, List.set_cons_zero, List.set_cons_succ]
    refine wpAnyH_take (i := 9) (oi := { dst := some 7, op := Op.assign (Operand.tmp 31), type := 3, pos := "extent.go:125", after := #[{ on := 7, ground := Ground.data }, { on := 0, ground := Ground.phase }, { on := 1, ground := Ground.phase }, { on := 2, ground := Ground.phase }, { on := 3, ground := Ground.phase }, { on := 4, ground := Ground.phase }, { on := 5, ground := Ground.phase }, { on := 6, ground := Ground.phase }, { on := 7, ground := Ground.phase }, { on := 8, ground := Ground.textOnly Departure.lateStores }], guard := none }) (v := ?_) rfl (by kernel_rfl) (by kernel_rfl) (by kernel_rfl) (fun _ _ _ h => h) (Or.inl ⟨by rfl, ?_⟩) (by assumption) ?_
    rotate_left
    · (intro wz hSw; (try dsimp only at hSw); obtain ⟨_, hSw1, hSw2⟩ := hSw; go_simp; try with_reducible rfl)
    try simp only [Act.put, List.setIfInBounds_toArray, List.set_cons_zero, List.set_cons_succ]
    refine wpAnyH_take (i := 10) (oi := { dst := some 8, op := Op.assign (Operand.tmp 32), type := 4, pos := "extent.go:125", after := #[{ on := 8, ground := Ground.data }, { on := 9, ground := Ground.chain }, { on := 0, ground := Ground.phase }, { on := 1, ground := Ground.phase }, { on := 2, ground := Ground.phase }, { on := 3, ground := Ground.phase }, { on := 4, ground := Ground.phase }, { on := 5, ground := Ground.phase }, { on := 6, ground := Ground.phase }, { on := 7, ground := Ground.phase }, { on := 8, ground := Ground.phase }, { on := 9, ground := Ground.phase }], guard := none }) (v := ?_) rfl (by kernel_rfl) (by kernel_rfl) (by kernel_rfl) (fun _ _ _ h => h) (Or.inl ⟨by rfl, ?_⟩) (by assumption) ?_
    rotate_left
    · (intro wz hSw; (try dsimp only at hSw); obtain ⟨_, hSw1, hSw2⟩ := hSw; go_simp; try with_reducible rfl)
    try simp only [Act.put, List.setIfInBounds_toArray, List.set_cons_zero, List.set_cons_succ]
    refine wpAnyH_done (by kernel_rfl) ?_ _
    generalize hW4 : wc.drew = W4 at *
    have hrS := HSm.out _ _ HS4.out
    clear hW4
    go_wp2_with (with_reducible refine wpList_load_mid rfl 51 _ rfl p5 0 rfl X _ hrS Tryz.underlying51 rfl HIA.out ?_)
    have hwr := HWr.out _ HP4.out
    rw [HX.out] at hwr
    refine hwr.mono ?_
    rintro e w9 ⟨v, rfl, hend, hg9⟩
    have HM9 := PtMid.of HP4.out HB4.out nx nk na hend hg9
    have HMd : Hid (PtMid b s dp f0 n xs kb q F L D f pa fa v W4 w9.drew) := Lib.hid (HM9.drewG nx)
    have HG5 : Hid (Grew (fun q => Mut b.B b.S0 w q ∨ q = kb) w W4) := Lib.hid (HG4.out.mono fun _ _ e => e.elim)
    have HPk2 := Lib.hid fun W hm => HPk.out v pa W4 W na HG5.out hm
    rw [HA.out] at HPk2
    have HM := HMd
    clear hwr hend hg9 HM9 HMd HP4 HB4 HS4 hrS HWr HG4 HG5
    go_upto_region 10 with fail
    refine wp_region_held_drew (S := fun wx => Hid (wx.rangeAt pa 0 A) ∧ wx.cell? ⟨xs, 0, none⟩ = some (.pointer (some ⟨b.hb, 0, none⟩)) ∧ wx.cell? ⟨b.hb, 1, none⟩ = some (.pointer (some ⟨b.g, 0, none⟩)) ∧ wx.cell? ⟨xs, 2, none⟩ = some (.map (some kb))) (by kernel_rfl) ⟨Lib.hid (HSmB.out _ _ HM.out.ad), HM.out.st.cell.1, HM.out.hc, HM.out.st.cell.2.2⟩ (fun hHeld => ?_)
    refine wpAnyH_take (i := 0) (oi := { dst := some 39, op := Op.move (Operand.tmp 0), type := 28, pos := "extent.go:128", after := #[], guard := none }) (v := ?_) rfl (by kernel_rfl) (by kernel_rfl) (by kernel_rfl) (fun _ _ _ h => h) (Or.inl ⟨by rfl, ?_⟩) (by assumption) ?_
    rotate_left
    · (intro wz hSw; (try dsimp only at hSw); obtain ⟨_, hSw1, hSw2, hSw3⟩ := hSw; go_simp; try with_reducible rfl)
    try simp only [Act.put, List.setIfInBounds_toArray, List.set_cons_zero, List.set_cons_succ]
    refine wpAnyH_take (i := 1) (oi := { dst := some 40, op := Op.nilCheck (Operand.tmp 39), type := 0, pos := "extent.go:128", after := #[{ on := 0, ground := Ground.data }], guard := none }) (v := ?_) rfl (by kernel_rfl) (by kernel_rfl) (by kernel_rfl) (fun _ _ _ h => h) (Or.inl ⟨by rfl, ?_⟩) (by assumption) ?_
    rotate_left
    · (intro wz hSw; (try dsimp only at hSw); obtain ⟨_, hSw1, hSw2, hSw3⟩ := hSw; go_simp; try with_reducible rfl)
    try simp only [Act.put, List.setIfInBounds_toArray, List.set_cons_zero, List.set_cons_succ]
    refine wpAnyH_take (i := 2) (oi := { dst := some 41, op := Op.fieldAddr 80 (Operand.tmp 40) 0, type := 0, pos := "extent.go:128", after := #[{ on := 1, ground := Ground.data }], guard := none }) (v := ?_) rfl (by kernel_rfl) (by kernel_rfl) (by kernel_rfl) (fun _ _ _ h => h) (Or.inl ⟨by rfl, ?_⟩) (by assumption) ?_
    rotate_left
    · (intro wz hSw; (try dsimp only at hSw); obtain ⟨_, hSw1, hSw2, hSw3⟩ := hSw; go_simp; try with_reducible rfl)
    try simp only [Act.put, List.setIfInBounds_toArray, List.set_cons_zero, List.set_cons_succ]
    refine wpAnyH_take (i := 3) (oi := { dst := some 42, op := Op.load 24 (Operand.tmp 41), type := 24, pos := "extent.go:128", after := #[{ on := 2, ground := Ground.data }], guard := none }) (v := ?_) rfl (by kernel_rfl) (by kernel_rfl) (by kernel_rfl) (fun _ _ _ h => h) (Or.inl ⟨by rfl, ?_⟩) (by assumption) ?_
    rotate_left
    · (intro wz hSw; (try dsimp only at hSw); obtain ⟨_, hSw1, hSw2, hSw3⟩ := hSw; go_simp; try with_reducible rfl)
    try simp only [Act.put, List.setIfInBounds_toArray, List.set_cons_zero, List.set_cons_succ]
    refine wpAnyH_take (i := 4) (oi := { dst := some 43, op := Op.nilCheck (Operand.tmp 42), type := 0, pos := "extent.go:128", after := #[{ on := 3, ground := Ground.data }], guard := none }) (v := ?_) rfl (by kernel_rfl) (by kernel_rfl) (by kernel_rfl) (fun _ _ _ h => h) (Or.inl ⟨by rfl, ?_⟩) (by assumption) ?_
    rotate_left
    · (intro wz hSw; (try dsimp only at hSw); obtain ⟨_, hSw1, hSw2, hSw3⟩ := hSw; go_simp; try with_reducible rfl)
    try simp only [Act.put, List.setIfInBounds_toArray, List.set_cons_zero, List.set_cons_succ]
    refine wpAnyH_take (i := 5) (oi := { dst := some 44, op := Op.fieldAddr 74 (Operand.tmp 43) 1, type := 0, pos := "extent.go:128", after := #[{ on := 4, ground := Ground.data }], guard := none }) (v := ?_) rfl (by kernel_rfl) (by kernel_rfl) (by kernel_rfl) (fun _ _ _ h => h) (Or.inl ⟨by rfl, ?_⟩) (by assumption) ?_
    rotate_left
    · (intro wz hSw; (try dsimp only at hSw); obtain ⟨_, hSw1, hSw2, hSw3⟩ := hSw; go_simp; try with_reducible rfl)
    try simp only [Act.put, List.setIfInBounds_toArray, List.set_cons_zero, List.set_cons_succ]
    refine wpAnyH_take (i := 6) (oi := { dst := some 45, op := Op.load 65 (Operand.tmp 44), type := 65, pos := "extent.go:128", after := #[{ on := 5, ground := Ground.data }], guard := none }) (v := ?_) rfl (by kernel_rfl) (by kernel_rfl) (by kernel_rfl) (fun _ _ _ h => h) (Or.inl ⟨by rfl, ?_⟩) (by assumption) ?_
    rotate_left
    · (intro wz hSw; (try dsimp only at hSw); obtain ⟨_, hSw1, hSw2, hSw3⟩ := hSw; go_simp; try with_reducible rfl)
    try simp only [Act.put, List.setIfInBounds_toArray, List.set_cons_zero, List.set_cons_succ]
    refine wpAnyH_take (i := 7) (oi := { dst := some 46, op := Op.move (Operand.tmp 0), type := 28, pos := "extent.go:128", after := #[], guard := none }) (v := ?_) rfl (by kernel_rfl) (by kernel_rfl) (by kernel_rfl) (fun _ _ _ h => h) (Or.inl ⟨by rfl, ?_⟩) (by assumption) ?_
    rotate_left
    · (intro wz hSw; (try dsimp only at hSw); obtain ⟨_, hSw1, hSw2, hSw3⟩ := hSw; go_simp; try with_reducible rfl)
    try simp only [Act.put, List.setIfInBounds_toArray, List.set_cons_zero, List.set_cons_succ]
    refine wpAnyH_take (i := 8) (oi := { dst := some 47, op := Op.nilCheck (Operand.tmp 46), type := 0, pos := "extent.go:128", after := #[{ on := 7, ground := Ground.data }], guard := none }) (v := ?_) rfl (by kernel_rfl) (by kernel_rfl) (by kernel_rfl) (fun _ _ _ h => h) (Or.inl ⟨by rfl, ?_⟩) (by assumption) ?_
    rotate_left
    · (intro wz hSw; (try dsimp only at hSw); obtain ⟨_, hSw1, hSw2, hSw3⟩ := hSw; go_simp; try with_reducible rfl)
    try simp only [Act.put, List.setIfInBounds_toArray, List.set_cons_zero, List.set_cons_succ]
    refine wpAnyH_take (i := 9) (oi := { dst := some 48, op := Op.fieldAddr 80 (Operand.tmp 47) 2, type := 0, pos := "extent.go:128", after := #[{ on := 8, ground := Ground.data }], guard := none }) (v := ?_) rfl (by kernel_rfl) (by kernel_rfl) (by kernel_rfl) (fun _ _ _ h => h) (Or.inl ⟨by rfl, ?_⟩) (by assumption) ?_
    rotate_left
    · (intro wz hSw; (try dsimp only at hSw); obtain ⟨_, hSw1, hSw2, hSw3⟩ := hSw; go_simp; try with_reducible rfl)
    try simp only [Act.put, List.setIfInBounds_toArray, List.set_cons_zero, List.set_cons_succ]
    refine wpAnyH_take (i := 10) (oi := { dst := some 49, op := Op.load 78 (Operand.tmp 48), type := 78, pos := "extent.go:128", after := #[{ on := 9, ground := Ground.data }], guard := none }) (v := ?_) rfl (by kernel_rfl) (by kernel_rfl) (by kernel_rfl) (fun _ _ _ h => h) (Or.inl ⟨by rfl, ?_⟩) (by assumption) ?_
    rotate_left
    · (intro wz hSw; (try dsimp only at hSw); obtain ⟨_, hSw1, hSw2, hSw3⟩ := hSw; go_simp; try with_reducible rfl)
    try simp only [Act.put, List.setIfInBounds_toArray, List.set_cons_zero, List.set_cons_succ]
    refine wpAnyH_take (i := 11) (oi := { dst := some 50, op := Op.load 51 (Operand.tmp 6), type := 51, pos := "extent.go:128", after := #[], guard := none }) rfl (by kernel_rfl) (by kernel_rfl) (by kernel_rfl) (fun _ _ _ h => h) (yieldsIf_load_mid (by rfl) _ _ rfl pa 0 rfl A _ (fun wz hz => hz.1.out) Tryz.underlying51 rfl HIB.out) (by assumption) ?_
    try simp only [Act.put, List.setIfInBounds_toArray, List.set_cons_zero, List.set_cons_succ]
    refine wpAnyH_take (i := 12) (oi := { dst := some 51, op := Op.move (Operand.tmp 7), type := 3, pos := "extent.go:128", after := #[], guard := none }) (v := ?_) rfl (by kernel_rfl) (by kernel_rfl) (by kernel_rfl) (fun _ _ _ h => h) (Or.inl ⟨by rfl, ?_⟩) (by assumption) ?_
    rotate_left
    · (intro wz hSw; (try dsimp only at hSw); obtain ⟨_, hSw1, hSw2, hSw3⟩ := hSw; go_simp; try with_reducible rfl)
    try simp only [Act.put, List.setIfInBounds_toArray, List.set_cons_zero, List.set_cons_succ]
    refine wpAnyH_ready (rs := [13]) (by kernel_rfl) (by simp) ?_
    refine (AllReadyH.cons (o := { dst := some 52, op := Op.call { callee := Callee.value (Operand.func 60), args := #[Operand.tmp 45, Operand.tmp 49, Operand.tmp 50, Operand.tmp 51], argTypes := #[65, 78, 51, 3] }, type := 0, pos := "extent.go:128", after := #[{ on := 6, ground := Ground.data }, { on := 10, ground := Ground.data }, { on := 11, ground := Ground.data }, { on := 12, ground := Ground.data }], guard := none }) rfl (fun K hK => ?_) AllReadyH.nil)
    go_simp
    refine (HPk2.out _ HM.out).mono ?_
    rintro e w10 ⟨rfl, hend, had, hc1⟩
    have HE := Lib.hid hend
    have HAd := Lib.hid had
    have HC1 := Lib.hid hc1
    clear hend had hc1
    try go_wp2_with fail
    refine hK.out _ _ ⟨Lib.hid (HSmB.out _ _ HAd.out), HE.out.st.cell.1, HC1.out, HE.out.st.cell.2.2⟩ (fun hHeld => ?_)
    clear hK K
    try simp only [Act.put, List.setIfInBounds_toArray, List.set_cons_zero, List.set_cons_succ]
    refine wpAnyH_done (by kernel_rfl) ?_ _
    go_wp2_with fail
    go_ret
    exact ⟨v, rfl, HE.out⟩
end Go.Proofs.YtbohpffigmllkaaGreatDoor
