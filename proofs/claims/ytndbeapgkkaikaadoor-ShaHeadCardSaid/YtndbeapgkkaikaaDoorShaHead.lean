/-
  ShaHead: for every text's first 32 bytes as a sum and every number of bits, the law answers true.
-/
import Derived.Test.YtndbeapgkkaikaaDoorShaRefHead
namespace Go.Proofs.YtndbeapgkkaikaaDoor
open Go.RowKit

theorem headF_lt {f : Nat → Nat} (hf : ∀ j, f j < 256) (N j : Nat) : headF f N j < 256 := by
  unfold headF
  split
  · exact hf j
  · split
    · exact Nat.lt_of_le_of_lt Nat.and_le_left (hf j)
    · decide
theorem headF_twice (f : Nat → Nat) (N j : Nat) : headF (headF f N) N j = headF f N j := by
  unfold headF
  by_cases h1 : j < N / 8
  · simp only [if_pos h1]
  · by_cases h2 : j = N / 8 ∧ 0 < N % 8
    · simp only [if_neg h1, if_pos h2, Nat.and_assoc, Nat.and_self]
    · simp only [if_neg h1, if_neg h2]
theorem arr_congr {f g : Nat → Nat} (h : ∀ j, j < 32 → f j = g j) : arr f = arr g := by
  unfold arr
  exact List.map_congr_left fun j hj => by rw [h j (by simpa using hj)]
theorem head_all (f : Nat → Nat) : arr (headF f (clamp 256)) = arr f :=
  arr_congr fun j hj => by
    have e : clamp 256 = 256 := rfl
    unfold headF
    rw [e, if_pos (by omega)]
theorem txt_congr {f g : Nat → Nat} (h : ∀ j, j < 32 → f j = g j) : txt f = txt g := by
  unfold txt
  exact List.map_congr_left fun j hj => by rw [h j (by simpa using hj)]
theorem ref_same (f : Nat → Nat) (hf : ∀ j, f j < 256) (n : Int) : headBytes ⟨(txt f).toArray⟩ n 32 = txt (headF f (clamp n)) := by
  unfold headBytes txt
  refine List.map_congr_left fun j hj => ?_
  have hj' : j < 32 := by simpa using hj
  rw [head_same f hf n j hj']
  congr 2
  show ((List.map (fun j => UInt8.ofNat (f j)) (List.range 32)).getD j 0).toNat = f j
  rw [List.getD_eq_getElem?_getD, List.getElem?_map, List.getElem?_range hj']
  show (UInt8.ofNat (f j)).toNat = f j
  rw [UInt8.toNat_ofNat', Nat.mod_eq_of_lt (hf j)]
/-- the first k bytes of a text, noughts behind -/
def xf (s : ByteArray) (k j : Nat) : Nat := if j < k then (s.data.toList.getD j 0).toNat else 0
theorem xf_lt (s : ByteArray) (k j : Nat) : xf s k j < 256 := by
  unfold xf
  split
  · exact UInt8.toNat_lt _
  · decide
structure HeadS (X Y : Nat) (L : List Value) (w wx : World) : Prop where
  at' : At w wx
  rx : wx.rangeAt X 0 L
  ry : wx.rangeAt Y 0 L
  x1 : X < wx.heap.size
  y1 : Y < wx.heap.size
theorem range_below {X : Nat} {L : List Value} {w w' : World} (h : w.rangeAt X 0 L) (hx : X < w.heap.size) (k : Below w.heap.size w w') : w'.rangeAt X 0 L := fun j v hv => by
  rw [k.cell (p := ⟨X, 0 + j, none⟩) hx]
  exact h j v hv
theorem HeadS.next {X Y : Nat} {L : List Value} {w wx wy : World} (h : HeadS X Y L w wx) (k : Below wx.heap.size wx wy) : HeadS X Y L w wy :=
  ⟨h.at'.next k, range_below h.rx h.x1 k, range_below h.ry h.y1 k, Nat.lt_of_lt_of_le h.x1 k.size, Nat.lt_of_lt_of_le h.y1 k.size⟩
theorem HeadS.drew {X Y : Nat} {L : List Value} {w wx : World} (h : HeadS X Y L w wx) : HeadS X Y L w wx.drew := h.next (Below.refl _ _).drew
theorem HeadS.all {X Y : Nat} {L : List Value} {w wx : World} (h : HeadS X Y L w wx) : wx.rangeAt X 0 L ∧ wx.rangeAt Y 0 L ∧ HeadS X Y L w wx := ⟨h.rx, h.ry, h⟩
theorem all_next {X Y : Nat} {L : List Value} {w wx wy : World} (h : wx.rangeAt X 0 L ∧ wx.rangeAt Y 0 L ∧ HeadS X Y L w wx) (k : Below wx.heap.size wx wy) : wy.rangeAt X 0 L ∧ wy.rangeAt Y 0 L ∧ HeadS X Y L w wy := (h.2.2.next k).all
theorem all_drew {X Y : Nat} {L : List Value} {w wx : World} (h : wx.rangeAt X 0 L ∧ wx.rangeAt Y 0 L ∧ HeadS X Y L w wx) : wx.drew.rangeAt X 0 L ∧ wx.drew.rangeAt Y 0 L ∧ HeadS X Y L w wx.drew := h.2.2.drew.all
theorem all_laid {X Y : Nat} {L : List Value} {w wx : World} (h : wx.rangeAt X 0 L ∧ wx.rangeAt Y 0 L ∧ HeadS X Y L w wx) : Laid KK SS wx := h.2.2.at'.laid
theorem all_below {X Y : Nat} {L : List Value} {w wx : World} (h : wx.rangeAt X 0 L ∧ wx.rangeAt Y 0 L ∧ HeadS X Y L w wx) : Below w.heap.size w wx := h.2.2.at'.below
theorem val_eql (f : Nat → Nat) : ∀ w : World, (binOp .eql 24 (.agg (arr f).toArray) (.agg (arr f).toArray)).run Tryd.prog w = .ok (.bool true) w := fun w => by
  have hi : ∃ i, Tryd.prog.info? 5 = some i := info_of_underlying Tryd.underlying5
  obtain ⟨i, hi⟩ := hi
  have c : Tryd.prog.cellsOf 5 = 1 := by kernel_rfl
  have z := items_run 9998 f f (arr f).toArray (arr f).toArray w (List.range 32) (fun j hj => by rw [List.getElem?_toArray]; exact arr_at f j (by simpa using hj)) (fun j hj => by rw [List.getElem?_toArray]; exact arr_at f j (by simpa using hj))
  rw [run_eql_struct, run_equalIn_array (P := Tryd.prog) w 9999 (e := 5) (n := 32) (i := i) _ _ Tryd.underlying24 hi, c, z]
  simp
theorem val_guard (f : Nat → Nat) : ∀ (x y : Operand) (w : World), (eqGuard .eql 24 x y (.agg (arr f).toArray) (.agg (arr f).toArray)).run Tryd.prog w = .ok () w := fun x y w =>
  run_eqGuard_agg (P := Tryd.prog) w .eql 24 x y _ _ (by kernel_rfl)

theorem x_step {X k : Nat} {s : ByteArray} {w : World} (h : Cells X 32 (fun j => .int .u8 (xf s k j : Nat)) w) (hk : k < 32) (hs : k < s.size) : Cells X 32 (fun j => .int .u8 (xf s (k + 1) j : Nat)) (w.setCell ⟨X, k, none⟩ (.int .u8 ((s[k]).toNat : Int))) := by
  refine h.set k _ hk ?_ fun j _ hj => ?_
  · unfold xf
    rw [if_pos (by omega), List.getD_eq_getElem?_getD, List.getElem?_eq_getElem (by simpa using hs)]
    rfl
  · unfold xf
    by_cases hl : j < k
    · rw [if_pos hl, if_pos (by omega)]
    · rw [if_neg hl, if_neg (by omega)]
theorem bnd_i64 {n : Int} (h : (Lit.int .i64 n).wf = true) : -9223372036854775808 ≤ n ∧ n ≤ 9223372036854775807 := by
  simp [Lit.wf, IntKind.min, IntKind.max, IntKind.signed, IntKind.bits] at h
  omega
theorem alloc_sum (w : World) : (Instr.alloc 24 true (.tuple #[])).run Tryd.prog w = .ok (.pointer (some ⟨w.heap.size, 0, none⟩)) (w.alloc (.cells lit32 24)) := by kernel_rfl
theorem at_set {w wx : World} {k : Nat} {v : Value} (hL : Laid KK SS w) (h : At w wx) : At w (wx.setCell ⟨w.heap.size, k, none⟩ v) := by
  have hb := h.below.setCell (p := ⟨w.heap.size, k, none⟩) (Nat.le_refl _) v
  exact ⟨hL.below hb, hb⟩
theorem at_row {w wx : World} {c o : Nat} (l : List Value) (hL : Laid KK SS w) (h : At w wx) (hc : w.heap.size ≤ c) : At w (wx.setCells c o l) := by
  have hb := below_row h.below (c := c) (o := o) l hc
  exact ⟨hL.below hb, hb⟩
theorem heads_start {f : Nat → Nat} {w wx : World} {L : List Value} (hL : Laid KK SS w) (h : At w wx) (hc : Cells w.heap.size 32 (fun j => .int .u8 (f j : Nat)) wx) (e : arr f = L) : HeadS w.heap.size wx.heap.size L w ((wx.alloc (.cells lit32 24)).setCells wx.heap.size 0 L) := by
  have hlen : L.length = 32 := by rw [← e]; exact arr_len _
  have hne : w.heap.size ≠ wx.heap.size := Nat.ne_of_lt hc.1
  have hn := Cells.new wx 32 _ 24 _ lit32_at
  have hr : (wx.alloc (.cells lit32 24)).there wx.heap.size 0 L.length := hn.there 0 _ (by omega)
  have hx : Cells w.heap.size 32 (fun j => .int .u8 (f j : Nat)) ((wx.alloc (.cells lit32 24)).setCells wx.heap.size 0 L) := (hc.alloc _).farRow _ hne
  refine ⟨at_row L hL (h.alloc _) h.below.size, row_range32 hx e, World.rangeAt_setCells_same _ _ _ _ hr, hx.1, ?_⟩
  have z := (below_row (Below.refl wx.heap.size (wx.alloc (.cells lit32 24))) (c := wx.heap.size) (o := 0) L (Nat.le_refl _)).size
  rw [World.size_alloc] at z
  omega

set_option maxRecDepth 100000 in
set_option maxHeartbeats 4000000 in
theorem shaHead_walk (a0 : ByteArray) (a1 : Int) (w0 : a0.size ≤ maxLen) (w1 : (Lit.int .i64 a1).wf = true) (w : World) (hL : Laid KK SS w) :
    Calls Tryd.prog 5 #[.string a0, .int .i64 a1] w fun e w' => e = .returned (.bool true) ∧ Below w.heap.size w w' := by
  have HL := Lib.hid hL
  clear hL
  unfold maxLen at w0
  go_enter Tryd.func5, Tryd.ntmps5
  go_upto_region 1 with fail
  go_cut [5] (fun p wx => p = .pointer (some ⟨w.heap.size, 0, none⟩) ∧ Cells w.heap.size 32 (fun j => .int .u8 (xf a0 0 j : Nat)) wx ∧ At w wx)
  case first =>
    go_wp2_with fail
    go_meet
    exact ⟨rfl, (Cells.new w 32 _ _ _ lit32_at).congr (fun j _ => by unfold xf; rw [if_neg (by omega)]; rfl), (At.start HL.out).alloc _⟩
  case rest =>
    obtain ⟨rfl, hC, hA⟩ := hcut
    go_wp2_with fail
    go_loopw [6] (fun i wx => ∃ k : Nat, k ≤ 32 ∧ k ≤ a0.size ∧ i = .int .i64 k ∧ Cells w.heap.size 32 (fun j => .int .u8 (xf a0 k j : Nat)) wx ∧ At w wx) (fun i _ => 32 - (intOf i).toNat)
    case atStart => exact ⟨0, by omega, by omega, rfl, hC, hA⟩
    case round =>
      clear hC hA
      obtain ⟨k, hk, hk2, rfl, hC, hA⟩ := hrel
      have HC := Lib.hid hC
      have HA := Lib.hid hA
      clear hA
      by_cases hgo : k < 32 ∧ k < a0.size
      · obtain ⟨h32, hsz⟩ := hgo
        have co : wr.cell? ⟨w.heap.size, k, none⟩ = some (.int .u8 (xf a0 k k : Nat)) := (hC.2 k h32).1
        have fo := (hC.2 k h32).2
        obtain ⟨old, hold⟩ : ∃ x, xf a0 k k = x := ⟨_, rfl⟩
        rw [hold] at co
        have i1 : (k : Int) < 32 := by omega
        have HX := Lib.hid (x_step hC h32 hsz)
        clear hC hold
        go_wp2
        go_roundw
        case rel => exact ⟨k + 1, by omega, by omega, by go_num, HX.out, at_set HL.out HA.out⟩
        case measure => simp [intOf]; omega
      · rcases (show (k < a0.size ∧ 32 ≤ k) ∨ a0.size ≤ k by omega) with ⟨q1, q2⟩ | q1
        all_goals
          have hf := xf_lt a0 k
          generalize xf a0 k = f at hC hf
          obtain ⟨L, hLe⟩ : ∃ L, arr f = L := ⟨_, rfl⟩
          have HSt := Lib.hid (heads_start HL.out HA.out hC hLe)
          have HRa := Lib.hid (row_range32 hC hLe)
          have hrb : (wr.alloc (.cells lit32 24)).rangeAt w.heap.size 0 L := World.rangeAt_alloc (row_range32 hC hLe) _
          have HRb := Lib.hid hrb
          clear hrb
          have hlenL : L.length = 32 := by rw [← hLe]; exact arr_len _
          have HO : Hid (L.toArray.all (·.oneCell') = true) := Lib.hid (by rw [← hLe]; exact arr_one _)
          have HI2 : Hid ((Tryd.prog.info? 24).map (·.size) = some L.length) := Lib.hid (by rw [hlenL]; kernel_rfl)
          have HI3 : Hid ((Tryd.prog.info? 24).map (·.size) = some L.toArray.size) := Lib.hid (by rw [List.size_toArray, hlenL]; kernel_rfl)
          have HTh : Hid ((wr.alloc (.cells lit32 24)).there wr.heap.size 0 L.toArray.size) := Lib.hid ((Cells.new wr 32 _ 24 _ lit32_at).there 0 _ (by simp [hlenL]))
          have HLe := Lib.hid hLe
          have HF := Lib.hid hf
          clear hC hLe hlenL hf
          go_upto_region 6 with fail
          go_cut [7] (fun p wx => p = .pointer (some ⟨wr.heap.size, 0, none⟩) ∧ HeadS w.heap.size wr.heap.size L w wx)
          case first =>
            go_wp2_with (first
              | (with_reducible refine wpList_load_mid rfl 24 _ rfl w.heap.size 0 rfl L _ HRa.out Tryd.underlying24 rfl HI2.out ?_)
              | (with_reducible refine wpList_load_mid rfl 24 _ rfl w.heap.size 0 rfl L _ HRb.out Tryd.underlying24 rfl HI2.out ?_)
              | (with_reducible refine wpList_alloc rfl 24 rfl _ (alloc_sum _) ?_)
              | ((with_reducible refine wpList_store_mid rfl 24 _ _ rfl wr.heap.size 0 L.toArray rfl rfl ?_ HI3.out HO.out ?_); (focus exact HTh.out)))
            go_meet
            exact ⟨rfl, HSt.out⟩
          case rest =>
            obtain ⟨rfl, hS⟩ := hcut
            have hi2 := HI2.out
            have hu := Tryd.underlying24
            obtain ⟨m1, m2⟩ := bnd_i64 w1
            have eL := HLe.out
            have c1 := head_any f HF.out a1 w1
            have c2 := head_any f HF.out 256 (by decide)
            have c3 := head_any (headF f (clamp a1)) (headF_lt HF.out _) a1 w1
            have c4 := text_any f HF.out
            have c5 := text_any (headF f (clamp a1)) (headF_lt HF.out _)
            have c6 := refHead_any ⟨(txt f).toArray⟩ a1 (by show ((List.range 32).map _).toArray.size ≤ 1000; simp) m1 m2
            have e7 : (⟨(txt f).toArray⟩ : ByteArray).size = 32 := by show ((List.range 32).map _).toArray.size = 32; simp
            rw [e7, ref_same f HF.out a1] at c6
            have e8 : arr (headF (headF f (clamp a1)) (clamp a1)) = arr (headF f (clamp a1)) := arr_congr fun j _ => headF_twice f _ j
            rw [e8] at c3
            rw [head_all] at c2
            have g1 := val_eql f
            have g2 := val_guard f
            have g3 := val_eql (headF f (clamp a1))
            have g4 := val_guard (headF f (clamp a1))
            rw [eL] at c1 c2 c4 g1 g2
            generalize arr (headF f (clamp a1)) = LH at c1 c3 c5 g3 g4
            generalize (⟨(txt f).toArray⟩ : ByteArray) = TX at c4 c6
            generalize (⟨(txt (headF f (clamp a1))).toArray⟩ : ByteArray) = T at c5 c6
            have C1 := Lib.hid c1
            have C2 := Lib.hid c2
            have C3 := Lib.hid c3
            have C4 := Lib.hid c4
            have C5 := Lib.hid c5
            have C6 := Lib.hid c6
            clear c1 c2 c3 c4 c5 c6 eL e7 e8 HLe HF HC HA HSt HRa HRb HO HI2 HI3 HTh
            go_wp2_with fail
            refine wp_region_held_drew (S := HeadS w.heap.size wr.heap.size L w) (by kernel_rfl) (HeadS.drew hS) (fun hHeld => ?_)
            refine wpAnyH_ready (rs := [0]) (by kernel_rfl) (by simp) ?_
            refine AllReadyH.cons (o := { dst := some 24, op := Op.call { callee := Callee.value (Operand.func 9), args := #[], argTypes := #[] }, type := 4, pos := "law.go:44", after := #[], guard := none }) rfl (fun K hK => ?_) AllReadyH.nil
            go_simp
            refine (awake_any _ (HeadS.at' (by assumption)).laid).mono ?_
            rintro e w' ⟨rfl, hb⟩
            try go_wp2_with fail
            refine hK.out _ _ (HeadS.next (by assumption) hb) (fun hHeld => ?_)
            clear hK K
            try simp only [Act.put, List.setIfInBounds_toArray, List.set_cons_zero, List.set_cons_succ]
            refine wpAnyH_take (i := 1) (oi := { dst := some 25, op := Op.move (Operand.tmp 24), type := 4, pos := "law.go:44", after := #[{ on := 0, ground := Ground.data }, { on := 0, ground := Ground.chain }], guard := none }) (v := ?_) rfl (by kernel_rfl) (by kernel_rfl) (by kernel_rfl) (fun _ _ _ h => h) (Or.inl ⟨by rfl, ?_⟩) (by assumption) ?_
            rotate_left
            · (intro wz hSw; go_simp; try with_reducible rfl)
            try simp only [Act.put, List.setIfInBounds_toArray, List.set_cons_zero, List.set_cons_succ]
            refine wpAnyH_take (i := 2) (oi := { dst := some 26, op := Op.load 24 (Operand.tmp 5), type := 24, pos := "law.go:44", after := #[{ on := 1, ground := Ground.guard }], guard := some (1, true) }) rfl (by kernel_rfl) (by kernel_rfl) (by kernel_rfl) (fun _ _ _ h => h) (yieldsIf_load_mid (by rfl) _ _ rfl w.heap.size 0 rfl L _ (fun wz h => h.rx) hu rfl hi2) (by assumption) ?_
            try simp only [Act.put, List.setIfInBounds_toArray, List.set_cons_zero, List.set_cons_succ]
            refine wpAnyH_take (i := 3) (oi := { dst := some 27, op := Op.move (Operand.tmp 1), type := 3, pos := "law.go:44", after := #[{ on := 1, ground := Ground.guard }], guard := some (1, true) }) (v := ?_) rfl (by kernel_rfl) (by kernel_rfl) (by kernel_rfl) (fun _ _ _ h => h) (Or.inl ⟨by rfl, ?_⟩) (by assumption) ?_
            rotate_left
            · (intro wz hSw; go_simp; try with_reducible rfl)
            try simp only [Act.put, List.setIfInBounds_toArray, List.set_cons_zero, List.set_cons_succ]
            refine wpAnyH_take (i := 6) (oi := { dst := some 30, op := Op.load 24 (Operand.tmp 5), type := 24, pos := "law.go:44", after := #[{ on := 1, ground := Ground.guard }], guard := some (1, true) }) rfl (by kernel_rfl) (by kernel_rfl) (by kernel_rfl) (fun _ _ _ h => h) (yieldsIf_load_mid (by rfl) _ _ rfl w.heap.size 0 rfl L _ (fun wz h => h.rx) hu rfl hi2) (by assumption) ?_
            try simp only [Act.put, List.setIfInBounds_toArray, List.set_cons_zero, List.set_cons_succ]
            refine wpAnyH_take (i := 8) (oi := { dst := some 32, op := Op.move (Operand.tmp 1), type := 3, pos := "law.go:44", after := #[{ on := 1, ground := Ground.guard }], guard := some (1, true) }) (v := ?_) rfl (by kernel_rfl) (by kernel_rfl) (by kernel_rfl) (fun _ _ _ h => h) (Or.inl ⟨by rfl, ?_⟩) (by assumption) ?_
            rotate_left
            · (intro wz hSw; go_simp; try with_reducible rfl)
            try simp only [Act.put, List.setIfInBounds_toArray, List.set_cons_zero, List.set_cons_succ]
            refine wpAnyH_ready (rs := [4]) (by kernel_rfl) (by simp) ?_
            refine AllReadyH.cons (o := { dst := some 28, op := Op.call { callee := Callee.value (Operand.func 14), args := #[Operand.tmp 26, Operand.tmp 27], argTypes := #[24, 3] }, type := 24, pos := "law.go:44", after := #[{ on := 2, ground := Ground.data }, { on := 3, ground := Ground.data }, { on := 1, ground := Ground.chain }, { on := 1, ground := Ground.guard }], guard := some (1, true) }) rfl (fun K hK => ?_) AllReadyH.nil
            go_simp
            refine (C1.out _).mono ?_
            rintro e w' ⟨rfl, hb⟩
            try go_wp2_with fail
            refine hK.out _ _ (HeadS.next (by assumption) hb) (fun hHeld => ?_)
            clear hK K
            try simp only [Act.put, List.setIfInBounds_toArray, List.set_cons_zero, List.set_cons_succ]
            refine wpAnyH_ready (rs := [5]) (by kernel_rfl) (by simp) ?_
            refine AllReadyH.cons (o := { dst := some 29, op := Op.call { callee := Callee.value (Operand.func 10), args := #[Operand.tmp 28], argTypes := #[24] }, type := 9, pos := "law.go:44", after := #[{ on := 4, ground := Ground.data }, { on := 4, ground := Ground.chain }, { on := 1, ground := Ground.guard }], guard := some (1, true) }) rfl (fun K hK => ?_) AllReadyH.nil
            go_simp
            refine (C5.out _).mono ?_
            rintro e w' ⟨rfl, hb⟩
            try go_wp2_with fail
            refine hK.out _ _ (HeadS.next (by assumption) hb) (fun hHeld => ?_)
            clear hK K
            try simp only [Act.put, List.setIfInBounds_toArray, List.set_cons_zero, List.set_cons_succ]
            refine wpAnyH_ready (rs := [7]) (by kernel_rfl) (by simp) ?_
            refine AllReadyH.cons (o := { dst := some 31, op := Op.call { callee := Callee.value (Operand.func 10), args := #[Operand.tmp 30], argTypes := #[24] }, type := 9, pos := "law.go:44", after := #[{ on := 6, ground := Ground.data }, { on := 5, ground := Ground.chain }, { on := 1, ground := Ground.guard }], guard := some (1, true) }) rfl (fun K hK => ?_) AllReadyH.nil
            go_simp
            refine (C4.out _).mono ?_
            rintro e w' ⟨rfl, hb⟩
            try go_wp2_with fail
            refine hK.out _ _ (HeadS.next (by assumption) hb) (fun hHeld => ?_)
            clear hK K
            try simp only [Act.put, List.setIfInBounds_toArray, List.set_cons_zero, List.set_cons_succ]
            refine wpAnyH_ready (rs := [9]) (by kernel_rfl) (by simp) ?_
            refine AllReadyH.cons (o := { dst := some 33, op := Op.call { callee := Callee.value (Operand.func 15), args := #[Operand.tmp 31, Operand.tmp 32], argTypes := #[9, 3] }, type := 9, pos := "law.go:44", after := #[{ on := 7, ground := Ground.data }, { on := 8, ground := Ground.data }, { on := 7, ground := Ground.chain }, { on := 1, ground := Ground.guard }], guard := some (1, true) }) rfl (fun K hK => ?_) AllReadyH.nil
            go_simp
            refine (C6.out _).mono ?_
            rintro e w' ⟨rfl, hb⟩
            try go_wp2_with fail
            refine hK.out _ _ (HeadS.next (by assumption) hb) (fun hHeld => ?_)
            clear hK K
            try simp only [Act.put, List.setIfInBounds_toArray, List.set_cons_zero, List.set_cons_succ]
            refine wpAnyH_take (i := 10) (oi := { dst := some 34, op := Op.binOp BinOp.eql 9 (Operand.tmp 29) (Operand.tmp 33) 9, type := 4, pos := "law.go:44", after := #[{ on := 5, ground := Ground.data }, { on := 9, ground := Ground.data }, { on := 1, ground := Ground.guard }], guard := some (1, true) }) (v := ?_) rfl (by kernel_rfl) (by kernel_rfl) (by kernel_rfl) (fun _ _ _ h => h) (Or.inl ⟨by rfl, ?_⟩) (by assumption) ?_
            rotate_left
            · (intro wz hSw; go_simp; try with_reducible rfl)
            try simp only [Act.put, List.setIfInBounds_toArray, List.set_cons_zero, List.set_cons_succ]
            refine wpAnyH_take (i := 11) (oi := { dst := some 35, op := Op.pick (Operand.tmp 25) (Operand.tmp 34) (Operand.const (Value.bool false)), type := 4, pos := "law.go:44", after := #[{ on := 1, ground := Ground.data }, { on := 10, ground := Ground.data }], guard := none }) (v := ?_) rfl (by kernel_rfl) (by kernel_rfl) (by kernel_rfl) (fun _ _ _ h => h) (Or.inl ⟨by rfl, ?_⟩) (by assumption) ?_
            rotate_left
            · (intro wz hSw; go_simp; try with_reducible rfl)
            try simp only [Act.put, List.setIfInBounds_toArray, List.set_cons_zero, List.set_cons_succ]
            refine wpAnyH_take (i := 12) (oi := { dst := some 36, op := Op.move (Operand.tmp 35), type := 4, pos := "law.go:44", after := #[{ on := 11, ground := Ground.data }, { on := 9, ground := Ground.chain }], guard := none }) (v := ?_) rfl (by kernel_rfl) (by kernel_rfl) (by kernel_rfl) (fun _ _ _ h => h) (Or.inl ⟨by rfl, ?_⟩) (by assumption) ?_
            rotate_left
            · (intro wz hSw; go_simp; try with_reducible rfl)
            try simp only [Act.put, List.setIfInBounds_toArray, List.set_cons_zero, List.set_cons_succ]
            refine wpAnyH_take (i := 13) (oi := { dst := some 37, op := Op.load 24 (Operand.tmp 5), type := 24, pos := "law.go:44", after := #[{ on := 12, ground := Ground.guard }], guard := some (12, true) }) rfl (by kernel_rfl) (by kernel_rfl) (by kernel_rfl) (fun _ _ _ h => h) (yieldsIf_load_mid (by rfl) _ _ rfl w.heap.size 0 rfl L _ (fun wz h => h.rx) hu rfl hi2) (by assumption) ?_
            try simp only [Act.put, List.setIfInBounds_toArray, List.set_cons_zero, List.set_cons_succ]
            refine wpAnyH_take (i := 14) (oi := { dst := some 38, op := Op.load 24 (Operand.tmp 7), type := 24, pos := "law.go:44", after := #[{ on := 12, ground := Ground.guard }], guard := some (12, true) }) rfl (by kernel_rfl) (by kernel_rfl) (by kernel_rfl) (fun _ _ _ h => h) (yieldsIf_load_mid (by rfl) _ _ rfl wr.heap.size 0 rfl L _ (fun wz h => h.ry) hu rfl hi2) (by assumption) ?_
            try simp only [Act.put, List.setIfInBounds_toArray, List.set_cons_zero, List.set_cons_succ]
            refine wpAnyH_take (i := 15) (oi := { dst := some 39, op := Op.binOp BinOp.eql 24 (Operand.tmp 37) (Operand.tmp 38) 24, type := 4, pos := "law.go:44", after := #[{ on := 13, ground := Ground.data }, { on := 14, ground := Ground.data }, { on := 12, ground := Ground.guard }], guard := some (12, true) }) (v := ?_) rfl (by kernel_rfl) (by kernel_rfl) (by kernel_rfl) (fun _ _ _ h => h) (Or.inl ⟨by rfl, ?_⟩) (by assumption) ?_
            rotate_left
            · (intro wz hSw; go_simp; try with_reducible rfl)
            try simp only [Act.put, List.setIfInBounds_toArray, List.set_cons_zero, List.set_cons_succ]
            refine wpAnyH_take (i := 16) (oi := { dst := some 40, op := Op.pick (Operand.tmp 36) (Operand.tmp 39) (Operand.const (Value.bool false)), type := 4, pos := "law.go:44", after := #[{ on := 12, ground := Ground.data }, { on := 15, ground := Ground.data }], guard := none }) (v := ?_) rfl (by kernel_rfl) (by kernel_rfl) (by kernel_rfl) (fun _ _ _ h => h) (Or.inl ⟨by rfl, ?_⟩) (by assumption) ?_
            rotate_left
            · (intro wz hSw; go_simp; try with_reducible rfl)
            try simp only [Act.put, List.setIfInBounds_toArray, List.set_cons_zero, List.set_cons_succ]
            refine wpAnyH_take (i := 17) (oi := { dst := some 41, op := Op.move (Operand.tmp 40), type := 4, pos := "law.go:44", after := #[{ on := 16, ground := Ground.data }, { on := 12, ground := Ground.chain }], guard := none }) (v := ?_) rfl (by kernel_rfl) (by kernel_rfl) (by kernel_rfl) (fun _ _ _ h => h) (Or.inl ⟨by rfl, ?_⟩) (by assumption) ?_
            rotate_left
            · (intro wz hSw; go_simp; try with_reducible rfl)
            try simp only [Act.put, List.setIfInBounds_toArray, List.set_cons_zero, List.set_cons_succ]
            refine wpAnyH_take (i := 18) (oi := { dst := some 42, op := Op.load 24 (Operand.tmp 5), type := 24, pos := "law.go:44", after := #[{ on := 17, ground := Ground.guard }], guard := some (17, true) }) rfl (by kernel_rfl) (by kernel_rfl) (by kernel_rfl) (fun _ _ _ h => h) (yieldsIf_load_mid (by rfl) _ _ rfl w.heap.size 0 rfl L _ (fun wz h => h.rx) hu rfl hi2) (by assumption) ?_
            try simp only [Act.put, List.setIfInBounds_toArray, List.set_cons_zero, List.set_cons_succ]
            refine wpAnyH_take (i := 20) (oi := { dst := some 44, op := Op.load 24 (Operand.tmp 5), type := 24, pos := "law.go:44", after := #[{ on := 17, ground := Ground.guard }], guard := some (17, true) }) rfl (by kernel_rfl) (by kernel_rfl) (by kernel_rfl) (fun _ _ _ h => h) (yieldsIf_load_mid (by rfl) _ _ rfl w.heap.size 0 rfl L _ (fun wz h => h.rx) hu rfl hi2) (by assumption) ?_
            try simp only [Act.put, List.setIfInBounds_toArray, List.set_cons_zero, List.set_cons_succ]
            refine wpAnyH_ready (rs := [19]) (by kernel_rfl) (by simp) ?_
            refine AllReadyH.cons (o := { dst := some 43, op := Op.call { callee := Callee.value (Operand.func 14), args := #[Operand.tmp 42, Operand.const (Value.int IntKind.i64 256)], argTypes := #[24, 3] }, type := 24, pos := "law.go:44", after := #[{ on := 18, ground := Ground.data }, { on := 17, ground := Ground.chain }, { on := 17, ground := Ground.guard }], guard := some (17, true) }) rfl (fun K hK => ?_) AllReadyH.nil
            go_simp
            refine (C2.out _).mono ?_
            rintro e w' ⟨rfl, hb⟩
            try go_wp2_with fail
            refine hK.out _ _ (HeadS.next (by assumption) hb) (fun hHeld => ?_)
            clear hK K
            try simp only [Act.put, List.setIfInBounds_toArray, List.set_cons_zero, List.set_cons_succ]
            refine wpAnyH_take (i := 21) (oi := { dst := some 45, op := Op.binOp BinOp.eql 24 (Operand.tmp 43) (Operand.tmp 44) 24, type := 4, pos := "law.go:44", after := #[{ on := 19, ground := Ground.data }, { on := 20, ground := Ground.data }, { on := 17, ground := Ground.guard }], guard := some (17, true) }) (v := ?_) rfl (by kernel_rfl) (by kernel_rfl) (by kernel_rfl) (fun _ _ _ h => h) (Or.inl ⟨by rfl, ?_⟩) (by assumption) ?_
            rotate_left
            · (intro wz hSw; go_simp; try with_reducible rfl)
            try simp only [Act.put, List.setIfInBounds_toArray, List.set_cons_zero, List.set_cons_succ]
            refine wpAnyH_take (i := 22) (oi := { dst := some 46, op := Op.pick (Operand.tmp 41) (Operand.tmp 45) (Operand.const (Value.bool false)), type := 4, pos := "law.go:44", after := #[{ on := 17, ground := Ground.data }, { on := 21, ground := Ground.data }], guard := none }) (v := ?_) rfl (by kernel_rfl) (by kernel_rfl) (by kernel_rfl) (fun _ _ _ h => h) (Or.inl ⟨by rfl, ?_⟩) (by assumption) ?_
            rotate_left
            · (intro wz hSw; go_simp; try with_reducible rfl)
            try simp only [Act.put, List.setIfInBounds_toArray, List.set_cons_zero, List.set_cons_succ]
            refine wpAnyH_take (i := 23) (oi := { dst := some 47, op := Op.move (Operand.tmp 46), type := 4, pos := "law.go:44", after := #[{ on := 22, ground := Ground.data }, { on := 19, ground := Ground.chain }], guard := none }) (v := ?_) rfl (by kernel_rfl) (by kernel_rfl) (by kernel_rfl) (fun _ _ _ h => h) (Or.inl ⟨by rfl, ?_⟩) (by assumption) ?_
            rotate_left
            · (intro wz hSw; go_simp; try with_reducible rfl)
            try simp only [Act.put, List.setIfInBounds_toArray, List.set_cons_zero, List.set_cons_succ]
            refine wpAnyH_take (i := 24) (oi := { dst := some 48, op := Op.load 24 (Operand.tmp 5), type := 24, pos := "law.go:44", after := #[{ on := 23, ground := Ground.guard }], guard := some (23, true) }) rfl (by kernel_rfl) (by kernel_rfl) (by kernel_rfl) (fun _ _ _ h => h) (yieldsIf_load_mid (by rfl) _ _ rfl w.heap.size 0 rfl L _ (fun wz h => h.rx) hu rfl hi2) (by assumption) ?_
            try simp only [Act.put, List.setIfInBounds_toArray, List.set_cons_zero, List.set_cons_succ]
            refine wpAnyH_take (i := 25) (oi := { dst := some 49, op := Op.move (Operand.tmp 1), type := 3, pos := "law.go:44", after := #[{ on := 23, ground := Ground.guard }], guard := some (23, true) }) (v := ?_) rfl (by kernel_rfl) (by kernel_rfl) (by kernel_rfl) (fun _ _ _ h => h) (Or.inl ⟨by rfl, ?_⟩) (by assumption) ?_
            rotate_left
            · (intro wz hSw; go_simp; try with_reducible rfl)
            try simp only [Act.put, List.setIfInBounds_toArray, List.set_cons_zero, List.set_cons_succ]
            refine wpAnyH_take (i := 27) (oi := { dst := some 51, op := Op.move (Operand.tmp 1), type := 3, pos := "law.go:44", after := #[{ on := 23, ground := Ground.guard }], guard := some (23, true) }) (v := ?_) rfl (by kernel_rfl) (by kernel_rfl) (by kernel_rfl) (fun _ _ _ h => h) (Or.inl ⟨by rfl, ?_⟩) (by assumption) ?_
            rotate_left
            · (intro wz hSw; go_simp; try with_reducible rfl)
            try simp only [Act.put, List.setIfInBounds_toArray, List.set_cons_zero, List.set_cons_succ]
            refine wpAnyH_take (i := 29) (oi := { dst := some 53, op := Op.load 24 (Operand.tmp 5), type := 24, pos := "law.go:44", after := #[{ on := 23, ground := Ground.guard }], guard := some (23, true) }) rfl (by kernel_rfl) (by kernel_rfl) (by kernel_rfl) (fun _ _ _ h => h) (yieldsIf_load_mid (by rfl) _ _ rfl w.heap.size 0 rfl L _ (fun wz h => h.rx) hu rfl hi2) (by assumption) ?_
            try simp only [Act.put, List.setIfInBounds_toArray, List.set_cons_zero, List.set_cons_succ]
            refine wpAnyH_take (i := 30) (oi := { dst := some 54, op := Op.move (Operand.tmp 1), type := 3, pos := "law.go:44", after := #[{ on := 23, ground := Ground.guard }], guard := some (23, true) }) (v := ?_) rfl (by kernel_rfl) (by kernel_rfl) (by kernel_rfl) (fun _ _ _ h => h) (Or.inl ⟨by rfl, ?_⟩) (by assumption) ?_
            rotate_left
            · (intro wz hSw; go_simp; try with_reducible rfl)
            try simp only [Act.put, List.setIfInBounds_toArray, List.set_cons_zero, List.set_cons_succ]
            refine wpAnyH_ready (rs := [26]) (by kernel_rfl) (by simp) ?_
            refine AllReadyH.cons (o := { dst := some 50, op := Op.call { callee := Callee.value (Operand.func 14), args := #[Operand.tmp 48, Operand.tmp 49], argTypes := #[24, 3] }, type := 24, pos := "law.go:44", after := #[{ on := 24, ground := Ground.data }, { on := 25, ground := Ground.data }, { on := 23, ground := Ground.chain }, { on := 23, ground := Ground.guard }], guard := some (23, true) }) rfl (fun K hK => ?_) AllReadyH.nil
            go_simp
            refine (C1.out _).mono ?_
            rintro e w' ⟨rfl, hb⟩
            try go_wp2_with fail
            refine hK.out _ _ (HeadS.next (by assumption) hb) (fun hHeld => ?_)
            clear hK K
            try simp only [Act.put, List.setIfInBounds_toArray, List.set_cons_zero, List.set_cons_succ]
            refine wpAnyH_ready (rs := [28]) (by kernel_rfl) (by simp) ?_
            refine AllReadyH.cons (o := { dst := some 52, op := Op.call { callee := Callee.value (Operand.func 14), args := #[Operand.tmp 50, Operand.tmp 51], argTypes := #[24, 3] }, type := 24, pos := "law.go:44", after := #[{ on := 26, ground := Ground.data }, { on := 27, ground := Ground.data }, { on := 26, ground := Ground.chain }, { on := 23, ground := Ground.guard }], guard := some (23, true) }) rfl (fun K hK => ?_) AllReadyH.nil
            go_simp
            refine (C3.out _).mono ?_
            rintro e w' ⟨rfl, hb⟩
            try go_wp2_with fail
            refine hK.out _ _ (HeadS.next (by assumption) hb) (fun hHeld => ?_)
            clear hK K
            try simp only [Act.put, List.setIfInBounds_toArray, List.set_cons_zero, List.set_cons_succ]
            refine wpAnyH_ready (rs := [31]) (by kernel_rfl) (by simp) ?_
            refine AllReadyH.cons (o := { dst := some 55, op := Op.call { callee := Callee.value (Operand.func 14), args := #[Operand.tmp 53, Operand.tmp 54], argTypes := #[24, 3] }, type := 24, pos := "law.go:44", after := #[{ on := 29, ground := Ground.data }, { on := 30, ground := Ground.data }, { on := 28, ground := Ground.chain }, { on := 23, ground := Ground.guard }], guard := some (23, true) }) rfl (fun K hK => ?_) AllReadyH.nil
            go_simp
            refine (C1.out _).mono ?_
            rintro e w' ⟨rfl, hb⟩
            try go_wp2_with fail
            refine hK.out _ _ (HeadS.next (by assumption) hb) (fun hHeld => ?_)
            clear hK K
            try simp only [Act.put, List.setIfInBounds_toArray, List.set_cons_zero, List.set_cons_succ]
            refine wpAnyH_take (i := 32) (oi := { dst := some 56, op := Op.binOp BinOp.eql 24 (Operand.tmp 52) (Operand.tmp 55) 24, type := 4, pos := "law.go:44", after := #[{ on := 28, ground := Ground.data }, { on := 31, ground := Ground.data }, { on := 23, ground := Ground.guard }], guard := some (23, true) }) (v := ?_) rfl (by kernel_rfl) (by kernel_rfl) (by kernel_rfl) (fun _ _ _ h => h) (Or.inl ⟨by rfl, ?_⟩) (by assumption) ?_
            rotate_left
            · (intro wz hSw; go_simp; try with_reducible rfl)
            try simp only [Act.put, List.setIfInBounds_toArray, List.set_cons_zero, List.set_cons_succ]
            refine wpAnyH_take (i := 33) (oi := { dst := some 57, op := Op.pick (Operand.tmp 47) (Operand.tmp 56) (Operand.const (Value.bool false)), type := 4, pos := "law.go:44", after := #[{ on := 23, ground := Ground.data }, { on := 32, ground := Ground.data }], guard := none }) (v := ?_) rfl (by kernel_rfl) (by kernel_rfl) (by kernel_rfl) (fun _ _ _ h => h) (Or.inl ⟨by rfl, ?_⟩) (by assumption) ?_
            rotate_left
            · (intro wz hSw; go_simp; try with_reducible rfl)
            try simp only [Act.put, List.setIfInBounds_toArray, List.set_cons_zero, List.set_cons_succ]
            refine wpAnyH_take (i := 34) (oi := { dst := some 4, op := Op.assign (Operand.tmp 57), type := 4, pos := "law.go:44", after := #[{ on := 33, ground := Ground.data }, { on := 31, ground := Ground.chain }, { on := 0, ground := Ground.phase }, { on := 1, ground := Ground.phase }, { on := 2, ground := Ground.phase }, { on := 3, ground := Ground.phase }, { on := 4, ground := Ground.phase }, { on := 5, ground := Ground.phase }, { on := 6, ground := Ground.phase }, { on := 7, ground := Ground.phase }, { on := 8, ground := Ground.phase }, { on := 9, ground := Ground.phase }, { on := 10, ground := Ground.phase }, { on := 11, ground := Ground.phase }, { on := 12, ground := Ground.phase }, { on := 13, ground := Ground.phase }, { on := 14, ground := Ground.phase }, { on := 15, ground := Ground.phase }, { on := 16, ground := Ground.phase }, { on := 17, ground := Ground.phase }, { on := 18, ground := Ground.phase }, { on := 19, ground := Ground.phase }, { on := 20, ground := Ground.phase }, { on := 21, ground := Ground.phase }, { on := 22, ground := Ground.phase }, { on := 23, ground := Ground.phase }, { on := 24, ground := Ground.phase }, { on := 25, ground := Ground.phase }, { on := 26, ground := Ground.phase }, { on := 27, ground := Ground.phase }, { on := 28, ground := Ground.phase }, { on := 29, ground := Ground.phase }, { on := 30, ground := Ground.phase }, { on := 31, ground := Ground.phase }, { on := 32, ground := Ground.phase }, { on := 33, ground := Ground.phase }], guard := none }) (v := ?_) rfl (by kernel_rfl) (by kernel_rfl) (by kernel_rfl) (fun _ _ _ h => h) (Or.inl ⟨by rfl, ?_⟩) (by assumption) ?_
            rotate_left
            · (intro wz hSw; go_simp; try with_reducible rfl)
            try simp only [Act.put, List.setIfInBounds_toArray, List.set_cons_zero, List.set_cons_succ]
            refine wpAnyH_done (by kernel_rfl) ?_ _
            go_wp2
            go_ret
            exact ⟨rfl, (HeadS.at' (by assumption)).below⟩
end Go.Proofs.YtndbeapgkkaikaaDoor
