/-
  A stream's bytes: a contract (written by gen_stbytes.py).
-/
import Derived.Test.YtpgmgopcgoblhaaDoorStreamPut
import Derived.Test.YtpgmgopcgoblhaaDoorCrcRef
namespace Go.Proofs.YtpgmgopcgoblhaaDoor
open Go.RowKit

/-- within Bytes: the node in its block, the Out on its way, all that was there -/
structure NbAt (w : World) (b : Nat) (N : List Value) (B o : Nat) (v1 : Value) (l : List UInt8) (wx : World) : Prop where
  src : wx.rangeAt b 0 N
  out : OutAt B o v1 l wx
  below : Below w.heap.size w wx
  lo : w.heap.size ≤ b
  bo : b < o
theorem NbAt.to {w : World} {b : Nat} {N : List Value} {B o : Nat} {v1 : Value} {l l2 : List UInt8} {wx wy : World} (h : NbAt w b N B o v1 l wx) (k : OutTo B o v1 l2 wx wy) : ∃ v2, Hid (NbAt w b N B o v2 l2 wy) := by
  obtain ⟨v2, a, _, c⟩ := k
  have hB := h.out.lt
  have hlo := h.lo
  have hbo := h.bo
  have hbs := h.out.base
  refine ⟨v2, Lib.hid ⟨fun j v hv => ?_, a, c.below h.below h.below.size ?_, hlo, hbo⟩⟩
  · rw [c.cell (by show b < _; omega) ?_]
    · exact h.src j v hv
    · rintro (e | e)
      · have e : b = o := e
        omega
      · have := h.out.own _ e
        have : B ≤ b := this
        omega
  · rintro q (e | e)
    · omega
    · have := h.out.own _ e
      omega
theorem range_below {b o : Nat} {l : List Value} {w w' : World} (h : w.rangeAt b o l) (hb : b < w.heap.size) (k : Below w.heap.size w w') : w'.rangeAt b o l := fun j v hv => by
  rw [k.cell (p := ⟨b, o + j, none⟩) hb]
  exact h j v hv
theorem NbAt.step {w : World} {b : Nat} {N : List Value} {B o : Nat} {v1 : Value} {l : List UInt8} {wx wy : World} (h : NbAt w b N B o v1 l wx) (k : Below wx.heap.size wx wy) : NbAt w b N B o v1 l wy :=
  ⟨range_below h.src (by have := h.bo; have := h.out.lt; have := h.out.base; omega) k, h.out.kept (S := fun _ => False) (Grew.of_below k) (fun e => e) (fun _ _ e => e), h.below.trans (k.mono h.below.size), h.lo, h.bo⟩
theorem nbNew (w W : World) (N : List Value) (hW : W.heap.size = w.heap.size + 1) (hr : W.rangeAt w.heap.size 0 N) (hb : Below w.heap.size w W) : NbAt w w.heap.size N (w.heap.size + 1 + 1) (w.heap.size + 1) (.slice none 0 0) [] (W.alloc (.cells #[.slice none 0 0] 63)) := by
  have h := boxNew (w := W) (t := 63) (v := .slice none 0 0) hW
  have h2 := boxFree (w := W) (t := 63) (v := .slice none 0 0) hW
  exact ⟨World.rangeAt_alloc hr _, ⟨by omega, by simp; omega, h, h2, by simp [cellsOf, World.ownsRow]⟩, hb.alloc (by omega) _, by omega, by omega⟩
theorem NbAt.drew {w : World} {b : Nat} {N : List Value} {B o : Nat} {v1 : Value} {l : List UInt8} {wx : World} (h : NbAt w b N B o v1 l wx) : NbAt w b N B o v1 l wx.drew :=
  ⟨h.src, h.out.drew, h.below.drew, h.lo, h.bo⟩
theorem crc_lt (l : List UInt8) : C.Crc.sum l < 4294967296 := by
  unfold C.Crc.sum
  omega
theorem crc_one (b : Nat) (p : List UInt8) (w : World) (hs : p.length ≤ maxLen) (hc : w.cell? ⟨b, 0, none⟩ = some (.string ⟨p.toArray⟩)) :
    Calls Tryd.prog 29 #[.slice (some ⟨b, 0, none⟩) 1 1] w fun e w' => e = .returned (.int .u32 (C.Crc.sum p : Nat)) ∧ w = w' := by
  have h := C.sum_any b 0 1 [⟨p.toArray⟩] w (by simp) (fun i hi => by
    obtain rfl : i = 0 := by simp at hi; omega
    exact hc) (fun i hi => by
    obtain rfl : i = 0 := by simp at hi; omega
    exact hs)
  have e : C.cat [⟨p.toArray⟩] = p := by simp [C.cat]
  rw [e] at h
  exact h
theorem arr_cells (l : List UInt8) (h : l.length = 32) : arr (fun j => (l.getD j 0).toNat) = cellsOf l ∧ txt (fun j => (l.getD j 0).toNat) = l := by
  constructor
  · refine List.ext_getElem (by rw [arr_len, cellsOf_len, h]) fun j h1 h2 => ?_
    rw [arr_len] at h1
    have hj : j < l.length := by omega
    simp [arr, cellsOf, hj]
  · refine List.ext_getElem (by simp [txt, h]) fun j h1 h2 => ?_
    simp [txt, h2]
theorem text32 (l : List UInt8) (h : l.length = 32) (w : World) :
    Calls Tryd.prog 20 #[.agg (cellsOf l).toArray] w fun r w' => r = .returned (.string ⟨l.toArray⟩) ∧ Below w.heap.size w w' := by
  obtain ⟨e1, e2⟩ := arr_cells l h
  have t := text_any (fun j => (l.getD j 0).toNat) (fun j => UInt8.toNat_lt _) w
  rw [e1, e2] at t
  exact t
theorem mid_range {w : World} {g : Nat} {l k m : List Value} (h : w.rangeAt g 0 (l ++ (k ++ m))) : w.rangeAt g l.length k := fun j v hv => by
  have hj := (List.getElem?_eq_some_iff.1 hv).1
  have := h (l.length + j) v (by rw [List.getElem?_append_right (by omega), List.getElem?_append_left (by omega), Nat.add_sub_cancel_left]; exact hv)
  rwa [Nat.zero_add] at this
theorem itB_len (x : It) : x.dt.length ≤ (itB x).length := by
  unfold itB
  rw [List.length_append, enc_len]
  split
  · next h => rw [List.isEmpty_iff.1 h]; simp
  · rw [List.length_cons]; omega
theorem its_snoc {l : List It} {k : Nat} {x : It} (hx : l[k]? = some x) : itsB (l.take k) ++ itB x = itsB (l.take (k + 1)) := by
  obtain ⟨hk, e⟩ := List.getElem?_eq_some_iff.1 hx
  rw [List.take_succ_eq_append_getElem hk, e]
  unfold itsB
  simp
theorem its_len {l : List It} {k : Nat} {x : It} (hx : l[k]? = some x) : (itsB (l.take k)).length + (itB x).length ≤ (itsB l).length := by
  have h1 := its_snoc hx
  have h2 : itsB l = itsB (l.take (k + 1)) ++ itsB (l.drop (k + 1)) := by
    unfold itsB
    rw [← List.flatMap_append, List.take_append_drop]
  rw [h2, ← h1, List.length_append, List.length_append]
  omega
theorem stL_parts {w : World} {g : Nat} {size : Int} {base target : List UInt8} {v : Value} (hb : base.length = 32) (ht : target.length = 32) (h : w.rangeAt g 0 (stL size base target v)) :
    w.cell? ⟨g, 0, none⟩ = some (.int .i64 size) ∧ w.rangeAt g 1 (cellsOf base) ∧ w.rangeAt g 33 (cellsOf target) ∧ w.cell? ⟨g, 65, none⟩ = some v := by
  refine ⟨?_, ?_, ?_, ?_⟩
  · have := h 0 _ stL_size
    rwa [Nat.zero_add] at this
  · exact mid_range (l := [.int .i64 size]) h
  · have h2 : w.rangeAt g 0 ((.int .i64 size :: cellsOf base) ++ (cellsOf target ++ [v])) := by
      unfold stL at h
      simpa using h
    have h3 := mid_range h2
    rw [List.length_cons, cellsOf_len, hb] at h3
    exact h3
  · have := h 65 _ (stL_row hb ht)
    rwa [Nat.zero_add] at this
set_option maxRecDepth 100000 in
set_option maxHeartbeats 4000000 in
theorem stBytes_any (z : Nat) (base target : List UInt8) (v : Value) (l : List It) (w : World) (hz : z < 65536) (hb : base.length = 32) (ht : target.length = 32) (hv : ItsAt w v l) (hl : l.length < 65536)
    (hp : ∀ x ∈ l, 0 ≤ x.pl ∧ x.pl < 65536) (hs : (bodyB ⟨z, base, target, l⟩).length < 800000) :
    Calls Tryd.prog 12 #[.agg (stL z base target v).toArray] w fun e w' => e = .returned (.string ⟨(allB ⟨z, base, target, l⟩).toArray⟩) ∧ Below w.heap.size w w' := by
  obtain ⟨a, cap, rfl⟩ := hv.form
  have hr : (w.alloc (.cells (stL z base target (.slice a l.length cap)).toArray 28)).rangeAt w.heap.size 0 (stL z base target (.slice a l.length cap)) := fun j x hx => by
    rw [Nat.zero_add, World.cell?_alloc_new, List.getElem?_toArray, hx]
  have HK := Lib.hid fun wx => stL_parts (w := wx) (g := w.heap.size) (size := z) (v := .slice a l.length cap) hb ht
  have HIB : Hid ((Tryd.prog.info? 25).map (·.size) = some (cellsOf base).length) := Lib.hid (by rw [cellsOf_len, hb]; kernel_rfl)
  have HIT : Hid ((Tryd.prog.info? 25).map (·.size) = some (cellsOf target).length) := Lib.hid (by rw [cellsOf_len, ht]; kernel_rfl)
  have HTB := Lib.hid fun wx => text32 base hb wx
  have HTT := Lib.hid fun wx => text32 target ht wx
  have u1 := u32_as_u64 z (by omega)
  have u2 := u32_as_u64 l.length (by omega)
  obtain ⟨DB, hDB⟩ : ∃ DB : ByteArray, ⟨base.toArray⟩ = DB := ⟨_, rfl⟩
  obtain ⟨DT, hDT⟩ : ∃ DT : ByteArray, ⟨target.toArray⟩ = DT := ⟨_, rfl⟩
  have HDB : Hid (DB.size = 32) := Lib.hid (by rw [← hDB]; simpa [ByteArray.size] using hb)
  have HDT : Hid (DT.size = 32) := Lib.hid (by rw [← hDT]; simpa [ByteArray.size] using ht)
  have HHead : Hid (headB ⟨z, base, target, l⟩ = [] ++ (⟨#[83, 66, 68, 70]⟩ : ByteArray).data.toList ++ enc 1 (wid 1) ++ enc z (wid 2) ++ DB.data.toList ++ DT.data.toList ++ enc l.length (wid 2)) := Lib.hid (by
    rw [← hDB, ← hDT]
    unfold headB markB
    simp [wid1, wid2]
    rfl)
  rw [hDB] at HTB
  rw [hDT] at HTT
  have HV := Lib.hid hv
  have HP := Lib.hid hp
  have HS := Lib.hid hs
  have HL := Lib.hid hl
  have HAll : Hid (allB ⟨z, base, target, l⟩ = bodyB ⟨z, base, target, l⟩ ++ enc (C.Crc.sum (bodyB ⟨z, base, target, l⟩)) (wid 4)) := Lib.hid rfl
  have HBd : Hid (bodyB ⟨z, base, target, l⟩ = headB ⟨z, base, target, l⟩ ++ itsB l) := Lib.hid rfl
  generalize allB ⟨z, base, target, l⟩ = AL at *
  generalize bodyB ⟨z, base, target, l⟩ = BD at *
  generalize headB ⟨z, base, target, l⟩ = HDD at *
  generalize stL z base target (.slice a l.length cap) = N at *
  obtain ⟨XB, hXB⟩ : ∃ XB, cellsOf base = XB := ⟨_, rfl⟩
  obtain ⟨XT, hXT⟩ : ∃ XT, cellsOf target = XT := ⟨_, rfl⟩
  rw [hXB] at HK HIB HTB
  rw [hXT] at HK HIT HTT
  obtain ⟨W, hW⟩ : ∃ W, w.alloc (.cells N.toArray 28) = W := ⟨_, rfl⟩
  have hWs : W.heap.size = w.heap.size + 1 := by rw [← hW]; simp
  rw [hW] at hr
  have HW := Lib.hid hr
  have H0 := Lib.hid (NbAt.drew (nbNew w W N hWs hr (by rw [← hW]; exact ((Below.refl _ w).alloc (Nat.le_refl _) _))))
  have HWe := Lib.hid hW
  have HWs := Lib.hid hWs
  clear hv hp hs hl hDB hDT hr hW hXB hXT hWs hb ht hz
  go_enter Tryd.func12, Tryd.ntmps12
  go_upto_region 1 with fail
  rw [HWe.out]
  obtain ⟨g, hg⟩ : ∃ g, w.heap.size = g := ⟨_, rfl⟩
  have HG := Lib.hid hg
  rw [hg] at HK H0 HW HWs ⊢
  clear hg
  refine wp_region_held_drew (S := fun wx => wx.cell? ⟨g, 0, none⟩ = some (.int .i64 (z : Int)) ∧ wx.rangeAt g 1 XB ∧ wx.rangeAt g 33 XT ∧ wx.cell? ⟨g, 65, none⟩ = some (.slice a l.length cap)) (by kernel_rfl) (HK.out _ HW.out) (fun hHeld => ?_)
  refine wpAnyH_take (i := 3) (oi := { dst := some 9, op := Op.fieldAddr 28 (Operand.tmp 1) 0, type := 0, pos := "stream.go:70", after := #[], guard := none }) (v := ?_) rfl (by kernel_rfl) (by kernel_rfl) (by kernel_rfl) (fun _ _ _ h => h) (Or.inl ⟨by rfl, ?_⟩) (by assumption) ?_
  rotate_left
  · (intro wz hSw; (try obtain ⟨hs0, hs1, hs2, hs3⟩ := hSw); go_simp; try with_reducible rfl)
  try simp only [Act.put, List.setIfInBounds_toArray, List.set_cons_zero, List.set_cons_succ]
  refine wpAnyH_take (i := 4) (oi := { dst := some 10, op := Op.load 3 (Operand.tmp 9), type := 3, pos := "stream.go:70", after := #[{ on := 3, ground := Ground.data }], guard := none }) (v := ?_) rfl (by kernel_rfl) (by kernel_rfl) (by kernel_rfl) (fun _ _ _ h => h) (Or.inl ⟨by rfl, ?_⟩) (by assumption) ?_
  rotate_left
  · (intro wz hSw; (try obtain ⟨hs0, hs1, hs2, hs3⟩ := hSw); go_simp; try with_reducible rfl)
  try simp only [Act.put, List.setIfInBounds_toArray, List.set_cons_zero, List.set_cons_succ]
  refine wpAnyH_take (i := 5) (oi := { dst := some 11, op := Op.convert 3 45 (Operand.tmp 10), type := 45, pos := "stream.go:70", after := #[{ on := 4, ground := Ground.data }], guard := none }) (v := ?_) rfl (by kernel_rfl) (by kernel_rfl) (by kernel_rfl) (fun _ _ _ h => h) (Or.inl ⟨by rfl, ?_⟩) (by assumption) ?_
  rotate_left
  · (intro wz hSw; (try obtain ⟨hs0, hs1, hs2, hs3⟩ := hSw); go_simp; try with_reducible rfl)
  try simp only [Act.put, List.setIfInBounds_toArray, List.set_cons_zero, List.set_cons_succ]
  refine wpAnyH_ready (rs := [0]) (by kernel_rfl) (by simp) ?_
  refine AllReadyH.cons (o := { dst := some 6, op := Op.alloc 63, type := 60, pos := "stream.go:70", after := #[], guard := none }) rfl (fun K hK => ?_) AllReadyH.nil
  go_simp
  refine hK.out _ _ (HK.out _ H0.out.src) (fun hHeld => ?_)
  clear hK K
  try simp only [List.setIfInBounds_toArray, List.set_cons_zero, List.set_cons_succ]
  refine wpAnyH_ready (rs := [1]) (by kernel_rfl) (by simp) ?_
  refine AllReadyH.cons (o := { dst := some 7, op := Op.call { callee := Callee.value (Operand.func 26), args := #[Operand.tmp 6, Operand.const (Value.string { data := #[83, 66, 68, 70] })], argTypes := #[60, 9] }, type := 60, pos := "stream.go:70", after := #[{ on := 0, ground := Ground.data }], guard := none }) rfl (fun K hK => ?_) AllReadyH.nil
  go_simp
  rw [HWs.out]
  refine (outText_any (g + 2) (g + 1) _ [] ⟨#[83, 66, 68, 70]⟩ _ H0.out.out (by decide)).mono ?_
  rintro e w1 ⟨rfl, T1⟩
  obtain ⟨v1, H1⟩ := H0.out.to T1
  clear T1
  refine hK.out _ _ (HK.out _ H1.out.src) (fun hHeld => ?_)
  clear hK K
  try simp only [List.setIfInBounds_toArray, List.set_cons_zero, List.set_cons_succ]
  refine wpAnyH_ready (rs := [2]) (by kernel_rfl) (by simp) ?_
  refine AllReadyH.cons (o := { dst := some 8, op := Op.call { callee := Callee.value (Operand.func 27), args := #[Operand.tmp 7, Operand.const (Value.int IntKind.u64 1), Operand.const (Value.int IntKind.i64 1)], argTypes := #[60, 45, 3] }, type := 60, pos := "stream.go:70", after := #[{ on := 1, ground := Ground.data }, { on := 1, ground := Ground.chain }], guard := none }) rfl (fun K hK => ?_) AllReadyH.nil
  go_simp
  refine (outNum_any (g + 2) (g + 1) v1 _ 1 1 w1 H1.out.out (by decide)).mono ?_
  rintro e w2 ⟨rfl, T2⟩
  obtain ⟨v2, H2⟩ := H1.out.to T2
  clear T2
  refine hK.out _ _ (HK.out _ H2.out.src) (fun hHeld => ?_)
  clear hK K
  try simp only [List.setIfInBounds_toArray, List.set_cons_zero, List.set_cons_succ]
  refine wpAnyH_ready (rs := [6]) (by kernel_rfl) (by simp) ?_
  refine AllReadyH.cons (o := { dst := some 12, op := Op.call { callee := Callee.value (Operand.func 27), args := #[Operand.tmp 8, Operand.tmp 11, Operand.const (Value.int IntKind.i64 2)], argTypes := #[60, 45, 3] }, type := 60, pos := "stream.go:70", after := #[{ on := 2, ground := Ground.data }, { on := 5, ground := Ground.data }, { on := 2, ground := Ground.chain }], guard := none }) rfl (fun K hK => ?_) AllReadyH.nil
  go_simp
  refine (outNum_any (g + 2) (g + 1) v2 _ z 2 w2 H2.out.out (by decide)).mono ?_
  rintro e w3 ⟨rfl, T3⟩
  obtain ⟨v3, H3⟩ := H2.out.to T3
  clear T3
  refine hK.out _ _ (HK.out _ H3.out.src) (fun hHeld => ?_)
  clear hK K
  try simp only [List.setIfInBounds_toArray, List.set_cons_zero, List.set_cons_succ]
  refine wpAnyH_take (i := 7) (oi := { dst := some 3, op := Op.assign (Operand.tmp 12), type := 60, pos := "stream.go:70", after := #[{ on := 6, ground := Ground.data }, { on := 6, ground := Ground.chain }, { on := 0, ground := Ground.phase }, { on := 1, ground := Ground.phase }, { on := 2, ground := Ground.phase }, { on := 3, ground := Ground.phase }, { on := 4, ground := Ground.phase }, { on := 5, ground := Ground.phase }, { on := 6, ground := Ground.phase }], guard := none }) (v := ?_) rfl (by kernel_rfl) (by kernel_rfl) (by kernel_rfl) (fun _ _ _ h => h) (Or.inl ⟨by rfl, ?_⟩) (by assumption) ?_
  rotate_left
  · (intro wz hSw; (try obtain ⟨hs0, hs1, hs2, hs3⟩ := hSw); go_simp; try with_reducible rfl)
  try simp only [Act.put, List.setIfInBounds_toArray, List.set_cons_zero, List.set_cons_succ]
  refine wpAnyH_done (by kernel_rfl) ?_ _
  go_upto_region 2 with fail
  refine wp_region_held_drew (S := fun wx => wx.cell? ⟨g, 0, none⟩ = some (.int .i64 (z : Int)) ∧ wx.rangeAt g 1 XB ∧ wx.rangeAt g 33 XT ∧ wx.cell? ⟨g, 65, none⟩ = some (.slice a l.length cap)) (by kernel_rfl) (HK.out _ H3.out.src) (fun hHeld => ?_)
  refine wpAnyH_take (i := 0) (oi := { dst := some 13, op := Op.move (Operand.tmp 3), type := 60, pos := "stream.go:71", after := #[], guard := none }) (v := ?_) rfl (by kernel_rfl) (by kernel_rfl) (by kernel_rfl) (fun _ _ _ h => h) (Or.inl ⟨by rfl, ?_⟩) (by assumption) ?_
  rotate_left
  · (intro wz hSw; (try obtain ⟨hs0, hs1, hs2, hs3⟩ := hSw); go_simp; try with_reducible rfl)
  try simp only [Act.put, List.setIfInBounds_toArray, List.set_cons_zero, List.set_cons_succ]
  refine wpAnyH_take (i := 1) (oi := { dst := some 14, op := Op.fieldAddr 28 (Operand.tmp 1) 1, type := 0, pos := "stream.go:71", after := #[], guard := none }) (v := ?_) rfl (by kernel_rfl) (by kernel_rfl) (by kernel_rfl) (fun _ _ _ h => h) (Or.inl ⟨by rfl, ?_⟩) (by assumption) ?_
  rotate_left
  · (intro wz hSw; (try obtain ⟨hs0, hs1, hs2, hs3⟩ := hSw); go_simp; try with_reducible rfl)
  try simp only [Act.put, List.setIfInBounds_toArray, List.set_cons_zero, List.set_cons_succ]
  refine wpAnyH_take (i := 2) (oi := { dst := some 15, op := Op.load 25 (Operand.tmp 14), type := 25, pos := "stream.go:71", after := #[{ on := 1, ground := Ground.data }], guard := none }) rfl (by kernel_rfl) (by kernel_rfl) (by kernel_rfl) (fun _ _ _ h => h) (yieldsIf_load_mid (by rfl) _ _ rfl g 1 rfl XB _ (fun wz hz => hz.2.1) Tryd.underlying25 rfl HIB.out) (by assumption) ?_
  try simp only [Act.put, List.setIfInBounds_toArray, List.set_cons_zero, List.set_cons_succ]
  refine wpAnyH_take (i := 5) (oi := { dst := some 18, op := Op.fieldAddr 28 (Operand.tmp 1) 2, type := 0, pos := "stream.go:71", after := #[], guard := none }) (v := ?_) rfl (by kernel_rfl) (by kernel_rfl) (by kernel_rfl) (fun _ _ _ h => h) (Or.inl ⟨by rfl, ?_⟩) (by assumption) ?_
  rotate_left
  · (intro wz hSw; (try obtain ⟨hs0, hs1, hs2, hs3⟩ := hSw); go_simp; try with_reducible rfl)
  try simp only [Act.put, List.setIfInBounds_toArray, List.set_cons_zero, List.set_cons_succ]
  refine wpAnyH_take (i := 6) (oi := { dst := some 19, op := Op.load 25 (Operand.tmp 18), type := 25, pos := "stream.go:71", after := #[{ on := 5, ground := Ground.data }], guard := none }) rfl (by kernel_rfl) (by kernel_rfl) (by kernel_rfl) (fun _ _ _ h => h) (yieldsIf_load_mid (by rfl) _ _ rfl g 33 rfl XT _ (fun wz hz => hz.2.2.1) Tryd.underlying25 rfl HIT.out) (by assumption) ?_
  try simp only [Act.put, List.setIfInBounds_toArray, List.set_cons_zero, List.set_cons_succ]
  refine wpAnyH_ready (rs := [3]) (by kernel_rfl) (by simp) ?_
  refine AllReadyH.cons (o := { dst := some 16, op := Op.call { callee := Callee.value (Operand.func 20), args := #[Operand.tmp 15], argTypes := #[25] }, type := 9, pos := "stream.go:71", after := #[{ on := 2, ground := Ground.data }], guard := none }) rfl (fun K hK => ?_) AllReadyH.nil
  go_simp
  refine (HTB.out _).mono ?_
  rintro e w4 ⟨rfl, T4⟩
  have H4 := Lib.hid ((NbAt.drew H3.out).step T4)
  clear T4
  refine hK.out _ _ (HK.out _ H4.out.src) (fun hHeld => ?_)
  clear hK K
  try simp only [List.setIfInBounds_toArray, List.set_cons_zero, List.set_cons_succ]
  refine wpAnyH_ready (rs := [4]) (by kernel_rfl) (by simp) ?_
  refine AllReadyH.cons (o := { dst := some 17, op := Op.call { callee := Callee.value (Operand.func 26), args := #[Operand.tmp 13, Operand.tmp 16], argTypes := #[60, 9] }, type := 60, pos := "stream.go:71", after := #[{ on := 0, ground := Ground.data }, { on := 3, ground := Ground.data }, { on := 3, ground := Ground.chain }], guard := none }) rfl (fun K hK => ?_) AllReadyH.nil
  go_simp
  refine (outText_any (g + 2) (g + 1) v3 _ DB w4 H4.out.out (by have := HDB.out; simp [enc_len, wid1, wid2]; omega)).mono ?_
  rintro e w5 ⟨rfl, T5⟩
  obtain ⟨v5, H5⟩ := H4.out.to T5
  clear T5
  refine hK.out _ _ (HK.out _ H5.out.src) (fun hHeld => ?_)
  clear hK K
  try simp only [List.setIfInBounds_toArray, List.set_cons_zero, List.set_cons_succ]
  refine wpAnyH_ready (rs := [7]) (by kernel_rfl) (by simp) ?_
  refine AllReadyH.cons (o := { dst := some 20, op := Op.call { callee := Callee.value (Operand.func 20), args := #[Operand.tmp 19], argTypes := #[25] }, type := 9, pos := "stream.go:71", after := #[{ on := 6, ground := Ground.data }, { on := 4, ground := Ground.chain }], guard := none }) rfl (fun K hK => ?_) AllReadyH.nil
  go_simp
  refine (HTT.out _).mono ?_
  rintro e w6 ⟨rfl, T6⟩
  have H6 := Lib.hid (H5.out.step T6)
  clear T6
  refine hK.out _ _ (HK.out _ H6.out.src) (fun hHeld => ?_)
  clear hK K
  try simp only [List.setIfInBounds_toArray, List.set_cons_zero, List.set_cons_succ]
  refine wpAnyH_ready (rs := [8]) (by kernel_rfl) (by simp) ?_
  refine AllReadyH.cons (o := { dst := some 21, op := Op.call { callee := Callee.value (Operand.func 26), args := #[Operand.tmp 17, Operand.tmp 20], argTypes := #[60, 9] }, type := 60, pos := "stream.go:71", after := #[{ on := 4, ground := Ground.data }, { on := 7, ground := Ground.data }, { on := 7, ground := Ground.chain }], guard := none }) rfl (fun K hK => ?_) AllReadyH.nil
  go_simp
  refine (outText_any (g + 2) (g + 1) v5 _ DT w6 H6.out.out (by have := HDB.out; have := HDT.out; simp [enc_len, wid1, wid2]; omega)).mono ?_
  rintro e w7 ⟨rfl, T7⟩
  obtain ⟨v7, H7⟩ := H6.out.to T7
  clear T7
  refine hK.out _ _ (HK.out _ H7.out.src) (fun hHeld => ?_)
  clear hK K
  try simp only [List.setIfInBounds_toArray, List.set_cons_zero, List.set_cons_succ]
  refine wpAnyH_done (by kernel_rfl) ?_ _
  have c65 := (HK.out _ H7.out.src).2.2.2
  go_wp2_with fail
  refine (outNum_any (g + 2) (g + 1) v7 _ l.length 2 w7 H7.out.out (by have := HDB.out; have := HDT.out; simp [enc_len, wid1, wid2]; omega)).mono ?_
  rintro e w8 ⟨rfl, T8⟩
  obtain ⟨v8, H8⟩ := H7.out.to T8
  clear T8
  rw [← HHead.out] at H8
  have c65' := (HK.out _ H8.out.src).2.2.2
  clear c65 H7 H6 H5 H4 H3 H2 H1 H0 hHeld HW u1
  go_wp2_with fail
  go_loopw [31] (fun i wx => ∃ (k : Nat) (v1 : Value), k ≤ l.length ∧ i = .int .i64 (k : Int) ∧ NbAt w g N (g + 2) (g + 1) v1 (HDD ++ itsB (l.take k)) wx) (fun i _ => l.length - (intOf i).toNat)
  case atStart => exact ⟨0, v8, by omega, rfl, by rw [List.take_zero]; show NbAt w g N _ _ v8 (HDD ++ []) w8; rw [List.append_nil]; exact H8.out⟩
  case round =>
    clear c65' H8
    obtain ⟨k, v1, hk, rfl, hn⟩ := hrel
    have HN1 := Lib.hid hn
    clear hn
    by_cases hlt : k < l.length
    · have i0 : (k : Int) < (l.length : Int) := by omega
      obtain ⟨x, hx⟩ : ∃ x, l[k]? = some x := ⟨_, List.getElem?_eq_getElem hlt⟩
      obtain ⟨b, rfl, x0, x1⟩ := (HV.out.below HN1.out.below).at hx
      obtain ⟨p0, p1⟩ := HP.out x (List.mem_of_getElem? hx)
      have hlen := its_len hx
      have HTk : Hid (HDD ++ itsB (l.take (k + 1)) = HDD ++ itsB (l.take k) ++ itB x) := Lib.hid (by rw [List.append_assoc, its_snoc hx])
      have HLe : Hid ((HDD ++ itsB (l.take k)).length + x.dt.length < 900000) := Lib.hid (by
        have h1 := HS.out
        rw [HBd.out, List.length_append] at h1
        rw [List.length_append]
        have h2 := itB_len x
        omega)
      have HN2 := Lib.hid (HN1.out.step ((Below.refl _ _).alloc (Nat.le_refl _) (.cells #[.int .i64 x.pl, .string ⟨x.dt.toArray⟩] 51)))
      have HPu := Lib.hid fun wx (hx : NbAt w g N (g + 2) (g + 1) v1 (HDD ++ itsB (l.take k)) wx) => put_any x (g + 2) (g + 1) v1 _ wx hx.out p0 p1 HLe.out
      unfold itV at HPu
      have hk9 : (k : Int) < 65536 := by have := HL.out; omega
      clear hx p0 p1 hlen
      go_wp2_with fail
      refine (HPu.out _ HN2.out).mono ?_
      rintro e w9 ⟨rfl, T9⟩
      obtain ⟨v9, H9⟩ := HN2.out.to T9
      clear T9
      rw [← HTk.out] at H9
      go_wp2_with fail
      go_roundw
      case rel => exact ⟨k + 1, v9, by omega, by go_num, H9.out⟩
      case measure => simp [intOf]; omega
    · obtain rfl : k = l.length := by omega
      have i0 : ¬ (l.length : Int) < (l.length : Int) := by omega
      have H8 := HN1
      rw [List.take_length, ← HBd.out] at H8
      have hlt := crc_lt BD
      have HCr : Hid (∀ b wx, wx.cell? ⟨b, 0, none⟩ = some (.string ⟨BD.toArray⟩) → Calls Tryd.prog 29 #[.slice (some ⟨b, 0, none⟩) 1 1] wx fun e w' => e = .returned (.int .u32 (C.Crc.sum BD : Nat)) ∧ wx = w') := Lib.hid fun b wx hc => crc_one b BD wx (by have := HS.out; unfold maxLen; omega) hc
      generalize C.Crc.sum BD = K at *
      have u3 := u32_as_u64 K hlt
      clear HN1 hlt
      go_wp2_with fail
      refine (outBytes_any (g + 2) (g + 1) v1 BD wr H8.out.out).mono ?_
      rintro e w2 ⟨rfl, rfl⟩
      have H2 := Lib.hid (H8.out.step ((Below.refl _ _).alloc (Nat.le_refl _) (.cells #[.string ⟨BD.toArray⟩] 9)))
      clear H8
      go_wp2_with fail
      refine (HCr.out wr.heap.size _ (by rw [World.cell?_alloc_new]; rfl)).mono ?_
      rintro e w3 ⟨rfl, rfl⟩
      go_wp2_with fail
      refine (outNum_any (g + 2) (g + 1) v1 BD K 4 _ H2.out.out (by have := HS.out; omega)).mono ?_
      rintro e w4 ⟨rfl, T4⟩
      obtain ⟨v4, H4⟩ := H2.out.to T4
      clear T4 H2
      rw [← HAll.out] at H4
      go_wp2_with fail
      refine (outBytes_any (g + 2) (g + 1) v4 AL w4 H4.out.out).mono ?_
      rintro e w5 ⟨rfl, rfl⟩
      go_wp2_with fail
      go_ret
      exact ⟨rfl, H4.out.below⟩
end Go.Proofs.YtpgmgopcgoblhaaDoor
