/-
  The law's Told: a stream as the document has it: a contract (written by gen_sttold.py).
-/
import Derived.Test.YtpgmgopcgoblhaaDoorStreamBytesFn
import Derived.Test.YtpgmgopcgoblhaaDoorStreamParB
namespace Go.Proofs.YtpgmgopcgoblhaaDoor
open Go.RowKit

/-- the document's stream, as cells -/
def rfL (size : Int) (b t : ByteArray) (v : Value) : Array Value := #[.int .i64 size, .string b, .string t, v]
abbrev rf0 : Array Value := #[.int .i64 0, .string ⟨#[]⟩, .string ⟨#[]⟩, .slice none 0 0]
/-- while it is made: the box of what is told, what is handed back -/
structure TA (w : World) (N : List Value) (wx : World) : Prop where
  src : wx.rangeAt w.heap.size 0 N
  below : Below w.heap.size w wx
  res : wx.heap[w.heap.size + 1]? = some (.cells rf0 32)
/-- with the stream that is made at o -/
structure TB (w : World) (N : List Value) (o : Nat) (C : Array Value) (wx : World) : Prop where
  src : wx.rangeAt w.heap.size 0 N
  below : Below w.heap.size w wx
  res : wx.heap[w.heap.size + 1]? = some (.cells rf0 32)
  out : wx.heap[o]? = some (.cells C 32)
  lt : w.heap.size + 1 < o
theorem blk_lt {w : World} {b : Nat} {x : Obj} (h : w.heap[b]? = some x) : b < w.heap.size := by
  rcases Nat.lt_or_ge b w.heap.size with h1 | h1
  · exact h1
  · rw [Array.getElem?_eq_none h1] at h; cases h
theorem TA.step {w : World} {N : List Value} {wx wy : World} (h : TA w N wx) (k : Below wx.heap.size wx wy) : TA w N wy := by
  have hl := blk_lt h.res
  exact ⟨range_below h.src (by omega) k, h.below.trans (k.mono h.below.size), by rw [k.block _ hl]; exact h.res⟩
theorem TA.make {w : World} {N : List Value} {wx : World} (h : TA w N wx) : TB w N wx.heap.size rf0 (wx.alloc (.cells rf0 32)) := by
  have hl := blk_lt h.res
  have h2 := h.step ((Below.refl wx.heap.size wx).alloc (Nat.le_refl _) (.cells rf0 32))
  exact ⟨h2.src, h2.below, h2.res, heap_alloc_new _ _, hl⟩
theorem TA.made {w : World} {N : List Value} {wx : World} (h : TA w N wx) (size : Int) (b t : ByteArray) : TB w N wx.heap.size (rfL size b t (.slice none 0 0)) (wx.alloc (.cells #[.int .i64 size, .string b, .string t, .slice none 0 0] 32)) := by
  have hl := blk_lt h.res
  have h2 := h.step ((Below.refl wx.heap.size wx).alloc (Nat.le_refl _) (.cells #[.int .i64 size, .string b, .string t, .slice none 0 0] 32))
  exact ⟨h2.src, h2.below, h2.res, heap_alloc_new _ _, hl⟩
theorem TB.step {w : World} {N : List Value} {o : Nat} {C : Array Value} {wx wy : World} (h : TB w N o C wx) (k : Below wx.heap.size wx wy) : TB w N o C wy := by
  have hl := blk_lt h.res
  exact ⟨range_below h.src (by omega) k, h.below.trans (k.mono h.below.size), by rw [k.block _ hl]; exact h.res, by rw [k.block _ (blk_lt h.out)]; exact h.out, h.lt⟩
theorem TB.grow {w : World} {N : List Value} {o : Nat} {C : Array Value} {wx wy : World} (h : TB w N o C wx) (k : Grew (fun z => o + 1 ≤ z) wx wy) : TB w N o C wy := by
  have hl := blk_lt h.res
  have h1 := h.lt
  refine ⟨fun j v hv => ?_, k.below h.below h.below.size (fun z hz => by omega), by rw [k.block _ hl (by omega)]; exact h.res, by rw [k.block _ (blk_lt h.out) (by omega)]; exact h.out, h1⟩
  rw [k.cell (p := ⟨w.heap.size, 0 + j, none⟩) (by show w.heap.size < _; omega) (by show ¬ o + 1 ≤ w.heap.size; omega)]
  exact h.src j v hv
theorem TB.drew {w : World} {N : List Value} {o : Nat} {C : Array Value} {wx : World} (h : TB w N o C wx) : TB w N o C wx.drew := ⟨h.src, h.below.drew, h.res, h.out, h.lt⟩
theorem TA.drew {w : World} {N : List Value} {wx : World} (h : TA w N wx) : TA w N wx.drew := ⟨h.src, h.below.drew, h.res⟩
theorem four {w : World} {x : Nat} {t : TypeId} {a b c d : Value} (h : w.heap[x]? = some (.cells #[a, b, c, d] t)) : w.cell? ⟨x, 0, none⟩ = some a ∧ w.cell? ⟨x, 1, none⟩ = some b ∧ w.cell? ⟨x, 2, none⟩ = some c ∧ w.cell? ⟨x, 3, none⟩ = some d ∧ ∀ k, w.frozen? ⟨x, k, none⟩ = false := by
  refine ⟨?_, ?_, ?_, ?_, fun k => ?_⟩ <;> simp [World.cell?, World.frozen?, h]
theorem TB.cells {w : World} {N : List Value} {o : Nat} {wx : World} (h : TB w N o rf0 wx) : wx.cell? ⟨o, 0, none⟩ = some (.int .i64 0) ∧ wx.cell? ⟨o, 1, none⟩ = some (.string ⟨#[]⟩) ∧ wx.cell? ⟨o, 2, none⟩ = some (.string ⟨#[]⟩) ∧ wx.cell? ⟨o, 3, none⟩ = some (.slice none 0 0) ∧ ∀ k, wx.frozen? ⟨o, k, none⟩ = false := four h.out
theorem blk_set {w : World} {b k : Nat} {C : Array Value} {t : TypeId} {v : Value} (h : w.heap[b]? = some (.cells C t)) : (w.setCell ⟨b, k, none⟩ v).heap[b]? = some (.cells (C.setIfInBounds k v) t) := by
  simp [World.setCell, Array.getElem?_modify, h]
theorem TB.set {w : World} {N : List Value} {o : Nat} {C : Array Value} {wx : World} (h : TB w N o C wx) (k : Nat) (v : Value) : TB w N o (C.setIfInBounds k v) (wx.setCell ⟨o, k, none⟩ v) := by
  have h1 := h.lt
  refine ⟨fun j x hx => ?_, h.below.setCell (by show w.heap.size ≤ o; omega) _, by rw [Below.heap_setCell _ _ _ _ (by show w.heap.size + 1 ≠ o; omega)]; exact h.res, blk_set h.out, h1⟩
  rw [World.cell?_of_block (w := wx) (by rw [Below.heap_setCell _ _ _ _ (by show w.heap.size ≠ o; omega)])]
  exact h.src j x hx
theorem TB.put {w : World} {N : List Value} {o : Nat} {wx : World} (h : TB w N o rf0 wx) (size : Int) (b t : ByteArray) : TB w N o (rfL size b t (.slice none 0 0)) ((((wx.setCell ⟨o, 0, none⟩ (.int .i64 size)).setCell ⟨o, 1, none⟩ (.string b)).setCell ⟨o, 2, none⟩ (.string t)).setCell ⟨o, 3, none⟩ (.slice none 0 0)) :=
  (((h.set 0 (.int .i64 size)).set 1 (.string b)).set 2 (.string t)).set 3 (.slice none 0 0)
theorem infoRI : (Tryd.prog.info? 55).map (fun i => (i.zero, i.size, i.bytes)) = some (some (.agg #[.int .i64 0, .string ⟨#[]⟩]), 2, 24) := by kernel_rfl
theorem its_ownR {w : World} {B : Nat} {v : Value} {l : List It} (h : w.ownsRow B 55 2 v l.length (itCells l)) : ItsAt w v l := by
  rcases h.2 with ⟨rfl, h0⟩ | ⟨b, cap, cur, rfl, _⟩
  · exact Or.inl ⟨List.eq_nil_of_length_eq_zero h0, rfl⟩
  · refine Or.inr ⟨b, cap, rfl, fun i x hx => ?_⟩
    obtain ⟨a1, a2⟩ := itCells_at l i x hx
    have c1 := h.cells (g := b) rfl _ _ a1
    have c2 := h.cells (g := b) rfl _ _ a2
    rw [Addr.add_mid, Nat.zero_add] at c1 c2
    exact ⟨c1, c2⟩
set_option maxRecDepth 100000 in
set_option maxHeartbeats 4000000 in
theorem told_any (size : Int) (base target : List UInt8) (v : Value) (l : List It) (w : World) (hb : base.length = 32) (ht : target.length = 32) (hv : ItsAt w v l) (hl : l.length ≤ 100000) :
    Calls Tryd.prog 8 #[.agg (stL size base target v).toArray] w fun e w' => ∃ v', e = .returned (.agg (rfL size ⟨base.toArray⟩ ⟨target.toArray⟩ v')) ∧ ItsAt w' v' l ∧ Below w.heap.size w w' := by
  obtain ⟨a, cap, rfl⟩ := hv.form
  obtain ⟨i0, hi, hz0, hz1, hz2⟩ := info_parts infoRI
  have HI0 := Lib.hid hi
  have HI1 := Lib.hid hz0
  have HI2 := Lib.hid hz1
  have HI3 := Lib.hid hz2
  have hr : ∀ N : List Value, ((w.alloc (.cells N.toArray 28)).alloc (.cells rf0 32)).rangeAt w.heap.size 0 N := fun N j x hx => by
    rw [Nat.zero_add, World.cell?_alloc_past (hn := by simp), World.cell?_alloc_new, List.getElem?_toArray, hx]
  have HK := Lib.hid fun wx => stL_parts (w := wx) (g := w.heap.size) (size := size) (v := .slice a l.length cap) hb ht
  have HIB : Hid ((Tryd.prog.info? 25).map (·.size) = some (cellsOf base).length) := Lib.hid (by rw [cellsOf_len, hb]; kernel_rfl)
  have HIT : Hid ((Tryd.prog.info? 25).map (·.size) = some (cellsOf target).length) := Lib.hid (by rw [cellsOf_len, ht]; kernel_rfl)
  have HTB := Lib.hid fun wx => text32 base hb wx
  have HTT := Lib.hid fun wx => text32 target ht wx
  obtain ⟨DB, hDB⟩ : ∃ DB : ByteArray, ⟨base.toArray⟩ = DB := ⟨_, rfl⟩
  obtain ⟨DT, hDT⟩ : ∃ DT : ByteArray, ⟨target.toArray⟩ = DT := ⟨_, rfl⟩
  rw [hDB] at HTB ⊢
  rw [hDT] at HTT ⊢
  have HV := Lib.hid hv
  have HL := Lib.hid hl
  have hrN := hr (stL size base target (.slice a l.length cap))
  generalize stL size base target (.slice a l.length cap) = N at *
  obtain ⟨XB, hXB⟩ : ∃ XB, cellsOf base = XB := ⟨_, rfl⟩
  obtain ⟨XT, hXT⟩ : ∃ XT, cellsOf target = XT := ⟨_, rfl⟩
  rw [hXB] at HIB HTB
  rw [hXT] at HIT HTT
  rw [hXB, hXT] at HK
  have h0 : TA w N ((w.alloc (.cells N.toArray 28)).alloc (.cells rf0 32)) := ⟨hrN, ((Below.refl _ w).alloc (Nat.le_refl _) _).alloc (by simp) _, by
    have := heap_alloc_new (w.alloc (.cells N.toArray 28)) (.cells rf0 32)
    simpa using this⟩
  obtain ⟨W, hW⟩ : ∃ W, (w.alloc (.cells N.toArray 28)).alloc (.cells rf0 32) = W := ⟨_, rfl⟩
  rw [hW] at h0
  have H0 := Lib.hid h0.drew
  have H00 := Lib.hid h0
  have HWe := Lib.hid hW
  have HWs : Hid (W.heap.size = w.heap.size + 2) := Lib.hid (by rw [← hW]; simp)
  clear hv hl hDB hDT hrN hr hW hXB hXT hb ht h0 hi hz0 hz1 hz2
  go_enter Tryd.func8, Tryd.ntmps8
  go_upto_region 1 with fail
  rw [HWe.out]
  go_cut [3] (fun s3 wx => ∃ o, s3 = .pointer (some ⟨o, 0, none⟩) ∧ TB w N o (rfL size DB DT (.slice none 0 0)) wx)
  case first =>
    refine wp_region_held_drew (S := fun wx => wx.cell? ⟨w.heap.size, 0, none⟩ = some (.int .i64 size) ∧ wx.rangeAt w.heap.size 1 XB ∧ wx.rangeAt w.heap.size 33 XT ∧ wx.cell? ⟨w.heap.size, 65, none⟩ = some (.slice a l.length cap)) (by kernel_rfl) (HK.out _ H0.out.src) (fun hHeld => ?_)
    refine wpAnyH_take (i := 0) (oi := { dst := some 6, op := Op.fieldAddr 28 (Operand.tmp 1) 0, type := 0, pos := "law.go:25", after := #[], guard := none }) (v := ?_) rfl (by kernel_rfl) (by kernel_rfl) (by kernel_rfl) (fun _ _ _ h => h) (Or.inl ⟨by rfl, ?_⟩) (by assumption) ?_
    rotate_left
    · (intro wz hSw; (try obtain ⟨hs0, hs1, hs2, hs3⟩ := hSw); go_simp; try with_reducible rfl)
    try simp only [Act.put, List.setIfInBounds_toArray, List.set_cons_zero, List.set_cons_succ]
    refine wpAnyH_take (i := 1) (oi := { dst := some 7, op := Op.load 3 (Operand.tmp 6), type := 3, pos := "law.go:25", after := #[{ on := 0, ground := Ground.data }], guard := none }) (v := ?_) rfl (by kernel_rfl) (by kernel_rfl) (by kernel_rfl) (fun _ _ _ h => h) (Or.inl ⟨by rfl, ?_⟩) (by assumption) ?_
    rotate_left
    · (intro wz hSw; (try obtain ⟨hs0, hs1, hs2, hs3⟩ := hSw); go_simp; try with_reducible rfl)
    try simp only [Act.put, List.setIfInBounds_toArray, List.set_cons_zero, List.set_cons_succ]
    refine wpAnyH_take (i := 2) (oi := { dst := some 8, op := Op.fieldAddr 28 (Operand.tmp 1) 1, type := 0, pos := "law.go:25", after := #[], guard := none }) (v := ?_) rfl (by kernel_rfl) (by kernel_rfl) (by kernel_rfl) (fun _ _ _ h => h) (Or.inl ⟨by rfl, ?_⟩) (by assumption) ?_
    rotate_left
    · (intro wz hSw; (try obtain ⟨hs0, hs1, hs2, hs3⟩ := hSw); go_simp; try with_reducible rfl)
    try simp only [Act.put, List.setIfInBounds_toArray, List.set_cons_zero, List.set_cons_succ]
    refine wpAnyH_take (i := 3) (oi := { dst := some 9, op := Op.load 25 (Operand.tmp 8), type := 25, pos := "law.go:25", after := #[{ on := 2, ground := Ground.data }], guard := none }) rfl (by kernel_rfl) (by kernel_rfl) (by kernel_rfl) (fun _ _ _ h => h) (yieldsIf_load_mid (by rfl) _ _ rfl w.heap.size 1 rfl XB _ (fun wz hz => hz.2.1) Tryd.underlying25 rfl HIB.out) (by assumption) ?_
    try simp only [Act.put, List.setIfInBounds_toArray, List.set_cons_zero, List.set_cons_succ]
    refine wpAnyH_take (i := 5) (oi := { dst := some 11, op := Op.fieldAddr 28 (Operand.tmp 1) 2, type := 0, pos := "law.go:25", after := #[], guard := none }) (v := ?_) rfl (by kernel_rfl) (by kernel_rfl) (by kernel_rfl) (fun _ _ _ h => h) (Or.inl ⟨by rfl, ?_⟩) (by assumption) ?_
    rotate_left
    · (intro wz hSw; (try obtain ⟨hs0, hs1, hs2, hs3⟩ := hSw); go_simp; try with_reducible rfl)
    try simp only [Act.put, List.setIfInBounds_toArray, List.set_cons_zero, List.set_cons_succ]
    refine wpAnyH_take (i := 6) (oi := { dst := some 12, op := Op.load 25 (Operand.tmp 11), type := 25, pos := "law.go:25", after := #[{ on := 5, ground := Ground.data }], guard := none }) rfl (by kernel_rfl) (by kernel_rfl) (by kernel_rfl) (fun _ _ _ h => h) (yieldsIf_load_mid (by rfl) _ _ rfl w.heap.size 33 rfl XT _ (fun wz hz => hz.2.2.1) Tryd.underlying25 rfl HIT.out) (by assumption) ?_
    try simp only [Act.put, List.setIfInBounds_toArray, List.set_cons_zero, List.set_cons_succ]
    refine wpAnyH_ready (rs := [4, 9]) (by kernel_rfl) (by simp) ?_
    refine AllReadyH.cons (o := { dst := some 10, op := Op.call { callee := Callee.value (Operand.func 20), args := #[Operand.tmp 9], argTypes := #[25] }, type := 9, pos := "law.go:25", after := #[{ on := 3, ground := Ground.data }], guard := none }) rfl (fun K hK => ?_) (AllReadyH.cons (o := { dst := some 3, op := Op.alloc 32, type := 0, pos := "law.go:25", after := #[], guard := none }) rfl (fun K hK => ?_) AllReadyH.nil)
    · go_simp
      refine (HTB.out _).mono ?_
      rintro e w1 ⟨rfl, hb⟩
      have H1 := Lib.hid (H0.out.step hb)
      have q1 := H1.out
      clear hb
      refine hK.out _ _ (HK.out _ H1.out.src) (fun hHeld => ?_)
      clear hK K
      try simp only [Act.put, List.setIfInBounds_toArray, List.set_cons_zero, List.set_cons_succ]
      refine wpAnyH_ready (rs := [7, 9]) (by kernel_rfl) (by simp) ?_
      refine AllReadyH.cons (o := { dst := some 13, op := Op.call { callee := Callee.value (Operand.func 20), args := #[Operand.tmp 12], argTypes := #[25] }, type := 9, pos := "law.go:25", after := #[{ on := 6, ground := Ground.data }, { on := 4, ground := Ground.chain }], guard := none }) rfl (fun K hK => ?_) (AllReadyH.cons (o := { dst := some 3, op := Op.alloc 32, type := 0, pos := "law.go:25", after := #[], guard := none }) rfl (fun K hK => ?_) AllReadyH.nil)
      · go_simp
        refine (HTT.out _).mono ?_
        rintro e w2 ⟨rfl, hb⟩
        have H2 := Lib.hid (H1.out.step hb)
        have q2 := H2.out
        clear hb
        refine hK.out _ _ (HK.out _ H2.out.src) (fun hHeld => ?_)
        clear hK K
        try simp only [Act.put, List.setIfInBounds_toArray, List.set_cons_zero, List.set_cons_succ]
        refine wpAnyH_take (i := 8) (oi := { dst := some 14, op := Op.build 32 #[(0, Operand.tmp 7), (1, Operand.tmp 10), (2, Operand.tmp 13)], type := 32, pos := "law.go:25", after := #[{ on := 1, ground := Ground.data }, { on := 4, ground := Ground.data }, { on := 7, ground := Ground.data }], guard := none }) (v := ?_) rfl (by kernel_rfl) (by kernel_rfl) (by kernel_rfl) (fun _ _ _ h => h) (Or.inl ⟨by rfl, ?_⟩) (by assumption) ?_
        rotate_left
        · (intro wz hSw; (try obtain ⟨hs0, hs1, hs2, hs3⟩ := hSw); go_simp; try with_reducible rfl)
        try simp only [Act.put, List.setIfInBounds_toArray, List.set_cons_zero, List.set_cons_succ]
        refine wpAnyH_ready (rs := [9]) (by kernel_rfl) (by simp) ?_
        refine AllReadyH.cons (o := { dst := some 3, op := Op.alloc 32, type := 0, pos := "law.go:25", after := #[], guard := none }) rfl (fun K hK => ?_) AllReadyH.nil
        go_simp
        have H9 := Lib.hid (H2.out.make)
        refine hK.out _ _ (HK.out _ H9.out.src) (fun hHeld => ?_)
        clear hK K
        try simp only [Act.put, List.setIfInBounds_toArray, List.set_cons_zero, List.set_cons_succ]
        refine wpAnyH_ready (rs := [10]) (by kernel_rfl) (by simp) ?_
        refine AllReadyH.cons (o := { dst := none, op := Op.store 32 (Operand.tmp 3) (Operand.tmp 14), type := 0, pos := "law.go:25", after := #[{ on := 9, ground := Ground.data }, { on := 8, ground := Ground.data }, { on := 7, ground := Ground.chain }, { on := 0, ground := Ground.phase }, { on := 1, ground := Ground.phase }, { on := 2, ground := Ground.phase }, { on := 3, ground := Ground.phase }, { on := 4, ground := Ground.phase }, { on := 5, ground := Ground.phase }, { on := 6, ground := Ground.phase }, { on := 7, ground := Ground.phase }, { on := 8, ground := Ground.phase }, { on := 9, ground := Ground.phase }], guard := none }) rfl (fun K hK => ?_) AllReadyH.nil
        go_simp
        refine hK.out _ _ (HK.out _ (H2.out.made size DB DT).src) (fun hHeld => ?_)
        clear hK K
        try simp only [Act.put, List.setIfInBounds_toArray, List.set_cons_zero, List.set_cons_succ]
        refine wpAnyH_done (by kernel_rfl) ?_ _
        go_wp2_with fail
        go_meet
        exact ⟨_, rfl, H2.out.made size DB DT⟩
      · go_simp
        have H3 := Lib.hid (H1.out.make)
        refine hK.out _ _ (HK.out _ H3.out.src) (fun hHeld => ?_)
        clear hK K
        try simp only [Act.put, List.setIfInBounds_toArray, List.set_cons_zero, List.set_cons_succ]
        refine wpAnyH_ready (rs := [7]) (by kernel_rfl) (by simp) ?_
        refine AllReadyH.cons (o := { dst := some 13, op := Op.call { callee := Callee.value (Operand.func 20), args := #[Operand.tmp 12], argTypes := #[25] }, type := 9, pos := "law.go:25", after := #[{ on := 6, ground := Ground.data }, { on := 4, ground := Ground.chain }], guard := none }) rfl (fun K hK => ?_) AllReadyH.nil
        go_simp
        refine (HTT.out _).mono ?_
        rintro e w4 ⟨rfl, hb⟩
        have H4 := Lib.hid (H3.out.step hb)
        clear hb
        refine hK.out _ _ (HK.out _ H4.out.src) (fun hHeld => ?_)
        clear hK K
        try simp only [Act.put, List.setIfInBounds_toArray, List.set_cons_zero, List.set_cons_succ]
        obtain ⟨c0, c1, c2, c3, cz⟩ := H4.out.cells
        refine wpAnyH_take (i := 8) (oi := { dst := some 14, op := Op.build 32 #[(0, Operand.tmp 7), (1, Operand.tmp 10), (2, Operand.tmp 13)], type := 32, pos := "law.go:25", after := #[{ on := 1, ground := Ground.data }, { on := 4, ground := Ground.data }, { on := 7, ground := Ground.data }], guard := none }) (v := ?_) rfl (by kernel_rfl) (by kernel_rfl) (by kernel_rfl) (fun _ _ _ h => h) (Or.inl ⟨by rfl, ?_⟩) (by assumption) ?_
        rotate_left
        · (intro wz hSw; (try obtain ⟨hs0, hs1, hs2, hs3⟩ := hSw); go_simp; try with_reducible rfl)
        try simp only [Act.put, List.setIfInBounds_toArray, List.set_cons_zero, List.set_cons_succ]
        refine wpAnyH_ready (rs := [10]) (by kernel_rfl) (by simp) ?_
        refine AllReadyH.cons (o := { dst := none, op := Op.store 32 (Operand.tmp 3) (Operand.tmp 14), type := 0, pos := "law.go:25", after := #[{ on := 9, ground := Ground.data }, { on := 8, ground := Ground.data }, { on := 7, ground := Ground.chain }, { on := 0, ground := Ground.phase }, { on := 1, ground := Ground.phase }, { on := 2, ground := Ground.phase }, { on := 3, ground := Ground.phase }, { on := 4, ground := Ground.phase }, { on := 5, ground := Ground.phase }, { on := 6, ground := Ground.phase }, { on := 7, ground := Ground.phase }, { on := 8, ground := Ground.phase }, { on := 9, ground := Ground.phase }], guard := none }) rfl (fun K hK => ?_) AllReadyH.nil
        go_simp
        refine hK.out _ _ (HK.out _ (H4.out.put size DB DT).src) (fun hHeld => ?_)
        clear hK K
        try simp only [Act.put, List.setIfInBounds_toArray, List.set_cons_zero, List.set_cons_succ]
        refine wpAnyH_done (by kernel_rfl) ?_ _
        go_wp2_with fail
        go_meet
        exact ⟨_, rfl, H4.out.put size DB DT⟩
    · go_simp
      have H1 := Lib.hid (H00.out.make.drew)
      refine hK.out _ _ (HK.out _ H1.out.src) (fun hHeld => ?_)
      clear hK K
      try simp only [Act.put, List.setIfInBounds_toArray, List.set_cons_zero, List.set_cons_succ]
      refine wpAnyH_ready (rs := [4]) (by kernel_rfl) (by simp) ?_
      refine AllReadyH.cons (o := { dst := some 10, op := Op.call { callee := Callee.value (Operand.func 20), args := #[Operand.tmp 9], argTypes := #[25] }, type := 9, pos := "law.go:25", after := #[{ on := 3, ground := Ground.data }], guard := none }) rfl (fun K hK => ?_) AllReadyH.nil
      go_simp
      refine (HTB.out _).mono ?_
      rintro e w2 ⟨rfl, hb⟩
      have H2 := Lib.hid (H1.out.step hb)
      clear hb
      refine hK.out _ _ (HK.out _ H2.out.src) (fun hHeld => ?_)
      clear hK K
      try simp only [Act.put, List.setIfInBounds_toArray, List.set_cons_zero, List.set_cons_succ]
      refine wpAnyH_ready (rs := [7]) (by kernel_rfl) (by simp) ?_
      refine AllReadyH.cons (o := { dst := some 13, op := Op.call { callee := Callee.value (Operand.func 20), args := #[Operand.tmp 12], argTypes := #[25] }, type := 9, pos := "law.go:25", after := #[{ on := 6, ground := Ground.data }, { on := 4, ground := Ground.chain }], guard := none }) rfl (fun K hK => ?_) AllReadyH.nil
      go_simp
      refine (HTT.out _).mono ?_
      rintro e w3 ⟨rfl, hb⟩
      have H3 := Lib.hid (H2.out.step hb)
      clear hb
      refine hK.out _ _ (HK.out _ H3.out.src) (fun hHeld => ?_)
      clear hK K
      try simp only [Act.put, List.setIfInBounds_toArray, List.set_cons_zero, List.set_cons_succ]
      obtain ⟨c0, c1, c2, c3, cz⟩ := H3.out.cells
      refine wpAnyH_take (i := 8) (oi := { dst := some 14, op := Op.build 32 #[(0, Operand.tmp 7), (1, Operand.tmp 10), (2, Operand.tmp 13)], type := 32, pos := "law.go:25", after := #[{ on := 1, ground := Ground.data }, { on := 4, ground := Ground.data }, { on := 7, ground := Ground.data }], guard := none }) (v := ?_) rfl (by kernel_rfl) (by kernel_rfl) (by kernel_rfl) (fun _ _ _ h => h) (Or.inl ⟨by rfl, ?_⟩) (by assumption) ?_
      rotate_left
      · (intro wz hSw; (try obtain ⟨hs0, hs1, hs2, hs3⟩ := hSw); go_simp; try with_reducible rfl)
      try simp only [Act.put, List.setIfInBounds_toArray, List.set_cons_zero, List.set_cons_succ]
      refine wpAnyH_ready (rs := [10]) (by kernel_rfl) (by simp) ?_
      refine AllReadyH.cons (o := { dst := none, op := Op.store 32 (Operand.tmp 3) (Operand.tmp 14), type := 0, pos := "law.go:25", after := #[{ on := 9, ground := Ground.data }, { on := 8, ground := Ground.data }, { on := 7, ground := Ground.chain }, { on := 0, ground := Ground.phase }, { on := 1, ground := Ground.phase }, { on := 2, ground := Ground.phase }, { on := 3, ground := Ground.phase }, { on := 4, ground := Ground.phase }, { on := 5, ground := Ground.phase }, { on := 6, ground := Ground.phase }, { on := 7, ground := Ground.phase }, { on := 8, ground := Ground.phase }, { on := 9, ground := Ground.phase }], guard := none }) rfl (fun K hK => ?_) AllReadyH.nil
      go_simp
      refine hK.out _ _ (HK.out _ (H3.out.put size DB DT).src) (fun hHeld => ?_)
      clear hK K
      try simp only [Act.put, List.setIfInBounds_toArray, List.set_cons_zero, List.set_cons_succ]
      refine wpAnyH_done (by kernel_rfl) ?_ _
      go_wp2_with fail
      go_meet
      exact ⟨_, rfl, H3.out.put size DB DT⟩
  case rest =>
    obtain ⟨o, rfl, hTB⟩ := hcut
    have HT1 := Lib.hid hTB
    have c65 := (HK.out _ hTB.src).2.2.2
    clear hTB H0 H00
    go_wp2_with fail
    go_loopw [18] (fun i wx => ∃ (k : Nat) (v' : Value), k ≤ l.length ∧ i = .int .i64 (k : Int) ∧ TB w N o (rfL size DB DT v') wx ∧ wx.ownsRow (o + 1) 55 2 v' k (itCells (l.take k))) (fun i _ => l.length - (intOf i).toNat)
    case atStart => exact ⟨0, .slice none 0 0, by omega, rfl, HT1.out, ⟨rfl, Or.inl ⟨rfl, rfl⟩⟩⟩
    case round =>
      clear c65 HT1
      obtain ⟨k, v', hk, rfl, htb, hown⟩ := hrel
      have HT := Lib.hid htb
      have HO := Lib.hid hown
      obtain ⟨o0, o1, o2, o3, oz⟩ := four htb.out
      obtain ⟨r0, r1, r2, r3, rz⟩ := four htb.res
      have hHv := HV.out.below htb.below
      have hob := blk_lt htb.out
      clear htb hown
      by_cases hlt : k < l.length
      · have i0' : (k : Int) < (l.length : Int) := by omega
        obtain ⟨x, hx⟩ : ∃ x, l[k]? = some x := ⟨_, List.getElem?_eq_getElem hlt⟩
        obtain ⟨b, rfl, x0, x1⟩ := hHv.at hx
        have HTk : Hid (itCells (l.take (k + 1)) = itCells (l.take k) ++ [.int .i64 x.pl, .string ⟨x.dt.toArray⟩]) := Lib.hid (by
          obtain ⟨hk', e⟩ := List.getElem?_eq_some_iff.1 hx
          rw [List.take_succ_eq_append_getElem hk', e, itCells_snoc])
        have HW1 := Lib.hid (HT.out.step ((Below.refl _ wr).alloc (Nat.le_refl _) (.cells #[.int .i64 x.pl, .string ⟨x.dt.toArray⟩] 51)))
        have HW2 := Lib.hid (HW1.out.step ((Below.refl _ _).alloc (Nat.le_refl _) (.cells #[.int .i64 x.pl, .string ⟨x.dt.toArray⟩] 55)))
        have HOw := Lib.hid ((HO.out.alloc (.cells #[.int .i64 x.pl, .string ⟨x.dt.toArray⟩] 51)).alloc (.cells #[.int .i64 x.pl, .string ⟨x.dt.toArray⟩] 55))
        have HNw : Hid (∀ j u, [Value.int .i64 x.pl, .string ⟨x.dt.toArray⟩][j]? = some u → ((wr.alloc (.cells #[.int .i64 x.pl, .string ⟨x.dt.toArray⟩] 51)).alloc (.cells #[.int .i64 x.pl, .string ⟨x.dt.toArray⟩] 55)).cell? ((⟨wr.heap.size + 1, 0, none⟩ : Addr).add j) = some u) := Lib.hid (by
          intro j u hu
          have hs1 : (wr.alloc (.cells #[.int .i64 x.pl, .string ⟨x.dt.toArray⟩] 51)).heap.size = wr.heap.size + 1 := by simp
          rw [Addr.add_mid, Nat.zero_add, ← hs1, World.cell?_alloc_new, ← hu]
          simp)
        have HOn : Hid (∀ u ∈ [Value.int .i64 x.pl, .string ⟨x.dt.toArray⟩], u.oneCell' = true) := Lib.hid (by
          intro u hu
          simp at hu
          rcases hu with rfl | rfl <;> rfl)
        have HLk : Hid (k + 1 ≤ 100000) := Lib.hid (by have := HL.out; omega)
        have HSz : Hid (o + 1 ≤ ((wr.alloc (.cells #[.int .i64 x.pl, .string ⟨x.dt.toArray⟩] 51)).alloc (.cells #[.int .i64 x.pl, .string ⟨x.dt.toArray⟩] 55)).heap.size) := Lib.hid (by simp; omega)
        have p3 : ((wr.alloc (.cells #[.int .i64 x.pl, .string ⟨x.dt.toArray⟩] 51))).cell? ⟨o, 3, none⟩ = some v' := (four HW1.out.out).2.2.2.1
        have HNext : Hid (∀ v2 w1, w1.ownsRow (o + 1) 55 2 v2 (k + 1) (itCells (l.take k) ++ [.int .i64 x.pl, .string ⟨x.dt.toArray⟩]) → ((wr.alloc (.cells #[.int .i64 x.pl, .string ⟨x.dt.toArray⟩] 51)).alloc (.cells #[.int .i64 x.pl, .string ⟨x.dt.toArray⟩] 55)).grownBy w1 v'.ownBlock → (w1.cell? ⟨o, 3, none⟩ = some v' ∧ w1.frozen? ⟨o, 3, none⟩ = false) ∧ TB w N o (rfL size DB DT v2) (w1.setCell ⟨o, 3, none⟩ v2) ∧ (w1.setCell ⟨o, 3, none⟩ v2).ownsRow (o + 1) 55 2 v2 (k + 1) (itCells (l.take (k + 1)))) := Lib.hid (by
          intro v2 w1 h1 hg
          have g : Grew (fun z => o + 1 ≤ z) _ w1 := (Grew.refl _).grown hg (fun z _ e => (HOw.out.lt z e).1)
          have ht := HW2.out.grow g
          refine ⟨⟨(four ht.out).2.2.2.1, (four ht.out).2.2.2.2 3⟩, ht.set 3 v2, ?_⟩
          rw [HTk.out]
          exact own_grew h1 ((Grew.refl (S := fun z => z = o) w1).setCell ⟨o, 3, none⟩ v2 (fun _ => rfl)) (fun z e => by subst e; omega))
        have hk9 : (k : Int) < 100000 := by have := HLk.out; omega
        clear hx hHv o0 o1 o2 o3 oz r0 r1 r2 r3 rz hob
        go_wp2_with (at_builtin; refine wpList_append_lies _ rfl _ _ 30 rfl (o + 1) 55 i0 (.agg #[.int .i64 0, .string ⟨#[]⟩]) 2 24 Tryd.underlying30 HI0.out HI1.out HI2.out HI3.out rfl (by decide) v' k (itCells (l.take k)) rfl HOw.out ⟨wr.heap.size + 1, 0, none⟩ 1 1 [.int .i64 x.pl, .string ⟨x.dt.toArray⟩] rfl rfl HNw.out HOn.out (by decide) (by have := HLk.out; unfold maxLen; omega) (by have := HLk.out; omega) HSz.out _ rfl ?_)
        intro g1 cap1 w1 hs1 hg1 _ _
        obtain ⟨⟨n1, n2⟩, n3, n4⟩ := HNext.out _ _ hs1 hg1
        have HN3 := Lib.hid n3
        have HN4 := Lib.hid n4
        clear hs1 hg1 n3 n4 HNext HOw HNw
        go_wp2_with fail
        go_roundw
        case rel => exact ⟨k + 1, _, by omega, by go_num, HN3.out, HN4.out⟩
        case measure => simp [intOf]; omega
      · obtain rfl : k = l.length := by omega
        have i0' : ¬ (l.length : Int) < (l.length : Int) := by omega
        have hown := HO.out
        rw [List.take_length] at hown
        have hit := its_ownR hown
        obtain ⟨a', cap', rfl⟩ := hit.form
        have HIt := Lib.hid hit
        clear hit
        have hlt' := HO.out.lt
        have HFin : Hid (∀ w2, ((((wr.setCell ⟨w.heap.size + 1, 0, none⟩ (.int .i64 size)).setCell ⟨w.heap.size + 1, 1, none⟩ (.string DB)).setCell ⟨w.heap.size + 1, 2, none⟩ (.string DT)).setCell ⟨w.heap.size + 1, 3, none⟩ (.slice a' l.length cap')) = w2 → w2.heap[w.heap.size + 1]? = some (.cells #[.int .i64 size, .string DB, .string DT, .slice a' l.length cap'] 32) ∧ ItsAt w2 (.slice a' l.length cap') l ∧ Below w.heap.size w w2) := Lib.hid (by
          rintro w2 rfl
          have q0 := HT.out.res
          have q1 := blk_set (k := 0) (v := .int .i64 size) q0
          have q2 := blk_set (k := 1) (v := .string DB) q1
          have q3 := blk_set (k := 2) (v := .string DT) q2
          have q4 := blk_set (k := 3) (v := .slice a' l.length cap') q3
          refine ⟨q4, its_grew HIt.out ((((Grew.refl (S := fun z => z = w.heap.size + 1) wr).setCell _ _ (fun _ => rfl)).setCell _ _ (fun _ => rfl)).setCell _ _ (fun _ => rfl) |>.setCell _ _ (fun _ => rfl)) (fun z hz e => by have := (hlt' z hz).1; have := HT.out.lt; omega), (((HT.out.below.setCell (by show w.heap.size ≤ w.heap.size + 1; omega) _).setCell (by show w.heap.size ≤ w.heap.size + 1; omega) _).setCell (by show w.heap.size ≤ w.heap.size + 1; omega) _).setCell (by show w.heap.size ≤ w.heap.size + 1; omega) _⟩)
        clear hown hlt' hHv hob
        go_wp2_with fail
        obtain ⟨w2, hw2⟩ : ∃ w2, ((((wr.setCell ⟨w.heap.size + 1, 0, none⟩ (.int .i64 size)).setCell ⟨w.heap.size + 1, 1, none⟩ (.string DB)).setCell ⟨w.heap.size + 1, 2, none⟩ (.string DT)).setCell ⟨w.heap.size + 1, 3, none⟩ (.slice a' l.length cap')) = w2 := ⟨_, rfl⟩
        obtain ⟨k1, k2, k3⟩ := HFin.out w2 hw2
        rw [hw2]
        obtain ⟨f0, f1, f2, f3, _⟩ := four k1
        refine bodyPost_ret (v := .agg (rfL size DB DT (.slice a' l.length cap'))) ?_ rfl ⟨_, rfl, k2, k3⟩
        simp [results, Tryd.results8, go_sem, f0, f1, f2, f3, rfL]
end Go.Proofs.YtpgmgopcgoblhaaDoor
