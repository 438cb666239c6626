/-
  CrcThree: for every three texts (of which at most 80 bytes are taken), the law answers true.
-/
import Derived.Test.YtijbgbdimcnfpaaCrcThreeSt
import Derived.Deep.RegionHeld3
import Derived.Deep.DeepCutAuto
import Derived.RegionTactic
import Derived.BigRegion
namespace Go.Proofs.Ytijbgbdimcnfpaa
open Go.RowKit
theorem extract_list (t : ByteArray) (i j : Nat) : (t.extract i j).data.toList = (t.data.toList.take j).drop i := by
  rw [ByteArray.data_extract, Array.toList_extract, List.extract_eq_take_drop, List.drop_take]
theorem three_len (a b c : List UInt8) : (Crc.three a b c).length = min (min a.length b.length) c.length := by simp [Crc.three]
theorem three_at (a b c : ByteArray) (n k : Nat) (ha : n ≤ a.size) (hb : n ≤ b.size) (hc : n ≤ c.size) (hk : k < n) :
    bits .xor .u8 (bits .xor .u8 ((a[k]'(by omega)).toNat : Int) ((b[k]'(by omega)).toNat : Int)) ((c[k]'(by omega)).toNat : Int) =
      (((Crc.three (a.data.toList.take n) (b.data.toList.take n) (c.data.toList.take n)).getD k 0).toNat : Int) := by
  have h1 := (a[k]'(by omega)).toNat_lt
  have h2 := (b[k]'(by omega)).toNat_lt
  have h3 := (c[k]'(by omega)).toNat_lt
  rw [u8_xor_nat _ _ h1 h2, u8_xor_nat _ _ (Nat.xor_lt_two_pow (n := 8) h1 h2) h3]
  have e : (Crc.three (a.data.toList.take n) (b.data.toList.take n) (c.data.toList.take n)).getD k 0 = a[k]'(by omega) ^^^ b[k]'(by omega) ^^^ c[k]'(by omega) := by
    rw [List.getD_eq_getElem?_getD, List.getElem?_eq_getElem (by rw [three_len]; simp; omega)]
    simp [Crc.three]
    rfl
  rw [e, UInt8.toNat_xor, UInt8.toNat_xor]

theorem info8 : (Try.prog.info? 5).map (fun i => (i.zero, i.size, i.bytes)) = some (some (.int .u8 0), 1, 1) := by kernel_rfl
theorem made_zero (n j : Nat) (h : j < n) : (madeCells (Value.int .u8 0).cells n)[j]? = some (.int .u8 0) := by
  unfold madeCells
  simp [h, Value.cells, Nat.mod_one]
theorem make_bytes (w : World) (n : Nat) (h : n ≤ 1000) :
    (Instr.makeSlice 22 (.int .i64 n) (.int .i64 n)).run Try.prog w = .ok (.slice (some ⟨w.heap.size, 0, none⟩) n n) (w.alloc (.cells (madeCells (Value.int .u8 0).cells n) 5)) := by
  obtain ⟨i0, hi, hz0, hz1, hz2⟩ := info_parts info8
  have h := run_make (P := Try.prog) w 22 5 i0 (.int .u8 0) Try.underlying22 hi hz0 .i64 .i64 n n (by omega) (by omega) (by rw [hz2]; omega) (by omega)
  rw [hz1] at h
  simpa using h
theorem rowIs_made (w : World) (n : Nat) : RowIs w.heap.size n (fun _ => 0) (w.alloc (.cells (madeCells (Value.int .u8 0).cells n) 5)) := by
  refine ⟨by simp, fun j hj => ?_⟩
  rw [World.cell?_alloc_new, made_zero n j hj]
  refine ⟨rfl, ?_⟩
  rw [World.frozen?_alloc_mark]
  simp

theorem least (a b c : Nat) : ∃ n : Nat, n ≤ a ∧ n ≤ b ∧ n ≤ c ∧ n ≤ 80 ∧
    (if (80 : Int) < (if (c : Int) < (if (b : Int) < (a : Int) then (b : Int) else (a : Int)) then (c : Int) else (if (b : Int) < (a : Int) then (b : Int) else (a : Int))) then 80
      else (if (c : Int) < (if (b : Int) < (a : Int) then (b : Int) else (a : Int)) then (c : Int) else (if (b : Int) < (a : Int) then (b : Int) else (a : Int)))) = (n : Int) := by
  refine ⟨min (min (min a b) c) 80, by omega, by omega, by omega, by omega, ?_⟩
  repeat' split
  all_goals omega

theorem run_min4 (P : Program) (w : World) (ts : Array TypeId) (t : TypeId) (x y z u n : Int)
    (h : (if u < (if z < (if y < x then y else x) then z else (if y < x then y else x)) then u else (if z < (if y < x then y else x) then z else (if y < x then y else x))) = n) :
    (Builtin.min_ ts t #[.int .i64 x, .int .i64 y, .int .i64 z, .int .i64 u]).run P w = .ok (.int .i64 n) w := by
  rw [← h]
  simp [Builtin.min_, Builtin.min2]

theorem row_step {b n k : Nat} {L : List UInt8} {w : World} (h : RowIs b n (fun j => if j < k then (L.getD j 0).toNat else 0) w) (hk : k < n) :
    RowIs b n (fun j => if j < k + 1 then (L.getD j 0).toNat else 0) (w.setCell ⟨b, k, none⟩ (.int .u8 ((L[k]?.getD 0).toNat : Nat))) := by
  refine h.set k _ hk ?_ ?_
  · simp
  · intro j hj
    by_cases hjk : j < k
    · rw [if_pos hjk, if_pos (by omega)]
    · rw [if_neg hjk, if_neg (by omega)]
theorem three_sum (a b c : ByteArray) (n : Nat) (ha : n ≤ a.size) (hb : n ≤ b.size) (hc : n ≤ c.size) :
    Crc.sum (Crc.three (a.data.toList.take n) (b.data.toList.take n) (c.data.toList.take n)) = Crc.sum (a.extract 0 n).data.toList ^^^ Crc.sum (b.extract 0 n).data.toList ^^^ Crc.sum (c.extract 0 n).data.toList := by
  rw [extract_list, extract_list, extract_list, List.drop_zero, List.drop_zero, List.drop_zero]
  exact Crc.sum_three _ _ _ (by simp; omega) (by simp; omega)

theorem below4 {W w w' : World} (h : Below W.heap.size W w) (k : Below w.drew.heap.size w.drew w') (o1 o2 o3 o4 : Obj) : Below W.heap.size W ((((w'.alloc o1).alloc o2).alloc o3).alloc o4) := by
  have hs := h.size
  have k' : Below W.heap.size w.drew w' := k.mono hs
  have h0 : Below W.heap.size W w' := h.drew.trans k'
  have h1 := h0.size
  exact (((h0.alloc h1 _).alloc (by simp; omega) _).alloc (by simp; omega) _).alloc (by simp; omega) _
theorem three_value (a b c : ByteArray) (k n : Nat) (h : n = Crc.sum (a.extract 0 k).data.toList ^^^ Crc.sum (b.extract 0 k).data.toList ^^^ Crc.sum (c.extract 0 k).data.toList) :
    ((n : Int) == bits BinOp.xor IntKind.u32 (bits BinOp.xor IntKind.u32 ((Crc.sum (a.extract 0 k).data.toList : Nat) : Int) ((Crc.sum (b.extract 0 k).data.toList : Nat) : Int)) ((Crc.sum (c.extract 0 k).data.toList : Nat) : Int)) = true := by
  rw [u32_xor_nat _ _ (Crc.sum_lt _) (Crc.sum_lt _), u32_xor_nat _ _ (Crc.xor_lt _ _ (Crc.sum_lt _) (Crc.sum_lt _)) (Crc.sum_lt _), h]
  simp
theorem sum_via (F : ByteArray → Nat) (hF : ∀ s : ByteArray, Crc.sum s.data.toList = F s) (b cap : Nat) (s : ByteArray) (w : World) (hs : s.size ≤ maxLen) (hc : w.cell? ⟨b, 0, none⟩ = some (.string s)) :
    Calls Try.prog 5 #[.slice (some ⟨b, 0, none⟩) 1 cap] w fun e w' => e = .returned (.int .u32 (F s)) ∧ w = w' :=
  sum_one b cap _ s w (hF s) hs hc
theorem ex_len (t : ByteArray) (k : Nat) (h : k ≤ 80) : (t.extract 0 k).size ≤ maxLen := by
  unfold maxLen
  rw [ByteArray.size_extract]
  omega

set_option maxHeartbeats 20000000 in
theorem crcThree_walk (a0 a1 a2 : ByteArray) (w0 : a0.size ≤ maxLen) (_w1 : a1.size ≤ maxLen) (_w2 : a2.size ≤ maxLen) (w : World) :
    Calls Try.prog 3 #[.string a0, .string a1, .string a2] w fun e w' => e = .returned (.bool true) ∧ Below w.heap.size w w' := by
  unfold maxLen at w0 _w1 _w2
  go_enter Try.func3, Try.ntmps3
  go_upto_region 1 with fail
  go_cut [7] (fun i wx => ∃ n : Nat, n ≤ a0.size ∧ n ≤ a1.size ∧ n ≤ a2.size ∧ n ≤ 80 ∧ i = .int .i64 n ∧ wx = w)
  case first =>
    obtain ⟨n, h0, h1, h2, h8, hmin⟩ := least a0.size a1.size a2.size
    have hm4 := fun (wx : World) (ts : Array TypeId) (t : TypeId) => run_min4 Try.prog wx ts t a0.size a1.size a2.size 80 n hmin
    clear hmin
    go_wp2_with fail
    all_goals go_meet
    all_goals exact ⟨n, h0, h1, h2, h8, rfl, rfl⟩
  case rest =>
    obtain ⟨n, hn0, hn1, hn2, hn8, rfl, rfl⟩ := hcut
    have hmk := make_bytes wc n (by omega)
    obtain ⟨L, hL⟩ : ∃ L, L = Crc.three (a0.data.toList.take n) (a1.data.toList.take n) (a2.data.toList.take n) := ⟨_, rfl⟩
    have HL := Lib.hid hL
    have hrow := rowIs_made wc n
    have hbel : Below wc.heap.size wc (wc.alloc (.cells (madeCells (Value.int .u8 0).cells n) 5)) := (Below.refl _ _).alloc (Nat.le_refl _) _
    clear hL
    go_wp2_with fail
    clear hmk
    go_loopw [21] (fun i wr => ∃ k : Nat, k ≤ n ∧ i = .int .i64 k ∧ RowIs wc.heap.size n (fun j => if j < k then (L.getD j 0).toNat else 0) wr ∧ Below wc.heap.size wc wr) (fun i _ => n - (intOf i).toNat)
    case atStart => exact ⟨0, by omega, rfl, hrow, hbel⟩
    case round =>
      clear hrow hbel
      obtain ⟨k, hk, rfl, hrow, hbel⟩ := hrel
      have HB := Lib.hid hbel
      have HR := Lib.hid hrow
      clear hbel hrow
      by_cases hlt : k < n
      · have hx := three_at a0 a1 a2 n k hn0 hn1 hn2 hlt
        rw [← HL.out] at hx
        have hcell := (HR.out.2 k hlt).1
        have hfr := (HR.out.2 k hlt).2
        have hk0 : (k : Int) < (n : Int) := by omega
        have hk1 : (k : Int) < (a0.size : Int) := by omega
        have hk2 : (k : Int) < (a1.size : Int) := by omega
        have hk3 : (k : Int) < (a2.size : Int) := by omega
        have g1 : k < a0.size := by omega
        have g2 : k < a1.size := by omega
        have g3 : k < a2.size := by omega
        go_wp2_with fail
        go_region
        go_wp2
        go_roundw
        case rel => exact ⟨k + 1, by omega, by go_num, (row_step HR.out hlt).drew, (HB.out.setCell (Nat.le_refl _) _).drew⟩
        case measure => simp [intOf]; omega
      · obtain rfl : k = n := by omega
        have hrow : RowIs wc.heap.size k (fun j => (L.getD j 0).toNat) wr := HR.out.congr fun j hj => by simp [hj]
        clear HR
        have hlen : L.length = k := by rw [HL.out, three_len]; simp; omega
        obtain ⟨f, hf⟩ : ∃ f : Nat → Nat, f = fun j => (L.getD j 0).toNat := ⟨_, rfl⟩
        have kc : ∀ wx : World, RowIs wc.heap.size k f wx → _ := fun wx h => conv_row wc.heap.size k k L hlen wx (hf ▸ h)
        rw [← hf] at hrow
        clear hf
        have hsum := three_sum a0 a1 a2 k hn0 hn1 hn2
        rw [← HL.out] at hsum
        clear HL
        obtain ⟨S, hS⟩ : ∃ S : ByteArray, S = ⟨L.toArray⟩ := ⟨_, rfl⟩
        rw [← hS] at kc
        have hSd : S.data.toList = L := by rw [hS]
        have hSz : S.size ≤ maxLen := by
          have : S.size = S.data.toList.length := by simp
          rw [this, hSd, hlen]
          unfold maxLen
          omega
        clear hS hlen
        rw [← hSd] at hsum
        clear hSd
        have hval := three_value a0 a1 a2 k (Crc.sum S.data.toList) hsum
        obtain ⟨F, hFn⟩ : ∃ F : ByteArray → Nat, ∀ s : ByteArray, Crc.sum s.data.toList = F s := ⟨_, fun _ => rfl⟩
        rw [hFn, hFn, hFn, hFn] at hval
        have HV := Lib.hid hval
        have HFn := Lib.hid hFn
        clear hsum hval hFn
        have z0 := ex_len a0 k (by omega)
        have z1 := ex_len a1 k (by omega)
        have z2 := ex_len a2 k (by omega)
        have hk0 : (k : Int) ≤ (a0.size : Int) := by omega
        have hk1 : (k : Int) ≤ (a1.size : Int) := by omega
        have hk2 : (k : Int) ≤ (a2.size : Int) := by omega
        go_wp2_with fail
        refine wp_region_held_drew (S := fun wx => RowIs wc.heap.size k f wx) (by kernel_rfl) hrow.drew (fun hHeld => ?_)
        refine wpAnyH_ready (rs := [0]) (by kernel_rfl) (by simp) ?_
        refine AllReadyH.cons (o := { dst := some 39, op := Op.call { callee := Callee.value (Operand.func 4), args := #[], argTypes := #[] }, type := 4, pos := "law.go:43", after := #[], guard := none }) rfl (fun K hK => ?_) AllReadyH.nil
        go_simp
        refine (awake_any _).mono ?_
        rintro e w5 ⟨rfl, hb5⟩
        try go_wp2_with fail
        refine hK.out _ _ (hrow.drew.below hb5) (fun hHeld2 => ?_)
        clear hK K hHeld
        have hB5 : Below wc.heap.size wc w5 := HB.out.drew.trans (hb5.mono HB.out.size)
        clear hb5 hrow
        try simp only [List.setIfInBounds_toArray, List.set_cons_zero, List.set_cons_succ]
        refine wpAnyH_take (i := 1) (oi := { dst := some 40, op := Op.move (Operand.tmp 39), type := 4, pos := "law.go:43", after := #[{ on := 0, ground := Ground.data }, { on := 0, ground := Ground.chain }], guard := none }) (v := ?_) rfl (by kernel_rfl) (by kernel_rfl) (by kernel_rfl) (fun _ _ _ h => h) (Or.inl ⟨by rfl, ?_⟩) (by assumption) ?_
        rotate_left
        · (intro wz hSw; (try dsimp only at hSw); go_simp; try with_reducible rfl)
        try simp only [Act.put, List.setIfInBounds_toArray, List.set_cons_zero, List.set_cons_succ]
        refine wpAnyH_take (i := 2) (oi := { dst := some 41, op := Op.move (Operand.tmp 8), type := 22, pos := "law.go:43", after := #[{ on := 1, ground := Ground.guard }], guard := some (1, true) }) (v := ?_) rfl (by kernel_rfl) (by kernel_rfl) (by kernel_rfl) (fun _ _ _ h => h) (Or.inl ⟨by rfl, ?_⟩) (by assumption) ?_
        rotate_left
        · (intro wz hSw; (try dsimp only at hSw); go_simp; try with_reducible rfl)
        try simp only [Act.put, List.setIfInBounds_toArray, List.set_cons_zero, List.set_cons_succ]
        refine wpAnyH_take (i := 3) (oi := { dst := some 42, op := Op.convert 22 9 (Operand.tmp 41), type := 9, pos := "law.go:43", after := #[{ on := 2, ground := Ground.data }, { on := 1, ground := Ground.guard }], guard := some (1, true) }) (v := ?_) rfl (by kernel_rfl) (by kernel_rfl) (by kernel_rfl) (fun _ _ _ h => h) (Or.inl ⟨by rfl, ?_⟩) (by assumption) ?_
        rotate_left
        · (intro wz hSw; (try dsimp only at hSw); go_simp; try with_reducible rfl)
        try simp only [Act.put, List.setIfInBounds_toArray, List.set_cons_zero, List.set_cons_succ]
        refine wpAnyH_take (i := 6) (oi := { dst := some 45, op := Op.move (Operand.tmp 0), type := 9, pos := "law.go:43", after := #[{ on := 1, ground := Ground.guard }], guard := some (1, true) }) (v := ?_) rfl (by kernel_rfl) (by kernel_rfl) (by kernel_rfl) (fun _ _ _ h => h) (Or.inl ⟨by rfl, ?_⟩) (by assumption) ?_
        rotate_left
        · (intro wz hSw; (try dsimp only at hSw); go_simp; try with_reducible rfl)
        try simp only [Act.put, List.setIfInBounds_toArray, List.set_cons_zero, List.set_cons_succ]
        refine wpAnyH_take (i := 7) (oi := { dst := some 46, op := Op.move (Operand.tmp 7), type := 3, pos := "law.go:43", after := #[{ on := 1, ground := Ground.guard }], guard := some (1, true) }) (v := ?_) rfl (by kernel_rfl) (by kernel_rfl) (by kernel_rfl) (fun _ _ _ h => h) (Or.inl ⟨by rfl, ?_⟩) (by assumption) ?_
        rotate_left
        · (intro wz hSw; (try dsimp only at hSw); go_simp; try with_reducible rfl)
        try simp only [Act.put, List.setIfInBounds_toArray, List.set_cons_zero, List.set_cons_succ]
        refine wpAnyH_take (i := 8) (oi := { dst := some 47, op := Op.slice 9 (Operand.tmp 45) none (some (Operand.tmp 46)) none, type := 9, pos := "law.go:43", after := #[{ on := 6, ground := Ground.data }, { on := 7, ground := Ground.data }, { on := 1, ground := Ground.guard }], guard := some (1, true) }) (v := ?_) rfl (by kernel_rfl) (by kernel_rfl) (by kernel_rfl) (fun _ _ _ h => h) (Or.inl ⟨by rfl, ?_⟩) (by assumption) ?_
        rotate_left
        · (intro wz hSw; (try dsimp only at hSw); go_simp; try with_reducible rfl)
        try simp only [Act.put, List.setIfInBounds_toArray, List.set_cons_zero, List.set_cons_succ]
        refine wpAnyH_take (i := 11) (oi := { dst := some 50, op := Op.move (Operand.tmp 1), type := 9, pos := "law.go:43", after := #[{ on := 1, ground := Ground.guard }], guard := some (1, true) }) (v := ?_) rfl (by kernel_rfl) (by kernel_rfl) (by kernel_rfl) (fun _ _ _ h => h) (Or.inl ⟨by rfl, ?_⟩) (by assumption) ?_
        rotate_left
        · (intro wz hSw; (try dsimp only at hSw); go_simp; try with_reducible rfl)
        try simp only [Act.put, List.setIfInBounds_toArray, List.set_cons_zero, List.set_cons_succ]
        refine wpAnyH_take (i := 12) (oi := { dst := some 51, op := Op.move (Operand.tmp 7), type := 3, pos := "law.go:43", after := #[{ on := 1, ground := Ground.guard }], guard := some (1, true) }) (v := ?_) rfl (by kernel_rfl) (by kernel_rfl) (by kernel_rfl) (fun _ _ _ h => h) (Or.inl ⟨by rfl, ?_⟩) (by assumption) ?_
        rotate_left
        · (intro wz hSw; (try dsimp only at hSw); go_simp; try with_reducible rfl)
        try simp only [Act.put, List.setIfInBounds_toArray, List.set_cons_zero, List.set_cons_succ]
        refine wpAnyH_take (i := 13) (oi := { dst := some 52, op := Op.slice 9 (Operand.tmp 50) none (some (Operand.tmp 51)) none, type := 9, pos := "law.go:43", after := #[{ on := 11, ground := Ground.data }, { on := 12, ground := Ground.data }, { on := 1, ground := Ground.guard }], guard := some (1, true) }) (v := ?_) rfl (by kernel_rfl) (by kernel_rfl) (by kernel_rfl) (fun _ _ _ h => h) (Or.inl ⟨by rfl, ?_⟩) (by assumption) ?_
        rotate_left
        · (intro wz hSw; (try dsimp only at hSw); go_simp; try with_reducible rfl)
        try simp only [Act.put, List.setIfInBounds_toArray, List.set_cons_zero, List.set_cons_succ]
        refine wpAnyH_take (i := 17) (oi := { dst := some 56, op := Op.move (Operand.tmp 2), type := 9, pos := "law.go:43", after := #[{ on := 1, ground := Ground.guard }], guard := some (1, true) }) (v := ?_) rfl (by kernel_rfl) (by kernel_rfl) (by kernel_rfl) (fun _ _ _ h => h) (Or.inl ⟨by rfl, ?_⟩) (by assumption) ?_
        rotate_left
        · (intro wz hSw; (try dsimp only at hSw); go_simp; try with_reducible rfl)
        try simp only [Act.put, List.setIfInBounds_toArray, List.set_cons_zero, List.set_cons_succ]
        refine wpAnyH_take (i := 18) (oi := { dst := some 57, op := Op.move (Operand.tmp 7), type := 3, pos := "law.go:43", after := #[{ on := 1, ground := Ground.guard }], guard := some (1, true) }) (v := ?_) rfl (by kernel_rfl) (by kernel_rfl) (by kernel_rfl) (fun _ _ _ h => h) (Or.inl ⟨by rfl, ?_⟩) (by assumption) ?_
        rotate_left
        · (intro wz hSw; (try dsimp only at hSw); go_simp; try with_reducible rfl)
        try simp only [Act.put, List.setIfInBounds_toArray, List.set_cons_zero, List.set_cons_succ]
        refine wpAnyH_take (i := 19) (oi := { dst := some 58, op := Op.slice 9 (Operand.tmp 56) none (some (Operand.tmp 57)) none, type := 9, pos := "law.go:43", after := #[{ on := 17, ground := Ground.data }, { on := 18, ground := Ground.data }, { on := 1, ground := Ground.guard }], guard := some (1, true) }) (v := ?_) rfl (by kernel_rfl) (by kernel_rfl) (by kernel_rfl) (fun _ _ _ h => h) (Or.inl ⟨by rfl, ?_⟩) (by assumption) ?_
        rotate_left
        · (intro wz hSw; (try dsimp only at hSw); go_simp; try with_reducible rfl)
        try simp only [Act.put, List.setIfInBounds_toArray, List.set_cons_zero, List.set_cons_succ]
        refine three_n_0 (F := F) (S := fun wx => RowIs wc.heap.size k f wx) (W0 := wc) (s0 := S) (s1 := a0.extract 0 k) (s2 := a1.extract 0 k) (s3 := a2.extract 0 k) ⟨by intro c a w d v h; cases d <;> exact h, fun _ o h => RowIs.alloc h o, fun a w' ha hde hbb => ?_, fun b s w hs hc => sum_via F HFn.out b 1 s w hs hc, hSz, z0, z1, z2, HV.out⟩ _ (by kernel_rfl) w5 hHeld2 hB5
        clear kc hB5 hHeld2
        go_wp2_with fail
        refine bodyPost_ret (results_tmp rfl a.tmps Try.prog w') hde ?_
        exact ⟨by rw [← ha], hbb⟩
end Go.Proofs.Ytijbgbdimcnfpaa
