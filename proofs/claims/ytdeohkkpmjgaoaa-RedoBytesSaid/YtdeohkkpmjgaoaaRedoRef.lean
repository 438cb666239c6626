/-
  The document's Bytes, number and Parse of an op; Told; an op is the same as itself: contracts.
-/
import Derived.Test.YtdeohkkpmjgaoaaRedoLaw
import Derived.Laws.StructEq
import Derived.Deep.RegionHeld3
import Derived.LoopTactic
import Derived.BigRegion
namespace Go.Proofs.Ytdeohkkpmjgaoaa
open Go.RowKit

theorem eqFields_self {P : Program} (d : Nat) (X : Array Value) (w : World) : ∀ fs : List Field, (∀ f ∈ fs, ∃ a, (part f.type X f.offset).run P w = .ok a w ∧ (Op.equalIn d f.type a a).run P w = .ok true w) → (Op.eqFields d X X fs).run P w = .ok true w
  | [], _ => by simp [Op.eqFields]
  | f :: fs, h => by
    obtain ⟨a, h1, h2⟩ := h f List.mem_cons_self
    have ih := eqFields_self d X w fs fun g hg => h g (List.mem_cons_of_mem _ hg)
    simp only [Op.eqFields, Sem.run_ite]
    split
    · simp only [Sem.run_bind, h1, h2, Result.andThen_ok, Bool.not_true, Bool.false_eq_true, if_false, ih]
    · exact ih
theorem op_fields : (Try.prog.fieldsOf 93).toList.map (fun f => (f.type, f.offset)) = [(3, 0), (64, 1), (3, 2), (3, 3), (9, 4)] := by kernel_rfl
theorem opr_fields : (Try.prog.fieldsOf 99).toList.map (fun f => (f.type, f.offset)) = [(3, 0), (3, 1), (3, 2), (3, 3), (9, 4)] := by kernel_rfl
theorem plainInt : Try.prog.plainKey 3 = true := by kernel_rfl
theorem plainU32 : Try.prog.plainKey 64 = true := by kernel_rfl
theorem plainStr : Try.prog.plainKey 9 = true := by kernel_rfl
theorem op_self (k id a n : Int) (s : ByteArray) (w : World) : (binOp .eql 93 (.agg #[.int .i64 k, .int .u32 id, .int .i64 a, .int .i64 n, .string s]) (.agg #[.int .i64 k, .int .u32 id, .int .i64 a, .int .i64 n, .string s])).run Try.prog w = .ok (.bool true) w := by
  rw [run_eql_struct, run_equalIn_struct (P := Try.prog) w 9999 93 _ _ (by kernel_rfl) (by kernel_rfl), eqFields_self]
  · rfl
  · intro fd hf
    have hm : (fd.type, fd.offset) ∈ [(3, 0), (64, 1), (3, 2), (3, 3), (9, 4)] := by
      rw [← op_fields]
      exact List.mem_map.2 ⟨fd, hf, rfl⟩
    simp only [List.mem_cons, Prod.mk.injEq, List.not_mem_nil, or_false] at hm
    rcases hm with ⟨h1, h2⟩ | ⟨h1, h2⟩ | ⟨h1, h2⟩ | ⟨h1, h2⟩ | ⟨h1, h2⟩ <;> rw [h1, h2]
    · have p3 := run_equalIn_int (P := Try.prog) w 9998 3 .i64 .i64 k k Try.underlying3
      rw [beq_self_eq_true] at p3
      exact ⟨.int .i64 _, run_part_plain w plainInt rfl, p3⟩
    · have p3 := run_equalIn_int (P := Try.prog) w 9998 64 .u32 .u32 id id Try.underlying64
      rw [beq_self_eq_true] at p3
      exact ⟨.int .u32 _, run_part_plain w plainU32 rfl, p3⟩
    · have p3 := run_equalIn_int (P := Try.prog) w 9998 3 .i64 .i64 a a Try.underlying3
      rw [beq_self_eq_true] at p3
      exact ⟨.int .i64 _, run_part_plain w plainInt rfl, p3⟩
    · have p3 := run_equalIn_int (P := Try.prog) w 9998 3 .i64 .i64 n n Try.underlying3
      rw [beq_self_eq_true] at p3
      exact ⟨.int .i64 _, run_part_plain w plainInt rfl, p3⟩
    · have p3 := run_equalIn_string (P := Try.prog) w 9998 9 s s Try.underlying9
      rw [beq_self_eq_true] at p3
      exact ⟨.string _, run_part_plain w plainStr rfl, p3⟩
theorem op_guard (x y : Operand) (X Y : Array Value) (w : World) : (eqGuard .eql 93 x y (.agg X) (.agg Y)).run Try.prog w = .ok () w :=
  run_eqGuard_agg (P := Try.prog) w .eql _ x y _ _ (by kernel_rfl)
theorem opr_self (k id a n : Int) (s : ByteArray) (w : World) : (binOp .eql 99 (.agg #[.int .i64 k, .int .i64 id, .int .i64 a, .int .i64 n, .string s]) (.agg #[.int .i64 k, .int .i64 id, .int .i64 a, .int .i64 n, .string s])).run Try.prog w = .ok (.bool true) w := by
  rw [run_eql_struct, run_equalIn_struct (P := Try.prog) w 9999 99 _ _ (by kernel_rfl) (by kernel_rfl), eqFields_self]
  · rfl
  · intro fd hf
    have hm : (fd.type, fd.offset) ∈ [(3, 0), (3, 1), (3, 2), (3, 3), (9, 4)] := by
      rw [← opr_fields]
      exact List.mem_map.2 ⟨fd, hf, rfl⟩
    simp only [List.mem_cons, Prod.mk.injEq, List.not_mem_nil, or_false] at hm
    rcases hm with ⟨h1, h2⟩ | ⟨h1, h2⟩ | ⟨h1, h2⟩ | ⟨h1, h2⟩ | ⟨h1, h2⟩ <;> rw [h1, h2]
    · have p3 := run_equalIn_int (P := Try.prog) w 9998 3 .i64 .i64 k k Try.underlying3
      rw [beq_self_eq_true] at p3
      exact ⟨.int .i64 _, run_part_plain w plainInt rfl, p3⟩
    · have p3 := run_equalIn_int (P := Try.prog) w 9998 3 .i64 .i64 id id Try.underlying3
      rw [beq_self_eq_true] at p3
      exact ⟨.int .i64 _, run_part_plain w plainInt rfl, p3⟩
    · have p3 := run_equalIn_int (P := Try.prog) w 9998 3 .i64 .i64 a a Try.underlying3
      rw [beq_self_eq_true] at p3
      exact ⟨.int .i64 _, run_part_plain w plainInt rfl, p3⟩
    · have p3 := run_equalIn_int (P := Try.prog) w 9998 3 .i64 .i64 n n Try.underlying3
      rw [beq_self_eq_true] at p3
      exact ⟨.int .i64 _, run_part_plain w plainInt rfl, p3⟩
    · have p3 := run_equalIn_string (P := Try.prog) w 9998 9 s s Try.underlying9
      rw [beq_self_eq_true] at p3
      exact ⟨.string _, run_part_plain w plainStr rfl, p3⟩
theorem opr_guard (x y : Operand) (X Y : Array Value) (w : World) : (eqGuard .eql 99 x y (.agg X) (.agg Y)).run Try.prog w = .ok () w :=
  run_eqGuard_agg (P := Try.prog) w .eql _ x y _ _ (by kernel_rfl)
/-- an op as the document has it -/
def RO.told (o : RO) : Array Value := #[.int .i64 o.k, .int .i64 o.id, .int .i64 o.at', .int .i64 o.n, .string o.data]
theorem oprSize : (Try.prog.info? 99).map (·.size) = some 5 := by kernel_rfl
abbrev zeroOpr : Obj := .cells #[.int .i64 0, .int .i64 0, .int .i64 0, .int .i64 0, .string ⟨#[]⟩] 99
set_option maxHeartbeats 1000000 in
theorem told_any (o : RO) (ho : o.id < 4294967296) (w : World) : Calls Try.prog 71 #[.agg o.cells] w fun e w' => e = .returned (.agg o.told) ∧ Below w.heap.size w w' := by
  obtain ⟨k, id, at', n, data⟩ := o
  have ho : id < 4294967296 := ho
  have u1 : IntKind.i64.wrap (id : Int) = id := by
    simp only [IntKind.wrap, IntKind.bits, IntKind.signed]
    simp
    omega
  clear ho
  dsimp only [RO.cells, RO.told] at *
  go_enter Try.func71, Try.ntmps71
  go_wp2_with fail
  have hs1 : (w.alloc (.cells #[.int .i64 k, .int .u32 id, .int .i64 at', .int .i64 n, .string data] 93)).heap.size = w.heap.size + 1 := by simp
  have hq := heap_alloc_new (w.alloc (.cells #[.int .i64 k, .int .u32 id, .int .i64 at', .int .i64 n, .string data] 93)) (.cells #[.int .i64 k, .int .i64 id, .int .i64 at', .int .i64 n, .string data] 99)
  rw [hs1] at hq
  refine bodyPost_ret (results_cell_row rfl _ _ (w.heap.size + 1) _ _ _ _ rfl hq Try.underlying99 rfl oprSize) rfl ?_
  exact ⟨rfl, ((Below.refl _ _).alloc (Nat.le_refl _) _).alloc (by simp) _⟩
theorem num_take_succ (l : List UInt8) (k : Nat) (h : k < l.length) : num (l.take (k + 1)) = num (l.take k) * 256 + (l[k]'h).toNat := by
  rw [List.take_succ_eq_append_getElem h, num_snoc]
theorem num_small (l : List UInt8) (k : Nat) (h : k ≤ 6) : num (l.take k) < 281474976710656 := by
  have h1 := num_lt (l.take k)
  have h2 : (l.take k).length ≤ 6 := by rw [List.length_take]; omega
  have h3 : 256 ^ (l.take k).length ≤ 256 ^ 6 := Nat.pow_le_pow_right (by decide) h2
  omega
set_option maxHeartbeats 400000 in
theorem number_any (s : ByteArray) (hs : s.size ≤ 6) (w : World) : Calls Try.prog 123 #[.string s] w fun e w' => e = .returned (.int .i64 (num s.data.toList : Nat)) ∧ w = w' := by
  have HLn : Hid (s.data.toList.length = s.size) := Lib.hid (by simp)
  go_enter Try.func123, Try.ntmps123
  go_wp2_with fail
  go_loop [3, 4] (fun n i => ∃ k : Nat, k ≤ s.size ∧ i = .int .i64 k ∧ n = .int .i64 (num (s.data.toList.take k) : Nat)) (fun _ i => s.size - (intOf i).toNat)
  case atStart => exact ⟨0, Nat.zero_le _, rfl, rfl⟩
  case round =>
    obtain ⟨k, hk, rfl, rfl⟩ := hrel
    have hX := num_small s.data.toList k (by omega)
    by_cases hlt : k < s.size
    · have HS := Lib.hid (num_take_succ s.data.toList k (by rw [HLn.out]; exact hlt))
      have hb := (s[k]'hlt).toNat_lt
      have HE : Hid ((s.data.toList[k]'(by rw [HLn.out]; exact hlt)) = s[k]'hlt) := Lib.hid rfl
      rw [HE.out] at HS
      clear HE
      obtain ⟨X, hXX⟩ : ∃ X, num (s.data.toList.take k) = X := ⟨_, rfl⟩
      rw [hXX] at hX HS ⊢
      clear hXX
      go_wp2
      go_round
      case rel => exact ⟨k + 1, by omega, by go_num, by rw [HS.out]; go_num⟩
      case measure => simp [intOf]; omega
    · obtain rfl : k = s.size := by omega
      go_wp2
      go_ret
      exact ⟨by show Ending.returned (.int .i64 ((num (List.take s.size s.data.toList) : Nat) : Int)) = _; rw [List.take_of_length_le (by rw [HLn.out]; exact Nat.le_refl _)], rfl⟩
set_option maxRecDepth 10000 in
set_option maxHeartbeats 2000000 in
theorem refRedoBytes_any (o : RO) (ho : o.fits) (w : World) : Calls Try.prog 70 #[.agg o.told] w fun e w' => e = .returned (.string ⟨o.text.toArray⟩) ∧ Below w.heap.size w w' := by
  obtain ⟨k, id, at', n, data⟩ := o
  have u1 := u32_as_u64 k (Nat.lt_trans ho.k (by decide))
  have u2 := u32_as_u64 id ho.id
  have u3 := u32_as_u64 at' (Nat.lt_trans ho.at' (by decide))
  have u4 := u32_as_u64 n (Nat.lt_trans ho.n (by decide))
  have hd : data.size ≤ 1000 := ho.data
  have HN : Hid (∀ (a : Nat) (m : Int) wx, a < 18446744073709551616 → Calls Try.prog 49 #[.int .u64 a, .int .i64 m] wx fun e w' => e = .returned (.string ⟨(enc a (wid m)).toArray⟩) ∧ Below wx.heap.size wx w') := Lib.hid fun a m wx ha => refNum_any a m wx ha
  have HJ := Lib.hid fun wx => HN.out k 1 wx (Nat.lt_trans ho.k (by decide))
  have HB := Lib.hid fun wx => HN.out id 4 wx (Nat.lt_trans ho.id (by decide))
  have HH := Lib.hid fun wx => HN.out at' 2 wx (Nat.lt_trans ho.at' (by decide))
  have HX := Lib.hid fun wx => HN.out n 2 wx (Nat.lt_trans ho.n (by decide))
  rw [wid2] at HH HX
  rw [wid4] at HB
  rw [wid1] at HJ
  have z1 : (⟨(enc k 1).toArray⟩ : ByteArray).size = 1 := enc_len _ _
  have z2 : (⟨(enc id 4).toArray⟩ : ByteArray).size = 4 := enc_len _ _
  have z3 : (⟨(enc at' 2).toArray⟩ : ByteArray).size = 2 := enc_len _ _
  have z4 : (⟨(enc n 2).toArray⟩ : ByteArray).size = 2 := enc_len _ _
  have HT : Hid ((⟨(enc k 1).toArray⟩ : ByteArray) ++ ⟨(enc id 4).toArray⟩ ++ ⟨(enc at' 2).toArray⟩ ++ ⟨(enc n 2).toArray⟩ ++ data = ⟨(RO.text ⟨k, id, at', n, data⟩).toArray⟩) := Lib.hid (by
    apply ByteArray.ext
    apply Array.toList_inj.mp
    simp [ByteArray.data_append, RO.text])
  dsimp only [RO.told] at *
  generalize (⟨(RO.text ⟨k, id, at', n, data⟩).toArray⟩ : ByteArray) = TX at *
  generalize (⟨(enc k 1).toArray⟩ : ByteArray) = EJ at *
  generalize (⟨(enc id 4).toArray⟩ : ByteArray) = EB at *
  generalize (⟨(enc at' 2).toArray⟩ : ByteArray) = EH at *
  generalize (⟨(enc n 2).toArray⟩ : ByteArray) = EX at *
  have c1 : ∀ wx : World, (Op.stringOp .add EJ EB).run Try.prog wx = .ok (.string (EJ ++ EB)) wx := fun wx => run_string_add_sum wx _ _ (by omega)
  obtain ⟨T1, hT1⟩ : ∃ T1, EJ ++ EB = T1 := ⟨_, rfl⟩
  have q1 : T1.size = 5 := by rw [← hT1, ByteArray.size_append]; omega
  rw [hT1] at c1 HT
  have c2 : ∀ wx : World, (Op.stringOp .add T1 EH).run Try.prog wx = .ok (.string (T1 ++ EH)) wx := fun wx => run_string_add_sum wx _ _ (by omega)
  obtain ⟨T2, hT2⟩ : ∃ T2, T1 ++ EH = T2 := ⟨_, rfl⟩
  have q2 : T2.size = 7 := by rw [← hT2, ByteArray.size_append]; omega
  rw [hT2] at c2 HT
  have c3 : ∀ wx : World, (Op.stringOp .add T2 EX).run Try.prog wx = .ok (.string (T2 ++ EX)) wx := fun wx => run_string_add_sum wx _ _ (by omega)
  obtain ⟨T3, hT3⟩ : ∃ T3, T2 ++ EX = T3 := ⟨_, rfl⟩
  have q3 : T3.size = 9 := by rw [← hT3, ByteArray.size_append]; omega
  rw [hT3] at c3 HT
  have c4 : ∀ wx : World, (Op.stringOp .add T3 data).run Try.prog wx = .ok (.string TX) wx := fun wx => by
    rw [← HT.out]
    exact run_string_add_sum wx _ _ (by omega)
  clear hT1 hT2 hT3 HT q1 q2 q3 z1 z2 z3 z4 HN ho hd
  have hblk := heap_alloc_new w (.cells #[.int .i64 k, .int .i64 id, .int .i64 at', .int .i64 n, .string data] 99)
  have hlt0 : w.heap.size < (w.alloc (.cells #[.int .i64 k, .int .i64 id, .int .i64 at', .int .i64 n, .string data] 99)).drew.heap.size := by show w.heap.size < (w.alloc _).heap.size; simp
  have HB0 : Hid (Below w.heap.size w (w.alloc (.cells #[.int .i64 k, .int .i64 id, .int .i64 at', .int .i64 n, .string data] 99)).drew) := Lib.hid ((Below.refl _ _).alloc (Nat.le_refl _) _).drew
  obtain ⟨l0, l1, l2, l3, l4⟩ := five hblk
  go_enter Try.func70, Try.ntmps70
  go_wp2_with fail
  generalize hW : w.alloc (.cells #[.int .i64 k, .int .i64 id, .int .i64 at', .int .i64 n, .string data] 99) = W at *
  clear hW
  have HKb : Hid (∀ wx, Below W.drew.heap.size W.drew wx → wx.cell? ⟨w.heap.size, 0, none⟩ = some (.int .i64 k) ∧ wx.cell? ⟨w.heap.size, 1, none⟩ = some (.int .i64 id) ∧ wx.cell? ⟨w.heap.size, 2, none⟩ = some (.int .i64 at') ∧ wx.cell? ⟨w.heap.size, 3, none⟩ = some (.int .i64 n) ∧ wx.cell? ⟨w.heap.size, 4, none⟩ = some (.string data)) := Lib.hid fun wx hb => by
    refine five (t := 99) ?_
    rw [hb.block w.heap.size hlt0]
    exact hblk
  have HKr := Lib.hid (Below.refl W.drew.heap.size W.drew)
  go_region_held3 (fun wx => wx.cell? ⟨w.heap.size, 0, none⟩ = some (.int .i64 k) ∧ wx.cell? ⟨w.heap.size, 1, none⟩ = some (.int .i64 id) ∧ wx.cell? ⟨w.heap.size, 2, none⟩ = some (.int .i64 at') ∧ wx.cell? ⟨w.heap.size, 3, none⟩ = some (.int .i64 n) ∧ wx.cell? ⟨w.heap.size, 4, none⟩ = some (.string data))
    (first | exact ⟨l0, l1, l2, l3, l4⟩ | exact HKb.out _ HKr.out | exact HKb.out _ HG1.out | exact HKb.out _ HG2.out | exact HKb.out _ HG3.out | exact HKb.out _ HG4.out)
    (first
      | (go_at_call 49; (with_reducible refine (HJ.out W.drew).mono ?_); rintro e w1 ⟨rfl, hb1⟩; (have HG1 := Lib.hid hb1); clear hb1)
      | (go_at_call 49; (with_reducible refine (HB.out w1).mono ?_); rintro e w2 ⟨rfl, hb2⟩; (have HG2 := Lib.hid (HG1.out.trans (hb2.mono HG1.out.size))); clear hb2)
      | (go_at_call 49; (with_reducible refine (HH.out w2).mono ?_); rintro e w3 ⟨rfl, hb3⟩; (have HG3 := Lib.hid (HG2.out.trans (hb3.mono HG2.out.size))); clear hb3)
      | (go_at_call 49; (with_reducible refine (HX.out w3).mono ?_); rintro e w4 ⟨rfl, hb4⟩; (have HG4 := Lib.hid (HG3.out.trans (hb4.mono HG3.out.size))); clear hb4))
  have HB4 := Lib.hid (HB0.out.trans (HG4.out.mono HB0.out.size))
  clear l0 l1 l2 l3 l4
  go_wp2_with fail
  go_ret
  exact ⟨rfl, HB4.out⟩
end Go.Proofs.Ytdeohkkpmjgaoaa
