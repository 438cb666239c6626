/-
  Texts put together: CatRef, CatMath.
-/
import Derived.Test.YtemnkffaapljpaaCatLaw
import Derived.Test.YtemnkffaapljpaaCrcRef
import Derived.Test.YtemnkffaapljpaaPackRefNum
import Derived.Laws.StructEq
import Derived.Laws.BitsAllLaws
import Derived.Deep.RegionHeld3
import Derived.LoopTactic
import Derived.BigRegion
import Derived.Test.YtemnkffaapljpaaPackMath
/-
  The document's Bytes and number of an entry; Own and Told; an entry is the same as itself: contracts (written by gen_catref.py).
-/
namespace Go.Proofs.Ytemnkffaapljpaa
open Go.RowKit

theorem eqFields_self {P : Program} (d : Nat) (X : Array Value) (w : World) : ∀ fs : List Field, (∀ f ∈ fs, ∃ a, (part f.type X f.offset).run P w = .ok a w ∧ (Op.equalIn d f.type a a).run P w = .ok true w) → (Op.eqFields d X X fs).run P w = .ok true w
  | [], _ => by simp [Op.eqFields]
  | f :: fs, h => by
    obtain ⟨a, h1, h2⟩ := h f List.mem_cons_self
    have ih := eqFields_self d X w fs fun g hg => h g (List.mem_cons_of_mem _ hg)
    simp only [Op.eqFields, Sem.run_ite]
    split
    · simp only [Sem.run_bind, h1, h2, Result.andThen_ok, Bool.not_true, Bool.false_eq_true, if_false, ih]
    · exact ih
theorem plainInt : Try.prog.plainKey 3 = true := by kernel_rfl
theorem plainU32 : Try.prog.plainKey 64 = true := by kernel_rfl
theorem plainBool : Try.prog.plainKey 4 = true := by kernel_rfl
theorem part_int (q : Int) (X : Array Value) (k : Nat) (w : World) (h : X[k]? = some (.int .i64 q)) : ∃ a, (part 3 X k).run Try.prog w = .ok a w ∧ (Op.equalIn (9998 + 1) 3 a a).run Try.prog w = .ok true w := by
  have p3 := run_equalIn_int (P := Try.prog) w 9998 3 .i64 .i64 q q Try.underlying3
  rw [beq_self_eq_true] at p3
  exact ⟨_, run_part_plain w plainInt h, p3⟩
theorem part_u32 (q : Int) (X : Array Value) (k : Nat) (w : World) (h : X[k]? = some (.int .u32 q)) : ∃ a, (part 64 X k).run Try.prog w = .ok a w ∧ (Op.equalIn (9998 + 1) 64 a a).run Try.prog w = .ok true w := by
  have p3 := run_equalIn_int (P := Try.prog) w 9998 64 .u32 .u32 q q Try.underlying64
  rw [beq_self_eq_true] at p3
  exact ⟨_, run_part_plain w plainU32 h, p3⟩
theorem part_bool (q : Bool) (X : Array Value) (k : Nat) (w : World) (h : X[k]? = some (.bool q)) : ∃ a, (part 4 X k).run Try.prog w = .ok a w ∧ (Op.equalIn (9998 + 1) 4 a a).run Try.prog w = .ok true w := by
  have p3 := run_equalIn_bool (P := Try.prog) w 9998 4 q q Try.underlying4
  rw [beq_self_eq_true] at p3
  exact ⟨_, run_part_plain w plainBool h, p3⟩
theorem ent_fields : (Try.prog.fieldsOf 66).toList.map (fun f => (f.type, f.offset)) = [(64, 0), (64, 1), (4, 2), (3, 3), (3, 4), (64, 5)] := by kernel_rfl
theorem entr_fields : (Try.prog.fieldsOf 63).toList.map (fun f => (f.type, f.offset)) = [(3, 0), (3, 1), (4, 2), (3, 3), (3, 4), (3, 5)] := by kernel_rfl
theorem ent_self (a b : Int) (c : Bool) (d e f : Int) (w : World) : (binOp .eql 66 (.agg #[.int .u32 a, .int .u32 b, .bool c, .int .i64 d, .int .i64 e, .int .u32 f]) (.agg #[.int .u32 a, .int .u32 b, .bool c, .int .i64 d, .int .i64 e, .int .u32 f])).run Try.prog w = .ok (.bool true) w := by
  rw [run_eql_struct, run_equalIn_struct (P := Try.prog) w 9999 66 _ _ (by kernel_rfl) (by kernel_rfl), eqFields_self]
  · rfl
  · intro fd hf
    have hm : (fd.type, fd.offset) ∈ [(64, 0), (64, 1), (4, 2), (3, 3), (3, 4), (64, 5)] := by
      rw [← ent_fields]
      exact List.mem_map.2 ⟨fd, hf, rfl⟩
    simp only [List.mem_cons, Prod.mk.injEq, List.not_mem_nil, or_false] at hm
    rcases hm with ⟨h1, h2⟩ | ⟨h1, h2⟩ | ⟨h1, h2⟩ | ⟨h1, h2⟩ | ⟨h1, h2⟩ | ⟨h1, h2⟩ <;> rw [h1, h2]
    · exact part_u32 a _ _ w rfl
    · exact part_u32 b _ _ w rfl
    · exact part_bool c _ _ w rfl
    · exact part_int d _ _ w rfl
    · exact part_int e _ _ w rfl
    · exact part_u32 f _ _ w rfl
theorem entr_self (a b : Int) (c : Bool) (d e f : Int) (w : World) : (binOp .eql 63 (.agg #[.int .i64 a, .int .i64 b, .bool c, .int .i64 d, .int .i64 e, .int .i64 f]) (.agg #[.int .i64 a, .int .i64 b, .bool c, .int .i64 d, .int .i64 e, .int .i64 f])).run Try.prog w = .ok (.bool true) w := by
  rw [run_eql_struct, run_equalIn_struct (P := Try.prog) w 9999 63 _ _ (by kernel_rfl) (by kernel_rfl), eqFields_self]
  · rfl
  · intro fd hf
    have hm : (fd.type, fd.offset) ∈ [(3, 0), (3, 1), (4, 2), (3, 3), (3, 4), (3, 5)] := by
      rw [← entr_fields]
      exact List.mem_map.2 ⟨fd, hf, rfl⟩
    simp only [List.mem_cons, Prod.mk.injEq, List.not_mem_nil, or_false] at hm
    rcases hm with ⟨h1, h2⟩ | ⟨h1, h2⟩ | ⟨h1, h2⟩ | ⟨h1, h2⟩ | ⟨h1, h2⟩ | ⟨h1, h2⟩ <;> rw [h1, h2]
    · exact part_int a _ _ w rfl
    · exact part_int b _ _ w rfl
    · exact part_bool c _ _ w rfl
    · exact part_int d _ _ w rfl
    · exact part_int e _ _ w rfl
    · exact part_int f _ _ w rfl
theorem ent_guard (x y : Operand) (X Y : Array Value) (w : World) : (eqGuard .eql 66 x y (.agg X) (.agg Y)).run Try.prog w = .ok () w :=
  run_eqGuard_agg (P := Try.prog) w .eql _ x y _ _ (by kernel_rfl)
theorem entr_guard (x y : Operand) (X Y : Array Value) (w : World) : (eqGuard .eql 63 x y (.agg X) (.agg Y)).run Try.prog w = .ok () w :=
  run_eqGuard_agg (P := Try.prog) w .eql _ x y _ _ (by kernel_rfl)
/-- an entry as the document has it -/
def EN.told (o : EN) : Array Value := #[.int .i64 o.id, .int .i64 o.parent, .bool o.only, .int .i64 o.size, .int .i64 o.root, .int .i64 o.born]
theorem entrSize : (Try.prog.info? 63).map (·.size) = some 6 := by kernel_rfl
theorem wrap_i64 (n : Nat) (h : n < 4294967296) : IntKind.i64.wrap (n : Int) = n := by
  simp only [IntKind.wrap, IntKind.bits, IntKind.signed]
  simp
  omega
theorem told15_any (o : EN) (ho : o.fits) (w : World) : Calls Try.prog 47 #[.agg o.cells] w fun e w' => e = .returned (.agg o.told) ∧ Below w.heap.size w w' := by
  obtain ⟨id, parent, only, size, root, born⟩ := o
  have u1 := wrap_i64 id ho.id
  have u2 := wrap_i64 parent ho.parent
  have u3 := wrap_i64 born ho.born
  clear ho
  dsimp only [EN.cells, EN.told] at *
  go_enter Try.func47, Try.ntmps47
  go_wp2_with fail
  have hs1 : (w.alloc (.cells #[.int .u32 id, .int .u32 parent, .bool only, .int .i64 size, .int .i64 root, .int .u32 born] 66)).heap.size = w.heap.size + 1 := by simp
  have hq := heap_alloc_new (w.alloc (.cells #[.int .u32 id, .int .u32 parent, .bool only, .int .i64 size, .int .i64 root, .int .u32 born] 66)) (.cells #[.int .i64 id, .int .i64 parent, .bool only, .int .i64 size, .int .i64 root, .int .i64 born] 63)
  rw [hs1] at hq
  refine bodyPost_ret (results_cell_row rfl _ _ (w.heap.size + 1) _ _ _ _ rfl hq Try.underlying63 rfl entrSize) rfl ?_
  exact ⟨rfl, ((Below.refl _ _).alloc (Nat.le_refl _) _).alloc (by simp) _⟩
theorem maskN (k : Int) (n : Nat) (hn : n < 4294967296) : ∃ p : Nat, bits .and .i64 k (n : Int) = (p : Int) ∧ p ≤ n := by
  have h : (BitVec.ofInt 64 k &&& BitVec.ofInt 64 n).toNat ≤ n := by
    rw [BitVec.toNat_and]
    refine Nat.le_trans Nat.and_le_right ?_
    rw [BitVec.toNat_ofInt]
    omega
  refine ⟨(BitVec.ofInt 64 k &&& BitVec.ofInt 64 n).toNat, ?_, h⟩
  show IntKind.i64.wrap ((BitVec.ofInt 64 k &&& BitVec.ofInt 64 n).toNat : Int) = _
  generalize (BitVec.ofInt 64 k &&& BitVec.ofInt 64 n).toNat = y at *
  simp only [IntKind.wrap, IntKind.bits, IntKind.signed]
  simp
  omega
theorem wrapU (k : Int) : ∃ p : Nat, IntKind.u32.wrap k = (p : Int) ∧ p < 4294967296 := by
  refine ⟨(IntKind.u32.wrap k).toNat, ?_, ?_⟩ <;> (simp only [IntKind.wrap, IntKind.bits, IntKind.signed]; simp; omega)
/-- the program's entry of any numbers -/
theorem own15_any (a b : Int) (c : Bool) (d e f : Int) : ∃ o : EN, o.fits ∧ ∀ w : World, Calls Try.prog 43 #[.agg #[.int .i64 a, .int .i64 b, .bool c, .int .i64 d, .int .i64 e, .int .i64 f]] w fun e w' => e = .returned (.agg o.cells) ∧ Below w.heap.size w w' := by
  obtain ⟨id, h1, l1⟩ := wrapU a
  obtain ⟨parent, h2, l2⟩ := wrapU b
  obtain ⟨born, h3, l3⟩ := wrapU f
  obtain ⟨size, h4, l4⟩ := maskN d 65535 (by decide)
  obtain ⟨root, h5, l5⟩ := maskN e 65535 (by decide)
  have h4 : bits .and .i64 d 65535 = (size : Int) := h4
  have h5 : bits .and .i64 e 65535 = (root : Int) := h5
  refine ⟨⟨id, parent, c, size, root, born⟩, ⟨l1, l2, by show size < 65536; omega, by show root < 65536; omega, l3⟩, fun w => ?_⟩
  clear l1 l2 l3 l4 l5
  dsimp only [EN.cells]
  go_enter Try.func43, Try.ntmps43
  go_wp2_with fail
  have hs1 : (w.alloc (.cells #[.int .i64 a, .int .i64 b, .bool c, .int .i64 d, .int .i64 e, .int .i64 f] 63)).heap.size = w.heap.size + 1 := by simp
  have hq := heap_alloc_new (w.alloc (.cells #[.int .i64 a, .int .i64 b, .bool c, .int .i64 d, .int .i64 e, .int .i64 f] 63)) (.cells #[.int .u32 id, .int .u32 parent, .bool c, .int .i64 size, .int .i64 root, .int .u32 born] 66)
  rw [hs1] at hq
  refine bodyPost_ret (results_cell_row rfl _ _ (w.heap.size + 1) _ _ _ _ rfl hq Try.underlying66 rfl entSize) rfl ?_
  exact ⟨rfl, ((Below.refl _ _).alloc (Nat.le_refl _) _).alloc (by simp) _⟩
theorem num_take_succ (l : List UInt8) (k : Nat) (h : k < l.length) : num (l.take (k + 1)) = num (l.take k) * 256 + (l[k]'h).toNat := by
  rw [List.take_succ_eq_append_getElem h, num_snoc]
theorem num_small (l : List UInt8) (k : Nat) (h : k ≤ 6) : num (l.take k) < 281474976710656 := by
  have h1 := num_lt (l.take k)
  have h2 : (l.take k).length ≤ 6 := by rw [List.length_take]; omega
  have h3 : 256 ^ (l.take k).length ≤ 256 ^ 6 := Nat.pow_le_pow_right (by decide) h2
  omega
set_option maxHeartbeats 400000 in
theorem number15_any (s : ByteArray) (hs : s.size ≤ 6) (w : World) : Calls Try.prog 105 #[.string s] w fun e w' => e = .returned (.int .i64 (num s.data.toList : Nat)) ∧ w = w' := by
  have HLn : Hid (s.data.toList.length = s.size) := Lib.hid (by simp)
  go_enter Try.func105, Try.ntmps105
  go_wp2_with fail
  go_loop [3, 4] (fun n i => ∃ k : Nat, k ≤ s.size ∧ i = .int .i64 k ∧ n = .int .i64 (num (s.data.toList.take k) : Nat)) (fun _ i => s.size - (intOf i).toNat)
  case atStart => exact ⟨0, Nat.zero_le _, rfl, rfl⟩
  case round =>
    obtain ⟨k, hk, rfl, rfl⟩ := hrel
    have hX := num_small s.data.toList k (by omega)
    by_cases hlt : k < s.size
    · have HS := Lib.hid (num_take_succ s.data.toList k (by rw [HLn.out]; exact hlt))
      have hb := (s[k]'hlt).toNat_lt
      have HE : Hid ((s.data.toList[k]'(by rw [HLn.out]; exact hlt)) = s[k]'hlt) := Lib.hid rfl
      rw [HE.out] at HS
      clear HE
      obtain ⟨X, hXX⟩ : ∃ X, num (s.data.toList.take k) = X := ⟨_, rfl⟩
      rw [hXX] at hX HS ⊢
      clear hXX
      go_wp2
      go_round
      case rel => exact ⟨k + 1, by omega, by go_num, by rw [HS.out]; go_num⟩
      case measure => simp [intOf]; omega
    · obtain rfl : k = s.size := by omega
      go_wp2
      go_ret
      exact ⟨by show Ending.returned (.int .i64 ((num (List.take s.size s.data.toList) : Nat) : Int)) = _; rw [List.take_of_length_le (by rw [HLn.out]; exact Nat.le_refl _)], rfl⟩
theorem add_str (a b c : ByteArray) (h : a ++ b = c) (hs : a.size + b.size ≤ maxLen) (wx : World) : (Op.stringOp .add a b).run Try.prog wx = .ok (.string c) wx := by
  rw [run_string_add_sum wx _ _ hs, h]
theorem enc_size (a n : Nat) : (⟨(enc a n).toArray⟩ : ByteArray).size = n := enc_len a n
/-- an entry's bytes with so many noughts behind -/
def catF (o : EN) (nx k : Nat) : ByteArray := ⟨(o.text nx ++ List.replicate k 0).toArray⟩
theorem catF_size (o : EN) (nx k : Nat) : (catF o nx k).size = 20 + k := by
  show (o.text nx ++ List.replicate k 0).length = _
  rw [List.length_append, EN.text_len, List.length_replicate]
theorem catF_next (o : EN) (nx k : Nat) : catF o nx k ++ ⟨#[0]⟩ = catF o nx (k + 1) := by
  apply ByteArray.ext
  apply Array.toList_inj.mp
  rw [ByteArray.data_append, Array.toList_append]
  show o.text nx ++ List.replicate k 0 ++ [0] = o.text nx ++ List.replicate (k + 1) 0
  rw [List.append_assoc, List.replicate_succ']
theorem catF_last (o : EN) (nx : Nat) : (catF o nx 40).data.toList = padTo (o.text nx) := by
  show o.text nx ++ List.replicate 40 0 = _
  unfold padTo
  rw [EN.text_len]
theorem catF_sealed (o : EN) (nx : Nat) : catF o nx 40 ++ ⟨(enc (C.Crc.sum (padTo (o.text nx))) 4).toArray⟩ = ⟨(sealed (o.text nx)).toArray⟩ := by
  apply ByteArray.ext
  apply Array.toList_inj.mp
  rw [ByteArray.data_append, Array.toList_append, catF_last]
  rfl
theorem tail_any (o : EN) (nx : Nat) : ∃ p q r s t u : ByteArray, p = ⟨#[86] ++ (enc o.id 4).toArray⟩ ∧ q = ⟨#[86] ++ (enc o.id 4).toArray ++ (enc o.parent 4).toArray⟩ ∧ r = ⟨#[86] ++ (enc o.id 4).toArray ++ (enc o.parent 4).toArray ++ (enc (oneIf o.only) 1).toArray⟩ ∧ s = ⟨(enc o.size 2).toArray ++ (enc o.root 2).toArray⟩ ∧ t = ⟨(enc o.size 2).toArray ++ (enc o.root 2).toArray ++ (enc o.born 4).toArray⟩ ∧ u = ⟨(enc o.size 2).toArray ++ (enc o.root 2).toArray ++ (enc o.born 4).toArray ++ (enc nx 2).toArray⟩ ∧ p.size = 5 ∧ q.size = 9 ∧ r.size = 10 ∧ s.size = 4 ∧ t.size = 8 ∧ u.size = 10 ∧ r ++ u = catF o nx 0 := by
  refine ⟨_, _, _, _, _, _, rfl, rfl, rfl, rfl, rfl, rfl, ?_, ?_, ?_, ?_, ?_, ?_, ?_⟩
  all_goals first
    | (show (Array.size _ : Nat) = _; simp [enc_len]; done)
    | skip
  apply ByteArray.ext
  apply Array.toList_inj.mp
  rw [ByteArray.data_append, Array.toList_append]
  simp [catF, EN.text]
set_option maxRecDepth 10000 in
set_option maxHeartbeats 4000000 in
theorem refCat_no (id parent size root born nx : Nat) (hid : id < 4294967296) (hpa : parent < 4294967296) (hsi : size < 65536) (hro : root < 65536) (hbo : born < 4294967296) (hnx : nx < 65536) (w : World) : Calls Try.prog 46 #[.agg #[.int .i64 id, .int .i64 parent, .bool false, .int .i64 size, .int .i64 root, .int .i64 born], .int .i64 nx] w fun e w' => e = .returned (.string ⟨(sealed ((⟨id, parent, false, size, root, born⟩ : EN).text nx)).toArray⟩) ∧ Below w.heap.size w w' := by
  have u1 := u32_as_u64 id hid
  have u2 := u32_as_u64 parent hpa
  have u3 := u32_as_u64 size (Nat.lt_trans hsi (by decide))
  have u4 := u32_as_u64 root (Nat.lt_trans hro (by decide))
  have u5 := u32_as_u64 born hbo
  have u6 := u32_as_u64 nx (Nat.lt_trans hnx (by decide))
  have HN : Hid (∀ (a : Nat) (m : Int) wx, a < 18446744073709551616 → Calls Try.prog 49 #[.int .u64 a, .int .i64 m] wx fun e w' => e = .returned (.string ⟨(enc a (wid m)).toArray⟩) ∧ Below wx.heap.size wx w') := Lib.hid fun a m wx ha => refNum_any a m wx ha
  have H1 := Lib.hid fun wx => HN.out id 4 wx (by omega)
  have H2 := Lib.hid fun wx => HN.out parent 4 wx (by omega)
  have H3 := Lib.hid fun wx => HN.out size 2 wx (by omega)
  have H4 := Lib.hid fun wx => HN.out root 2 wx (by omega)
  have H5 := Lib.hid fun wx => HN.out born 4 wx (by omega)
  have H6 := Lib.hid fun wx => HN.out nx 2 wx (by omega)
  rw [wid4] at H1 H2 H5
  rw [wid2] at H3 H4 H6
  obtain ⟨o, ho⟩ : ∃ o : EN, (⟨id, parent, false, size, root, born⟩ : EN) = o := ⟨_, rfl⟩
  obtain ⟨p, q, r, s, t, u, hp, hq, hr, hs, ht, hu, zp, zq, zr, zs, zt, zu, hru⟩ := tail_any o nx
  have e1 : o.id = id := by rw [← ho]
  have e2 : o.parent = parent := by rw [← ho]
  have e3 : oneIf o.only = 0 := by rw [← ho]; rfl
  have e4 : o.size = size := by rw [← ho]
  have e5 : o.root = root := by rw [← ho]
  have e6 : o.born = born := by rw [← ho]
  rw [e1] at hp hq hr
  rw [e2] at hq hr
  rw [e3] at hr
  rw [e4, e5] at hs ht hu
  rw [e6] at ht hu
  have z1 := enc_size id 4
  have z2 := enc_size parent 4
  have z3 := enc_size size 2
  have z4 := enc_size root 2
  have z5 := enc_size born 4
  have z6 := enc_size nx 2
  have s1 : (⟨#[86]⟩ : ByteArray).size = 1 := rfl
  have hmx : 100 ≤ maxLen := by unfold maxLen; decide
  have sb : (⟨#[0]⟩ : ByteArray).size = 1 := rfl
  have s0 : (⟨#[0]⟩ : ByteArray).size = 1 := rfl
  have c1 : ∀ wx : World, (Op.stringOp .add ⟨#[86]⟩ ⟨(enc id 4).toArray⟩).run Try.prog wx = .ok (.string p) wx := add_str _ _ _ (by rw [hp]; apply ByteArray.ext; rw [ByteArray.data_append]) (by omega)
  have c2 : ∀ wx : World, (Op.stringOp .add p ⟨(enc parent 4).toArray⟩).run Try.prog wx = .ok (.string q) wx := add_str _ _ _ (by rw [hp, hq]; apply ByteArray.ext; rw [ByteArray.data_append]) (by omega)
  have c3 : ∀ wx : World, (Op.stringOp .add q ⟨#[0]⟩).run Try.prog wx = .ok (.string r) wx := add_str _ _ _ (by rw [hq, hr]; apply ByteArray.ext; rw [ByteArray.data_append]; rfl) (by omega)
  have c4 : ∀ wx : World, (Op.stringOp .add ⟨(enc size 2).toArray⟩ ⟨(enc root 2).toArray⟩).run Try.prog wx = .ok (.string s) wx := add_str _ _ _ (by rw [hs]; apply ByteArray.ext; rw [ByteArray.data_append]) (by omega)
  have c5 : ∀ wx : World, (Op.stringOp .add s ⟨(enc born 4).toArray⟩).run Try.prog wx = .ok (.string t) wx := add_str _ _ _ (by rw [hs, ht]; apply ByteArray.ext; rw [ByteArray.data_append]) (by omega)
  have c6 : ∀ wx : World, (Op.stringOp .add t ⟨(enc nx 2).toArray⟩).run Try.prog wx = .ok (.string u) wx := add_str _ _ _ (by rw [ht, hu]; apply ByteArray.ext; rw [ByteArray.data_append]) (by omega)
  have c7 : ∀ wx : World, (Op.stringOp .add r u).run Try.prog wx = .ok (.string (catF o nx 0)) wx := add_str _ _ _ hru (by omega)
  have HFn : Hid (∀ k, k < 40 → ∀ wx : World, (Op.stringOp .add (catF o nx k) ⟨#[0]⟩).run Try.prog wx = .ok (.string (catF o nx (k + 1))) wx) := Lib.hid fun k hk => add_str _ _ _ (catF_next o nx k) (by rw [catF_size]; unfold maxLen; omega)
  have HFs := Lib.hid (catF_size o nx)
  have HCr : Hid (∀ wx : World, Calls Try.prog 50 #[.string (catF o nx 40)] wx fun e w' => e = .returned (.int .i64 (C.Crc.sum (padTo (o.text nx)) : Nat)) ∧ wx = w') := Lib.hid fun wx => by
    have h := C.ref_any (catF o nx 40) wx (by rw [catF_size]; decide)
    rw [catF_last] at h
    exact h
  have hc := crc_lt (padTo (o.text nx))
  have u7 := u32_as_u64 (C.Crc.sum (padTo (o.text nx))) hc
  have HN4 := Lib.hid fun wx => refNum_any (C.Crc.sum (padTo (o.text nx))) 4 wx (by omega)
  rw [wid4] at HN4
  have HL : ∀ wx : World, (Op.stringOp .add (catF o nx 40) ⟨(enc (C.Crc.sum (padTo (o.text nx))) 4).toArray⟩).run Try.prog wx = .ok (.string ⟨(sealed (o.text nx)).toArray⟩) wx := add_str _ _ _ (catF_sealed o nx) (by rw [catF_size, enc_size]; decide)
  rw [ho]
  generalize C.Crc.sum (padTo (o.text nx)) = K at *
  generalize (⟨(sealed (o.text nx)).toArray⟩ : ByteArray) = SS at *
  generalize (⟨(enc K 4).toArray⟩ : ByteArray) = e4' at *
  generalize catF o nx = RF at *
  generalize (⟨(enc id 4).toArray⟩ : ByteArray) = d1 at *
  generalize (⟨(enc parent 4).toArray⟩ : ByteArray) = d2 at *
  generalize (⟨(enc size 2).toArray⟩ : ByteArray) = d3 at *
  generalize (⟨(enc root 2).toArray⟩ : ByteArray) = d4 at *
  generalize (⟨(enc born 4).toArray⟩ : ByteArray) = d5 at *
  generalize (⟨(enc nx 2).toArray⟩ : ByteArray) = d6 at *
  clear hmx hp hq hr hs ht hu zp zq zr zs zt zu hru e1 e2 e3 e4 e5 e6 z1 z2 z3 z4 z5 z6 s1 sb s0 HN hid hpa hsi hro hbo hnx hc ho
  have hblk := heap_alloc_new w (.cells #[.int .i64 id, .int .i64 parent, .bool false, .int .i64 size, .int .i64 root, .int .i64 born] 63)
  have hlt0 : w.heap.size < (w.alloc (.cells #[.int .i64 id, .int .i64 parent, .bool false, .int .i64 size, .int .i64 root, .int .i64 born] 63)).heap.size := by simp
  have HB0 : Hid (Below w.heap.size w (w.alloc (.cells #[.int .i64 id, .int .i64 parent, .bool false, .int .i64 size, .int .i64 root, .int .i64 born] 63))) := Lib.hid ((Below.refl _ _).alloc (Nat.le_refl _) _)
  obtain ⟨l0, l1, l2, l3, l4, l5⟩ := six hblk
  go_enter Try.func46, Try.ntmps46
  go_wp2_with fail
  generalize hW : w.alloc (.cells #[.int .i64 id, .int .i64 parent, .bool false, .int .i64 size, .int .i64 root, .int .i64 born] 63) = W at *
  clear hW
  have HKb : Hid (∀ wx, Below W.heap.size W wx → wx.cell? ⟨w.heap.size, 0, none⟩ = some (.int .i64 id) ∧ wx.cell? ⟨w.heap.size, 1, none⟩ = some (.int .i64 parent) ∧ wx.cell? ⟨w.heap.size, 2, none⟩ = some (.bool false) ∧ wx.cell? ⟨w.heap.size, 3, none⟩ = some (.int .i64 size) ∧ wx.cell? ⟨w.heap.size, 4, none⟩ = some (.int .i64 root) ∧ wx.cell? ⟨w.heap.size, 5, none⟩ = some (.int .i64 born)) := Lib.hid fun wx hb => by
    refine six (t := 63) ?_
    rw [hb.block w.heap.size hlt0]
    exact hblk
  clear hblk hlt0
  have HKr := Lib.hid ((Below.refl W.heap.size W).drew)
  go_region_held3 (fun wx => wx.cell? ⟨w.heap.size, 0, none⟩ = some (.int .i64 id) ∧ wx.cell? ⟨w.heap.size, 1, none⟩ = some (.int .i64 parent))
    (first | exact ⟨l0, l1⟩ | exact ⟨(HKb.out _ HKr.out).1, (HKb.out _ HKr.out).2.1⟩ | exact ⟨(HKb.out _ HG1.out).1, (HKb.out _ HG1.out).2.1⟩ | exact ⟨(HKb.out _ HG2.out).1, (HKb.out _ HG2.out).2.1⟩)
    (first
      | (go_at_call 49; (with_reducible refine (H1.out W.drew).mono ?_); rintro e w1 ⟨rfl, hb1⟩; (have HG1 := Lib.hid (HKr.out.trans (hb1.mono HKr.out.size))); clear hb1)
      | (go_at_call 49; (with_reducible refine (H2.out w1).mono ?_); rintro e w2 ⟨rfl, hb2⟩; (have HG2 := Lib.hid (HG1.out.trans (hb2.mono HG1.out.size))); clear hb2))
  obtain ⟨l0, l1, l2, l3, l4, l5⟩ := HKb.out _ HG2.out
  go_wp2_with fail
  have HKr2 := Lib.hid HG2.out.drew
  go_region_held3 (fun wx => wx.cell? ⟨w.heap.size, 3, none⟩ = some (.int .i64 size) ∧ wx.cell? ⟨w.heap.size, 4, none⟩ = some (.int .i64 root) ∧ wx.cell? ⟨w.heap.size, 5, none⟩ = some (.int .i64 born))
    (first | exact ⟨l3, l4, l5⟩ | exact (HKb.out _ HKr2.out).2.2.2 | exact (HKb.out _ HG3.out).2.2.2 | exact (HKb.out _ HG4.out).2.2.2 | exact (HKb.out _ HG5.out).2.2.2 | exact (HKb.out _ HG6.out).2.2.2)
    (first
      | (go_at_call 49; (with_reducible refine (H3.out w2.drew).mono ?_); rintro e w3 ⟨rfl, hb3⟩; (have HG3 := Lib.hid (HKr2.out.trans (hb3.mono HKr2.out.size))); clear hb3)
      | (go_at_call 49; (with_reducible refine (H4.out w3).mono ?_); rintro e w4 ⟨rfl, hb4⟩; (have HG4 := Lib.hid (HG3.out.trans (hb4.mono HG3.out.size))); clear hb4)
      | (go_at_call 49; (with_reducible refine (H5.out w4).mono ?_); rintro e w5 ⟨rfl, hb5⟩; (have HG5 := Lib.hid (HG4.out.trans (hb5.mono HG4.out.size))); clear hb5)
      | (go_at_call 49; (with_reducible refine (H6.out w5).mono ?_); rintro e w6 ⟨rfl, hb6⟩; (have HG6 := Lib.hid (HG5.out.trans (hb6.mono HG5.out.size))); clear hb6))
  have HB6 := Lib.hid (HB0.out.trans (HG6.out.mono HB0.out.size))
  clear l0 l1 l2 l3 l4 l5 c1 c2 c3 c4 c5 c6 H1 H2 H3 H4 H5 H6 HKb HKr HKr2 HG1 HG2 HG3 HG4 HG5 HG6 HB0
  go_wp2_with fail
  go_loop [5] (fun s => ∃ k : Nat, k ≤ 40 ∧ s = .string (RF k)) (fun s => 60 - (match s with | .string x => x.size | _ => 0))
  case atStart => exact ⟨0, by omega, rfl⟩
  case round =>
    obtain ⟨k, hk, rfl⟩ := hrel
    have hz := HFs.out k
    by_cases hlt : k < 40
    · have i0 : ((RF k).size : Int) < 60 := by omega
      have ha := HFn.out k hlt
      have hz' := HFs.out (k + 1)
      have HK := Lib.hid (And.intro hlt (And.intro hz hz'))
      clear hz hz' hlt hk HFn HFs
      go_wp2
      go_round
      case rel => exact ⟨k + 1, by have := HK.out.1; omega, rfl⟩
      case measure =>
        have h1 := HK.out.1
        have h2 := HK.out.2.1
        have h3 := HK.out.2.2
        show 60 - (RF (k + 1)).size < 60 - (RF k).size
        omega
    · obtain rfl : k = 40 := by omega
      have i0 : ¬ ((RF 40).size : Int) < 60 := by omega
      clear hlt hk hz HFn HFs
      go_wp2_with fail
      refine (HCr.out _).mono ?_
      rintro e w7 ⟨rfl, rfl⟩
      clear HCr
      go_wp2_with fail
      refine (HN4.out _).mono ?_
      rintro e w8 ⟨rfl, hb8⟩
      have HB8 := Lib.hid (HB6.out.trans (hb8.mono HB6.out.size))
      clear hb8
      go_wp2_with fail
      go_ret
      exact ⟨rfl, HB8.out⟩
set_option maxRecDepth 10000 in
set_option maxHeartbeats 4000000 in
theorem refCat_yes (id parent size root born nx : Nat) (hid : id < 4294967296) (hpa : parent < 4294967296) (hsi : size < 65536) (hro : root < 65536) (hbo : born < 4294967296) (hnx : nx < 65536) (w : World) : Calls Try.prog 46 #[.agg #[.int .i64 id, .int .i64 parent, .bool true, .int .i64 size, .int .i64 root, .int .i64 born], .int .i64 nx] w fun e w' => e = .returned (.string ⟨(sealed ((⟨id, parent, true, size, root, born⟩ : EN).text nx)).toArray⟩) ∧ Below w.heap.size w w' := by
  have u1 := u32_as_u64 id hid
  have u2 := u32_as_u64 parent hpa
  have u3 := u32_as_u64 size (Nat.lt_trans hsi (by decide))
  have u4 := u32_as_u64 root (Nat.lt_trans hro (by decide))
  have u5 := u32_as_u64 born hbo
  have u6 := u32_as_u64 nx (Nat.lt_trans hnx (by decide))
  have HN : Hid (∀ (a : Nat) (m : Int) wx, a < 18446744073709551616 → Calls Try.prog 49 #[.int .u64 a, .int .i64 m] wx fun e w' => e = .returned (.string ⟨(enc a (wid m)).toArray⟩) ∧ Below wx.heap.size wx w') := Lib.hid fun a m wx ha => refNum_any a m wx ha
  have H1 := Lib.hid fun wx => HN.out id 4 wx (by omega)
  have H2 := Lib.hid fun wx => HN.out parent 4 wx (by omega)
  have H3 := Lib.hid fun wx => HN.out size 2 wx (by omega)
  have H4 := Lib.hid fun wx => HN.out root 2 wx (by omega)
  have H5 := Lib.hid fun wx => HN.out born 4 wx (by omega)
  have H6 := Lib.hid fun wx => HN.out nx 2 wx (by omega)
  rw [wid4] at H1 H2 H5
  rw [wid2] at H3 H4 H6
  obtain ⟨o, ho⟩ : ∃ o : EN, (⟨id, parent, true, size, root, born⟩ : EN) = o := ⟨_, rfl⟩
  obtain ⟨p, q, r, s, t, u, hp, hq, hr, hs, ht, hu, zp, zq, zr, zs, zt, zu, hru⟩ := tail_any o nx
  have e1 : o.id = id := by rw [← ho]
  have e2 : o.parent = parent := by rw [← ho]
  have e3 : oneIf o.only = 1 := by rw [← ho]; rfl
  have e4 : o.size = size := by rw [← ho]
  have e5 : o.root = root := by rw [← ho]
  have e6 : o.born = born := by rw [← ho]
  rw [e1] at hp hq hr
  rw [e2] at hq hr
  rw [e3] at hr
  rw [e4, e5] at hs ht hu
  rw [e6] at ht hu
  have z1 := enc_size id 4
  have z2 := enc_size parent 4
  have z3 := enc_size size 2
  have z4 := enc_size root 2
  have z5 := enc_size born 4
  have z6 := enc_size nx 2
  have s1 : (⟨#[86]⟩ : ByteArray).size = 1 := rfl
  have hmx : 100 ≤ maxLen := by unfold maxLen; decide
  have sb : (⟨#[1]⟩ : ByteArray).size = 1 := rfl
  have s0 : (⟨#[0]⟩ : ByteArray).size = 1 := rfl
  have c1 : ∀ wx : World, (Op.stringOp .add ⟨#[86]⟩ ⟨(enc id 4).toArray⟩).run Try.prog wx = .ok (.string p) wx := add_str _ _ _ (by rw [hp]; apply ByteArray.ext; rw [ByteArray.data_append]) (by omega)
  have c2 : ∀ wx : World, (Op.stringOp .add p ⟨(enc parent 4).toArray⟩).run Try.prog wx = .ok (.string q) wx := add_str _ _ _ (by rw [hp, hq]; apply ByteArray.ext; rw [ByteArray.data_append]) (by omega)
  have c3 : ∀ wx : World, (Op.stringOp .add q ⟨#[1]⟩).run Try.prog wx = .ok (.string r) wx := add_str _ _ _ (by rw [hq, hr]; apply ByteArray.ext; rw [ByteArray.data_append]; rfl) (by omega)
  have c4 : ∀ wx : World, (Op.stringOp .add ⟨(enc size 2).toArray⟩ ⟨(enc root 2).toArray⟩).run Try.prog wx = .ok (.string s) wx := add_str _ _ _ (by rw [hs]; apply ByteArray.ext; rw [ByteArray.data_append]) (by omega)
  have c5 : ∀ wx : World, (Op.stringOp .add s ⟨(enc born 4).toArray⟩).run Try.prog wx = .ok (.string t) wx := add_str _ _ _ (by rw [hs, ht]; apply ByteArray.ext; rw [ByteArray.data_append]) (by omega)
  have c6 : ∀ wx : World, (Op.stringOp .add t ⟨(enc nx 2).toArray⟩).run Try.prog wx = .ok (.string u) wx := add_str _ _ _ (by rw [ht, hu]; apply ByteArray.ext; rw [ByteArray.data_append]) (by omega)
  have c7 : ∀ wx : World, (Op.stringOp .add r u).run Try.prog wx = .ok (.string (catF o nx 0)) wx := add_str _ _ _ hru (by omega)
  have HFn : Hid (∀ k, k < 40 → ∀ wx : World, (Op.stringOp .add (catF o nx k) ⟨#[0]⟩).run Try.prog wx = .ok (.string (catF o nx (k + 1))) wx) := Lib.hid fun k hk => add_str _ _ _ (catF_next o nx k) (by rw [catF_size]; unfold maxLen; omega)
  have HFs := Lib.hid (catF_size o nx)
  have HCr : Hid (∀ wx : World, Calls Try.prog 50 #[.string (catF o nx 40)] wx fun e w' => e = .returned (.int .i64 (C.Crc.sum (padTo (o.text nx)) : Nat)) ∧ wx = w') := Lib.hid fun wx => by
    have h := C.ref_any (catF o nx 40) wx (by rw [catF_size]; decide)
    rw [catF_last] at h
    exact h
  have hc := crc_lt (padTo (o.text nx))
  have u7 := u32_as_u64 (C.Crc.sum (padTo (o.text nx))) hc
  have HN4 := Lib.hid fun wx => refNum_any (C.Crc.sum (padTo (o.text nx))) 4 wx (by omega)
  rw [wid4] at HN4
  have HL : ∀ wx : World, (Op.stringOp .add (catF o nx 40) ⟨(enc (C.Crc.sum (padTo (o.text nx))) 4).toArray⟩).run Try.prog wx = .ok (.string ⟨(sealed (o.text nx)).toArray⟩) wx := add_str _ _ _ (catF_sealed o nx) (by rw [catF_size, enc_size]; decide)
  rw [ho]
  generalize C.Crc.sum (padTo (o.text nx)) = K at *
  generalize (⟨(sealed (o.text nx)).toArray⟩ : ByteArray) = SS at *
  generalize (⟨(enc K 4).toArray⟩ : ByteArray) = e4' at *
  generalize catF o nx = RF at *
  generalize (⟨(enc id 4).toArray⟩ : ByteArray) = d1 at *
  generalize (⟨(enc parent 4).toArray⟩ : ByteArray) = d2 at *
  generalize (⟨(enc size 2).toArray⟩ : ByteArray) = d3 at *
  generalize (⟨(enc root 2).toArray⟩ : ByteArray) = d4 at *
  generalize (⟨(enc born 4).toArray⟩ : ByteArray) = d5 at *
  generalize (⟨(enc nx 2).toArray⟩ : ByteArray) = d6 at *
  clear hmx hp hq hr hs ht hu zp zq zr zs zt zu hru e1 e2 e3 e4 e5 e6 z1 z2 z3 z4 z5 z6 s1 sb s0 HN hid hpa hsi hro hbo hnx hc ho
  have hblk := heap_alloc_new w (.cells #[.int .i64 id, .int .i64 parent, .bool true, .int .i64 size, .int .i64 root, .int .i64 born] 63)
  have hlt0 : w.heap.size < (w.alloc (.cells #[.int .i64 id, .int .i64 parent, .bool true, .int .i64 size, .int .i64 root, .int .i64 born] 63)).heap.size := by simp
  have HB0 : Hid (Below w.heap.size w (w.alloc (.cells #[.int .i64 id, .int .i64 parent, .bool true, .int .i64 size, .int .i64 root, .int .i64 born] 63))) := Lib.hid ((Below.refl _ _).alloc (Nat.le_refl _) _)
  obtain ⟨l0, l1, l2, l3, l4, l5⟩ := six hblk
  go_enter Try.func46, Try.ntmps46
  go_wp2_with fail
  generalize hW : w.alloc (.cells #[.int .i64 id, .int .i64 parent, .bool true, .int .i64 size, .int .i64 root, .int .i64 born] 63) = W at *
  clear hW
  have HKb : Hid (∀ wx, Below W.heap.size W wx → wx.cell? ⟨w.heap.size, 0, none⟩ = some (.int .i64 id) ∧ wx.cell? ⟨w.heap.size, 1, none⟩ = some (.int .i64 parent) ∧ wx.cell? ⟨w.heap.size, 2, none⟩ = some (.bool true) ∧ wx.cell? ⟨w.heap.size, 3, none⟩ = some (.int .i64 size) ∧ wx.cell? ⟨w.heap.size, 4, none⟩ = some (.int .i64 root) ∧ wx.cell? ⟨w.heap.size, 5, none⟩ = some (.int .i64 born)) := Lib.hid fun wx hb => by
    refine six (t := 63) ?_
    rw [hb.block w.heap.size hlt0]
    exact hblk
  clear hblk hlt0
  have HKr := Lib.hid ((Below.refl W.heap.size W).drew)
  go_region_held3 (fun wx => wx.cell? ⟨w.heap.size, 0, none⟩ = some (.int .i64 id) ∧ wx.cell? ⟨w.heap.size, 1, none⟩ = some (.int .i64 parent))
    (first | exact ⟨l0, l1⟩ | exact ⟨(HKb.out _ HKr.out).1, (HKb.out _ HKr.out).2.1⟩ | exact ⟨(HKb.out _ HG1.out).1, (HKb.out _ HG1.out).2.1⟩ | exact ⟨(HKb.out _ HG2.out).1, (HKb.out _ HG2.out).2.1⟩)
    (first
      | (go_at_call 49; (with_reducible refine (H1.out W.drew).mono ?_); rintro e w1 ⟨rfl, hb1⟩; (have HG1 := Lib.hid (HKr.out.trans (hb1.mono HKr.out.size))); clear hb1)
      | (go_at_call 49; (with_reducible refine (H2.out w1).mono ?_); rintro e w2 ⟨rfl, hb2⟩; (have HG2 := Lib.hid (HG1.out.trans (hb2.mono HG1.out.size))); clear hb2))
  obtain ⟨l0, l1, l2, l3, l4, l5⟩ := HKb.out _ HG2.out
  go_wp2_with fail
  have HKr2 := Lib.hid HG2.out.drew
  go_region_held3 (fun wx => wx.cell? ⟨w.heap.size, 3, none⟩ = some (.int .i64 size) ∧ wx.cell? ⟨w.heap.size, 4, none⟩ = some (.int .i64 root) ∧ wx.cell? ⟨w.heap.size, 5, none⟩ = some (.int .i64 born))
    (first | exact ⟨l3, l4, l5⟩ | exact (HKb.out _ HKr2.out).2.2.2 | exact (HKb.out _ HG3.out).2.2.2 | exact (HKb.out _ HG4.out).2.2.2 | exact (HKb.out _ HG5.out).2.2.2 | exact (HKb.out _ HG6.out).2.2.2)
    (first
      | (go_at_call 49; (with_reducible refine (H3.out w2.drew).mono ?_); rintro e w3 ⟨rfl, hb3⟩; (have HG3 := Lib.hid (HKr2.out.trans (hb3.mono HKr2.out.size))); clear hb3)
      | (go_at_call 49; (with_reducible refine (H4.out w3).mono ?_); rintro e w4 ⟨rfl, hb4⟩; (have HG4 := Lib.hid (HG3.out.trans (hb4.mono HG3.out.size))); clear hb4)
      | (go_at_call 49; (with_reducible refine (H5.out w4).mono ?_); rintro e w5 ⟨rfl, hb5⟩; (have HG5 := Lib.hid (HG4.out.trans (hb5.mono HG4.out.size))); clear hb5)
      | (go_at_call 49; (with_reducible refine (H6.out w5).mono ?_); rintro e w6 ⟨rfl, hb6⟩; (have HG6 := Lib.hid (HG5.out.trans (hb6.mono HG5.out.size))); clear hb6))
  have HB6 := Lib.hid (HB0.out.trans (HG6.out.mono HB0.out.size))
  clear l0 l1 l2 l3 l4 l5 c1 c2 c3 c4 c5 c6 H1 H2 H3 H4 H5 H6 HKb HKr HKr2 HG1 HG2 HG3 HG4 HG5 HG6 HB0
  go_wp2_with fail
  go_loop [5] (fun s => ∃ k : Nat, k ≤ 40 ∧ s = .string (RF k)) (fun s => 60 - (match s with | .string x => x.size | _ => 0))
  case atStart => exact ⟨0, by omega, rfl⟩
  case round =>
    obtain ⟨k, hk, rfl⟩ := hrel
    have hz := HFs.out k
    by_cases hlt : k < 40
    · have i0 : ((RF k).size : Int) < 60 := by omega
      have ha := HFn.out k hlt
      have hz' := HFs.out (k + 1)
      have HK := Lib.hid (And.intro hlt (And.intro hz hz'))
      clear hz hz' hlt hk HFn HFs
      go_wp2
      go_round
      case rel => exact ⟨k + 1, by have := HK.out.1; omega, rfl⟩
      case measure =>
        have h1 := HK.out.1
        have h2 := HK.out.2.1
        have h3 := HK.out.2.2
        show 60 - (RF (k + 1)).size < 60 - (RF k).size
        omega
    · obtain rfl : k = 40 := by omega
      have i0 : ¬ ((RF 40).size : Int) < 60 := by omega
      clear hlt hk hz HFn HFs
      go_wp2_with fail
      refine (HCr.out _).mono ?_
      rintro e w7 ⟨rfl, rfl⟩
      clear HCr
      go_wp2_with fail
      refine (HN4.out _).mono ?_
      rintro e w8 ⟨rfl, hb8⟩
      have HB8 := Lib.hid (HB6.out.trans (hb8.mono HB6.out.size))
      clear hb8
      go_wp2_with fail
      go_ret
      exact ⟨rfl, HB8.out⟩
theorem refCatBytes_any (o : EN) (ho : o.fits) (nx : Nat) (hn : nx < 65536) (w : World) : Calls Try.prog 46 #[.agg o.told, .int .i64 nx] w fun e w' => e = .returned (.string ⟨(sealed (o.text nx)).toArray⟩) ∧ Below w.heap.size w w' := by
  obtain ⟨id, parent, only, size, root, born⟩ := o
  cases only
  · exact refCat_no id parent size root born nx ho.id ho.parent ho.size ho.root ho.born hn w
  · exact refCat_yes id parent size root born nx ho.id ho.parent ho.size ho.root ho.born hn w
end Go.Proofs.Ytemnkffaapljpaa

/-
  An entry's bytes, read: what they say of themselves.
-/
namespace Go.Proofs.Ytemnkffaapljpaa
open Go.RowKit

theorem ext_list (s : ByteArray) (a b : Nat) : (s.extract a b).data.toList = (s.data.toList.drop a).take (b - a) := by
  rw [ByteArray.data_extract, Array.toList_extract, List.extract_eq_take_drop]
theorem ext_end (s : ByteArray) (a : Nat) : (s.extract a s.size).data.toList = s.data.toList.drop a := by
  rw [ext_list, List.take_of_length_le]
  rw [List.length_drop]
  show s.data.toList.length - a ≤ s.size - a
  simp
theorem ahead_list (s : ByteArray) : (ahead s).data.toList = s.data.toList.take 60 := by
  unfold ahead
  rw [ext_list, List.drop_zero]
theorem num_inj {l k : List UInt8} (h : l.length = k.length) (e : num l = num k) : l = k := by
  have := num_eq l k h
  rw [e, decide_eq_true rfl] at this
  exact eq_of_beq this
theorem enc_num (l : List UInt8) (n : Nat) (h : l.length = n) : enc (num l) n = l := by
  refine num_inj (by rw [enc_len, h]) ?_
  rw [num_enc]
  have := num_lt l
  rw [h] at this
  exact Nat.mod_eq_of_lt this
theorem cut_at (A : List UInt8) (k n : Nat) : A.drop k = (A.drop k).take n ++ A.drop (k + n) := by
  rw [← List.drop_drop, List.take_append_drop]
theorem cut_all (A : List UInt8) : A = A.take 1 ++ ((A.drop 1).take 4 ++ ((A.drop 5).take 4 ++ ((A.drop 9).take 1 ++ ((A.drop 10).take 2 ++ ((A.drop 12).take 2 ++ ((A.drop 14).take 4 ++ ((A.drop 18).take 2 ++ A.drop 20))))))) := by
  rw [← cut_at A 18 2, ← cut_at A 14 4, ← cut_at A 12 2, ← cut_at A 10 2, ← cut_at A 9 1, ← cut_at A 5 4, ← cut_at A 1 4, List.take_append_drop]
theorem len_cut (A : List UInt8) (h : A.length = 60) (k n : Nat) (hk : k + n ≤ 60) : ((A.drop k).take n).length = n := by
  rw [List.length_take, List.length_drop, h]
  omega
theorem one_of (A : List UInt8) (h : A.length = 60) (ho : onOf A ≤ 1) : enc (oneIf (enOf A).only) 1 = (A.drop 9).take 1 := by
  have e : oneIf (enOf A).only = onOf A := by
    show oneIf (((onOf A : Nat) : Int) == 1) = onOf A
    unfold oneIf
    have h2 : onOf A = 0 ∨ onOf A = 1 := by omega
    rcases h2 with h2 | h2 <;> rw [h2] <;> rfl
  rw [e]
  exact enc_num _ 1 (len_cut A h 9 1 (by omega))
theorem text_of (A : List UInt8) (h : A.length = 60) : (enOf A).text (nxOf A) = 86 :: ((A.drop 1).take 4 ++ ((A.drop 5).take 4 ++ (enc (oneIf (enOf A).only) 1 ++ ((A.drop 10).take 2 ++ ((A.drop 12).take 2 ++ ((A.drop 14).take 4 ++ (A.drop 18).take 2)))))) := by
  show 86 :: (enc (num ((A.drop 1).take 4)) 4 ++ (enc (num ((A.drop 5).take 4)) 4 ++ (enc (oneIf (enOf A).only) 1 ++ (enc (num ((A.drop 10).take 2)) 2 ++ (enc (num ((A.drop 12).take 2)) 2 ++ (enc (num ((A.drop 14).take 4)) 4 ++ enc (num ((A.drop 18).take 2)) 2)))))) = _
  rw [enc_num _ 4 (len_cut A h 1 4 (by omega)), enc_num _ 4 (len_cut A h 5 4 (by omega)), enc_num _ 2 (len_cut A h 10 2 (by omega)), enc_num _ 2 (len_cut A h 12 2 (by omega)), enc_num _ 4 (len_cut A h 14 4 (by omega)), enc_num _ 2 (len_cut A h 18 2 (by omega))]
theorem zeros_of : ∀ l : List UInt8, l.all (· == 0) = true → l = List.replicate l.length 0
  | [], _ => rfl
  | b :: l, h => by
    rw [List.all_cons, Bool.and_eq_true] at h
    have e : b = 0 := eq_of_beq h.1
    rw [List.length_cons, List.replicate_succ, ← zeros_of l h.2, e]
theorem zeros_all (n : Nat) : (List.replicate n (0 : UInt8)).all (· == 0) = true := by
  rw [List.all_eq_true]
  intro x hx
  rw [List.eq_of_mem_replicate hx]
  rfl
theorem pad_text (o : EN) (nx : Nat) : padTo (o.text nx) = o.text nx ++ List.replicate 40 0 := by unfold padTo; rw [EN.text_len]
/-- are these the bytes of what they say -/
theorem same_text (A : List UInt8) (h : A.length = 60) : padTo ((enOf A).text (nxOf A)) = A ↔ (A.take 1 = [86] ∧ (A.drop 20).all (· == 0) = true ∧ onOf A ≤ 1) := by
  have hT := EN.text_len (enOf A) (nxOf A)
  constructor
  · intro e
    rw [pad_text] at e
    have e1 : A.take 20 = (enOf A).text (nxOf A) := (congrArg (List.take 20) e.symm).trans (List.take_left' hT)
    have e2 : A.drop 20 = List.replicate 40 0 := by
      have h2 : ((enOf A).text (nxOf A) ++ List.replicate 40 0).drop 20 = List.replicate 40 0 := List.drop_left' hT
      rw [e] at h2
      exact h2
    have e3 : (A.drop 9).take 1 = enc (oneIf (enOf A).only) 1 := by
      have h1 : ((A.take 20).drop 9).take 1 = (A.drop 9).take 1 := by rw [List.drop_take, List.take_take]; rfl
      rw [← h1, e1, text_of A h]
      rw [show (9 : Nat) = 8 + 1 from rfl, List.drop_succ_cons, ← List.append_assoc ((A.drop 1).take 4), List.drop_left' (by rw [List.length_append, len_cut A h 1 4 (by omega), len_cut A h 5 4 (by omega)]), List.take_left' (enc_len _ _)]
    refine ⟨?_, by rw [e2]; exact zeros_all 40, ?_⟩
    · have h1 : (A.take 20).take 1 = A.take 1 := by rw [List.take_take]; rfl
      rw [← h1, e1]
      rfl
    · show num ((A.drop 9).take 1) ≤ 1
      rw [e3, num_enc]
      unfold oneIf
      split <;> decide
  · rintro ⟨h1, h2, h3⟩
    have hz := zeros_of _ h2
    rw [List.length_drop, h] at hz
    have hz : A.drop 20 = List.replicate 40 0 := hz
    have hc := cut_all A
    rw [h1, hz] at hc
    rw [pad_text, text_of A h, one_of A h h3]
    refine Eq.trans ?_ hc.symm
    simp only [List.cons_append, List.append_assoc, List.nil_append]
theorem sealed_same (s : ByteArray) (h1 : s.size = 64) (h : saysSum s = C.Crc.sum (ahead s).data.toList) : (⟨(sealed ((enOf (ahead s).data.toList).text (nxOf (ahead s).data.toList))).toArray⟩ : ByteArray) = s ↔ padTo ((enOf (ahead s).data.toList).text (nxOf (ahead s).data.toList)) = (ahead s).data.toList := by
  have hl : s.data.toList.length = 64 := by rw [← h1]; simp
  have hT := EN.text_len (enOf (ahead s).data.toList) (nxOf (ahead s).data.toList)
  have hp := padTo_len ((enOf (ahead s).data.toList).text (nxOf (ahead s).data.toList)) (by omega)
  generalize (enOf (ahead s).data.toList).text (nxOf (ahead s).data.toList) = T at *
  constructor
  · intro e
    have e1 : sealed T = s.data.toList := congrArg (fun x : ByteArray => x.data.toList) e
    rw [ahead_list, ← e1]
    unfold sealed
    exact (List.take_left' hp).symm
  · intro e
    apply ByteArray.ext
    apply Array.toList_inj.mp
    show sealed T = s.data.toList
    unfold sealed
    rw [e, ← h]
    unfold saysSum
    rw [ext_end, List.take_of_length_le (by rw [List.length_drop, hl]; decide), enc_num _ 4 (by rw [List.length_drop, hl]), ahead_list, List.take_append_drop]
/-- an entry's own bytes -/
theorem own_says (o : EN) (nx : Nat) : saysSum ⟨(sealed (o.text nx)).toArray⟩ = C.Crc.sum (ahead ⟨(sealed (o.text nx)).toArray⟩).data.toList ∧ (ahead ⟨(sealed (o.text nx)).toArray⟩).data.toList = padTo (o.text nx) := by
  have hp := padTo_len (o.text nx) (by rw [EN.text_len]; decide)
  have e : (ahead ⟨(sealed (o.text nx)).toArray⟩).data.toList = padTo (o.text nx) := by
    rw [ahead_list]
    show (sealed (o.text nx)).take 60 = _
    unfold sealed
    exact List.take_left' hp
  refine ⟨?_, e⟩
  rw [e]
  unfold saysSum
  rw [ext_end]
  show num (((sealed (o.text nx)).drop 60).take 4) = _
  unfold sealed
  rw [List.drop_left' hp, List.take_of_length_le (by rw [enc_len]; exact Nat.le_refl _), num_enc]
  exact Nat.mod_eq_of_lt (crc_lt _)
theorem own_back (o : EN) (ho : o.fits) (nx : Nat) (hn : nx < 65536) : enOf (padTo (o.text nx)) = o ∧ nxOf (padTo (o.text nx)) = nx ∧ onOf (padTo (o.text nx)) ≤ 1 ∧ (padTo (o.text nx)).take 1 = [86] ∧ ((padTo (o.text nx)).drop 20).all (· == 0) = true := by
  obtain ⟨id, parent, only, size, root, born⟩ := o
  have h1 : id < 4294967296 := ho.id
  have h2 : parent < 4294967296 := ho.parent
  have h3 : size < 65536 := ho.size
  have h4 : root < 65536 := ho.root
  have h5 : born < 4294967296 := ho.born
  obtain ⟨Z, hZ⟩ : ∃ Z, List.replicate 40 (0 : UInt8) = Z := ⟨_, rfl⟩
  have hT : padTo ((⟨id, parent, only, size, root, born⟩ : EN).text nx) = 86 :: (enc id 4 ++ (enc parent 4 ++ (enc (oneIf only) 1 ++ (enc size 2 ++ (enc root 2 ++ (enc born 4 ++ (enc nx 2 ++ Z))))))) := by
    rw [pad_text, hZ]
    simp only [EN.text, List.cons_append, List.append_assoc]
  rw [hT]
  obtain ⟨T, hTe⟩ : ∃ T, (86 :: (enc id 4 ++ (enc parent 4 ++ (enc (oneIf only) 1 ++ (enc size 2 ++ (enc root 2 ++ (enc born 4 ++ (enc nx 2 ++ Z))))))) : List UInt8) = T := ⟨_, rfl⟩
  rw [hTe]
  have d1 : T.drop 1 = enc id 4 ++ (enc parent 4 ++ (enc (oneIf only) 1 ++ (enc size 2 ++ (enc root 2 ++ (enc born 4 ++ (enc nx 2 ++ Z)))))) := by rw [← hTe]; rfl
  have d5 : T.drop 5 = enc parent 4 ++ (enc (oneIf only) 1 ++ (enc size 2 ++ (enc root 2 ++ (enc born 4 ++ (enc nx 2 ++ Z))))) := by rw [show (5 : Nat) = 1 + 4 from rfl, ← List.drop_drop, d1]; exact List.drop_left' (enc_len _ _)
  have d9 : T.drop 9 = enc (oneIf only) 1 ++ (enc size 2 ++ (enc root 2 ++ (enc born 4 ++ (enc nx 2 ++ Z)))) := by rw [show (9 : Nat) = 5 + 4 from rfl, ← List.drop_drop, d5]; exact List.drop_left' (enc_len _ _)
  have d10 : T.drop 10 = enc size 2 ++ (enc root 2 ++ (enc born 4 ++ (enc nx 2 ++ Z))) := by rw [show (10 : Nat) = 9 + 1 from rfl, ← List.drop_drop, d9]; exact List.drop_left' (enc_len _ _)
  have d12 : T.drop 12 = enc root 2 ++ (enc born 4 ++ (enc nx 2 ++ Z)) := by rw [show (12 : Nat) = 10 + 2 from rfl, ← List.drop_drop, d10]; exact List.drop_left' (enc_len _ _)
  have d14 : T.drop 14 = enc born 4 ++ (enc nx 2 ++ Z) := by rw [show (14 : Nat) = 12 + 2 from rfl, ← List.drop_drop, d12]; exact List.drop_left' (enc_len _ _)
  have d18 : T.drop 18 = enc nx 2 ++ Z := by rw [show (18 : Nat) = 14 + 4 from rfl, ← List.drop_drop, d14]; exact List.drop_left' (enc_len _ _)
  have d20 : T.drop 20 = Z := by rw [show (20 : Nat) = 18 + 2 from rfl, ← List.drop_drop, d18]; exact List.drop_left' (enc_len _ _)
  have n1 : num ((T.drop 1).take 4) = id := by rw [d1, List.take_left' (enc_len _ _), num_enc, Nat.mod_eq_of_lt h1]
  have n5 : num ((T.drop 5).take 4) = parent := by rw [d5, List.take_left' (enc_len _ _), num_enc, Nat.mod_eq_of_lt h2]
  have n9 : num ((T.drop 9).take 1) = oneIf only := by
    rw [d9, List.take_left' (enc_len _ _), num_enc]
    cases only <;> rfl
  have n10 : num ((T.drop 10).take 2) = size := by rw [d10, List.take_left' (enc_len _ _), num_enc, Nat.mod_eq_of_lt h3]
  have n12 : num ((T.drop 12).take 2) = root := by rw [d12, List.take_left' (enc_len _ _), num_enc, Nat.mod_eq_of_lt h4]
  have n14 : num ((T.drop 14).take 4) = born := by rw [d14, List.take_left' (enc_len _ _), num_enc, Nat.mod_eq_of_lt h5]
  have n18 : num ((T.drop 18).take 2) = nx := by rw [d18, List.take_left' (enc_len _ _), num_enc, Nat.mod_eq_of_lt hn]
  refine ⟨?_, n18, ?_, by rw [← hTe]; rfl, by rw [d20, ← hZ]; exact zeros_all 40⟩
  · unfold enOf
    rw [n1, n5, n9, n10, n12, n14]
    have : (((oneIf only : Nat) : Int) == 1) = only := by cases only <;> rfl
    rw [this]
  · show num ((T.drop 9).take 1) ≤ 1
    rw [n9]
    cases only <;> decide
/-- may an entry not be -/
def badO (o : EN) : Prop := o.id = 0 ∨ o.size < 1 ∨ 2048 < o.size
instance (o : EN) : Decidable (badO o) := by unfold badO; infer_instance
theorem own_catE (o : EN) (ho : o.fits) (nx : Nat) (hn : nx < 65536) : catE ⟨(sealed (o.text nx)).toArray⟩ = if badO o then some 1 else none := by
  obtain ⟨h1, h2⟩ := own_says o nx
  obtain ⟨b1, b2, b3, b4, b5⟩ := own_back o ho nx hn
  have hs : (⟨(sealed (o.text nx)).toArray⟩ : ByteArray).size = 64 := by
    show (sealed (o.text nx)).toArray.size = 64
    rw [List.size_toArray]
    unfold sealed
    rw [List.length_append, padTo_len _ (by rw [EN.text_len]; decide), enc_len]
  unfold catE
  rw [hs, if_neg (by decide), if_neg (by rw [h1]; exact fun e => e rfl), if_neg (by decide), h2]
  have hb : badEn (padTo (o.text nx)) ↔ badO o := by
    unfold badEn badO
    rw [b1]
    constructor
    · rintro (e | e)
      · omega
      · exact e
    · exact Or.inr
  by_cases h : badO o
  · rw [if_pos h, if_neg fun e => e.2.2 (hb.2 h)]
  · rw [if_neg h, if_pos ⟨b4, b5, fun e => h (hb.1 e)⟩]
theorem own_got (o : EN) (ho : o.fits) (nx : Nat) (hn : nx < 65536) : gotEN ⟨(sealed (o.text nx)).toArray⟩ = (if badO o then EN.none else o) ∧ gotNx ⟨(sealed (o.text nx)).toArray⟩ = if badO o then 0 else nx := by
  obtain ⟨h1, h2⟩ := own_says o nx
  obtain ⟨b1, b2, _⟩ := own_back o ho nx hn
  by_cases h : badO o
  · have e0 : catE ⟨(sealed (o.text nx)).toArray⟩ = some 1 := by rw [own_catE o ho nx hn, if_pos h]
    refine ⟨?_, ?_⟩
    · unfold gotEN
      rw [e0, if_neg (by simp), if_pos h]
    · unfold gotNx
      rw [e0, if_neg (by simp), if_pos h]
  · have e0 : catE ⟨(sealed (o.text nx)).toArray⟩ = none := by rw [own_catE o ho nx hn, if_neg h]
    refine ⟨?_, ?_⟩
    · unfold gotEN
      rw [e0, if_pos rfl, if_neg h, h2, b1]
    · unfold gotNx
      rw [e0, if_pos rfl, if_neg h, h2, b2]
end Go.Proofs.Ytemnkffaapljpaa
