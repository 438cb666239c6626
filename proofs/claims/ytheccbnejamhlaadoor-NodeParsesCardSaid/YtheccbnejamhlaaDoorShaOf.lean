/-
  Of: the sum of texts, one behind the other.
-/
import Derived.Test.YtheccbnejamhlaaDoorShaEnd
namespace Go.Proofs.YtheccbnejamhlaaDoor
open Go.RowKit

namespace Sha
def x0 (s : St) : Tx := ⟨s, fun _ => 0, 0⟩
def sha (K : Nat → Nat) (s : St) (l : List UInt8) : St := fin K (pads K (feed K (feeds K (x0 s) l) 128)) (l.length % M64 * 8 % M64)
end Sha
def sumOf (s : Sha.St) : List Value := (List.range 32).map fun j => Value.int .u8 (Sha.dg s j : Nat)
def cat (ss : List ByteArray) : List UInt8 := (ss.map fun s => s.data.toList).flatten
theorem cat_snoc (ss : List ByteArray) (k : Nat) (h : k < ss.length) : cat (ss.take (k + 1)) = cat (ss.take k) ++ (ss.getD k ByteArray.empty).data.toList := by
  rw [List.take_succ_eq_append_getElem h, List.getD_eq_getElem?_getD, List.getElem?_eq_getElem h]
  unfold cat
  rw [List.map_append, List.flatten_append]
  simp
def t74 (s : Sha.St) : List Value := (List.range 74).map (tv s (fun _ => 0) 0 0)
theorem build_text (s : Sha.St) : ∀ w : World, (Instr.build 62 #[(0, .agg (wordsOf s).toArray)]).run Tryd.prog w = .ok (.agg (t74 s).toArray) w := fun w => by kernel_rfl
theorem wp_build {P : Program} {op : Oper} {a : Act} {w : World} {K : Act → World → Prop} {Q : Exit → Act → World → Prop} (ty : TypeId) (i : Nat) (x : Operand) (ho : op.op = .build ty #[(i, x)]) (v u : Value) (hx : a.eval x = u)
    (hrun : (Instr.build ty #[(i, u)]).run P w = .ok v w) (h : K (a.put op.dst v) w) : op.wp P a w K Q := by
  subst hx
  unfold Oper.wp execOp
  simp only [ho, Sem.run_bind, Sem.run_pure, Result.andThen_ok, List.map_toArray, List.map_cons, List.map_nil, hrun]
  exact h
theorem wpList_build {P : Program} {ops : Array Oper} {rest : List Oper} {op : Oper} {a : Act} {w : World} {Q : Exit → Act → World → Prop} (hgd : op.guard = none) (ty : TypeId) (i : Nat) (x : Operand) (ho : op.op = .build ty #[(i, x)]) (v u : Value) (hx : a.eval x = u)
    (hrun : (Instr.build ty #[(i, u)]).run P w = .ok v w) (h : wpList P ops Q rest (a.put op.dst v) w) : wpList P ops Q (op :: rest) a w :=
  wpList_plain hgd fun _ hK => wp_build ty i x ho v u hx hrun (hK _ _ h)
def lit74 : Array Value := #[.int .u32 0, .int .u32 0, .int .u32 0, .int .u32 0, .int .u32 0, .int .u32 0, .int .u32 0, .int .u32 0, .int .u8 0, .int .u8 0, .int .u8 0, .int .u8 0, .int .u8 0, .int .u8 0, .int .u8 0, .int .u8 0, .int .u8 0, .int .u8 0, .int .u8 0, .int .u8 0, .int .u8 0, .int .u8 0, .int .u8 0, .int .u8 0, .int .u8 0, .int .u8 0, .int .u8 0, .int .u8 0, .int .u8 0, .int .u8 0, .int .u8 0, .int .u8 0, .int .u8 0, .int .u8 0, .int .u8 0, .int .u8 0, .int .u8 0, .int .u8 0, .int .u8 0, .int .u8 0, .int .u8 0, .int .u8 0, .int .u8 0, .int .u8 0, .int .u8 0, .int .u8 0, .int .u8 0, .int .u8 0, .int .u8 0, .int .u8 0, .int .u8 0, .int .u8 0, .int .u8 0, .int .u8 0, .int .u8 0, .int .u8 0, .int .u8 0, .int .u8 0, .int .u8 0, .int .u8 0, .int .u8 0, .int .u8 0, .int .u8 0, .int .u8 0, .int .u8 0, .int .u8 0, .int .u8 0, .int .u8 0, .int .u8 0, .int .u8 0, .int .u8 0, .int .u8 0, .int .i64 0, .int .u64 0]
theorem lit74_at (j : Nat) (h : j < 74) : lit74[j]? = some (lit74.getD j .nilIface) := by
  have hs : lit74.size = 74 := rfl
  rw [Array.getElem?_eq_getElem (by omega)]
  simp [Array.getD, hs, h]
theorem t74_at (s : Sha.St) (j : Nat) (h : j < 74) : (t74 s)[j]? = some (tv s (fun _ => 0) 0 0 j) := by
  unfold t74
  rw [List.getElem?_map, List.getElem?_range h]
  rfl
theorem t74_one (s : Sha.St) : (t74 s).toArray.all (·.oneCell') = true :=
  all_oneCell_toArray fun v hv => by
    unfold t74 at hv
    rw [List.mem_map] at hv
    obtain ⟨x, _, rfl⟩ := hv
    unfold tv
    split <;> rfl
theorem there74 (w : World) (s : Sha.St) : (w.alloc (.cells lit74 62)).there w.heap.size 0 (t74 s).toArray.size :=
  (Cells.new w 74 _ _ _ lit74_at).there 0 _ (by simp [t74])
theorem wp_alloc {P : Program} {op : Oper} {a : Act} {w w' : World} {K : Act → World → Prop} {Q : Exit → Act → World → Prop} (ty : TypeId) (ho : op.op = .alloc ty) (v : Value)
    (hrun : (Instr.alloc ty true (.tuple #[])).run P w = .ok v w') (h : K (a.put op.dst v) w') : op.wp P a w K Q := by
  unfold Oper.wp execOp
  simp only [ho, Sem.run_bind, Sem.run_pure, Result.andThen_ok, hrun]
  exact h
theorem wpList_alloc {P : Program} {ops : Array Oper} {rest : List Oper} {op : Oper} {a : Act} {w w' : World} {Q : Exit → Act → World → Prop} (hgd : op.guard = none) (ty : TypeId) (ho : op.op = .alloc ty) (v : Value)
    (hrun : (Instr.alloc ty true (.tuple #[])).run P w = .ok v w') (h : wpList P ops Q rest (a.put op.dst v) w') : wpList P ops Q (op :: rest) a w :=
  wpList_plain hgd fun _ hK => wp_alloc ty ho v hrun (hK _ _ h)
theorem alloc_text (w : World) : (Instr.alloc 62 true (.tuple #[])).run Tryd.prog w = .ok (.pointer (some ⟨w.heap.size, 0, none⟩)) (w.alloc (.cells lit74 62)) := by kernel_rfl
theorem alloc_text1 (w : World) (o : Obj) : (Instr.alloc 62 true (.tuple #[])).run Tryd.prog (w.alloc o) = .ok (.pointer (some ⟨w.heap.size + 1, 0, none⟩)) ((w.alloc o).alloc (.cells lit74 62)) := by
  rw [alloc_text, World.size_alloc]
/-- the package's two variables -/
structure Laid (K : Nat → Nat) (s : Sha.St) (w : World) : Prop where
  start : w.rangeAt 0 0 (wordsOf s)
  table : Table K w
structure OfAt (g R : Nat) (K : Nat → Nat) (x : Sha.Tx) (size : Nat) (w wx : World) : Prop where
  text : TextIs g x.s x.blk x.used size wx
  table : Table K wx
  res : Cells R 32 (fun _ => .int .u8 0) wx
  below : Below w.heap.size w wx
  far : w.heap.size < g

theorem there_of (w : World) {o : Obj} (s : Sha.St) : ((w.alloc o).alloc (.cells lit74 62)).there (w.heap.size + 1) 0 (t74 s).toArray.size := by
  have h := there74 (w.alloc o) s
  rw [World.size_alloc] at h
  exact h
theorem of_start {K : Nat → Nat} {s : Sha.St} {w : World} (h : Laid K s w) :
    OfAt (w.heap.size + 1) w.heap.size K (Sha.x0 s) 0 w (((w.alloc (.cells lit32 24)).alloc (.cells lit74 62)).setCells (w.heap.size + 1) 0 (t74 s)) := by
  have hb0 : Below w.heap.size w ((w.alloc (.cells lit32 24)).alloc (.cells lit74 62)) := ((Below.refl _ _).alloc (Nat.le_refl _) _).alloc (by simp) _
  have hb := below_row hb0 (c := w.heap.size + 1) (o := 0) (t74 s) (by omega)
  have hn := Cells.new (w.alloc (.cells lit32 24)) 74 _ 62 _ lit74_at
  rw [World.size_alloc] at hn
  refine ⟨?_, h.table.only (b := w.heap.size) (.of_below hb) (by have := h.table.1; omega), ?_, hb, by omega⟩
  · exact hn.row (t74 s) _ (by simp [t74]) fun j hj => t74_at s j hj
  · exact ((Cells.new w 32 _ _ _ lit32_at).alloc _).farRow _ (by omega)

theorem x0_ok {s : Sha.St} (h : s.ok) : (Sha.x0 s).ok := ⟨h, fun _ => show 0 < 256 by decide, show 0 < 64 by decide⟩
theorem step_of (K : Nat → Nat) (s : Sha.St) (ss : List ByteArray) (k : Nat) (h : k < ss.length) : Sha.feeds K (Sha.feeds K (Sha.x0 s) (cat (ss.take k))) (ss.getD k ByteArray.empty).data.toList = Sha.feeds K (Sha.x0 s) (cat (ss.take (k + 1))) := by
  rw [cat_snoc ss k h, Sha.feeds_append]
theorem step_len (ss : List ByteArray) (k : Nat) (h : k < ss.length) : ((cat (ss.take k)).length % M64 + (ss.getD k ByteArray.empty).size) % M64 = (cat (ss.take (k + 1))).length % M64 := by
  have e : (ss.getD k ByteArray.empty).data.toList.length = (ss.getD k ByteArray.empty).size := by simp
  rw [cat_snoc ss k h, List.length_append, e, Nat.mod_add_mod]
theorem of_add {g R : Nat} {K : Nat → Nat} {x y : Sha.Tx} {z z' : Nat} {w wx wy : World} (h : OfAt g R K x z w wx) (k : AddAt g K y z' wx wy) (hR : R ≠ g) : OfAt g R K y z' w wy :=
  ⟨k.text, k.table, k.only.cells h.res hR, h.below.trans (k.only.below (Nat.le_of_lt h.far) h.below.size), h.far⟩
theorem sum_one_cell {s : Sha.St} {L : List Value} (e : ((List.range 32).map fun j => Value.int .u8 (Sha.dg s j : Nat)) = L) : L.toArray.all (·.oneCell') = true :=
  all_oneCell_toArray fun v hv => by
    rw [← e, List.mem_map] at hv
    obtain ⟨x, _, rfl⟩ := hv
    rfl

set_option maxRecDepth 100000 in
set_option maxHeartbeats 2000000 in
theorem of_any (b off cap : Nat) (ss : List ByteArray) (K : Nat → Nat) (s : Sha.St) (w : World) (hK : ∀ i, K i < 4294967296) (hs : s.ok) (hL : Laid K s w) (hn : ss.length < 1000)
    (hc : ∀ i, i < ss.length → w.cell? ⟨b, off + i, none⟩ = some (.string (ss.getD i ByteArray.empty))) (hb : b < w.heap.size) (hz : ∀ i, i < ss.length → (ss.getD i ByteArray.empty).size ≤ maxLen) :
    Calls Tryd.prog 11 #[.slice (some ⟨b, off, none⟩) ss.length cap] w fun r w' => r = .returned (.agg (sumOf (Sha.sha K s (cat ss))).toArray) ∧ Below w.heap.size w w' := by
  have HK := Lib.hid hK
  have HS := Lib.hid hs
  have HL := Lib.hid hL
  have HC := Lib.hid hc
  have HZ := Lib.hid hz
  clear hK hs hL hc hz
  obtain ⟨L, hL⟩ : ∃ L, sumOf (Sha.sha K s (cat ss)) = L := ⟨_, rfl⟩
  rw [hL]
  have HLe := Lib.hid hL
  clear hL
  have HI37 : Hid ((Tryd.prog.info? 59).map (·.size) = some (wordsOf s).length) := Lib.hid (by kernel_rfl)
  have HI74 : Hid ((Tryd.prog.info? 62).map (·.size) = some (t74 s).toArray.size) := Lib.hid (by kernel_rfl)
  have hrs := World.rangeAt_alloc HL.out.start
  have HRs := Lib.hid hrs
  clear hrs
  go_enter Tryd.func11, Tryd.ntmps11
  go_upto_region 1 with fail
  go_cut [2, 3] (fun p q wx => p = .pointer (some ⟨w.heap.size, 0, none⟩) ∧ q = .pointer (some ⟨w.heap.size + 1, 0, none⟩) ∧ OfAt (w.heap.size + 1) w.heap.size K (Sha.x0 s) 0 w wx)
  case first =>
    go_wp2_with (first
      | (with_reducible refine wpList_load_mid rfl 59 _ rfl 0 0 rfl (wordsOf s) _ (HRs.out _) Tryd.underlying59 rfl HI37.out ?_)
      | (with_reducible refine wpList_build rfl 62 0 _ rfl (.agg (t74 s).toArray) (.agg (wordsOf s).toArray) rfl (build_text s _) ?_)
      | (with_reducible refine wpList_alloc rfl 62 rfl _ (alloc_text1 w _) ?_)
      | ((with_reducible refine wpList_store_mid rfl 62 _ _ rfl (w.heap.size + 1) 0 (t74 s).toArray rfl rfl ?_ HI74.out (t74_one s) ?_); (focus exact there_of w s)))
    go_meet
    exact ⟨rfl, rfl, of_start HL.out⟩
  case rest =>
    obtain ⟨rfl, rfl, hO⟩ := hcut
    have h1 : 1 < w.heap.size := HL.out.table.1
    go_wp2_with fail
    go_loopw [10] (fun i wx => ∃ k : Nat, k ≤ ss.length ∧ i = .int .i64 k ∧ OfAt (w.heap.size + 1) w.heap.size K (Sha.feeds K (Sha.x0 s) (cat (ss.take k))) ((cat (ss.take k)).length % M64) w wx) (fun i _ => ss.length - (intOf i).toNat)
    case atStart => exact ⟨0, by omega, rfl, hO⟩
    case round =>
      clear hO
      obtain ⟨k, hk, rfl, hO⟩ := hrel
      have hxok := Sha.feeds_ok (K := K) (x0_ok HS.out) (cat (ss.take k))
      have HX := Lib.hid hxok
      have HO := Lib.hid hO
      clear hxok
      by_cases hlt : k < ss.length
      · have ce := (hO.below.cell (p := ⟨b, off + k, none⟩) hb).trans (HC.out k hlt)
        have hsz := HZ.out k hlt
        have HN := Lib.hid (step_of K s ss k hlt)
        have HM := Lib.hid (step_len ss k hlt)
        generalize ss.getD k ByteArray.empty = t at ce hsz HN HM
        clear hO
        go_wp2_with fail
        refine (add_any (w.heap.size + 1) K _ _ t _ HX.out HK.out (by omega) HO.out.text HO.out.table hsz).mono ?_
        rintro e w2 ⟨rfl, hA⟩
        have HA := Lib.hid hA
        clear hA
        go_wp2
        go_roundw
        case rel => exact ⟨k + 1, by omega, by go_num, by rw [← HN.out, ← HM.out]; exact of_add HO.out HA.out (by omega)⟩
        case measure => simp [intOf]; omega
      · have ek : ss.take k = ss := List.take_of_length_le (by omega)
        rw [ek] at hO HX
        have HO2 := Lib.hid hO
        have HEk := Lib.hid ek
        clear HO hO ek
        go_wp2_with fail
        refine (end_any (w.heap.size + 1) K _ _ _ HX.out HK.out (by omega) HO2.out.text HO2.out.table).mono ?_
        rintro e w3 ⟨rfl, hE⟩
        have HLs := HLe.out
        unfold sumOf Sha.sha at HLs
        rw [HLs]
        have hlen : L.length = 32 := by rw [← HLs]; simp
        have hR := hE.cells HO2.out.res (by omega)
        have HR := Lib.hid hR
        have HB3 := Lib.hid (HO2.out.below.trans (hE.below (B := w.heap.size) (by omega) HO2.out.below.size))
        have HTh : Hid (w3.there w.heap.size 0 L.toArray.size) := Lib.hid (hR.there 0 _ (by simp [hlen]))
        have HO : Hid (L.toArray.all (·.oneCell') = true) := Lib.hid (sum_one_cell HLs)
        have HI2 : Hid ((Tryd.prog.info? 24).map (·.size) = some L.length) := Lib.hid (by rw [hlen]; kernel_rfl)
        have HI3 : Hid ((Tryd.prog.info? 24).map (·.size) = some L.toArray.size) := Lib.hid (by rw [List.size_toArray, hlen]; kernel_rfl)
        clear hE HLs hlen hR
        go_wp2_with (with_reducible refine wpList_store_mid rfl 24 _ _ rfl w.heap.size 0 L.toArray rfl rfl HTh.out HI3.out HO.out ?_)
        refine bodyPost_ret (v := .agg L.toArray) ?_ rfl ⟨rfl, below_row HB3.out L (Nat.le_refl _)⟩
        exact results_mid Tryd.results11 _ _ w.heap.size 0 L _ rfl (World.rangeAt_setCells_same _ _ _ _ (by have z := HTh.out; rwa [List.size_toArray] at z)) Tryd.underlying24 rfl HI2.out
end Go.Proofs.YtheccbnejamhlaaDoor
