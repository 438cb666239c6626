/-
  Blocks of the call's own whose cells are known one by one; great structs; what is copied into an array.
-/
import Derived.Test.YtfmhcomebjggoaaDoorOutVia
import Derived.Deep.MidRow
import Derived.Lib.LazyBuf
import Derived.Laws.ResultCell
import Derived.Deep.Upon
import Derived.RegionTactic
import Derived.BigRegion
import Derived.Deep.QuietTactic
import Derived.BigQuiet
import Derived.KernelRfl
import Derived.WalkSmall
namespace Go.Proofs.YtfmhcomebjggoaaDoor
open Go.RowKit

/-- the first n cells of block b -/
def Cells (b n : Nat) (f : Nat → Value) (w : World) : Prop := b < w.heap.size ∧ ∀ j, j < n → w.cell? ⟨b, j, none⟩ = some (f j) ∧ w.frozen? ⟨b, j, none⟩ = false
theorem Cells.congr {b n : Nat} {f g : Nat → Value} {w : World} (h : Cells b n f w) (e : ∀ j, j < n → f j = g j) : Cells b n g w :=
  ⟨h.1, fun j hj => by rw [← e j hj]; exact h.2 j hj⟩
theorem Cells.alloc {b n : Nat} {f : Nat → Value} {w : World} (h : Cells b n f w) (o : Obj) : Cells b n f (w.alloc o) := by
  refine ⟨by have := h.1; simp; omega, fun j hj => ?_⟩
  rw [World.cell?_alloc_past (hn := h.1), World.frozen?_alloc_old (h := by have := h.1; simp; omega)]
  exact h.2 j hj
theorem Cells.drew {b n : Nat} {f : Nat → Value} {w : World} (h : Cells b n f w) : Cells b n f w.drew := h
theorem Cells.set {b n : Nat} {f g : Nat → Value} {w : World} (h : Cells b n f w) (k : Nat) (v : Value) (hk : k < n) (hv : g k = v) (hg : ∀ j, j < n → j ≠ k → g j = f j) : Cells b n g (w.setCell ⟨b, k, none⟩ v) := by
  refine ⟨by have := h.1; simpa using this, fun j hj => ?_⟩
  rw [World.frozen?_setCell]
  refine ⟨?_, (h.2 j hj).2⟩
  by_cases e : j = k
  · subst e
    rw [World.cell?_setCell_same (h := (h.2 j hj).1), hv]
  · rw [World.cell?_setCell_other (h := by intro q; injection q with q1 q2 q3; exact e q2.symm), hg j hj e]
    exact (h.2 j hj).1
theorem Cells.far {b n : Nat} {f : Nat → Value} {w : World} (h : Cells b n f w) {c k : Nat} (v : Value) (hc : b ≠ c) : Cells b n f (w.setCell ⟨c, k, none⟩ v) := by
  refine ⟨by have := h.1; simpa using this, fun j hj => ?_⟩
  rw [World.frozen?_setCell, World.cell?_setCell_other (h := by intro q; injection q with q1 q2 q3; exact hc q1.symm)]
  exact h.2 j hj
theorem Cells.new (w : World) (n : Nat) (f : Nat → Value) (t : TypeId) (C : Array Value) (hC : ∀ j, j < n → C[j]? = some (f j)) : Cells w.heap.size n f (w.alloc (.cells C t)) := by
  refine ⟨by simp, fun j hj => ?_⟩
  rw [World.cell?_alloc_new, hC j hj]
  refine ⟨rfl, ?_⟩
  rw [World.frozen?_alloc_mark]
  simp
theorem Cells.there {b n : Nat} {f : Nat → Value} {w : World} (h : Cells b n f w) (o m : Nat) (hm : o + m ≤ n) : w.there b o m := fun j hj =>
  ⟨by rw [(h.2 (o + j) (by omega)).1]; rfl, (h.2 (o + j) (by omega)).2⟩
theorem Cells.range {b n : Nat} {f : Nat → Value} {w : World} (h : Cells b n f w) (o : Nat) (l : List Value) (hl : ∀ j v, l[j]? = some v → o + j < n ∧ f (o + j) = v) : w.rangeAt b o l := fun j v hv => by
  obtain ⟨h1, h2⟩ := hl j v hv
  rw [(h.2 _ h1).1, h2]
theorem Cells.farRow {b n : Nat} {f : Nat → Value} {w : World} (h : Cells b n f w) {c o : Nat} (l : List Value) (hc : b ≠ c) : Cells b n f (w.setCells c o l) := by
  induction l generalizing w o with
  | nil => exact h
  | cons v l ih => exact ih (h.far v hc)
theorem Cells.row {b n : Nat} {f : Nat → Value} {w : World} (h : Cells b n f w) (l : List Value) (g : Nat → Value) (hl : l.length = n) (hg : ∀ j, j < n → l[j]? = some (g j)) : Cells b n g (w.setCells b 0 l) := by
  refine ⟨?_, fun j hj => ?_⟩
  · have : ∀ (l : List Value) (o : Nat) (w : World), (w.setCells b o l).heap.size = w.heap.size := by
      intro l
      induction l with
      | nil => intro o w; rfl
      | cons v l ih => intro o w; exact (ih _ _).trans (by simp)
    rw [this]
    exact h.1
  · have ht := h.there 0 l.length (by omega)
    have r := World.rangeAt_setCells_same w b 0 l ht j (g j) (hg j hj)
    rw [Nat.zero_add] at r
    rw [World.frozen?_setCells]
    exact ⟨r, (h.2 j hj).2⟩
theorem Cells.below {b n : Nat} {f : Nat → Value} {w w' : World} (h : Cells b n f w) (k : Below w.heap.size w w') : Cells b n f w' := by
  refine ⟨Nat.lt_of_lt_of_le h.1 k.size, fun j hj => ?_⟩
  rw [k.cell (p := ⟨b, j, none⟩) h.1, k.frozen (p := ⟨b, j, none⟩) h.1]
  exact h.2 j hj
theorem Cells.splice {b n : Nat} {f : Nat → Value} {w : World} (h : Cells b n f w) (o : Nat) (l : List Value) (hl : o + l.length ≤ n) : Cells b n (fun j => if o ≤ j ∧ j < o + l.length then l.getD (j - o) .nilIface else f j) (w.setCells b o l) := by
  induction l generalizing w o f with
  | nil => exact h.congr fun j _ => by rw [if_neg (by simp)]
  | cons v l ih =>
    have h1 : Cells b n (fun j => if j = o then v else f j) (w.setCell ⟨b, o, none⟩ v) := h.set o v (by simp at hl; omega) (by simp) fun j _ hj => by simp [hj]
    refine (ih h1 (o + 1) (by simp at hl ⊢; omega)).congr fun j hj => ?_
    by_cases h0 : j = o
    · subst h0
      rw [if_neg (by omega), if_pos rfl, if_pos (by simp), Nat.sub_self]
      rfl
    · by_cases h2 : o + 1 ≤ j ∧ j < o + 1 + l.length
      · rw [if_pos h2, if_pos (by simp; omega), show j - o = (j - (o + 1)) + 1 by omega]
        rfl
      · rw [if_neg h2, if_neg h0, if_neg (by simp; omega)]
def bytesOf (l : List UInt8) : List Value := l.map fun x => Value.int .u8 (x.toNat : Int)
theorem run_copy_str {P : Program} (w : World) (dT sT ty elem : TypeId) (b o dLen dCap n : Nat) (t : ByteArray) (hn : min t.size dLen = n)
    (hu : P.underlying dT = some (.slice elem)) (hz : ∀ w, (Go.sizeOf elem).run P w = .ok 1 w)
    (hc : ∀ j, j < n → (w.cell? ⟨b, o + j, none⟩).isSome = true) (hf : ∀ j, j < n → w.frozen? ⟨b, o + j, none⟩ = false) :
    (Builtin.copy_ #[dT, sT] ty #[.slice (some ⟨b, o, none⟩) dLen dCap, .string t]).run P w = .ok (.int .i64 n) (w.setCells b o (bytesOf (t.data.toList.take n))) := by
  have hl : (bytesOf (t.data.toList.take n)).length = n := by
    have : t.data.toList.length = t.size := by simp
    unfold bytesOf
    rw [List.length_map, List.length_take, this]
    omega
  have hst := run_storeCells_cells (P := P) b o (bytesOf (t.data.toList.take n)) 0 w (by rw [hl]; simpa using hc) (by rw [hl]; simpa using hf) (by
    intro v hv
    obtain ⟨x, _, rfl⟩ := List.mem_map.1 hv
    rfl)
  have hmin : Nat.min t.size dLen = n := hn
  simp [Builtin.copy_, run_underlying hu, Builtin.lenOf, Builtin.firstCells, hz, hmin]
  rw [show (List.take n (List.map (fun b => Value.int IntKind.u8 (b.toNat : Int)) t.data.toList)) = bytesOf (t.data.toList.take n) by unfold bytesOf; rw [List.map_take], hst]
  rfl
theorem wp_build {P : Program} {op : Oper} {a : Act} {w : World} {K : Act → World → Prop} {Q : Exit → Act → World → Prop} (ty : TypeId) (i : Nat) (x : Operand) (ho : op.op = .build ty #[(i, x)]) (v u : Value) (hx : a.eval x = u)
    (hrun : (Instr.build ty #[(i, u)]).run P w = .ok v w) (h : K (a.put op.dst v) w) : op.wp P a w K Q := by
  subst hx
  unfold Oper.wp execOp
  simp only [ho, Sem.run_bind, Sem.run_pure, Result.andThen_ok, List.map_toArray, List.map_cons, List.map_nil, hrun]
  exact h
theorem wpList_build {P : Program} {ops : Array Oper} {rest : List Oper} {op : Oper} {a : Act} {w : World} {Q : Exit → Act → World → Prop} (hgd : op.guard = none) (ty : TypeId) (i : Nat) (x : Operand) (ho : op.op = .build ty #[(i, x)]) (v u : Value) (hx : a.eval x = u)
    (hrun : (Instr.build ty #[(i, u)]).run P w = .ok v w) (h : wpList P ops Q rest (a.put op.dst v) w) : wpList P ops Q (op :: rest) a w :=
  wpList_plain hgd fun _ hK => wp_build ty i x ho v u hx hrun (hK _ _ h)
theorem wp_alloc {P : Program} {op : Oper} {a : Act} {w w' : World} {K : Act → World → Prop} {Q : Exit → Act → World → Prop} (ty : TypeId) (ho : op.op = .alloc ty) (v : Value)
    (hrun : (Instr.alloc ty true (.tuple #[])).run P w = .ok v w') (h : K (a.put op.dst v) w') : op.wp P a w K Q := by
  unfold Oper.wp execOp
  simp only [ho, Sem.run_bind, Sem.run_pure, Result.andThen_ok, hrun]
  exact h
theorem wpList_alloc {P : Program} {ops : Array Oper} {rest : List Oper} {op : Oper} {a : Act} {w w' : World} {Q : Exit → Act → World → Prop} (hgd : op.guard = none) (ty : TypeId) (ho : op.op = .alloc ty) (v : Value)
    (hrun : (Instr.alloc ty true (.tuple #[])).run P w = .ok v w') (h : wpList P ops Q rest (a.put op.dst v) w') : wpList P ops Q (op :: rest) a w :=
  wpList_plain hgd fun _ hK => wp_alloc ty ho v hrun (hK _ _ h)
theorem below_row {B : Nat} {u w : World} (h : Below B u w) {c o : Nat} (l : List Value) (hc : B ≤ c) : Below B u (w.setCells c o l) := by
  induction l generalizing w o with
  | nil => exact h
  | cons v l ih => exact ih (h.setCell (p := ⟨c, o, none⟩) hc v)
theorem results_mid {P : Program} {fn : Func} {p : Tmp} {ty : TypeId} (h : fn.results = #[.cell p ty]) (tmps : Array Value) (w : World) (b o : Nat) (cs : List Value) (d : TypeDesc)
    (hp : tmps.getD p undef = .pointer (some ⟨b, o, none⟩)) (hc : w.rangeAt b o cs) (hu : P.underlying ty = some d) (hd : d.isRow = true) (hi : (P.info? ty).map (·.size) = some cs.length) :
    (results fn tmps).run P w = .ok (.agg cs.toArray) w := by
  have hp' : tmps[p]?.getD undef = .pointer (some ⟨b, o, none⟩) := by simpa using hp
  simp [results, h, hp', asAddr, run_loadVar_mid w b o ty cs d hc hu hd hi]
def cellsAt (N : List Value) (j : Nat) : Value := N.getD j .nilIface
theorem cellsAt_get (N : List Value) (j : Nat) (h : j < N.length) : N[j]? = some (cellsAt N j) := by
  unfold cellsAt
  rw [List.getD_eq_getElem?_getD, List.getElem?_eq_getElem h]
  rfl
theorem Cells.all {b : Nat} {N : List Value} {n : Nat} {w : World} (hn : N.length = n) (h : Cells b n (cellsAt N) w) : w.rangeAt b 0 N :=
  h.range 0 N fun j v hv => by
    have hj := (List.getElem?_eq_some_iff.1 hv).1
    refine ⟨by omega, ?_⟩
    rw [Nat.zero_add]
    rw [cellsAt_get N j hj] at hv
    exact Option.some.inj hv
theorem ext_ext (t : ByteArray) (a b : Nat) : (t.extract a t.size).extract b (t.extract a t.size).size = t.extract (a + b) t.size := by
  apply ByteArray.ext
  rw [ByteArray.data_extract, ByteArray.data_extract, ByteArray.data_extract, ByteArray.size_extract, Array.extract_extract]
  congr 1
  omega
theorem i64_small (n : Nat) (h : n < 65536) : IntKind.i64.wrap (n : Int) = n := by rw [IntWalk.i64_in _ (by omega)]
theorem wpList_build1 {P : Program} {ops : Array Oper} {rest : List Oper} {op : Oper} {a : Act} {w : World} {Q : Exit → Act → World → Prop} (hgd : op.guard = none) (ty : TypeId) (i : Nat) (x : Operand) (ho : op.op = .build ty #[(i, x)])
    (u r : Value) (hx : a.eval x = u) (hrun : (Instr.build ty #[(i, u)]).run P w = .ok r w) (h : wpList P ops Q rest (a.put op.dst r) w) : wpList P ops Q (op :: rest) a w := by
  refine wpList_plain hgd fun K hK => ?_
  unfold Oper.wp execOp
  simp only [ho, Sem.run_bind, Sem.run_pure, Result.andThen_ok, List.map_toArray, List.map_cons, List.map_nil, hx, hrun]
  exact hK _ _ h
theorem Cells.grew {b n : Nat} {f : Nat → Value} {S : Nat → Prop} {w w' : World} (h : Cells b n f w) (k : Grew S w w') (hS : ¬ S b) : Cells b n f w' :=
  ⟨Nat.lt_of_lt_of_le h.1 k.size, fun j hj => by
    rw [k.cell (p := ⟨b, j, none⟩) h.1 hS, k.frozen (p := ⟨b, j, none⟩) h.1 hS]
    exact h.2 j hj⟩
theorem Cells.block {b n : Nat} {f : Nat → Value} {w w' : World} (h : Cells b n f w) (e : w'.heap[b]? = w.heap[b]?) (hs : w.heap.size ≤ w'.heap.size) : Cells b n f w' :=
  ⟨Nat.lt_of_lt_of_le h.1 hs, fun j hj => by
    rw [World.cell?_of_block (w := w) e, World.frozen?_of_block (w := w) e]
    exact h.2 j hj⟩
theorem Grew.row {S : Nat → Prop} {a w : World} (h : Grew S a w) (c o : Nat) (l : List Value) (hc : c < a.heap.size → S c) : Grew S a (w.setCells c o l) :=
  have b : Below c w (w.setCells c o l) := below_row (Below.refl c w) l (Nat.le_refl c)
  h.step (T := fun k => k = c) ⟨b.os, b.tape, b.output, b.size, fun k hk hs => World.heap_setCells_other w c o l hk hs⟩ fun x hx e => by
    subst e
    exact hc hx
theorem done_only (b : Nat) (o : Option Int) (w : World) : Grew (fun k => k = b) w (done b o w) := by
  cases o with
  | none => exact (Grew.refl w).setCell _ _ fun _ => rfl
  | some k => exact ((Grew.refl (S := fun k => k = b) w).setCell ⟨b, 0, none⟩ _ fun _ => rfl).alloc _
theorem results_two_mid {fn : Func} {p u : Tmp} {ty : TypeId} {P : Program} (h : fn.results = #[.cell p ty, .tmp u]) (tmps : Array Value) (w : World) (g : Nat) (l : List Value) (d : TypeDesc)
    (hp : tmps.getD p undef = .pointer (some ⟨g, 0, none⟩)) (hr : w.rangeAt g 0 l) (hu : P.underlying ty = some d) (hd : d.isRow = true) (hi : (P.info? ty).map (·.size) = some l.length) :
    (results fn tmps).run P w = .ok (.tuple #[.agg l.toArray, tmps.getD u undef]) w := by
  rw [results_cell_tmp h, hp]
  simp only [asAddr, Sem.run_pure, Result.andThen_ok, run_loadVar_mid w g 0 ty l d hr hu hd hi]
theorem Cells.fill {c n : Nat} {f : Nat → Value} {w : World} {N : List Value} (h : Cells c n f w) (hn : N.length = n) : Cells c n (cellsAt N) (w.setCells c 0 N) :=
  h.row N (cellsAt N) hn fun j hj => cellsAt_get N j (by omega)
theorem wpList_load_g {P : Program} {ops : Array Oper} {rest : List Oper} {op : Oper} {a : Act} {w : World} {Q : Exit → Act → World → Prop} (hw : Region.wanted op (yielded ops a.tmps) = true) (ty : TypeId) (x : Operand) (ho : op.op = .load ty x)
    (b o : Nat) (hx : a.eval x = .pointer (some ⟨b, o, none⟩)) (cs : List Value) (d : TypeDesc) (hc : w.rangeAt b o cs)
    (hu : P.underlying ty = some d) (hd : d.isRow = true) (hi : (P.info? ty).map (·.size) = some cs.length)
    (h : wpList P ops Q rest (a.put op.dst (.agg cs.toArray)) w) : wpList P ops Q (op :: rest) a w := by
  refine wpList_step fun K hK => ?_
  rw [if_pos hw]
  exact wp_load_mid ty x ho b o hx cs d hc hu hd hi (hK _ _ h)
theorem run_max2 (P : Program) (w : World) (ts : Array TypeId) (t : TypeId) (x y z : Int) (h : z = max x y) : (Builtin.max_ ts t #[.int .i64 x, .int .i64 y]).run P w = .ok (.int .i64 z) w := by
  subst h
  by_cases hc : x < y
  · rw [Int.max_eq_right (by omega)]
    simp [Builtin.max_, Builtin.max2, hc]
  · rw [Int.max_eq_left (by omega)]
    simp [Builtin.max_, Builtin.max2, hc]
theorem run_min2 (P : Program) (w : World) (ts : Array TypeId) (t : TypeId) (x y z : Int) (h : z = min x y) : (Builtin.min_ ts t #[.int .i64 x, .int .i64 y]).run P w = .ok (.int .i64 z) w := by
  subst h
  by_cases hc : y < x
  · rw [Int.min_eq_right (by omega)]
    simp [Builtin.min_, Builtin.min2, hc]
  · rw [Int.min_eq_left (by omega)]
    simp [Builtin.min_, Builtin.min2, hc]
theorem wpList_build0 {P : Program} {ops : Array Oper} {rest : List Oper} {op : Oper} {a : Act} {w : World} {Q : Exit → Act → World → Prop} (hgd : op.guard = none) (ty : TypeId) (ho : op.op = .build ty #[]) (v : Value)
    (hrun : (Instr.build ty #[]).run P w = .ok v w) (h : wpList P ops Q rest (a.put op.dst v) w) : wpList P ops Q (op :: rest) a w := by
  refine wpList_plain hgd fun K hK => ?_
  unfold Oper.wp execOp
  simp only [ho, Sem.run_bind, Sem.run_pure, Result.andThen_ok, List.map_toArray, List.map_nil, hrun]
  exact hK _ _ h
/-- 32 bytes as a value -/
def arr (f : Nat → Nat) : List Value := (List.range 32).map fun j => Value.int .u8 (f j : Nat)
theorem arr_at (f : Nat → Nat) (j : Nat) (h : j < 32) : (arr f)[j]? = some (.int .u8 (f j : Nat)) := by
  unfold arr
  rw [List.getElem?_map, List.getElem?_range h]
  rfl
theorem arr_len (f : Nat → Nat) : (arr f).length = 32 := by simp [arr]
theorem arr_one (f : Nat → Nat) : (arr f).toArray.all (·.oneCell') = true :=
  all_oneCell_toArray fun v hv => by
    unfold arr at hv
    rw [List.mem_map] at hv
    obtain ⟨x, _, rfl⟩ := hv
    rfl
def txt (f : Nat → Nat) : List UInt8 := (List.range 32).map fun j => UInt8.ofNat (f j)
theorem box_cells {w : World} {f : Nat → Nat} {t : TypeId} : Cells w.heap.size 32 (fun j => .int .u8 (f j : Nat)) (w.alloc (.cells (arr f).toArray t)) :=
  Cells.new w 32 _ _ _ fun j hj => by rw [List.getElem?_toArray]; exact arr_at f j hj
theorem conv_txt {b : Nat} {f : Nat → Nat} {w : World} (hf : ∀ j, f j < 256) (h : Cells b 32 (fun j => .int .u8 (f j : Nat)) w) :
    (convert 33 9 (.slice (some ⟨b, 0, none⟩) 32 32)).run Tryd.prog w = .ok (.string ⟨(txt f).toArray⟩) w := by
  have e : (txt f).length = 32 := by simp [txt]
  have z := run_convert_bytes_back (P := Tryd.prog) w 33 9 5 ⟨b, 0, none⟩ 32 (txt f) Tryd.underlying33 Tryd.underlying5 Tryd.underlying9 fun j hj => by
    rw [Addr.add_mid, Nat.zero_add, (h.2 j (by omega)).1]
    have hj' : (txt f)[j] = UInt8.ofNat (f j) := by simp [txt]
    rw [hj', UInt8.toNat_ofNat', Nat.mod_eq_of_lt (hf j)]
  rw [e] at z
  exact z
theorem slice_all (b : Nat) : ∀ w : World, (Instr.sliceAt 28 (.pointer (some ⟨b, 0, none⟩)) none none none).run Tryd.prog w = .ok (.slice (some ⟨b, 0, none⟩) 32 32) w := by
  intro w
  kernel_rfl
set_option maxRecDepth 100000 in
set_option maxHeartbeats 1000000 in
theorem text_any (f : Nat → Nat) (hf : ∀ j, f j < 256) (w : World) :
    Calls Tryd.prog 37 #[.agg (arr f).toArray] w fun r w' => r = .returned (.string ⟨(txt f).toArray⟩) ∧ Below w.heap.size w w' := by
  have kc := conv_txt hf (box_cells (w := w) (f := f) (t := 28))
  have hsl := slice_all w.heap.size
  obtain ⟨L, hL⟩ : ∃ L, arr f = L := ⟨_, rfl⟩
  rw [hL] at kc ⊢
  obtain ⟨T, hT⟩ : ∃ T : ByteArray, ⟨(txt f).toArray⟩ = T := ⟨_, rfl⟩
  rw [hT] at kc ⊢
  clear hL hT hf
  go_enter Tryd.func37, Tryd.ntmps37
  go_wp2
  go_ret
  exact ⟨rfl, (Below.refl _ _).alloc (Nat.le_refl _) _⟩
end Go.Proofs.YtfmhcomebjggoaaDoor
