/-
  ExtentHeads: what the law's walk wants: rows of numbers that grow, blocks of bytes, a head is the same as itself.
-/
import Derived.Test.YtfmhcomebjggoaaDoorExtRefHead
import Derived.Deep.AppendLies
import Derived.Laws.OwnMore
import Derived.Laws.StructEq
import Derived.OwnWalk
namespace Go.Proofs.YtfmhcomebjggoaaDoor
open Go.RowKit

theorem maskN (k : Int) (n : Nat) (hn : n < 4294967296) : ∃ p : Nat, bits .and .i64 k (n : Int) = (p : Int) ∧ p ≤ n := by
  have h : (BitVec.ofInt 64 k &&& BitVec.ofInt 64 n).toNat ≤ n := by
    rw [BitVec.toNat_and]
    refine Nat.le_trans Nat.and_le_right ?_
    rw [BitVec.toNat_ofInt]
    omega
  refine ⟨_, ?_, h⟩
  show IntKind.i64.wrap ((BitVec.ofInt 64 k &&& BitVec.ofInt 64 n).toNat : Int) = _
  rw [IntWalk.i64_in _ (by omega)]
theorem own_kept {w w' : World} {B n : Nat} {t : TypeId} {v : Value} {xs : List Value} (h : w.ownsRow B t 1 v n xs) (hk : ∀ q, v.ownBlock = some q → w'.heap[q]? = w.heap[q]?) : w'.ownsRow B t 1 v n xs := by
  refine ⟨h.1, ?_⟩
  rcases h.2 with h0 | ⟨g, cap, cur, rfl, hb, hg, rest⟩
  · exact Or.inl h0
  · exact Or.inr ⟨g, cap, cur, rfl, hb, by rw [hk g rfl]; exact hg, rest⟩
theorem own_block_lt {w : World} {B n : Nat} {t : TypeId} {v : Value} {xs : List Value} (h : w.ownsRow B t 1 v n xs) : ∀ q, v.ownBlock = some q → B ≤ q ∧ q < w.heap.size := by
  intro q hq
  rcases h.2 with ⟨rfl, _⟩ | ⟨g, cap, cur, rfl, hb, hg, _⟩
  · cases hq
  · simp [Value.ownBlock] at hq
    subst hq
    refine ⟨hb, ?_⟩
    rcases Nat.lt_or_ge g w.heap.size with h1 | h1
    · exact h1
    · rw [Array.getElem?_eq_none h1] at hg; cases hg
theorem range_block {b : Nat} {X : List Value} {w w' : World} (h : w.rangeAt b 0 X) (e : w'.heap[b]? = w.heap[b]?) : w'.rangeAt b 0 X := fun j v hv => by
  rw [World.cell?_of_block (w := w) e]
  exact h j v hv
theorem box_range0 {w : World} {L : List Value} {t : TypeId} : (w.alloc (.cells L.toArray t)).rangeAt w.heap.size 0 L := fun j v hv => by
  rw [Nat.zero_add, World.cell?_alloc_new]
  simpa using hv
def natsOf (l : List Nat) : List Value := l.map fun s : Nat => Value.int .i64 (s : Nat)
theorem infoInt8 : (Tryd.prog.info? 3).map (fun i => (i.zero, i.size, i.bytes)) = some (some (.int .i64 0), 1, 8) := by kernel_rfl
/-- what an append of texts leaves: the row, what else has turned, where it lies -/
structure MoreInts (w : World) (B : Nat) (v : Value) (l k : List Nat) (g cap : Nat) (w' : World) : Prop where
  own : w'.ownsRow B 3 1 (.slice (some ⟨g, 0, none⟩) (l.length + k.length) cap) (l.length + k.length) (natsOf (l ++ k))
  grown : w.grownBy w' v.ownBlock
  lies : v.ownBlock = some g ∨ g = w.heap.size
  lt : g < w'.heap.size
theorem wpList_more_ints {w : World} {ops : Array Oper} {rest : List Oper} {o : Oper} {a : Act} {Q : Exit → Act → World → Prop} (hgd : o.guard = none) (s x : Operand)
    (ho : o.op = .call { callee := .builtin .append, args := #[s, x], argTypes := #[31, 31] })
    (B : Nat) (v : Value) (l k : List Nat) (hs : a.eval s = v) (n : Nat) (hn : l.length = n) (hown : w.ownsRow B 3 1 v n (natsOf l)) (b m c : Nat) (hx : a.eval x = .slice (some ⟨b, 0, none⟩) m c) (hm : k.length = m)
    (hk : ∀ i (h : i < k.length), w.cell? ⟨b, i, none⟩ = some (.int .i64 (k[i] : Nat))) (h0 : 0 < m) (hl : n + m < 1000000) (hB : B ≤ w.heap.size)
    (h : ∀ g cap w', MoreInts w B v l k g cap w' → wpList Tryd.prog ops Q rest (a.put o.dst (.slice (some ⟨g, 0, none⟩) (n + m) cap)) w') : wpList Tryd.prog ops Q (o :: rest) a w := by
  subst hn hm
  obtain ⟨i0, hi, hz0, hz1, hz2⟩ := info_parts infoInt8
  refine wpList_append_lies w hgd s x 31 ho B 3 i0 (.int .i64 0) 1 8 Tryd.underlying31 hi hz0 hz1 hz2 rfl (by decide) v _ _ hs hown ⟨b, 0, none⟩ k.length c (natsOf k) hx (by simp [natsOf]) (fun j u hu => ?_) (fun u hu => ?_) h0 (by unfold maxLen; omega) (by omega) hB _ rfl fun g cap w' h1 h2 h3 h4 => h g cap w' ⟨?_, h2, h3, h4⟩
  · unfold natsOf at hu
    rw [List.getElem?_map] at hu
    by_cases hj : j < k.length
    · rw [List.getElem?_eq_getElem hj] at hu
      rw [Addr.add_lit]
      have := hk j hj
      simp only [Option.map_some, Option.some.injEq] at hu
      rw [← hu]
      simpa using this
    · rw [List.getElem?_eq_none (by omega)] at hu
      simp at hu
  · unfold natsOf at hu
    obtain ⟨t, _, rfl⟩ := List.mem_map.1 hu
    rfl
  · have e : natsOf (l ++ k) = natsOf l ++ natsOf k := by simp [natsOf]
    rw [e]
    exact h1
theorem one_int (w : World) (t : Nat) : ∀ i (h : i < [t].length), (w.alloc (.cells #[.int .i64 (t : Nat)] 3)).cell? ⟨w.heap.size, i, none⟩ = some (.int .i64 ([t][i] : Nat)) := fun i h => by
  have : i = 0 := by simpa using h
  subst this
  exact boxNew rfl
theorem MoreInts.below {w W w' : World} {B C : Nat} {v : Value} {l k : List Nat} {g cap n : Nat} {xs : List Value} (h : MoreInts w B v l k g cap w') (hb : Below C W w) (ho : w.ownsRow B 3 1 v n xs) (hC : C ≤ B) (hs : C ≤ w.heap.size) : Below C W w' :=
  hb.grown h.grown hs (fun q hq => Nat.le_trans hC (ho.lt q hq).1)
theorem own_noneI (w : World) : (w.alloc (.cells #[] 3)).ownsRow w.heap.size 3 1 (.slice (some ⟨w.heap.size, 0, none⟩) 0 0) 0 (natsOf []) := World.ownsRow_lit (base := w.heap.size) (e := 3) (size := 1) w #[] 0 (Nat.le_refl _) (by decide) rfl
/-- the first numbers of a row -/
def numsL (kd : Nat → Nat) (k : Nat) : List Nat := (List.range k).map kd
theorem numsL_len (kd : Nat → Nat) (k : Nat) : (numsL kd k).length = k := by simp [numsL]
theorem numsL_next (kd : Nat → Nat) (k : Nat) : numsL kd k ++ [kd k] = numsL kd (k + 1) := by
  unfold numsL
  rw [List.range_succ, List.map_append]
  rfl
theorem own_ats {wx : World} {B : Nat} {v : Value} {kd : Nat → Nat} (ht : wx.ownsRow B 3 1 v 4 (natsOf (numsL kd 4))) : ∃ g cap, v = .slice (some ⟨g, 0, none⟩) 4 cap ∧ wx.rangeAt g 0 (atL kd) ∧ g < wx.heap.size := by
  have hlt := own_block_lt ht
  rcases ht.2 with ⟨_, h0⟩ | ⟨g, cap, cur, rfl, hb, hg, _⟩
  · cases h0
  · refine ⟨g, cap, rfl, fun i v hv => ?_, (hlt g rfl).2⟩
    have hi : i < 4 := by
      have := (List.getElem?_eq_some_iff.1 hv).1
      rwa [atL_len] at this
    rw [Nat.zero_add, ht.cellAt i (by omega)]
    rw [atL_at kd i hi] at hv
    simp [natsOf, numsL, hi]
    exact Option.some.inj hv
theorem own_keptI {w w' : World} {B n : Nat} {t : TypeId} {v : Value} {xs : List Value} (h : w.ownsRow B t 1 v n xs) (k : Below w.heap.size w w') : w'.ownsRow B t 1 v n xs :=
  own_kept h fun q hq => k.block q (own_block_lt h q hq).2
/-- a block of the call's own: n bytes -/
def RowIs (b n : Nat) (f : Nat → Nat) (w : World) : Prop := b < w.heap.size ∧ ∀ j, j < n → w.cell? ⟨b, j, none⟩ = some (.int .u8 (f j)) ∧ w.frozen? ⟨b, j, none⟩ = false
theorem RowIs.alloc {b n : Nat} {f : Nat → Nat} {w : World} (h : RowIs b n f w) (o : Obj) : RowIs b n f (w.alloc o) := by
  refine ⟨by have := h.1; simp; omega, fun j hj => ?_⟩
  rw [World.cell?_alloc_past (hn := h.1), World.frozen?_alloc_old (h := by have := h.1; simp; omega)]
  exact h.2 j hj
theorem RowIs.below {b n : Nat} {f : Nat → Nat} {w w' : World} (h : RowIs b n f w) (k : Below w.heap.size w w') : RowIs b n f w' := by
  refine ⟨Nat.lt_of_lt_of_le h.1 k.size, fun j hj => ?_⟩
  rw [k.cell (p := ⟨b, j, none⟩) h.1, k.frozen (p := ⟨b, j, none⟩) h.1]
  exact h.2 j hj
theorem RowIs.drew {b n : Nat} {f : Nat → Nat} {w : World} (h : RowIs b n f w) : RowIs b n f w.drew := h
theorem RowIs.set {b n : Nat} {f g : Nat → Nat} {w : World} (h : RowIs b n f w) (k v : Nat) (hk : k < n) (hv : g k = v) (hg : ∀ j, j ≠ k → g j = f j) : RowIs b n g (w.setCell ⟨b, k, none⟩ (.int .u8 v)) := by
  refine ⟨by have := h.1; simpa using this, fun j hj => ?_⟩
  rw [World.frozen?_setCell]
  refine ⟨?_, (h.2 j hj).2⟩
  by_cases e : j = k
  · subst e
    rw [World.cell?_setCell_same (h := (h.2 j hj).1), hv]
  · rw [World.cell?_setCell_other (h := by intro q; injection q with q1 q2 q3; exact e q2.symm), hg j e]
    exact (h.2 j hj).1

theorem conv_row (b n cap : Nat) (l : List UInt8) (hl : l.length = n) (w : World) (h : RowIs b n (fun j => (l.getD j 0).toNat) w) :
    (convert 33 9 (.slice (some ⟨b, 0, none⟩) n cap)).run Tryd.prog w = .ok (.string ⟨l.toArray⟩) w := by
  subst hl
  refine run_convert_bytes_back w _ _ 5 _ cap l Tryd.underlying33 Tryd.underlying5 Tryd.underlying9 fun j hj => ?_
  have hp : (⟨b, 0, none⟩ : Addr).add j = ⟨b, j, none⟩ := by unfold Addr.add; split <;> simp_all
  have := (h.2 j hj).1
  rw [hp]
  simpa [List.getD_eq_getElem?_getD, List.getElem?_eq_getElem hj] using this
theorem RowIs.congr {b n : Nat} {f g : Nat → Nat} {w : World} (h : RowIs b n f w) (e : ∀ j, j < n → f j = g j) : RowIs b n g w :=
  ⟨h.1, fun j hj => by rw [← e j hj]; exact h.2 j hj⟩
theorem bytes_of (w : World) (t : ByteArray) : ∃ (cap : Nat) (W : World),
    (convert 9 33 (.string t)).run Tryd.prog w = .ok (.slice (some ⟨w.heap.size, 0, none⟩) t.size cap) W ∧ RowIs w.heap.size t.size (fun j => (t.data.toList.getD j 0).toNat) W ∧ Below w.heap.size w W := by
  refine ⟨_, _, run_bytes_of_string w 9 33 5 t Tryd.underlying9 Tryd.underlying33 Tryd.underlying5, ⟨by simp, fun j hj => ?_⟩, (Below.refl _ _).drew.alloc (Nat.le_refl _) _⟩
  have hj' : j < t.data.size := hj
  generalize grownCap w t.size 0 5 = cap
  have hsz : t.size ≤ (bytesRow t cap).size := by
    unfold bytesRow
    have : t.data.size = t.size := rfl
    simp [this]
  have h1 := World.cell?_alloc_mark w.drew (bytesRow t cap) 5 ((bytesRow t cap).size, (bytesRow t cap).size + 1) j
  have h2 := World.frozen?_alloc_mark w.drew (bytesRow t cap) 5 (bytesRow t cap).size ((bytesRow t cap).size + 1) j
  rw [bytesRow_at t cap j hj'] at h1
  refine ⟨?_, ?_⟩
  · refine h1.trans ?_
    simp [List.getD_eq_getElem?_getD, Array.getElem?_eq_getElem hj']
  · refine h2.trans ?_
    simp
    omega
theorem eqFields_self {P : Program} (d : Nat) (X : Array Value) (w : World) : ∀ fs : List Field, (∀ f ∈ fs, ∃ a, (part f.type X f.offset).run P w = .ok a w ∧ (Op.equalIn d f.type a a).run P w = .ok true w) → (Op.eqFields d X X fs).run P w = .ok true w
  | [], _ => by simp [Op.eqFields]
  | f :: fs, h => by
    obtain ⟨a, h1, h2⟩ := h f List.mem_cons_self
    have ih := eqFields_self d X w fs fun g hg => h g (List.mem_cons_of_mem _ hg)
    simp only [Op.eqFields, Sem.run_ite]
    split
    · simp only [Sem.run_bind, h1, h2, Result.andThen_ok, Bool.not_true, Bool.false_eq_true, if_false, ih]
    · exact ih
theorem items_self {P : Program} (d : Nat) (e : TypeId) (kd : IntKind) (he : P.underlying e = some (.int kd)) (hp : P.plainKey e = true) (X : Array Value) (v : Nat → Int) (w : World) : ∀ is : List Nat, (∀ i ∈ is, X[i]? = some (.int kd (v i))) → (Op.eqItems (d + 1) e 1 X X is).run P w = .ok true w
  | [], _ => by simp [Op.eqItems]
  | i :: is, hx => by
    have ih := items_self d e kd he hp X v w is (fun j hj => hx j (List.mem_cons_of_mem _ hj))
    have p1 := run_part_plain (P := P) w hp (off := i * 1) (by rw [Nat.mul_one]; exact hx i (List.mem_cons_self))
    have p3 := run_equalIn_int (P := P) w d e kd kd (v i) (v i) he
    rw [beq_self_eq_true] at p3
    simp only [Op.eqItems, Sem.run_bind, p1, p3, Result.andThen_ok]
    simpa using ih
theorem row_self (d : Nat) (t e : TypeId) (n : Nat) (kd : IntKind) (ht : Tryd.prog.underlying t = some (.array n e)) (he : Tryd.prog.underlying e = some (.int kd)) (hp : Tryd.prog.plainKey e = true) (hc : Tryd.prog.cellsOf e = 1) (X : Array Value) (v : Nat → Int) (hx : ∀ i, i < n → X[i]? = some (.int kd (v i))) (w : World) :
    (Op.equalIn (d + 2) t (.agg X) (.agg X)).run Tryd.prog w = .ok true w := by
  obtain ⟨i, hi⟩ : ∃ i, Tryd.prog.info? e = some i := info_of_underlying he
  exact (run_equalIn_array (P := Tryd.prog) w (d + 1) (e := e) (n := n) (i := i) X X ht hi).trans (by rw [hc]; exact items_self d e kd he hp X v w _ fun j hj => hx j (by simpa using hj))
theorem plainU8 : Tryd.prog.plainKey 5 = true := by kernel_rfl
theorem cells_u8 : Tryd.prog.cellsOf 5 = 1 := by kernel_rfl
theorem cells_at4 : Tryd.prog.cellsOf 22 = 4 := by kernel_rfl
theorem cells_sm4 : Tryd.prog.cellsOf 26 = 4 := by kernel_rfl
theorem cells_sum : Tryd.prog.cellsOf 28 = 32 := by kernel_rfl
theorem head_fields : (Tryd.prog.fieldsOf 30).toList.map (fun f => (f.type, f.offset)) = [(22, 0), (26, 4), (28, 8)] := by kernel_rfl
theorem head_ats (a m f : Nat → Nat) : List.take 4 (List.drop 0 (headL a m f)) = atL a := by
  unfold headL
  rw [List.drop_zero, List.take_append_of_le_length (by rw [atL_len]; omega), List.take_of_length_le (by rw [atL_len]; omega)]
theorem head_sms (a m f : Nat → Nat) : List.take 4 (List.drop 4 (headL a m f)) = smL m := by
  unfold headL
  have h := List.drop_left (l₁ := atL a) (l₂ := smL m ++ arr f)
  rw [atL_len] at h
  rw [h, List.take_append_of_le_length (by rw [smL_len]; omega), List.take_of_length_le (by rw [smL_len]; omega)]
theorem head_sum (a m f : Nat → Nat) : List.take 32 (List.drop 8 (headL a m f)) = arr f := by
  unfold headL
  rw [← List.append_assoc]
  have h := List.drop_left (l₁ := atL a ++ smL m) (l₂ := arr f)
  rw [List.length_append, atL_len, smL_len] at h
  rw [h, List.take_of_length_le (by rw [arr_len]; omega)]
theorem part_ats (a m f : Nat → Nat) (w : World) : (part 22 (headL a m f).toArray 0).run Tryd.prog w = .ok (.agg (atL a).toArray) w := by
  obtain ⟨i, hi⟩ : ∃ i, Tryd.prog.info? 22 = some i := info_of_underlying Tryd.underlying22
  have hs := run_sizeOf (P := Tryd.prog) w hi
  rw [cells_at4] at hs
  have e := head_ats a m f
  generalize headL a m f = X at *
  try simp only [List.drop_zero] at e
  simp [part, isAgg, run_underlying Tryd.underlying22]
  exact e
theorem part_sms (a m f : Nat → Nat) (w : World) : (part 26 (headL a m f).toArray 4).run Tryd.prog w = .ok (.agg (smL m).toArray) w := by
  obtain ⟨i, hi⟩ : ∃ i, Tryd.prog.info? 26 = some i := info_of_underlying Tryd.underlying26
  have hs := run_sizeOf (P := Tryd.prog) w hi
  rw [cells_sm4] at hs
  have e := head_sms a m f
  generalize headL a m f = X at *
  try simp only [List.drop_zero] at e
  simp [part, isAgg, run_underlying Tryd.underlying26]
  exact e
theorem part_hsum (a m f : Nat → Nat) (w : World) : (part 28 (headL a m f).toArray 8).run Tryd.prog w = .ok (.agg (arr f).toArray) w := by
  obtain ⟨i, hi⟩ : ∃ i, Tryd.prog.info? 28 = some i := info_of_underlying Tryd.underlying28
  have hs := run_sizeOf (P := Tryd.prog) w hi
  rw [cells_sum] at hs
  have e := head_sum a m f
  generalize headL a m f = X at *
  try simp only [List.drop_zero] at e
  simp [part, isAgg, run_underlying Tryd.underlying28]
  exact e
theorem head_self (a m f : Nat → Nat) (w : World) : (binOp .neq 30 (.agg (headL a m f).toArray) (.agg (headL a m f).toArray)).run Tryd.prog w = .ok (.bool false) w := by
  rw [run_neq_struct, run_equalIn_struct (P := Tryd.prog) w 9999 30 _ _ (by kernel_rfl) (by kernel_rfl), eqFields_self]
  · rfl
  · intro fd hf
    have hm : (fd.type, fd.offset) ∈ [(22, 0), (26, 4), (28, 8)] := by
      rw [← head_fields]
      exact List.mem_map.2 ⟨fd, hf, rfl⟩
    simp only [List.mem_cons, Prod.mk.injEq, List.not_mem_nil, or_false] at hm
    rcases hm with ⟨h1, h2⟩ | ⟨h1, h2⟩ | ⟨h1, h2⟩ <;> rw [h1, h2]
    · exact ⟨_, part_ats a m f w, row_self 9997 22 3 4 .i64 Tryd.underlying22 Tryd.underlying3 plainInt cells_int _ (fun j => (a j : Nat)) (fun j hj => by rw [List.getElem?_toArray]; exact atL_at a j hj) w⟩
    · exact ⟨_, part_sms a m f w, row_self 9997 26 25 4 .u32 Tryd.underlying26 Tryd.underlying25 plainU32 cells_u32 _ (fun j => (m j : Nat)) (fun j hj => by rw [List.getElem?_toArray]; exact smL_at m j hj) w⟩
    · exact ⟨_, part_hsum a m f w, row_self 9997 28 5 32 .u8 Tryd.underlying28 Tryd.underlying5 plainU8 cells_u8 _ (fun j => (f j : Nat)) (fun j hj => by rw [List.getElem?_toArray]; exact arr_at f j hj) w⟩
theorem head_guard (a m f : Nat → Nat) (x y : Operand) (w : World) : (eqGuard .neq 30 x y (.agg (headL a m f).toArray) (.agg (headL a m f).toArray)).run Tryd.prog w = .ok () w :=
  run_eqGuard_agg (P := Tryd.prog) w .neq _ x y _ _ (by kernel_rfl)
/-- four numbers that came in -/
def intsL (K : Nat → Int) : List Value := (List.range 4).map fun j => Value.int .i64 (K j)
theorem intsL_at (K : Nat → Int) (j : Nat) (h : j < 4) : (intsL K)[j]? = some (.int .i64 (K j)) := by
  unfold intsL
  rw [List.getElem?_map, List.getElem?_range h]
  rfl
theorem intsL_len (K : Nat → Int) : (intsL K).length = 4 := by simp [intsL]
/-- a number's low 16 bits -/
def kdOf (x : Int) : Nat := (bits .and .i64 x 65535).toNat
theorem kdOf_eq (x : Int) : bits .and .i64 x 65535 = (kdOf x : Int) ∧ kdOf x < 65536 := by
  obtain ⟨p, hp, hl⟩ := maskN x 65535 (by decide)
  have hp' : bits .and .i64 x 65535 = (p : Int) := hp
  unfold kdOf
  rw [hp']
  exact ⟨by simp, by simp; omega⟩
end Go.Proofs.YtfmhcomebjggoaaDoor
