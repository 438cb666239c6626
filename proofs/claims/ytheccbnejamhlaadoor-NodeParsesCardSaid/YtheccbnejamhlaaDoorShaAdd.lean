/-
  add: a text's bytes are read, block by block.
-/
import Derived.Test.YtheccbnejamhlaaDoorShaMix
import Derived.Lib.LazyBuf
namespace Go.Proofs.YtheccbnejamhlaaDoor
open Go.RowKit

namespace Sha
/-- what was read so far, but for its size -/
structure Tx where
  s : St
  blk : Nat → Nat
  used : Nat
def comp (K : Nat → Nat) (s : St) (blk : Nat → Nat) : St := plus s (rnds K (fun i => (ws blk 48).getD i 0) s 64)
def upd (blk : Nat → Nat) (i c : Nat) : Nat → Nat := fun j => if j = i then c else blk j
def feed (K : Nat → Nat) (x : Tx) (c : UInt8) : Tx :=
  if x.used + 1 = 64 then ⟨comp K x.s (upd x.blk x.used c.toNat), upd x.blk x.used c.toNat, 0⟩ else ⟨x.s, upd x.blk x.used c.toNat, x.used + 1⟩
def feeds (K : Nat → Nat) (x : Tx) (l : List UInt8) : Tx := l.foldl (feed K) x
structure Tx.ok (x : Tx) : Prop where
  s : x.s.ok
  blk : ∀ i, x.blk i < 256
  used : x.used < 64
theorem upd_lt {blk : Nat → Nat} (h : ∀ i, blk i < 256) (i : Nat) (c : UInt8) (j : Nat) : upd blk i c.toNat j < 256 := by
  unfold upd
  split
  · exact c.toNat_lt
  · exact h j
theorem feed_ok {K : Nat → Nat} {x : Tx} (h : x.ok) (c : UInt8) : (feed K x c).ok := by
  unfold feed
  split
  · exact ⟨plus_ok _ _, upd_lt h.blk _ _, show 0 < 64 by decide⟩
  · rename_i hn
    exact ⟨h.s, upd_lt h.blk _ _, by have := h.used; show x.used + 1 < 64; omega⟩
theorem feeds_ok {K : Nat → Nat} {x : Tx} (h : x.ok) (l : List UInt8) : (feeds K x l).ok := by
  induction l generalizing x with
  | nil => exact h
  | cons c l ih => exact ih (feed_ok h c)
theorem feeds_append (K : Nat → Nat) (x : Tx) (l m : List UInt8) : feeds K x (l ++ m) = feeds K (feeds K x l) m := by simp [feeds]
/-- bytes put into the block from i on -/
def put (blk : Nat → Nat) (i : Nat) (l : List UInt8) : Nat → Nat := fun j => if i ≤ j ∧ j < i + l.length then (l.getD (j - i) 0).toNat else blk j
theorem put_cons (blk : Nat → Nat) (i : Nat) (c : UInt8) (l : List UInt8) : put blk i (c :: l) = put (upd blk i c.toNat) (i + 1) l := by
  funext j
  unfold put upd
  by_cases h0 : j = i
  · subst h0
    rw [if_pos (by simp), if_neg (by omega), if_pos rfl, Nat.sub_self]
    rfl
  · by_cases h1 : i + 1 ≤ j ∧ j < i + 1 + l.length
    · rw [if_pos (by simp; omega), if_pos h1, show j - i = (j - (i + 1)) + 1 by omega]
      rfl
    · rw [if_neg (by simp; omega), if_neg h1, if_neg h0]
theorem feeds_less (K : Nat → Nat) (l : List UInt8) (x : Tx) (h : x.used + l.length < 64) : feeds K x l = ⟨x.s, put x.blk x.used l, x.used + l.length⟩ := by
  induction l generalizing x with
  | nil =>
    obtain ⟨s, blk, used⟩ := x
    simp only [feeds, List.foldl_nil, List.length_nil, Nat.add_zero]
    congr 1
    funext j
    unfold put
    rw [if_neg (by simp)]
  | cons c l ih =>
    have e : feed K x c = ⟨x.s, upd x.blk x.used c.toNat, x.used + 1⟩ := by
      unfold feed
      rw [if_neg (by simp at h; omega)]
    show feeds K (feed K x c) l = _
    rw [e, ih _ (by simp at h ⊢; omega), put_cons]
    simp only [List.length_cons]
    congr 1
    omega
theorem feeds_full (K : Nat → Nat) (l : List UInt8) (x : Tx) (hl : l ≠ []) (h : x.used + l.length = 64) : feeds K x l = ⟨comp K x.s (put x.blk x.used l), put x.blk x.used l, 0⟩ := by
  induction l generalizing x with
  | nil => exact absurd rfl hl
  | cons c l ih =>
    show feeds K (feed K x c) l = _
    by_cases hn : l = []
    · subst hn
      have e : feed K x c = ⟨comp K x.s (upd x.blk x.used c.toNat), upd x.blk x.used c.toNat, 0⟩ := by
        unfold feed
        rw [if_pos (by simpa using h)]
      have p : put x.blk x.used [c] = upd x.blk x.used c.toNat := by
        rw [put_cons]
        funext j
        unfold put
        rw [if_neg (by simp)]
      rw [e, p]
      rfl
    · have hlen : 0 < l.length := List.length_pos_iff.mpr hn
      have e : feed K x c = ⟨x.s, upd x.blk x.used c.toNat, x.used + 1⟩ := by
        unfold feed
        rw [if_neg (by simp at h; omega)]
      rw [e, ih _ hn (by simp at h ⊢; omega), put_cons]
end Sha

theorem Cells.splice {b n : Nat} {f : Nat → Value} {w : World} (h : Cells b n f w) (o : Nat) (l : List Value) (hl : o + l.length ≤ n) : Cells b n (fun j => if o ≤ j ∧ j < o + l.length then l.getD (j - o) .nilIface else f j) (w.setCells b o l) := by
  induction l generalizing w o f with
  | nil => exact h.congr fun j _ => by rw [if_neg (by simp)]
  | cons v l ih =>
    have h1 : Cells b n (fun j => if j = o then v else f j) (w.setCell ⟨b, o, none⟩ v) := h.set o v (by simp at hl; omega) (by simp) fun j _ hj => by simp [hj]
    refine (ih h1 (o + 1) (by simp at hl ⊢; omega)).congr fun j hj => ?_
    by_cases h0 : j = o
    · subst h0
      rw [if_neg (by omega), if_pos rfl, if_pos (by simp), Nat.sub_self]
      rfl
    · by_cases h2 : o + 1 ≤ j ∧ j < o + 1 + l.length
      · rw [if_pos h2, if_pos (by simp; omega), show j - o = (j - (o + 1)) + 1 by omega]
        rfl
      · rw [if_neg h2, if_neg h0, if_neg (by simp; omega)]

theorem tv_used (s : Sha.St) (blk : Nat → Nat) (used size used' : Nat) (j : Nat) (h : j ≠ 72) : tv s blk used size j = tv s blk used' size j := by
  unfold tv
  split <;> first | rfl | (exact absurd rfl h)
theorem tv_size (s : Sha.St) (blk : Nat → Nat) (used size size' : Nat) (j : Nat) (h : j ≠ 73) : tv s blk used size j = tv s blk used size' j := by
  unfold tv
  split <;> first | rfl | (exact absurd rfl h)
theorem text_used {b : Nat} {s : Sha.St} {blk : Nat → Nat} {used size : Nat} {w : World} (h : TextIs b s blk used size w) (u : Nat) : TextIs b s blk u size (w.setCell ⟨b, 72, none⟩ (.int .i64 u)) :=
  h.set 72 _ (by decide) rfl fun j _ hj => tv_used _ _ _ _ _ _ hj
theorem text_size {b : Nat} {s : Sha.St} {blk : Nat → Nat} {used size : Nat} {w : World} (h : TextIs b s blk used size w) (u : Nat) : TextIs b s blk used u (w.setCell ⟨b, 73, none⟩ (.int .u64 u)) :=
  h.set 73 _ (by decide) rfl fun j _ hj => tv_size _ _ _ _ _ _ hj
def bytesOf (l : List UInt8) : List Value := l.map fun x => Value.int .u8 (x.toNat : Int)
theorem tv_at (s : Sha.St) (blk : Nat → Nat) (used size j : Nat) (h8 : 8 ≤ j) (h72 : j < 72) : tv s blk used size j = .int .u8 (blk (j - 8)) := by
  have := tv_blk s blk used size (j - 8) (by omega)
  rwa [show 8 + (j - 8) = j by omega] at this
theorem tv_out (s : Sha.St) (blk blk' : Nat → Nat) (used size j : Nat) (h : j < 8 ∨ 72 ≤ j) (h74 : j < 74) : tv s blk used size j = tv s blk' used size j := by
  rcases (by omega : j = 0 ∨ j = 1 ∨ j = 2 ∨ j = 3 ∨ j = 4 ∨ j = 5 ∨ j = 6 ∨ j = 7 ∨ j = 72 ∨ j = 73) with rfl | rfl | rfl | rfl | rfl | rfl | rfl | rfl | rfl | rfl <;> rfl
theorem text_put {b : Nat} {s : Sha.St} {blk : Nat → Nat} {used size : Nat} {w : World} (h : TextIs b s blk used size w) (i : Nat) (l : List UInt8) (hl : i + l.length ≤ 64) : TextIs b s (Sha.put blk i l) used size (w.setCells b (8 + i) (bytesOf l)) := by
  have hb : (bytesOf l).length = l.length := by simp [bytesOf]
  refine (Cells.splice h (8 + i) (bytesOf l) (by rw [hb]; omega)).congr fun j hj => ?_
  rw [hb]
  by_cases hin : 8 + i ≤ j ∧ j < 8 + i + l.length
  · rw [if_pos hin, tv_at _ _ _ _ _ (by omega) (by omega)]
    unfold Sha.put bytesOf
    rw [if_pos (by omega), show j - 8 - i = j - (8 + i) by omega]
    rw [List.getD_eq_getElem?_getD, List.getD_eq_getElem?_getD, List.getElem?_map, List.getElem?_eq_getElem (by omega)]
    rfl
  · rw [if_neg hin]
    by_cases h8 : 8 ≤ j ∧ j < 72
    · rw [tv_at _ _ _ _ _ h8.1 h8.2, tv_at _ _ _ _ _ h8.1 h8.2]
      unfold Sha.put
      rw [if_neg (by omega)]
    · exact tv_out _ _ _ _ _ _ (by omega) hj
theorem run_copy_str {P : Program} (w : World) (dT sT ty elem : TypeId) (b o dLen dCap n : Nat) (t : ByteArray) (hn : min t.size dLen = n)
    (hu : P.underlying dT = some (.slice elem)) (hz : ∀ w, (Go.sizeOf elem).run P w = .ok 1 w)
    (hc : ∀ j, j < n → (w.cell? ⟨b, o + j, none⟩).isSome = true) (hf : ∀ j, j < n → w.frozen? ⟨b, o + j, none⟩ = false) :
    (Builtin.copy_ #[dT, sT] ty #[.slice (some ⟨b, o, none⟩) dLen dCap, .string t]).run P w = .ok (.int .i64 n) (w.setCells b o (bytesOf (t.data.toList.take n))) := by
  have hl : (bytesOf (t.data.toList.take n)).length = n := by
    have : t.data.toList.length = t.size := by simp
    unfold bytesOf
    rw [List.length_map, List.length_take, this]
    omega
  have hst := run_storeCells_cells (P := P) b o (bytesOf (t.data.toList.take n)) 0 w (by rw [hl]; simpa using hc) (by rw [hl]; simpa using hf) (by
    intro v hv
    obtain ⟨x, _, rfl⟩ := List.mem_map.1 hv
    rfl)
  have hmin : Nat.min t.size dLen = n := hn
  simp [Builtin.copy_, run_underlying hu, Builtin.lenOf, Builtin.firstCells, hz, hmin]
  rw [show (List.take n (List.map (fun b => Value.int IntKind.u8 (b.toNat : Int)) t.data.toList)) = bytesOf (t.data.toList.take n) by unfold bytesOf; rw [List.map_take], hst]
  rfl
end Go.Proofs.YtheccbnejamhlaaDoor
