/-
  Texts put together: ShaMath, ShaWalks, ShaRow, ShaSpread, ShaMix, ShaAdd, ShaAddWalk, ShaEnd, ShaOf, Cells, ShaEql, ShaAwake.
-/
import Derived.Test.YtbohpffigmllkaaGreatDoorRows
import Derived.WalkKit
import Derived.WalkSpells
import Derived.WalkLawsBesides
import Derived.Lib.Hide
import Derived.Laws.BitsAllLaws
import Derived.Laws.ShiftsVarLaws
import Derived.IntWalk
import Derived.Below
import Derived.Deep.MidRow
import Derived.RegionTactic
import Derived.BigRegion
import Derived.Deep.QuietTactic
import Derived.BigQuiet
import Derived.Deep.RegionHeld3
import Derived.Deep.DeepCutAuto
import Derived.KernelRfl
import Derived.WalkSmall
import Derived.Lib.LazyBuf
import Derived.Test.YtbohpffigmllkaaGreatDoorOutVia
import Derived.Laws.ResultCell
import Derived.Deep.Upon
import Derived.Laws.StructEq
import Derived.ChangeKeysEq
/-
  The plain mathematics of SHA-256 on numbers: turning, choosing, spreading a block's words, the rounds. Nothing of the program is named here.
-/
namespace Go.Proofs.YtbohpffigmllkaaGreatDoor.Sha

def rotr (x n : Nat) : Nat := x * 2 ^ (32 - n) % 4294967296 ||| x / 2 ^ n
def ch (e f g : Nat) : Nat := (e &&& f) ||| (g &&& (4294967295 - e))
def maj (a b c : Nat) : Nat := (a &&& b) ||| (a &&& c) ||| (b &&& c)
def s0 (x : Nat) : Nat := rotr x 7 ^^^ rotr x 18 ^^^ x / 8
def s1 (x : Nat) : Nat := rotr x 17 ^^^ rotr x 19 ^^^ x / 1024
def b1 (x : Nat) : Nat := rotr x 6 ^^^ rotr x 11 ^^^ rotr x 25
def b0 (x : Nat) : Nat := rotr x 2 ^^^ rotr x 13 ^^^ rotr x 22
def word (blk : Nat → Nat) (i : Nat) : Nat := blk (4 * i) * 16777216 ||| blk (4 * i + 1) * 65536 ||| blk (4 * i + 2) * 256 ||| blk (4 * i + 3)
def next (l : List Nat) (k : Nat) : Nat := (((l.getD k 0 + s0 (l.getD (k + 1) 0)) % 4294967296 + l.getD (k + 9) 0) % 4294967296 + s1 (l.getD (k + 14) 0)) % 4294967296
def ws (blk : Nat → Nat) : Nat → List Nat
  | 0 => (List.range 16).map (word blk)
  | k + 1 => ws blk k ++ [next (ws blk k) k]
structure St where
  a : Nat
  b : Nat
  c : Nat
  d : Nat
  e : Nat
  f : Nat
  g : Nat
  z : Nat
def rnd (k w : Nat) (s : St) : St :=
  let t1 := ((((s.z + b1 s.e) % 4294967296 + ch s.e s.f s.g) % 4294967296 + k) % 4294967296 + w) % 4294967296
  let t2 := (b0 s.a + maj s.a s.b s.c) % 4294967296
  ⟨(t1 + t2) % 4294967296, s.a, s.b, s.c, (s.d + t1) % 4294967296, s.e, s.f, s.g⟩
def rnds (K W : Nat → Nat) (s : St) : Nat → St
  | 0 => s
  | i + 1 => rnd (K i) (W i) (rnds K W s i)
def plus (s r : St) : St := ⟨(s.a + r.a) % 4294967296, (s.b + r.b) % 4294967296, (s.c + r.c) % 4294967296, (s.d + r.d) % 4294967296, (s.e + r.e) % 4294967296, (s.f + r.f) % 4294967296, (s.g + r.g) % 4294967296, (s.z + r.z) % 4294967296⟩
def St.ok (s : St) : Prop := s.a < 4294967296 ∧ s.b < 4294967296 ∧ s.c < 4294967296 ∧ s.d < 4294967296 ∧ s.e < 4294967296 ∧ s.f < 4294967296 ∧ s.g < 4294967296 ∧ s.z < 4294967296

theorem or_lt {x y : Nat} (hx : x < 4294967296) (hy : y < 4294967296) : x ||| y < 4294967296 := Nat.or_lt_two_pow (n := 32) (by omega) (by omega)
theorem xor_lt {x y : Nat} (hx : x < 4294967296) (hy : y < 4294967296) : x ^^^ y < 4294967296 := Nat.xor_lt_two_pow (n := 32) (by omega) (by omega)
theorem and_lt {x y : Nat} (hy : y < 4294967296) : x &&& y < 4294967296 := Nat.and_lt_two_pow (n := 32) x (by omega)
theorem div_lt {x : Nat} (n : Nat) (hx : x < 4294967296) : x / n < 4294967296 := Nat.lt_of_le_of_lt (Nat.div_le_self _ _) hx
theorem mod_lt (x : Nat) : x % 4294967296 < 4294967296 := Nat.mod_lt _ (by decide)
theorem rotr_lt {x : Nat} (n : Nat) (hx : x < 4294967296) : rotr x n < 4294967296 := or_lt (mod_lt _) (div_lt _ hx)
theorem ch_lt {e f g : Nat} (hf : f < 4294967296) : ch e f g < 4294967296 := or_lt (and_lt hf) (and_lt (by omega))
theorem maj_lt {a b c : Nat} (hb : b < 4294967296) (hc : c < 4294967296) : maj a b c < 4294967296 := or_lt (or_lt (and_lt hb) (and_lt hc)) (and_lt hc)
theorem s0_lt {x : Nat} (hx : x < 4294967296) : s0 x < 4294967296 := xor_lt (xor_lt (rotr_lt _ hx) (rotr_lt _ hx)) (div_lt _ hx)
theorem s1_lt {x : Nat} (hx : x < 4294967296) : s1 x < 4294967296 := xor_lt (xor_lt (rotr_lt _ hx) (rotr_lt _ hx)) (div_lt _ hx)
theorem b0_lt {x : Nat} (hx : x < 4294967296) : b0 x < 4294967296 := xor_lt (xor_lt (rotr_lt _ hx) (rotr_lt _ hx)) (rotr_lt _ hx)
theorem b1_lt {x : Nat} (hx : x < 4294967296) : b1 x < 4294967296 := xor_lt (xor_lt (rotr_lt _ hx) (rotr_lt _ hx)) (rotr_lt _ hx)
theorem word_lt (blk : Nat → Nat) (h : ∀ i, blk i < 256) (i : Nat) : word blk i < 4294967296 := by
  have h0 := h (4 * i)
  have h1 := h (4 * i + 1)
  have h2 := h (4 * i + 2)
  have h3 := h (4 * i + 3)
  exact or_lt (or_lt (or_lt (by omega) (by omega)) (by omega)) (by omega)
theorem next_lt (l : List Nat) (k : Nat) : next l k < 4294967296 := mod_lt _
theorem ws_len (blk : Nat → Nat) (k : Nat) : (ws blk k).length = 16 + k := by
  induction k with
  | zero => simp [ws]
  | succ k ih => simp [ws, ih]; omega
theorem getD_lt (l : List Nat) (h : ∀ x ∈ l, x < 4294967296) (i : Nat) : l.getD i 0 < 4294967296 := by
  by_cases hi : i < l.length
  · rw [List.getD_eq_getElem?_getD, List.getElem?_eq_getElem hi, Option.getD_some]
    exact h _ (List.getElem_mem hi)
  · rw [List.getD_eq_getElem?_getD, List.getElem?_eq_none (by omega), Option.getD_none]
    omega
theorem ws_mem (blk : Nat → Nat) (h : ∀ i, blk i < 256) (k : Nat) : ∀ x ∈ ws blk k, x < 4294967296 := by
  induction k with
  | zero =>
    intro x hx
    rw [ws, List.mem_map] at hx
    obtain ⟨i, _, rfl⟩ := hx
    exact word_lt blk h i
  | succ k ih =>
    intro x hx
    rw [ws, List.mem_append] at hx
    rcases hx with hx | hx
    · exact ih x hx
    · rw [List.mem_singleton] at hx
      rw [hx]
      exact next_lt _ _
theorem ws_lt (blk : Nat → Nat) (h : ∀ i, blk i < 256) (k i : Nat) : (ws blk k).getD i 0 < 4294967296 := getD_lt _ (ws_mem blk h k) i
theorem rnd_ok {k w : Nat} {s : St} (h : s.ok) : (rnd k w s).ok := by
  obtain ⟨ha, hb, hc, hd, he, hf, hg, hz⟩ := h
  exact ⟨mod_lt _, ha, hb, hc, mod_lt _, he, hf, hg⟩
theorem rnds_ok {K W : Nat → Nat} {s : St} (h : s.ok) (i : Nat) : (rnds K W s i).ok := by
  induction i with
  | zero => exact h
  | succ i ih => exact rnd_ok ih
theorem plus_ok (s r : St) : (plus s r).ok := ⟨mod_lt _, mod_lt _, mod_lt _, mod_lt _, mod_lt _, mod_lt _, mod_lt _, mod_lt _⟩
end Go.Proofs.YtbohpffigmllkaaGreatDoor.Sha

/-
  What the small functions of package sha answer: contracts by walking their text.
-/
namespace Go.Proofs.YtbohpffigmllkaaGreatDoor
open Go.RowKit

theorem ret_int {k : IntKind} {a b : Int} (h : a = b) : Ending.returned (.int k a) = .returned (.int k b) := by rw [h]

set_option maxHeartbeats 400000 in
theorem choice_any (e f g : Nat) (w : World) (he : e < 4294967296) (hf : f < 4294967296) (hg : g < 4294967296) :
    Calls Tryz.prog 149 #[.int .u32 e, .int .u32 f, .int .u32 g] w fun r w' => r = .returned (.int .u32 (Sha.ch e f g)) ∧ w = w' := by
  have h1 := u32_and_nat e f he hf
  have h2 := u32_andNot_nat g e hg he
  have h3 := u32_or_nat (e &&& f) (g &&& (4294967295 - e)) (Sha.and_lt hf) (Sha.and_lt (by omega))
  have HC : Hid (((e &&& f) ||| (g &&& (4294967295 - e))) = Sha.ch e f g) := Lib.hid rfl
  go_enter Tryz.func149, Tryz.ntmps149
  go_wp2
  go_ret
  exact ⟨ret_int (by rw [HC.out]), rfl⟩

set_option maxHeartbeats 400000 in
theorem majority_any (a b c : Nat) (w : World) (ha : a < 4294967296) (hb : b < 4294967296) (hc : c < 4294967296) :
    Calls Tryz.prog 150 #[.int .u32 a, .int .u32 b, .int .u32 c] w fun r w' => r = .returned (.int .u32 (Sha.maj a b c)) ∧ w = w' := by
  have h1 := u32_and_nat a b ha hb
  have h2 := u32_and_nat a c ha hc
  have h3 := u32_and_nat b c hb hc
  have h4 := u32_or_nat (a &&& b) (a &&& c) (Sha.and_lt hb) (Sha.and_lt hc)
  have h5 := u32_or_nat ((a &&& b) ||| (a &&& c)) (b &&& c) (Sha.or_lt (Sha.and_lt hb) (Sha.and_lt hc)) (Sha.and_lt hc)
  have HC : Hid (((a &&& b) ||| (a &&& c) ||| (b &&& c)) = Sha.maj a b c) := Lib.hid rfl
  go_enter Tryz.func150, Tryz.ntmps150
  go_wp2
  go_ret
  exact ⟨ret_int (by rw [HC.out]), rfl⟩

theorem and_31 (n : Nat) (h1 : 1 ≤ n) (h2 : n ≤ 31) : bits .and .u64 (IntKind.u64.wrap (-(n : Int))) 31 = ((32 - n : Nat) : Int) := by
  rw [IntKind.wrap_u64]
  have e : (-(n : Int)) % 18446744073709551616 = ((18446744073709551616 - n : Nat) : Int) := by omega
  rw [e]
  have f := u64_and_nat (18446744073709551616 - n) 31 (by omega) (by omega)
  have g : (18446744073709551616 - n) &&& 31 = 32 - n := by
    have := Nat.and_two_pow_sub_one_eq_mod (18446744073709551616 - n) 5
    have e2 : 2 ^ 5 - 1 = 31 := rfl
    rw [e2] at this
    rw [this]
    omega
  rw [g] at f
  exact f

theorem rot_value (x n m : Nat) (hm : 32 - n = m) (hx : x < 4294967296) (h1 : 1 ≤ n) (h2 : n ≤ 31) :
    bits BinOp.or IntKind.u32 ((x : Int) * 2 ^ m % 4294967296) ((x : Int) / 2 ^ (32 - m)) = ((Sha.rotr x n : Nat) : Int) := by
  have e1 : (x : Int) * 2 ^ m % 4294967296 = ((x * 2 ^ m % 4294967296 : Nat) : Int) := by simp
  have e2 : (x : Int) / 2 ^ (32 - m) = ((x / 2 ^ (32 - m) : Nat) : Int) := by simp
  rw [e1, e2, u32_or_nat _ _ (Sha.mod_lt _) (Sha.div_lt _ hx)]
  unfold Sha.rotr
  rw [hm, show 32 - m = n by omega]

set_option maxHeartbeats 400000 in
theorem rot_any (x n : Nat) (w : World) (hx : x < 4294967296) (h1 : 1 ≤ n) (h2 : n ≤ 31) :
    Calls Tryz.prog 169 #[.int .u32 x, .int .i64 (-(n : Int))] w fun r w' => r = .returned (.int .u32 (Sha.rotr x n)) ∧ w = w' := by
  have ha := and_31 n h1 h2
  obtain ⟨m, hm⟩ : ∃ m, 32 - n = m := ⟨_, rfl⟩
  rw [hm] at ha
  have b1 : (1 : Int) ≤ (m : Int) := by omega
  have b2 : (m : Int) ≤ 31 := by omega
  have HM := Lib.hid hm
  clear hm
  go_enter Tryz.func169, Tryz.ntmps169
  go_wp2
  go_ret
  exact ⟨ret_int (rot_value x n m HM.out hx h1 h2), rfl⟩

set_option maxHeartbeats 400000 in
theorem right_any (x n : Nat) (w : World) (hx : x < 4294967296) (h1 : 1 ≤ n) (h2 : n ≤ 31) :
    Calls Tryz.prog 148 #[.int .u32 x, .int .i64 n] w fun r w' => r = .returned (.int .u32 (Sha.rotr x n)) ∧ w = w' := by
  go_enter Tryz.func148, Tryz.ntmps148
  go_wp2_with (go_at_call 169; refine (rot_any _ _ _ hx h1 h2).mono ?_; rintro e w' ⟨rfl, rfl⟩)
  go_ret
  exact ⟨rfl, rfl⟩
end Go.Proofs.YtbohpffigmllkaaGreatDoor

/-
  Blocks of the call's own whose cells are known one by one, and worlds that differ in one old block alone.
-/
namespace Go.Proofs.YtbohpffigmllkaaGreatDoor
open Go.RowKit

/-- the first n cells of block b -/
def Cells (b n : Nat) (f : Nat → Value) (w : World) : Prop := b < w.heap.size ∧ ∀ j, j < n → w.cell? ⟨b, j, none⟩ = some (f j) ∧ w.frozen? ⟨b, j, none⟩ = false
theorem Cells.congr {b n : Nat} {f g : Nat → Value} {w : World} (h : Cells b n f w) (e : ∀ j, j < n → f j = g j) : Cells b n g w :=
  ⟨h.1, fun j hj => by rw [← e j hj]; exact h.2 j hj⟩
theorem Cells.alloc {b n : Nat} {f : Nat → Value} {w : World} (h : Cells b n f w) (o : Obj) : Cells b n f (w.alloc o) := by
  refine ⟨by have := h.1; simp; omega, fun j hj => ?_⟩
  rw [World.cell?_alloc_past (hn := h.1), World.frozen?_alloc_old (h := by have := h.1; simp; omega)]
  exact h.2 j hj
theorem Cells.drew {b n : Nat} {f : Nat → Value} {w : World} (h : Cells b n f w) : Cells b n f w.drew := h
theorem Cells.set {b n : Nat} {f g : Nat → Value} {w : World} (h : Cells b n f w) (k : Nat) (v : Value) (hk : k < n) (hv : g k = v) (hg : ∀ j, j < n → j ≠ k → g j = f j) : Cells b n g (w.setCell ⟨b, k, none⟩ v) := by
  refine ⟨by have := h.1; simpa using this, fun j hj => ?_⟩
  rw [World.frozen?_setCell]
  refine ⟨?_, (h.2 j hj).2⟩
  by_cases e : j = k
  · subst e
    rw [World.cell?_setCell_same (h := (h.2 j hj).1), hv]
  · rw [World.cell?_setCell_other (h := by intro q; injection q with q1 q2 q3; exact e q2.symm), hg j hj e]
    exact (h.2 j hj).1
theorem Cells.far {b n : Nat} {f : Nat → Value} {w : World} (h : Cells b n f w) {c k : Nat} (v : Value) (hc : b ≠ c) : Cells b n f (w.setCell ⟨c, k, none⟩ v) := by
  refine ⟨by have := h.1; simpa using this, fun j hj => ?_⟩
  rw [World.frozen?_setCell, World.cell?_setCell_other (h := by intro q; injection q with q1 q2 q3; exact hc q1.symm)]
  exact h.2 j hj
theorem Cells.new (w : World) (n : Nat) (f : Nat → Value) (t : TypeId) (C : Array Value) (hC : ∀ j, j < n → C[j]? = some (f j)) : Cells w.heap.size n f (w.alloc (.cells C t)) := by
  refine ⟨by simp, fun j hj => ?_⟩
  rw [World.cell?_alloc_new, hC j hj]
  refine ⟨rfl, ?_⟩
  rw [World.frozen?_alloc_mark]
  simp
theorem Cells.there {b n : Nat} {f : Nat → Value} {w : World} (h : Cells b n f w) (o m : Nat) (hm : o + m ≤ n) : w.there b o m := fun j hj =>
  ⟨by rw [(h.2 (o + j) (by omega)).1]; rfl, (h.2 (o + j) (by omega)).2⟩
theorem Cells.range {b n : Nat} {f : Nat → Value} {w : World} (h : Cells b n f w) (o : Nat) (l : List Value) (hl : ∀ j v, l[j]? = some v → o + j < n ∧ f (o + j) = v) : w.rangeAt b o l := fun j v hv => by
  obtain ⟨h1, h2⟩ := hl j v hv
  rw [(h.2 _ h1).1, h2]
theorem Cells.farRow {b n : Nat} {f : Nat → Value} {w : World} (h : Cells b n f w) {c o : Nat} (l : List Value) (hc : b ≠ c) : Cells b n f (w.setCells c o l) := by
  induction l generalizing w o with
  | nil => exact h
  | cons v l ih => exact ih (h.far v hc)
theorem Cells.row {b n : Nat} {f : Nat → Value} {w : World} (h : Cells b n f w) (l : List Value) (g : Nat → Value) (hl : l.length = n) (hg : ∀ j, j < n → l[j]? = some (g j)) : Cells b n g (w.setCells b 0 l) := by
  refine ⟨?_, fun j hj => ?_⟩
  · have : ∀ (l : List Value) (o : Nat) (w : World), (w.setCells b o l).heap.size = w.heap.size := by
      intro l
      induction l with
      | nil => intro o w; rfl
      | cons v l ih => intro o w; exact (ih _ _).trans (by simp)
    rw [this]
    exact h.1
  · have ht := h.there 0 l.length (by omega)
    have r := World.rangeAt_setCells_same w b 0 l ht j (g j) (hg j hj)
    rw [Nat.zero_add] at r
    rw [World.frozen?_setCells]
    exact ⟨r, (h.2 j hj).2⟩

/-- below the old heap's end nothing has changed but block b -/
structure Only (b : Nat) (w w' : World) : Prop where
  os : w'.os = w.os
  tape : w'.tape = w.tape
  output : w'.output = w.output
  size : w.heap.size ≤ w'.heap.size
  block : ∀ k, k < w.heap.size → k ≠ b → w'.heap[k]? = w.heap[k]?
theorem Only.refl (b : Nat) (w : World) : Only b w w := ⟨rfl, rfl, rfl, Nat.le_refl _, fun _ _ _ => rfl⟩
theorem Only.trans {b : Nat} {u v w : World} (h : Only b u v) (k : Only b v w) : Only b u w :=
  ⟨k.os.trans h.os, k.tape.trans h.tape, k.output.trans h.output, Nat.le_trans h.size k.size, fun i hi hb => (k.block i (Nat.lt_of_lt_of_le hi h.size) hb).trans (h.block i hi hb)⟩
theorem Only.of_below {b : Nat} {w w' : World} (h : Below w.heap.size w w') : Only b w w' := ⟨h.os, h.tape, h.output, h.size, fun k hk _ => h.block k hk⟩
theorem Only.below {b B : Nat} {w w' : World} (h : Only b w w') (hb : B ≤ b) (hB : B ≤ w.heap.size) : Below B w w' :=
  ⟨h.os, h.tape, h.output, h.size, fun k hk => h.block k (by omega) (by omega)⟩
theorem Only.drew {b : Nat} {u w : World} (h : Only b u w) : Only b u w.drew := ⟨h.os, h.tape, h.output, h.size, h.block⟩
theorem Only.alloc {b : Nat} {u w : World} (h : Only b u w) (o : Obj) : Only b u (w.alloc o) :=
  h.trans (.of_below ((Below.refl _ _).alloc (Nat.le_refl _) _))
theorem Only.set {b : Nat} {u w : World} (h : Only b u w) {c k : Nat} (v : Value) (hc : c = b ∨ u.heap.size ≤ c) : Only b u (w.setCell ⟨c, k, none⟩ v) :=
  ⟨h.os, h.tape, h.output, by have := h.size; simpa using this, fun i hi hb => (Below.heap_setCell _ _ _ _ (by show i ≠ c; omega)).trans (h.block i hi hb)⟩
theorem Only.row {b : Nat} {u w : World} (h : Only b u w) {c o : Nat} (l : List Value) (hc : c = b ∨ u.heap.size ≤ c) : Only b u (w.setCells c o l) := by
  induction l generalizing w o with
  | nil => exact h
  | cons v l ih => exact ih (h.set v hc)
theorem Only.cells {b c n : Nat} {f : Nat → Value} {w w' : World} (k : Only b w w') (h : Cells c n f w) (hc : c ≠ b) : Cells c n f w' := by
  refine ⟨Nat.lt_of_lt_of_le h.1 k.size, fun j hj => ?_⟩
  have hb := k.block c h.1 hc
  rw [World.cell?_of_block (w := w) (a := ⟨c, j, none⟩) hb, World.frozen?_of_block (w := w) (a := ⟨c, j, none⟩) hb]
  exact h.2 j hj
theorem Cells.below {b n : Nat} {f : Nat → Value} {w w' : World} (h : Cells b n f w) (k : Below w.heap.size w w') : Cells b n f w' := by
  refine ⟨Nat.lt_of_lt_of_le h.1 k.size, fun j hj => ?_⟩
  rw [k.cell (p := ⟨b, j, none⟩) h.1, k.frozen (p := ⟨b, j, none⟩) h.1]
  exact h.2 j hj
end Go.Proofs.YtbohpffigmllkaaGreatDoor

/-
  spread: the sixteen words of the block and those that are made of them.
-/
namespace Go.Proofs.YtbohpffigmllkaaGreatDoor
open Go.RowKit

/-- the cells of a text -/
def tv (s : Sha.St) (blk : Nat → Nat) (used size : Nat) (j : Nat) : Value :=
  match j with
  | 0 => .int .u32 s.a | 1 => .int .u32 s.b | 2 => .int .u32 s.c | 3 => .int .u32 s.d | 4 => .int .u32 s.e | 5 => .int .u32 s.f | 6 => .int .u32 s.g | 7 => .int .u32 s.z
  | 72 => .int .i64 used
  | 73 => .int .u64 size
  | j => .int .u8 (blk (j - 8))
def TextIs (b : Nat) (s : Sha.St) (blk : Nat → Nat) (used size : Nat) (w : World) : Prop := Cells b 74 (tv s blk used size) w
theorem tv_blk (s : Sha.St) (blk : Nat → Nat) (used size i : Nat) (h : i < 64) : tv s blk used size (8 + i) = .int .u8 (blk i) := by
  have e : 8 + i = i + 8 := by omega
  rw [e]
  unfold tv
  split <;> first | omega | skip
  rename_i h1 h2 h3 h4 h5 h6 h7 h8 h9 h10
  simp
/-- the first n words of a row of 64 words, noughts behind -/
def wv (l : List Nat) (j : Nat) : Value := .int .u32 (l.getD j 0 : Nat)

def lit : Array Value := #[.int .u32 0, .int .u32 0, .int .u32 0, .int .u32 0, .int .u32 0, .int .u32 0, .int .u32 0, .int .u32 0, .int .u32 0, .int .u32 0, .int .u32 0, .int .u32 0, .int .u32 0, .int .u32 0, .int .u32 0, .int .u32 0, .int .u32 0, .int .u32 0, .int .u32 0, .int .u32 0, .int .u32 0, .int .u32 0, .int .u32 0, .int .u32 0, .int .u32 0, .int .u32 0, .int .u32 0, .int .u32 0, .int .u32 0, .int .u32 0, .int .u32 0, .int .u32 0, .int .u32 0, .int .u32 0, .int .u32 0, .int .u32 0, .int .u32 0, .int .u32 0, .int .u32 0, .int .u32 0, .int .u32 0, .int .u32 0, .int .u32 0, .int .u32 0, .int .u32 0, .int .u32 0, .int .u32 0, .int .u32 0, .int .u32 0, .int .u32 0, .int .u32 0, .int .u32 0, .int .u32 0, .int .u32 0, .int .u32 0, .int .u32 0, .int .u32 0, .int .u32 0, .int .u32 0, .int .u32 0, .int .u32 0, .int .u32 0, .int .u32 0, .int .u32 0]
theorem lit_at (j : Nat) (h : j < 64) : lit[j]? = some (.int .u32 0) := by
  have e : lit = Array.replicate 64 (.int .u32 0) := by kernel_rfl
  rw [e]
  simp [h]

theorem slice_block (b k : Nat) (hk : k < 16) (w : World) :
    (Instr.sliceAt 106 (.pointer (some ⟨b, 8, none⟩)) (some (.int .i64 (4 * (k : Int)))) (some (.int .i64 (4 * (k : Int) + 4))) none).run Tryz.prog w = .ok (.slice (some ⟨b, 8 + 4 * k, none⟩) 4 (64 - 4 * k)) w := by
  have e1 : Tryz.prog.arrayLen 106 = 64 := by kernel_rfl
  have e2 : Tryz.prog.elem 106 = 5 := by kernel_rfl
  have e3 : (sizeOf 5).run Tryz.prog w = .ok 1 w := by kernel_rfl
  have h := run_sliceAt_array_lh (P := Tryz.prog) w 106 ⟨b, 8, none⟩ (by rw [e1, e2]; exact Tryz.underlying106) .i64 .i64 (4 * (k : Int)) (4 * (k : Int) + 4) (by omega) (by omega) (by rw [e1]; omega)
  rw [h, e1, e2, e3]
  have a1 : (4 * (k : Int)).toNat = 4 * k := by omega
  have a2 : (4 * (k : Int) + 4).toNat = 4 * k + 4 := by omega
  simp only [Result.andThen_ok, slicedAt, a1, a2]
  rw [if_neg (by omega), Nat.mul_one, Addr.add_mid, show 4 * k + 4 - 4 * k = 4 by omega]
theorem text_byte {b : Nat} {s : Sha.St} {blk : Nat → Nat} {used size : Nat} {w : World} (h : TextIs b s blk used size w) (i : Nat) (hi : i < 64) : w.cell? ⟨b, 8 + i, none⟩ = some (.int .u8 (blk i)) := by
  rw [(h.2 (8 + i) (by omega)).1, tv_blk _ _ _ _ _ hi]
theorem word_value (x0 x1 x2 x3 : Nat) (y0 : x0 < 256) (y1 : x1 < 256) (y2 : x2 < 256) (y3 : x3 < 256) :
    bits BinOp.or IntKind.u32 (bits BinOp.or IntKind.u32 (bits BinOp.or IntKind.u32 ((x0 : Int) * 16777216) ((x1 : Int) * 65536)) ((x2 : Int) * 256)) (x3 : Int) = ((x0 * 16777216 ||| x1 * 65536 ||| x2 * 256 ||| x3 : Nat) : Int) := by
  have e0 : (x0 : Int) * 16777216 = ((x0 * 16777216 : Nat) : Int) := by simp
  have e1 : (x1 : Int) * 65536 = ((x1 * 65536 : Nat) : Int) := by simp
  have e2 : (x2 : Int) * 256 = ((x2 * 256 : Nat) : Int) := by simp
  have l0 : x0 * 16777216 < 4294967296 := Nat.lt_of_le_of_lt (Nat.mul_le_mul_right _ (show x0 ≤ 255 by omega)) (by decide)
  have l1 : x1 * 65536 < 4294967296 := Nat.lt_of_le_of_lt (Nat.mul_le_mul_right _ (show x1 ≤ 255 by omega)) (by decide)
  have l2 : x2 * 256 < 4294967296 := Nat.lt_of_le_of_lt (Nat.mul_le_mul_right _ (show x2 ≤ 255 by omega)) (by decide)
  have l3 : x3 < 4294967296 := by omega
  rw [e0, e1, e2, u32_or_nat _ _ l0 l1, u32_or_nat _ _ (Sha.or_lt l0 l1) l2, u32_or_nat _ _ (Sha.or_lt (Sha.or_lt l0 l1) l2) l3]
theorem s0_value (x : Nat) (hx : x < 4294967296) : bits BinOp.xor IntKind.u32 ((Sha.rotr x 7 ^^^ Sha.rotr x 18 : Nat) : Int) ((x : Int) / 8) = ((Sha.s0 x : Nat) : Int) := by
  rw [show (x : Int) / 8 = ((x / 8 : Nat) : Int) from by omega, u32_xor_nat _ _ (Sha.xor_lt (Sha.rotr_lt _ hx) (Sha.rotr_lt _ hx)) (Sha.div_lt _ hx)]
  rfl
theorem s1_value (x : Nat) (hx : x < 4294967296) : bits BinOp.xor IntKind.u32 ((Sha.rotr x 17 ^^^ Sha.rotr x 19 : Nat) : Int) ((x : Int) / 1024) = ((Sha.s1 x : Nat) : Int) := by
  rw [show (x : Int) / 1024 = ((x / 1024 : Nat) : Int) from by omega, u32_xor_nat _ _ (Sha.xor_lt (Sha.rotr_lt _ hx) (Sha.rotr_lt _ hx)) (Sha.div_lt _ hx)]
  rfl
theorem Cells.draws {b n : Nat} {f : Nat → Value} {w : World} {c k : Nat} {v : Value} (h : Cells b n f (w.setCell ⟨c, k, none⟩ v)) (m : Nat) : Cells b n f ((w.setCell ⟨c, k, none⟩ v).drewN m).drew := h
theorem below_draws {w w' : World} (h : Below w.heap.size w w') {c k : Nat} {v : Value} (m : Nat) (hc : w.heap.size ≤ c) : Below w.heap.size w ((w'.setCell ⟨c, k, none⟩ v).drewN m).drew :=
  (below_drewN (h.setCell (p := ⟨c, k, none⟩) hc v) m).drew
theorem ws_step {b k t : Nat} {blk : Nat → Nat} {w : World} (h : Cells b 64 (wv (Sha.ws blk k)) w) (hk : k < 48) (e : Sha.next (Sha.ws blk k) k = t) :
    Cells b 64 (wv (Sha.ws blk (k + 1))) (w.setCell ⟨b, k + 16, none⟩ (.int .u32 (t : Nat))) := by
  have hl := Sha.ws_len blk k
  refine h.set (k + 16) _ (by omega) ?_ ?_
  · unfold wv Sha.ws
    rw [List.getD_eq_getElem?_getD, List.getElem?_append_right (by omega), e, hl, show k + 16 - (16 + k) = 0 by omega]
    rfl
  · intro j hj hne
    unfold wv
    rw [Sha.ws, List.getD_eq_getElem?_getD, List.getD_eq_getElem?_getD]
    by_cases hlt : j < (Sha.ws blk k).length
    · rw [List.getElem?_append_left hlt]
    · rw [List.getElem?_eq_none (by simp; omega), List.getElem?_eq_none (by omega)]
theorem row_mem {f : Nat → Value} {L : List Value} (e : (List.range 64).map f = L) (j : Nat) (v : Value) (h : L[j]? = some v) : j < 64 ∧ f j = v := by
  subst e
  rw [List.getElem?_map, Option.map_eq_some_iff] at h
  obtain ⟨x, h1, h2⟩ := h
  obtain ⟨h3, h4⟩ := List.getElem?_eq_some_iff.mp h1
  rw [List.getElem_range] at h4
  rw [h4]
  exact ⟨by simp at h3; omega, h2⟩
theorem row_range {b : Nat} {f : Nat → Value} {w : World} {L : List Value} (h : Cells b 64 f w) (e : (List.range 64).map f = L) : w.rangeAt b 0 L :=
  h.range 0 L fun j v hv => by
    have := row_mem e j v hv
    rw [Nat.zero_add]
    exact this
theorem row_one {l : List Nat} {L : List Value} (e : (List.range 64).map (wv l) = L) : L.toArray.all (·.oneCell') = true :=
  all_oneCell_toArray fun v hv => by
    rw [← e, List.mem_map] at hv
    obtain ⟨x, _, rfl⟩ := hv
    rfl
theorem below_row {B : Nat} {u w : World} (h : Below B u w) {c o : Nat} (l : List Value) (hc : B ≤ c) : Below B u (w.setCells c o l) := by
  induction l generalizing w o with
  | nil => exact h
  | cons v l ih => exact ih (h.setCell (p := ⟨c, o, none⟩) hc v)
theorem results_mid {P : Program} {fn : Func} {p : Tmp} {ty : TypeId} (h : fn.results = #[.cell p ty]) (tmps : Array Value) (w : World) (b o : Nat) (cs : List Value) (d : TypeDesc)
    (hp : tmps.getD p undef = .pointer (some ⟨b, o, none⟩)) (hc : w.rangeAt b o cs) (hu : P.underlying ty = some d) (hd : d.isRow = true) (hi : (P.info? ty).map (·.size) = some cs.length) :
    (results fn tmps).run P w = .ok (.agg cs.toArray) w := by
  have hp' : tmps[p]?.getD undef = .pointer (some ⟨b, o, none⟩) := by simpa using hp
  simp [results, h, hp', asAddr, run_loadVar_mid w b o ty cs d hc hu hd hi]
theorem wv_new (f : Nat → Nat) (k : Nat) : wv ((List.range (k + 1)).map f) k = .int .u32 (f k) := by
  unfold wv
  rw [List.getD_eq_getElem?_getD]
  simp
theorem wv_old (f : Nat → Nat) (k j : Nat) (h : j ≠ k) : wv ((List.range (k + 1)).map f) j = wv ((List.range k).map f) j := by
  unfold wv
  rw [List.getD_eq_getElem?_getD, List.getD_eq_getElem?_getD]
  by_cases hj : j < k
  · simp [hj, show j < k + 1 by omega]
  · rw [List.getElem?_eq_none (by simp; omega), List.getElem?_eq_none (by simp; omega)]

set_option maxRecDepth 100000 in
set_option maxHeartbeats 1000000 in
theorem spread_any (b : Nat) (s : Sha.St) (blk : Nat → Nat) (used size : Nat) (w : World) (hb : ∀ i, blk i < 256) (h : TextIs b s blk used size w) :
    Calls Tryz.prog 147 #[.pointer (some ⟨b, 0, none⟩)] w fun r w' => r = .returned (.agg ((List.range 64).map (wv (Sha.ws blk 48))).toArray) ∧ Below w.heap.size w w' := by
  have HB := Lib.hid hb
  have HT := Lib.hid h
  clear hb h
  obtain ⟨L, hL⟩ : ∃ L, (List.range 64).map (wv (Sha.ws blk 48)) = L := ⟨_, rfl⟩
  rw [hL]
  have HL := Lib.hid hL
  clear hL
  go_enter Tryz.func147, Tryz.ntmps147
  go_upto_region 1 with fail
  go_cut [2, 3] (fun p2 p3 wx => p2 = .pointer (some ⟨w.heap.size, 0, none⟩) ∧ p3 = .pointer (some ⟨w.heap.size + 1, 0, none⟩) ∧ Cells (w.heap.size + 1) 64 (fun _ => .int .u32 0) wx ∧ TextIs b s blk used size wx ∧ Cells w.heap.size 64 (fun _ => .int .u32 0) wx ∧ Below w.heap.size w wx)
  case first =>
    go_wp2_with fail
    go_meet
    refine ⟨rfl, rfl, ?_, (HT.out.alloc _).alloc _, (Cells.new w 64 _ _ _ lit_at).alloc _, ((Below.refl _ _).alloc (Nat.le_refl _) _).alloc (by simp) _⟩
    have h := Cells.new (w.alloc (.cells lit 172)) 64 _ 172 _ lit_at
    rw [World.size_alloc] at h
    exact h
  case rest =>
    obtain ⟨rfl, rfl, hW, hT, hR, hBel⟩ := hcut
    go_wp2_with fail
    go_loopw [12] (fun i wr => ∃ k : Nat, k ≤ 16 ∧ i = .int .i64 k ∧ Cells (w.heap.size + 1) 64 (wv ((List.range k).map (Sha.word blk))) wr ∧ TextIs b s blk used size wr ∧ Cells w.heap.size 64 (fun _ => .int .u32 0) wr ∧ Below w.heap.size w wr) (fun i _ => 16 - (intOf i).toNat)
    case atStart => exact ⟨0, by omega, rfl, hW.congr (fun j _ => rfl), hT, hR, hBel⟩
    case round =>
      clear hW hT hR hBel
      obtain ⟨k, hk, rfl, hW, hT, hR, hBel⟩ := hrel
      have HW := Lib.hid hW
      have HTr := Lib.hid hT
      have HR := Lib.hid hR
      have HBel := Lib.hid hBel
      clear hW hT hR hBel
      by_cases hlt : k < 16
      · have hsl := slice_block b k hlt wr
        have c0 := text_byte HTr.out (4 * k) (by omega)
        have c1 := text_byte HTr.out (4 * k + 1) (by omega)
        have c2 := text_byte HTr.out (4 * k + 2) (by omega)
        have c3 := text_byte HTr.out (4 * k + 3) (by omega)
        have y0 := HB.out (4 * k)
        have y1 := HB.out (4 * k + 1)
        have y2 := HB.out (4 * k + 2)
        have y3 := HB.out (4 * k + 3)
        have hwd : Hid (Sha.word blk k = (blk (4 * k) * 16777216 ||| blk (4 * k + 1) * 65536 ||| blk (4 * k + 2) * 256 ||| blk (4 * k + 3))) := Lib.hid rfl
        rw [show 8 + (4 * k + 1) = 8 + 4 * k + 1 from by omega] at c1
        rw [show 8 + (4 * k + 2) = 8 + 4 * k + 2 from by omega] at c2
        rw [show 8 + (4 * k + 3) = 8 + 4 * k + 3 from by omega] at c3
        generalize blk (4 * k) = x0 at c0 y0 hwd
        generalize blk (4 * k + 1) = x1 at c1 y1 hwd
        generalize blk (4 * k + 2) = x2 at c2 y2 hwd
        generalize blk (4 * k + 3) = x3 at c3 y3 hwd
        have hv := word_value x0 x1 x2 x3 y0 y1 y2 y3
        rw [← hwd.out] at hv
        have cw := (HW.out.2 k (by omega)).1
        have fw := (HW.out.2 k (by omega)).2
        obtain ⟨old, hold⟩ : ∃ v, wv ((List.range k).map (Sha.word blk)) k = v := ⟨_, rfl⟩
        rw [hold] at cw
        have hk0 : (0 : Int) ≤ (k : Int) := by omega
        have hk1 : (k : Int) < 64 := by omega
        clear hold
        go_wp2_with fail
        go_region
        go_wp2
        go_roundw
        case rel => exact ⟨k + 1, by omega, by go_num, (HW.out.set k _ (by omega) (wv_new _ k) (fun j _ hj => wv_old _ k j hj)).drew, (HTr.out.far _ (by have := HT.out.1; omega)).drew, (HR.out.far _ (by omega)).drew, (HBel.out.setCell (by show w.heap.size ≤ w.heap.size + 1; omega) _).drew⟩
        case measure => simp [intOf]; omega
      · have hW : Cells (w.heap.size + 1) 64 (wv (Sha.ws blk 0)) wr := by
          have e : k = 16 := by omega
          have z := HW.out
          rw [e] at z
          exact z
        have hR := HR.out
        have hBel := HBel.out
        clear HW HTr HR HBel
        go_wp2_with fail
        go_loopw [49] (fun i wx => ∃ k : Nat, k ≤ 48 ∧ i = .int .i64 k ∧ Cells (w.heap.size + 1) 64 (wv (Sha.ws blk k)) wx ∧ Cells w.heap.size 64 (fun _ => .int .u32 0) wx ∧ Below w.heap.size w wx) (fun i _ => 48 - (intOf i).toNat)
        case atStart => exact ⟨0, by omega, rfl, hW, hR, hBel⟩
        case round =>
          clear hW hR hBel
          obtain ⟨k, hk, rfl, hW, hR, hBel⟩ := hrel
          have HW := Lib.hid hW
          have HR := Lib.hid hR
          have HBel := Lib.hid hBel
          clear hW hR hBel
          by_cases hlt : k < 48
          · have c1 := (HW.out.2 (k + 1) (by omega)).1
            have c14 := (HW.out.2 (k + 14) (by omega)).1
            have c0 := (HW.out.2 k (by omega)).1
            have c9 := (HW.out.2 (k + 9) (by omega)).1
            have c16 := (HW.out.2 (k + 16) (by omega)).1
            have f16 := (HW.out.2 (k + 16) (by omega)).2
            have y1 := Sha.ws_lt blk HB.out k (k + 1)
            have y14 := Sha.ws_lt blk HB.out k (k + 14)
            have y0 := Sha.ws_lt blk HB.out k k
            have y9 := Sha.ws_lt blk HB.out k (k + 9)
            obtain ⟨nx, hnx0⟩ : ∃ n, Sha.next (Sha.ws blk k) k = n := ⟨_, rfl⟩
            have HNX := Lib.hid hnx0
            unfold Sha.next at hnx0
            have hnx := Lib.hid hnx0
            clear hnx0
            unfold wv at c1 c14 c0 c9
            obtain ⟨old, hold⟩ : ∃ v, wv (Sha.ws blk k) (k + 16) = v := ⟨_, rfl⟩
            rw [hold] at c16
            clear hold
            generalize (Sha.ws blk k).getD (k + 1) 0 = x at c1 y1 hnx
            generalize (Sha.ws blk k).getD (k + 14) 0 = y at c14 y14 hnx
            generalize (Sha.ws blk k).getD k 0 = a at c0 y0 hnx
            generalize (Sha.ws blk k).getD (k + 9) 0 = c at c9 y9 hnx
            obtain ⟨p1, hp1⟩ : ∃ p, k + 1 = p := ⟨_, rfl⟩
            obtain ⟨p14, hp14⟩ : ∃ p, k + 14 = p := ⟨_, rfl⟩
            obtain ⟨p9, hp9⟩ : ∃ p, k + 9 = p := ⟨_, rfl⟩
            rw [hp1] at c1
            rw [hp14] at c14
            rw [hp9] at c9
            have w1 : IntKind.i64.wrap ((k : Int) + 16 - 15) = (p1 : Int) := by rw [IntWalk.i64_in _ (by omega)]; omega
            have w14 : IntKind.i64.wrap ((k : Int) + 16 - 2) = (p14 : Int) := by rw [IntWalk.i64_in _ (by omega)]; omega
            have w9 : IntKind.i64.wrap ((k : Int) + 16 - 7) = (p9 : Int) := by rw [IntWalk.i64_in _ (by omega)]; omega
            have w0 : IntKind.i64.wrap ((k : Int) + 16 - 16) = (k : Int) := by rw [IntWalk.i64_in _ (by omega)]; omega
            have i1 : (p1 : Int) < 64 := by omega
            have i14 : (p14 : Int) < 64 := by omega
            have i9 : (p9 : Int) < 64 := by omega
            have i0 : (k : Int) < 64 := by omega
            have i16 : (k : Int) + 16 < 64 := by omega
            have i16' : (0 : Int) ≤ (k : Int) + 16 := by omega
            have n16 : ((k : Int) + 16).toNat = k + 16 := by omega
            clear hp1 hp14 hp9
            go_wp2_with fail
            go_quiet (fail)
            clear w1 w14 i1 i14 c1 c14
            have g1 := u32_xor_nat (Sha.rotr x 7) (Sha.rotr x 18) (Sha.rotr_lt _ y1) (Sha.rotr_lt _ y1)
            have g2 := s0_value x y1
            have g3 := u32_xor_nat (Sha.rotr y 17) (Sha.rotr y 19) (Sha.rotr_lt _ y14) (Sha.rotr_lt _ y14)
            have g4 := s1_value y y14
            go_wp2_with fail
            refine (right_any x 7 _ y1 (by decide) (by decide)).mono ?_
            rintro e w' ⟨rfl, rfl⟩
            go_wp2_with fail
            refine (right_any x 18 _ y1 (by decide) (by decide)).mono ?_
            rintro e w' ⟨rfl, rfl⟩
            go_wp2_with fail
            refine (right_any y 17 _ y14 (by decide) (by decide)).mono ?_
            rintro e w' ⟨rfl, rfl⟩
            go_wp2_with fail
            refine (right_any y 19 _ y14 (by decide) (by decide)).mono ?_
            rintro e w' ⟨rfl, rfl⟩
            go_wp2_with fail
            clear g1 g2 g3 g4
            have l0 := Sha.s0_lt y1
            have l1 := Sha.s1_lt y14
            obtain ⟨t1, e1⟩ : ∃ t, (a + Sha.s0 x) % 4294967296 = t := ⟨_, rfl⟩
            obtain ⟨t2, e2⟩ : ∃ t, (t1 + c) % 4294967296 = t := ⟨_, rfl⟩
            obtain ⟨t3, e3⟩ : ∃ t, (t2 + Sha.s1 y) % 4294967296 = t := ⟨_, rfl⟩
            have HN : Hid (Sha.next (Sha.ws blk k) k = t3) := Lib.hid (by have z := hnx.out; rw [e1, e2, e3] at z; rw [HNX.out, ← z])
            have q1 : IntKind.u32.wrap ((a : Int) + ((Sha.s0 x : Nat) : Int)) = (t1 : Int) := by rw [IntKind.wrap_u32']; omega
            have q2 : IntKind.u32.wrap ((t1 : Int) + (c : Int)) = (t2 : Int) := by rw [IntKind.wrap_u32']; omega
            have q3 : IntKind.u32.wrap ((t2 : Int) + ((Sha.s1 y : Nat) : Int)) = (t3 : Int) := by rw [IntKind.wrap_u32']; omega
            clear e1 e2 e3 hnx l0 l1 y0 y1 y14 y9
            go_region
            go_wp2
            go_roundw
            case rel => exact ⟨k + 1, by omega, by go_num, (ws_step HW.out hlt HN.out).draws nq, (HR.out.far _ (by omega)).draws nq, below_draws HBel.out nq (by omega)⟩
            case measure => simp [intOf]; omega
          · have e48 : k = 48 := by omega
            have z := HW.out
            rw [e48] at z
            have hlen : L.length = 64 := by rw [← HL.out]; simp
            have HRa := Lib.hid (row_range z HL.out)
            have HTh : Hid (wr.there w.heap.size 0 L.toArray.size) := Lib.hid (HR.out.there 0 _ (by simp [hlen]))
            have HO : Hid (L.toArray.all (·.oneCell') = true) := Lib.hid (row_one HL.out)
            have HI : Hid ((Tryz.prog.info? 172).map (·.size) = some L.length) := Lib.hid (by rw [hlen]; kernel_rfl)
            have HI' : Hid ((Tryz.prog.info? 172).map (·.size) = some L.toArray.size) := Lib.hid (by rw [List.size_toArray, hlen]; kernel_rfl)
            have HE := Lib.hid e48
            clear z hlen e48
            go_wp2_with (first
              | (with_reducible refine wpList_load_mid rfl 172 _ rfl (w.heap.size + 1) 0 rfl L _ HRa.out Tryz.underlying172 rfl HI.out ?_)
              | (with_reducible refine wpList_store_mid rfl 172 _ _ rfl w.heap.size 0 L.toArray rfl rfl HTh.out HI'.out HO.out ?_))
            refine bodyPost_ret (v := .agg L.toArray) ?_ rfl ⟨rfl, below_row HBel.out L (Nat.le_refl _)⟩
            exact results_mid Tryz.results147 _ _ w.heap.size 0 L _ rfl (World.rangeAt_setCells_same _ _ _ _ (by have z := HTh.out; rwa [List.size_toArray] at z)) Tryz.underlying172 rfl HI.out
end Go.Proofs.YtbohpffigmllkaaGreatDoor

/-
  mix: the words of a text are turned by a whole block.
-/
namespace Go.Proofs.YtbohpffigmllkaaGreatDoor
open Go.RowKit

/-- the numbers of the rounds, as they lie in the package's variable -/
def Table (K : Nat → Nat) (w : World) : Prop := 1 < w.heap.size ∧ ∀ i, i < 64 → w.cell? ⟨1, i, none⟩ = some (.int .u32 (K i))
theorem Table.only {K : Nat → Nat} {b : Nat} {w w' : World} (h : Table K w) (k : Only b w w') (hb : 1 ≠ b) : Table K w' :=
  ⟨Nat.lt_of_lt_of_le h.1 k.size, fun i hi => by
    rw [World.cell?_of_block (w := w) (a := ⟨1, i, none⟩) (k.block 1 h.1 hb)]
    exact h.2 i hi⟩
structure Facts (g b : Nat) (K : Nat → Nat) (l : List Nat) (s : Sha.St) (blk : Nat → Nat) (used size : Nat) (w wx : World) : Prop where
  row : Cells g 64 (wv l) wx
  text : TextIs b s blk used size wx
  table : Table K wx
  only : Only b w wx
  far : w.heap.size ≤ g

theorem there_new (w : World) {f : Nat → Value} {L : List Value} (e : (List.range 64).map f = L) : (w.alloc (.cells lit 172)).there w.heap.size 0 L.toArray.size := by
  refine (Cells.new w 64 _ _ _ lit_at).there 0 _ ?_
  rw [List.size_toArray, ← e]
  simp
theorem facts_new {b : Nat} {K : Nat → Nat} {l : List Nat} {s : Sha.St} {blk : Nat → Nat} {used size : Nat} {w w1 : World} {L : List Value} (h : Below w.heap.size w w1) (e : (List.range 64).map (wv l) = L) (hT : TextIs b s blk used size w) (hK : Table K w) (hb : 1 < b) :
    Facts w1.heap.size b K l s blk used size w ((w1.alloc (.cells lit 172)).setCells w1.heap.size 0 L) := by
  have hs := h.size
  have hbs := hT.1
  have ho : Only b w ((w1.alloc (.cells lit 172)).setCells w1.heap.size 0 L) := ((Only.of_below h).alloc _).row L (.inr hs)
  refine ⟨?_, ?_, hK.only ho (by omega), ho, hs⟩
  · refine (Cells.new w1 64 _ _ _ lit_at).row L _ (by rw [← e]; simp) fun j hj => ?_
    rw [← e, List.getElem?_map, List.getElem?_range hj]
    rfl
  · exact ((Cells.below hT h).alloc _).farRow L (by omega)

theorem Facts.draws {g b : Nat} {K : Nat → Nat} {l : List Nat} {s : Sha.St} {blk : Nat → Nat} {used size : Nat} {w wx : World} (h : Facts g b K l s blk used size w wx) (n : Nat) : Facts g b K l s blk used size w (wx.drewN n) :=
  ⟨h.row, h.text, h.table, ⟨h.only.os, h.only.tape, h.only.output, h.only.size, h.only.block⟩, h.far⟩
def Regs (t : Sha.St) (a b c d e f g z : Value) : Prop := a = .int .u32 t.a ∧ b = .int .u32 t.b ∧ c = .int .u32 t.c ∧ d = .int .u32 t.d ∧ e = .int .u32 t.e ∧ f = .int .u32 t.f ∧ g = .int .u32 t.g ∧ z = .int .u32 t.z
theorem quiet_mine {P : Program} {f : FuncId} {args : Array Value} {w : World} {n : Nat} {v : Value}
    (h : Calls P f args (w.drewN n) fun e w' => e = .returned v ∧ w.drewN n = w') : Calls P f args (w.drewN n) fun e w'' => e = .returned v ∧ ∃ m, w'' = w.drewN m :=
  h.mono fun _ _ ⟨he, hm⟩ => ⟨he, n, hm.symm⟩

theorem tv_other (s s' : Sha.St) (blk : Nat → Nat) (used size j : Nat) (h : (j = 0 → s.a = s'.a) ∧ (j = 1 → s.b = s'.b) ∧ (j = 2 → s.c = s'.c) ∧ (j = 3 → s.d = s'.d) ∧ (j = 4 → s.e = s'.e) ∧ (j = 5 → s.f = s'.f) ∧ (j = 6 → s.g = s'.g) ∧ (j = 7 → s.z = s'.z)) : tv s blk used size j = tv s' blk used size j := by
  obtain ⟨h0, h1, h2, h3, h4, h5, h6, h7⟩ := h
  unfold tv
  split <;> first | rfl | (rw [h0 rfl]) | (rw [h1 rfl]) | (rw [h2 rfl]) | (rw [h3 rfl]) | (rw [h4 rfl]) | (rw [h5 rfl]) | (rw [h6 rfl]) | (rw [h7 rfl])
theorem text_set0 {b : Nat} {s : Sha.St} {blk : Nat → Nat} {used size : Nat} {w : World} (h : TextIs b s blk used size w) (x : Nat) (v : Int) (e : v = (x : Int)) : TextIs b { s with a := x } blk used size (w.setCell ⟨b, 0, none⟩ (.int .u32 v)) := by
  subst e
  exact h.set 0 _ (by decide) rfl fun j _ hj => tv_other _ _ _ _ _ _ (by simp; omega)
theorem text_set1 {b : Nat} {s : Sha.St} {blk : Nat → Nat} {used size : Nat} {w : World} (h : TextIs b s blk used size w) (x : Nat) (v : Int) (e : v = (x : Int)) : TextIs b { s with b := x } blk used size (w.setCell ⟨b, 1, none⟩ (.int .u32 v)) := by
  subst e
  exact h.set 1 _ (by decide) rfl fun j _ hj => tv_other _ _ _ _ _ _ (by simp; omega)
theorem text_set2 {b : Nat} {s : Sha.St} {blk : Nat → Nat} {used size : Nat} {w : World} (h : TextIs b s blk used size w) (x : Nat) (v : Int) (e : v = (x : Int)) : TextIs b { s with c := x } blk used size (w.setCell ⟨b, 2, none⟩ (.int .u32 v)) := by
  subst e
  exact h.set 2 _ (by decide) rfl fun j _ hj => tv_other _ _ _ _ _ _ (by simp; omega)
theorem text_set3 {b : Nat} {s : Sha.St} {blk : Nat → Nat} {used size : Nat} {w : World} (h : TextIs b s blk used size w) (x : Nat) (v : Int) (e : v = (x : Int)) : TextIs b { s with d := x } blk used size (w.setCell ⟨b, 3, none⟩ (.int .u32 v)) := by
  subst e
  exact h.set 3 _ (by decide) rfl fun j _ hj => tv_other _ _ _ _ _ _ (by simp; omega)
theorem text_set4 {b : Nat} {s : Sha.St} {blk : Nat → Nat} {used size : Nat} {w : World} (h : TextIs b s blk used size w) (x : Nat) (v : Int) (e : v = (x : Int)) : TextIs b { s with e := x } blk used size (w.setCell ⟨b, 4, none⟩ (.int .u32 v)) := by
  subst e
  exact h.set 4 _ (by decide) rfl fun j _ hj => tv_other _ _ _ _ _ _ (by simp; omega)
theorem text_set5 {b : Nat} {s : Sha.St} {blk : Nat → Nat} {used size : Nat} {w : World} (h : TextIs b s blk used size w) (x : Nat) (v : Int) (e : v = (x : Int)) : TextIs b { s with f := x } blk used size (w.setCell ⟨b, 5, none⟩ (.int .u32 v)) := by
  subst e
  exact h.set 5 _ (by decide) rfl fun j _ hj => tv_other _ _ _ _ _ _ (by simp; omega)
theorem text_set6 {b : Nat} {s : Sha.St} {blk : Nat → Nat} {used size : Nat} {w : World} (h : TextIs b s blk used size w) (x : Nat) (v : Int) (e : v = (x : Int)) : TextIs b { s with g := x } blk used size (w.setCell ⟨b, 6, none⟩ (.int .u32 v)) := by
  subst e
  exact h.set 6 _ (by decide) rfl fun j _ hj => tv_other _ _ _ _ _ _ (by simp; omega)
theorem text_set7 {b : Nat} {s : Sha.St} {blk : Nat → Nat} {used size : Nat} {w : World} (h : TextIs b s blk used size w) (x : Nat) (v : Int) (e : v = (x : Int)) : TextIs b { s with z := x } blk used size (w.setCell ⟨b, 7, none⟩ (.int .u32 v)) := by
  subst e
  exact h.set 7 _ (by decide) rfl fun j _ hj => tv_other _ _ _ _ _ _ (by simp; omega)
theorem cast_plus (x y : Nat) : ((x : Int) + (y : Int)) % 4294967296 = (((x + y) % 4294967296 : Nat) : Int) := by omega
theorem TextIs.drew {b : Nat} {s : Sha.St} {blk : Nat → Nat} {used size : Nat} {w : World} (h : TextIs b s blk used size w) : TextIs b s blk used size w.drew := Cells.drew h
theorem text_plus {b : Nat} {s : Sha.St} {blk : Nat → Nat} {used size : Nat} {w : World} (h : TextIs b s blk used size w) (t : Sha.St) :
    TextIs b (Sha.plus s t) blk used size ((((((((w.setCell ⟨b, 0, none⟩ (.int .u32 ((((s.a : Nat) : Int) + ((t.a : Nat) : Int)) % 4294967296))).setCell ⟨b, 1, none⟩ (.int .u32 ((((s.b : Nat) : Int) + ((t.b : Nat) : Int)) % 4294967296))).setCell ⟨b, 2, none⟩ (.int .u32 ((((s.c : Nat) : Int) + ((t.c : Nat) : Int)) % 4294967296))).setCell ⟨b, 3, none⟩ (.int .u32 ((((s.d : Nat) : Int) + ((t.d : Nat) : Int)) % 4294967296))).setCell ⟨b, 4, none⟩ (.int .u32 ((((s.e : Nat) : Int) + ((t.e : Nat) : Int)) % 4294967296))).setCell ⟨b, 5, none⟩ (.int .u32 ((((s.f : Nat) : Int) + ((t.f : Nat) : Int)) % 4294967296))).setCell ⟨b, 6, none⟩ (.int .u32 ((((s.g : Nat) : Int) + ((t.g : Nat) : Int)) % 4294967296))).setCell ⟨b, 7, none⟩ (.int .u32 ((((s.z : Nat) : Int) + ((t.z : Nat) : Int)) % 4294967296))).drew.drew.drew.drew.drew.drew.drew.drew := by
  have h0 := text_set0 h ((s.a + t.a) % 4294967296) _ (cast_plus s.a t.a)
  have h1 := text_set1 h0 ((s.b + t.b) % 4294967296) _ (cast_plus s.b t.b)
  have h2 := text_set2 h1 ((s.c + t.c) % 4294967296) _ (cast_plus s.c t.c)
  have h3 := text_set3 h2 ((s.d + t.d) % 4294967296) _ (cast_plus s.d t.d)
  have h4 := text_set4 h3 ((s.e + t.e) % 4294967296) _ (cast_plus s.e t.e)
  have h5 := text_set5 h4 ((s.f + t.f) % 4294967296) _ (cast_plus s.f t.f)
  have h6 := text_set6 h5 ((s.g + t.g) % 4294967296) _ (cast_plus s.g t.g)
  have h7 := text_set7 h6 ((s.z + t.z) % 4294967296) _ (cast_plus s.z t.z)
  exact h7.drew.drew.drew.drew.drew.drew.drew.drew
theorem only_plus {b : Nat} {w wx : World} (h : Only b w wx) {v0 v1 v2 v3 v4 v5 v6 v7 : Value} :
    Only b w ((((((((wx.setCell ⟨b, 0, none⟩ v0).setCell ⟨b, 1, none⟩ v1).setCell ⟨b, 2, none⟩ v2).setCell ⟨b, 3, none⟩ v3).setCell ⟨b, 4, none⟩ v4).setCell ⟨b, 5, none⟩ v5).setCell ⟨b, 6, none⟩ v6).setCell ⟨b, 7, none⟩ v7).drew.drew.drew.drew.drew.drew.drew.drew :=
  ((((((((((((((((h.set _ (.inl rfl)).set _ (.inl rfl)).set _ (.inl rfl)).set _ (.inl rfl)).set _ (.inl rfl)).set _ (.inl rfl)).set _ (.inl rfl)).set _ (.inl rfl)).drew).drew).drew).drew).drew).drew).drew).drew)

set_option maxRecDepth 100000 in
set_option maxHeartbeats 2000000 in
theorem mix_any (b : Nat) (s : Sha.St) (blk : Nat → Nat) (used size : Nat) (K : Nat → Nat) (w : World) (hb : ∀ i, blk i < 256) (hs : s.ok) (hK : ∀ i, K i < 4294967296) (hb1 : 1 < b) (h : TextIs b s blk used size w) (hT : Table K w) :
    Calls Tryz.prog 120 #[.pointer (some ⟨b, 0, none⟩)] w fun r w' => r = .returned (.tuple #[]) ∧ TextIs b (Sha.plus s (Sha.rnds K (fun i => (Sha.ws blk 48).getD i 0) s 64)) blk used size w' ∧ Only b w w' := by
  have HB := Lib.hid hb
  have HT := Lib.hid h
  have HK := Lib.hid hT
  have HKl := Lib.hid hK
  have HS := Lib.hid hs
  clear hb h hT hK hs
  have hsp := spread_any b s blk used size w HB.out HT.out
  obtain ⟨L, hL⟩ : ∃ L, (List.range 64).map (wv (Sha.ws blk 48)) = L := ⟨_, rfl⟩
  rw [hL] at hsp
  have HL := Lib.hid hL
  have HSp := Lib.hid hsp
  have HO : Hid (L.toArray.all (·.oneCell') = true) := Lib.hid (row_one hL)
  have HI : Hid ((Tryz.prog.info? 172).map (·.size) = some L.toArray.size) := Lib.hid (by rw [List.size_toArray, ← hL]; kernel_rfl)
  clear hL hsp
  go_enter Tryz.func120, Tryz.ntmps120
  go_upto_region 0 with fail
  go_cut [2] (fun p2 wx => ∃ g, p2 = .pointer (some ⟨g, 0, none⟩) ∧ Facts g b K (Sha.ws blk 48) s blk used size w wx)
  case first =>
    go_wp2_with fail
    refine HSp.out.mono ?_
    rintro e w1 ⟨rfl, hbel1⟩
    have HB1 := Lib.hid hbel1
    clear hbel1
    go_wp2_with ((with_reducible refine wpList_store_mid rfl 172 _ _ rfl w1.heap.size 0 L.toArray rfl rfl ?_ HI.out HO.out ?_); (focus exact there_new w1 HL.out))
    go_meet
    exact ⟨_, rfl, facts_new HB1.out HL.out HT.out HK.out hb1⟩
  case rest =>
    obtain ⟨g, rfl, hF⟩ := hcut
    have HF := Lib.hid hF
    have t0 := (hF.text.2 0 (by decide)).1
    have t1 := (hF.text.2 1 (by decide)).1
    have t2 := (hF.text.2 2 (by decide)).1
    have t3 := (hF.text.2 3 (by decide)).1
    have t4 := (hF.text.2 4 (by decide)).1
    have t5 := (hF.text.2 5 (by decide)).1
    have t6 := (hF.text.2 6 (by decide)).1
    have t7 := (hF.text.2 7 (by decide)).1
    clear hF
    simp only [tv] at t0 t1 t2 t3 t4 t5 t6 t7
    go_wp2_with fail
    go_quiet (fail)
    clear t0 t1 t2 t3 t4 t5 t6 t7
    go_wp2_with fail
    go_loopw [4, 5, 6, 7, 8, 9, 10, 11, 54] (fun r4 r5 r6 r7 r8 r9 r10 r11 i wr => ∃ k : Nat, k ≤ 64 ∧ i = .int .i64 k ∧ Regs (Sha.rnds K (fun i => (Sha.ws blk 48).getD i 0) s k) r4 r5 r6 r7 r8 r9 r10 r11 ∧ Facts g b K (Sha.ws blk 48) s blk used size w wr) (fun _ _ _ _ _ _ _ _ i _ => 64 - (intOf i).toNat)
    case atStart => exact ⟨0, by omega, rfl, ⟨rfl, rfl, rfl, rfl, rfl, rfl, rfl, rfl⟩, HF.out.draws nq⟩
    case round =>
      clear HF
      obtain ⟨k, hk, rfl, ⟨rfl, rfl, rfl, rfl, rfl, rfl, rfl, rfl⟩, hF⟩ := hrel
      have HF := Lib.hid hF
      clear hF
      by_cases hlt : k < 64
      · have hok := Sha.rnds_ok (K := K) (W := fun i => (Sha.ws blk 48).getD i 0) HS.out k
        have HN : Hid (Sha.rnds K (fun i => (Sha.ws blk 48).getD i 0) s (k + 1) = Sha.rnd (K k) ((Sha.ws blk 48).getD k 0) (Sha.rnds K (fun i => (Sha.ws blk 48).getD i 0) s k)) := Lib.hid rfl
        generalize Sha.rnds K (fun i => (Sha.ws blk 48).getD i 0) s k = t at hok HN
        obtain ⟨A, B, C, D, E, F, G, Z⟩ := t
        obtain ⟨hA, hB, hC, hD, hE, hF, hG, hZ⟩ := hok
        simp only at hA hB hC hD hE hF hG hZ
        have ck := HF.out.table.2 k hlt
        have cw := (HF.out.row.2 k hlt).1
        have yk := HKl.out k
        have yw := Sha.ws_lt blk HB.out 48 k
        unfold wv at cw
        generalize (Sha.ws blk 48).getD k 0 = W at cw yw HN
        generalize K k = N at ck yk HN
        have g1 := u32_xor_nat (Sha.rotr E 6) (Sha.rotr E 11) (Sha.rotr_lt _ hE) (Sha.rotr_lt _ hE)
        have g2 : bits .xor .u32 ((Sha.rotr E 6 ^^^ Sha.rotr E 11 : Nat) : Int) ((Sha.rotr E 25 : Nat) : Int) = ((Sha.b1 E : Nat) : Int) := u32_xor_nat _ _ (Sha.xor_lt (Sha.rotr_lt _ hE) (Sha.rotr_lt _ hE)) (Sha.rotr_lt _ hE)
        have g3 := u32_xor_nat (Sha.rotr A 2) (Sha.rotr A 13) (Sha.rotr_lt _ hA) (Sha.rotr_lt _ hA)
        have g4 : bits .xor .u32 ((Sha.rotr A 2 ^^^ Sha.rotr A 13 : Nat) : Int) ((Sha.rotr A 22 : Nat) : Int) = ((Sha.b0 A : Nat) : Int) := u32_xor_nat _ _ (Sha.xor_lt (Sha.rotr_lt _ hA) (Sha.rotr_lt _ hA)) (Sha.rotr_lt _ hA)
        have i0 : (k : Int) < 64 := by omega
        have i1 : (0 : Int) ≤ (k : Int) := by omega
        go_wp2_with fail
        refine (right_any E 6 _ hE (by decide) (by decide)).mono ?_
        rintro e w' ⟨rfl, rfl⟩
        go_wp2_with fail
        refine (right_any E 11 _ hE (by decide) (by decide)).mono ?_
        rintro e w' ⟨rfl, rfl⟩
        go_wp2_with fail
        refine (right_any E 25 _ hE (by decide) (by decide)).mono ?_
        rintro e w' ⟨rfl, rfl⟩
        go_wp2_with fail
        refine (right_any A 2 _ hA (by decide) (by decide)).mono ?_
        rintro e w' ⟨rfl, rfl⟩
        go_wp2_with fail
        refine (right_any A 13 _ hA (by decide) (by decide)).mono ?_
        rintro e w' ⟨rfl, rfl⟩
        go_wp2_with fail
        refine (right_any A 22 _ hA (by decide) (by decide)).mono ?_
        rintro e w' ⟨rfl, rfl⟩
        go_wp2_with fail
        clear g1 g2 g3 g4
        have l1 := Sha.b1_lt hE
        have l2 := Sha.ch_lt (e := E) (g := G) hF
        obtain ⟨u1, e1⟩ : ∃ t, (Z + Sha.b1 E) % 4294967296 = t := ⟨_, rfl⟩
        obtain ⟨u2, e2⟩ : ∃ t, (u1 + Sha.ch E F G) % 4294967296 = t := ⟨_, rfl⟩
        obtain ⟨u3, e3⟩ : ∃ t, (u2 + N) % 4294967296 = t := ⟨_, rfl⟩
        obtain ⟨u4, e4⟩ : ∃ t, (u3 + W) % 4294967296 = t := ⟨_, rfl⟩
        have q1 : IntKind.u32.wrap ((Z : Int) + ((Sha.b1 E : Nat) : Int)) = (u1 : Int) := by rw [IntKind.wrap_u32']; omega
        have q2 : IntKind.u32.wrap ((u1 : Int) + ((Sha.ch E F G : Nat) : Int)) = (u2 : Int) := by rw [IntKind.wrap_u32']; omega
        have q3 : IntKind.u32.wrap ((u2 : Int) + (N : Int)) = (u3 : Int) := by rw [IntKind.wrap_u32']; omega
        have q4 : IntKind.u32.wrap ((u3 : Int) + (W : Int)) = (u4 : Int) := by rw [IntKind.wrap_u32']; omega
        have HE1 : Hid (((((Z + Sha.b1 E) % 4294967296 + Sha.ch E F G) % 4294967296 + N) % 4294967296 + W) % 4294967296 = u4) := Lib.hid (by rw [e1, e2, e3, e4])
        clear e1 e2 e3 e4 l1 l2
        go_quiet ((go_at_call 149; exact quiet_mine (choice_any _ _ _ _ hE hF hG)))
        clear q1 q2 q3 q4 ck cw
        have l3 := Sha.b0_lt hA
        have l4 := Sha.maj_lt (a := A) hB hC
        obtain ⟨v1, e1⟩ : ∃ t, (Sha.b0 A + Sha.maj A B C) % 4294967296 = t := ⟨_, rfl⟩
        obtain ⟨x1, e2⟩ : ∃ t, (u4 + v1) % 4294967296 = t := ⟨_, rfl⟩
        obtain ⟨x2, e3⟩ : ∃ t, (D + u4) % 4294967296 = t := ⟨_, rfl⟩
        have q1 : (((Sha.b0 A : Nat) : Int) + ((Sha.maj A B C : Nat) : Int)) % 4294967296 = (v1 : Int) := by omega
        have q2 : ((u4 : Int) + (v1 : Int)) % 4294967296 = (x1 : Int) := by omega
        have q3 : ((D : Int) + (u4 : Int)) % 4294967296 = (x2 : Int) := by omega
        have HE2 : Hid (Sha.rnd N W ⟨A, B, C, D, E, F, G, Z⟩ = ⟨x1, A, B, C, x2, E, F, G⟩) := Lib.hid (by
          unfold Sha.rnd
          simp only
          rw [HE1.out, e1, e2, e3])
        have HQ2 := Lib.hid q2
        have HQ3 := Lib.hid q3
        clear e1 e2 e3 l3 l4
        go_wp2_with (go_at_call 150; refine (majority_any A B C _ hA hB hC).mono ?_; rintro e w' ⟨rfl, rfl⟩)
        go_roundw
        case rel => exact ⟨k + 1, by omega, by go_num, by rw [HN.out, HE2.out]; exact ⟨by first | rfl | exact congrArg (Value.int IntKind.u32) HQ2.out, rfl, rfl, rfl, by first | rfl | exact congrArg (Value.int IntKind.u32) HQ3.out, rfl, rfl, rfl⟩, HF.out.draws _⟩
        case measure => simp [intOf]; omega
      · have e64 : k = 64 := by omega
        have hok := Sha.rnds_ok (K := K) (W := fun i => (Sha.ws blk 48).getD i 0) HS.out k
        have HP : Hid (Sha.plus s (Sha.rnds K (fun i => (Sha.ws blk 48).getD i 0) s 64) = Sha.plus s (Sha.rnds K (fun i => (Sha.ws blk 48).getD i 0) s k)) := Lib.hid (by rw [e64])
        generalize Sha.rnds K (fun i => (Sha.ws blk 48).getD i 0) s k = t at hok HP
        obtain ⟨A, B, C, D, E, F, G, Z⟩ := t
        have t0 := HF.out.text.2 0 (by decide)
        have t1 := HF.out.text.2 1 (by decide)
        have t2 := HF.out.text.2 2 (by decide)
        have t3 := HF.out.text.2 3 (by decide)
        have t4 := HF.out.text.2 4 (by decide)
        have t5 := HF.out.text.2 5 (by decide)
        have t6 := HF.out.text.2 6 (by decide)
        have t7 := HF.out.text.2 7 (by decide)
        simp only [tv] at t0 t1 t2 t3 t4 t5 t6 t7
        obtain ⟨c0, f0⟩ := t0
        obtain ⟨c1, f1⟩ := t1
        obtain ⟨c2, f2⟩ := t2
        obtain ⟨c3, f3⟩ := t3
        obtain ⟨c4, f4⟩ := t4
        obtain ⟨c5, f5⟩ := t5
        obtain ⟨c6, f6⟩ := t6
        obtain ⟨c7, f7⟩ := t7
        have HE := Lib.hid e64
        clear e64 hok
        go_wp2_with fail
        go_region
        go_wp2_with fail
        go_region
        go_wp2_with fail
        go_region
        go_wp2_with fail
        go_region
        go_wp2_with fail
        go_region
        go_wp2_with fail
        go_region
        go_wp2_with fail
        go_region
        go_wp2_with fail
        go_region
        go_wp2
        go_end0
        refine ⟨rfl, ?_, ?_⟩
        · rw [HP.out]
          exact text_plus HF.out.text _
        · exact only_plus HF.out.only
end Go.Proofs.YtbohpffigmllkaaGreatDoor

/-
  add: a text's bytes are read, block by block.
-/
namespace Go.Proofs.YtbohpffigmllkaaGreatDoor
open Go.RowKit

namespace Sha
/-- what was read so far, but for its size -/
structure Tx where
  s : St
  blk : Nat → Nat
  used : Nat
def comp (K : Nat → Nat) (s : St) (blk : Nat → Nat) : St := plus s (rnds K (fun i => (ws blk 48).getD i 0) s 64)
def upd (blk : Nat → Nat) (i c : Nat) : Nat → Nat := fun j => if j = i then c else blk j
def feed (K : Nat → Nat) (x : Tx) (c : UInt8) : Tx :=
  if x.used + 1 = 64 then ⟨comp K x.s (upd x.blk x.used c.toNat), upd x.blk x.used c.toNat, 0⟩ else ⟨x.s, upd x.blk x.used c.toNat, x.used + 1⟩
def feeds (K : Nat → Nat) (x : Tx) (l : List UInt8) : Tx := l.foldl (feed K) x
structure Tx.ok (x : Tx) : Prop where
  s : x.s.ok
  blk : ∀ i, x.blk i < 256
  used : x.used < 64
theorem upd_lt {blk : Nat → Nat} (h : ∀ i, blk i < 256) (i : Nat) (c : UInt8) (j : Nat) : upd blk i c.toNat j < 256 := by
  unfold upd
  split
  · exact c.toNat_lt
  · exact h j
theorem feed_ok {K : Nat → Nat} {x : Tx} (h : x.ok) (c : UInt8) : (feed K x c).ok := by
  unfold feed
  split
  · exact ⟨plus_ok _ _, upd_lt h.blk _ _, show 0 < 64 by decide⟩
  · rename_i hn
    exact ⟨h.s, upd_lt h.blk _ _, by have := h.used; show x.used + 1 < 64; omega⟩
theorem feeds_ok {K : Nat → Nat} {x : Tx} (h : x.ok) (l : List UInt8) : (feeds K x l).ok := by
  induction l generalizing x with
  | nil => exact h
  | cons c l ih => exact ih (feed_ok h c)
theorem feeds_append (K : Nat → Nat) (x : Tx) (l m : List UInt8) : feeds K x (l ++ m) = feeds K (feeds K x l) m := by simp [feeds]
/-- bytes put into the block from i on -/
def put (blk : Nat → Nat) (i : Nat) (l : List UInt8) : Nat → Nat := fun j => if i ≤ j ∧ j < i + l.length then (l.getD (j - i) 0).toNat else blk j
theorem put_cons (blk : Nat → Nat) (i : Nat) (c : UInt8) (l : List UInt8) : put blk i (c :: l) = put (upd blk i c.toNat) (i + 1) l := by
  funext j
  unfold put upd
  by_cases h0 : j = i
  · subst h0
    rw [if_pos (by simp), if_neg (by omega), if_pos rfl, Nat.sub_self]
    rfl
  · by_cases h1 : i + 1 ≤ j ∧ j < i + 1 + l.length
    · rw [if_pos (by simp; omega), if_pos h1, show j - i = (j - (i + 1)) + 1 by omega]
      rfl
    · rw [if_neg (by simp; omega), if_neg h1, if_neg h0]
theorem feeds_less (K : Nat → Nat) (l : List UInt8) (x : Tx) (h : x.used + l.length < 64) : feeds K x l = ⟨x.s, put x.blk x.used l, x.used + l.length⟩ := by
  induction l generalizing x with
  | nil =>
    obtain ⟨s, blk, used⟩ := x
    simp only [feeds, List.foldl_nil, List.length_nil, Nat.add_zero]
    congr 1
    funext j
    unfold put
    rw [if_neg (by simp)]
  | cons c l ih =>
    have e : feed K x c = ⟨x.s, upd x.blk x.used c.toNat, x.used + 1⟩ := by
      unfold feed
      rw [if_neg (by simp at h; omega)]
    show feeds K (feed K x c) l = _
    rw [e, ih _ (by simp at h ⊢; omega), put_cons]
    simp only [List.length_cons]
    congr 1
    omega
theorem feeds_full (K : Nat → Nat) (l : List UInt8) (x : Tx) (hl : l ≠ []) (h : x.used + l.length = 64) : feeds K x l = ⟨comp K x.s (put x.blk x.used l), put x.blk x.used l, 0⟩ := by
  induction l generalizing x with
  | nil => exact absurd rfl hl
  | cons c l ih =>
    show feeds K (feed K x c) l = _
    by_cases hn : l = []
    · subst hn
      have e : feed K x c = ⟨comp K x.s (upd x.blk x.used c.toNat), upd x.blk x.used c.toNat, 0⟩ := by
        unfold feed
        rw [if_pos (by simpa using h)]
      have p : put x.blk x.used [c] = upd x.blk x.used c.toNat := by
        rw [put_cons]
        funext j
        unfold put
        rw [if_neg (by simp)]
      rw [e, p]
      rfl
    · have hlen : 0 < l.length := List.length_pos_iff.mpr hn
      have e : feed K x c = ⟨x.s, upd x.blk x.used c.toNat, x.used + 1⟩ := by
        unfold feed
        rw [if_neg (by simp at h; omega)]
      rw [e, ih _ hn (by simp at h ⊢; omega), put_cons]
end Sha

theorem Cells.splice {b n : Nat} {f : Nat → Value} {w : World} (h : Cells b n f w) (o : Nat) (l : List Value) (hl : o + l.length ≤ n) : Cells b n (fun j => if o ≤ j ∧ j < o + l.length then l.getD (j - o) .nilIface else f j) (w.setCells b o l) := by
  induction l generalizing w o f with
  | nil => exact h.congr fun j _ => by rw [if_neg (by simp)]
  | cons v l ih =>
    have h1 : Cells b n (fun j => if j = o then v else f j) (w.setCell ⟨b, o, none⟩ v) := h.set o v (by simp at hl; omega) (by simp) fun j _ hj => by simp [hj]
    refine (ih h1 (o + 1) (by simp at hl ⊢; omega)).congr fun j hj => ?_
    by_cases h0 : j = o
    · subst h0
      rw [if_neg (by omega), if_pos rfl, if_pos (by simp), Nat.sub_self]
      rfl
    · by_cases h2 : o + 1 ≤ j ∧ j < o + 1 + l.length
      · rw [if_pos h2, if_pos (by simp; omega), show j - o = (j - (o + 1)) + 1 by omega]
        rfl
      · rw [if_neg h2, if_neg h0, if_neg (by simp; omega)]

theorem tv_used (s : Sha.St) (blk : Nat → Nat) (used size used' : Nat) (j : Nat) (h : j ≠ 72) : tv s blk used size j = tv s blk used' size j := by
  unfold tv
  split <;> first | rfl | (exact absurd rfl h)
theorem tv_size (s : Sha.St) (blk : Nat → Nat) (used size size' : Nat) (j : Nat) (h : j ≠ 73) : tv s blk used size j = tv s blk used size' j := by
  unfold tv
  split <;> first | rfl | (exact absurd rfl h)
theorem text_used {b : Nat} {s : Sha.St} {blk : Nat → Nat} {used size : Nat} {w : World} (h : TextIs b s blk used size w) (u : Nat) : TextIs b s blk u size (w.setCell ⟨b, 72, none⟩ (.int .i64 u)) :=
  h.set 72 _ (by decide) rfl fun j _ hj => tv_used _ _ _ _ _ _ hj
theorem text_size {b : Nat} {s : Sha.St} {blk : Nat → Nat} {used size : Nat} {w : World} (h : TextIs b s blk used size w) (u : Nat) : TextIs b s blk used u (w.setCell ⟨b, 73, none⟩ (.int .u64 u)) :=
  h.set 73 _ (by decide) rfl fun j _ hj => tv_size _ _ _ _ _ _ hj
def bytesOf (l : List UInt8) : List Value := l.map fun x => Value.int .u8 (x.toNat : Int)
theorem tv_at (s : Sha.St) (blk : Nat → Nat) (used size j : Nat) (h8 : 8 ≤ j) (h72 : j < 72) : tv s blk used size j = .int .u8 (blk (j - 8)) := by
  have := tv_blk s blk used size (j - 8) (by omega)
  rwa [show 8 + (j - 8) = j by omega] at this
theorem tv_out (s : Sha.St) (blk blk' : Nat → Nat) (used size j : Nat) (h : j < 8 ∨ 72 ≤ j) (h74 : j < 74) : tv s blk used size j = tv s blk' used size j := by
  rcases (by omega : j = 0 ∨ j = 1 ∨ j = 2 ∨ j = 3 ∨ j = 4 ∨ j = 5 ∨ j = 6 ∨ j = 7 ∨ j = 72 ∨ j = 73) with rfl | rfl | rfl | rfl | rfl | rfl | rfl | rfl | rfl | rfl <;> rfl
theorem text_put {b : Nat} {s : Sha.St} {blk : Nat → Nat} {used size : Nat} {w : World} (h : TextIs b s blk used size w) (i : Nat) (l : List UInt8) (hl : i + l.length ≤ 64) : TextIs b s (Sha.put blk i l) used size (w.setCells b (8 + i) (bytesOf l)) := by
  have hb : (bytesOf l).length = l.length := by simp [bytesOf]
  refine (Cells.splice h (8 + i) (bytesOf l) (by rw [hb]; omega)).congr fun j hj => ?_
  rw [hb]
  by_cases hin : 8 + i ≤ j ∧ j < 8 + i + l.length
  · rw [if_pos hin, tv_at _ _ _ _ _ (by omega) (by omega)]
    unfold Sha.put bytesOf
    rw [if_pos (by omega), show j - 8 - i = j - (8 + i) by omega]
    rw [List.getD_eq_getElem?_getD, List.getD_eq_getElem?_getD, List.getElem?_map, List.getElem?_eq_getElem (by omega)]
    rfl
  · rw [if_neg hin]
    by_cases h8 : 8 ≤ j ∧ j < 72
    · rw [tv_at _ _ _ _ _ h8.1 h8.2, tv_at _ _ _ _ _ h8.1 h8.2]
      unfold Sha.put
      rw [if_neg (by omega)]
    · exact tv_out _ _ _ _ _ _ (by omega) hj
theorem run_copy_str {P : Program} (w : World) (dT sT ty elem : TypeId) (b o dLen dCap n : Nat) (t : ByteArray) (hn : min t.size dLen = n)
    (hu : P.underlying dT = some (.slice elem)) (hz : ∀ w, (Go.sizeOf elem).run P w = .ok 1 w)
    (hc : ∀ j, j < n → (w.cell? ⟨b, o + j, none⟩).isSome = true) (hf : ∀ j, j < n → w.frozen? ⟨b, o + j, none⟩ = false) :
    (Builtin.copy_ #[dT, sT] ty #[.slice (some ⟨b, o, none⟩) dLen dCap, .string t]).run P w = .ok (.int .i64 n) (w.setCells b o (bytesOf (t.data.toList.take n))) := by
  have hl : (bytesOf (t.data.toList.take n)).length = n := by
    have : t.data.toList.length = t.size := by simp
    unfold bytesOf
    rw [List.length_map, List.length_take, this]
    omega
  have hst := run_storeCells_cells (P := P) b o (bytesOf (t.data.toList.take n)) 0 w (by rw [hl]; simpa using hc) (by rw [hl]; simpa using hf) (by
    intro v hv
    obtain ⟨x, _, rfl⟩ := List.mem_map.1 hv
    rfl)
  have hmin : Nat.min t.size dLen = n := hn
  simp [Builtin.copy_, run_underlying hu, Builtin.lenOf, Builtin.firstCells, hz, hmin]
  rw [show (List.take n (List.map (fun b => Value.int IntKind.u8 (b.toNat : Int)) t.data.toList)) = bytesOf (t.data.toList.take n) by unfold bytesOf; rw [List.map_take], hst]
  rfl
end Go.Proofs.YtbohpffigmllkaaGreatDoor

/-
  add: the contract.
-/
namespace Go.Proofs.YtbohpffigmllkaaGreatDoor
open Go.RowKit

def M64 : Nat := 18446744073709551616
structure AddAt (b : Nat) (K : Nat → Nat) (x : Sha.Tx) (size : Nat) (w wx : World) : Prop where
  text : TextIs b x.s x.blk x.used size wx
  table : Table K wx
  only : Only b w wx

theorem wrap_size (size n : Nat) : IntKind.u64.wrap ((size : Int) + (n : Int)) = (((size + n) % M64 : Nat) : Int) := by
  rw [IntKind.wrap_u64]
  unfold M64
  omega
theorem add_start {b : Nat} {K : Nat → Nat} {x : Sha.Tx} {size n : Nat} {w : World} (h : TextIs b x.s x.blk x.used size w) (hT : Table K w) (hb : 1 < b) :
    AddAt b K x ((size + n) % M64) w (w.setCell ⟨b, 73, none⟩ (.int .u64 (IntKind.u64.wrap ((size : Int) + (n : Int))))) := by
  rw [wrap_size]
  have ho : Only b w (w.setCell ⟨b, 73, none⟩ (.int .u64 (((size + n) % M64 : Nat) : Int))) := (Only.refl b w).set _ (.inl rfl)
  exact ⟨text_size h _, hT.only ho (by omega), ho⟩
def strLen : Value → Nat
  | .string t => t.size
  | _ => 0
theorem slice_from (b u : Nat) (hu : u < 64) : ∀ w : World,
    (Instr.sliceAt 106 (.pointer (some ⟨b, 8, none⟩)) (some (.int .i64 (u : Int))) none none).run Tryz.prog w = .ok (.slice (some ⟨b, 8 + u, none⟩) (64 - u) (64 - u)) w := by
  intro w
  have e1 : Tryz.prog.arrayLen 106 = 64 := by kernel_rfl
  have e2 : Tryz.prog.elem 106 = 5 := by kernel_rfl
  have e3 : (sizeOf 5).run Tryz.prog w = .ok 1 w := by kernel_rfl
  have h := run_sliceAt_array_l (P := Tryz.prog) w 106 ⟨b, 8, none⟩ (by rw [e1, e2]; exact Tryz.underlying106) .i64 (u : Int) (by omega) (by rw [e1]; omega)
  rw [h, e1, e2, e3]
  simp only [Result.andThen_ok, slicedAt, Int.toNat_natCast]
  rw [if_neg (by omega), Nat.mul_one, Addr.add_mid]
theorem copy_block {b : Nat} {s : Sha.St} {blk : Nat → Nat} {used size : Nat} {w : World} (h : TextIs b s blk used size w) (t : ByteArray) (n : Nat) (hn : min t.size (64 - used) = n) (hu : used < 64) :
    (Builtin.copy_ #[81, 9] 3 #[.slice (some ⟨b, 8 + used, none⟩) (64 - used) (64 - used), .string t]).run Tryz.prog w.drew = .ok (.int .i64 n) (w.drew.setCells b (8 + used) (bytesOf (t.data.toList.take n))) := by
  have hth := Cells.there h (8 + used) n (by omega)
  exact run_copy_str w.drew _ _ _ 5 b (8 + used) (64 - used) (64 - used) n t hn Tryz.underlying81 (fun w => by kernel_rfl) (fun j hj => (hth j hj).1) (fun j hj => (hth j hj).2)

theorem tail_len (t : ByteArray) (n : Nat) (h : n ≤ t.size) : (t.extract n t.size).size = t.size - n := by
  rw [ByteArray.size_extract]
  omega
theorem tail_feeds (K : Nat → Nat) (y : Sha.Tx) (t : ByteArray) (n : Nat) (x : Sha.Tx) (s : ByteArray) (h : Sha.feeds K y t.data.toList = Sha.feeds K x s.data.toList) :
    Sha.feeds K (Sha.feeds K y (t.data.toList.take n)) (t.extract n t.size).data.toList = Sha.feeds K x s.data.toList := by
  rw [← h, ← Sha.feeds_append]
  congr 1
  rw [ByteArray.data_extract, Array.toList_extract, List.extract_eq_take_drop, List.take_of_length_le (l := List.drop n t.data.toList) (by simp), List.take_append_drop]
theorem add_put {b : Nat} {K : Nat → Nat} {y : Sha.Tx} {S U : Nat} {w wr : World} (h : AddAt b K y S w wr) (hU : y.used = U) (hu : U < 64) (t : ByteArray) (n : Nat) (hn : min t.size (64 - y.used) = n) (hb : 1 < b) :
    AddAt b K ⟨y.s, Sha.put y.blk U (t.data.toList.take n), U⟩ S w (wr.drew.setCells b (8 + U) (bytesOf (t.data.toList.take n))) := by
  subst hU
  have hl : (t.data.toList.take n).length ≤ n := List.length_take_le _ _
  have ho : Only b w (wr.drew.setCells b (8 + y.used) (bytesOf (t.data.toList.take n))) := h.only.drew.row _ (.inl rfl)
  have ho2 : Only b wr (wr.drew.setCells b (8 + y.used) (bytesOf (t.data.toList.take n))) := (Only.refl b wr).drew.row _ (.inl rfl)
  exact ⟨text_put h.text.drew y.used _ (by omega), h.table.only ho2 (by omega), ho⟩
theorem add_used {b : Nat} {K : Nat → Nat} {y : Sha.Tx} {S : Nat} {w wr : World} (h : AddAt b K y S w wr) (u : Nat) (v : Int) (e : v = (u : Int)) (hb : 1 < b) :
    AddAt b K ⟨y.s, y.blk, u⟩ S w (wr.setCell ⟨b, 72, none⟩ (.int .i64 v)) := by
  subst e
  have ho : Only b wr (wr.setCell ⟨b, 72, none⟩ (.int .i64 (u : Int))) := (Only.refl b wr).set _ (.inl rfl)
  exact ⟨text_used h.text u, h.table.only ho (by omega), h.only.trans ho⟩

theorem put_lt {blk : Nat → Nat} (h : ∀ i, blk i < 256) (u : Nat) (l : List UInt8) (i : Nat) : Sha.put blk u l i < 256 := by
  unfold Sha.put
  split
  · exact UInt8.toNat_lt _
  · exact h i
theorem end_feeds (K : Nat → Nat) (y : Sha.Tx) (t : ByteArray) (x : Sha.Tx) (s : ByteArray) (h : Sha.feeds K y t.data.toList = Sha.feeds K x s.data.toList) (hz : t.size = 0) : y = Sha.feeds K x s.data.toList := by
  have e : t.data.toList = [] := List.eq_nil_of_length_eq_zero (by simpa using hz)
  rw [← h, e]
  rfl
theorem add_zero {b : Nat} {K : Nat → Nat} {y : Sha.Tx} {S : Nat} {w wr : World} (h : AddAt b K y S w wr) (hb : 1 < b) : AddAt b K ⟨y.s, y.blk, 0⟩ S w (wr.setCell ⟨b, 72, none⟩ (.int .i64 0)) :=
  add_used h 0 0 rfl hb

set_option maxRecDepth 100000 in
set_option maxHeartbeats 2000000 in
theorem add_any (b : Nat) (K : Nat → Nat) (x : Sha.Tx) (size : Nat) (s : ByteArray) (w : World) (hx : x.ok) (hK : ∀ i, K i < 4294967296) (hb1 : 1 < b) (h : TextIs b x.s x.blk x.used size w) (hT : Table K w) (hs : s.size ≤ maxLen) :
    Calls Tryz.prog 93 #[.pointer (some ⟨b, 0, none⟩), .string s] w fun r w' => r = .returned (.tuple #[]) ∧ AddAt b K (Sha.feeds K x s.data.toList) ((size + s.size) % M64) w w' := by
  have HT := Lib.hid h
  have HX := Lib.hid hx
  have HK := Lib.hid hK
  have HTb := Lib.hid hT
  have c73 := (h.2 73 (by decide))
  simp only [tv] at c73
  obtain ⟨c73, f73⟩ := c73
  clear h hx hK hT
  unfold maxLen at hs
  go_enter Tryz.func93, Tryz.ntmps93
  go_upto_region 0 with fail
  go_cut [1] (fun p wx => p = .string s ∧ AddAt b K x ((size + s.size) % M64) w wx)
  case first =>
    go_wp2_with fail
    go_meet
    exact ⟨rfl, add_start HT.out HTb.out hb1⟩
  case rest =>
    obtain ⟨rfl, hF⟩ := hcut
    clear c73 f73 HT HTb
    obtain ⟨S, hS⟩ : ∃ S, (size + s.size) % M64 = S := ⟨_, rfl⟩
    have HS := Lib.hid hS
    rw [hS] at hF
    clear hS
    go_wp2_with fail
    go_loopw [1] (fun v wr => ∃ (t : ByteArray) (y : Sha.Tx), v = .string t ∧ y.ok ∧ Hid (Sha.feeds K y t.data.toList = Sha.feeds K x s.data.toList) ∧ t.size ≤ s.size ∧ AddAt b K y S w wr) (fun v _ => strLen v)
    case atStart => exact ⟨s, x, rfl, HX.out, Lib.hid rfl, by omega, hF⟩
    case round =>
      clear hF
      obtain ⟨t, y, rfl, hy, HE, hts, hF⟩ := hrel
      have HF := Lib.hid hF
      have HY := Lib.hid hy
      have hu := hy.used
      have c72 := hF.text.2 72 (by decide)
      simp only [tv] at c72
      obtain ⟨c72, f72⟩ := c72
      clear hF hy
      by_cases hz : t.size = 0
      · have hz1 : ¬ (0 : Int) < (t.size : Int) := by omega
        have HZ := Lib.hid (end_feeds K y t x s HE.out hz)
        clear hz
        go_wp2
        go_end0
        exact ⟨rfl, by rw [← HZ.out, HS.out]; exact HF.out⟩
      · obtain ⟨n, hn⟩ : ∃ n, min t.size (64 - y.used) = n := ⟨_, rfl⟩
        have n1 : 1 ≤ n := by omega
        have n2 : y.used + n ≤ 64 := by omega
        have n3 : n ≤ t.size := by omega
        have hsl := slice_from b y.used hu
        have hcp := copy_block HF.out.text t n hn hu
        have hz1 : (0 : Int) < (t.size : Int) := by omega
        have HN := Lib.hid hn
        clear hn
        obtain ⟨U, hU⟩ : ∃ U, y.used = U := ⟨_, rfl⟩
        rw [hU] at c72 hu n2 hsl hcp
        have HU := Lib.hid hU
        clear hU
        go_wp2_with fail
        go_region
        clear hsl hcp c72 f72
        obtain ⟨W2, hW2⟩ : ∃ W2, wr.drew.setCells b (8 + U) (bytesOf (List.take n t.data.toList)) = W2 := ⟨_, rfl⟩
        have hF2 := add_put HF.out HU.out hu t n HN.out hb1
        rw [hW2] at hF2 ⊢
        clear hW2 HF
        obtain ⟨B2, hB2⟩ : ∃ B, Sha.put y.blk U (t.data.toList.take n) = B := ⟨_, rfl⟩
        rw [hB2] at hF2
        have HB2 := Lib.hid hB2
        clear hB2
        have HF2 := Lib.hid hF2
        have c72 := hF2.text.2 72 (by decide)
        simp only [tv] at c72
        obtain ⟨c72, f72⟩ := c72
        clear hF2
        have tl := tail_len t n n3
        have HTl := Lib.hid (tail_feeds K y t n x s HE.out)
        have hF3 := add_used HF2.out (U + n) ((U : Int) + (n : Int)) (by omega) hb1
        have HF3 := Lib.hid hF3
        clear hF3
        have hlen : (t.data.toList.take n).length = n := by simp; omega
        by_cases hfull : U + n = 64
        · have q : ((U : Int) + (n : Int) == 64) = true := by simp; omega
          have hy' : Sha.feeds K y (t.data.toList.take n) = ⟨Sha.comp K y.s B2, B2, 0⟩ := by
            rw [Sha.feeds_full K _ y (by intro e; rw [e] at hlen; simp at hlen; omega) (by rw [hlen, HU.out]; omega), HU.out, HB2.out]
          have HY2 := Lib.hid hy'
          have hb2 : ∀ i, B2 i < 256 := fun i => by rw [← HB2.out]; exact put_lt HY.out.blk _ _ i
          have Hb2 := Lib.hid hb2
          clear hy' hlen hb2
          go_wp2_with fail
          refine (mix_any b y.s B2 (U + n) S K _ Hb2.out HY.out.s HK.out hb1 HF3.out.text HF3.out.table).mono ?_
          rintro e w4 ⟨rfl, hT4, hO4⟩
          have c74 := hT4.2 72 (by decide)
          simp only [tv] at c74
          obtain ⟨c74, f74⟩ := c74
          have HT4 := Lib.hid hT4
          have HO4 := Lib.hid hO4
          clear hT4 hO4
          go_wp2
          go_roundw
          case rel => exact ⟨_, ⟨Sha.comp K y.s B2, B2, 0⟩, rfl, by rw [← HY2.out]; exact Sha.feeds_ok HY.out _, Lib.hid (by rw [← HY2.out]; exact HTl.out), by omega, add_zero (y := ⟨Sha.comp K y.s B2, B2, U + n⟩) ⟨HT4.out, HF3.out.table.only HO4.out (by omega), HF3.out.only.trans HO4.out⟩ hb1⟩
          case measure => simp [strLen]; omega
        · have q : ((U : Int) + (n : Int) == 64) = false := by simp; omega
          have hy' : Sha.feeds K y (t.data.toList.take n) = ⟨y.s, B2, U + n⟩ := by
            rw [Sha.feeds_less K _ y (by rw [hlen, HU.out]; omega), HU.out, HB2.out, hlen]
          have HY2 := Lib.hid hy'
          clear hy' hlen
          go_wp2
          go_roundw
          case rel => exact ⟨_, ⟨y.s, B2, U + n⟩, rfl, by rw [← HY2.out]; exact Sha.feeds_ok HY.out _, Lib.hid (by rw [← HY2.out]; exact HTl.out), by omega, HF3.out⟩
          case measure => simp [strLen]; omega
end Go.Proofs.YtbohpffigmllkaaGreatDoor

/-
  end: the padding, the number of bits, the last block, and the words as bytes.
-/
namespace Go.Proofs.YtbohpffigmllkaaGreatDoor
open Go.RowKit

namespace Sha
def St.get (s : St) : Nat → Nat
  | 0 => s.a | 1 => s.b | 2 => s.c | 3 => s.d | 4 => s.e | 5 => s.f | 6 => s.g | _ => s.z
/-- byte j of a sum's 32 -/
def dg (s : St) (j : Nat) : Nat := s.get (j / 4) / 2 ^ (24 - 8 * (j % 4)) % 256
/-- the number of bits as eight bytes -/
def bitsOf (n : Nat) : List UInt8 := (List.range 8).map fun i => UInt8.ofNat (n / 2 ^ (56 - 8 * i) % 256)
def pads (K : Nat → Nat) (x : Tx) : Tx := feeds K x (List.replicate ((120 - x.used) % 64) 0)
def fin (K : Nat → Nat) (x : Tx) (bits : Nat) : St := comp K x.s (put x.blk 56 (bitsOf bits))
theorem pads_step (K : Nat → Nat) (x : Tx) (h : x.used < 64) (hn : x.used ≠ 56) : pads K (feed K x 0) = pads K x := by
  unfold pads
  have hu : (feed K x 0).used = if x.used + 1 = 64 then 0 else x.used + 1 := by
    unfold feed
    split <;> rfl
  have e : (120 - x.used) % 64 = (120 - (feed K x 0).used) % 64 + 1 := by
    rw [hu]
    split <;> omega
  rw [e, List.replicate_succ]
  rfl
theorem pads_done (K : Nat → Nat) (x : Tx) (h : x.used = 56) : pads K x = x := by
  unfold pads
  rw [h]
  rfl
theorem get_lt {s : St} (h : s.ok) (k : Nat) : s.get k < 4294967296 := by
  obtain ⟨ha, hb, hc, hd, he, hf, hg, hz⟩ := h
  unfold St.get
  split <;> assumption
end Sha

def usedOf (b : Nat) (w : World) : Nat :=
  match w.cell? ⟨b, 72, none⟩ with
  | some (.int _ u) => (120 - u.toNat) % 64
  | _ => 0
def lit32 : Array Value := #[.int .u8 0, .int .u8 0, .int .u8 0, .int .u8 0, .int .u8 0, .int .u8 0, .int .u8 0, .int .u8 0, .int .u8 0, .int .u8 0, .int .u8 0, .int .u8 0, .int .u8 0, .int .u8 0, .int .u8 0, .int .u8 0, .int .u8 0, .int .u8 0, .int .u8 0, .int .u8 0, .int .u8 0, .int .u8 0, .int .u8 0, .int .u8 0, .int .u8 0, .int .u8 0, .int .u8 0, .int .u8 0, .int .u8 0, .int .u8 0, .int .u8 0, .int .u8 0]
theorem lit32_at (j : Nat) (h : j < 32) : lit32[j]? = some (.int .u8 0) := by
  have e : lit32 = Array.replicate 32 (.int .u8 0) := by kernel_rfl
  rw [e]
  simp [h]
/-- where end stands: the result's block and the text -/
structure EndAt (b R : Nat) (K : Nat → Nat) (x : Sha.Tx) (size : Nat) (w wx : World) : Prop where
  text : TextIs b x.s x.blk x.used size wx
  table : Table K wx
  res : Cells R 32 (fun _ => .int .u8 0) wx
  only : Only b w wx

theorem end_add {b R : Nat} {K : Nat → Nat} {x y : Sha.Tx} {size size' : Nat} {w wx wy : World} (h : EndAt b R K x size w wx) (k : AddAt b K y size' wx wy) (hR : R ≠ b) : EndAt b R K y size' w wy :=
  ⟨k.text, k.table, k.only.cells h.res hR, h.only.trans k.only⟩
theorem usedOf_eq {b : Nat} {s : Sha.St} {blk : Nat → Nat} {used size : Nat} {w : World} (h : TextIs b s blk used size w) : usedOf b w = (120 - used) % 64 := by
  have c := (h.2 72 (by decide)).1
  simp only [tv] at c
  unfold usedOf
  rw [c]
  simp
theorem used_less {b : Nat} {K : Nat → Nat} {y : Sha.Tx} {z z' : Nat} {w w' : World} (h : TextIs b y.s y.blk y.used z w) (k : TextIs b (Sha.feed K y 0).s (Sha.feed K y 0).blk (Sha.feed K y 0).used z' w') (hy : y.ok) (hn : y.used ≠ 56) : usedOf b w' < usedOf b w := by
  rw [usedOf_eq h, usedOf_eq k]
  have hu : (Sha.feed K y 0).used = if y.used + 1 = 64 then 0 else y.used + 1 := by
    unfold Sha.feed
    split <;> rfl
  have := hy.used
  rw [hu]
  split <;> omega

theorem put_none (blk : Nat → Nat) (i : Nat) (l : List UInt8) : Sha.put blk i (l.take 0) = blk := by
  funext j
  unfold Sha.put
  rw [if_neg (by simp)]

theorem Table.drew {K : Nat → Nat} {w : World} (h : Table K w) : Table K w.drew := h
theorem put_snoc (blk : Nat → Nat) (i k : Nat) (l : List UInt8) (hk : k < l.length) : Sha.put blk i (l.take (k + 1)) = Sha.upd (Sha.put blk i (l.take k)) (i + k) (l.getD k 0).toNat := by
  funext j
  unfold Sha.put Sha.upd
  have l1 : (l.take (k + 1)).length = k + 1 := by simp; omega
  have l2 : (l.take k).length = k := by simp; omega
  rw [l1, l2]
  by_cases e : j = i + k
  · subst e
    rw [if_pos (by omega), if_pos rfl, Nat.add_sub_cancel_left, List.getD_eq_getElem?_getD, List.getElem?_take_of_lt (by omega), ← List.getD_eq_getElem?_getD]
  · rw [if_neg e]
    show _ = (if i ≤ j ∧ j < i + k then ((List.take k l).getD (j - i) 0).toNat else blk j)
    by_cases h : i ≤ j ∧ j < i + k
    · rw [if_pos (by omega), if_pos h, List.getD_eq_getElem?_getD, List.getElem?_take_of_lt (by omega), List.getD_eq_getElem?_getD, List.getElem?_take_of_lt (by omega)]
    · rw [if_neg (by omega), if_neg h]
theorem bits_at (C k : Nat) (hk : k < 8) : ((Sha.bitsOf C).getD k 0).toNat = C / 2 ^ (56 - 8 * k) % 256 := by
  unfold Sha.bitsOf
  rw [List.getD_eq_getElem?_getD, List.getElem?_map, List.getElem?_range hk]
  show (UInt8.ofNat _).toNat = _
  rw [UInt8.toNat_ofNat']
  exact Nat.mod_mod _ _
theorem text_upd {b : Nat} {s : Sha.St} {blk : Nat → Nat} {used size : Nat} {w : World} (h : TextIs b s blk used size w) (i c : Nat) (hi : i < 64) : TextIs b s (Sha.upd blk i c) used size (w.setCell ⟨b, 8 + i, none⟩ (.int .u8 c)) := by
  refine h.set (8 + i) _ (by omega) ?_ fun j hj hne => ?_
  · rw [tv_blk _ _ _ _ _ hi]
    unfold Sha.upd
    rw [if_pos rfl]
  · by_cases h8 : 8 ≤ j ∧ j < 72
    · rw [tv_at _ _ _ _ _ h8.1 h8.2, tv_at _ _ _ _ _ h8.1 h8.2]
      unfold Sha.upd
      rw [if_neg (by omega)]
    · exact tv_out _ _ _ _ _ _ (by omega) hj
theorem end_bit {b R : Nat} {K : Nat → Nat} {s : Sha.St} {blk : Nat → Nat} {u z C k ix sh : Nat} {w wx : World} (h : EndAt b R K ⟨s, Sha.put blk 56 ((Sha.bitsOf C).take k), u⟩ z w wx) (hk : k < 8) (hix : 56 + k = ix) (hsh : 56 - 8 * k = sh) (hb : 1 < b) (hR : R ≠ b) :
    EndAt b R K ⟨s, Sha.put blk 56 ((Sha.bitsOf C).take (k + 1)), u⟩ z w (wx.setCell ⟨b, 8 + ix, none⟩ (.int .u8 ((C : Int) / 2 ^ sh % 256))).drew := by
  have e : (C : Int) / 2 ^ sh % 256 = ((C / 2 ^ sh % 256 : Nat) : Int) := by simp
  subst hix hsh
  rw [e, put_snoc _ _ _ _ (by simp [Sha.bitsOf]; omega), bits_at C k hk]
  have ho : Only b wx (wx.setCell ⟨b, 8 + (56 + k), none⟩ (.int .u8 ((C / 2 ^ (56 - 8 * k) % 256 : Nat) : Int))) := (Only.refl b wx).set _ (.inl rfl)
  exact ⟨(text_upd h.text (56 + k) _ (by omega)).drew, (h.table.only ho (by omega)).drew, (h.res.far _ hR).drew, (h.only.trans ho).drew⟩
def wordsOf (s : Sha.St) : List Value := [.int .u32 s.a, .int .u32 s.b, .int .u32 s.c, .int .u32 s.d, .int .u32 s.e, .int .u32 s.f, .int .u32 s.g, .int .u32 s.z]
theorem text_words {b : Nat} {s : Sha.St} {blk : Nat → Nat} {used size : Nat} {w : World} (h : TextIs b s blk used size w) : w.rangeAt b 0 (wordsOf s) :=
  Cells.range h 0 _ fun j v hv => by
    have hj : j < 8 := (List.getElem?_eq_some_iff.mp hv).1
    rw [Nat.zero_add]
    refine ⟨by omega, ?_⟩
    rcases (by omega : j = 0 ∨ j = 1 ∨ j = 2 ∨ j = 3 ∨ j = 4 ∨ j = 5 ∨ j = 6 ∨ j = 7) with rfl | rfl | rfl | rfl | rfl | rfl | rfl | rfl <;> exact Option.some.inj hv
/-- the sum's bytes so far -/
def dv (s : Sha.St) (k j : Nat) : Value := if j < k then .int .u8 (Sha.dg s j : Nat) else .int .u8 0
structure EndS (R S b : Nat) (F : Sha.St) (k : Nat) (w wx : World) : Prop where
  words : wx.rangeAt b 0 (wordsOf F)
  res : Cells R 32 (fun _ => .int .u8 0) wx
  row : Cells S 32 (dv F k) wx
  only : Only b w wx
theorem end_alloc {R b : Nat} {F : Sha.St} {w wx : World} (h : Cells R 32 (fun _ => .int .u8 0) wx) (ho : Only b w wx) (hw : wx.rangeAt b 0 (wordsOf F)) : EndS R wx.heap.size b F 0 w (wx.alloc (.cells lit32 51)) :=
  ⟨World.rangeAt_alloc hw _, h.alloc _, (Cells.new wx 32 _ _ _ lit32_at).congr fun j _ => by unfold dv; rw [if_neg (by omega)], ho.alloc _⟩

theorem index_words (F : Sha.St) (k : Nat) (hk : k < 8) : ∀ w : World, (Instr.index 124 (.agg (wordsOf F).toArray) (.int .i64 k)).run Tryz.prog w = .ok (.int .u32 (F.get k)) w := by
  intro w
  rcases (by omega : k = 0 ∨ k = 1 ∨ k = 2 ∨ k = 3 ∨ k = 4 ∨ k = 5 ∨ k = 6 ∨ k = 7) with rfl | rfl | rfl | rfl | rfl | rfl | rfl | rfl <;> kernel_rfl

theorem row_mem32 {f : Nat → Value} {L : List Value} (e : (List.range 32).map f = L) (j : Nat) (v : Value) (h : L[j]? = some v) : j < 32 ∧ f j = v := by
  subst e
  rw [List.getElem?_map, Option.map_eq_some_iff] at h
  obtain ⟨x, h1, h2⟩ := h
  obtain ⟨h3, h4⟩ := List.getElem?_eq_some_iff.mp h1
  rw [List.getElem_range] at h4
  rw [h4]
  exact ⟨by simp at h3; omega, h2⟩
theorem row_range32 {b : Nat} {f : Nat → Value} {w : World} {L : List Value} (h : Cells b 32 f w) (e : (List.range 32).map f = L) : w.rangeAt b 0 L :=
  h.range 0 L fun j v hv => by
    have := row_mem32 e j v hv
    rw [Nat.zero_add]
    exact this
theorem row_one32 {F : Sha.St} {k : Nat} {L : List Value} (e : (List.range 32).map (dv F k) = L) : L.toArray.all (·.oneCell') = true :=
  all_oneCell_toArray fun v hv => by
    rw [← e, List.mem_map] at hv
    obtain ⟨x, _, rfl⟩ := hv
    unfold dv
    split <;> rfl
theorem dg_at (F : Sha.St) (m i : Nat) (hi : i < 4) : Sha.dg F (4 * m + i) = F.get m / 2 ^ (24 - 8 * i) % 256 := by
  unfold Sha.dg
  rw [show (4 * m + i) / 4 = m by omega, show (4 * m + i) % 4 = i by omega]
theorem dv_step {F : Sha.St} {S j : Nat} {w : World} (h : Cells S 32 (dv F j) w) (hj : j < 32) (v : Int) (e : v = (Sha.dg F j : Nat)) : Cells S 32 (dv F (j + 1)) (w.setCell ⟨S, j, none⟩ (.int .u8 v)) := by
  subst e
  refine h.set j _ hj ?_ fun i _ hne => ?_
  · unfold dv
    rw [if_pos (by omega)]
  · unfold dv
    by_cases hl : i < j
    · rw [if_pos hl, if_pos (by omega)]
    · rw [if_neg hl, if_neg (by omega)]
theorem end_four {R S b m V : Nat} {F : Sha.St} {w wx : World} (h : EndS R S b F (4 * m) w wx) (hm : m < 8) (hV : F.get m = V) (hl : V < 4294967296) (hS : w.heap.size ≤ S) (hR : R ≠ S) (hb : b ≠ S) :
    EndS R S b F (4 * (m + 1)) w ((((wx.setCell ⟨S, 4 * m, none⟩ (.int .u8 ((V : Int) / 16777216))).setCell ⟨S, 4 * m + 1, none⟩ (.int .u8 ((V : Int) / 65536 % 256))).setCell ⟨S, 4 * m + 2, none⟩ (.int .u8 ((V : Int) / 256 % 256))).setCell ⟨S, 4 * m + 3, none⟩ (.int .u8 ((V : Int) % 256))) := by
  subst hV
  have a0 := dv_step h.row (by omega) ((F.get m : Int) / 16777216) (by rw [show 4 * m = 4 * m + 0 from rfl, dg_at F m 0 (by decide)]; omega)
  have a1 := dv_step a0 (by omega) ((F.get m : Int) / 65536 % 256) (by rw [dg_at F m 1 (by decide)]; omega)
  have a2 := dv_step a1 (by omega) ((F.get m : Int) / 256 % 256) (by rw [show 4 * m + 1 + 1 = 4 * m + 2 from rfl, dg_at F m 2 (by decide)]; omega)
  have a3 := dv_step a2 (by omega) ((F.get m : Int) % 256) (by rw [show 4 * m + 1 + 1 + 1 = 4 * m + 3 from rfl, dg_at F m 3 (by decide)]; omega)
  refine ⟨?_, (((h.res.far _ hR).far _ hR).far _ hR).far _ hR, by rw [show 4 * (m + 1) = 4 * m + 1 + 1 + 1 + 1 by omega]; exact a3, (((h.only.set _ (.inr hS)).set _ (.inr hS)).set _ (.inr hS)).set _ (.inr hS)⟩
  intro j v hv
  have := h.words j v hv
  have hne : ∀ k : Nat, (⟨S, k, none⟩ : Addr) ≠ ⟨b, 0 + j, none⟩ := fun k q => by injection q with q1; exact hb q1.symm
  rw [World.cell?_setCell_other (h := hne _), World.cell?_setCell_other (h := hne _), World.cell?_setCell_other (h := hne _), World.cell?_setCell_other (h := hne _)]
  exact this

set_option maxRecDepth 100000 in
set_option maxHeartbeats 2000000 in
theorem end_any (b : Nat) (K : Nat → Nat) (x : Sha.Tx) (size : Nat) (w : World) (hx : x.ok) (hK : ∀ i, K i < 4294967296) (hb1 : 1 < b) (h : TextIs b x.s x.blk x.used size w) (hT : Table K w) :
    Calls Tryz.prog 94 #[.pointer (some ⟨b, 0, none⟩)] w fun r w' => r = .returned (.agg ((List.range 32).map fun j => Value.int .u8 (Sha.dg (Sha.fin K (Sha.pads K (Sha.feed K x 128)) (size * 8 % M64)) j : Nat)).toArray) ∧ Only b w w' := by
  have HT := Lib.hid h
  have HX := Lib.hid hx
  have HK := Lib.hid hK
  have HTb := Lib.hid hT
  have hbs : b < w.heap.size := h.1
  clear h hx hK hT
  obtain ⟨L, hL⟩ : ∃ L, ((List.range 32).map fun j => Value.int .u8 (Sha.dg (Sha.fin K (Sha.pads K (Sha.feed K x 128)) (size * 8 % M64)) j : Nat)) = L := ⟨_, rfl⟩
  rw [hL]
  have HL := Lib.hid hL
  clear hL
  go_enter Tryz.func94, Tryz.ntmps94
  go_upto_region 0 with fail
  go_cut [2] (fun p wx => p = .pointer (some ⟨w.heap.size, 0, none⟩) ∧ EndAt b w.heap.size K x size w wx)
  case first =>
    go_wp2_with fail
    go_meet
    exact ⟨rfl, HT.out.alloc _, HTb.out.only ((Only.refl b w).alloc _) (by omega), Cells.new w 32 _ _ _ lit32_at, (Only.refl b w).alloc _⟩
  case rest =>
    obtain ⟨rfl, hE⟩ := hcut
    have c73 := hE.text.2 73 (by decide)
    simp only [tv] at c73
    obtain ⟨c73, f73⟩ := c73
    have HE := Lib.hid hE
    clear hE f73
    obtain ⟨C, hC⟩ : ∃ C, size * 8 % M64 = C := ⟨_, rfl⟩
    have hq : IntKind.u64.wrap ((size : Int) * 8) = (C : Int) := by rw [IntKind.wrap_u64, ← hC]; unfold M64; omega
    have HC := Lib.hid hC
    clear hC
    go_wp2_with fail
    refine (add_any b K x size ⟨#[128]⟩ _ HX.out HK.out hb1 HE.out.text HE.out.table (by decide)).mono ?_
    rintro e w1 ⟨rfl, hA1⟩
    have HE1 := Lib.hid (end_add HE.out hA1 (by omega))
    clear hA1 HE hq c73
    go_wp2_with fail
    go_loopw [15] (fun _ wr => ∃ (y : Sha.Tx) (z : Nat), y.ok ∧ Hid (Sha.pads K y = Sha.pads K (Sha.feed K x 128)) ∧ EndAt b w.heap.size K y z w wr) (fun _ wr => usedOf b wr)
    case atStart => exact ⟨_, _, Sha.feed_ok HX.out _, Lib.hid rfl, HE1.out⟩
    case round =>
      clear HE1
      obtain ⟨y, z, hy, HP, hE⟩ := hrel
      have c72 := hE.text.2 72 (by decide)
      simp only [tv] at c72
      obtain ⟨c72, f72⟩ := c72
      have HE := Lib.hid hE
      have HY := Lib.hid hy
      have hu := hy.used
      obtain ⟨U, hU⟩ : ∃ U, y.used = U := ⟨_, rfl⟩
      rw [hU] at c72 hu
      have HU := Lib.hid hU
      clear hE hy f72 hU
      by_cases h56 : U = 56
      · have q : ((U : Int) != 56) = false := by simp; omega
        have HPd : Hid (Sha.pads K (Sha.feed K x 128) = y) := Lib.hid (by rw [← HP.out]; exact Sha.pads_done K y (by rw [HU.out]; exact h56))
        have H56 := Lib.hid h56
        clear h56 HP
        go_wp2_with fail
        clear c72
        go_loopw [22] (fun i wx => ∃ k : Nat, k ≤ 8 ∧ i = .int .i64 k ∧ EndAt b w.heap.size K ⟨y.s, Sha.put y.blk 56 ((Sha.bitsOf C).take k), y.used⟩ z w wx) (fun i _ => 8 - (intOf i).toNat)
        case atStart => exact ⟨0, by omega, rfl, by rw [put_none]; exact HE.out⟩
        case round =>
          clear HE
          obtain ⟨k, hk, rfl, hE⟩ := hrel
          have HE := Lib.hid hE
          by_cases hlt : k < 8
          · obtain ⟨ix, hix⟩ : ∃ i, 56 + k = i := ⟨_, rfl⟩
            obtain ⟨e8, he8⟩ : ∃ i, 8 * k = i := ⟨_, rfl⟩
            obtain ⟨sh, hsh⟩ : ∃ i, 56 - 8 * k = i := ⟨_, rfl⟩
            have v1 : IntKind.i64.wrap (56 + (k : Int)) = (ix : Int) := by rw [IntWalk.i64_in _ (by omega)]; omega
            have v2 : IntKind.i64.wrap (8 * (k : Int)) = (e8 : Int) := by rw [IntWalk.i64_in _ (by omega)]; omega
            have v3 : IntKind.i64.wrap (56 - (e8 : Int)) = (sh : Int) := by rw [IntWalk.i64_in _ (by omega)]; omega
            have i1 : (ix : Int) < 64 := by omega
            have i2 : (sh : Int) ≤ 64 := by omega
            have i3 : (0 : Int) ≤ (sh : Int) := by omega
            have cb := hE.text.2 (8 + ix) (by omega)
            obtain ⟨old, hold⟩ : ∃ v, tv y.s (Sha.put y.blk 56 ((Sha.bitsOf C).take k)) y.used z (8 + ix) = v := ⟨_, rfl⟩
            simp only at cb
            rw [hold] at cb
            obtain ⟨cb, fb⟩ := cb
            have HI := Lib.hid hix
            have HSh := Lib.hid hsh
            clear hix he8 hsh hold hE
            go_wp2_with fail
            go_region
            go_wp2
            go_roundw
            case rel => exact ⟨k + 1, by omega, by go_num, end_bit HE.out hlt HI.out HSh.out hb1 (by omega)⟩
            case measure => simp [intOf]; omega
          · obtain ⟨B3, hB3⟩ : ∃ B, Sha.put y.blk 56 (Sha.bitsOf C) = B := ⟨_, rfl⟩
            have hE3 : EndAt b w.heap.size K ⟨y.s, B3, y.used⟩ z w wr := by
              have e8 : k = 8 := by omega
              rw [e8, show (Sha.bitsOf C).take 8 = Sha.bitsOf C from List.take_of_length_le (by simp [Sha.bitsOf]), hB3] at hE
              exact hE
            have hb3 : ∀ i, B3 i < 256 := fun i => by rw [← hB3]; exact put_lt HY.out.blk _ _ i
            have HB3 := Lib.hid hB3
            have Hb3 := Lib.hid hb3
            have HE3 := Lib.hid hE3
            clear hB3 hb3 hE3 hE HE
            go_wp2_with fail
            refine (mix_any b y.s B3 y.used z K _ Hb3.out HY.out.s HK.out hb1 HE3.out.text HE3.out.table).mono ?_
            rintro e w5 ⟨rfl, hT5, hO5⟩
            obtain ⟨F, hF⟩ : ∃ F, Sha.plus y.s (Sha.rnds K (fun i => (Sha.ws B3 48).getD i 0) y.s 64) = F := ⟨_, rfl⟩
            rw [hF] at hT5
            have HFin : Hid (Sha.fin K (Sha.pads K (Sha.feed K x 128)) (size * 8 % M64) = F) := Lib.hid (by
              rw [HPd.out, HC.out]
              unfold Sha.fin
              rw [HB3.out]
              exact hF)
            have hFok : F.ok := by rw [← hF]; exact Sha.plus_ok _ _
            have HFo := Lib.hid hFok
            have HR5 := Lib.hid (hO5.cells HE3.out.res (by omega))
            have HO5 := Lib.hid (HE3.out.only.trans hO5)
            have HWo := Lib.hid (text_words hT5)
            have hs5 : w.heap.size < w5.heap.size := HR5.out.1
            clear hF hFok hO5 hT5
            go_upto_region 11 with fail
            go_cut [5] (fun p wx => p = .pointer (some ⟨w5.heap.size, 0, none⟩) ∧ EndS w.heap.size w5.heap.size b F 0 w wx)
            case first =>
              go_wp2_with fail
              go_meet
              exact ⟨rfl, end_alloc HR5.out HO5.out HWo.out⟩
            case rest =>
              obtain ⟨rfl, hS⟩ := hcut
              have HS := Lib.hid hS
              clear hS
              have HI37 : Hid ((Tryz.prog.info? 124).map (·.size) = some (wordsOf F).length) := Lib.hid (by kernel_rfl)
              go_wp2_with ((with_reducible refine wpList_load_mid rfl 124 _ rfl b 0 rfl (wordsOf F) _ HS.out.words Tryz.underlying124 rfl HI37.out ?_))
              go_loopw [44] (fun i wx => ∃ m : Nat, m ≤ 8 ∧ i = .int .i64 m ∧ EndS w.heap.size w5.heap.size b F (4 * m) w wx) (fun i _ => 8 - (intOf i).toNat)
              case atStart => exact ⟨0, by omega, rfl, HS.out⟩
              case round =>
                clear HS
                obtain ⟨m, hm, rfl, hS⟩ := hrel
                have HS := Lib.hid hS
                by_cases hlt8 : m < 8
                · have hidx := index_words F m hlt8
                  have hV := Sha.get_lt HFo.out m
                  have d0 := hS.row.2 (4 * m) (by omega)
                  have d1 := hS.row.2 (4 * m + 1) (by omega)
                  have d2 := hS.row.2 (4 * m + 2) (by omega)
                  have d3 := hS.row.2 (4 * m + 3) (by omega)
                  obtain ⟨d0, f0⟩ := d0
                  obtain ⟨d1, f1⟩ := d1
                  obtain ⟨d2, f2⟩ := d2
                  obtain ⟨d3, f3⟩ := d3
                  generalize dv F (4 * m) (4 * m) = o0 at d0
                  generalize dv F (4 * m) (4 * m + 1) = o1 at d1
                  generalize dv F (4 * m) (4 * m + 2) = o2 at d2
                  generalize dv F (4 * m) (4 * m + 3) = o3 at d3
                  have j0 : (4 : Int) * (m : Int) < 32 := by omega
                  have j1 : (4 : Int) * (m : Int) + 1 < 32 := by omega
                  have j2 : (4 : Int) * (m : Int) + 2 < 32 := by omega
                  have j3 : (4 : Int) * (m : Int) + 3 < 32 := by omega
                  obtain ⟨V, hVe⟩ : ∃ V, F.get m = V := ⟨_, rfl⟩
                  rw [hVe] at hidx hV
                  have HV := Lib.hid hVe
                  clear hS hVe
                  go_wp2_with fail
                  go_roundw
                  case rel => exact ⟨m + 1, by omega, by go_num, end_four HS.out hlt8 HV.out hV (by omega) (by omega) (by omega)⟩
                  case measure => simp [intOf]; omega
                · have e32 : 4 * m = 32 := by omega
                  have z := HS.out.row
                  rw [e32] at z
                  have zL : (List.range 32).map (dv F 32) = L := by
                    rw [← HL.out, HFin.out]
                    refine List.map_congr_left fun j hj => ?_
                    unfold dv
                    rw [if_pos (by simpa using hj)]
                  have hlen : L.length = 32 := by rw [← zL]; simp
                  have HRa := Lib.hid (row_range32 z zL)
                  have HTh : Hid (wr.there w.heap.size 0 L.toArray.size) := Lib.hid (HS.out.res.there 0 _ (by simp [hlen]))
                  have HO : Hid (L.toArray.all (·.oneCell') = true) := Lib.hid (row_one32 zL)
                  have HI2 : Hid ((Tryz.prog.info? 51).map (·.size) = some L.length) := Lib.hid (by rw [hlen]; kernel_rfl)
                  have HI3 : Hid ((Tryz.prog.info? 51).map (·.size) = some L.toArray.size) := Lib.hid (by rw [List.size_toArray, hlen]; kernel_rfl)
                  clear z zL hlen hS e32
                  go_wp2_with (first
                    | (with_reducible refine wpList_load_mid rfl 51 _ rfl w5.heap.size 0 rfl L _ HRa.out Tryz.underlying51 rfl HI2.out ?_)
                    | (with_reducible refine wpList_store_mid rfl 51 _ _ rfl w.heap.size 0 L.toArray rfl rfl HTh.out HI3.out HO.out ?_))
                  refine bodyPost_ret (v := .agg L.toArray) ?_ rfl ⟨rfl, HS.out.only.row L (.inr (Nat.le_refl _))⟩
                  exact results_mid Tryz.results94 _ _ w.heap.size 0 L _ rfl (World.rangeAt_setCells_same _ _ _ _ (by have z := HTh.out; rwa [List.size_toArray] at z)) Tryz.underlying51 rfl HI2.out
      · have q : ((U : Int) != 56) = true := by simp; omega
        go_wp2_with fail
        refine (add_any b K y z ⟨#[0]⟩ _ HY.out HK.out hb1 HE.out.text HE.out.table (by decide)).mono ?_
        rintro e w2 ⟨rfl, hA2⟩
        have HE2 := Lib.hid (end_add HE.out hA2 (by omega))
        have HM := Lib.hid (used_less HE.out.text HE2.out.text HY.out (by rw [HU.out]; exact h56))
        clear hA2
        go_wp2
        go_roundw
        case rel => exact ⟨_, _, Sha.feed_ok HY.out _, Lib.hid (by rw [← HP.out]; exact Sha.pads_step K y HY.out.used (by rw [HU.out]; exact h56)), HE2.out⟩
        case measure => exact HM.out
end Go.Proofs.YtbohpffigmllkaaGreatDoor

/-
  Of: the sum of texts, one behind the other.
-/
namespace Go.Proofs.YtbohpffigmllkaaGreatDoor
open Go.RowKit

namespace Sha
def x0 (s : St) : Tx := ⟨s, fun _ => 0, 0⟩
def sha (K : Nat → Nat) (s : St) (l : List UInt8) : St := fin K (pads K (feed K (feeds K (x0 s) l) 128)) (l.length % M64 * 8 % M64)
end Sha
def sumOf (s : Sha.St) : List Value := (List.range 32).map fun j => Value.int .u8 (Sha.dg s j : Nat)
def cat (ss : List ByteArray) : List UInt8 := (ss.map fun s => s.data.toList).flatten
theorem cat_snoc (ss : List ByteArray) (k : Nat) (h : k < ss.length) : cat (ss.take (k + 1)) = cat (ss.take k) ++ (ss.getD k ByteArray.empty).data.toList := by
  rw [List.take_succ_eq_append_getElem h, List.getD_eq_getElem?_getD, List.getElem?_eq_getElem h]
  unfold cat
  rw [List.map_append, List.flatten_append]
  simp
def t74 (s : Sha.St) : List Value := (List.range 74).map (tv s (fun _ => 0) 0 0)
theorem build_text (s : Sha.St) : ∀ w : World, (Instr.build 127 #[(0, .agg (wordsOf s).toArray)]).run Tryz.prog w = .ok (.agg (t74 s).toArray) w := fun w => by kernel_rfl
theorem wp_build {P : Program} {op : Oper} {a : Act} {w : World} {K : Act → World → Prop} {Q : Exit → Act → World → Prop} (ty : TypeId) (i : Nat) (x : Operand) (ho : op.op = .build ty #[(i, x)]) (v u : Value) (hx : a.eval x = u)
    (hrun : (Instr.build ty #[(i, u)]).run P w = .ok v w) (h : K (a.put op.dst v) w) : op.wp P a w K Q := by
  subst hx
  unfold Oper.wp execOp
  simp only [ho, Sem.run_bind, Sem.run_pure, Result.andThen_ok, List.map_toArray, List.map_cons, List.map_nil, hrun]
  exact h
theorem wpList_build {P : Program} {ops : Array Oper} {rest : List Oper} {op : Oper} {a : Act} {w : World} {Q : Exit → Act → World → Prop} (hgd : op.guard = none) (ty : TypeId) (i : Nat) (x : Operand) (ho : op.op = .build ty #[(i, x)]) (v u : Value) (hx : a.eval x = u)
    (hrun : (Instr.build ty #[(i, u)]).run P w = .ok v w) (h : wpList P ops Q rest (a.put op.dst v) w) : wpList P ops Q (op :: rest) a w :=
  wpList_plain hgd fun _ hK => wp_build ty i x ho v u hx hrun (hK _ _ h)
def lit74 : Array Value := #[.int .u32 0, .int .u32 0, .int .u32 0, .int .u32 0, .int .u32 0, .int .u32 0, .int .u32 0, .int .u32 0, .int .u8 0, .int .u8 0, .int .u8 0, .int .u8 0, .int .u8 0, .int .u8 0, .int .u8 0, .int .u8 0, .int .u8 0, .int .u8 0, .int .u8 0, .int .u8 0, .int .u8 0, .int .u8 0, .int .u8 0, .int .u8 0, .int .u8 0, .int .u8 0, .int .u8 0, .int .u8 0, .int .u8 0, .int .u8 0, .int .u8 0, .int .u8 0, .int .u8 0, .int .u8 0, .int .u8 0, .int .u8 0, .int .u8 0, .int .u8 0, .int .u8 0, .int .u8 0, .int .u8 0, .int .u8 0, .int .u8 0, .int .u8 0, .int .u8 0, .int .u8 0, .int .u8 0, .int .u8 0, .int .u8 0, .int .u8 0, .int .u8 0, .int .u8 0, .int .u8 0, .int .u8 0, .int .u8 0, .int .u8 0, .int .u8 0, .int .u8 0, .int .u8 0, .int .u8 0, .int .u8 0, .int .u8 0, .int .u8 0, .int .u8 0, .int .u8 0, .int .u8 0, .int .u8 0, .int .u8 0, .int .u8 0, .int .u8 0, .int .u8 0, .int .u8 0, .int .i64 0, .int .u64 0]
theorem lit74_at (j : Nat) (h : j < 74) : lit74[j]? = some (lit74.getD j .nilIface) := by
  have hs : lit74.size = 74 := rfl
  rw [Array.getElem?_eq_getElem (by omega)]
  simp [Array.getD, hs, h]
theorem t74_at (s : Sha.St) (j : Nat) (h : j < 74) : (t74 s)[j]? = some (tv s (fun _ => 0) 0 0 j) := by
  unfold t74
  rw [List.getElem?_map, List.getElem?_range h]
  rfl
theorem t74_one (s : Sha.St) : (t74 s).toArray.all (·.oneCell') = true :=
  all_oneCell_toArray fun v hv => by
    unfold t74 at hv
    rw [List.mem_map] at hv
    obtain ⟨x, _, rfl⟩ := hv
    unfold tv
    split <;> rfl
theorem there74 (w : World) (s : Sha.St) : (w.alloc (.cells lit74 127)).there w.heap.size 0 (t74 s).toArray.size :=
  (Cells.new w 74 _ _ _ lit74_at).there 0 _ (by simp [t74])
theorem wp_alloc {P : Program} {op : Oper} {a : Act} {w w' : World} {K : Act → World → Prop} {Q : Exit → Act → World → Prop} (ty : TypeId) (ho : op.op = .alloc ty) (v : Value)
    (hrun : (Instr.alloc ty true (.tuple #[])).run P w = .ok v w') (h : K (a.put op.dst v) w') : op.wp P a w K Q := by
  unfold Oper.wp execOp
  simp only [ho, Sem.run_bind, Sem.run_pure, Result.andThen_ok, hrun]
  exact h
theorem wpList_alloc {P : Program} {ops : Array Oper} {rest : List Oper} {op : Oper} {a : Act} {w w' : World} {Q : Exit → Act → World → Prop} (hgd : op.guard = none) (ty : TypeId) (ho : op.op = .alloc ty) (v : Value)
    (hrun : (Instr.alloc ty true (.tuple #[])).run P w = .ok v w') (h : wpList P ops Q rest (a.put op.dst v) w') : wpList P ops Q (op :: rest) a w :=
  wpList_plain hgd fun _ hK => wp_alloc ty ho v hrun (hK _ _ h)
theorem alloc_text (w : World) : (Instr.alloc 127 true (.tuple #[])).run Tryz.prog w = .ok (.pointer (some ⟨w.heap.size, 0, none⟩)) (w.alloc (.cells lit74 127)) := by kernel_rfl
theorem alloc_text1 (w : World) (o : Obj) : (Instr.alloc 127 true (.tuple #[])).run Tryz.prog (w.alloc o) = .ok (.pointer (some ⟨w.heap.size + 1, 0, none⟩)) ((w.alloc o).alloc (.cells lit74 127)) := by
  rw [alloc_text, World.size_alloc]
/-- the package's two variables -/
structure Laid (K : Nat → Nat) (s : Sha.St) (w : World) : Prop where
  start : w.rangeAt 0 0 (wordsOf s)
  table : Table K w
structure OfAt (g R : Nat) (K : Nat → Nat) (x : Sha.Tx) (size : Nat) (w wx : World) : Prop where
  text : TextIs g x.s x.blk x.used size wx
  table : Table K wx
  res : Cells R 32 (fun _ => .int .u8 0) wx
  below : Below w.heap.size w wx
  far : w.heap.size < g

theorem there_of (w : World) {o : Obj} (s : Sha.St) : ((w.alloc o).alloc (.cells lit74 127)).there (w.heap.size + 1) 0 (t74 s).toArray.size := by
  have h := there74 (w.alloc o) s
  rw [World.size_alloc] at h
  exact h
theorem of_start {K : Nat → Nat} {s : Sha.St} {w : World} (h : Laid K s w) :
    OfAt (w.heap.size + 1) w.heap.size K (Sha.x0 s) 0 w (((w.alloc (.cells lit32 51)).alloc (.cells lit74 127)).setCells (w.heap.size + 1) 0 (t74 s)) := by
  have hb0 : Below w.heap.size w ((w.alloc (.cells lit32 51)).alloc (.cells lit74 127)) := ((Below.refl _ _).alloc (Nat.le_refl _) _).alloc (by simp) _
  have hb := below_row hb0 (c := w.heap.size + 1) (o := 0) (t74 s) (by omega)
  have hn := Cells.new (w.alloc (.cells lit32 51)) 74 _ 127 _ lit74_at
  rw [World.size_alloc] at hn
  refine ⟨?_, h.table.only (b := w.heap.size) (.of_below hb) (by have := h.table.1; omega), ?_, hb, by omega⟩
  · exact hn.row (t74 s) _ (by simp [t74]) fun j hj => t74_at s j hj
  · exact ((Cells.new w 32 _ _ _ lit32_at).alloc _).farRow _ (by omega)

theorem x0_ok {s : Sha.St} (h : s.ok) : (Sha.x0 s).ok := ⟨h, fun _ => show 0 < 256 by decide, show 0 < 64 by decide⟩
theorem step_of (K : Nat → Nat) (s : Sha.St) (ss : List ByteArray) (k : Nat) (h : k < ss.length) : Sha.feeds K (Sha.feeds K (Sha.x0 s) (cat (ss.take k))) (ss.getD k ByteArray.empty).data.toList = Sha.feeds K (Sha.x0 s) (cat (ss.take (k + 1))) := by
  rw [cat_snoc ss k h, Sha.feeds_append]
theorem step_len (ss : List ByteArray) (k : Nat) (h : k < ss.length) : ((cat (ss.take k)).length % M64 + (ss.getD k ByteArray.empty).size) % M64 = (cat (ss.take (k + 1))).length % M64 := by
  have e : (ss.getD k ByteArray.empty).data.toList.length = (ss.getD k ByteArray.empty).size := by simp
  rw [cat_snoc ss k h, List.length_append, e, Nat.mod_add_mod]
theorem of_add {g R : Nat} {K : Nat → Nat} {x y : Sha.Tx} {z z' : Nat} {w wx wy : World} (h : OfAt g R K x z w wx) (k : AddAt g K y z' wx wy) (hR : R ≠ g) : OfAt g R K y z' w wy :=
  ⟨k.text, k.table, k.only.cells h.res hR, h.below.trans (k.only.below (Nat.le_of_lt h.far) h.below.size), h.far⟩
theorem sum_one_cell {s : Sha.St} {L : List Value} (e : ((List.range 32).map fun j => Value.int .u8 (Sha.dg s j : Nat)) = L) : L.toArray.all (·.oneCell') = true :=
  all_oneCell_toArray fun v hv => by
    rw [← e, List.mem_map] at hv
    obtain ⟨x, _, rfl⟩ := hv
    rfl

set_option maxRecDepth 100000 in
set_option maxHeartbeats 2000000 in
theorem of_any (b off cap : Nat) (ss : List ByteArray) (K : Nat → Nat) (s : Sha.St) (w : World) (hK : ∀ i, K i < 4294967296) (hs : s.ok) (hL : Laid K s w) (hn : ss.length < 1000)
    (hc : ∀ i, i < ss.length → w.cell? ⟨b, off + i, none⟩ = some (.string (ss.getD i ByteArray.empty))) (hb : b < w.heap.size) (hz : ∀ i, i < ss.length → (ss.getD i ByteArray.empty).size ≤ maxLen) :
    Calls Tryz.prog 57 #[.slice (some ⟨b, off, none⟩) ss.length cap] w fun r w' => r = .returned (.agg (sumOf (Sha.sha K s (cat ss))).toArray) ∧ Below w.heap.size w w' := by
  have HK := Lib.hid hK
  have HS := Lib.hid hs
  have HL := Lib.hid hL
  have HC := Lib.hid hc
  have HZ := Lib.hid hz
  clear hK hs hL hc hz
  obtain ⟨L, hL⟩ : ∃ L, sumOf (Sha.sha K s (cat ss)) = L := ⟨_, rfl⟩
  rw [hL]
  have HLe := Lib.hid hL
  clear hL
  have HI37 : Hid ((Tryz.prog.info? 124).map (·.size) = some (wordsOf s).length) := Lib.hid (by kernel_rfl)
  have HI74 : Hid ((Tryz.prog.info? 127).map (·.size) = some (t74 s).toArray.size) := Lib.hid (by kernel_rfl)
  have hrs := World.rangeAt_alloc HL.out.start
  have HRs := Lib.hid hrs
  clear hrs
  go_enter Tryz.func57, Tryz.ntmps57
  go_upto_region 1 with fail
  go_cut [2, 3] (fun p q wx => p = .pointer (some ⟨w.heap.size, 0, none⟩) ∧ q = .pointer (some ⟨w.heap.size + 1, 0, none⟩) ∧ OfAt (w.heap.size + 1) w.heap.size K (Sha.x0 s) 0 w wx)
  case first =>
    go_wp2_with (first
      | (with_reducible refine wpList_load_mid rfl 124 _ rfl 0 0 rfl (wordsOf s) _ (HRs.out _) Tryz.underlying124 rfl HI37.out ?_)
      | (with_reducible refine wpList_build rfl 127 0 _ rfl (.agg (t74 s).toArray) (.agg (wordsOf s).toArray) rfl (build_text s _) ?_)
      | (with_reducible refine wpList_alloc rfl 127 rfl _ (alloc_text1 w _) ?_)
      | ((with_reducible refine wpList_store_mid rfl 127 _ _ rfl (w.heap.size + 1) 0 (t74 s).toArray rfl rfl ?_ HI74.out (t74_one s) ?_); (focus exact there_of w s)))
    go_meet
    exact ⟨rfl, rfl, of_start HL.out⟩
  case rest =>
    obtain ⟨rfl, rfl, hO⟩ := hcut
    have h1 : 1 < w.heap.size := HL.out.table.1
    go_wp2_with fail
    go_loopw [10] (fun i wx => ∃ k : Nat, k ≤ ss.length ∧ i = .int .i64 k ∧ OfAt (w.heap.size + 1) w.heap.size K (Sha.feeds K (Sha.x0 s) (cat (ss.take k))) ((cat (ss.take k)).length % M64) w wx) (fun i _ => ss.length - (intOf i).toNat)
    case atStart => exact ⟨0, by omega, rfl, hO⟩
    case round =>
      clear hO
      obtain ⟨k, hk, rfl, hO⟩ := hrel
      have hxok := Sha.feeds_ok (K := K) (x0_ok HS.out) (cat (ss.take k))
      have HX := Lib.hid hxok
      have HO := Lib.hid hO
      clear hxok
      by_cases hlt : k < ss.length
      · have ce := (hO.below.cell (p := ⟨b, off + k, none⟩) hb).trans (HC.out k hlt)
        have hsz := HZ.out k hlt
        have HN := Lib.hid (step_of K s ss k hlt)
        have HM := Lib.hid (step_len ss k hlt)
        generalize ss.getD k ByteArray.empty = t at ce hsz HN HM
        clear hO
        go_wp2_with fail
        refine (add_any (w.heap.size + 1) K _ _ t _ HX.out HK.out (by omega) HO.out.text HO.out.table hsz).mono ?_
        rintro e w2 ⟨rfl, hA⟩
        have HA := Lib.hid hA
        clear hA
        go_wp2
        go_roundw
        case rel => exact ⟨k + 1, by omega, by go_num, by rw [← HN.out, ← HM.out]; exact of_add HO.out HA.out (by omega)⟩
        case measure => simp [intOf]; omega
      · have ek : ss.take k = ss := List.take_of_length_le (by omega)
        rw [ek] at hO HX
        have HO2 := Lib.hid hO
        have HEk := Lib.hid ek
        clear HO hO ek
        go_wp2_with fail
        refine (end_any (w.heap.size + 1) K _ _ _ HX.out HK.out (by omega) HO2.out.text HO2.out.table).mono ?_
        rintro e w3 ⟨rfl, hE⟩
        have HLs := HLe.out
        unfold sumOf Sha.sha at HLs
        rw [HLs]
        have hlen : L.length = 32 := by rw [← HLs]; simp
        have hR := hE.cells HO2.out.res (by omega)
        have HR := Lib.hid hR
        have HB3 := Lib.hid (HO2.out.below.trans (hE.below (B := w.heap.size) (by omega) HO2.out.below.size))
        have HTh : Hid (w3.there w.heap.size 0 L.toArray.size) := Lib.hid (hR.there 0 _ (by simp [hlen]))
        have HO : Hid (L.toArray.all (·.oneCell') = true) := Lib.hid (sum_one_cell HLs)
        have HI2 : Hid ((Tryz.prog.info? 51).map (·.size) = some L.length) := Lib.hid (by rw [hlen]; kernel_rfl)
        have HI3 : Hid ((Tryz.prog.info? 51).map (·.size) = some L.toArray.size) := Lib.hid (by rw [List.size_toArray, hlen]; kernel_rfl)
        clear hE HLs hlen hR
        go_wp2_with (with_reducible refine wpList_store_mid rfl 51 _ _ rfl w.heap.size 0 L.toArray rfl rfl HTh.out HI3.out HO.out ?_)
        refine bodyPost_ret (v := .agg L.toArray) ?_ rfl ⟨rfl, below_row HB3.out L (Nat.le_refl _)⟩
        exact results_mid Tryz.results57 _ _ w.heap.size 0 L _ rfl (World.rangeAt_setCells_same _ _ _ _ (by have z := HTh.out; rwa [List.size_toArray] at z)) Tryz.underlying51 rfl HI2.out
end Go.Proofs.YtbohpffigmllkaaGreatDoor

/-
  Blocks of cells: what of stage 12 sha has not.
-/
namespace Go.Proofs.YtbohpffigmllkaaGreatDoor
open Go.RowKit

def cellsAt (N : List Value) (j : Nat) : Value := N.getD j .nilIface
theorem cellsAt_get (N : List Value) (j : Nat) (h : j < N.length) : N[j]? = some (cellsAt N j) := by
  unfold cellsAt
  rw [List.getD_eq_getElem?_getD, List.getElem?_eq_getElem h]
  rfl
theorem Cells.all {b : Nat} {N : List Value} {n : Nat} {w : World} (hn : N.length = n) (h : Cells b n (cellsAt N) w) : w.rangeAt b 0 N :=
  h.range 0 N fun j v hv => by
    have hj := (List.getElem?_eq_some_iff.1 hv).1
    refine ⟨by omega, ?_⟩
    rw [Nat.zero_add]
    rw [cellsAt_get N j hj] at hv
    exact Option.some.inj hv
theorem ext_ext (t : ByteArray) (a b : Nat) : (t.extract a t.size).extract b (t.extract a t.size).size = t.extract (a + b) t.size := by
  apply ByteArray.ext
  rw [ByteArray.data_extract, ByteArray.data_extract, ByteArray.data_extract, ByteArray.size_extract, Array.extract_extract]
  congr 1
  omega
theorem i64_small (n : Nat) (h : n < 65536) : IntKind.i64.wrap (n : Int) = n := by rw [IntWalk.i64_in _ (by omega)]
theorem wpList_build1 {P : Program} {ops : Array Oper} {rest : List Oper} {op : Oper} {a : Act} {w : World} {Q : Exit → Act → World → Prop} (hgd : op.guard = none) (ty : TypeId) (i : Nat) (x : Operand) (ho : op.op = .build ty #[(i, x)])
    (u r : Value) (hx : a.eval x = u) (hrun : (Instr.build ty #[(i, u)]).run P w = .ok r w) (h : wpList P ops Q rest (a.put op.dst r) w) : wpList P ops Q (op :: rest) a w := by
  refine wpList_plain hgd fun K hK => ?_
  unfold Oper.wp execOp
  simp only [ho, Sem.run_bind, Sem.run_pure, Result.andThen_ok, List.map_toArray, List.map_cons, List.map_nil, hx, hrun]
  exact hK _ _ h
theorem Cells.grew {b n : Nat} {f : Nat → Value} {S : Nat → Prop} {w w' : World} (h : Cells b n f w) (k : Grew S w w') (hS : ¬ S b) : Cells b n f w' :=
  ⟨Nat.lt_of_lt_of_le h.1 k.size, fun j hj => by
    rw [k.cell (p := ⟨b, j, none⟩) h.1 hS, k.frozen (p := ⟨b, j, none⟩) h.1 hS]
    exact h.2 j hj⟩
theorem Cells.block {b n : Nat} {f : Nat → Value} {w w' : World} (h : Cells b n f w) (e : w'.heap[b]? = w.heap[b]?) (hs : w.heap.size ≤ w'.heap.size) : Cells b n f w' :=
  ⟨Nat.lt_of_lt_of_le h.1 hs, fun j hj => by
    rw [World.cell?_of_block (w := w) e, World.frozen?_of_block (w := w) e]
    exact h.2 j hj⟩
theorem Grew.row {S : Nat → Prop} {a w : World} (h : Grew S a w) (c o : Nat) (l : List Value) (hc : c < a.heap.size → S c) : Grew S a (w.setCells c o l) :=
  have b : Below c w (w.setCells c o l) := below_row (Below.refl c w) l (Nat.le_refl c)
  h.step (T := fun k => k = c) ⟨b.os, b.tape, b.output, b.size, fun k hk hs => World.heap_setCells_other w c o l hk hs⟩ fun x hx e => by
    subst e
    exact hc hx
theorem done_only (b : Nat) (o : Option Int) (w : World) : Grew (fun k => k = b) w (done b o w) := by
  cases o with
  | none => exact (Grew.refl w).setCell _ _ fun _ => rfl
  | some k => exact ((Grew.refl (S := fun k => k = b) w).setCell ⟨b, 0, none⟩ _ fun _ => rfl).alloc _
theorem results_two_mid {fn : Func} {p u : Tmp} {ty : TypeId} {P : Program} (h : fn.results = #[.cell p ty, .tmp u]) (tmps : Array Value) (w : World) (g : Nat) (l : List Value) (d : TypeDesc)
    (hp : tmps.getD p undef = .pointer (some ⟨g, 0, none⟩)) (hr : w.rangeAt g 0 l) (hu : P.underlying ty = some d) (hd : d.isRow = true) (hi : (P.info? ty).map (·.size) = some l.length) :
    (results fn tmps).run P w = .ok (.tuple #[.agg l.toArray, tmps.getD u undef]) w := by
  rw [results_cell_tmp h, hp]
  simp only [asAddr, Sem.run_pure, Result.andThen_ok, run_loadVar_mid w g 0 ty l d hr hu hd hi]
theorem Cells.fill {c n : Nat} {f : Nat → Value} {w : World} {N : List Value} (h : Cells c n f w) (hn : N.length = n) : Cells c n (cellsAt N) (w.setCells c 0 N) :=
  h.row N (cellsAt N) hn fun j hj => cellsAt_get N j (by omega)
theorem wpList_load_g {P : Program} {ops : Array Oper} {rest : List Oper} {op : Oper} {a : Act} {w : World} {Q : Exit → Act → World → Prop} (hw : Region.wanted op (yielded ops a.tmps) = true) (ty : TypeId) (x : Operand) (ho : op.op = .load ty x)
    (b o : Nat) (hx : a.eval x = .pointer (some ⟨b, o, none⟩)) (cs : List Value) (d : TypeDesc) (hc : w.rangeAt b o cs)
    (hu : P.underlying ty = some d) (hd : d.isRow = true) (hi : (P.info? ty).map (·.size) = some cs.length)
    (h : wpList P ops Q rest (a.put op.dst (.agg cs.toArray)) w) : wpList P ops Q (op :: rest) a w := by
  refine wpList_step fun K hK => ?_
  rw [if_pos hw]
  exact wp_load_mid ty x ho b o hx cs d hc hu hd hi (hK _ _ h)
theorem run_max2 (P : Program) (w : World) (ts : Array TypeId) (t : TypeId) (x y z : Int) (h : z = max x y) : (Builtin.max_ ts t #[.int .i64 x, .int .i64 y]).run P w = .ok (.int .i64 z) w := by
  subst h
  by_cases hc : x < y
  · rw [Int.max_eq_right (by omega)]
    simp [Builtin.max_, Builtin.max2, hc]
  · rw [Int.max_eq_left (by omega)]
    simp [Builtin.max_, Builtin.max2, hc]
theorem run_min2 (P : Program) (w : World) (ts : Array TypeId) (t : TypeId) (x y z : Int) (h : z = min x y) : (Builtin.min_ ts t #[.int .i64 x, .int .i64 y]).run P w = .ok (.int .i64 z) w := by
  subst h
  by_cases hc : y < x
  · rw [Int.min_eq_right (by omega)]
    simp [Builtin.min_, Builtin.min2, hc]
  · rw [Int.min_eq_left (by omega)]
    simp [Builtin.min_, Builtin.min2, hc]
theorem wpList_build0 {P : Program} {ops : Array Oper} {rest : List Oper} {op : Oper} {a : Act} {w : World} {Q : Exit → Act → World → Prop} (hgd : op.guard = none) (ty : TypeId) (ho : op.op = .build ty #[]) (v : Value)
    (hrun : (Instr.build ty #[]).run P w = .ok v w) (h : wpList P ops Q rest (a.put op.dst v) w) : wpList P ops Q (op :: rest) a w := by
  refine wpList_plain hgd fun K hK => ?_
  unfold Oper.wp execOp
  simp only [ho, Sem.run_bind, Sem.run_pure, Result.andThen_ok, List.map_toArray, List.map_nil, hrun]
  exact hK _ _ h
/-- 32 bytes as a value -/
def arr (f : Nat → Nat) : List Value := (List.range 32).map fun j => Value.int .u8 (f j : Nat)
theorem arr_at (f : Nat → Nat) (j : Nat) (h : j < 32) : (arr f)[j]? = some (.int .u8 (f j : Nat)) := by
  unfold arr
  rw [List.getElem?_map, List.getElem?_range h]
  rfl
theorem arr_len (f : Nat → Nat) : (arr f).length = 32 := by simp [arr]
theorem arr_one (f : Nat → Nat) : (arr f).toArray.all (·.oneCell') = true :=
  all_oneCell_toArray fun v hv => by
    unfold arr at hv
    rw [List.mem_map] at hv
    obtain ⟨x, _, rfl⟩ := hv
    rfl
def txt (f : Nat → Nat) : List UInt8 := (List.range 32).map fun j => UInt8.ofNat (f j)
theorem box_cells {w : World} {f : Nat → Nat} {t : TypeId} : Cells w.heap.size 32 (fun j => .int .u8 (f j : Nat)) (w.alloc (.cells (arr f).toArray t)) :=
  Cells.new w 32 _ _ _ fun j hj => by rw [List.getElem?_toArray]; exact arr_at f j hj
theorem conv_txt {b : Nat} {f : Nat → Nat} {w : World} (hf : ∀ j, f j < 256) (h : Cells b 32 (fun j => .int .u8 (f j : Nat)) w) :
    (convert 81 9 (.slice (some ⟨b, 0, none⟩) 32 32)).run Tryz.prog w = .ok (.string ⟨(txt f).toArray⟩) w := by
  have e : (txt f).length = 32 := by simp [txt]
  have z := run_convert_bytes_back (P := Tryz.prog) w 81 9 5 ⟨b, 0, none⟩ 32 (txt f) Tryz.underlying81 Tryz.underlying5 Tryz.underlying9 fun j hj => by
    rw [Addr.add_mid, Nat.zero_add, (h.2 j (by omega)).1]
    have hj' : (txt f)[j] = UInt8.ofNat (f j) := by simp [txt]
    rw [hj', UInt8.toNat_ofNat', Nat.mod_eq_of_lt (hf j)]
  rw [e] at z
  exact z
theorem slice_all (b : Nat) : ∀ w : World, (Instr.sliceAt 51 (.pointer (some ⟨b, 0, none⟩)) none none none).run Tryz.prog w = .ok (.slice (some ⟨b, 0, none⟩) 32 32) w := by
  intro w
  kernel_rfl
set_option maxRecDepth 100000 in
set_option maxHeartbeats 1000000 in
theorem text_any (f : Nat → Nat) (hf : ∀ j, f j < 256) (w : World) :
    Calls Tryz.prog 33 #[.agg (arr f).toArray] w fun r w' => r = .returned (.string ⟨(txt f).toArray⟩) ∧ Below w.heap.size w w' := by
  have kc := conv_txt hf (box_cells (w := w) (f := f) (t := 51))
  have hsl := slice_all w.heap.size
  obtain ⟨L, hL⟩ : ∃ L, arr f = L := ⟨_, rfl⟩
  rw [hL] at kc ⊢
  obtain ⟨T, hT⟩ : ∃ T : ByteArray, ⟨(txt f).toArray⟩ = T := ⟨_, rfl⟩
  rw [hT] at kc ⊢
  clear hL hT hf
  go_enter Tryz.func33, Tryz.ntmps33
  go_wp2
  go_ret
  exact ⟨rfl, (Below.refl _ _).alloc (Nat.le_refl _) _⟩
end Go.Proofs.YtbohpffigmllkaaGreatDoor

/-
  Two sums as values: equal or not; a sum at an index; the sum of 'abc' by the document's numbers.
-/
namespace Go.Proofs.YtbohpffigmllkaaGreatDoor
open Go.RowKit

def rounds : List Nat := [1116352408, 1899447441, 3049323471, 3921009573, 961987163, 1508970993, 2453635748, 2870763221, 3624381080, 310598401, 607225278, 1426881987, 1925078388, 2162078206, 2614888103, 3248222580, 3835390401, 4022224774, 264347078, 604807628, 770255983, 1249150122, 1555081692, 1996064986, 2554220882, 2821834349, 2952996808, 3210313671, 3336571891, 3584528711, 113926993, 338241895, 666307205, 773529912, 1294757372, 1396182291, 1695183700, 1986661051, 2177026350, 2456956037, 2730485921, 2820302411, 3259730800, 3345764771, 3516065817, 3600352804, 4094571909, 275423344, 430227734, 506948616, 659060556, 883997877, 958139571, 1322822218, 1537002063, 1747873779, 1955562222, 2024104815, 2227730452, 2361852424, 2428436474, 2756734187, 3204031479, 3329325298]
def KK (i : Nat) : Nat := rounds.getD i 0
def SS : Sha.St := ⟨1779033703, 3144134277, 1013904242, 2773480762, 1359893119, 2600822924, 528734635, 1541459225⟩
set_option maxRecDepth 1000000 in
theorem abc : (List.range 32).map (Sha.dg (Sha.sha KK SS [97, 98, 99])) = [0xba, 0x78, 0x16, 0xbf, 0x8f, 0x01, 0xcf, 0xea, 0x41, 0x41, 0x40, 0xde, 0x5d, 0xae, 0x22, 0x23, 0xb0, 0x03, 0x61, 0xa3, 0x96, 0x17, 0x7a, 0x9c, 0xb4, 0x10, 0xff, 0x61, 0xf2, 0x00, 0x15, 0xad] := by decide +kernel

theorem KK_lt (i : Nat) : KK i < 4294967296 := by
  unfold KK
  have h : ∀ x ∈ rounds, x < 4294967296 := by decide +kernel
  exact Sha.getD_lt _ h i
theorem SS_ok : SS.ok := by
  unfold Sha.St.ok SS
  decide
theorem sum_cell (s : Sha.St) (j : Nat) (h : j < 32) : (sumOf s).toArray[j]? = some (.int .u8 (Sha.dg s j : Nat)) := by
  unfold sumOf
  rw [List.getElem?_toArray, List.getElem?_map, List.getElem?_range h]
  rfl
theorem plain8 : Tryz.prog.plainKey 5 = true := by kernel_rfl
theorem items_run (d : Nat) (f g : Nat → Nat) (xs ys : Array Value) (w : World) : ∀ is : List Nat, (∀ i ∈ is, xs[i]? = some (.int .u8 (f i : Nat))) → (∀ i ∈ is, ys[i]? = some (.int .u8 (g i : Nat))) →
    (Op.eqItems (d + 1) 5 1 xs ys is).run Tryz.prog w = .ok (is.all fun i => f i == g i) w
  | [], _, _ => by simp [Op.eqItems]
  | i :: is, hx, hy => by
    have ih := items_run d f g xs ys w is (fun j hj => hx j (List.mem_cons_of_mem _ hj)) (fun j hj => hy j (List.mem_cons_of_mem _ hj))
    have p1 := run_part_plain (P := Tryz.prog) w plain8 (off := i * 1) (by rw [Nat.mul_one]; exact hx i (List.mem_cons_self))
    have p2 := run_part_plain (P := Tryz.prog) w plain8 (off := i * 1) (by rw [Nat.mul_one]; exact hy i (List.mem_cons_self))
    have p3 := run_equalIn_int (P := Tryz.prog) w d 5 .u8 .u8 ((f i : Nat) : Int) ((g i : Nat) : Int) Tryz.underlying5
    have e : ((f i : Int) == (g i : Int)) = (f i == g i) := by
      rw [Bool.eq_iff_iff, beq_iff_eq, beq_iff_eq]
      omega
    rw [e] at p3
    simp only [Op.eqItems, Sem.run_bind, p1, p2, p3, Result.andThen_ok, List.all_cons]
    cases hc : (f i == g i)
    · simp
    · simpa using ih
def same (s t : Sha.St) : Bool := (List.range 32).all fun i => Sha.dg s i == Sha.dg t i
theorem same_self (s : Sha.St) : same s s = true := by simp [same]
theorem sum_eql (s t : Sha.St) : ∀ w : World, (Op.equalIn 10000 51 (.agg (sumOf s).toArray) (.agg (sumOf t).toArray)).run Tryz.prog w = .ok (same s t) w := fun w => by
  have hi : ∃ i, Tryz.prog.info? 5 = some i := info_of_underlying Tryz.underlying5
  obtain ⟨i, hi⟩ := hi
  have c : Tryz.prog.cellsOf 5 = 1 := by kernel_rfl
  rw [run_equalIn_array (P := Tryz.prog) w 9999 (e := 5) (n := 32) (i := i) _ _ Tryz.underlying51 hi, c]
  exact items_run 9998 (Sha.dg s) (Sha.dg t) _ _ w (List.range 32) (fun j hj => sum_cell s j (by simpa using hj)) (fun j hj => sum_cell t j (by simpa using hj))
end Go.Proofs.YtbohpffigmllkaaGreatDoor

/-
  sha.Of of one text, where the package's variables lie.
-/
namespace Go.Proofs.YtbohpffigmllkaaGreatDoor
open Go.RowKit

theorem Laid.below {K : Nat → Nat} {s : Sha.St} {w w' : World} (h : Laid K s w) (k : Below w.heap.size w w') : Laid K s w' :=
  ⟨fun j v hv => by
    have h1 := h.table.1
    rw [k.cell (p := ⟨0, 0 + j, none⟩) (by show 0 < w.heap.size; omega)]
    exact h.start j v hv, h.table.only (b := w.heap.size) (.of_below k) (by have := h.table.1; omega)⟩
theorem Laid.alloc {K : Nat → Nat} {s : Sha.St} {w : World} (h : Laid K s w) (o : Obj) : Laid K s (w.alloc o) := h.below ((Below.refl _ _).alloc (Nat.le_refl _) _)
theorem Laid.drew {K : Nat → Nat} {s : Sha.St} {w : World} (h : Laid K s w) : Laid K s w.drew := h.below (Below.refl _ _).drew
def shaOf (l : List UInt8) : Sha.St := Sha.sha KK SS l
def sumVal (l : List UInt8) : Value := .agg (sumOf (shaOf l)).toArray
theorem of_one (b cap : Nat) (t : ByteArray) (l : List UInt8) (w : World) (hl : t.data.toList = l) (hL : Laid KK SS w) (ht : t.size ≤ maxLen) (hb : b < w.heap.size) (hc : w.cell? ⟨b, 0, none⟩ = some (.string t)) :
    Calls Tryz.prog 57 #[.slice (some ⟨b, 0, none⟩) 1 cap] w fun r w' => r = .returned (sumVal l) ∧ Below w.heap.size w w' := by
  have h := of_any b 0 cap [t] KK SS w KK_lt SS_ok hL (by simp) (fun i hi => by have : i < 1 := hi; obtain rfl : i = 0 := (by omega); exact hc) hb (fun i hi => by have : i < 1 := hi; obtain rfl : i = 0 := (by omega); exact ht)
  have e : cat [t] = l := by rw [← hl]; simp [cat]
  rw [e] at h
  exact h
end Go.Proofs.YtbohpffigmllkaaGreatDoor
