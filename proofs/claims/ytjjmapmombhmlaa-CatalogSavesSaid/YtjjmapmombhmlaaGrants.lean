/-
  A map of grants: where it lies, and its calls New, count, has and turn: contracts by walking their text.
-/
import Derived.Test.YtjjmapmombhmlaaGrew
import Derived.Test.YtjjmapmombhmlaaBoxes
import Derived.Deep.OwnRows
import Derived.Deep.LoopGhost
import Derived.Deep.DeepCutAuto
import Derived.Deep.RegionHeld3
import Derived.IntWalk
namespace Go.Proofs.Ytjjmapmombhmlaa
open Go.RowKit

/-- a map: its struct at block m, its states at block g -/
structure MapAt (m g f n : Nat) (S : Nat → Nat) (w : World) : Prop where
  c0 : w.cell? ⟨m, 0, none⟩ = some (.int .i64 f)
  c1 : w.cell? ⟨m, 1, none⟩ = some (.slice (some ⟨g, 0, none⟩) n n)
  row : w.rowIs g 122 n (fun i => .int .u8 (S i))
  ne : m ≠ g
theorem MapAt.drew {m g f n : Nat} {S : Nat → Nat} {w : World} (h : MapAt m g f n S w) : MapAt m g f n S w.drew := ⟨h.c0, h.c1, h.row.drew, h.ne⟩
theorem MapAt.ltm {m g f n : Nat} {S : Nat → Nat} {w : World} (h : MapAt m g f n S w) : m < w.heap.size := cell_lt h.c0
theorem MapAt.ltg {m g f n : Nat} {S : Nat → Nat} {w : World} (h : MapAt m g f n S w) : g < w.heap.size := h.row.lt
theorem MapAt.keep {m g f n : Nat} {S : Nat → Nat} {T : Nat → Prop} {w w' : World} (h : MapAt m g f n S w) (k : Grew T w w') (hm : ¬ T m) (hg : ¬ T g) : MapAt m g f n S w' :=
  ⟨by rw [k.cell h.ltm hm]; exact h.c0, by rw [k.cell h.ltm hm]; exact h.c1, h.row.of_block (k.block g h.ltg hg), h.ne⟩
theorem MapAt.below {m g f n : Nat} {S : Nat → Nat} {w w' : World} (h : MapAt m g f n S w) (k : Below w.heap.size w w') : MapAt m g f n S w' :=
  h.keep (Grew.of_below (S := fun _ => False) k) (fun x => x) (fun x => x)
theorem MapAt.congr {m g f n : Nat} {S T : Nat → Nat} {w : World} (h : MapAt m g f n S w) (e : ∀ i, i < n → S i = T i) : MapAt m g f n T w := ⟨h.c0, h.c1, h.row.congr (fun i hi => by rw [e i hi]), h.ne⟩
def upd (S : Nat → Nat) (i v : Nat) : Nat → Nat := fun j => if j = i then v else S j
theorem MapAt.set {m g f n : Nat} {S : Nat → Nat} {w : World} (h : MapAt m g f n S w) (i v : Nat) : MapAt m g f n (upd S i v) (w.setCell ⟨g, i, none⟩ (.int .u8 v)) := by
  refine ⟨by rw [World.cell?_setCell_far _ _ _ _ (fun e => h.ne e.symm)]; exact h.c0, by rw [World.cell?_setCell_far _ _ _ _ (fun e => h.ne e.symm)]; exact h.c1, (h.row.set i _).congr (fun j _ => ?_), h.ne⟩
  unfold upd
  split <;> rfl
/-- of the first n, how many are k -/
def cnt (S : Nat → Nat) (k : Nat) : Nat → Nat
  | 0 => 0
  | n + 1 => cnt S k n + (if S n = k then 1 else 0)
theorem cnt_le (S : Nat → Nat) (k n : Nat) : cnt S k n ≤ n := by
  induction n with
  | zero => exact Nat.le_refl _
  | succ n ih => unfold cnt; split <;> omega
theorem cnt_upd (S : Nat → Nat) (k i v n : Nat) (h : i < n) : cnt (upd S i v) k n + (if S i = k then 1 else 0) = cnt S k n + (if v = k then 1 else 0) := by
  induction n with
  | zero => omega
  | succ n ih =>
    unfold cnt
    by_cases e : i = n
    · subst e
      have hs : ∀ j, j ≤ i → cnt (upd S i v) k j = cnt S k j := by
        intro j hj
        induction j with
        | zero => rfl
        | succ j ih2 =>
          unfold cnt
          have e : upd S i v j = S j := if_neg (by omega)
          rw [ih2 (by omega), e]
      rw [hs i (Nat.le_refl _)]
      have : upd S i v i = v := by unfold upd; rw [if_pos rfl]
      rw [this]
      omega
    · have := ih (by omega)
      have e2 : upd S i v n = S n := by unfold upd; rw [if_neg (fun h => e h.symm)]
      rw [e2]
      omega
theorem cnt_congr (S T : Nat → Nat) (k n : Nat) (h : ∀ i, i < n → S i = T i) : cnt S k n = cnt T k n := by
  induction n with
  | zero => rfl
  | succ n ih => unfold cnt; rw [ih (fun i hi => h i (by omega)), h n (by omega)]
theorem infoState : (Try.prog.info? 122).map (fun i => (i.zero, i.size, i.bytes)) = some (some (.int .u8 0), 1, 1) := by kernel_rfl
theorem make_states (n : Nat) (hn : n ≤ 4096) (w : World) : (Instr.makeSlice 118 (.int .i64 (n : Int)) (.int .i64 (n : Int))).run Try.prog w = .ok (.slice (some ⟨w.heap.size, 0, none⟩) n n) (w.alloc (.cells (madeCells #[.int .u8 0] n) 122)) :=
  run_make_row' 118 122 (.int .u8 0) 1 Try.underlying118 infoState rfl .i64 .i64 n (by omega) (by omega) w
theorem pairs (w : World) (a b : Value) (t : TypeId) : (w.alloc (.cells #[a, b] t)).cell? ⟨w.heap.size, 0, none⟩ = some a ∧ (w.alloc (.cells #[a, b] t)).cell? ⟨w.heap.size, 1, none⟩ = some b := by
  constructor <;> (rw [World.cell?_alloc_new]; simp)
theorem new_map (f n : Nat) (w : World) (_hf : f ≤ 4096) (hn : n ≤ 4096) :
    Calls Try.prog 59 #[.int .i64 f, .int .i64 ((f + n : Nat) : Int)] w fun e w' => ∃ m g, e = .returned (.pointer (some ⟨m, 0, none⟩)) ∧ MapAt m g f n (fun _ => 0) w' ∧ Below w.heap.size w w' ∧ w.heap.size ≤ m ∧ w.heap.size ≤ g := by
  have hs : IntKind.i64.wrap (((f + n : Nat) : Int) - (f : Int)) = (n : Int) := by rw [IntWalk.i64_in _ (by omega)]; omega
  have hmk := fun wx => make_states n hn wx
  have hn0 : ¬ (n : Int) < 0 := by omega
  generalize hT : f + n = T at hs ⊢
  clear hT
  go_enter Try.func59, Try.ntmps59
  go_wp2_with fail
  go_ret
  have s1 : (w.alloc (.cells (madeCells #[.int .u8 0] n) 122)).heap.size = w.heap.size + 1 := by simp
  have hp := pairs (w.alloc (.cells (madeCells #[.int .u8 0] n) 122)) (.int .i64 f) (.slice (some ⟨w.heap.size, 0, none⟩) n n) 120
  rw [s1] at hp
  exact ⟨w.heap.size + 1, rfl, w.heap.size, ⟨hp.1, hp.2, (World.rowIs_made w (.int .u8 0) n 122).alloc _, by omega⟩, ((Below.refl _ _).alloc (Nat.le_refl _) _).alloc (by omega) _, by omega, by omega⟩
set_option maxHeartbeats 1000000 in
theorem count_any (m g f n : Nat) (S : Nat → Nat) (k : Nat) (w : World) (h : MapAt m g f n S w) (hn : n ≤ 4096) :
    Calls Try.prog 104 #[.pointer (some ⟨m, 0, none⟩), .int .u8 k] w fun e w' => e = .returned (.int .i64 (cnt S k n)) ∧ w = w' := by
  have c1 := h.c1
  have H := Lib.hid h
  clear h
  go_enter Try.func104, Try.ntmps104
  go_wp2_with fail
  go_loopw [5, 13] (fun c i wx => ∃ j : Nat, j ≤ n ∧ i = .int .i64 j ∧ c = .int .i64 (cnt S k j) ∧ wx = w) (fun _ i _ => n - (intOf i).toNat)
  case atStart => exact ⟨0, by omega, rfl, rfl, rfl⟩
  case round =>
    obtain ⟨j, hj, rfl, rfl, rfl⟩ := hrel
    by_cases hlt : j < n
    · have hi1 : (j : Int) < (n : Int) := by omega
      have hi0 : (0 : Int) ≤ (j : Int) := by omega
      have hcell := H.out.row.cell hlt
      have hc2 := cnt_le S k j
      by_cases e : S j = k
      · have HC : Hid (cnt S k (j + 1) = cnt S k j + 1) := Lib.hid (by show cnt S k j + _ = _; rw [if_pos e])
        have e2 : ((S j : Nat) : Int) = (k : Int) := by omega
        generalize cnt S k j = c at *
        go_wp2_with fail
        go_roundw
        case rel => exact ⟨j + 1, by omega, by go_num, by rw [HC.out]; go_num, trivial⟩
        case measure => simp [intOf]; omega
      · have HC : Hid (cnt S k (j + 1) = cnt S k j) := Lib.hid (by show cnt S k j + _ = _; rw [if_neg e]; rfl)
        have e2 : ¬ ((S j : Nat) : Int) = (k : Int) := by omega
        generalize cnt S k j = c at *
        go_wp2_with fail
        go_roundw
        case rel => exact ⟨j + 1, by omega, by go_num, by rw [HC.out], trivial⟩
        case measure => simp [intOf]; omega
    · obtain rfl : j = n := by omega
      have hi1 : ¬ (j : Int) < (j : Int) := by omega
      go_wp2_with fail
      go_ret
      exact ⟨rfl, rfl⟩
theorem has_in (m g f n : Nat) (S : Nat → Nat) (i k : Nat) (w : World) (h : MapAt m g f n S w) (hf : f ≤ 4096) (hn : n ≤ 4096) (hi : i < n) :
    Calls Try.prog 101 #[.pointer (some ⟨m, 0, none⟩), .int .i64 ((f + i : Nat) : Int), .int .u8 k] w fun e w' => e = .returned (.bool (decide (S i = k))) ∧ w.drew = w' := by
  have c0 := h.c0
  have c1 := h.c1
  have hcell := h.row.cell hi
  have e1 : (f : Int) ≤ ((f + i : Nat) : Int) := by omega
  have e2 : IntKind.i64.wrap ((f : Int) + (n : Int)) = (f : Int) + (n : Int) := IntWalk.i64_in _ (by omega)
  have e3 : ((f + i : Nat) : Int) < (f : Int) + (n : Int) := by omega
  have e4 : IntKind.i64.wrap (((f + i : Nat) : Int) - (f : Int)) = (i : Int) := by rw [IntWalk.i64_in _ (by omega)]; omega
  have e5 : (0 : Int) ≤ (i : Int) := by omega
  have e6 : (i : Int) < (n : Int) := by omega
  generalize hT : f + i = T at *
  have e7 : ((S i : Int) == (k : Int)) = decide (S i = k) := by
    rw [Bool.eq_iff_iff]
    simp
    constructor <;> intro _ <;> omega
  clear h hT
  go_enter Try.func101, Try.ntmps101
  go_wp2_with fail
  go_region_held3 (fun wx => wx.cell? ⟨m, 0, none⟩ = some (.int .i64 f) ∧ wx.cell? ⟨m, 1, none⟩ = some (.slice (some ⟨g, 0, none⟩) n n) ∧ wx.cell? ⟨g, i, none⟩ = some (.int .u8 (S i)))
    (exact ⟨c0, c1, hcell⟩) (fail)
  go_wp2_with fail
  go_ret
  exact ⟨rfl, rfl⟩
end Go.Proofs.Ytjjmapmombhmlaa
