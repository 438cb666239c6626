/-
  Texts put together: Grants, Grants2, Grants3, GrantsOut.
-/
import Derived.Test.YtbohpffigmllkaaGreatDoorGrew
import Derived.Test.YtbohpffigmllkaaGreatDoorBoxes
import Derived.Deep.OwnRows
import Derived.Deep.LoopGhost
import Derived.Deep.DeepCutAuto
import Derived.Deep.RegionHeld3
import Derived.IntWalk
import Derived.Laws.AppendOwn
import Derived.Deep.RegionLaw
import Derived.Test.YtbohpffigmllkaaGreatDoorPackOuts
/-
  A map of grants: where it lies, and its calls New, count, has and turn: contracts by walking their text.
-/
namespace Go.Proofs.YtbohpffigmllkaaGreatDoor
open Go.RowKit

/-- a map: its struct at block m, its states at block g -/
structure MapAt (m g f n : Nat) (S : Nat → Nat) (w : World) : Prop where
  c0 : w.cell? ⟨m, 0, none⟩ = some (.int .i64 f)
  c1 : w.cell? ⟨m, 1, none⟩ = some (.slice (some ⟨g, 0, none⟩) n n)
  row : w.rowIs g 135 n (fun i => .int .u8 (S i))
  ne : m ≠ g
theorem MapAt.drew {m g f n : Nat} {S : Nat → Nat} {w : World} (h : MapAt m g f n S w) : MapAt m g f n S w.drew := ⟨h.c0, h.c1, h.row.drew, h.ne⟩
theorem MapAt.ltm {m g f n : Nat} {S : Nat → Nat} {w : World} (h : MapAt m g f n S w) : m < w.heap.size := cell_lt h.c0
theorem MapAt.ltg {m g f n : Nat} {S : Nat → Nat} {w : World} (h : MapAt m g f n S w) : g < w.heap.size := h.row.lt
theorem MapAt.keep {m g f n : Nat} {S : Nat → Nat} {T : Nat → Prop} {w w' : World} (h : MapAt m g f n S w) (k : Grew T w w') (hm : ¬ T m) (hg : ¬ T g) : MapAt m g f n S w' :=
  ⟨by rw [k.cell h.ltm hm]; exact h.c0, by rw [k.cell h.ltm hm]; exact h.c1, h.row.of_block (k.block g h.ltg hg), h.ne⟩
theorem MapAt.below {m g f n : Nat} {S : Nat → Nat} {w w' : World} (h : MapAt m g f n S w) (k : Below w.heap.size w w') : MapAt m g f n S w' :=
  h.keep (Grew.of_below (S := fun _ => False) k) (fun x => x) (fun x => x)
theorem MapAt.congr {m g f n : Nat} {S T : Nat → Nat} {w : World} (h : MapAt m g f n S w) (e : ∀ i, i < n → S i = T i) : MapAt m g f n T w := ⟨h.c0, h.c1, h.row.congr (fun i hi => by rw [e i hi]), h.ne⟩
def upd (S : Nat → Nat) (i v : Nat) : Nat → Nat := fun j => if j = i then v else S j
theorem MapAt.set {m g f n : Nat} {S : Nat → Nat} {w : World} (h : MapAt m g f n S w) (i v : Nat) : MapAt m g f n (upd S i v) (w.setCell ⟨g, i, none⟩ (.int .u8 v)) := by
  refine ⟨by rw [World.cell?_setCell_far _ _ _ _ (fun e => h.ne e.symm)]; exact h.c0, by rw [World.cell?_setCell_far _ _ _ _ (fun e => h.ne e.symm)]; exact h.c1, (h.row.set i _).congr (fun j _ => ?_), h.ne⟩
  unfold upd
  split <;> rfl
/-- of the first n, how many are k -/
def cnt (S : Nat → Nat) (k : Nat) : Nat → Nat
  | 0 => 0
  | n + 1 => cnt S k n + (if S n = k then 1 else 0)
theorem cnt_le (S : Nat → Nat) (k n : Nat) : cnt S k n ≤ n := by
  induction n with
  | zero => exact Nat.le_refl _
  | succ n ih => unfold cnt; split <;> omega
theorem cnt_upd (S : Nat → Nat) (k i v n : Nat) (h : i < n) : cnt (upd S i v) k n + (if S i = k then 1 else 0) = cnt S k n + (if v = k then 1 else 0) := by
  induction n with
  | zero => omega
  | succ n ih =>
    unfold cnt
    by_cases e : i = n
    · subst e
      have hs : ∀ j, j ≤ i → cnt (upd S i v) k j = cnt S k j := by
        intro j hj
        induction j with
        | zero => rfl
        | succ j ih2 =>
          unfold cnt
          have e : upd S i v j = S j := if_neg (by omega)
          rw [ih2 (by omega), e]
      rw [hs i (Nat.le_refl _)]
      have : upd S i v i = v := by unfold upd; rw [if_pos rfl]
      rw [this]
      omega
    · have := ih (by omega)
      have e2 : upd S i v n = S n := by unfold upd; rw [if_neg (fun h => e h.symm)]
      rw [e2]
      omega
theorem cnt_congr (S T : Nat → Nat) (k n : Nat) (h : ∀ i, i < n → S i = T i) : cnt S k n = cnt T k n := by
  induction n with
  | zero => rfl
  | succ n ih => unfold cnt; rw [ih (fun i hi => h i (by omega)), h n (by omega)]
theorem infoState : (Tryz.prog.info? 135).map (fun i => (i.zero, i.size, i.bytes)) = some (some (.int .u8 0), 1, 1) := by kernel_rfl
theorem make_states (n : Nat) (hn : n ≤ 4096) (w : World) : (Instr.makeSlice 120 (.int .i64 (n : Int)) (.int .i64 (n : Int))).run Tryz.prog w = .ok (.slice (some ⟨w.heap.size, 0, none⟩) n n) (w.alloc (.cells (madeCells #[.int .u8 0] n) 135)) :=
  run_make_row' 120 135 (.int .u8 0) 1 Tryz.underlying120 infoState rfl .i64 .i64 n (by omega) (by omega) w
theorem pairs (w : World) (a b : Value) (t : TypeId) : (w.alloc (.cells #[a, b] t)).cell? ⟨w.heap.size, 0, none⟩ = some a ∧ (w.alloc (.cells #[a, b] t)).cell? ⟨w.heap.size, 1, none⟩ = some b := by
  constructor <;> (rw [World.cell?_alloc_new]; simp)
theorem new_map (f n : Nat) (w : World) (_hf : f ≤ 4096) (hn : n ≤ 4096) :
    Calls Tryz.prog 51 #[.int .i64 f, .int .i64 ((f + n : Nat) : Int)] w fun e w' => ∃ m g, e = .returned (.pointer (some ⟨m, 0, none⟩)) ∧ MapAt m g f n (fun _ => 0) w' ∧ Below w.heap.size w w' ∧ w.heap.size ≤ m ∧ w.heap.size ≤ g := by
  have hs : IntKind.i64.wrap (((f + n : Nat) : Int) - (f : Int)) = (n : Int) := by rw [IntWalk.i64_in _ (by omega)]; omega
  have hmk := fun wx => make_states n hn wx
  have hn0 : ¬ (n : Int) < 0 := by omega
  generalize hT : f + n = T at hs ⊢
  clear hT
  go_enter Tryz.func51, Tryz.ntmps51
  go_wp2_with fail
  go_ret
  have s1 : (w.alloc (.cells (madeCells #[.int .u8 0] n) 135)).heap.size = w.heap.size + 1 := by simp
  have hp := pairs (w.alloc (.cells (madeCells #[.int .u8 0] n) 135)) (.int .i64 f) (.slice (some ⟨w.heap.size, 0, none⟩) n n) 122
  rw [s1] at hp
  exact ⟨w.heap.size + 1, rfl, w.heap.size, ⟨hp.1, hp.2, (World.rowIs_made w (.int .u8 0) n 135).alloc _, by omega⟩, ((Below.refl _ _).alloc (Nat.le_refl _) _).alloc (by omega) _, by omega, by omega⟩
set_option maxHeartbeats 1000000 in
theorem count_any (m g f n : Nat) (S : Nat → Nat) (k : Nat) (w : World) (h : MapAt m g f n S w) (hn : n ≤ 4096) :
    Calls Tryz.prog 102 #[.pointer (some ⟨m, 0, none⟩), .int .u8 k] w fun e w' => e = .returned (.int .i64 (cnt S k n)) ∧ w = w' := by
  have c1 := h.c1
  have H := Lib.hid h
  clear h
  go_enter Tryz.func102, Tryz.ntmps102
  go_wp2_with fail
  go_loopw [5, 13] (fun c i wx => ∃ j : Nat, j ≤ n ∧ i = .int .i64 j ∧ c = .int .i64 (cnt S k j) ∧ wx = w) (fun _ i _ => n - (intOf i).toNat)
  case atStart => exact ⟨0, by omega, rfl, rfl, rfl⟩
  case round =>
    obtain ⟨j, hj, rfl, rfl, rfl⟩ := hrel
    by_cases hlt : j < n
    · have hi1 : (j : Int) < (n : Int) := by omega
      have hi0 : (0 : Int) ≤ (j : Int) := by omega
      have hcell := H.out.row.cell hlt
      have hc2 := cnt_le S k j
      by_cases e : S j = k
      · have HC : Hid (cnt S k (j + 1) = cnt S k j + 1) := Lib.hid (by show cnt S k j + _ = _; rw [if_pos e])
        have e2 : ((S j : Nat) : Int) = (k : Int) := by omega
        generalize cnt S k j = c at *
        go_wp2_with fail
        go_roundw
        case rel => exact ⟨j + 1, by omega, by go_num, by rw [HC.out]; go_num, trivial⟩
        case measure => simp [intOf]; omega
      · have HC : Hid (cnt S k (j + 1) = cnt S k j) := Lib.hid (by show cnt S k j + _ = _; rw [if_neg e]; rfl)
        have e2 : ¬ ((S j : Nat) : Int) = (k : Int) := by omega
        generalize cnt S k j = c at *
        go_wp2_with fail
        go_roundw
        case rel => exact ⟨j + 1, by omega, by go_num, by rw [HC.out], trivial⟩
        case measure => simp [intOf]; omega
    · obtain rfl : j = n := by omega
      have hi1 : ¬ (j : Int) < (j : Int) := by omega
      go_wp2_with fail
      go_ret
      exact ⟨rfl, rfl⟩
theorem has_in (m g f n : Nat) (S : Nat → Nat) (i k : Nat) (w : World) (h : MapAt m g f n S w) (hf : f ≤ 4096) (hn : n ≤ 4096) (hi : i < n) :
    Calls Tryz.prog 146 #[.pointer (some ⟨m, 0, none⟩), .int .i64 ((f + i : Nat) : Int), .int .u8 k] w fun e w' => e = .returned (.bool (decide (S i = k))) ∧ w.drew = w' := by
  have c0 := h.c0
  have c1 := h.c1
  have hcell := h.row.cell hi
  have e1 : (f : Int) ≤ ((f + i : Nat) : Int) := by omega
  have e2 : IntKind.i64.wrap ((f : Int) + (n : Int)) = (f : Int) + (n : Int) := IntWalk.i64_in _ (by omega)
  have e3 : ((f + i : Nat) : Int) < (f : Int) + (n : Int) := by omega
  have e4 : IntKind.i64.wrap (((f + i : Nat) : Int) - (f : Int)) = (i : Int) := by rw [IntWalk.i64_in _ (by omega)]; omega
  have e5 : (0 : Int) ≤ (i : Int) := by omega
  have e6 : (i : Int) < (n : Int) := by omega
  generalize hT : f + i = T at *
  have e7 : ((S i : Int) == (k : Int)) = decide (S i = k) := by
    rw [Bool.eq_iff_iff]
    simp
    constructor <;> intro _ <;> omega
  clear h hT
  go_enter Tryz.func146, Tryz.ntmps146
  go_wp2_with fail
  go_region_held3 (fun wx => wx.cell? ⟨m, 0, none⟩ = some (.int .i64 f) ∧ wx.cell? ⟨m, 1, none⟩ = some (.slice (some ⟨g, 0, none⟩) n n) ∧ wx.cell? ⟨g, i, none⟩ = some (.int .u8 (S i)))
    (exact ⟨c0, c1, hcell⟩) (fail)
  go_wp2_with fail
  go_ret
  exact ⟨rfl, rfl⟩
end Go.Proofs.YtbohpffigmllkaaGreatDoor

/-
  A map of grants: the calls that change it, and those that tell of it: contracts.
-/
namespace Go.Proofs.YtbohpffigmllkaaGreatDoor
open Go.RowKit
set_option maxHeartbeats 1000000 in
theorem turn_ok (m g f n : Nat) (S : Nat → Nat) (i a b : Nat) (w : World) (h : MapAt m g f n S w) (hf : f ≤ 4096) (hn : n ≤ 4096) (hi : i < n) (hs : S i = a) :
    Calls Tryz.prog 119 #[.pointer (some ⟨m, 0, none⟩), .int .i64 ((f + i : Nat) : Int), .int .u8 a, .int .u8 b] w fun e w' => e = .returned (.bool true) ∧ (w.setCell ⟨g, i, none⟩ (.int .u8 b)).drew.drew = w' := by
  have HH := Lib.hid (has_in m g f n S i a w h hf hn hi)
  rw [decide_eq_true hs] at HH
  have c0 := h.c0
  have c1 := h.c1
  have hcell := h.row.cell hi
  have hfr := h.row.frozen i
  have HK : Hid ((w.setCell ⟨g, i, none⟩ (.int .u8 b)).cell? ⟨m, 0, none⟩ = some (.int .i64 f) ∧ (w.setCell ⟨g, i, none⟩ (.int .u8 b)).cell? ⟨m, 1, none⟩ = some (.slice (some ⟨g, 0, none⟩) n n)) := Lib.hid ⟨by rw [World.cell?_setCell_far _ _ _ _ (fun e => h.ne e.symm)]; exact c0, by rw [World.cell?_setCell_far _ _ _ _ (fun e => h.ne e.symm)]; exact c1⟩
  have e4 : IntKind.i64.wrap (((f + i : Nat) : Int) - (f : Int)) = (i : Int) := by rw [IntWalk.i64_in _ (by omega)]; omega
  have e5 : (0 : Int) ≤ (i : Int) := by omega
  have e6 : (i : Int) < (n : Int) := by omega
  generalize hT : f + i = T at *
  clear h hT hs
  go_enter Tryz.func119, Tryz.ntmps119
  go_wp2_with fail
  refine HH.out.mono ?_
  rintro e w' ⟨rfl, rfl⟩
  go_wp2_with fail
  go_region_held3 (fun wx => wx.cell? ⟨m, 0, none⟩ = some (.int .i64 f) ∧ wx.cell? ⟨m, 1, none⟩ = some (.slice (some ⟨g, 0, none⟩) n n))
    (first | exact ⟨c0, c1⟩ | exact HK.out) (fail)
  go_wp2_with fail
  go_ret
  exact ⟨rfl, rfl⟩
theorem turn_not (m g f n : Nat) (S : Nat → Nat) (i a b : Nat) (w : World) (h : MapAt m g f n S w) (hf : f ≤ 4096) (hn : n ≤ 4096) (hi : i < n) (hs : ¬ S i = a) :
    Calls Tryz.prog 119 #[.pointer (some ⟨m, 0, none⟩), .int .i64 ((f + i : Nat) : Int), .int .u8 a, .int .u8 b] w fun e w' => e = .returned (.bool false) ∧ w.drew = w' := by
  have HH := Lib.hid (has_in m g f n S i a w h hf hn hi)
  rw [decide_eq_false hs] at HH
  generalize hT : f + i = T at *
  clear h hT hs
  go_enter Tryz.func119, Tryz.ntmps119
  go_wp2_with fail
  refine HH.out.mono ?_
  rintro e w' ⟨rfl, rfl⟩
  go_wp2_with fail
  go_ret
  exact ⟨rfl, rfl⟩
set_option maxHeartbeats 1000000 in
theorem index_any (g n : Nat) (S : Nat → Nat) (w : World) (h : w.rowIs g 135 n (fun i => .int .u8 (S i))) (hn : n ≤ 4096) :
    Calls Tryz.prog 171 #[.slice (some ⟨g, 0, none⟩) n n, .int .u8 0] w fun e w' =>
      ((∃ j, j < n ∧ S j = 0 ∧ (∀ i, i < j → ¬ S i = 0) ∧ e = .returned (.int .i64 j)) ∨ ((∀ i, i < n → ¬ S i = 0) ∧ e = .returned (.int .i64 (-1)))) ∧ w = w' := by
  have H := Lib.hid h
  clear h
  go_enter Tryz.func171, Tryz.ntmps171
  go_wp2_with fail
  go_loopw [8] (fun i wx => ∃ j : Nat, j ≤ n ∧ i = .int .i64 j ∧ (∀ l, l < j → ¬ S l = 0) ∧ wx = w) (fun i _ => n - (intOf i).toNat)
  case atStart => exact ⟨0, by omega, rfl, fun l hl => by omega, rfl⟩
  case round =>
    obtain ⟨j, hj, rfl, hno, rfl⟩ := hrel
    have HN := Lib.hid hno
    clear hno
    by_cases hlt : j < n
    · have hi1 : (j : Int) < (n : Int) := by omega
      have hi0 : (0 : Int) ≤ (j : Int) := by omega
      have hcell := H.out.cell hlt
      by_cases e : S j = 0
      · have e2 : (0 : Int) = ((S j : Nat) : Int) := by omega
        have HE := Lib.hid e
        clear e
        go_wp2_with fail
        go_ret
        exact ⟨Or.inl ⟨j, hlt, HE.out, HN.out, rfl⟩, rfl⟩
      · have e2 : ¬ (0 : Int) = ((S j : Nat) : Int) := by omega
        have HE := Lib.hid e
        clear e
        go_wp2_with fail
        go_roundw
        case rel =>
          refine ⟨j + 1, by omega, by go_num, fun l hl => ?_, trivial⟩
          rcases Nat.lt_or_ge l j with h1 | h1
          · exact HN.out l h1
          · obtain rfl : l = j := by omega
            exact HE.out
        case measure => simp [intOf]; omega
    · obtain rfl : j = n := by omega
      have hi1 : ¬ (j : Int) < (j : Int) := by omega
      go_wp2_with fail
      go_ret
      exact ⟨Or.inr ⟨HN.out, rfl⟩, rfl⟩
theorem infoInt : (Tryz.prog.info? 3).map (fun i => (i.zero, i.size, i.bytes)) = some (some (.int .i64 0), 1, 8) := by kernel_rfl
theorem rowOwn {w : World} {base n z : Nat} {t : TypeId} {v : Value} {xs : List Value} (h : w.ownsRow base t z v n xs) : (∀ k, v.ownBlock = some k → base ≤ k) ∧ ∃ a c, v = .slice a n c := by
  rcases h.2 with ⟨rfl, h0⟩ | ⟨g', cap', cur, rfl, hb, _⟩
  · refine ⟨fun k hk => (by cases hk), ?_⟩
    subst h0
    exact ⟨none, 0, rfl⟩
  · exact ⟨fun k hk => (by simp [Value.ownBlock] at hk; omega), _, _, rfl⟩
set_option maxRecDepth 10000 in
set_option maxHeartbeats 1000000 in
theorem all_len (m g f n : Nat) (S : Nat → Nat) (w : World) (h : MapAt m g f n S w) (hf : f ≤ 4096) (hn : n ≤ 4096) :
    Calls Tryz.prog 79 #[.pointer (some ⟨m, 0, none⟩)] w fun e w' => (∃ a c, e = .returned (.slice a (cnt S 1 n) c)) ∧ Below w.heap.size w w' := by
  have c1 := h.c1
  have H := Lib.hid h
  clear h
  go_enter Tryz.func79, Tryz.ntmps79
  obtain ⟨i0, hi, hz0, hz1, hz2⟩ := info_parts infoInt
  have HI0 := Lib.hid hi
  have HI1 := Lib.hid hz0
  have HI2 := Lib.hid hz1
  have HI3 := Lib.hid hz2
  clear hi hz0 hz1 hz2
  go_wp2_with fail
  go_loopw [3, 11] (fun v i wx => ∃ j : Nat, j ≤ n ∧ i = .int .i64 j ∧ (∃ xs, wx.ownsRow w.heap.size 3 1 v (cnt S 1 j) xs) ∧ Below w.heap.size w wx) (fun _ i _ => n - (intOf i).toNat)
  case atStart => exact ⟨0, by omega, rfl, ⟨[], by simp [World.ownsRow, cnt]⟩, Below.refl _ _⟩
  case round =>
    obtain ⟨j, hj, rfl, ⟨xs, hown⟩, hB⟩ := hrel
    have HO := Lib.hid hown
    have HB := Lib.hid hB
    clear hown hB
    by_cases hlt : j < n
    · have hi1 : (j : Int) < (n : Int) := by omega
      have hi0 : (0 : Int) ≤ (j : Int) := by omega
      have hcell := (H.out.below HB.out).row.cell hlt
      have hc0 := (H.out.below HB.out).c0
      have hc2 := cnt_le S 1 j
      have e9 : IntKind.i64.wrap ((f : Int) + (j : Int)) = (f : Int) + (j : Int) := IntWalk.i64_in _ (by omega)
      by_cases e : S j = 1
      · have HC : Hid (cnt S 1 (j + 1) = cnt S 1 j + 1) := Lib.hid (by show cnt S 1 j + _ = _; rw [if_pos e])
        have e2 : ((S j : Nat) : Int) = 1 := by omega
        generalize cnt S 1 j = c at *
        go_wp2_with (at_builtin; refine wpList_append_own _ rfl _ _ 54 rfl w.heap.size 3 i0 (.int .i64 0) 1 8 Tryz.underlying54 HI0.out HI1.out HI2.out HI3.out rfl (by decide) _ _ _ rfl (HO.out.alloc _) ⟨wr.heap.size, 0, none⟩ 1 1 [.int .i64 ((f : Int) + (j : Int))] rfl rfl ?c1 ?c2 ?c3 ?c4 ?c5 ?_)
        case c1 => exact news_one wr _ _
        case c2 => first | rfl | (intro u hu; simp at hu; subst hu; rfl)
        case c3 => first | omega | (unfold maxLen; omega)
        case c4 => omega
        case c5 => have := HB.out.size; first | omega | (simp; omega)
        · intro v' w1 hown' hgrow _
          have HO1 := Lib.hid hown'
          have HB1 := Lib.hid ((HB.out.alloc HB.out.size (.cells #[.int .i64 ((f : Int) + (j : Int))] 3)).grown hgrow (by have := HB.out.size; simp; omega) (rowOwn HO.out).1)
          clear hown' hgrow
          go_wp2
          go_roundw
          case rel => exact ⟨j + 1, by omega, by go_num, ⟨_, by rw [HC.out]; exact HO1.out⟩, HB1.out⟩
          case measure => simp [intOf]; omega
      · have HC : Hid (cnt S 1 (j + 1) = cnt S 1 j) := Lib.hid (by show cnt S 1 j + _ = _; rw [if_neg e]; rfl)
        have e2 : ¬ ((S j : Nat) : Int) = 1 := by omega
        generalize cnt S 1 j = c at *
        generalize S j = q at *
        have e3 : ((q : Int) == 1) = false := by rw [beq_eq_false_iff_ne]; exact e2
        go_wp2_with fail
        go_roundw
        case rel => exact ⟨j + 1, by omega, by go_num, ⟨xs, by rw [HC.out]; exact HO.out⟩, HB.out⟩
        case measure => simp [intOf]; omega
    · obtain rfl : j = n := by omega
      have hi1 : ¬ (j : Int) < (j : Int) := by omega
      obtain ⟨_, a, c, rfl⟩ := rowOwn HO.out
      go_wp2_with fail
      go_ret
      exact ⟨⟨a, c, rfl⟩, HB.out⟩
end Go.Proofs.YtbohpffigmllkaaGreatDoor

/-
  A map of grants: Take, Hold, Give, Later, Back, Is, Free, Late, Held: contracts.
-/
namespace Go.Proofs.YtbohpffigmllkaaGreatDoor
open Go.RowKit

/-- what a call that turns a sector from a to b answers and leaves -/
def Turned (m g f n : Nat) (S : Nat → Nat) (i a b : Nat) (w : World) (r : Bool) (w' : World) : Prop :=
  ((S i = a → r = true ∧ MapAt m g f n (upd S i b) w') ∧ (¬ S i = a → r = false ∧ MapAt m g f n S w')) ∧ Grew (fun k => k = g) w w'
theorem turn_any (m g f n : Nat) (S : Nat → Nat) (i a b : Nat) (w : World) (h : MapAt m g f n S w) (hf : f ≤ 4096) (hn : n ≤ 4096) (hi : i < n) :
    Calls Tryz.prog 119 #[.pointer (some ⟨m, 0, none⟩), .int .i64 ((f + i : Nat) : Int), .int .u8 a, .int .u8 b] w fun e w' => ∃ r, e = .returned (.bool r) ∧ Turned m g f n S i a b w r w' := by
  by_cases hs : S i = a
  · refine (turn_ok m g f n S i a b w h hf hn hi hs).mono ?_
    rintro e w' ⟨rfl, rfl⟩
    exact ⟨true, rfl, ⟨fun _ => ⟨rfl, (h.set i b).drew.drew⟩, fun k => absurd hs k⟩, ((Grew.refl (S := fun k => k = g) w).setCell ⟨g, i, none⟩ _ (fun _ => rfl)).drew.drew⟩
  · refine (turn_not m g f n S i a b w h hf hn hi hs).mono ?_
    rintro e w' ⟨rfl, rfl⟩
    exact ⟨false, rfl, ⟨fun k => absurd k hs, fun _ => ⟨rfl, h.drew⟩⟩, (Grew.refl w).drew⟩
theorem give_any (m g f n : Nat) (S : Nat → Nat) (i : Nat) (w : World) (h : MapAt m g f n S w) (hf : f ≤ 4096) (hn : n ≤ 4096) (hi : i < n) :
    Calls Tryz.prog 92 #[.pointer (some ⟨m, 0, none⟩), .int .i64 ((f + i : Nat) : Int)] w fun e w' => ∃ r, e = .returned (.bool r) ∧ Turned m g f n S i 1 0 w r w' := by
  have HT := Lib.hid (turn_any m g f n S i 1 0 w h hf hn hi)
  generalize Turned m g f n S i 1 0 w = Z at HT ⊢
  generalize f + i = T at HT ⊢
  clear h hf hn hi
  go_enter Tryz.func92, Tryz.ntmps92
  go_wp2_with fail
  refine HT.out.mono ?_
  rintro e w' ⟨r, rfl, hz⟩
  have HZ := Lib.hid hz
  clear hz HT
  go_wp2_with fail
  go_ret
  exact ⟨r, rfl, HZ.out⟩
theorem later_any (m g f n : Nat) (S : Nat → Nat) (i : Nat) (w : World) (h : MapAt m g f n S w) (hf : f ≤ 4096) (hn : n ≤ 4096) (hi : i < n) :
    Calls Tryz.prog 136 #[.pointer (some ⟨m, 0, none⟩), .int .i64 ((f + i : Nat) : Int)] w fun e w' => ∃ r, e = .returned (.bool r) ∧ Turned m g f n S i 1 2 w r w' := by
  have HT := Lib.hid (turn_any m g f n S i 1 2 w h hf hn hi)
  generalize Turned m g f n S i 1 2 w = Z at HT ⊢
  generalize f + i = T at HT ⊢
  clear h hf hn hi
  go_enter Tryz.func136, Tryz.ntmps136
  go_wp2_with fail
  refine HT.out.mono ?_
  rintro e w' ⟨r, rfl, hz⟩
  have HZ := Lib.hid hz
  clear hz HT
  go_wp2_with fail
  go_ret
  exact ⟨r, rfl, HZ.out⟩
theorem back_any (m g f n : Nat) (S : Nat → Nat) (i : Nat) (w : World) (h : MapAt m g f n S w) (hf : f ≤ 4096) (hn : n ≤ 4096) (hi : i < n) :
    Calls Tryz.prog 91 #[.pointer (some ⟨m, 0, none⟩), .int .i64 ((f + i : Nat) : Int)] w fun e w' => ∃ r, e = .returned (.bool r) ∧ Turned m g f n S i 2 1 w r w' := by
  have HT := Lib.hid (turn_any m g f n S i 2 1 w h hf hn hi)
  generalize Turned m g f n S i 2 1 w = Z at HT ⊢
  generalize f + i = T at HT ⊢
  clear h hf hn hi
  go_enter Tryz.func91, Tryz.ntmps91
  go_wp2_with fail
  refine HT.out.mono ?_
  rintro e w' ⟨r, rfl, hz⟩
  have HZ := Lib.hid hz
  clear hz HT
  go_wp2_with fail
  go_ret
  exact ⟨r, rfl, HZ.out⟩
theorem free_any (m g f n : Nat) (S : Nat → Nat) (w : World) (h : MapAt m g f n S w) (hn : n ≤ 4096) :
    Calls Tryz.prog 170 #[.pointer (some ⟨m, 0, none⟩)] w fun e w' => e = .returned (.int .i64 (cnt S 0 n)) ∧ w = w' := by
  have HT := Lib.hid (count_any m g f n S 0 w h hn)
  generalize cnt S 0 n = c at HT ⊢
  clear h hn
  go_enter Tryz.func170, Tryz.ntmps170
  go_wp2_with fail
  refine HT.out.mono ?_
  rintro e w' ⟨rfl, rfl⟩
  go_wp2_with fail
  go_ret
  exact ⟨rfl, rfl⟩
theorem held_any (m g f n : Nat) (S : Nat → Nat) (w : World) (h : MapAt m g f n S w) (hn : n ≤ 4096) :
    Calls Tryz.prog 70 #[.pointer (some ⟨m, 0, none⟩)] w fun e w' => e = .returned (.int .i64 (cnt S 1 n)) ∧ w = w' := by
  have HT := Lib.hid (count_any m g f n S 1 w h hn)
  generalize cnt S 1 n = c at HT ⊢
  clear h hn
  go_enter Tryz.func70, Tryz.ntmps70
  go_wp2_with fail
  refine HT.out.mono ?_
  rintro e w' ⟨rfl, rfl⟩
  go_wp2_with fail
  go_ret
  exact ⟨rfl, rfl⟩
theorem late_any (m g f n : Nat) (S : Nat → Nat) (w : World) (h : MapAt m g f n S w) (hn : n ≤ 4096) :
    Calls Tryz.prog 62 #[.pointer (some ⟨m, 0, none⟩)] w fun e w' => e = .returned (.int .i64 (cnt S 2 n)) ∧ w = w' := by
  have HT := Lib.hid (count_any m g f n S 2 w h hn)
  generalize cnt S 2 n = c at HT ⊢
  clear h hn
  go_enter Tryz.func62, Tryz.ntmps62
  go_wp2_with fail
  refine HT.out.mono ?_
  rintro e w' ⟨rfl, rfl⟩
  go_wp2_with fail
  go_ret
  exact ⟨rfl, rfl⟩
theorem is_any (m g f n : Nat) (S : Nat → Nat) (i : Nat) (w : World) (h : MapAt m g f n S w) (hf : f ≤ 4096) (hn : n ≤ 4096) (hi : i < n) :
    Calls Tryz.prog 128 #[.pointer (some ⟨m, 0, none⟩), .int .i64 ((f + i : Nat) : Int)] w fun e w' => e = .returned (.bool (decide (S i = 1))) ∧ w.drew = w' := by
  have HT := Lib.hid (has_in m g f n S i 1 w h hf hn hi)
  generalize decide (S i = 1) = c at HT ⊢
  generalize f + i = T at HT ⊢
  clear h hf hn hi
  go_enter Tryz.func128, Tryz.ntmps128
  go_wp2_with fail
  refine HT.out.mono ?_
  rintro e w' ⟨rfl, rfl⟩
  go_wp2_with fail
  go_ret
  exact ⟨rfl, rfl⟩
/-- what Take answers and leaves -/
inductive Taken (m g f n : Nat) (S : Nat → Nat) (w : World) : Value → World → Prop where
  | one (j : Nat) (w' : World) (hj : j < n) (h0 : S j = 0) (hno : ∀ i, i < j → ¬ S i = 0) (h : MapAt m g f n (upd S j 1) w') (hg : Grew (fun k => k = g) w w') : Taken m g f n S w (.tuple #[.int .i64 ((f + j : Nat) : Int), .bool true]) w'
  | none (w' : World) (hno : ∀ i, i < n → ¬ S i = 0) (h : MapAt m g f n S w') (hg : Grew (fun k => k = g) w w') : Taken m g f n S w (.tuple #[.int .i64 0, .bool false]) w'
set_option maxHeartbeats 1000000 in
theorem take_any (m g f n : Nat) (S : Nat → Nat) (w : World) (h : MapAt m g f n S w) (hf : f ≤ 4096) (hn : n ≤ 4096) :
    Calls Tryz.prog 152 #[.pointer (some ⟨m, 0, none⟩)] w fun e w' => ∃ v, e = .returned v ∧ Taken m g f n S w v w' := by
  have c0 := h.c0
  have c1 := h.c1
  have HX := Lib.hid (index_any g n S w h.row hn)
  have H := Lib.hid h
  clear h
  go_enter Tryz.func152, Tryz.ntmps152
  go_wp2_with fail
  refine HX.out.mono ?_
  rintro e w' ⟨⟨j, hj, h0, hno, rfl⟩ | ⟨hno, rfl⟩, rfl⟩
  · have hcell := H.out.row.cell hj
    have hfr := H.out.row.frozen j
    have e5 : ¬ (j : Int) < 0 := by omega
    have e6 : (j : Int) < (n : Int) := by omega
    have e4 : IntKind.i64.wrap ((f : Int) + (j : Int)) = (f : Int) + (j : Int) := IntWalk.i64_in _ (by omega)
    have c0' : (w.setCell ⟨g, j, none⟩ (.int .u8 1)).cell? ⟨m, 0, none⟩ = some (.int .i64 f) := by rw [World.cell?_setCell_far _ _ _ _ (fun e => H.out.ne e.symm)]; exact c0
    have HN := Lib.hid hno
    have H0 := Lib.hid h0
    clear hno h0 HX
    go_wp2_with fail
    go_ret2
    exact ⟨_, rfl, Taken.one j _ hj H0.out HN.out (H.out.set j 1) ((Grew.refl (S := fun k => k = g) w).setCell ⟨g, j, none⟩ _ (fun _ => rfl))⟩
  · have HN := Lib.hid hno
    clear hno HX
    go_wp2_with fail
    go_ret2
    exact ⟨_, rfl, Taken.none _ HN.out H.out (Grew.refl _)⟩
end Go.Proofs.YtbohpffigmllkaaGreatDoor

/-
  A map of grants, of what it hasn't: contracts (written by gen_hout.py).
-/
namespace Go.Proofs.YtbohpffigmllkaaGreatDoor
open Go.RowKit

set_option maxRecDepth 10000 in
set_option maxHeartbeats 1000000 in
theorem has_out (m g f n : Nat) (S : Nat → Nat) (at' : Int) (k : Nat) (w : World) (h : MapAt m g f n S w) (hf : f ≤ 4096) (hn : n ≤ 4096) (ho : at' < f ∨ ((f + n : Nat) : Int) ≤ at') :
    Calls Tryz.prog 146 #[.pointer (some ⟨m, 0, none⟩), .int .i64 at', .int .u8 k] w fun e w' => e = .returned (.bool false) ∧ w.drew = w' := by
  have c0 := h.c0
  have c1 := h.c1
  have e2 : IntKind.i64.wrap ((f : Int) + (n : Int)) = (f : Int) + (n : Int) := IntWalk.i64_in _ (by omega)
  clear h
  by_cases hlt : at' < f
  · have e1 : ¬ (f : Int) ≤ at' := by omega
    have e1' : decide ((f : Int) ≤ at') = false := decide_eq_false e1
    clear ho
    go_enter Tryz.func146, Tryz.ntmps146
    go_wp2_with fail
    refine wp_region_held_drew (S := fun wx => wx.cell? ⟨m, 0, none⟩ = some (.int .i64 f) ∧ wx.cell? ⟨m, 1, none⟩ = some (.slice (some ⟨g, 0, none⟩) n n)) (by kernel_rfl) (And.intro c0 c1) (fun hHeld => ?_)
    refine wpAnyH_take (i := 0) (oi := { dst := some 7, op := Op.move (Operand.tmp 0), type := 69, pos := "grants.go:59", after := #[], guard := none }) (v := ?_) rfl (by kernel_rfl) (by kernel_rfl) (by kernel_rfl) (fun _ _ _ h => h) (Or.inl ⟨by rfl, ?_⟩) (by assumption) ?_
    rotate_left
    · (intro wz hSw; (try dsimp only at hSw); go_simp; try with_reducible rfl)
    try simp only [Act.put, List.setIfInBounds_toArray, List.set_cons_zero, List.set_cons_succ]
    refine wpAnyH_take (i := 1) (oi := { dst := some 8, op := Op.nilCheck (Operand.tmp 7), type := 0, pos := "grants.go:59", after := #[{ on := 0, ground := Ground.data }], guard := none }) (v := ?_) rfl (by kernel_rfl) (by kernel_rfl) (by kernel_rfl) (fun _ _ _ h => h) (Or.inl ⟨by rfl, ?_⟩) (by assumption) ?_
    rotate_left
    · (intro wz hSw; (try dsimp only at hSw); go_simp; try with_reducible rfl)
    try simp only [Act.put, List.setIfInBounds_toArray, List.set_cons_zero, List.set_cons_succ]
    refine wpAnyH_take (i := 2) (oi := { dst := some 9, op := Op.fieldAddr 122 (Operand.tmp 8) 0, type := 0, pos := "grants.go:59", after := #[{ on := 1, ground := Ground.data }], guard := none }) (v := ?_) rfl (by kernel_rfl) (by kernel_rfl) (by kernel_rfl) (fun _ _ _ h => h) (Or.inl ⟨by rfl, ?_⟩) (by assumption) ?_
    rotate_left
    · (intro wz hSw; (try dsimp only at hSw); go_simp; try with_reducible rfl)
    try simp only [Act.put, List.setIfInBounds_toArray, List.set_cons_zero, List.set_cons_succ]
    refine wpAnyH_take (i := 3) (oi := { dst := some 10, op := Op.load 3 (Operand.tmp 9), type := 3, pos := "grants.go:59", after := #[{ on := 2, ground := Ground.data }], guard := none }) (v := ?_) rfl (by kernel_rfl) (by kernel_rfl) (by kernel_rfl) (fun _ _ _ h => h) (Or.inl ⟨by rfl, ?_⟩) (by assumption) ?_
    rotate_left
    · (intro wz hSw; (try dsimp only at hSw); go_simp; try with_reducible rfl)
    try simp only [Act.put, List.setIfInBounds_toArray, List.set_cons_zero, List.set_cons_succ]
    refine wpAnyH_take (i := 4) (oi := { dst := some 11, op := Op.move (Operand.tmp 1), type := 3, pos := "grants.go:59", after := #[], guard := none }) (v := ?_) rfl (by kernel_rfl) (by kernel_rfl) (by kernel_rfl) (fun _ _ _ h => h) (Or.inl ⟨by rfl, ?_⟩) (by assumption) ?_
    rotate_left
    · (intro wz hSw; (try dsimp only at hSw); go_simp; try with_reducible rfl)
    try simp only [Act.put, List.setIfInBounds_toArray, List.set_cons_zero, List.set_cons_succ]
    refine wpAnyH_take (i := 5) (oi := { dst := some 12, op := Op.binOp BinOp.leq 3 (Operand.tmp 10) (Operand.tmp 11) 3, type := 4, pos := "grants.go:59", after := #[{ on := 3, ground := Ground.data }, { on := 4, ground := Ground.data }], guard := none }) (v := ?_) rfl (by kernel_rfl) (by kernel_rfl) (by kernel_rfl) (fun _ _ _ h => h) (Or.inl ⟨by rfl, ?_⟩) (by assumption) ?_
    rotate_left
    · (intro wz hSw; (try dsimp only at hSw); go_simp; try with_reducible rfl)
    try simp only [Act.put, List.setIfInBounds_toArray, List.set_cons_zero, List.set_cons_succ]
    refine wpAnyH_take (i := 6) (oi := { dst := some 13, op := Op.move (Operand.tmp 12), type := 4, pos := "grants.go:59", after := #[{ on := 5, ground := Ground.data }], guard := none }) (v := ?_) rfl (by kernel_rfl) (by kernel_rfl) (by kernel_rfl) (fun _ _ _ h => h) (Or.inl ⟨by rfl, ?_⟩) (by assumption) ?_
    rotate_left
    · (intro wz hSw; (try dsimp only at hSw); go_simp; try with_reducible rfl)
    try simp only [Act.put, List.setIfInBounds_toArray, List.set_cons_zero, List.set_cons_succ]
    refine wpAnyH_take (i := 7) (oi := { dst := some 14, op := Op.move (Operand.tmp 1), type := 3, pos := "grants.go:59", after := #[{ on := 6, ground := Ground.guard }], guard := some (6, true) }) (v := undef) rfl (by kernel_rfl) (by kernel_rfl) (by kernel_rfl) (fun _ _ _ h => h) (Or.inr ⟨by rfl, rfl⟩) (by assumption) ?_
    try simp only [Act.put, List.setIfInBounds_toArray, List.set_cons_zero, List.set_cons_succ]
    refine wpAnyH_take (i := 8) (oi := { dst := some 15, op := Op.move (Operand.tmp 0), type := 69, pos := "grants.go:59", after := #[{ on := 6, ground := Ground.guard }], guard := some (6, true) }) (v := undef) rfl (by kernel_rfl) (by kernel_rfl) (by kernel_rfl) (fun _ _ _ h => h) (Or.inr ⟨by rfl, rfl⟩) (by assumption) ?_
    try simp only [Act.put, List.setIfInBounds_toArray, List.set_cons_zero, List.set_cons_succ]
    refine wpAnyH_take (i := 9) (oi := { dst := some 16, op := Op.nilCheck (Operand.tmp 15), type := 0, pos := "grants.go:59", after := #[{ on := 8, ground := Ground.data }, { on := 6, ground := Ground.guard }], guard := some (6, true) }) (v := undef) rfl (by kernel_rfl) (by kernel_rfl) (by kernel_rfl) (fun _ _ _ h => h) (Or.inr ⟨by rfl, rfl⟩) (by assumption) ?_
    try simp only [Act.put, List.setIfInBounds_toArray, List.set_cons_zero, List.set_cons_succ]
    refine wpAnyH_take (i := 10) (oi := { dst := some 17, op := Op.fieldAddr 122 (Operand.tmp 16) 0, type := 0, pos := "grants.go:59", after := #[{ on := 9, ground := Ground.data }, { on := 6, ground := Ground.guard }], guard := some (6, true) }) (v := undef) rfl (by kernel_rfl) (by kernel_rfl) (by kernel_rfl) (fun _ _ _ h => h) (Or.inr ⟨by rfl, rfl⟩) (by assumption) ?_
    try simp only [Act.put, List.setIfInBounds_toArray, List.set_cons_zero, List.set_cons_succ]
    refine wpAnyH_take (i := 11) (oi := { dst := some 18, op := Op.load 3 (Operand.tmp 17), type := 3, pos := "grants.go:59", after := #[{ on := 10, ground := Ground.data }, { on := 6, ground := Ground.guard }], guard := some (6, true) }) (v := undef) rfl (by kernel_rfl) (by kernel_rfl) (by kernel_rfl) (fun _ _ _ h => h) (Or.inr ⟨by rfl, rfl⟩) (by assumption) ?_
    try simp only [Act.put, List.setIfInBounds_toArray, List.set_cons_zero, List.set_cons_succ]
    refine wpAnyH_take (i := 12) (oi := { dst := some 19, op := Op.move (Operand.tmp 0), type := 69, pos := "grants.go:59", after := #[{ on := 6, ground := Ground.guard }], guard := some (6, true) }) (v := undef) rfl (by kernel_rfl) (by kernel_rfl) (by kernel_rfl) (fun _ _ _ h => h) (Or.inr ⟨by rfl, rfl⟩) (by assumption) ?_
    try simp only [Act.put, List.setIfInBounds_toArray, List.set_cons_zero, List.set_cons_succ]
    refine wpAnyH_take (i := 13) (oi := { dst := some 20, op := Op.nilCheck (Operand.tmp 19), type := 0, pos := "grants.go:59", after := #[{ on := 12, ground := Ground.data }, { on := 6, ground := Ground.guard }], guard := some (6, true) }) (v := undef) rfl (by kernel_rfl) (by kernel_rfl) (by kernel_rfl) (fun _ _ _ h => h) (Or.inr ⟨by rfl, rfl⟩) (by assumption) ?_
    try simp only [Act.put, List.setIfInBounds_toArray, List.set_cons_zero, List.set_cons_succ]
    refine wpAnyH_take (i := 14) (oi := { dst := some 21, op := Op.fieldAddr 122 (Operand.tmp 20) 1, type := 0, pos := "grants.go:59", after := #[{ on := 13, ground := Ground.data }, { on := 6, ground := Ground.guard }], guard := some (6, true) }) (v := undef) rfl (by kernel_rfl) (by kernel_rfl) (by kernel_rfl) (fun _ _ _ h => h) (Or.inr ⟨by rfl, rfl⟩) (by assumption) ?_
    try simp only [Act.put, List.setIfInBounds_toArray, List.set_cons_zero, List.set_cons_succ]
    refine wpAnyH_take (i := 15) (oi := { dst := some 22, op := Op.load 120 (Operand.tmp 21), type := 120, pos := "grants.go:59", after := #[{ on := 14, ground := Ground.data }, { on := 6, ground := Ground.guard }], guard := some (6, true) }) (v := undef) rfl (by kernel_rfl) (by kernel_rfl) (by kernel_rfl) (fun _ _ _ h => h) (Or.inr ⟨by rfl, rfl⟩) (by assumption) ?_
    try simp only [Act.put, List.setIfInBounds_toArray, List.set_cons_zero, List.set_cons_succ]
    refine wpAnyH_take (i := 16) (oi := { dst := some 23, op := Op.call { callee := Callee.builtin Builtin.len, args := #[Operand.tmp 22], argTypes := #[120] }, type := 3, pos := "grants.go:59", after := #[{ on := 15, ground := Ground.data }, { on := 6, ground := Ground.guard }], guard := some (6, true) }) (v := undef) rfl (by kernel_rfl) (by kernel_rfl) (by kernel_rfl) (fun _ _ _ h => h) (Or.inr ⟨by rfl, rfl⟩) (by assumption) ?_
    try simp only [Act.put, List.setIfInBounds_toArray, List.set_cons_zero, List.set_cons_succ]
    refine wpAnyH_take (i := 17) (oi := { dst := some 24, op := Op.binOp BinOp.add 3 (Operand.tmp 18) (Operand.tmp 23) 3, type := 3, pos := "grants.go:59", after := #[{ on := 11, ground := Ground.data }, { on := 16, ground := Ground.data }, { on := 6, ground := Ground.guard }], guard := some (6, true) }) (v := undef) rfl (by kernel_rfl) (by kernel_rfl) (by kernel_rfl) (fun _ _ _ h => h) (Or.inr ⟨by rfl, rfl⟩) (by assumption) ?_
    try simp only [Act.put, List.setIfInBounds_toArray, List.set_cons_zero, List.set_cons_succ]
    refine wpAnyH_take (i := 18) (oi := { dst := some 25, op := Op.binOp BinOp.lss 3 (Operand.tmp 14) (Operand.tmp 24) 3, type := 4, pos := "grants.go:59", after := #[{ on := 7, ground := Ground.data }, { on := 17, ground := Ground.data }, { on := 6, ground := Ground.guard }], guard := some (6, true) }) (v := undef) rfl (by kernel_rfl) (by kernel_rfl) (by kernel_rfl) (fun _ _ _ h => h) (Or.inr ⟨by rfl, rfl⟩) (by assumption) ?_
    try simp only [Act.put, List.setIfInBounds_toArray, List.set_cons_zero, List.set_cons_succ]
    refine wpAnyH_take (i := 19) (oi := { dst := some 26, op := Op.pick (Operand.tmp 13) (Operand.tmp 25) (Operand.const (Value.bool false)), type := 4, pos := "grants.go:59", after := #[{ on := 6, ground := Ground.data }, { on := 18, ground := Ground.data }], guard := none }) (v := ?_) rfl (by kernel_rfl) (by kernel_rfl) (by kernel_rfl) (fun _ _ _ h => h) (Or.inl ⟨by rfl, ?_⟩) (by assumption) ?_
    rotate_left
    · (intro wz hSw; (try dsimp only at hSw); go_simp; try with_reducible rfl)
    try simp only [Act.put, List.setIfInBounds_toArray, List.set_cons_zero, List.set_cons_succ]
    refine wpAnyH_take (i := 20) (oi := { dst := some 27, op := Op.move (Operand.tmp 26), type := 4, pos := "grants.go:59", after := #[{ on := 19, ground := Ground.data }, { on := 6, ground := Ground.chain }], guard := none }) (v := ?_) rfl (by kernel_rfl) (by kernel_rfl) (by kernel_rfl) (fun _ _ _ h => h) (Or.inl ⟨by rfl, ?_⟩) (by assumption) ?_
    rotate_left
    · (intro wz hSw; (try dsimp only at hSw); go_simp; try with_reducible rfl)
    try simp only [Act.put, List.setIfInBounds_toArray, List.set_cons_zero, List.set_cons_succ]
    refine wpAnyH_take (i := 21) (oi := { dst := some 28, op := Op.move (Operand.tmp 0), type := 69, pos := "grants.go:59", after := #[{ on := 20, ground := Ground.guard }], guard := some (20, true) }) (v := undef) rfl (by kernel_rfl) (by kernel_rfl) (by kernel_rfl) (fun _ _ _ h => h) (Or.inr ⟨by rfl, rfl⟩) (by assumption) ?_
    try simp only [Act.put, List.setIfInBounds_toArray, List.set_cons_zero, List.set_cons_succ]
    refine wpAnyH_take (i := 22) (oi := { dst := some 29, op := Op.nilCheck (Operand.tmp 28), type := 0, pos := "grants.go:59", after := #[{ on := 21, ground := Ground.data }, { on := 20, ground := Ground.guard }], guard := some (20, true) }) (v := undef) rfl (by kernel_rfl) (by kernel_rfl) (by kernel_rfl) (fun _ _ _ h => h) (Or.inr ⟨by rfl, rfl⟩) (by assumption) ?_
    try simp only [Act.put, List.setIfInBounds_toArray, List.set_cons_zero, List.set_cons_succ]
    refine wpAnyH_take (i := 23) (oi := { dst := some 30, op := Op.fieldAddr 122 (Operand.tmp 29) 1, type := 0, pos := "grants.go:59", after := #[{ on := 22, ground := Ground.data }, { on := 20, ground := Ground.guard }], guard := some (20, true) }) (v := undef) rfl (by kernel_rfl) (by kernel_rfl) (by kernel_rfl) (fun _ _ _ h => h) (Or.inr ⟨by rfl, rfl⟩) (by assumption) ?_
    try simp only [Act.put, List.setIfInBounds_toArray, List.set_cons_zero, List.set_cons_succ]
    refine wpAnyH_take (i := 24) (oi := { dst := some 31, op := Op.load 120 (Operand.tmp 30), type := 120, pos := "grants.go:59", after := #[{ on := 23, ground := Ground.data }, { on := 20, ground := Ground.guard }], guard := some (20, true) }) (v := undef) rfl (by kernel_rfl) (by kernel_rfl) (by kernel_rfl) (fun _ _ _ h => h) (Or.inr ⟨by rfl, rfl⟩) (by assumption) ?_
    try simp only [Act.put, List.setIfInBounds_toArray, List.set_cons_zero, List.set_cons_succ]
    refine wpAnyH_take (i := 25) (oi := { dst := some 32, op := Op.move (Operand.tmp 1), type := 3, pos := "grants.go:59", after := #[{ on := 20, ground := Ground.guard }], guard := some (20, true) }) (v := undef) rfl (by kernel_rfl) (by kernel_rfl) (by kernel_rfl) (fun _ _ _ h => h) (Or.inr ⟨by rfl, rfl⟩) (by assumption) ?_
    try simp only [Act.put, List.setIfInBounds_toArray, List.set_cons_zero, List.set_cons_succ]
    refine wpAnyH_take (i := 26) (oi := { dst := some 33, op := Op.move (Operand.tmp 0), type := 69, pos := "grants.go:59", after := #[{ on := 20, ground := Ground.guard }], guard := some (20, true) }) (v := undef) rfl (by kernel_rfl) (by kernel_rfl) (by kernel_rfl) (fun _ _ _ h => h) (Or.inr ⟨by rfl, rfl⟩) (by assumption) ?_
    try simp only [Act.put, List.setIfInBounds_toArray, List.set_cons_zero, List.set_cons_succ]
    refine wpAnyH_take (i := 27) (oi := { dst := some 34, op := Op.nilCheck (Operand.tmp 33), type := 0, pos := "grants.go:59", after := #[{ on := 26, ground := Ground.data }, { on := 20, ground := Ground.guard }], guard := some (20, true) }) (v := undef) rfl (by kernel_rfl) (by kernel_rfl) (by kernel_rfl) (fun _ _ _ h => h) (Or.inr ⟨by rfl, rfl⟩) (by assumption) ?_
    try simp only [Act.put, List.setIfInBounds_toArray, List.set_cons_zero, List.set_cons_succ]
    refine wpAnyH_take (i := 28) (oi := { dst := some 35, op := Op.fieldAddr 122 (Operand.tmp 34) 0, type := 0, pos := "grants.go:59", after := #[{ on := 27, ground := Ground.data }, { on := 20, ground := Ground.guard }], guard := some (20, true) }) (v := undef) rfl (by kernel_rfl) (by kernel_rfl) (by kernel_rfl) (fun _ _ _ h => h) (Or.inr ⟨by rfl, rfl⟩) (by assumption) ?_
    try simp only [Act.put, List.setIfInBounds_toArray, List.set_cons_zero, List.set_cons_succ]
    refine wpAnyH_take (i := 29) (oi := { dst := some 36, op := Op.load 3 (Operand.tmp 35), type := 3, pos := "grants.go:59", after := #[{ on := 28, ground := Ground.data }, { on := 20, ground := Ground.guard }], guard := some (20, true) }) (v := undef) rfl (by kernel_rfl) (by kernel_rfl) (by kernel_rfl) (fun _ _ _ h => h) (Or.inr ⟨by rfl, rfl⟩) (by assumption) ?_
    try simp only [Act.put, List.setIfInBounds_toArray, List.set_cons_zero, List.set_cons_succ]
    refine wpAnyH_take (i := 30) (oi := { dst := some 37, op := Op.binOp BinOp.sub 3 (Operand.tmp 32) (Operand.tmp 36) 3, type := 3, pos := "grants.go:59", after := #[{ on := 25, ground := Ground.data }, { on := 29, ground := Ground.data }, { on := 20, ground := Ground.guard }], guard := some (20, true) }) (v := undef) rfl (by kernel_rfl) (by kernel_rfl) (by kernel_rfl) (fun _ _ _ h => h) (Or.inr ⟨by rfl, rfl⟩) (by assumption) ?_
    try simp only [Act.put, List.setIfInBounds_toArray, List.set_cons_zero, List.set_cons_succ]
    refine wpAnyH_take (i := 31) (oi := { dst := some 38, op := Op.indexAddr 120 (Operand.tmp 31) (Operand.tmp 37), type := 0, pos := "grants.go:59", after := #[{ on := 24, ground := Ground.data }, { on := 30, ground := Ground.data }, { on := 20, ground := Ground.guard }], guard := some (20, true) }) (v := undef) rfl (by kernel_rfl) (by kernel_rfl) (by kernel_rfl) (fun _ _ _ h => h) (Or.inr ⟨by rfl, rfl⟩) (by assumption) ?_
    try simp only [Act.put, List.setIfInBounds_toArray, List.set_cons_zero, List.set_cons_succ]
    refine wpAnyH_take (i := 32) (oi := { dst := some 39, op := Op.load 135 (Operand.tmp 38), type := 135, pos := "grants.go:59", after := #[{ on := 31, ground := Ground.data }, { on := 20, ground := Ground.guard }], guard := some (20, true) }) (v := undef) rfl (by kernel_rfl) (by kernel_rfl) (by kernel_rfl) (fun _ _ _ h => h) (Or.inr ⟨by rfl, rfl⟩) (by assumption) ?_
    try simp only [Act.put, List.setIfInBounds_toArray, List.set_cons_zero, List.set_cons_succ]
    refine wpAnyH_take (i := 33) (oi := { dst := some 40, op := Op.move (Operand.tmp 2), type := 135, pos := "grants.go:59", after := #[{ on := 20, ground := Ground.guard }], guard := some (20, true) }) (v := undef) rfl (by kernel_rfl) (by kernel_rfl) (by kernel_rfl) (fun _ _ _ h => h) (Or.inr ⟨by rfl, rfl⟩) (by assumption) ?_
    try simp only [Act.put, List.setIfInBounds_toArray, List.set_cons_zero, List.set_cons_succ]
    refine wpAnyH_take (i := 34) (oi := { dst := some 41, op := Op.binOp BinOp.eql 135 (Operand.tmp 39) (Operand.tmp 40) 135, type := 4, pos := "grants.go:59", after := #[{ on := 32, ground := Ground.data }, { on := 33, ground := Ground.data }, { on := 20, ground := Ground.guard }], guard := some (20, true) }) (v := undef) rfl (by kernel_rfl) (by kernel_rfl) (by kernel_rfl) (fun _ _ _ h => h) (Or.inr ⟨by rfl, rfl⟩) (by assumption) ?_
    try simp only [Act.put, List.setIfInBounds_toArray, List.set_cons_zero, List.set_cons_succ]
    refine wpAnyH_take (i := 35) (oi := { dst := some 42, op := Op.pick (Operand.tmp 27) (Operand.tmp 41) (Operand.const (Value.bool false)), type := 4, pos := "grants.go:59", after := #[{ on := 20, ground := Ground.data }, { on := 34, ground := Ground.data }], guard := none }) (v := ?_) rfl (by kernel_rfl) (by kernel_rfl) (by kernel_rfl) (fun _ _ _ h => h) (Or.inl ⟨by rfl, ?_⟩) (by assumption) ?_
    rotate_left
    · (intro wz hSw; (try dsimp only at hSw); go_simp; try with_reducible rfl)
    try simp only [Act.put, List.setIfInBounds_toArray, List.set_cons_zero, List.set_cons_succ]
    refine wpAnyH_take (i := 36) (oi := { dst := some 6, op := Op.assign (Operand.tmp 42), type := 4, pos := "grants.go:59", after := #[{ on := 35, ground := Ground.data }, { on := 20, ground := Ground.chain }, { on := 0, ground := Ground.phase }, { on := 1, ground := Ground.phase }, { on := 2, ground := Ground.phase }, { on := 3, ground := Ground.phase }, { on := 4, ground := Ground.phase }, { on := 5, ground := Ground.phase }, { on := 6, ground := Ground.phase }, { on := 7, ground := Ground.phase }, { on := 8, ground := Ground.phase }, { on := 9, ground := Ground.phase }, { on := 10, ground := Ground.phase }, { on := 11, ground := Ground.phase }, { on := 12, ground := Ground.phase }, { on := 13, ground := Ground.phase }, { on := 14, ground := Ground.phase }, { on := 15, ground := Ground.phase }, { on := 16, ground := Ground.phase }, { on := 17, ground := Ground.phase }, { on := 18, ground := Ground.phase }, { on := 19, ground := Ground.phase }, { on := 20, ground := Ground.phase }, { on := 21, ground := Ground.phase }, { on := 22, ground := Ground.phase }, { on := 23, ground := Ground.phase }, { on := 24, ground := Ground.phase }, { on := 25, ground := Ground.phase }, { on := 26, ground := Ground.phase }, { on := 27, ground := Ground.phase }, { on := 28, ground := Ground.phase }, { on := 29, ground := Ground.phase }, { on := 30, ground := Ground.phase }, { on := 31, ground := Ground.phase }, { on := 32, ground := Ground.phase }, { on := 33, ground := Ground.phase }, { on := 34, ground := Ground.phase }, { on := 35, ground := Ground.phase }], guard := none }) (v := ?_) rfl (by kernel_rfl) (by kernel_rfl) (by kernel_rfl) (fun _ _ _ h => h) (Or.inl ⟨by rfl, ?_⟩) (by assumption) ?_
    rotate_left
    · (intro wz hSw; (try dsimp only at hSw); go_simp; try with_reducible rfl)
    try simp only [Act.put, List.setIfInBounds_toArray, List.set_cons_zero, List.set_cons_succ]
    refine wpAnyH_done (by kernel_rfl) ?_ _
    go_wp2_with fail
    go_ret
    exact ⟨rfl, rfl⟩
  · have e1 : (f : Int) ≤ at' := by omega
    have e3 : ¬ at' < (f : Int) + (n : Int) := by omega
    have e1' : decide ((f : Int) ≤ at') = true := decide_eq_true e1
    have e3' : decide (at' < (f : Int) + (n : Int)) = false := decide_eq_false e3
    clear ho hlt
    go_enter Tryz.func146, Tryz.ntmps146
    go_wp2_with fail
    refine wp_region_held_drew (S := fun wx => wx.cell? ⟨m, 0, none⟩ = some (.int .i64 f) ∧ wx.cell? ⟨m, 1, none⟩ = some (.slice (some ⟨g, 0, none⟩) n n)) (by kernel_rfl) (And.intro c0 c1) (fun hHeld => ?_)
    refine wpAnyH_take (i := 0) (oi := { dst := some 7, op := Op.move (Operand.tmp 0), type := 69, pos := "grants.go:59", after := #[], guard := none }) (v := ?_) rfl (by kernel_rfl) (by kernel_rfl) (by kernel_rfl) (fun _ _ _ h => h) (Or.inl ⟨by rfl, ?_⟩) (by assumption) ?_
    rotate_left
    · (intro wz hSw; (try dsimp only at hSw); go_simp; try with_reducible rfl)
    try simp only [Act.put, List.setIfInBounds_toArray, List.set_cons_zero, List.set_cons_succ]
    refine wpAnyH_take (i := 1) (oi := { dst := some 8, op := Op.nilCheck (Operand.tmp 7), type := 0, pos := "grants.go:59", after := #[{ on := 0, ground := Ground.data }], guard := none }) (v := ?_) rfl (by kernel_rfl) (by kernel_rfl) (by kernel_rfl) (fun _ _ _ h => h) (Or.inl ⟨by rfl, ?_⟩) (by assumption) ?_
    rotate_left
    · (intro wz hSw; (try dsimp only at hSw); go_simp; try with_reducible rfl)
    try simp only [Act.put, List.setIfInBounds_toArray, List.set_cons_zero, List.set_cons_succ]
    refine wpAnyH_take (i := 2) (oi := { dst := some 9, op := Op.fieldAddr 122 (Operand.tmp 8) 0, type := 0, pos := "grants.go:59", after := #[{ on := 1, ground := Ground.data }], guard := none }) (v := ?_) rfl (by kernel_rfl) (by kernel_rfl) (by kernel_rfl) (fun _ _ _ h => h) (Or.inl ⟨by rfl, ?_⟩) (by assumption) ?_
    rotate_left
    · (intro wz hSw; (try dsimp only at hSw); go_simp; try with_reducible rfl)
    try simp only [Act.put, List.setIfInBounds_toArray, List.set_cons_zero, List.set_cons_succ]
    refine wpAnyH_take (i := 3) (oi := { dst := some 10, op := Op.load 3 (Operand.tmp 9), type := 3, pos := "grants.go:59", after := #[{ on := 2, ground := Ground.data }], guard := none }) (v := ?_) rfl (by kernel_rfl) (by kernel_rfl) (by kernel_rfl) (fun _ _ _ h => h) (Or.inl ⟨by rfl, ?_⟩) (by assumption) ?_
    rotate_left
    · (intro wz hSw; (try dsimp only at hSw); go_simp; try with_reducible rfl)
    try simp only [Act.put, List.setIfInBounds_toArray, List.set_cons_zero, List.set_cons_succ]
    refine wpAnyH_take (i := 4) (oi := { dst := some 11, op := Op.move (Operand.tmp 1), type := 3, pos := "grants.go:59", after := #[], guard := none }) (v := ?_) rfl (by kernel_rfl) (by kernel_rfl) (by kernel_rfl) (fun _ _ _ h => h) (Or.inl ⟨by rfl, ?_⟩) (by assumption) ?_
    rotate_left
    · (intro wz hSw; (try dsimp only at hSw); go_simp; try with_reducible rfl)
    try simp only [Act.put, List.setIfInBounds_toArray, List.set_cons_zero, List.set_cons_succ]
    refine wpAnyH_take (i := 5) (oi := { dst := some 12, op := Op.binOp BinOp.leq 3 (Operand.tmp 10) (Operand.tmp 11) 3, type := 4, pos := "grants.go:59", after := #[{ on := 3, ground := Ground.data }, { on := 4, ground := Ground.data }], guard := none }) (v := ?_) rfl (by kernel_rfl) (by kernel_rfl) (by kernel_rfl) (fun _ _ _ h => h) (Or.inl ⟨by rfl, ?_⟩) (by assumption) ?_
    rotate_left
    · (intro wz hSw; (try dsimp only at hSw); go_simp; try with_reducible rfl)
    try simp only [Act.put, List.setIfInBounds_toArray, List.set_cons_zero, List.set_cons_succ]
    refine wpAnyH_take (i := 6) (oi := { dst := some 13, op := Op.move (Operand.tmp 12), type := 4, pos := "grants.go:59", after := #[{ on := 5, ground := Ground.data }], guard := none }) (v := ?_) rfl (by kernel_rfl) (by kernel_rfl) (by kernel_rfl) (fun _ _ _ h => h) (Or.inl ⟨by rfl, ?_⟩) (by assumption) ?_
    rotate_left
    · (intro wz hSw; (try dsimp only at hSw); go_simp; try with_reducible rfl)
    try simp only [Act.put, List.setIfInBounds_toArray, List.set_cons_zero, List.set_cons_succ]
    refine wpAnyH_take (i := 7) (oi := { dst := some 14, op := Op.move (Operand.tmp 1), type := 3, pos := "grants.go:59", after := #[{ on := 6, ground := Ground.guard }], guard := some (6, true) }) (v := ?_) rfl (by kernel_rfl) (by kernel_rfl) (by kernel_rfl) (fun _ _ _ h => h) (Or.inl ⟨by rfl, ?_⟩) (by assumption) ?_
    rotate_left
    · (intro wz hSw; (try dsimp only at hSw); go_simp; try with_reducible rfl)
    try simp only [Act.put, List.setIfInBounds_toArray, List.set_cons_zero, List.set_cons_succ]
    refine wpAnyH_take (i := 8) (oi := { dst := some 15, op := Op.move (Operand.tmp 0), type := 69, pos := "grants.go:59", after := #[{ on := 6, ground := Ground.guard }], guard := some (6, true) }) (v := ?_) rfl (by kernel_rfl) (by kernel_rfl) (by kernel_rfl) (fun _ _ _ h => h) (Or.inl ⟨by rfl, ?_⟩) (by assumption) ?_
    rotate_left
    · (intro wz hSw; (try dsimp only at hSw); go_simp; try with_reducible rfl)
    try simp only [Act.put, List.setIfInBounds_toArray, List.set_cons_zero, List.set_cons_succ]
    refine wpAnyH_take (i := 9) (oi := { dst := some 16, op := Op.nilCheck (Operand.tmp 15), type := 0, pos := "grants.go:59", after := #[{ on := 8, ground := Ground.data }, { on := 6, ground := Ground.guard }], guard := some (6, true) }) (v := ?_) rfl (by kernel_rfl) (by kernel_rfl) (by kernel_rfl) (fun _ _ _ h => h) (Or.inl ⟨by rfl, ?_⟩) (by assumption) ?_
    rotate_left
    · (intro wz hSw; (try dsimp only at hSw); go_simp; try with_reducible rfl)
    try simp only [Act.put, List.setIfInBounds_toArray, List.set_cons_zero, List.set_cons_succ]
    refine wpAnyH_take (i := 10) (oi := { dst := some 17, op := Op.fieldAddr 122 (Operand.tmp 16) 0, type := 0, pos := "grants.go:59", after := #[{ on := 9, ground := Ground.data }, { on := 6, ground := Ground.guard }], guard := some (6, true) }) (v := ?_) rfl (by kernel_rfl) (by kernel_rfl) (by kernel_rfl) (fun _ _ _ h => h) (Or.inl ⟨by rfl, ?_⟩) (by assumption) ?_
    rotate_left
    · (intro wz hSw; (try dsimp only at hSw); go_simp; try with_reducible rfl)
    try simp only [Act.put, List.setIfInBounds_toArray, List.set_cons_zero, List.set_cons_succ]
    refine wpAnyH_take (i := 11) (oi := { dst := some 18, op := Op.load 3 (Operand.tmp 17), type := 3, pos := "grants.go:59", after := #[{ on := 10, ground := Ground.data }, { on := 6, ground := Ground.guard }], guard := some (6, true) }) (v := ?_) rfl (by kernel_rfl) (by kernel_rfl) (by kernel_rfl) (fun _ _ _ h => h) (Or.inl ⟨by rfl, ?_⟩) (by assumption) ?_
    rotate_left
    · (intro wz hSw; (try dsimp only at hSw); go_simp; try with_reducible rfl)
    try simp only [Act.put, List.setIfInBounds_toArray, List.set_cons_zero, List.set_cons_succ]
    refine wpAnyH_take (i := 12) (oi := { dst := some 19, op := Op.move (Operand.tmp 0), type := 69, pos := "grants.go:59", after := #[{ on := 6, ground := Ground.guard }], guard := some (6, true) }) (v := ?_) rfl (by kernel_rfl) (by kernel_rfl) (by kernel_rfl) (fun _ _ _ h => h) (Or.inl ⟨by rfl, ?_⟩) (by assumption) ?_
    rotate_left
    · (intro wz hSw; (try dsimp only at hSw); go_simp; try with_reducible rfl)
    try simp only [Act.put, List.setIfInBounds_toArray, List.set_cons_zero, List.set_cons_succ]
    refine wpAnyH_take (i := 13) (oi := { dst := some 20, op := Op.nilCheck (Operand.tmp 19), type := 0, pos := "grants.go:59", after := #[{ on := 12, ground := Ground.data }, { on := 6, ground := Ground.guard }], guard := some (6, true) }) (v := ?_) rfl (by kernel_rfl) (by kernel_rfl) (by kernel_rfl) (fun _ _ _ h => h) (Or.inl ⟨by rfl, ?_⟩) (by assumption) ?_
    rotate_left
    · (intro wz hSw; (try dsimp only at hSw); go_simp; try with_reducible rfl)
    try simp only [Act.put, List.setIfInBounds_toArray, List.set_cons_zero, List.set_cons_succ]
    refine wpAnyH_take (i := 14) (oi := { dst := some 21, op := Op.fieldAddr 122 (Operand.tmp 20) 1, type := 0, pos := "grants.go:59", after := #[{ on := 13, ground := Ground.data }, { on := 6, ground := Ground.guard }], guard := some (6, true) }) (v := ?_) rfl (by kernel_rfl) (by kernel_rfl) (by kernel_rfl) (fun _ _ _ h => h) (Or.inl ⟨by rfl, ?_⟩) (by assumption) ?_
    rotate_left
    · (intro wz hSw; (try dsimp only at hSw); go_simp; try with_reducible rfl)
    try simp only [Act.put, List.setIfInBounds_toArray, List.set_cons_zero, List.set_cons_succ]
    refine wpAnyH_take (i := 15) (oi := { dst := some 22, op := Op.load 120 (Operand.tmp 21), type := 120, pos := "grants.go:59", after := #[{ on := 14, ground := Ground.data }, { on := 6, ground := Ground.guard }], guard := some (6, true) }) (v := ?_) rfl (by kernel_rfl) (by kernel_rfl) (by kernel_rfl) (fun _ _ _ h => h) (Or.inl ⟨by rfl, ?_⟩) (by assumption) ?_
    rotate_left
    · (intro wz hSw; (try dsimp only at hSw); go_simp; try with_reducible rfl)
    try simp only [Act.put, List.setIfInBounds_toArray, List.set_cons_zero, List.set_cons_succ]
    refine wpAnyH_take (i := 16) (oi := { dst := some 23, op := Op.call { callee := Callee.builtin Builtin.len, args := #[Operand.tmp 22], argTypes := #[120] }, type := 3, pos := "grants.go:59", after := #[{ on := 15, ground := Ground.data }, { on := 6, ground := Ground.guard }], guard := some (6, true) }) (v := ?_) rfl (by kernel_rfl) (by kernel_rfl) (by kernel_rfl) (fun _ _ _ h => h) (Or.inl ⟨by rfl, ?_⟩) (by assumption) ?_
    rotate_left
    · (intro wz hSw; (try dsimp only at hSw); go_simp; try with_reducible rfl)
    try simp only [Act.put, List.setIfInBounds_toArray, List.set_cons_zero, List.set_cons_succ]
    refine wpAnyH_take (i := 17) (oi := { dst := some 24, op := Op.binOp BinOp.add 3 (Operand.tmp 18) (Operand.tmp 23) 3, type := 3, pos := "grants.go:59", after := #[{ on := 11, ground := Ground.data }, { on := 16, ground := Ground.data }, { on := 6, ground := Ground.guard }], guard := some (6, true) }) (v := ?_) rfl (by kernel_rfl) (by kernel_rfl) (by kernel_rfl) (fun _ _ _ h => h) (Or.inl ⟨by rfl, ?_⟩) (by assumption) ?_
    rotate_left
    · (intro wz hSw; (try dsimp only at hSw); go_simp; try with_reducible rfl)
    try simp only [Act.put, List.setIfInBounds_toArray, List.set_cons_zero, List.set_cons_succ]
    refine wpAnyH_take (i := 18) (oi := { dst := some 25, op := Op.binOp BinOp.lss 3 (Operand.tmp 14) (Operand.tmp 24) 3, type := 4, pos := "grants.go:59", after := #[{ on := 7, ground := Ground.data }, { on := 17, ground := Ground.data }, { on := 6, ground := Ground.guard }], guard := some (6, true) }) (v := ?_) rfl (by kernel_rfl) (by kernel_rfl) (by kernel_rfl) (fun _ _ _ h => h) (Or.inl ⟨by rfl, ?_⟩) (by assumption) ?_
    rotate_left
    · (intro wz hSw; (try dsimp only at hSw); go_simp; try with_reducible rfl)
    try simp only [Act.put, List.setIfInBounds_toArray, List.set_cons_zero, List.set_cons_succ]
    refine wpAnyH_take (i := 19) (oi := { dst := some 26, op := Op.pick (Operand.tmp 13) (Operand.tmp 25) (Operand.const (Value.bool false)), type := 4, pos := "grants.go:59", after := #[{ on := 6, ground := Ground.data }, { on := 18, ground := Ground.data }], guard := none }) (v := ?_) rfl (by kernel_rfl) (by kernel_rfl) (by kernel_rfl) (fun _ _ _ h => h) (Or.inl ⟨by rfl, ?_⟩) (by assumption) ?_
    rotate_left
    · (intro wz hSw; (try dsimp only at hSw); go_simp; try with_reducible rfl)
    try simp only [Act.put, List.setIfInBounds_toArray, List.set_cons_zero, List.set_cons_succ]
    refine wpAnyH_take (i := 20) (oi := { dst := some 27, op := Op.move (Operand.tmp 26), type := 4, pos := "grants.go:59", after := #[{ on := 19, ground := Ground.data }, { on := 6, ground := Ground.chain }], guard := none }) (v := ?_) rfl (by kernel_rfl) (by kernel_rfl) (by kernel_rfl) (fun _ _ _ h => h) (Or.inl ⟨by rfl, ?_⟩) (by assumption) ?_
    rotate_left
    · (intro wz hSw; (try dsimp only at hSw); go_simp; try with_reducible rfl)
    try simp only [Act.put, List.setIfInBounds_toArray, List.set_cons_zero, List.set_cons_succ]
    refine wpAnyH_take (i := 21) (oi := { dst := some 28, op := Op.move (Operand.tmp 0), type := 69, pos := "grants.go:59", after := #[{ on := 20, ground := Ground.guard }], guard := some (20, true) }) (v := undef) rfl (by kernel_rfl) (by kernel_rfl) (by kernel_rfl) (fun _ _ _ h => h) (Or.inr ⟨by rfl, rfl⟩) (by assumption) ?_
    try simp only [Act.put, List.setIfInBounds_toArray, List.set_cons_zero, List.set_cons_succ]
    refine wpAnyH_take (i := 22) (oi := { dst := some 29, op := Op.nilCheck (Operand.tmp 28), type := 0, pos := "grants.go:59", after := #[{ on := 21, ground := Ground.data }, { on := 20, ground := Ground.guard }], guard := some (20, true) }) (v := undef) rfl (by kernel_rfl) (by kernel_rfl) (by kernel_rfl) (fun _ _ _ h => h) (Or.inr ⟨by rfl, rfl⟩) (by assumption) ?_
    try simp only [Act.put, List.setIfInBounds_toArray, List.set_cons_zero, List.set_cons_succ]
    refine wpAnyH_take (i := 23) (oi := { dst := some 30, op := Op.fieldAddr 122 (Operand.tmp 29) 1, type := 0, pos := "grants.go:59", after := #[{ on := 22, ground := Ground.data }, { on := 20, ground := Ground.guard }], guard := some (20, true) }) (v := undef) rfl (by kernel_rfl) (by kernel_rfl) (by kernel_rfl) (fun _ _ _ h => h) (Or.inr ⟨by rfl, rfl⟩) (by assumption) ?_
    try simp only [Act.put, List.setIfInBounds_toArray, List.set_cons_zero, List.set_cons_succ]
    refine wpAnyH_take (i := 24) (oi := { dst := some 31, op := Op.load 120 (Operand.tmp 30), type := 120, pos := "grants.go:59", after := #[{ on := 23, ground := Ground.data }, { on := 20, ground := Ground.guard }], guard := some (20, true) }) (v := undef) rfl (by kernel_rfl) (by kernel_rfl) (by kernel_rfl) (fun _ _ _ h => h) (Or.inr ⟨by rfl, rfl⟩) (by assumption) ?_
    try simp only [Act.put, List.setIfInBounds_toArray, List.set_cons_zero, List.set_cons_succ]
    refine wpAnyH_take (i := 25) (oi := { dst := some 32, op := Op.move (Operand.tmp 1), type := 3, pos := "grants.go:59", after := #[{ on := 20, ground := Ground.guard }], guard := some (20, true) }) (v := undef) rfl (by kernel_rfl) (by kernel_rfl) (by kernel_rfl) (fun _ _ _ h => h) (Or.inr ⟨by rfl, rfl⟩) (by assumption) ?_
    try simp only [Act.put, List.setIfInBounds_toArray, List.set_cons_zero, List.set_cons_succ]
    refine wpAnyH_take (i := 26) (oi := { dst := some 33, op := Op.move (Operand.tmp 0), type := 69, pos := "grants.go:59", after := #[{ on := 20, ground := Ground.guard }], guard := some (20, true) }) (v := undef) rfl (by kernel_rfl) (by kernel_rfl) (by kernel_rfl) (fun _ _ _ h => h) (Or.inr ⟨by rfl, rfl⟩) (by assumption) ?_
    try simp only [Act.put, List.setIfInBounds_toArray, List.set_cons_zero, List.set_cons_succ]
    refine wpAnyH_take (i := 27) (oi := { dst := some 34, op := Op.nilCheck (Operand.tmp 33), type := 0, pos := "grants.go:59", after := #[{ on := 26, ground := Ground.data }, { on := 20, ground := Ground.guard }], guard := some (20, true) }) (v := undef) rfl (by kernel_rfl) (by kernel_rfl) (by kernel_rfl) (fun _ _ _ h => h) (Or.inr ⟨by rfl, rfl⟩) (by assumption) ?_
    try simp only [Act.put, List.setIfInBounds_toArray, List.set_cons_zero, List.set_cons_succ]
    refine wpAnyH_take (i := 28) (oi := { dst := some 35, op := Op.fieldAddr 122 (Operand.tmp 34) 0, type := 0, pos := "grants.go:59", after := #[{ on := 27, ground := Ground.data }, { on := 20, ground := Ground.guard }], guard := some (20, true) }) (v := undef) rfl (by kernel_rfl) (by kernel_rfl) (by kernel_rfl) (fun _ _ _ h => h) (Or.inr ⟨by rfl, rfl⟩) (by assumption) ?_
    try simp only [Act.put, List.setIfInBounds_toArray, List.set_cons_zero, List.set_cons_succ]
    refine wpAnyH_take (i := 29) (oi := { dst := some 36, op := Op.load 3 (Operand.tmp 35), type := 3, pos := "grants.go:59", after := #[{ on := 28, ground := Ground.data }, { on := 20, ground := Ground.guard }], guard := some (20, true) }) (v := undef) rfl (by kernel_rfl) (by kernel_rfl) (by kernel_rfl) (fun _ _ _ h => h) (Or.inr ⟨by rfl, rfl⟩) (by assumption) ?_
    try simp only [Act.put, List.setIfInBounds_toArray, List.set_cons_zero, List.set_cons_succ]
    refine wpAnyH_take (i := 30) (oi := { dst := some 37, op := Op.binOp BinOp.sub 3 (Operand.tmp 32) (Operand.tmp 36) 3, type := 3, pos := "grants.go:59", after := #[{ on := 25, ground := Ground.data }, { on := 29, ground := Ground.data }, { on := 20, ground := Ground.guard }], guard := some (20, true) }) (v := undef) rfl (by kernel_rfl) (by kernel_rfl) (by kernel_rfl) (fun _ _ _ h => h) (Or.inr ⟨by rfl, rfl⟩) (by assumption) ?_
    try simp only [Act.put, List.setIfInBounds_toArray, List.set_cons_zero, List.set_cons_succ]
    refine wpAnyH_take (i := 31) (oi := { dst := some 38, op := Op.indexAddr 120 (Operand.tmp 31) (Operand.tmp 37), type := 0, pos := "grants.go:59", after := #[{ on := 24, ground := Ground.data }, { on := 30, ground := Ground.data }, { on := 20, ground := Ground.guard }], guard := some (20, true) }) (v := undef) rfl (by kernel_rfl) (by kernel_rfl) (by kernel_rfl) (fun _ _ _ h => h) (Or.inr ⟨by rfl, rfl⟩) (by assumption) ?_
    try simp only [Act.put, List.setIfInBounds_toArray, List.set_cons_zero, List.set_cons_succ]
    refine wpAnyH_take (i := 32) (oi := { dst := some 39, op := Op.load 135 (Operand.tmp 38), type := 135, pos := "grants.go:59", after := #[{ on := 31, ground := Ground.data }, { on := 20, ground := Ground.guard }], guard := some (20, true) }) (v := undef) rfl (by kernel_rfl) (by kernel_rfl) (by kernel_rfl) (fun _ _ _ h => h) (Or.inr ⟨by rfl, rfl⟩) (by assumption) ?_
    try simp only [Act.put, List.setIfInBounds_toArray, List.set_cons_zero, List.set_cons_succ]
    refine wpAnyH_take (i := 33) (oi := { dst := some 40, op := Op.move (Operand.tmp 2), type := 135, pos := "grants.go:59", after := #[{ on := 20, ground := Ground.guard }], guard := some (20, true) }) (v := undef) rfl (by kernel_rfl) (by kernel_rfl) (by kernel_rfl) (fun _ _ _ h => h) (Or.inr ⟨by rfl, rfl⟩) (by assumption) ?_
    try simp only [Act.put, List.setIfInBounds_toArray, List.set_cons_zero, List.set_cons_succ]
    refine wpAnyH_take (i := 34) (oi := { dst := some 41, op := Op.binOp BinOp.eql 135 (Operand.tmp 39) (Operand.tmp 40) 135, type := 4, pos := "grants.go:59", after := #[{ on := 32, ground := Ground.data }, { on := 33, ground := Ground.data }, { on := 20, ground := Ground.guard }], guard := some (20, true) }) (v := undef) rfl (by kernel_rfl) (by kernel_rfl) (by kernel_rfl) (fun _ _ _ h => h) (Or.inr ⟨by rfl, rfl⟩) (by assumption) ?_
    try simp only [Act.put, List.setIfInBounds_toArray, List.set_cons_zero, List.set_cons_succ]
    refine wpAnyH_take (i := 35) (oi := { dst := some 42, op := Op.pick (Operand.tmp 27) (Operand.tmp 41) (Operand.const (Value.bool false)), type := 4, pos := "grants.go:59", after := #[{ on := 20, ground := Ground.data }, { on := 34, ground := Ground.data }], guard := none }) (v := ?_) rfl (by kernel_rfl) (by kernel_rfl) (by kernel_rfl) (fun _ _ _ h => h) (Or.inl ⟨by rfl, ?_⟩) (by assumption) ?_
    rotate_left
    · (intro wz hSw; (try dsimp only at hSw); go_simp; try with_reducible rfl)
    try simp only [Act.put, List.setIfInBounds_toArray, List.set_cons_zero, List.set_cons_succ]
    refine wpAnyH_take (i := 36) (oi := { dst := some 6, op := Op.assign (Operand.tmp 42), type := 4, pos := "grants.go:59", after := #[{ on := 35, ground := Ground.data }, { on := 20, ground := Ground.chain }, { on := 0, ground := Ground.phase }, { on := 1, ground := Ground.phase }, { on := 2, ground := Ground.phase }, { on := 3, ground := Ground.phase }, { on := 4, ground := Ground.phase }, { on := 5, ground := Ground.phase }, { on := 6, ground := Ground.phase }, { on := 7, ground := Ground.phase }, { on := 8, ground := Ground.phase }, { on := 9, ground := Ground.phase }, { on := 10, ground := Ground.phase }, { on := 11, ground := Ground.phase }, { on := 12, ground := Ground.phase }, { on := 13, ground := Ground.phase }, { on := 14, ground := Ground.phase }, { on := 15, ground := Ground.phase }, { on := 16, ground := Ground.phase }, { on := 17, ground := Ground.phase }, { on := 18, ground := Ground.phase }, { on := 19, ground := Ground.phase }, { on := 20, ground := Ground.phase }, { on := 21, ground := Ground.phase }, { on := 22, ground := Ground.phase }, { on := 23, ground := Ground.phase }, { on := 24, ground := Ground.phase }, { on := 25, ground := Ground.phase }, { on := 26, ground := Ground.phase }, { on := 27, ground := Ground.phase }, { on := 28, ground := Ground.phase }, { on := 29, ground := Ground.phase }, { on := 30, ground := Ground.phase }, { on := 31, ground := Ground.phase }, { on := 32, ground := Ground.phase }, { on := 33, ground := Ground.phase }, { on := 34, ground := Ground.phase }, { on := 35, ground := Ground.phase }], guard := none }) (v := ?_) rfl (by kernel_rfl) (by kernel_rfl) (by kernel_rfl) (fun _ _ _ h => h) (Or.inl ⟨by rfl, ?_⟩) (by assumption) ?_
    rotate_left
    · (intro wz hSw; (try dsimp only at hSw); go_simp; try with_reducible rfl)
    try simp only [Act.put, List.setIfInBounds_toArray, List.set_cons_zero, List.set_cons_succ]
    refine wpAnyH_done (by kernel_rfl) ?_ _
    go_wp2_with fail
    go_ret
    exact ⟨rfl, rfl⟩
theorem is_out (m g f n : Nat) (S : Nat → Nat) (at' : Int) (w : World) (h : MapAt m g f n S w) (hf : f ≤ 4096) (hn : n ≤ 4096) (ho : at' < f ∨ ((f + n : Nat) : Int) ≤ at') :
    Calls Tryz.prog 128 #[.pointer (some ⟨m, 0, none⟩), .int .i64 at'] w fun e w' => e = .returned (.bool false) ∧ w.drew = w' := by
  have HT := Lib.hid (has_out m g f n S at' 1 w h hf hn ho)
  clear h hf hn ho
  go_enter Tryz.func128, Tryz.ntmps128
  go_wp2_with fail
  refine HT.out.mono ?_
  rintro e w' ⟨rfl, rfl⟩
  go_wp2_with fail
  go_ret
  exact ⟨rfl, rfl⟩
end Go.Proofs.YtbohpffigmllkaaGreatDoor
