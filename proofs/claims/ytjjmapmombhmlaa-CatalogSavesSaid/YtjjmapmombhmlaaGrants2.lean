/-
  A map of grants: the calls that change it, and those that tell of it: contracts.
-/
import Derived.Test.YtjjmapmombhmlaaGrants
import Derived.Laws.AppendOwn
import Derived.Deep.RegionLaw
import Derived.Test.YtjjmapmombhmlaaPackOuts
namespace Go.Proofs.Ytjjmapmombhmlaa
open Go.RowKit
set_option maxHeartbeats 1000000 in
theorem turn_ok (m g f n : Nat) (S : Nat → Nat) (i a b : Nat) (w : World) (h : MapAt m g f n S w) (hf : f ≤ 4096) (hn : n ≤ 4096) (hi : i < n) (hs : S i = a) :
    Calls Try.prog 102 #[.pointer (some ⟨m, 0, none⟩), .int .i64 ((f + i : Nat) : Int), .int .u8 a, .int .u8 b] w fun e w' => e = .returned (.bool true) ∧ (w.setCell ⟨g, i, none⟩ (.int .u8 b)).drew.drew = w' := by
  have HH := Lib.hid (has_in m g f n S i a w h hf hn hi)
  rw [decide_eq_true hs] at HH
  have c0 := h.c0
  have c1 := h.c1
  have hcell := h.row.cell hi
  have hfr := h.row.frozen i
  have HK : Hid ((w.setCell ⟨g, i, none⟩ (.int .u8 b)).cell? ⟨m, 0, none⟩ = some (.int .i64 f) ∧ (w.setCell ⟨g, i, none⟩ (.int .u8 b)).cell? ⟨m, 1, none⟩ = some (.slice (some ⟨g, 0, none⟩) n n)) := Lib.hid ⟨by rw [World.cell?_setCell_far _ _ _ _ (fun e => h.ne e.symm)]; exact c0, by rw [World.cell?_setCell_far _ _ _ _ (fun e => h.ne e.symm)]; exact c1⟩
  have e4 : IntKind.i64.wrap (((f + i : Nat) : Int) - (f : Int)) = (i : Int) := by rw [IntWalk.i64_in _ (by omega)]; omega
  have e5 : (0 : Int) ≤ (i : Int) := by omega
  have e6 : (i : Int) < (n : Int) := by omega
  generalize hT : f + i = T at *
  clear h hT hs
  go_enter Try.func102, Try.ntmps102
  go_wp2_with fail
  refine HH.out.mono ?_
  rintro e w' ⟨rfl, rfl⟩
  go_wp2_with fail
  go_region_held3 (fun wx => wx.cell? ⟨m, 0, none⟩ = some (.int .i64 f) ∧ wx.cell? ⟨m, 1, none⟩ = some (.slice (some ⟨g, 0, none⟩) n n))
    (first | exact ⟨c0, c1⟩ | exact HK.out) (fail)
  go_wp2_with fail
  go_ret
  exact ⟨rfl, rfl⟩
theorem turn_not (m g f n : Nat) (S : Nat → Nat) (i a b : Nat) (w : World) (h : MapAt m g f n S w) (hf : f ≤ 4096) (hn : n ≤ 4096) (hi : i < n) (hs : ¬ S i = a) :
    Calls Try.prog 102 #[.pointer (some ⟨m, 0, none⟩), .int .i64 ((f + i : Nat) : Int), .int .u8 a, .int .u8 b] w fun e w' => e = .returned (.bool false) ∧ w.drew = w' := by
  have HH := Lib.hid (has_in m g f n S i a w h hf hn hi)
  rw [decide_eq_false hs] at HH
  generalize hT : f + i = T at *
  clear h hT hs
  go_enter Try.func102, Try.ntmps102
  go_wp2_with fail
  refine HH.out.mono ?_
  rintro e w' ⟨rfl, rfl⟩
  go_wp2_with fail
  go_ret
  exact ⟨rfl, rfl⟩
set_option maxHeartbeats 1000000 in
theorem index_any (g n : Nat) (S : Nat → Nat) (w : World) (h : w.rowIs g 122 n (fun i => .int .u8 (S i))) (hn : n ≤ 4096) :
    Calls Try.prog 110 #[.slice (some ⟨g, 0, none⟩) n n, .int .u8 0] w fun e w' =>
      ((∃ j, j < n ∧ S j = 0 ∧ (∀ i, i < j → ¬ S i = 0) ∧ e = .returned (.int .i64 j)) ∨ ((∀ i, i < n → ¬ S i = 0) ∧ e = .returned (.int .i64 (-1)))) ∧ w = w' := by
  have H := Lib.hid h
  clear h
  go_enter Try.func110, Try.ntmps110
  go_wp2_with fail
  go_loopw [8] (fun i wx => ∃ j : Nat, j ≤ n ∧ i = .int .i64 j ∧ (∀ l, l < j → ¬ S l = 0) ∧ wx = w) (fun i _ => n - (intOf i).toNat)
  case atStart => exact ⟨0, by omega, rfl, fun l hl => by omega, rfl⟩
  case round =>
    obtain ⟨j, hj, rfl, hno, rfl⟩ := hrel
    have HN := Lib.hid hno
    clear hno
    by_cases hlt : j < n
    · have hi1 : (j : Int) < (n : Int) := by omega
      have hi0 : (0 : Int) ≤ (j : Int) := by omega
      have hcell := H.out.cell hlt
      by_cases e : S j = 0
      · have e2 : (0 : Int) = ((S j : Nat) : Int) := by omega
        have HE := Lib.hid e
        clear e
        go_wp2_with fail
        go_ret
        exact ⟨Or.inl ⟨j, hlt, HE.out, HN.out, rfl⟩, rfl⟩
      · have e2 : ¬ (0 : Int) = ((S j : Nat) : Int) := by omega
        have HE := Lib.hid e
        clear e
        go_wp2_with fail
        go_roundw
        case rel =>
          refine ⟨j + 1, by omega, by go_num, fun l hl => ?_, trivial⟩
          rcases Nat.lt_or_ge l j with h1 | h1
          · exact HN.out l h1
          · obtain rfl : l = j := by omega
            exact HE.out
        case measure => simp [intOf]; omega
    · obtain rfl : j = n := by omega
      have hi1 : ¬ (j : Int) < (j : Int) := by omega
      go_wp2_with fail
      go_ret
      exact ⟨Or.inr ⟨HN.out, rfl⟩, rfl⟩
theorem infoInt : (Try.prog.info? 3).map (fun i => (i.zero, i.size, i.bytes)) = some (some (.int .i64 0), 1, 8) := by kernel_rfl
theorem rowOwn {w : World} {base n z : Nat} {t : TypeId} {v : Value} {xs : List Value} (h : w.ownsRow base t z v n xs) : (∀ k, v.ownBlock = some k → base ≤ k) ∧ ∃ a c, v = .slice a n c := by
  rcases h.2 with ⟨rfl, h0⟩ | ⟨g', cap', cur, rfl, hb, _⟩
  · refine ⟨fun k hk => (by cases hk), ?_⟩
    subst h0
    exact ⟨none, 0, rfl⟩
  · exact ⟨fun k hk => (by simp [Value.ownBlock] at hk; omega), _, _, rfl⟩
set_option maxRecDepth 10000 in
set_option maxHeartbeats 1000000 in
theorem all_len (m g f n : Nat) (S : Nat → Nat) (w : World) (h : MapAt m g f n S w) (hf : f ≤ 4096) (hn : n ≤ 4096) :
    Calls Try.prog 95 #[.pointer (some ⟨m, 0, none⟩)] w fun e w' => (∃ a c, e = .returned (.slice a (cnt S 1 n) c)) ∧ Below w.heap.size w w' := by
  have c1 := h.c1
  have H := Lib.hid h
  clear h
  go_enter Try.func95, Try.ntmps95
  obtain ⟨i0, hi, hz0, hz1, hz2⟩ := info_parts infoInt
  have HI0 := Lib.hid hi
  have HI1 := Lib.hid hz0
  have HI2 := Lib.hid hz1
  have HI3 := Lib.hid hz2
  clear hi hz0 hz1 hz2
  go_wp2_with fail
  go_loopw [3, 11] (fun v i wx => ∃ j : Nat, j ≤ n ∧ i = .int .i64 j ∧ (∃ xs, wx.ownsRow w.heap.size 3 1 v (cnt S 1 j) xs) ∧ Below w.heap.size w wx) (fun _ i _ => n - (intOf i).toNat)
  case atStart => exact ⟨0, by omega, rfl, ⟨[], by simp [World.ownsRow, cnt]⟩, Below.refl _ _⟩
  case round =>
    obtain ⟨j, hj, rfl, ⟨xs, hown⟩, hB⟩ := hrel
    have HO := Lib.hid hown
    have HB := Lib.hid hB
    clear hown hB
    by_cases hlt : j < n
    · have hi1 : (j : Int) < (n : Int) := by omega
      have hi0 : (0 : Int) ≤ (j : Int) := by omega
      have hcell := (H.out.below HB.out).row.cell hlt
      have hc0 := (H.out.below HB.out).c0
      have hc2 := cnt_le S 1 j
      have e9 : IntKind.i64.wrap ((f : Int) + (j : Int)) = (f : Int) + (j : Int) := IntWalk.i64_in _ (by omega)
      by_cases e : S j = 1
      · have HC : Hid (cnt S 1 (j + 1) = cnt S 1 j + 1) := Lib.hid (by show cnt S 1 j + _ = _; rw [if_pos e])
        have e2 : ((S j : Nat) : Int) = 1 := by omega
        generalize cnt S 1 j = c at *
        go_wp2_with (at_builtin; refine wpList_append_own _ rfl _ _ 40 rfl w.heap.size 3 i0 (.int .i64 0) 1 8 Try.underlying40 HI0.out HI1.out HI2.out HI3.out rfl (by decide) _ _ _ rfl (HO.out.alloc _) ⟨wr.heap.size, 0, none⟩ 1 1 [.int .i64 ((f : Int) + (j : Int))] rfl rfl ?c1 ?c2 ?c3 ?c4 ?c5 ?_)
        case c1 => exact news_one wr _ _
        case c2 => first | rfl | (intro u hu; simp at hu; subst hu; rfl)
        case c3 => first | omega | (unfold maxLen; omega)
        case c4 => omega
        case c5 => have := HB.out.size; first | omega | (simp; omega)
        · intro v' w1 hown' hgrow _
          have HO1 := Lib.hid hown'
          have HB1 := Lib.hid ((HB.out.alloc HB.out.size (.cells #[.int .i64 ((f : Int) + (j : Int))] 3)).grown hgrow (by have := HB.out.size; simp; omega) (rowOwn HO.out).1)
          clear hown' hgrow
          go_wp2
          go_roundw
          case rel => exact ⟨j + 1, by omega, by go_num, ⟨_, by rw [HC.out]; exact HO1.out⟩, HB1.out⟩
          case measure => simp [intOf]; omega
      · have HC : Hid (cnt S 1 (j + 1) = cnt S 1 j) := Lib.hid (by show cnt S 1 j + _ = _; rw [if_neg e]; rfl)
        have e2 : ¬ ((S j : Nat) : Int) = 1 := by omega
        generalize cnt S 1 j = c at *
        generalize S j = q at *
        have e3 : ((q : Int) == 1) = false := by rw [beq_eq_false_iff_ne]; exact e2
        go_wp2_with fail
        go_roundw
        case rel => exact ⟨j + 1, by omega, by go_num, ⟨xs, by rw [HC.out]; exact HO.out⟩, HB.out⟩
        case measure => simp [intOf]; omega
    · obtain rfl : j = n := by omega
      have hi1 : ¬ (j : Int) < (j : Int) := by omega
      obtain ⟨_, a, c, rfl⟩ := rowOwn HO.out
      go_wp2_with fail
      go_ret
      exact ⟨⟨a, c, rfl⟩, HB.out⟩
end Go.Proofs.Ytjjmapmombhmlaa
