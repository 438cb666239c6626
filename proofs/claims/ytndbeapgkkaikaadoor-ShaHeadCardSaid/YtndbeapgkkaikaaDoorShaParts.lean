/-
  ShaParts: for every text (of which at most 300 bytes are taken), in any three parts, the law answers true.
-/
import Derived.Test.YtndbeapgkkaikaaDoorShaAwake
namespace Go.Proofs.YtndbeapgkkaikaaDoor
open Go.RowKit

/-- the package's variables lie there, and nothing of old has changed -/
structure At (w wx : World) : Prop where
  laid : Laid KK SS wx
  below : Below w.heap.size w wx
theorem At.alloc {w wx : World} (h : At w wx) (o : Obj) : At w (wx.alloc o) := ⟨h.laid.alloc o, h.below.alloc h.below.size o⟩
theorem At.drew {w wx : World} (h : At w wx) : At w wx.drew := ⟨h.laid.drew, h.below.drew⟩
theorem At.next {w wx wy : World} (h : At w wx) (k : Below wx.heap.size wx wy) : At w wy := ⟨h.laid.below k, h.below.trans (k.mono h.below.size)⟩
theorem At.start {w : World} (h : Laid KK SS w) : At w w := ⟨h, Below.refl _ _⟩

theorem cell_at0 {w : World} {t : TypeId} {v : Value} {b : Nat} (h : w.heap.size = b) : (w.alloc (.cells #[v] t)).cell? ⟨b, 0, none⟩ = some v := by
  subst h
  rw [World.cell?_alloc_new]
  rfl
theorem cell_b0 {x w' : World} {t : TypeId} {v : Value} {b : Nat} (hb : Below (x.alloc (.cells #[v] t)).heap.size (x.alloc (.cells #[v] t)) w') (h : x.heap.size = b) : w'.cell? ⟨b, 0, none⟩ = some v := by
  subst h
  rw [hb.cell (p := ⟨x.heap.size, 0, none⟩) (by simp)]
  exact cell_at0 rfl
theorem cell_b1 {x w' : World} {t : TypeId} {v : Value} {b : Nat} {o : Obj} (hb : Below ((x.alloc (.cells #[v] t)).alloc o).heap.size ((x.alloc (.cells #[v] t)).alloc o) w') (h : x.heap.size = b) : w'.cell? ⟨b, 0, none⟩ = some v := by
  subst h
  rw [hb.cell (p := ⟨x.heap.size, 0, none⟩) (by simp; omega), World.cell?_alloc_past (hn := by simp)]
  exact cell_at0 rfl
structure Trio (b : Nat) (t u v : ByteArray) (w : World) : Prop where
  c0 : w.cell? ⟨b, 0, none⟩ = some (.string t)
  c1 : w.cell? ⟨b, 1, none⟩ = some (.string u)
  c2 : w.cell? ⟨b, 2, none⟩ = some (.string v)
theorem trio0 {w : World} {t : TypeId} {x y z : ByteArray} {b : Nat} (h : w.heap.size = b) : Trio b x y z (w.alloc (.cells #[.string x, .string y, .string z] t)) := by
  subst h
  exact ⟨by rw [World.cell?_alloc_new]; rfl, by rw [World.cell?_alloc_new]; rfl, by rw [World.cell?_alloc_new]; rfl⟩
theorem trio1 {w : World} {t : TypeId} {x y z : ByteArray} {b : Nat} {o : Obj} (h : w.heap.size = b) : Trio b x y z ((w.alloc (.cells #[.string x, .string y, .string z] t)).alloc o) := by
  have k : Trio b x y z (w.alloc (.cells #[.string x, .string y, .string z] t)) := trio0 h
  exact ⟨by rw [World.cell?_alloc_past (hn := by simp; omega)]; exact k.c0, by rw [World.cell?_alloc_past (hn := by simp; omega)]; exact k.c1, by rw [World.cell?_alloc_past (hn := by simp; omega)]; exact k.c2⟩
theorem of_one' (w0 : World) (b cap : Nat) (t : ByteArray) (V : Value) (w : World) (hl : sumVal t.data.toList = V) (hL : At w0 w) (ht : t.size ≤ maxLen) (hc : w.cell? ⟨b, 0, none⟩ = some (.string t)) :
    Calls Tryd.prog 8 #[.slice (some ⟨b, 0, none⟩) 1 cap] w fun r w' => r = .returned V ∧ Below w.heap.size w w' := by
  subst hl
  exact of_one b cap t _ w rfl hL.laid ht (World.block_lt_of_cell? w _ hc) hc
theorem of_three' (w0 : World) (b cap : Nat) (t u v : ByteArray) (V : Value) (w : World) (hl : sumVal (t.data.toList ++ u.data.toList ++ v.data.toList) = V) (hL : At w0 w) (ht : t.size ≤ maxLen) (hu : u.size ≤ maxLen) (hv : v.size ≤ maxLen) (hc : Trio b t u v w) :
    Calls Tryd.prog 8 #[.slice (some ⟨b, 0, none⟩) 3 cap] w fun r w' => r = .returned V ∧ Below w.heap.size w w' := by
  subst hl
  exact of_three b cap t u v _ w rfl hL.laid ht hu hv (World.block_lt_of_cell? w _ hc.c0) hc.c0 hc.c1 hc.c2

set_option maxHeartbeats 400000 in
theorem cut_any (s : ByteArray) (n : Nat) (w : World) (_hs : s.size ≤ maxLen) (_hn : n < 1000) :
    Calls Tryd.prog 7 #[.string s, .int .i64 n] w fun e w' => e = .returned (.string (s.extract 0 (min n s.size))) ∧ w = w' := by
  unfold maxLen at _hs
  by_cases h : n < s.size
  · rw [Nat.min_eq_left (by omega)]
    go_enter Tryd.func7, Tryd.ntmps7
    go_wp2
    go_ret
    exact ⟨rfl, rfl⟩
  · rw [Nat.min_eq_right (by omega)]
    go_enter Tryd.func7, Tryd.ntmps7
    go_wp2
    go_ret
    refine ⟨?_, rfl⟩
    simp
theorem extract_list (t : ByteArray) (i j : Nat) : (t.extract i j).data.toList = (t.data.toList.take j).drop i := by
  rw [ByteArray.data_extract, Array.toList_extract, List.extract_eq_take_drop, List.drop_take]
theorem extract_len (t : ByteArray) (i j : Nat) (h : t.size ≤ 300) : (t.extract i j).size ≤ maxLen := by
  unfold maxLen
  rw [ByteArray.size_extract]
  omega
theorem thirds (t : ByteArray) (i j : Nat) (h : i ≤ j) : (t.extract 0 i).data.toList ++ (t.extract i j).data.toList ++ (t.extract j t.size).data.toList = t.data.toList := by
  rw [extract_list, extract_list, extract_list, List.drop_zero, List.take_of_length_le (i := t.size) (by simp)]
  have e : List.take i t.data.toList = List.take i (List.take j t.data.toList) := by rw [List.take_take, Nat.min_eq_left h]
  rw [e, List.take_append_drop, List.take_append_drop]
theorem halves0 (t : ByteArray) (i : Nat) : (t.extract 0 i).data.toList ++ (⟨#[]⟩ : ByteArray).data.toList ++ (t.extract i t.size).data.toList = t.data.toList := by
  rw [extract_list, extract_list, List.drop_zero, List.take_of_length_le (i := t.size) (by simp)]
  simp

set_option maxRecDepth 100000 in
set_option maxHeartbeats 2000000 in
theorem shaParts_walk (a0 : ByteArray) (a1 a2 : Int) (w0 : a0.size ≤ maxLen) (_w1 : (Lit.int .i64 a1).wf = true) (_w2 : (Lit.int .i64 a2).wf = true) (w : World) (hL : Laid KK SS w) :
    Calls Tryd.prog 4 #[.string a0, .int .i64 a1, .int .i64 a2] w fun e w' => e = .returned (.bool true) ∧ Below w.heap.size w w' := by
  have HL := Lib.hid hL
  clear hL
  have hc := cut_any a0 300 w w0 (by omega)
  have ht : (a0.extract 0 (min 300 a0.size)).size ≤ 300 := by rw [ByteArray.size_extract]; omega
  generalize a0.extract 0 (min 300 a0.size) = t at hc ht
  have HC := Lib.hid hc
  clear hc
  go_enter Tryd.func4, Tryd.ntmps4
  go_upto_region 2 with (go_at_call 7; refine HC.out.mono ?_; rintro e w' ⟨rfl, rfl⟩)
  go_cut [1] (fun i wx => ∃ j : Nat, j ≤ t.size ∧ i = .int .i64 j ∧ wx = w)
  case first =>
    go_wp2_with fail
    all_goals go_meet
    all_goals
      first
        | exact ⟨0, by omega, rfl, rfl⟩
        | exact ⟨t.size, by omega, rfl, rfl⟩
        | exact ⟨a1.toNat, by omega, by go_num, rfl⟩
        | (split at * <;> exact ⟨a1.toNat, by omega, by go_num, rfl⟩)
  case rest =>
    obtain ⟨i, hi, rfl, rfl⟩ := hcut
    go_upto_region 3 with fail
    go_cut [2] (fun v wx => ∃ j : Nat, i ≤ j ∧ j ≤ t.size ∧ v = .int .i64 j ∧ wx = wc)
    case first =>
      go_wp2_with fail
      all_goals go_meet
      all_goals
        first
          | exact ⟨i, by omega, by omega, rfl, rfl⟩
          | exact ⟨t.size, by omega, by omega, rfl, rfl⟩
          | exact ⟨a2.toNat, by omega, by omega, by go_num, rfl⟩
          | (split at * <;> exact ⟨a2.toNat, by omega, by omega, by go_num, rfl⟩)
          | trace_state
    case rest =>
      obtain ⟨j, hij, hj, rfl, rfl⟩ := hcut
      have hm : t.size ≤ maxLen := by unfold maxLen; omega
      have z0 := extract_len t 0 i ht
      have z1 := extract_len t i j ht
      have z2 := extract_len t j t.size ht
      have z3 := extract_len t i t.size ht
      have z4 : (⟨#[]⟩ : ByteArray).size ≤ maxLen := by decide
      have e1 := congrArg sumVal (thirds t i j hij)
      have e2 := congrArg sumVal (halves0 t i)
      have g1 := sumVal_guard t.data.toList t.data.toList
      have g2 := sumVal_eql t.data.toList t.data.toList
      rw [same_self] at g2
      obtain ⟨V, hV⟩ : ∃ V, sumVal t.data.toList = V := ⟨_, rfl⟩
      rw [hV] at e1 e2 g1 g2
      have E0 := Lib.hid hV
      have E1 := Lib.hid e1
      have E2 := Lib.hid e2
      clear hV e1 e2
      have k1 : (i : Int) ≤ (t.size : Int) := by omega
      have k2 : (j : Int) ≤ (t.size : Int) := by omega
      have k3 : (i : Int) ≤ (j : Int) := by omega
      have hAt := At.start HL.out
      go_wp2_with fail
      go_region_held3 (fun wx => At wc wx) (first | exact At.alloc (by assumption) _ | exact At.next (by assumption) (by assumption) | exact At.drew (by assumption) | assumption) (first
        | (go_at_call 9; refine (awake_any _ (At.laid (w := wc) (by assumption))).mono ?_; rintro e w' ⟨rfl, hb⟩)
        | (go_at_call 8; (with_reducible refine (of_one' wc _ _ t V _ E0.out ?_ hm ?_).mono ?_); (focus assumption); (first | ((with_reducible refine cell_at0 ?_); (focus (simp; done))) | ((refine cell_b0 (by assumption) ?_); (focus (simp; done))) | ((refine cell_b1 (by assumption) ?_); (focus (simp; done)))); rintro e w' ⟨rfl, hb⟩)
        | (go_at_call 8; (with_reducible refine (of_three' wc _ _ (t.extract 0 i) (t.extract i j) (t.extract j t.size) V _ E1.out ?_ z0 z1 z2 ?_).mono ?_); (focus assumption); (first | ((with_reducible refine trio0 ?_); (focus (simp; done))) | ((with_reducible refine trio1 ?_); (focus (simp; done)))); rintro e w' ⟨rfl, hb⟩)
        | (go_at_call 8; (with_reducible refine (of_three' wc _ _ (t.extract 0 i) ⟨#[]⟩ (t.extract i t.size) V _ E2.out ?_ z0 z4 z3 ?_).mono ?_); (focus assumption); (first | ((with_reducible refine trio0 ?_); (focus (simp; done))) | ((with_reducible refine trio1 ?_); (focus (simp; done)))); rintro e w' ⟨rfl, hb⟩))
      all_goals
        go_wp2
        go_ret
        exact ⟨rfl, At.below (by assumption)⟩
end Go.Proofs.YtndbeapgkkaikaaDoor
