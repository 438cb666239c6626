/-
  CrcSums: for every text (of which at most 300 bytes are taken) and every place in it, the law answers true.
-/
import Derived.Test.YtndbeapgkkaikaaCrcAwake
import Derived.Deep.RegionWith
import Derived.Deep.RegionHeld3
import Derived.Deep.DeepCutAuto
import Derived.IntWalk
namespace Go.Proofs.Ytndbeapgkkaikaa
open Go.RowKit

theorem extract_list (t : ByteArray) (i j : Nat) : (t.extract i j).data.toList = (t.data.toList.take j).drop i := by
  rw [ByteArray.data_extract, Array.toList_extract, List.extract_eq_take_drop, List.drop_take]
theorem halves (t : ByteArray) (j : Nat) : (t.extract 0 j).data.toList ++ (t.extract j t.size).data.toList = t.data.toList := by
  rw [extract_list, extract_list, List.drop_zero, List.take_of_length_le (i := t.size) (by simp), List.take_append_drop]
theorem extract_len (t : ByteArray) (i j : Nat) (h : t.size ≤ 300) : (t.extract i j).size ≤ maxLen := by
  unfold maxLen
  rw [ByteArray.size_extract]
  omega

theorem below3 {wc w' : World} (hb : Below wc.drew.heap.size wc.drew w') (o1 o2 o3 : Obj) : Below wc.heap.size wc (((w'.alloc o1).alloc o2).alloc o3) := by
  have h0 : Below wc.heap.size wc w' := (Below.refl wc.heap.size wc).drew.trans hb
  have hs := h0.size
  exact ((h0.alloc hs _).alloc (by simp; omega) _).alloc (by simp; omega) _

set_option maxHeartbeats 1000000 in
theorem crcSums_walk (a0 : ByteArray) (a1 : Int) (w0 : a0.size ≤ maxLen) (_w1 : (Lit.int .i64 a1).wf = true) (w : World) :
    Calls Try.prog 3 #[.string a0, .int .i64 a1] w fun e w' => e = .returned (.bool true) ∧ Below w.heap.size w w' := by
  have hc := cut_any a0 300 w w0 (by omega)
  have ht : (a0.extract 0 (min 300 a0.size)).size ≤ 300 := by rw [ByteArray.size_extract]; omega
  generalize a0.extract 0 (min 300 a0.size) = t at hc ht
  have HC := Lib.hid hc
  clear hc
  go_enter Try.func3, Try.ntmps3
  go_upto_region 2 with (go_at_call 7; refine HC.out.mono ?_; rintro e w' ⟨rfl, rfl⟩)
  go_cut [1] (fun i wx => ∃ j : Nat, j ≤ t.size ∧ i = .int .i64 j ∧ wx = w)
  case first =>
    go_wp2_with fail
    all_goals go_meet
    all_goals
      first
        | exact ⟨0, by omega, rfl, rfl⟩
        | exact ⟨t.size, by omega, rfl, rfl⟩
        | exact ⟨a1.toNat, by omega, by go_num, rfl⟩
        | (split at * <;> exact ⟨a1.toNat, by omega, by go_num, rfl⟩)
        | trace_state
  case rest =>
    obtain ⟨j, hj, rfl, rfl⟩ := hcut
    have hn := Crc.sum_lt t.data.toList
    have h1 := extract_len t 0 j ht
    have h2 := extract_len t j t.size ht
    have hm : t.size ≤ maxLen := by unfold maxLen; omega
    have e2 := congrArg Crc.sum (halves t j)
    obtain ⟨n, hnt⟩ : ∃ n, Crc.sum t.data.toList = n := ⟨_, rfl⟩
    rw [hnt] at hn e2
    have HT := Lib.hid hnt
    have HE := Lib.hid e2
    clear e2 hnt
    have hn' : (n : Int) < 4294967296 := by omega
    have href := fun wx => ref_any t wx hm
    rw [HT.out] at href
    have HR := Lib.hid href
    clear href
    have hwr : IntKind.i64.wrap (n : Int) = (n : Int) := IntWalk.i64_in _ (by omega)
    go_wp2_with fail
    go_region_held3 (fun _ => True) (exact trivial) (first
      | (go_at_call 8; refine (awake_any _).mono ?_; rintro e w' ⟨rfl, hb⟩)
      | (go_at_call 10; refine (HR.out _).mono ?_; rintro e w' ⟨rfl, rfl⟩)
      | (go_at_call 9; (with_reducible refine (sum_one _ _ n t _ HT.out hm ?_).mono ?_); (simp [World.cell?_alloc_at, World.cell?_alloc_past]); rintro e w' ⟨rfl, rfl⟩)
      | (go_at_call 9; (with_reducible refine (sum_two _ _ n _ _ _ HE.out h1 h2 ?_ ?_).mono ?_); (simp [World.cell?_alloc_at, World.cell?_alloc_past]); (simp [World.cell?_alloc_at, World.cell?_alloc_past]); rintro e w' ⟨rfl, rfl⟩))
    all_goals
      go_wp2
      go_ret
      exact ⟨rfl, below3 hb _ _ _⟩
end Go.Proofs.Ytndbeapgkkaikaa
