/-
  Hex: a sum's bytes as digits.
-/
import Derived.Test.YtheccbnejamhlaaDoorShaEql
import Derived.Deep.RegionLaw
import Derived.Laws.IdiomStrings
namespace Go.Proofs.YtheccbnejamhlaaDoor
open Go.RowKit

def digit (n : Nat) : UInt8 := [48, 49, 50, 51, 52, 53, 54, 55, 56, 57, 97, 98, 99, 100, 101, 102].getD n 0
def hexOf (f : Nat → Nat) (k : Nat) : List UInt8 := (List.range k).flatMap fun j => [digit (f j / 16), digit (f j % 16)]
theorem index_sum (s : Sha.St) (k : Nat) (hk : k < 32) : ∀ w : World, (Instr.index 24 (.agg (sumOf s).toArray) (.int .i64 k)).run Tryd.prog w = .ok (.int .u8 (Sha.dg s k : Nat)) w := fun w => by
  have hz : (sizeOf 5).run Tryd.prog w = .ok 1 w := by kernel_rfl
  have hp := run_part_plain (P := Tryd.prog) w plain8 (off := k * 1) (by rw [Nat.mul_one]; exact sum_cell s k hk)
  have hn : (0 : Int) ≤ (k : Int) ∧ (k : Int) < ((32 : Nat) : Int) := by omega
  simp only [Instr.index, asIntOf, Sem.run_bind, Sem.run_pure, run_underlying Tryd.underlying24, Result.andThen_ok, if_pos hn, hz, Int.toNat_natCast, hp]
def mk64 : Array Value := madeCells (Value.int .u8 0).cells 64
theorem mk64_at (j : Nat) (h : j < 64) : mk64[j]? = some (.int .u8 0) := by
  unfold mk64 madeCells
  simp [h, Value.cells, Nat.mod_one]
theorem info8 : (Tryd.prog.info? 5).map (fun i => (i.zero, i.size, i.bytes)) = some (some (.int .u8 0), 1, 1) := by kernel_rfl
theorem make64 (w : World) : (Instr.makeSlice 30 (.int .i64 0) (.int .i64 64)).run Tryd.prog w = .ok (.slice (some ⟨w.heap.size, 0, none⟩) 0 64) (w.alloc (.cells mk64 5)) := by
  obtain ⟨i0, hi, hz0, hz1, hz2⟩ := info_parts info8
  have h := run_make (P := Tryd.prog) w 30 5 i0 (.int .u8 0) Tryd.underlying30 hi hz0 .i64 .i64 0 64 (by omega) (by omega) (by rw [hz2]; omega) (by omega)
  rw [hz1] at h
  exact h
theorem make64b (w : World) (o : Obj) : (Instr.makeSlice 30 (.int .i64 0) (.int .i64 64)).run Tryd.prog (w.alloc o) = .ok (.slice (some ⟨w.heap.size + 1, 0, none⟩) 0 64) ((w.alloc o).alloc (.cells mk64 5)) := by
  rw [make64, World.size_alloc]
theorem hex_len (f : Nat → Nat) (k : Nat) : (hexOf f k).length = 2 * k := by
  induction k with
  | zero => rfl
  | succ k ih =>
    unfold hexOf at ih ⊢
    rw [List.range_succ, List.flatMap_append, List.length_append, ih]
    simp
    omega
theorem hex_snoc (f : Nat → Nat) (k : Nat) : hexOf f (k + 1) = hexOf f k ++ [digit (f k / 16), digit (f k % 16)] := by
  unfold hexOf
  rw [List.range_succ, List.flatMap_append]
  simp
/-- the digits so far, noughts behind -/
def hv (l : List UInt8) (j : Nat) : Value := .int .u8 ((l.getD j 0).toNat : Nat)
structure HexAt (g : Nat) (f : Nat → Nat) (k : Nat) (w wx : World) : Prop where
  row : Cells g 64 (hv (hexOf f k)) wx
  below : Below w.heap.size w wx
theorem box_range {w : World} {L : List Value} {t : TypeId} (o : Obj) : ((w.alloc (.cells L.toArray t)).alloc o).rangeAt w.heap.size 0 L := by
  refine World.rangeAt_alloc (fun j v hv => ?_) _
  rw [Nat.zero_add, World.cell?_alloc_new]
  simpa using hv
theorem hex_start {w : World} {f : Nat → Nat} {o : Obj} : HexAt (w.heap.size + 1) f 0 w ((w.alloc o).alloc (.cells mk64 5)) := by
  refine ⟨?_, ((Below.refl _ _).alloc (Nat.le_refl _) _).alloc (by simp) _⟩
  have h := Cells.new (w.alloc o) 64 _ 5 _ mk64_at
  rw [World.size_alloc] at h
  exact h.congr fun j _ => rfl

theorem and_15 (c : Nat) (h : c < 256) : bits .and .u8 (c : Int) 15 = ((c % 16 : Nat) : Int) := by
  have e := u8_and_nat c 15 h (by decide)
  have g := Nat.and_two_pow_sub_one_eq_mod c 4
  have e2 : 2 ^ 4 - 1 = 15 := rfl
  have e3 : 2 ^ 4 = 16 := rfl
  rw [e2, e3] at g
  rw [g] at e
  exact e
theorem index_digit (n : Nat) (h : n < 16) : ∀ w : World, (Instr.index 9 (.string ⟨#[48, 49, 50, 51, 52, 53, 54, 55, 56, 57, 97, 98, 99, 100, 101, 102]⟩) (.int .u8 n)).run Tryd.prog w = .ok (.int .u8 ((digit n).toNat : Nat)) w := by
  intro w
  rcases (by omega : n = 0 ∨ n = 1 ∨ n = 2 ∨ n = 3 ∨ n = 4 ∨ n = 5 ∨ n = 6 ∨ n = 7 ∨ n = 8 ∨ n = 9 ∨ n = 10 ∨ n = 11 ∨ n = 12 ∨ n = 13 ∨ n = 14 ∨ n = 15) with rfl | rfl | rfl | rfl | rfl | rfl | rfl | rfl | rfl | rfl | rfl | rfl | rfl | rfl | rfl | rfl <;> kernel_rfl

theorem news_at (w : World) (a b : Value) (t : TypeId) : ∀ j u, [a, b][j]? = some u → (w.alloc (.cells #[a, b] t)).drew.cell? ((⟨w.heap.size, 0, none⟩ : Addr).add j) = some u := by
  intro j u h
  rw [Addr.add_mid, Nat.zero_add]
  show (w.alloc (.cells #[a, b] t)).cell? ⟨w.heap.size, j, none⟩ = some u
  rw [World.cell?_alloc_new]
  simpa using h
theorem news_one (x y : Nat) : ∀ u ∈ [Value.int .u8 (x : Int), Value.int .u8 (y : Int)], u.oneCell' = true := by
  intro u hu
  simp at hu
  rcases hu with rfl | rfl <;> rfl
theorem spare_at {g k : Nat} {f : Nat → Nat} {w wx : World} {a b : Value} (h : HexAt g f k w wx) (hk : k < 32) (o : Obj) : ∀ j, j < [a, b].length → ((wx.alloc o).drew.cell? ⟨g, 0 + 2 * k * 1 + j, none⟩).isSome = true ∧ (wx.alloc o).drew.frozen? ⟨g, 0 + 2 * k * 1 + j, none⟩ = false := by
  intro j hj
  have hj2 : j < 2 := hj
  have hc := (h.row.alloc o).2 (0 + 2 * k * 1 + j) (by omega)
  exact ⟨by show ((wx.alloc o).cell? _).isSome = true; rw [hc.1]; rfl, hc.2⟩
theorem hex_step {g k c m : Nat} {f : Nat → Nat} {w wx : World} {o : Obj} (h : HexAt g f k w wx) (hk : k < 32) (hc : f k = c) (hm : c % 16 = m) (hg : w.heap.size ≤ g) :
    HexAt g f (k + 1) w ((wx.alloc o).drew.setCells g (2 * k) [.int .u8 ((digit (c / 16)).toNat : Nat), .int .u8 ((digit m).toNat : Nat)]) := by
  refine ⟨?_, below_row ((h.below.alloc h.below.size _).drew) _ hg⟩
  refine (Cells.splice (h.row.alloc o).drew (2 * k) [.int .u8 ((digit (c / 16)).toNat : Nat), .int .u8 ((digit m).toNat : Nat)] (by simp; omega)).congr fun j hj => ?_
  have hl := hex_len f k
  unfold hv
  rw [hex_snoc, hc, hm]
  by_cases h0 : j < 2 * k
  · rw [if_neg (by omega), List.getD_eq_getElem?_getD, List.getD_eq_getElem?_getD, List.getElem?_append_left (by omega)]
  · by_cases h1 : j < 2 * k + 2
    · rw [if_pos (by simp; omega), List.getD_eq_getElem?_getD (l := hexOf f k ++ _), List.getElem?_append_right (by omega), hl]
      rcases (by omega : j - 2 * k = 0 ∨ j - 2 * k = 1) with e | e <;> rw [e] <;> rfl
    · rw [if_neg (by simp; omega), List.getD_eq_getElem?_getD, List.getD_eq_getElem?_getD, List.getElem?_eq_none (by omega), List.getElem?_eq_none (by simp; omega)]
theorem conv_hex {g : Nat} {l : List UInt8} {wx : World} (h : Cells g 64 (fun j => .int .u8 ((l.getD j 0).toNat : Nat)) wx) (hl : l.length = 2 * 32) (n : Nat) (hn : n = 64) :
    (convert 30 9 (.slice (some ⟨g, 0, none⟩) n 64)).run Tryd.prog wx = .ok (.string ⟨l.toArray⟩) wx := by
  have e : l.length = n := by omega
  have z := run_convert_bytes_back (P := Tryd.prog) wx 30 9 5 ⟨g, 0, none⟩ 64 l Tryd.underlying30 Tryd.underlying5 Tryd.underlying9 fun j hj => by
    rw [Addr.add_mid, Nat.zero_add, (h.2 j (by omega)).1]
    simp [List.getD_eq_getElem?_getD, List.getElem?_eq_getElem hj]
  rw [e] at z
  exact z

set_option maxRecDepth 100000 in
set_option maxHeartbeats 2000000 in
theorem hex_any (s : Sha.St) (w : World) :
    Calls Tryd.prog 15 #[.agg (sumOf s).toArray] w fun r w' => r = .returned (.string ⟨(hexOf (Sha.dg s) 32).toArray⟩) ∧ Below w.heap.size w w' := by
  obtain ⟨L, hL⟩ : ∃ L, sumOf s = L := ⟨_, rfl⟩
  rw [hL]
  have HL := Lib.hid hL
  clear hL
  go_enter Tryd.func15, Tryd.ntmps15
  have HI24 : Hid ((Tryd.prog.info? 24).map (·.size) = some L.length) := Lib.hid (by rw [← HL.out]; kernel_rfl)
  go_upto_region 1 with fail
  go_cut [3] (fun p wx => p = .slice (some ⟨w.heap.size + 1, 0, none⟩) 0 64 ∧ wx.rangeAt w.heap.size 0 L ∧ HexAt (w.heap.size + 1) (Sha.dg s) 0 w wx)
  case first =>
    have hmk := make64b w
    go_wp2_with fail
    go_meet
    exact ⟨rfl, box_range _, hex_start⟩
  case rest =>
    obtain ⟨rfl, hra, hH⟩ := hcut
    have HRa := Lib.hid hra
    clear hra
    go_wp2_with (with_reducible refine wpList_load_mid rfl 24 _ rfl w.heap.size 0 rfl L _ HRa.out Tryd.underlying24 rfl HI24.out ?_)
    go_loopw [3, 8] (fun v i wx => ∃ k : Nat, k ≤ 32 ∧ i = .int .i64 k ∧ v = .slice (some ⟨w.heap.size + 1, 0, none⟩) (2 * k) 64 ∧ HexAt (w.heap.size + 1) (Sha.dg s) k w wx) (fun _ i _ => 32 - (intOf i).toNat)
    case atStart => exact ⟨0, by omega, rfl, rfl, hH⟩
    case round =>
      clear hH HRa
      obtain ⟨k, hk, rfl, rfl, hH⟩ := hrel
      have HH := Lib.hid hH
      clear hH
      by_cases hlt : k < 32
      · have hidx := index_sum s k hlt
        rw [HL.out] at hidx
        obtain ⟨c, hc⟩ : ∃ c, Sha.dg s k = c := ⟨_, rfl⟩
        rw [hc] at hidx
        have HCc := Lib.hid hc
        have hcl : c < 256 := by rw [← hc]; exact Nat.mod_lt _ (by decide)
        clear hc
        obtain ⟨m, hm⟩ : ∃ m, c % 16 = m := ⟨_, rfl⟩
        have hand : bits .and .u8 (c : Int) 15 = (m : Int) := by rw [← hm]; exact and_15 c hcl
        have hd1 := index_digit (c / 16) (by omega)
        have hd2 := index_digit m (by omega)
        rw [show ((c / 16 : Nat) : Int) = (c : Int) / 16 from by omega] at hd1
        obtain ⟨i0, hi, hz0, hz1, hz2⟩ := info_parts info8
        have HM := Lib.hid hm
        have HZ1 := Lib.hid hz1
        clear hm hz0 hz1 hz2
        go_wp2_with fail
        go_region_law ((refine step_append_room rfl _ _ 30 rfl 5 i0 1 Tryd.underlying30 hi HZ1.out (w.heap.size + 1) 0 (2 * k) 64 (by rfl) ⟨wr.heap.size, 0, none⟩ 2 2 [.int .u8 ((digit (c / 16)).toNat : Nat), .int .u8 ((digit m).toNat : Nat)] (by rfl) rfl ?_ ?_ (by omega) ?_ ?_); (focus exact news_at _ _ _ _); (focus exact news_one _ _); (focus exact spare_at HH.out hlt _))
        all_goals
          go_wp2
          go_roundw
          case rel => exact ⟨k + 1, by omega, by go_num, by rw [show 2 * (k + 1) = 2 * k + 2 from by omega], hex_step HH.out hlt HCc.out HM.out (by omega)⟩
          case measure => simp [intOf]; omega
      · have HE : Hid (Cells (w.heap.size + 1) 64 (fun j => .int .u8 (((hexOf (Sha.dg s) 32).getD j 0).toNat : Nat)) wr) := Lib.hid (by
          have e : k = 32 := by omega
          have z := HH.out.row
          rw [e] at z
          exact z)
        have kc := conv_hex HE.out (hex_len _ 32) (2 * k) (by omega)
        go_wp2
        go_ret
        exact ⟨rfl, HH.out.below⟩
end Go.Proofs.YtheccbnejamhlaaDoor
