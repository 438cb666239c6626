/-
  UndoOrder: for every number of steps, and whether the Try fails, the law answers true.
-/
import Derived.Test.YtjlfnkgjeopecaaUndoOrder
namespace Go.Proofs.Ytjlfnkgjeopecaa
open Go.RowKit

set_option maxRecDepth 10000 in
set_option maxHeartbeats 4000000 in
theorem undoOrder_walk (n : Int) (F : Bool) (w : World) :
    Calls Try.prog 4 #[.int .i64 n, .bool F] w fun e w' => e = .returned (.bool true) ∧ Below w.heap.size w w' := by
  have hmf : ∀ (fn : Fn) (first cap : Array Value) (w : World), (Instr.makeFunc fn first cap).run Try.prog w = .ok (.func fn first cap) w := fun _ _ _ _ => rfl
  obtain ⟨m, hm, hm8⟩ := mask255 n
  obtain ⟨W0, hW0⟩ : ∃ W0, (w.alloc (.cells #[.int .i64 n] 3)).alloc (.cells #[.bool F] 4) = W0 := ⟨_, rfl⟩
  have hs1 : (w.alloc (.cells #[.int .i64 n] 3)).heap.size = w.heap.size + 1 := by simp
  have bn0 : Box w.heap.size 3 (.int .i64 n) W0 := by rw [← hW0]; exact (Box.new w _ _).keepAlloc _
  have bf0 : Box (w.heap.size + 1) 4 (.bool F) W0 := by
    rw [← hW0]
    have := Box.new (w.alloc (.cells #[.int .i64 n] 3)) 4 (.bool F)
    rw [hs1] at this
    exact this
  have hB0 : Below w.heap.size w W0 := by rw [← hW0]; exact ((Below.refl _ _).alloc (Nat.le_refl _) _).alloc (by simp) _
  have HA := Lib.hid (undoAwake W0)
  have HBn := Lib.hid bn0
  have HBf := Lib.hid bf0
  have HB0 := Lib.hid hB0
  clear bn0 bf0 hB0
  subst hW0
  go_enter Try.func4, Try.ntmps4
  go_wp2_with fail
  refine HA.out.mono ?_
  rintro e w1 ⟨rfl, hb1⟩
  have bn1 := HBn.out.keep (Grew.of_below (S := fun _ => False) hb1) fun e => e
  have bf1 := HBf.out.keep (Grew.of_below (S := fun _ => False) hb1) fun e => e
  have hB1 := HB0.out.trans (hb1.mono HB0.out.size)
  have c1 := bn1.cell
  have f1 := bn1.free
  obtain ⟨N, hN⟩ : ∃ N, m % 20 = N := ⟨_, rfl⟩
  have hN20 : N < 20 := by omega
  have hmi : (m : Int) % 20 = (N : Int) := by omega
  have hmt : (m : Int).tmod 20 = (N : Int) := by rw [Int.tmod_eq_emod_of_nonneg (by omega)]; exact hmi
  obtain ⟨W, hW⟩ : ∃ W, (((w1.setCell ⟨w.heap.size, 0, none⟩ (.int .i64 N)).alloc (.cells #[.int .i64 0, .slice none 0 0] 30)).alloc (.cells #[] 3)).alloc (.cells #[.slice (some ⟨w1.heap.size + 1, 0, none⟩) 0 0] 40) = W := ⟨_, rfl⟩
  have hsA : (w1.setCell ⟨w.heap.size, 0, none⟩ (.int .i64 N)).heap.size = w1.heap.size := by simp [World.setCell]
  have s1 := bf1.lt
  have HT : Hid (Calls Try.prog 15 #[.pointer (some ⟨w1.heap.size, 0, none⟩), .func (.func 16) #[] #[.pointer (some ⟨w.heap.size, 0, none⟩), .pointer (some ⟨w1.heap.size, 0, none⟩), .pointer (some ⟨w1.heap.size + 1 + 1, 0, none⟩), .pointer (some ⟨w.heap.size + 1, 0, none⟩)]] W fun e w' => e = .returned (.int .i64 (if F = true then 8 else 0)) ∧ (F = true → ∃ ib, Downs w w1.heap.size (w1.heap.size + 1 + 1) (w.heap.size + 1) F ib N 0 w' ∧ ib N = w.heap.size) ∧ (F = false → Box (w1.heap.size + 1 + 1) 40 (.slice (some ⟨w1.heap.size + 1, 0, none⟩) 0 0) w' ∧ Box (w.heap.size + 1) 4 (.bool F) w' ∧ Below w.heap.size w w')) := Lib.hid (by
    subst hW
    have lg := log_new (w1.setCell ⟨w.heap.size, 0, none⟩ (.int .i64 N)) 0
    rw [hsA] at lg
    have z1 : ((w1.setCell ⟨w.heap.size, 0, none⟩ (.int .i64 N)).alloc (.cells #[.int .i64 0, .slice none 0 0] 30)).heap.size = w1.heap.size + 1 := by simp [hsA]
    have z2 : (((w1.setCell ⟨w.heap.size, 0, none⟩ (.int .i64 N)).alloc (.cells #[.int .i64 0, .slice none 0 0] 30)).alloc (.cells #[] 3)).heap.size = w1.heap.size + 1 + 1 := by simp [hsA]
    have bl := Box.new (((w1.setCell ⟨w.heap.size, 0, none⟩ (.int .i64 N)).alloc (.cells #[.int .i64 0, .slice none 0 0] 30)).alloc (.cells #[] 3)) 40 (.slice (some ⟨w1.heap.size + 1, 0, none⟩) 0 0)
    rw [z2] at bl
    have ol := World.ownsRow_lit (base := w.heap.size) (e := 3) (size := 1) ((w1.setCell ⟨w.heap.size, 0, none⟩ (.int .i64 N)).alloc (.cells #[.int .i64 0, .slice none 0 0] 30)) #[] 0 (by rw [z1]; omega) (by decide) rfl
    rw [z1] at ol
    refine tryOrd_any w _ w1.heap.size w.heap.size (w1.heap.size + 1 + 1) (w.heap.size + 1) (w1.heap.size + 1) N F ((lg.keepAlloc _).keepAlloc _) (by omega) ((((bn1.set _).keepAlloc _).keepAlloc _).keepAlloc _) ((((bf1.keepSet _ _ _ (by omega)).keepAlloc _).keepAlloc _).keepAlloc _) bl (ol.alloc _) ?_ (by omega) (by omega)
    exact (((hB1.setCell (Nat.le_refl _) _).alloc (by rw [hsA]; omega) _).alloc (by rw [z1]; omega) _).alloc (by rw [z2]; omega) _)
  have lg1 : LogAt 0 w1.heap.size 0 (.slice none 0 0) [] W := by
    subst hW
    have lg := log_new (w1.setCell ⟨w.heap.size, 0, none⟩ (.int .i64 N)) 0
    rw [hsA] at lg
    exact (lg.keepAlloc _).keepAlloc _
  have HBk := Lib.hid (back_none 0 w1.heap.size (.slice none 0 0) [] (.func (.func 14) #[] #[.pointer (some ⟨w1.heap.size + 1 + 1, 0, none⟩)]) W lg1)
  subst hW
  clear bn1 bf1 hB1 hb1 HA HBn HBf HB0 lg1 hN
  go_wp2_with fail
  refine HBk.out.mono ?_
  rintro e w2 ⟨rfl, rfl⟩
  clear HBk
  go_wp2_with fail
  refine HT.out.mono ?_
  rintro e w3 ⟨he, hT1, hT2⟩
  clear HT
  cases F with
  | false =>
    obtain ⟨b1, b2, b3⟩ := hT2 rfl
    rw [if_neg (by decide)] at he
    subst he
    have c3 := b1.cell
    have c4 := b2.cell
    have HB := Lib.hid b3
    clear hT1 hT2 b1 b2 b3
    go_wp2_with fail
    go_ret
    exact ⟨rfl, HB.out⟩
  | true =>
    obtain ⟨ib, hD, hnb⟩ := hT1 rfl
    rw [if_pos rfl] at he
    subst he
    obtain ⟨lv, l1, l2, l3, l4⟩ := hD.l
    have bn := (hD.b N (Nat.le_refl _)).1
    rw [hnb] at bn
    rw [Nat.sub_zero] at l2
    obtain ⟨la, lc, rfl⟩ : ∃ la lc, lv = .slice la N lc := by
      rcases l2.2 with ⟨e, h0⟩ | ⟨b, cap', cur, e, _⟩
      · exact ⟨none, 0, by rw [e, h0]⟩
      · exact ⟨_, _, e⟩
    have HR : Hid (∀ i, i < N → ∃ q, la = some ⟨q, 0, none⟩ ∧ w3.cell? ⟨q, i, none⟩ = some (.int .i64 ((N - 1 - i : Nat) : Int))) := Lib.hid fun i hi => by
      rcases l2.2 with ⟨e, h0⟩ | ⟨b, cap', cur, e, _⟩
      · omega
      · cases e
        have := l2.cells (g := b) rfl i (.int .i64 ((N - 1 - i : Nat) : Int)) (by simp [downs, hi])
        rw [Addr.add_lit] at this
        exact ⟨b, rfl, by simpa using this⟩
    have c3 := l1.cell
    have c4 := hD.f.1.cell
    have c5 := bn.cell
    have HB := Lib.hid hD.below
    clear hT1 hT2 hD l1 l2 l3 l4 bn hnb
    go_wp2_with fail
    go_loop [39] (fun i => ∃ k : Nat, k ≤ N ∧ i = .int .i64 k) (fun i => N - (intOf i).toNat)
    case atStart => exact ⟨0, by omega, rfl⟩
    case round =>
      obtain ⟨k, hk, rfl⟩ := hrel
      by_cases hlt : k < N
      · have i1 : (k : Int) < (N : Int) := by omega
        have i2 : (0 : Int) ≤ (k : Int) := by omega
        obtain ⟨q, rfl, hc⟩ := HR.out k hlt
        have i3 : ((N - 1 - k : Nat) : Int) = (N : Int) - 1 - (k : Int) := by omega
        rw [i3] at hc
        clear i3
        go_wp2_with fail
        go_round
        case rel => exact ⟨k + 1, by omega, by go_num⟩
        case measure => simp [intOf]; omega
      · have i1 : ¬ (k : Int) < (N : Int) := by omega
        go_wp2_with fail
        go_ret
        exact ⟨rfl, HB.out⟩
end Go.Proofs.Ytjlfnkgjeopecaa
