/-
  What the law of grants asks at its head.
-/
import Derived.Test.YtdojmlfpckgdoaaGrants3
namespace Go.Proofs.Ytdojmlfpckgdoaa
open Go.RowKit
set_option maxHeartbeats 2000000 in
theorem grantsAwake (w : World) : Calls Try.prog 36 #[] w fun e w' => e = .returned (.bool true) ∧ Below w.heap.size w w' := by
  have HN : Hid (Calls Try.prog 37 #[.int .i64 2, .int .i64 5] w fun e w' => ∃ m g, e = .returned (.pointer (some ⟨m, 0, none⟩)) ∧ MapAt m g 2 3 (fun _ => 0) w' ∧ Below w.heap.size w w' ∧ w.heap.size ≤ m ∧ w.heap.size ≤ g) := Lib.hid (new_map 2 3 w (by decide) (by decide))
  go_enter Try.func36, Try.ntmps36
  go_wp2_with fail
  refine HN.out.mono ?_
  rintro e w1 ⟨m, g, rfl, hM, hB, hm, hg⟩
  have HT := Lib.hid (take_any m g 2 3 _ w1 hM (by decide) (by decide))
  have HB := Lib.hid hB
  clear hB HN hM
  go_wp2_with fail
  refine HT.out.mono ?_
  rintro e w2 ⟨v, rfl, ht⟩
  cases ht with
  | none _ hno _ _ => exact absurd rfl (hno 0 (by decide))
  | one j _ hj h0 hno hM hG =>
    obtain rfl : j = 0 := by
      rcases Nat.lt_or_ge 0 j with h | h
      · exact absurd rfl (hno 0 h)
      · omega
    have HM := Lib.hid hM
    have HB2 := Lib.hid (hG.below HB.out HB.out.size (fun k e => by omega))
    clear hM hG HT HB
    go_wp2_with fail
    clear h0 hno
    have HL := Lib.hid (later_any m g 2 3 _ 0 w2 HM.out (by decide) (by decide) (by decide))
    refine HL.out.mono ?_
    rintro e w3 ⟨r, rfl, hT⟩
    obtain ⟨rfl, hM3⟩ := hT.1.1 rfl
    have HB3 := Lib.hid (hT.2.below HB2.out HB2.out.size (fun k e => by omega))
    have HM3 := Lib.hid hM3
    clear hT hM3 HL
    go_wp2_with fail
    refine (later_any m g 2 3 _ 0 w3 HM3.out (by decide) (by decide) (by decide)).mono ?_
    rintro e w4 ⟨r, rfl, hT⟩
    obtain ⟨rfl, hM4⟩ := hT.1.2 (by decide)
    have HB4 := Lib.hid (hT.2.below HB3.out HB3.out.size (fun k e => by omega))
    have HM4 := Lib.hid hM4
    clear hT hM4
    go_wp2_with fail
    refine (free_any m g 2 3 _ w4 HM4.out (by decide)).mono ?_
    rintro e w5 ⟨rfl, rfl⟩
    rw [show cnt (upd (upd (fun _ => 0) 0 1) 0 2) 0 3 = 2 from rfl]
    go_wp2_with fail
    refine (late_any m g 2 3 _ _ HM4.out (by decide)).mono ?_
    rintro e w5 ⟨rfl, rfl⟩
    rw [show cnt (upd (upd (fun _ => 0) 0 1) 0 2) 2 3 = 1 from rfl]
    go_wp2_with fail
    go_ret
    exact ⟨rfl, HB4.out⟩
end Go.Proofs.Ytdojmlfpckgdoaa
