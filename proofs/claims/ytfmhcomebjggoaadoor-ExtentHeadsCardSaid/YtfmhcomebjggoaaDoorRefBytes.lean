/-
  The document's own sum: a number as bytes: a contract.
-/
import Derived.Test.YtfmhcomebjggoaaDoorRefTurn
import Derived.Test.YtfmhcomebjggoaaDoorPackRefNum
import Derived.Laws.BytesArg
import Derived.Laws.OwnMore
import Derived.LoopTactic
namespace Go.Proofs.YtfmhcomebjggoaaDoor
open Go.RowKit

theorem rowGe {wx : World} {B : Nat} {e : TypeId} {v : Value} {n : Nat} {xs : List Value} (h : wx.ownsRow B e 1 v n xs) : ∀ q, v.ownBlock = some q → B ≤ q := by
  intro q hq
  rcases h.2 with ⟨rfl, _⟩ | ⟨g, cap, cur, rfl, hg, _⟩
  · simp [Value.ownBlock] at hq
  · simp [Value.ownBlock] at hq
    omega
theorem rowText {wx : World} {B n : Nat} {v : Value} {l : List UInt8} (h : wx.ownsRow B 5 1 v n (cellsOf l)) :
    (v = .slice none 0 0 ∧ l = []) ∨ ∃ g cap, v = .slice (some ⟨g, 0, none⟩) n cap ∧ (convert 33 9 (.slice (some ⟨g, 0, none⟩) n cap)).run Tryd.prog wx = .ok (.string ⟨l.toArray⟩) wx := by
  have hl : l.length = n := by have := h.1; simpa [cellsOf] using this
  rcases h.2 with ⟨rfl, hn⟩ | ⟨g, cap, cur, rfl, hg, hh, hnc, hcm, hcs, htake⟩
  · exact .inl ⟨rfl, List.eq_nil_of_length_eq_zero (by omega)⟩
  · refine .inr ⟨g, cap, rfl, ?_⟩
    have z := run_convert_bytes_back (P := Tryd.prog) wx 33 9 5 ⟨g, 0, none⟩ cap l Tryd.underlying33 Tryd.underlying5 Tryd.underlying9 fun j hj => by
      rw [Addr.add_mid, Nat.zero_add, h.cellAt j (by omega)]
      unfold cellsOf
      rw [List.getElem?_map, List.getElem?_eq_getElem hj]
      rfl
    rw [hl] at z
    exact z
set_option maxRecDepth 100000 in
set_option maxHeartbeats 2000000 in
theorem refBytes_any (a c : Nat) (ha : a < 9223372036854775808) (hc : 1 ≤ c ∧ c ≤ 8) (w : World) :
    Calls Tryd.prog 23 #[.int .i64 (a : Int), .int .i64 (c : Int)] w fun e w' => e = .returned (.string ⟨(enc a c).toArray⟩) ∧ Below w.heap.size w w' := by
  obtain ⟨i0, hi, hz0, hz1, hz2⟩ := info_parts info8p
  have HI := Lib.hid hi
  have HZ0 := Lib.hid hz0
  have HZ1 := Lib.hid hz1
  have HZ2 := Lib.hid hz2
  clear hi hz0 hz1 hz2
  have ha0 : (0 : Int) ≤ (a : Int) ∧ (a : Int) ≤ 9223372036854775807 := by omega
  have hc0 : (1 : Int) ≤ (c : Int) ∧ (c : Int) ≤ 8 := by omega
  have HC := Lib.hid hc
  clear ha hc
  go_enter Tryd.func23, Tryd.ntmps23
  go_wp2_with fail
  go_loopw [5, 6] (fun v i wx => ∃ k : Nat, ∃ I : Int, k ≤ c ∧ I = (c : Int) - 1 - k ∧ i = .int .i64 I ∧ wx.ownsRow w.heap.size 5 1 v k (cellsOf ((enc a c).take k)) ∧ Below w.heap.size w wx) (fun _ i _ => (intOf i + 1).toNat)
  case atStart => exact ⟨0, (c : Int) - 1, by omega, by omega, rfl, World.ownsRow_lit w #[] 0 (Nat.le_refl _) (by decide) rfl, (Below.refl _ _).alloc (Nat.le_refl _) _⟩
  case round =>
    obtain ⟨k, I, hk, hI, rfl, hown, hbel⟩ := hrel
    have HOwn := Lib.hid hown
    have HBel := Lib.hid hbel
    clear hown hbel
    by_cases hlt : k < c
    · have i1 : (0 : Int) ≤ I := by omega
      have i2 : I ≤ 7 := by omega
      obtain ⟨S, hS⟩ : ∃ S, 8 * (c - 1 - k) = S := ⟨_, rfl⟩
      have hsh : (8 * I).toNat = S := by omega
      obtain ⟨z, hz⟩ : ∃ z, a / 2 ^ S = z := ⟨_, rfl⟩
      have hzi : (a : Int) / 2 ^ S = (z : Int) := by rw [← hz]; simp
      have hzb := byte_mod z
      have hzl : z ≤ a := by rw [← hz]; exact Nat.div_le_self _ _
      have HN : Hid (cellsOf ((enc a c).take k) ++ [.int .u8 ((UInt8.ofNat z).toNat : Int)] = cellsOf ((enc a c).take (k + 1))) := Lib.hid (by
        rw [enc_take a c k hlt, ← hz, ← hS, Nat.pow_mul]
        simp [cellsOf])
      have HL : Hid (k ≤ 8) := Lib.hid (by have := HC.out; omega)
      have HI' := Lib.hid hI
      have HLt := Lib.hid hlt
      have hzl' : (z : Int) ≤ 9223372036854775807 := by omega
      clear hz hS hI hlt hk
      generalize UInt8.ofNat z = b at *
      go_wp2_with (at_builtin; refine wpList_append_own _ rfl _ _ 33 rfl w.heap.size 5 i0 (.int .u8 0) 1 1 Tryd.underlying33 HI.out HZ0.out HZ1.out HZ2.out rfl (by decide) _ _ _ rfl (HOwn.out.alloc _) ⟨wr.heap.size, 0, none⟩ 1 1 [.int .u8 (b.toNat : Nat)] rfl rfl ?c1 ?c2 ?c3 ?c4 ?c5 ?_)
      case c1 => exact news_onep wr _ _
      case c2 => first | rfl | (intro u hu; simp at hu; subst hu; rfl)
      case c3 => (have hk8 : k ≤ 8 := HL.out); (first | omega | (unfold maxLen; omega))
      case c4 => (have hk8 : k ≤ 8 := HL.out); omega
      case c5 => have := HBel.out.size; first | omega | (simp; omega)
      · intro v' w1 hown' hgrow _
        rw [HN.out] at hown'
        have HO1 := Lib.hid hown'
        have HB1 := Lib.hid ((HBel.out.alloc HBel.out.size (.cells #[.int .u8 (b.toNat : Nat)] 5)).grown hgrow (by have := HBel.out.size; simp; omega) (rowGe HOwn.out))
        clear hown' hgrow
        go_wp2
        go_roundw
        case rel => exact ⟨k + 1, I - 1, by have := HLt.out; omega, by have := HI'.out; omega, rfl, HO1.out, HB1.out⟩
        case measure => simp [intOf]; omega
    · have i1 : I < 0 := by omega
      have i2 : ¬ (0 : Int) ≤ I := by omega
      have i3 : (-1 : Int) ≤ I := by omega
      obtain rfl : k = c := by omega
      have hown := HOwn.out
      rw [List.take_of_length_le (by rw [enc_len]; exact Nat.le_refl _)] at hown
      rcases rowText hown with ⟨rfl, hk0⟩ | ⟨g, cap, rfl, hkc⟩
      · have := congrArg List.length hk0
        rw [enc_len] at this
        have h1 := HC.out.1
        exact absurd this (by simp; omega)
      · clear hown hI HOwn
        go_wp2
        go_ret
        exact ⟨rfl, HBel.out⟩
end Go.Proofs.YtfmhcomebjggoaaDoor
