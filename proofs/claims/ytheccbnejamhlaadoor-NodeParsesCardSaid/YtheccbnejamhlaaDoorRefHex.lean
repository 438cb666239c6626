/-
  The document's own Hex, for every text.
-/
import Derived.Test.YtheccbnejamhlaaDoorShaText
import Derived.BigRegion
namespace Go.Proofs.YtheccbnejamhlaaDoor
open Go.RowKit

def digs : ByteArray := ⟨#[48, 49, 50, 51, 52, 53, 54, 55, 56, 57, 97, 98, 99, 100, 101, 102]⟩
theorem digs_at : ∀ q, q < 16 → digs.extract q (q + 1) = ⟨#[digit q]⟩ := by decide
/-- two digits, of which the first j are there -/
def hexJ (f : Nat → Nat) (k j : Nat) : List UInt8 := hexOf f k ++ [digit (f k / 16), digit (f k % 16)].take j
theorem hexJ_len (f : Nat → Nat) (k j : Nat) (h : j ≤ 2) : (hexJ f k j).length = 2 * k + j := by
  unfold hexJ
  rw [List.length_append, hex_len, List.length_take]
  simp
  omega
set_option maxRecDepth 100000 in
set_option maxHeartbeats 4000000 in
theorem refHex_any (s : ByteArray) (hs : s.size ≤ 1000) (w : World) :
    Calls Tryd.prog 16 #[.string s] w fun e w' => e = .returned (.string ⟨(hexOf (blkOf s) s.size).toArray⟩) ∧ Below w.heap.size w w' := by
  have hs0 : (s.size : Int) ≤ 1000 := by omega
  have HS := Lib.hid hs
  clear hs
  go_enter Tryd.func16, Tryd.ntmps16
  go_wp2_with fail
  go_loopw [3, 4] (fun p i wx => ∃ k : Nat, k ≤ s.size ∧ i = .int .i64 k ∧ p = .string ⟨(hexOf (blkOf s) k).toArray⟩ ∧ Below w.heap.size w wx) (fun _ i _ => 1000 - (intOf i).toNat)
  case atStart => exact ⟨0, by omega, rfl, rfl, Below.refl _ _⟩
  case round =>
    obtain ⟨k, hk, rfl, rfl, hbel⟩ := hrel
    have HBel := Lib.hid hbel
    clear hbel
    by_cases hlt : k < s.size
    · have i0 : (0 : Int) ≤ (k : Int) ∧ (k : Int) < (s.size : Int) := by omega
      have hx0 : wrap64 ((s[k]'hlt).toNat : Int) = ((s[k]'hlt).toNat : Int) := by
        have := (s[k]'hlt).toNat_lt
        unfold wrap64
        omega
      have hbx := blkOf_at s k hlt
      have hbl := blkOf_lt s k
      obtain ⟨f, hf⟩ : ∃ f, f = blkOf s := ⟨_, rfl⟩
      rw [← hf] at hbx hbl ⊢
      have HF := Lib.hid hf
      clear hf
      rw [← hbx] at hbl
      obtain ⟨B, hB⟩ : ∃ B, (s[k]'hlt).toNat = B := ⟨_, rfl⟩
      rw [hB] at hx0 hbl hbx
      have HFk : Hid (f k = B) := Lib.hid hbx.symm
      have hq : (B : Int) / 16 = ((B / 16 : Nat) : Int) := by omega
      have hr : (B : Int) % 16 = ((B % 16 : Nat) : Int) := by omega
      have lq : B / 16 < 16 := by omega
      have lr : B % 16 < 16 := by omega
      have HLq := Lib.hid (And.intro lq lr)
      have HEq : Hid (f k / 16 = B / 16 ∧ f k % 16 = B % 16) := Lib.hid (by rw [HFk.out]; exact ⟨rfl, rfl⟩)
      generalize B / 16 = q at *
      generalize B % 16 = r at *
      clear hbx
      go_wp2_with fail
      go_region
      have HR2 : Hid (RowI wr.heap.size [q, r] ((wr.alloc (.cells #[.int .i64 (q : Int), .int .i64 (r : Int)] 3)).drew)) := Lib.hid ((RowI.new wr [q, r] 3).drewN 1)
      have HB2 : Hid (Below w.heap.size w ((wr.alloc (.cells #[.int .i64 (q : Int), .int .i64 (r : Int)] 3)).drew)) := Lib.hid ((HBel.out.alloc HBel.out.size _).drew)
      generalize (wr.alloc (.cells #[.int .i64 (q : Int), .int .i64 (r : Int)] 3)).drew = wC at *
      generalize wr.heap.size = g2 at *
      have HK := Lib.hid hlt
      clear hx0 hq hr lq lr hbl HBel
      go_wp2_with fail
      go_loopw [3, 25] (fun p t wx => ∃ j : Nat, j ≤ 2 ∧ t = .int .i64 j ∧ p = .string ⟨(hexJ f k j).toArray⟩ ∧ wx = wC) (fun _ t _ => 2 - (intOf t).toNat)
      case atStart => exact ⟨0, by omega, rfl, by unfold hexJ; simp, rfl⟩
      case round =>
        obtain ⟨j, hj, rfl, rfl, rfl⟩ := hrel
        by_cases hj2 : j < 2
        · have i1 : (0 : Int) ≤ (j : Int) ∧ (j : Int) < 2 := by omega
          have c1 := HR2.out.cell j hj2
          have lV : [q, r].getD j 0 < 16 := by
            obtain rfl | rfl : j = 0 ∨ j = 1 := by omega
            · exact HLq.out.1
            · exact HLq.out.2
          have hn : hexJ f k j ++ [digit ([q, r].getD j 0)] = hexJ f k (j + 1) := by
            unfold hexJ
            rw [HEq.out.1, HEq.out.2, List.append_assoc]
            obtain rfl | rfl : j = 0 ∨ j = 1 := by omega
            · rfl
            · rfl
          have hl := hexJ_len f k j hj
          generalize [q, r].getD j 0 = V at *
          have hd := digs_at V lV
          unfold digs at hd
          have hrun : ∀ wx : World, (Op.stringOp .add ⟨(hexJ f k j).toArray⟩ ⟨#[digit V]⟩).run Tryd.prog wx = .ok (.string ⟨(hexJ f k (j + 1)).toArray⟩) wx := fun wx => by
            rw [← hn]
            have e : (⟨(hexJ f k j ++ [digit V]).toArray⟩ : ByteArray) = ⟨(hexJ f k j).toArray⟩ ++ ⟨#[digit V]⟩ := by
              apply ByteArray.ext
              apply Array.toList_inj.mp
              simp [ByteArray.data_append]
            rw [e]
            exact run_string_add_sum wx _ _ (by
              show (hexJ f k j).length + 1 ≤ _
              have := HS.out
              have := HK.out
              omega)
          obtain ⟨P1, hP1⟩ : ∃ x, x = (⟨(hexJ f k j).toArray⟩ : ByteArray) := ⟨_, rfl⟩
          obtain ⟨P2, hP2⟩ : ∃ x, x = (⟨(hexJ f k (j + 1)).toArray⟩ : ByteArray) := ⟨_, rfl⟩
          obtain ⟨Q, hQ⟩ : ∃ x, x = (⟨#[digit V]⟩ : ByteArray) := ⟨_, rfl⟩
          rw [← hP1, ← hP2, ← hQ] at hrun
          rw [← hP1]
          rw [← hQ] at hd
          have HP2 := Lib.hid hP2
          have v0 : (0 : Int) ≤ (V : Int) ∧ (V : Int) < 16 := by omega
          have v1 : ((V : Int) + 1).toNat = V + 1 := by omega
          clear hP1 hP2 hQ hl hn lV hj
          go_wp2_with fail
          refine ⟨⟨j + 1, by omega, rfl, congrArg Value.string HP2.out, trivial⟩, ?_⟩
          show 2 - ((j : Int) + 1).toNat < 2 - (j : Int).toNat
          omega
        · have hj3 : j = 2 := by omega
          have i1 : ¬ ((j : Int) < 2) := by omega
          have hP : (⟨(hexJ f k j).toArray⟩ : ByteArray) = ⟨(hexOf f (k + 1)).toArray⟩ := by rw [hj3, hexJ, hex_snoc]; rfl
          rw [hP]
          clear hP hj3 hj2 hj
          go_wp2_with fail
          refine ⟨⟨k + 1, HK.out, rfl, rfl, HB2.out⟩, ?_⟩
          show 1000 - ((k : Int) + 1).toNat < 1000 - (k : Int).toNat
          have := HK.out
          have := HS.out
          omega
    · have hk2 : k = s.size := by omega
      have i0 : ¬ ((k : Int) < (s.size : Int)) := by omega
      rw [hk2]
      clear hk2 hlt hk
      go_wp2_with fail
      go_ret
      exact ⟨rfl, HBel.out⟩
end Go.Proofs.YtheccbnejamhlaaDoor
