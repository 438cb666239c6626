/-
  Stamp.Frame, for every stamp and text: the frame's bytes where there is room, else the error.
-/
import Derived.Test.YtjggofbaipppbaaStampPut
namespace Go.Proofs.Ytjggofbaipppbaa
open Go.RowKit

/-- the bytes of a stamp -/
def stampOf (a b : Nat) : List UInt8 := enc a 4 ++ enc b 4
/-- the bytes of a frame -/
def frameOf (a b : Nat) (t : List UInt8) : List UInt8 := stampOf a b ++ (enc t.length 1 ++ (t ++ (List.replicate (47 - t.length) 0 ++ stampOf a b)))
theorem stampOf_len (a b : Nat) : (stampOf a b).length = 8 := by simp [stampOf, enc_len]
theorem frameOf_len (a b : Nat) (t : List UInt8) (h : t.length ≤ 47) : (frameOf a b t).length = 64 := by
  simp [frameOf, stampOf_len, enc_len]
  omega
theorem ownNone : (Value.slice none 0 0).ownBlock = none := rfl
theorem outNew2 (w : World) (x : Obj) : OutAt (w.heap.size + 2) (w.heap.size + 1) (.slice none 0 0) [] ((w.alloc x).alloc (.cells #[.slice none 0 0] 110)) := by
  have hs : (w.alloc x).heap.size = w.heap.size + 1 := by simp
  have h := boxNew (w := w.alloc x) (t := 110) (v := .slice none 0 0) hs
  have h2 := boxFree (w := w.alloc x) (t := 110) (v := .slice none 0 0) hs
  exact ⟨by omega, by simp, h, h2, by simp [cellsOf, World.ownsRow]⟩
theorem frame_big (a b : Nat) (t : ByteArray) (w : World) (ht : 47 < t.size) :
    Calls Try.prog 67 #[.agg #[.int .u32 a, .int .u32 b], .string t] w fun e w' => e = failed 3 ∧ Below w.heap.size w w' := by
  have hlt : 47 < (t.size : Int) := by omega
  go_enter Try.func67, Try.ntmps67
  go_wp2_with fail
  refine (fail_any 3 _).mono ?_
  rintro e w' ⟨rfl, rfl⟩
  unfold failed
  go_wp2
  exact ⟨rfl, rfl, (Below.refl _ _).alloc (Nat.le_refl _) _⟩

set_option maxHeartbeats 1000000 in
theorem frame_ok (a b : Nat) (t : ByteArray) (w : World) (ht : t.size ≤ 47) (ha : a < 4294967296) (hb : b < 4294967296) :
    Calls Try.prog 67 #[.agg #[.int .u32 a, .int .u32 b], .string t] w fun e w' => e = .returned (.string ⟨(frameOf a b t.data.toList).toArray⟩) ∧ Below w.heap.size w w' := by
  have hlt : ¬ 47 < (t.size : Int) := by omega
  have hb2 : Below w.heap.size w ((w.alloc (.cells #[.int .u32 a, .int .u32 b] 103)).alloc (.cells #[.slice none 0 0] 110)) := ((Below.refl _ _).alloc (Nat.le_refl _) _).alloc (by simp) _
  have hO := outNew2 w (.cells #[.int .u32 a, .int .u32 b] 103)
  have hsz : w.heap.size < ((w.alloc (.cells #[.int .u32 a, .int .u32 b] 103)).alloc (.cells #[.slice none 0 0] 110)).heap.size := by simp; omega
  obtain ⟨p0, p1⟩ := pair_cells w (.int .u32 a) (.int .u32 b) 103
  have q0 : ((w.alloc (.cells #[.int .u32 a, .int .u32 b] 103)).alloc (.cells #[.slice none 0 0] 110)).cell? ⟨w.heap.size, 0, none⟩ = some (.int .u32 a) := by rw [World.cell?_alloc_past (hn := by simp), p0]
  have q1 : ((w.alloc (.cells #[.int .u32 a, .int .u32 b] 103)).alloc (.cells #[.slice none 0 0] 110)).cell? ⟨w.heap.size, 1, none⟩ = some (.int .u32 b) := by rw [World.cell?_alloc_past (hn := by simp), p1]
  clear p0 p1
  have hT : t.data.toList.length = t.size := by simp
  have HT := Lib.hid hT
  have u1 : IntKind.u64.wrap (t.size : Int) = t.size := u32_as_u64 _ (by omega)
  have HL : Hid (∀ k : Nat, k < 100 → k < 900000) := Lib.hid fun k h => by omega
  clear hT
  go_enter Try.func67, Try.ntmps67
  go_wp2_with fail
  obtain ⟨W, hW⟩ : ∃ W, (w.alloc (.cells #[.int .u32 a, .int .u32 b] 103)).alloc (.cells #[.slice none 0 0] 110) = W := ⟨_, rfl⟩
  rw [hW] at hb2 hO hsz q0 q1 ⊢
  obtain ⟨x, hx⟩ : ∃ x, w.heap.size = x := ⟨_, rfl⟩
  rw [hx] at hb2 hO hsz q0 q1 ⊢
  clear hW
  have HX := Lib.hid hx
  clear hx
  have H0 : Hid (OutVia (x + 2) (x + 1) (.slice none 0 0) W (.slice none 0 0) [] W) := Lib.hid (OutVia.start hO)
  have HE : Hid (∀ v1 l1 w1, OutVia (x + 2) (x + 1) (.slice none 0 0) W v1 l1 w1 → Below x w w1) := Lib.hid fun v1 l1 w1 h => h.grew.below hb2 (by omega) (fun k hk => by
    rcases hk with e | e
    · omega
    · cases e)
  have HK : Hid (∀ v1 l1 w1, OutVia (x + 2) (x + 1) (.slice none 0 0) W v1 l1 w1 → w1.cell? ⟨x, 0, none⟩ = some (.int .u32 a) ∧ w1.cell? ⟨x, 1, none⟩ = some (.int .u32 b)) := Lib.hid fun v1 l1 w1 h =>
    ⟨by rw [h.cell (p := ⟨x, 0, none⟩) hsz (by show x ≠ _; omega) (fun e => by cases e)]; exact q0, by rw [h.cell (p := ⟨x, 1, none⟩) hsz (by show x ≠ _; omega) (fun e => by cases e)]; exact q1⟩
  clear hb2 hO hsz q0 q1
  refine (put_any (x + 2) (x + 1) _ [] a b W H0.out.at1 (by decide) ha hb).mono ?_
  rintro e w1 ⟨rfl, T1⟩
  obtain ⟨v1, H1⟩ := H0.out.next T1
  clear T1
  go_wp2_with fail
  refine (outNum_any (x + 2) (x + 1) v1 _ t.size 1 w1 H1.out.at1 (by simp [enc_len])).mono ?_
  rintro e w2 ⟨rfl, T2⟩
  obtain ⟨v2, H2⟩ := H1.out.next T2
  clear T2
  go_wp2_with fail
  refine (outText_any (x + 2) (x + 1) v2 _ t w2 H2.out.at1 (by simp [enc_len, wid1]; omega)).mono ?_
  rintro e w3 ⟨rfl, T3⟩
  obtain ⟨v3, H3⟩ := H2.out.next T3
  clear T3
  go_wp2_with fail
  refine (outFill_ok (x + 2) (x + 1) v3 _ 56 w3 H3.out.at1 (by simp [enc_len, wid1]; omega) (by decide)).mono ?_
  rintro e w4 ⟨rfl, T4⟩
  obtain ⟨v4, H4⟩ := H3.out.next T4
  obtain ⟨c0, c1⟩ := HK.out _ _ _ H4.out
  clear T4
  go_wp2_with fail
  refine (put_any (x + 2) (x + 1) v4 _ a b w4 H4.out.at1 (by simp [enc_len, wid1]; omega) ha hb).mono ?_
  rintro e w5 ⟨rfl, T5⟩
  obtain ⟨v5, H5⟩ := H4.out.next T5
  clear T5 c0 c1
  go_wp2_with fail
  refine (outBytes_any (x + 2) (x + 1) v5 _ w5 H5.out.at1).mono ?_
  rintro e w6 ⟨rfl, rfl⟩
  go_wp2_with fail
  go_ret
  refine ⟨?_, by rw [HX.out]; exact HE.out _ _ _ H5.out⟩
  congr 4
  have hT := HT.out
  simp only [enc_len, wid1, hT, frameOf, stampOf, List.append_assoc]
  congr 6
  simp
  omega
end Go.Proofs.Ytjggofbaipppbaa
