/-
  A super's bytes: a contract.
-/
import Derived.Test.YtnkmidfdpjcdaaaSuper
namespace Go.Proofs.Ytnkmidfdpjcdaaa
open Go.RowKit

/-- what a super's frame bears -/
def Sup.text (s : Sup) : List UInt8 := [83, 66, 65, 84] ++ (enc s.j 2 ++ (enc s.b 2 ++ (enc s.h 2 ++ enc s.nx 4)))
theorem Sup.text_len (s : Sup) : s.text.length = 14 := by simp [Sup.text, enc_len]
theorem wid2 : wid 2 = 2 := rfl
set_option maxHeartbeats 2000000 in
theorem supBytes_any (s : Sup) (hs : s.fits) (w : World) : Calls Try.prog 68 #[.agg s.cells] w fun e w' => e = .returned (.string ⟨s.text.toArray⟩) ∧ Below w.heap.size w w' := by
  obtain ⟨ep, j, b, h, nx⟩ := s
  have u1 := u32_as_u64 j (Nat.lt_trans hs.j (by decide))
  have u2 := u32_as_u64 b (Nat.lt_trans hs.b (by decide))
  have u3 := u32_as_u64 h (Nat.lt_trans hs.h (by decide))
  have u4 := u32_as_u64 nx hs.nx
  clear hs
  dsimp only [Sup.cells, Sup.text] at *
  have hb2 : Below w.heap.size w ((w.alloc (.cells #[.int .u32 ep, .int .i64 j, .int .i64 b, .int .i64 h, .int .u32 nx] 51)).alloc (.cells #[.slice none 0 0] 110)) := ((Below.refl _ _).alloc (Nat.le_refl _) _).alloc (by simp) _
  have hO := outNew2 w (.cells #[.int .u32 ep, .int .i64 j, .int .i64 b, .int .i64 h, .int .u32 nx] 51)
  have hsz : w.heap.size < ((w.alloc (.cells #[.int .u32 ep, .int .i64 j, .int .i64 b, .int .i64 h, .int .u32 nx] 51)).alloc (.cells #[.slice none 0 0] 110)).heap.size := by simp; omega
  have hblk : ((w.alloc (.cells #[.int .u32 ep, .int .i64 j, .int .i64 b, .int .i64 h, .int .u32 nx] 51)).alloc (.cells #[.slice none 0 0] 110)).heap[w.heap.size]? = some (.cells #[.int .u32 ep, .int .i64 j, .int .i64 b, .int .i64 h, .int .u32 nx] 51) := by
    rw [Below.heap_alloc _ _ _ (by simp)]
    exact heap_alloc_new w _
  go_enter Try.func68, Try.ntmps68
  go_wp2_with fail
  obtain ⟨W, hW⟩ : ∃ W, (w.alloc (.cells #[.int .u32 ep, .int .i64 j, .int .i64 b, .int .i64 h, .int .u32 nx] 51)).alloc (.cells #[.slice none 0 0] 110) = W := ⟨_, rfl⟩
  rw [hW] at hb2 hO hsz hblk ⊢
  obtain ⟨x, hx⟩ : ∃ x, w.heap.size = x := ⟨_, rfl⟩
  rw [hx] at hb2 hO hsz hblk ⊢
  clear hW
  have HX := Lib.hid hx
  clear hx
  have H0 : Hid (OutVia (x + 2) (x + 1) (.slice none 0 0) W (.slice none 0 0) [] W) := Lib.hid (OutVia.start hO)
  have HE : Hid (∀ v1 l1 w1, OutVia (x + 2) (x + 1) (.slice none 0 0) W v1 l1 w1 → Below x w w1) := Lib.hid fun v1 l1 w1 h => h.grew.below hb2 (by omega) (fun k hk => by
    rcases hk with e | e
    · omega
    · cases e)
  have HK : Hid (∀ v1 l1 w1, OutVia (x + 2) (x + 1) (.slice none 0 0) W v1 l1 w1 → (w1.cell? ⟨x, 0, none⟩ = some (.int .u32 ep) ∧ w1.cell? ⟨x, 1, none⟩ = some (.int .i64 j) ∧ w1.cell? ⟨x, 2, none⟩ = some (.int .i64 b) ∧ w1.cell? ⟨x, 3, none⟩ = some (.int .i64 h) ∧ w1.cell? ⟨x, 4, none⟩ = some (.int .u32 nx))) := Lib.hid fun v1 l1 w1 hv => by
    refine fiveAt (t := 51) ?_
    rw [hv.grew.block x hsz (by rintro (e | e); omega; cases e)]
    exact hblk
  clear hb2 hO hsz hblk
  refine (outText_any (x + 2) (x + 1) _ [] ⟨#[83, 66, 65, 84]⟩ W H0.out.at1 (by decide)).mono ?_
  rintro e w1 ⟨rfl, T1⟩
  obtain ⟨v1, H1⟩ := H0.out.next T1
  clear T1
  have H1d := Lib.hid H1.out.drew
  go_wp2_with fail
  go_region_held3 (fun wx => wx.cell? ⟨x, 0, none⟩ = some (.int .u32 ep) ∧ wx.cell? ⟨x, 1, none⟩ = some (.int .i64 j) ∧ wx.cell? ⟨x, 2, none⟩ = some (.int .i64 b) ∧ wx.cell? ⟨x, 3, none⟩ = some (.int .i64 h) ∧ wx.cell? ⟨x, 4, none⟩ = some (.int .u32 nx))
    (first | exact HK.out _ _ _ H1d.out | exact HK.out _ _ _ H2.out | exact HK.out _ _ _ H3.out | exact HK.out _ _ _ H4.out)
    (first
      | (go_at_call 73; (with_reducible refine (outNum_any (x + 2) (x + 1) v1 _ j 2 w1.drew H1d.out.at1 ?_).mono ?_); (focus decide); rintro e w2 ⟨rfl, T2⟩; (obtain ⟨v2, H2⟩ := H1d.out.next T2); clear T2)
      | (go_at_call 73; (with_reducible refine (outNum_any (x + 2) (x + 1) v2 _ b 2 w2 H2.out.at1 ?_).mono ?_); (focus simp [enc_len, wid2]); rintro e w3 ⟨rfl, T3⟩; (obtain ⟨v3, H3⟩ := H2.out.next T3); clear T3)
      | (go_at_call 73; (with_reducible refine (outNum_any (x + 2) (x + 1) v3 _ h 2 w3 H3.out.at1 ?_).mono ?_); (focus simp [enc_len, wid2]); rintro e w4 ⟨rfl, T4⟩; (obtain ⟨v4, H4⟩ := H3.out.next T4); clear T4))
  have hk4 := HK.out _ _ _ H4.out
  obtain ⟨l0, l1, l2, l3, l4⟩ := hk4
  go_wp2_with fail
  refine (outNum_any (x + 2) (x + 1) v4 _ nx 4 w4 H4.out.at1 (by simp [enc_len, wid2])).mono ?_
  rintro e w5 ⟨rfl, T5⟩
  obtain ⟨v5, H5⟩ := H4.out.next T5
  clear T5 l0 l1 l2 l3 l4
  go_wp2_with fail
  refine (outBytes_any (x + 2) (x + 1) v5 _ w5 H5.out.at1).mono ?_
  rintro e w6 ⟨rfl, rfl⟩
  go_wp2_with fail
  go_ret
  refine ⟨?_, by rw [HX.out]; exact HE.out _ _ _ H5.out⟩
  simp [wid2, wid4]
end Go.Proofs.Ytnkmidfdpjcdaaa
