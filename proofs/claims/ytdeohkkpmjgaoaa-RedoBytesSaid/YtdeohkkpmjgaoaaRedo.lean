/-
  An op of redo: its cells, its bytes: a contract.
-/
import Derived.Test.YtdeohkkpmjgaoaaOutVia
import Derived.Test.YtdeohkkpmjgaoaaPackRefNum
import Derived.Test.YtdeohkkpmjgaoaaPackIn
namespace Go.Proofs.Ytdeohkkpmjgaoaa
open Go.RowKit

/-- an op, as numbers and a text -/
structure RO where
  k : Nat
  id : Nat
  at' : Nat
  n : Nat
  data : ByteArray
def RO.cells (o : RO) : Array Value := #[.int .i64 o.k, .int .u32 o.id, .int .i64 o.at', .int .i64 o.n, .string o.data]
structure RO.fits (o : RO) : Prop where
  k : o.k < 256
  id : o.id < 4294967296
  at' : o.at' < 65536
  n : o.n < 65536
  data : o.data.size ≤ 1000
def RO.text (o : RO) : List UInt8 := enc o.k 1 ++ (enc o.id 4 ++ (enc o.at' 2 ++ (enc o.n 2 ++ o.data.data.toList)))
theorem RO.text_len (o : RO) : o.text.length = 9 + o.data.size := by simp [RO.text, enc_len]; omega
theorem wid2 : wid 2 = 2 := rfl
theorem five {w : World} {x : Nat} {t : TypeId} {a b c d e : Value} (h : w.heap[x]? = some (.cells #[a, b, c, d, e] t)) : (w.cell? ⟨x, 0, none⟩ = some a ∧ w.cell? ⟨x, 1, none⟩ = some b ∧ w.cell? ⟨x, 2, none⟩ = some c ∧ w.cell? ⟨x, 3, none⟩ = some d ∧ w.cell? ⟨x, 4, none⟩ = some e) := by
  simp [World.cell?, h]
theorem outNew (W : World) (x : Nat) (h : W.heap.size = x + 1) : OutAt (x + 2) (x + 1) (.slice none 0 0) [] (W.alloc (.cells #[.slice none 0 0] 130)) := by
  have h1 := boxNew (w := W) (t := 130) (v := .slice none 0 0) h
  have h2 := boxFree (w := W) (t := 130) (v := .slice none 0 0) h
  exact ⟨by omega, by simp; omega, h1, h2, by simp [cellsOf, World.ownsRow]⟩
set_option maxHeartbeats 2000000 in
theorem redoBytes_any (o : RO) (hs : o.fits) (w : World) : Calls Try.prog 68 #[.agg o.cells] w fun e w' => e = .returned (.string ⟨o.text.toArray⟩) ∧ Below w.heap.size w w' := by
  obtain ⟨k, id, at', n, data⟩ := o
  have u1 := u32_as_u64 k (Nat.lt_trans hs.k (by decide))
  have u2 := u32_as_u64 id hs.id
  have u3 := u32_as_u64 at' (Nat.lt_trans hs.at' (by decide))
  have u4 := u32_as_u64 n (Nat.lt_trans hs.n (by decide))
  have hd : data.size ≤ 1000 := hs.data
  have HD := Lib.hid hd
  clear hs hd
  dsimp only [RO.cells, RO.text] at *
  have hblk0 : (w.alloc (.cells #[.int .i64 k, .int .u32 id, .int .i64 at', .int .i64 n, .string data] 93)).heap[w.heap.size]? = some (.cells #[.int .i64 k, .int .u32 id, .int .i64 at', .int .i64 n, .string data] 93) := heap_alloc_new w _
  have hs0 : (w.alloc (.cells #[.int .i64 k, .int .u32 id, .int .i64 at', .int .i64 n, .string data] 93)).heap.size = w.heap.size + 1 := by simp
  have hb0 : Below w.heap.size w (w.alloc (.cells #[.int .i64 k, .int .u32 id, .int .i64 at', .int .i64 n, .string data] 93)) := (Below.refl _ _).alloc (Nat.le_refl _) _
  go_enter Try.func68, Try.ntmps68
  go_upto_region 1 with fail
  obtain ⟨W0, hW0⟩ : ∃ W0, w.alloc (.cells #[.int .i64 k, .int .u32 id, .int .i64 at', .int .i64 n, .string data] 93) = W0 := ⟨_, rfl⟩
  rw [hW0] at hblk0 hs0 hb0 ⊢
  clear hW0
  obtain ⟨x, hx⟩ : ∃ x, w.heap.size = x := ⟨_, rfl⟩
  rw [hx] at hblk0 hs0 hb0 ⊢
  have HX := Lib.hid hx
  clear hx
  have hl0 : W0.drew.cell? ⟨x, 0, none⟩ = some (.int .i64 k) ∧ W0.drew.cell? ⟨x, 1, none⟩ = some (.int .u32 id) ∧ W0.drew.cell? ⟨x, 2, none⟩ = some (.int .i64 at') ∧ W0.drew.cell? ⟨x, 3, none⟩ = some (.int .i64 n) ∧ W0.drew.cell? ⟨x, 4, none⟩ = some (.string data) := five (w := W0.drew) hblk0
  have H0 : Hid (OutVia (x + 2) (x + 1) (.slice none 0 0) (W0.alloc (.cells #[.slice none 0 0] 130)) (.slice none 0 0) [] (W0.alloc (.cells #[.slice none 0 0] 130))) := Lib.hid (OutVia.start (outNew _ x hs0))
  have HE : Hid (∀ v1 l1 w1, OutVia (x + 2) (x + 1) (.slice none 0 0) (W0.alloc (.cells #[.slice none 0 0] 130)) v1 l1 w1 → Below x w w1) := Lib.hid fun v1 l1 w1 h => h.grew.below (hb0.alloc (by omega) _) (by simp; omega) (fun k hk => by
    rcases hk with e | e
    · omega
    · cases e)
  have HK : Hid (∀ v1 l1 w1, OutVia (x + 2) (x + 1) (.slice none 0 0) (W0.alloc (.cells #[.slice none 0 0] 130)) v1 l1 w1 → (w1.cell? ⟨x, 0, none⟩ = some (.int .i64 k) ∧ w1.cell? ⟨x, 1, none⟩ = some (.int .u32 id) ∧ w1.cell? ⟨x, 2, none⟩ = some (.int .i64 at') ∧ w1.cell? ⟨x, 3, none⟩ = some (.int .i64 n) ∧ w1.cell? ⟨x, 4, none⟩ = some (.string data))) := Lib.hid fun v1 l1 w1 hv => by
    refine five (t := 93) ?_
    rw [hv.grew.block x (by simp; omega) (by rintro (e | e); omega; cases e), Below.heap_alloc _ _ _ (by omega)]
    exact hblk0
  have HL0 := Lib.hid hl0
  have H0d := Lib.hid H0.out.drew
  clear hblk0 hl0 hb0
  go_region_held3 (fun wx => wx.cell? ⟨x, 0, none⟩ = some (.int .i64 k) ∧ wx.cell? ⟨x, 1, none⟩ = some (.int .u32 id) ∧ wx.cell? ⟨x, 2, none⟩ = some (.int .i64 at') ∧ wx.cell? ⟨x, 3, none⟩ = some (.int .i64 n) ∧ wx.cell? ⟨x, 4, none⟩ = some (.string data))
    (first | (with_reducible exact HL0.out) | exact HK.out _ _ _ H0d.out | exact HK.out _ _ _ H2.out | exact HK.out _ _ _ H1.out)
    (first
      | (go_at_call 101; (with_reducible refine (outNum_any (x + 2) (x + 1) v1 _ id 4 w1 H1.out.at1 ?_).mono ?_); (focus simp [enc_len, wid1]); rintro e w2 ⟨rfl, T2⟩; (obtain ⟨v2, H2⟩ := H1.out.next T2); clear T2)
      | (go_at_call 101; (with_reducible refine (outNum_any (x + 2) (x + 1) _ [] k 1 _ H0d.out.at1 ?_).mono ?_); (focus decide); rintro e w1 ⟨rfl, T1⟩; (obtain ⟨v1, H1⟩ := H0d.out.next T1); clear T1))
  go_wp2_with fail
  have H2d := Lib.hid H2.out.drew
  have h2len : ([] ++ enc k (wid 1) ++ enc id (wid 4) : List UInt8).length = 5 := by simp [enc_len, wid1, wid4]
  have HLn := Lib.hid h2len
  clear h2len
  go_region_held3 (fun wx => wx.cell? ⟨x, 0, none⟩ = some (.int .i64 k) ∧ wx.cell? ⟨x, 1, none⟩ = some (.int .u32 id) ∧ wx.cell? ⟨x, 2, none⟩ = some (.int .i64 at') ∧ wx.cell? ⟨x, 3, none⟩ = some (.int .i64 n) ∧ wx.cell? ⟨x, 4, none⟩ = some (.string data))
    (first | exact HK.out _ _ _ H2d.out | exact HK.out _ _ _ H5.out | exact HK.out _ _ _ H4.out | exact HK.out _ _ _ H3.out)
    (first
      | (go_at_call 101; (with_reducible refine (outNum_any (x + 2) (x + 1) v2 _ at' 2 w2.drew H2d.out.at1 ?_).mono ?_); (focus (rw [HLn.out]; decide)); rintro e w3 ⟨rfl, T3⟩; (obtain ⟨v3, H3⟩ := H2d.out.next T3); clear T3)
      | (go_at_call 101; (with_reducible refine (outNum_any (x + 2) (x + 1) v3 _ n 2 w3 H3.out.at1 ?_).mono ?_); (focus (rw [List.length_append, HLn.out, enc_len]; decide)); rintro e w4 ⟨rfl, T4⟩; (obtain ⟨v4, H4⟩ := H3.out.next T4); clear T4)
      | (go_at_call 100; (with_reducible refine (outText_any (x + 2) (x + 1) v4 _ data w4 H4.out.at1 ?_).mono ?_); (focus (rw [List.length_append, List.length_append, HLn.out, enc_len, enc_len]; have := HD.out; rw [wid2]; omega)); rintro e w5 ⟨rfl, T5⟩; (obtain ⟨v5, H5⟩ := H4.out.next T5); clear T5)
      | (go_at_call 120; (with_reducible refine (outBytes_any (x + 2) (x + 1) v5 _ w5 H5.out.at1).mono ?_); rintro e w6 ⟨rfl, rfl⟩))
  all_goals
    go_wp2_with fail
    go_ret
    refine ⟨?_, by rw [HX.out]; exact HE.out _ _ _ H5.out⟩
    simp [wid1, wid2, wid4]
end Go.Proofs.Ytdeohkkpmjgaoaa
