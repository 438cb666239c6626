/-
  A catalog's entry: its cells, its bytes: a contract (written by gen_catbytes.py).
-/
import Derived.Test.YtjjmapmombhmlaaNodeSeal
import Derived.Test.YtjjmapmombhmlaaPackRefNum
import Derived.Test.YtjjmapmombhmlaaPackIn
import Derived.Deep.RegionHeld3
namespace Go.Proofs.Ytjjmapmombhmlaa
open Go.RowKit

/-- an entry, as numbers -/
structure EN where
  id : Nat
  parent : Nat
  only : Bool
  size : Nat
  root : Nat
  born : Nat
def EN.cells (o : EN) : Array Value := #[.int .u32 o.id, .int .u32 o.parent, .bool o.only, .int .i64 o.size, .int .i64 o.root, .int .u32 o.born]
structure EN.fits (o : EN) : Prop where
  id : o.id < 4294967296
  parent : o.parent < 4294967296
  size : o.size < 65536
  root : o.root < 65536
  born : o.born < 4294967296
def oneIf (b : Bool) : Nat := if b = true then 1 else 0
/-- what stands ahead of the noughts -/
def EN.text (o : EN) (nx : Nat) : List UInt8 := 86 :: (enc o.id 4 ++ (enc o.parent 4 ++ (enc (oneIf o.only) 1 ++ (enc o.size 2 ++ (enc o.root 2 ++ (enc o.born 4 ++ enc nx 2))))))
theorem EN.text_len (o : EN) (nx : Nat) : (o.text nx).length = 20 := by simp [EN.text, enc_len]
theorem wid2 : wid 2 = 2 := rfl
theorem six {w : World} {x : Nat} {t : TypeId} {a b c d e f : Value} (h : w.heap[x]? = some (.cells #[a, b, c, d, e, f] t)) : (w.cell? ⟨x, 0, none⟩ = some a ∧ w.cell? ⟨x, 1, none⟩ = some b ∧ w.cell? ⟨x, 2, none⟩ = some c ∧ w.cell? ⟨x, 3, none⟩ = some d ∧ w.cell? ⟨x, 4, none⟩ = some e ∧ w.cell? ⟨x, 5, none⟩ = some f) := by
  simp [World.cell?, h]
theorem outNew (W : World) (x : Nat) (h : W.heap.size = x + 1) : OutAt (x + 2) (x + 1) (.slice none 0 0) [] (W.alloc (.cells #[.slice none 0 0] 113)) := by
  have h1 := boxNew (w := W) (t := 113) (v := .slice none 0 0) h
  have h2 := boxFree (w := W) (t := 113) (v := .slice none 0 0) h
  exact ⟨by omega, by simp; omega, h1, h2, by simp [cellsOf, World.ownsRow]⟩
set_option maxHeartbeats 2000000 in
theorem catBytes_no (id parent size root born nx : Nat) (hid : id < 4294967296) (hpa : parent < 4294967296) (hsi : size < 65536) (hro : root < 65536) (hbo : born < 4294967296) (hnx : nx < 65536) (w : World) : Calls Try.prog 43 #[.agg #[.int .u32 id, .int .u32 parent, .bool false, .int .i64 size, .int .i64 root, .int .u32 born], .int .i64 nx] w fun e w' => e = .returned (.string ⟨(sealed ((⟨id, parent, false, size, root, born⟩ : EN).text nx)).toArray⟩) ∧ Below w.heap.size w w' := by
  have u1 := u32_as_u64 id hid
  have u2 := u32_as_u64 parent hpa
  have u3 := u32_as_u64 size (Nat.lt_trans hsi (by decide))
  have u4 := u32_as_u64 root (Nat.lt_trans hro (by decide))
  have u5 := u32_as_u64 born hbo
  have u6 := u32_as_u64 nx (Nat.lt_trans hnx (by decide))
  clear hid hpa hsi hro hbo hnx
  have HFin : Hid ((⟨id, parent, false, size, root, born⟩ : EN).text nx = [] ++ [86] ++ enc id (wid 4) ++ enc parent (wid 4) ++ enc 0 (wid 1) ++ enc size (wid 2) ++ enc root (wid 2) ++ enc born (wid 4) ++ enc nx (wid 2)) := Lib.hid (by simp [EN.text, oneIf, wid1, wid2, wid4])
  have hblk0 : (w.alloc (.cells #[.int .u32 id, .int .u32 parent, .bool false, .int .i64 size, .int .i64 root, .int .u32 born] 58)).heap[w.heap.size]? = some (.cells #[.int .u32 id, .int .u32 parent, .bool false, .int .i64 size, .int .i64 root, .int .u32 born] 58) := heap_alloc_new w _
  have hs0 : (w.alloc (.cells #[.int .u32 id, .int .u32 parent, .bool false, .int .i64 size, .int .i64 root, .int .u32 born] 58)).heap.size = w.heap.size + 1 := by simp
  have hb0 : Below w.heap.size w (w.alloc (.cells #[.int .u32 id, .int .u32 parent, .bool false, .int .i64 size, .int .i64 root, .int .u32 born] 58)) := (Below.refl _ _).alloc (Nat.le_refl _) _
  go_enter Try.func43, Try.ntmps43
  go_upto_region 4 with fail
  obtain ⟨W0, hW0⟩ : ∃ W0, w.alloc (.cells #[.int .u32 id, .int .u32 parent, .bool false, .int .i64 size, .int .i64 root, .int .u32 born] 58) = W0 := ⟨_, rfl⟩
  rw [hW0] at hblk0 hs0 hb0 ⊢
  clear hW0
  obtain ⟨x, hx⟩ : ∃ x, w.heap.size = x := ⟨_, rfl⟩
  rw [hx] at hblk0 hs0 hb0 ⊢
  have HX := Lib.hid hx
  clear hx
  have H0 : Hid (OutVia (x + 2) (x + 1) (.slice none 0 0) (W0.alloc (.cells #[.slice none 0 0] 113)) (.slice none 0 0) [] (W0.alloc (.cells #[.slice none 0 0] 113))) := Lib.hid (OutVia.start (outNew _ x hs0))
  have HE : Hid (∀ v1 l1 w1, OutVia (x + 2) (x + 1) (.slice none 0 0) (W0.alloc (.cells #[.slice none 0 0] 113)) v1 l1 w1 → ∀ w2, OutTo (x + 2) (x + 1) v1 (sealed l1) w1 w2 → Below x w w2) := Lib.hid fun v1 l1 w1 h w2 h2 => by
    obtain ⟨v3, h3⟩ := h.next h2
    exact h3.out.grew.below (hb0.alloc (by omega) _) (by simp; omega) (fun k hk => by
      rcases hk with e | e
      · omega
      · cases e)
  have HK : Hid (∀ v1 l1 w1, OutVia (x + 2) (x + 1) (.slice none 0 0) (W0.alloc (.cells #[.slice none 0 0] 113)) v1 l1 w1 → (w1.cell? ⟨x, 0, none⟩ = some (.int .u32 id) ∧ w1.cell? ⟨x, 1, none⟩ = some (.int .u32 parent) ∧ w1.cell? ⟨x, 2, none⟩ = some (.bool false) ∧ w1.cell? ⟨x, 3, none⟩ = some (.int .i64 size) ∧ w1.cell? ⟨x, 4, none⟩ = some (.int .i64 root) ∧ w1.cell? ⟨x, 5, none⟩ = some (.int .u32 born))) := Lib.hid fun v1 l1 w1 hv => by
    refine six (t := 58) ?_
    rw [hv.grew.block x (by simp; omega) (by rintro (e | e); omega; cases e), Below.heap_alloc _ _ _ (by omega)]
    exact hblk0
  clear hblk0 hb0
  have HN0 : Hid (∀ v l wx, OutAt (x + 2) (x + 1) v l wx → l.length < 1000000 → Calls Try.prog 93 #[.pointer (some ⟨x + 1, 0, none⟩), .int .u64 0, .int .i64 1] wx fun e w' => e = .returned (.pointer (some ⟨x + 1, 0, none⟩)) ∧ OutTo (x + 2) (x + 1) v (l ++ enc 0 (wid 1)) wx w') := Lib.hid fun v l wx h hl => outNum_any (x + 2) (x + 1) v l 0 1 wx h hl
  go_wp2_with fail
  refine (outText_any (x + 2) (x + 1) _ [] ⟨#[86]⟩ _ H0.out.at1 (by decide)).mono ?_
  rintro e w1 ⟨rfl, T1⟩
  obtain ⟨v1, H1⟩ := H0.out.next T1
  clear T1 H0
  go_wp2_with fail
  have H1d := Lib.hid H1.out.drew
  have HL1 : Hid (([] ++ (⟨#[86]⟩ : ByteArray).data.toList : List UInt8).length = 1) := Lib.hid rfl
  go_region_held3 (fun wx => (wx.cell? ⟨x, 0, none⟩ = some (.int .u32 id) ∧ wx.cell? ⟨x, 1, none⟩ = some (.int .u32 parent) ∧ wx.cell? ⟨x, 2, none⟩ = some (.bool false) ∧ wx.cell? ⟨x, 3, none⟩ = some (.int .i64 size) ∧ wx.cell? ⟨x, 4, none⟩ = some (.int .i64 root) ∧ wx.cell? ⟨x, 5, none⟩ = some (.int .u32 born)))
    (first | exact HK.out _ _ _ H1d.out | exact HK.out _ _ _ H4.out | exact HK.out _ _ _ H3.out | exact HK.out _ _ _ H2.out)
    (first
      | (go_at_call 93; (with_reducible refine (outNum_any (x + 2) (x + 1) v1 _ id 4 w1.drew H1d.out.at1 ?_).mono ?_); (focus (rw [HL1.out]; decide)); rintro e w2 ⟨rfl, T2⟩; (obtain ⟨v2, H2⟩ := H1d.out.next T2); clear T2)
      | (go_at_call 93; (with_reducible refine (outNum_any (x + 2) (x + 1) v2 _ parent 4 w2 H2.out.at1 ?_).mono ?_); (focus (rw [List.length_append, HL1.out, enc_len]; decide)); rintro e w3 ⟨rfl, T3⟩; (obtain ⟨v3, H3⟩ := H2.out.next T3); clear T3)
      | (go_at_call 93; (with_reducible refine (HN0.out v3 _ w3 H3.out.at1 ?_).mono ?_); (focus (rw [List.length_append, List.length_append, HL1.out, enc_len, enc_len]; decide)); rintro e w4 ⟨rfl, T4⟩; (obtain ⟨v4, H4⟩ := H3.out.next T4); clear T4))
  all_goals
    go_wp2_with fail
    have HL4 : Hid (([] ++ (⟨#[86]⟩ : ByteArray).data.toList ++ enc id (wid 4) ++ enc parent (wid 4) ++ enc 0 (wid 1) : List UInt8).length = 10) := Lib.hid (by simp [enc_len, wid1, wid4])
    have H4d := Lib.hid H4.out.drew
    go_region_held3 (fun wx => (wx.cell? ⟨x, 0, none⟩ = some (.int .u32 id) ∧ wx.cell? ⟨x, 1, none⟩ = some (.int .u32 parent) ∧ wx.cell? ⟨x, 2, none⟩ = some (.bool false) ∧ wx.cell? ⟨x, 3, none⟩ = some (.int .i64 size) ∧ wx.cell? ⟨x, 4, none⟩ = some (.int .i64 root) ∧ wx.cell? ⟨x, 5, none⟩ = some (.int .u32 born)))
      (first | exact HK.out _ _ _ H4d.out | exact HK.out _ _ _ H7.out | exact HK.out _ _ _ H6.out | exact HK.out _ _ _ H5.out)
      (first
        | (go_at_call 93; (with_reducible refine (outNum_any (x + 2) (x + 1) v4 _ size 2 w4.drew H4d.out.at1 ?_).mono ?_); (focus (rw [HL4.out]; decide)); rintro e w5 ⟨rfl, T5⟩; (obtain ⟨v5, H5⟩ := H4d.out.next T5); clear T5)
        | (go_at_call 93; (with_reducible refine (outNum_any (x + 2) (x + 1) v5 _ root 2 w5 H5.out.at1 ?_).mono ?_); (focus (rw [List.length_append, HL4.out, enc_len]; decide)); rintro e w6 ⟨rfl, T6⟩; (obtain ⟨v6, H6⟩ := H5.out.next T6); clear T6)
        | (go_at_call 93; (with_reducible refine (outNum_any (x + 2) (x + 1) v6 _ born 4 w6 H6.out.at1 ?_).mono ?_); (focus (rw [List.length_append, List.length_append, HL4.out, enc_len, enc_len]; decide)); rintro e w7 ⟨rfl, T7⟩; (obtain ⟨v7, H7⟩ := H6.out.next T7); clear T7))
    all_goals
      go_wp2_with fail
      refine (outNum_any (x + 2) (x + 1) v7 _ nx 2 w7 H7.out.at1 (by simp [enc_len, wid1, wid2, wid4])).mono ?_
      rintro e w8 ⟨rfl, T8⟩
      obtain ⟨v8, H8⟩ := H7.out.next T8
      clear T8
      go_wp2_with fail
      refine (close_any (x + 2) (x + 1) v8 _ w8 H8.out.at1 (by simp [enc_len, wid1, wid2, wid4])).mono ?_
      rintro e w9 ⟨rfl, T9⟩
      have HB9 := Lib.hid (HE.out _ _ _ H8.out _ T9)
      clear T9
      go_wp2_with fail
      go_ret
      exact ⟨by rw [HFin.out]; rfl, by rw [HX.out]; exact HB9.out⟩
set_option maxHeartbeats 2000000 in
theorem catBytes_yes (id parent size root born nx : Nat) (hid : id < 4294967296) (hpa : parent < 4294967296) (hsi : size < 65536) (hro : root < 65536) (hbo : born < 4294967296) (hnx : nx < 65536) (w : World) : Calls Try.prog 43 #[.agg #[.int .u32 id, .int .u32 parent, .bool true, .int .i64 size, .int .i64 root, .int .u32 born], .int .i64 nx] w fun e w' => e = .returned (.string ⟨(sealed ((⟨id, parent, true, size, root, born⟩ : EN).text nx)).toArray⟩) ∧ Below w.heap.size w w' := by
  have u1 := u32_as_u64 id hid
  have u2 := u32_as_u64 parent hpa
  have u3 := u32_as_u64 size (Nat.lt_trans hsi (by decide))
  have u4 := u32_as_u64 root (Nat.lt_trans hro (by decide))
  have u5 := u32_as_u64 born hbo
  have u6 := u32_as_u64 nx (Nat.lt_trans hnx (by decide))
  clear hid hpa hsi hro hbo hnx
  have HFin : Hid ((⟨id, parent, true, size, root, born⟩ : EN).text nx = [] ++ [86] ++ enc id (wid 4) ++ enc parent (wid 4) ++ enc 1 (wid 1) ++ enc size (wid 2) ++ enc root (wid 2) ++ enc born (wid 4) ++ enc nx (wid 2)) := Lib.hid (by simp [EN.text, oneIf, wid1, wid2, wid4])
  have hblk0 : (w.alloc (.cells #[.int .u32 id, .int .u32 parent, .bool true, .int .i64 size, .int .i64 root, .int .u32 born] 58)).heap[w.heap.size]? = some (.cells #[.int .u32 id, .int .u32 parent, .bool true, .int .i64 size, .int .i64 root, .int .u32 born] 58) := heap_alloc_new w _
  have hs0 : (w.alloc (.cells #[.int .u32 id, .int .u32 parent, .bool true, .int .i64 size, .int .i64 root, .int .u32 born] 58)).heap.size = w.heap.size + 1 := by simp
  have hb0 : Below w.heap.size w (w.alloc (.cells #[.int .u32 id, .int .u32 parent, .bool true, .int .i64 size, .int .i64 root, .int .u32 born] 58)) := (Below.refl _ _).alloc (Nat.le_refl _) _
  go_enter Try.func43, Try.ntmps43
  go_upto_region 4 with fail
  obtain ⟨W0, hW0⟩ : ∃ W0, w.alloc (.cells #[.int .u32 id, .int .u32 parent, .bool true, .int .i64 size, .int .i64 root, .int .u32 born] 58) = W0 := ⟨_, rfl⟩
  rw [hW0] at hblk0 hs0 hb0 ⊢
  clear hW0
  obtain ⟨x, hx⟩ : ∃ x, w.heap.size = x := ⟨_, rfl⟩
  rw [hx] at hblk0 hs0 hb0 ⊢
  have HX := Lib.hid hx
  clear hx
  have H0 : Hid (OutVia (x + 2) (x + 1) (.slice none 0 0) (W0.alloc (.cells #[.slice none 0 0] 113)) (.slice none 0 0) [] (W0.alloc (.cells #[.slice none 0 0] 113))) := Lib.hid (OutVia.start (outNew _ x hs0))
  have HE : Hid (∀ v1 l1 w1, OutVia (x + 2) (x + 1) (.slice none 0 0) (W0.alloc (.cells #[.slice none 0 0] 113)) v1 l1 w1 → ∀ w2, OutTo (x + 2) (x + 1) v1 (sealed l1) w1 w2 → Below x w w2) := Lib.hid fun v1 l1 w1 h w2 h2 => by
    obtain ⟨v3, h3⟩ := h.next h2
    exact h3.out.grew.below (hb0.alloc (by omega) _) (by simp; omega) (fun k hk => by
      rcases hk with e | e
      · omega
      · cases e)
  have HK : Hid (∀ v1 l1 w1, OutVia (x + 2) (x + 1) (.slice none 0 0) (W0.alloc (.cells #[.slice none 0 0] 113)) v1 l1 w1 → (w1.cell? ⟨x, 0, none⟩ = some (.int .u32 id) ∧ w1.cell? ⟨x, 1, none⟩ = some (.int .u32 parent) ∧ w1.cell? ⟨x, 2, none⟩ = some (.bool true) ∧ w1.cell? ⟨x, 3, none⟩ = some (.int .i64 size) ∧ w1.cell? ⟨x, 4, none⟩ = some (.int .i64 root) ∧ w1.cell? ⟨x, 5, none⟩ = some (.int .u32 born))) := Lib.hid fun v1 l1 w1 hv => by
    refine six (t := 58) ?_
    rw [hv.grew.block x (by simp; omega) (by rintro (e | e); omega; cases e), Below.heap_alloc _ _ _ (by omega)]
    exact hblk0
  clear hblk0 hb0
  have HN0 : Hid (∀ v l wx, OutAt (x + 2) (x + 1) v l wx → l.length < 1000000 → Calls Try.prog 93 #[.pointer (some ⟨x + 1, 0, none⟩), .int .u64 1, .int .i64 1] wx fun e w' => e = .returned (.pointer (some ⟨x + 1, 0, none⟩)) ∧ OutTo (x + 2) (x + 1) v (l ++ enc 1 (wid 1)) wx w') := Lib.hid fun v l wx h hl => outNum_any (x + 2) (x + 1) v l 1 1 wx h hl
  go_wp2_with fail
  refine (outText_any (x + 2) (x + 1) _ [] ⟨#[86]⟩ _ H0.out.at1 (by decide)).mono ?_
  rintro e w1 ⟨rfl, T1⟩
  obtain ⟨v1, H1⟩ := H0.out.next T1
  clear T1 H0
  go_wp2_with fail
  have H1d := Lib.hid H1.out.drew
  have HL1 : Hid (([] ++ (⟨#[86]⟩ : ByteArray).data.toList : List UInt8).length = 1) := Lib.hid rfl
  go_region_held3 (fun wx => (wx.cell? ⟨x, 0, none⟩ = some (.int .u32 id) ∧ wx.cell? ⟨x, 1, none⟩ = some (.int .u32 parent) ∧ wx.cell? ⟨x, 2, none⟩ = some (.bool true) ∧ wx.cell? ⟨x, 3, none⟩ = some (.int .i64 size) ∧ wx.cell? ⟨x, 4, none⟩ = some (.int .i64 root) ∧ wx.cell? ⟨x, 5, none⟩ = some (.int .u32 born)))
    (first | exact HK.out _ _ _ H1d.out | exact HK.out _ _ _ H4.out | exact HK.out _ _ _ H3.out | exact HK.out _ _ _ H2.out)
    (first
      | (go_at_call 93; (with_reducible refine (outNum_any (x + 2) (x + 1) v1 _ id 4 w1.drew H1d.out.at1 ?_).mono ?_); (focus (rw [HL1.out]; decide)); rintro e w2 ⟨rfl, T2⟩; (obtain ⟨v2, H2⟩ := H1d.out.next T2); clear T2)
      | (go_at_call 93; (with_reducible refine (outNum_any (x + 2) (x + 1) v2 _ parent 4 w2 H2.out.at1 ?_).mono ?_); (focus (rw [List.length_append, HL1.out, enc_len]; decide)); rintro e w3 ⟨rfl, T3⟩; (obtain ⟨v3, H3⟩ := H2.out.next T3); clear T3)
      | (go_at_call 93; (with_reducible refine (HN0.out v3 _ w3 H3.out.at1 ?_).mono ?_); (focus (rw [List.length_append, List.length_append, HL1.out, enc_len, enc_len]; decide)); rintro e w4 ⟨rfl, T4⟩; (obtain ⟨v4, H4⟩ := H3.out.next T4); clear T4))
  all_goals
    go_wp2_with fail
    have HL4 : Hid (([] ++ (⟨#[86]⟩ : ByteArray).data.toList ++ enc id (wid 4) ++ enc parent (wid 4) ++ enc 1 (wid 1) : List UInt8).length = 10) := Lib.hid (by simp [enc_len, wid1, wid4])
    have H4d := Lib.hid H4.out.drew
    go_region_held3 (fun wx => (wx.cell? ⟨x, 0, none⟩ = some (.int .u32 id) ∧ wx.cell? ⟨x, 1, none⟩ = some (.int .u32 parent) ∧ wx.cell? ⟨x, 2, none⟩ = some (.bool true) ∧ wx.cell? ⟨x, 3, none⟩ = some (.int .i64 size) ∧ wx.cell? ⟨x, 4, none⟩ = some (.int .i64 root) ∧ wx.cell? ⟨x, 5, none⟩ = some (.int .u32 born)))
      (first | exact HK.out _ _ _ H4d.out | exact HK.out _ _ _ H7.out | exact HK.out _ _ _ H6.out | exact HK.out _ _ _ H5.out)
      (first
        | (go_at_call 93; (with_reducible refine (outNum_any (x + 2) (x + 1) v4 _ size 2 w4.drew H4d.out.at1 ?_).mono ?_); (focus (rw [HL4.out]; decide)); rintro e w5 ⟨rfl, T5⟩; (obtain ⟨v5, H5⟩ := H4d.out.next T5); clear T5)
        | (go_at_call 93; (with_reducible refine (outNum_any (x + 2) (x + 1) v5 _ root 2 w5 H5.out.at1 ?_).mono ?_); (focus (rw [List.length_append, HL4.out, enc_len]; decide)); rintro e w6 ⟨rfl, T6⟩; (obtain ⟨v6, H6⟩ := H5.out.next T6); clear T6)
        | (go_at_call 93; (with_reducible refine (outNum_any (x + 2) (x + 1) v6 _ born 4 w6 H6.out.at1 ?_).mono ?_); (focus (rw [List.length_append, List.length_append, HL4.out, enc_len, enc_len]; decide)); rintro e w7 ⟨rfl, T7⟩; (obtain ⟨v7, H7⟩ := H6.out.next T7); clear T7))
    all_goals
      go_wp2_with fail
      refine (outNum_any (x + 2) (x + 1) v7 _ nx 2 w7 H7.out.at1 (by simp [enc_len, wid1, wid2, wid4])).mono ?_
      rintro e w8 ⟨rfl, T8⟩
      obtain ⟨v8, H8⟩ := H7.out.next T8
      clear T8
      go_wp2_with fail
      refine (close_any (x + 2) (x + 1) v8 _ w8 H8.out.at1 (by simp [enc_len, wid1, wid2, wid4])).mono ?_
      rintro e w9 ⟨rfl, T9⟩
      have HB9 := Lib.hid (HE.out _ _ _ H8.out _ T9)
      clear T9
      go_wp2_with fail
      go_ret
      exact ⟨by rw [HFin.out]; rfl, by rw [HX.out]; exact HB9.out⟩
theorem catBytes_any (o : EN) (hs : o.fits) (nx : Nat) (hn : nx < 65536) (w : World) : Calls Try.prog 43 #[.agg o.cells, .int .i64 nx] w fun e w' => e = .returned (.string ⟨(sealed (o.text nx)).toArray⟩) ∧ Below w.heap.size w w' := by
  obtain ⟨id, parent, only, size, root, born⟩ := o
  cases only with
  | false => exact catBytes_no id parent size root born nx hs.id hs.parent hs.size hs.root hs.born hn w
  | true => exact catBytes_yes id parent size root born nx hs.id hs.parent hs.size hs.root hs.born hn w
end Go.Proofs.Ytjjmapmombhmlaa
