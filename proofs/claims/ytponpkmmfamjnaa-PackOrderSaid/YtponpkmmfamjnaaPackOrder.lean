/-
  PackOrder: for every two numbers the law answers true.
-/
import Derived.Test.YtponpkmmfamjnaaPackOrderFn
import Derived.Test.YtponpkmmfamjnaaGuardGrew
import Derived.OpenShut
namespace Go.Proofs.Ytponpkmmfamjnaa
open Go.RowKit

abbrev nilS : Value := .slice none 0 0
theorem OutAt.keep {B o : Nat} {S : Nat → Prop} {W W' : World} (h : OutAt B o nilS [] W) (g : Grew S W W') (hs : ¬ S o) : OutAt B o nilS [] W' := by
  have h1 := h.lt
  have h2 := h.base
  have h3 := g.size
  exact ⟨h1, by omega, by rw [g.cell (by show o < _; omega) hs]; exact h.cell, by rw [g.frozen (by show o < _; omega) hs]; exact h.frozen, World.ownsRow_nil _ _ _ _⟩
theorem OutAt.alloc {B o : Nat} {v : Value} {l : List UInt8} {W : World} (h : OutAt B o v l W) (ob : Obj) : OutAt B o v l (W.alloc ob) := by
  have h1 := h.lt
  have h2 := h.base
  exact ⟨h1, by simp; omega, old_cell h.cell (by omega), old_frozen h.frozen (by omega), h.row.alloc _⟩
theorem OutAt.drew {B o : Nat} {v : Value} {l : List UInt8} {W : World} (h : OutAt B o v l W) : OutAt B o v l W.drew := ⟨h.lt, h.base, h.cell, h.frozen, h.row⟩
/-- the law's memory while its texts are made -/
structure Ord (w : World) (b x : Nat) (W : World) : Prop where
  lt : w.heap.size < x
  below : Below w.heap.size w W
  num : W.cell? ⟨w.heap.size, 0, none⟩ = some (.int .u64 b)
  size : x + 2 ≤ W.heap.size
theorem Ord.alloc {w : World} {b x : Nat} {W : World} (h : Ord w b x W) (o : Obj) : Ord w b x (W.alloc o) := by
  have h1 := h.lt
  have h2 := h.size
  exact ⟨h1, h.below.alloc (by omega) _, old_cell h.num (by omega), by simp; omega⟩
theorem Ord.drew {w : World} {b x : Nat} {W : World} (h : Ord w b x W) : Ord w b x W.drew := ⟨h.lt, h.below.drew, h.num, h.size⟩
theorem Ord.set {w : World} {b x q : Nat} {W : World} (h : Ord w b x W) (hq : x + 2 ≤ q) (v : Value) : Ord w b x (W.setCell ⟨q, 0, none⟩ v) := by
  have h1 := h.lt
  exact ⟨h1, h.below.setCell (by show _ ≤ q; omega) _, by rw [World.cell?_setCell_other (h := by intro e; injection e with e1; omega)]; exact h.num, by simpa [World.setCell] using h.size⟩
theorem Ord.grew {w : World} {b x o : Nat} {v : Value} {l : List UInt8} {W W' : World} (h : Ord w b x W) (k : OutAt (x + 2) o v l W) (ho : x ≤ o) (g : Grew (outs o v) W W') : Ord w b x W' := by
  have h1 := h.lt
  have h2 := h.size
  have h3 := g.size
  have hS : ∀ k, outs o v k → w.heap.size < k := fun j hj => by have := outs_own k j hj; omega
  exact ⟨h1, g.below h.below (by omega) (fun k hk => by have := hS k hk; omega), by rw [g.cell (by show w.heap.size < _; omega) (fun hk => by have := hS _ hk; simp at this)]; exact h.num, by omega⟩
theorem ord_num {w : World} {b x : Nat} {l : List UInt8} {W W' : World} (h : Ord w b x W) (hX : OutAt (x + 2) x nilS [] W) (hY : OutAt (x + 2) (x + 1) nilS [] W) (T : OutTo (x + 2) x nilS l W W') :
    ∃ v, Hid (OutAt (x + 2) x v l W') ∧ Hid (OutAt (x + 2) (x + 1) nilS [] W') ∧ Hid (Ord w b x W') ∧ Hid (Grew (outs x nilS) W W') := by
  obtain ⟨v, h1, _, g⟩ := T
  exact ⟨v, h1, hY.keep g (by rintro (e | e); omega; cases e), h.grew hX (Nat.le_refl _) g, g⟩
theorem ord_num2 {w : World} {b x : Nat} {l : List UInt8} {W W' : World} (h : Ord w b x W) (hY : OutAt (x + 2) (x + 1) nilS [] W) (T : OutTo (x + 2) (x + 1) nilS l W W') :
    ∃ v, Hid (OutAt (x + 2) (x + 1) v l W') ∧ Hid (Ord w b x W') ∧ Hid (Grew (outs (x + 1) nilS) W W') := by
  obtain ⟨v, h1, _, g⟩ := T
  exact ⟨v, h1, h.grew hY (by omega) g, g⟩
/-- a box that lies behind x and y is as it was -/
theorem box_kept {x o q : Nat} {W W' : World} {v : Value} (g : Grew (outs o nilS) W W') (ho : o ≤ x + 1) (hq : x + 2 ≤ q) (hs : q < W.heap.size) (c : W.cell? ⟨q, 0, none⟩ = some v) (f : W.frozen? ⟨q, 0, none⟩ = false) :
    W'.cell? ⟨q, 0, none⟩ = some v ∧ W'.frozen? ⟨q, 0, none⟩ = false := by
  have hn : ¬ outs o nilS q := by rintro (e | e); omega; cases e
  exact ⟨by rw [g.cell hs hn]; exact c, by rw [g.frozen hs hn]; exact f⟩
theorem box_two {p : Prop} {x : Nat} {W w2 w3 : World} {o : Obj} {v : Value} (g2 : Grew (outs x nilS) (W.alloc o).drew w2) (g3 : Grew (outs (x + 1) nilS) w2 w3) (hq : x + 2 ≤ W.heap.size) (c : (W.alloc o).cell? ⟨W.heap.size, 0, none⟩ = some v) (f : (W.alloc o).frozen? ⟨W.heap.size, 0, none⟩ = false)
    (k : w3.cell? ⟨W.heap.size, 0, none⟩ = some v → w3.frozen? ⟨W.heap.size, 0, none⟩ = false → p) : p := by
  have hs : W.heap.size < (W.alloc o).drew.heap.size := by show _ < (W.alloc o).heap.size; simp
  obtain ⟨c2, f2⟩ := box_kept (q := W.heap.size) g2 (by omega) hq hs c f
  obtain ⟨c3, f3⟩ := box_kept (q := W.heap.size) g3 (by omega) hq (Nat.lt_of_lt_of_le hs g2.size) c2 f2
  exact k c3 f3
/-- what is there when both texts are made -/
structure OrdEnd (w : World) (a b q : Nat) (W : World) : Prop where
  lt : w.heap.size < q
  size : q < W.heap.size
  below : Below w.heap.size w W
  num : W.cell? ⟨w.heap.size, 0, none⟩ = some (.int .u64 b)
  text : W.cell? ⟨q, 0, none⟩ = some (.string ⟨(enc a 8).toArray⟩)
  frozen : W.frozen? ⟨q, 0, none⟩ = false

theorem wid8 : wid 8 = 8 := by decide
theorem ordEnd_new {w : World} {a b x : Nat} {W : World} (h : Ord w b x W) : OrdEnd w a b W.heap.size (W.alloc (.cells #[.string ⟨(enc a 8).toArray⟩] 9)) := by
  have h1 := h.lt
  have h2 := h.size
  exact ⟨by omega, by simp, (h.alloc _).below, (h.alloc _).num, by simp, by simp⟩
theorem ordEnd_set {w : World} {a b x q : Nat} {W : World} (h : Ord w b x W) (hq : x + 2 ≤ q) (c : W.cell? ⟨q, 0, none⟩ = some (.string ⟨#[]⟩)) (f : W.frozen? ⟨q, 0, none⟩ = false) : OrdEnd w a b q (W.setCell ⟨q, 0, none⟩ (.string ⟨(enc a 8).toArray⟩)) := by
  have h1 := h.lt
  have h2 := cell_lt c
  exact ⟨by omega, by simpa [World.setCell] using h2, (h.set hq _).below, (h.set hq _).num, World.cell?_setCell_same _ _ _ c, by rw [World.frozen?_setCell]; exact f⟩
theorem toList_data (l : List UInt8) : (⟨l.toArray⟩ : ByteArray).toList = l := by rw [ByteArray.toList_eq]
/-- what the Guard leaves -/
theorem order_guard (q bb a b : Nat) (s : ByteArray) (W : World) (hq : q < W.heap.size) (hb : bb < W.heap.size) (ct : W.cell? ⟨q, 0, none⟩ = some (.string s)) (cb : W.cell? ⟨bb, 0, none⟩ = some (.int .u64 b)) (h8 : s.size = 8) (hn : num s.data.toList = a) :
    Calls Try.prog 14 #[.func (.func 33) #[] #[.pointer (some ⟨q, 0, none⟩), .pointer (some ⟨bb, 0, none⟩), .pointer (some ⟨W.heap.size, 0, none⟩)]] (W.alloc (.cells #[.int .i64 0] 3)) fun e w' =>
      e = .returned (.int .i64 (if b < a ∨ top < a then 3 else 0)) ∧ w'.cell? ⟨W.heap.size, 0, none⟩ = some (.int .i64 (if b < a ∨ top < a then 0 else a)) ∧ Grew (fun k => k = W.heap.size) W w' := by
  have hs1 : (W.alloc (.cells #[.int .i64 0] 3)).heap.size = W.heap.size + 1 := by simp
  have c1 : ((W.alloc (.cells #[.int .i64 0] 3)).alloc errBox).cell? ⟨q, 0, none⟩ = some (.string s) := old_cell (old_cell ct hq) (by simp; omega)
  have c2 : ((W.alloc (.cells #[.int .i64 0] 3)).alloc errBox).cell? ⟨bb, 0, none⟩ = some (.int .u64 b) := old_cell (old_cell cb hb) (by simp; omega)
  have c3 : ((W.alloc (.cells #[.int .i64 0] 3)).alloc errBox).cell? ⟨W.heap.size, 0, none⟩ = some (.int .i64 0) := old_cell (by simp) (by simp)
  have f3 : ((W.alloc (.cells #[.int .i64 0] 3)).alloc errBox).frozen? ⟨W.heap.size, 0, none⟩ = false := old_frozen (by simp) (by simp)
  have run : Calls Try.prog 33 #[.pointer (some ⟨q, 0, none⟩), .pointer (some ⟨bb, 0, none⟩), .pointer (some ⟨W.heap.size, 0, none⟩)] ((W.alloc (.cells #[.int .i64 0] 3)).alloc errBox) fun e w' =>
      ∃ o, e = Ends o ∧ OrderTo W.heap.size (if b < a ∨ top < a then some 3 else none) (if b < a ∨ top < a then 0 else a) ((W.alloc (.cells #[.int .i64 0] 3)).alloc errBox) o w' := by
    by_cases hc : b < a ∨ top < a
    · rw [if_pos hc, if_pos hc]
      exact orderFn_big q bb W.heap.size s b a _ (by simp; omega) (by simp; omega) (by simp; omega) c1 c2 c3 f3 h8 hn hc
    · rw [if_neg hc, if_neg hc]
      exact orderFn_ok q bb W.heap.size s b a _ (by simp; omega) (by simp; omega) (by simp; omega) c1 c2 c3 f3 h8 hn (by omega) (by omega)
  refine (guard_grew _ _ (W.alloc (.cells #[.int .i64 0] 3)) (fun k => k = W.heap.size) (fun o w' => o = (if b < a ∨ top < a then some 3 else none) ∧ w'.cell? ⟨W.heap.size, 0, none⟩ = some (.int .i64 (if b < a ∨ top < a then 0 else a))) (by simp) (fun _ => by kernel_rfl) (run.mono ?_)).mono ?_
  · rintro e w' ⟨o, rfl, ho, hG, hc, _⟩
    exact ⟨o, rfl, hG, ho, hc⟩
  · rintro e w' ⟨o, w1, rfl, ⟨rfl, hc⟩, rfl, hG, hlt⟩
    refine ⟨by split <;> rfl, ?_, ((Grew.refl W).alloc _).step hG fun _ _ x => x⟩
    rw [done_cell (by simp) (by simp at hlt; show W.heap.size < _; omega)]
    exact hc

abbrev box9 : Obj := .cells #[.string ⟨#[]⟩] 9
set_option maxHeartbeats 2000000 in
theorem packOrder_walk (a b : Nat) (ha : a < 18446744073709551616) (hb : b < 18446744073709551616) (w : World) :
    Calls Try.prog 6 #[.int .u64 a, .int .u64 b] w fun e w' => e = .returned (.bool true) ∧ Below w.heap.size w w' := by
  go_enter Try.func6, Try.ntmps6
  go_wp2_with fail
  refine (packAwake_any _).mono ?_
  rintro e w1 ⟨rfl, hb1⟩
  have cb : w1.cell? ⟨w.heap.size, 0, none⟩ = some (.int .u64 b) := by rw [hb1.cell (by simp)]; simp
  have HB1 : Hid (Below w.heap.size w w1) := Lib.hid (((Below.refl _ _).alloc (Nat.le_refl _) _).trans (hb1.mono (by simp)))
  have hsz : w.heap.size < w1.heap.size := by have := hb1.size; simp at this; omega
  clear hb1
  go_wp2_with fail
  have HX : Hid (OutAt (w1.heap.size + 2) w1.heap.size (.slice none 0 0) [] ((w1.alloc (.cells #[.slice none 0 0] 43)).alloc (.cells #[.slice none 0 0] 43))) := Lib.hid ⟨by omega, by simp, by simp, by simp, World.ownsRow_nil _ _ _ _⟩
  have HY : Hid (OutAt (w1.heap.size + 2) (w1.heap.size + 1) (.slice none 0 0) [] ((w1.alloc (.cells #[.slice none 0 0] 43)).alloc (.cells #[.slice none 0 0] 43))) := Lib.hid ⟨by omega, by simp, by simp, by simp, World.ownsRow_nil _ _ _ _⟩
  have HO : Hid (Ord w b w1.heap.size ((w1.alloc (.cells #[.slice none 0 0] 43)).alloc (.cells #[.slice none 0 0] 43))) := Lib.hid ⟨hsz, (HB1.out.alloc (by omega) _).alloc (by simp; omega) _, old_cell (old_cell cb hsz) (by simp; omega), by simp⟩
  clear HB1 cb
  generalize (w1.alloc (.cells #[.slice none 0 0] 43)).alloc (.cells #[.slice none 0 0] 43) = W0 at *
  generalize w1.heap.size = x at *
  have cb0 := HO.out.num
  have hW : x + 2 ≤ W0.heap.size := HO.out.size
  go_cut [7, 8] (fun s7 s8 wx => ∃ q, s7 = .pointer (some ⟨q, 0, none⟩) ∧ s8 = .string ⟨(enc b 8).toArray⟩ ∧ OrdEnd w a b q wx)
  case first =>
    go_region_held3 (fun wx => wx.cell? ⟨w.heap.size, 0, none⟩ = some (.int .u64 b)) (first | exact cb0 | exact (HO.out.alloc _).num | exact HO2.out.num | exact (HO2.out.alloc _).num | exact HO3.out.num | exact (HO3.out.alloc _).num | exact (HO3.out.set hW _).num | exact (HO3.out.set HO2.out.size _).num) (first
      | (go_at_call 23; (with_reducible refine (outNum_any (x + 2) x nilS [] a 8 W0.drew HX.out.drew (by decide)).mono ?_); rintro e w2 ⟨rfl, T2⟩; (obtain ⟨v2, HX2, HY2, HO2, HG2⟩ := ord_num HO.out.drew HX.out.drew HY.out.drew T2); clear T2)
      | (go_at_call 23; (with_reducible refine (outNum_any (x + 2) x nilS [] a 8 (W0.alloc box9).drew (HX.out.alloc _).drew (by decide)).mono ?_); rintro e w2 ⟨rfl, T2⟩; (obtain ⟨v2, HX2, HY2, HO2, HG2⟩ := ord_num (HO.out.alloc box9).drew (HX.out.alloc _).drew (HY.out.alloc _).drew T2); clear T2)
      | (go_at_call 26; (with_reducible refine (outBytes_any (x + 2) x v2 _ w2 HX2.out).mono ?_); rintro e w' ⟨rfl, rfl⟩)
      | (go_at_call 26; (with_reducible refine (outBytes_any (x + 2) x v2 _ (w2.alloc box9) (HX2.out.alloc _)).mono ?_); rintro e w' ⟨rfl, rfl⟩)
      | (go_at_call 23; (with_reducible refine (outNum_any (x + 2) (x + 1) nilS [] b 8 w2 HY2.out (by decide)).mono ?_); rintro e w3 ⟨rfl, T3⟩; (obtain ⟨v3, HY3, HO3, HG3⟩ := ord_num2 HO2.out HY2.out T3); clear T3; (with_reducible refine box_two (W := W0) (o := box9) (v := .string ⟨#[]⟩) HG2.out HG3.out hW ?_ ?_ (fun c3 f3 => ?_)); (focus (simp; done)); (focus (simp; done)))
      | (go_at_call 23; (with_reducible refine (outNum_any (x + 2) (x + 1) nilS [] b 8 w2 HY2.out (by decide)).mono ?_); rintro e w3 ⟨rfl, T3⟩; (obtain ⟨v3, HY3, HO3, HG3⟩ := ord_num2 HO2.out HY2.out T3); clear T3)
      | (go_at_call 23; (with_reducible refine (outNum_any (x + 2) (x + 1) nilS [] b 8 (w2.alloc box9) (HY2.out.alloc _) (by decide)).mono ?_); rintro e w3 ⟨rfl, T3⟩; (obtain ⟨v3, HY3, HO3, HG3⟩ := ord_num2 (HO2.out.alloc _) (HY2.out.alloc _) T3); clear T3; (obtain ⟨c3, f3⟩ := box_kept (q := w2.heap.size) (v := .string ⟨#[]⟩) HG3.out (by omega) HO2.out.size (by simp) (by simp) (by simp)))
      | (go_at_call 26; (with_reducible refine (outBytes_any (x + 2) (x + 1) v3 _ w3 HY3.out).mono ?_); rintro e w' ⟨rfl, rfl⟩)
      | (go_at_call 26; (with_reducible refine (outBytes_any (x + 2) (x + 1) v3 _ (w3.alloc box9) (HY3.out.alloc _)).mono ?_); rintro e w' ⟨rfl, rfl⟩))
    all_goals
      go_wp2_with fail
      go_meet
      refine ⟨_, rfl, by rw [wid8], ?_⟩
      rw [wid8]
      first | exact ordEnd_new HO3.out | exact ordEnd_set HO3.out hW c3 f3 | exact ordEnd_set HO3.out HO2.out.size c3 f3
  case rest =>
    obtain ⟨q, rfl, rfl, hE⟩ := hcut
    clear hW cb0 HX HY HO hsz
    have hq := hE.lt
    have hqs := hE.size
    have cn := hE.num
    have ct := hE.text
    have HB := Lib.hid hE.below
    have HF := Lib.hid hE.frozen
    clear hE
    have HL : Hid (Op.bytesLess (⟨(enc a 8).toArray⟩ : ByteArray).toList (⟨(enc b 8).toArray⟩ : ByteArray).toList = decide (a < b)) := Lib.hid (by rw [toList_data, toList_data, num_less _ _ (by rw [enc_len, enc_len]), num_enc8 a ha, num_enc8 b hb])
    have HE : Hid (((⟨(enc a 8).toArray⟩ : ByteArray).toList == (⟨(enc b 8).toArray⟩ : ByteArray).toList) = decide (a = b)) := Lib.hid (by rw [toList_data, toList_data, num_eq _ _ (by rw [enc_len, enc_len]), num_enc8 a ha, num_enc8 b hb])
    have HG := Lib.hid (order_guard q w.heap.size a b ⟨(enc a 8).toArray⟩ wc hqs (by omega) ct cn (enc_len a 8) (num_enc8 a ha))
    generalize (⟨(enc a 8).toArray⟩ : ByteArray) = s at *
    generalize (⟨(enc b 8).toArray⟩ : ByteArray) = t at *
    have fin : ∀ w4 : World, Grew (fun k => k = wc.heap.size) wc w4 → w4.cell? ⟨q, 0, none⟩ = some (.string s) ∧ w4.cell? ⟨w.heap.size, 0, none⟩ = some (.int .u64 b) ∧ Hid (Below w.heap.size w w4) := fun w4 hG4 =>
      ⟨by rw [hG4.cell hqs (by simp; omega)]; exact ct, by rw [hG4.cell (by show w.heap.size < _; omega) (by simp; omega)]; exact cn, hG4.below HB.out (by omega) (fun k hk => by omega)⟩
    have FIN := Lib.hid fin
    clear ct cn HF HB fin hqs hq
    by_cases hc : b < a ∨ top < a
    · simp only [if_pos hc] at HG
      unfold top at hc
      rcases Nat.lt_trichotomy a b with h | h | h
      · have l1 : Op.bytesLess s.toList t.toList = true := by rw [HL.out]; simp; omega
        have l2 : (s.toList == t.toList) = false := by rw [HE.out]; simp; omega
        have hb' : (4611686018427387904 : Int) < a := by omega
        clear HL HE hc
        go_wp2_with fail
        refine HG.out.mono ?_
        rintro e w4 ⟨rfl, cn4, hG4⟩
        obtain ⟨ct4, cb4, HB4⟩ := FIN.out w4 hG4
        clear hG4 HG FIN
        go_wp2
        go_ret
        exact ⟨rfl, HB4.out⟩
      · subst h
        have l1 : Op.bytesLess s.toList t.toList = false := by rw [HL.out]; simp
        have l2 : (s.toList == t.toList) = true := by rw [HE.out]; simp
        have hb' : (4611686018427387904 : Int) < a := by omega
        clear HL HE hc
        go_wp2_with fail
        refine HG.out.mono ?_
        rintro e w4 ⟨rfl, cn4, hG4⟩
        obtain ⟨ct4, cb4, HB4⟩ := FIN.out w4 hG4
        clear hG4 HG FIN
        go_wp2
        go_ret
        exact ⟨rfl, HB4.out⟩
      · have l1 : Op.bytesLess s.toList t.toList = false := by rw [HL.out]; simp; omega
        have l2 : (s.toList == t.toList) = false := by rw [HE.out]; simp; omega
        have d1 : decide (a < b) = false := by simp; omega
        have d2 : ((a : Int) == (b : Int)) = false := by simp; omega
        clear HL HE hc
        go_wp2_with fail
        refine HG.out.mono ?_
        rintro e w4 ⟨rfl, cn4, hG4⟩
        obtain ⟨ct4, cb4, HB4⟩ := FIN.out w4 hG4
        clear hG4 HG FIN
        go_wp2
        go_ret
        exact ⟨rfl, HB4.out⟩
    · simp only [if_neg hc] at HG
      unfold top at hc
      have hb' : ¬ (4611686018427387904 : Int) < a := by omega
      rcases Nat.lt_trichotomy a b with h | h | h
      · have l1 : Op.bytesLess s.toList t.toList = true := by rw [HL.out]; simp; omega
        have l2 : (s.toList == t.toList) = false := by rw [HE.out]; simp; omega
        clear HL HE hc
        go_wp2_with fail
        refine HG.out.mono ?_
        rintro e w4 ⟨rfl, cn4, hG4⟩
        obtain ⟨ct4, cb4, HB4⟩ := FIN.out w4 hG4
        clear hG4 HG FIN
        go_wp2
        go_ret
        exact ⟨rfl, HB4.out⟩
      · subst h
        have l1 : Op.bytesLess s.toList t.toList = false := by rw [HL.out]; simp
        have l2 : (s.toList == t.toList) = true := by rw [HE.out]; simp
        clear HL HE hc
        go_wp2_with fail
        refine HG.out.mono ?_
        rintro e w4 ⟨rfl, cn4, hG4⟩
        obtain ⟨ct4, cb4, HB4⟩ := FIN.out w4 hG4
        clear hG4 HG FIN
        go_wp2
        go_ret
        exact ⟨rfl, HB4.out⟩
      · omega
theorem packOrder_any (a b : Int) (wa : (Lit.int .u64 a).wf = true) (wb : (Lit.int .u64 b).wf = true) (w : World) :
    Calls Try.prog 6 #[.int .u64 a, .int .u64 b] w fun e w' => e = .returned (.bool true) ∧ Below w.heap.size w w' := by
  have h1 := bounds_u64 wa
  have h2 := bounds_u64 wb
  obtain ⟨n, rfl⟩ := Int.eq_ofNat_of_zero_le h1.1
  obtain ⟨m, rfl⟩ := Int.eq_ofNat_of_zero_le h2.1
  exact packOrder_walk n m (by omega) (by omega) w
end Go.Proofs.Ytponpkmmfamjnaa
