/-
  StampFrames: for every two stamps and every text the law answers true.
-/
import Derived.Test.YtdojmlfpckgdoaaStampMath
import Derived.Test.YtdojmlfpckgdoaaCut
import Derived.Deep.RegionHeld
namespace Go.Proofs.Ytdojmlfpckgdoaa
open Go.RowKit

/-- two stamps in boxes, one behind the other -/
structure Two (w : World) (x a b c d : Nat) (W : World) : Prop where
  below : Below w.heap.size w W
  lt : x + 1 < W.heap.size
  c0 : W.cell? ⟨x, 0, none⟩ = some (.int .u32 a)
  c1 : W.cell? ⟨x, 1, none⟩ = some (.int .u32 b)
  c2 : W.cell? ⟨x + 1, 0, none⟩ = some (.int .u32 c)
  c3 : W.cell? ⟨x + 1, 1, none⟩ = some (.int .u32 d)
theorem Two.next {w : World} {x a b c d : Nat} {W W' : World} (h : Two w x a b c d W) (g : Below W.heap.size W W') : Two w x a b c d W' := by
  have h1 := h.lt
  have h2 := g.size
  exact ⟨h.below.trans (g.mono h.below.size), by omega, by rw [g.cell (by show x < _; omega)]; exact h.c0, by rw [g.cell (by show x < _; omega)]; exact h.c1, by rw [g.cell (by show x + 1 < _; omega)]; exact h.c2, by rw [g.cell (by show x + 1 < _; omega)]; exact h.c3⟩
theorem Two.drew {w : World} {x a b c d : Nat} {W : World} (h : Two w x a b c d W) : Two w x a b c d W.drew := ⟨h.below.drew, h.lt, h.c0, h.c1, h.c2, h.c3⟩
theorem Two.start {w w1 : World} (a b c d : Nat) (t : TypeId) (h : Below w.heap.size w w1) : Two w w1.heap.size a b c d ((w1.alloc (.cells #[.int .u32 a, .int .u32 b] t)).alloc (.cells #[.int .u32 c, .int .u32 d] t)) := by
  obtain ⟨p0, p1⟩ := pair_cells w1 (.int .u32 a) (.int .u32 b) t
  obtain ⟨p2, p3⟩ := pair_cells (w1.alloc (.cells #[.int .u32 a, .int .u32 b] t)) (.int .u32 c) (.int .u32 d) t
  have hs : (w1.alloc (.cells #[.int .u32 a, .int .u32 b] t)).heap.size = w1.heap.size + 1 := by simp
  rw [hs] at p2 p3
  have := h.size
  exact ⟨(h.alloc h.size _).alloc (by omega) _, by simp, by rw [World.cell?_alloc_past (hn := by simp), p0], by rw [World.cell?_alloc_past (hn := by simp), p1], p2, p3⟩
set_option maxHeartbeats 2000000 in
theorem stampFrames_big (a b c d : Nat) (s : ByteArray) (ha : a < 4294967296) (hb : b < 4294967296) (w : World) (t : ByteArray) (hcut : ∀ w : World, Calls Try.prog 24 #[.string s, .int .i64 60] w fun e w' => e = .returned (.string t) ∧ w = w') (hz : 47 < t.size) :
    Calls Try.prog 7 #[.int .u32 a, .int .u32 b, .int .u32 c, .int .u32 d, .string s] w fun e w' => e = .returned (.bool true) ∧ Below w.heap.size w w' := by
  have HC := Lib.hid hcut
  clear hcut
  have HF : Hid (∀ wx : World, Calls Try.prog 30 #[.agg #[.int .u32 a, .int .u32 b], .string t] wx fun e w' => e = .returned (.tuple #[.string ⟨#[]⟩, .int .i64 3]) ∧ Below wx.heap.size wx w') := Lib.hid fun wx => by
    have h := lawFrame_any a b t wx ha hb
    have e1 : frameRes a b t = ⟨#[]⟩ := by unfold frameRes; rw [if_neg (by omega)]
    have e2 : (frameErr t).getD 0 = 3 := by unfold frameErr; rw [if_neg (by omega)]; rfl
    rw [e1, e2] at h
    exact h
  have hi : 47 < (t.size : Int) := by omega
  go_enter Try.func7, Try.ntmps7
  go_wp2_with fail
  refine (HC.out _).mono ?_
  rintro e w' ⟨rfl, rfl⟩
  go_wp2_with fail
  refine (stampAwake _).mono ?_
  rintro e w1 ⟨rfl, hb⟩
  have HB := Lib.hid (Two.start a b c d 56 hb)
  clear hb
  go_wp2_with fail
  refine (HF.out _).mono ?_
  rintro e w2 ⟨rfl, hb⟩
  have HB2 := Lib.hid (HB.out.next hb)
  clear hb HB
  go_wp2_with fail
  go_ret
  exact ⟨rfl, HB2.out.below⟩
set_option maxHeartbeats 8000000 in
theorem stampFrames_ok (a b c d : Nat) (s : ByteArray) (ha : a < 4294967296) (hb : b < 4294967296) (hc : c < 4294967296) (hd : d < 4294967296) (w : World) (t : ByteArray) (hcut : ∀ w : World, Calls Try.prog 24 #[.string s, .int .i64 60] w fun e w' => e = .returned (.string t) ∧ w = w') (hz : t.size ≤ 47) :
    Calls Try.prog 7 #[.int .u32 a, .int .u32 b, .int .u32 c, .int .u32 d, .string s] w fun e w' => e = .returned (.bool true) ∧ Below w.heap.size w w' := by
  have HC := Lib.hid hcut
  clear hcut
  have HF : Hid (∀ wx : World, Calls Try.prog 30 #[.agg #[.int .u32 a, .int .u32 b], .string t] wx fun e w' => e = .returned (.tuple #[.string (mkFrame a b t), .int .i64 0]) ∧ Below wx.heap.size wx w') := Lib.hid fun wx => by
    have h := lawFrame_any a b t wx ha hb
    have e1 : frameRes a b t = mkFrame a b t := by unfold frameRes; rw [if_pos hz]; rfl
    have e2 : (frameErr t).getD 0 = 0 := by unfold frameErr; rw [if_pos hz]; rfl
    rw [e1, e2] at h
    exact h
  have HO : Hid (∀ wx : World, Calls Try.prog 31 #[.agg #[.int .u32 a, .int .u32 b], .string (mkFrame a b t)] wx fun e w' => e = .returned (.tuple #[.string t, .bool true]) ∧ Below wx.heap.size wx w') := Lib.hid fun wx => by
    refine (open_any a b (mkFrame a b t) wx ha hb).mono ?_
    rintro e w' ⟨h1, _, h3⟩
    have := h1 (isFrame_own a b t hz)
    rw [textIn_frame a b t hz] at this
    exact ⟨this, h3⟩
  have HP : Hid (∀ wx : World, Calls Try.prog 31 #[.agg #[.int .u32 c, .int .u32 d], .string (mkFrame a b t)] wx fun e w' =>
      ((a = c ∧ b = d) → e = .returned (.tuple #[.string t, .bool true])) ∧ (¬ (a = c ∧ b = d) → e = .returned (.tuple #[.string ⟨#[]⟩, .bool false])) ∧ Below wx.heap.size wx w') := Lib.hid fun wx => by
    refine (open_any c d (mkFrame a b t) wx hc hd).mono ?_
    rintro e w' ⟨h1, h2, h3⟩
    rw [textIn_frame a b t hz] at h1
    have hi := isFrame_other a b c d t hz ha hb hc hd
    exact ⟨fun h => h1 (hi.2 h), fun h => h2 (fun k => h (hi.1 k)), h3⟩
  have HR : Hid (∀ wx : World, Calls Try.prog 32 #[.int .u32 a, .int .u32 b, .string t] wx fun e w' => e = .returned (.string (mkFrame a b t)) ∧ Below wx.heap.size wx w') := Lib.hid fun wx => refFrame_any a b t wx ha hb hz
  have HOf : Hid (∀ wx : World, Calls Try.prog 33 #[.string (mkFrame a b t)] wx fun e w' => e = .returned (.agg #[.int .u32 a, .int .u32 b]) ∧ Below wx.heap.size wx w') := Lib.hid fun wx => by
    have h := of_any (mkFrame a b t) wx (by rw [mkFrame_size a b t hz]; decide)
    obtain ⟨e1, e2⟩ := take4_frame a b t ha hb
    rw [e1, e2] at h
    exact h
  generalize mkFrame a b t = F at *
  have hi : ¬ 47 < (t.size : Int) := by omega
  go_enter Try.func7, Try.ntmps7
  go_wp2_with fail
  refine (HC.out _).mono ?_
  rintro e w' ⟨rfl, rfl⟩
  go_wp2_with fail
  refine (stampAwake _).mono ?_
  rintro e w1 ⟨rfl, hb⟩
  have HB := Lib.hid (Two.start a b c d 56 hb)
  clear hb
  go_wp2_with fail
  generalize (w1.alloc (.cells #[.int .u32 a, .int .u32 b] 56)).alloc (.cells #[.int .u32 c, .int .u32 d] 56) = W at *
  generalize w1.heap.size = x at *
  refine (HF.out _).mono ?_
  rintro e w2 ⟨rfl, hb⟩
  have HB2 := Lib.hid (HB.out.next hb)
  clear hb HB
  have k0 := HB2.out.c0
  have k1 := HB2.out.c1
  go_wp2_with fail
  refine (HO.out _).mono ?_
  rintro e w3 ⟨rfl, hb⟩
  have HB3 := Lib.hid (HB2.out.next hb)
  clear hb HB2 k0 k1
  have k2 := HB3.out.c2
  have k3 := HB3.out.c3
  go_wp2_with fail
  refine (HP.out _).mono ?_
  rintro e w4 ⟨hy, hn, hb⟩
  have HB4 := Lib.hid (HB3.out.next hb)
  clear hb HB3 k2 k3
  have k0 := HB4.out.c0
  have k1 := HB4.out.c1
  have HK : Hid (∀ wx, Two w x a b c d wx → wx.cell? ⟨x, 0, none⟩ = some (.int .u32 a) ∧ wx.cell? ⟨x, 1, none⟩ = some (.int .u32 b) ∧ wx.cell? ⟨x + 1, 0, none⟩ = some (.int .u32 c) ∧ wx.cell? ⟨x + 1, 1, none⟩ = some (.int .u32 d)) := Lib.hid fun wx h => ⟨h.c0, h.c1, h.c2, h.c3⟩
  clear k0 k1 HC HF HO HP
  by_cases he : a = c ∧ b = d
  · obtain rfl := hy he
    clear hy hn
    obtain ⟨rfl, rfl⟩ := he
    go_wp2_with fail
    first | (go_region_held (fun wx => wx.cell? ⟨x, 0, none⟩ = some (.int .u32 a) ∧ wx.cell? ⟨x, 1, none⟩ = some (.int .u32 b) ∧ wx.cell? ⟨x + 1, 0, none⟩ = some (.int .u32 a) ∧ wx.cell? ⟨x + 1, 1, none⟩ = some (.int .u32 b))
      (first | exact HK.out _ HB5.out | exact HK.out _ HB6.out | exact HK.out _ HB4.out.drew)
      (first
        | (go_at_call 32; (with_reducible refine (HR.out w4.drew).mono ?_); rintro e w5 ⟨rfl, hb⟩; (have HB5 := Lib.hid (HB4.out.drew.next hb)); clear hb)
        | (go_at_call 33; (with_reducible refine (HOf.out w5).mono ?_); rintro e w6 ⟨rfl, hb⟩; (have HB6 := Lib.hid (HB5.out.next hb)); clear hb))) | fail
    all_goals
      go_wp2_with fail
      go_ret
      exact ⟨rfl, HB6.out.below⟩
  · obtain rfl := hn he
    clear hy hn
    by_cases h1 : a = c
    · have h2 : ¬ (b : Int) = (d : Int) := fun e => he ⟨h1, by omega⟩
      have h3 : ((b : Int) == (d : Int)) = false := by simpa using h2
      subst h1
      clear he
      go_wp2_with fail
      go_region_held3 (fun wx => wx.cell? ⟨x, 0, none⟩ = some (.int .u32 a) ∧ wx.cell? ⟨x, 1, none⟩ = some (.int .u32 b) ∧ wx.cell? ⟨x + 1, 0, none⟩ = some (.int .u32 a) ∧ wx.cell? ⟨x + 1, 1, none⟩ = some (.int .u32 d))
        (first | exact HK.out _ HB5.out | exact HK.out _ HB6.out | exact HK.out _ HB4.out.drew)
        (first
          | (go_at_call 32; (with_reducible refine (HR.out w4.drew).mono ?_); rintro e w5 ⟨rfl, hb⟩; (have HB5 := Lib.hid (HB4.out.drew.next hb)); clear hb)
          | (go_at_call 33; (with_reducible refine (HOf.out w5).mono ?_); rintro e w6 ⟨rfl, hb⟩; (have HB6 := Lib.hid (HB5.out.next hb)); clear hb))
      all_goals
        go_wp2_with fail
        go_ret
        exact ⟨rfl, HB6.out.below⟩
    · have h2 : ¬ (a : Int) = (c : Int) := by omega
      have h3 : ((a : Int) == (c : Int)) = false := by simpa using h2
      clear he h1
      go_wp2_with fail
      go_region_held3 (fun wx => wx.cell? ⟨x, 0, none⟩ = some (.int .u32 a) ∧ wx.cell? ⟨x, 1, none⟩ = some (.int .u32 b) ∧ wx.cell? ⟨x + 1, 0, none⟩ = some (.int .u32 c) ∧ wx.cell? ⟨x + 1, 1, none⟩ = some (.int .u32 d))
        (first | exact HK.out _ HB5.out | exact HK.out _ HB6.out | exact HK.out _ HB4.out.drew)
        (first
          | (go_at_call 32; (with_reducible refine (HR.out w4.drew).mono ?_); rintro e w5 ⟨rfl, hb⟩; (have HB5 := Lib.hid (HB4.out.drew.next hb)); clear hb)
          | (go_at_call 33; (with_reducible refine (HOf.out w5).mono ?_); rintro e w6 ⟨rfl, hb⟩; (have HB6 := Lib.hid (HB5.out.next hb)); clear hb))
      all_goals
        go_wp2_with fail
        go_ret
        exact ⟨rfl, HB6.out.below⟩
end Go.Proofs.Ytdojmlfpckgdoaa
