/-
  A slot's sector is opened: a contract.
-/
import Derived.Test.YtnkmidfdpjcdaaaSuperParse
namespace Go.Proofs.Ytnkmidfdpjcdaaa
open Go.RowKit

instance isFrameDec' (a b : Nat) (s : ByteArray) : Decidable (isFrame a b s) := by unfold isFrame; infer_instance
/-- the epoch that a sector's first bytes say -/
def epIn (S : ByteArray) : Nat := num (S.data.toList.take 4)
/-- does a slot's sector hold a super? -/
def hasSup (S : ByteArray) (at' : Nat) : Prop := num ((S.data.toList.drop 4).take 4) = 0 ∧ epIn S % 2 = at' ∧ isFrame (epIn S) 0 S ∧ isSup (textIn S)
instance hasSupDec (S : ByteArray) (at' : Nat) : Decidable (hasSup S at') := by unfold hasSup; infer_instance
def supIn (S : ByteArray) : Sup := Sup.of (epIn S) (textIn S).data.toList
theorem epIn_lt (S : ByteArray) : epIn S < 4294967296 := num_u32 _
theorem supIn_fits (S : ByteArray) : (supIn S).fits := ⟨epIn_lt S, num2_lt _, num2_lt _, num2_lt _, num_u32 _⟩
theorem zero_cells {w : World} {x : Nat} {t : TypeId} {a b c d e : Value} (h : w.heap[x]? = some (.cells #[a, b, c, d, e] t)) : (w.cell? ⟨x, 0, none⟩ = some a ∧ w.cell? ⟨x, 1, none⟩ = some b ∧ w.cell? ⟨x, 2, none⟩ = some c ∧ w.cell? ⟨x, 3, none⟩ = some d ∧ w.cell? ⟨x, 4, none⟩ = some e) ∧ w.frozen? ⟨x, 0, none⟩ = false ∧ w.frozen? ⟨x, 1, none⟩ = false ∧ w.frozen? ⟨x, 2, none⟩ = false ∧ w.frozen? ⟨x, 3, none⟩ = false ∧ w.frozen? ⟨x, 4, none⟩ = false :=
  ⟨fiveAt h, by simp [World.frozen?, h], by simp [World.frozen?, h], by simp [World.frozen?, h], by simp [World.frozen?, h], by simp [World.frozen?, h]⟩
set_option maxHeartbeats 4000000 in
theorem supOpen_any (S : ByteArray) (hS : S.size = 64) (at' : Nat) (w : World) :
    Calls Try.prog 69 #[.string S, .int .i64 at'] w fun e w' => e = .returned (.tuple #[.agg (if hasSup S at' then (supIn S).cells else Sup.none.cells), .bool (decide (hasSup S at'))]) ∧ Below w.heap.size w w' := by
  have HO : Hid (∀ wx, Calls Try.prog 77 #[.string S] wx fun e w' => e = .returned (.agg #[.int .u32 (epIn S : Nat), .int .u32 (num ((S.data.toList.drop 4).take 4) : Nat)]) ∧ Below wx.heap.size wx w') := Lib.hid fun wx => of_any S wx (by omega)
  have HSl := Lib.hid fun wx => slot_any (epIn S) (epIn_lt S) wx
  have HOp := Lib.hid fun wx => open_any (epIn S) 0 S wx (epIn_lt S) (by decide)
  have HPo := Lib.hid fun wx (h : isSup (textIn S)) => parse_ok (epIn S) (textIn S) wx h
  have HPn := Lib.hid fun wx (h : ¬ isSup (textIn S)) => parse_no (epIn S) (textIn S) wx h
  obtain ⟨q, hq⟩ : ∃ q, num ((S.data.toList.drop 4).take 4) = q := ⟨_, rfl⟩
  have HD : Hid (hasSup S at' ↔ q = 0 ∧ epIn S % 2 = at' ∧ isFrame (epIn S) 0 S ∧ isSup (textIn S)) := Lib.hid (by unfold hasSup; rw [hq])
  rw [hq] at HO
  have HCe : Hid (∀ h : isSup (textIn S), (supIn S).cells = (Sup.of (epIn S) (textIn S).data.toList).cells) := Lib.hid fun _ => rfl
  have HB0 : Hid (Below w.heap.size w (w.alloc zeroSup)) := Lib.hid ((Below.refl _ _).alloc (Nat.le_refl _) _)
  have hz0 := heap_alloc_new w zeroSup
  have hs0 : (w.alloc zeroSup).heap.size = w.heap.size + 1 := by simp
  generalize hE : epIn S = E at *
  clear hq
  obtain ⟨RC, hRC⟩ : ∃ RC : Array Value, (if hasSup S at' then (supIn S).cells else Sup.none.cells) = RC := ⟨_, rfl⟩
  obtain ⟨RB, hRB⟩ : ∃ RB : Bool, decide (hasSup S at') = RB := ⟨_, rfl⟩
  rw [hRC, hRB]
  have HNn : Hid (¬ hasSup S at' → RC = Sup.none.cells ∧ RB = false) := Lib.hid fun h => ⟨by rw [← hRC, if_neg h], by rw [← hRB, decide_eq_false h]⟩
  have HNy : Hid (hasSup S at' → RC = (supIn S).cells ∧ RB = true) := Lib.hid fun h => ⟨by rw [← hRC, if_pos h], by rw [← hRB, decide_eq_true h]⟩
  clear hRC hRB
  go_enter Try.func69, Try.ntmps69
  go_wp2_with fail
  refine (HO.out _).mono ?_
  rintro e w1 ⟨rfl, hb1⟩
  have HB1 := Lib.hid (HB0.out.trans (hb1.mono (by rw [hs0]; omega)))
  have hz1 : w1.heap[w.heap.size]? = some zeroSup := by rw [hb1.block _ (by rw [hs0]; omega)]; exact hz0
  have hs1 : w.heap.size + 1 ≤ w1.heap.size := by have := hb1.size; simp at this; omega
  have HZ : Hid (∀ wx, Below w1.heap.size w1 wx → wx.heap[w.heap.size]? = some zeroSup) := Lib.hid fun wx hb => by rw [hb.block _ (by omega)]; exact hz1
  have HB2 : Hid (Below w1.heap.size w1 (w1.alloc (.cells #[.int .u32 (E : Nat), .int .u32 (q : Nat)] 103))) := Lib.hid ((Below.refl _ _).alloc (Nat.le_refl _) _)
  obtain ⟨p0, p1⟩ := pair_cells w1 (.int .u32 (E : Nat)) (.int .u32 (q : Nat)) 103
  clear hb1 hz0 HO HB0 hz1 hs0
  by_cases hq0 : q = 0
  · subst hq0
    by_cases hsl : E % 2 = at'
    · have i1 : ((E % 2 : Nat) : Int) = (at' : Int) := by omega
      have HSl1 : Hid (∀ wx, Calls Try.prog 66 #[.int .u32 E] wx fun e w' => e = .returned (.int .i64 at') ∧ wx = w') := Lib.hid fun wx => by
        have := HSl.out wx
        rw [i1] at this
        exact this
      clear i1 HSl
      by_cases hfr : isFrame E 0 S
      · go_wp2_with fail
        refine (HSl1.out _).mono ?_
        rintro e w2 ⟨rfl, rfl⟩
        go_wp2_with fail
        refine (HOp.out _).mono ?_
        rintro e w3 ⟨he, _, hb3⟩
        obtain rfl := he hfr
        have HB3 := Lib.hid (HB2.out.trans (hb3.mono HB2.out.size))
        have q0 : w3.cell? ⟨w1.heap.size, 0, none⟩ = some (.int .u32 E) := by rw [hb3.cell (p := ⟨w1.heap.size, 0, none⟩) (by show w1.heap.size < _; simp)]; exact p0
        clear he hb3 p0 p1
        by_cases hsp : isSup (textIn S)
        · have HYe : Hid (hasSup S at') := Lib.hid (HD.out.2 ⟨trivial, hsl, hfr, hsp⟩)
          have HPk := Lib.hid (HPo.out w3 hsp)
          obtain ⟨ep, j, b, h, nx, hC⟩ : ∃ ep j b h nx : Nat, Hid ((Sup.of E (textIn S).data.toList) = ⟨ep, j, b, h, nx⟩) := ⟨_, _, _, _, _, Lib.hid rfl⟩
          have hE2 : Hid ((supIn S).cells = #[.int .u32 ep, .int .i64 j, .int .i64 b, .int .i64 h, .int .u32 nx]) := Lib.hid (by unfold supIn; rw [hE, hC.out]; rfl)
          rw [hC.out] at HPk
          dsimp only [Sup.cells] at HPk
          generalize textIn S = TT at *
          go_wp2_with fail
          refine HPk.out.mono ?_
          rintro e w4 ⟨rfl, hb4⟩
          have HB4 := Lib.hid (HB3.out.trans (hb4.mono HB3.out.size))
          clear hb4
          have hzz := zero_cells (HZ.out _ HB4.out)
          obtain ⟨⟨y0, y1, y2, y3, y4⟩, g0, g1, g2, g3, g4⟩ := hzz
          go_wp2_with fail
          refine bodyPost_ret (results_two rfl _ _ w.heap.size _ _ _ _ rfl (five_set (HZ.out _ HB4.out) (.int .u32 ep) (.int .i64 j) (.int .i64 b) (.int .i64 h) (.int .u32 nx)) Try.underlying51 supSize) rfl ?_
          rw [(HNy.out HYe.out).1, (HNy.out HYe.out).2, hE2.out]
          exact ⟨rfl, ((((((HB1.out.trans (HB4.out.mono HB1.out.size)).setCell (Nat.le_refl _) _).setCell (Nat.le_refl _) _).setCell (Nat.le_refl _) _).setCell (Nat.le_refl _) _).setCell (Nat.le_refl _) _)⟩
        · have HNo : Hid (¬ hasSup S at') := Lib.hid fun h => hsp (HD.out.1 h).2.2.2
          have HPk := Lib.hid (HPn.out w3 hsp)
          unfold Sup.none at HPk
          dsimp only [Sup.cells] at HPk
          generalize textIn S = TT at *
          go_wp2_with fail
          refine HPk.out.mono ?_
          rintro e w4 ⟨rfl, hb4⟩
          have HB4 := Lib.hid (HB3.out.trans (hb4.mono HB3.out.size))
          clear hb4
          have hzz := zero_cells (HZ.out _ HB4.out)
          obtain ⟨⟨y0, y1, y2, y3, y4⟩, g0, g1, g2, g3, g4⟩ := hzz
          go_wp2_with fail
          refine bodyPost_ret (results_two rfl _ _ w.heap.size _ _ _ _ rfl (five_set (HZ.out _ HB4.out) (.int .u32 0) (.int .i64 0) (.int .i64 0) (.int .i64 0) (.int .u32 0)) Try.underlying51 supSize) rfl ?_
          rw [(HNn.out HNo.out).1, (HNn.out HNo.out).2]
          exact ⟨rfl, ((((((HB1.out.trans (HB4.out.mono HB1.out.size)).setCell (Nat.le_refl _) _).setCell (Nat.le_refl _) _).setCell (Nat.le_refl _) _).setCell (Nat.le_refl _) _).setCell (Nat.le_refl _) _)⟩
      · have HNo : Hid (¬ hasSup S at') := Lib.hid fun h => hfr (HD.out.1 h).2.2.1
        go_wp2_with fail
        refine (HSl1.out _).mono ?_
        rintro e w2 ⟨rfl, rfl⟩
        go_wp2_with fail
        refine (HOp.out _).mono ?_
        rintro e w3 ⟨_, he, hb3⟩
        obtain rfl := he hfr
        have HB3 := Lib.hid (HB2.out.trans (hb3.mono HB2.out.size))
        clear he hb3
        have hzz := zero_cells (HZ.out _ HB3.out)
        obtain ⟨⟨y0, y1, y2, y3, y4⟩, g0, g1, g2, g3, g4⟩ := hzz
        go_wp2_with fail
        refine bodyPost_ret (results_two rfl _ _ w.heap.size _ _ _ _ rfl (five_set (HZ.out _ HB3.out) (.int .u32 0) (.int .i64 0) (.int .i64 0) (.int .i64 0) (.int .u32 0)) Try.underlying51 supSize) rfl ?_
        rw [(HNn.out HNo.out).1, (HNn.out HNo.out).2]
        exact ⟨rfl, ((((((HB1.out.trans (HB3.out.mono HB1.out.size)).setCell (Nat.le_refl _) _).setCell (Nat.le_refl _) _).setCell (Nat.le_refl _) _).setCell (Nat.le_refl _) _).setCell (Nat.le_refl _) _)⟩
    · have HNo : Hid (¬ hasSup S at') := Lib.hid fun h => hsl (HD.out.1 h).2.1
      have i1 : (((E % 2 : Nat) : Int) == (at' : Int)) = false := by rw [beq_eq_false_iff_ne]; omega
      have i1' : (((E % 2 : Nat) : Int) != (at' : Int)) = true := by rw [bne_iff_ne]; omega
      have i1'' : ¬ ((E % 2 : Nat) : Int) = (at' : Int) := by omega
      have HB2z : Hid (Below w1.heap.size w1 (w1.alloc (.cells #[.int .u32 (E : Nat), .int .u32 0] 103))) := Lib.hid ((Below.refl _ _).alloc (Nat.le_refl _) _)
      generalize ((E % 2 : Nat) : Int) = E2 at *
      have hzz := zero_cells (HZ.out _ HB2z.out)
      obtain ⟨⟨y0, y1, y2, y3, y4⟩, g0, g1, g2, g3, g4⟩ := hzz
      go_wp2_with fail
      refine (HSl.out _).mono ?_
      rintro e w2 ⟨rfl, rfl⟩
      go_wp2_with fail
      refine bodyPost_ret (results_two rfl _ _ w.heap.size _ _ _ _ rfl (five_set (HZ.out _ HB2z.out) (.int .u32 0) (.int .i64 0) (.int .i64 0) (.int .i64 0) (.int .u32 0)) Try.underlying51 supSize) rfl ?_
      rw [(HNn.out HNo.out).1, (HNn.out HNo.out).2]
      exact ⟨rfl, ((((((HB1.out.trans (HB2z.out.mono HB1.out.size)).setCell (Nat.le_refl _) _).setCell (Nat.le_refl _) _).setCell (Nat.le_refl _) _).setCell (Nat.le_refl _) _).setCell (Nat.le_refl _) _)⟩
  · have HNo : Hid (¬ hasSup S at') := Lib.hid fun h => hq0 (HD.out.1 h).1
    have i1 : ((q : Int) == 0) = false := by rw [beq_eq_false_iff_ne]; omega
    have hzz := zero_cells (HZ.out _ HB2.out)
    obtain ⟨⟨y0, y1, y2, y3, y4⟩, g0, g1, g2, g3, g4⟩ := hzz
    go_wp2_with fail
    refine bodyPost_ret (results_two rfl _ _ w.heap.size _ _ _ _ rfl (five_set (HZ.out _ HB2.out) (.int .u32 0) (.int .i64 0) (.int .i64 0) (.int .i64 0) (.int .u32 0)) Try.underlying51 supSize) rfl ?_
    rw [(HNn.out HNo.out).1, (HNn.out HNo.out).2]
    exact ⟨rfl, ((((((HB1.out.trans (HB2.out.mono HB1.out.size)).setCell (Nat.le_refl _) _).setCell (Nat.le_refl _) _).setCell (Nat.le_refl _) _).setCell (Nat.le_refl _) _).setCell (Nat.le_refl _) _)⟩
end Go.Proofs.Ytnkmidfdpjcdaaa
