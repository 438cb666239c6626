/-
  A heap outside of a Try: counts, who is held, More, Adopt: contracts.
-/
import Derived.Test.YtjjmapmombhmlaaHeap
import Derived.Test.YtjjmapmombhmlaaGrantsOut
namespace Go.Proofs.Ytjjmapmombhmlaa
open Go.RowKit Go.Maps Go.ChangeMaps Go.WideShapes

theorem HeapI.drew {b : HB} {s : HS} {w : World} (h : HeapI b s w) : HeapI b s w.drew := h.keep (T := fun _ => False) (Grew.refl w).drew (fun _ _ e => e) fun _ _ _ e => e
theorem HeapI.alloc {b : HB} {s : HS} {w : World} (h : HeapI b s w) (o : Obj) : HeapI b s (w.alloc o) := h.keep (T := fun _ => False) ((Grew.refl w).alloc o) (fun _ _ e => e) fun _ _ _ e => e
theorem LogAt.drew' {B g dp : Nat} {v : Value} {fs : List Step} {w : World} (h : LogAt B g dp v fs w) : LogAt B g dp v fs w.drew := ⟨h.c0, h.c1, h.f0, h.f1, h.row, h.kind⟩
theorem hHeld_any (b : HB) (ok : b.ok) (s : HS) (w : World) (h : HeapI b s w) : Calls Try.prog 21 #[.pointer (some ⟨b.hb, 0, none⟩)] w fun e w' => e = .returned (.int .i64 (cnt s.S 1 b.n)) ∧ w = w' := by
  have HH := Lib.hid (held_any b.m b.q b.f b.n s.S w h.gr (Nat.le_trans ok.n (by decide)))
  have c2 := h.c2
  generalize cnt s.S 1 b.n = x at *
  clear h
  go_enter Try.func21, Try.ntmps21
  go_wp2_with fail
  refine HH.out.mono ?_
  rintro e w' ⟨rfl, rfl⟩
  go_wp2_with fail
  go_ret
  exact ⟨rfl, rfl⟩
theorem hFree_any (b : HB) (ok : b.ok) (s : HS) (w : World) (h : HeapI b s w) : Calls Try.prog 22 #[.pointer (some ⟨b.hb, 0, none⟩)] w fun e w' => e = .returned (.int .i64 (cnt s.S 0 b.n)) ∧ w = w' := by
  have HH := Lib.hid (free_any b.m b.q b.f b.n s.S w h.gr (Nat.le_trans ok.n (by decide)))
  have c2 := h.c2
  generalize cnt s.S 0 b.n = x at *
  clear h
  go_enter Try.func22, Try.ntmps22
  go_wp2_with fail
  refine HH.out.mono ?_
  rintro e w' ⟨rfl, rfl⟩
  go_wp2_with fail
  go_ret
  exact ⟨rfl, rfl⟩
theorem hLate_any (b : HB) (ok : b.ok) (s : HS) (w : World) (h : HeapI b s w) : Calls Try.prog 26 #[.pointer (some ⟨b.hb, 0, none⟩)] w fun e w' => e = .returned (.int .i64 (cnt s.S 2 b.n)) ∧ w = w' := by
  have HH := Lib.hid (late_any b.m b.q b.f b.n s.S w h.gr (Nat.le_trans ok.n (by decide)))
  have c2 := h.c2
  generalize cnt s.S 2 b.n = x at *
  clear h
  go_enter Try.func26, Try.ntmps26
  go_wp2_with fail
  refine HH.out.mono ?_
  rintro e w' ⟨rfl, rfl⟩
  go_wp2_with fail
  go_ret
  exact ⟨rfl, rfl⟩
theorem hRefs_any (b : HB) (s : HS) (at' : Int) (hat : (Lit.int .i64 at').wf = true) (w : World) (h : HeapI b s w) : Calls Try.prog 20 #[.pointer (some ⟨b.hb, 0, none⟩), .int .i64 at'] w fun e w' => e = .returned (.int .i64 ((s.R at').getD 0)) ∧ w = w' := by
  have c3 := h.c3
  have hlk : (Instr.lookup 27 (.map (some b.rb)) (.int .i64 at') false).run Try.prog w = .ok (.int .i64 ((s.R at').getD 0)) w := h.rf.look1 tblII_fine at' hat
  generalize (s.R at').getD 0 = x at *
  clear h hat
  go_enter Try.func20, Try.ntmps20
  go_wp2_with fail
  go_ret
  exact ⟨rfl, rfl⟩
theorem needHeld_ok (b : HB) (ok : b.ok) (s : HS) (i : Nat) (hi : i < b.n) (hs : s.S i = 1) (w : World) (h : HeapI b s w) : Calls Try.prog 69 #[.pointer (some ⟨b.hb, 0, none⟩), .int .i64 ((b.f + i : Nat) : Int)] w fun e w' => e = .returned (.tuple #[]) ∧ w.drew = w' := by
  have HH := Lib.hid (is_any b.m b.q b.f b.n s.S i w h.gr (Nat.le_trans ok.f (by decide)) (Nat.le_trans ok.n (by decide)) hi)
  rw [hs] at HH
  have c2 := h.c2
  generalize b.f + i = T at *
  clear h hs hi
  go_enter Try.func69, Try.ntmps69
  go_wp2_with fail
  refine HH.out.mono ?_
  rintro e w' ⟨rfl, rfl⟩
  go_wp2_with fail
  go_end0
  exact ⟨rfl, rfl⟩
/-- a keep outside of a Try -/
theorem keep0II (B g b : Nat) (v : Value) (fs : List Step) (F : Int → Option Int) (L : List Int) (k : Int) (w : World) (h : LogAt B g 0 v fs w) (hT : Tab (tblII Try.prog) b F L w) (hok : (Lit.int .i64 k).wf = true) :
    Calls Try.prog 99 #[.pointer (some ⟨g, 0, none⟩), .map (some b), .int .i64 k] w fun e w' => e = .returned (.tuple #[]) ∧ Grew (fun _ => False) w w' := by
  have hmf : ∀ (fn : Fn) (first cap : Array Value) (w : World), (Instr.makeFunc fn first cap).run Try.prog w = .ok (.func fn first cap) w := fun _ _ _ _ => rfl
  obtain ⟨W2, hW2⟩ : ∃ W2, (w.alloc (.cells #[.map (some b)] 27)).alloc (.cells #[.int .i64 k] 3) = W2 := ⟨_, rfl⟩
  obtain ⟨u, hu⟩ : ∃ u, (F k).getD 0 = u := ⟨_, rfl⟩
  obtain ⟨hd, hhd⟩ : ∃ hd, (F k).isSome = hd := ⟨_, rfl⟩
  have g2 : Grew (fun _ => False) w W2 := by rw [← hW2]; exact ((Grew.refl w).alloc _).alloc _
  have hT2 : Tab (tblII Try.prog) b F L W2 := hT.keep g2 fun e => e
  have hlk : (Instr.lookup 27 (.map (some b)) (.int .i64 k) true).run Try.prog W2 = .ok (.tuple #[.int .i64 u, .bool hd]) W2 := by
    have := hT2.look tblII_fine k hok
    rw [hhd] at this
    have e : (tblII Try.prog).vv ((F k).getD (tblII Try.prog).z) = .int .i64 u := by rw [← hu]; rfl
    rw [e] at this
    exact this
  obtain ⟨W4, hW4⟩ : ∃ W4, (W2.alloc (.cells #[.int .i64 u] 3)).alloc (.cells #[.bool hd] 4) = W4 := ⟨_, rfl⟩
  have g4 : Grew (fun _ => False) W2 W4 := by rw [← hW4]; exact ((Grew.refl W2).alloc _).alloc _
  have g04 : Grew (fun _ => False) w W4 := g2.trans g4
  have hL4 : LogAt B g 0 v fs W4 := h.keep g04 (fun e => e) (fun _ _ e => e)
  have HBk := Lib.hid fun sv => back_none B g v fs sv W4 hL4
  have HG := Lib.hid g04
  clear g2 g4 g04 hT2 hL4 h hT hu hhd hok
  subst hW4
  subst hW2
  go_enter Try.func99, Try.ntmps99
  go_wp2_with fail
  refine (HBk.out _).mono ?_
  rintro e w1 ⟨rfl, rfl⟩
  clear HBk hlk
  go_wp2_with fail
  go_end0
  exact ⟨rfl, HG.out⟩
set_option maxRecDepth 100000 in
/-- a Put outside of a Try -/
theorem put0II (B g b : Nat) (v : Value) (fs : List Step) (F : Int → Option Int) (L : List Int) (hL : L.length < 1000000) (k y : Int) (w : World) (h : LogAt B g 0 v fs w) (hT : Tab (tblII Try.prog) b F L w) (hok : (Lit.int .i64 k).wf = true) (hy : (Lit.int .i64 y).wf = true) (hk : k ∈ L) :
    Calls Try.prog 55 #[.pointer (some ⟨g, 0, none⟩), .map (some b), .int .i64 k, .int .i64 y] w fun e w' => e = .returned (.tuple #[]) ∧ Tab (tblII Try.prog) b (upF F k (some y)) L w' ∧ Grew (fun q => q = b) w w' := by
  have HK := Lib.hid (keep0II B g b v fs F L k w h hT hok)
  have HT := Lib.hid hT
  have HO := Lib.hid hok
  have HY := Lib.hid hy
  have HIn := Lib.hid hk
  have HLL := Lib.hid hL
  clear h hT hok hy hk hL
  go_enter Try.func55, Try.ntmps55
  go_wp2_with fail
  refine HK.out.mono ?_
  rintro e w1 ⟨rfl, hg1⟩
  have HT1 := Lib.hid (HT.out.keep hg1 fun e => e)
  have HG1 := Lib.hid hg1
  clear HK HT hg1
  go_wp2_with (at_mapUpdate; (refine wpList_tab_put (T := tblII Try.prog) tblII_fine HT1.out HLL.out rfl _ _ _ rfl rfl k y rfl rfl HIn.out HO.out HY.out ?_); (intro w2 hT2 hG2); (have HT2 := Lib.hid hT2); (have HG2 := Lib.hid hG2); clear hT2 hG2)
  go_end0
  exact ⟨rfl, HT2.out, (HG1.out.mono fun _ _ e => e.elim).trans HG2.out⟩
end Go.Proofs.Ytjjmapmombhmlaa
