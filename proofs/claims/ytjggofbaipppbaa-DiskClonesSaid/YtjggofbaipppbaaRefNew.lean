/-
  The document's own disk: New: a contract.
-/
import Derived.Test.YtjggofbaipppbaaRefLoose
import Derived.Deep.AppendLies
namespace Go.Proofs.Ytjggofbaipppbaa
open Go.RowKit

/-- a disk that is being made: its result at x, its struct at y, its two rows among the blocks from B on -/
structure NewAt (w : World) (x y B k0 k1 : Nat) (Z v0 v1 : Value) (wx : World) : Prop where
  qx : Quad x (.slice none 0 0) (.slice none 0 0) (.int .i64 0) (.bool false) wx
  qy : Quad y v0 v1 (.int .i64 (-1)) (.bool false) wx
  o0 : wx.ownsRow B 9 1 v0 k0 (List.replicate k0 Z)
  o1 : wx.ownsRow B 9 1 v1 k1 (List.replicate k1 Z)
  ap : ∀ q, v0.ownBlock = some q → ¬ v1.ownBlock = some q
  lx : x < B
  ly : y < B
  ne : x ≠ y
  bs : B ≤ wx.heap.size
  wx0 : w.heap.size ≤ x
  wy0 : w.heap.size ≤ y
  below : Below w.heap.size w wx
theorem Quad.grown {x : Nat} {v0 v1 v2 v3 : Value} {w w' : World} {row : Option Nat} (h : Quad x v0 v1 v2 v3 w) (g : w.grownBy w' row) (hne : row ≠ some x) : Quad x v0 v1 v2 v3 w' := ⟨by rw [g.block x h.lt (fun e => hne (by rw [← e]))]; exact h.at'⟩
theorem ownsRow_set {w : World} {base n : Nat} {e : TypeId} {v u : Value} {xs : List Value} {y j : Nat} (h : w.ownsRow base e 1 v n xs) (hy : y < base) : (w.setCell ⟨y, j, none⟩ u).ownsRow base e 1 v n xs := ownsRow_setCell_below h hy u
theorem NewAt.step0 {w : World} {x y B k0 k1 : Nat} {Z v0 v1 : Value} {wx w1 : World} {o : Obj} {g cap : Nat} (h : NewAt w x y B k0 k1 Z v0 v1 wx) (hs : w1.ownsRow B 9 1 (.slice (some ⟨g, 0, none⟩) (k0 + 1) cap) (k0 + 1) (List.replicate k0 Z ++ [Z])) (hg : (wx.alloc o).grownBy w1 v0.ownBlock) (hat : v0.ownBlock = some g ∨ g = wx.heap.size + 1) :
    NewAt w x y B (k0 + 1) k1 Z (.slice (some ⟨g, 0, none⟩) (k0 + 1) cap) v1 (w1.setCell ⟨y, 0, none⟩ (.slice (some ⟨g, 0, none⟩) (k0 + 1) cap)) := by
  have hA : ∀ q, v0.ownBlock = some q → B ≤ q := fun q hq => (h.o0.lt q hq).1
  have n1 : v0.ownBlock ≠ some x := fun e => by have := hA x e; have := h.lx; omega
  have n2 : v0.ownBlock ≠ some y := fun e => by have := hA y e; have := h.ly; omega
  have al : Below wx.heap.size wx (wx.alloc o) := (Below.refl _ _).alloc (Nat.le_refl _) _
  have qx1 := (h.qx.keep al).grown hg n1
  have qy1 := (h.qy.keep al).grown hg n2
  have hap : v1.ownBlock = none ∨ v1.ownBlock ≠ v0.ownBlock := by
    cases e : v1.ownBlock with
    | none => exact Or.inl rfl
    | some q => exact Or.inr fun e2 => h.ap q e2.symm e
  have o11 := (h.o1.alloc o).kept hg hap
  have hsz := hg.size
  have hb := h.bs
  refine ⟨⟨by rw [Below.heap_setCell _ _ _ _ h.ne]; exact qx1.at'⟩, ⟨by have := qy1.at'; simp [World.setCell, Array.getElem?_modify, this]⟩, ?_, ownsRow_set o11 h.ly, ?_, h.lx, h.ly, h.ne, ?_, h.wx0, h.wy0, ?_⟩
  · rw [List.replicate_succ']
    exact ownsRow_set hs h.ly
  · intro q hq e
    simp [Value.ownBlock] at hq
    subst hq
    rcases hat with a | a
    · exact h.ap g a e
    · have := (h.o1.lt g e).2
      omega
  · simp [World.setCell] at hsz ⊢
    omega
  · have hbel : Below w.heap.size w w1 := (h.below.alloc h.below.size o).grown hg (by have := h.below.size; simp; omega) (fun q hq => by have := hA q hq; have := h.wx0; have := h.lx; omega)
    exact hbel.setCell h.wy0 _
theorem NewAt.step1 {w : World} {x y B k0 k1 : Nat} {Z v0 v1 : Value} {wx w1 : World} {o : Obj} {g cap : Nat} (h : NewAt w x y B k0 k1 Z v0 v1 wx) (hs : w1.ownsRow B 9 1 (.slice (some ⟨g, 0, none⟩) (k1 + 1) cap) (k1 + 1) (List.replicate k1 Z ++ [Z])) (hg : (wx.alloc o).grownBy w1 v1.ownBlock) (hat : v1.ownBlock = some g ∨ g = wx.heap.size + 1) :
    NewAt w x y B k0 (k1 + 1) Z v0 (.slice (some ⟨g, 0, none⟩) (k1 + 1) cap) (w1.setCell ⟨y, 1, none⟩ (.slice (some ⟨g, 0, none⟩) (k1 + 1) cap)) := by
  have hA : ∀ q, v1.ownBlock = some q → B ≤ q := fun q hq => (h.o1.lt q hq).1
  have n1 : v1.ownBlock ≠ some x := fun e => by have := hA x e; have := h.lx; omega
  have n2 : v1.ownBlock ≠ some y := fun e => by have := hA y e; have := h.ly; omega
  have al : Below wx.heap.size wx (wx.alloc o) := (Below.refl _ _).alloc (Nat.le_refl _) _
  have qx1 := (h.qx.keep al).grown hg n1
  have qy1 := (h.qy.keep al).grown hg n2
  have hap : v0.ownBlock = none ∨ v0.ownBlock ≠ v1.ownBlock := by
    cases e : v0.ownBlock with
    | none => exact Or.inl rfl
    | some q => exact Or.inr fun e2 => h.ap q e e2.symm
  have o01 := (h.o0.alloc o).kept hg hap
  have hsz := hg.size
  have hb := h.bs
  refine ⟨⟨by rw [Below.heap_setCell _ _ _ _ h.ne]; exact qx1.at'⟩, ⟨by have := qy1.at'; simp [World.setCell, Array.getElem?_modify, this]⟩, ownsRow_set o01 h.ly, ?_, ?_, h.lx, h.ly, h.ne, ?_, h.wx0, h.wy0, ?_⟩
  · rw [List.replicate_succ']
    exact ownsRow_set hs h.ly
  · intro q hq e
    simp [Value.ownBlock] at e
    subst e
    rcases hat with a | a
    · exact h.ap g hq a
    · have := (h.o0.lt g hq).2
      omega
  · simp [World.setCell] at hsz ⊢
    omega
  · have hbel : Below w.heap.size w w1 := (h.below.alloc h.below.size o).grown hg (by have := h.below.size; simp; omega) (fun q hq => by have := hA q hq; have := h.wx0; have := h.lx; omega)
    exact hbel.setCell h.wy0 _
theorem NewAt.after0 {w : World} {x y B k0 k1 : Nat} {Z v0 v1 : Value} {wx : World} {o : Obj} (h : NewAt w x y B k0 k1 Z v0 v1 wx) : ∀ w1, (wx.alloc o).grownBy w1 v0.ownBlock → w1.cell? ⟨y, 0, none⟩ = some v0 ∧ w1.frozen? ⟨y, 0, none⟩ = false := fun w1 hg => by
  have n2 : v0.ownBlock ≠ some y := fun e => by have := (h.o0.lt y e).1; have := h.ly; omega
  have q := ((h.qy.keep ((Below.refl _ _).alloc (Nat.le_refl _) o)).grown hg n2).cells
  exact ⟨q.1.1, q.2.1⟩
theorem NewAt.after1 {w : World} {x y B k0 k1 : Nat} {Z v0 v1 : Value} {wx : World} {o : Obj} (h : NewAt w x y B k0 k1 Z v0 v1 wx) : ∀ w1, (wx.alloc o).grownBy w1 v1.ownBlock → w1.cell? ⟨y, 1, none⟩ = some v1 ∧ w1.frozen? ⟨y, 1, none⟩ = false := fun w1 hg => by
  have n2 : v1.ownBlock ≠ some y := fun e => by have := (h.o1.lt y e).1; have := h.ly; omega
  have q := ((h.qy.keep ((Below.refl _ _).alloc (Nat.le_refl _) o)).grown hg n2).cells
  exact ⟨q.1.2.1, q.2.2.1⟩
theorem blank_sec (i : Nat) : (⟨(sec (fun _ => 0) i).toArray⟩ : ByteArray) = tail0 ⟨#[]⟩ 64 := by
  apply ByteArray.ext
  apply Array.toList_inj.mp
  have h : (tail0 ⟨#[]⟩ 64).data.toList = List.replicate 64 0 := by simp [tail0, ByteArray.data_append]
  rw [h]
  show sec (fun _ => 0) i = _
  unfold sec
  rw [List.map_const']
  simp
theorem texts_new {w : World} {B k : Nat} {v : Value} (h : w.ownsRow B 9 1 v k (List.replicate k (.string (tail0 ⟨#[]⟩ 64)))) : ∃ a c, v = .slice a k c ∧ TextsAt w a k (fun _ => 0) ∧ (a = none → c = 0) := by
  rcases h.2 with ⟨rfl, h0⟩ | ⟨g, cap, cur, rfl, hb, hg, _⟩
  · subst h0
    exact ⟨none, 0, rfl, Or.inl rfl, fun _ => rfl⟩
  · refine ⟨some ⟨g, 0, none⟩, cap, rfl, Or.inr ⟨g, rfl, fun i hi => ?_⟩, fun e => by cases e⟩
    rw [h.cellAt i (by omega), blank_sec i]
    simp [hi]
set_option maxRecDepth 10000 in
set_option maxHeartbeats 2000000 in
theorem refNew_any (n : Int) (w : World) (hn : n ≤ 4096) :
    Calls Try.prog 11 #[.int .i64 n] w fun e w' => ∃ r, e = .returned (.agg r.cells) ∧ r.n = n.toNat ∧ r.S = (fun _ => 0) ∧ r.T = (fun _ => 0) ∧ r.left = -1 ∧ r.dead = false ∧ RefAt r w' ∧ Below w.heap.size w w' := by
  obtain ⟨i0, hi, hz0, hz1, hz2⟩ := info_parts infoText
  have HI0 := Lib.hid hi
  have HI1 := Lib.hid hz0
  have HI2 := Lib.hid hz1
  have HI3 := Lib.hid hz2
  clear hi hz0 hz1 hz2
  obtain ⟨N, hN⟩ : ∃ N, n.toNat = N := ⟨_, rfl⟩
  rw [hN]
  go_enter Try.func11, Try.ntmps11
  go_wp2_with fail
  refine (blank_any _).mono ?_
  rintro e w' ⟨rfl, rfl⟩
  have HS0 : Hid (NewAt w w.heap.size (w.heap.size + 1) (w.heap.size + 2) 0 0 (.string (tail0 ⟨#[]⟩ 64)) (.slice none 0 0) (.slice none 0 0) ((w.alloc (.cells #[.slice none 0 0, .slice none 0 0, .int .i64 0, .bool false] 28)).alloc (.cells #[.slice none 0 0, .slice none 0 0, .int .i64 (-1), .bool false] 28))) := Lib.hid
    ⟨⟨heap_alloc2_old w _ _⟩, ⟨heap_alloc2_new w _ _⟩, World.ownsRow_nil _ _ _ _, World.ownsRow_nil _ _ _ _, fun q hq => by simp [Value.ownBlock] at hq, by omega, by omega, by omega, by simp, Nat.le_refl _, by omega, two_below _ _ _⟩
  go_wp2_with fail
  generalize (w.alloc (.cells #[.slice none 0 0, .slice none 0 0, .int .i64 0, .bool false] 28)).alloc (.cells #[.slice none 0 0, .slice none 0 0, .int .i64 (-1), .bool false] 28) = W at *
  generalize hZ : tail0 ⟨#[]⟩ 64 = Z at *
  have HZ := Lib.hid hZ
  clear hZ
  go_loopw [5] (fun i wx => ∃ k : Nat, k ≤ N ∧ i = .int .i64 k ∧ ∃ v0 v1, NewAt w w.heap.size (w.heap.size + 1) (w.heap.size + 2) k k (.string Z) v0 v1 wx) (fun i _ => N - (intOf i).toNat)
  case atStart => exact ⟨0, by omega, rfl, _, _, HS0.out⟩
  case round =>
    obtain ⟨k, hk, rfl, v0, v1, hS⟩ := hrel
    have HS := Lib.hid hS
    clear hS HS0
    by_cases hlt : k < N
    · have i1 : (k : Int) < n := by omega
      have i2 : (k : Int) < 4096 := by omega
      have hq0 := HS.out.qy.cells
      obtain ⟨⟨a0, _⟩, b0, _⟩ := hq0
      have HA0 := Lib.hid (HS.out.after0 (o := .cells #[.string Z] 9))
      have hsz := HS.out.bs
      have HO0 := Lib.hid (HS.out.o0.alloc (.cells #[.string Z] 9))
      go_upto_region 7 with (at_builtin; (refine wpList_append_lies _ rfl _ _ 26 rfl (w.heap.size + 2) 9 i0 (.string ⟨#[]⟩) 1 16 Try.underlying26 HI0.out HI1.out HI2.out HI3.out rfl (by decide) v0 k _ rfl HO0.out ⟨wr.heap.size, 0, none⟩ 1 1 [.string Z] rfl rfl ?_ ?_ (by decide) ?_ ?_ ?_ (wr.heap.size + 1) ?_ ?_); (focus exact news_one wr _ _); (focus (intro u hu; simp at hu; subst hu; rfl)); (focus (unfold maxLen; omega)); (focus omega); (focus (simp; omega)); (focus simp); (intro g cap w1 hs hg hat hlt'); (obtain ⟨k0, k1⟩ := HA0.out w1 hg); (have HS1 := Lib.hid (HS.out.step0 hs hg hat)); (clear hs hg hat hlt'))
      generalize w1.setCell ⟨w.heap.size + 1, 0, none⟩ (.slice (some ⟨g, 0, none⟩) (k + 1) cap) = W1 at *
      clear k0 k1 a0 b0 HA0 HO0 hsz HS
      have hq1 := HS1.out.qy.cells
      obtain ⟨⟨_, a1, _⟩, _, b1, _⟩ := hq1
      have HA1 := Lib.hid (HS1.out.after1 (o := .cells #[.string Z] 9))
      have hsz := HS1.out.bs
      have HO1 := Lib.hid (HS1.out.o1.alloc (.cells #[.string Z] 9))
      go_wp2_with (at_builtin; (refine wpList_append_lies _ rfl _ _ 26 rfl (w.heap.size + 2) 9 i0 (.string ⟨#[]⟩) 1 16 Try.underlying26 HI0.out HI1.out HI2.out HI3.out rfl (by decide) v1 k _ rfl HO1.out ⟨W1.heap.size, 0, none⟩ 1 1 [.string Z] rfl rfl ?_ ?_ (by decide) ?_ ?_ ?_ (W1.heap.size + 1) ?_ ?_); (focus exact news_one W1 _ _); (focus (intro u hu; simp at hu; subst hu; rfl)); (focus (unfold maxLen; omega)); (focus omega); (focus (simp; omega)); (focus simp); (intro g2 cap2 w3 hs hg hat hlt'); (obtain ⟨k0, k1⟩ := HA1.out w3 hg); (have HS2 := Lib.hid (HS1.out.step1 hs hg hat)); (clear hs hg hat hlt'))
      go_roundw
      case rel => exact ⟨k + 1, by omega, by go_num, _, _, HS2.out⟩
      case measure => simp [intOf]; omega
    · have i1 : ¬ (k : Int) < n := by omega
      obtain rfl : k = N := by omega
      have hSo := HS.out
      rw [← HZ.out] at hSo
      obtain ⟨a, c, rfl, ht0, hz0⟩ := texts_new hSo.o0
      obtain ⟨a', c', rfl, ht1, hz1⟩ := texts_new hSo.o1
      obtain ⟨⟨p0, p1, p2, p3⟩, _⟩ := HS.out.qy.cells
      obtain ⟨⟨q0, q1, q2, q3⟩, z0, z1, z2, z3⟩ := HS.out.qx.cells
      have HR := Lib.hid (quad_set HS.out.qx.at' (.slice a k c) (.slice a' k c') (.int .i64 (-1)) (.bool false))
      have HT0 := Lib.hid ht0
      have HT1 := Lib.hid ht1
      have HZ0 := Lib.hid hz0
      have HZ1 := Lib.hid hz1
      clear hSo ht0 ht1 hz0 hz1
      go_wp2_with fail
      refine bodyPost_ret (results_cell_row rfl _ _ w.heap.size _ _ _ _ rfl HR.out Try.underlying28 rfl size_ref) rfl ?_
      have hgr : Grew (fun q => q = w.heap.size) wr ((((wr.setCell ⟨w.heap.size, 0, none⟩ (.slice a k c)).setCell ⟨w.heap.size, 1, none⟩ (.slice a' k c')).setCell ⟨w.heap.size, 2, none⟩ (.int .i64 (-1))).setCell ⟨w.heap.size, 3, none⟩ (.bool false)) :=
        ((((Grew.refl (S := fun q => q = w.heap.size) _).setCell ⟨w.heap.size, 0, none⟩ _ fun _ => rfl).setCell ⟨w.heap.size, 1, none⟩ _ fun _ => rfl).setCell ⟨w.heap.size, 2, none⟩ _ fun _ => rfl).setCell ⟨w.heap.size, 3, none⟩ _ fun _ => rfl
      refine ⟨⟨a, a', k, c, c', fun _ => 0, fun _ => 0, -1, false⟩, rfl, rfl, rfl, rfl, rfl, rfl, ⟨HT0.out.keep hgr (fun b e => ?_), HT1.out.keep hgr (fun b e => ?_), by show k ≤ 4096; omega, HZ0.out, HZ1.out⟩, hgr.below HS.out.below HS.out.below.size (fun q e => by omega)⟩
      · subst e
        have := (HS.out.o0.lt b rfl).1
        show ¬ b = w.heap.size
        omega
      · subst e
        have := (HS.out.o1.lt b rfl).1
        show ¬ b = w.heap.size
        omega
end Go.Proofs.Ytjggofbaipppbaa
