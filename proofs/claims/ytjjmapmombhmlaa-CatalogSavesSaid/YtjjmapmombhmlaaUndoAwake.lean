/-
  What the law asks of a log at its head.
-/
import Derived.Test.YtjjmapmombhmlaaUndoSet
namespace Go.Proofs.Ytjjmapmombhmlaa
open Go.RowKit

theorem done_alone (b : Nat) (o : Option Int) (w : World) : Grew (fun k => k = b) w (done b o w) := by
  cases o with
  | none => exact (Grew.refl (S := fun k => k = b) w).setCell _ _ fun _ => rfl
  | some k => exact ((Grew.refl (S := fun k => k = b) w).setCell ⟨b, 0, none⟩ _ fun _ => rfl).alloc _
theorem LogAt.end0 {B g d : Nat} {v : Value} {fs : List Step} {w : World} (h : LogAt B g d v fs w) (B' : Nat) : LogAt B' g 0 (.slice none 0 0) [] (Go.Proofs.Ytjjmapmombhmlaa.endTry g 0 w) := by
  unfold Go.Proofs.Ytjjmapmombhmlaa.endTry
  rw [if_pos rfl]
  have h1 := (h.deep 0).steps (fs' := []) (World.ownsRow_nil _ _ _ _)
  exact ⟨h1.c0, h1.c1, h1.f0, h1.f1, World.ownsRow_nil _ _ _ _, h1.kind⟩
theorem end0_grew (g : Nat) (w : World) : Grew (fun k => k = g) w (endTry g 0 w) := by
  unfold endTry
  rw [if_pos rfl]
  exact ((Grew.refl (S := fun k => k = g) w).setCell _ _ fun _ => rfl).setCell _ _ fun _ => rfl
theorem log_new (w : World) (B : Nat) : LogAt B w.heap.size 0 (.slice none 0 0) [] (w.alloc (.cells #[.int .i64 0, .slice none 0 0] 30)) := by
  have hb := heap_alloc_new w (.cells #[.int .i64 0, .slice none 0 0] 30)
  refine ⟨by simp, by simp, by simp, by simp, World.ownsRow_nil _ _ _ _, ⟨_, _, _, hb, by decide⟩⟩
theorem LogAt.rebase {B g d : Nat} {w : World} (h : LogAt B g d (.slice none 0 0) [] w) (B' : Nat) : LogAt B' g d (.slice none 0 0) [] w := ⟨h.c0, h.c1, h.f0, h.f1, World.ownsRow_nil _ _ _ _, h.kind⟩
/-- a Grew over what lies from a place on -/
theorem Grew.to_below {S : Nat → Prop} {W w w' : World} {B : Nat} (h : Grew S w w') (hb : Below B W w) (hS : ∀ k, S k → B ≤ k) (hs : B ≤ w.heap.size) : Below B W w' := h.below hb hs hS
set_option maxHeartbeats 1000000 in
theorem head2_any (B g x : Nat) (w : World) (h : LogAt B g 1 (.slice none 0 0) [] w) (hB : B = w.heap.size) (hc : Cell g x 0 1 w) :
    Calls Try.prog 54 #[.pointer (some ⟨g, 0, none⟩), .pointer (some ⟨x, 0, none⟩)] w fun e w' => e = Ends none ∧ ∃ fs' v', LogAt B g 1 v' fs' w' ∧ Cell g x 0 5 w' ∧ Grew (fun k => k = g ∨ k = x) w w' := by
  have HS1 := Lib.hid (set_some B g 0 x 0 1 5 _ [] w h (by decide) (by omega) hc)
  have c := hc.c
  clear h hc
  go_enter Try.func54, Try.ntmps54
  go_wp2_with fail
  refine HS1.out.mono ?_
  rintro e w1 ⟨rfl, wb1, ab1, ⟨v1, l1⟩, b1, p1, n1, n2, c1, g1⟩
  have HF : Hid (LogAt B g 1 v1 _ w1 ∧ Cell g x 0 5 w1 ∧ Grew (fun k => k = g ∨ k = x) w w1) := Lib.hid ⟨l1, c1, g1.mono fun k _ e => by
    rcases e with e | e | e
    · exact Or.inl e
    · exact Or.inr e
    · cases e⟩
  clear l1 c1 g1 b1 p1 HS1
  go_wp2_with fail
  go_end0
  exact ⟨rfl, _, v1, HF.out⟩
/-- the first Try: two Sets are undone -/
theorem try1_any (g x : Nat) (W : World) (hL : LogAt 0 g 0 (.slice none 0 0) [] W) (hc : Cell g x 0 1 W) (hn : x ≠ g) :
    Calls Try.prog 51 #[.pointer (some ⟨g, 0, none⟩), .func (.func 52) #[] #[.pointer (some ⟨g, 0, none⟩), .pointer (some ⟨x, 0, none⟩)]] W fun e w' => e = .returned (.int .i64 7) ∧ LogAt 0 g 0 (.slice none 0 0) [] w' ∧ Cell g x 0 1 w' ∧ Grew (fun k => k = g ∨ k = x) W w' := by
  have hsz : ((W.setCell ⟨g, 0, none⟩ (.int .i64 ((0 + 1 : Nat) : Int))).alloc errBox).heap.size = W.heap.size + 1 := by simp [World.setCell]
  have hszA : (W.setCell ⟨g, 0, none⟩ (.int .i64 ((0 + 1 : Nat) : Int))).heap.size = W.heap.size := by simp [World.setCell]
  have gS : Grew (fun k => k = g) W ((W.setCell ⟨g, 0, none⟩ (.int .i64 ((0 + 1 : Nat) : Int))).alloc errBox) := ((Grew.refl (S := fun k => k = g) W).setCell _ _ fun _ => rfl).alloc _
  have hL1 : LogAt (W.heap.size + 1) g 1 (.slice none 0 0) [] ((W.setCell ⟨g, 0, none⟩ (.int .i64 ((0 + 1 : Nat) : Int))).alloc errBox) := ((hL.rebase _).deep 1).keepAlloc _
  have hc1 : Cell g x 0 1 ((W.setCell ⟨g, 0, none⟩ (.int .i64 ((0 + 1 : Nat) : Int))).alloc errBox) := hc.keep gS hn
  have hgl := hL.lt
  have hxl := hc.lt
  have heb : ((W.setCell ⟨g, 0, none⟩ (.int .i64 ((0 + 1 : Nat) : Int))).alloc errBox).heap[W.heap.size]? = some errBox := by
    have := heap_alloc_new (W.setCell ⟨g, 0, none⟩ (.int .i64 ((0 + 1 : Nat) : Int))) errBox
    rw [hszA] at this
    exact this
  refine (try_any (W.heap.size + 1) g 0 (.slice none 0 0) [] 52 #[.pointer (some ⟨g, 0, none⟩), .pointer (some ⟨x, 0, none⟩)] W (hL.rebase _) (by decide)
    (fun o fs' w' => o = some 7 ∧ ∃ w1 a1 w2 a2, fs' = headSteps w1 a1 w2 a2 ∧ Head g x w1 a1 w2 a2 2 w' ∧ w1 ≠ W.heap.size ∧ w2 ≠ W.heap.size ∧ a1 ≠ W.heap.size ∧ a2 ≠ W.heap.size ∧ Grew (fun k => k = g ∨ k = x) W w')
    (fun k w' => k = 7 ∧ Cell g x 0 1 w' ∧ Grew (fun k => k = g ∨ k = x) W w') (fun _ => by kernel_rfl) ?_ ?_).mono ?_
  · refine (head1_any (W.heap.size + 1) g x _ _ hL1 hsz.symm hc1 hn rfl).mono ?_
    rintro e w' ⟨rfl, w1, a1, w2, a2, v', hl, hh, hg⟩
    have ne : ∀ b t y, Box b t y w' → t ≠ 45 → b ≠ W.heap.size := fun b t y hb ht e => by
      subst e
      have := hg.block W.heap.size (by omega) (by omega)
      rw [heb] at this
      unfold Box at hb
      rw [this] at hb
      simp at hb
      exact ht hb.2.symm
    refine ⟨some 7, headSteps w1 a1 w2 a2, v', rfl, ?_, hl, (fun k e => by cases e; decide), rfl, w1, a1, w2, a2, rfl, hh, ne _ _ _ hh.b1 (by decide), ne _ _ _ hh.b2 (by decide), ne _ _ _ hh.p1 (by decide), ne _ _ _ hh.p2 (by decide), (gS.mono fun k _ e => Or.inl e).step hg fun k _ e => e⟩
    rw [hg.block W.heap.size (by omega) (by omega)]
    exact heb
  · rintro k fs' v' w' hb hl ⟨hk, w1, a1, w2, a2, rfl, hh, n1, n2, n3, n4, hg⟩
    have hd := done_alone W.heap.size (some k) w'
    have hh2 : Head g x w1 a1 w2 a2 2 (done W.heap.size (some k) w') := hh.grew hd ⟨n1, n2, n3, n4, by omega⟩
    have hg2 : Grew (fun k => k = g ∨ k = x) W (done W.heap.size (some k) w') := hg.step hd fun k hk e => by omega
    refine (undo_any (W.heap.size + 1) g 1 0 (headSteps w1 a1 w2 a2) (fun j wx => Head g x w1 a1 w2 a2 j wx ∧ Grew (fun k => k = g ∨ k = x) W wx) v' _ hl ⟨hh2, hg2⟩ (Nat.zero_le _) (by simp [headSteps]) ?_ ?_).mono ?_
    · rintro j wx y ⟨h1, h2⟩
      exact ⟨h1.set1 1 y, h2.setCell _ _ fun _ => Or.inl rfl⟩
    · intro j _ hj vx wx hlx ⟨h1, h2⟩
      have hj2 : j < 2 := hj
      match j, hj2 with
      | 0, _ =>
        refine ⟨fun _ => by kernel_rfl, (setBack_any w1 a1 x 0 1 _ wx h1.b1.cell h1.p1.cell h1.c.c h1.c.f).mono ?_⟩
        rintro e w'' ⟨rfl, rfl⟩
        exact ⟨rfl, ⟨vx, hlx.keepStore h1.c _⟩, h1.back 0 1 rfl, h2.setCell _ _ fun _ => Or.inr rfl⟩
      | 1, _ =>
        refine ⟨fun _ => by kernel_rfl, (setBack_any w2 a2 x 0 2 _ wx h1.b2.cell h1.p2.cell h1.c.c h1.c.f).mono ?_⟩
        rintro e w'' ⟨rfl, rfl⟩
        exact ⟨rfl, ⟨vx, hlx.keepStore h1.c _⟩, h1.back 1 2 rfl, h2.setCell _ _ fun _ => Or.inr rfl⟩
    · rintro e w'' ⟨rfl, ⟨v'', hl''⟩, h1, h2⟩
      exact ⟨rfl, ⟨v'', hl''⟩, Option.some.inj hk, h1.c, h2⟩
  · rintro e w' ⟨o, rfl, w3, rfl, ⟨rfl, fs', w1, ⟨hk, _⟩, _⟩ | ⟨k, rfl, _, ⟨rfl, hcx, hg⟩, v', hl⟩⟩
    · cases hk
    · exact ⟨rfl, hl.end0 0, hcx.keep (end0_grew g w3) hn, hg.step (end0_grew g w3) fun k _ e => Or.inl e⟩
theorem try2_any (g x : Nat) (W : World) (hL : LogAt 0 g 0 (.slice none 0 0) [] W) (hc : Cell g x 0 1 W) (hn : x ≠ g) :
    Calls Try.prog 51 #[.pointer (some ⟨g, 0, none⟩), .func (.func 54) #[] #[.pointer (some ⟨g, 0, none⟩), .pointer (some ⟨x, 0, none⟩)]] W fun e w' => e = .returned (.int .i64 0) ∧ Cell g x 0 5 w' ∧ Grew (fun k => k = g ∨ k = x) W w' := by
  have hsz : ((W.setCell ⟨g, 0, none⟩ (.int .i64 ((0 + 1 : Nat) : Int))).alloc errBox).heap.size = W.heap.size + 1 := by simp [World.setCell]
  have hszA : (W.setCell ⟨g, 0, none⟩ (.int .i64 ((0 + 1 : Nat) : Int))).heap.size = W.heap.size := by simp [World.setCell]
  have gS : Grew (fun k => k = g) W ((W.setCell ⟨g, 0, none⟩ (.int .i64 ((0 + 1 : Nat) : Int))).alloc errBox) := ((Grew.refl (S := fun k => k = g) W).setCell _ _ fun _ => rfl).alloc _
  have hL1 : LogAt (W.heap.size + 1) g 1 (.slice none 0 0) [] ((W.setCell ⟨g, 0, none⟩ (.int .i64 ((0 + 1 : Nat) : Int))).alloc errBox) := ((hL.rebase _).deep 1).keepAlloc _
  have hc1 : Cell g x 0 1 ((W.setCell ⟨g, 0, none⟩ (.int .i64 ((0 + 1 : Nat) : Int))).alloc errBox) := hc.keep gS hn
  have hgl := hL.lt
  have hxl := hc.lt
  have heb : ((W.setCell ⟨g, 0, none⟩ (.int .i64 ((0 + 1 : Nat) : Int))).alloc errBox).heap[W.heap.size]? = some errBox := by
    have := heap_alloc_new (W.setCell ⟨g, 0, none⟩ (.int .i64 ((0 + 1 : Nat) : Int))) errBox
    rw [hszA] at this
    exact this
  refine (try_any (W.heap.size + 1) g 0 (.slice none 0 0) [] 54 #[.pointer (some ⟨g, 0, none⟩), .pointer (some ⟨x, 0, none⟩)] W (hL.rebase _) (by decide)
    (fun o fs' w' => o = none ∧ Cell g x 0 5 w' ∧ Grew (fun k => k = g ∨ k = x) W w') (fun _ _ => False) (fun _ => by kernel_rfl) ?_ ?_).mono ?_
  · refine (head2_any (W.heap.size + 1) g x _ hL1 hsz.symm hc1).mono ?_
    rintro e w' ⟨rfl, fs', v', hl, hcx, hg⟩
    refine ⟨none, fs', v', rfl, ?_, hl, (fun k e => by cases e), rfl, hcx, (gS.mono fun k _ e => Or.inl e).step hg fun k _ e => e⟩
    rw [hg.block W.heap.size (by omega) (by omega)]
    exact heb
  · rintro k fs' v' w' _ _ ⟨e, _⟩
    cases e
  · rintro e w' ⟨o, rfl, w3, rfl, ⟨rfl, fs', w1, ⟨_, hcx, hg⟩, hb, rfl, v', hl⟩ | ⟨k, _, _, h, _⟩⟩
    · have hd := done_alone W.heap.size none w1
      exact ⟨rfl, (hcx.keep hd (by omega)).keep (end0_grew g _) hn, (hg.step hd fun k hk e => by omega).step (end0_grew g _) fun k _ e => Or.inl e⟩
    · exact h.elim
set_option maxHeartbeats 1000000 in
theorem undoAwake (w : World) : Calls Try.prog 9 #[] w fun e w' => e = .returned (.bool true) ∧ Below w.heap.size w w' := by
  have hmf : ∀ (fn : Fn) (first cap : Array Value) (w : World), (Instr.makeFunc fn first cap).run Try.prog w = .ok (.func fn first cap) w := fun _ _ _ _ => rfl
  obtain ⟨W, hW⟩ : ∃ W, (w.alloc (.cells #[.int .i64 0, .slice none 0 0] 30)).alloc (.cells #[.int .i64 1] 3) = W := ⟨_, rfl⟩
  have hs1 : (w.alloc (.cells #[.int .i64 0, .slice none 0 0] 30)).heap.size = w.heap.size + 1 := by simp
  have hL : LogAt 0 w.heap.size 0 (.slice none 0 0) [] W := by rw [← hW]; exact (log_new w 0).keepAlloc _
  have hb : Box (w.heap.size + 1) 3 (.int .i64 1) W := by
    rw [← hW]
    have := Box.new (w.alloc (.cells #[.int .i64 0, .slice none 0 0] 30)) 3 (.int .i64 1)
    rw [hs1] at this
    exact this
  have hc : Cell w.heap.size (w.heap.size + 1) 0 1 W := ⟨hb.cell, hb.free, hb.other (by decide), Or.inl (by omega)⟩
  have hB : Below w.heap.size w W := by rw [← hW]; exact ((Below.refl _ _).alloc (Nat.le_refl _) _).alloc (by simp) _
  have H1 := Lib.hid (try1_any w.heap.size (w.heap.size + 1) W hL hc (by omega))
  have HB := Lib.hid hB
  clear hL hb hc hB
  subst hW
  go_enter Try.func9, Try.ntmps9
  go_wp2_with fail
  refine H1.out.mono ?_
  rintro e w1 ⟨rfl, hl1, hc1, hg1⟩
  have H2 := Lib.hid (try2_any w.heap.size (w.heap.size + 1) w1 hl1 hc1 (by omega))
  have HB1 : Hid (Below w.heap.size w w1) := Lib.hid (hg1.to_below HB.out (fun k e => by omega) HB.out.size)
  clear hl1 hc1 hg1 H1 HB
  go_wp2_with fail
  refine H2.out.mono ?_
  rintro e w2 ⟨rfl, hc2, hg2⟩
  have HB2 : Hid (Below w.heap.size w w2) := Lib.hid (hg2.to_below HB1.out (fun k e => by omega) HB1.out.size)
  have c2 := hc2.c
  clear hc2 hg2 H2 HB1
  go_wp2_with fail
  go_ret
  exact ⟨rfl, HB2.out⟩
end Go.Proofs.Ytjjmapmombhmlaa
