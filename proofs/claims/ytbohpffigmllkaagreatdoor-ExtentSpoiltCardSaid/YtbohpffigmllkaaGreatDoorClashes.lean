/-
  Texts put together: ExtClashes, ExtClashTry, ExtClashHit, ExtClash2, ExtClashAt.
-/
import Derived.Test.YtbohpffigmllkaaGreatDoorExtHit
import Derived.Test.YtbohpffigmllkaaGreatDoorExtTry
import Derived.Test.YtbohpffigmllkaaGreatDoorExtAddr
import Derived.Test.YtbohpffigmllkaaGreatDoorExtCosts
import Derived.Test.YtbohpffigmllkaaGreatDoorDataAny
/-
  ExtentClash: what its three Tries run: contracts.
-/
namespace Go.Proofs.YtbohpffigmllkaaGreatDoor
open Go.RowKit Go.Maps Go.ChangeMaps Go.WideShapes

set_option maxRecDepth 100000 in
theorem clash1_ok (x y p : Nat) (xs : Nat) (D : ByteArray) (w : World) (bx : Box x 28 (.pointer (some ⟨xs, 0, none⟩)) w) (bd : Box y 9 (.string D) w) (Q : Int → World → Prop)
    (h : Calls Tryz.prog 14 #[.pointer (some ⟨xs, 0, none⟩), .string D] w fun e w' => ∃ v : Int, e = .returned (.int .i64 v) ∧ Q v w' ∧ Box p 3 (.int .i64 0) w') :
    Calls Tryz.prog 46 #[.pointer (some ⟨x, 0, none⟩), .pointer (some ⟨y, 0, none⟩), .pointer (some ⟨p, 0, none⟩)] w fun e w' => e = .returned (.tuple #[]) ∧ ∃ v w1, Q v w1 ∧ Box p 3 (.int .i64 0) w1 ∧ w1.setCell ⟨p, 0, none⟩ (.int .i64 v) = w' := by
  have c1 := bx.cell
  have c2 := bd.cell
  have H := Lib.hid h
  clear h bx bd
  go_enter Tryz.func46, Tryz.ntmps46
  go_wp2_with fail
  refine H.out.mono ?_
  rintro e w1 ⟨v, rfl, hq, hb⟩
  have d1 := hb.cell
  have d2 := hb.free
  have HQ := Lib.hid (And.intro hq hb)
  clear hq hb H c1 c2
  go_wp2_with fail
  go_end0
  exact ⟨rfl, v, w1, HQ.out.1, HQ.out.2, rfl⟩
set_option maxRecDepth 100000 in
theorem clash1_fail (x y p : Nat) (xs : Nat) (D : ByteArray) (k : Int) (w : World) (bx : Box x 28 (.pointer (some ⟨xs, 0, none⟩)) w) (bd : Box y 9 (.string D) w) (Q : World → Prop)
    (h : Calls Tryz.prog 14 #[.pointer (some ⟨xs, 0, none⟩), .string D] w fun e w' => e = failed k ∧ Q w') :
    Calls Tryz.prog 46 #[.pointer (some ⟨x, 0, none⟩), .pointer (some ⟨y, 0, none⟩), .pointer (some ⟨p, 0, none⟩)] w fun e w' => e = Ends (some k) ∧ Q w' := by
  have c1 := bx.cell
  have c2 := bd.cell
  have H := Lib.hid h
  clear h bx bd
  go_enter Tryz.func46, Tryz.ntmps46
  go_wp2_with fail
  refine H.out.mono ?_
  rintro e w1 ⟨rfl, hq⟩
  have HQ := Lib.hid hq
  clear hq H c1 c2
  unfold failed
  go_wp2_with fail
  exact ⟨rfl, rfl, HQ.out⟩
set_option maxRecDepth 100000 in
theorem clash2_ok (x y p : Nat) (xs : Nat) (D : ByteArray) (w : World) (bx : Box x 28 (.pointer (some ⟨xs, 0, none⟩)) w) (bd : Box y 9 (.string D) w) (Q : Int → World → Prop)
    (h : Calls Tryz.prog 14 #[.pointer (some ⟨xs, 0, none⟩), .string D] w fun e w' => ∃ v : Int, e = .returned (.int .i64 v) ∧ Q v w' ∧ Box p 3 (.int .i64 0) w') :
    Calls Tryz.prog 47 #[.pointer (some ⟨x, 0, none⟩), .pointer (some ⟨y, 0, none⟩), .pointer (some ⟨p, 0, none⟩)] w fun e w' => e = .returned (.tuple #[]) ∧ ∃ v w1, Q v w1 ∧ Box p 3 (.int .i64 0) w1 ∧ w1.setCell ⟨p, 0, none⟩ (.int .i64 v) = w' := by
  have c1 := bx.cell
  have c2 := bd.cell
  have H := Lib.hid h
  clear h bx bd
  go_enter Tryz.func47, Tryz.ntmps47
  go_wp2_with fail
  refine H.out.mono ?_
  rintro e w1 ⟨v, rfl, hq, hb⟩
  have d1 := hb.cell
  have d2 := hb.free
  have HQ := Lib.hid (And.intro hq hb)
  clear hq hb H c1 c2
  go_wp2_with fail
  go_end0
  exact ⟨rfl, v, w1, HQ.out.1, HQ.out.2, rfl⟩
set_option maxRecDepth 100000 in
theorem clash2_fail (x y p : Nat) (xs : Nat) (D : ByteArray) (k : Int) (w : World) (bx : Box x 28 (.pointer (some ⟨xs, 0, none⟩)) w) (bd : Box y 9 (.string D) w) (Q : World → Prop)
    (h : Calls Tryz.prog 14 #[.pointer (some ⟨xs, 0, none⟩), .string D] w fun e w' => e = failed k ∧ Q w') :
    Calls Tryz.prog 47 #[.pointer (some ⟨x, 0, none⟩), .pointer (some ⟨y, 0, none⟩), .pointer (some ⟨p, 0, none⟩)] w fun e w' => e = Ends (some k) ∧ Q w' := by
  have c1 := bx.cell
  have c2 := bd.cell
  have H := Lib.hid h
  clear h bx bd
  go_enter Tryz.func47, Tryz.ntmps47
  go_wp2_with fail
  refine H.out.mono ?_
  rintro e w1 ⟨rfl, hq⟩
  have HQ := Lib.hid hq
  clear hq H c1 c2
  unfold failed
  go_wp2_with fail
  exact ⟨rfl, rfl, HQ.out⟩
set_option maxRecDepth 100000 in
theorem clash3_ok (x p y : Nat) (xs : Nat) (v : Int) (D : ByteArray) (w : World) (bx : Box x 28 (.pointer (some ⟨xs, 0, none⟩)) w) (bp : Box p 3 (.int .i64 v) w) (Q : World → Prop)
    (h : Calls Tryz.prog 30 #[.pointer (some ⟨xs, 0, none⟩), .int .i64 v] w fun e w' => e = .returned (.string D) ∧ Q w' ∧ Box y 9 (.string ⟨#[]⟩) w') :
    Calls Tryz.prog 49 #[.pointer (some ⟨x, 0, none⟩), .pointer (some ⟨p, 0, none⟩), .pointer (some ⟨y, 0, none⟩)] w fun e w' => e = .returned (.tuple #[]) ∧ ∃ w1, Q w1 ∧ Box y 9 (.string ⟨#[]⟩) w1 ∧ w1.setCell ⟨y, 0, none⟩ (.string D) = w' := by
  have c1 := bx.cell
  have c2 := bp.cell
  have H := Lib.hid h
  clear h bx bp
  go_enter Tryz.func49, Tryz.ntmps49
  go_wp2_with fail
  refine H.out.mono ?_
  rintro e w1 ⟨rfl, hq, hb⟩
  have d1 := hb.cell
  have d2 := hb.free
  have HQ := Lib.hid (And.intro hq hb)
  clear hq hb H c1 c2
  go_wp2_with fail
  go_end0
  exact ⟨rfl, w1, HQ.out.1, HQ.out.2, rfl⟩
/-- an extent that lies there lies there behind further writes -/
theorem LiesP.wr {b : HB} {s s1 : HS} {D E : ByteArray} {k x m : Nat} {a : Nat → Nat} {J : List Nat} {U : Nat → UInt8} (h : LiesP b s b.T E m x) (hw : Wr b s D k a J s1 U) : LiesP b s1 U E m x := by
  induction hw with
  | none => exact h
  | skip _ _ ih => exact ih
  | put _ _ _ hs _ ih => exact ih.more _ hs _ _
theorem Wr.keepS {b : HB} {s s1 : HS} {D : ByteArray} {k : Nat} {a : Nat → Nat} {J : List Nat} {U : Nat → UInt8} (hw : Wr b s D k a J s1 U) (i : Nat) (hs : s.S i = 1) : s1.S i = 1 ∧ secB U (b.f + i) = secB b.T (b.f + i) ∧ s1.R ((b.f + i : Nat) : Int) = s.R ((b.f + i : Nat) : Int) := by
  induction hw with
  | none => exact ⟨hs, rfl, rfl⟩
  | skip _ _ ih => exact ih
  | @put k a J s1 U j _ _ _ h0 _ ih =>
    obtain ⟨h1, h2, h3⟩ := ih
    have hne : i ≠ j := fun e => by rw [← e, h1] at h0; cases h0
    refine ⟨?_, ?_, ?_⟩
    · show upd s1.S j 1 i = 1
      unfold upd
      rw [if_neg hne]
      exact h1
    · rw [wroteT_other _ _ _ _ (by omega)]
      exact h2
    · show upF s1.R ((b.f + j : Nat) : Int) (some 1) ((b.f + i : Nat) : Int) = _
      unfold upF
      rw [if_neg (by omega)]
      exact h3
end Go.Proofs.YtbohpffigmllkaaGreatDoor

/-
  ExtentClash: its Tries of a Put: contracts.
-/
namespace Go.Proofs.YtbohpffigmllkaaGreatDoor
open Go.RowKit Go.Maps Go.ChangeMaps Go.WideShapes

theorem cnt_newS : ∀ n, cnt HS.new.S 0 n = n
  | 0 => rfl
  | n + 1 => by show cnt HS.new.S 0 n + 1 = _; rw [cnt_newS n]
/-- between the law's Tries -/
structure CsAt (w0 : World) (b : HB) (s : HS) (xs kb : Nat) (q : Int) (F : List UInt8 → Option Int) (L : List (List UInt8)) (W : World) : Prop where
  ok : b.ok
  hf : b.f = 2
  hn : 18 ≤ b.n
  own : ∀ k, b.S0 k → w0.heap.size ≤ k
  hG : s.G = []
  hK : s.K = 0
  st : HeapI b s W
  log : LogAt b.B b.g 0 (.slice none 0 0) [] W
  sx : StAt b xs kb q W
  tb : Tab (tblK Tryz.prog) kb F L W
  ld : Laid KK SS W
  nx : ¬ b.S0 xs
  nk : ¬ b.S0 kb
  xk : xs ≠ kb
  k0 : w0.heap.size ≤ kb
  w2 : 1 < w0.heap.size
  g : Grew (fun k => w0.heap.size ≤ k) w0 W
/-- what a Try turns -/
def CsGr (b : HB) (kb p : Nat) (W w' : World) : Prop := Grew (fun k => Mut b.B b.S0 W k ∨ k = kb ∨ k = p) W w'
section
variable {w0 : World} {b : HB} {s : HS} {xs kb p : Nat} {q : Int} {F : List UInt8 → Option Int} {L : List (List UInt8)} {W w5 w' : World}
theorem CsAt.hB (h : CsAt w0 b s xs kb q F L W) : w0.heap.size ≤ b.B := Nat.le_of_lt (Nat.lt_of_le_of_lt (h.own _ ⟨0, by decide, rfl⟩) (h.ok.lt 0 (by decide)))
theorem CsGr.box (g : CsGr b kb p W w') {x : Nat} {t : TypeId} {v : Value} (h : Box x t v W) (hS : ¬ b.S0 x) (ht : t ≠ 1) (tb : Tab (tblK Tryz.prog) kb F L W) (hp : x ≠ p) : Box x t v w' := by
  refine h.keep g ?_
  rintro ((e | ⟨_, c, fz, e⟩) | e | e)
  · exact hS e
  · unfold Box at h
    rw [e] at h
    simp at h
    exact ht h.2.1.symm
  · exact tb.notBox h e
  · exact hp e
theorem csGr_of (hg : Grew (fun k => Mut b.B b.S0 (tryWorld b.g 0 W) k ∨ k = kb ∨ k = p) (tryWorld b.g 0 W) w5) (g6 : Grew (fun k => TrySet b k ∨ k = W.heap.size) w5 w') : CsGr b kb p W w' := by
  have hgS : b.S0 b.g := ⟨1, by decide, rfl⟩
  have g1 : Grew (Mut b.B b.S0 W) W (tryWorld b.g 0 W) := (tryWorld_grew b.g 0 W).mono fun x _ e => Or.inl (e ▸ hgS)
  have g2 : Grew (fun k => Mut b.B b.S0 W k ∨ k = kb ∨ k = p) W w5 := (g1.mono fun _ _ e => Or.inl e).step hg fun y hy e => by
    rcases e with e | e
    · exact Or.inl (Mut.back g1 hy e)
    · exact Or.inr e
  exact g2.step g6 fun y hy e => by
    rcases e with e | e
    · exact Or.inl (Or.inl e.in0)
    · omega
/-- what a Try leaves where the heap is in a state s' -/
theorem CsAt.next (h : CsAt w0 b s xs kb q F L W) {U : Nat → UInt8} {s' : HS} {F' : List UInt8 → Option Int} (hp0 : w0.heap.size ≤ p) (hpx : xs ≠ p) (hG' : s'.G = []) (hK' : s'.K = 0) (hI : HeapI (b.at U) s' w') (hl : LogAt b.B b.g 0 (.slice none 0 0) [] w') (hT : Tab (tblK Tryz.prog) kb F' L w') (g : CsGr b kb p W w') : CsAt w0 (b.at U) s' xs kb q F' L w' := by
  have hlo : ∀ k, (Mut b.B b.S0 W k ∨ k = kb ∨ k = p) → w0.heap.size ≤ k := by
    rintro k ((e | ⟨e, _⟩) | e | e)
    · exact h.own k e
    · exact Nat.le_trans h.hB e
    · rw [e]; exact h.k0
    · rw [e]; exact hp0
  have hw2 := h.w2
  refine ⟨h.ok.at U, h.hf, h.hn, h.own, hG', hK', hI, hl, ?_, hT, h.ld.grew g (fun e => by have := hlo _ e; omega) (fun e => by have := hlo _ e; omega), h.nx, h.nk, h.xk, h.k0, h.w2, h.g.trans (g.mono fun k _ e => hlo k e)⟩
  refine (g.block xs (h.sx.pl (S0 := b.S0) h.nx).lt ?_).trans h.sx
  rintro ((e | ⟨_, c, fz, e⟩) | e | e)
  · exact h.nx e
  · have := h.sx
    unfold StAt at this
    rw [e] at this
    simp at this
  · exact h.xk e
  · exact hpx e
end
section
variable {w0 : World} {b : HB} {s : HS} {xs kb xt xd p : Nat} {q : Int} {F : List UInt8 → Option Int} {L : List (List UInt8)} {D : ByteArray} {W : World}
set_option maxRecDepth 100000 in
/-- noughts -/
theorem csZero1 (h : CsAt w0 b s xs kb q F L W) (bt : Box xt 28 (.pointer (some ⟨xs, 0, none⟩)) W) (bd : Box xd 9 (.string D) W) (bp : Box p 3 (.int .i64 0) W) (nt : ¬ b.S0 xt) (nd : ¬ b.S0 xd) (np : ¬ b.S0 p) (hp0 : w0.heap.size ≤ p) (hD : D.size = 256) (hz : allZero D.data.toList = true) :
    Calls Tryz.prog 12 #[.pointer (some ⟨b.hb, 0, none⟩), .func (.func 46) #[] #[.pointer (some ⟨xt, 0, none⟩), .pointer (some ⟨xd, 0, none⟩), .pointer (some ⟨p, 0, none⟩)]] W fun e w' => e = .returned (.int .i64 0) ∧ CsAt w0 b s xs kb q F L w' ∧ Box p 3 (.int .i64 0) w' ∧ CsGr b kb p W w' := by
  have ok := h.ok
  have gT := tryWorld_grew b.g 0 W
  have hgS : b.S0 b.g := ⟨1, by decide, rfl⟩
  have hTs : (tryWorld b.g 0 W).heap.size = W.heap.size + 1 := tryWorld_size _ _ _
  have hpl := bp.lt
  have hpx : xs ≠ p := fun e => by
    have q1 := h.sx
    unfold StAt at q1
    unfold Box at bp
    rw [e, bp] at q1
    simp at q1
  have hpk := h.tb.notBox bp
  refine (hTryU b ok s W h.st h.log 46 _ (fun s1 U w1 => s1 = s ∧ U = b.T ∧ Box p 3 (.int .i64 0) w1 ∧ Grew (fun k => k = p) (tryWorld b.g 0 W) w1) (fun _ => by rfl) fun hin => ?_).mono ?_
  · refine (clash1_ok xt xd p xs D _ (bt.keep gT fun e => nt (e ▸ hgS)) (bd.keep gT fun e => nd (e ▸ hgS)) (fun v w1 => v = 0 ∧ Grew (fun _ => False) (tryWorld b.g 0 W) w1) ((ePut_zero xs D hD hz _).mono ?_)).mono ?_
    · rintro e w1 ⟨rfl, hg⟩
      exact ⟨0, rfl, ⟨rfl, hg⟩, (bp.keep gT fun e => np (e ▸ hgS)).keep hg fun e => e⟩
    · rintro e w1 ⟨rfl, v, w2, ⟨rfl, hg⟩, hb, rfl⟩
      have g2 : Grew (fun k => k = p) (tryWorld b.g 0 W) (w2.setCell ⟨p, 0, none⟩ (.int .i64 0)) := (hg.mono fun _ _ e => e.elim).setCell _ _ fun _ => rfl
      refine ⟨s, 0, b.T, rfl, ((hin.deep.keep h.hG hg (fun _ _ e => e) (fun _ _ _ _ e => e)).box h.hG hb (by decide) np).first, GoneOk.nil h.hG, ?_, rfl, rfl, hb.set _, g2⟩
      rw [g2.block _ (by omega) (by omega)]
      exact tryWorld_box b.g 0 W
  · rintro e w' ⟨s1, U, w5, rfl, ⟨rfl, rfl, hb, hg⟩, hI6, hl6, g6⟩
    rw [HS.fin_nil b _ h.hG] at hI6
    have hgr : CsGr b kb p W w' := csGr_of (hg.mono fun _ _ e => Or.inr (Or.inr e)) g6
    have hb' : Box p 3 (.int .i64 0) w' := hb.keep g6 fun e => by
      rcases e with e | e
      · exact np e.in0
      · omega
    have hT' : Tab (tblK Tryz.prog) kb F L w' := ((h.tb.keep gT fun e => h.nk (e ▸ hgS)).keep hg fun e => hpk e.symm).keep g6 fun e => by
      rcases e with e | e
      · exact h.nk e.in0
      · have := h.tb.lt
        omega
    exact ⟨rfl, h.next (U := b.T) hp0 hpx h.hG h.hK hI6 hl6 hT' hgr, hb', hgr⟩
end
section
variable {w0 : World} {b : HB} {s : HS} {xs kb xt xd p : Nat} {q : Int} {F : List UInt8 → Option Int} {L : List (List UInt8)} {D : ByteArray} {W : World}
set_option maxRecDepth 100000 in
/-- noughts -/
theorem csZero2 (h : CsAt w0 b s xs kb q F L W) (bt : Box xt 28 (.pointer (some ⟨xs, 0, none⟩)) W) (bd : Box xd 9 (.string D) W) (bp : Box p 3 (.int .i64 0) W) (nt : ¬ b.S0 xt) (nd : ¬ b.S0 xd) (np : ¬ b.S0 p) (hp0 : w0.heap.size ≤ p) (hD : D.size = 256) (hz : allZero D.data.toList = true) :
    Calls Tryz.prog 12 #[.pointer (some ⟨b.hb, 0, none⟩), .func (.func 47) #[] #[.pointer (some ⟨xt, 0, none⟩), .pointer (some ⟨xd, 0, none⟩), .pointer (some ⟨p, 0, none⟩)]] W fun e w' => e = .returned (.int .i64 0) ∧ CsAt w0 b s xs kb q F L w' ∧ Box p 3 (.int .i64 0) w' ∧ CsGr b kb p W w' := by
  have ok := h.ok
  have gT := tryWorld_grew b.g 0 W
  have hgS : b.S0 b.g := ⟨1, by decide, rfl⟩
  have hTs : (tryWorld b.g 0 W).heap.size = W.heap.size + 1 := tryWorld_size _ _ _
  have hpl := bp.lt
  have hpx : xs ≠ p := fun e => by
    have q1 := h.sx
    unfold StAt at q1
    unfold Box at bp
    rw [e, bp] at q1
    simp at q1
  have hpk := h.tb.notBox bp
  refine (hTryU b ok s W h.st h.log 47 _ (fun s1 U w1 => s1 = s ∧ U = b.T ∧ Box p 3 (.int .i64 0) w1 ∧ Grew (fun k => k = p) (tryWorld b.g 0 W) w1) (fun _ => by rfl) fun hin => ?_).mono ?_
  · refine (clash2_ok xt xd p xs D _ (bt.keep gT fun e => nt (e ▸ hgS)) (bd.keep gT fun e => nd (e ▸ hgS)) (fun v w1 => v = 0 ∧ Grew (fun _ => False) (tryWorld b.g 0 W) w1) ((ePut_zero xs D hD hz _).mono ?_)).mono ?_
    · rintro e w1 ⟨rfl, hg⟩
      exact ⟨0, rfl, ⟨rfl, hg⟩, (bp.keep gT fun e => np (e ▸ hgS)).keep hg fun e => e⟩
    · rintro e w1 ⟨rfl, v, w2, ⟨rfl, hg⟩, hb, rfl⟩
      have g2 : Grew (fun k => k = p) (tryWorld b.g 0 W) (w2.setCell ⟨p, 0, none⟩ (.int .i64 0)) := (hg.mono fun _ _ e => e.elim).setCell _ _ fun _ => rfl
      refine ⟨s, 0, b.T, rfl, ((hin.deep.keep h.hG hg (fun _ _ e => e) (fun _ _ _ _ e => e)).box h.hG hb (by decide) np).first, GoneOk.nil h.hG, ?_, rfl, rfl, hb.set _, g2⟩
      rw [g2.block _ (by omega) (by omega)]
      exact tryWorld_box b.g 0 W
  · rintro e w' ⟨s1, U, w5, rfl, ⟨rfl, rfl, hb, hg⟩, hI6, hl6, g6⟩
    rw [HS.fin_nil b _ h.hG] at hI6
    have hgr : CsGr b kb p W w' := csGr_of (hg.mono fun _ _ e => Or.inr (Or.inr e)) g6
    have hb' : Box p 3 (.int .i64 0) w' := hb.keep g6 fun e => by
      rcases e with e | e
      · exact np e.in0
      · omega
    have hT' : Tab (tblK Tryz.prog) kb F L w' := ((h.tb.keep gT fun e => h.nk (e ▸ hgS)).keep hg fun e => hpk e.symm).keep g6 fun e => by
      rcases e with e | e
      · exact h.nk e.in0
      · have := h.tb.lt
        omega
    exact ⟨rfl, h.next (U := b.T) hp0 hpx h.hG h.hK hI6 hl6 hT' hgr, hb', hgr⟩
end
/-- what a new extent leaves of the heap's state and its disk -/
structure CsPut (b : HB) (s : HS) (D : ByteArray) (U : Nat → UInt8) (s' : HS) (j : Nat) : Prop where
  room : cnt s.S 0 b.n ≤ cnt s'.S 0 b.n + 5
  hK : s'.K = 0
  hG : s'.G = []
  lies : Lies b s' U D (Sha.dg (shaOf D.data.toList)) (b.f + j)
  lt : j < b.n
  hS : s'.S j = 1
  hR : s'.R ((b.f + j : Nat) : Int) = some 1
  old : ∀ i, s.S i = 1 → i ≠ j ∧ s'.S i = 1 ∧ s'.R ((b.f + i : Nat) : Int) = s.R ((b.f + i : Nat) : Int)
  keep : ∀ E g u, Lies b s b.T E g u → Lies b s' U E g u
/-- behind the Try of a new extent -/
structure CsNew (w0 : World) (b : HB) (s : HS) (xs kb : Nat) (q : Int) (F : List UInt8 → Option Int) (L : List (List UInt8)) (D : ByteArray) (p : Nat) (W : World) (U : Nat → UInt8) (s' : HS) (j : Nat) (w' : World) : Prop where
  at' : CsAt w0 (b.at U) s' xs kb q (upF F (keyB D q) (some ((b.f + j : Nat) : Int))) L w'
  put : CsPut b s D U s' j
  bp : Box p 3 (.int .i64 ((b.f + j : Nat) : Int)) w'
  g : CsGr b kb p W w'
section
variable {w0 : World} {b : HB} {s : HS} {xs kb xt xd p : Nat} {q : Int} {F : List UInt8 → Option Int} {L : List (List UInt8)} {D : ByteArray} {W : World}
set_option maxRecDepth 100000 in
/-- an extent that the table hasn't -/
theorem csNew1 (h : CsAt w0 b s xs kb q F L W) (bt : Box xt 28 (.pointer (some ⟨xs, 0, none⟩)) W) (bd : Box xd 9 (.string D) W) (bp : Box p 3 (.int .i64 0) W) (nt : ¬ b.S0 xt) (nd : ¬ b.S0 xd) (np : ¬ b.S0 p) (hp0 : w0.heap.size ≤ p) (hD : D.size = 256) (hz : allZero D.data.toList = false) (hq : (Lit.int .i64 q).wf = true) (hFn : F (keyB D q) = none) (hkL : keyB D q ∈ L) (hLl : L.length < 1000000) (hc : 5 ≤ cnt s.S 0 b.n) (far : ¬ b.S0 W.heap.size) :
    Calls Tryz.prog 12 #[.pointer (some ⟨b.hb, 0, none⟩), .func (.func 46) #[] #[.pointer (some ⟨xt, 0, none⟩), .pointer (some ⟨xd, 0, none⟩), .pointer (some ⟨p, 0, none⟩)]] W fun e w' => e = .returned (.int .i64 0) ∧ ∃ U s' j, CsNew w0 b s xs kb q F L D p W U s' j w' := by
  have ok := h.ok
  have gT := tryWorld_grew b.g 0 W
  have hgS : b.S0 b.g := ⟨1, by decide, rfl⟩
  have hTs : (tryWorld b.g 0 W).heap.size = W.heap.size + 1 := tryWorld_size _ _ _
  have hpl := bp.lt
  have hbf := h.hf
  have hbn := h.hn
  have hpx : xs ≠ p := fun e => by
    have q1 := h.sx
    unfold StAt at q1
    unfold Box at bp
    rw [e, bp] at q1
    simp at q1
  have hpk := h.tb.notBox bp
  have hld : Laid KK SS (tryWorld b.g 0 W) := h.ld.grew gT (fun e => by have := h.own _ hgS; have := h.w2; omega) (fun e => by have := h.own _ hgS; have := h.w2; omega)
  have hpT : Box p 3 (.int .i64 0) (tryWorld b.g 0 W) := bp.keep gT fun e => np (e ▸ hgS)
  refine (hTryU b ok s W h.st h.log 46 _ (fun s1 U w1 => ∃ j, CsPut b s D U s1 j ∧ Tab (tblK Tryz.prog) kb (upF F (keyB D q) (some ((b.f + j : Nat) : Int))) L w1 ∧ Box p 3 (.int .i64 ((b.f + j : Nat) : Int)) w1 ∧ Grew (fun k => Mut b.B b.S0 (tryWorld b.g 0 W) k ∨ k = kb ∨ k = p) (tryWorld b.g 0 W) w1) (fun _ => by rfl) fun hin => ?_).mono ?_
  · have hp : PtAt b s 0 [] 0 xs kb q F L (tryWorld b.g 0 W) := ⟨hin.deep, (gT.block xs (h.sx.pl (S0 := b.S0) h.nx).lt (fun e => h.nx (e ▸ hgS))).trans h.sx, h.tb.keep gT fun e => h.nk (e ▸ hgS)⟩
    have hput := ePut_any b ok (by omega) s h.hG (by rw [h.hK]; decide) (by rw [h.hK]; omega) 0 0 (by decide) (by decide) [] xs kb q hq h.nx h.nk h.xk F L D hD hz _ _ _ rfl rfl hFn hkL hLl hp hld
    refine (clash1_ok xt xd p xs D _ (bt.keep gT fun e => nt (e ▸ hgS)) (bd.keep gT fun e => nd (e ▸ hgS)) (fun v w1 => ∃ u : Nat, v = (u : Int) ∧ PtEnd b s 0 [] 0 xs kb q F L D (Sha.dg (shaOf D.data.toList)) (keyB D q) u (tryWorld b.g 0 W) w1) (hput.mono ?_)).mono ?_
    · rintro e w1 ⟨v, rfl, hq1⟩
      refine ⟨_, rfl, ⟨v, rfl, hq1⟩, hpT.keep hq1.g ?_⟩
      rintro ((e | ⟨_, c, fz, e⟩) | e)
      · exact np e
      · unfold Box at hpT
        rw [e] at hpT
        simp at hpT
      · exact hpk e
    · rintro e w1 ⟨rfl, v, w2, ⟨u, rfl, hq1⟩, hb, rfl⟩
      obtain ⟨a, J, s1, U, j, h1, rfl, h3, h4, h5, h6⟩ := hq1.wr
      obtain ⟨i1, i2, i3, i4, i5, i6⟩ := h1.same
      have hG2 : (s1.put j ((b.f + j : Nat) : Int)).G = [] := i2.trans h.hG
      have g2 : Grew (fun k => Mut b.B b.S0 (tryWorld b.g 0 W) k ∨ k = kb ∨ k = p) (tryWorld b.g 0 W) (w2.setCell ⟨p, 0, none⟩ (.int .i64 ((b.f + j : Nat) : Int))) := (hq1.g.mono fun _ _ e => e.elim Or.inl fun e => Or.inr (Or.inl e)).setCell _ _ fun _ => Or.inr (Or.inr rfl)
      refine ⟨_, _, _, rfl, (h6.box hG2 hb (by decide) np).first, GoneOk.nil hG2, ?_, j, ⟨?_, i1.trans h.hK, hG2, h1.whole ok hD j h3 h4 _, h3, ?_, ?_, fun i hi => ?_, fun E g u hl => ?_⟩, hq1.tb.keep ((Grew.refl (S := fun k => k = p) w2).setCell _ _ fun _ => rfl) (fun e => hpk e.symm), hb.set _, g2⟩
      · rw [g2.block _ (by omega) ?_]
        · exact tryWorld_box b.g 0 W
        · rintro ((m | m) | m | m)
          · exact far m
          · exact notFunc_err (tryWorld_box b.g 0 W) m
          · have := h.tb.lt
            omega
          · omega
      · have hc := (cnt_put s1.S j b.n h3 h4).1
        show cnt s.S 0 b.n ≤ cnt (upd s1.S j 1) 0 b.n + 5
        omega
      · show upd s1.S j 1 j = 1
        unfold upd
        rw [if_pos rfl]
      · show upF s1.R ((b.f + j : Nat) : Int) (some 1) ((b.f + j : Nat) : Int) = some 1
        unfold upF
        rw [if_pos rfl]
      · obtain ⟨k1, k2, k3⟩ := h1.keepS i hi
        have hne : i ≠ j := fun e => by rw [← e, k1] at h4; cases h4
        refine ⟨hne, ?_, ?_⟩
        · show upd s1.S j 1 i = 1
          unfold upd
          rw [if_neg hne]
          exact k1
        · show upF s1.R ((b.f + j : Nat) : Int) (some 1) ((b.f + i : Nat) : Int) = _
          unfold upF
          rw [if_neg (by omega)]
          exact k3
      · obtain ⟨a', i, rfl, e1, e2, e3, e4, e5⟩ := hl
        obtain ⟨k1, k2, k3⟩ := h1.keepS i e2
        have hne : i ≠ j := fun e => by rw [← e, k1] at h4; cases h4
        refine ⟨a', i, rfl, e1, ?_, ?_, fun k hk => ((e4 k hk).wr h1).more j h4 _ _, e5⟩
        · show upd s1.S j 1 i = 1
          unfold upd
          rw [if_neg hne]
          exact k1
        · rw [wroteT_other _ _ _ _ (by omega), k2]
          exact e3
  · rintro e w' ⟨s1, U, w5, rfl, ⟨j, hj, hT, hb, hg⟩, hI6, hl6, g6⟩
    rw [HS.fin_nil b _ hj.hG] at hI6
    have hgr : CsGr b kb p W w' := csGr_of hg g6
    have hb' : Box p 3 (.int .i64 ((b.f + j : Nat) : Int)) w' := hb.keep g6 fun e => by
      rcases e with e | e
      · exact np e.in0
      · omega
    have hT' := hT.keep g6 fun e => by
      rcases e with e | e
      · exact h.nk e.in0
      · have := h.tb.lt
        omega
    exact ⟨rfl, U, s1, j, h.next hp0 hpx hj.hG hj.hK hI6 hl6 hT' hgr, hj, hb', hgr⟩
end
section
variable {w0 : World} {b : HB} {s : HS} {xs kb xt xd p : Nat} {q : Int} {F : List UInt8 → Option Int} {L : List (List UInt8)} {D : ByteArray} {W : World}
set_option maxRecDepth 100000 in
/-- an extent that the table hasn't -/
theorem csNew2 (h : CsAt w0 b s xs kb q F L W) (bt : Box xt 28 (.pointer (some ⟨xs, 0, none⟩)) W) (bd : Box xd 9 (.string D) W) (bp : Box p 3 (.int .i64 0) W) (nt : ¬ b.S0 xt) (nd : ¬ b.S0 xd) (np : ¬ b.S0 p) (hp0 : w0.heap.size ≤ p) (hD : D.size = 256) (hz : allZero D.data.toList = false) (hq : (Lit.int .i64 q).wf = true) (hFn : F (keyB D q) = none) (hkL : keyB D q ∈ L) (hLl : L.length < 1000000) (hc : 5 ≤ cnt s.S 0 b.n) (far : ¬ b.S0 W.heap.size) :
    Calls Tryz.prog 12 #[.pointer (some ⟨b.hb, 0, none⟩), .func (.func 47) #[] #[.pointer (some ⟨xt, 0, none⟩), .pointer (some ⟨xd, 0, none⟩), .pointer (some ⟨p, 0, none⟩)]] W fun e w' => e = .returned (.int .i64 0) ∧ ∃ U s' j, CsNew w0 b s xs kb q F L D p W U s' j w' := by
  have ok := h.ok
  have gT := tryWorld_grew b.g 0 W
  have hgS : b.S0 b.g := ⟨1, by decide, rfl⟩
  have hTs : (tryWorld b.g 0 W).heap.size = W.heap.size + 1 := tryWorld_size _ _ _
  have hpl := bp.lt
  have hbf := h.hf
  have hbn := h.hn
  have hpx : xs ≠ p := fun e => by
    have q1 := h.sx
    unfold StAt at q1
    unfold Box at bp
    rw [e, bp] at q1
    simp at q1
  have hpk := h.tb.notBox bp
  have hld : Laid KK SS (tryWorld b.g 0 W) := h.ld.grew gT (fun e => by have := h.own _ hgS; have := h.w2; omega) (fun e => by have := h.own _ hgS; have := h.w2; omega)
  have hpT : Box p 3 (.int .i64 0) (tryWorld b.g 0 W) := bp.keep gT fun e => np (e ▸ hgS)
  refine (hTryU b ok s W h.st h.log 47 _ (fun s1 U w1 => ∃ j, CsPut b s D U s1 j ∧ Tab (tblK Tryz.prog) kb (upF F (keyB D q) (some ((b.f + j : Nat) : Int))) L w1 ∧ Box p 3 (.int .i64 ((b.f + j : Nat) : Int)) w1 ∧ Grew (fun k => Mut b.B b.S0 (tryWorld b.g 0 W) k ∨ k = kb ∨ k = p) (tryWorld b.g 0 W) w1) (fun _ => by rfl) fun hin => ?_).mono ?_
  · have hp : PtAt b s 0 [] 0 xs kb q F L (tryWorld b.g 0 W) := ⟨hin.deep, (gT.block xs (h.sx.pl (S0 := b.S0) h.nx).lt (fun e => h.nx (e ▸ hgS))).trans h.sx, h.tb.keep gT fun e => h.nk (e ▸ hgS)⟩
    have hput := ePut_any b ok (by omega) s h.hG (by rw [h.hK]; decide) (by rw [h.hK]; omega) 0 0 (by decide) (by decide) [] xs kb q hq h.nx h.nk h.xk F L D hD hz _ _ _ rfl rfl hFn hkL hLl hp hld
    refine (clash2_ok xt xd p xs D _ (bt.keep gT fun e => nt (e ▸ hgS)) (bd.keep gT fun e => nd (e ▸ hgS)) (fun v w1 => ∃ u : Nat, v = (u : Int) ∧ PtEnd b s 0 [] 0 xs kb q F L D (Sha.dg (shaOf D.data.toList)) (keyB D q) u (tryWorld b.g 0 W) w1) (hput.mono ?_)).mono ?_
    · rintro e w1 ⟨v, rfl, hq1⟩
      refine ⟨_, rfl, ⟨v, rfl, hq1⟩, hpT.keep hq1.g ?_⟩
      rintro ((e | ⟨_, c, fz, e⟩) | e)
      · exact np e
      · unfold Box at hpT
        rw [e] at hpT
        simp at hpT
      · exact hpk e
    · rintro e w1 ⟨rfl, v, w2, ⟨u, rfl, hq1⟩, hb, rfl⟩
      obtain ⟨a, J, s1, U, j, h1, rfl, h3, h4, h5, h6⟩ := hq1.wr
      obtain ⟨i1, i2, i3, i4, i5, i6⟩ := h1.same
      have hG2 : (s1.put j ((b.f + j : Nat) : Int)).G = [] := i2.trans h.hG
      have g2 : Grew (fun k => Mut b.B b.S0 (tryWorld b.g 0 W) k ∨ k = kb ∨ k = p) (tryWorld b.g 0 W) (w2.setCell ⟨p, 0, none⟩ (.int .i64 ((b.f + j : Nat) : Int))) := (hq1.g.mono fun _ _ e => e.elim Or.inl fun e => Or.inr (Or.inl e)).setCell _ _ fun _ => Or.inr (Or.inr rfl)
      refine ⟨_, _, _, rfl, (h6.box hG2 hb (by decide) np).first, GoneOk.nil hG2, ?_, j, ⟨?_, i1.trans h.hK, hG2, h1.whole ok hD j h3 h4 _, h3, ?_, ?_, fun i hi => ?_, fun E g u hl => ?_⟩, hq1.tb.keep ((Grew.refl (S := fun k => k = p) w2).setCell _ _ fun _ => rfl) (fun e => hpk e.symm), hb.set _, g2⟩
      · rw [g2.block _ (by omega) ?_]
        · exact tryWorld_box b.g 0 W
        · rintro ((m | m) | m | m)
          · exact far m
          · exact notFunc_err (tryWorld_box b.g 0 W) m
          · have := h.tb.lt
            omega
          · omega
      · have hc := (cnt_put s1.S j b.n h3 h4).1
        show cnt s.S 0 b.n ≤ cnt (upd s1.S j 1) 0 b.n + 5
        omega
      · show upd s1.S j 1 j = 1
        unfold upd
        rw [if_pos rfl]
      · show upF s1.R ((b.f + j : Nat) : Int) (some 1) ((b.f + j : Nat) : Int) = some 1
        unfold upF
        rw [if_pos rfl]
      · obtain ⟨k1, k2, k3⟩ := h1.keepS i hi
        have hne : i ≠ j := fun e => by rw [← e, k1] at h4; cases h4
        refine ⟨hne, ?_, ?_⟩
        · show upd s1.S j 1 i = 1
          unfold upd
          rw [if_neg hne]
          exact k1
        · show upF s1.R ((b.f + j : Nat) : Int) (some 1) ((b.f + i : Nat) : Int) = _
          unfold upF
          rw [if_neg (by omega)]
          exact k3
      · obtain ⟨a', i, rfl, e1, e2, e3, e4, e5⟩ := hl
        obtain ⟨k1, k2, k3⟩ := h1.keepS i e2
        have hne : i ≠ j := fun e => by rw [← e, k1] at h4; cases h4
        refine ⟨a', i, rfl, e1, ?_, ?_, fun k hk => ((e4 k hk).wr h1).more j h4 _ _, e5⟩
        · show upd s1.S j 1 i = 1
          unfold upd
          rw [if_neg hne]
          exact k1
        · rw [wroteT_other _ _ _ _ (by omega), k2]
          exact e3
  · rintro e w' ⟨s1, U, w5, rfl, ⟨j, hj, hT, hb, hg⟩, hI6, hl6, g6⟩
    rw [HS.fin_nil b _ hj.hG] at hI6
    have hgr : CsGr b kb p W w' := csGr_of hg g6
    have hb' : Box p 3 (.int .i64 ((b.f + j : Nat) : Int)) w' := hb.keep g6 fun e => by
      rcases e with e | e
      · exact np e.in0
      · omega
    have hT' := hT.keep g6 fun e => by
      rcases e with e | e
      · exact h.nk e.in0
      · have := h.tb.lt
        omega
    exact ⟨rfl, U, s1, j, h.next hp0 hpx hj.hG hj.hK hI6 hl6 hT' hgr, hj, hb', hgr⟩
end
end Go.Proofs.YtbohpffigmllkaaGreatDoor

/-
  ExtentClash: its Try of a Put where the table has the sum, and of a Get: contracts.
-/
namespace Go.Proofs.YtbohpffigmllkaaGreatDoor
open Go.RowKit Go.Maps Go.ChangeMaps Go.WideShapes

theorem Lies.congr {b : HB} {s s' : HS} {T : Nat → UInt8} {D : ByteArray} {f : Nat → Nat} {v : Nat} (h : Lies b s T D f v) (e : s'.S = s.S) : Lies b s' T D f v := by
  obtain ⟨a, j, h1, h2, h3, h4, h5, h6⟩ := h
  refine ⟨a, j, h1, h2, by rw [e]; exact h3, h4, fun k hk => ⟨(h5 k hk).1, fun hz => ?_⟩, h6⟩
  obtain ⟨i, g1, g2, g3, g4⟩ := (h5 k hk).2 hz
  exact ⟨i, g1, g2, by rw [e]; exact g3, g4⟩
section
variable {w0 : World} {b : HB} {s : HS} {xs kb xt xd p : Nat} {q : Int} {F : List UInt8 → Option Int} {L : List (List UInt8)} {D : ByteArray} {W : World}
/-- behind the Try of an extent that lay there -/
structure CsHit (w0 : World) (b : HB) (s : HS) (xs kb : Nat) (q : Int) (F : List UInt8 → Option Int) (L : List (List UInt8)) (p j : Nat) (W : World) (s' : HS) (w' : World) : Prop where
  at' : CsAt w0 b s' xs kb q F L w'
  hS : s'.S = s.S
  bp : Box p 3 (.int .i64 ((b.f + j : Nat) : Int)) w'
  g : CsGr b kb p W w'
set_option maxRecDepth 100000 in
theorem csHit2 (h : CsAt w0 b s xs kb q F L W) (bt : Box xt 28 (.pointer (some ⟨xs, 0, none⟩)) W) (bd : Box xd 9 (.string D) W) (bp : Box p 3 (.int .i64 0) W) (nt : ¬ b.S0 xt) (nd : ¬ b.S0 xd) (np : ¬ b.S0 p) (hp0 : w0.heap.size ≤ p) (hD : D.size = 256) (hz : allZero D.data.toList = false) (hq : (Lit.int .i64 q).wf = true) (j : Nat) (hFn : F (keyB D q) = some ((b.f + j : Nat) : Int)) (g0 : Nat → Nat) (hg0 : ∀ j, g0 j < 256) (hl : Lies b s b.T D g0 (b.f + j)) (hj : j < b.n) (hs : s.S j = 1) (hr : s.R ((b.f + j : Nat) : Int) = some 1) (far : ¬ b.S0 W.heap.size) :
    Calls Tryz.prog 12 #[.pointer (some ⟨b.hb, 0, none⟩), .func (.func 47) #[] #[.pointer (some ⟨xt, 0, none⟩), .pointer (some ⟨xd, 0, none⟩), .pointer (some ⟨p, 0, none⟩)]] W fun e w' => e = .returned (.int .i64 0) ∧ ∃ s', CsHit w0 b s xs kb q F L p j W s' w' := by
  have ok := h.ok
  have gT := tryWorld_grew b.g 0 W
  have hgS : b.S0 b.g := ⟨1, by decide, rfl⟩
  have hTs : (tryWorld b.g 0 W).heap.size = W.heap.size + 1 := tryWorld_size _ _ _
  have hpl := bp.lt
  have hbf := h.hf
  have hpx : xs ≠ p := fun e => by
    have q1 := h.sx
    unfold StAt at q1
    unfold Box at bp
    rw [e, bp] at q1
    simp at q1
  have hpk := h.tb.notBox bp
  have hld : Laid KK SS (tryWorld b.g 0 W) := h.ld.grew gT (fun e => by have := h.own _ hgS; have := h.w2; omega) (fun e => by have := h.own _ hgS; have := h.w2; omega)
  have hpT : Box p 3 (.int .i64 0) (tryWorld b.g 0 W) := bp.keep gT fun e => np (e ▸ hgS)
  refine (hTryU b ok s W h.st h.log 47 _ (fun s1 U w1 => U = b.T ∧ s1.S = s.S ∧ s1.G = [] ∧ s1.K = 0 ∧ Tab (tblK Tryz.prog) kb F L w1 ∧ Box p 3 (.int .i64 ((b.f + j : Nat) : Int)) w1 ∧ Grew (fun k => Mut b.B b.S0 (tryWorld b.g 0 W) k ∨ k = kb ∨ k = p) (tryWorld b.g 0 W) w1) (fun _ => by rfl) fun hin => ?_).mono ?_
  · have hp : PtAt b s 0 [] 0 xs kb q F L (tryWorld b.g 0 W) := ⟨hin.deep, (gT.block xs (h.sx.pl (S0 := b.S0) h.nx).lt (fun e => h.nx (e ▸ hgS))).trans h.sx, h.tb.keep gT fun e => h.nk (e ▸ hgS)⟩
    have hput := ePut_hit b ok (by omega) s h.hG 0 0 (by decide) [] xs kb q hq h.nx h.nk F L D hD hz _ _ _ rfl rfl j 1 hFn D hD g0 hg0 hl hj hs hr (by decide) hp hld
    refine (clash2_ok xt xd p xs D _ (bt.keep gT fun e => nt (e ▸ hgS)) (bd.keep gT fun e => nd (e ▸ hgS)) (fun v w1 => v = ((b.f + j : Nat) : Int) ∧ HitOk b s 0 [] 0 xs kb q F L (b.f + j) 1 (tryWorld b.g 0 W) w1) (hput.mono ?_)).mono ?_
    · rintro e w1 ⟨hq1, _⟩
      obtain ⟨rfl, hq2⟩ := hq1 rfl
      refine ⟨_, rfl, ⟨rfl, hq2⟩, hpT.keep hq2.g ?_⟩
      rintro (e | ⟨_, c, fz, e⟩)
      · exact np e
      · unfold Box at hpT
        rw [e] at hpT
        simp at hpT
    · rintro e w1 ⟨rfl, v, w2, ⟨rfl, hq1⟩, hb, rfl⟩
      have g2 : Grew (fun k => Mut b.B b.S0 (tryWorld b.g 0 W) k ∨ k = kb ∨ k = p) (tryWorld b.g 0 W) (w2.setCell ⟨p, 0, none⟩ (.int .i64 ((b.f + j : Nat) : Int))) := (hq1.g.mono fun _ _ e => Or.inl e).setCell _ _ fun _ => Or.inr (Or.inr rfl)
      refine ⟨_, _, b.T, rfl, (hq1.pt.inl.box h.hG hb (by decide) np).first, GoneOk.nil h.hG, ?_, rfl, rfl, h.hG, h.hK, hq1.pt.tb.keep ((Grew.refl (S := fun k => k = p) w2).setCell _ _ fun _ => rfl) (fun e => hpk e.symm), hb.set _, g2⟩
      rw [g2.block _ (by omega) ?_]
      · exact tryWorld_box b.g 0 W
      · rintro ((m | m) | m | m)
        · exact far m
        · exact notFunc_err (tryWorld_box b.g 0 W) m
        · have := h.tb.lt
          omega
        · omega
  · rintro e w' ⟨s1, U, w5, rfl, ⟨rfl, hS, hG1, hK1, hT, hb, hg⟩, hI6, hl6, g6⟩
    rw [HS.fin_nil b _ hG1] at hI6
    have hgr : CsGr b kb p W w' := csGr_of hg g6
    have hb' : Box p 3 (.int .i64 ((b.f + j : Nat) : Int)) w' := hb.keep g6 fun e => by
      rcases e with e | e
      · exact np e.in0
      · omega
    have hT' := hT.keep g6 fun e => by
      rcases e with e | e
      · exact h.nk e.in0
      · have := h.tb.lt
        omega
    exact ⟨rfl, s1, h.next (U := b.T) hp0 hpx hG1 hK1 hI6 hl6 hT' hgr, hS, hb', hgr⟩
set_option maxRecDepth 100000 in
theorem csClash2 (h : CsAt w0 b s xs kb q F L W) (bt : Box xt 28 (.pointer (some ⟨xs, 0, none⟩)) W) (bd : Box xd 9 (.string D) W) (bp : Box p 3 (.int .i64 0) W) (nt : ¬ b.S0 xt) (nd : ¬ b.S0 xd) (np : ¬ b.S0 p) (hp0 : w0.heap.size ≤ p) (hD : D.size = 256) (hz : allZero D.data.toList = false) (hq : (Lit.int .i64 q).wf = true) (j : Nat) (hFn : F (keyB D q) = some ((b.f + j : Nat) : Int)) (D0 : ByteArray) (hD0 : D0.size = 256) (hne : ¬ D0 = D) (g0 : Nat → Nat) (hg0 : ∀ j, g0 j < 256) (hl : Lies b s b.T D0 g0 (b.f + j)) (hj : j < b.n) (hs : s.S j = 1) (hr : s.R ((b.f + j : Nat) : Int) = some 1) :
    Calls Tryz.prog 12 #[.pointer (some ⟨b.hb, 0, none⟩), .func (.func 47) #[] #[.pointer (some ⟨xt, 0, none⟩), .pointer (some ⟨xd, 0, none⟩), .pointer (some ⟨p, 0, none⟩)]] W fun e w' => e = .returned (.int .i64 9) ∧ CsAt w0 b s xs kb q F L w' ∧ Box p 3 (.int .i64 0) w' ∧ CsGr b kb p W w' := by
  have ok := h.ok
  have gT := tryWorld_grew b.g 0 W
  have hgS : b.S0 b.g := ⟨1, by decide, rfl⟩
  have hbf := h.hf
  have hpx : xs ≠ p := fun e => by
    have q1 := h.sx
    unfold StAt at q1
    unfold Box at bp
    rw [e, bp] at q1
    simp at q1
  have hld : Laid KK SS (tryWorld b.g 0 W) := h.ld.grew gT (fun e => by have := h.own _ hgS; have := h.w2; omega) (fun e => by have := h.own _ hgS; have := h.w2; omega)
  refine (hTry_any b ok s h.hG (.slice none 0 0) W h.st h.log 47 _ (fun o _ _ => o = some 9) (fun _ => by rfl) fun hl1 hi => ?_).mono ?_
  · have hp : PtAt b s 0 [] 0 xs kb q F L (tryWorld b.g 0 W) := ⟨⟨⟨_, [], Nat.le_refl _, hl1⟩, hi⟩, (gT.block xs (h.sx.pl (S0 := b.S0) h.nx).lt (fun e => h.nx (e ▸ hgS))).trans h.sx, h.tb.keep gT fun e => h.nk (e ▸ hgS)⟩
    have hput := ePut_hit b ok (by omega) s h.hG 0 0 (by decide) [] xs kb q hq h.nx h.nk F L D hD hz _ _ _ rfl rfl j 1 hFn D0 hD0 g0 hg0 hl hj hs hr (by decide) hp hld
    refine (clash2_fail xt xd p xs D 9 _ (bt.keep gT fun e => nt (e ▸ hgS)) (bd.keep gT fun e => nd (e ▸ hgS)) (fun w1 => Grew (fun _ => False) (tryWorld b.g 0 W) w1) (hput.mono fun e w1 hq1 => hq1.2 hne)).mono ?_
    rintro e w1 ⟨rfl, hg⟩
    exact ⟨some 9, [], _, _, rfl, hl1.keep hg (fun e => e) (fun _ _ e => e), (fun k e => by cases e; decide), hi.keep hg (fun _ _ e => e) (fun _ _ _ e => e), Path.nil _ _, by decide, hg.mono fun _ _ e => e.elim, (fun e => by cases e), rfl⟩
  · rintro e w' ⟨o, s1, w1, rfl, rfl, ht⟩
    have hgr : CsGr b kb p W w' := ht.grew.mono fun _ _ e => Or.inl e
    have hb' : Box p 3 (.int .i64 0) w' := bp.keep ht.grew fun e => by
      rcases e with e | ⟨_, c, fz, e⟩
      · exact np e
      · unfold Box at bp
        rw [e] at bp
        simp at bp
    have hT' := h.tb.keep ht.grew fun e => by
      rcases e with e | ⟨_, c, fz, e⟩
      · exact h.nk e
      · exact h.tb.notFunc e
    exact ⟨rfl, h.next (U := b.T) hp0 hpx h.hG h.hK ht.st ht.log hT' hgr, hb', hgr⟩
set_option maxRecDepth 100000 in
theorem csGet (y : Nat) (v : Int) (h : CsAt w0 b s xs kb q F L W) (bt : Box xt 28 (.pointer (some ⟨xs, 0, none⟩)) W) (bp : Box p 3 (.int .i64 v) W) (by' : Box y 9 (.string ⟨#[]⟩) W) (nt : ¬ b.S0 xt) (np : ¬ b.S0 p) (ny : ¬ b.S0 y)
    (hget : ∀ wx, HeapI b s wx → StAt b xs kb q wx → Calls Tryz.prog 30 #[.pointer (some ⟨xs, 0, none⟩), .int .i64 v] wx fun e w' => e = .returned (.string D) ∧ Below wx.heap.size wx w') :
    Calls Tryz.prog 12 #[.pointer (some ⟨b.hb, 0, none⟩), .func (.func 49) #[] #[.pointer (some ⟨xt, 0, none⟩), .pointer (some ⟨p, 0, none⟩), .pointer (some ⟨y, 0, none⟩)]] W fun e w' => e = .returned (.int .i64 0) ∧ Box y 9 (.string D) w' ∧ CsGr b kb y W w' := by
  have ok := h.ok
  have gT := tryWorld_grew b.g 0 W
  have hgS : b.S0 b.g := ⟨1, by decide, rfl⟩
  have hTs : (tryWorld b.g 0 W).heap.size = W.heap.size + 1 := tryWorld_size _ _ _
  have hyl := by'.lt
  refine (hTryU b ok s W h.st h.log 49 _ (fun s1 U w1 => Box y 9 (.string D) w1 ∧ Grew (fun k => k = y) (tryWorld b.g 0 W) w1) (fun _ => by rfl) fun hin => ?_).mono ?_
  · have hst : StAt b xs kb q (tryWorld b.g 0 W) := (gT.block xs (h.sx.pl (S0 := b.S0) h.nx).lt (fun e => h.nx (e ▸ hgS))).trans h.sx
    refine (clash3_ok xt p y xs v D _ (bt.keep gT fun e => nt (e ▸ hgS)) (bp.keep gT fun e => np (e ▸ hgS)) (fun w1 => Grew (fun _ => False) (tryWorld b.g 0 W) w1) ((hget _ hin.deep.st hst).mono ?_)).mono ?_
    · rintro e w1 ⟨rfl, hb⟩
      exact ⟨rfl, Grew.of_below hb, (by'.keep gT fun e => ny (e ▸ hgS)).keep (Grew.of_below (S := fun _ => False) hb) fun e => e⟩
    · rintro e w1 ⟨rfl, w2, hg, hb, rfl⟩
      have g2 : Grew (fun k => k = y) (tryWorld b.g 0 W) (w2.setCell ⟨y, 0, none⟩ (.string D)) := (hg.mono fun _ _ e => e.elim).setCell _ _ fun _ => rfl
      refine ⟨s, 0, b.T, rfl, ((hin.deep.keep h.hG hg (fun _ _ e => e) (fun _ _ _ _ e => e)).box h.hG hb (by decide) ny).first, GoneOk.nil h.hG, ?_, hb.set _, g2⟩
      rw [g2.block _ (by omega) (by omega)]
      exact tryWorld_box b.g 0 W
  · rintro e w' ⟨s1, U, w5, rfl, ⟨hb, hg⟩, _, _, g6⟩
    refine ⟨rfl, hb.keep g6 fun e => ?_, csGr_of (hg.mono fun _ _ e => Or.inr (Or.inr e)) g6⟩
    rcases e with e | e
    · exact ny e.in0
    · omega
end
end Go.Proofs.YtbohpffigmllkaaGreatDoor

/-
  ExtentClash: its two Puts, one behind the other: contracts.
-/
namespace Go.Proofs.YtbohpffigmllkaaGreatDoor
open Go.RowKit Go.Maps Go.ChangeMaps Go.WideShapes

/-- where the first extent lies -/
structure CsOne (b : HB) (s : HS) (q : Int) (F : List UInt8 → Option Int) (D : ByteArray) (v : Nat) : Prop where
  room : 5 ≤ cnt s.S 0 b.n
  z : allZero D.data.toList = true → v = 0 ∧ F = fun _ => none
  nz : allZero D.data.toList = false → ∃ j, v = b.f + j ∧ F = upF (fun _ => none) (keyB D q) (some ((b.f + j : Nat) : Int)) ∧ Lies b s b.T D (Sha.dg (shaOf D.data.toList)) (b.f + j) ∧ j < b.n ∧ s.S j = 1 ∧ s.R ((b.f + j : Nat) : Int) = some 1
theorem same_zeros (D E : ByteArray) (hD : D.size = E.size) (h1 : allZero D.data.toList = true) (h2 : allZero E.data.toList = true) : D = E := by
  rw [← zeros_of D h1, ← zeros_of E h2, hD]
section
variable {w0 : World} {b : HB} {s : HS} {xs kb xt xd p : Nat} {q : Int} {F : List UInt8 → Option Int} {L : List (List UInt8)} {D E : ByteArray} {W : World}
theorem cs1_any (h : CsAt w0 b HS.new xs kb q (fun _ => none) L W) (bt : Box xt 28 (.pointer (some ⟨xs, 0, none⟩)) W) (bd : Box xd 9 (.string D) W) (bp : Box p 3 (.int .i64 0) W) (nt : ¬ b.S0 xt) (nd : ¬ b.S0 xd) (np : ¬ b.S0 p) (hp0 : w0.heap.size ≤ p) (hD : D.size = 256) (hq : (Lit.int .i64 q).wf = true) (hkL : keyB D q ∈ L) (hLl : L.length < 1000000) (far : ¬ b.S0 W.heap.size) :
    Calls Tryz.prog 12 #[.pointer (some ⟨b.hb, 0, none⟩), .func (.func 46) #[] #[.pointer (some ⟨xt, 0, none⟩), .pointer (some ⟨xd, 0, none⟩), .pointer (some ⟨p, 0, none⟩)]] W fun e w' => e = .returned (.int .i64 0) ∧ ∃ U s' v F', CsAt w0 (b.at U) s' xs kb q F' L w' ∧ CsOne (b.at U) s' q F' D v ∧ Box p 3 (.int .i64 (v : Int)) w' ∧ CsGr b kb p W w' := by
  have hbn := h.hn
  have hc : 5 ≤ cnt HS.new.S 0 b.n := by rw [cnt_newS]; omega
  cases hz : allZero D.data.toList with
  | true =>
    refine (csZero1 h bt bd bp nt nd np hp0 hD hz).mono ?_
    rintro e w' ⟨rfl, h1, h2, h3⟩
    exact ⟨rfl, b.T, HS.new, 0, _, h1, ⟨hc, fun _ => ⟨rfl, rfl⟩, fun e => by rw [hz] at e; cases e⟩, h2, h3⟩
  | false =>
    refine (csNew1 h bt bd bp nt nd np hp0 hD hz hq rfl hkL hLl hc far).mono ?_
    rintro e w' ⟨rfl, U, s', j, hN⟩
    have hr := hN.put.room
    have h28 := cnt_newS b.n
    exact ⟨rfl, U, s', b.f + j, _, hN.at', ⟨by show 5 ≤ cnt s'.S 0 b.n; omega, (fun e => by rw [hz] at e; cases e), fun _ => ⟨j, rfl, rfl, hN.put.lies, hN.put.lt, hN.put.hS, hN.put.hR⟩⟩, hN.bp, hN.g⟩
/-- behind the second Try -/
structure CsTwo (w0 : World) (b : HB) (xs kb : Nat) (q : Int) (L : List (List UInt8)) (D E : ByteArray) (p v0 : Nat) (W : World) (U : Nat → UInt8) (s' : HS) (F' : List UInt8 → Option Int) (v1 : Nat) (cl : Bool) (w' : World) : Prop where
  at' : CsAt w0 (b.at U) s' xs kb q F' L w'
  bp : Box p 3 (.int .i64 (v1 : Int)) w'
  g : CsGr b kb p W w'
  hcl : cl = true ↔ (¬ D = E ∧ allZero D.data.toList = false ∧ allZero E.data.toList = false ∧ keyB D q = keyB E q)
  same : cl = false → (v0 = v1 ↔ D = E)
  lies : allZero D.data.toList = false → Lies (b.at U) s' U D (Sha.dg (shaOf D.data.toList)) v0
theorem cs2_any (v0 : Nat) (h : CsAt w0 b s xs kb q F L W) (ho : CsOne b s q F D v0) (bt : Box xt 28 (.pointer (some ⟨xs, 0, none⟩)) W) (bd : Box xd 9 (.string E) W) (bp : Box p 3 (.int .i64 0) W) (nt : ¬ b.S0 xt) (nd : ¬ b.S0 xd) (np : ¬ b.S0 p) (hp0 : w0.heap.size ≤ p) (hD : D.size = 256) (hE : E.size = 256) (hq : (Lit.int .i64 q).wf = true) (hkL : keyB E q ∈ L) (hLl : L.length < 1000000) (far : ¬ b.S0 W.heap.size) :
    Calls Tryz.prog 12 #[.pointer (some ⟨b.hb, 0, none⟩), .func (.func 47) #[] #[.pointer (some ⟨xt, 0, none⟩), .pointer (some ⟨xd, 0, none⟩), .pointer (some ⟨p, 0, none⟩)]] W fun e w' => ∃ U s' F' v1 cl, e = .returned (.int .i64 (if cl = true then 9 else 0)) ∧ CsTwo w0 b xs kb q L D E p v0 W U s' F' v1 cl w' := by
  have hbf := h.hf
  have ff : ∀ {P : Prop}, (false = true) = P → ¬ P := fun e hp => by rw [← e] at hp; cases hp
  cases hz1 : allZero E.data.toList with
  | true =>
    refine (csZero2 h bt bd bp nt nd np hp0 hE hz1).mono ?_
    rintro e w' ⟨rfl, h1, h2, h3⟩
    refine ⟨b.T, s, F, 0, false, rfl, h1, h2, h3, ⟨fun e => (by cases e), fun e => ?_⟩, fun _ => ?_, fun hz => ?_⟩
    · rw [hz1] at e
      exact absurd e.2.2.1 (by decide)
    · cases hz0 : allZero D.data.toList with
      | true => exact ⟨fun _ => same_zeros D E (by omega) hz0 hz1, fun _ => (ho.z hz0).1⟩
      | false =>
        obtain ⟨j, rfl, _⟩ := ho.nz hz0
        refine ⟨fun e => by omega, fun e => ?_⟩
        rw [e, hz1] at hz0
        cases hz0
    · obtain ⟨j, rfl, _, hl, _⟩ := ho.nz hz
      exact hl
  | false =>
    cases hz0 : allZero D.data.toList with
    | true =>
      obtain ⟨rfl, rfl⟩ := ho.z hz0
      refine (csNew2 h bt bd bp nt nd np hp0 hE hz1 hq rfl hkL hLl ho.room far).mono ?_
      rintro e w' ⟨rfl, U, s', j, hN⟩
      refine ⟨U, s', _, b.f + j, false, rfl, hN.at', hN.bp, hN.g, ⟨fun e => (by cases e), fun e => ?_⟩, fun _ => ⟨fun e => by omega, fun e => ?_⟩, fun hz => ?_⟩
      · rw [hz0] at e
        exact absurd e.2.1 (by decide)
      · rw [e, hz1] at hz0
        cases hz0
      · rw [hz0] at hz
        cases hz
    | false =>
      obtain ⟨j0, rfl, rfl, hl, hj, hs, hr⟩ := ho.nz hz0
      by_cases hk : keyB D q = keyB E q
      · have hF : upF (fun _ => none) (keyB D q) (some ((b.f + j0 : Nat) : Int)) (keyB E q) = some ((b.f + j0 : Nat) : Int) := by
          unfold upF
          rw [if_pos hk.symm]
        by_cases hDE : D = E
        · subst hDE
          refine (csHit2 h bt bd bp nt nd np hp0 hE hz1 hq j0 hF _ (fun j => dg_lt _ j) hl hj hs hr far).mono ?_
          rintro e w' ⟨rfl, s', hH⟩
          exact ⟨b.T, s', _, b.f + j0, false, rfl, hH.at', hH.bp, hH.g, ⟨fun e => (by cases e), fun e => absurd rfl e.1⟩, fun _ => ⟨fun _ => rfl, fun _ => rfl⟩, fun _ => hl.congr hH.hS⟩
        · refine (csClash2 h bt bd bp nt nd np hp0 hE hz1 hq j0 hF D hD hDE _ (fun j => dg_lt _ j) hl hj hs hr).mono ?_
          rintro e w' ⟨rfl, h1, h2, h3⟩
          exact ⟨b.T, s, _, 0, true, rfl, h1, h2, h3, ⟨fun _ => ⟨hDE, hz0, hz1, hk⟩, fun _ => rfl⟩, fun e => (by cases e), fun _ => hl⟩
      · have hF : upF (fun _ => none) (keyB D q) (some ((b.f + j0 : Nat) : Int)) (keyB E q) = none := by
          unfold upF
          rw [if_neg (fun e => hk e.symm)]
        refine (csNew2 h bt bd bp nt nd np hp0 hE hz1 hq hF hkL hLl ho.room far).mono ?_
        rintro e w' ⟨rfl, U, s', j, hN⟩
        have hne := (hN.put.old j0 hs).1
        refine ⟨U, s', _, b.f + j, false, rfl, hN.at', hN.bp, hN.g, ⟨fun e => (by cases e), fun e => absurd e.2.2.2 hk⟩, fun _ => ⟨fun e => by omega, fun e => ?_⟩, fun _ => hN.put.keep _ _ _ hl⟩
        rw [e] at hk
        exact absurd rfl hk
/-- a Get of the first one -/
theorem csGets (v0 : Nat) (h : CsAt w0 b s xs kb q F L W) (hD : D.size = 256) (hz : allZero D.data.toList = true → v0 = 0) (hl : allZero D.data.toList = false → Lies b s b.T D (Sha.dg (shaOf D.data.toList)) v0) (wx : World) (hi : HeapI b s wx) (st : StAt b xs kb q wx) :
    Calls Tryz.prog 30 #[.pointer (some ⟨xs, 0, none⟩), .int .i64 (v0 : Int)] wx fun e w' => e = .returned (.string D) ∧ Below wx.heap.size wx w' := by
  cases hz0 : allZero D.data.toList with
  | true =>
    obtain rfl := hz hz0
    have h1 := eGet_zero xs wx
    have h2 := zeros_of D hz0
    rw [hD] at h2
    rw [h2] at h1
    exact h1
  | false => exact eGet_any b h.ok (by have := h.hf; omega) s xs kb q D hD _ (fun j => dg_lt _ j) v0 wx hi st h.nx (hl hz0)
end
end Go.Proofs.YtbohpffigmllkaaGreatDoor

/-
  ExtentClash: what lies there ahead of its Tries and behind them.
-/
namespace Go.Proofs.YtbohpffigmllkaaGreatDoor
open Go.RowKit Go.Maps Go.ChangeMaps Go.WideShapes

set_option maxRecDepth 100000 in
theorem eNewQ_any (b : HB) (n : Int) (L : List (List UInt8)) (w : World) :
    Calls Tryz.prog 10 #[.pointer (some ⟨b.hb, 0, none⟩), .int .i64 n] w fun e w' => e = .returned (.pointer (some ⟨w.heap.size + 1, 0, none⟩)) ∧ StAt b (w.heap.size + 1) w.heap.size (min (max n 1) 256) w' ∧ Tab (tblK Tryz.prog) w.heap.size (fun _ => none) L w' ∧ Grew (fun _ => False) w w' ∧ w'.heap.size = w.heap.size + 2 := by
  have hT : Hid (Tab (tblK Tryz.prog) w.heap.size (fun _ => none) L (w.alloc (.map #[] 0))) := Lib.hid (Tab.made _ _ _)
  have hmm := @run_makeMap Tryz.prog
  have hF : Hid (∀ q : Int, StAt b (w.heap.size + 1) w.heap.size q ((w.alloc (.map #[] 0)).alloc (.cells #[.pointer (some ⟨b.hb, 0, none⟩), .int .i64 q, .map (some w.heap.size)] 80))) := Lib.hid fun q => by
    have := heap_alloc_new (w.alloc (.map #[] 0)) (.cells #[.pointer (some ⟨b.hb, 0, none⟩), .int .i64 q, .map (some w.heap.size)] 80)
    rw [World.size_alloc] at this
    exact this
  have hT2 : Hid (∀ o, Tab (tblK Tryz.prog) w.heap.size (fun _ => none) L ((w.alloc (.map #[] 0)).alloc o)) := Lib.hid fun o => hT.out.keep (S := fun _ => False) ((Grew.refl _).alloc _) (fun e => e)
  have hg : Hid (∀ o, Grew (fun _ => False) w ((w.alloc (.map #[] 0)).alloc o)) := Lib.hid fun o => ((Grew.refl _).alloc _).alloc _
  clear hT
  go_enter Tryz.func10, Tryz.ntmps10
  go_wp2_with fail
  go_ret
  have e : (if (256 : Int) < (if n < 1 then 1 else n) then 256 else (if n < 1 then 1 else n)) = min (max n 1) 256 := by
    repeat' split
    all_goals omega
  first
    | exact ⟨rfl, hF.out _, hT2.out _, hg.out _, by simp⟩
    | (rw [e]; exact ⟨rfl, hF.out _, hT2.out _, hg.out _, by simp⟩)
/-- the law's boxes that its Tries leave -/
structure ClBx (w0 : World) (b : HB) (xs : Nat) (q : Int) (X xa : Nat) (D E : ByteArray) (W : World) : Prop where
  bt : Box X 28 (.pointer (some ⟨xs, 0, none⟩)) W
  ba : Box xa 9 (.string D) W
  bb : Box (xa + 1) 9 (.string E) W
  br : W.heap[X + 1]? = some (.cells #[.slice none 0 0, .int .i64 q] 32 (0, 0))
  nt : ¬ b.S0 X
  na : ¬ b.S0 xa
  nb : ¬ b.S0 (xa + 1)
  nr : ¬ b.S0 (X + 1)
  np : ¬ b.S0 (X + 1 + 1)
  nq : ¬ b.S0 (X + 1 + 1 + 1)
  lo : w0.heap.size ≤ X
  hx : xa + 1 < X
theorem ClBx.turn {w0 : World} {b : HB} {xs kb p : Nat} {q : Int} {X xa : Nat} {D E : ByteArray} {F : List UInt8 → Option Int} {L : List (List UInt8)} {W w' : World} (h : ClBx w0 b xs q X xa D E W) (g : CsGr b kb p W w') (tb : Tab (tblK Tryz.prog) kb F L W) (hp : X + 1 < p) : ClBx w0 b xs q X xa D E w' := by
  have hx := h.hx
  refine ⟨g.box h.bt h.nt (by decide) tb (by omega), g.box h.ba h.na (by decide) tb (by omega), g.box h.bb h.nb (by decide) tb (by omega), ?_, h.nt, h.na, h.nb, h.nr, h.np, h.nq, h.lo, hx⟩
  have hl : X + 1 < W.heap.size := by
    rcases Nat.lt_or_ge (X + 1) W.heap.size with e | e
    · exact e
    · have := h.br
      rw [Array.getElem?_eq_none e] at this
      cases this
  refine (g.block _ hl ?_).trans h.br
  rintro ((e | ⟨_, c, fz, e⟩) | e | e)
  · exact h.nr e
  · have := h.br
    rw [e] at this
    simp at this
  · obtain ⟨D', ⟨es, clock, e2, _⟩, _⟩ := tb.own
    have := h.br
    rw [e, e2] at this
    cases this
  · omega
theorem ClBx.at' {w0 : World} {b : HB} {xs : Nat} {q : Int} {X xa : Nat} {D E : ByteArray} {W : World} (h : ClBx w0 b xs q X xa D E W) (U : Nat → UInt8) : ClBx w0 (b.at U) xs q X xa D E W := ⟨h.bt, h.ba, h.bb, h.br, h.nt, h.na, h.nb, h.nr, h.np, h.nq, h.lo, h.hx⟩
theorem clMk {w0 w4 w5 w6 w7 : World} {xa : Nat} {D E : ByteArray} {q : Int} {M : DiskM} {b : HB} (L : List (List UInt8)) (hw2 : 1 < w0.heap.size) (hld : Laid KK SS w0) (g4 : Grew (fun _ => False) w0 w4) (ba : Box xa 9 (.string D) w4) (bb : Box (xa + 1) 9 (.string E) w4) (hM : NewOf 30 w4 M w5) (ok : b.ok) (hbf : b.f = 2) (hbn : b.n = 28) (hbd : b.d = M.d) (hI : HeapI b HS.new w6) (hL : LogAt b.B b.g 0 (.slice none 0 0) [] w6) (hg : Grew (fun _ => False) w5 w6) (hB : b.B ≤ w6.heap.size) (hfr : ∀ i, i < 6 → w5.heap.size ≤ b.blk i) (hbs : b.bs = M.bs) (hbt : b.bt = M.bt)
    (hx : StAt b (w6.heap.size + 1) w6.heap.size q w7) (hT : Tab (tblK Tryz.prog) w6.heap.size (fun _ => none) L w7) (g7 : Grew (fun _ => False) w6 w7) (s7 : w7.heap.size = w6.heap.size + 2) (W : World)
    (hW : ((((w7.alloc (.cells #[.pointer (some ⟨w6.heap.size + 1, 0, none⟩)] 28)).alloc (.cells #[.slice none 0 0, .int .i64 q] 32)).alloc (.cells #[.int .i64 0] 3)).alloc (.cells #[.int .i64 0] 3)) = W) :
    CsAt w0 b HS.new (w6.heap.size + 1) w6.heap.size q (fun _ => none) L W ∧ ClBx w0 b (w6.heap.size + 1) q w7.heap.size xa D E W ∧ Box (w7.heap.size + 1 + 1) 3 (.int .i64 0) W ∧ Box (w7.heap.size + 1 + 1 + 1) 3 (.int .i64 0) W := by
  have hsz1 : w4.heap.size ≤ w5.heap.size := (hM.grew fun _ => False).size
  have hsz2 : w5.heap.size ≤ w6.heap.size := hg.size
  have hsz0 : w0.heap.size ≤ w4.heap.size := g4.size
  have hxa := ba.lt
  have hxb := bb.lt
  have own : ∀ k, b.S0 k → w4.heap.size ≤ k := fun k hk => by
    obtain ⟨i, hi, rfl⟩ := hk
    by_cases h6 : i < 6
    · exact Nat.le_trans hsz1 (hfr i h6)
    · have h9 : i = 6 ∨ i = 7 ∨ i = 8 := by omega
      rcases h9 with rfl | rfl | rfl
      · exact hM.fresh _ (Or.inl hbd)
      · exact hM.fresh _ (Or.inr (Or.inl hbs))
      · exact hM.fresh _ (Or.inr (Or.inr hbt))
  have s1 : (w7.alloc (.cells #[.pointer (some ⟨w6.heap.size + 1, 0, none⟩)] 28)).heap.size = w7.heap.size + 1 := by simp
  have s2 : ((w7.alloc (.cells #[.pointer (some ⟨w6.heap.size + 1, 0, none⟩)] 28)).alloc (.cells #[.slice none 0 0, .int .i64 q] 32)).heap.size = w7.heap.size + 1 + 1 := by simp
  have s3 : (((w7.alloc (.cells #[.pointer (some ⟨w6.heap.size + 1, 0, none⟩)] 28)).alloc (.cells #[.slice none 0 0, .int .i64 q] 32)).alloc (.cells #[.int .i64 0] 3)).heap.size = w7.heap.size + 1 + 1 + 1 := by simp
  have x1 := Box.new w7 28 (.pointer (some ⟨w6.heap.size + 1, 0, none⟩))
  have x2 := heap_alloc_new (w7.alloc (.cells #[.pointer (some ⟨w6.heap.size + 1, 0, none⟩)] 28)) (.cells #[.slice none 0 0, .int .i64 q] 32)
  have x3 := Box.new ((w7.alloc (.cells #[.pointer (some ⟨w6.heap.size + 1, 0, none⟩)] 28)).alloc (.cells #[.slice none 0 0, .int .i64 q] 32)) 3 (.int .i64 0)
  have x4 := Box.new (((w7.alloc (.cells #[.pointer (some ⟨w6.heap.size + 1, 0, none⟩)] 28)).alloc (.cells #[.slice none 0 0, .int .i64 q] 32)).alloc (.cells #[.int .i64 0] 3)) 3 (.int .i64 0)
  rw [s1] at x2
  rw [s2] at x3
  rw [s3] at x4
  have g8 : Grew (fun _ => False) w7 W := by rw [← hW]; exact ((((Grew.refl _).alloc _).alloc _).alloc _).alloc _
  have b1 : Box w7.heap.size 28 (.pointer (some ⟨w6.heap.size + 1, 0, none⟩)) W := by rw [← hW]; exact ((x1.keepAlloc _).keepAlloc _).keepAlloc _
  have b2 : W.heap[w7.heap.size + 1]? = some (.cells #[.slice none 0 0, .int .i64 q] 32 (0, 0)) := by
    rw [← hW]
    have g : Grew (fun _ => False) ((w7.alloc (.cells #[.pointer (some ⟨w6.heap.size + 1, 0, none⟩)] 28)).alloc (.cells #[.slice none 0 0, .int .i64 q] 32)) ((((w7.alloc (.cells #[.pointer (some ⟨w6.heap.size + 1, 0, none⟩)] 28)).alloc (.cells #[.slice none 0 0, .int .i64 q] 32)).alloc (.cells #[.int .i64 0] 3)).alloc (.cells #[.int .i64 0] 3)) := ((Grew.refl _).alloc _).alloc _
    exact (g.block _ (by rw [s2]; omega) (fun e => e)).trans x2
  have b3 : Box (w7.heap.size + 1 + 1) 3 (.int .i64 0) W := by rw [← hW]; exact x3.keepAlloc _
  have b4 : Box (w7.heap.size + 1 + 1 + 1) 3 (.int .i64 0) W := by rw [← hW]; exact x4
  have ga : Grew (fun _ => False) w6 W := g7.trans g8
  have gall : Grew (fun _ => False) w4 W := ((hM.grew _).trans hg).trans ga
  have hxs := (hx.pl (S0 := b.S0) (HB.far ok (by omega))).lt
  refine ⟨⟨ok, hbf, by omega, fun k hk => Nat.le_trans hsz0 (own k hk), rfl, rfl, hI.keep ga (fun _ _ e => e) (fun _ _ _ e => e), hL.keep ga (fun e => e) (fun _ _ e => e), (g8.block _ hxs (fun e => e)).trans hx, hT.keep g8 (fun e => e), hld.grew (g4.trans gall) (fun e => e) (fun e => e), HB.far ok (by omega), HB.far ok (by omega), by omega, by omega, hw2, (g4.trans gall).mono fun _ _ e => e.elim⟩, ⟨b1, ba.keep gall (fun e => e), bb.keep gall (fun e => e), b2, HB.far ok (by omega), fun e => by have := own _ e; omega, fun e => by have := own _ e; omega, HB.far ok (by omega), HB.far ok (by omega), HB.far ok (by omega), by omega, by omega⟩, b3, b4⟩
theorem lw_grewN {S : Nat → Prop} {w w' : World} (g : Grew S w w') (n : Nat) : Grew S w (w'.drewN n) := g.trans ⟨rfl, rfl, rfl, Nat.le_refl _, fun _ _ _ => rfl⟩
/-- behind the second Try, and behind what only grows -/
structure ClTwo (w0 : World) (b : HB) (s : HS) (xs kb : Nat) (q : Int) (F : List UInt8 → Option Int) (L : List (List UInt8)) (X xa : Nat) (D E : ByteArray) (v0 v1 : Nat) (W : World) : Prop where
  at' : CsAt w0 b s xs kb q F L W
  bx : ClBx w0 b xs q X xa D E W
  bp : Box (X + 1 + 1) 3 (.int .i64 (v0 : Int)) W
  bq : Box (X + 1 + 1 + 1) 3 (.int .i64 (v1 : Int)) W
theorem ClTwo.keepF {w0 : World} {b : HB} {s : HS} {xs kb : Nat} {q : Int} {F : List UInt8 → Option Int} {L : List (List UInt8)} {X xa : Nat} {D E : ByteArray} {v0 v1 : Nat} {W W' : World} (h : ClTwo w0 b s xs kb q F L X xa D E v0 v1 W) (k : Grew (fun _ => False) W W') : ClTwo w0 b s xs kb q F L X xa D E v0 v1 W' := by
  have c := h.at'
  have x := h.bx
  have hl : X + 1 < W.heap.size := by have := h.bp.lt; omega
  exact ⟨⟨c.ok, c.hf, c.hn, c.own, c.hG, c.hK, c.st.keep k (fun _ _ e => e) (fun _ _ _ e => e), c.log.keep k (fun e => e) (fun _ _ e => e), (k.block xs (c.sx.pl (S0 := b.S0) c.nx).lt (fun e => e)).trans c.sx, c.tb.keep k (fun e => e), c.ld.grew k (fun e => e) (fun e => e), c.nx, c.nk, c.xk, c.k0, c.w2, c.g.trans (k.mono fun _ _ e => e.elim)⟩,
    ⟨x.bt.keep k (fun e => e), x.ba.keep k (fun e => e), x.bb.keep k (fun e => e), (k.block _ hl (fun e => e)).trans x.br, x.nt, x.na, x.nb, x.nr, x.np, x.nq, x.lo, x.hx⟩, h.bp.keep k (fun e => e), h.bq.keep k (fun e => e)⟩
end Go.Proofs.YtbohpffigmllkaaGreatDoor
