/-
  HeapFull: its three Tries: contracts.
-/
import Derived.Test.YtemnkffaapljpaaHeapFull3
namespace Go.Proofs.Ytemnkffaapljpaa
open Go.RowKit Go.Maps Go.ChangeMaps Go.WideShapes

section
variable {b : HB} {xh xk xn xf xl n0 kp n k : Nat} {F : Bool} {E E' : Nat → Prop} {lv : Value} {w0 w w' : World}
theorem Ful.err (h : Ful b xh xk xn xf xl n0 kp n F E lv k w0 w) (h2 : ∀ e, E' e → w.heap[e]? = some errBox) : Ful b xh xk xn xf xl n0 kp n F E' lv k w0 w :=
  ⟨h.bh, h.bk, h.bn, h.bf, h.bl, h.row, h.gr, h2⟩
set_option maxRecDepth 100000 in
theorem fullTry1 (ok : b.ok) (hbn : b.n = n) (hn : n < 40) (hkp : kp < 40) (p : FulP b xh xk xn xf xl n0) (W : World) (hI : HeapI b HS.new W) (hL : LogAt b.B b.g 0 (.slice none 0 0) [] W) (hA : Ful b xh xk xn xf xl n0 kp n F (fun _ => False) lv 0 w0 W) :
    Calls Try.prog 33 #[.pointer (some ⟨b.hb, 0, none⟩), .func (.func 37) #[] #[.pointer (some ⟨xh, 0, none⟩), .pointer (some ⟨xk, 0, none⟩), .pointer (some ⟨xn, 0, none⟩), .pointer (some ⟨xl, 0, none⟩)]] W fun e w' => e = .returned (.int .i64 0) ∧ HeapI b (fullS b.f kp (n - kp)) w' ∧ LogAt b.B b.g 0 (.slice none 0 0) [] w' ∧ ∃ lv, Ful b xh xk xn xf xl n0 kp n F (fun _ => False) lv (n - kp) w0 w' := by
  have gT := tryWorld_grew b.g 0 W
  have hgS : b.S0 b.g := ⟨1, by decide, rfl⟩
  have hsz := hI.sz
  have f3 : ¬ b.S0 W.heap.size := HB.far ok hsz
  refine (hTryOk b ok HS.new W hI hL 37 _ (fun s1 w' => s1 = fullS b.f kp (n - kp) ∧ ∃ lv, Ful b xh xk xn xf xl n0 kp n F (fun e => e = W.heap.size) lv (n - kp) w0 w') (fun _ => by rfl) fun hin => ?_).mono ?_
  · have A1 : Ful b xh xk xn xf xl n0 kp n F (fun e => e = W.heap.size) lv 0 w0 (tryWorld b.g 0 W) := (hA.turn (E' := fun _ => False) ok p gT (fun q e => Or.inl (e ▸ hgS)) (fun q e => p.own q (e ▸ hgS)) (fun _ e => e.elim)).err fun e he => by rw [he]; exact tryWorld_box b.g 0 W
    refine (full1_any b ok n kp hbn hn hkp xh xk xn xf xl n0 F (fun e => e = W.heap.size) (fun e he => by rw [he]; exact f3) lv p w0 _ hin.deep A1).mono ?_
    rintro e w' ⟨rfl, ⟨q, hi⟩, lv', hf⟩
    exact ⟨_, q, rfl, hi.first, GoneOk.nil rfl, hf.be _ rfl, rfl, lv', hf⟩
  · rintro e w' ⟨s1, w5, rfl, ⟨rfl, lv', hf⟩, hI6, hL6, g6⟩
    rw [HS.fin_nil b _ rfl] at hI6
    refine ⟨rfl, hI6, hL6, lv', hf.turn ok p g6 (fun q e => ?_) (fun q e => ?_) fun _ e => e.elim⟩
    · rcases e with e | e
      · exact Or.inl e
      · exact Or.inr ⟨_, _, _, by rw [e]; exact hf.be _ rfl, Or.inr rfl⟩
    · rcases e with e | e
      · exact p.own q e
      · have := p.nn.1
        omega
set_option maxRecDepth 100000 in
theorem fullTry2 (ok : b.ok) (hbn : b.n = n) (p : FulP b xh xk xn xf xl n0) (W : World) (hI : HeapI b (fullS b.f kp (n - kp)) W) (hL : LogAt b.B b.g 0 (.slice none 0 0) [] W) (hA : Ful b xh xk xn xf xl n0 kp n F (fun _ => False) lv (n - kp) w0 W) :
    Calls Try.prog 33 #[.pointer (some ⟨b.hb, 0, none⟩), .func (.func 40) #[] #[.pointer (some ⟨xh, 0, none⟩)]] W fun e w' => e = .returned (.int .i64 8) ∧ HeapI b (fullS b.f kp (n - kp)) w' ∧ LogAt b.B b.g 0 (.slice none 0 0) [] w' ∧ Ful b xh xk xn xf xl n0 kp n F (fun _ => False) lv (n - kp) w0 w' := by
  have gT := tryWorld_grew b.g 0 W
  have hgS : b.S0 b.g := ⟨1, by decide, rfl⟩
  have hc := (cnt_less (n - kp) b.n (by omega)).1
  refine (hTry_any b ok _ rfl (.slice none 0 0) W hI hL 40 _ (fun o _ _ => o = some 8) (fun _ => by rfl) fun hl hi => ?_).mono ?_
  · have bh : Box xh 54 (.pointer (some ⟨b.hb, 0, none⟩)) (tryWorld b.g 0 W) := hA.bh.keep gT fun e => p.s xh (by simp) (e ▸ hgS)
    refine (full2_any b ok _ (by show ((cnt (fun i => if i < n - kp then 1 else 0) 0 b.n : Nat) : Int) ≤ (kp : Int); rw [hc]; omega) xh _ hi bh).mono ?_
    rintro e w' ⟨rfl, hg⟩
    exact ⟨some 8, [], _, _, rfl, hl.keep hg (fun e => e) (fun _ _ e => e), (fun k e => by cases e; decide), hi.keep hg (fun _ _ e => e) (fun _ _ _ e => e), Path.nil _ _, by decide, hg.mono fun _ _ e => e.elim, (fun e => by cases e), rfl⟩
  · rintro e w' ⟨o, s1, w1, rfl, rfl, ht⟩
    exact ⟨rfl, ht.st, ht.log, hA.mut ok p (fun _ e => e.elim) ht.grew⟩
/-- behind the third Try -/
structure Full3 (b : HB) (s : HS) (xh xf xl xn n m : Nat) (F : Bool) (a : Option Addr) (c n0 : Nat) (w0 w : World) : Prop where
  st : HeapI b s w
  fl : Fl3 b xh xf xl F a c m w
  bn : Box xn 3 (.int .i64 (n : Int)) w
  gr : Grew (fun q => n0 ≤ q) w0 w
set_option maxRecDepth 100000 in
theorem fullTry3 (ok : b.ok) (hbn : b.n = n) (hn : n < 40) (p : FulP b xh xk xn xf xl n0) (W : World) (hI : HeapI b (fullS b.f kp (n - kp)) W) (hL : LogAt b.B b.g 0 (.slice none 0 0) [] W) (hA : Ful b xh xk xn xf xl n0 kp n F (fun _ => False) lv (n - kp) w0 W) :
    Calls Try.prog 33 #[.pointer (some ⟨b.hb, 0, none⟩), .func (.func 41) #[] #[.pointer (some ⟨xl, 0, none⟩), .pointer (some ⟨xh, 0, none⟩), .pointer (some ⟨xf, 0, none⟩)]] W fun e w' => e = .returned (.int .i64 (if F = true then 15 else 0)) ∧ ∃ b' a c, b'.hb = b.hb ∧ b'.f = b.f ∧ b'.n = n ∧ b'.ok ∧ Full3 b' (if F = true then fullS b.f kp (n - kp) else (lessS b.f kp (n - kp) (n - kp)).fin b') xh xf xl xn n (n - kp) F a c n0 w0 w' := by
  obtain ⟨b', hb'⟩ : ∃ b' : HB, ({ b with B := W.heap.size } : HB) = b' := ⟨_, rfl⟩
  have hsz := hI.sz
  have ok' : b'.ok := by rw [← hb']; exact HB.ok_at ok _ hsz
  have p' : b'.hb = b.hb := by rw [← hb']
  have n' : b'.n = n := by rw [← hb']; exact hbn
  have f' : b'.f = b.f := by rw [← hb']
  have B' : b'.B = W.heap.size := by rw [← hb']
  have hS0 : ∀ k, b'.S0 k → b.S0 k := fun k hk => by
    obtain ⟨i, hi, rfl⟩ := hk
    rw [← hb']
    exact ⟨i, hi, b.blk_at _ i hi⟩
  have iW : HeapI b' (fullS b'.f kp (n - kp)) W := by rw [f', ← hb']; exact hI.rebase rfl _ (Nat.le_refl _)
  have lW : LogAt b'.B b'.g 0 (.slice none 0 0) [] W := by rw [← hb']; exact hL.rebase _
  obtain ⟨_, a, c, hoo⟩ := rowOwn hA.row
  have hoo : lv = .slice a (n - kp) c := hoo
  subst hoo
  have sx : ¬ b'.S0 xh ∧ ¬ b'.S0 xf ∧ ¬ b'.S0 xl := ⟨fun e => p.s xh (by simp) (hS0 _ e), fun e => p.s xf (by simp) (hS0 _ e), fun e => p.s xl (by simp) (hS0 _ e)⟩
  have F0 : Fl3 b' xh xf xl F a c (n - kp) W := ⟨by rw [p']; exact hA.bh, hA.bf, hA.bl, fun i hi => by
    have hr : W.ownsRow b.B 3 1 (.slice a (n - kp) c) (n - kp) (intsG (rng b.f (n - kp))) := hA.row
    obtain ⟨r, e1, e2, _⟩ := int_cell hr i (by rw [rng_len]; exact hi)
    have e3 : (rng b.f (n - kp))[i]'(by rw [rng_len]; exact hi) = b.f + i := by simp [rng]
    rw [e3] at e2
    subst e1
    obtain ⟨cc, fz, e4⟩ := Lib.ownsRow_kind hr r rfl
    refine ⟨r, rfl, by rw [f']; exact e2, fun e => ?_, cc, _, fz, e4, by decide, by decide⟩
    obtain ⟨j, hj, e5⟩ := hS0 _ e
    have h1 := (hr.lt r rfl).1
    have h2 := ok.lt j hj
    omega⟩
  have gT := tryWorld_grew b'.g 0 W
  have hgS : b'.S0 b'.g := ⟨1, by decide, rfl⟩
  rw [← p', ← f']
  refine (hTry_any b' ok' _ rfl (.slice none 0 0) W iW lW 41 _ (fun o s1 _ => o = (if F = true then some 15 else none) ∧ s1 = lessS b'.f kp (n - kp) (n - kp)) (fun _ => by rfl) fun hl hi => ?_).mono ?_
  · have F1 := F0.kept sx (Kept.of (B := b'.B) (gT.mono fun q _ e => Or.inl (e ▸ hgS)))
    refine (full3_any b' ok' kp (n - kp) (by omega) (by omega) xh xf xl c F a sx _ _ hi hl F1).mono ?_
    rintro e w' ⟨rfl, ⟨⟨v1, fs1, l1, m1, p1⟩, i1, g1⟩, hf⟩
    rw [List.nil_append] at l1
    refine ⟨_, fs1, v1, _, rfl, l1, fun k e => ?_, i1, p1, by omega, g1, fun _ => less_gone (by omega) (by omega), rfl, rfl⟩
    cases F with
    | true => cases e; decide
    | false => cases e
  · rintro e w' ⟨o, s1, w1, rfl, ⟨rfl, rfl⟩, ht⟩
    have hbn' : Box xn 3 (.int .i64 (n : Int)) w' := (Kept.of ht.grew _ (Box.pl hA.bn (fun e => p.s xn (by simp) (hS0 _ e)) (by decide) (by decide))).trans hA.bn
    refine ⟨by cases F <;> rfl, b', a, c, rfl, rfl, n', ok', ?_, F0.kept sx (Kept.of ht.grew), hbn', hA.gr.step ht.grew fun q _ m => ?_⟩
    · have := ht.st
      cases F with
      | true => exact this
      | false => exact this
    · rcases m with m | m
      · exact p.own q (hS0 _ m)
      · have h1 := m.1
        have h2 := p.nn.1
        omega
end
end Go.Proofs.Ytemnkffaapljpaa
