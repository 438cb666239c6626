/-
  UndoTable: for all keys, values and failures the law answers true.
-/
import Derived.Test.YtdeohkkpmjgaoaaTblLaw
namespace Go.Proofs.Ytdeohkkpmjgaoaa
open Go.RowKit Go.Maps Go.ChangeMaps Go.WideShapes

/-- between two Tries: the boxes, the log, the table and the one that is wanted -/
structure UtAt (w : World) (kb vb fb mx g mb wb : Nat) (va ka fa : Option Addr) (vl vc kl kc fl fc : Nat) (Ls : List ByteArray) (F1 F2 : ByteArray → Option ByteArray) (ib i : Nat) (wx : World) : Prop where
  bk : Box kb 40 (.slice ka kl kc) wx
  bv : Box vb 40 (.slice va vl vc) wx
  bf : Box fb 41 (.slice fa fl fc) wx
  bm : Box mx 42 (.map (some mb)) wx
  bi : Box ib 3 (.int .i64 i) wx
  log : ∃ v, LogAt w.heap.size g 0 v [] wx
  m : Tab (tblSS Try.prog) mb F1 Ls wx
  wt : Tab (tblSS Try.prog) wb F2 Ls wx
  ne : wb ≠ mb
  below : Below w.heap.size w wx
  lo : w.heap.size ≤ g ∧ w.heap.size ≤ mb ∧ w.heap.size ≤ wb ∧ w.heap.size ≤ ib
section
variable {w : World} {kb vb fb mx g mb wb : Nat} {va ka fa : Option Addr} {vl vc kl kc fl fc : Nat} {Ls : List ByteArray} {F1 F2 : ByteArray → Option ByteArray} {ib i : Nat} {wx wy : World}
theorem UtAt.grew (h : UtAt w kb vb fb mx g mb wb va ka fa vl vc kl kc fl fc Ls F1 F2 ib i wx) (k : Grew (fun _ => False) wx wy) : UtAt w kb vb fb mx g mb wb va ka fa vl vc kl kc fl fc Ls F1 F2 ib i wy := by
  obtain ⟨v, hl⟩ := h.log
  exact ⟨h.bk.keep k fun e => e, h.bv.keep k fun e => e, h.bf.keep k fun e => e, h.bm.keep k fun e => e, h.bi.keep k fun e => e, ⟨v, hl.keep k (fun e => e) fun _ _ e => e⟩, h.m.keep k fun e => e, h.wt.keep k fun e => e, h.ne, k.below h.below h.below.size fun _ e => e.elim, h.lo⟩
theorem UtAt.tb (h : UtAt w kb vb fb mx g mb wb va ka fa vl vc kl kc fl fc Ls F1 F2 ib i wx) {lb last : Nat} (hb : Box lb 3 (.int .i64 last) wx) : TbAt ib lb vb mx kb fb mb i last vl vc kl kc fl fc va ka fa wx := ⟨h.bi, hb, h.bv, h.bm, h.bk, h.bf⟩
theorem UtAt.tried (h : UtAt w kb vb fb mx g mb wb va ka fa vl vc kl kc fl fc Ls F1 F2 ib i wx) (k : Grew (Mut w.heap.size (tabS0 mb g) wx) wx wy) {F3 : ByteArray → Option ByteArray} (hm : Tab (tblSS Try.prog) mb F3 Ls wy) (hl : ∃ v, LogAt w.heap.size g 0 v [] wy) : UtAt w kb vb fb mx g mb wb va ka fa vl vc kl kc fl fc Ls F3 F2 ib i wy := by
  obtain ⟨v, hl0⟩ := h.log
  have q : ∀ {b t x}, Box b t x wx → t ≠ 1 → t ≠ 43 → Box b t x wy := fun {b t x} hb h1 h2 => ((hb.plain (S0 := tabS0 mb g) (fun e => e.elim (hb.neLog hl0) (hb.neTab h.m)) h1 h2).stays k).trans hb
  refine ⟨q h.bk (by decide) (by decide), q h.bv (by decide) (by decide), q h.bf (by decide) (by decide), q h.bm (by decide) (by decide), q h.bi (by decide) (by decide), hl, hm, h.wt.block (k.block wb h.wt.lt ?_), h.ne, k.below h.below h.below.size ?_, h.lo⟩
  · rintro ((e | e) | e)
    · exact h.wt.neLog hl0 e
    · exact h.ne e
    · exact h.wt.notFunc e
  · rintro q ((e | e) | e)
    · rw [e]; exact h.lo.1
    · rw [e]; exact h.lo.2.1
    · exact e.1
theorem UtAt.want (h : UtAt w kb vb fb mx g mb wb va ka fa vl vc kl kc fl fc Ls F1 F2 ib i wx) (k : Grew (fun q => q = wb) wx wy) {F3 : ByteArray → Option ByteArray} (hw : Tab (tblSS Try.prog) wb F3 Ls wy) : UtAt w kb vb fb mx g mb wb va ka fa vl vc kl kc fl fc Ls F1 F3 ib i wy := by
  obtain ⟨v, hl0⟩ := h.log
  exact ⟨h.bk.keep k (h.bk.neTab h.wt), h.bv.keep k (h.bv.neTab h.wt), h.bf.keep k (h.bf.neTab h.wt), h.bm.keep k (h.bm.neTab h.wt), h.bi.keep k (h.bi.neTab h.wt), ⟨v, hl0.tab h.wt (h.wt.neLog hl0) k⟩, h.m.keep k fun e => h.ne e.symm, hw, h.ne, k.below h.below h.below.size fun q e => by rw [e]; exact h.lo.2.2.1, h.lo⟩
theorem UtAt.box (h : UtAt w kb vb fb mx g mb wb va ka fa vl vc kl kc fl fc Ls F1 F2 ib i wx) (k : Grew (Mut w.heap.size (tabS0 mb g) wx) wx wy) {b : Nat} {t : TypeId} {x : Value} (hb : Box b t x wx) (h1 : t ≠ 1) (h2 : t ≠ 43) : Box b t x wy := by
  obtain ⟨v, hl0⟩ := h.log
  exact ((hb.plain (S0 := tabS0 mb g) (fun e => e.elim (hb.neLog hl0) (hb.neTab h.m)) h1 h2).stays k).trans hb
/-- the next round's own counter -/
theorem UtAt.next (h : UtAt w kb vb fb mx g mb wb va ka fa vl vc kl kc fl fc Ls F1 F2 ib i wx) (j : Nat) : UtAt w kb vb fb mx g mb wb va ka fa vl vc kl kc fl fc Ls F1 F2 wx.heap.size j (wx.alloc (.cells #[.int .i64 j] 3)) := by
  have h1 := h.grew ((Grew.refl wx).alloc (.cells #[.int .i64 (j : Int)] 3))
  exact ⟨h1.bk, h1.bv, h1.bf, h1.bm, Box.new wx _ _, h1.log, h1.m, h1.wt, h1.ne, h1.below, h1.lo.1, h1.lo.2.1, h1.lo.2.2.1, h.below.size⟩
end
/-- what a counter's box holds -/
def ptrInt (s : Value) (wx : World) : Nat :=
  match s with
  | .pointer (some a) => intOf ((wx.cell? a).getD undef) |>.toNat
  | _ => 0
theorem ptr_int {ib : Nat} {i : Int} {wx : World} {t : TypeId} (h : Box ib t (.int .i64 i) wx) : ptrInt (.pointer (some ⟨ib, 0, none⟩)) wx = i.toNat := by
  show (intOf ((wx.cell? ⟨ib, 0, none⟩).getD undef)).toNat = _
  rw [h.cell]
  rfl
set_option maxRecDepth 100000 in
set_option maxHeartbeats 2000000 in
theorem undoTable_walk (ka : Option Addr) (kl kc : Nat) (va : Option Addr) (vl vc : Nat) (fa : Option Addr) (fl fc : Nat) (ks vs : Nat → ByteArray) (bs : Nat → Bool) (w : World) (hkl : kl ≤ maxLen) (hvl : vl ≤ maxLen) (hfl : fl ≤ maxLen) (hK : StrsIn w ka kl ks) (hV : StrsIn w va vl vs) (hF : BoolsAt w fa fl bs) :
    Calls Try.prog 4 #[.slice ka kl kc, .slice va vl vc, .slice fa fl fc] w fun e w' => e = .returned (.bool true) ∧ Below w.heap.size w w' := by
  have hmm := @run_makeMap Try.prog
  have hmf : ∀ (fn : Fn) (first cap : Array Value) (w : World), (Instr.makeFunc fn first cap).run Try.prog w = .ok (.func fn first cap) w := fun _ _ _ _ => rfl
  unfold maxLen at hkl hvl hfl
  obtain ⟨n, hmin, hn1, hn2, hn3, hn4⟩ : ∃ n : Nat, (if (30 : Int) < (if (fl : Int) < (if (vl : Int) < (kl : Int) then (vl : Int) else (kl : Int)) then (fl : Int) else (if (vl : Int) < (kl : Int) then (vl : Int) else (kl : Int))) then (30 : Int) else (if (fl : Int) < (if (vl : Int) < (kl : Int) then (vl : Int) else (kl : Int)) then (fl : Int) else (if (vl : Int) < (kl : Int) then (vl : Int) else (kl : Int)))) = (n : Int) ∧ n ≤ kl ∧ n ≤ vl ∧ n ≤ fl ∧ n ≤ 30 := by
    refine ⟨min (min (min kl vl) fl) 30, ?_, by omega, by omega, by omega, by omega⟩
    repeat' split
    all_goals omega
  have hm4 := fun (wx : World) (ts : Array TypeId) (t : TypeId) => run_min4 Try.prog wx ts t kl vl fl 30 n hmin
  clear hmin
  obtain ⟨Ls, hLs⟩ : ∃ Ls, (List.range 30).map ks = Ls := ⟨_, rfl⟩
  have HLl : Hid (Ls.length < 1000000) := Lib.hid (by rw [← hLs]; simp)
  have HLm : Hid (∀ j, j < 30 → ks j ∈ Ls) := Lib.hid fun j hj => by rw [← hLs]; exact List.mem_map.2 ⟨j, List.mem_range.2 hj, rfl⟩
  have HSt : Hid (∀ wx, Below w.heap.size w wx → StrsIn wx ka kl ks ∧ StrsIn wx va vl vs ∧ BoolsAt wx fa fl bs) := Lib.hid fun wx hb => ⟨hK.below hb, hV.below hb, hF.below hb⟩
  have HAr := Lib.hid (And.intro hK (And.intro hV hF))
  clear hLs hK hV hF
  obtain ⟨W0, hW0⟩ : ∃ W0, ((w.alloc (.cells #[.slice ka kl kc] 40)).alloc (.cells #[.slice va vl vc] 40)).alloc (.cells #[.slice fa fl fc] 41) = W0 := ⟨_, rfl⟩
  have HW0 : Hid (Box w.heap.size 40 (.slice ka kl kc) W0 ∧ Box (w.heap.size + 1) 40 (.slice va vl vc) W0 ∧ Box (w.heap.size + 1 + 1) 41 (.slice fa fl fc) W0 ∧ Below w.heap.size w W0 ∧ W0.heap.size = w.heap.size + 3) := Lib.hid (by
    have s1 : (w.alloc (.cells #[.slice ka kl kc] 40)).heap.size = w.heap.size + 1 := by simp
    have s2 : ((w.alloc (.cells #[.slice ka kl kc] 40)).alloc (.cells #[.slice va vl vc] 40)).heap.size = w.heap.size + 2 := by simp
    have b1 := Box.new w 40 (.slice ka kl kc)
    have b2 := Box.new (w.alloc (.cells #[.slice ka kl kc] 40)) 40 (.slice va vl vc)
    have b3 := Box.new ((w.alloc (.cells #[.slice ka kl kc] 40)).alloc (.cells #[.slice va vl vc] 40)) 41 (.slice fa fl fc)
    rw [s1] at b2
    rw [s2] at b3
    rw [← hW0]
    exact ⟨(b1.keepAlloc _).keepAlloc _, b2.keepAlloc _, b3, (((Below.refl _ w).alloc (Nat.le_refl _) _).alloc (by simp) _).alloc (by simp; omega) _, by simp⟩)
  go_enter Try.func4, Try.ntmps4
  go_wp2_with fail
  refine (undoAwake _).mono ?_
  rintro e w1 ⟨rfl, hb1⟩
  have HB1 := Lib.hid hb1
  clear hb1 hW0
  obtain ⟨x, hx⟩ : ∃ x, w1.heap.size = x := ⟨_, rfl⟩
  obtain ⟨Wd, hWd⟩ : ∃ Wd, (((w1.alloc (.cells #[.int .i64 0, .slice none 0 0] 30)).alloc (.map #[] 0)).alloc (.map #[] 0)).alloc (.cells #[.map (some (x + 1))] 42) = Wd := ⟨_, rfl⟩
  have HU0 : Hid (UtAt w w.heap.size (w.heap.size + 1) (w.heap.size + 1 + 1) (x + 1 + 1 + 1) x (x + 1) (x + 1 + 1) va ka fa vl vc kl kc fl fc Ls (fun _ => none) (fun _ => none) Wd.heap.size 0 (Wd.alloc (.cells #[.int .i64 (0 : Nat)] 3)) ∧ (Wd.cell? ⟨w.heap.size, 0, none⟩ = some (.slice ka kl kc) ∧ Wd.cell? ⟨w.heap.size + 1, 0, none⟩ = some (.slice va vl vc) ∧ Wd.cell? ⟨w.heap.size + 1 + 1, 0, none⟩ = some (.slice fa fl fc))) := Lib.hid (by
    obtain ⟨b1, b2, b3, b4, b5⟩ := HW0.out
    have hb1 := HB1.out
    have hxs := hb1.size
    subst hx
    have c1 : Box w.heap.size 40 (.slice ka kl kc) w1 := (hb1.block _ (by omega)).trans b1
    have c2 : Box (w.heap.size + 1) 40 (.slice va vl vc) w1 := (hb1.block _ (by omega)).trans b2
    have c3 : Box (w.heap.size + 1 + 1) 41 (.slice fa fl fc) w1 := (hb1.block _ (by omega)).trans b3
    have c4 : Below w.heap.size w w1 := b4.trans (hb1.mono (by omega))
    obtain ⟨Wa, hWa⟩ : ∃ Wa, w1.alloc (.cells #[.int .i64 0, .slice none 0 0] 30) = Wa := ⟨_, rfl⟩
    obtain ⟨Wb, hWb⟩ : ∃ Wb, Wa.alloc (.map #[] 0) = Wb := ⟨_, rfl⟩
    obtain ⟨Wc, hWc⟩ : ∃ Wc, Wb.alloc (.map #[] 0) = Wc := ⟨_, rfl⟩
    rw [hWa, hWb, hWc] at hWd
    have sa : Wa.heap.size = w1.heap.size + 1 := by rw [← hWa]; simp
    have sb : Wb.heap.size = w1.heap.size + 1 + 1 := by rw [← hWb]; simp [sa]
    have sc : Wc.heap.size = w1.heap.size + 1 + 1 + 1 := by rw [← hWc]; simp [sb]
    have sd : Wd.heap.size = w1.heap.size + 1 + 1 + 1 + 1 := by rw [← hWd]; simp [sc]
    have la : LogAt w.heap.size w1.heap.size 0 (.slice none 0 0) [] Wa := by rw [← hWa]; exact log_new w1 _
    have mb : Tab (tblSS Try.prog) (w1.heap.size + 1) (fun _ => none) Ls Wb := by rw [← hWb, ← sa]; exact Tab.made _ _ _
    have mc : Tab (tblSS Try.prog) (w1.heap.size + 1 + 1) (fun _ => none) Ls Wc := by rw [← hWc, ← sb]; exact Tab.made _ _ _
    have bd : Box (w1.heap.size + 1 + 1 + 1) 42 (.map (some (w1.heap.size + 1))) Wd := by rw [← hWd, ← sc]; exact Box.new _ _ _
    have gab : Grew (fun _ => False) Wa Wb := by rw [← hWb]; exact (Grew.refl _).alloc _
    have gbc : Grew (fun _ => False) Wb Wc := by rw [← hWc]; exact (Grew.refl _).alloc _
    have gcd : Grew (fun _ => False) Wc Wd := by rw [← hWd]; exact (Grew.refl _).alloc _
    have gde : Grew (fun _ => False) Wd (Wd.alloc (.cells #[.int .i64 (0 : Nat)] 3)) := (Grew.refl _).alloc _
    have gbd := gbc.trans gcd
    have gad := gab.trans gbd
    have g1a : Grew (fun _ => False) w1 Wa := by rw [← hWa]; exact (Grew.refl _).alloc _
    have g1d := g1a.trans gad
    have d1 := c1.keep g1d fun e => e
    have d2 := c2.keep g1d fun e => e
    have d3 := c3.keep g1d fun e => e
    exact ⟨⟨d1.keep gde fun e => e, d2.keep gde fun e => e, d3.keep gde fun e => e, bd.keep gde fun e => e, Box.new _ _ _, ⟨_, (la.keep gad (fun e => e) fun _ _ e => e).keep gde (fun e => e) fun _ _ e => e⟩, (mb.keep gbd fun e => e).keep gde fun e => e, (mc.keep gcd fun e => e).keep gde fun e => e, by omega, (g1d.trans gde).below c4 (by have := c4.size; omega) fun _ e => e.elim, by omega, by omega, by omega, by omega⟩, d1.cell, d2.cell, d3.cell⟩)
  go_upto_region 5 with fail
  clear hWd hx HW0 HB1
  obtain ⟨l1, l2, l3⟩ := HU0.out.2
  go_upto_region 7 with fail
  have HU1 := Lib.hid HU0.out.1
  clear HU0 l1 l2 l3 hm4 hkl hvl hfl
  generalize x + 1 + 1 + 1 = mx at *
  generalize x + 1 + 1 = wb at *
  generalize x + 1 = mb at *
  generalize w.heap.size + 1 + 1 = fb at *
  generalize w.heap.size + 1 = vb at *
  go_loopw [11] (fun s wx => ∃ ib i F, s = .pointer (some ⟨ib, 0, none⟩) ∧ i ≤ 33 ∧ UtAt w w.heap.size vb fb mx x mb wb va ka fa vl vc kl kc fl fc Ls F F ib i wx) (fun s wx => 40 - ptrInt s wx)
  case atStart => exact ⟨_, 0, _, rfl, by omega, HU1.out⟩
  case round =>
    obtain ⟨ib, i, F, rfl, hi33, hU⟩ := hrel
    have HU := Lib.hid hU
    have ci := hU.bi.cell
    have HM0 : Hid (ptrInt (.pointer (some ⟨ib, 0, none⟩)) wr = i) := Lib.hid (by rw [ptr_int hU.bi]; rfl)
    clear hU HU1
    by_cases hlt : i < n
    · have i0 : (i : Int) < (n : Int) := by omega
      obtain ⟨last, hla⟩ : ∃ last : Nat, min (i + 3) n = last + 1 := ⟨min (i + 3) n - 1, by omega⟩
      have hil : i ≤ last := by omega
      have hln : last < n := by omega
      have hl30 : last < 30 := by omega
      have hl2 : last ≤ i + 2 := by omega
      have hm2 := fun (wx : World) (ts : Array TypeId) (t : TypeId) => run_min2 Try.prog wx ts t ((i : Int) + 3) (n : Int) ((last + 1 : Nat) : Int) (by omega)
      have hM : ((last + 1 : Nat) : Int) - 1 = (last : Int) := by omega
      have HLa : Hid (min (i + 3) n = last + 1) := Lib.hid hla
      clear hla
      generalize ((last + 1 : Nat) : Int) = M at *
      have HUl0 : Hid (UtAt w w.heap.size vb fb mx x mb wb va ka fa vl vc kl kc fl fc Ls F F ib i (wr.alloc (.cells #[.int .i64 (last : Int)] 3)) ∧ Box wr.heap.size 3 (.int .i64 (last : Int)) (wr.alloc (.cells #[.int .i64 (last : Int)] 3))) := Lib.hid ⟨HU.out.grew ((Grew.refl wr).alloc _), Box.new wr _ _⟩
      go_upto_region 10 with fail
      clear ci HU
      generalize wr.alloc (.cells #[.int .i64 (last : Int)] 3) = W at *
      generalize wr.heap.size = lb at *
      have HTry : Hid (Calls Try.prog 19 #[.pointer (some ⟨x, 0, none⟩), .func (.func 20) #[] #[.pointer (some ⟨ib, 0, none⟩), .pointer (some ⟨lb, 0, none⟩), .pointer (some ⟨vb, 0, none⟩), .pointer (some ⟨x, 0, none⟩), .pointer (some ⟨mx, 0, none⟩), .pointer (some ⟨w.heap.size, 0, none⟩), .pointer (some ⟨fb, 0, none⟩)]] W fun e w' =>
          e = .returned (.int .i64 (if bs last then 11 else 0)) ∧ (∃ v', LogAt w.heap.size x 0 v' [] w') ∧ Tab (tblSS Try.prog) mb (if bs last then F else foldF ks vs F i (last + 1 - i)) Ls w' ∧ Grew (Mut w.heap.size (tabS0 mb x) W) W w') := Lib.hid (by
        obtain ⟨h1, h2⟩ := HUl0.out
        obtain ⟨v, hl⟩ := h1.log
        exact tblTry_any w x mb ib lb vb mx w.heap.size fb i last vl vc kl kc fl fc va ka fa ks vs bs F Ls v W (fun k e => by
          rcases e with e | e
          · rw [e]; exact h1.lo.1
          · rw [e]; exact h1.lo.2.1) hil hl30 (by omega) (by omega) (by omega) HAr.out.1 HAr.out.2.1 HAr.out.2.2 h1.below (h1.tb h2) hl h1.m HLl.out fun j hj => HLm.out j (by omega))
      obtain ⟨bl, hbl⟩ : ∃ bl, bs last = bl := ⟨_, rfl⟩
      have HBl := Lib.hid hbl
      rw [hbl] at HTry
      obtain ⟨E, hE⟩ : ∃ E : Int, (if bl = true then (11 : Int) else 0) = E := ⟨_, rfl⟩
      rw [hE] at HTry
      have hEq : (E == 11) = bl := by
        rw [← hE]
        cases bl <;> rfl
      obtain ⟨F', hF'⟩ : ∃ F', (if bl = true then F else foldF ks vs F i (last + 1 - i)) = F' := ⟨_, rfl⟩
      rw [hF'] at HTry
      have HF' := Lib.hid hF'
      clear hbl hE hF'
      go_wp2_with fail
      with_reducible refine HTry.out.mono ?_
      rintro e w2 ⟨rfl, hl2, hm2', hg2⟩
      have HU2 : Hid (UtAt w w.heap.size vb fb mx x mb wb va ka fa vl vc kl kc fl fc Ls F' F ib i w2) := Lib.hid (HUl0.out.1.tried hg2 hm2' hl2)
      have HLb2 : Hid (Box lb 3 (.int .i64 (last : Int)) w2) := Lib.hid (HUl0.out.1.box hg2 HUl0.out.2 (by decide) (by decide))
      clear hl2 hm2' hg2 HTry HUl0 hm2 hM
      obtain ⟨fb1, fo, rfl, hfr⟩ := bools_at (HSt.out _ HU2.out.below).2.2 (by omega)
      have HFr : Hid (∀ wx, Below w.heap.size w wx → wx.cell? ⟨fb1, fo + last, none⟩ = some (.bool bl)) := Lib.hid fun wx hb => by
        obtain ⟨b1, o1, e1, r1⟩ := bools_at (HSt.out _ hb).2.2 (by omega)
        cases e1
        rw [← HBl.out]
        exact r1 last (by omega)
      have cf := HU2.out.bf.cell
      have cl := HLb2.out.cell
      have cr := HFr.out _ HU2.out.below
      have ci2 := HU2.out.bi.cell
      have j1 : (0 : Int) ≤ (last : Int) := by omega
      have j2 : (last : Int) < (fl : Int) := by omega
      clear hfr
      have HFE : Hid (bl = true → F' = F) := Lib.hid fun h => by rw [← HF'.out, if_pos h]
      have HFN : Hid (bl = false → F' = foldF ks vs F i (last + 1 - i)) := Lib.hid fun h => by rw [← HF'.out, if_neg (by rw [h]; decide)]
      have HFf : Hid (∀ j, foldF ks vs F i (j + 1) = upF (foldF ks vs F i j) (ks (i + j)) (if (vs (i + j)).toList.isEmpty then none else some (vs (i + j)))) := Lib.hid fun _ => rfl
      clear HF' HBl
      go_wp2_with fail
      clear cf cl cr ci2
      go_loopw [14] (fun s wx => ∃ K : Nat, s = .int .i64 (K : Int) ∧ i ≤ K ∧ K ≤ last + 1 ∧ (bl = true → K = i) ∧ UtAt w w.heap.size vb fb mx x mb wb va ka (some ⟨fb1, fo, none⟩) vl vc kl kc fl fc Ls F' (foldF ks vs F i (K - i)) ib i wx ∧ Box lb 3 (.int .i64 (last : Int)) wx) (fun s _ => last + 1 - (intOf s).toNat)
      case atStart => exact ⟨i, rfl, Nat.le_refl _, by omega, fun _ => rfl, by rw [Nat.sub_self]; exact HU2.out, HLb2.out⟩
      case round =>
        obtain ⟨K, rfl, hK1, hK2, hK3, hU3, hL3⟩ := hrel
        have HU3 := Lib.hid hU3
        have HL3 := Lib.hid hL3
        have HK3 := Lib.hid hK3
        have ci3 := hU3.bi.cell
        have cl3 := hL3.cell
        have cf3 := hU3.bf.cell
        have cr3 := HFr.out _ hU3.below
        clear hU3 hL3 hK3 HU2 HLb2
        by_cases hgo : K ≤ last ∧ bl = false
        · obtain ⟨hKl, rfl⟩ := hgo
          have k0 : (K : Int) ≤ (last : Int) := by omega
          obtain ⟨kb1, ko, rfl, hkr⟩ := strs_at (HSt.out _ HU3.out.below).1 (by omega)
          obtain ⟨vb1, vo, rfl, hvr⟩ := strs_at (HSt.out _ HU3.out.below).2.1 (by omega)
          have HSk : Hid ((ks K).size ≤ maxLen) := Lib.hid (hkr K (by omega)).2
          have HSv : Hid ((vs K).size ≤ maxLen) := Lib.hid (hvr K (by omega)).2
          have HIn : Hid (ks K ∈ Ls) := Lib.hid (HLm.out K (by omega))
          have HKp : Hid (∀ G1 G2 wx, UtAt w w.heap.size vb fb mx x mb wb (some ⟨vb1, vo, none⟩) (some ⟨kb1, ko, none⟩) (some ⟨fb1, fo, none⟩) vl vc kl kc fl fc Ls G1 G2 ib i wx → wx.cell? ⟨w.heap.size, 0, none⟩ = some (.slice (some ⟨kb1, ko, none⟩) kl kc) ∧ wx.cell? ⟨kb1, ko + K, none⟩ = some (.string (ks K)) ∧ wx.cell? ⟨vb, 0, none⟩ = some (.slice (some ⟨vb1, vo, none⟩) vl vc) ∧ wx.cell? ⟨vb1, vo + K, none⟩ = some (.string (vs K))) := Lib.hid fun G1 G2 wx hu => by
            obtain ⟨b1, o1, e1, r1⟩ := strs_at (HSt.out _ hu.below).1 (by omega)
            obtain ⟨b2, o2, e2, r2⟩ := strs_at (HSt.out _ hu.below).2.1 (by omega)
            cases e1
            cases e2
            exact ⟨hu.bk.cell, (r1 K (by omega)).1, hu.bv.cell, (r2 K (by omega)).1⟩
          clear hkr hvr
          have k1 : (0 : Int) ≤ (K : Int) := by omega
          have k2 : (K : Int) < (kl : Int) := by omega
          have k3 : (K : Int) < (vl : Int) := by omega
          have HFK := Lib.hid (HFf.out (K - i))
          rw [show i + (K - i) = K by omega, show K - i + 1 = K + 1 - i by omega] at HFK
          have HB2 : Hid (i ≤ K + 1 ∧ K + 1 ≤ last + 1) := Lib.hid (by omega)
          obtain ⟨d1, d2, d3, d4⟩ := HKp.out _ _ _ HU3.out
          by_cases he : (vs K).toList.isEmpty = true
          · rw [if_pos he] at HFK
            generalize foldF ks vs F i (K - i) = FK at *
            generalize ks K = kx at *
            generalize vs K = vx at *
            go_wp2_with (at_delete; (refine wpList_tab_del (T := tblSS Try.prog) tblSS_fine HU3.out.wt rfl _ _ rfl rfl kx rfl HSk.out ?_); (intro w3 hT3 hG3); (have HU4 := Lib.hid (HU3.out.want hG3 hT3)); (have HL4 := Lib.hid (HL3.out.keep hG3 (HL3.out.neTab HU3.out.wt))); (obtain ⟨d1, d2, d3, d4⟩ := HKp.out _ _ _ HU4.out); clear hT3 hG3)
            go_roundw
            case rel => exact ⟨K + 1, by go_num, HB2.out.1, HB2.out.2, (fun e => nomatch e), by rw [HFK.out]; exact HU4.out, HL4.out⟩
            case measure => simp [intOf]; omega
          · have he' : (vs K).toList.isEmpty = false := by simpa using he
            rw [if_neg he] at HFK
            clear he
            generalize foldF ks vs F i (K - i) = FK at *
            generalize ks K = kx at *
            generalize vs K = vx at *
            go_upto_region 18 with (at_delete; (refine wpList_tab_del (T := tblSS Try.prog) tblSS_fine HU3.out.wt rfl _ _ rfl rfl kx rfl HSk.out ?_); (intro w3 hT3 hG3); (have HU4 := Lib.hid (HU3.out.want hG3 hT3)); (have HL4 := Lib.hid (HL3.out.keep hG3 (HL3.out.neTab HU3.out.wt))); (obtain ⟨d1, d2, d3, d4⟩ := HKp.out _ _ _ HU4.out); clear hT3 hG3)
            have hU4d := HU4.out.grew (wy := w3.drew) (Grew.refl w3).drew
            obtain ⟨w4, hup, hT4, hG4⟩ := hU4d.wt.runPut tblSS_fine HLl.out kx vx HIn.out HSk.out HSv.out
            have hup : (Instr.mapUpdate 42 (.map (some wb)) (.string kx) (.string vx)).run Try.prog w3.drew = .ok () w4 := hup
            rw [upF_two] at hT4
            have HU5 := Lib.hid (hU4d.want hG4 hT4)
            have hL4d : Box lb 3 (.int .i64 (last : Int)) w3.drew := HL4.out
            have HL5 : Hid (Box lb 3 (.int .i64 (last : Int)) w4) := Lib.hid (hL4d.keep hG4 (hL4d.neTab hU4d.wt))
            clear hU4d hT4 hG4 hL4d
            go_region
            all_goals
              go_wp2_with fail
              go_roundw
              case rel => exact ⟨K + 1, by go_num, HB2.out.1, HB2.out.2, (fun e => nomatch e), by rw [HFK.out]; exact HU5.out, HL5.out⟩
              case measure => simp [intOf]; omega
        · have HEnd : Hid (foldF ks vs F i (K - i) = F') := Lib.hid (by
            cases bl with
            | true =>
              rw [HFE.out rfl, HK3.out rfl, Nat.sub_self]
              rfl
            | false =>
              rw [HFN.out rfl]
              have : K = last + 1 := by
                have : ¬ K ≤ last := fun h => hgo ⟨h, rfl⟩
                omega
              rw [this])
          have hN := HU3.out.next (i + 3)
          rw [HEnd.out] at hN
          have e3 : ((i + 3 : Nat) : Int) = (i : Int) + 3 := rfl
          have HM1 : Hid (ptrInt (.pointer (some ⟨wr.heap.size, 0, none⟩)) (wr.alloc (.cells #[.int .i64 ((i : Int) + 3)] 3)) = i + 3) := Lib.hid (by rw [← e3, ptr_int hN.bi]; rfl)
          have HN : Hid (UtAt w w.heap.size vb fb mx x mb wb va ka (some ⟨fb1, fo, none⟩) vl vc kl kc fl fc Ls F' F' wr.heap.size (i + 3) (wr.alloc (.cells #[.int .i64 ((i : Int) + 3)] 3))) := Lib.hid (by rw [← e3]; exact hN)
          clear hN e3
          have HJ : Hid (i + 3 ≤ 33) := Lib.hid (by have := HLa.out; omega)
          by_cases hKl : K ≤ last
          · have k0 : (K : Int) ≤ (last : Int) := by omega
            obtain rfl : bl = true := by
              cases bl with
              | true => rfl
              | false => exact absurd ⟨hKl, rfl⟩ hgo
            go_wp2_with fail
            refine ⟨⟨_, i + 3, F', rfl, HJ.out, HN.out⟩, ?_⟩
            rw [HM0.out, HM1.out]
            omega
          · have k0 : ¬ (K : Int) ≤ (last : Int) := by omega
            go_wp2_with fail
            refine ⟨⟨_, i + 3, F', rfl, HJ.out, HN.out⟩, ?_⟩
            rw [HM0.out, HM1.out]
            omega
    · have i0 : ¬ (i : Int) < (n : Int) := by omega
      obtain ⟨q, hq⟩ := Tab.len2 tblSS_fine HU.out.m HU.out.wt
      have hq1 : ∀ ty, (Builtin.len_ #[42] ty #[.map (some mb)]).run Try.prog wr = .ok (.int .i64 q) wr := fun ty => (hq ty).1
      have hq2 : ∀ ty, (Builtin.len_ #[42] ty #[.map (some wb)]).run Try.prog wr = .ok (.int .i64 q) wr := fun ty => (hq ty).2
      have cm := HU.out.bm.cell
      have HLt : Hid (mb < wr.heap.size ∧ mx < wr.heap.size ∧ wb < wr.heap.size) := Lib.hid ⟨HU.out.m.lt, HU.out.bm.lt, HU.out.wt.lt⟩
      have HSt0 : Hid (Tab (tblSS Try.prog) mb F Ls wr ∧ Box mx 42 (.map (some mb)) wr ∧ Below w.heap.size w wr) := Lib.hid ⟨HU.out.m, HU.out.bm, HU.out.below⟩
      have HWt := Lib.hid HU.out.wt
      clear hq HU HM0 HLm HSt HAr
      go_wp2_with (at_range; (refine wpList_tab_range rfl _ rfl rfl HWt.out ?_); (intro w5 cnt5 hr5 hg5); (have HR5 := Lib.hid hr5); (have HG5 := Lib.hid hg5); clear hr5 hg5)
      try go_frame
      have HBw : Hid (w.heap.size ≤ wr.heap.size) := Lib.hid HSt0.out.2.2.size
      have HS5 : Hid (Tab (tblSS Try.prog) mb F Ls w5 ∧ Box mx 42 (.map (some mb)) w5 ∧ Below w.heap.size w w5) := Lib.hid ⟨HSt0.out.1.keep HG5.out fun e => e, HSt0.out.2.1.keep HG5.out fun e => e, HG5.out.below HSt0.out.2.2 HBw.out fun _ e => e.elim⟩
      clear hq1 hq2 cm HSt0 HWt HG5
      generalize wr.heap.size = r at *
      go_loopw [15] (fun _ wx => ∃ cnt, Rng wb r F cnt wx ∧ Tab (tblSS Try.prog) mb F Ls wx ∧ Box mx 42 (.map (some mb)) wx ∧ Below w.heap.size w wx) (fun _ wx => wx.rangeLeft wb r)
      case atStart => exact ⟨_, HR5.out, HS5.out.1, HS5.out.2.1, HS5.out.2.2⟩
      case round =>
        obtain ⟨cnt, hrg, hm6, hb6, hbl6⟩ := hrel
        have HRg := Lib.hid hrg
        have HM6 := Lib.hid hm6
        have HB6 := Lib.hid hb6
        have HBl6 := Lib.hid hbl6
        clear hrg hm6 hb6 hbl6 HR5 HS5
        go_wp2_with (at_next; (refine wpList_tab_next rfl _ rfl rfl HRg.out ?_ ?_))
        · go_wp2_with fail
          go_ret
          exact ⟨rfl, HBl6.out⟩
        · intro kx c w7 cnt7 hFx hsz hr7 hlt7 hg7 hen
          have hm7 := HM6.out.keep hg7 (by have := HLt.out; omega)
          have hb7 := HB6.out.keep hg7 (by have := HLt.out; omega)
          have hlk : (Instr.lookup 42 (.map (some mb)) (.string kx) true).run Try.prog w7 = .ok (.tuple #[.string c, .bool true]) w7 := by
            have := hm7.look tblSS_fine kx hsz
            rw [hFx] at this
            exact this
          have c7 := hb7.cell
          have HR7 := Lib.hid hr7
          have HM7 := Lib.hid hm7
          have HB7 := Lib.hid hb7
          have HBl7 : Hid (Below w.heap.size w w7) := Lib.hid (hg7.below HBl6.out HBl6.out.size fun q e => by rw [e]; exact HBw.out)
          have HLt7 := Lib.hid hlt7
          clear hr7 hm7 hb7 hg7 hFx hsz hlt7
          go_wp2_with fail
          go_roundw
          case rel => exact ⟨cnt7, HR7.out, HM7.out, HB7.out, HBl7.out⟩
          case measure => rw [HR7.out.left, HRg.out.left]; exact HLt7.out
end Go.Proofs.Ytdeohkkpmjgaoaa
