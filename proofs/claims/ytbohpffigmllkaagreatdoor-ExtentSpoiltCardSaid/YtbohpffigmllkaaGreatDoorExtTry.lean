/-
  ExtentCosts: the law's Try of a Put.
-/
import Derived.Test.YtbohpffigmllkaaGreatDoorExtNew
import Derived.Test.YtbohpffigmllkaaGreatDoorHeapB
namespace Go.Proofs.YtbohpffigmllkaaGreatDoor
open Go.RowKit Go.Maps Go.ChangeMaps Go.WideShapes

/-- what lies there ahead of the law's Try -/
structure TyAt (w0 : World) (b : HB) (xs kb xt xd : Nat) (D : ByteArray) (L : List (List UInt8)) (W : World) : Prop where
  ok : b.ok
  hf : b.f = 2
  hn : b.n = 18
  own : ∀ k, b.S0 k → w0.heap.size ≤ k
  st : HeapI b HS.new W
  log : LogAt b.B b.g 0 (.slice none 0 0) [] W
  sx : StAt b xs kb 8 W
  tb : Tab (tblK Tryz.prog) kb (fun _ => none) L W
  ld : Laid KK SS W
  bt : Box xt 28 (.pointer (some ⟨xs, 0, none⟩)) W
  bd : Box xd 9 (.string D) W
  sz : D.size ≤ 300
  nx : ¬ b.S0 xs
  nk : ¬ b.S0 kb
  nt : ¬ b.S0 xt
  nd : ¬ b.S0 xd
  xk : xs ≠ kb
  k0 : w0.heap.size ≤ kb
  far : ¬ b.S0 W.heap.size
  w2 : 1 < w0.heap.size
  g : Grew (fun k => w0.heap.size ≤ k) w0 W
/-- what the law's Try leaves -/
structure TyEnd (w0 : World) (b : HB) (xd : Nat) (D : ByteArray) (W : World) : Prop where
  st : ∃ b' s', b'.hb = b.hb ∧ b'.ok ∧ HeapI b' s' W ∧ (D.size = 256 → cnt s'.S 1 b'.n = costN D.data.toList)
  bd : Box xd 9 (.string D) W
  g : Grew (fun k => w0.heap.size ≤ k) w0 W
theorem Laid.grew {K : Nat → Nat} {s : Sha.St} {S : Nat → Prop} {w w' : World} (h : Laid K s w) (k : Grew S w w') (h0 : ¬ S 0) (h1 : ¬ S 1) : Laid K s w' :=
  ⟨fun j v hv => by
    have h1 := h.table.1
    rw [k.cell (p := ⟨0, 0 + j, none⟩) (by show 0 < w.heap.size; omega) h0]
    exact h.start j v hv, Nat.lt_of_lt_of_le h.table.1 k.size, fun i hi => by
    rw [k.cell (p := ⟨1, i, none⟩) h.table.1 h1]
    exact h.table.2 i hi⟩
section
variable {w0 : World} {b : HB} {xs kb xt xd : Nat} {D : ByteArray} {L : List (List UInt8)} {W : World}
theorem TyAt.hB (h : TyAt w0 b xs kb xt xd D L W) : w0.heap.size ≤ b.B := Nat.le_of_lt (Nat.lt_of_le_of_lt (h.own _ ⟨0, by decide, rfl⟩) (h.ok.lt 0 (by decide)))
theorem Tab.notFunc {F : List UInt8 → Option Int} {c : Array Value} {fz : Nat × Nat} (h : Tab (tblK Tryz.prog) kb F L W) (e : W.heap[kb]? = some (.cells c 1 fz)) : False := by
  obtain ⟨D', ⟨es, clock, e2, _⟩, _⟩ := h.own
  rw [e] at e2
  cases e2
theorem Tab.notBox {F : List UInt8 → Option Int} {t : TypeId} {v : Value} {x : Nat} (h : Tab (tblK Tryz.prog) kb F L W) (hb : Box x t v W) : x ≠ kb := fun e => by
  subst e
  obtain ⟨D', ⟨es, clock, e2, _⟩, _⟩ := h.own
  unfold Box at hb
  rw [hb] at e2
  cases e2
set_option maxRecDepth 100000 in
theorem closure_any (x y : Nat) (xs' : Nat) (D' : ByteArray) (w : World) (bx : Box x 28 (.pointer (some ⟨xs', 0, none⟩)) w) (bd : Box y 9 (.string D') w) (Q : World → Prop)
    (h : Calls Tryz.prog 14 #[.pointer (some ⟨xs', 0, none⟩), .string D'] w fun e w' => ∃ v : Int, e = .returned (.int .i64 v) ∧ Q w') :
    Calls Tryz.prog 45 #[.pointer (some ⟨x, 0, none⟩), .pointer (some ⟨y, 0, none⟩)] w fun e w' => e = .returned (.tuple #[]) ∧ Q w' := by
  have c1 := bx.cell
  have c2 := bd.cell
  have H := Lib.hid h
  clear h bx bd
  go_enter Tryz.func45, Tryz.ntmps45
  go_wp2_with fail
  refine H.out.mono ?_
  rintro e w1 ⟨v, rfl, hq⟩
  have HQ := Lib.hid hq
  clear hq H c1 c2
  go_wp2_with fail
  go_end0
  exact ⟨rfl, HQ.out⟩
set_option maxRecDepth 100000 in
theorem closure_fail (x y : Nat) (xs' : Nat) (D' : ByteArray) (w : World) (bx : Box x 28 (.pointer (some ⟨xs', 0, none⟩)) w) (bd : Box y 9 (.string D') w) (hD : ¬ D'.size = 256) (hm : D'.size ≤ maxLen) :
    Calls Tryz.prog 45 #[.pointer (some ⟨x, 0, none⟩), .pointer (some ⟨y, 0, none⟩)] w fun e w' => e = Ends (some 4) ∧ w = w' := by
  have c1 := bx.cell
  have c2 := bd.cell
  have H := Lib.hid (ePut_len xs' D' hD hm w)
  clear bx bd hD hm
  go_enter Tryz.func45, Tryz.ntmps45
  go_wp2_with fail
  refine H.out.mono ?_
  rintro e w1 ⟨rfl, rfl⟩
  clear H c1 c2
  unfold failed
  go_wp2_with fail
  exact ⟨rfl, rfl, rfl⟩
set_option maxRecDepth 100000 in
theorem tyLen (h : TyAt w0 b xs kb xt xd D L W) (hD : ¬ D.size = 256) :
    Calls Tryz.prog 12 #[.pointer (some ⟨b.hb, 0, none⟩), .func (.func 45) #[] #[.pointer (some ⟨xt, 0, none⟩), .pointer (some ⟨xd, 0, none⟩)]] W fun e w' => e = .returned (.int .i64 4) ∧ TyEnd w0 b xd D w' := by
  have ok := h.ok
  have gT := tryWorld_grew b.g 0 W
  have hgS : b.S0 b.g := ⟨1, by decide, rfl⟩
  have hsz := h.sz
  refine (hTry_any b ok _ rfl (.slice none 0 0) W h.st h.log 45 _ (fun o _ _ => o = some 4) (fun _ => by rfl) fun hl hi => ?_).mono ?_
  · refine (closure_fail xt xd xs D _ (h.bt.keep gT fun e => h.nt (e ▸ hgS)) (h.bd.keep gT fun e => h.nd (e ▸ hgS)) hD (by unfold maxLen; omega)).mono ?_
    rintro e w' ⟨rfl, rfl⟩
    exact ⟨some 4, [], _, _, rfl, hl, (fun k e => by cases e; decide), hi, Path.nil _ _, by decide, Grew.refl _, (fun e => by cases e), rfl⟩
  · rintro e w' ⟨o, s1, w1, rfl, rfl, ht⟩
    refine ⟨rfl, ⟨b, _, rfl, ok, ht.st, fun e => absurd e hD⟩, h.bd.keep ht.grew ?_, h.g.trans (ht.grew.mono fun k _ e => ?_)⟩
    · rintro (e | ⟨_, c, fz, e⟩)
      · exact h.nd e
      · have hb := h.bd
        unfold Box at hb
        rw [e] at hb
        simp at hb
    · rcases e with e | ⟨e, _⟩
      · exact h.own k e
      · exact Nat.le_trans h.hB e
set_option maxRecDepth 100000 in
theorem tyZero (h : TyAt w0 b xs kb xt xd D L W) (hD : D.size = 256) (hz : allZero D.data.toList = true) :
    Calls Tryz.prog 12 #[.pointer (some ⟨b.hb, 0, none⟩), .func (.func 45) #[] #[.pointer (some ⟨xt, 0, none⟩), .pointer (some ⟨xd, 0, none⟩)]] W fun e w' => e = .returned (.int .i64 0) ∧ TyEnd w0 b xd D w' := by
  have ok := h.ok
  have gT := tryWorld_grew b.g 0 W
  have hgS : b.S0 b.g := ⟨1, by decide, rfl⟩
  refine (hTryOk b ok HS.new W h.st h.log 45 _ (fun s1 w1 => s1 = HS.new ∧ Grew (fun _ => False) (tryWorld b.g 0 W) w1) (fun _ => by rfl) fun hin => ?_).mono ?_
  · refine (closure_any xt xd xs D _ (h.bt.keep gT fun e => h.nt (e ▸ hgS)) (h.bd.keep gT fun e => h.nd (e ▸ hgS)) (fun w' => Grew (fun _ => False) (tryWorld b.g 0 W) w') ((ePut_zero xs D hD hz _).mono ?_)).mono ?_
    · rintro e w' ⟨rfl, hg⟩
      exact ⟨0, rfl, hg⟩
    · rintro e w' ⟨rfl, hg⟩
      refine ⟨_, _, rfl, (hin.deep.keep rfl hg (fun _ _ e => e) (fun _ _ _ _ e => e)).first, GoneOk.nil rfl, ?_, rfl, hg⟩
      rw [hg.block _ (by rw [tryWorld_size]; omega) (fun e => e)]
      exact tryWorld_box b.g 0 W
  · rintro e w' ⟨s1, w5, rfl, ⟨rfl, hg⟩, hI6, _, g6⟩
    rw [HS.fin_nil b _ rfl] at hI6
    have hbd : Box xd 9 (.string D) w' := ((h.bd.keep gT fun e => h.nd (e ▸ hgS)).keep hg fun e => e).keep g6 fun e => by
      rcases e with e | e
      · exact h.nd e
      · have := h.bd.lt
        omega
    refine ⟨rfl, ⟨b, _, rfl, ok, hI6, fun _ => ?_⟩, hbd, ((h.g.trans (gT.mono fun x _ e => by rw [e]; exact h.own _ hgS)).trans (hg.mono fun _ _ e => e.elim)).trans (g6.mono fun x _ e => ?_)⟩
    · rw [h.hn]
      unfold costN
      rw [if_pos hz]
      decide
    · rcases e with e | e
      · exact h.own x e
      · have := h.g.size
        omega
set_option maxRecDepth 100000 in
theorem tyNew (h : TyAt w0 b xs kb xt xd D L W) (hD : D.size = 256) (hz : allZero D.data.toList = false) (hL : L = [txt (headF (Sha.dg (shaOf D.data.toList)) 8)]) :
    Calls Tryz.prog 12 #[.pointer (some ⟨b.hb, 0, none⟩), .func (.func 45) #[] #[.pointer (some ⟨xt, 0, none⟩), .pointer (some ⟨xd, 0, none⟩)]] W fun e w' => e = .returned (.int .i64 0) ∧ TyEnd w0 b xd D w' := by
  have ok := h.ok
  have gT := tryWorld_grew b.g 0 W
  have hgS : b.S0 b.g := ⟨1, by decide, rfl⟩
  have hbn := h.hn
  have hbf := h.hf
  have hTs : (tryWorld b.g 0 W).heap.size = W.heap.size + 1 := tryWorld_size _ _ _
  have hT0 : Tab (tblK Tryz.prog) kb (fun _ => none) L (tryWorld b.g 0 W) := h.tb.keep gT fun e => h.nk (e ▸ hgS)
  have hd0 : Box xd 9 (.string D) (tryWorld b.g 0 W) := h.bd.keep gT fun e => h.nd (e ▸ hgS)
  have hld : Laid KK SS (tryWorld b.g 0 W) := h.ld.grew gT (fun e => by have := h.own _ hgS; have := h.w2; omega) (fun e => by have := h.own _ hgS; have := h.w2; omega)
  refine (hTryU b ok HS.new W h.st h.log 45 _ (fun s1 U w1 => s1.G = [] ∧ cnt s1.S 1 b.n = costN D.data.toList ∧ Grew (fun q => Mut b.B b.S0 (tryWorld b.g 0 W) q ∨ q = kb) (tryWorld b.g 0 W) w1) (fun _ => by rfl) fun hin => ?_).mono ?_
  · have hp : PtAt b HS.new 0 [] 0 xs kb 8 (fun _ => none) L (tryWorld b.g 0 W) := ⟨hin.deep, (gT.block xs (h.sx.pl (S0 := b.S0) h.nx).lt (fun e => h.nx (e ▸ hgS))).trans h.sx, hT0⟩
    have hput := ePut_any b ok (by omega) HS.new rfl (by decide) (by rw [hbn]; decide) 0 0 (by decide) (by decide) [] xs kb 8 (by decide) h.nx h.nk h.xk (fun _ => none) L D hD hz _ _ (headF (Sha.dg (shaOf D.data.toList)) 8) rfl rfl rfl (by rw [hL]; simp) (by rw [hL]; simp) hp hld
    refine (closure_any xt xd xs D _ (h.bt.keep gT fun e => h.nt (e ▸ hgS)) hd0 (fun w' => ∃ v, PtEnd b HS.new 0 [] 0 xs kb 8 (fun _ => none) L D (Sha.dg (shaOf D.data.toList)) (txt (headF (Sha.dg (shaOf D.data.toList)) 8)) v (tryWorld b.g 0 W) w') (hput.mono ?_)).mono ?_
    · rintro e w' ⟨v, rfl, hq⟩
      exact ⟨_, rfl, v, hq⟩
    · rintro e w' ⟨rfl, v, hq⟩
      obtain ⟨a, J, s1, U, j, h1, rfl, h3, h4, h5, h6⟩ := hq.wr
      obtain ⟨i1, i2, i3, i4, i5, i6⟩ := h1.same
      have hG2 : (s1.put j ((b.f + j : Nat) : Int)).G = [] := i2
      refine ⟨_, _, _, rfl, h6.first, GoneOk.nil hG2, ?_, hG2, ?_, hq.g⟩
      · rw [hq.g.block _ (by omega) ?_]
        · exact tryWorld_box b.g 0 W
        · rintro ((m | m) | m)
          · exact h.far m
          · exact notFunc_err (tryWorld_box b.g 0 W) m
          · have := h.tb.lt
            omega
      · have hc := (cnt_put s1.S j b.n h3 h4).2
        show cnt (upd s1.S j 1) 1 b.n = _
        rw [hc, i4, i5]
        unfold costN
        rw [if_neg (by rw [hz]; decide), show D.data.toList.length = D.size by simp, hD, hbn]
        have h0 : cnt HS.new.S 1 18 = 0 := by decide
        rw [h0, show (256 + 63) / 64 = 4 by decide]
        omega
  · rintro e w' ⟨s1, U, w5, rfl, ⟨hG, hc, hg⟩, hI6, _, g6⟩
    rw [HS.fin_nil b _ hG] at hI6
    have hbd : Box xd 9 (.string D) w' := by
      refine (hd0.keep hg ?_).keep g6 ?_
      · rintro ((e | ⟨_, c, fz, e⟩) | e)
        · exact h.nd e
        · unfold Box at hd0
          rw [e] at hd0
          simp at hd0
        · exact h.tb.notBox h.bd e
      · rintro (e | e)
        · exact h.nd e.in0
        · have := h.bd.lt
          omega
    refine ⟨rfl, ⟨b.at U, _, rfl, ok.at U, hI6, fun _ => hc⟩, hbd, ((h.g.trans (gT.mono fun x _ e => by rw [e]; exact h.own _ hgS)).trans (hg.mono fun x _ e => ?_)).trans (g6.mono fun x _ e => ?_)⟩
    · rcases e with (e | ⟨e, _⟩) | e
      · exact h.own x e
      · exact Nat.le_trans h.hB e
      · rw [e]
        exact h.k0
    · rcases e with e | e
      · exact h.own x e.in0
      · have := h.g.size
        omega
end
end Go.Proofs.YtbohpffigmllkaaGreatDoor
