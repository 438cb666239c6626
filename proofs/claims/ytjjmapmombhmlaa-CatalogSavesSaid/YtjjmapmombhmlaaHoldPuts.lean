/-
  Texts put together: HeapDeep, HoldPut.
-/
import Derived.Test.YtjjmapmombhmlaaHeapIn
/-
  A heap within Tries of any depth that don't fail; holding.Whole and holding.Put in one: contracts.
-/
namespace Go.Proofs.Ytjjmapmombhmlaa
open Go.RowKit Go.Maps Go.ChangeMaps Go.WideShapes

/-- a heap whose gone ones are none keeps what leaves its own blocks alone -/
theorem HeapI.keepNil {b : HB} {s : HS} {w w' : World} {T : Nat → Prop} (h : HeapI b s w) (hG : s.G = []) (k : Grew T w w') (h0 : ∀ i, i < 9 → ¬ T (b.blk i)) : HeapI b s w' := by
  have h1 := (h.rebase hG w.heap.size (Nat.le_refl _)).keep k (fun i hi => by rw [b.blk_at _ i hi]; exact h0 i hi) (fun r hr hk e => by
    obtain ⟨c, fz, e1⟩ := hk
    have hr : w.heap.size ≤ r := hr
    rw [Array.getElem?_eq_none hr] at e1
    cases e1)
  exact ⟨h1.c0, h1.c1, h1.c2, h1.c3, h1.c4, ⟨.slice none 0 0, h1.nl hG, by rw [hG]; exact World.ownsRow_nil _ _ _ _⟩, h1.c6, h1.fr, h1.gr, h1.rf, h1.yg, h1.dk, Nat.le_trans h.sz k.size, h1.kd, h1.nl⟩
theorem Box.pl {S0 : Nat → Prop} {b : Nat} {t : TypeId} {x : Value} {w : World} (h : Box b t x w) (hs : ¬ S0 b) (h1 : t ≠ 1) (h2 : t ≠ 45) : Plain S0 w b := ⟨hs, _, _, _, h, h1, h2⟩
/-- a heap in Tries, behind some steps that the log has -/
structure InL (b : HB) (s : HS) (dp : Nat) (f0 : List Step) (n : Nat) (w : World) : Prop where
  log : ∃ v fs, (f0 ++ fs).length ≤ n ∧ LogAt b.B b.g dp v (f0 ++ fs) w
  st : HeapI b s w
theorem InTry.deep {b : HB} {s : HS} {n : Nat} {w : World} (h : InTry b s n w) : InL b s 1 [] n w := by
  obtain ⟨⟨v, fs, n1, l⟩, i⟩ := h
  exact ⟨⟨v, fs, by rw [List.nil_append]; exact n1, by rw [List.nil_append]; exact l⟩, i⟩
theorem InL.first {b : HB} {s : HS} {n : Nat} {w : World} (h : InL b s 1 [] n w) : InTry b s n w := by
  obtain ⟨⟨v, fs, n1, l⟩, i⟩ := h
  rw [List.nil_append] at n1 l
  exact ⟨⟨v, fs, n1, l⟩, i⟩
theorem InL.of {b : HB} {s s' : HS} {dp m n : Nat} {f0 fs : List Step} {w w' : World} (hf : (f0 ++ fs).length ≤ n) (h : Did b.B b.g dp b.S0 (HeapI b) (f0 ++ fs) m s s' w w') : InL b s' (dp + 1) f0 (n + m) w' := by
  obtain ⟨⟨v, fs', l, n1, _⟩, i, _⟩ := h
  rw [List.append_assoc] at l
  exact ⟨⟨v, fs ++ fs', by rw [← List.append_assoc, List.length_append]; omega, l⟩, i⟩
section
variable {b : HB} {s : HS} {dp n : Nat} {f0 : List Step} {w w' : World}
theorem InL.keep {T : Nat → Prop} (h : InL b s dp f0 n w) (hG : s.G = []) (k : Grew T w w') (h0 : ∀ x, b.S0 x → ¬ T x) (h1 : ∀ r c fz, w.heap[r]? = some (.cells c 1 fz) → ¬ T r) : InL b s dp f0 n w' := by
  obtain ⟨⟨v, fs, n1, l⟩, i⟩ := h
  exact ⟨⟨v, fs, n1, l.keep k (h0 _ ⟨1, by decide, rfl⟩) fun q hq => by
    obtain ⟨c, fz, e⟩ := Lib.ownsRow_kind l.row q hq
    exact h1 q c fz e⟩, i.keepNil hG k fun j hj => h0 _ ⟨j, hj, rfl⟩⟩
theorem InL.drew (h : InL b s dp f0 n w) : InL b s dp f0 n w.drew := by
  obtain ⟨⟨v, fs, n1, l⟩, i⟩ := h
  exact ⟨⟨v, fs, n1, l.drew'⟩, i.drew⟩
theorem InL.alloc (h : InL b s dp f0 n w) (hG : s.G = []) (o : Obj) : InL b s dp f0 n (w.alloc o) := h.keep hG ((Grew.refl (S := fun _ => False) w).alloc o) (fun _ _ e => e) fun _ _ _ _ e => e
/-- a box is written -/
theorem InL.box (h : InL b s dp f0 n w) (hG : s.G = []) {x : Nat} {t : TypeId} {u v : Value} (hx : Box x t u w) (ht : t ≠ 1) (hS : ¬ b.S0 x) : InL b s dp f0 n (w.setCell ⟨x, 0, none⟩ v) := h.keep hG ((Grew.refl (S := fun q => q = x) w).setCell _ _ fun _ => rfl) (fun q hq e => hS (e ▸ hq)) fun r c fz hr e => by
  subst e
  unfold Box at hx
  rw [hx] at hr
  simp at hr
  exact ht hr.2.1
theorem InL.size (h : InL b s dp f0 n w) : b.B ≤ w.heap.size := h.st.sz
theorem lPut (ok : b.ok) (t : ByteArray) (ht : t.size ≤ 64) (hK0 : 0 ≤ s.K) (hK : s.K < (cnt s.S 0 b.n : Nat)) (hn : n < 80000) (h : InL b s (dp + 1) f0 n w) : Calls Try.prog 29 #[.pointer (some ⟨b.hb, 0, none⟩), .string t] w fun e w' => ∃ j, j < b.n ∧ s.S j = 0 ∧ (∀ i, i < j → ¬ s.S i = 0) ∧ e = .returned (.int .i64 ((b.f + j : Nat) : Int)) ∧ InL (b.at (wroteT b.T (b.f + j) t)) (s.put j ((b.f + j : Nat) : Int)) (dp + 1) f0 (n + 3) w' ∧ Grew (Mut b.B b.S0 w) w w' := by
  obtain ⟨⟨v, fs, n1, l⟩, i⟩ := h
  refine (put1_any b ok s t ht hK0 hK dp v (f0 ++ fs) w (by omega) i l).mono ?_
  rintro e w' ⟨j, a1, a2, a3, a4, hd⟩
  exact ⟨j, a1, a2, a3, a4, InL.of (b := (b.at (wroteT b.T (b.f + j) t))) n1 hd, hd.grew⟩
set_option maxRecDepth 100000 in
set_option maxHeartbeats 1000000 in
/-- a Try within a Try, that doesn't fail -/
theorem lTry (ok : b.ok) (hdp : 0 < dp) (hd : dp < 100000) (h : InL b s dp f0 n w) (run : FuncId) (cap : Array Value) (R : HS → Nat → (Nat → UInt8) → World → Prop)
    (hcall : ∀ wy : World, (callFunc run cap).run Try.prog wy = .ok (.enter run cap) wy)
    (hrun : ∀ f1, InL b s (dp + 1) f1 n (tryWorld b.g dp w) → Calls Try.prog run cap (tryWorld b.g dp w) fun e w' => ∃ s1 n1 U, e = .returned (.tuple #[]) ∧ InL (b.at U) s1 (dp + 1) f1 n1 w' ∧ s1.G = [] ∧ w'.heap[w.heap.size]? = some errBox ∧ R s1 n1 U w') :
    Calls Try.prog 23 #[.pointer (some ⟨b.hb, 0, none⟩), .func (.func run) #[] cap] w fun e w' => ∃ s1 n1 U w1, e = .returned (.int .i64 0) ∧ R s1 n1 U w1 ∧ InL (b.at U) s1 dp f0 n1 w' ∧ Grew (fun k => k = b.g ∨ k = w.heap.size) w1 w' ∧ w.heap.size < w1.heap.size := by
  obtain ⟨⟨v, fs, n1, l⟩, i⟩ := h
  have hsz := i.sz
  have hne : ¬ dp = 0 := by omega
  have i0 : HeapI b s (tryWorld b.g dp w) := ((heapLogged ok).set _ _ 0 (.int .i64 ((dp + 1 : Nat) : Int)) (by decide) i).alloc errBox
  have l0 : LogAt b.B b.g (dp + 1) v (f0 ++ fs) (tryWorld b.g dp w) := (l.deep (dp + 1)).keepAlloc _
  have HT := Lib.hid (try_any b.B b.g dp v (f0 ++ fs) run cap w l hd
    (fun o fs' w' => o = none ∧ ∃ s1 n1 U, HeapI (b.at U) s1 w' ∧ s1.G = [] ∧ (f0 ++ fs ++ fs').length ≤ n1 ∧ R s1 n1 U w') (fun _ _ => False) hcall
    ((hrun (f0 ++ fs) ⟨⟨v, [], by rw [List.append_nil]; exact n1, by rw [List.append_nil]; exact l0⟩, i0⟩).mono (by
      rintro e w' ⟨s1, n2, U, rfl, ⟨⟨v2, fs2, hl2, l2⟩, i2⟩, hG, hbx, hR⟩
      exact ⟨none, fs2, v2, rfl, hbx, l2, (fun _ e => by cases e), rfl, s1, n2, U, i2, hG, hl2, hR⟩))
    (by
      rintro k fs' v' w' _ _ ⟨e, _⟩
      cases e))
  have c1 := i.c1
  have hdz : ((dp : Int) == 0) = false := by rw [beq_eq_false_iff_ne]; omega
  clear hrun i0 l0 l i n1
  go_enter Try.func23, Try.ntmps23
  go_wp2_with fail
  refine HT.out.mono ?_
  rintro e w2 ⟨o, rfl, w3, rfl, hend⟩
  have hmid : o = none ∧ ∃ s1 n1 U w1, R s1 n1 U w1 ∧ InL (b.at U) s1 dp f0 n1 (endTry b.g dp w3) ∧ Grew (fun k => k = b.g ∨ k = w.heap.size) w1 (endTry b.g dp w3) ∧ w.heap.size < w1.heap.size := by
    rcases hend with ⟨rfl, fs', w1, ⟨_, s1, n2, U, i, hG, hl, hR⟩, hbx, rfl, v', l⟩ | ⟨k, _, _, hf, _⟩
    · have hlt : w.heap.size < w1.heap.size := by
        rcases Nat.lt_or_ge w.heap.size w1.heap.size with e | e
        · exact e
        · rw [Array.getElem?_eq_none e] at hbx; cases hbx
      have gd := done_alone w.heap.size none w1
      have i1 : HeapI (b.at U) s1 (done w.heap.size none w1) := i.keep gd (fun j hj e => by have := (ok.at U).lt j hj; have e9 : (b.at U).B = b.B := rfl; omega) fun r hr hk e => by
        obtain ⟨c, fz, e1⟩ := hk
        have e : r = w.heap.size := e
        rw [e, hbx] at e1
        simp [errBox] at e1
      have i2 : HeapI (b.at U) s1 (endTry b.g dp (done w.heap.size none w1)) := by
        unfold endTry
        rw [if_neg hne]
        exact (heapLogged (ok.at U)).set _ _ 0 _ (by decide) i1
      obtain ⟨v2, l2⟩ := l.endTry (dp := dp)
      rw [if_neg hne, List.append_assoc] at l2
      refine ⟨rfl, s1, n2, U, w1, hR, ⟨⟨v2, fs ++ fs', by rw [← List.append_assoc]; exact hl, l2⟩, i2⟩, ?_, hlt⟩
      have ge : Grew (fun k => k = b.g) (done w.heap.size none w1) (endTry b.g dp (done w.heap.size none w1)) := by
        unfold endTry
        rw [if_neg hne]
        exact (Grew.refl _).setCell _ _ fun _ => rfl
      exact (gd.mono fun x _ e => Or.inr e).step ge fun x _ e => Or.inl e
    · exact hf.elim
  obtain ⟨rfl, s1, n2, U, w1, hR, hin, g2, hlt⟩ := hmid
  generalize endTry b.g dp w3 = w2 at *
  obtain ⟨v5, fs5, n5, l5⟩ := hin.log
  have HD := Lib.hid (deep0_any b.B b.g dp _ _ w2 l5)
  have c1 := hin.st.c1
  have HIn := Lib.hid hin
  have HR := Lib.hid hR
  have HG2 := Lib.hid g2
  have HLt := Lib.hid hlt
  clear hend HT hin hR g2 hlt l5 n5
  go_wp2_with fail
  refine HD.out.mono ?_
  rintro e w4 ⟨rfl, rfl⟩
  clear HD
  go_wp2_with fail
  go_ret
  exact ⟨s1, n2, U, w1, rfl, HR.out, HIn.out, HG2.out, HLt.out⟩
/-- holding.Whole of a Try that doesn't fail -/
theorem whole_ok (hb : Value) (run : Value) (Q : World → Prop) (h : Calls Try.prog 23 #[hb, run] w fun e w' => e = .returned (.int .i64 0) ∧ Q w') :
    Calls Try.prog 78 #[hb, run] w fun e w' => e = .returned (.tuple #[]) ∧ Q w' := by
  have H := Lib.hid h
  clear h
  go_enter Try.func78, Try.ntmps78
  go_wp2_with fail
  refine H.out.mono ?_
  rintro e w1 ⟨rfl, hq⟩
  have HQ := Lib.hid hq
  clear hq
  go_wp2_with fail
  go_end0
  exact ⟨rfl, HQ.out⟩
/-- what holding.Put runs -/
theorem hput1_any (ok : b.ok) (hf : 1 ≤ b.f) (hG : s.G = []) (t : ByteArray) (ht : t.size ≤ 64) (hK0 : 0 ≤ s.K) (hK : s.K < (cnt s.S 0 b.n : Nat)) (hn : n < 80000) (xh xs xa : Nat) (h : InL b s (dp + 1) f0 n w) (bh : Box xh 43 (.pointer (some ⟨b.hb, 0, none⟩)) w) (bs : Box xs 9 (.string t) w) (ba : Box xa 3 (.int .i64 0) w) (sa : ¬ b.S0 xa) :
    Calls Try.prog 114 #[.pointer (some ⟨xh, 0, none⟩), .pointer (some ⟨xs, 0, none⟩), .pointer (some ⟨xa, 0, none⟩)] w fun e w' => ∃ j, j < b.n ∧ s.S j = 0 ∧ (∀ i, i < j → ¬ s.S i = 0) ∧ e = .returned (.tuple #[]) ∧ InL (b.at (wroteT b.T (b.f + j) t)) (s.put j ((b.f + j : Nat) : Int)) (dp + 1) f0 (n + 3) w' ∧ Box xa 3 (.int .i64 ((b.f + j : Nat) : Int)) w' ∧ Grew (fun k => Mut b.B b.S0 w k ∨ k = xa) w w' := by
  have HP := Lib.hid (lPut ok t ht hK0 hK hn h)
  have c1 := bh.cell
  have c2 := bs.cell
  have HA := Lib.hid ba
  have HHn := Lib.hid (hG)
  clear h hK0 hK hG
  go_enter Try.func114, Try.ntmps114
  go_wp2_with fail
  refine HP.out.mono ?_
  rintro e w1 ⟨j, hj, h0, hmin, rfl, hin, hg⟩
  have kk := Kept.of hg
  have ba1 : Box xa 3 (.int .i64 0) w1 := (kk _ (Box.pl HA.out sa (by decide) (by decide))).trans HA.out
  have HIn := Lib.hid (hin.box (v := .int .i64 ((b.f + j : Nat) : Int)) HHn.out ba1 (by decide) sa)
  have HB2 := Lib.hid (ba1.set (.int .i64 ((b.f + j : Nat) : Int)))
  have HG2 : Hid (Grew (fun k => Mut b.B b.S0 w k ∨ k = xa) w (w1.setCell ⟨xa, 0, none⟩ (.int .i64 ((b.f + j : Nat) : Int)))) := Lib.hid ((hg.mono fun x _ e => Or.inl e).setCell _ _ fun _ => Or.inr rfl)
  have d1 := ba1.cell
  have d2 := ba1.free
  have d3 := HB2.out.cell
  have hz : (((b.f + j : Nat) : Int) == 0) = false := by rw [beq_eq_false_iff_ne]; omega
  have HFin : Hid (j < b.n ∧ s.S j = 0 ∧ (∀ i, i < j → ¬ s.S i = 0)) := Lib.hid ⟨hj, h0, hmin⟩
  clear hin hg kk ba1 HP c1 c2 bh bs ba hj h0 hmin hf HHn
  obtain ⟨T, hT⟩ : ∃ T, ((b.f + j : Nat) : Int) = T := ⟨_, rfl⟩
  rw [hT] at HIn HB2 HG2 d3 hz ⊢
  have HT := Lib.hid hT
  clear hT
  obtain ⟨W, hW⟩ : ∃ W, w1.setCell ⟨xa, 0, none⟩ (.int .i64 T) = W := ⟨_, rfl⟩
  rw [hW] at HIn HB2 HG2 d3
  go_upto_region 1 with fail
  clear hW d1 d2
  go_wp2_with fail
  go_end0
  refine ⟨j, HFin.out.1, HFin.out.2.1, HFin.out.2.2, rfl, ?_⟩
  rw [HT.out]
  exact ⟨HIn.out, HB2.out, HG2.out⟩
end
end Go.Proofs.Ytjjmapmombhmlaa

/-
  holding.Put within a Try of a heap: contract.
-/
namespace Go.Proofs.Ytjjmapmombhmlaa
open Go.RowKit Go.Maps Go.ChangeMaps Go.WideShapes

theorem HB.far {b : HB} (ok : b.ok) {x : Nat} (hx : b.B ≤ x) : ¬ b.S0 x := by
  rintro ⟨i, hi, rfl⟩
  have := ok.lt i hi
  omega
section
variable {b : HB} {s : HS} {dp n : Nat} {f0 : List Step} {w w' : World}
/-- holding.Put's three boxes, made -/
structure HpAt (b : HB) (s : HS) (dp : Nat) (f0 : List Step) (n x : Nat) (t : ByteArray) (w W : World) : Prop where
  inl : InL b s dp f0 n W
  bh : Box x 43 (.pointer (some ⟨b.hb, 0, none⟩)) W
  bs : Box (x + 1) 9 (.string t) W
  ba : Box (x + 1 + 1) 3 (.int .i64 0) W
  sz : W.heap.size = x + 3
  hx : w.heap.size = x
  g : Grew (fun _ => False) w W
theorem hpAt (hG : s.G = []) (t : ByteArray) (h : InL b s dp f0 n w) : HpAt b s dp f0 n w.heap.size t w (((w.alloc (.cells #[.pointer (some ⟨b.hb, 0, none⟩)] 43)).alloc (.cells #[.string t] 9)).alloc (.cells #[.int .i64 0] 3)) := by
  have s1 : (w.alloc (.cells #[.pointer (some ⟨b.hb, 0, none⟩)] 43)).heap.size = w.heap.size + 1 := by simp
  have s2 : ((w.alloc (.cells #[.pointer (some ⟨b.hb, 0, none⟩)] 43)).alloc (.cells #[.string t] 9)).heap.size = w.heap.size + 1 + 1 := by simp
  have x1 := Box.new w 43 (.pointer (some ⟨b.hb, 0, none⟩))
  have x2 := Box.new (w.alloc (.cells #[.pointer (some ⟨b.hb, 0, none⟩)] 43)) 9 (.string t)
  have x3 := Box.new ((w.alloc (.cells #[.pointer (some ⟨b.hb, 0, none⟩)] 43)).alloc (.cells #[.string t] 9)) 3 (.int .i64 0)
  rw [s1] at x2
  rw [s2] at x3
  exact ⟨((h.alloc hG _).alloc hG _).alloc hG _, (x1.keepAlloc _).keepAlloc _, x2.keepAlloc _, x3, by simp, rfl, (((Grew.refl w).alloc _).alloc _).alloc _⟩
theorem HpAt.set0 {x : Nat} {t : ByteArray} {W : World} (ok : b.ok) (hG : s.G = []) (hsz : b.B ≤ w.heap.size) (h : HpAt b s dp f0 n x t w W) : HpAt b s dp f0 n x t w (W.setCell ⟨x + 1 + 1, 0, none⟩ (.int .i64 0)) := by
  have hx := h.hx
  exact ⟨h.inl.box hG h.ba (by decide) (HB.far ok (by omega)), h.bh.keepSet _ _ _ (by omega), h.bs.keepSet _ _ _ (by omega), h.ba.set _, by rw [World.size_setCell]; exact h.sz, hx, h.g.setCell _ _ fun e => by
    have e : x + 1 + 1 < w.heap.size := e
    omega⟩
/-- what holding.Put's Try leaves -/
structure HpEnd (b : HB) (s : HS) (dp : Nat) (f0 : List Step) (n xa : Nat) (t : ByteArray) (w : World) (j : Nat) (w' : World) : Prop where
  lt : j < b.n
  free : s.S j = 0
  min : ∀ i, i < j → ¬ s.S i = 0
  inl : InL (b.at (wroteT b.T (b.f + j) t)) (s.put j ((b.f + j : Nat) : Int)) dp f0 (n + 3) w'
  ba : Box xa 3 (.int .i64 ((b.f + j : Nat) : Int)) w'
  g : Grew (Mut b.B b.S0 w) w w'
set_option maxRecDepth 100000 in
theorem hpTry (ok : b.ok) (hf : 1 ≤ b.f) (hG : s.G = []) (t : ByteArray) (ht : t.size ≤ 64) (hK0 : 0 ≤ s.K) (hK : s.K < (cnt s.S 0 b.n : Nat)) (hn : n < 80000) (hdp : 0 < dp) (hd : dp < 100000) (x : Nat) {W : World} (h : HpAt b s dp f0 n x t w W) (hsz : b.B ≤ w.heap.size) :
    Calls Try.prog 23 #[.pointer (some ⟨b.hb, 0, none⟩), .func (.func 114) #[] #[.pointer (some ⟨x, 0, none⟩), .pointer (some ⟨x + 1, 0, none⟩), .pointer (some ⟨x + 1 + 1, 0, none⟩)]] W fun e w' => e = .returned (.int .i64 0) ∧ ∃ j, HpEnd b s dp f0 n (x + 1 + 1) t w j w' := by
  have hx := h.hx
  have hWs := h.sz
  have f1 : ¬ b.S0 x := HB.far ok (by omega)
  have f2 : ¬ b.S0 (x + 1) := HB.far ok (by omega)
  have f3 : ¬ b.S0 (x + 1 + 1) := HB.far ok (by omega)
  have f4 : ¬ b.S0 W.heap.size := HB.far ok (by omega)
  have gT := tryWorld_grew b.g dp W
  have hgS : b.S0 b.g := ⟨1, by decide, rfl⟩
  have bT : ∀ {y : Nat} {ty : TypeId} {v : Value}, Box y ty v W → ¬ b.S0 y → Box y ty v (tryWorld b.g dp W) := fun h hs => h.keep gT fun e => hs (e ▸ hgS)
  refine (lTry ok hdp hd h.inl _ _ (fun s1 n1 U w1 => ∃ j, j < b.n ∧ s.S j = 0 ∧ (∀ i, i < j → ¬ s.S i = 0) ∧ s1 = s.put j ((b.f + j : Nat) : Int) ∧ n1 = n + 3 ∧ U = wroteT b.T (b.f + j) t ∧ Box (x + 1 + 1) 3 (.int .i64 ((b.f + j : Nat) : Int)) w1 ∧ Grew (Mut b.B b.S0 w) w w1) (fun _ => by rfl) ?_).mono ?_
  · intro f1' hin
    refine (hput1_any ok hf hG t ht hK0 hK hn x (x + 1) (x + 1 + 1) hin (bT h.bh f1) (bT h.bs f2) (bT h.ba f3) f3).mono ?_
    rintro e w1 ⟨j, hj, h0, hmin, rfl, hi, hb, hg⟩
    refine ⟨_, _, _, rfl, hi, hG, ?_, j, hj, h0, hmin, rfl, rfl, rfl, hb, ?_⟩
    · rw [hg.block _ (by rw [tryWorld_size]; omega) ?_]
      · exact tryWorld_box b.g dp W
      · rintro (m | m)
        · rcases m with m | m
          · exact f4 m
          · exact notFunc_err (tryWorld_box b.g dp W) m
        · omega
    · have g1 : Grew (Mut b.B b.S0 w) w (tryWorld b.g dp W) := (h.g.mono fun _ _ e => e.elim).step gT fun y _ e => Or.inl (e ▸ hgS)
      exact g1.step hg fun y hy m => by
        rcases m with m | m
        · exact Mut.back g1 hy m
        · omega
  · rintro e w' ⟨s1, n1, U, w1, rfl, ⟨j, hj, h0, hmin, rfl, rfl, rfl, hb, hg⟩, hin, g2, _⟩
    refine ⟨rfl, j, hj, h0, hmin, hin, hb.keep g2 ?_, hg.step g2 fun y hy e => ?_⟩
    · rintro (e | e)
      · exact f3 (e ▸ hgS)
      · omega
    · rcases e with e | e
      · exact Or.inl (e ▸ hgS)
      · omega
set_option maxRecDepth 100000 in
theorem hPut_any (ok : b.ok) (hf : 1 ≤ b.f) (hG : s.G = []) (t : ByteArray) (ht : t.size ≤ 64) (hK0 : 0 ≤ s.K) (hK : s.K < (cnt s.S 0 b.n : Nat)) (hn : n < 80000) (hdp : 0 < dp) (hd : dp < 100000) (h : InL b s dp f0 n w) :
    Calls Try.prog 81 #[.pointer (some ⟨b.hb, 0, none⟩), .string t] w fun e w' => ∃ j, j < b.n ∧ s.S j = 0 ∧ (∀ i, i < j → ¬ s.S i = 0) ∧ e = .returned (.int .i64 ((b.f + j : Nat) : Int)) ∧ InL (b.at (wroteT b.T (b.f + j) t)) (s.put j ((b.f + j : Nat) : Int)) dp f0 (n + 3) w' ∧ Grew (Mut b.B b.S0 w) w w' := by
  have hmf : ∀ (fn : Fn) (first cap : Array Value) (w : World), (Instr.makeFunc fn first cap).run Try.prog w = .ok (.func fn first cap) w := fun _ _ _ _ => rfl
  have HA := hpAt hG t h
  have hsz := h.size
  have c0 := HA.bh.cell
  obtain ⟨W, hW⟩ : ∃ W, (((w.alloc (.cells #[.pointer (some ⟨b.hb, 0, none⟩)] 43)).alloc (.cells #[.string t] 9)).alloc (.cells #[.int .i64 0] 3)) = W := ⟨_, rfl⟩
  rw [hW] at HA c0
  have q1 := HA.ba.cell
  have q2 := HA.ba.free
  replace HA := HA.set0 ok hG hsz
  obtain ⟨V, hV⟩ : ∃ V, W.setCell ⟨w.heap.size + 1 + 1, 0, none⟩ (.int .i64 0) = V := ⟨_, rfl⟩
  rw [hV] at HA
  have c1 := HA.bh.cell
  have HT := Lib.hid (whole_ok _ _ _ (hpTry ok hf hG t ht hK0 hK hn hdp hd w.heap.size HA hsz))
  clear h HA hsz
  go_enter Try.func81, Try.ntmps81
  go_wp2_with fail
  refine HT.out.mono ?_
  rintro e w1 ⟨rfl, j, hE⟩
  have c5 := hE.ba.cell
  have HE := Lib.hid hE
  clear hE HT
  go_wp2_with fail
  go_ret
  exact ⟨j, HE.out.lt, HE.out.free, HE.out.min, rfl, HE.out.inl, HE.out.g⟩
end
end Go.Proofs.Ytjjmapmombhmlaa
