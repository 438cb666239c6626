/-
  A heap within an outermost Try that doesn't fail: contracts.
-/
import Derived.Test.YtjjmapmombhmlaaHeapNew
namespace Go.Proofs.Ytjjmapmombhmlaa
open Go.RowKit Go.Maps Go.ChangeMaps Go.WideShapes

theorem HB.blk_at (b : HB) (B' : Nat) (i : Nat) (hi : i < 9) : ({ b with B := B' } : HB).blk i = b.blk i := by
  rcases nine i hi with rfl | rfl | rfl | rfl | rfl | rfl | rfl | rfl | rfl <;> rfl
theorem HB.ok_at {b : HB} (ok : b.ok) (B' : Nat) (h : b.B ≤ B') : ({ b with B := B' } : HB).ok where
  nd := fun i j hi hj hne => by rw [b.blk_at B' i hi, b.blk_at B' j hj]; exact ok.nd i j hi hj hne
  lt := fun i hi => by rw [b.blk_at B' i hi]; exact Nat.lt_of_lt_of_le (ok.lt i hi) h
  f := ok.f
  n := ok.n
/-- what lies in front of a Try can lie below it -/
theorem HeapI.rebase {b : HB} {s : HS} {w : World} (h : HeapI b s w) (hG : s.G = []) (B' : Nat) (hw : B' ≤ w.heap.size) : HeapI { b with B := B' } s w :=
  ⟨h.c0, h.c1, h.c2, h.c3, h.c4, ⟨.slice none 0 0, h.nl hG, by rw [hG]; exact World.ownsRow_nil _ _ _ _⟩, h.c6, h.fr, h.gr, h.rf, h.yg, h.dk, hw, h.kd, h.nl⟩
/-- a heap in a Try, at most so many steps behind its beginning -/
structure InTry (b : HB) (s : HS) (n : Nat) (w : World) : Prop where
  log : ∃ v fs, fs.length ≤ n ∧ LogAt b.B b.g 1 v fs w
  st : HeapI b s w
theorem InTry.of {b : HB} {s s' : HS} {m n : Nat} {fs : List Step} {w w' : World} (hf : fs.length ≤ n) (h : Did b.B b.g 0 b.S0 (HeapI b) fs m s s' w w') : InTry b s' (n + m) w' := by
  obtain ⟨⟨v, fs', l, n1, _⟩, i, _⟩ := h
  exact ⟨⟨v, fs ++ fs', by rw [List.length_append]; omega, l⟩, i⟩
theorem InTry.drew {b : HB} {s : HS} {n : Nat} {w : World} (h : InTry b s n w) : InTry b s n w.drew := by
  obtain ⟨⟨v, fs, n1, l⟩, i⟩ := h
  exact ⟨⟨v, fs, n1, l.drew'⟩, i.drew⟩
/-- a box that was there ahead of the Try is written -/
theorem InTry.box {b : HB} {s : HS} {n : Nat} {w : World} (h : InTry b s n w) {x : Nat} {v : Value} (hS : ¬ b.S0 x) (hB : x < b.B) : InTry b s n (w.setCell ⟨x, 0, none⟩ v) := by
  have k : Grew (fun q => q = x) w (w.setCell ⟨x, 0, none⟩ v) := (Grew.refl w).setCell _ _ fun _ => rfl
  obtain ⟨⟨lv, fs, n1, l⟩, i⟩ := h
  refine ⟨⟨lv, fs, n1, l.keep k (fun e => hS ⟨1, by decide, e.symm⟩) fun q hq e => ?_⟩, i.keep k (fun j hj e => hS ⟨j, hj, e.symm⟩) fun r hr _ e => ?_⟩
  · have := (l.row.lt q hq).1
    omega
  · have e : r = x := e
    omega
theorem inPut (b : HB) (ok : b.ok) (s : HS) (t : ByteArray) (ht : t.size ≤ 64) (hK0 : 0 ≤ s.K) (hK : s.K < (cnt s.S 0 b.n : Nat)) (n : Nat) (hn : n < 80000) (w : World) (h : InTry b s n w) : Calls Try.prog 29 #[.pointer (some ⟨b.hb, 0, none⟩), .string t] w fun e w' => ∃ j, j < b.n ∧ s.S j = 0 ∧ (∀ i, i < j → ¬ s.S i = 0) ∧ e = .returned (.int .i64 ((b.f + j : Nat) : Int)) ∧ InTry (b.at (wroteT b.T (b.f + j) t)) (s.put j ((b.f + j : Nat) : Int)) (n + 3) w' ∧ Grew (Mut b.B b.S0 w) w w' := by
  obtain ⟨⟨v, fs, n1, l⟩, i⟩ := h
  refine (put1_any b ok s t ht hK0 hK 0 v fs w (by omega) i l).mono ?_
  rintro e w' ⟨j, a1, a2, a3, a4, hd⟩
  exact ⟨j, a1, a2, a3, a4, InTry.of (b := b.at (wroteT b.T (b.f + j) t)) n1 hd, hd.grew⟩
theorem inLessMore (b : HB) (ok : b.ok) (s : HS) (i r : Nat) (hi : i < b.n) (hs : s.S i = 1) (hr : s.R ((b.f + i : Nat) : Int) = some ((r + 2 : Nat) : Int)) (hrb : r < 10000) (n : Nat) (hn : n < 80000) (w : World) (h : InTry b s n w) : Calls Try.prog 25 #[.pointer (some ⟨b.hb, 0, none⟩), .int .i64 ((b.f + i : Nat) : Int)] w fun e w' => e = .returned (.bool false) ∧ InTry b { s with R := upF s.R ((b.f + i : Nat) : Int) (some ((r + 1 : Nat) : Int)) } (n + 1) w' ∧ Grew (Mut b.B b.S0 w) w w' := by
  obtain ⟨⟨v, fs, n1, l⟩, ii⟩ := h
  refine (less1_more b ok s i r hi hs hr hrb 0 v fs w (by omega) ii l).mono ?_
  rintro e w' ⟨a4, hd⟩
  exact ⟨a4, InTry.of n1 hd, hd.grew⟩
theorem inLessOld (b : HB) (ok : b.ok) (s : HS) (i : Nat) (hi : i < b.n) (hs : s.S i = 1) (hr : s.R ((b.f + i : Nat) : Int) = some 1) (hy : s.Y ((b.f + i : Nat) : Int) = none) (n : Nat) (hn : n < 80000) (w : World) (h : InTry b s n w) : Calls Try.prog 25 #[.pointer (some ⟨b.hb, 0, none⟩), .int .i64 ((b.f + i : Nat) : Int)] w fun e w' => e = .returned (.bool true) ∧ InTry b (s.letGo i ((b.f + i : Nat) : Int)) (n + 2) w' ∧ Grew (Mut b.B b.S0 w) w w' := by
  obtain ⟨⟨v, fs, n1, l⟩, ii⟩ := h
  refine (less1_old b ok s i hi hs hr hy 0 v fs w (by omega) ii l).mono ?_
  rintro e w' ⟨a4, hd⟩
  exact ⟨a4, InTry.of n1 hd, hd.grew⟩
theorem inLessYoung (b : HB) (ok : b.ok) (s : HS) (i : Nat) (hi : i < b.n) (hs : s.S i = 1) (hr : s.R ((b.f + i : Nat) : Int) = some 1) (hy : s.Y ((b.f + i : Nat) : Int) = some ()) (hgl : s.G.length < 90000) (n : Nat) (hn : n < 80000) (w : World) (h : InTry b s n w) : Calls Try.prog 25 #[.pointer (some ⟨b.hb, 0, none⟩), .int .i64 ((b.f + i : Nat) : Int)] w fun e w' => e = .returned (.bool true) ∧ InTry b (s.letYoung i ((b.f + i : Nat) : Int) (b.f + i)) (n + 4) w' ∧ Grew (Mut b.B b.S0 w) w w' := by
  obtain ⟨⟨v, fs, n1, l⟩, ii⟩ := h
  refine (less1_last b ok s _ i 4 hi hs hr 0 fs w ii (letGo1_young b ok s i hi hs hy hgl 0 v fs w.drew (by omega) ii.drew l.drew')).mono ?_
  rintro e w' ⟨a4, hd⟩
  exact ⟨a4, InTry.of n1 hd, hd.grew⟩
set_option maxRecDepth 100000 in
set_option maxHeartbeats 1000000 in
/-- an outermost Try that doesn't fail -/
theorem hTryOk (b : HB) (ok : b.ok) (s : HS) (w : World) (h : HeapI b s w) (hl : LogAt b.B b.g 0 (.slice none 0 0) [] w) (run : FuncId) (cap : Array Value) (R : HS → World → Prop)
    (hcall : ∀ wy : World, (callFunc run cap).run Try.prog wy = .ok (.enter run cap) wy)
    (hrun : InTry b s 0 (tryWorld b.g 0 w) → Calls Try.prog run cap (tryWorld b.g 0 w) fun e w' => ∃ s1 n, e = .returned (.tuple #[]) ∧ InTry b s1 n w' ∧ GoneOk b s1 ∧ w'.heap[w.heap.size]? = some errBox ∧ R s1 w') :
    Calls Try.prog 23 #[.pointer (some ⟨b.hb, 0, none⟩), .func (.func run) #[] cap] w fun e w' => ∃ s1 w1, e = .returned (.int .i64 0) ∧ R s1 w1 ∧ HeapI b (s1.fin b) w' ∧ LogAt b.B b.g 0 (.slice none 0 0) [] w' ∧ Grew (fun k => b.S0 k ∨ k = w.heap.size) w1 w' := by
  have gT := tryWorld_grew b.g 0 w
  have hsz := h.sz
  have i0 : HeapI b s (tryWorld b.g 0 w) := ((heapLogged ok).set _ _ 0 (.int .i64 ((0 + 1 : Nat) : Int)) (by decide) h).alloc errBox
  have l0 : LogAt b.B b.g 1 (.slice none 0 0) [] (tryWorld b.g 0 w) := (hl.deep 1).keepAlloc _
  have HT := Lib.hid (try_any b.B b.g 0 (.slice none 0 0) [] run cap w hl (by decide)
    (fun o _ w' => o = none ∧ ∃ s1, HeapI b s1 w' ∧ GoneOk b s1 ∧ R s1 w') (fun _ _ => False) hcall
    ((hrun ⟨⟨_, [], Nat.le_refl _, l0⟩, i0⟩).mono (by
      rintro e w' ⟨s1, n, rfl, ⟨⟨v, fs, n1, l⟩, i⟩, hgo, hbx, hR⟩
      exact ⟨none, fs, v, rfl, hbx, by rw [List.nil_append]; exact l, (fun _ e => by cases e), rfl, s1, i, hgo, hR⟩))
    (by
      rintro k fs' v' w' _ _ ⟨e, _⟩
      cases e))
  have c1 := h.c1
  clear h hl hrun i0 l0 gT
  go_enter Try.func23, Try.ntmps23
  go_wp2_with fail
  refine HT.out.mono ?_
  rintro e w2 ⟨o, rfl, w3, rfl, hend⟩
  have hmid : o = none ∧ ∃ s1 w1, R s1 w1 ∧ GoneOk b s1 ∧ HeapI b s1 (endTry b.g 0 w3) ∧ LogAt b.B b.g 0 (.slice none 0 0) [] (endTry b.g 0 w3) ∧ Grew (fun k => b.S0 k ∨ k = w.heap.size) w1 (endTry b.g 0 w3) := by
    rcases hend with ⟨rfl, fs', w1, ⟨_, s1, i, hgo, hR⟩, hbx, rfl, v', l⟩ | ⟨k, _, _, hf, _⟩
    · refine ⟨rfl, s1, w1, hR, hgo, ?_, l.end0 _, ?_⟩
      · have gd := done_alone w.heap.size none w1
        have i1 : HeapI b s1 (done w.heap.size none w1) := i.keep gd (fun j hj e => by have := ok.lt j hj; omega) fun r hr hk e => by
          obtain ⟨c, fz, e1⟩ := hk
          have e : r = w.heap.size := e
          rw [e, hbx] at e1
          simp [errBox] at e1
        unfold endTry
        rw [if_pos rfl]
        exact (heapLogged ok).set _ _ 1 _ (by decide) ((heapLogged ok).set _ _ 0 _ (by decide) i1)
      · exact ((done_alone w.heap.size none w1).mono fun x _ e => Or.inr e).step (end0_grew b.g _) fun x _ e => Or.inl ⟨1, by decide, e⟩
    · exact hf.elim
  obtain ⟨rfl, s1, w1, hR, hgo, i2, l2, g2⟩ := hmid
  generalize endTry b.g 0 w3 = w2 at *
  have HF := Lib.hid (freeGone_any b ok s1 hgo.all hgo.nd hgo.len w2 i2)
  have HD := Lib.hid (deep0_any b.B b.g 0 _ [] w2 l2)
  have c1 := i2.c1
  have HEnd : Hid (∀ w4, HeapI b { goneS b s1 s1.G.length with G := [] } w4 → Grew (fun q => q = b.hb ∨ q = b.q) w2 w4 → ∃ s1 w1, R s1 w1 ∧ HeapI b (s1.fin b) w4 ∧ LogAt b.B b.g 0 (.slice none 0 0) [] w4 ∧ Grew (fun k => b.S0 k ∨ k = w.heap.size) w1 w4) := Lib.hid fun w4 h4 g4 => by
    refine ⟨s1, w1, hR, h4, l2.keep g4 ?_ (fun q hq e => by cases hq), g2.step g4 fun x _ e => Or.inl ?_⟩
    · rintro (e | e)
      · exact ok.nd 1 0 (by decide) (by decide) (by decide) e
      · exact ok.nd 1 3 (by decide) (by decide) (by decide) e
    · rcases e with e | e
      · exact ⟨0, by decide, e⟩
      · exact ⟨3, by decide, e⟩
  clear i2 l2 g2 hR hgo hend HT
  go_wp2_with fail
  refine HD.out.mono ?_
  rintro e w4 ⟨rfl, rfl⟩
  clear HD
  go_wp2_with fail
  refine HF.out.mono ?_
  rintro e w4 ⟨rfl, h4, g4⟩
  have HX := Lib.hid (HEnd.out w4 h4 g4)
  clear h4 g4 HEnd HF
  go_wp2_with fail
  go_ret
  obtain ⟨s1, w1, r1, r2, r3, r4⟩ := HX.out
  exact ⟨s1, w1, rfl, r1, r2, r3, r4⟩
end Go.Proofs.Ytjjmapmombhmlaa
