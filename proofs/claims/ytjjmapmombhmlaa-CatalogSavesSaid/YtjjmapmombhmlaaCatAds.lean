/-
  Texts put together: HeapC, CatAdopt, CatVisit, CatRun, CatOwn.
-/
import Derived.Test.YtjjmapmombhmlaaHeapIn
import Derived.Test.YtjjmapmombhmlaaHeapAd
import Derived.Test.YtjjmapmombhmlaaHoldPuts
import Derived.Test.YtjjmapmombhmlaaCatLaw
import Derived.Deep.DeepAppendWide
import Derived.BigQuiet
import Derived.Test.YtjjmapmombhmlaaCatSaves
import Derived.Test.YtjjmapmombhmlaaPackRefNum
import Derived.Test.YtjjmapmombhmlaaPackMath
import Derived.Test.YtjjmapmombhmlaaDiskNews
/-
  What lies on a heap's disk; Get; an outermost Try, and what it turns: contracts.
-/
namespace Go.Proofs.Ytjjmapmombhmlaa
open Go.RowKit Go.Maps Go.ChangeMaps Go.WideShapes

/-- what lies on a heap's disk -/
def DT (b : HB) (T : Nat → UInt8) (w : World) : Prop := ∃ M : DiskM, DiskAt M w ∧ M.d = b.d ∧ M.bs = b.bs ∧ M.bt = b.bt ∧ M.n = b.f + b.n ∧ M.armed = false ∧ M.dead = false ∧ M.left ≤ 2 ^ 62 ∧ M.T = T
theorem DT.keep {b : HB} {T : Nat → UInt8} {S : Nat → Prop} {w w' : World} (h : DT b T w) (k : Grew S w w') (h6 : ¬ S b.d) (h7 : ¬ S b.bs) (h8 : ¬ S b.bt) : DT b T w' := by
  obtain ⟨M, hM, m1, m2, m3, r⟩ := h
  exact ⟨M, hM.kept k (by rw [m1]; exact h6) (by rw [m2]; exact h7) (by rw [m3]; exact h8), m1, m2, m3, r⟩
theorem DT.drew {b : HB} {T : Nat → UInt8} {w : World} (h : DT b T w) : DT b T w.drew := h.keep (S := fun _ => False) (Grew.refl w).drew (fun e => e) (fun e => e) fun e => e
/-- a sector's text -/
def secB (T : Nat → UInt8) (k : Nat) : ByteArray := ⟨(sec T k).toArray⟩
/-- the heap's own blocks beside its tables and its disk -/
def TrySet (b : HB) (k : Nat) : Prop := k = b.g ∨ k = b.hb ∨ k = b.q
theorem TrySet.in0 {b : HB} {k : Nat} (h : TrySet b k) : b.S0 k := by
  rcases h with e | e | e
  · exact ⟨1, by decide, e⟩
  · exact ⟨0, by decide, e⟩
  · exact ⟨3, by decide, e⟩
theorem HB.ndisk {b : HB} (ok : b.ok) {k : Nat} (h : TrySet b k ∨ k = b.rb ∨ k = b.yb) : k ≠ b.d ∧ k ≠ b.bs ∧ k ≠ b.bt := by
  have : ∃ i, i < 6 ∧ k = b.blk i := by
    rcases h with (e | e | e) | e | e
    · exact ⟨1, by decide, e⟩
    · exact ⟨0, by decide, e⟩
    · exact ⟨3, by decide, e⟩
    · exact ⟨4, by decide, e⟩
    · exact ⟨5, by decide, e⟩
  obtain ⟨i, hi, rfl⟩ := this
  exact ⟨ok.nd i 6 (by omega) (by decide) (by omega), ok.nd i 7 (by omega) (by decide) (by omega), ok.nd i 8 (by omega) (by decide) (by omega)⟩
theorem HB.diskLt {b : HB} (ok : b.ok) : b.d < b.B ∧ b.bs < b.B ∧ b.bt < b.B := ⟨ok.lt 6 (by decide), ok.lt 7 (by decide), ok.lt 8 (by decide)⟩
theorem HeapI.dt {b : HB} {s : HS} {w : World} (h : HeapI b s w) : DT b b.T w := h.dk
set_option maxRecDepth 100000 in
theorem hGet_any (b : HB) (ok : b.ok) (s : HS) (i : Nat) (hi : i < b.n) (hs : s.S i = 1) (T : Nat → UInt8) (w : World) (h : HeapI b s w) (hD : DT b T w) : Calls Try.prog 88 #[.pointer (some ⟨b.hb, 0, none⟩), .int .i64 ((b.f + i : Nat) : Int)] w fun e w' => e = .returned (.string (secB T (b.f + i))) ∧ w.drew = w' := by
  have HN := Lib.hid (needHeld_ok b ok s i hi hs w h)
  obtain ⟨M, hM, m1, m2, m3, m4, m5, m6, m7, m8⟩ := hD
  have hr := read_ok M (b.f + i) w.drew hM.drew m6 (by omega)
  rw [m1, m8] at hr
  have HR := Lib.hid hr
  have c0 := h.drew.c0
  have hsec : Hid ((⟨(sec T (b.f + i)).toArray⟩ : ByteArray) = secB T (b.f + i)) := Lib.hid rfl
  rw [hsec.out] at HR
  clear h hM hr hsec hs hi
  generalize secB T (b.f + i) = t at *
  generalize b.f + i = X at *
  go_enter Try.func88, Try.ntmps88
  go_wp2_with fail
  refine HN.out.mono ?_
  rintro e w' ⟨rfl, rfl⟩
  clear HN
  go_wp2_with fail
  refine HR.out.mono ?_
  rintro e w' ⟨rfl, rfl⟩
  go_wp2_with fail
  go_ret
  exact ⟨rfl, rfl⟩
set_option maxRecDepth 100000 in
set_option maxHeartbeats 1000000 in
/-- an outermost Try that doesn't fail: what it turns behind what it runs -/
theorem hTryU (b : HB) (ok : b.ok) (s : HS) (w : World) (h : HeapI b s w) (hl : LogAt b.B b.g 0 (.slice none 0 0) [] w) (run : FuncId) (cap : Array Value) (R : HS → (Nat → UInt8) → World → Prop)
    (hcall : ∀ wy : World, (callFunc run cap).run Try.prog wy = .ok (.enter run cap) wy)
    (hrun : InTry b s 0 (tryWorld b.g 0 w) → Calls Try.prog run cap (tryWorld b.g 0 w) fun e w' => ∃ s1 n U, e = .returned (.tuple #[]) ∧ InTry (b.at U) s1 n w' ∧ GoneOk b s1 ∧ w'.heap[w.heap.size]? = some errBox ∧ R s1 U w') :
    Calls Try.prog 23 #[.pointer (some ⟨b.hb, 0, none⟩), .func (.func run) #[] cap] w fun e w' => ∃ s1 U w1, e = .returned (.int .i64 0) ∧ R s1 U w1 ∧ HeapI (b.at U) (s1.fin b) w' ∧ LogAt b.B b.g 0 (.slice none 0 0) [] w' ∧ Grew (fun k => TrySet b k ∨ k = w.heap.size) w1 w' := by
  have gT := tryWorld_grew b.g 0 w
  have hsz := h.sz
  have i0 : HeapI b s (tryWorld b.g 0 w) := ((heapLogged ok).set _ _ 0 (.int .i64 ((0 + 1 : Nat) : Int)) (by decide) h).alloc errBox
  have l0 : LogAt b.B b.g 1 (.slice none 0 0) [] (tryWorld b.g 0 w) := (hl.deep 1).keepAlloc _
  have HT := Lib.hid (try_any b.B b.g 0 (.slice none 0 0) [] run cap w hl (by decide)
    (fun o _ w' => o = none ∧ ∃ s1 U, HeapI (b.at U) s1 w' ∧ GoneOk b s1 ∧ R s1 U w') (fun _ _ => False) hcall
    ((hrun ⟨⟨_, [], Nat.le_refl _, l0⟩, i0⟩).mono (by
      rintro e w' ⟨s1, n, U, rfl, ⟨⟨v, fs, n1, l⟩, i⟩, hgo, hbx, hR⟩
      exact ⟨none, fs, v, rfl, hbx, by rw [List.nil_append]; exact l, (fun _ e => by cases e), rfl, s1, U, i, hgo, hR⟩))
    (by
      rintro k fs' v' w' _ _ ⟨e, _⟩
      cases e))
  have c1 := h.c1
  clear h hl hrun i0 l0 gT
  go_enter Try.func23, Try.ntmps23
  go_wp2_with fail
  refine HT.out.mono ?_
  rintro e w2 ⟨o, rfl, w3, rfl, hend⟩
  have hmid : o = none ∧ ∃ s1 U w1, R s1 U w1 ∧ GoneOk b s1 ∧ HeapI (b.at U) s1 (endTry b.g 0 w3) ∧ LogAt b.B b.g 0 (.slice none 0 0) [] (endTry b.g 0 w3) ∧ Grew (fun k => TrySet b k ∨ k = w.heap.size) w1 (endTry b.g 0 w3) := by
    rcases hend with ⟨rfl, fs', w1, ⟨_, s1, U, i, hgo, hR⟩, hbx, rfl, v', l⟩ | ⟨k, _, _, hf, _⟩
    · refine ⟨rfl, s1, U, w1, hR, hgo, ?_, l.end0 _, ?_⟩
      · have gd := done_alone w.heap.size none w1
        have i1 : HeapI (b.at U) s1 (done w.heap.size none w1) := i.keep gd (fun j hj e => by have := (ok.at U).lt j hj; have e9 : (b.at U).B = b.B := rfl; omega) fun r hr hk e => by
          obtain ⟨c, fz, e1⟩ := hk
          have e : r = w.heap.size := e
          rw [e, hbx] at e1
          simp [errBox] at e1
        unfold endTry
        rw [if_pos rfl]
        exact (heapLogged (ok.at U)).set _ _ 1 _ (by decide) ((heapLogged (ok.at U)).set _ _ 0 _ (by decide) i1)
      · exact ((done_alone w.heap.size none w1).mono fun x _ e => Or.inr e).step (end0_grew b.g _) fun x _ e => Or.inl (Or.inl e)
    · exact hf.elim
  obtain ⟨rfl, s1, U, w1, hR, hgo, i2, l2, g2⟩ := hmid
  generalize endTry b.g 0 w3 = w2 at *
  have HF := Lib.hid (freeGone_any (b.at U) (ok.at U) s1 hgo.all hgo.nd hgo.len w2 i2)
  have HD := Lib.hid (deep0_any b.B b.g 0 _ [] w2 l2)
  have c1 := i2.c1
  have HEnd : Hid (∀ w4, HeapI (b.at U) { goneS b s1 s1.G.length with G := [] } w4 → Grew (fun q => q = b.hb ∨ q = b.q) w2 w4 → ∃ s1 U w1, R s1 U w1 ∧ HeapI (b.at U) (s1.fin b) w4 ∧ LogAt b.B b.g 0 (.slice none 0 0) [] w4 ∧ Grew (fun k => TrySet b k ∨ k = w.heap.size) w1 w4) := Lib.hid fun w4 h4 g4 => by
    refine ⟨s1, U, w1, hR, h4, l2.keep g4 ?_ (fun q hq e => by cases hq), g2.step g4 fun x _ e => Or.inl (Or.inr e)⟩
    rintro (e | e)
    · exact ok.nd 1 0 (by decide) (by decide) (by decide) e
    · exact ok.nd 1 3 (by decide) (by decide) (by decide) e
  clear i2 l2 g2 hR hgo hend HT
  go_wp2_with fail
  refine HD.out.mono ?_
  rintro e w4 ⟨rfl, rfl⟩
  clear HD
  go_wp2_with fail
  refine HF.out.mono ?_
  rintro e w4 ⟨rfl, h4, g4⟩
  have HX := Lib.hid (HEnd.out w4 h4 g4)
  clear h4 g4 HEnd HF
  go_wp2_with fail
  go_ret
  obtain ⟨s2, U2, w5, r1, r2, r3, r4⟩ := HX.out
  exact ⟨s2, U2, w5, rfl, r1, r2, r3, r4⟩
/-- the same, of what writes nothing -/
theorem hTryC (b : HB) (ok : b.ok) (s : HS) (w : World) (h : HeapI b s w) (hl : LogAt b.B b.g 0 (.slice none 0 0) [] w) (run : FuncId) (cap : Array Value) (R : HS → World → Prop)
    (hcall : ∀ wy : World, (callFunc run cap).run Try.prog wy = .ok (.enter run cap) wy)
    (hrun : InTry b s 0 (tryWorld b.g 0 w) → Calls Try.prog run cap (tryWorld b.g 0 w) fun e w' => ∃ s1 n, e = .returned (.tuple #[]) ∧ InTry b s1 n w' ∧ GoneOk b s1 ∧ w'.heap[w.heap.size]? = some errBox ∧ R s1 w') :
    Calls Try.prog 23 #[.pointer (some ⟨b.hb, 0, none⟩), .func (.func run) #[] cap] w fun e w' => ∃ s1 w1, e = .returned (.int .i64 0) ∧ R s1 w1 ∧ HeapI b (s1.fin b) w' ∧ LogAt b.B b.g 0 (.slice none 0 0) [] w' ∧ Grew (fun k => TrySet b k ∨ k = w.heap.size) w1 w' := by
  refine (hTryU b ok s w h hl run cap (fun s1 U w1 => U = b.T ∧ R s1 w1) hcall fun hin => (hrun hin).mono ?_).mono ?_
  · rintro e w' ⟨s1, n, he, hi, hg, hb, hR⟩
    exact ⟨s1, n, b.T, he, hi, hg, hb, rfl, hR⟩
  · rintro e w' ⟨s1, U, w1, he, ⟨rfl, hR⟩, hi, hl, hg⟩
    exact ⟨s1, w1, he, hR, hi, hl, hg⟩
end Go.Proofs.Ytjjmapmombhmlaa

/-
  catalog.adopt: a sector that nobody has yet, and its bytes: contracts.
-/
namespace Go.Proofs.Ytjjmapmombhmlaa
open Go.RowKit Go.Maps Go.ChangeMaps Go.WideShapes

/-- which sectors are held, by one each -/
structure AdS (b : HB) (H : List Nat) (s : HS) : Prop where
  st : ∀ i, i < b.n → s.S i = if i ∈ H then 1 else 0
  rf : ∀ i, i ∈ H → s.R ((b.f + i : Nat) : Int) = some 1
  gn : s.G = []
theorem AdS.new (b : HB) : AdS b [] HS.new := ⟨fun _ _ => rfl, (fun _ h => by cases h), rfl⟩
theorem AdS.more {b : HB} {H : List Nat} {s : HS} (h : AdS b H s) (i : Nat) : AdS b (i :: H) { s with S := upd s.S i 1, R := upF s.R ((b.f + i : Nat) : Int) (some 1) } where
  st := fun j hj => by
    show upd s.S i 1 j = _
    unfold upd
    by_cases e : j = i
    · rw [if_pos e, if_pos (by rw [e]; exact List.mem_cons_self)]
    · rw [if_neg e, h.st j hj]
      simp [e]
  rf := fun j hj => by
    show upF s.R ((b.f + i : Nat) : Int) (some 1) ((b.f + j : Nat) : Int) = some 1
    unfold upF
    by_cases e : j = i
    · rw [if_pos (by rw [e])]
    · rw [if_neg (by omega)]
      exact h.rf j (by rcases List.mem_cons.1 hj with e' | e'; exact absurd e' e; exact e')
  gn := h.gn
/-- a heap outside of a Try, adopted in part, and what lies on its disk -/
structure AdAt (b : HB) (T : Nat → UInt8) (H : List Nat) (w : World) : Prop where
  ex : ∃ s, AdS b H s ∧ HeapI b s w
  log : LogAt b.B b.g 0 (.slice none 0 0) [] w
  dt : DT b T w
section
variable {b : HB} {T : Nat → UInt8} {H : List Nat} {w w' : World}
theorem AdAt.keep {S : Nat → Prop} (h : AdAt b T H w) (k : Grew S w w') (h0 : ∀ x, b.S0 x → ¬ S x) : AdAt b T H w' := by
  obtain ⟨s, hs, i⟩ := h.ex
  exact ⟨⟨s, hs, i.keepNil hs.gn k fun j hj => h0 _ ⟨j, hj, rfl⟩⟩, h.log.keep k (h0 _ ⟨1, by decide, rfl⟩) (fun q hq => by cases hq), h.dt.keep k (h0 _ ⟨6, by decide, rfl⟩) (h0 _ ⟨7, by decide, rfl⟩) (h0 _ ⟨8, by decide, rfl⟩)⟩
theorem AdAt.alloc (h : AdAt b T H w) (o : Obj) : AdAt b T H (w.alloc o) := h.keep (S := fun _ => False) ((Grew.refl w).alloc o) fun _ _ e => e
theorem AdAt.drew (h : AdAt b T H w) : AdAt b T H w.drew := h.keep (S := fun _ => False) (Grew.refl w).drew fun _ _ e => e
theorem AdAt.size (h : AdAt b T H w) : b.B ≤ w.heap.size := by
  obtain ⟨s, _, i⟩ := h.ex
  exact i.sz
/-- what adopt's Try runs -/
theorem catAdopt1 (ok : b.ok) (s : HS) (hG : s.G = []) (i : Nat) (hi : i < b.n) (hs : s.S i = 1) (n xh xa xs : Nat) (h : InTry b s n w) (hD : DT b T w) (bh : Box xh 43 (.pointer (some ⟨b.hb, 0, none⟩)) w) (ba : Box xa 3 (.int .i64 ((b.f + i : Nat) : Int)) w) (bs : Box xs 9 (.string ⟨#[]⟩) w) (ss : ¬ b.S0 xs) :
    Calls Try.prog 119 #[.pointer (some ⟨xh, 0, none⟩), .pointer (some ⟨xa, 0, none⟩), .pointer (some ⟨xs, 0, none⟩)] w fun e w' => e = .returned (.tuple #[]) ∧ InTry b s n w' ∧ DT b T w' ∧ Box xs 9 (.string (secB T (b.f + i))) w' ∧ Grew (fun k => k = xs) w w' := by
  have HGt := Lib.hid (hGet_any b ok s i hi hs T w h.st hD)
  have c1 := bh.cell
  have c2 := ba.cell
  have c3 : w.drew.cell? ⟨xs, 0, none⟩ = some (.string ⟨#[]⟩) := bs.cell
  have c4 : w.drew.frozen? ⟨xs, 0, none⟩ = false := bs.free
  have HE : Hid (∀ v, InTry b s n (w.drew.setCell ⟨xs, 0, none⟩ v) ∧ DT b T (w.drew.setCell ⟨xs, 0, none⟩ v) ∧ Box xs 9 v (w.drew.setCell ⟨xs, 0, none⟩ v) ∧ Grew (fun k => k = xs) w (w.drew.setCell ⟨xs, 0, none⟩ v)) := Lib.hid fun v => by
    have k : Grew (fun q => q = xs) w (w.drew.setCell ⟨xs, 0, none⟩ v) := (Grew.refl w).drew.setCell _ _ fun _ => rfl
    have hd : Box xs 9 (.string ⟨#[]⟩) w.drew := bs
    refine ⟨?_, hD.keep k (fun e => ss ⟨6, by decide, e.symm⟩) (fun e => ss ⟨7, by decide, e.symm⟩) (fun e => ss ⟨8, by decide, e.symm⟩), hd.set v, k⟩
    exact (h.drew.deep.box (v := v) hG hd (by decide) ss).first
  clear h hD bh ba bs ss hi hs hG
  generalize secB T (b.f + i) = t at *
  generalize ((b.f + i : Nat) : Int) = X at *
  go_enter Try.func119, Try.ntmps119
  go_wp2_with fail
  refine HGt.out.mono ?_
  rintro e w1 ⟨rfl, rfl⟩
  clear HGt c1 c2
  go_wp2_with fail
  go_end0
  exact ⟨rfl, HE.out _⟩
set_option maxRecDepth 100000 in
theorem adTry1 (ok : b.ok) (i : Nat) (hi : i < b.n) (hm : i ∈ H) (xh xa xs : Nat) (h : AdAt b T H w) (bh : Box xh 43 (.pointer (some ⟨b.hb, 0, none⟩)) w) (ba : Box xa 3 (.int .i64 ((b.f + i : Nat) : Int)) w) (bs : Box xs 9 (.string ⟨#[]⟩) w) (sh : ¬ b.S0 xh) (sa : ¬ b.S0 xa) (ss : ¬ b.S0 xs) :
    Calls Try.prog 23 #[.pointer (some ⟨b.hb, 0, none⟩), .func (.func 119) #[] #[.pointer (some ⟨xh, 0, none⟩), .pointer (some ⟨xa, 0, none⟩), .pointer (some ⟨xs, 0, none⟩)]] w fun e w' => e = .returned (.int .i64 0) ∧ AdAt b T H w' ∧ Box xs 9 (.string (secB T (b.f + i))) w' ∧ Grew (fun k => TrySet b k ∨ k = xs) w w' := by
  have hsz := h.size
  obtain ⟨⟨s, hs, hI⟩, hL, hD⟩ := h
  have hs1 : s.S i = 1 := by rw [hs.st i hi, if_pos hm]
  have gT := tryWorld_grew b.g 0 w
  have hgS : b.S0 b.g := ⟨1, by decide, rfl⟩
  have bT : ∀ {y : Nat} {ty : TypeId} {v : Value}, Box y ty v w → ¬ b.S0 y → Box y ty v (tryWorld b.g 0 w) := fun h hs => h.keep gT fun e => hs (e ▸ hgS)
  have hg : ¬ (b.d = b.g) ∧ ¬ (b.bs = b.g) ∧ ¬ (b.bt = b.g) := by
    have := HB.ndisk ok (k := b.g) (Or.inl (Or.inl rfl))
    exact ⟨fun e => this.1 e.symm, fun e => this.2.1 e.symm, fun e => this.2.2 e.symm⟩
  have hDT : DT b T (tryWorld b.g 0 w) := hD.keep gT hg.1 hg.2.1 hg.2.2
  have hxs := bs.lt
  refine (hTryC b ok s w hI hL 119 _ (fun s1 w1 => s1 = s ∧ DT b T w1 ∧ Box xs 9 (.string (secB T (b.f + i))) w1 ∧ Grew (fun k => k = b.g ∨ k = xs) w w1) (fun _ => by rfl) ?_).mono ?_
  · intro hin
    refine (catAdopt1 ok s hs.gn i hi hs1 0 xh xa xs hin hDT (bT bh sh) (bT ba sa) (bT bs ss) ss).mono ?_
    rintro e w1 ⟨rfl, hin1, hd1, hb1, hg1⟩
    refine ⟨s, 0, rfl, hin1, GoneOk.nil hs.gn, ?_, rfl, hd1, hb1, ?_⟩
    · rw [hg1.block _ (by rw [tryWorld_size]; omega) (by omega)]
      exact tryWorld_box b.g 0 w
    · exact (gT.mono fun _ _ e => Or.inl e).step hg1 fun _ _ e => Or.inr e
  · rintro e w' ⟨s1, w1, rfl, ⟨rfl, hd1, hb1, hg1⟩, hI', hL', hg'⟩
    rw [HS.fin_nil b s1 hs.gn] at hI'
    have nd : ∀ x, (x = b.d ∨ x = b.bs ∨ x = b.bt) → ¬ (TrySet b x ∨ x = w.heap.size) := fun x hx e => by
      have hlt := HB.diskLt ok
      rcases e with e | e
      · have := HB.ndisk ok (k := x) (Or.inl e)
        rcases hx with e | e | e
        · exact this.1 e
        · exact this.2.1 e
        · exact this.2.2 e
      · omega
    refine ⟨rfl, ⟨⟨s1, hs, hI'⟩, hL', hd1.keep hg' (nd _ (Or.inl rfl)) (nd _ (Or.inr (Or.inl rfl))) (nd _ (Or.inr (Or.inr rfl)))⟩, hb1.keep hg' ?_, (hg1.mono fun x _ e => ?_).step hg' fun x hx e => ?_⟩
    · rintro (e | e)
      · exact ss e.in0
      · omega
    · rcases e with e | e
      · exact Or.inl (Or.inl e)
      · exact Or.inr e
    · rcases e with e | e
      · exact Or.inl e
      · omega
theorem two_boxes (hp : Value) (at' : Value) (w : World) : Box w.heap.size 43 hp ((w.alloc (.cells #[hp] 43)).alloc (.cells #[at'] 3)) ∧ Box (w.heap.size + 1) 3 at' ((w.alloc (.cells #[hp] 43)).alloc (.cells #[at'] 3)) ∧ ((w.alloc (.cells #[hp] 43)).alloc (.cells #[at'] 3)).heap.size = w.heap.size + 2 ∧ Grew (fun _ => False) w ((w.alloc (.cells #[hp] 43)).alloc (.cells #[at'] 3)) := by
  have s1 : (w.alloc (.cells #[hp] 43)).heap.size = w.heap.size + 1 := by simp
  have x2 := Box.new (w.alloc (.cells #[hp] 43)) 3 at'
  rw [s1] at x2
  exact ⟨(Box.new w 43 hp).keepAlloc _, x2, by simp, ((Grew.refl w).alloc _).alloc _⟩
set_option maxRecDepth 100000 in
set_option maxHeartbeats 1000000 in
theorem cAdopt_first (ok : b.ok) (i : Nat) (hi : i < b.n) (hn : ¬ i ∈ H) (h : AdAt b T H w) :
    Calls Try.prog 85 #[.pointer (some ⟨b.hb, 0, none⟩), .int .i64 ((b.f + i : Nat) : Int)] w fun e w' => e = .returned (.string (secB T (b.f + i))) ∧ AdAt b T (i :: H) w' ∧ Grew (fun k => TrySet b k ∨ k = b.rb) w w' := by
  have hmf : ∀ (fn : Fn) (first cap : Array Value) (w : World), (Instr.makeFunc fn first cap).run Try.prog w = .ok (.func fn first cap) w := fun _ _ _ _ => rfl
  obtain ⟨x1, x2, s2, g2⟩ := two_boxes (.pointer (some ⟨b.hb, 0, none⟩)) (.int .i64 ((b.f + i : Nat) : Int)) w
  have hsz := h.size
  have hA := h.keep g2 fun _ _ e => e
  obtain ⟨W, hW⟩ : ∃ W, (w.alloc (.cells #[.pointer (some ⟨b.hb, 0, none⟩)] 43)).alloc (.cells #[.int .i64 ((b.f + i : Nat) : Int)] 3) = W := ⟨_, rfl⟩
  rw [hW] at x1 x2 s2 g2 hA
  obtain ⟨⟨s, hs, hI⟩, hL, hD⟩ := hA
  have hs0 : s.S i = 0 := by rw [hs.st i hi, if_neg hn]
  have HAd := Lib.hid (adopt0_first b ok s i hi hs0 _ W hI hL)
  have c1 := x1.cell
  have c2 := x2.cell
  have HX : Hid (∀ w1, HeapI b { s with S := upd s.S i 1, R := upF s.R ((b.f + i : Nat) : Int) (some 1) } w1 → LogAt b.B b.g 0 (.slice none 0 0) [] w1 → Grew (fun q => q = b.rb ∨ q = b.q) W w1 → AdAt b T (i :: H) w1 ∧ Box w.heap.size 43 (.pointer (some ⟨b.hb, 0, none⟩)) w1 ∧ Box (w.heap.size + 1) 3 (.int .i64 ((b.f + i : Nat) : Int)) w1 ∧ Grew (fun k => TrySet b k ∨ k = b.rb) w w1 ∧ w.heap.size + 2 ≤ w1.heap.size) := Lib.hid fun w1 i1 l1 g1 => by
    have nn : ∀ x, b.B ≤ x → ¬ (x = b.rb ∨ x = b.q) := fun x hx e => by
      have a4 := ok.lt 4 (by decide)
      have a3 := ok.lt 3 (by decide)
      have e4 : b.blk 4 = b.rb := rfl
      have e3 : b.blk 3 = b.q := rfl
      omega
    have nd : ∀ x, (x = b.d ∨ x = b.bs ∨ x = b.bt) → ¬ (x = b.rb ∨ x = b.q) := fun x hx e => by
      have := HB.ndisk ok (k := x) (by rcases e with e | e; exact Or.inr (Or.inl e); exact Or.inl (Or.inr (Or.inr e)))
      rcases hx with e | e | e
      · exact this.1 e
      · exact this.2.1 e
      · exact this.2.2 e
    refine ⟨⟨⟨_, hs.more i, i1⟩, l1, hD.keep g1 (nd _ (Or.inl rfl)) (nd _ (Or.inr (Or.inl rfl))) (nd _ (Or.inr (Or.inr rfl)))⟩, x1.keep g1 (nn _ hsz), x2.keep g1 (nn _ (by omega)), (g2.mono fun _ _ e => e.elim).step g1 fun x _ e => ?_, by have := g1.size; omega⟩
    rcases e with e | e
    · exact Or.inr e
    · exact Or.inl (Or.inr (Or.inr e))
  clear h hs hI hL hD hs0 g2 hn x1 x2 s2
  subst hW
  go_enter Try.func85, Try.ntmps85
  go_wp2_with fail
  refine HAd.out.mono ?_
  rintro e w1 ⟨rfl, i1, g1, l1⟩
  obtain ⟨hA1, b1, b2, hg1, hz1⟩ := HX.out w1 i1 l1 g1
  have HG1 := Lib.hid hg1
  have y3 := Box.new w1 9 (.string ⟨#[]⟩)
  have hA2 := hA1.alloc (.cells #[.string ⟨#[]⟩] 9)
  have b1' := b1.keepAlloc (.cells #[.string ⟨#[]⟩] 9)
  have b2' := b2.keepAlloc (.cells #[.string ⟨#[]⟩] 9)
  have HTr := Lib.hid (whole_ok _ _ _ (adTry1 ok i hi List.mem_cons_self _ _ _ hA2 b1' b2' y3 (HB.far ok (by omega)) (HB.far ok (by omega)) (HB.far ok (by omega))))
  have d1 := b1'.cell
  have HFin : Hid (∀ w3, Grew (fun k => TrySet b k ∨ k = w1.heap.size) (w1.alloc (.cells #[.string ⟨#[]⟩] 9)) w3 → Grew (fun k => TrySet b k ∨ k = b.rb) w w3) := Lib.hid fun w3 g3 => (hg1.alloc _).step g3 fun x hx e => by
    rcases e with e | e
    · exact Or.inl e
    · omega
  clear i1 l1 g1 HX HAd hA1 hA2 b1 b2 b1' b2' y3 hg1 HG1 c1 c2 hsz
  go_wp2_with fail
  refine HTr.out.mono ?_
  rintro e w3 ⟨rfl, hA3, b3, g3⟩
  have c3 := b3.cell
  have HE := Lib.hid (And.intro hA3 (HFin.out w3 g3))
  clear hA3 b3 g3 HFin HTr
  go_wp2_with fail
  go_ret
  exact ⟨rfl, HE.out⟩
end
end Go.Proofs.Ytjjmapmombhmlaa

/-
  What catalog.Adopt does at each entry: contract.
-/
namespace Go.Proofs.Ytjjmapmombhmlaa
open Go.RowKit Go.Maps Go.ChangeMaps Go.WideShapes
section
variable {b : HB} {T : Nat → UInt8} {H : List Nat} {w w' : World}
theorem cAdopt_held (ok : b.ok) (i : Nat) (hi : i < b.n) (hm : i ∈ H) (h : AdAt b T H w) :
    Calls Try.prog 85 #[.pointer (some ⟨b.hb, 0, none⟩), .int .i64 ((b.f + i : Nat) : Int)] w fun e w' => e = failed 1 ∧ Grew (fun k => k = b.rb) w w' := by
  obtain ⟨x1, x2, s2, g2⟩ := two_boxes (.pointer (some ⟨b.hb, 0, none⟩)) (.int .i64 ((b.f + i : Nat) : Int)) w
  have hA := h.keep g2 fun _ _ e => e
  obtain ⟨W, hW⟩ : ∃ W, (w.alloc (.cells #[.pointer (some ⟨b.hb, 0, none⟩)] 43)).alloc (.cells #[.int .i64 ((b.f + i : Nat) : Int)] 3) = W := ⟨_, rfl⟩
  rw [hW] at x1 x2 s2 g2 hA
  obtain ⟨⟨s, hs, hI⟩, hL, hD⟩ := hA
  have hs1 : s.S i = 1 := by rw [hs.st i hi, if_pos hm]
  have HAd := Lib.hid (adopt0_more b ok s i 1 hi hs1 (hs.rf i hm) (by decide) _ W hI hL)
  have c1 := x1.cell
  have c2 := x2.cell
  have HG := Lib.hid g2
  clear h hs hI hL hD hs1 hm x1 x2 s2 g2
  subst hW
  go_enter Try.func85, Try.ntmps85
  go_wp2_with fail
  refine HAd.out.mono ?_
  rintro e w1 ⟨rfl, i1, g1⟩
  have HG1 := Lib.hid ((HG.out.mono fun _ _ e => e.elim).trans g1)
  clear i1 g1 HAd HG c1 c2
  go_wp2_with fail
  refine (fail_any 1 _).mono ?_
  rintro e w3 ⟨rfl, rfl⟩
  unfold failed
  go_wp2_with fail
  exact ⟨rfl, rfl, HG1.out⟩
theorem cAdopt_out (ok : b.ok) (at' : Int) (ho : at' < b.f ∨ ((b.f + b.n : Nat) : Int) ≤ at') (h : AdAt b T H w) :
    Calls Try.prog 85 #[.pointer (some ⟨b.hb, 0, none⟩), .int .i64 at'] w fun e w' => e = failed 6 ∧ Grew (fun _ => False) w w' := by
  obtain ⟨x1, x2, s2, g2⟩ := two_boxes (.pointer (some ⟨b.hb, 0, none⟩)) (.int .i64 at') w
  have hA := h.keep g2 fun _ _ e => e
  obtain ⟨W, hW⟩ : ∃ W, (w.alloc (.cells #[.pointer (some ⟨b.hb, 0, none⟩)] 43)).alloc (.cells #[.int .i64 at'] 3) = W := ⟨_, rfl⟩
  rw [hW] at x1 x2 s2 g2 hA
  obtain ⟨⟨s, hs, hI⟩, hL, hD⟩ := hA
  have HAd := Lib.hid (adopt0_out b ok s at' ho W hI)
  have c1 := x1.cell
  have c2 := x2.cell
  have HG := Lib.hid g2
  clear h hs hI hL hD x1 x2 s2 g2 ho
  subst hW
  go_enter Try.func85, Try.ntmps85
  go_wp2_with fail
  refine HAd.out.mono ?_
  rintro e w1 ⟨rfl, rfl⟩
  unfold failed
  go_wp2_with fail
  exact ⟨rfl, rfl, HG.out.drew.drew⟩
/-- entries in a row -/
def entRows (L : List EN) : List Value := L.flatMap fun e => e.cells.toList
theorem entRows_len (L : List EN) : (entRows L).length = L.length * 6 := by
  unfold entRows
  induction L with
  | nil => rfl
  | cons e L ih => rw [List.flatMap_cons, List.length_append, ih, List.length_cons]; show 6 + _ = _; omega
theorem entRows_add (L : List EN) (e : EN) : entRows (L ++ [e]) = entRows L ++ e.cells.toList := by
  unfold entRows
  rw [List.flatMap_append]
  simp
theorem entRows_at (L : List EN) (j : Nat) (hj : j < L.length) (o : Nat) (ho : o < 6) : (entRows L)[j * 6 + o]? = (L[j]'hj).cells[o]? := by
  unfold entRows
  induction L generalizing j with
  | nil => exact absurd hj (Nat.not_lt_zero _)
  | cons e L ih =>
    rw [List.flatMap_cons]
    rcases Nat.eq_zero_or_pos j with rfl | hp
    · rw [List.getElem?_append_left (by show _ < 6; omega)]
      simp
    · obtain ⟨m, rfl⟩ : ∃ m, j = m + 1 := ⟨j - 1, by omega⟩
      rw [List.getElem?_append_right (by show 6 ≤ _; omega)]
      have := ih m (by simpa using hj)
      rw [show (m + 1) * 6 + o - e.cells.toList.length = m * 6 + o by show (m + 1) * 6 + o - 6 = _; omega, this]
      rfl
theorem own_keepN {w w' : World} {S : Nat → Prop} {B n z : Nat} {e : TypeId} {v : Value} {xs : List Value} (h : w.ownsRow B e z v n xs) (g : Grew S w w') (hS : ∀ k, v.ownBlock = some k → ¬ S k) : w'.ownsRow B e z v n xs := by
  rcases h.2 with ⟨rfl, h0⟩ | ⟨b, cap, cur, rfl, a1, a2, a3, a4, a5, a6⟩
  · exact ⟨h.1, Or.inl ⟨rfl, h0⟩⟩
  · have hlt : b < w.heap.size := by
      rcases Nat.lt_or_ge b w.heap.size with e | e
      · exact e
      · rw [Array.getElem?_eq_none e] at a2; cases a2
    exact ⟨h.1, Or.inr ⟨b, cap, cur, rfl, a1, (g.block b hlt (hS b rfl)).trans a2, a3, a4, a5, a6⟩⟩
/-- entries that were read so far, in the box and the row that Adopt fills -/
structure LAt (xl base : Nat) (L : List EN) (w : World) : Prop where
  ex : ∃ v, Box xl 55 v w ∧ w.ownsRow base 58 6 v L.length (entRows L)
theorem LAt.keep {xl base : Nat} {L : List EN} {S : Nat → Prop} (h : LAt xl base L w) (k : Grew S w w') (h0 : ¬ S xl) (h1 : ∀ q, base ≤ q → q < w.heap.size → ¬ S q) : LAt xl base L w' := by
  obtain ⟨v, hv, ho⟩ := h.ex
  exact ⟨v, hv.keep k h0, own_keepN ho k fun q hq => h1 q (ho.lt q hq).1 (ho.lt q hq).2⟩
theorem infoEnt : (Try.prog.info? 58).map (fun i => (i.zero.map (·.cells.size), i.size, i.bytes)) = some (some 6, 6, 40) := by kernel_rfl
/-- the state at each entry -/
structure VisAt (b : HB) (T : Nat → UInt8) (xh xl base : Nat) (H : List Nat) (L : List EN) (w : World) : Prop where
  ad : AdAt b T H w
  bh : Box xh 43 (.pointer (some ⟨b.hb, 0, none⟩)) w
  la : LAt xl base L w
  sh : ¬ b.S0 xh
  sl : ¬ b.S0 xl
  hne : xh ≠ xl
  h1 : xh < base
  h2 : xl < base
  hB : b.B ≤ base
  hz : base ≤ w.heap.size
theorem VisAt.keep {xh xl base : Nat} {L : List EN} {S : Nat → Prop} (h : VisAt b T xh xl base H L w) (k : Grew S w w') (h0 : ∀ x, b.S0 x → ¬ S x) (h1 : ¬ S xh) (h2 : ¬ S xl) (h3 : ∀ q, base ≤ q → q < w.heap.size → ¬ S q) : VisAt b T xh xl base H L w' :=
  ⟨h.ad.keep k h0, h.bh.keep k h1, h.la.keep k h2 h3, h.sh, h.sl, h.hne, h.h1, h.h2, h.hB, Nat.le_trans h.hz k.size⟩
/-- what it answers: the error, or where the next one lies -/
def visE (b : HB) (T : Nat → UInt8) (H : List Nat) (L : List EN) (at' : Nat) : Option Int :=
  if at' < b.f ∨ b.f + b.n ≤ at' then some 6 else if (at' - b.f) ∈ H then some 1 else
  match catE (secB T at') with
  | some k => some k
  | none => if (∃ e, L.getLast? = some e ∧ (gotEN (secB T at')).id ≤ e.id) then some 1 else none
/-- what it turns -/
def VisSet (b : HB) (xl base : Nat) (k : Nat) : Prop := TrySet b k ∨ k = b.rb ∨ k = xl ∨ base ≤ k
theorem HB.s0_lt (ok : b.ok) {k : Nat} (h : b.S0 k) : k < b.B := by
  obtain ⟨i, hi, rfl⟩ := h
  exact ok.lt i hi
theorem adSet0 {k : Nat} (h : TrySet b k ∨ k = b.rb) : b.S0 k := by
  rcases h with e | e
  · exact e.in0
  · exact ⟨4, by decide, e⟩
theorem VisAt.ad2 {xh xl base : Nat} {L : List EN} {H2 : List Nat} (ok : b.ok) (h : VisAt b T xh xl base H L w) (h2 : AdAt b T H2 w') (k : Grew (fun k => TrySet b k ∨ k = b.rb) w w') : VisAt b T xh xl base H2 L w' :=
  ⟨h2, h.bh.keep k fun e => h.sh (adSet0 e), h.la.keep k (fun e => h.sl (adSet0 e)) fun q hq _ e => by
    have := HB.s0_lt ok (adSet0 e)
    have := h.hB
    omega, h.sh, h.sl, h.hne, h.h1, h.h2, h.hB, Nat.le_trans h.hz k.size⟩
theorem visit_ad (k : Int) (S : Nat → Prop) (at' : Int) (xh xl : Nat) (w : World) (c1 : w.cell? ⟨xh, 0, none⟩ = some (.pointer (some ⟨b.hb, 0, none⟩))) (hA : Calls Try.prog 85 #[.pointer (some ⟨b.hb, 0, none⟩), .int .i64 at'] w fun e w' => e = failed k ∧ Grew S w w') :
    Calls Try.prog 83 #[.int .i64 at', .pointer (some ⟨xh, 0, none⟩), .pointer (some ⟨xl, 0, none⟩)] w fun e w' => e = failed k ∧ Grew S w w' := by
  have HA := Lib.hid hA
  clear hA
  go_enter Try.func83, Try.ntmps83
  go_wp2_with fail
  refine HA.out.mono ?_
  rintro e w1 ⟨rfl, g1⟩
  have HG := Lib.hid g1
  clear g1 HA
  unfold failed
  go_wp2_with fail
  exact ⟨rfl, rfl, HG.out⟩
theorem visit_pa (k : Int) (t : ByteArray) (S : Nat → Prop) (at' : Int) (xh xl : Nat) (w : World) (c1 : w.cell? ⟨xh, 0, none⟩ = some (.pointer (some ⟨b.hb, 0, none⟩))) (hA : Calls Try.prog 85 #[.pointer (some ⟨b.hb, 0, none⟩), .int .i64 at'] w fun e w' => e = .returned (.string t) ∧ Grew S w w')
    (hP : ∀ wx, Calls Try.prog 84 #[.string t] wx fun e w' => e = failed k ∧ Below wx.heap.size wx w') :
    Calls Try.prog 83 #[.int .i64 at', .pointer (some ⟨xh, 0, none⟩), .pointer (some ⟨xl, 0, none⟩)] w fun e w' => e = failed k ∧ Grew S w w' := by
  have HA := Lib.hid hA
  have HP := Lib.hid hP
  clear hA hP
  go_enter Try.func83, Try.ntmps83
  go_wp2_with fail
  refine HA.out.mono ?_
  rintro e w1 ⟨rfl, g1⟩
  have HG := Lib.hid g1
  clear g1 HA
  go_wp2_with fail
  refine (HP.out _).mono ?_
  rintro e w2 ⟨rfl, g2⟩
  have HG2 := Lib.hid (HG.out.trans (Grew.of_below g2))
  clear g2 HP HG
  unfold failed
  go_wp2_with fail
  exact ⟨rfl, rfl, HG2.out⟩
theorem VisAt.append {xh xl base : Nat} {L : List EN} {e : EN} {w w4 : World} {o : Obj} {v v' : Value} (ok : b.ok) (h : VisAt b T xh xl base H L w) (hv : Box xl 55 v w) (hvb : ∀ q, v.ownBlock = some q → base ≤ q) (hg : (w.alloc o).grownBy w4 v.ownBlock) (ho : w4.ownsRow base 58 6 v' (L.length + 1) (entRows L ++ e.cells.toList)) :
    VisAt b T xh xl base H (L ++ [e]) (w4.setCell ⟨xl, 0, none⟩ v') ∧ Grew (fun k => k = xl ∨ base ≤ k) w (w4.setCell ⟨xl, 0, none⟩ v') := by
  have h1 := h.h1
  have h2 := h.h2
  have hB := h.hB
  have g4 : Grew (fun k => base ≤ k) w w4 := ((Grew.refl w).alloc o).grown hg fun k _ hk => hvb k hk
  have gF : Grew (fun k => k = xl ∨ base ≤ k) w (w4.setCell ⟨xl, 0, none⟩ v') := (g4.mono fun _ _ e => Or.inr e).setCell _ _ fun _ => Or.inl rfl
  have hv4 := hv.keep g4 (by omega)
  have gS : Grew (fun k => k = xl) w4 (w4.setCell ⟨xl, 0, none⟩ v') := (Grew.refl w4).setCell _ _ fun _ => rfl
  refine ⟨⟨h.ad.keep gF fun x hx e => ?_, h.bh.keep gF ?_, ⟨v', hv4.set v', ?_⟩, h.sh, h.sl, h.hne, h1, h2, hB, Nat.le_trans h.hz gF.size⟩, gF⟩
  · have := HB.s0_lt ok hx
    rcases e with e | e
    · exact h.sl (e ▸ hx)
    · omega
  · rintro (e | e)
    · exact h.hne e
    · omega
  · rw [entRows_add, List.length_append]
    exact own_keepN ho gS fun q hq e => by
      have := (ho.lt q hq).1
      omega
theorem last_at {w : World} {base g n cap : Nat} {L : List EN} {e0 : EN} (h : w.ownsRow base 58 6 (.slice (some ⟨g, 0, none⟩) n cap) n (entRows (L ++ [e0]))) : w.cell? ⟨g, L.length * 6, none⟩ = some (.int .u32 e0.id) := by
  have hl := entRows_len (L ++ [e0])
  have h1 := h.1
  rw [List.length_append, List.length_singleton] at hl
  rw [h.cellAt _ (by omega)]
  have := entRows_at (L ++ [e0]) L.length (by simp) 0 (by decide)
  rw [Nat.add_zero] at this
  rw [this]
  simp [EN.cells]
theorem six_new (w : World) (t : TypeId) (a b c d e f : Value) : ∀ j u, ([a, b, c, d, e, f] : List Value)[j]? = some u → (w.alloc (.cells #[a, b, c, d, e, f] t)).cell? ((⟨w.heap.size, 0, none⟩ : Addr).add j) = some u := fun j u hu => by
  have e1 : (⟨w.heap.size, 0, none⟩ : Addr).add j = ⟨w.heap.size, j, none⟩ := by unfold Addr.add; split <;> simp_all
  rw [e1, World.cell?_alloc_new, List.getElem?_toArray]
  exact hu
theorem len_own {w : World} {base : Nat} {v : Value} {n : Nat} {xs : List Value} (h : w.ownsRow base 58 6 v n xs) (ty : TypeId) (wx : World) : (Builtin.len_ #[55] ty #[v]).run Try.prog wx = .ok (.int .i64 (n : Int)) wx := by
  rcases h.2 with ⟨rfl, h0⟩ | ⟨g, cap, cur, rfl, _⟩
  · rw [h0]
    simp [Builtin.len_, goInt]
  · simp [Builtin.len_, goInt]
theorem own_slice {w : World} {base n : Nat} {v : Value} {xs : List Value} (h : w.ownsRow base 58 6 v (n + 1) xs) : ∃ g cap, v = .slice (some ⟨g, 0, none⟩) ((n + 1 : Nat) : Int).toNat cap := by
  rcases h.2 with ⟨_, h0⟩ | ⟨g, cap, cur, rfl, _⟩
  · exact absurd h0 (by omega)
  · exact ⟨g, cap, rfl⟩
theorem drewN_grew (w : World) (q : Nat) (S : Nat → Prop) : Grew S w (w.drewN q) := ⟨rfl, rfl, rfl, Nat.le_refl _, fun _ _ _ => rfl⟩
/-- what it leaves behind an entry that was read -/
def VisPost (b : HB) (T : Nat → UInt8) (xh xl base : Nat) (H2 : List Nat) (L : List EN) (x : EN) (nx : Nat) (w : World) (e : Ending) (w' : World) : Prop :=
  (if (∃ e, L.getLast? = some e ∧ x.id ≤ e.id) then e = failed 1 else e = .returned (.int .i64 nx) ∧ VisAt b T xh xl base H2 (L ++ [x]) w') ∧ Grew (VisSet b xl base) w w'
theorem VisPost.ok {xh xl base : Nat} {L : List EN} {x : EN} {nx : Nat} {e : Ending} (h : ¬ ∃ e, L.getLast? = some e ∧ x.id ≤ e.id) (he : e = .returned (.int .i64 nx)) (hv : VisAt b T xh xl base H (L ++ [x]) w') (hg : Grew (VisSet b xl base) w w') : VisPost b T xh xl base H L x nx w e w' := ⟨by rw [if_neg h]; exact ⟨he, hv⟩, hg⟩
theorem VisPost.bad {xh xl base : Nat} {L : List EN} {x : EN} {nx : Nat} {e : Ending} (h : ∃ e, L.getLast? = some e ∧ x.id ≤ e.id) (he : e = failed 1) (hg : Grew (VisSet b xl base) w w') : VisPost b T xh xl base H L x nx w e w' := ⟨by rw [if_pos h]; exact he, hg⟩
set_option maxRecDepth 100000 in
set_option maxHeartbeats 2000000 in
theorem visit_ok (ok : b.ok) (t : ByteArray) (id parent size root born : Nat) (only : Bool) (nx : Nat) (at' : Int) (xh xl base : Nat) (L : List EN) (hLl : L.length < 5000) (H2 : List Nat) (w : World) (h : VisAt b T xh xl base H L w) (hA : Calls Try.prog 85 #[.pointer (some ⟨b.hb, 0, none⟩), .int .i64 at'] w fun e w' => e = .returned (.string t) ∧ AdAt b T H2 w' ∧ Grew (fun k => TrySet b k ∨ k = b.rb) w w')
    (hP : ∀ wx, Calls Try.prog 84 #[.string t] wx fun e w' => e = .returned (.tuple #[.agg #[.int .u32 id, .int .u32 parent, .bool only, .int .i64 size, .int .i64 root, .int .u32 born], .int .i64 nx]) ∧ Below wx.heap.size wx w') :
    Calls Try.prog 83 #[.int .i64 at', .pointer (some ⟨xh, 0, none⟩), .pointer (some ⟨xl, 0, none⟩)] w fun e w' => VisPost b T xh xl base H2 L ⟨id, parent, only, size, root, born⟩ nx w e w' := by
  have c1 := h.bh.cell
  have HA := Lib.hid hA
  have HP := Lib.hid hP
  have HV := Lib.hid h
  clear hA hP h
  go_enter Try.func83, Try.ntmps83
  go_wp2_with fail
  refine HA.out.mono ?_
  rintro e w1 ⟨rfl, a1, g1⟩
  have HV1 := Lib.hid (HV.out.ad2 ok a1 g1)
  have HG1 := Lib.hid g1
  clear a1 g1 HA c1
  go_wp2_with fail
  refine (HP.out _).mono ?_
  rintro e w2 ⟨rfl, b2⟩
  have HV2 := Lib.hid (HV1.out.keep (S := fun _ => False) (Grew.of_below b2) (fun _ _ e => e) (fun e => e) (fun e => e) fun _ _ _ e => e)
  have HG2 := Lib.hid (HG1.out.trans (Grew.of_below b2))
  clear b2 HP HV1 HG1
  go_upto_region 2 with fail
  have hx5 := heap_alloc_new w2 (.cells #[.int .u32 id, .int .u32 parent, .bool only, .int .i64 size, .int .i64 root, .int .u32 born] 58)
  have HV3 := Lib.hid (HV2.out.keep (S := fun _ => False) ((Grew.refl w2).alloc (.cells #[.int .u32 id, .int .u32 parent, .bool only, .int .i64 size, .int .i64 root, .int .u32 born] 58)) (fun _ _ e => e) (fun e => e) (fun e => e) fun _ _ _ e => e)
  have HG3 := Lib.hid (HG2.out.alloc (.cells #[.int .u32 id, .int .u32 parent, .bool only, .int .i64 size, .int .i64 root, .int .u32 born] 58))
  have hw2 := HV2.out.hz
  obtain ⟨e0, e1, e2, e3, e4, e5⟩ := six hx5
  clear hx5 HV2 HG2
  generalize w2.alloc (.cells #[.int .u32 id, .int .u32 parent, .bool only, .int .i64 size, .int .i64 root, .int .u32 born] 58) = W at *
  generalize w2.heap.size = x5 at *
  obtain ⟨i0, hi, hx⟩ := Option.map_eq_some_iff.1 infoEnt
  simp only [Prod.mk.injEq] at hx
  obtain ⟨hz, h6, hb40⟩ := hx
  obtain ⟨z, hz0, hz1⟩ := Option.map_eq_some_iff.1 hz
  have HI0 := Lib.hid hi
  have HI1 := Lib.hid hz0
  have HI2 := Lib.hid h6
  have HI3 := Lib.hid hb40
  have HI4 := Lib.hid hz1
  clear hi hz h6 hb40 hz0 hz1
  obtain ⟨v, hv, hown⟩ := HV3.out.la.ex
  have HBv := Lib.hid hv
  have HOw := Lib.hid hown
  have cv := hv.cell
  have hlen := fun ty wx => len_own hown ty wx
  have HF : Hid (∀ q, ((W.drewN q).cell? ⟨x5, 0, none⟩ = some (.int .u32 id) ∧ (W.drewN q).cell? ⟨x5, 1, none⟩ = some (.int .u32 parent) ∧ (W.drewN q).cell? ⟨x5, 2, none⟩ = some (.bool only) ∧ (W.drewN q).cell? ⟨x5, 3, none⟩ = some (.int .i64 size) ∧ (W.drewN q).cell? ⟨x5, 4, none⟩ = some (.int .i64 root) ∧ (W.drewN q).cell? ⟨x5, 5, none⟩ = some (.int .u32 born))) := Lib.hid fun q => ⟨e0, e1, e2, e3, e4, e5⟩
  rcases List.eq_nil_or_concat L with rfl | ⟨L', e0', hLe⟩
  · have HLl : Hid (([] : List EN).length < 5000) := Lib.hid hLl
    have HNo : Hid (¬ ∃ e, ([] : List EN).getLast? = some e ∧ id ≤ e.id) := Lib.hid (by rintro ⟨e, h, _⟩; cases h)
    clear hown hv hLl
    go_upto_region 3 with fail
    clear hlen
    go_quiet (fail)
    rename_i nq _
    replace HF := Lib.hid (HF.out nq)
    clear e0 e1 e2 e3 e4 e5 cv
    have HV4 := Lib.hid (HV3.out.keep (S := fun _ => False) (drewN_grew W nq _) (fun _ _ e => e) (fun e => e) (fun e => e) fun _ _ _ e => e)
    have HG4 := Lib.hid (HG3.out.trans (drewN_grew W nq _))
    have HB4 := Lib.hid (HBv.out.keep (drewN_grew W nq (fun _ => False)) fun e => e)
    have HO4 := Lib.hid (own_keepN HOw.out (drewN_grew W nq (fun _ => False)) fun _ _ e => e)
    clear HV3 HG3 HBv HOw
    generalize W.drewN nq = W4 at *
    have f := HF.out
    obtain ⟨f0, f1, f2, f3, f4, f5⟩ := f
    have cv := HB4.out.cell
    have hbl : ∀ q, v.ownBlock = some q → base ≤ q ∧ q < W4.heap.size := fun q hq => HO4.out.lt q hq
    have HBl := Lib.hid hbl
    clear hbl
    have HOW : Hid ((W4.alloc (.cells #[.int .u32 id, .int .u32 parent, .bool only, .int .i64 size, .int .i64 root, .int .u32 born] 58)).ownsRow base 58 6 v ([] : List EN).length (entRows ([] : List EN))) := Lib.hid (own_keepN HO4.out ((Grew.refl (S := fun _ => False) W4).alloc _) fun _ _ e => e)
    have HNew := Lib.hid (six_new W4 58 (.int .u32 id) (.int .u32 parent) (.bool only) (.int .i64 size) (.int .i64 root) (.int .u32 born))
    have HZ4 := Lib.hid HV4.out.hz
    have HE : Hid (∀ v' w4, w4.ownsRow base 58 6 v' (([] : List EN).length + 1) (entRows ([] : List EN) ++ [.int .u32 id, .int .u32 parent, .bool only, .int .i64 size, .int .i64 root, .int .u32 born]) → (W4.alloc (.cells #[.int .u32 id, .int .u32 parent, .bool only, .int .i64 size, .int .i64 root, .int .u32 born] 58)).grownBy w4 v.ownBlock → (VisAt b T xh xl base H2 (([] : List EN) ++ [⟨id, parent, only, size, root, born⟩]) (w4.setCell ⟨xl, 0, none⟩ v') ∧ Grew (VisSet b xl base) w (w4.setCell ⟨xl, 0, none⟩ v')) ∧ w4.cell? ⟨xl, 0, none⟩ = some v ∧ w4.frozen? ⟨xl, 0, none⟩ = false) := Lib.hid fun v' w4 ho hg => by
      obtain ⟨a1, a2⟩ := VisAt.append (e := ⟨id, parent, only, size, root, born⟩) ok HV4.out HB4.out (fun q hq => (HBl.out q hq).1) hg ho
      have g4 : Grew (fun k => base ≤ k) W4 w4 := ((Grew.refl W4).alloc _).grown hg fun k _ hk => (HBl.out k hk).1
      have b4 := HB4.out.keep g4 (fun e => by have := HV4.out.h2; omega)
      refine ⟨⟨a1, (HG4.out.mono fun x _ e => ?_).step a2 fun x _ e => ?_⟩, b4.cell, b4.free⟩
      · rcases e with e | e
        · exact Or.inl e
        · exact Or.inr (Or.inl e)
      · rcases e with e | e
        · exact Or.inr (Or.inr (Or.inl e))
        · exact Or.inr (Or.inr (Or.inr e))
    clear HV4 HG4 HB4 HO4 HF
    go_wp2_with (at_builtin; refine wpList_append_own_wide _ rfl _ _ 55 rfl base 58 i0 z 6 40 Try.underlying55 HI0.out HI1.out HI2.out HI3.out HI4.out (by decide) v ([] : List EN).length (entRows ([] : List EN)) rfl ?c0 ⟨W4.heap.size, 0, none⟩ 1 1 [.int .u32 id, .int .u32 parent, .bool only, .int .i64 size, .int .i64 root, .int .u32 born] rfl ?cl ?c1 ?c2 ?c3 ?c4 ?c5 ?_)
    case c0 => exact HOW.out
    case cl => rfl
    case c1 => exact HNew.out
    case c2 => simp [Value.oneCell']
    case c3 => have := HLl.out; unfold maxLen; omega
    case c4 => have := HLl.out; omega
    case c5 => have := HZ4.out; simp; omega
    intro v' w4 ho hg _
    obtain ⟨hX, d1, d2⟩ := HE.out v' w4 ho hg
    obtain ⟨g', cap', rfl⟩ := own_slice ho
    have HX := Lib.hid hX
    clear ho hg hX HE HOW HNew f0 f1 f2 f3 f4 f5
    go_wp2_with fail
    go_ret
    exact VisPost.ok HNo.out rfl HX.out.1 HX.out.2
  · rw [List.concat_eq_append] at hLe
    have hL1 : L.length = L'.length + 1 := by rw [hLe, List.length_append, List.length_singleton]
    obtain ⟨g, cap, hvv⟩ : ∃ g cap, v = .slice (some ⟨g, 0, none⟩) (L'.length + 1) cap := by
      rcases hown.2 with ⟨_, h0⟩ | ⟨g, cap, cur, rfl, _⟩
      · omega
      · exact ⟨g, cap, by rw [hL1]⟩
    have HLl : Hid (L.length < 5000) := Lib.hid hLl
    have HLs : Hid (W.cell? ⟨g, L'.length * 6, none⟩ = some (.int .u32 e0'.id)) := Lib.hid (by
      subst hvv
      refine last_at (w := W) (base := base) (cap := cap) (n := L'.length + 1) ?_
      rw [← hLe, ← hL1]
      rw [← hL1] at hown
      exact hown)
    have hm : L'.length < 5000 := by omega
    have hlen2 : ∀ ty wx, (Builtin.len_ #[55] ty #[v]).run Try.prog wx = .ok (.int .i64 ((L'.length : Int) + 1)) wx := fun ty wx => by
      rw [hlen ty wx, hL1]
      rfl
    have HVv := Lib.hid hvv
    have HLast : Hid (L.getLast? = some e0') := Lib.hid (by rw [hLe]; simp)
    clear hown hv hLl hlen hvv hLe hL1
    generalize L'.length = m at *
    obtain ⟨ei, hei⟩ : ∃ ei, e0'.id = ei := ⟨_, rfl⟩
    rw [hei] at HLs
    have HEi := Lib.hid hei
    clear hei
    go_upto_region 3 with fail
    clear hlen2
    have hcv3 : W.cell? ⟨xl, 0, none⟩ = some (.slice (some ⟨g, 0, none⟩) (m + 1) cap) := by rw [← HVv.out]; exact cv
    have h0 := HLs.out
    have k0 : (0 : Int) < (m : Int) + 1 := by omega
    have hcv0 := Lib.hid cv
    clear cv
    by_cases hle : id ≤ ei
    · have HBad : Hid (∃ e, L.getLast? = some e ∧ id ≤ e.id) := Lib.hid ⟨e0', HLast.out, by rw [HEi.out]; exact hle⟩
      have d1 : decide (id ≤ ei) = true := decide_eq_true hle
      clear hle
      go_quiet (fail)
      rename_i nq _
      have HG5 : Hid (Grew (VisSet b xl base) w (W.drewN nq)) := Lib.hid ((HG3.out.trans (drewN_grew W nq _)).mono fun x _ e => by
        rcases e with e | e
        · exact Or.inl e
        · exact Or.inr (Or.inl e))
      clear HV3 HG3 HBv HOw HF hcv3 h0 d1 e0 e1 e2 e3 e4 e5
      go_wp2_with fail
      refine (fail_any 1 _).mono ?_
      rintro e w5 ⟨rfl, rfl⟩
      unfold failed
      go_wp2_with fail
      exact ⟨rfl, VisPost.bad (L := L) (x := ⟨id, parent, only, size, root, born⟩) HBad.out rfl HG5.out⟩
    · have HNo : Hid (¬ ∃ e, L.getLast? = some e ∧ id ≤ e.id) := Lib.hid (by
        rintro ⟨e, h, h2⟩
        rw [HLast.out] at h
        cases h
        rw [HEi.out] at h2
        exact hle h2)
      have d1 : decide (id ≤ ei) = false := decide_eq_false hle
      clear hle
      go_quiet (fail)
      rename_i nq _
      replace HF := Lib.hid (HF.out nq)
      have cv := hcv0.out
      clear hcv3 h0 d1 HLs HVv hcv0 HLast HEi
      clear e0 e1 e2 e3 e4 e5 cv
      have HV4 := Lib.hid (HV3.out.keep (S := fun _ => False) (drewN_grew W nq _) (fun _ _ e => e) (fun e => e) (fun e => e) fun _ _ _ e => e)
      have HG4 := Lib.hid (HG3.out.trans (drewN_grew W nq _))
      have HB4 := Lib.hid (HBv.out.keep (drewN_grew W nq (fun _ => False)) fun e => e)
      have HO4 := Lib.hid (own_keepN HOw.out (drewN_grew W nq (fun _ => False)) fun _ _ e => e)
      clear HV3 HG3 HBv HOw
      generalize W.drewN nq = W4 at *
      have f := HF.out
      obtain ⟨f0, f1, f2, f3, f4, f5⟩ := f
      have cv := HB4.out.cell
      have hbl : ∀ q, v.ownBlock = some q → base ≤ q ∧ q < W4.heap.size := fun q hq => HO4.out.lt q hq
      have HBl := Lib.hid hbl
      clear hbl
      have HOW : Hid ((W4.alloc (.cells #[.int .u32 id, .int .u32 parent, .bool only, .int .i64 size, .int .i64 root, .int .u32 born] 58)).ownsRow base 58 6 v L.length (entRows L)) := Lib.hid (own_keepN HO4.out ((Grew.refl (S := fun _ => False) W4).alloc _) fun _ _ e => e)
      have HNew := Lib.hid (six_new W4 58 (.int .u32 id) (.int .u32 parent) (.bool only) (.int .i64 size) (.int .i64 root) (.int .u32 born))
      have HZ4 := Lib.hid HV4.out.hz
      have HE : Hid (∀ v' w4, w4.ownsRow base 58 6 v' (L.length + 1) (entRows L ++ [.int .u32 id, .int .u32 parent, .bool only, .int .i64 size, .int .i64 root, .int .u32 born]) → (W4.alloc (.cells #[.int .u32 id, .int .u32 parent, .bool only, .int .i64 size, .int .i64 root, .int .u32 born] 58)).grownBy w4 v.ownBlock → (VisAt b T xh xl base H2 (L ++ [⟨id, parent, only, size, root, born⟩]) (w4.setCell ⟨xl, 0, none⟩ v') ∧ Grew (VisSet b xl base) w (w4.setCell ⟨xl, 0, none⟩ v')) ∧ w4.cell? ⟨xl, 0, none⟩ = some v ∧ w4.frozen? ⟨xl, 0, none⟩ = false) := Lib.hid fun v' w4 ho hg => by
        obtain ⟨a1, a2⟩ := VisAt.append (e := ⟨id, parent, only, size, root, born⟩) ok HV4.out HB4.out (fun q hq => (HBl.out q hq).1) hg ho
        have g4 : Grew (fun k => base ≤ k) W4 w4 := ((Grew.refl W4).alloc _).grown hg fun k _ hk => (HBl.out k hk).1
        have b4 := HB4.out.keep g4 (fun e => by have := HV4.out.h2; omega)
        refine ⟨⟨a1, (HG4.out.mono fun x _ e => ?_).step a2 fun x _ e => ?_⟩, b4.cell, b4.free⟩
        · rcases e with e | e
          · exact Or.inl e
          · exact Or.inr (Or.inl e)
        · rcases e with e | e
          · exact Or.inr (Or.inr (Or.inl e))
          · exact Or.inr (Or.inr (Or.inr e))
      clear HV4 HG4 HB4 HO4 HF
      go_wp2_with (at_builtin; refine wpList_append_own_wide _ rfl _ _ 55 rfl base 58 i0 z 6 40 Try.underlying55 HI0.out HI1.out HI2.out HI3.out HI4.out (by decide) v L.length (entRows L) rfl ?c0 ⟨W4.heap.size, 0, none⟩ 1 1 [.int .u32 id, .int .u32 parent, .bool only, .int .i64 size, .int .i64 root, .int .u32 born] rfl ?cl ?c1 ?c2 ?c3 ?c4 ?c5 ?_)
      case c0 => exact HOW.out
      case cl => rfl
      case c1 => exact HNew.out
      case c2 => simp [Value.oneCell']
      case c3 => have := HLl.out; unfold maxLen; omega
      case c4 => have := HLl.out; omega
      case c5 => have := HZ4.out; simp; omega
      intro v' w4 ho hg _
      obtain ⟨hX, d1, d2⟩ := HE.out v' w4 ho hg
      obtain ⟨g', cap', rfl⟩ := own_slice ho
      have HX := Lib.hid hX
      clear ho hg hX HE HOW HNew f0 f1 f2 f3 f4 f5
      go_wp2_with fail
      go_ret
      exact VisPost.ok HNo.out rfl HX.out.1 HX.out.2
end
end Go.Proofs.Ytjjmapmombhmlaa

/-
  catalog.Adopt over any disk: contract.
-/
namespace Go.Proofs.Ytjjmapmombhmlaa
open Go.RowKit Go.Maps Go.ChangeMaps Go.WideShapes
section
variable {b : HB} {T : Nat → UInt8} {H : List Nat} {w w' : World}
/-- what a visit ends in -/
def VisEnd (b : HB) (T : Nat → UInt8) (xh xl base : Nat) (H : List Nat) (L : List EN) (at' : Nat) (w : World) (o : Option Int) (e : Ending) (w' : World) : Prop :=
  (match o with | some k => e = failed k | none => e = .returned (.int .i64 (gotNx (secB T at') : Nat)) ∧ at' - b.f < b.n ∧ ¬ (at' - b.f) ∈ H ∧ VisAt b T xh xl base ((at' - b.f) :: H) (L ++ [gotEN (secB T at')]) w') ∧ Grew (VisSet b xl base) w w'
theorem visit_any (ok : b.ok) (at' : Nat) (xh xl base : Nat) (L : List EN) (hL : L.length < 5000) (h : VisAt b T xh xl base H L w) :
    Calls Try.prog 83 #[.int .i64 (at' : Int), .pointer (some ⟨xh, 0, none⟩), .pointer (some ⟨xl, 0, none⟩)] w fun e w' => VisEnd b T xh xl base H L at' w (visE b T H L at') e w' := by
  unfold VisEnd visE
  have gA : ∀ {S : Nat → Prop} {w' : World}, Grew S w w' → (∀ k, S k → TrySet b k ∨ k = b.rb) → Grew (VisSet b xl base) w w' := fun g hS => g.mono fun x _ e => by
    rcases hS x e with e | e
    · exact Or.inl e
    · exact Or.inr (Or.inl e)
  by_cases h1 : at' < b.f ∨ b.f + b.n ≤ at'
  · rw [if_pos h1]
    refine (visit_ad (b := b) 6 _ at' xh xl w h.bh.cell (cAdopt_out ok at' (by omega) h.ad)).mono ?_
    rintro e w' ⟨rfl, hg⟩
    exact ⟨rfl, gA hg fun _ e => e.elim⟩
  rw [if_neg h1]
  obtain ⟨i, rfl⟩ : ∃ i, at' = b.f + i := ⟨at' - b.f, by omega⟩
  have hi : i < b.n := by omega
  have e0 : b.f + i - b.f = i := by omega
  rw [e0]
  by_cases h2 : i ∈ H
  · rw [if_pos h2]
    refine (visit_ad (b := b) 1 _ _ xh xl w h.bh.cell (cAdopt_held ok i hi h2 h.ad)).mono ?_
    rintro e w' ⟨rfl, hg⟩
    exact ⟨rfl, gA hg fun _ e => Or.inr e⟩
  rw [if_neg h2]
  have hF := cAdopt_first ok i hi h2 h.ad
  have hP := fun wx => catParse_any (secB T (b.f + i)) wx
  generalize secB T (b.f + i) = t at *
  cases hE : catE t with
  | some k =>
    rw [hE] at hP
    refine (visit_pa (b := b) k t _ _ xh xl w h.bh.cell (hF.mono fun e w' hh => ⟨hh.1, hh.2.2⟩) hP).mono ?_
    rintro e w' ⟨rfl, hg⟩
    exact ⟨rfl, gA hg fun _ e => e⟩
  | none =>
    rw [hE] at hP
    generalize gotNx t = nx at *
    generalize gotEN t = x at *
    obtain ⟨id, parent, only, size, root, born⟩ := x
    refine (visit_ok ok t id parent size root born only nx _ xh xl base L hL (i :: H) w h hF hP).mono ?_
    rintro e w' ⟨he, hg⟩
    by_cases h3 : ∃ e, L.getLast? = some e ∧ id ≤ e.id
    · rw [if_pos h3] at he
      rw [if_pos h3]
      exact ⟨he, hg⟩
    · rw [if_neg h3] at he
      rw [if_neg h3]
      exact ⟨⟨he.1, hi, h2, he.2⟩, hg⟩
/-- all of it: the error, and the entries so far -/
def adRun (b : HB) (T : Nat → UInt8) : Nat → List Nat → List EN → Nat → Option Int × List EN
  | 0, _, L, _ => (some 0, L)
  | n + 1, H, L, at' => if at' = 0 then (none, L) else match visE b T H L at' with
    | some k => (some k, L)
    | none => adRun b T n ((at' - b.f) :: H) (L ++ [gotEN (secB T at')]) (gotNx (secB T at'))
theorem held_le {n : Nat} (hn : H.Nodup) (hl : ∀ x ∈ H, x < n) : H.length ≤ n := by
  have := hn.length_le_of_subset (l₂ := List.range n) fun x hx => List.mem_range.2 (hl x hx)
  rwa [List.length_range] at this
/-- on the way -/
structure EachAt (b : HB) (T : Nat → UInt8) (xh xl base : Nat) (R : Option Int × List EN) (at' : Nat) (w0 w : World) (n : Nat) : Prop where
  ex : ∃ H L, VisAt b T xh xl base H L w ∧ adRun b T n H L at' = R ∧ H.length + n = b.n + 1 ∧ L.length = H.length ∧ H.Nodup ∧ (∀ x ∈ H, x < b.n)
  g : Grew (VisSet b xl base) w0 w
theorem gotNx_lt (t : ByteArray) : gotNx t < 65536 := by
  unfold gotNx
  split
  · exact num2_lt _
  · decide
/-- a round -/
theorem EachAt.step {xh xl base at' n : Nat} {R : Option Int × List EN} {w0 : World} (ok : b.ok) (h : EachAt b T xh xl base R at' w0 w n) (ha : ¬ at' = 0) :
    (∃ k, R.1 = some k ∧ Calls Try.prog 83 #[.int .i64 (at' : Int), .pointer (some ⟨xh, 0, none⟩), .pointer (some ⟨xl, 0, none⟩)] w fun e w' => e = failed k ∧ Grew (VisSet b xl base) w0 w') ∨
    (∃ m nx, n = m + 1 ∧ nx < 65536 ∧ Calls Try.prog 83 #[.int .i64 (at' : Int), .pointer (some ⟨xh, 0, none⟩), .pointer (some ⟨xl, 0, none⟩)] w fun e w' => e = .returned (.int .i64 (nx : Nat)) ∧ EachAt b T xh xl base R nx w0 w' m) := by
  obtain ⟨⟨H, L, hv, hr, hn, hl, hnd, hlt⟩, hg⟩ := h
  have hle := held_le hnd hlt
  obtain ⟨m, rfl⟩ : ∃ m, n = m + 1 := ⟨n - 1, by omega⟩
  have hbn := ok.n
  unfold adRun at hr
  rw [if_neg ha] at hr
  have hC := visit_any ok at' xh xl base L (by omega) hv
  cases hE : visE b T H L at' with
  | some k =>
    rw [hE] at hr hC
    refine Or.inl ⟨k, by rw [← hr], hC.mono ?_⟩
    rintro e w' ⟨he, g1⟩
    exact ⟨he, hg.trans g1⟩
  | none =>
    rw [hE] at hr hC
    refine Or.inr ⟨m, _, rfl, gotNx_lt (secB T at'), hC.mono ?_⟩
    rintro e w' ⟨⟨he, h1, h2, hv'⟩, g1⟩
    refine ⟨he, ⟨_, _, hv', hr, by rw [List.length_cons]; omega, by simp [hl], List.nodup_cons.2 ⟨h2, hnd⟩, fun x hx => ?_⟩, hg.trans g1⟩
    rcases List.mem_cons.1 hx with e | e
    · rw [e]; exact h1
    · exact hlt x e
/-- what each ends in -/
structure HeldL (b : HB) (H : List Nat) (m : Nat) : Prop where
  len : H.length = m
  nd : H.Nodup
  lt : ∀ x ∈ H, x < b.n
def EachEnd (b : HB) (T : Nat → UInt8) (xh xl base : Nat) (R : Option Int × List EN) (w0 : World) (e : Ending) (w' : World) : Prop :=
  (match R.1 with | some k => e = failed k | none => e = .returned (.tuple #[]) ∧ ∃ H, VisAt b T xh xl base H R.2 w' ∧ HeldL b H R.2.length) ∧ Grew (VisSet b xl base) w0 w'
theorem EachAt.stop {xh xl base n : Nat} {R : Option Int × List EN} {w0 : World} (h : EachAt b T xh xl base R 0 w0 w n) : EachEnd b T xh xl base R w0 (.returned (.tuple #[])) w := by
  obtain ⟨⟨H, L, hv, hr, hn, hl, hnd, hlt⟩, hg⟩ := h
  have hle := held_le hnd hlt
  obtain ⟨m, rfl⟩ : ∃ m, n = m + 1 := ⟨n - 1, by omega⟩
  unfold adRun at hr
  rw [if_pos rfl] at hr
  subst hr
  exact ⟨⟨rfl, H, hv, hl.symm, hnd, hlt⟩, hg⟩
theorem exists_min (P : Nat → Prop) : (∃ n, P n) → ∃ n, P n ∧ ∀ m, P m → n ≤ m := by
  rintro ⟨n, hn⟩
  induction n using Nat.strongRecOn with
  | _ n ih =>
    by_cases h : ∃ m, m < n ∧ P m
    · obtain ⟨m, hm, hp⟩ := h
      exact ih m hm hp
    · exact ⟨n, hn, fun m hp => Nat.le_of_not_lt fun hm => h ⟨m, hm, hp⟩⟩
/-- the least number that serves -/
noncomputable def leastN (P : Nat → Prop) : Nat := Classical.epsilon fun n => P n ∧ ∀ m, P m → n ≤ m
theorem leastN_spec {P : Nat → Prop} (h : ∃ n, P n) : P (leastN P) ∧ ∀ m, P m → leastN P ≤ m := Classical.epsilon_spec (exists_min P h)
theorem intOf_nat (n : Nat) : (intOf (.int .i64 (n : Int))).toNat = n := by simp [intOf]
set_option maxRecDepth 100000 in
theorem each_any (ok : b.ok) (xh xl base at' : Nat) (hat : at' < 65536) (h : VisAt b T xh xl base [] [] w) :
    Calls Try.prog 82 #[.int .i64 (at' : Int), .func (.func 83) #[] #[.pointer (some ⟨xh, 0, none⟩), .pointer (some ⟨xl, 0, none⟩)]] w fun e w' => EachEnd b T xh xl base (adRun b T (b.n + 1) [] [] at') w e w' := by
  have h0 : EachAt b T xh xl base (adRun b T (b.n + 1) [] [] at') at' w w (b.n + 1) := ⟨⟨[], [], h, rfl, by simp, rfl, List.nodup_nil, fun x hx => by cases hx⟩, Grew.refl w⟩
  have HS := Lib.hid fun wx n nx (hh : EachAt b T xh xl base (adRun b T (b.n + 1) [] [] at') nx w wx n) (ha : ¬ nx = 0) => hh.step ok ha
  have HE := Lib.hid fun wx n (hh : EachAt b T xh xl base (adRun b T (b.n + 1) [] [] at') 0 w wx n) => hh.stop
  have HBad : Hid (∀ k w', (adRun b T (b.n + 1) [] [] at').1 = some k → Grew (VisSet b xl base) w w' → EachEnd b T xh xl base (adRun b T (b.n + 1) [] [] at') w (failed k) w') := Lib.hid fun k w' hk hg => by
    unfold EachEnd
    rw [hk]
    exact ⟨rfl, hg⟩
  have H0 := Lib.hid h0
  have HAt := Lib.hid hat
  clear h h0 hat
  generalize adRun b T (b.n + 1) [] [] at' = R at *
  generalize b.n + 1 = N at *
  go_enter Try.func82, Try.ntmps82
  go_wp2_with fail
  go_loopw [0] (fun i wx => ∃ n nx : Nat, nx < 65536 ∧ i = .int .i64 (nx : Int) ∧ EachAt b T xh xl base R nx w wx n) (fun i wx => leastN fun n => EachAt b T xh xl base R (intOf i).toNat w wx n)
  case atStart => exact ⟨N, at', HAt.out, rfl, H0.out⟩
  case round =>
    obtain ⟨n, nx, hnx, rfl, hh⟩ := hrel
    obtain ⟨hh, hmin⟩ := leastN_spec (P := fun n => EachAt b T xh xl base R nx w wr n) ⟨n, hh⟩
    obtain ⟨q, hq⟩ : ∃ q, leastN (fun n => EachAt b T xh xl base R nx w wr n) = q := ⟨_, rfl⟩
    rw [hq] at hh
    have HQ := Lib.hid hq
    have HH := Lib.hid hh
    clear hh H0 hmin hq
    by_cases ha : nx = 0
    · subst ha
      have HX := Lib.hid (HE.out _ _ HH.out)
      go_wp2_with fail
      go_end0
      exact HX.out
    · have hne : ((nx : Int) != 0) = true := by rw [bne_iff_ne]; omega
      rcases HS.out _ _ _ HH.out ha with ⟨k, hk, hC⟩ | ⟨m, n2, hm, hn2, hC⟩
      · have HC := Lib.hid hC
        have HK := Lib.hid hk
        clear hC hk
        go_wp2_with fail
        refine HC.out.mono ?_
        rintro e w1 ⟨rfl, hg⟩
        have HX := Lib.hid (HBad.out k w1 HK.out hg)
        clear hg
        unfold failed
        go_wp2_with fail
        exact ⟨rfl, HX.out⟩
      · have HC := Lib.hid hC
        have HM := Lib.hid (And.intro hm hn2)
        clear hC hm hn2
        go_wp2_with fail
        refine HC.out.mono ?_
        rintro e w1 ⟨rfl, hh2⟩
        have HH2 := Lib.hid hh2
        clear hh2
        go_wp2_with fail
        go_roundw
        case rel => exact ⟨m, n2, HM.out.2, rfl, HH2.out⟩
        case measure =>
          have h2 := (leastN_spec (P := fun n => EachAt b T xh xl base R n2 w w1 n) ⟨m, HH2.out⟩).2 m HH2.out
          have h3 := HM.out.1
          have h4 := HQ.out
          simp only [intOf_nat]
          omega
end
end Go.Proofs.Ytjjmapmombhmlaa

/-
  What an entry's own bytes say; a byte of it another; the chain of entries that a law lays.
-/
namespace Go.Proofs.Ytjjmapmombhmlaa
open Go.RowKit

theorem ext_list (s : ByteArray) (a b : Nat) : (s.extract a b).data.toList = (s.data.toList.drop a).take (b - a) := by
  rw [ByteArray.data_extract, Array.toList_extract, List.extract_eq_take_drop]
theorem ext_end (s : ByteArray) (a : Nat) : (s.extract a s.size).data.toList = s.data.toList.drop a := by
  rw [ext_list, List.take_of_length_le]
  rw [List.length_drop]
  show s.data.toList.length - a ≤ s.size - a
  simp
theorem ahead_list (s : ByteArray) : (ahead s).data.toList = s.data.toList.take 60 := by
  unfold ahead
  rw [ext_list, List.drop_zero]
theorem num_inj {l k : List UInt8} (h : l.length = k.length) (e : num l = num k) : l = k := by
  have := num_eq l k h
  rw [e, decide_eq_true rfl] at this
  exact eq_of_beq this
theorem enc_num (l : List UInt8) (n : Nat) (h : l.length = n) : enc (num l) n = l := by
  refine num_inj (by rw [enc_len, h]) ?_
  rw [num_enc]
  have := num_lt l
  rw [h] at this
  exact Nat.mod_eq_of_lt this
theorem cut_at (A : List UInt8) (k n : Nat) : A.drop k = (A.drop k).take n ++ A.drop (k + n) := by
  rw [← List.drop_drop, List.take_append_drop]
theorem cut_all (A : List UInt8) : A = A.take 1 ++ ((A.drop 1).take 4 ++ ((A.drop 5).take 4 ++ ((A.drop 9).take 1 ++ ((A.drop 10).take 2 ++ ((A.drop 12).take 2 ++ ((A.drop 14).take 4 ++ ((A.drop 18).take 2 ++ A.drop 20))))))) := by
  rw [← cut_at A 18 2, ← cut_at A 14 4, ← cut_at A 12 2, ← cut_at A 10 2, ← cut_at A 9 1, ← cut_at A 5 4, ← cut_at A 1 4, List.take_append_drop]
theorem len_cut (A : List UInt8) (h : A.length = 60) (k n : Nat) (hk : k + n ≤ 60) : ((A.drop k).take n).length = n := by
  rw [List.length_take, List.length_drop, h]
  omega
theorem one_of (A : List UInt8) (h : A.length = 60) (ho : onOf A ≤ 1) : enc (oneIf (enOf A).only) 1 = (A.drop 9).take 1 := by
  have e : oneIf (enOf A).only = onOf A := by
    show oneIf (((onOf A : Nat) : Int) == 1) = onOf A
    unfold oneIf
    have h2 : onOf A = 0 ∨ onOf A = 1 := by omega
    rcases h2 with h2 | h2 <;> rw [h2] <;> rfl
  rw [e]
  exact enc_num _ 1 (len_cut A h 9 1 (by omega))
theorem text_of (A : List UInt8) (h : A.length = 60) : (enOf A).text (nxOf A) = 86 :: ((A.drop 1).take 4 ++ ((A.drop 5).take 4 ++ (enc (oneIf (enOf A).only) 1 ++ ((A.drop 10).take 2 ++ ((A.drop 12).take 2 ++ ((A.drop 14).take 4 ++ (A.drop 18).take 2)))))) := by
  show 86 :: (enc (num ((A.drop 1).take 4)) 4 ++ (enc (num ((A.drop 5).take 4)) 4 ++ (enc (oneIf (enOf A).only) 1 ++ (enc (num ((A.drop 10).take 2)) 2 ++ (enc (num ((A.drop 12).take 2)) 2 ++ (enc (num ((A.drop 14).take 4)) 4 ++ enc (num ((A.drop 18).take 2)) 2)))))) = _
  rw [enc_num _ 4 (len_cut A h 1 4 (by omega)), enc_num _ 4 (len_cut A h 5 4 (by omega)), enc_num _ 2 (len_cut A h 10 2 (by omega)), enc_num _ 2 (len_cut A h 12 2 (by omega)), enc_num _ 4 (len_cut A h 14 4 (by omega)), enc_num _ 2 (len_cut A h 18 2 (by omega))]
theorem zeros_of : ∀ l : List UInt8, l.all (· == 0) = true → l = List.replicate l.length 0
  | [], _ => rfl
  | b :: l, h => by
    rw [List.all_cons, Bool.and_eq_true] at h
    have e : b = 0 := eq_of_beq h.1
    rw [List.length_cons, List.replicate_succ, ← zeros_of l h.2, e]
theorem zeros_all (n : Nat) : (List.replicate n (0 : UInt8)).all (· == 0) = true := by
  rw [List.all_eq_true]
  intro x hx
  rw [List.eq_of_mem_replicate hx]
  rfl
theorem pad_text (o : EN) (nx : Nat) : padTo (o.text nx) = o.text nx ++ List.replicate 40 0 := by unfold padTo; rw [EN.text_len]
/-- are these the bytes of what they say -/
theorem same_text (A : List UInt8) (h : A.length = 60) : padTo ((enOf A).text (nxOf A)) = A ↔ (A.take 1 = [86] ∧ (A.drop 20).all (· == 0) = true ∧ onOf A ≤ 1) := by
  have hT := EN.text_len (enOf A) (nxOf A)
  constructor
  · intro e
    rw [pad_text] at e
    have e1 : A.take 20 = (enOf A).text (nxOf A) := (congrArg (List.take 20) e.symm).trans (List.take_left' hT)
    have e2 : A.drop 20 = List.replicate 40 0 := by
      have h2 : ((enOf A).text (nxOf A) ++ List.replicate 40 0).drop 20 = List.replicate 40 0 := List.drop_left' hT
      rw [e] at h2
      exact h2
    have e3 : (A.drop 9).take 1 = enc (oneIf (enOf A).only) 1 := by
      have h1 : ((A.take 20).drop 9).take 1 = (A.drop 9).take 1 := by rw [List.drop_take, List.take_take]; rfl
      rw [← h1, e1, text_of A h]
      rw [show (9 : Nat) = 8 + 1 from rfl, List.drop_succ_cons, ← List.append_assoc ((A.drop 1).take 4), List.drop_left' (by rw [List.length_append, len_cut A h 1 4 (by omega), len_cut A h 5 4 (by omega)]), List.take_left' (enc_len _ _)]
    refine ⟨?_, by rw [e2]; exact zeros_all 40, ?_⟩
    · have h1 : (A.take 20).take 1 = A.take 1 := by rw [List.take_take]; rfl
      rw [← h1, e1]
      rfl
    · show num ((A.drop 9).take 1) ≤ 1
      rw [e3, num_enc]
      unfold oneIf
      split <;> decide
  · rintro ⟨h1, h2, h3⟩
    have hz := zeros_of _ h2
    rw [List.length_drop, h] at hz
    have hz : A.drop 20 = List.replicate 40 0 := hz
    have hc := cut_all A
    rw [h1, hz] at hc
    rw [pad_text, text_of A h, one_of A h h3]
    refine Eq.trans ?_ hc.symm
    simp only [List.cons_append, List.append_assoc, List.nil_append]
theorem sealed_same (s : ByteArray) (h1 : s.size = 64) (h : saysSum s = C.Crc.sum (ahead s).data.toList) : (⟨(sealed ((enOf (ahead s).data.toList).text (nxOf (ahead s).data.toList))).toArray⟩ : ByteArray) = s ↔ padTo ((enOf (ahead s).data.toList).text (nxOf (ahead s).data.toList)) = (ahead s).data.toList := by
  have hl : s.data.toList.length = 64 := by rw [← h1]; simp
  have hT := EN.text_len (enOf (ahead s).data.toList) (nxOf (ahead s).data.toList)
  have hp := padTo_len ((enOf (ahead s).data.toList).text (nxOf (ahead s).data.toList)) (by omega)
  generalize (enOf (ahead s).data.toList).text (nxOf (ahead s).data.toList) = T at *
  constructor
  · intro e
    have e1 : sealed T = s.data.toList := congrArg (fun x : ByteArray => x.data.toList) e
    rw [ahead_list, ← e1]
    unfold sealed
    exact (List.take_left' hp).symm
  · intro e
    apply ByteArray.ext
    apply Array.toList_inj.mp
    show sealed T = s.data.toList
    unfold sealed
    rw [e, ← h]
    unfold saysSum
    rw [ext_end, List.take_of_length_le (by rw [List.length_drop, hl]; decide), enc_num _ 4 (by rw [List.length_drop, hl]), ahead_list, List.take_append_drop]
/-- an entry's own bytes -/
theorem own_says (o : EN) (nx : Nat) : saysSum ⟨(sealed (o.text nx)).toArray⟩ = C.Crc.sum (ahead ⟨(sealed (o.text nx)).toArray⟩).data.toList ∧ (ahead ⟨(sealed (o.text nx)).toArray⟩).data.toList = padTo (o.text nx) := by
  have hp := padTo_len (o.text nx) (by rw [EN.text_len]; decide)
  have e : (ahead ⟨(sealed (o.text nx)).toArray⟩).data.toList = padTo (o.text nx) := by
    rw [ahead_list]
    show (sealed (o.text nx)).take 60 = _
    unfold sealed
    exact List.take_left' hp
  refine ⟨?_, e⟩
  rw [e]
  unfold saysSum
  rw [ext_end]
  show num (((sealed (o.text nx)).drop 60).take 4) = _
  unfold sealed
  rw [List.drop_left' hp, List.take_of_length_le (by rw [enc_len]; exact Nat.le_refl _), num_enc]
  exact Nat.mod_eq_of_lt (crc_lt _)
theorem own_back (o : EN) (ho : o.fits) (nx : Nat) (hn : nx < 65536) : enOf (padTo (o.text nx)) = o ∧ nxOf (padTo (o.text nx)) = nx ∧ onOf (padTo (o.text nx)) ≤ 1 ∧ (padTo (o.text nx)).take 1 = [86] ∧ ((padTo (o.text nx)).drop 20).all (· == 0) = true := by
  obtain ⟨id, parent, only, size, root, born⟩ := o
  have h1 : id < 4294967296 := ho.id
  have h2 : parent < 4294967296 := ho.parent
  have h3 : size < 65536 := ho.size
  have h4 : root < 65536 := ho.root
  have h5 : born < 4294967296 := ho.born
  obtain ⟨Z, hZ⟩ : ∃ Z, List.replicate 40 (0 : UInt8) = Z := ⟨_, rfl⟩
  have hT : padTo ((⟨id, parent, only, size, root, born⟩ : EN).text nx) = 86 :: (enc id 4 ++ (enc parent 4 ++ (enc (oneIf only) 1 ++ (enc size 2 ++ (enc root 2 ++ (enc born 4 ++ (enc nx 2 ++ Z))))))) := by
    rw [pad_text, hZ]
    simp only [EN.text, List.cons_append, List.append_assoc]
  rw [hT]
  obtain ⟨T, hTe⟩ : ∃ T, (86 :: (enc id 4 ++ (enc parent 4 ++ (enc (oneIf only) 1 ++ (enc size 2 ++ (enc root 2 ++ (enc born 4 ++ (enc nx 2 ++ Z))))))) : List UInt8) = T := ⟨_, rfl⟩
  rw [hTe]
  have d1 : T.drop 1 = enc id 4 ++ (enc parent 4 ++ (enc (oneIf only) 1 ++ (enc size 2 ++ (enc root 2 ++ (enc born 4 ++ (enc nx 2 ++ Z)))))) := by rw [← hTe]; rfl
  have d5 : T.drop 5 = enc parent 4 ++ (enc (oneIf only) 1 ++ (enc size 2 ++ (enc root 2 ++ (enc born 4 ++ (enc nx 2 ++ Z))))) := by rw [show (5 : Nat) = 1 + 4 from rfl, ← List.drop_drop, d1]; exact List.drop_left' (enc_len _ _)
  have d9 : T.drop 9 = enc (oneIf only) 1 ++ (enc size 2 ++ (enc root 2 ++ (enc born 4 ++ (enc nx 2 ++ Z)))) := by rw [show (9 : Nat) = 5 + 4 from rfl, ← List.drop_drop, d5]; exact List.drop_left' (enc_len _ _)
  have d10 : T.drop 10 = enc size 2 ++ (enc root 2 ++ (enc born 4 ++ (enc nx 2 ++ Z))) := by rw [show (10 : Nat) = 9 + 1 from rfl, ← List.drop_drop, d9]; exact List.drop_left' (enc_len _ _)
  have d12 : T.drop 12 = enc root 2 ++ (enc born 4 ++ (enc nx 2 ++ Z)) := by rw [show (12 : Nat) = 10 + 2 from rfl, ← List.drop_drop, d10]; exact List.drop_left' (enc_len _ _)
  have d14 : T.drop 14 = enc born 4 ++ (enc nx 2 ++ Z) := by rw [show (14 : Nat) = 12 + 2 from rfl, ← List.drop_drop, d12]; exact List.drop_left' (enc_len _ _)
  have d18 : T.drop 18 = enc nx 2 ++ Z := by rw [show (18 : Nat) = 14 + 4 from rfl, ← List.drop_drop, d14]; exact List.drop_left' (enc_len _ _)
  have d20 : T.drop 20 = Z := by rw [show (20 : Nat) = 18 + 2 from rfl, ← List.drop_drop, d18]; exact List.drop_left' (enc_len _ _)
  have n1 : num ((T.drop 1).take 4) = id := by rw [d1, List.take_left' (enc_len _ _), num_enc, Nat.mod_eq_of_lt h1]
  have n5 : num ((T.drop 5).take 4) = parent := by rw [d5, List.take_left' (enc_len _ _), num_enc, Nat.mod_eq_of_lt h2]
  have n9 : num ((T.drop 9).take 1) = oneIf only := by
    rw [d9, List.take_left' (enc_len _ _), num_enc]
    cases only <;> rfl
  have n10 : num ((T.drop 10).take 2) = size := by rw [d10, List.take_left' (enc_len _ _), num_enc, Nat.mod_eq_of_lt h3]
  have n12 : num ((T.drop 12).take 2) = root := by rw [d12, List.take_left' (enc_len _ _), num_enc, Nat.mod_eq_of_lt h4]
  have n14 : num ((T.drop 14).take 4) = born := by rw [d14, List.take_left' (enc_len _ _), num_enc, Nat.mod_eq_of_lt h5]
  have n18 : num ((T.drop 18).take 2) = nx := by rw [d18, List.take_left' (enc_len _ _), num_enc, Nat.mod_eq_of_lt hn]
  refine ⟨?_, n18, ?_, by rw [← hTe]; rfl, by rw [d20, ← hZ]; exact zeros_all 40⟩
  · unfold enOf
    rw [n1, n5, n9, n10, n12, n14]
    have : (((oneIf only : Nat) : Int) == 1) = only := by cases only <;> rfl
    rw [this]
  · show num ((T.drop 9).take 1) ≤ 1
    rw [n9]
    cases only <;> decide
/-- may an entry not be -/
def badO (o : EN) : Prop := o.id = 0 ∨ o.size < 1 ∨ 2048 < o.size
instance (o : EN) : Decidable (badO o) := by unfold badO; infer_instance
theorem own_catE (o : EN) (ho : o.fits) (nx : Nat) (hn : nx < 65536) : catE ⟨(sealed (o.text nx)).toArray⟩ = if badO o then some 1 else none := by
  obtain ⟨h1, h2⟩ := own_says o nx
  obtain ⟨b1, b2, b3, b4, b5⟩ := own_back o ho nx hn
  have hs : (⟨(sealed (o.text nx)).toArray⟩ : ByteArray).size = 64 := by
    show (sealed (o.text nx)).toArray.size = 64
    rw [List.size_toArray]
    unfold sealed
    rw [List.length_append, padTo_len _ (by rw [EN.text_len]; decide), enc_len]
  unfold catE
  rw [hs, if_neg (by decide), if_neg (by rw [h1]; exact fun e => e rfl), if_neg (by decide), h2]
  have hb : badEn (padTo (o.text nx)) ↔ badO o := by
    unfold badEn badO
    rw [b1]
    constructor
    · rintro (e | e)
      · omega
      · exact e
    · exact Or.inr
  by_cases h : badO o
  · rw [if_pos h, if_neg fun e => e.2.2 (hb.2 h)]
  · rw [if_neg h, if_pos ⟨b4, b5, fun e => h (hb.1 e)⟩]
theorem own_got (o : EN) (ho : o.fits) (nx : Nat) (hn : nx < 65536) : gotEN ⟨(sealed (o.text nx)).toArray⟩ = (if badO o then EN.none else o) ∧ gotNx ⟨(sealed (o.text nx)).toArray⟩ = if badO o then 0 else nx := by
  obtain ⟨h1, h2⟩ := own_says o nx
  obtain ⟨b1, b2, _⟩ := own_back o ho nx hn
  by_cases h : badO o
  · have e0 : catE ⟨(sealed (o.text nx)).toArray⟩ = some 1 := by rw [own_catE o ho nx hn, if_pos h]
    refine ⟨?_, ?_⟩
    · unfold gotEN
      rw [e0, if_neg (by simp), if_pos h]
    · unfold gotNx
      rw [e0, if_neg (by simp), if_pos h]
  · have e0 : catE ⟨(sealed (o.text nx)).toArray⟩ = none := by rw [own_catE o ho nx hn, if_neg h]
    refine ⟨?_, ?_⟩
    · unfold gotEN
      rw [e0, if_pos rfl, if_neg h, h2, b1]
    · unfold gotNx
      rw [e0, if_pos rfl, if_neg h, h2, b2]
/-- a text of 64 bytes that bears its sum, one byte of it another: it doesn't bear it -/
theorem turned_sum (s t : ByteArray) (p : Nat) (hp : p < 64) (hs : s.size = 64) (ht : t.size = 64) (h : saysSum s = C.Crc.sum (ahead s).data.toList)
    (hne : s.data.toList[p]? ≠ t.data.toList[p]?) (ho : ∀ j, j ≠ p → s.data.toList[j]? = t.data.toList[j]?) : saysSum t ≠ C.Crc.sum (ahead t).data.toList := by
  intro e
  have hsl : s.data.toList.length = 64 := by rw [← hs]; simp
  have htl : t.data.toList.length = 64 := by rw [← ht]; simp
  rw [ahead_list] at h e
  unfold saysSum at h e
  rw [ext_end] at h e
  generalize s.data.toList = S at *
  generalize t.data.toList = T at *
  by_cases hc : p < 60
  · have e1 : S.drop 60 = T.drop 60 := List.ext_getElem? fun j => by
      rw [List.getElem?_drop, List.getElem?_drop, ho (60 + j) (by omega)]
    have e2 : C.Crc.sum (S.take 60) = C.Crc.sum (T.take 60) := by rw [← h, ← e, e1]
    have cut : ∀ L : List UInt8, L.length = 64 → L.take 60 = L.take p ++ (L.drop p).take 1 ++ (L.drop (p + 1)).take (59 - p) := fun L hL => by
      rw [← List.take_append_drop p (L.take 60), List.take_take, List.append_assoc, Nat.min_eq_left (by omega), List.drop_take]
      congr 1
      rw [show 60 - p = 1 + (59 - p) by omega, List.take_add, List.drop_drop]
    rw [cut S hsl, cut T htl] at e2
    have f1 : S.take p = T.take p := List.ext_getElem? fun j => by
      by_cases hj : j < p
      · rw [List.getElem?_take_of_lt hj, List.getElem?_take_of_lt hj, ho j (by omega)]
      · rw [List.getElem?_take_eq_none (by omega), List.getElem?_take_eq_none (by omega)]
    have f3 : (S.drop (p + 1)) = (T.drop (p + 1)) := List.ext_getElem? fun j => by
      rw [List.getElem?_drop, List.getElem?_drop, ho (p + 1 + j) (by omega)]
    rw [f1, f3] at e2
    have g := C.Crc.sum_spoilt (T.take p) ((S.drop p).take 1) ((T.drop p).take 1) ((T.drop (p + 1)).take (59 - p)) (by rw [List.length_take, List.length_take, List.length_drop, List.length_drop, hsl, htl]) (by rw [List.length_take]; omega) e2
    have g0 := congrArg (fun l => l[0]?) g
    simp only [List.getElem?_take_of_lt (show 0 < 1 by omega), List.getElem?_drop, Nat.add_zero] at g0
    exact hne g0
  · have e1 : S.take 60 = T.take 60 := List.ext_getElem? fun j => by
      by_cases hj : j < 60
      · rw [List.getElem?_take_of_lt hj, List.getElem?_take_of_lt hj, ho j (by omega)]
      · rw [List.getElem?_take_eq_none (by omega), List.getElem?_take_eq_none (by omega)]
    rw [e1, ← e] at h
    have g := num_inj (by rw [List.length_take, List.length_take, List.length_drop, List.length_drop, hsl, htl]) h
    have g0 := congrArg (fun l => l[p - 60]?) g
    simp only [List.getElem?_take_of_lt (show p - 60 < 4 by omega), List.getElem?_drop, show 60 + (p - 60) = p by omega] at g0
    exact hne g0

theorem decLen (l : List UInt8) : (⟨l.toArray⟩ : ByteArray).size = l.length := by simp [ByteArray.size]
theorem entB_size (o : EN) (nx : Nat) : (entB o nx).size = 64 := by
  unfold entB
  rw [decLen]
  unfold sealed
  rw [List.length_append, padTo_len _ (by rw [EN.text_len]; decide), enc_len]
/-- a text of 64 bytes is refused where it doesn't bear its sum -/
theorem catE_sum (t : ByteArray) (ht : t.size = 64) (h : saysSum t ≠ C.Crc.sum (ahead t).data.toList) : catE t = some 11 := by
  unfold catE
  rw [ht, if_neg (by decide), if_pos h]
theorem catE_turned (o : EN) (nx : Nat) (t : ByteArray) (p : Nat) (hp : p < 64) (ht : t.size = 64) (hne : (entB o nx).data.toList[p]? ≠ t.data.toList[p]?) (ho : ∀ j, j ≠ p → (entB o nx).data.toList[j]? = t.data.toList[j]?) : catE t = some 11 :=
  catE_sum t ht (turned_sum (entB o nx) t p hp (entB_size o nx) ht (own_says o nx).1 hne ho)
theorem sec_size (T : Nat → UInt8) (k : Nat) : (secB T k).size = 64 := by
  unfold secB
  rw [decLen, sec_length]
theorem secB_congr {T U : Nat → UInt8} {k : Nat} (h : ∀ j, j < 64 → T (k * 64 + j) = U (k * 64 + j)) : secB T k = secB U k := by
  unfold secB sec
  congr 2
  exact List.map_congr_left fun j hj => h j (List.mem_range.1 hj)
theorem wroteT_other (T : Nat → UInt8) (k : Nat) (s : ByteArray) (i : Nat) (h : i ≠ k) : secB (wroteT T k s) i = secB T i := secB_congr fun j hj => by
  unfold wroteT
  rw [if_neg (by omega)]
theorem wroteT_same (T : Nat → UInt8) (k : Nat) (s : ByteArray) (h : s.size = 64) : secB (wroteT T k s) k = s := by
  unfold secB sec
  apply ByteArray.ext
  apply Array.toList_inj.mp
  show List.map (fun j => wroteT T k s (k * 64 + j)) (List.range 64) = s.data.toList
  have hl : s.data.toList.length = 64 := by rw [← h]; simp
  refine List.ext_getElem (by simp [hl]) fun j h1 h2 => ?_
  have hj : j < 64 := by simpa using h1
  rw [List.getElem_map, List.getElem_range]
  unfold wroteT txtf
  rw [if_pos (by omega), show k * 64 + j - k * 64 = j by omega, List.getD_eq_getElem?_getD, List.getElem?_eq_getElem h2]
  rfl
theorem bendT_other (T : Nat → UInt8) (k b : Nat) (hb : b < 64) (x : UInt8) (i : Nat) (h : i ≠ k) : secB (bendF T (k * 64 + b) x) i = secB T i := secB_congr fun j hj => by
  unfold bendF
  rw [if_neg (by omega)]
theorem sec_at (T : Nat → UInt8) (k j : Nat) (h : j < 64) : (secB T k).data.toList[j]? = some (T (k * 64 + j)) := by
  unfold secB sec
  show (List.map (fun j => T (k * 64 + j)) (List.range 64))[j]? = _
  rw [List.getElem?_map, List.getElem?_range h]
  rfl
theorem sec_at_none (T : Nat → UInt8) (k j : Nat) (h : ¬ j < 64) : (secB T k).data.toList[j]? = none := by
  have := sec_size T k
  exact List.getElem?_eq_none (by
    have e : (secB T k).data.toList.length = (secB T k).size := by simp
    omega)
theorem xor_ne (a x : UInt8) (hx : x ≠ 0) : a ≠ a ^^^ x := fun e => hx (by
  have h := congrArg (fun y => a ^^^ y) e
  simp only [UInt8.xor_self, ← UInt8.xor_assoc, UInt8.zero_xor] at h
  exact h.symm)
/-- an entry of which a byte was made another one -/
theorem catE_bent (T : Nat → UInt8) (k b : Nat) (hb : b < 64) (x : UInt8) (hx : x ≠ 0) (o : EN) (nx : Nat) (h : secB T k = entB o nx) : catE (secB (bendF T (k * 64 + b) x) k) = some 11 := by
  refine catE_turned o nx _ b hb (sec_size _ _) ?_ fun j hj => ?_
  · rw [← h, sec_at _ _ _ hb, sec_at _ _ _ hb]
    unfold bendF
    rw [if_pos rfl]
    exact fun e => xor_ne _ _ hx (Option.some.inj e)
  · rw [← h]
    by_cases h6 : j < 64
    · rw [sec_at _ _ _ h6, sec_at _ _ _ h6]
      unfold bendF
      rw [if_neg (by omega)]
    · rw [sec_at_none _ _ _ h6, sec_at_none _ _ _ h6]
theorem catE_zero (T : Nat → UInt8) (k : Nat) (h : ∀ j, j < 64 → T (k * 64 + j) = 0) : catE (secB T k) = some 11 := by
  have e : secB T k = ⟨(List.replicate 64 (0 : UInt8)).toArray⟩ := by
    unfold secB sec
    congr 2
    refine List.ext_getElem (by simp) fun j h1 h2 => ?_
    have hj : j < 64 := by simpa using h1
    rw [List.getElem_map, List.getElem_range, List.getElem_replicate]
    exact h j hj
  rw [e]
  refine catE_sum _ (by rw [decLen]; simp) ?_
  have e1 : saysSum ⟨(List.replicate 64 (0 : UInt8)).toArray⟩ = 0 := by decide
  have e2 : (ahead ⟨(List.replicate 64 (0 : UInt8)).toArray⟩).data.toList = List.replicate 60 0 := by decide
  rw [e1, e2]
  decide +kernel
end Go.Proofs.Ytjjmapmombhmlaa
