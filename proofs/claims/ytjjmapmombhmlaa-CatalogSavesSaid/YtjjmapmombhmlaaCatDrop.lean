/-
  catalog.Drop of entries that are young: contracts.
-/
import Derived.Test.YtjjmapmombhmlaaCatSp
import Derived.Test.YtjjmapmombhmlaaHeapYoung2
namespace Go.Proofs.Ytjjmapmombhmlaa
open Go.RowKit Go.Maps Go.ChangeMaps Go.WideShapes
section
variable {b : HB} {s : HS} {dp n : Nat} {f0 : List Step} {w w' : World}
set_option maxRecDepth 100000 in
set_option maxHeartbeats 1000000 in
/-- a Try within a Try, that doesn't fail, whoever is gone -/
theorem lTryG (ok : b.ok) (hdp : 0 < dp) (hd : dp < 100000) (h : InL b s dp f0 n w) (run : FuncId) (cap : Array Value) (R : HS → Nat → (Nat → UInt8) → World → Prop)
    (hcall : ∀ wy : World, (callFunc run cap).run Try.prog wy = .ok (.enter run cap) wy)
    (hrun : ∀ f1, InL b s (dp + 1) f1 n (tryWorld b.g dp w) → Calls Try.prog run cap (tryWorld b.g dp w) fun e w' => ∃ s1 n1 U, e = .returned (.tuple #[]) ∧ InL (b.at U) s1 (dp + 1) f1 n1 w' ∧ w'.heap[w.heap.size]? = some errBox ∧ R s1 n1 U w') :
    Calls Try.prog 23 #[.pointer (some ⟨b.hb, 0, none⟩), .func (.func run) #[] cap] w fun e w' => ∃ s1 n1 U w1, e = .returned (.int .i64 0) ∧ R s1 n1 U w1 ∧ InL (b.at U) s1 dp f0 n1 w' ∧ Grew (fun k => k = b.g ∨ k = w.heap.size) w1 w' ∧ w.heap.size < w1.heap.size := by
  obtain ⟨⟨v, fs, n1, l⟩, i⟩ := h
  have hsz := i.sz
  have hne : ¬ dp = 0 := by omega
  have i0 : HeapI b s (tryWorld b.g dp w) := ((heapLogged ok).set _ _ 0 (.int .i64 ((dp + 1 : Nat) : Int)) (by decide) i).alloc errBox
  have l0 : LogAt b.B b.g (dp + 1) v (f0 ++ fs) (tryWorld b.g dp w) := (l.deep (dp + 1)).keepAlloc _
  have HT := Lib.hid (try_any b.B b.g dp v (f0 ++ fs) run cap w l hd
    (fun o fs' w' => o = none ∧ ∃ s1 n1 U, HeapI (b.at U) s1 w' ∧ (f0 ++ fs ++ fs').length ≤ n1 ∧ R s1 n1 U w') (fun _ _ => False) hcall
    ((hrun (f0 ++ fs) ⟨⟨v, [], by rw [List.append_nil]; exact n1, by rw [List.append_nil]; exact l0⟩, i0⟩).mono (by
      rintro e w' ⟨s1, n2, U, rfl, ⟨⟨v2, fs2, hl2, l2⟩, i2⟩, hbx, hR⟩
      exact ⟨none, fs2, v2, rfl, hbx, l2, (fun _ e => by cases e), rfl, s1, n2, U, i2, hl2, hR⟩))
    (by
      rintro k fs' v' w' _ _ ⟨e, _⟩
      cases e))
  have c1 := i.c1
  have hdz : ((dp : Int) == 0) = false := by rw [beq_eq_false_iff_ne]; omega
  clear hrun i0 l0 l i n1
  go_enter Try.func23, Try.ntmps23
  go_wp2_with fail
  refine HT.out.mono ?_
  rintro e w2 ⟨o, rfl, w3, rfl, hend⟩
  have hmid : o = none ∧ ∃ s1 n1 U w1, R s1 n1 U w1 ∧ InL (b.at U) s1 dp f0 n1 (endTry b.g dp w3) ∧ Grew (fun k => k = b.g ∨ k = w.heap.size) w1 (endTry b.g dp w3) ∧ w.heap.size < w1.heap.size := by
    rcases hend with ⟨rfl, fs', w1, ⟨_, s1, n2, U, i, hl, hR⟩, hbx, rfl, v', l⟩ | ⟨k, _, _, hf, _⟩
    · have hlt : w.heap.size < w1.heap.size := by
        rcases Nat.lt_or_ge w.heap.size w1.heap.size with e | e
        · exact e
        · rw [Array.getElem?_eq_none e] at hbx; cases hbx
      have gd := done_alone w.heap.size none w1
      have i1 : HeapI (b.at U) s1 (done w.heap.size none w1) := i.keep gd (fun j hj e => by have := (ok.at U).lt j hj; have e9 : (b.at U).B = b.B := rfl; omega) fun r hr hk e => by
        obtain ⟨c, fz, e1⟩ := hk
        have e : r = w.heap.size := e
        rw [e, hbx] at e1
        simp [errBox] at e1
      have i2 : HeapI (b.at U) s1 (endTry b.g dp (done w.heap.size none w1)) := by
        unfold endTry
        rw [if_neg hne]
        exact (heapLogged (ok.at U)).set _ _ 0 _ (by decide) i1
      obtain ⟨v2, l2⟩ := l.endTry (dp := dp)
      rw [if_neg hne, List.append_assoc] at l2
      refine ⟨rfl, s1, n2, U, w1, hR, ⟨⟨v2, fs ++ fs', by rw [← List.append_assoc]; exact hl, l2⟩, i2⟩, ?_, hlt⟩
      have ge : Grew (fun k => k = b.g) (done w.heap.size none w1) (endTry b.g dp (done w.heap.size none w1)) := by
        unfold endTry
        rw [if_neg hne]
        exact (Grew.refl _).setCell _ _ fun _ => rfl
      exact (gd.mono fun x _ e => Or.inr e).step ge fun x _ e => Or.inl e
    · exact hf.elim
  obtain ⟨rfl, s1, n2, U, w1, hR, hin, g2, hlt⟩ := hmid
  generalize endTry b.g dp w3 = w2 at *
  obtain ⟨v5, fs5, n5, l5⟩ := hin.log
  have HD := Lib.hid (deep0_any b.B b.g dp _ _ w2 l5)
  have c1 := hin.st.c1
  have HIn := Lib.hid hin
  have HR := Lib.hid hR
  have HG2 := Lib.hid g2
  have HLt := Lib.hid hlt
  clear hend HT hin hR g2 hlt l5 n5
  go_wp2_with fail
  refine HD.out.mono ?_
  rintro e w4 ⟨rfl, rfl⟩
  clear HD
  go_wp2_with fail
  go_ret
  exact ⟨s1, n2, U, w1, rfl, HR.out, HIn.out, HG2.out, HLt.out⟩
/-- nothing that the heap has is touched -/
theorem InL.grown (h : InL b s dp f0 n w) (k : Grew (fun _ => False) w w') : InL b s dp f0 n w' := by
  obtain ⟨⟨v, fs, n1, l⟩, i⟩ := h
  exact ⟨⟨v, fs, n1, l.keep k (fun e => e) fun _ _ e => e⟩, i.keep k (fun _ _ e => e) fun _ _ _ e => e⟩
/-- k young ones are held, and those from the i-th last one on are let go -/
structure DrS (b : HB) (k i : Nat) (s : HS) : Prop where
  s1 : ∀ j, j < k - i → s.S j = 1 ∧ s.R ((b.f + j : Nat) : Int) = some 1 ∧ s.Y ((b.f + j : Nat) : Int) = some ()
  s2 : ∀ j, k - i ≤ j → j < k → s.S j = 2
  s0 : ∀ j, k ≤ j → j < b.n → s.S j = 0
  g : s.G = (List.range i).map fun t => b.f + (k - 1 - t)
theorem DrS.step {k i : Nat} (h : DrS b k i s) (hi : i < k) : DrS b k (i + 1) (s.letYoung (k - 1 - i) ((b.f + (k - 1 - i) : Nat) : Int) (b.f + (k - 1 - i))) where
  s1 := fun j hj => by
    obtain ⟨a1, a2, a3⟩ := h.s1 j (by omega)
    have e1 : ¬ j = k - 1 - i := by omega
    have e2 : ¬ ((b.f + j : Nat) : Int) = ((b.f + (k - 1 - i) : Nat) : Int) := by omega
    refine ⟨?_, ?_, ?_⟩
    · show upd s.S (k - 1 - i) 2 j = 1
      unfold upd
      rw [if_neg e1]; exact a1
    · show upF s.R _ none _ = _
      unfold upF
      rw [if_neg e2]; exact a2
    · show upF s.Y _ none _ = _
      unfold upF
      rw [if_neg e2]; exact a3
  s2 := fun j h1 h2 => by
    show upd s.S (k - 1 - i) 2 j = 2
    unfold upd
    by_cases e : j = k - 1 - i
    · rw [if_pos e]
    · rw [if_neg e]; exact h.s2 j (by omega) h2
  s0 := fun j h1 h2 => by
    show upd s.S (k - 1 - i) 2 j = 0
    unfold upd
    rw [if_neg (by omega)]; exact h.s0 j h1 h2
  g := by
    show s.G ++ [_] = _
    rw [h.g, List.range_succ, List.map_append]
    rfl
theorem DrS.gone {k : Nat} (h : DrS b k k s) (hk : k ≤ b.n) (hn : b.n ≤ 2048) : GoneOk b s where
  all := fun x hx => by
    rw [h.g] at hx
    obtain ⟨t, ht, rfl⟩ := List.mem_map.1 hx
    have := List.mem_range.1 ht
    exact ⟨k - 1 - t, by omega, rfl, h.s2 _ (by omega) (by omega)⟩
  nd := by
    rw [h.g]
    refine List.pairwise_map.2 (List.Pairwise.imp_of_mem (fun {x y} hx hy hlt => ?_) List.pairwise_lt_range)
    have h1 := List.mem_range.1 hx
    have h2 := List.mem_range.1 hy
    omega
  len := by
    rw [h.g, List.length_map, List.length_range]
    omega
theorem DrS.fin {k : Nat} (h : DrS b k k s) : ∀ j, j < b.n → (s.fin b).S j = 0 := fun j hj => by
  show (if b.f + j ∈ s.G.take s.G.length then 0 else s.S j) = 0
  rw [List.take_length]
  by_cases hjk : j < k
  · rw [if_pos]
    rw [h.g]
    exact List.mem_map.2 ⟨k - 1 - j, List.mem_range.2 (by omega), by omega⟩
  · split
    · rfl
    · exact h.s0 j (by omega) hj
set_option maxRecDepth 100000 in
set_option maxHeartbeats 1000000 in
/-- what Drop does at an entry -/
theorem dropV (ok : b.ok) (i nx : Nat) (hi : i < b.n) (hs : s.S i = 1) (hr : s.R ((b.f + i : Nat) : Int) = some 1) (hy : s.Y ((b.f + i : Nat) : Int) = some ()) (hgl : s.G.length < 90000) (hn : n < 80000) (hp : catE (secB b.T (b.f + i)) = none) (hx : gotNx (secB b.T (b.f + i)) = nx) (xh : Nat) (h : InL b s (dp + 1) f0 n w) (bh : Box xh 43 (.pointer (some ⟨b.hb, 0, none⟩)) w) :
    Calls Try.prog 87 #[.int .i64 ((b.f + i : Nat) : Int), .pointer (some ⟨xh, 0, none⟩)] w fun e w' => e = .returned (.int .i64 (nx : Int)) ∧ InL b (s.letYoung i ((b.f + i : Nat) : Int) (b.f + i)) (dp + 1) f0 (n + 4) w' ∧ Grew (Mut b.B b.S0 w) w w' := by
  have HGet := Lib.hid (hGet_any b ok s i hi hs b.T w h.st h.st.dt)
  have HP : Hid (∀ wx, Calls Try.prog 84 #[.string (secB b.T (b.f + i))] wx fun e w' => e = .returned (.tuple #[.agg (gotEN (secB b.T (b.f + i))).cells, .int .i64 (nx : Int)]) ∧ Below wx.heap.size wx w') := Lib.hid fun wx => by
    have := catParse_any (secB b.T (b.f + i)) wx
    rw [hp, hx] at this
    exact this
  have HLess : Hid (∀ wx, Grew (fun _ => False) w wx → Calls Try.prog 25 #[.pointer (some ⟨b.hb, 0, none⟩), .int .i64 ((b.f + i : Nat) : Int)] wx fun e w' => e = .returned (.bool true) ∧ InL b (s.letYoung i ((b.f + i : Nat) : Int) (b.f + i)) (dp + 1) f0 (n + 4) w' ∧ Grew (Mut b.B b.S0 w) w w') := Lib.hid fun wx g => by
    obtain ⟨⟨v, fs, n1, l⟩, st⟩ := h.grown g
    refine (less1_last b ok s _ i 4 hi hs hr dp (f0 ++ fs) wx st (letGo1_young b ok s i hi hs hy hgl dp v (f0 ++ fs) wx.drew (by omega) st.drew l.drew')).mono ?_
    rintro e w' ⟨rfl, hd⟩
    exact ⟨rfl, InL.of n1 hd, (g.mono fun _ _ e => e.elim).thenMut hd.grew⟩
  have c1 := bh.cell
  have HC : Hid (∀ wx, Grew (fun _ => False) w wx → wx.cell? ⟨xh, 0, none⟩ = some (.pointer (some ⟨b.hb, 0, none⟩))) := Lib.hid fun wx g => (bh.keep g fun e => e).cell
  generalize secB b.T (b.f + i) = t at *
  generalize gotEN t = x at *
  generalize ((b.f + i : Nat) : Int) = T at *
  obtain ⟨id, parent, only, size, root, born⟩ := x
  have HP : Hid (∀ wx, Calls Try.prog 84 #[.string t] wx fun e w' => e = .returned (.tuple #[.agg #[.int .u32 id, .int .u32 parent, .bool only, .int .i64 size, .int .i64 root, .int .u32 born], .int .i64 (nx : Int)]) ∧ Below wx.heap.size wx w') := HP
  clear h bh hr hy hp hx hs
  go_enter Try.func87, Try.ntmps87
  go_wp2_with fail
  refine HGet.out.mono ?_
  rintro e w1 ⟨rfl, rfl⟩
  clear HGet
  go_wp2_with fail
  refine (HP.out _).mono ?_
  rintro e w2 ⟨rfl, b2⟩
  have HG2 : Hid (Grew (fun _ => False) w (w2.alloc (.cells #[.int .u32 id, .int .u32 parent, .bool only, .int .i64 size, .int .i64 root, .int .u32 born] 58))) := Lib.hid ((((Grew.refl w).drew).trans (Grew.of_below b2)).alloc _)
  clear b2 HP
  go_upto_region 2 with fail
  have c2 := HC.out _ HG2.out
  generalize w2.alloc (.cells #[.int .u32 id, .int .u32 parent, .bool only, .int .i64 size, .int .i64 root, .int .u32 born] 58) = W at *
  go_wp2_with fail
  refine (HLess.out _ HG2.out).mono ?_
  rintro e w3 ⟨rfl, hin, hg⟩
  have HX := Lib.hid (And.intro hin hg)
  clear hin hg
  go_wp2_with fail
  go_ret
  exact ⟨rfl, HX.out⟩
/-- while Drop goes through the entries -/
structure DrAt (b : HB) (k xh dp : Nat) (f0 : List Step) (n : Nat) (w : World) (i : Nat) (wx : World) : Prop where
  ex : ∃ s, DrS b k i s ∧ InL b s (dp + 1) f0 (n + 4 * i) wx
  bh : Box xh 43 (.pointer (some ⟨b.hb, 0, none⟩)) wx
  g : Grew (Mut b.B b.S0 w) w wx
theorem DrAt.step (ok : b.ok) {k xh i : Nat} (hk : k ≤ b.n) (hn : n < 70000) (e : Nat → EN) (r : Rising b e k) (ho : ∀ i, i < k → OwnAt b b.T e k i) (sh : ¬ b.S0 xh) {w wx : World} (h : DrAt b k xh dp f0 n w i wx) (hi : i < k) :
    Calls Try.prog 87 #[.int .i64 (atDn b.f k i : Nat), .pointer (some ⟨xh, 0, none⟩)] wx fun e w' => e = .returned (.int .i64 (atDn b.f k (i + 1) : Nat)) ∧ DrAt b k xh dp f0 n w (i + 1) w' := by
  obtain ⟨⟨s, hs, hl⟩, bh, g⟩ := h
  have hbn := ok.n
  obtain ⟨a1, a2, a3⟩ := hs.s1 (k - 1 - i) (by omega)
  have hlt := r.lt
  have hat : atDn b.f k i = b.f + (k - 1 - i) := by unfold atDn; rw [if_pos hi]
  have hnx : downNx b.f (k - 1 - i) = atDn b.f k (i + 1) := by
    unfold downNx atDn
    by_cases q : i + 1 < k
    · rw [if_pos q, if_neg (by omega)]
      congr 1
    · rw [if_neg q, if_pos (by omega)]
  have hnx6 : downNx b.f (k - 1 - i) < 65536 := by unfold downNx; split <;> omega
  have hE := entB_catE (e i) (r.fit i) _ hnx6
  obtain ⟨hG, hN⟩ := entB_got (e i) (r.fit i) _ hnx6
  rw [if_neg (r.ok i hi)] at hE hG hN
  have ho' : secB b.T (b.f + (k - 1 - i)) = entB (e i) (downNx b.f (k - 1 - i)) := ho i hi
  rw [← ho'] at hE hN
  rw [hat]
  refine (dropV ok (k - 1 - i) _ (by omega) a1 a2 a3 (by rw [hs.g, List.length_map, List.length_range]; omega) (by omega) hE hN xh hl bh).mono ?_
  rintro e' w' ⟨rfl, hin, hg⟩
  rw [hnx]
  refine ⟨rfl, ⟨_, hs.step hi, ?_⟩, ?_, g.thenMut hg⟩
  · rw [show n + 4 * (i + 1) = n + 4 * i + 4 by omega]
    exact hin
  · exact (Kept.of hg _ (Box.pl bh sh (by decide) (by decide))).trans bh
set_option maxRecDepth 100000 in
set_option maxHeartbeats 1000000 in
/-- all of them -/
theorem dropEach (ok : b.ok) (hf : 1 ≤ b.f) (k xh : Nat) (hk : k ≤ b.n) (hn : n < 70000) (e : Nat → EN) (r : Rising b e k) (ho : ∀ i, i < k → OwnAt b b.T e k i) (sh : ¬ b.S0 xh) (hs : DrS b k 0 s) (h : InL b s (dp + 1) f0 n w) (bh : Box xh 43 (.pointer (some ⟨b.hb, 0, none⟩)) w) :
    Calls Try.prog 82 #[.int .i64 (atDn b.f k 0 : Nat), .func (.func 87) #[] #[.pointer (some ⟨xh, 0, none⟩)]] w fun e w' => e = .returned (.tuple #[]) ∧ DrAt b k xh dp f0 n w k w' := by
  have H0 : Hid (DrAt b k xh dp f0 n w 0 w) := Lib.hid ⟨⟨s, hs, h⟩, bh, Grew.refl w⟩
  have HS := Lib.hid fun i wx (hh : DrAt b k xh dp f0 n w i wx) (hi : i < k) => hh.step ok hk hn e r ho sh hi
  have HZ : Hid (∀ i, i ≤ k → ((atDn b.f k i : Nat) = 0 ↔ i = k)) := Lib.hid fun i hi => by
    unfold atDn
    split <;> omega
  have HD : Hid (∀ i, i < k → atDn b.f k (i + 1) < atDn b.f k i) := Lib.hid fun i hi => by
    unfold atDn
    rw [if_pos hi]
    split <;> omega
  have HK := Lib.hid hk
  clear h bh hs r ho sh hk hf hn
  generalize atDn b.f k = A at *
  go_enter Try.func82, Try.ntmps82
  go_wp2_with fail
  go_loopw [0] (fun v wx => ∃ i : Nat, i ≤ k ∧ v = .int .i64 (A i : Nat) ∧ DrAt b k xh dp f0 n w i wx) (fun v _ => (intOf v).toNat)
  case atStart => exact ⟨0, Nat.zero_le _, rfl, H0.out⟩
  case round =>
    obtain ⟨i, hi, rfl, hh⟩ := hrel
    have HH := Lib.hid hh
    clear hh H0
    by_cases ha : i = k
    · subst ha
      have hz : A i = 0 := (HZ.out i (Nat.le_refl _)).2 rfl
      rw [hz]
      go_wp2_with fail
      go_end0
      exact ⟨rfl, HH.out⟩
    · have hik : i < k := by omega
      have hne : ((A i : Int) != 0) = true := by
        rw [bne_iff_ne]
        have := mt (HZ.out i hi).1 ha
        omega
      have HC := Lib.hid (HS.out _ _ HH.out hik)
      have hd := HD.out i hik
      have HDd := Lib.hid (And.intro hd hik)
      clear ha hi hd hik
      go_wp2_with fail
      refine HC.out.mono ?_
      rintro e w1 ⟨rfl, hh2⟩
      have HH2 := Lib.hid hh2
      clear hh2
      go_wp2_with fail
      go_roundw
      case rel => exact ⟨i + 1, HDd.out.2, rfl, HH2.out⟩
      case measure =>
        have := HDd.out.1
        simp only [intOf_nat]
        omega
/-- what Drop's Whole runs -/
theorem dropRun (ok : b.ok) (hf : 1 ≤ b.f) (k xh xn : Nat) (hk : k ≤ b.n) (hn : n < 70000) (e : Nat → EN) (r : Rising b e k) (ho : ∀ i, i < k → OwnAt b b.T e k i) (sh : ¬ b.S0 xh) (hs : DrS b k 0 s) (h : InL b s (dp + 1) f0 n w) (bh : Box xh 43 (.pointer (some ⟨b.hb, 0, none⟩)) w) (bn : Box xn 3 (.int .i64 (atDn b.f k 0 : Nat)) w) :
    Calls Try.prog 86 #[.pointer (some ⟨xn, 0, none⟩), .pointer (some ⟨xh, 0, none⟩)] w fun e w' => e = .returned (.tuple #[]) ∧ DrAt b k xh dp f0 n w k w' := by
  have HE := Lib.hid (dropEach ok hf k xh hk hn e r ho sh hs h bh)
  have c1 := bn.cell
  generalize atDn b.f k 0 = A at *
  clear h bh bn hs r ho hf hn hk
  go_enter Try.func86, Try.ntmps86
  go_wp2_with fail
  refine HE.out.mono ?_
  rintro e w1 ⟨rfl, hd⟩
  have HX := Lib.hid hd
  clear hd
  go_wp2_with fail
  go_end0
  exact ⟨rfl, HX.out⟩
set_option maxRecDepth 100000 in
/-- catalog.Drop, in a Try -/
theorem drop_any (ok : b.ok) (hf : 1 ≤ b.f) (k : Nat) (hk : k ≤ b.n) (hn : n < 70000) (hdp : 0 < dp) (hd : dp < 100000) (e : Nat → EN) (r : Rising b e k) (ho : ∀ i, i < k → OwnAt b b.T e k i) (hs : DrS b k 0 s) (h : InL b s dp f0 n w) :
    Calls Try.prog 40 #[.pointer (some ⟨b.hb, 0, none⟩), .int .i64 (atDn b.f k 0 : Nat)] w fun e w' => e = .returned (.tuple #[]) ∧ ∃ s' n', DrS b k k s' ∧ InL b s' dp f0 n' w' ∧ Grew (Mut b.B b.S0 w) w w' := by
  have hsz := h.size
  have z1 := Box.new w 43 (.pointer (some ⟨b.hb, 0, none⟩))
  have e1 : (w.alloc (.cells #[.pointer (some ⟨b.hb, 0, none⟩)] 43)).heap.size = w.heap.size + 1 := by simp
  have z2 := Box.new (w.alloc (.cells #[.pointer (some ⟨b.hb, 0, none⟩)] 43)) 3 (.int .i64 (atDn b.f k 0 : Nat))
  rw [e1] at z2
  have gW : Grew (fun _ => False) w ((w.alloc (.cells #[.pointer (some ⟨b.hb, 0, none⟩)] 43)).alloc (.cells #[.int .i64 (atDn b.f k 0 : Nat)] 3)) := ((Grew.refl w).alloc _).alloc _
  have hW := h.grown gW
  have z1' := z1.keepAlloc (.cells #[.int .i64 (atDn b.f k 0 : Nat)] 3)
  have c1 := z1'.cell
  have e2 : ((w.alloc (.cells #[.pointer (some ⟨b.hb, 0, none⟩)] 43)).alloc (.cells #[.int .i64 (atDn b.f k 0 : Nat)] 3)).heap.size = w.heap.size + 2 := by simp
  have HWh : Hid (Calls Try.prog 78 #[.pointer (some ⟨b.hb, 0, none⟩), .func (.func 86) #[] #[.pointer (some ⟨w.heap.size + 1, 0, none⟩), .pointer (some ⟨w.heap.size, 0, none⟩)]] ((w.alloc (.cells #[.pointer (some ⟨b.hb, 0, none⟩)] 43)).alloc (.cells #[.int .i64 (atDn b.f k 0 : Nat)] 3)) fun e w' => e = .returned (.tuple #[]) ∧ ∃ s' n', DrS b k k s' ∧ InL b s' dp f0 n' w' ∧ Grew (Mut b.B b.S0 w) w w') := Lib.hid (by
    generalize (w.alloc (.cells #[.pointer (some ⟨b.hb, 0, none⟩)] 43)).alloc (.cells #[.int .i64 (atDn b.f k 0 : Nat)] 3) = W at *
    have gT := tryWorld_grew b.g dp W
    have hgS : b.S0 b.g := ⟨1, by decide, rfl⟩
    have nS : ∀ x, w.heap.size ≤ x → ¬ b.S0 x := fun x hx => HB.far ok (by omega)
    refine whole_ok _ _ _ ((lTryG ok hdp hd hW 86 _ (fun s1 n1 U w1 => U = b.T ∧ DrS b k k s1 ∧ Grew (Mut b.B b.S0 w) w w1) (fun _ => by rfl) fun f1 hin => ?_).mono ?_)
    · refine (dropRun ok hf k w.heap.size (w.heap.size + 1) hk hn e r ho (nS _ (Nat.le_refl _)) hs hin (z1'.keep gT fun e => nS _ (Nat.le_refl _) (e ▸ hgS)) (z2.keep gT fun e => nS (w.heap.size + 1) (by omega) (e ▸ hgS))).mono ?_
      rintro e' w1 ⟨rfl, ⟨s1, d1, d2⟩, _, d4⟩
      refine ⟨s1, _, b.T, rfl, d2, ?_, rfl, d1, ?_⟩
      · rw [d4.block _ (by rw [tryWorld_size]; omega) ?_]
        · exact tryWorld_box b.g dp W
        · rintro (m | m)
          · exact nS _ (by omega) m
          · exact notFunc_err (tryWorld_box b.g dp W) m
      · have g1 : Grew (Mut b.B b.S0 w) w (tryWorld b.g dp W) := (gW.mono fun _ _ e => e.elim).step gT fun y hy e => Or.inl (e ▸ hgS)
        exact g1.thenMut d4
    · rintro e' w' ⟨s1, n1, U, w1, rfl, ⟨rfl, d1, d2⟩, hin, hg, _⟩
      exact ⟨rfl, s1, n1, d1, hin, d2.step hg fun y hy e => by
        rcases e with e | e
        · exact Or.inl (e ▸ hgS)
        · omega⟩)
  clear hs r ho hf hn hk h hW z1 z2 z1' e1 e2 gW
  generalize atDn b.f k 0 = A at *
  go_enter Try.func40, Try.ntmps40
  go_wp2_with fail
  refine HWh.out.mono ?_
  rintro e w1 ⟨rfl, hx⟩
  have HX := Lib.hid hx
  clear hx
  go_wp2_with fail
  go_end0
  exact ⟨rfl, HX.out⟩
/-- what CatalogSaves' last Try runs -/
theorem saC3 (ok : b.ok) (hf : 1 ≤ b.f) (k : Nat) (hk : k ≤ b.n) (e : Nat → EN) (r : Rising b e k) (ho : ∀ i, i < k → OwnAt b b.T e k i) (hs : DrS b k 0 s) (xh xn : Nat) (h : InL b s 1 [] 0 w) (bh : Box xh 43 (.pointer (some ⟨b.hb, 0, none⟩)) w) (bn : Box xn 3 (.int .i64 (atDn b.f k 0 : Nat)) w) :
    Calls Try.prog 39 #[.pointer (some ⟨xh, 0, none⟩), .pointer (some ⟨xn, 0, none⟩)] w fun e w' => e = .returned (.tuple #[]) ∧ ∃ s' n', DrS b k k s' ∧ InL b s' 1 [] n' w' ∧ Grew (Mut b.B b.S0 w) w w' := by
  have HD := Lib.hid (drop_any ok hf k hk (by decide) (by decide) (by decide) e r ho hs h)
  have c1 := bh.cell
  have c2 := bn.cell
  generalize atDn b.f k 0 = A at *
  clear h bh bn hs r ho hf hk
  go_enter Try.func39, Try.ntmps39
  go_wp2_with fail
  refine HD.out.mono ?_
  rintro e w1 ⟨rfl, hx⟩
  have HX := Lib.hid hx
  clear hx
  go_wp2_with fail
  go_end0
  exact ⟨rfl, HX.out⟩
set_option maxRecDepth 100000 in
/-- CatalogSaves' last Try: none is held -/
theorem saT3 (ok : b.ok) (hf : 1 ≤ b.f) (k : Nat) (hk : k ≤ b.n) (e : Nat → EN) (r : Rising b e k) (ho : ∀ i, i < k → OwnAt b b.T e k i) (hs : DrS b k 0 s) (xh xn : Nat) (hI : HeapI b s w) (hL : LogAt b.B b.g 0 (.slice none 0 0) [] w) (bh : Box xh 43 (.pointer (some ⟨b.hb, 0, none⟩)) w) (bn : Box xn 3 (.int .i64 (atDn b.f k 0 : Nat)) w) (sh : ¬ b.S0 xh) (sn : ¬ b.S0 xn) :
    Calls Try.prog 23 #[.pointer (some ⟨b.hb, 0, none⟩), .func (.func 39) #[] #[.pointer (some ⟨xh, 0, none⟩), .pointer (some ⟨xn, 0, none⟩)]] w fun e' w' => e' = .returned (.int .i64 0) ∧ ∃ s', (∀ j, j < b.n → s'.S j = 0) ∧ HeapI b s' w' ∧ Grew (Mut b.B b.S0 w) w w' := by
  have gT := tryWorld_grew b.g 0 w
  have hgS : b.S0 b.g := ⟨1, by decide, rfl⟩
  have hB := hI.sz
  refine (hTryU b ok s w hI hL 39 _ (fun s1 U w1 => U = b.T ∧ DrS b k k s1 ∧ Grew (Mut b.B b.S0 w) w w1) (fun _ => by rfl) fun hin => ?_).mono ?_
  · refine (saC3 ok hf k hk e r ho hs xh xn hin.deep (bh.keep gT fun e => sh (e ▸ hgS)) (bn.keep gT fun e => sn (e ▸ hgS))).mono ?_
    rintro e' w1 ⟨rfl, s1, n1, d1, d2, d3⟩
    refine ⟨s1, n1, b.T, rfl, d2.first, d1.gone hk ok.n, ?_, rfl, d1, ?_⟩
    · rw [d3.block _ (by rw [tryWorld_size]; omega) ?_]
      · exact tryWorld_box b.g 0 w
      · rintro (m | m)
        · exact HB.far ok hB m
        · exact notFunc_err (tryWorld_box b.g 0 w) m
    · have g1 : Grew (Mut b.B b.S0 w) w (tryWorld b.g 0 w) := gT.mono fun y _ e => Or.inl (e ▸ hgS)
      exact g1.thenMut d3
  · rintro e' w' ⟨s1, U, w1, rfl, ⟨rfl, d1, d2⟩, hI', hL', hg'⟩
    refine ⟨rfl, s1.fin b, d1.fin, hI', d2.step hg' fun y hy m => ?_⟩
    rcases m with m | m
    · exact Or.inl m.in0
    · omega
end
end Go.Proofs.Ytjjmapmombhmlaa
