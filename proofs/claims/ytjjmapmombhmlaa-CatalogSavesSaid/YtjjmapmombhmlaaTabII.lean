/-
  keep, Put and Drop of a table map[int]int, and how they are undone: contracts (written by gen_tab.py).
-/
import Derived.Test.YtjjmapmombhmlaaTab
import Derived.Maps.Own
namespace Go.Proofs.Ytjjmapmombhmlaa
open Go.RowKit Go.Maps Go.ChangeMaps Go.WideShapes

def tblII (P : Program) : Tbl Int Int where
  t := 27
  kt := 3
  et := 3
  R := plainElem P 3
  kv := fun a => .int .i64 a
  kl := fun a => .int .i64 a
  vv := fun a => .int .i64 a
  el := fun a => .lit (.int .i64 a)
  ok := fun a => (Lit.int .i64 a).wf = true
  okv := fun a => (Lit.int .i64 a).wf = true
  z := 0
theorem tblII_fine : (tblII Try.prog).Fine where
  und := Try.underlying27
  law := int_keyed Try.underlying3
  key := fun k h => keyOf_int_mk Try.underlying3 h
  isKey := fun _ => trivial
  inj := fun k k' e => (Lit.int.inj e).2
  val := fun v h => by
    dsimp only [tblII] at h ⊢
    exact plainElem_int Try.underlying3 h
  inv := fun x v ps h => by
    dsimp only [tblII] at h ⊢
    obtain ⟨a, rfl, e, _⟩ := plainElem_int_inv Try.underlying3 h
    have e1 : DataW.lit (.int .i64 v) = .lit (.int .i64 a) := congrArg Prod.fst e
    exact congrArg (Value.int .i64) (Lit.int.inj (DataW.lit.inj e1)).2.symm
  zero := fun w => by kernel_rfl
  okz := (by decide : (Lit.int .i64 0).wf = true)
/-- how a keep is undone -/
def stepII (hb wb mb kb : Nat) : Step := (125, #[.pointer (some ⟨hb, 0, none⟩), .pointer (some ⟨wb, 0, none⟩), .pointer (some ⟨mb, 0, none⟩), .pointer (some ⟨kb, 0, none⟩)])
/-- its boxes -/
structure KbII (hb wb mb kb b : Nat) (k : Int) (v : Option Int) (w : World) : Prop where
  h : w.heap[hb]? = some (.cells #[.bool v.isSome] 4)
  w' : w.heap[wb]? = some (.cells #[.int .i64 (v.getD 0)] 3)
  m : w.heap[mb]? = some (.cells #[.map (some b)] 27)
  k' : w.heap[kb]? = some (.cells #[.int .i64 k] 3)
theorem box_cellII {w : World} {x : Nat} {t : TypeId} {v : Value} (h : w.heap[x]? = some (.cells #[v] t)) : w.cell? ⟨x, 0, none⟩ = some v := by simp [World.cell?, h]
set_option maxRecDepth 100000 in
set_option maxHeartbeats 1000000 in
theorem keepBackII (hb wb mb kb b : Nat) (k : Int) (v : Option Int) (F : Int → Option Int) (L : List Int) (w : World) (hB : KbII hb wb mb kb b k v w) (hT : Tab (tblII Try.prog) b F L w) (hL : L.length < 1000000) (hok : (tblII Try.prog).ok k) (hv : ∀ y, v = some y → (tblII Try.prog).okv y ∧ k ∈ L) :
    Calls Try.prog 125 (stepII hb wb mb kb).2 w fun e w' => e = .returned (.tuple #[]) ∧ Tab (tblII Try.prog) b (upF F k v) L w' ∧ Grew (fun q => q = b) w w' := by
  have c1 := box_cellII hB.h
  have c2 := box_cellII hB.w'
  have c3 := box_cellII hB.m
  have c4 := box_cellII hB.k'
  have HT := Lib.hid hT
  have HV := Lib.hid hv
  have HO := Lib.hid hok
  have HL := Lib.hid hL
  clear hB hT hv hok hL
  unfold stepII
  cases v with
  | none =>
    have c1 : w.cell? ⟨hb, 0, none⟩ = some (.bool false) := c1
    go_enter Try.func125, Try.ntmps125
    go_wp2_with (at_delete; (refine wpList_tab_del (T := (tblII Try.prog)) tblII_fine HT.out rfl _ _ rfl rfl k rfl HO.out ?_); (intro w1 hT1 hG1); (have HT1 := Lib.hid hT1); (have HG1 := Lib.hid hG1); clear hT1 hG1)
    go_end0
    exact ⟨rfl, HT1.out, HG1.out⟩
  | some y =>
    have c1 : w.cell? ⟨hb, 0, none⟩ = some (.bool true) := c1
    have c2 : w.cell? ⟨wb, 0, none⟩ = some (.int .i64 y) := c2
    go_enter Try.func125, Try.ntmps125
    go_wp2_with (at_mapUpdate; (refine wpList_tab_put (T := (tblII Try.prog)) tblII_fine HT.out HL.out rfl _ _ _ rfl rfl k y rfl rfl (HV.out y rfl).2 HO.out (HV.out y rfl).1 ?_); (intro w1 hT1 hG1); (have HT1 := Lib.hid hT1); (have HG1 := Lib.hid hG1); clear hT1 hG1)
    go_end0
    exact ⟨rfl, HT1.out, HG1.out⟩
set_option maxRecDepth 100000 in
set_option maxHeartbeats 1000000 in
theorem keepII (B g dp b : Nat) (v : Value) (fs : List Step) (F : Int → Option Int) (L : List Int) (k : Int) (w : World) (h : LogAt B g (dp + 1) v fs w) (hl : fs.length < 100000) (hB : B ≤ w.heap.size) (hT : Tab (tblII Try.prog) b F L w) (hok : (tblII Try.prog).ok k) :
    Calls Try.prog 99 #[.pointer (some ⟨g, 0, none⟩), .map (some b), .int .i64 k] w fun e w' => e = .returned (.tuple #[]) ∧ ∃ v' x, w.heap.size = x ∧ LogAt B g (dp + 1) v' (fs ++ [stepII (x + 3) (x + 2) x (x + 1)]) w' ∧ KbII (x + 3) (x + 2) x (x + 1) b k (F k) w' ∧ Grew (fun q => q = g ∨ v.ownBlock = some q) w w' ∧ (∀ o, ¬ o = 1 → w'.cell? ⟨g, o, none⟩ = w.cell? ⟨g, o, none⟩) ∧ (∀ o, w'.frozen? ⟨g, o, none⟩ = w.frozen? ⟨g, o, none⟩) := by
  have hmf : ∀ (fn : Fn) (first cap : Array Value) (w : World), (Instr.makeFunc fn first cap).run Try.prog w = .ok (.func fn first cap) w := fun _ _ _ _ => rfl
  obtain ⟨W2, hW2⟩ : ∃ W2, (w.alloc (.cells #[.map (some b)] 27)).alloc (.cells #[.int .i64 k] 3) = W2 := ⟨_, rfl⟩
  obtain ⟨u, hu⟩ : ∃ u, (F k).getD 0 = u := ⟨_, rfl⟩
  obtain ⟨hd, hhd⟩ : ∃ hd, (F k).isSome = hd := ⟨_, rfl⟩
  have s1 : (w.alloc (.cells #[.map (some b)] 27)).heap.size = w.heap.size + 1 := by simp
  have s2 : W2.heap.size = w.heap.size + 2 := by rw [← hW2]; simp
  have g2 : Grew (fun _ => False) w W2 := by rw [← hW2]; exact ((Grew.refl w).alloc _).alloc _
  have hT2 : Tab (tblII Try.prog) b F L W2 := hT.keep g2 fun e => e
  have hlk : (Instr.lookup 27 (.map (some b)) (.int .i64 k) true).run Try.prog W2 = .ok (.tuple #[.int .i64 u, .bool hd]) W2 := by
    have := hT2.look tblII_fine k hok
    rw [hhd] at this
    have e : (tblII Try.prog).vv ((F k).getD (tblII Try.prog).z) = .int .i64 u := by rw [← hu]; rfl
    rw [e] at this
    exact this
  have bm2 : W2.heap[w.heap.size]? = some (.cells #[.map (some b)] 27) := by
    rw [← hW2, Below.heap_alloc _ _ _ (by rw [s1]; omega)]
    exact heap_alloc_new w _
  have bk2 : W2.heap[w.heap.size + 1]? = some (.cells #[.int .i64 k] 3) := by
    rw [← hW2, ← s1]
    exact heap_alloc_new _ _
  obtain ⟨W4, hW4⟩ : ∃ W4, (W2.alloc (.cells #[.int .i64 u] 3)).alloc (.cells #[.bool hd] 4) = W4 := ⟨_, rfl⟩
  have s3 : (W2.alloc (.cells #[.int .i64 u] 3)).heap.size = w.heap.size + 3 := by simp [s2]
  have g4 : Grew (fun _ => False) W2 W4 := by rw [← hW4]; exact ((Grew.refl W2).alloc _).alloc _
  have g04 : Grew (fun _ => False) w W4 := g2.trans g4
  have bw4 : W4.heap[w.heap.size + 2]? = some (.cells #[.int .i64 u] 3) := by
    rw [← hW4, Below.heap_alloc _ _ _ (by rw [s3]; omega), ← s2]
    exact heap_alloc_new _ _
  have bh4 : W4.heap[w.heap.size + 3]? = some (.cells #[.bool hd] 4) := by
    rw [← hW4, ← s3]
    exact heap_alloc_new _ _
  have bm4 : W4.heap[w.heap.size]? = some (.cells #[.map (some b)] 27) := by rw [g4.block _ (by omega) fun e => e]; exact bm2
  have bk4 : W4.heap[w.heap.size + 1]? = some (.cells #[.int .i64 k] 3) := by rw [g4.block _ (by omega) fun e => e]; exact bk2
  have hL4 : LogAt B g (dp + 1) v fs W4 := h.keep g04 (fun e => e) (fun _ _ e => e)
  have HBk := Lib.hid (back_some B g dp v fs (stepII (w.heap.size + 3) (w.heap.size + 2) w.heap.size (w.heap.size + 1)) W4 hL4 hl (Nat.le_trans hB g04.size))
  have hno : ∀ x c t, W4.heap[x]? = some (.cells c t) → t ≠ 1 → x ≠ g → ¬ (x = g ∨ v.ownBlock = some x) := fun x c t hx ht hg => by
    rintro (e | e)
    · exact hg e
    · exact other.ne ⟨_, _, _, hx, ht⟩ hL4.row e
  have hgl := h.lt
  have HFin : Hid (∀ w', Grew (fun q => q = g ∨ v.ownBlock = some q) W4 w' → KbII (w.heap.size + 3) (w.heap.size + 2) w.heap.size (w.heap.size + 1) b k (F k) w' ∧ Grew (fun q => q = g ∨ v.ownBlock = some q) w w') := Lib.hid fun w' hg => by
    have hs4 : w.heap.size + 4 = W4.heap.size := by rw [← hW4]; simp [s2]
    refine ⟨⟨?_, ?_, ?_, ?_⟩, (g04.mono fun _ _ e => e.elim).step hg fun _ _ e => e⟩
    · rw [hhd, hg.block _ (by omega) (hno _ _ _ bh4 (by decide) (by omega))]; exact bh4
    · rw [hu]; rw [hg.block _ (by omega) (hno _ _ _ bw4 (by decide) (by omega))]; exact bw4
    · rw [hg.block _ (by omega) (hno _ _ _ bm4 (by decide) (by omega))]; exact bm4
    · rw [hg.block _ (by omega) (hno _ _ _ bk4 (by decide) (by omega))]; exact bk4
  have HC := Lib.hid (fun o => (g04.cell (p := ⟨g, o, none⟩) hgl fun e => e))
  have HZ := Lib.hid (fun o => (g04.frozen (p := ⟨g, o, none⟩) hgl fun e => e))
  have HS2 := Lib.hid s2
  clear s1 s3 g2 g4 g04 hT2 bm2 bk2 bw4 bh4 bm4 bk4 hL4 hno h hT hu hhd
  subst hW4
  subst hW2
  unfold stepV stepII at HBk
  go_enter Try.func99, Try.ntmps99
  go_wp2_with fail
  refine HBk.out.mono ?_
  rintro e w1 ⟨rfl, v', hl1, hg1, hk1, hk2⟩
  obtain ⟨f1, f2⟩ := HFin.out w1 hg1
  have HF1 := Lib.hid f1
  have HF2 := Lib.hid f2
  have HL1 := Lib.hid hl1
  have HK1 := Lib.hid fun o ho => (hk1 o ho).trans (HC.out o)
  have HK2 := Lib.hid fun o => (hk2 o).trans (HZ.out o)
  clear f1 f2 hl1 hg1 hk1 hk2 HC HZ HBk HFin hlk s2 hgl
  go_wp2_with fail
  go_end0
  exact ⟨rfl, v', _, rfl, HL1.out, HF1.out, HF2.out, HK1.out, HK2.out⟩
theorem KbII.keep {b : Nat} {L : List Int} {hb wb mb kb c : Nat} {k : Int} {v : Option Int} {F : Int → Option Int} {w w' : World} (h : KbII hb wb mb kb c k v w) (hg : Grew (fun q => q = b) w w') (hT : Tab (tblII Try.prog) b F L w) : KbII hb wb mb kb c k v w' := by
  obtain ⟨D, ⟨es, clock, e2, _⟩, _⟩ := hT.own
  have hne : ∀ x cs t, w.heap[x]? = some (Obj.cells cs t (0, 0)) → w'.heap[x]? = some (Obj.cells cs t (0, 0)) := fun x cs t hx => by
    rw [hg.block x ?_ ?_]
    · exact hx
    · rcases Nat.lt_or_ge x w.heap.size with h1 | h1
      · exact h1
      · rw [Array.getElem?_eq_none h1] at hx; cases hx
    · intro e
      rw [e, e2] at hx
      cases hx
  exact ⟨hne _ _ _ h.h, hne _ _ _ h.w', hne _ _ _ h.m, hne _ _ _ h.k'⟩
theorem goodII {σ : Type} {B g b : Nat} {S0 : Nat → Prop} {I : σ → World → Prop} {L : List Int} {get : σ → Int → Option Int} {set : σ → (Int → Option Int) → σ} (A : Acc g S0 I (tblII Try.prog) b L get set) (hL : L.length < 1000000) (s s1 : σ) (k : Int) (hb wb mb kb : Nat) (w : World) (hB : KbII hb wb mb kb b k (get s k) w) (hS : ¬ S0 hb ∧ ¬ S0 wb ∧ ¬ S0 mb ∧ ¬ S0 kb) (hok : (tblII Try.prog).ok k) (hv : ∀ y, get s k = some y → (tblII Try.prog).okv y ∧ k ∈ L) (he : set s1 (upF (get s1) k (get s k)) = s) : Good B g S0 I (stepII hb wb mb kb) s1 s w := by
  refine ⟨fun _ => by kernel_rfl, fun q => q = hb ∨ q = wb ∨ q = mb ∨ q = kb, ?_, ?_⟩
  · rintro q (rfl | rfl | rfl | rfl)
    · exact ⟨hS.1, _, _, _, hB.h, by decide, by decide⟩
    · exact ⟨hS.2.1, _, _, _, hB.w', by decide, by decide⟩
    · exact ⟨hS.2.2.1, _, _, _, hB.m, by decide, by decide⟩
    · exact ⟨hS.2.2.2, _, _, _, hB.k', by decide, by decide⟩
  · intro wx hx hI
    have hBx : KbII hb wb mb kb b k (get s k) wx := ⟨(hx _ (Or.inl rfl)).trans hB.h, (hx _ (Or.inr (Or.inl rfl))).trans hB.w', (hx _ (Or.inr (Or.inr (Or.inl rfl)))).trans hB.m, (hx _ (Or.inr (Or.inr (Or.inr rfl)))).trans hB.k'⟩
    refine (keepBackII hb wb mb kb b k (get s k) (get s1) L wx hBx (A.tab _ _ hI) hL hok hv).mono ?_
    rintro e w' ⟨rfl, hT, hg⟩
    refine ⟨rfl, ?_, hg.mono fun q _ e => (by rw [e]; exact Or.inl A.own), fun _ _ _ _ hl => hl.tab (A.tab _ _ hI) A.ne hg⟩
    rw [← he]
    exact A.upd _ _ _ _ hI hT hg
set_option maxRecDepth 100000 in
/-- a Put in a Try -/
theorem putII {σ : Type} {g b : Nat} {S0 : Nat → Prop} {I : σ → World → Prop} {L : List Int} {get : σ → Int → Option Int} {set : σ → (Int → Option Int) → σ} (LG : Logged g S0 I) (A : Acc g S0 I (tblII Try.prog) b L get set) (hL : L.length < 1000000) (B dp : Nat) (v : Value) (fs : List Step) (s : σ) (k : Int) (y : Int) (w : World) (h : LogAt B g (dp + 1) v fs w) (hl : fs.length < 100000) (hB : B ≤ w.heap.size) (hI : I s w) (hok : (tblII Try.prog).ok k) (hy : (tblII Try.prog).okv y) (hk : k ∈ L)
    (hlog : ∀ w', Grew (fun q => q = g ∨ v.ownBlock = some q) w w' → (∀ o, ¬ o = 1 → w'.cell? ⟨g, o, none⟩ = w.cell? ⟨g, o, none⟩) → (∀ o, w'.frozen? ⟨g, o, none⟩ = w.frozen? ⟨g, o, none⟩) → I s w') :
    Calls Try.prog 55 #[.pointer (some ⟨g, 0, none⟩), .map (some b), .int .i64 k, .int .i64 y] w fun e w' => e = .returned (.tuple #[]) ∧ Did B g dp S0 I fs 1 s (set s (upF (get s) k (some y))) w w' := by
  have HK := Lib.hid (keepII B g dp b v fs (get s) L k w h hl hB (A.tab _ _ hI) hok)
  have HM : Hid (∀ w', Grew (fun q => q = g ∨ v.ownBlock = some q) w w' → Grew (Mut B S0 w) w w') := Lib.hid fun w' hg => hg.mono fun q _ e => by
    rcases e with e | e
    · rw [e]; exact Or.inl LG.own
    · exact Or.inr ⟨(h.row.lt q e).1, Lib.ownsRow_kind h.row q e⟩
  have HNo : Hid (∀ x, w.heap.size = x → ¬ S0 (x + 3) ∧ ¬ S0 (x + 2) ∧ ¬ S0 x ∧ ¬ S0 (x + 1)) := Lib.hid fun x hx => ⟨fun m => (by have := LG.lt _ _ _ hI m; omega), fun m => (by have := LG.lt _ _ _ hI m; omega), fun m => (by have := LG.lt _ _ _ hI m; omega), fun m => (by have := LG.lt _ _ _ hI m; omega)⟩
  have HLg := Lib.hid hlog
  have HO := Lib.hid hok
  have HY := Lib.hid hy
  have HIn := Lib.hid hk
  have HLL := Lib.hid hL
  clear h hlog hI
  go_enter Try.func55, Try.ntmps55
  go_wp2_with fail
  refine HK.out.mono ?_
  rintro e w1 ⟨rfl, v', x, hx, hl1, hb1, hg1, hc1, hz1⟩
  have hI1 := HLg.out w1 hg1 hc1 hz1
  have HI1 := Lib.hid hI1
  have HL1 := Lib.hid hl1
  have HB1 := Lib.hid hb1
  have HG1 := Lib.hid (HM.out w1 hg1)
  have HT1 := Lib.hid (A.tab _ _ hI1)
  clear HLg HK HM hI1 hl1 hb1 hg1 hc1 hz1 hok hy hk hL
  go_wp2_with (at_mapUpdate; (refine wpList_tab_put (T := (tblII Try.prog)) tblII_fine HT1.out HLL.out rfl _ _ _ rfl rfl k y rfl rfl HIn.out HO.out HY.out ?_); (intro w2 hT2 hG2); (have HT2 := Lib.hid hT2); (have HG2 := Lib.hid hG2); clear hT2 hG2)
  go_end0
  have hm2 : Grew (Mut B S0 w1) w1 w2 := HG2.out.mono fun q _ e => by rw [e]; exact Or.inl A.own
  refine ⟨rfl, Did.one (HL1.out.tab HT1.out A.ne HG2.out) (A.upd _ _ _ _ HI1.out HT2.out HG2.out) (goodII A HLL.out s _ k (x + 3) (x + 2) x (x + 1) w2 ?_ (HNo.out x hx) HO.out (fun z hz => ⟨HT1.out.vals _ _ hz, (HT1.out.sup _ (by rw [hz]; rfl)).1⟩) (by rw [A.got, upF_back]; exact A.back _ _)) (HG1.out.thenMut hm2)⟩
  exact HB1.out.keep HG2.out HT1.out
set_option maxRecDepth 100000 in
/-- a Drop in a Try -/
theorem dropII {σ : Type} {g b : Nat} {S0 : Nat → Prop} {I : σ → World → Prop} {L : List Int} {get : σ → Int → Option Int} {set : σ → (Int → Option Int) → σ} (LG : Logged g S0 I) (A : Acc g S0 I (tblII Try.prog) b L get set) (hL : L.length < 1000000) (B dp : Nat) (v : Value) (fs : List Step) (s : σ) (k : Int) (w : World) (h : LogAt B g (dp + 1) v fs w) (hl : fs.length < 100000) (hB : B ≤ w.heap.size) (hI : I s w) (hok : (tblII Try.prog).ok k)
    (hlog : ∀ w', Grew (fun q => q = g ∨ v.ownBlock = some q) w w' → (∀ o, ¬ o = 1 → w'.cell? ⟨g, o, none⟩ = w.cell? ⟨g, o, none⟩) → (∀ o, w'.frozen? ⟨g, o, none⟩ = w.frozen? ⟨g, o, none⟩) → I s w') :
    Calls Try.prog 56 #[.pointer (some ⟨g, 0, none⟩), .map (some b), .int .i64 k] w fun e w' => e = .returned (.tuple #[]) ∧ Did B g dp S0 I fs 1 s (set s (upF (get s) k none)) w w' := by
  have HK := Lib.hid (keepII B g dp b v fs (get s) L k w h hl hB (A.tab _ _ hI) hok)
  have HM : Hid (∀ w', Grew (fun q => q = g ∨ v.ownBlock = some q) w w' → Grew (Mut B S0 w) w w') := Lib.hid fun w' hg => hg.mono fun q _ e => by
    rcases e with e | e
    · rw [e]; exact Or.inl LG.own
    · exact Or.inr ⟨(h.row.lt q e).1, Lib.ownsRow_kind h.row q e⟩
  have HNo : Hid (∀ x, w.heap.size = x → ¬ S0 (x + 3) ∧ ¬ S0 (x + 2) ∧ ¬ S0 x ∧ ¬ S0 (x + 1)) := Lib.hid fun x hx => ⟨fun m => (by have := LG.lt _ _ _ hI m; omega), fun m => (by have := LG.lt _ _ _ hI m; omega), fun m => (by have := LG.lt _ _ _ hI m; omega), fun m => (by have := LG.lt _ _ _ hI m; omega)⟩
  have HLg := Lib.hid hlog
  have HO := Lib.hid hok
  have HLL := Lib.hid hL
  clear h hlog hI
  go_enter Try.func56, Try.ntmps56
  go_wp2_with fail
  refine HK.out.mono ?_
  rintro e w1 ⟨rfl, v', x, hx, hl1, hb1, hg1, hc1, hz1⟩
  have hI1 := HLg.out w1 hg1 hc1 hz1
  have HI1 := Lib.hid hI1
  have HL1 := Lib.hid hl1
  have HB1 := Lib.hid hb1
  have HG1 := Lib.hid (HM.out w1 hg1)
  have HT1 := Lib.hid (A.tab _ _ hI1)
  clear HLg HK HM hI1 hl1 hb1 hg1 hc1 hz1 hok hL
  go_wp2_with (at_delete; (refine wpList_tab_del (T := (tblII Try.prog)) tblII_fine HT1.out rfl _ _ rfl rfl k rfl HO.out ?_); (intro w2 hT2 hG2); (have HT2 := Lib.hid hT2); (have HG2 := Lib.hid hG2); clear hT2 hG2)
  go_end0
  have hm2 : Grew (Mut B S0 w1) w1 w2 := HG2.out.mono fun q _ e => by rw [e]; exact Or.inl A.own
  refine ⟨rfl, Did.one (HL1.out.tab HT1.out A.ne HG2.out) (A.upd _ _ _ _ HI1.out HT2.out HG2.out) (goodII A HLL.out s _ k (x + 3) (x + 2) x (x + 1) w2 ?_ (HNo.out x hx) HO.out (fun z hz => ⟨HT1.out.vals _ _ hz, (HT1.out.sup _ (by rw [hz]; rfl)).1⟩) (by rw [A.got, upF_back]; exact A.back _ _)) (HG1.out.thenMut hm2)⟩
  exact HB1.out.keep HG2.out HT1.out
end Go.Proofs.Ytjjmapmombhmlaa
