/-
  UndoPlays: the document's own play: a contract.
-/
import Derived.Test.YtemnkffaapljpaaUPlayM
namespace Go.Proofs.Ytemnkffaapljpaa
open Go.RowKit Go.Maps Go.ChangeMaps Go.WideShapes
def vs4 (c : Nat → Int) : List Value := [.int .i64 (c 0), .int .i64 (c 1), .int .i64 (c 2), .int .i64 (c 3)]
/-- the stack in memory: the first one lies first -/
def stL : List (Nat → Int) → List Value
  | [] => []
  | c :: st => stL st ++ vs4 c
theorem stL_len : ∀ st, (stL st).length = st.length * 4
  | [] => rfl
  | c :: st => by
    unfold stL
    rw [List.length_append, stL_len st]
    simp [vs4]
    omega
theorem stL_top (c : Nat → Int) (st : List (Nat → Int)) (j : Nat) (hj : j < 4) : (stL (c :: st))[st.length * 4 + j]? = some (.int .i64 (c j)) := by
  unfold stL
  rw [List.getElem?_append_right (by rw [stL_len]; omega), stL_len, Nat.add_sub_cancel_left]
  have : j = 0 ∨ j = 1 ∨ j = 2 ∨ j = 3 := by omega
  rcases this with rfl | rfl | rfl | rfl <;> rfl
theorem infoStU : (Try.prog.info? 35).map (fun i => (i.zero, i.size, i.bytes)) = some (some (.agg #[.int .i64 0, .int .i64 0, .int .i64 0, .int .i64 0]), 4, 32) := by kernel_rfl
/-- the steps, as the document reads them -/
structure Acts (a : Option Addr) (n : Nat) (L : Nat → UA) (w : World) : Prop where
  small : n ≤ 40
  ok : ∀ j, j < n → 0 ≤ (L j).k ∧ (L j).k < 5 ∧ (L j).i < 4 ∧ 1 ≤ (L j).t ∧ (L j).t ≤ 256
  at' : 0 < n → ∃ lb off, a = some ⟨lb, off, none⟩ ∧ ∀ j, j < n → w.cell? ⟨lb, off + j * 3, none⟩ = some (.int .i64 (L j).k) ∧ w.cell? ⟨lb, off + j * 3 + 1, none⟩ = some (.int .i64 ((L j).i : Int)) ∧ w.cell? ⟨lb, off + j * 3 + 2, none⟩ = some (.int .i64 (L j).t)
theorem Acts.below {a : Option Addr} {n : Nat} {L : Nat → UA} {w w' : World} (h : Acts a n L w) (k : Below w.heap.size w w') : Acts a n L w' := by
  refine ⟨h.small, h.ok, fun hn => ?_⟩
  obtain ⟨lb, off, e, hc⟩ := h.at' hn
  exact ⟨lb, off, e, fun i hi => ⟨(k.cell (cell_lt (hc i hi).1)).trans (hc i hi).1, (k.cell (cell_lt (hc i hi).2.1)).trans (hc i hi).2.1, (k.cell (cell_lt (hc i hi).2.2)).trans (hc i hi).2.2⟩⟩
/-- where the play stands: the cells' box, the stack -/
structure PlayAt (w : World) (n : Nat) (L : Nat → UA) (k : Nat) (v : Value) (wx : World) : Prop where
  go : ∃ c st, playU L n n 0 (fun _ => 0) [] = playU L n (n - k) k c st ∧ st.length ≤ k ∧ wx.heap[w.heap.size + 1]? = some (.cells (vs4 c).toArray 35) ∧ wx.ownsRow (w.heap.size + 2) 35 4 v st.length (stL st)
  res : wx.heap[w.heap.size]? = some (.cells #[.int .i64 0, .int .i64 0, .int .i64 0, .int .i64 0] 35)
  below : Below w.heap.size w wx
  nn : v ≠ .slice none 0 0
theorem playU_step {L : Nat → UA} {n k : Nat} {c : Nat → Int} {st : List (Nat → Int)} (h : k < n) : playU L n (n - k) k c st = if (L k).k = 0 then playU L n (n - (k + 1)) (k + 1) (upN c (L k).i (L k).t) st else if (L k).k = 1 then playU L n (n - (k + 1)) (k + 1) (upN c (L k).i 0) st else if (L k).k = 2 then playU L n (n - (k + 1)) (k + 1) c (c :: st) else if (L k).k = 3 then playU L n (n - (k + 1)) (k + 1) c st.tail else playU L n (n - (k + 1)) (k + 1) (st.headD c) st.tail := by
  have e : n - k = (n - (k + 1)) + 1 := by omega
  rw [e, playU, if_pos h]
theorem vs4_set (c : Nat → Int) (I : Nat) (hI : I < 4) (y : Int) : (vs4 c).toArray.setIfInBounds I (.int .i64 y) = (vs4 (upN c I y)).toArray := by
  have : I = 0 ∨ I = 1 ∨ I = 2 ∨ I = 3 := by omega
  rcases this with rfl | rfl | rfl | rfl <;> simp [vs4, upN]
theorem own4_take {B cap : Nat} {g : Nat} {c : Nat → Int} {st : List (Nat → Int)} {w : World} (h : w.ownsRow B 35 4 (.slice (some ⟨g, 0, none⟩) (st.length + 1) cap) (st.length + 1) (stL (c :: st))) : w.ownsRow B 35 4 (.slice (some ⟨g, 0, none⟩) st.length cap) st.length (stL st) := by
  rcases h.2 with ⟨e, h0⟩ | ⟨b, cap', cur, e, a1, a2, a3, a4, a5, a6⟩
  · omega
  · cases e
    refine ⟨stL_len st, Or.inr ⟨g, cap, cur, rfl, a1, a2, by omega, a4, a5, ?_⟩⟩
    have : cur.toList.take (st.length * 4) = (cur.toList.take ((st.length + 1) * 4)).take (st.length * 4) := by
      rw [List.take_take]
      congr 1
      omega
    rw [this, a6]
    show (stL st ++ vs4 c).take (st.length * 4) = stL st
    rw [List.take_left' (stL_len st)]
theorem own4_kept {w w' : World} {B n : Nat} {t : TypeId} {v : Value} {xs : List Value} (h : w.ownsRow B t 4 v n xs) (hk : ∀ q, v.ownBlock = some q → w'.heap[q]? = w.heap[q]?) : w'.ownsRow B t 4 v n xs := by
  refine ⟨h.1, ?_⟩
  rcases h.2 with h0 | ⟨g, cap, cur, rfl, hb, hg, rest⟩
  · exact Or.inl h0
  · exact Or.inr ⟨g, cap, cur, rfl, hb, by rw [hk g rfl]; exact hg, rest⟩
theorem play_store {w wx : World} {n : Nat} {L : Nat → UA} {k : Nat} {v : Value} {c : Nat → Int} {st : List (Nat → Int)} (I : Nat) (hI : I < 4) (y : Int) (hp : playU L n n 0 (fun _ => 0) [] = playU L n (n - k) k (upN c I y) st) (hs : st.length ≤ k) (hb : wx.heap[w.heap.size + 1]? = some (.cells (vs4 c).toArray 35)) (ho : wx.ownsRow (w.heap.size + 2) 35 4 v st.length (stL st)) (hr : wx.heap[w.heap.size]? = some (.cells #[.int .i64 0, .int .i64 0, .int .i64 0, .int .i64 0] 35)) (hbel : Below w.heap.size w wx) (hnn : v ≠ .slice none 0 0) : PlayAt w n L k v (wx.setCell ⟨w.heap.size + 1, I, none⟩ (.int .i64 y)) := by
  have g : Grew (fun q => q = w.heap.size + 1) wx (wx.setCell ⟨w.heap.size + 1, I, none⟩ (.int .i64 y)) := (Grew.refl wx).setCell _ _ fun _ => rfl
  refine ⟨⟨upN c I y, st, hp, hs, ?_, own4_kept ho fun q hq => ?_⟩, ?_, g.below hbel hbel.size fun q e => by (have e : q = w.heap.size + 1 := e); omega, hnn⟩
  · rw [← vs4_set c I hI y]
    simp [World.setCell, Array.getElem?_modify, hb]
  · exact Below.heap_setCell _ _ _ _ (by have := (ho.lt q hq).1; show q ≠ w.heap.size + 1; omega)
  · rw [Below.heap_setCell _ _ _ _ (by show w.heap.size ≠ w.heap.size + 1; omega)]
    exact hr
theorem play_push {w wx w1 : World} {n : Nat} {L : Nat → UA} {k : Nat} {v v' : Value} {c : Nat → Int} {st : List (Nat → Int)} (hp : playU L n n 0 (fun _ => 0) [] = playU L n (n - k) k c (c :: st)) (hs : st.length + 1 ≤ k) (hb : wx.heap[w.heap.size + 1]? = some (.cells (vs4 c).toArray 35)) (ho : wx.ownsRow (w.heap.size + 2) 35 4 v st.length (stL st)) (hr : wx.heap[w.heap.size]? = some (.cells #[.int .i64 0, .int .i64 0, .int .i64 0, .int .i64 0] 35)) (hbel : Below w.heap.size w wx) (h1 : w1.ownsRow (w.heap.size + 2) 35 4 v' (st.length + 1) (stL st ++ vs4 c)) (hg : wx.grownBy w1 v.ownBlock) (hnn : v' ≠ .slice none 0 0) : PlayAt w n L k v' w1 := by
  have blt : ∀ b (o : Obj), wx.heap[b]? = some o → b < wx.heap.size := fun b o e => by
    rcases Nat.lt_or_ge b wx.heap.size with h | h
    · exact h
    · rw [Array.getElem?_eq_none h] at e; cases e
  have hne : ∀ b, b < w.heap.size + 2 → some b ≠ v.ownBlock := fun b hb e => by
    have := (ho.lt b e.symm).1
    omega
  exact ⟨⟨c, c :: st, hp, hs, (hg.block _ (blt _ _ hb) (hne _ (by omega))).trans hb, h1⟩, (hg.block _ (blt _ _ hr) (hne _ (by omega))).trans hr, hbel.grown hg hbel.size fun q hq => (by have := (ho.lt q hq).1; omega), hnn⟩
theorem play_pop4 {w wx : World} {n : Nat} {L : Nat → UA} {k : Nat} {v : Value} {c x : Nat → Int} {st : List (Nat → Int)} (hp : playU L n n 0 (fun _ => 0) [] = playU L n (n - k) k x st) (hs : st.length ≤ k) (hb : wx.heap[w.heap.size + 1]? = some (.cells (vs4 c).toArray 35)) (ho : wx.ownsRow (w.heap.size + 2) 35 4 v st.length (stL st)) (hr : wx.heap[w.heap.size]? = some (.cells #[.int .i64 0, .int .i64 0, .int .i64 0, .int .i64 0] 35)) (hbel : Below w.heap.size w wx) (hnn : v ≠ .slice none 0 0) : PlayAt w n L k v ((((wx.setCell ⟨w.heap.size + 1, 0, none⟩ (.int .i64 (x 0))).setCell ⟨w.heap.size + 1, 1, none⟩ (.int .i64 (x 1))).setCell ⟨w.heap.size + 1, 2, none⟩ (.int .i64 (x 2))).setCell ⟨w.heap.size + 1, 3, none⟩ (.int .i64 (x 3))) := by
  have g : Grew (fun q => q = w.heap.size + 1) wx ((((wx.setCell ⟨w.heap.size + 1, 0, none⟩ (.int .i64 (x 0))).setCell ⟨w.heap.size + 1, 1, none⟩ (.int .i64 (x 1))).setCell ⟨w.heap.size + 1, 2, none⟩ (.int .i64 (x 2))).setCell ⟨w.heap.size + 1, 3, none⟩ (.int .i64 (x 3))) := ((((Grew.refl (S := fun q => q = w.heap.size + 1) wx).setCell _ _ fun _ => rfl).setCell _ _ fun _ => rfl).setCell _ _ fun _ => rfl).setCell _ _ fun _ => rfl
  have blt : ∀ b (o : Obj), wx.heap[b]? = some o → b < wx.heap.size := fun b o e => by
    rcases Nat.lt_or_ge b wx.heap.size with h | h
    · exact h
    · rw [Array.getElem?_eq_none h] at e; cases e
  refine ⟨⟨x, st, hp, hs, ?_, own4_kept ho fun q hq => g.block q (ho.lt q hq).2 fun e => ?_⟩, (g.block _ (blt _ _ hr) fun e => ?_).trans hr, g.below hbel hbel.size fun q e => by (have e : q = w.heap.size + 1 := e); omega, hnn⟩
  · simp [World.setCell, Array.getElem?_modify, hb, vs4]
  · have := (ho.lt q hq).1
    omega
  · omega
theorem stSizeU : (Try.prog.info? 35).map (·.size) = some 4 := by kernel_rfl
theorem results_rowU {fn : Func} {p : Tmp} {ty : TypeId} {P : Program} (h : fn.results = #[.cell p ty]) (tmps : Array Value) (w : World) (g : Nat) (t : TypeId) (cs : Array Value) (fr : Nat × Nat) (n : Nat) (e : TypeId)
    (hp : tmps.getD p undef = .pointer (some ⟨g, 0, none⟩)) (hg : w.heap[g]? = some (.cells cs t fr))
    (hu : P.underlying ty = some (.array n e)) (hi : (P.info? ty).map (·.size) = some cs.size) :
    (results fn tmps).run P w = .ok (.agg cs) w := by
  have hp' : tmps[p]?.getD undef = .pointer (some ⟨g, 0, none⟩) := by simpa using hp
  simp [results, h, hp', asAddr, run_loadVar_row w g t ty cs fr _ hg hu rfl hi]
theorem quadU {w : World} {x : Nat} {t : TypeId} {a b c d : Value} (h : w.heap[x]? = some (.cells #[a, b, c, d] t)) (a' b' c' d' : Value) :
    ((((w.setCell ⟨x, 0, none⟩ a').setCell ⟨x, 1, none⟩ b').setCell ⟨x, 2, none⟩ c').setCell ⟨x, 3, none⟩ d').heap[x]? = some (.cells #[a', b', c', d'] t) := by
  simp [World.setCell, Array.getElem?_modify, h]
theorem PlayAt.grew {w : World} {n : Nat} {L : Nat → UA} {k : Nat} {v : Value} {wx wy : World} (h : PlayAt w n L k v wx) (g : Grew (fun _ => False) wx wy) : PlayAt w n L k v wy := by
  obtain ⟨⟨c, st, e, hs, hb, ho⟩, hr, hbl, hnn⟩ := h
  have hlt : ∀ b (o : Obj), wx.heap[b]? = some o → b < wx.heap.size := fun b o e => by
    rcases Nat.lt_or_ge b wx.heap.size with h | h
    · exact h
    · rw [Array.getElem?_eq_none h] at e; cases e
  exact ⟨⟨c, st, e, hs, (g.block _ (hlt _ _ hb) fun e => e).trans hb, own4_kept ho fun q hq => g.block q (ho.lt q hq).2 fun e => e⟩, (g.block _ (hlt _ _ hr) fun e => e).trans hr, g.below hbl hbl.size fun _ e => e.elim, hnn⟩
set_option maxRecDepth 100000 in
set_option maxHeartbeats 4000000 in
theorem play_any (a1 : Option Addr) (n c1 : Nat) (L : Nat → UA) (w : World) (hA : Acts a1 n L w) :
    Calls Try.prog 17 #[.slice a1 n c1] w fun e w' => ∃ c : Nat → Int, e = .returned (.agg #[.int .i64 (c 0), .int .i64 (c 1), .int .i64 (c 2), .int .i64 (c 3)]) ∧ c = playU L n n 0 (fun _ => 0) [] ∧ Below w.heap.size w w' := by
  obtain ⟨i0, hi, hz0, hz1, hz2⟩ := info_parts' infoStU
  have HI0 := Lib.hid hi
  have HI1 := Lib.hid hz0
  have HI2 := Lib.hid hz1
  have HI3 := Lib.hid hz2
  have HA := Lib.hid hA
  have hn := hA.small
  clear hi hz0 hz1 hz2 hA
  go_enter Try.func17, Try.ntmps17
  have HP0 : Hid (PlayAt w n L 0 (.slice (some ⟨w.heap.size + 1 + 1, 0, none⟩) 0 0) (((w.alloc (.cells #[.int .i64 0, .int .i64 0, .int .i64 0, .int .i64 0] 35)).alloc (.cells #[.int .i64 0, .int .i64 0, .int .i64 0, .int .i64 0] 35)).alloc (.cells #[] 35))) := Lib.hid (by
    have s1 : (w.alloc (.cells #[.int .i64 0, .int .i64 0, .int .i64 0, .int .i64 0] 35)).heap.size = w.heap.size + 1 := by simp
    have s2 : ((w.alloc (.cells #[.int .i64 0, .int .i64 0, .int .i64 0, .int .i64 0] 35)).alloc (.cells #[.int .i64 0, .int .i64 0, .int .i64 0, .int .i64 0] 35)).heap.size = w.heap.size + 2 := by simp
    refine ⟨⟨fun _ => 0, [], rfl, Nat.le_refl _, ?_, ?_⟩, ?_, (((Below.refl _ w).alloc (Nat.le_refl _) _).alloc (by rw [s1]; omega) _).alloc (by rw [s2]; omega) _, fun e => by cases e⟩
    · rw [Below.heap_alloc _ _ _ (by rw [s2]; omega), ← s1]
      exact heap_alloc_new _ _
    · have h := World.ownsRow_lit (e := 35) (size := 4) ((w.alloc (.cells #[.int .i64 0, .int .i64 0, .int .i64 0, .int .i64 0] 35)).alloc (.cells #[.int .i64 0, .int .i64 0, .int .i64 0, .int .i64 0] 35)) #[] 0 (Nat.le_refl _) (by decide) rfl
      rw [s2] at h
      exact h
    · rw [Below.heap_alloc _ _ _ (by rw [s2]; omega), Below.heap_alloc _ _ _ (by rw [s1]; omega)]
      exact heap_alloc_new _ _)
  go_wp2_with fail
  go_loopw [4, 12] (fun v i wx => ∃ k : Nat, k ≤ n ∧ i = .int .i64 (k : Int) ∧ PlayAt w n L k v wx) (fun _ i _ => n - (intOf i).toNat)
  case atStart => exact ⟨0, by omega, rfl, HP0.out⟩
  case round =>
    clear HP0
    obtain ⟨k, hk, rfl, hP⟩ := hrel
    have HP := Lib.hid hP
    obtain ⟨⟨c, st, hpl, hst, hb, ho⟩, hr, hbel, hnn⟩ := hP
    have hcell : ∀ j, j < 4 → wr.cell? ⟨w.heap.size + 1, j, none⟩ = some (.int .i64 (c j)) := fun j hj => by
      have : j = 0 ∨ j = 1 ∨ j = 2 ∨ j = 3 := by omega
      rcases this with rfl | rfl | rfl | rfl <;> simp [World.cell?, hb, vs4]
    have b0 := hcell 0 (by decide)
    have b1 := hcell 1 (by decide)
    have b2 := hcell 2 (by decide)
    have b3 := hcell 3 (by decide)
    by_cases hend : k < n
    · have i1 : (k : Int) < (n : Int) := by omega
      have i3 : (0 : Int) ≤ (k : Int) := by omega
      have hAx := HA.out.below hbel
      obtain ⟨lb, off, rfl, hc⟩ := hAx.at' (by omega)
      obtain ⟨k0, k1, k2⟩ := hc k hend
      obtain ⟨o0, o1, o2, o3, o4⟩ := hAx.ok k hend
      have hps := playU_step (L := L) (c := c) (st := st) hend
      generalize (L k).k = K at *
      generalize (L k).i = I at *
      generalize (L k).t = Y at *
      obtain ⟨g, cap, rfl, hcap⟩ : ∃ g cap, u4 = .slice (some ⟨g, 0, none⟩) st.length cap ∧ st.length ≤ cap := by
        rcases ho.2 with ⟨e, h0⟩ | ⟨b, cap, cur, e, _, _, h3, _⟩
        · exact absurd e hnn
        · exact ⟨b, cap, e, h3⟩
      have gA : Grew (fun _ => False) wr (wr.alloc (.cells #[.int .i64 K, .int .i64 (I : Int), .int .i64 Y] 109)) := (Grew.refl wr).alloc _
      have blt : ∀ b (o : Obj), wr.heap[b]? = some o → b < wr.heap.size := fun b o e => by
        rcases Nat.lt_or_ge b wr.heap.size with h | h
        · exact h
        · rw [Array.getElem?_eq_none h] at e; cases e
      obtain ⟨W, hW⟩ : ∃ W, wr.alloc (.cells #[.int .i64 K, .int .i64 (I : Int), .int .i64 Y] 109) = W := ⟨_, rfl⟩
      have bW : W.heap[wr.heap.size]? = some (.cells #[.int .i64 K, .int .i64 (I : Int), .int .i64 Y] 109) := by rw [← hW]; exact heap_alloc_new _ _
      rw [hW] at gA
      have hbW := (gA.block _ (blt _ _ hb) fun e => e).trans hb
      have hrW := (gA.block _ (blt _ _ hr) fun e => e).trans hr
      have hoW := own4_kept ho fun q hq => gA.block q (ho.lt q hq).2 fun e => e
      have hbelW := gA.below hbel hbel.size fun _ e => e.elim
      have a0 : W.cell? ⟨wr.heap.size, 0, none⟩ = some (.int .i64 K) := by simp [World.cell?, bW]
      have a1' : W.cell? ⟨wr.heap.size, 1, none⟩ = some (.int .i64 (I : Int)) := by simp [World.cell?, bW]
      have a2 : W.cell? ⟨wr.heap.size, 2, none⟩ = some (.int .i64 Y) := by simp [World.cell?, bW]
      have hcW : ∀ j, j < 4 → W.cell? ⟨w.heap.size + 1, j, none⟩ = some (.int .i64 (c j)) := fun j hj => by
        have : j = 0 ∨ j = 1 ∨ j = 2 ∨ j = 3 := by omega
        rcases this with rfl | rfl | rfl | rfl <;> simp [World.cell?, hbW, vs4]
      have fW : ∀ o, W.frozen? ⟨w.heap.size + 1, o, none⟩ = false := fun o => by simp [World.frozen?, hbW]
      have j1 : (I : Int) < 4 := by omega
      have j2 : (0 : Int) ≤ (I : Int) := by omega
      have cI := hcW I o2
      have hK : K = 0 ∨ K = 1 ∨ K = 2 ∨ K = 3 ∨ K = 4 := by omega
      rcases hK with rfl | rfl | rfl | rfl | rfl
      · have HN : Hid (PlayAt w n L (k + 1) (.slice (some ⟨g, 0, none⟩) st.length cap) (W.setCell ⟨w.heap.size + 1, I, none⟩ (.int .i64 Y))) := Lib.hid (play_store I o2 Y (by rw [hpl, hps]; rfl) (by omega) hbW hoW hrW hbelW hnn)
        clear hbW hrW hoW hbelW bW gA blt
        clear hcW hAx hc hb ho hr hbel HP hps hpl hnn
        subst hW
        go_wp2_with fail
        go_roundw
        case rel => exact ⟨k + 1, by omega, by go_num, HN.out⟩
        case measure => simp [intOf]; omega
      · have HN : Hid (PlayAt w n L (k + 1) (.slice (some ⟨g, 0, none⟩) st.length cap) (W.setCell ⟨w.heap.size + 1, I, none⟩ (.int .i64 0))) := Lib.hid (play_store I o2 0 (by rw [hpl, hps]; rfl) (by omega) hbW hoW hrW hbelW hnn)
        clear hbW hrW hoW hbelW bW gA blt
        clear hcW hAx hc hb ho hr hbel HP hps hpl hnn
        subst hW
        go_wp2_with fail
        go_roundw
        case rel => exact ⟨k + 1, by omega, by go_num, HN.out⟩
        case measure => simp [intOf]; omega
      · have c0 := hcW 0 (by decide)
        have c1' := hcW 1 (by decide)
        have c2 := hcW 2 (by decide)
        have c3 := hcW 3 (by decide)
        have gB : Grew (fun _ => False) W (W.alloc (.cells #[.int .i64 (c 0), .int .i64 (c 1), .int .i64 (c 2), .int .i64 (c 3)] 35)) := (Grew.refl W).alloc _
        have HOw := Lib.hid (own4_kept hoW fun q hq => gB.block q (hoW.lt q hq).2 fun e => e)
        have HNw : Hid (∀ j u, (vs4 c)[j]? = some u → (W.alloc (.cells #[.int .i64 (c 0), .int .i64 (c 1), .int .i64 (c 2), .int .i64 (c 3)] 35)).cell? ((⟨W.heap.size, 0, none⟩ : Addr).add j) = some u) := Lib.hid (by
          intro j u hu
          have hbb := heap_alloc_new W (.cells #[.int .i64 (c 0), .int .i64 (c 1), .int .i64 (c 2), .int .i64 (c 3)] 35)
          have e : (⟨W.heap.size, 0, none⟩ : Addr).add j = ⟨W.heap.size, j, none⟩ := by unfold Addr.add; split <;> simp_all
          have e2 : (#[Value.int .i64 (c 0), .int .i64 (c 1), .int .i64 (c 2), .int .i64 (c 3)])[j]? = some u := by
            rw [← hu]
            simp [vs4]
          rw [e]
          simp only [World.cell?, hbb]
          exact e2)
        have hsW : W.heap.size = wr.heap.size + 1 := by rw [← hW]; simp
        rw [hsW] at HNw
        have HOn : Hid (∀ u ∈ vs4 c, u.oneCell' = true) := Lib.hid (by
          intro u hu
          simp [vs4] at hu
          rcases hu with rfl | rfl | rfl | rfl <;> rfl)
        have HM1 : Hid (st.length + 1 ≤ maxLen) := Lib.hid (by unfold maxLen; omega)
        have HM2 : Hid ((st.length + 1) * 32 ≤ 140737488355328) := Lib.hid (by omega)
        have HSz : Hid (w.heap.size + 2 ≤ (W.alloc (.cells #[.int .i64 (c 0), .int .i64 (c 1), .int .i64 (c 2), .int .i64 (c 3)] 35)).heap.size) := Lib.hid (by
          have h1 := blt _ _ hb
          have h2 := gA.size
          have h3 := gB.size
          have h4 : W.heap.size < (W.alloc (.cells #[.int .i64 (c 0), .int .i64 (c 1), .int .i64 (c 2), .int .i64 (c 3)] 35)).heap.size := by simp
          omega)
        have HPush : Hid (∀ v' w1, w1.ownsRow (w.heap.size + 2) 35 4 v' (st.length + 1) (stL st ++ vs4 c) → v' ≠ .slice none 0 0 → (W.alloc (.cells #[.int .i64 (c 0), .int .i64 (c 1), .int .i64 (c 2), .int .i64 (c 3)] 35)).grownBy w1 (Value.slice (some ⟨g, 0, none⟩) st.length cap).ownBlock → PlayAt w n L (k + 1) v' w1) := Lib.hid fun v' w1 h1 hn hg => play_push (by rw [hpl, hps]; rfl) (by omega) ((gB.block _ (Nat.lt_of_lt_of_le (blt _ _ hb) gA.size) fun e => e).trans hbW) HOw.out ((gB.block _ (Nat.lt_of_lt_of_le (blt _ _ hr) gA.size) fun e => e).trans hrW) (gB.below hbelW hbelW.size fun _ e => e.elim) h1 hg hn
        have hlen : ∀ (ty : TypeId) (wx : World), (Builtin.len_ #[112] ty #[.slice (some ⟨g, 0, none⟩) st.length cap]).run Try.prog wx = .ok (.int .i64 (st.length : Int)) wx := fun ty wx => by simp [Builtin.len_, goInt]
        clear hbW hrW hoW hbelW bW gA blt gB cI hsW
        clear hcW hAx hc hb ho hr hbel HP hps hpl hnn
        generalize Value.slice (some ⟨g, 0, none⟩) st.length cap = V at *
        subst hW
        go_wp2_with (at_builtin; refine wpList_append_lies _ rfl _ _ 112 rfl (w.heap.size + 2) 35 i0 (.agg #[.int .i64 0, .int .i64 0, .int .i64 0, .int .i64 0]) 4 32 Try.underlying112 HI0.out HI1.out HI2.out HI3.out rfl (by decide) V st.length (stL st) rfl HOw.out ⟨wr.heap.size + 1, 0, none⟩ 1 1 (vs4 c) rfl rfl HNw.out HOn.out (by decide) HM1.out HM2.out HSz.out _ rfl ?_)
        intro g1 cap1 w1 hs1 hg1 _ _
        have HN := Lib.hid (HPush.out _ _ hs1 (fun e => by cases e) hg1)
        clear hs1 hg1 HOw HNw HPush
        go_wp2_with fail
        go_roundw
        case rel => exact ⟨k + 1, by omega, by go_num, HN.out⟩
        case measure => simp [intOf]; omega
      · cases st with
        | nil =>
          have HN : Hid (PlayAt w n L (k + 1) (.slice (some ⟨g, 0, none⟩) 0 cap) W) := Lib.hid ⟨⟨c, [], by rw [hpl, hps]; rfl, by simp, hbW, hoW⟩, hrW, hbelW, fun e => by cases e⟩
          clear hbW hrW hoW hbelW bW gA blt
          clear hcW hAx hc hb ho hr hbel HP hps hpl hnn
          subst hW
          go_wp2_with fail
          go_roundw
          case rel => exact ⟨k + 1, by omega, by go_num, HN.out⟩
          case measure => simp [intOf]; omega
        | cons x st' =>
          have HN : Hid (PlayAt w n L (k + 1) (.slice (some ⟨g, 0, none⟩) st'.length cap) W) := Lib.hid ⟨⟨c, st', by rw [hpl, hps]; rfl, by simp at hst; omega, hbW, own4_take hoW⟩, hrW, hbelW, fun e => by cases e⟩
          have hcap : st'.length + 1 ≤ cap := hcap
          have hst' : st'.length + 1 ≤ 40 := by simp at hst; omega
          have q1 : (0 : Int) < ((st'.length + 1 : Nat) : Int) := by omega
          have q2 : IntKind.i64.wrap (((st'.length + 1 : Nat) : Int) - 1) = (st'.length : Int) := by rw [IntWalk.i64_in _ (by omega)]; omega
          have q3 : (0 : Int) ≤ (st'.length : Int) := by omega
          have q4 : (st'.length : Int) ≤ (cap : Int) := by omega
          clear hbW hrW hoW hbelW bW gA blt
          clear hcW hAx hc hb ho hr hbel HP hps hpl hnn
          simp only [List.length_cons]
          generalize hm : st'.length = m at *
          subst hW
          go_wp2_with fail
          go_roundw
          case rel => exact ⟨k + 1, by omega, by go_num, HN.out⟩
          case measure => simp [intOf]; omega
      · cases st with
        | nil =>
          have HN : Hid (PlayAt w n L (k + 1) (.slice (some ⟨g, 0, none⟩) 0 cap) W) := Lib.hid ⟨⟨c, [], by rw [hpl, hps]; rfl, by simp, hbW, hoW⟩, hrW, hbelW, fun e => by cases e⟩
          clear hbW hrW hoW hbelW bW gA blt
          clear hcW hAx hc hb ho hr hbel HP hps hpl hnn
          subst hW
          go_wp2_with fail
          go_roundw
          case rel => exact ⟨k + 1, by omega, by go_num, HN.out⟩
          case measure => simp [intOf]; omega
        | cons x st' =>
          have HN := Lib.hid (play_pop4 (k := k + 1) (x := x) (v := .slice (some ⟨g, 0, none⟩) st'.length cap) (L := L) (n := n) (by rw [hpl, hps]; rfl) (by simp at hst; omega) hbW (own4_take hoW) hrW hbelW (fun e => by cases e))
          have hcap : st'.length + 1 ≤ cap := hcap
          have hst' : st'.length + 1 ≤ 40 := by simp at hst; omega
          have q1 : (0 : Int) < ((st'.length + 1 : Nat) : Int) := by omega
          have q2 : IntKind.i64.wrap (((st'.length + 1 : Nat) : Int) - 1) = (st'.length : Int) := by rw [IntWalk.i64_in _ (by omega)]; omega
          have q3 : (0 : Int) ≤ (st'.length : Int) := by omega
          have q4 : (st'.length : Int) ≤ (cap : Int) := by omega
          have q5 : (st'.length : Int) < ((st'.length + 1 : Nat) : Int) := by omega
          have hl : ∀ j, j < 4 → W.cell? ⟨g, st'.length * 4 + j, none⟩ = some (.int .i64 (x j)) := fun j hj => by
            rw [hoW.cellAt _ (by simp; omega)]
            exact stL_top x st' j hj
          have l0 := hl 0 (by decide)
          have l1 := hl 1 (by decide)
          have l2 := hl 2 (by decide)
          have l3 := hl 3 (by decide)
          rw [Nat.add_zero] at l0
          have c0 := hcW 0 (by decide)
          have c1' := hcW 1 (by decide)
          have c2 := hcW 2 (by decide)
          have c3 := hcW 3 (by decide)
          clear hbW hrW hoW hbelW bW gA blt hl cI
          clear hcW hAx hc hb ho hr hbel HP hps hpl hnn
          simp only [List.length_cons]
          generalize hm : st'.length = m at *
          subst hW
          go_wp2_with fail
          go_roundw
          case rel => exact ⟨k + 1, by omega, by go_num, HN.out⟩
          case measure => simp [intOf]; omega
    · have i1 : ¬ (k : Int) < (n : Int) := by omega
      have hpe : c = playU L n n 0 (fun _ => 0) [] := by rw [hpl, playU_end L n _ k c st (by omega)]
      have HBl : Hid (∀ wx, Grew (fun q => q = w.heap.size) wr wx → Below w.heap.size w wx) := Lib.hid fun wx g => g.below hbel hbel.size fun q e => by have e : q = w.heap.size := e; omega
      have HE := Lib.hid hpe
      have r0 : wr.cell? ⟨w.heap.size, 0, none⟩ = some (.int .i64 0) := by simp [World.cell?, hr]
      have r1 : wr.cell? ⟨w.heap.size, 1, none⟩ = some (.int .i64 0) := by simp [World.cell?, hr]
      have r2 : wr.cell? ⟨w.heap.size, 2, none⟩ = some (.int .i64 0) := by simp [World.cell?, hr]
      have r3 : wr.cell? ⟨w.heap.size, 3, none⟩ = some (.int .i64 0) := by simp [World.cell?, hr]
      have fr : ∀ o, wr.frozen? ⟨w.heap.size, o, none⟩ = false := fun o => by simp [World.frozen?, hr]
      have HRs := Lib.hid (quadU hr (.int .i64 (c 0)) (.int .i64 (c 1)) (.int .i64 (c 2)) (.int .i64 (c 3)))
      clear hpl hb ho hr hbel hpe HP hcell
      go_wp2_with fail
      refine bodyPost_ret (results_rowU rfl _ _ w.heap.size _ _ _ _ _ rfl HRs.out Try.underlying35 stSizeU) rfl ?_
      exact ⟨c, rfl, HE.out, HBl.out _ (((((Grew.refl (S := fun q => q = w.heap.size) wr).setCell _ _ fun _ => rfl).setCell _ _ fun _ => rfl).setCell _ _ fun _ => rfl).setCell _ _ fun _ => rfl)⟩
end Go.Proofs.Ytemnkffaapljpaa
