/-
  UndoOrder: for every number of steps, and whether the Try fails, the law answers true.
-/
import Derived.Test.YtjlfnkgjeopecaaUndoAwake
import Derived.Laws.BitsAllLaws
namespace Go.Proofs.Ytjlfnkgjeopecaa
open Go.RowKit

theorem mask255 (k : Int) : ∃ p : Nat, bits .and .i64 k 255 = (p : Int) ∧ p < 256 := by
  refine ⟨(BitVec.ofInt 64 k &&& BitVec.ofInt 64 255).toNat, ?_, ?_⟩
  · have h : (BitVec.ofInt 64 k &&& BitVec.ofInt 64 255).toNat ≤ 255 := by
      rw [BitVec.toNat_and]
      exact Nat.le_trans Nat.and_le_right (by decide)
    show IntKind.i64.wrap ((BitVec.ofInt 64 k &&& BitVec.ofInt 64 255).toNat : Int) = _
    generalize (BitVec.ofInt 64 k &&& BitVec.ofInt 64 255).toNat = y at *
    simp only [IntKind.wrap, IntKind.bits, IntKind.signed]
    simp
    omega
  · rw [BitVec.toNat_and]
    exact Nat.lt_of_le_of_lt Nat.and_le_right (by decide)
/-- the steps that were remembered -/
def ordSteps (lb : Nat) (ib : Nat → Nat) (n : Nat) : List Step := (List.range n).map fun j => (17, #[.pointer (some ⟨lb, 0, none⟩), .pointer (some ⟨ib j, 0, none⟩)])
theorem ordSteps_len (lb : Nat) (ib : Nat → Nat) (n : Nat) : (ordSteps lb ib n).length = n := by simp [ordSteps]
theorem ordSteps_more (lb : Nat) (ib : Nat → Nat) (n b : Nat) : ordSteps lb ib n ++ [(17, #[.pointer (some ⟨lb, 0, none⟩), .pointer (some ⟨b, 0, none⟩)])] = ordSteps lb (fun j => if j = n then b else ib j) (n + 1) := by
  unfold ordSteps
  rw [List.range_succ, List.map_append]
  congr 1
  · refine List.map_congr_left fun j hj => ?_
    have : j < n := by simpa using hj
    simp [show ¬ j = n by omega]
  · simp
theorem ordSteps_at (lb : Nat) (ib : Nat → Nat) (n j : Nat) (h : j < (ordSteps lb ib n).length) : (ordSteps lb ib n)[j] = (17, #[.pointer (some ⟨lb, 0, none⟩), .pointer (some ⟨ib j, 0, none⟩)]) := by simp [ordSteps]
set_option maxRecDepth 10000 in
set_option maxHeartbeats 1000000 in
theorem ord2_any (B g nb lb fb N : Nat) (F : Bool) (w : World) (h : LogAt B g 1 (.slice none 0 0) [] w) (hB : B = w.heap.size) (hn : Box nb 3 (.int .i64 N) w) (hf : Box fb 4 (.bool F) w) (hN : N < 100) (n2 : fb ≠ g) :
    Calls Try.prog 16 #[.pointer (some ⟨nb, 0, none⟩), .pointer (some ⟨g, 0, none⟩), .pointer (some ⟨lb, 0, none⟩), .pointer (some ⟨fb, 0, none⟩)] w fun e w' => e = Ends (if F = true then some 8 else none) ∧ ∃ v' ib, LogAt B g 1 v' (ordSteps lb ib N) w' ∧ (∀ j, j < N → Box (ib j) 3 (.int .i64 j) w' ∧ w.heap.size ≤ ib j) ∧ Grew (fun k => k = g) w w' := by
  have hmf : ∀ (fn : Fn) (first cap : Array Value) (w : World), (Instr.makeFunc fn first cap).run Try.prog w = .ok (.func fn first cap) w := fun _ _ _ _ => rfl
  have cn := hn.cell
  have H := Lib.hid h
  have HF := Lib.hid hf
  have hgl := h.lt
  have hB1 : B ≤ w.heap.size := by omega
  have hB2 : w.heap.size ≤ B := by omega
  clear h hf hn hB
  go_enter Try.func16, Try.ntmps16
  go_wp2_with fail
  go_loopw [6] (fun i wx => ∃ k v ib, k ≤ N ∧ i = .int .i64 (k : Nat) ∧ LogAt B g 1 v (ordSteps lb ib k) wx ∧ (∀ j, j < k → Box (ib j) 3 (.int .i64 j) wx ∧ w.heap.size ≤ ib j) ∧ Grew (fun k => k = g) w wx) (fun i _ => N - (intOf i).toNat)
  case atStart => exact ⟨0, _, fun _ => 0, by omega, rfl, H.out, fun j hj => absurd hj (Nat.not_lt_zero _), Grew.refl w⟩
  case round =>
    obtain ⟨k, v, ib, hk, rfl, hl, hb, hg⟩ := hrel
    have HL := Lib.hid hl
    have HBx := Lib.hid hb
    have HG := Lib.hid hg
    clear hl hb hg H
    by_cases hlt : k < N
    · have i1 : (k : Int) < (N : Int) := by omega
      have hsz := HG.out.size
      have HBk := Lib.hid (back_some B g 0 v (ordSteps lb ib k) (17, #[.pointer (some ⟨lb, 0, none⟩), .pointer (some ⟨wr.heap.size, 0, none⟩)]) (wr.alloc (.cells #[.int .i64 k] 3)) (HL.out.keepAlloc _) (by rw [ordSteps_len]; omega) (by simp; omega))
      unfold stepV at HBk
      go_wp2_with fail
      refine HBk.out.mono ?_
      rintro e w1 ⟨rfl, v', hl1, hg1, _, _⟩
      have hla := HL.out.keepAlloc (.cells #[.int .i64 k] 3)
      have HN1 : Hid (LogAt B g 1 v' (ordSteps lb (fun j => if j = k then wr.heap.size else ib j) (k + 1)) w1) := Lib.hid (by rw [← ordSteps_more]; exact hl1)
      have HN2 : Hid (∀ j, j < k + 1 → Box (if j = k then wr.heap.size else ib j) 3 (.int .i64 j) w1 ∧ w.heap.size ≤ (if j = k then wr.heap.size else ib j)) := Lib.hid fun j hj => by
        by_cases e : j = k
        · subst e
          rw [if_pos rfl]
          have hbx := Box.new wr 3 (.int .i64 j)
          refine ⟨hbx.keep hg1 ?_, hsz⟩
          rintro (e | e)
          · have := HL.out.lt; omega
          · exact (hbx.other (by decide)).ne hla.row e
        · rw [if_neg e]
          obtain ⟨b1, b2⟩ := HBx.out j (by omega)
          have hbx := b1.keepAlloc (.cells #[.int .i64 k] 3)
          refine ⟨hbx.keep hg1 ?_, b2⟩
          rintro (e | e)
          · omega
          · exact (hbx.other (by decide)).ne hla.row e
      have HN3 : Hid (Grew (fun k => k = g) w w1) := Lib.hid ((HG.out.alloc _).step hg1 fun q hq e => by
        rcases e with e | e
        · exact e
        · exfalso
          have := (hla.row.lt q e).1
          omega)
      clear hl1 hg1 HBk hla
      go_wp2_with fail
      go_roundw
      case rel => exact ⟨k + 1, v', _, by omega, by go_num, HN1.out, HN2.out, HN3.out⟩
      case measure => simp [intOf]; omega
    · obtain rfl : k = N := by omega
      have i1 : ¬ (k : Int) < (k : Int) := by omega
      have cf := (HF.out.keep HG.out n2).cell
      cases F with
      | false =>
        go_wp2_with fail
        go_end0
        exact ⟨rfl, v, ib, HL.out, HBx.out, HG.out⟩
      | true =>
        have HFl := Lib.hid (fail_any 8 wr)
        go_wp2_with fail
        refine HFl.out.mono ?_
        rintro e w3 ⟨rfl, rfl⟩
        unfold failed
        go_wp2_with fail
        exact ⟨rfl, rfl, v, ib, HL.out, HBx.out, HG.out⟩
theorem infoInt : (Try.prog.info? 3).map (fun i => (i.zero, i.size, i.bytes)) = some (some (.int .i64 0), 1, 8) := by kernel_rfl
/-- a step back: its number is behind the others -/
theorem ord1_any (B lb ib : Nat) (x : Int) (lv : Value) (n : Nat) (xs : List Value) (w : World) (h1 : Box lb 40 lv w) (h2 : Box ib 3 (.int .i64 x) w) (ho : w.ownsRow B 3 1 lv n xs) (hn : n < 1000) (hB : B ≤ w.heap.size) :
    Calls Try.prog 17 #[.pointer (some ⟨lb, 0, none⟩), .pointer (some ⟨ib, 0, none⟩)] w fun e w' => e = .returned (.tuple #[]) ∧ ∃ q cap, Box lb 40 (.slice (some ⟨q, 0, none⟩) (n + 1) cap) w' ∧ w'.ownsRow B 3 1 (.slice (some ⟨q, 0, none⟩) (n + 1) cap) (n + 1) (xs ++ [.int .i64 x]) ∧ (lv.ownBlock = some q ∨ w.heap.size ≤ q) ∧ Grew (fun k => k = lb ∨ lv.ownBlock = some k) w w' := by
  obtain ⟨i0, hi, hz0, hz1, hz2⟩ := info_parts' infoInt
  have HI0 := Lib.hid hi
  have HI1 := Lib.hid hz0
  have HI2 := Lib.hid hz1
  have HI3 := Lib.hid hz2
  clear hi hz0 hz1 hz2
  have c1 := h1.cell
  have c2 := h2.cell
  have HO := Lib.hid (ho.alloc (.cells #[.int .i64 x] 3))
  have HK : Hid (∀ w', (w.alloc (.cells #[.int .i64 x] 3)).grownBy w' lv.ownBlock → Box lb 40 lv w' ∧ Grew (fun k => k = lb ∨ lv.ownBlock = some k) w w') := Lib.hid fun w' hg => by
    have gr : Grew (fun k => lv.ownBlock = some k) (w.alloc (.cells #[.int .i64 x] 3)) w' := (Grew.refl _).grown hg fun _ _ e => e
    refine ⟨(h1.keepAlloc _).keep gr fun e => ?_, ((Grew.refl w).alloc _).step gr fun _ _ e => Or.inr e⟩
    obtain ⟨c, fz, hk⟩ := Lib.ownsRow_kind ho lb e
    unfold Box at h1
    rw [h1] at hk
    simp at hk
  clear h1 h2 ho
  go_enter Try.func17, Try.ntmps17
  go_wp2_with (at_builtin; (refine wpList_append_lies _ rfl _ _ 40 rfl B 3 i0 (.int .i64 0) 1 8 Try.underlying40 HI0.out HI1.out HI2.out HI3.out rfl (by decide) lv n xs rfl HO.out ⟨w.heap.size, 0, none⟩ 1 1 [.int .i64 x] rfl rfl ?_ ?_ (by decide) ?_ ?_ ?_ _ rfl ?_); (focus (intro j u hu; match j, hu with | 0, hu => (simp at hu; subst hu; rw [Addr.add_lit]; exact boxNew rfl))); (focus (intro u hu; simp at hu; subst hu; rfl)); (focus (unfold maxLen; omega)); (focus omega); (focus (simp; omega)); (intro g1 cap1 w1 hown hgr hlies hlt); (obtain ⟨k1, k2⟩ := HK.out w1 hgr); (have k3 := k1.cell); (have k4 := k1.free); (have HN := Lib.hid hown); (have HG := Lib.hid k2); (have HBx := Lib.hid k1); (have HLi := Lib.hid hlies); clear hown hgr hlies hlt k1 k2)
  go_end0
  refine ⟨rfl, g1, cap1, HBx.out.set _, ?_, ?_, HG.out.setCell _ _ fun _ => Or.inl rfl⟩
  · rcases HN.out.2 with ⟨e, _⟩ | ⟨b, cap, cur, e, a1, a2, a3, a4, a5, a6⟩
    · cases e
    · cases e
      refine ⟨HN.out.1, Or.inr ⟨g1, cap1, cur, rfl, a1, ?_, a3, a4, a5, a6⟩⟩
      rw [Below.heap_setCell _ _ _ _ ?_]
      · exact a2
      · intro e
        have e : g1 = lb := e
        subst e
        have := HBx.out
        unfold Box at this
        rw [a2] at this
        simp at this
  · rcases HLi.out with e | e
    · exact Or.inl e
    · exact Or.inr (by rw [e]; simp)
/-- the numbers of the steps that were undone -/
def downs (N k : Nat) : List Value := (List.range (N - k)).map fun i => .int .i64 ((N - 1 - i : Nat) : Int)
theorem downs_len (N k : Nat) : (downs N k).length = N - k := by simp [downs]
theorem downs_more (N k : Nat) (h : k < N) : downs N (k + 1) ++ [.int .i64 (k : Int)] = downs N k := by
  unfold downs
  rw [show N - k = (N - (k + 1)) + 1 by omega, List.range_succ, List.map_append]
  congr 1
  simp only [List.map_cons, List.map_nil]
  congr 3
  omega
theorem own_grewI {w w' : World} {S : Nat → Prop} {B n : Nat} {e : TypeId} {v : Value} {xs : List Value} (h : w.ownsRow B e 1 v n xs) (g : Grew S w w') (hS : ∀ k, v.ownBlock = some k → ¬ S k) : w'.ownsRow B e 1 v n xs := by
  rcases h.2 with ⟨rfl, h0⟩ | ⟨b, cap, cur, rfl, a1, a2, a3, a4, a5, a6⟩
  · exact ⟨h.1, Or.inl ⟨rfl, h0⟩⟩
  · have hlt : b < w.heap.size := by
      rcases Nat.lt_or_ge b w.heap.size with e | e
      · exact e
      · rw [Array.getElem?_eq_none e] at a2; cases a2
    exact ⟨h.1, Or.inr ⟨b, cap, cur, rfl, a1, (g.block b hlt (hS b rfl)).trans a2, a3, a4, a5, a6⟩⟩
/-- while it goes back -/
structure Downs (w : World) (g lb fb : Nat) (F : Bool) (ib : Nat → Nat) (N k : Nat) (wx : World) : Prop where
  l : ∃ lv, Box lb 40 lv wx ∧ wx.ownsRow w.heap.size 3 1 lv (N - k) (downs N k) ∧ (∀ j, j ≤ N → lv.ownBlock ≠ some (ib j)) ∧ lv.ownBlock ≠ some g
  b : ∀ j, j ≤ N → Box (ib j) 3 (.int .i64 j) wx ∧ ib j ≠ g ∧ ib j ≠ lb
  f : Box fb 4 (.bool F) wx ∧ fb ≠ g ∧ fb ≠ lb
  n : lb ≠ g
  low : w.heap.size ≤ lb
  below : Below w.heap.size w wx
  gw : w.heap.size ≤ g
theorem Downs.grew {w : World} {g lb fb : Nat} {F : Bool} {ib : Nat → Nat} {N k : Nat} {wx wy : World} (h : Downs w g lb fb F ib N k wx) (b : Nat) (hg : Grew (fun q => q = b) wx wy) (hb : b ≠ lb ∧ (∀ j, j ≤ N → ib j ≠ b) ∧ fb ≠ b ∧ w.heap.size ≤ b ∧ (∀ lv, Box lb 40 lv wx → lv.ownBlock ≠ some b)) : Downs w g lb fb F ib N k wy := by
  obtain ⟨lv, l1, l2, l3, l4⟩ := h.l
  exact ⟨⟨lv, l1.keep hg fun e => hb.1 e.symm, own_grewI l2 hg fun q hq e => hb.2.2.2.2 lv l1 (by rw [hq, e]), l3, l4⟩, fun j hj => ⟨(h.b j hj).1.keep hg (hb.2.1 j hj), (h.b j hj).2⟩, ⟨h.f.1.keep hg hb.2.2.1, h.f.2⟩, h.n, h.low, hg.to_below h.below (fun q e => by rw [e]; exact hb.2.2.2.1) (Nat.le_trans (Nat.le_refl _) h.below.size), h.gw⟩
theorem box_one {b : Nat} {t : TypeId} {x y : Value} {w : World} (h : Box b t x w) (k : Box b t y w) : x = y := by
  unfold Box at h k
  rw [h] at k
  simpa using k
theorem Downs.setg {w : World} {g lb fb : Nat} {F : Bool} {ib : Nat → Nat} {N k : Nat} {wx wy : World} (h : Downs w g lb fb F ib N k wx) (hg : Grew (fun q => q = g) wx wy) : Downs w g lb fb F ib N k wy := by
  obtain ⟨lv, l1, l2, l3, l4⟩ := h.l
  exact h.grew g hg ⟨fun e => h.n e.symm, fun j hj => (h.b j hj).2.1, h.f.2.1, h.gw, fun lv' hl => by rw [box_one hl l1]; exact l4⟩
theorem Downs.step {w : World} {g lb fb : Nat} {F : Bool} {ib : Nat → Nat} {N k B dp : Nat} {v : Value} {fs : List Step} {wx : World} (h : Downs w g lb fb F ib N (k + 1) wx) (hk : k < N) (hN : N < 100) (hl : LogAt B g dp v fs wx) :
    Calls Try.prog 17 #[.pointer (some ⟨lb, 0, none⟩), .pointer (some ⟨ib k, 0, none⟩)] wx fun e w' => e = .returned (.tuple #[]) ∧ (∃ v', LogAt B g dp v' fs w') ∧ Downs w g lb fb F ib N k w' := by
  obtain ⟨lv, l1, l2, l3, l4⟩ := h.l
  obtain ⟨b1, b2, b3⟩ := h.b k (by omega)
  refine (ord1_any w.heap.size lb (ib k) k lv _ _ wx l1 b1 l2 (by omega) h.below.size).mono ?_
  rintro e w' ⟨rfl, q, cap, x1, x2, x3, x4⟩
  have hlb : other lb wx := l1.other (by decide)
  have hfk : lv.ownBlock ≠ some fb := fun e => by
    obtain ⟨c, fz, e1⟩ := Lib.ownsRow_kind l2 fb e
    have e2 := h.f.1
    unfold Box at e2
    rw [e1] at e2
    simp at e2
  refine ⟨rfl, ⟨v, hl.keep x4 ?_ fun r hr => ?_⟩, ⟨⟨_, x1, ?_, fun j hj e => ?_, fun e => ?_⟩, fun j hj => ⟨(h.b j hj).1.keep x4 ?_, (h.b j hj).2⟩, ⟨h.f.1.keep x4 ?_, h.f.2⟩, h.n, h.low, x4.to_below h.below (fun r hr => ?_) h.below.size, h.gw⟩⟩
  · rintro (e | e)
    · exact h.n e.symm
    · exact l4 e
  · rintro (e | e)
    · subst e
      exact hlb.ne hl.row hr
    · obtain ⟨c, fz, e1⟩ := Lib.ownsRow_kind hl.row r hr
      obtain ⟨c', fz', e2⟩ := Lib.ownsRow_kind l2 r e
      rw [e1] at e2
      simp at e2
  · rw [downs_more N k hk] at x2
    rw [show N - (k + 1) + 1 = N - k by omega] at x2 ⊢
    exact x2
  · have e : some q = some (ib j) := e
    obtain rfl : q = ib j := Option.some.inj e
    rcases x3 with x3 | x3
    · exact l3 j hj x3
    · have := (h.b j hj).1.lt
      omega
  · have e : some q = some g := e
    obtain rfl : q = g := Option.some.inj e
    rcases x3 with x3 | x3
    · exact l4 x3
    · have := hl.lt
      omega
  · rintro (e | e)
    · exact (h.b j hj).2.2 e
    · exact l3 j hj e
  · rintro (e | e)
    · exact h.f.2.2 e
    · exact hfk e
  · rcases hr with hr | hr
    · rw [hr]; exact h.low
    · exact (l2.lt r hr).1
/-- the law's Try -/
theorem tryOrd_any (w W : World) (g nb lb fb l0 N : Nat) (F : Bool) (hL : LogAt 0 g 0 (.slice none 0 0) [] W) (hN : N < 100) (bn : Box nb 3 (.int .i64 N) W) (bf : Box fb 4 (.bool F) W) (bl : Box lb 40 (.slice (some ⟨l0, 0, none⟩) 0 0) W) (ol : W.ownsRow w.heap.size 3 1 (.slice (some ⟨l0, 0, none⟩) 0 0) 0 [])
    (hb : Below w.heap.size w W) (ne : nb ≠ g ∧ fb ≠ g ∧ lb ≠ g ∧ l0 ≠ g ∧ nb ≠ lb ∧ fb ≠ lb ∧ l0 ≠ nb) (lo : w.heap.size ≤ g ∧ w.heap.size ≤ lb) :
    Calls Try.prog 15 #[.pointer (some ⟨g, 0, none⟩), .func (.func 16) #[] #[.pointer (some ⟨nb, 0, none⟩), .pointer (some ⟨g, 0, none⟩), .pointer (some ⟨lb, 0, none⟩), .pointer (some ⟨fb, 0, none⟩)]] W fun e w' => e = .returned (.int .i64 (if F = true then 8 else 0)) ∧ (F = true → ∃ ib, Downs w g lb fb F ib N 0 w' ∧ ib N = nb) ∧ (F = false → Box lb 40 (.slice (some ⟨l0, 0, none⟩) 0 0) w' ∧ Box fb 4 (.bool F) w' ∧ Below w.heap.size w w') := by
  obtain ⟨ne1, ne2, ne3, ne4, ne5, ne6, ne7⟩ := ne
  have hsz : ((W.setCell ⟨g, 0, none⟩ (.int .i64 ((0 + 1 : Nat) : Int))).alloc errBox).heap.size = W.heap.size + 1 := by simp [World.setCell]
  have hszA : (W.setCell ⟨g, 0, none⟩ (.int .i64 ((0 + 1 : Nat) : Int))).heap.size = W.heap.size := by simp [World.setCell]
  have gS : Grew (fun k => k = g) W ((W.setCell ⟨g, 0, none⟩ (.int .i64 ((0 + 1 : Nat) : Int))).alloc errBox) := ((Grew.refl (S := fun k => k = g) W).setCell _ _ fun _ => rfl).alloc _
  have hL1 : LogAt (W.heap.size + 1) g 1 (.slice none 0 0) [] ((W.setCell ⟨g, 0, none⟩ (.int .i64 ((0 + 1 : Nat) : Int))).alloc errBox) := ((hL.rebase _).deep 1).keepAlloc _
  have hgl := hL.lt
  have hll := bl.lt
  have hfl := bf.lt
  have hnl := bn.lt
  have hol := (ol.lt l0 rfl)
  have heb : ((W.setCell ⟨g, 0, none⟩ (.int .i64 ((0 + 1 : Nat) : Int))).alloc errBox).heap[W.heap.size]? = some errBox := by
    have := heap_alloc_new (W.setCell ⟨g, 0, none⟩ (.int .i64 ((0 + 1 : Nat) : Int))) errBox
    rw [hszA] at this
    exact this
  refine (try_any (W.heap.size + 1) g 0 (.slice none 0 0) [] 16 #[.pointer (some ⟨nb, 0, none⟩), .pointer (some ⟨g, 0, none⟩), .pointer (some ⟨lb, 0, none⟩), .pointer (some ⟨fb, 0, none⟩)] W (hL.rebase _) (by decide)
    (fun o fs' w' => o = (if F = true then some 8 else none) ∧ ∃ ib, fs' = ordSteps lb ib N ∧ (∀ j, j < N → Box (ib j) 3 (.int .i64 j) w' ∧ W.heap.size + 1 ≤ ib j) ∧ Grew (fun k => k = g) W w')
    (fun k w' => k = 8 ∧ F = true ∧ ∃ ib, Downs w g lb fb F ib N 0 w' ∧ ib N = nb) (fun _ => by kernel_rfl) ?_ ?_).mono ?_
  · refine (ord2_any (W.heap.size + 1) g nb lb fb N F _ hL1 hsz.symm (bn.keep gS ne1) (bf.keep gS ne2) hN ne2).mono ?_
    rintro e w' ⟨rfl, v', ib, hl, hbx, hg⟩
    rw [hsz] at hbx
    refine ⟨_, ordSteps lb ib N, v', rfl, ?_, hl, (fun k e => ?_), rfl, ib, rfl, hbx, gS.step hg fun k _ e => e⟩
    · rw [hg.block W.heap.size (by omega) (by omega)]
      exact heb
    · cases F
      · cases e
      · cases e
        decide
  · rintro k fs' v' w' hbx hl ⟨hk, ib, rfl, hib, hg⟩
    have hF : F = true := by
      cases F
      · cases hk
      · rfl
    subst hF
    have hk8 : k = 8 := Option.some.inj hk
    have hd := done_alone W.heap.size (some k) w'
    have hg2 : Grew (fun k => k = g) W (done W.heap.size (some k) w') := hg.step hd fun k hk e => by omega
    have hst : ordSteps lb ib N = ordSteps lb (fun j => if j = N then nb else ib j) N := by
      unfold ordSteps
      refine List.map_congr_left fun j hj => ?_
      have : j < N := by simpa using hj
      simp [show ¬ j = N by omega]
    have hl : LogAt (W.heap.size + 1) g 1 v' (ordSteps lb ib N) (done W.heap.size (some k) w') := hl
    rw [hst] at hl
    have hD : Downs w g lb fb true (fun j => if j = N then nb else ib j) N N (done W.heap.size (some k) w') := by
      refine ⟨⟨_, bl.keep hg2 ne3, ?_, fun j hj e => ?_, fun e => ?_⟩, fun j hj => ?_, ⟨bf.keep hg2 ne2, ne2, ne6⟩, ne3, lo.2, hg2.to_below hb (fun q e => by rw [e]; exact lo.1) hb.size, lo.1⟩
      · rw [Nat.sub_self]
        have e0 : downs N N = [] := by simp [downs]
        rw [e0]
        exact own_grewI ol hg2 fun q hq e => ne4 (by have : some l0 = some q := hq; rw [Option.some.inj this]; exact e)
      · have e : some l0 = some (if j = N then nb else ib j) := e
        have e := Option.some.inj e
        by_cases hj2 : j = N
        · rw [if_pos hj2] at e; exact ne7 e
        · rw [if_neg hj2] at e
          have := (hib j (by omega)).2
          omega
      · have e : some l0 = some g := e
        exact ne4 (Option.some.inj e)
      · by_cases hj2 : j = N
        · subst hj2
          show Box (if j = j then nb else ib j) _ _ _ ∧ (if j = j then nb else ib j) ≠ g ∧ (if j = j then nb else ib j) ≠ lb
          rw [if_pos rfl]
          exact ⟨bn.keep hg2 ne1, ne1, ne5⟩
        · simp only [if_neg hj2]
          obtain ⟨b1, b2⟩ := hib j (by omega)
          exact ⟨b1.keep hd (by omega), by omega, by omega⟩
    refine (undo_any (W.heap.size + 1) g 1 0 (ordSteps lb (fun j => if j = N then nb else ib j) N) (fun j wx => Downs w g lb fb true (fun j => if j = N then nb else ib j) N j wx) v' _ hl (by rw [ordSteps_len]; exact hD) (Nat.zero_le _) (by rw [ordSteps_len]; omega) ?_ ?_).mono ?_
    · intro j wx y h1
      exact h1.setg ((Grew.refl (S := fun q => q = g) wx).setCell _ _ fun _ => rfl)
    · intro j _ hj vx wx hlx h1
      have hjN : j < N := by rw [ordSteps_len] at hj; exact hj
      rw [ordSteps_at _ _ _ _ hj]
      exact ⟨fun _ => by kernel_rfl, h1.step hjN hN hlx⟩
    · rintro e w'' ⟨rfl, hv, h1⟩
      exact ⟨rfl, hv, hk8, rfl, _, h1, by simp⟩
  · rintro e w' ⟨o, rfl, w3, rfl, ⟨rfl, fs', w1, ⟨hk, ib, rfl, hib, hg⟩, hbx, rfl, v', hl⟩ | ⟨k, rfl, _, ⟨rfl, hF, ib, hD, hn⟩, v', hl⟩⟩
    · have hF : F = false := by
        cases F
        · rfl
        · cases hk
      subst hF
      have hd := done_alone W.heap.size none w1
      have hg2 : Grew (fun k => k = g) W (endTry g 0 (done W.heap.size none w1)) := (hg.step hd fun k hk e => by omega).step (end0_grew g _) fun k _ e => e
      exact ⟨rfl, (fun e => by cases e), fun _ => ⟨bl.keep hg2 ne3, bf.keep hg2 ne2, hg2.to_below hb (fun q e => by rw [e]; exact lo.1) hb.size⟩⟩
    · subst hF
      exact ⟨rfl, fun _ => ⟨ib, hD.setg (end0_grew g w3), hn⟩, (fun e => by cases e)⟩
end Go.Proofs.Ytjlfnkgjeopecaa
