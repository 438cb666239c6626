/-
  Texts put together: CatBack, CatSave1, CatSave2, CatSave.
-/
import Derived.Test.YtjjmapmombhmlaaCatBytes
import Derived.RangeFuncNested
import Derived.RangeFuncLeaves
import Derived.Shelf.Abstract
import Derived.WalkKit
import Derived.OwnWalkIn
import Derived.TacticsInMore
import Derived.LoopNIn
import Derived.LoopIn
import Derived.Test.YtjjmapmombhmlaaHoldPuts
import Derived.Shelf.RegionOpen
/-
  slices.Backward over entries, and what it hands back, as a loop runs it: contracts.
-/
namespace Go.Proofs.Ytjjmapmombhmlaa
open Go.RowKit Go.Shelf
attribute [local go_sem] Oper.semAt_some

/-- an entry whose numbers fit, and its place -/
abbrev EX := { x : Int × EN // x.2.fits }
def EX.args (x : EX) : Array Value := #[.int .i64 x.1.1, .agg x.1.2.cells]
/-- an entry's cells in a row -/
structure EntCells (rb o : Nat) (e : EN) (w : World) : Prop where
  c0 : w.cell? ⟨rb, o, none⟩ = some (.int .u32 e.id)
  c1 : w.cell? ⟨rb, o + 1, none⟩ = some (.int .u32 e.parent)
  c2 : w.cell? ⟨rb, o + 2, none⟩ = some (.bool e.only)
  c3 : w.cell? ⟨rb, o + 3, none⟩ = some (.int .i64 e.size)
  c4 : w.cell? ⟨rb, o + 4, none⟩ = some (.int .i64 e.root)
  c5 : w.cell? ⟨rb, o + 5, none⟩ = some (.int .u32 e.born)
theorem cell_same {w w' : World} {b o : Nat} (h : w'.heap[b]? = w.heap[b]?) : w'.cell? ⟨b, o, none⟩ = w.cell? ⟨b, o, none⟩ := by simp [World.cell?, h]
theorem EntCells.same {rb o : Nat} {e : EN} {w w' : World} (h : EntCells rb o e w) (k : w'.heap[rb]? = w.heap[rb]?) : EntCells rb o e w' :=
  ⟨(cell_same k).trans h.c0, (cell_same k).trans h.c1, (cell_same k).trans h.c2, (cell_same k).trans h.c3, (cell_same k).trans h.c4, (cell_same k).trans h.c5⟩
/-- the blocks of a row and of the box that leads to it stay -/
def BkKp (rb xs : Nat) (w w' : World) : Prop := w'.heap[rb]? = w.heap[rb]? ∧ w'.heap[xs]? = w.heap[xs]?
theorem BkKp.trans {rb xs : Nat} {a b c : World} (h : BkKp rb xs a b) (k : BkKp rb xs b c) : BkKp rb xs a c := ⟨k.1.trans h.1, k.2.trans h.2⟩
theorem BkKp.refl (rb xs : Nat) (w : World) : BkKp rb xs w w := ⟨rfl, rfl⟩
/-- what has come when m are left -/
def bkTo (E : Nat → EX) (n m : Nat) : List EX := (List.range (n - m)).map fun j => E (n - 1 - j)
theorem bkTo_succ (E : Nat → EX) (n m : Nat) (h : m < n) : bkTo E n m = bkTo E n (m + 1) ++ [E m] := by
  unfold bkTo
  rw [show n - m = (n - (m + 1)) + 1 by omega, List.range_succ, List.map_append]
  simp only [List.map_cons, List.map_nil]
  rw [show n - 1 - (n - (m + 1)) = m by omega]
theorem bkTo_full (E : Nat → EX) (n : Nat) : bkTo E n n = [] := by simp [bkTo]
theorem bkTo_length (E : Nat → EX) (n m : Nat) : (bkTo E n m).length = n - m := by simp [bkTo]
set_option maxRecDepth 100000 in
set_option maxHeartbeats 2000000 in
theorem back1_in (F : Fence) (n : Nat) (hf : F.fn 113) (hro : F.round = none) (hn : 1 ≤ n) (l xs rb off len cap : Nat) (a : Option Addr) (hlen : len ≤ 100000) (ha : 0 < len → a = some ⟨rb, off, none⟩) (E : Nat → EX) (hE : ∀ i, (E i).1.1 = (i : Int)) (J Jx : List EX → World → Prop)
    (hY : ∀ pre x W, J pre W → pre.length < len → YieldAt F (n - 1) Try.prog l x.args W fun e W' =>
      (e = .returned (.bool true) ∧ J (pre ++ [x]) W' ∧ BkKp rb xs W W') ∨ (e = .returned (.bool false) ∧ Jx (pre ++ [x]) W'))
    (W : World) (hxs : W.cell? ⟨xs, 0, none⟩ = some (.slice a len cap)) (hc : ∀ j, j < len → EntCells rb (off + j * 6) (E j).1.2 W) (h0 : J [] W) :
    CallsIn F n Try.prog 113 #[.func (.yield l) #[] #[], .pointer (some ⟨xs, 0, none⟩)] W fun e W' => (∃ v, e = .returned v) ∧
      ((∃ ys, ys = bkTo E len 0 ∧ J ys W') ∨ (∃ pre, True ∧ Jx pre W')) := by
  refine callsIn_of_wp Try.func113 rfl hf ?_ hro
  simp only [Try.ntmps113, List.size_toArray, List.length_cons, List.length_nil, Nat.reduceAdd, Nat.reduceSub, Array.replicate_succ, Array.replicate_zero, List.push_toArray, List.append_toArray, List.nil_append, List.cons_append]
  gi_wp2
  gi_loopw [3] (fun i wr => ∃ m : Nat, m ≤ len ∧ i = .int .i64 ((m : Int) - 1) ∧ J (bkTo E len m) wr ∧ BkKp rb xs W wr)
    (fun i _ => (intOf i + 1).toNat)
  case atStart => exact ⟨len, Nat.le_refl _, rfl, by rw [bkTo_full]; exact h0, BkKp.refl _ _ _⟩
  case round =>
    obtain ⟨m, hm, rfl, hJs, hnx⟩ := hrel
    have hxs' : wr.cell? ⟨xs, 0, none⟩ = some (.slice a len cap) := (cell_same hnx.2).trans hxs
    cases m with
    | zero =>
      gi_wp2
      go_end0
      exact ⟨⟨_, rfl⟩, .inl ⟨_, rfl, hJs⟩⟩
    | succ m =>
      have hlt : m < len := hm
      obtain rfl := ha (by omega)
      have hcx := (hc m hlt).same hnx.1
      obtain ⟨fn, tmps, assign, body, hy, hR⟩ := hY _ (E m) wr hJs (by rw [bkTo_length]; omega)
      unfold EX.args EN.cells at hy
      rw [hE m] at hy
      have hx1 : (((m + 1 : Nat) : Int) - 1) = (m : Int) := by omega
      rw [hx1]
      obtain ⟨c0, c1, c2, c3, c4, c5⟩ := hcx
      gi_wp2
      refine hR.mono ?_
      rintro e W3 (⟨rfl, hJ3, hk3⟩ | ⟨rfl, hJx3⟩)
      · gi_wp2
        go_roundw
        case rel => exact ⟨m, by omega, rfl, by rw [bkTo_succ E len m hlt]; exact hJ3, hnx.trans hk3⟩
        case measure => simp [intOf]
      · gi_wp2
        refine bodyPost_ret (results_none rfl _ _ _) rfl ?_
        exact ⟨⟨_, rfl⟩, .inr ⟨_, trivial, hJx3⟩⟩
set_option maxHeartbeats 1000000 in
theorem backward_any (a : Option Addr) (len cap : Nat) (w : World) :
    Calls Try.prog 80 #[.slice a len cap] w fun e w' => e = .returned (.func (.func 113) #[] #[.pointer (some ⟨w.heap.size, 0, none⟩)]) ∧ w' = w.alloc (.cells #[.slice a len cap] 55) := by
  have hmf : ∀ (fn : Fn) (first cap : Array Value) (w : World), (Instr.makeFunc fn first cap).run Try.prog w = .ok (.func fn first cap) w := fun _ _ _ _ => rfl
  go_enter Try.func80, Try.ntmps80
  go_wp2_with fail
  go_ret
  exact ⟨rfl, rfl⟩
/-- what it hands back runs a loop over all of them, the last one first -/
theorem back_stops (F : Fence) (n : Nat) (hf : F.fn 113) (hro : F.round = none) (hn : 1 ≤ n) (xs rb off len cap : Nat) (a : Option Addr) (hlen : len ≤ 100000) (ha : 0 < len → a = some ⟨rb, off, none⟩) (E : Nat → EX) (hE : ∀ i, (E i).1.1 = (i : Int)) (w : World) (hx : xs < w.heap.size) (hr : 0 < len → rb < w.heap.size)
    (hxs : w.cell? ⟨xs, 0, none⟩ = some (.slice a len cap)) (hc : ∀ j, j < len → EntCells rb (off + j * 6) (E j).1.2 w) :
    SeqStopsK F n Try.prog 113 #[.pointer (some ⟨xs, 0, none⟩)] EX.args (BkKp rb xs) (fun ys => ys = bkTo E len 0) (fun _ => True) len w := fun l J Jx W hW _ _ hY h0 =>
  back1_in F n hf hro hn l xs rb off len cap a hlen ha E hE J Jx hY W ((hW.cell (p := ⟨xs, 0, none⟩) hx).trans hxs) (fun j hj => (hc j hj).same (hW.block rb (hr (by omega)))) h0
end Go.Proofs.Ytjjmapmombhmlaa

/-
  catalog.Save: what its Try runs: contract.
-/
namespace Go.Proofs.Ytjjmapmombhmlaa
open Go.RowKit Go.Shelf Go.Maps Go.ChangeMaps Go.WideShapes
attribute [local go_sem] Oper.semAt_some

/-- an entry's own sector -/
def entB (o : EN) (nx : Nat) : ByteArray := ⟨(sealed (o.text nx)).toArray⟩
/-- what Puts of entries, one behind the other, make of a heap; where the last one lies; what lies on the disk -/
inductive Puts (b : HB) (s : HS) : List EX → HS → Nat → (Nat → UInt8) → Prop
  | nil : Puts b s [] s 0 b.T
  | snoc {pre : List EX} {s0 : HS} {h0 j : Nat} {U : Nat → UInt8} {x : EX} : Puts b s pre s0 h0 U → j < b.n → s0.S j = 0 → (∀ i, i < j → ¬ s0.S i = 0) → Puts b s (pre ++ [x]) (s0.put j ((b.f + j : Nat) : Int)) (b.f + j) (wroteT U (b.f + j) (entB x.1.2 h0))
theorem Puts.same {b : HB} {s s1 : HS} {pre : List EX} {hd : Nat} {U : Nat → UInt8} (h : Puts b s pre s1 hd U) : s1.K = s.K ∧ s1.G = s.G ∧ cnt s1.S 0 b.n + pre.length = cnt s.S 0 b.n := by
  induction h with
  | nil => exact ⟨rfl, rfl, rfl⟩
  | @snoc pre s0 h0 j U x h hj hs _ ih =>
    obtain ⟨a, c, d⟩ := ih
    have e := cnt_upd s0.S 0 j 1 b.n hj
    rw [if_pos hs] at e
    simp at e
    refine ⟨a, c, ?_⟩
    show cnt (upd s0.S j 1) 0 b.n + (pre ++ [x]).length = _
    rw [List.length_append, List.length_singleton]
    omega
theorem Puts.lt {b : HB} {s s1 : HS} {pre : List EX} {hd : Nat} {U : Nat → UInt8} (ok : b.ok) (h : Puts b s pre s1 hd U) : hd < 65536 := by
  cases h with
  | nil => decide
  | snoc h hj hs _ =>
    have := ok.f
    have := ok.n
    omega
theorem Grew.ofGrown {w w' : World} {row : Option Nat} (h : w.grownBy w' row) : Grew (fun k => row = some k) w w' := (Grew.refl w).grown h fun _ _ e => e
/-- blocks that are no cells, and lie far out -/
def Far (B : Nat) (w : World) (k : Nat) : Prop := B ≤ k ∧ ∃ o : Obj, w.heap[k]? = some o ∧ o.isCells = false
theorem farGrown {B : Nat} {w w' : World} {row : Option Nat} (h : w.grownBy w' row) (hr : ∀ r, row = some r → B ≤ r ∧ ∃ o : Obj, w.heap[r]? = some o ∧ o.isCells = false) : Grew (Far B w) w w' := (Grew.refl w).grown h fun k _ e => hr k e
theorem Box.far {B b : Nat} {t : TypeId} {x : Value} {w w' : World} (h : Box b t x w) (k : Grew (Far B w) w w') : Box b t x w' := h.keep k fun e => by
  obtain ⟨_, o, e1, e2⟩ := e
  have h : w.heap[b]? = _ := h
  rw [h] at e1
  cases e1
  cases e2
theorem InL.far {b : HB} {s : HS} {dp n B : Nat} {f0 : List Step} {w w' : World} (ok : b.ok) (hB : b.B ≤ B) (hG : s.G = []) (h : InL b s dp f0 n w) (k : Grew (Far B w) w w') : InL b s dp f0 n w' := h.keep hG k (fun x hx e => by
  obtain ⟨i, hi, rfl⟩ := hx
  have := ok.lt i hi
  have := e.1
  omega) fun r c fz hr e => by
    obtain ⟨_, o, e1, e2⟩ := e
    rw [hr] at e1
    cases e1
    cases e2
/-- a call that turns the heap's blocks alone keeps what a loop wants kept -/
theorem keepsMut {b : HB} {B : Nat} {w w' : World} (ok : b.ok) (hB : b.B ≤ B) {T : Nat → Prop} (hT : ∀ k, T k → ∃ c t fz, w.heap[k]? = some (.cells c t fz)) (g : Grew (fun k => Mut b.B b.S0 w k ∨ T k) w w') : KeepsFrom B w w' := ⟨g.size, fun k o hk ho hc => by
  have hlt : k < w.heap.size := (Array.getElem?_eq_some_iff.1 ho).1
  refine (g.block k hlt ?_).trans ho
  rintro (m | m)
  · rcases m with m | ⟨_, c, fz, e⟩
    · obtain ⟨i, hi, rfl⟩ := m
      have := ok.lt i hi
      omega
    · rw [ho] at e
      cases e
      cases hc
  · obtain ⟨c, t, fz, e⟩ := hT k m
    rw [ho] at e
    cases e
    cases hc⟩
theorem Plain.block {S0 : Nat → Prop} {w w' : World} {k : Nat} (h : Plain S0 w k) (e : w'.heap[k]? = w.heap[k]?) : Plain S0 w' k := by
  obtain ⟨n, c, t, fz, e1, r⟩ := h
  exact ⟨n, c, t, fz, e.trans e1, r⟩
/-- between two rounds of Save's loop -/
structure SvAt (b : HB) (s : HS) (dp : Nat) (f0 : List Step) (n xh xa rb xs : Nat) (w W0 : World) (k : List EX) (W : World) : Prop where
  inl : ∃ s1 hd U, Puts b s k s1 hd U ∧ InL (b.at U) s1 (dp + 1) f0 (n + 3 * k.length) W ∧ Box xa 3 (.int .i64 ((hd : Nat) : Int)) W
  bh : Box xh 43 (.pointer (some ⟨b.hb, 0, none⟩)) W
  kp : BkKp rb xs W0 W
  gr : Grew (fun q => Mut b.B b.S0 w q ∨ q = xa) w W
  sz : W0.heap.size ≤ W.heap.size
theorem SvAt.far {b : HB} {s : HS} {dp n xh xa rb xs : Nat} {k : List EX} {f0 : List Step} {w W0 W W' : World} (ok : b.ok) (hG : s.G = []) (hB : b.B ≤ W0.heap.size) (hw : w.heap.size ≤ W0.heap.size) (hrb : rb < W0.heap.size) (hxs : xs < W0.heap.size) (h : SvAt b s dp f0 n xh xa rb xs w W0 k W) (g : Grew (Far W0.heap.size W) W W') : SvAt b s dp f0 n xh xa rb xs w W0 k W' := by
  obtain ⟨⟨s1, hd, U, hp, hi, hb⟩, bh, kp, gr, hz⟩ := h
  refine ⟨⟨s1, hd, U, hp, hi.far (ok.at U) hB (hp.same.2.1.trans hG) g, hb.far g⟩, bh.far g, kp.trans ⟨g.block rb (by omega) fun e => by have := e.1; omega, g.block xs (by omega) fun e => by have := e.1; omega⟩, gr.step g fun x hx e => by have := e.1; omega, Nat.le_trans hz g.size⟩
end Go.Proofs.Ytjjmapmombhmlaa

/-
  catalog.Save: what its Try runs: the walk.
-/
namespace Go.Proofs.Ytjjmapmombhmlaa
open Go.RowKit Go.Shelf Go.Maps Go.ChangeMaps Go.WideShapes
attribute [local go_sem] Oper.semAt_some

theorem sealed_size (l : List UInt8) (h : l.length ≤ 60) : (⟨(sealed l).toArray⟩ : ByteArray).size = 64 := by
  show (sealed l).toArray.size = 64
  rw [List.size_toArray]
  unfold sealed
  rw [List.length_append, padTo_len l h, enc_len]
/-- behind an entry's bytes -/
structure SvMid (b : HB) (s : HS) (dp : Nat) (f0 : List Step) (n xh xa Bx hd : Nat) (x : EX) (W W' : World) : Prop where
  inl : InL b s (dp + 1) f0 n W'
  ba : Box xa 3 (.int .i64 ((hd : Nat) : Int)) W'
  bh : Box xh 43 (.pointer (some ⟨b.hb, 0, none⟩)) W'
  be : W'.heap[Bx]? = some (.cells x.1.2.cells 58)
  g : Below W.heap.size W W'
set_option maxRecDepth 100000 in
set_option maxHeartbeats 4000000 in
theorem save1_any (b : HB) (ok : b.ok) (hf : 1 ≤ b.f) (s : HS) (hG : s.G = []) (hK0 : 0 ≤ s.K) (dp n : Nat) (f0 : List Step) (hd : dp + 1 < 100000) (xl xh xa rb off len cap : Nat) (a : Option Addr) (hK : s.K + (len : Int) ≤ (cnt s.S 0 b.n : Nat)) (hn : n + 3 * len < 80000) (ha : 0 < len → a = some ⟨rb, off, none⟩) (E : Nat → EX) (hE : ∀ i, (E i).1.1 = (i : Int)) (w : World)
    (h : InL b s (dp + 1) f0 n w) (bl : Box xl 55 (.slice a len cap) w) (bh : Box xh 43 (.pointer (some ⟨b.hb, 0, none⟩)) w) (ba : Box xa 3 (.int .i64 0) w) (sh : ¬ b.S0 xh) (sa : ¬ b.S0 xa) (hha : xh ≠ xa) (hra : rb ≠ xa) (hrb : Plain b.S0 w rb) (hc : ∀ j, j < len → EntCells rb (off + j * 6) (E j).1.2 w) :
    Calls Try.prog 79 #[.pointer (some ⟨xl, 0, none⟩), .pointer (some ⟨xh, 0, none⟩), .pointer (some ⟨xa, 0, none⟩)] w fun e w' => ∃ s1 hd U, e = .returned (.tuple #[]) ∧ Puts b s (bkTo E len 0) s1 hd U ∧ InL (b.at U) s1 (dp + 1) f0 (n + 3 * len) w' ∧ Box xa 3 (.int .i64 ((hd : Nat) : Int)) w' ∧ Grew (fun q => Mut b.B b.S0 w q ∨ q = xa) w w' := by
  have cl := bl.cell
  refine (callsIn_wide (n := 6)).1 ?_
  refine callsIn_of_wp_marks Try.func79 rfl trivial ?_ rfl
  simp only [Try.ntmps79, List.size_toArray, List.length_cons, List.length_nil, Nat.reduceAdd, Nat.reduceSub, Array.replicate_succ, Array.replicate_zero, List.push_toArray, List.append_toArray, List.nil_append, List.cons_append]
  gi_wp2_with (refine ⟨trivial, ?_⟩; gi_at_call 80; refine (callsIn_wide.2 (backward_any _ _ _ _)).mono ?_; rintro e w' ⟨rfl, rfl⟩)
  obtain ⟨W0, hW0⟩ : ∃ W0, w.alloc (.cells #[.slice a len cap] 55) = W0 := ⟨_, rfl⟩
  have hsz : W0.heap.size = w.heap.size + 1 := by rw [← hW0]; simp
  have g0 : Grew (fun _ => False) w W0 := by rw [← hW0]; exact (Grew.refl w).alloc _
  have bx : Box w.heap.size 55 (.slice a len cap) W0 := by rw [← hW0]; exact Box.new w _ _
  have hBw := h.size
  have hrl := hrb.lt
  have hB0 : b.B ≤ W0.heap.size := by omega
  have fx : ¬ b.S0 w.heap.size := HB.far ok hBw
  have hI0 : SvAt b s dp f0 n xh xa rb w.heap.size w W0 [] W0 := ⟨⟨s, 0, b.T, Puts.nil, by rw [← hW0]; exact h.alloc hG _, ba.keep g0 fun e => e⟩, bh.keep g0 fun e => e, BkKp.refl _ _ _, g0.mono fun _ _ e => e.elim, Nat.le_refl _⟩
  have hc0 : ∀ j, j < len → EntCells rb (off + j * 6) (E j).1.2 W0 := fun j hj => (hc j hj).same (g0.block rb hrl fun e => e)
  have hrb0 : Plain b.S0 W0 rb := hrb.block (g0.block rb hrl fun e => e)
  rw [hW0]
  clear hW0 hc hrb cl h bl
  refine wpIn_rangeFunc_ownH rfl (by decide) (gf := 113) (lb := #[.pointer (some ⟨w.heap.size, 0, none⟩)]) rfl trivial (enters_of Try.func113 (by kernel_rfl) rfl)
    (back_stops Fence.wide 5 trivial rfl (by decide) w.heap.size rb off len cap a (by omega) ha E hE W0 (by omega) (fun _ => by omega) bx.cell hc0) BkKp.trans (fun W l o o' hl _ _ _ => ⟨World.putObj_heap_other (by omega), World.putObj_heap_other (by omega)⟩) (Below.refl _ _) (fun _ => rfl)
    (fun pre W => pre.length ≤ len ∧ SvAt b s dp f0 n xh xa rb w.heap.size w W0 pre W)
    (fun _ _ _ => False)
    (fun pre X Y row hs hg hr => ⟨hs.1, hs.2.far ok hG hB0 (by omega) (by omega) (by omega) (farGrown hg hr)⟩)
    (fun _ _ _ _ _ hs _ _ => hs)
    ⟨Nat.zero_le _, hI0⟩
    (fun x a' W => ∃ Bx, W0.heap.size ≤ Bx ∧ W.heap[Bx]? = some (.cells x.1.2.cells 58) ∧ a' = { tmps := #[.pointer (some ⟨xl, 0, none⟩), .pointer (some ⟨xh, 0, none⟩), .pointer (some ⟨xa, 0, none⟩), undef, .pointer (some ⟨Bx, 0, none⟩), .slice a len cap, .func (.func 113) #[] #[.pointer (some ⟨w.heap.size, 0, none⟩)], .int .i64 x.1.1, .agg x.1.2.cells, undef, undef, undef, undef, undef], defers := [] })
    (fun x a' _ X Y row hs hg hr => by
      obtain ⟨Bx, h1, h2, h3⟩ := hs
      refine ⟨Bx, h1, ((farGrown hg hr).block Bx (Array.getElem?_eq_some_iff.1 h2).1 fun e => ?_).trans h2, h3⟩
      obtain ⟨_, o, e1, e2⟩ := e
      rw [h2] at e1
      cases e1
      cases e2)
    ?assign ?body ?done ?stop
  case assign =>
    rintro l pre x W K ⟨hp, hS⟩ hK
    have hz := hS.sz
    have hKx := hK { tmps := #[.pointer (some ⟨xl, 0, none⟩), .pointer (some ⟨xh, 0, none⟩), .pointer (some ⟨xa, 0, none⟩), undef, .pointer (some ⟨W.heap.size, 0, none⟩), .slice a len cap, .func (.func 113) #[] #[.pointer (some ⟨w.heap.size, 0, none⟩)], .int .i64 x.1.1, .agg x.1.2.cells, undef, undef, undef, undef, undef], defers := [] } (W.alloc (.cells x.1.2.cells 58)) ((KeepsOthers.alloc _ _).from _) ⟨Below.heap_alloc _ _ _ (by omega), Below.heap_alloc _ _ _ (by omega)⟩ ⟨hp, hS.far ok hG hB0 (by omega) (by omega) (by omega) ((Grew.refl W).alloc _)⟩ ⟨W.heap.size, hz, heap_alloc_new W _, rfl⟩
    clear hK hS
    obtain ⟨⟨ix, ⟨id, parent, only, size, root, born⟩⟩, hfit⟩ := x
    dsimp only [EN.cells, EX.args] at *
    gi_wp2
    exact hKx
  case body =>
    rintro l pre x a' W hl ⟨r, hr⟩ ⟨hp, hS⟩ ⟨Bx, hBx, bX, rfl⟩ hlt
    obtain ⟨⟨s1, hd', U, hpu, hin, hbx⟩, bh1, kp1, gr1, sz1⟩ := hS
    obtain ⟨q1, q2, q3⟩ := hpu.same
    have hhd := hpu.lt ok
    have hmx : Try.prog.follows .mixedOrders = true := by kernel_rfl
    have nb : ¬ b.S0 Bx := HB.far ok (by omega)
    have nba : Bx ≠ xa := by have := ba.lt; omega
    have hBT : Hid (∀ wx, wx = W.drew → Calls Try.prog 43 #[.agg x.1.2.cells, .int .i64 ((hd' : Nat) : Int)] wx fun e w' => e = .returned (.string ⟨(sealed (x.1.2.text hd')).toArray⟩) ∧ SvMid (b.at U) s1 dp f0 (n + 3 * pre.length) xh xa Bx hd' x W w') := Lib.hid fun wx hwx => by
      subst hwx
      refine (catBytes_any x.1.2 x.2 hd' hhd W.drew).mono ?_
      rintro e w' ⟨rfl, hb⟩
      have hb' : Below W.heap.size W w' := ((Below.refl _ W).drew).trans hb
      have g := Grew.of_below (S := fun _ => False) hb'
      exact ⟨rfl, hin.keep (q2.trans hG) g (fun _ _ e => e) (fun _ _ _ _ e => e), hbx.keep g fun e => e, bh1.keep g fun e => e, (hb'.block Bx (Array.getElem?_eq_some_iff.1 bX).1).trans bX, hb'⟩
    have hPT : Hid (∀ wx, SvMid (b.at U) s1 dp f0 (n + 3 * pre.length) xh xa Bx hd' x W wx → Calls Try.prog 81 #[.pointer (some ⟨b.hb, 0, none⟩), .string ⟨(sealed (x.1.2.text hd')).toArray⟩] wx fun e w' => ∃ j, e = .returned (.int .i64 ((b.f + j : Nat) : Int)) ∧ Box xa 3 (.int .i64 ((hd' : Nat) : Int)) w' ∧ KeepsFrom W0.heap.size W (w'.setCell ⟨xa, 0, none⟩ (.int .i64 ((b.f + j : Nat) : Int))) ∧ BkKp rb w.heap.size W (w'.setCell ⟨xa, 0, none⟩ (.int .i64 ((b.f + j : Nat) : Int))) ∧ SvAt b s dp f0 n xh xa rb w.heap.size w W0 (pre ++ [x]) (w'.setCell ⟨xa, 0, none⟩ (.int .i64 ((b.f + j : Nat) : Int)))) := Lib.hid fun wx hm => by
      refine (hPut_any (b := b.at U) (ok.at U) hf (q2.trans hG) _ (Nat.le_of_eq (sealed_size _ (by rw [EN.text_len]; decide))) (by rw [q1]; exact hK0) (by rw [q1]; show s.K < ((cnt s1.S 0 b.n : Nat) : Int); omega) (by omega) (by omega) hd hm.inl).mono ?_
      rintro e w' ⟨j, hj, hs0, hmin, rfl, hi2, g1⟩
      have kk := Kept.of g1
      have b1 : Box xa 3 (.int .i64 ((hd' : Nat) : Int)) w' := (kk _ (Box.pl hm.ba sa (by decide) (by decide))).trans hm.ba
      have b2 : Box xh 43 (.pointer (some ⟨b.hb, 0, none⟩)) w' := (kk _ (Box.pl hm.bh sh (by decide) (by decide))).trans hm.bh
      have gW : Grew (Mut b.B b.S0 W) W w' := (Grew.of_below hm.g).thenMut g1
      have gV : Grew (fun q => Mut b.B b.S0 W q ∨ q = xa) W (w'.setCell ⟨xa, 0, none⟩ (.int .i64 ((b.f + j : Nat) : Int))) := (gW.mono fun _ _ e => Or.inl e).setCell _ _ fun _ => Or.inr rfl
      have p1 : w'.heap[rb]? = W.heap[rb]? := (hrb0.block kp1.1).stays gW
      have p2 : w'.heap[w.heap.size]? = W.heap[w.heap.size]? := (Plain.block (Box.pl bx fx (by decide) (by decide)) kp1.2).stays gW
      have na : w.heap.size ≠ xa := by have := ba.lt; omega
      have kv : BkKp rb w.heap.size W (w'.setCell ⟨xa, 0, none⟩ (.int .i64 ((b.f + j : Nat) : Int))) := ⟨(Below.heap_setCell _ _ _ _ hra).trans p1, (Below.heap_setCell _ _ _ _ na).trans p2⟩
      refine ⟨j, rfl, b1, keepsMut ok hB0 (fun k hk => by subst hk; exact ⟨_, _, _, hbx⟩) gV, kv, ⟨_, _, _, Puts.snoc (x := x) hpu hj hs0 hmin, ?_, b1.set _⟩, b2.keepSet _ _ _ hha, kp1.trans kv, gr1.step gV fun q hq e => ?_, Nat.le_trans sz1 gV.size⟩
      · rw [List.length_append, List.length_singleton, show n + 3 * (pre.length + 1) = n + 3 * pre.length + 3 by omega]
        exact hi2.box (q2.trans hG) b1 (by decide) sa
      · rcases e with (m | ⟨m1, c, fz, m2⟩) | m
        · exact Or.inl (Or.inl m)
        · by_cases hm' : Mut b.B b.S0 w q ∨ q = xa
          · exact hm'
          · rw [gr1.block q hq hm'] at m2
            exact Or.inl (Or.inr ⟨m1, c, fz, m2⟩)
        · exact Or.inr m
    have d1 := bh1.cell
    have d2 := hbx.cell
    obtain ⟨⟨ix, ⟨id, parent, only, size, root, born⟩⟩, hfit⟩ := x
    dsimp only [EN.cells, EX.args] at *
    obtain ⟨e0, e1, e2, e3, e4, e5⟩ := six bX
    have h1' : 1 ≤ 6 - 1 - 1 := by decide
    clear hin hbx bh1 kp1 gr1 hc0 hI0 hrb0 bx ba bh hE
    gi_wp2
    gi_region_with_o (first | (refine ⟨trivial, ?_⟩; gi_at_call 43; refine (CallsIn.inRound l (callsIn_wide.2 (hBT.out _ rfl))).mono ?_; rintro e w1 ⟨rfl, hm⟩; have k1 := hm.bh.cell; have HM := Lib.hid hm; clear hm) | (refine ⟨trivial, ?_⟩; gi_at_call 81; refine (CallsIn.inRound l (callsIn_wide.2 (hPT.out _ HM.out))).mono ?_; rintro e w2 ⟨j, rfl, hb2, hk2, hkp2, hs2⟩; have k2 := hb2.cell; have k3 := hb2.free; have HS2 := Lib.hid hs2; clear hs2))
    all_goals gi_wp2
    all_goals have hcast : ((b.f : Int) + (j : Int)) = ((b.f + j : Nat) : Int) := by omega
    all_goals rw [hcast]
    all_goals exact ⟨hk2, hkp2, by rw [List.length_append]; exact hlt, HS2.out⟩
  case done =>
    rintro D ys W hD rfl ⟨hp, hS⟩ hK
    gi_wp2
    refine ⟨by simp, .inl ⟨_, _, rfl, run_takeDeferred hK, ?_⟩⟩
    have hS' := hS.far ok hG hB0 (by omega) (by omega) (by omega) (farGrown (B := W0.heap.size) (grownBy_putObj' W D (.deferred none)) (fun r e => by cases e; exact ⟨hD, _, hK, rfl⟩))
    obtain ⟨⟨s1, hd', U, hpu, hin, hbx⟩, _, _, hgr, _⟩ := hS'
    rw [bkTo_length, Nat.sub_zero] at hin
    exact ⟨_, results_none rfl _ _ _, s1, hd', U, rfl, hpu, hin, hbx, hgr⟩
  case stop =>
    rintro D c pre W _ _ h _
    exact h.elim
end Go.Proofs.Ytjjmapmombhmlaa

/-
  catalog.Save within a Try of a heap: contract.
-/
namespace Go.Proofs.Ytjjmapmombhmlaa
open Go.RowKit Go.Maps Go.ChangeMaps Go.WideShapes

section
variable {b : HB} {s : HS} {dp n : Nat} {f0 : List Step} {w w' : World}
/-- Save's three boxes, made -/
structure SaAt (b : HB) (s : HS) (dp : Nat) (f0 : List Step) (n x : Nat) (a : Option Addr) (len cap : Nat) (w W : World) : Prop where
  inl : InL b s dp f0 n W
  bh : Box x 43 (.pointer (some ⟨b.hb, 0, none⟩)) W
  bl : Box (x + 1) 55 (.slice a len cap) W
  ba : Box (x + 1 + 1) 3 (.int .i64 0) W
  sz : W.heap.size = x + 3
  hx : w.heap.size = x
  g : Grew (fun _ => False) w W
theorem saAt (hG : s.G = []) (a : Option Addr) (len cap : Nat) (h : InL b s dp f0 n w) : SaAt b s dp f0 n w.heap.size a len cap w (((w.alloc (.cells #[.pointer (some ⟨b.hb, 0, none⟩)] 43)).alloc (.cells #[.slice a len cap] 55)).alloc (.cells #[.int .i64 0] 3)) := by
  have s1 : (w.alloc (.cells #[.pointer (some ⟨b.hb, 0, none⟩)] 43)).heap.size = w.heap.size + 1 := by simp
  have s2 : ((w.alloc (.cells #[.pointer (some ⟨b.hb, 0, none⟩)] 43)).alloc (.cells #[.slice a len cap] 55)).heap.size = w.heap.size + 1 + 1 := by simp
  have x1 := Box.new w 43 (.pointer (some ⟨b.hb, 0, none⟩))
  have x2 := Box.new (w.alloc (.cells #[.pointer (some ⟨b.hb, 0, none⟩)] 43)) 55 (.slice a len cap)
  have x3 := Box.new ((w.alloc (.cells #[.pointer (some ⟨b.hb, 0, none⟩)] 43)).alloc (.cells #[.slice a len cap] 55)) 3 (.int .i64 0)
  rw [s1] at x2
  rw [s2] at x3
  exact ⟨((h.alloc hG _).alloc hG _).alloc hG _, (x1.keepAlloc _).keepAlloc _, x2.keepAlloc _, x3, by simp, rfl, (((Grew.refl w).alloc _).alloc _).alloc _⟩
theorem SaAt.set0 {x len cap : Nat} {a : Option Addr} {W : World} (ok : b.ok) (hG : s.G = []) (hsz : b.B ≤ w.heap.size) (h : SaAt b s dp f0 n x a len cap w W) : SaAt b s dp f0 n x a len cap w (W.setCell ⟨x + 1 + 1, 0, none⟩ (.int .i64 0)) := by
  have hx := h.hx
  exact ⟨h.inl.box hG h.ba (by decide) (HB.far ok (by omega)), h.bh.keepSet _ _ _ (by omega), h.bl.keepSet _ _ _ (by omega), h.ba.set _, by rw [World.size_setCell]; exact h.sz, hx, h.g.setCell _ _ fun e => by
    have e : x + 1 + 1 < w.heap.size := e
    omega⟩
/-- what Save's Try leaves -/
structure SaEnd (b : HB) (s : HS) (dp : Nat) (f0 : List Step) (n len xa : Nat) (E : Nat → EX) (w : World) (s1 : HS) (hd : Nat) (U : Nat → UInt8) (w' : World) : Prop where
  puts : Puts b s (bkTo E len 0) s1 hd U
  inl : InL (b.at U) s1 dp f0 (n + 3 * len) w'
  ba : Box xa 3 (.int .i64 ((hd : Nat) : Int)) w'
  g : Grew (Mut b.B b.S0 w) w w'
set_option maxRecDepth 100000 in
theorem saTry (ok : b.ok) (hf : 1 ≤ b.f) (hG : s.G = []) (hK0 : 0 ≤ s.K) (rb off len cap : Nat) (a : Option Addr) (hK : s.K + (len : Int) ≤ (cnt s.S 0 b.n : Nat)) (hn : n + 3 * len < 80000) (ha : 0 < len → a = some ⟨rb, off, none⟩) (E : Nat → EX) (hE : ∀ i, (E i).1.1 = (i : Int)) (hdp : 0 < dp) (hd : dp + 1 < 100000) (x : Nat) {W : World} (h : SaAt b s dp f0 n x a len cap w W) (hsz : b.B ≤ w.heap.size) (hrb : Plain b.S0 w rb) (hc : ∀ j, j < len → EntCells rb (off + j * 6) (E j).1.2 w) :
    Calls Try.prog 23 #[.pointer (some ⟨b.hb, 0, none⟩), .func (.func 79) #[] #[.pointer (some ⟨x + 1, 0, none⟩), .pointer (some ⟨x, 0, none⟩), .pointer (some ⟨x + 1 + 1, 0, none⟩)]] W fun e w' => e = .returned (.int .i64 0) ∧ ∃ s1 hd U, SaEnd b s dp f0 n len (x + 1 + 1) E w s1 hd U w' := by
  have hx := h.hx
  have hWs := h.sz
  have hlr := hrb.lt
  have f1 : ¬ b.S0 x := HB.far ok (by omega)
  have f2 : ¬ b.S0 (x + 1) := HB.far ok (by omega)
  have f3 : ¬ b.S0 (x + 1 + 1) := HB.far ok (by omega)
  have f4 : ¬ b.S0 W.heap.size := HB.far ok (by omega)
  have gT := tryWorld_grew b.g dp W
  have hgS : b.S0 b.g := ⟨1, by decide, rfl⟩
  have bT : ∀ {y : Nat} {ty : TypeId} {v : Value}, Box y ty v W → ¬ b.S0 y → Box y ty v (tryWorld b.g dp W) := fun h hs => h.keep gT fun e => hs (e ▸ hgS)
  have er : (tryWorld b.g dp W).heap[rb]? = w.heap[rb]? := (gT.block rb (by omega) fun e => hrb.1 (e ▸ hgS)).trans (h.g.block rb hlr fun e => e)
  refine (lTry ok hdp (by omega) h.inl _ _ (fun s1 n1 U w1 => ∃ hd, Puts b s (bkTo E len 0) s1 hd U ∧ n1 = n + 3 * len ∧ Box (x + 1 + 1) 3 (.int .i64 ((hd : Nat) : Int)) w1 ∧ Grew (Mut b.B b.S0 w) w w1) (fun _ => by rfl) ?_).mono ?_
  · intro f1' hin
    refine (save1_any b ok hf s hG hK0 dp n f1' hd (x + 1) x (x + 1 + 1) rb off len cap a hK hn ha E hE _ hin (bT h.bl f2) (bT h.bh f1) (bT h.ba f3) f1 f3 (by omega) (by omega) (hrb.block er) (fun j hj => (hc j hj).same er)).mono ?_
    rintro e w1 ⟨s1, hd1, U, rfl, hp, hi, hb, hg⟩
    refine ⟨s1, _, U, rfl, hi, hp.same.2.1.trans hG, ?_, hd1, hp, rfl, hb, ?_⟩
    · rw [hg.block _ (by rw [tryWorld_size]; omega) ?_]
      · exact tryWorld_box b.g dp W
      · rintro (m | m)
        · rcases m with m | m
          · exact f4 m
          · exact notFunc_err (tryWorld_box b.g dp W) m
        · omega
    · have g1 : Grew (Mut b.B b.S0 w) w (tryWorld b.g dp W) := (h.g.mono fun _ _ e => e.elim).step gT fun y _ e => Or.inl (e ▸ hgS)
      exact g1.step hg fun y hy m => by
        rcases m with m | m
        · exact Mut.back g1 hy m
        · omega
  · rintro e w' ⟨s1, n1, U, w1, rfl, ⟨hd1, hp, rfl, hb, hg⟩, hin, g2, _⟩
    refine ⟨rfl, s1, hd1, U, hp, hin, hb.keep g2 ?_, hg.step g2 fun y hy e => ?_⟩
    · rintro (e | e)
      · exact f3 (e ▸ hgS)
      · omega
    · rcases e with e | e
      · exact Or.inl (e ▸ hgS)
      · omega
set_option maxRecDepth 100000 in
theorem save_any (ok : b.ok) (hf : 1 ≤ b.f) (hG : s.G = []) (hK0 : 0 ≤ s.K) (rb off len cap : Nat) (a : Option Addr) (hK : s.K + (len : Int) ≤ (cnt s.S 0 b.n : Nat)) (hn : n + 3 * len < 80000) (ha : 0 < len → a = some ⟨rb, off, none⟩) (E : Nat → EX) (hE : ∀ i, (E i).1.1 = (i : Int)) (hdp : 0 < dp) (hd : dp + 1 < 100000) (h : InL b s dp f0 n w) (hrb : Plain b.S0 w rb) (hc : ∀ j, j < len → EntCells rb (off + j * 6) (E j).1.2 w) :
    Calls Try.prog 36 #[.pointer (some ⟨b.hb, 0, none⟩), .slice a len cap] w fun e w' => ∃ s1 hd U, e = .returned (.int .i64 ((hd : Nat) : Int)) ∧ Puts b s (bkTo E len 0) s1 hd U ∧ InL (b.at U) s1 dp f0 (n + 3 * len) w' ∧ Grew (Mut b.B b.S0 w) w w' := by
  have hmf : ∀ (fn : Fn) (first cap : Array Value) (w : World), (Instr.makeFunc fn first cap).run Try.prog w = .ok (.func fn first cap) w := fun _ _ _ _ => rfl
  have HA := saAt hG a len cap h
  have hsz := h.size
  have c0 := HA.bh.cell
  obtain ⟨W, hW⟩ : ∃ W, (((w.alloc (.cells #[.pointer (some ⟨b.hb, 0, none⟩)] 43)).alloc (.cells #[.slice a len cap] 55)).alloc (.cells #[.int .i64 0] 3)) = W := ⟨_, rfl⟩
  rw [hW] at HA c0
  have q1 := HA.ba.cell
  have q2 := HA.ba.free
  replace HA := HA.set0 ok hG hsz
  obtain ⟨V, hV⟩ : ∃ V, W.setCell ⟨w.heap.size + 1 + 1, 0, none⟩ (.int .i64 0) = V := ⟨_, rfl⟩
  rw [hV] at HA
  have c1 := HA.bh.cell
  have HT := Lib.hid (whole_ok _ _ _ (saTry ok hf hG hK0 rb off len cap a hK hn ha E hE hdp hd w.heap.size HA hsz hrb hc))
  clear h HA hsz hrb hc
  go_enter Try.func36, Try.ntmps36
  go_wp2_with fail
  refine HT.out.mono ?_
  rintro e w1 ⟨rfl, s1, hd1, U, hE1⟩
  have c5 := hE1.ba.cell
  have HE := Lib.hid hE1
  clear hE1 HT
  go_wp2_with fail
  go_ret
  exact ⟨s1, hd1, U, rfl, HE.out.puts, HE.out.inl, HE.out.g⟩
end
end Go.Proofs.Ytjjmapmombhmlaa
