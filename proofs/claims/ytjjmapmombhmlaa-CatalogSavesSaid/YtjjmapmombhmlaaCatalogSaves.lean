/-
  CatalogSaves: for all entries, the law answers true.
-/
import Derived.Test.YtjjmapmombhmlaaCatSaved
namespace Go.Proofs.Ytjjmapmombhmlaa
open Go.RowKit Go.Maps Go.ChangeMaps Go.WideShapes
theorem LAt.append {xl base : Nat} {L : List EN} {e : EN} {w w4 : World} {o : Obj} {v v' : Value} (hv : Box xl 55 v w) (hown : w.ownsRow base 58 6 v L.length (entRows L)) (hg : (w.alloc o).grownBy w4 v.ownBlock) (ho : w4.ownsRow base 58 6 v' (L.length + 1) (entRows L ++ e.cells.toList)) :
    LAt xl base (L ++ [e]) (w4.setCell ⟨xl, 0, none⟩ v') ∧ Grew (fun k => k = xl ∨ v.ownBlock = some k) w (w4.setCell ⟨xl, 0, none⟩ v') ∧ w4.cell? ⟨xl, 0, none⟩ = some v ∧ w4.frozen? ⟨xl, 0, none⟩ = false := by
  have g4 : Grew (fun k => v.ownBlock = some k) w w4 := ((Grew.refl w).alloc o).grown hg fun k _ hk => hk
  have gF : Grew (fun k => k = xl ∨ v.ownBlock = some k) w (w4.setCell ⟨xl, 0, none⟩ v') := (g4.mono fun _ _ e => Or.inr e).setCell _ _ fun _ => Or.inl rfl
  have apart : ∀ {wx : World} {u : Value} {n : Nat} {xs : List Value}, wx.ownsRow base 58 6 u n xs → ∀ {y : Value}, Box xl 55 y wx → ¬ u.ownBlock = some xl := fun ho y hb e => by
    obtain ⟨c, fz, k⟩ := Lib.ownsRow_kind ho xl e
    unfold Box at hb
    rw [hb] at k
    simp at k
  have hv4 := hv.keep g4 (apart hown hv)
  have gS : Grew (fun k => k = xl) w4 (w4.setCell ⟨xl, 0, none⟩ v') := (Grew.refl w4).setCell _ _ fun _ => rfl
  refine ⟨⟨v', hv4.set v', ?_⟩, gF, hv4.cell, hv4.free⟩
  rw [entRows_add, List.length_append]
  exact own_keepN ho gS fun q hq e => apart ho hv4 (e ▸ hq)
theorem maskN (k : Int) (n : Nat) (hn : n < 4294967296) : ∃ p : Nat, bits .and .i64 k (n : Int) = (p : Int) ∧ p ≤ n := by
  have h : (BitVec.ofInt 64 k &&& BitVec.ofInt 64 n).toNat ≤ n := by
    rw [BitVec.toNat_and]
    refine Nat.le_trans Nat.and_le_right ?_
    rw [BitVec.toNat_ofInt]
    omega
  refine ⟨(BitVec.ofInt 64 k &&& BitVec.ofInt 64 n).toNat, ?_, h⟩
  show IntKind.i64.wrap ((BitVec.ofInt 64 k &&& BitVec.ofInt 64 n).toNat : Int) = _
  generalize (BitVec.ofInt 64 k &&& BitVec.ofInt 64 n).toNat = y at *
  simp only [IntKind.wrap, IntKind.bits, IntKind.signed]
  simp
  omega
theorem cell_alloc {w : World} {a i : Nat} {v : Value} {o : Obj} (h : w.cell? ⟨a, i, none⟩ = some v) : (w.alloc o).cell? ⟨a, i, none⟩ = some v := by
  have hl := cell_lt h
  rw [← h]
  exact World.cell?_of_block (w := w) (Below.heap_alloc _ _ _ hl)
theorem wrapU (k : Int) : ∃ p : Nat, IntKind.u32.wrap k = (p : Int) ∧ p < 4294967296 := by
  refine ⟨(IntKind.u32.wrap k).toNat, ?_, ?_⟩ <;> (simp only [IntKind.wrap, IntKind.bits, IntKind.signed]; simp; omega)
/-- the program's entry of any numbers -/
theorem own15_any (a b : Int) (c : Bool) (d e f : Int) : ∃ o : EN, o.fits ∧ ∀ w : World, Calls Try.prog 34 #[.agg #[.int .i64 a, .int .i64 b, .bool c, .int .i64 d, .int .i64 e, .int .i64 f]] w fun e w' => e = .returned (.agg o.cells) ∧ Below w.heap.size w w' := by
  obtain ⟨id, h1, l1⟩ := wrapU a
  obtain ⟨parent, h2, l2⟩ := wrapU b
  obtain ⟨born, h3, l3⟩ := wrapU f
  obtain ⟨size, h4, l4⟩ := maskN d 65535 (by decide)
  obtain ⟨root, h5, l5⟩ := maskN e 65535 (by decide)
  have h4 : bits .and .i64 d 65535 = (size : Int) := h4
  have h5 : bits .and .i64 e 65535 = (root : Int) := h5
  refine ⟨⟨id, parent, c, size, root, born⟩, ⟨l1, l2, by show size < 65536; omega, by show root < 65536; omega, l3⟩, fun w => ?_⟩
  clear l1 l2 l3 l4 l5
  dsimp only [EN.cells]
  go_enter Try.func34, Try.ntmps34
  go_wp2_with fail
  have hs1 : (w.alloc (.cells #[.int .i64 a, .int .i64 b, .bool c, .int .i64 d, .int .i64 e, .int .i64 f] 61)).heap.size = w.heap.size + 1 := by simp
  have hq := heap_alloc_new (w.alloc (.cells #[.int .i64 a, .int .i64 b, .bool c, .int .i64 d, .int .i64 e, .int .i64 f] 61)) (.cells #[.int .u32 id, .int .u32 parent, .bool c, .int .i64 size, .int .i64 root, .int .u32 born] 58)
  rw [hs1] at hq
  refine bodyPost_ret (results_cell_row rfl _ _ (w.heap.size + 1) _ _ _ _ rfl hq Try.underlying58 rfl entSize) rfl ?_
  exact ⟨rfl, ((Below.refl _ _).alloc (Nat.le_refl _) _).alloc (by simp) _⟩
theorem Box.mut {S0 : Nat → Prop} {B x : Nat} {t : TypeId} {v : Value} {w : World} (h : Box x t v w) (hs : ¬ S0 x) (ht : t ≠ 1) : ¬ Mut B S0 w x := by
  rintro (m | ⟨_, c, fz, e⟩)
  · exact hs m
  · unfold Box at h
    rw [h] at e
    simp at e
    exact ht e.2.1
theorem row_cells {w : World} {base g n cap : Nat} {e : Nat → EN} (h : w.ownsRow base 58 6 (.slice (some ⟨g, 0, none⟩) n cap) n (entRows (entsTo e n))) : ∀ j, j < n → EntCells g (0 + j * 6) (e j) w := fun j hj => by
  have hl : j < (entsTo e n).length := by rw [entsTo_len]; exact hj
  have he : (entsTo e n)[j]'hl = e j := by simp [entsTo]
  have c : ∀ o, o < 6 → w.cell? ⟨g, 0 + j * 6 + o, none⟩ = (e j).cells[o]? := fun o ho => by
    rw [Nat.zero_add, h.cellAt (j * 6 + o) (by omega), entRows_at _ j hl o ho, he]
  exact ⟨c 0 (by decide), c 1 (by decide), c 2 (by decide), c 3 (by decide), c 4 (by decide), c 5 (by decide)⟩
theorem bkTo_at (E : Nat → EX) (k t : Nat) (h : t < k) : (bkTo E k 0)[t]? = some (E (k - 1 - t)) := by
  unfold bkTo
  rw [List.getElem?_map, List.getElem?_range (by omega)]
  rfl

/-- an entry as it was handed in -/
structure RawCells (rb o : Nat) (r : Int × Int × Bool × Int × Int × Int) (w : World) : Prop where
  c0 : w.cell? ⟨rb, o, none⟩ = some (.int .i64 r.1)
  c1 : w.cell? ⟨rb, o + 1, none⟩ = some (.int .i64 r.2.1)
  c2 : w.cell? ⟨rb, o + 2, none⟩ = some (.bool r.2.2.1)
  c3 : w.cell? ⟨rb, o + 3, none⟩ = some (.int .i64 r.2.2.2.1)
  c4 : w.cell? ⟨rb, o + 4, none⟩ = some (.int .i64 r.2.2.2.2.1)
  c5 : w.cell? ⟨rb, o + 5, none⟩ = some (.int .i64 r.2.2.2.2.2)
theorem RawCells.same {rb o : Nat} {r : Int × Int × Bool × Int × Int × Int} {w w' : World} (h : RawCells rb o r w) (k : w'.heap[rb]? = w.heap[rb]?) : RawCells rb o r w' :=
  ⟨(cell_same k).trans h.c0, (cell_same k).trans h.c1, (cell_same k).trans h.c2, (cell_same k).trans h.c3, (cell_same k).trans h.c4, (cell_same k).trans h.c5⟩
theorem RawCells.lt {rb o : Nat} {r : Int × Int × Bool × Int × Int × Int} {w : World} (h : RawCells rb o r w) : rb < w.heap.size := cell_lt h.c0
/-- the entry that is saved -/
def svE (O : Nat → EN) (k : Nat) : EN := ⟨3 * k + 1, (O k).parent, (O k).only, 1 + (O k).size % 2048, (O k).root, (O k).born⟩
def svE' (O : Nat → EN) (k : Nat) : EN := if k < 12 then svE O k else svE O 0
theorem svE'_at {O : Nat → EN} {k : Nat} (h : k < 12) : svE' O k = svE O k := if_pos h
theorem svE'_fits {O : Nat → EN} (hO : ∀ k, (O k).fits) (k : Nat) : (svE' O k).fits := by
  have key : ∀ k, k < 12 → (svE O k).fits := fun k hk => by
    obtain ⟨f1, f2, f3, f4, f5⟩ := hO k
    refine ⟨?_, f2, ?_, f4, f5⟩
    · show 3 * k + 1 < _
      omega
    · show 1 + (O k).size % 2048 < _
      omega
  unfold svE'
  split
  · exact key k (by assumption)
  · exact key 0 (by decide)
theorem rising_V {b : HB} (hbf : b.f = 2) (hbn : b.n = 18) {O : Nat → EN} (hO : ∀ k, (O k).fits) {k : Nat} (hk : k ≤ 12) : Rising b (svE' O) k where
  f := by omega
  lt := by omega
  nb := by omega
  fit := svE'_fits hO
  ok := fun i hi => by
    rw [svE'_at (by omega)]
    rintro (h | h | h)
    · exact absurd (show 3 * i + 1 = 0 from h) (by omega)
    · exact absurd (show 1 + (O i).size % 2048 < 1 from h) (by omega)
    · exact absurd (show 2048 < 1 + (O i).size % 2048 from h) (by omega)
  up := fun i hi => by
    rw [svE'_at (by omega), svE'_at (by omega)]
    show 3 * i + 1 < 3 * (i + 1) + 1
    omega
theorem u3 (k : Nat) (h : k < 12) : IntKind.u32.wrap (3 * (k : Int) + 1) = 3 * (k : Int) + 1 := by
  have h1 := wrap_u32 (3 * k + 1) (by omega)
  have e : ((3 * k + 1 : Nat) : Int) = 3 * (k : Int) + 1 := by omega
  rw [e] at h1
  exact h1
/-- the list so far -/
structure LpV (O : Nat → EN) (w0 : World) (x9 base k : Nat) (w : World) : Prop where
  la : LAt x9 base (entsTo (svE' O) k) w
  below : Below w0.heap.size w0 w
  h1 : w0.heap.size ≤ x9
  h2 : w0.heap.size ≤ base
  hz : base ≤ w.heap.size
  nn : ¬ Box x9 55 (.slice none 0 0) w
/-- what lies there behind the first Try -/
structure SvP (O : Nat → EN) (b : HB) (k g cap hd : Nat) (U : Nat → UInt8) (s1 : HS) (x9 x12 : Nat) (w0 w : World) : Prop where
  hI : HeapI (b.at U) s1 w
  hL : LogAt b.B b.g 0 (.slice none 0 0) [] w
  dr : DrS b k 0 s1
  ct : cnt s1.S 1 b.n = k
  b9 : Box x9 55 (.slice (some ⟨g, 0, none⟩) k cap) w
  b12 : Box x12 43 (.pointer (some ⟨b.hb, 0, none⟩)) w
  b13 : Box (x12 + 1) 3 (.int .i64 (hd : Nat)) w
  ce : ∀ j, j < k → EntCells g (0 + j * 6) (svE' O j) w
  gl : g < w.heap.size
  below : Below w0.heap.size w0 w
  hd : hd = atDn 2 k 0
  own : ∀ i, i < k → OwnAt (b.at U) U (svE' O) k i
theorem SvP.keep {O : Nat → EN} {b : HB} {k g cap hd : Nat} {U : Nat → UInt8} {s1 : HS} {x9 x12 : Nat} {w0 w w' : World} {S : Nat → Prop} (h : SvP O b k g cap hd U s1 x9 x12 w0 w) (gr : Grew S w w') (hS : ∀ x, x < w.heap.size → ¬ S x) : SvP O b k g cap hd U s1 x9 x12 w0 w' := by
  have hsz := h.hI.sz
  have hsz : b.B ≤ w.heap.size := hsz
  have g0 : Grew (fun _ => False) w w' := gr.mono fun x hx e => hS x hx e
  exact ⟨h.hI.keep g0 (fun _ _ e => e) fun _ _ _ e => e, h.hL.keep g0 (fun e => e) fun _ _ e => e, h.dr, h.ct, h.b9.keep g0 fun e => e, h.b12.keep g0 fun e => e, h.b13.keep g0 fun e => e, fun j hj => (h.ce j hj).same (g0.block g h.gl fun e => e), Nat.lt_of_lt_of_le h.gl g0.size, g0.below h.below h.below.size fun _ e => e.elim, h.hd, h.own⟩
/-- what lies there behind the Guard -/
structure GotP (O : Nat → EN) (k xg : Nat) (w : World) : Prop where
  ex : ∃ a c, Box xg 55 (.slice a k c) w ∧ (0 < k → ∃ gb, a = some ⟨gb, 0, none⟩ ∧ ∀ j, j < k → EntCells gb (0 + j * 6) (svE' O j) w)
set_option maxRecDepth 100000 in
/-- another heap over the disk, and what its Adopt finds -/
theorem svAdopt {O : Nat → EN} (hO : ∀ k, (O k).fits) {b : HB} (hbf : b.f = 2) (hbn : b.n = 18) {k g cap hd : Nat} (hk : k ≤ 12) {U : Nat → UInt8} {s1 : HS} {x9 x12 : Nat} {w0 w : World} (h : SvP O b k g cap hd U s1 x9 x12 w0 w) :
    Calls Try.prog 16 #[.pointer (some ⟨b.d, 0, none⟩), .int .i64 2] w fun e w1 => ∃ hb : Nat, e = .returned (.pointer (some ⟨hb, 0, none⟩)) ∧ Grew (fun _ => False) w w1 ∧ ∀ w2, Grew (fun _ => False) ((w1.alloc (.cells #[.pointer (some ⟨hb, 0, none⟩)] 43)).alloc (.cells #[.slice none 0 0] 55)) w2 → Calls Try.prog 17 #[.func (.func 37) #[] #[.pointer (some ⟨w1.heap.size, 0, none⟩), .pointer (some ⟨x12 + 1, 0, none⟩), .pointer (some ⟨w1.heap.size + 1, 0, none⟩)]] w2 fun e w' => e = .returned (.int .i64 0) ∧ SvP O b k g cap hd U s1 x9 x12 w0 w' ∧ GotP O k (w1.heap.size + 1) w' ∧ Box w1.heap.size 43 (.pointer (some ⟨hb, 0, none⟩)) w' ∧ Calls Try.prog 21 #[.pointer (some ⟨hb, 0, none⟩)] w' fun e w8 => e = .returned (.int .i64 (k : Int)) ∧ w' = w8 := by
  obtain ⟨M, hM, m1, m2, m3, m4, m5, m6, m7, m8⟩ := h.hI.dk
  have m1 : M.d = b.d := m1
  have m4 : M.n = 2 + 18 := by rw [m4]; show b.f + b.n = _; rw [hbf, hbn]
  have m8 : M.T = U := m8
  have hN := hNew_any M 2 18 w (by decide) (by decide) hM m4 m5 m6 m7
  rw [m1] at hN
  refine hN.mono ?_
  rintro e w1 ⟨b2, rfl, ok2, hf2, hn2, hd2, hI2, hL2, hg, hB2, hfr, hbs, hbt⟩
  refine ⟨b2.hb, rfl, hg, fun w2 g2 => ?_⟩
  have z1 := Box.new w1 43 (.pointer (some ⟨b2.hb, 0, none⟩))
  have s1' : (w1.alloc (.cells #[.pointer (some ⟨b2.hb, 0, none⟩)] 43)).heap.size = w1.heap.size + 1 := by simp
  have z2 := Box.new (w1.alloc (.cells #[.pointer (some ⟨b2.hb, 0, none⟩)] 43)) 55 (.slice none 0 0)
  rw [s1'] at z2
  have ga : Grew (fun _ => False) w1 w2 := (((Grew.refl w1).alloc _).alloc _).trans g2
  have gA := hg.trans ga
  have hA : AdAt b2 U [] w2 := by
    have h1 : AdAt b2 U [] w1 := ⟨⟨HS.new, AdS.new b2, hI2⟩, hL2, ⟨M, hM.kept hg (fun e => e) (fun e => e) (fun e => e), m1.trans hd2.symm, hbs.symm, hbt.symm, by rw [hf2, hn2]; exact m4, m5, m6, m7, m8⟩⟩
    exact h1.keep ga fun _ _ e => e
  have y1 := (z1.keepAlloc (.cells #[.slice none 0 0] 55)).keep g2 fun e => e
  have y2 := z2.keep g2 fun e => e
  have h2 := h.keep gA (fun _ _ e => e)
  have hlt := h.b13.lt
  have hw := hg.size
  have nS : ∀ x, w1.heap.size ≤ x → ¬ b2.S0 x := fun x hx => HB.far ok2 (by omega)
  have hhd : hd < 65536 := by rw [h.hd]; unfold atDn; split <;> omega
  have hrun := all_dn (rising_V hf2 hn2 hO hk) (V := U) (b2.n + 1) (by omega) (fun i hi => by
    have := h.own i hi
    unfold OwnAt at this ⊢
    rw [hf2]
    have e1 : (b.at U).f = 2 := hbf
    rw [e1] at this
    exact this)
  rw [hf2, ← h.hd] at hrun
  have hGd := saG2_any ok2 hd hhd hA w1.heap.size (x12 + 1) (w1.heap.size + 1) y1 h2.b13 y2 (nS _ (Nat.le_succ _))
  rw [hrun] at hGd
  refine hGd.mono ?_
  rintro e w' ⟨rfl, hgot, _, hg7⟩
  obtain ⟨a, c, hb, hown, H, hAd, hHl⟩ := hgot rfl
  have hown : w'.ownsRow w2.heap.size 58 6 (.slice a (entsTo (svE' O) k).length c) (entsTo (svE' O) k).length (entRows (entsTo (svE' O) k)) := hown
  have hb : Box (w1.heap.size + 1) 55 (.slice a (entsTo (svE' O) k).length c) w' := hb
  have hHl : HeldL b2 H (entsTo (svE' O) k).length := hHl
  rw [entsTo_len] at hb hown hHl
  have far : ∀ x, x < w.heap.size → ¬ ((TrySet b2 x ∨ x = b2.rb) ∨ x = w1.heap.size + 1) := fun x hx e => by
    rcases e with ((e | e | e) | e) | e
    · have := hfr 1 (by decide); have e9 : b2.blk 1 = b2.g := rfl; omega
    · have := hfr 0 (by decide); have e9 : b2.blk 0 = b2.hb := rfl; omega
    · have := hfr 3 (by decide); have e9 : b2.blk 3 = b2.q := rfl; omega
    · have := hfr 4 (by decide); have e9 : b2.blk 4 = b2.rb := rfl; omega
    · omega
  have gall : Grew (fun x => (TrySet b2 x ∨ x = b2.rb) ∨ x = w1.heap.size + 1) w w' := (gA.mono fun _ _ e => e.elim).trans hg7
  obtain ⟨s9, hI9, hc9⟩ := hAd.held hHl
  refine ⟨rfl, h.keep gall far, ⟨a, c, hb, fun h0 => ?_⟩, y1.keep hg7 ?_, ?_⟩
  · rcases hown.2 with ⟨_, h1⟩ | ⟨gb, cap', cur, e', _⟩
    · omega
    · cases e'
      exact ⟨gb, rfl, row_cells hown⟩
  · rintro (e | e)
    · exact nS _ (Nat.le_refl _) (adSet0 e)
    · omega
  · have := hHeld_any b2 ok2 s9 w' hI9
    rw [hc9] at this
    exact this
theorem GotP.keep {O : Nat → EN} {k xg : Nat} {w w' : World} (h : GotP O k xg w) (g : Grew (fun _ => False) w w') : GotP O k xg w' := by
  obtain ⟨a, c, hb, hc⟩ := h.ex
  refine ⟨a, c, hb.keep g fun e => e, fun h0 => ?_⟩
  obtain ⟨gb, rfl, hj⟩ := hc h0
  exact ⟨gb, rfl, fun j hjk => (hj j hjk).same (g.block gb (cell_lt (hj j hjk).c0) fun e => e)⟩
set_option maxRecDepth 100000 in
/-- they are dropped -/
theorem svDrop {O : Nat → EN} (hO : ∀ k, (O k).fits) {b : HB} (ok : b.ok) (hbf : b.f = 2) (hbn : b.n = 18) {k g cap hd : Nat} (hk : k ≤ 12) {U : Nat → UInt8} {s1 : HS} {x9 x12 : Nat} {w0 w : World} (h : SvP O b k g cap hd U s1 x9 x12 w0 w) (hS : ∀ x, b.S0 x → w0.heap.size ≤ x ∧ x < x12) :
    Calls Try.prog 23 #[.pointer (some ⟨b.hb, 0, none⟩), .func (.func 39) #[] #[.pointer (some ⟨x12, 0, none⟩), .pointer (some ⟨x12 + 1, 0, none⟩)]] w fun e w' => e = .returned (.int .i64 0) ∧ Box x12 43 (.pointer (some ⟨b.hb, 0, none⟩)) w' ∧ Below w0.heap.size w0 w' ∧ Calls Try.prog 21 #[.pointer (some ⟨b.hb, 0, none⟩)] w' fun e w8 => e = .returned (.int .i64 0) ∧ w' = w8 := by
  have hU := h.hI.sz
  have bn : Box (x12 + 1) 3 (.int .i64 (atDn (b.at U).f k 0 : Nat)) w := by
    rw [show (b.at U).f = 2 from hbf, ← h.hd]
    exact h.b13
  have n1 : ¬ b.S0 x12 := fun e => by have := hS _ e; omega
  have n2 : ¬ b.S0 (x12 + 1) := fun e => by have := hS _ e; omega
  have hBw : w0.heap.size ≤ b.B := by
    have h1 := hS b.hb ⟨0, by decide, rfl⟩
    have h2 := ok.lt 0 (by decide)
    have h3 : b.blk 0 = b.hb := rfl
    omega
  refine (saT3 (b := b.at U) (ok.at U) (by show 1 ≤ b.f; omega) k (by show k ≤ b.n; omega) (svE' O) (rising_V (b := b.at U) hbf hbn hO hk) h.own ⟨h.dr.s1, h.dr.s2, h.dr.s0, h.dr.g⟩ x12 (x12 + 1) h.hI h.hL h.b12 bn n1 n2).mono ?_
  rintro e w' ⟨rfl, s', h0, hI', hg⟩
  refine ⟨rfl, h.b12.keep hg (h.b12.mut n1 (by decide)), hg.below h.below h.below.size fun q hq => ?_, ?_⟩
  · rcases hq with e | ⟨e, _⟩
    · exact (hS _ e).1
    · have e : b.B ≤ q := e
      omega
  · have := hHeld_any (b.at U) (ok.at U) s' w' hI'
    rw [cnt_zero _ h0] at this
    exact this
set_option maxRecDepth 100000 in
set_option maxHeartbeats 16000000 in
theorem catalogSaves_walk (a : Option Addr) (len cap rb off : Nat) (ha : 0 < len → a = some ⟨rb, off, none⟩) (r : Nat → Int × Int × Bool × Int × Int × Int) (w : World) (hr : ∀ i, i < len → RawCells rb (off + i * 6) (r i) w) :
    Calls Try.prog 6 #[.slice a len cap] w fun e w' => e = .returned (.bool true) ∧ Below w.heap.size w w' := by
  have hmf : ∀ (fn : Fn) (first cap : Array Value) (w : World), (Instr.makeFunc fn first cap).run Try.prog w = .ok (.func fn first cap) w := fun _ _ _ _ => rfl
  obtain ⟨O, hO⟩ : ∃ O : Nat → EN, ∀ k, (O k).fits ∧ ∀ w : World, Calls Try.prog 34 #[.agg #[.int .i64 (r k).1, .int .i64 (r k).2.1, .bool (r k).2.2.1, .int .i64 (r k).2.2.2.1, .int .i64 (r k).2.2.2.2.1, .int .i64 (r k).2.2.2.2.2]] w fun e w' => e = .returned (.agg (O k).cells) ∧ Below w.heap.size w w' :=
    ⟨fun k => Classical.choose (own15_any _ _ _ _ _ _), fun k => Classical.choose_spec (own15_any (r k).1 (r k).2.1 (r k).2.2.1 (r k).2.2.2.1 (r k).2.2.2.2.1 (r k).2.2.2.2.2)⟩
  have HOwn := Lib.hid fun k => (hO k).2
  have HFit := Lib.hid fun k => (hO k).1
  have HRaw := Lib.hid hr
  have HAd := Lib.hid ha
  clear hO hr ha
  go_enter Try.func6, Try.ntmps6
  go_upto_region 1 with fail
  go_wp2_with fail
  refine (catAwake _).mono ?_
  rintro e w1 ⟨rfl, hb1⟩
  have HB1 := Lib.hid hb1
  clear hb1
  go_upto_block 0 with fail
  have HL0 : Hid (LpV O w (w1.heap.size + 1) w1.heap.size 0 ((w1.alloc (.cells #[] 58)).alloc (.cells #[.slice (some ⟨w1.heap.size, 0, none⟩) 0 0] 55))) := Lib.hid (by
    have s1 : (w1.alloc (.cells #[] 58)).heap.size = w1.heap.size + 1 := by simp
    have y := Box.new (w1.alloc (.cells #[] 58)) 55 (.slice (some ⟨w1.heap.size, 0, none⟩) 0 0)
    rw [s1] at y
    have hz := HB1.out.size
    exact ⟨⟨_, y, own_keepN (World.ownsRow_lit w1 #[] 0 (Nat.le_refl _) (by decide) rfl) ((Grew.refl (S := fun _ => False) _).alloc _) fun _ _ e => e⟩, (HB1.out.alloc hz _).alloc (by simp; omega) _, by omega, hz, by simp; omega, fun h => by
      have := h.cell.symm.trans y.cell
      simp at this⟩)
  generalize (w1.alloc (.cells #[] 58)).alloc (.cells #[.slice (some ⟨w1.heap.size, 0, none⟩) 0 0] 55) = W1 at *
  obtain ⟨x9, hx9⟩ : ∃ x9, w1.heap.size + 1 = x9 := ⟨_, rfl⟩
  rw [hx9] at HL0 ⊢
  generalize w1.heap.size = base at *
  clear hx9 HB1
  obtain ⟨i0, hi, hx⟩ := Option.map_eq_some_iff.1 infoEnt
  simp only [Prod.mk.injEq] at hx
  obtain ⟨hz, h6, hb40⟩ := hx
  obtain ⟨z, hz0, hz1⟩ := Option.map_eq_some_iff.1 hz
  have HI0 := Lib.hid hi
  have HI1 := Lib.hid hz0
  have HI2 := Lib.hid h6
  have HI3 := Lib.hid hb40
  have HI4 := Lib.hid hz1
  clear hi hz h6 hb40 hz0 hz1
  go_cut [] from 4 to 43 (fun wx => ∃ k : Nat, k ≤ 12 ∧ LpV O w x9 base k wx)
  case first =>
    go_wp2_with fail
    go_loopw [4] (fun i wx => ∃ k : Nat, k ≤ len ∧ k ≤ 12 ∧ i = .int .i64 (k : Int) ∧ LpV O w x9 base k wx) (fun i _ => 12 - (intOf i).toNat)
    case atStart => exact ⟨0, Nat.zero_le _, Nat.zero_le _, rfl, HL0.out⟩
    case round =>
      obtain ⟨k, hkl, hk12, rfl, hl⟩ := hrel
      have HL := Lib.hid hl
      clear hl HL0
      by_cases hlt : k < len ∧ k < 12
      · have i0' : (k : Int) < (len : Int) := by omega
        have i1' : (k : Int) < 12 := by omega
        have HLt := Lib.hid hlt
        obtain rfl := HAd.out (by omega)
        have hrc := (HRaw.out k hlt.1).same ((Grew.of_below (S := fun _ => False) HL.out.below).block rb (HRaw.out k hlt.1).lt fun e => e)
        have hOk := HOwn.out k
        have hE := svE'_at (O := O) hlt.2
        unfold svE at hE
        generalize r k = rk at *
        obtain ⟨q1, q2, q3, q4, q5, q6⟩ := rk
        generalize O k = o at *
        obtain ⟨id, parent, only, size, root, born⟩ := o
        obtain ⟨d0, d1, d2, d3, d4, d5⟩ := hrc
        have HOk : Hid (∀ wx, Calls Try.prog 34 #[.agg #[.int .i64 q1, .int .i64 q2, .bool q3, .int .i64 q4, .int .i64 q5, .int .i64 q6]] wx fun e w' => e = .returned (.agg #[.int .u32 id, .int .u32 parent, .bool only, .int .i64 size, .int .i64 root, .int .u32 born]) ∧ Below wx.heap.size wx w') := Lib.hid hOk
        have HE := Lib.hid hE
        have hu := u3 k hlt.2
        clear hOk hE hlt hkl hk12
        go_upto_region 7 with fail
        go_wp2_with fail
        refine (HOk.out _).mono ?_
        rintro e w4 ⟨rfl, hb4⟩
        have HB4 := Lib.hid hb4
        clear hb4
        go_upto_region 9 with fail
        have hx5 := heap_alloc_new w4 (.cells #[.int .u32 (3 * (k : Int) + 1), .int .u32 parent, .bool only, .int .i64 (1 + (size : Int) % 2048), .int .i64 root, .int .u32 born] 58)
        obtain ⟨e0, e1, e2, e3, e4, e5⟩ := six hx5
        have HL5 : Hid (LpV O w x9 base k (w4.alloc (.cells #[.int .u32 (3 * (k : Int) + 1), .int .u32 parent, .bool only, .int .i64 (1 + (size : Int) % 2048), .int .i64 root, .int .u32 born] 58))) := Lib.hid (by
          have hl := HL.out
          have g : Grew (fun _ => False) wr (w4.alloc (.cells #[.int .u32 (3 * (k : Int) + 1), .int .u32 parent, .bool only, .int .i64 (1 + (size : Int) % 2048), .int .i64 root, .int .u32 born] 58)) := (Grew.of_below HB4.out).alloc _
          refine ⟨hl.la.keep g (fun e => e) fun _ _ _ e => e, g.below hl.below hl.below.size fun _ e => e.elim, hl.h1, hl.h2, Nat.le_trans hl.hz g.size, fun h => ?_⟩
          obtain ⟨v, hv, _⟩ := hl.la.ex
          have h2 := (hv.keep g fun e => e).cell.symm.trans h.cell
          rw [Option.some.inj h2] at hv
          exact hl.nn hv)
        clear hx5 HL HB4 d0 d1 d2 d3 d4 d5 HOk
        generalize w4.alloc (.cells #[.int .u32 (3 * (k : Int) + 1), .int .u32 parent, .bool only, .int .i64 (1 + (size : Int) % 2048), .int .i64 root, .int .u32 born] 58) = W5 at *
        generalize w4.heap.size = x5 at *
        obtain ⟨v, hv, hown⟩ := HL5.out.la.ex
        rw [entsTo_len] at hown
        have cv := hv.cell
        have HBv := Lib.hid hv
        have HOw := Lib.hid (own_keepN hown ((Grew.refl (S := fun _ => False) W5).alloc (.cells #[.int .u32 (3 * (k : Int) + 1), .int .u32 parent, .bool only, .int .i64 (1 + (size : Int) % 2048), .int .i64 root, .int .u32 born] 58)) fun _ _ e => e)
        have HNew := Lib.hid (six_new W5 58 (.int .u32 (3 * (k : Int) + 1)) (.int .u32 parent) (.bool only) (.int .i64 (1 + (size : Int) % 2048)) (.int .i64 root) (.int .u32 born))
        have HEx : Hid (∀ v' w4, w4.ownsRow base 58 6 v' (k + 1) (entRows (entsTo (svE' O) k) ++ [.int .u32 (3 * (k : Int) + 1), .int .u32 parent, .bool only, .int .i64 (1 + (size : Int) % 2048), .int .i64 root, .int .u32 born]) → (W5.alloc (.cells #[.int .u32 (3 * (k : Int) + 1), .int .u32 parent, .bool only, .int .i64 (1 + (size : Int) % 2048), .int .i64 root, .int .u32 born] 58)).grownBy w4 v.ownBlock → LpV O w x9 base (k + 1) (w4.setCell ⟨x9, 0, none⟩ v') ∧ w4.cell? ⟨x9, 0, none⟩ = some v ∧ w4.frozen? ⟨x9, 0, none⟩ = false) := Lib.hid fun v' w4 ho hg => by
          have hL := HL5.out
          have he : (svE' O k).cells.toList = [.int .u32 (3 * (k : Int) + 1), .int .u32 parent, .bool only, .int .i64 (1 + (size : Int) % 2048), .int .i64 root, .int .u32 born] := by
            rw [HE.out]
            have e1 : ((3 * k + 1 : Nat) : Int) = 3 * (k : Int) + 1 := by omega
            have e2 : ((1 + size % 2048 : Nat) : Int) = 1 + (size : Int) % 2048 := by omega
            show [Value.int .u32 ((3 * k + 1 : Nat) : Int), _, _, Value.int .i64 ((1 + size % 2048 : Nat) : Int), _, _] = _
            rw [e1, e2]
          obtain ⟨a1, a2, a3, a4⟩ := LAt.append (L := entsTo (svE' O) k) (e := svE' O k) HBv.out (by rw [entsTo_len]; exact hown) hg (by rw [entsTo_len, he]; exact ho)
          rw [← entsTo_succ] at a1
          refine ⟨⟨a1, a2.below hL.below hL.below.size fun q hq => by
            rcases hq with e | e
            · have := hL.h1; omega
            · have := (hown.lt q e).1; have := hL.h2; omega, hL.h1, hL.h2, Nat.le_trans hL.hz a2.size, fun h => ?_⟩, a3, a4⟩
          obtain ⟨g', cap', hv'⟩ := own_slice ho
          obtain ⟨v2, hv2, ho2⟩ := a1.ex
          have h2 := hv2.cell.symm.trans h.cell
          rw [Option.some.inj h2] at ho2
          rcases ho2.2 with ⟨_, h0⟩ | ⟨_, _, _, e', _⟩
          · rw [entsTo_len] at h0
            omega
          · cases e'
        have HZ := Lib.hid HL5.out.hz
        clear hv hown HBv HE hu
        generalize entRows (entsTo (svE' O) k) = xs at *
        go_wp2_with (at_builtin; refine wpList_append_own_wide _ rfl _ _ 55 rfl base 58 i0 z 6 40 Try.underlying55 HI0.out HI1.out HI2.out HI3.out HI4.out (by decide) v k xs rfl ?c0 ⟨W5.heap.size, 0, none⟩ 1 1 [.int .u32 (3 * (k : Int) + 1), .int .u32 parent, .bool only, .int .i64 (1 + (size : Int) % 2048), .int .i64 root, .int .u32 born] rfl ?cl ?c1 ?c2 ?c3 ?c4 ?c5 ?_)
        case c0 => exact HOw.out
        case cl => rfl
        case c1 => exact HNew.out
        case c2 => simp [Value.oneCell']
        case c3 => unfold maxLen; omega
        case c4 => omega
        case c5 => have := HZ.out; simp; omega
        intro v' w4 ho hg _
        obtain ⟨hX, d1, d2⟩ := HEx.out v' w4 ho hg
        obtain ⟨g', cap', rfl⟩ := own_slice ho
        have HX := Lib.hid hX
        clear ho hg hX HEx HOw HNew
        go_wp2_with fail
        go_roundw
        case rel => exact ⟨k + 1, HLt.out.1, HLt.out.2, by go_num, HX.out⟩
        case measure => have := HLt.out.2; simp [intOf]; omega
      · have HX : Hid (∃ k : Nat, k ≤ 12 ∧ LpV O w x9 base k wr) := Lib.hid ⟨k, hk12, HL.out⟩
        clear HL
        go_wp2_with fail
        all_goals first | (exfalso; omega) | (go_meet; exact HX.out)
  case rest =>
    obtain ⟨k, hk12, hl⟩ := hcut
    have HN : Hid (k ≤ 12) := Lib.hid hk12
    have HL := Lib.hid hl
    clear hl hk12
    have hl := HL.out
    obtain ⟨v, hv, hown⟩ := hl.la.ex
    rw [entsTo_len] at hown
    obtain ⟨g, cap, rfl⟩ : ∃ g cap, v = .slice (some ⟨g, 0, none⟩) k cap := by
      rcases hown.2 with ⟨e, h0⟩ | ⟨g, cap, cur, rfl, _⟩
      · rw [e] at hv
        exact (hl.nn hv).elim
      · exact ⟨g, cap, rfl⟩
    have hgl := (hown.lt g rfl).2
    obtain ⟨gc, gf, hgk⟩ := Lib.ownsRow_kind hown g rfl
    have hrc := row_cells hown
    have HR : Hid (g < wc.heap.size ∧ (∃ c fz, wc.heap[g]? = some (.cells c 58 fz)) ∧ (∀ j, j < k → EntCells g (0 + j * 6) (svE' O j) wc) ∧ Box x9 55 (.slice (some ⟨g, 0, none⟩) k cap) wc ∧ Below w.heap.size w wc) := Lib.hid ⟨hgl, ⟨gc, gf, hgk⟩, hrc, hv, hl.below⟩
    clear hl hv hown hgl hgk hrc HL HI0 HI1 HI2 HI3 HI4 HRaw HAd HOwn
    go_upto_region 10 with fail
    go_wp2_with fail
    refine (new_any 20 wc).mono ?_
    rintro e w2 ⟨M, rfl, hM⟩
    have HM : Hid (DiskAt M w2 ∧ (∀ x, M.own x → wc.heap.size ≤ x ∧ x < w2.heap.size) ∧ Grew (fun _ => False) wc w2 ∧ M.n = 2 + 18 ∧ M.armed = false ∧ M.dead = false ∧ M.left ≤ 2 ^ 62) := Lib.hid (by
      have hat := hM.at'
      obtain ⟨d, bs, bt, e⟩ := hM.is
      refine ⟨hat, fun x hx => ⟨hM.fresh x hx, ?_⟩, hM.grew _, ?_⟩
      · rcases hx with rfl | rfl | rfl
        · exact hat.lt
        · exact hat.sure.lt
        · exact hat.there.lt
      · rw [e]
        exact ⟨by show diskLen 20 = 20; decide, rfl, rfl, by show (0 : Int) ≤ 2 ^ 62; decide⟩)
    have HNew := Lib.hid (hNewT_any M 2 18 w2 (by decide) (by decide) HM.out.1 HM.out.2.2.2.1 HM.out.2.2.2.2.1 HM.out.2.2.2.2.2.1 HM.out.2.2.2.2.2.2)
    clear hM
    go_wp2_with fail
    refine HNew.out.mono ?_
    rintro e w3 ⟨b, rfl, ok, hbf, hbn, hbd, hI, hLg, hg3, hB, hfr, hbs, hbt, _⟩
    have hS0 : ∀ x, b.S0 x → wc.heap.size ≤ x ∧ x < w3.heap.size := by
      rintro x ⟨i, hi, rfl⟩
      have hl := Nat.lt_of_lt_of_le (ok.lt i hi) hB
      have hz := HM.out.2.2.1.size
      by_cases q : i < 6
      · have := hfr i q
        omega
      · have hmo : M.own (b.blk i) := by
          have : i = 6 ∨ i = 7 ∨ i = 8 := by omega
          rcases this with rfl | rfl | rfl
          · exact Or.inl hbd
          · exact Or.inr (Or.inl hbs)
          · exact Or.inr (Or.inr hbt)
        have := HM.out.2.1 _ hmo
        omega
    have gw : Grew (fun _ => False) wc w3 := HM.out.2.2.1.trans hg3
    have z12 := Box.new w3 43 (.pointer (some ⟨b.hb, 0, none⟩))
    have s12 : (w3.alloc (.cells #[.pointer (some ⟨b.hb, 0, none⟩)] 43)).heap.size = w3.heap.size + 1 := by simp
    have z13 := Box.new (w3.alloc (.cells #[.pointer (some ⟨b.hb, 0, none⟩)] 43)) 3 (.int .i64 0)
    rw [s12] at z13
    have g5 : Grew (fun _ => False) w3 ((w3.alloc (.cells #[.pointer (some ⟨b.hb, 0, none⟩)] 43)).alloc (.cells #[.int .i64 0] 3)) := ((Grew.refl w3).alloc _).alloc _
    obtain ⟨r1, ⟨rc, rf, rk⟩, r3, r4, r5⟩ := HR.out
    have c12 := (z12.keepAlloc (.cells #[.int .i64 0] 3)).cell
    have HSz : Hid (w.heap.size ≤ wc.heap.size ∧ wc.heap.size ≤ w3.heap.size) := Lib.hid ⟨r5.size, gw.size⟩
    have HT : Hid (∀ wx, Grew (fun _ => False) ((w3.alloc (.cells #[.pointer (some ⟨b.hb, 0, none⟩)] 43)).alloc (.cells #[.int .i64 0] 3)) wx → Calls Try.prog 23 #[.pointer (some ⟨b.hb, 0, none⟩), .func (.func 35) #[] #[.pointer (some ⟨w3.heap.size, 0, none⟩), .pointer (some ⟨x9, 0, none⟩), .pointer (some ⟨w3.heap.size + 1, 0, none⟩)]] wx fun e w' => e = .returned (.int .i64 0) ∧ ∃ s1 hd U, SvP O b k g cap hd U s1 x9 w3.heap.size w w') := Lib.hid fun wx gx => by
      have gF := gw.trans (g5.trans gx)
      have hx9 := r4.lt
      refine (saT1_any (w := wx) ok (by omega) (by omega) (svE' O) (svE'_fits HFit.out) k cap HN.out g w3.heap.size x9 (w3.heap.size + 1) (hI.keep (g5.trans gx) (fun _ _ e => e) fun _ _ _ e => e) (hLg.keep (g5.trans gx) (fun e => e) (fun _ _ e => e)) ((z12.keepAlloc _).keep gx fun e => e) (r4.keep gF fun e => e) (z13.keep gx fun e => e) (fun e => by have := hS0 _ e; omega) (fun e => by have := hS0 _ e; omega) (fun e => by have := hS0 _ e; omega) ⟨fun e => by have := hS0 _ e; omega, rc, _, rf, (gF.block g r1 fun e => e).trans rk, by decide, by decide⟩ (fun j hj => (r3 j hj).same (gF.block g r1 fun e => e))).mono ?_
      rintro e' w6 ⟨rfl, s1, hd, U, hp, hI6, hL6, hb13, hg6⟩
      obtain ⟨h1, h2, _, h4⟩ := puts_chain hp
      obtain ⟨p1, p2⟩ := puts_dr hp
      rw [bkTo_length, Nat.sub_zero] at h1 h2 p1 p2
      have hhd : hd = atDn 2 k 0 := by
        rw [h2, hbf]
        unfold downNx atDn
        split
        · rw [if_neg (by omega)]
        · rw [if_pos (by omega)]
          rfl
      have hnf : ∀ {x : Nat} {t : TypeId} {v : Value}, Box x t v wx → ¬ b.S0 x → t ≠ 1 → x ≠ w3.heap.size + 1 → Box x t v w6 := fun h hs ht hx => h.keep hg6 fun e => by
        rcases e with e | e
        · exact h.mut hs ht e
        · exact hx e
      have hgk : wx.heap[g]? = some (.cells rc 58 rf) := (gF.block g r1 fun e => e).trans rk
      have hgm : w6.heap[g]? = wx.heap[g]? := hg6.block g (Nat.lt_of_lt_of_le r1 gF.size) (by
        rintro ((e | ⟨_, c, fz, e⟩) | e)
        · have := hS0 _ e; omega
        · rw [hgk] at e
          simp at e
        · have := gw.size; omega)
      have hbw : wc.heap.size ≤ b.B := by
        have h1 := hS0 b.hb ⟨0, by decide, rfl⟩
        have h2 := ok.lt 0 (by decide)
        have h3 : b.blk 0 = b.hb := rfl
        omega
      have hzz := gw.size
      have hr5 := r5.size
      refine ⟨rfl, s1, hd, U, hI6, hL6, p1, p2, hnf (r4.keep gF fun e => e) (fun e => by have := hS0 _ e; omega) (by decide) (by omega), hnf ((z12.keepAlloc _).keep gx fun e => e) (fun e => by have := hS0 _ e; omega) (by decide) (by omega), hb13, fun j hj => ((r3 j hj).same (gF.block g r1 fun e => e)).same hgm, Nat.lt_of_lt_of_le (Nat.lt_of_lt_of_le r1 gF.size) hg6.size, hg6.below (gF.below r5 r5.size fun _ e => e.elim) (by have := gF.size; omega) (fun q hq => by
        rcases hq with (e | ⟨e, _⟩) | e
        · have := hS0 _ e; omega
        · omega
        · omega), hhd, fun i hi => by
        have := h4 (k - 1 - i) _ (bkTo_at _ k (k - 1 - i) (by omega))
        rw [show k - 1 - (k - 1 - i) = i by omega] at this
        exact this⟩
    have HHeld : Hid (∀ hd U s1 wx, SvP O b k g cap hd U s1 x9 w3.heap.size w wx → Calls Try.prog 21 #[.pointer (some ⟨b.hb, 0, none⟩)] wx fun e w' => e = .returned (.int .i64 (k : Int)) ∧ wx = w') := Lib.hid fun hd U s1 wx h => by
      have := hHeld_any (b.at U) (ok.at U) s1 wx h.hI
      rw [show cnt s1.S 1 (b.at U).n = k from h.ct] at this
      exact this
    have HOk : Hid (b.ok ∧ b.f = 2 ∧ b.n = 18 ∧ (∀ x, b.S0 x → wc.heap.size ≤ x ∧ x < w3.heap.size) ∧ b.d = M.d) := Lib.hid ⟨ok, hbf, hbn, hS0, hbd⟩
    have HZd : Hid (∀ hd : Nat, hd = atDn 2 k 0 → ((hd : Int) == 0) = ((k : Int) == 0)) := Lib.hid fun hd e => by
      rw [e]
      unfold atDn
      by_cases h : k = 0
      · rw [h]; rfl
      · rw [if_pos (by omega)]
        have h1 : (((2 + (k - 1 - 0) : Nat) : Int) == 0) = false := by rw [beq_eq_false_iff_ne]; omega
        have h2 : ((k : Int) == 0) = false := by rw [beq_eq_false_iff_ne]; omega
        rw [h1, h2]
    clear ok hbf hbn hbd hI hLg hg3 hB hfr hbs hbt hS0 gw z12 s12 z13 g5 r1 rk r3 r4 r5 HNew HM HR
    go_upto_region 13 with fail
    generalize (w3.alloc (.cells #[.pointer (some ⟨b.hb, 0, none⟩)] 43)).alloc (.cells #[.int .i64 0] 3) = W5 at *
    generalize w3.heap.size = x12 at *
    obtain ⟨bz, hbz⟩ : ∃ bz, ((k : Int) == 0) = bz := ⟨_, rfl⟩
    rw [hbz] at HZd
    go_cut [65] (fun v wx => v = .bool false ∧ ∃ s1 hd U, SvP O b k g cap hd U s1 x9 x12 w wx)
    case first =>
      go_region_with (first
        | (go_at_call 23; (with_reducible refine (HT.out _ (Grew.refl _).drew).mono ?_); rintro e w6 ⟨rfl, s1, hd, U, hp⟩; (have h9 := hp.b9.cell); (have h12 := hp.b12.cell); (have h13 := hp.b13.cell); (have hz := HZd.out hd hp.hd); (have HP := Lib.hid hp); clear hp)
        | (go_at_call 21; (with_reducible refine (HHeld.out _ _ _ _ HP.out).mono ?_); rintro e w7 ⟨rfl, rfl⟩))
      all_goals
        go_wp2_with fail
        go_meet
        exact ⟨rfl, _, _, _, HP.out⟩
    case rest =>
      obtain ⟨rfl, s1, hd, U, hp⟩ := hcut
      have HP := Lib.hid hp
      clear hp
      go_upto_region 15 with fail
      have HAd := Lib.hid (svAdopt HFit.out HOk.out.2.1 HOk.out.2.2.1 HN.out HP.out)
      rw [HOk.out.2.2.2.2] at HAd
      clear HT HHeld
      go_wp2_with fail
      refine HAd.out.mono ?_
      rintro e w7 ⟨hb, rfl, hg7, hA7⟩
      have HP7 := Lib.hid (HP.out.keep hg7 (fun _ _ e => e))
      have HA7 := Lib.hid hA7
      clear hg7 hA7 HAd HP
      go_upto_region 17 with fail
      have s7 : (w7.alloc (.cells #[.pointer (some ⟨hb, 0, none⟩)] 43)).heap.size = w7.heap.size + 1 := by simp
      have HP8 := Lib.hid (HP7.out.keep (((Grew.refl (S := fun _ => False) w7).alloc (.cells #[.pointer (some ⟨hb, 0, none⟩)] 43)).alloc (.cells #[.slice none 0 0] 55)) (fun _ _ e => e))
      generalize (w7.alloc (.cells #[.pointer (some ⟨hb, 0, none⟩)] 43)).alloc (.cells #[.slice none 0 0] 55) = W8 at *
      generalize w7.heap.size = x20 at *
      trace_state
      go_cut [84] (fun v wx => v = .bool false ∧ SvP O b k g cap hd U s1 x9 x12 w wx ∧ GotP O k (x20 + 1) wx)
      case first =>
        go_region_with (first
          | (go_at_call 17; (with_reducible refine (HA7.out _ (Grew.refl _).drew).mono ?_); rintro e w9 ⟨rfl, hp9, hgot, hb9, hh9⟩; (have h9 := hp9.b9.cell); (have h20 := hb9.cell); (obtain ⟨ga, gc, hgb, _⟩ := hgot.ex); (have h21 := hgb.cell); (have HP9 := Lib.hid (And.intro hp9 hgot)); (have HH9 := Lib.hid hh9); clear hp9 hgot hb9 hh9 hgb)
          | (go_at_call 21; (with_reducible refine (HH9.out).mono ?_); rintro e w7 ⟨rfl, rfl⟩))
        all_goals
          go_wp2_with fail
          go_meet
          exact ⟨rfl, HP9.out⟩
      case rest =>
        obtain ⟨rfl, hp, hgot⟩ := hcut
        have HP := Lib.hid hp
        have HG := Lib.hid hgot
        clear hp hgot HA7 HP8 HP7
        have c9 := HP.out.b9.cell
        go_wp2_with fail
        go_loopw [87] (fun v wx => ∃ j : Nat, j ≤ k ∧ v = .int .i64 (j : Int) ∧ SvP O b k g cap hd U s1 x9 x12 w wx ∧ GotP O k (x20 + 1) wx) (fun v _ => k - (intOf v).toNat)
        case atStart => exact ⟨0, Nat.zero_le _, rfl, HP.out, HG.out⟩
        case round =>
          obtain ⟨j, hj, rfl, hp, hgot⟩ := hrel
          have HPr := Lib.hid hp
          have HGr := Lib.hid hgot
          clear hp hgot HP HG c9
          by_cases hlt : j < k
          · have i0 : (j : Int) < (k : Int) := by omega
            have i1 : (0 : Int) ≤ (j : Int) := by omega
            have i2 : (j : Int) < 12 := by have := HN.out; omega
            have HLt := Lib.hid hlt
            obtain ⟨ga, gc, hgb, hgc⟩ := HGr.out.ex
            obtain ⟨gb, rfl, hgj⟩ := hgc (by omega)
            have d1 := hgb.cell
            have d2 := HPr.out.b9.cell
            have p := hgj j hlt
            have q := HPr.out.ce j hlt
            generalize svE' O j = o at p q
            obtain ⟨id, parent, only, size, root, born⟩ := o
            obtain ⟨p0, p1, p2, p3, p4, p5⟩ := p
            obtain ⟨q0, q1, q2, q3, q4, q5⟩ := q
            rw [Nat.zero_add] at p0 p1 p2 p3 p4 p5 q0 q1 q2 q3 q4 q5
            clear hgb hgc hgj hlt
            go_upto_region 22 with fail
            go_quiet (fail)
            rename_i nq _
            have HY : Hid (SvP O b k g cap hd U s1 x9 x12 w (wr.drewN nq) ∧ GotP O k (x20 + 1) (wr.drewN nq)) := Lib.hid ⟨HPr.out.keep (drewN_grew wr nq fun _ => False) fun _ _ e => e, HGr.out.keep (drewN_grew wr nq fun _ => False)⟩
            clear p0 p1 p2 p3 p4 p5 q0 q1 q2 q3 q4 q5 d1 d2 HPr HGr
            generalize wr.drewN nq = wz at *
            go_wp2_with fail
            go_roundw
            case rel => exact ⟨j + 1, HLt.out, by (have := HLt.out; have := HN.out; go_num), HY.out⟩
            case measure => have := HLt.out; have := HN.out; simp [intOf]; omega
          · obtain rfl : j = k := by omega
            have i0 : ¬ (j : Int) < (j : Int) := by omega
            have HT3 := Lib.hid (svDrop HFit.out HOk.out.1 HOk.out.2.1 HOk.out.2.2.1 HN.out HPr.out (fun x hx => ⟨by have := HOk.out.2.2.2.1 x hx; have := HSz.out; omega, (HOk.out.2.2.2.1 x hx).2⟩))
            have c12 := HPr.out.b12.cell
            clear hlt hj
            go_wp2_with fail
            refine HT3.out.mono ?_
            rintro e w10 ⟨rfl, hb, hbl, hh⟩
            have e12 := hb.cell
            have HH := Lib.hid hh
            have HBl := Lib.hid hbl
            clear hb hh hbl
            go_wp2_with fail
            refine HH.out.mono ?_
            rintro e w11 ⟨rfl, rfl⟩
            go_wp2_with fail
            go_ret
            exact ⟨rfl, HBl.out⟩
end Go.Proofs.Ytjjmapmombhmlaa
