/-
  Texts put together: CatAw1, CatAwake.
-/
import Derived.Test.YtjjmapmombhmlaaCatSaves
import Derived.Test.YtjjmapmombhmlaaCatLaw
import Derived.Test.YtjjmapmombhmlaaHeapIn
import Derived.Test.YtjjmapmombhmlaaCatAds
/-
  Law 15's awake: what it runs in a Try: contract.
-/
namespace Go.Proofs.Ytjjmapmombhmlaa
open Go.RowKit Go.Maps Go.ChangeMaps Go.WideShapes

def en15 : EN := ⟨1, 0, false, 5, 0, 0⟩
theorem en15_fits : en15.fits := ⟨by decide, by decide, by decide, by decide, by decide⟩
def ex15 (i : Nat) : EX := ⟨((i : Int), en15), en15_fits⟩
theorem en15_row (w : World) : EntCells w.heap.size 0 en15 (w.alloc (.cells #[.int .u32 1, .int .u32 0, .bool false, .int .i64 5, .int .i64 0, .int .u32 0] 58)) := by
  have h := heap_alloc_new w (.cells #[.int .u32 1, .int .u32 0, .bool false, .int .i64 5, .int .i64 0, .int .u32 0] 58)
  obtain ⟨h0, h1, h2, h3, h4, h5⟩ := six h
  exact ⟨h0, h1, h2, h3, h4, h5⟩
theorem puts_nil {b : HB} {s s1 : HS} {l : List EX} {hd : Nat} {U : Nat → UInt8} (h : Puts b s l s1 hd U) (hl : l = []) : s1 = s ∧ hd = 0 ∧ U = b.T := by
  cases h with
  | nil => exact ⟨rfl, rfl, rfl⟩
  | snoc => simp at hl
theorem puts_new (b : HB) (s1 : HS) (hd : Nat) (U : Nat → UInt8) (x : EX) (h : Puts b HS.new ([] ++ [x]) s1 hd U) : s1.G = [] ∧ hd = b.f := by
  generalize hl : ([] : List EX) ++ [x] = l at h
  cases h with
  | nil => cases hl
  | @snoc pre s0 h0' j U' x' h0 hj hs hmin =>
    have hp := (List.append_inj' hl rfl).1
    obtain ⟨rfl, _, _⟩ := puts_nil h0 hp.symm
    have : j = 0 := by
      rcases Nat.eq_zero_or_pos j with e | e
      · exact e
      · exact absurd rfl (hmin 0 e)
    subst this
    exact ⟨rfl, rfl⟩
set_option maxRecDepth 100000 in
set_option maxHeartbeats 1000000 in
theorem catAw1_any (b : HB) (ok : b.ok) (hbf : b.f = 2) (hbn : b.n = 7) (xh xa : Nat) (w : World) (h : InL b HS.new 1 [] 0 w) (bh : Box xh 43 (.pointer (some ⟨b.hb, 0, none⟩)) w) (ba : Box xa 3 (.int .i64 1) w) (sh : ¬ b.S0 xh) (sa : ¬ b.S0 xa) (hha : xh ≠ xa) :
    Calls Try.prog 76 #[.pointer (some ⟨xh, 0, none⟩), .pointer (some ⟨xa, 0, none⟩)] w fun e w' => e = .returned (.tuple #[]) ∧ ∃ s1 U, InL (b.at U) s1 1 [] 3 w' ∧ s1.G = [] ∧ Box xh 43 (.pointer (some ⟨b.hb, 0, none⟩)) w' ∧ Box xa 3 (.int .i64 2) w' ∧ Grew (fun q => Mut b.B b.S0 w q ∨ q = xa) w w' := by
  have d1 := bh.cell
  obtain ⟨W, hW⟩ : ∃ W, w.alloc (.cells #[.int .u32 1, .int .u32 0, .bool false, .int .i64 5, .int .i64 0, .int .u32 0] 58) = W := ⟨_, rfl⟩
  have hB := h.size
  have hI : InL b HS.new 1 [] 0 W := by rw [← hW]; exact h.alloc rfl _
  have gW : Grew (fun _ => False) w W := by rw [← hW]; exact (Grew.refl w).alloc _
  have hrow : EntCells w.heap.size 0 en15 W := by rw [← hW]; exact en15_row w
  have hpl : Plain b.S0 W w.heap.size := ⟨HB.far ok hB, _, _, _, by rw [← hW]; exact heap_alloc_new w _, by decide, by decide⟩
  have HSv := Lib.hid (save_any (b := b) (s := HS.new) (dp := 1) (n := 0) (f0 := []) (w := W) ok (by omega) rfl (by decide) w.heap.size 0 1 1 (some ⟨w.heap.size, 0, none⟩) (by rw [hbn]; decide) (by decide) (fun _ => rfl) ex15 (fun _ => rfl) (by decide) (by decide) hI hpl (fun j hj => by
    obtain rfl : j = 0 := by omega
    exact hrow))
  have bh0 := bh.keep gW fun e => e
  have ba0 := ba.keep gW fun e => e
  have HE : Hid (∀ w' s1 hd U, Puts b HS.new (bkTo ex15 1 0) s1 hd U → InL (b.at U) s1 1 [] 3 w' → Grew (Mut b.B b.S0 W) W w' → hd = 2 ∧ Box xa 3 (.int .i64 1) w' ∧ (∃ s1 U, InL (b.at U) s1 1 [] 3 (w'.setCell ⟨xa, 0, none⟩ (.int .i64 2)) ∧ s1.G = [] ∧ Box xh 43 (.pointer (some ⟨b.hb, 0, none⟩)) (w'.setCell ⟨xa, 0, none⟩ (.int .i64 2)) ∧ Box xa 3 (.int .i64 2) (w'.setCell ⟨xa, 0, none⟩ (.int .i64 2)) ∧ Grew (fun q => Mut b.B b.S0 w q ∨ q = xa) w (w'.setCell ⟨xa, 0, none⟩ (.int .i64 2)))) := Lib.hid fun w' s1 hd U hp hi hg => by
    obtain ⟨hG, rfl⟩ := puts_new b s1 hd U (ex15 0) hp
    have kk := Kept.of hg
    have b1 : Box xa 3 (.int .i64 1) w' := (kk _ (Box.pl ba0 sa (by decide) (by decide))).trans ba0
    have b2 : Box xh 43 (.pointer (some ⟨b.hb, 0, none⟩)) w' := (kk _ (Box.pl bh0 sh (by decide) (by decide))).trans bh0
    have g1 : Grew (Mut b.B b.S0 w) w W := gW.mono fun _ _ e => e.elim
    exact ⟨hbf, b1, s1, U, hi.box hG b1 (by decide) sa, hG, b2.keepSet _ _ _ hha, b1.set _, ((g1.thenMut hg).mono fun _ _ e => Or.inl e).setCell _ _ fun _ => Or.inr rfl⟩
  clear h bh ba hI gW hrow hpl bh0 ba0 hbf hbn sh sa
  subst hW
  go_enter Try.func76, Try.ntmps76
  go_wp2_with fail
  refine HSv.out.mono ?_
  rintro e w1 ⟨s1, hd, U, rfl, hp, hi, hg⟩
  obtain ⟨rfl, b1, hx⟩ := HE.out w1 s1 hd U hp hi hg
  have d2 := b1.cell
  have d3 := b1.free
  have HX := Lib.hid hx
  clear hp hi hg hx HE HSv
  go_wp2_with fail
  go_end0
  exact ⟨rfl, HX.out⟩
end Go.Proofs.Ytjjmapmombhmlaa

/-
  Law 15's awake: contract.
-/
namespace Go.Proofs.Ytjjmapmombhmlaa
open Go.RowKit Go.Maps Go.ChangeMaps Go.WideShapes

set_option maxRecDepth 100000 in
/-- awake's Try -/
theorem catAwTry (M : DiskM) (w w1 w2 : World) (b : HB) (hM : NewOf 9 w M w1) (ok : b.ok) (hbf : b.f = 2) (hbn : b.n = 7) (hbd : b.d = M.d) (hI : HeapI b HS.new w2) (hL : LogAt b.B b.g 0 (.slice none 0 0) [] w2) (hg : Grew (fun _ => False) w1 w2) (hB : b.B ≤ w2.heap.size) (hfr : ∀ i, i < 6 → w1.heap.size ≤ b.blk i) (hbs : b.bs = M.bs) (hbt : b.bt = M.bt)
    (W : World) (s4 : W.heap.size = w2.heap.size + 2) (gW : Grew (fun _ => False) w2 W) (y1 : Box w2.heap.size 43 (.pointer (some ⟨b.hb, 0, none⟩)) W) (y2 : Box (w2.heap.size + 1) 3 (.int .i64 1) W) :
    Calls Try.prog 23 #[.pointer (some ⟨b.hb, 0, none⟩), .func (.func 76) #[] #[.pointer (some ⟨w2.heap.size, 0, none⟩), .pointer (some ⟨w2.heap.size + 1, 0, none⟩)]] W fun e w' => e = .returned (.int .i64 0) ∧ Box (w2.heap.size + 1) 3 (.int .i64 2) w' ∧ Below w.heap.size w w' := by
  have iW : HeapI b HS.new W := hI.keep gW (fun _ _ e => e) fun _ _ _ e => e
  have lW : LogAt b.B b.g 0 (.slice none 0 0) [] W := hL.keep gW (fun e => e) fun _ _ e => e
  have hsz1 : w.heap.size ≤ w1.heap.size := (hM.grew fun _ => False).size
  have hsz2 : w1.heap.size ≤ w2.heap.size := hg.size
  have own : ∀ k, b.S0 k → w.heap.size ≤ k := fun k hk => by
    obtain ⟨i, hi, rfl⟩ := hk
    by_cases h6 : i < 6
    · exact Nat.le_trans hsz1 (hfr i h6)
    · have h9 : i = 6 ∨ i = 7 ∨ i = 8 := by omega
      rcases h9 with rfl | rfl | rfl
      · exact hM.fresh _ (Or.inl hbd)
      · exact hM.fresh _ (Or.inr (Or.inl hbs))
      · exact hM.fresh _ (Or.inr (Or.inr hbt))
  have hnB : w.heap.size ≤ b.B := Nat.le_of_lt (Nat.lt_of_le_of_lt (own _ ⟨0, by decide, rfl⟩) (ok.lt 0 (by decide)))
  have f1 : ¬ b.S0 w2.heap.size := HB.far ok hB
  have f2 : ¬ b.S0 (w2.heap.size + 1) := HB.far ok (by omega)
  have f3 : ¬ b.S0 W.heap.size := HB.far ok (by omega)
  have gT := tryWorld_grew b.g 0 W
  have hgS : b.S0 b.g := ⟨1, by decide, rfl⟩
  have bT : ∀ {x : Nat} {t : TypeId} {v : Value}, Box x t v W → ¬ b.S0 x → Box x t v (tryWorld b.g 0 W) := fun h hs => h.keep gT fun e => hs (e ▸ hgS)
  refine (hTryU b ok HS.new W iW lW 76 _ (fun _ _ w' => Box (w2.heap.size + 1) 3 (.int .i64 2) w' ∧ Grew (fun k => w.heap.size ≤ k) (tryWorld b.g 0 W) w') (fun _ => by rfl) fun hin => ?_).mono ?_
  · refine (catAw1_any b ok hbf hbn _ _ _ hin.deep (bT y1 f1) (bT y2 f2) f1 f2 (by omega)).mono ?_
    rintro e w' ⟨rfl, s1, U, hi, hG, b1, b2, hgr⟩
    refine ⟨s1, 3, U, rfl, hi.first, GoneOk.nil hG, ?_, b2, hgr.mono fun k _ e => ?_⟩
    · rw [hgr.block _ (by rw [tryWorld_size]; omega) ?_]
      · exact tryWorld_box b.g 0 W
      · rintro (m | m)
        · rcases m with m | m
          · exact f3 m
          · exact notFunc_err (tryWorld_box b.g 0 W) m
        · omega
    · rcases e with (m | m) | m
      · exact own k m
      · exact Nat.le_trans hnB m.1
      · omega
  · rintro e w' ⟨s1, U, w5, rfl, ⟨hb, hgr⟩, hI6, _, g6⟩
    replace g6 := g6.mono (T := fun k => b.S0 k ∨ k = W.heap.size) fun x _ e => e.elim (fun q => Or.inl q.in0) Or.inr
    refine ⟨rfl, hb.keep g6 fun e => e.elim f2 (by omega), ?_⟩
    have k1 : Grew (fun k => w.heap.size ≤ k) w W := ((hM.grew _).trans (hg.mono fun _ _ e => e.elim)).trans (gW.mono fun _ _ e => e.elim)
    have k2 : Grew (fun k => w.heap.size ≤ k) w w' := ((k1.trans (gT.mono fun x _ e => by rw [e]; exact own _ hgS)).trans hgr).trans (g6.mono fun x _ e => by
      rcases e with e | e
      · exact own x e
      · omega)
    exact k2.below (Below.refl _ w) (Nat.le_refl _) fun _ e => e
theorem vE : catE ⟨#[86]⟩ = some 2 := by unfold catE; rw [if_pos (by decide)]
set_option maxRecDepth 100000 in
set_option maxHeartbeats 1000000 in
theorem catAwake (w : World) : Calls Try.prog 33 #[] w fun e w' => e = .returned (.bool true) ∧ Below w.heap.size w w' := by
  have hmf : ∀ (fn : Fn) (first cap : Array Value) (w : World), (Instr.makeFunc fn first cap).run Try.prog w = .ok (.func fn first cap) w := fun _ _ _ _ => rfl
  have HP : Hid (∀ wx, Calls Try.prog 77 #[.string ⟨#[86]⟩] wx fun e w' => e = .returned (.tuple #[.agg #[.int .u32 0, .int .u32 0, .bool false, .int .i64 0, .int .i64 0, .int .u32 0], .int .i64 0, .int .i64 2]) ∧ Below wx.heap.size wx w') := Lib.hid fun wx => by
    have h := lawCat_any ⟨#[86]⟩ wx
    have h1 : gotEN ⟨#[86]⟩ = EN.none := by unfold gotEN; rw [vE, if_neg (by simp)]
    have h2 : gotNx ⟨#[86]⟩ = 0 := by unfold gotNx; rw [vE, if_neg (by simp)]
    rw [h1, h2, vE] at h
    exact h
  go_enter Try.func33, Try.ntmps33
  go_wp2_with fail
  refine (new_any 9 w).mono ?_
  rintro e w1 ⟨M, rfl, hM⟩
  have hn : M.n = 2 + 7 ∧ M.armed = false ∧ M.dead = false ∧ M.left ≤ 2 ^ 62 := by
    obtain ⟨d, bs, bt, e⟩ := hM.is
    rw [e]
    exact ⟨by show diskLen 9 = 9; decide, rfl, rfl, by show (0 : Int) ≤ 2 ^ 62; decide⟩
  have HNew : Hid (Calls Try.prog 16 #[.pointer (some ⟨M.d, 0, none⟩), .int .i64 2] w1 fun e w' => ∃ b : HB, e = .returned (.pointer (some ⟨b.hb, 0, none⟩)) ∧ b.ok ∧ b.f = 2 ∧ b.n = 7 ∧ b.d = M.d ∧ HeapI b HS.new w' ∧ LogAt b.B b.g 0 (.slice none 0 0) [] w' ∧ Grew (fun _ => False) w1 w' ∧ b.B ≤ w'.heap.size ∧ (∀ i, i < 6 → w1.heap.size ≤ b.blk i) ∧ b.bs = M.bs ∧ b.bt = M.bt) := Lib.hid (hNew_any M 2 7 w1 (by decide) (by decide) hM.at' hn.1 hn.2.1 hn.2.2.1 hn.2.2.2)
  have HM := Lib.hid hM
  clear hM hn
  go_wp2_with fail
  refine HNew.out.mono ?_
  rintro e w2 ⟨b, rfl, ok, hbf, hbn, hbd, hI, hL, hg, hB, hfr, hbs, hbt⟩
  have s1 : (w2.alloc (.cells #[.pointer (some ⟨b.hb, 0, none⟩)] 43)).heap.size = w2.heap.size + 1 := by simp
  have x1 := Box.new w2 43 (.pointer (some ⟨b.hb, 0, none⟩))
  have x2 := Box.new (w2.alloc (.cells #[.pointer (some ⟨b.hb, 0, none⟩)] 43)) 3 (.int .i64 1)
  rw [s1] at x2
  have HTr := Lib.hid (catAwTry M w w1 w2 b HM.out ok hbf hbn hbd hI hL hg hB hfr hbs hbt _ (by simp) (((Grew.refl w2).alloc _).alloc _) (x1.keepAlloc (.cells #[.int .i64 1] 3)) x2)
  have d1 : ((w2.alloc (.cells #[.pointer (some ⟨b.hb, 0, none⟩)] 43)).alloc (.cells #[.int .i64 1] 3)).cell? ⟨w2.heap.size, 0, none⟩ = some (.pointer (some ⟨b.hb, 0, none⟩)) := (x1.keepAlloc _).cell
  clear HM HNew ok hbf hbn hbd hI hL hg hB hfr hbs hbt s1 x1 x2
  go_wp2_with fail
  refine HTr.out.mono ?_
  rintro e w3 ⟨rfl, hb3, hB3⟩
  have HB3 := Lib.hid hB3
  have HBx := Lib.hid hb3
  clear hb3 hB3 HTr d1
  go_wp2_with fail
  refine (HP.out _).mono ?_
  rintro e w4 ⟨rfl, hb4⟩
  have hlt := HBx.out.lt
  have HB4 := Lib.hid (HB3.out.trans (hb4.mono HB3.out.size))
  have c2 : w4.cell? ⟨w2.heap.size + 1, 0, none⟩ = some (.int .i64 2) := (hb4.cell (p := ⟨w2.heap.size + 1, 0, none⟩) hlt).trans HBx.out.cell
  have hl4 : w2.heap.size + 1 < w4.heap.size := cell_lt c2
  have c3 : (w4.alloc (.cells #[.int .u32 0, .int .u32 0, .bool false, .int .i64 0, .int .i64 0, .int .u32 0] 58)).cell? ⟨w2.heap.size + 1, 0, none⟩ = some (.int .i64 2) := by rw [World.cell?_alloc_past (hn := hl4)]; exact c2
  have HFin : Hid (Below w.heap.size w (w4.alloc (.cells #[.int .u32 0, .int .u32 0, .bool false, .int .i64 0, .int .i64 0, .int .u32 0] 58))) := Lib.hid (HB4.out.alloc HB4.out.size _)
  clear hb4 c2 hlt hl4
  go_wp2_with fail
  go_ret
  exact ⟨rfl, HFin.out⟩
end Go.Proofs.Ytjjmapmombhmlaa
