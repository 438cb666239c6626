/-
  CatalogAdopts: for all numbers, whatever the last one's next is, whichever is spoilt, the law answers true.
-/
import Derived.Test.YtjjmapmombhmlaaCatLws
import Derived.Test.YtjjmapmombhmlaaCatAwakes
import Derived.Test.YtjjmapmombhmlaaHeapNew
import Derived.BigQuiet
namespace Go.Proofs.Ytjjmapmombhmlaa
open Go.RowKit Go.Maps Go.ChangeMaps Go.WideShapes

theorem run_min2 (P : Program) (w : World) (ts : Array TypeId) (t : TypeId) (x y z : Int) (h : z = min x y) : (Builtin.min_ ts t #[.int .i64 x, .int .i64 y]).run P w = .ok (.int .i64 z) w := by
  subst h
  rcases Int.lt_or_le y x with hc | hc
  · rw [Int.min_eq_right (by omega)]
    simp [Builtin.min_, Builtin.min2, hc]
  · rw [Int.min_eq_left (by omega)]
    simp [Builtin.min_, Builtin.min2]
    omega
theorem maskN (k : Int) (n : Nat) (hn : n < 4294967296) : ∃ p : Nat, bits .and .i64 k (n : Int) = (p : Int) ∧ p ≤ n := by
  have h : (BitVec.ofInt 64 k &&& BitVec.ofInt 64 n).toNat ≤ n := by
    rw [BitVec.toNat_and]
    refine Nat.le_trans Nat.and_le_right ?_
    rw [BitVec.toNat_ofInt]
    omega
  refine ⟨(BitVec.ofInt 64 k &&& BitVec.ofInt 64 n).toNat, ?_, h⟩
  show IntKind.i64.wrap ((BitVec.ofInt 64 k &&& BitVec.ofInt 64 n).toNat : Int) = _
  generalize (BitVec.ofInt 64 k &&& BitVec.ofInt 64 n).toNat = y at *
  simp only [IntKind.wrap, IntKind.bits, IntKind.signed]
  simp
  omega
/-- what lies where a pointer leads -/
def ptrCell (x : Value) (w : World) : Value := match x with | .pointer (some a) => (w.cell? a).getD undef | _ => undef
/-- ahead of an entry: the disk, its box, the counter's -/
structure LpA (w0 : World) (d bs bt xd : Nat) (T : Nat → UInt8) (i xi : Nat) (w : World) : Prop where
  dk : DK d bs bt 20 T w
  bd : Box xd 41 (.pointer (some ⟨d, 0, none⟩)) w
  bi : Box xi 3 (.int .i64 (i : Int)) w
  below : Below w0.heap.size w0 w
  own : ∀ x, DkOwn d bs bt x → w0.heap.size ≤ x ∧ x < xd
  h1 : w0.heap.size ≤ xd
  h2 : xd < xi
theorem LpA.keep {w0 w w' : World} {d bs bt xd i xi : Nat} {T : Nat → UInt8} {S : Nat → Prop} (h : LpA w0 d bs bt xd T i xi w) (g : Grew S w w') (hS : ∀ x, S x → xd < x ∧ x ≠ xi) : LpA w0 d bs bt xd T i xi w' :=
  ⟨h.dk.keep g fun x hx e => by have := (hS x e).1; have := (h.own x hx).2; omega, h.bd.keep g fun e => by have := (hS _ e).1; omega, h.bi.keep g fun e => (hS _ e).2 rfl, g.below h.below h.below.size fun x e => by have := (hS x e).1; have := h.h1; omega, h.own, h.h1, h.h2⟩
/-- the disk is another one -/
theorem LpA.disk {w0 w w' : World} {d bs bt xd i xi : Nat} {T U : Nat → UInt8} (h : LpA w0 d bs bt xd T i xi w) (hd : DK d bs bt 20 U w') (g : Grew (DkOwn d bs bt) w w') : LpA w0 d bs bt xd U i xi w' :=
  ⟨hd, h.bd.keep g fun e => by have := (h.own _ e).2; omega, h.bi.keep g fun e => by have := (h.own _ e).2; have := h.h2; omega, g.below h.below h.below.size fun x e => (h.own x e).1, h.own, h.h1, h.h2⟩
set_option maxRecDepth 100000 in
set_option maxHeartbeats 4000000 in
theorem catalogAdopts_walk (ida : Option Addr) (len cap rb off : Nat) (ha : 0 < len → ida = some ⟨rb, off, none⟩) (f : Nat → Nat) (hf : ∀ i, f i < 4294967296) (w : World) (hrow : ∀ j, j < len → w.cell? ⟨rb, off + j, none⟩ = some (.int .u32 (f j))) (last spoil : Int) :
    Calls Try.prog 7 #[.slice ida len cap, .int .i64 last, .int .i64 spoil] w fun e w' => e = .returned (.bool true) ∧ Below w.heap.size w w' := by
  have hmf : ∀ (fn : Fn) (first cap : Array Value) (w : World), (Instr.makeFunc fn first cap).run Try.prog w = .ok (.func fn first cap) w := fun _ _ _ _ => rfl
  obtain ⟨la, hla', hla⟩ := maskN last 15 (by decide)
  obtain ⟨sp, hsp', hsp⟩ := maskN spoil 15 (by decide)
  have hla1 : bits .and .i64 last 15 = (la : Int) := hla'
  have hsp1 : bits .and .i64 spoil 15 = (sp : Int) := hsp'
  obtain ⟨n, hn⟩ : ∃ n, min len 8 = n := ⟨_, rfl⟩
  have hmn := fun (wx : World) (ts : Array TypeId) (t : TypeId) => run_min2 Try.prog wx ts t (len : Int) 8 (n : Int) (by omega)
  have HN : Hid (n ≤ 8 ∧ n ≤ len) := Lib.hid (by omega)
  have HLa : Hid (la < 16) := Lib.hid (by omega)
  have HF := Lib.hid hf
  have HRow : Hid (∀ w1, Below w.heap.size w w1 → ∀ j, j < len → w1.cell? ⟨rb, off + j, none⟩ = some (.int .u32 (f j))) := Lib.hid fun w1 hb j hj => by
    have h := hrow j hj
    rw [hb.cell (p := ⟨rb, off + j, none⟩) (World.block_lt_of_cell? w _ h)]
    exact h
  have HAd := Lib.hid ha
  clear hla' hla hsp' hsp hn hf hrow ha
  go_enter Try.func7, Try.ntmps7
  go_wp2_with fail
  refine (catAwake _).mono ?_
  rintro e w1 ⟨rfl, hb1⟩
  have HB1 := Lib.hid hb1
  clear hb1
  go_wp2_with fail
  refine (new_any 20 w1).mono ?_
  rintro e w2 ⟨M, rfl, hM⟩
  have hst : DK M.d M.bs M.bt 20 (fun _ => 0) w2 ∧ Below w.heap.size w w2 ∧ (∀ x, DkOwn M.d M.bs M.bt x → w.heap.size ≤ x ∧ x < w2.heap.size) := by
    have hat := hM.at'
    have hfr := hM.fresh
    have hg := hM.grew fun _ => False
    obtain ⟨d, bs, bt, e⟩ := hM.is
    have e20 : diskLen 20 = 20 := by decide
    rw [e20] at e
    have hdk : DK M.d M.bs M.bt 20 (fun _ => 0) w2 := ⟨M, hat, rfl, rfl, rfl, by rw [e]; rfl, by rw [e]; rfl, by rw [e]; rfl, by rw [e]; show (0 : Int) ≤ 2 ^ 62; decide, by rw [e]; rfl⟩
    exact ⟨hdk, hg.below HB1.out HB1.out.size (fun _ x => x.elim), fun x hx => ⟨Nat.le_trans HB1.out.size (hfr x hx), hdk.own_lt hx⟩⟩
  have x1 := Box.new w2 41 (.pointer (some ⟨M.d, 0, none⟩))
  have HL0 : Hid (LpA w M.d M.bs M.bt w2.heap.size (fun _ => 0) 0 (w2.heap.size + 1) ((w2.alloc (.cells #[.pointer (some ⟨M.d, 0, none⟩)] 41)).alloc (.cells #[.int .i64 0] 3))) := Lib.hid (by
    have s1 : (w2.alloc (.cells #[.pointer (some ⟨M.d, 0, none⟩)] 41)).heap.size = w2.heap.size + 1 := by simp
    have x2 := Box.new (w2.alloc (.cells #[.pointer (some ⟨M.d, 0, none⟩)] 41)) 3 (.int .i64 0)
    rw [s1] at x2
    have g : Grew (fun _ => False) w2 ((w2.alloc (.cells #[.pointer (some ⟨M.d, 0, none⟩)] 41)).alloc (.cells #[.int .i64 0] 3)) := ((Grew.refl w2).alloc _).alloc _
    exact ⟨hst.1.keep g fun _ _ e => e, x1.keepAlloc _, x2, g.below hst.2.1 hst.2.1.size fun _ e => e.elim, hst.2.2, hst.2.1.size, by omega⟩)
  clear hM hst x1 HB1
  go_upto_region 7 with fail
  generalize (w2.alloc (.cells #[.pointer (some ⟨M.d, 0, none⟩)] 41)).alloc (.cells #[.int .i64 0] 3) = W0 at *
  generalize w2.heap.size = xd at *
  generalize M.d = d at *
  generalize M.bs = bs at *
  generalize M.bt = bt at *
  go_wp2_with fail
  go_loopw [9, 10] (fun v x wx => ∃ i xi : Nat, i ≤ n ∧ v = .int .i64 (wantA f sp i : Nat) ∧ x = .pointer (some ⟨xi, 0, none⟩) ∧ LpA w d bs bt xd (TA f n la sp i) i xi wx) (fun v x wx => n - (intOf (ptrCell x wx)).toNat)
  case atStart => exact ⟨0, xd + 1, Nat.zero_le _, rfl, rfl, HL0.out⟩
  case round =>
    obtain ⟨i, xi, hi, rfl, rfl, hl⟩ := hrel
    have HL := Lib.hid hl
    have ci := hl.bi.cell
    clear hl HL0
    by_cases hlt : i < n
    · have i0 : (i : Int) < (n : Int) := by omega
      have i1 : (i : Int) < 8 := by have := HN.out.1; omega
      have i2 : (n : Int) ≤ 8 := by have := HN.out.1; omega
      have HLt := Lib.hid hlt
      clear hlt hi
      go_upto_block 1 with fail
      go_cut [9] from 24 to 78 (fun v wx => v = .int .i64 (wantA f sp (i + 1) : Nat) ∧ LpA w d bs bt xd (TA f n la sp (i + 1)) i xi wx)
      case first =>
        go_upto_region 10 with fail
        have hxl := HL.out.bi.lt
        have HL1 := Lib.hid (HL.out.keep (S := fun _ => False) ((Grew.refl wr).alloc (.cells #[.int .i64 (2 + (i : Int) + 1)] 3)) fun _ e => e.elim)
        have hb11 := Box.new wr 3 (.int .i64 (2 + (i : Int) + 1))
        have ci1 := HL1.out.bi.cell
        have HB11 := Lib.hid hb11
        have c11 := hb11.cell
        have f11 := hb11.free
        have HXl := Lib.hid hxl
        clear HL ci hxl hb11
        generalize wr.alloc (.cells #[.int .i64 (2 + (i : Int) + 1)] 3) = W1 at *
        generalize wr.heap.size = x11 at *
        go_upto_if 35 with fail
        go_cut [] from 24 to 78 (fun wx => LpA w d bs bt xd (TA f n la sp i) i xi wx ∧ Box x11 3 (.int .i64 (nxA n la i : Nat)) wx)
        case first =>
          by_cases he : i + 1 = n
          · have e1 : ((i : Int) == (n : Int) - 1) = true := by rw [beq_iff_eq]; omega
            have HX : Hid (LpA w d bs bt xd (TA f n la sp i) i xi (W1.setCell ⟨x11, 0, none⟩ (.int .i64 (la : Int))) ∧ Box x11 3 (.int .i64 (nxA n la i : Nat)) (W1.setCell ⟨x11, 0, none⟩ (.int .i64 (la : Int)))) := Lib.hid ⟨HL1.out.keep (S := fun q => q = x11) ((Grew.refl W1).setCell _ _ fun _ => rfl) fun x e => by have := HXl.out; have := HL1.out.h2; omega, by
              have e2 : nxA n la i = la := by unfold nxA; rw [if_pos he]
              rw [e2]
              exact HB11.out.set _⟩
            go_wp2_with fail
            go_meet
            exact HX.out
          · have e1 : ((i : Int) == (n : Int) - 1) = false := by rw [beq_eq_false_iff_ne]; omega
            have HX : Hid (LpA w d bs bt xd (TA f n la sp i) i xi W1 ∧ Box x11 3 (.int .i64 (nxA n la i : Nat)) W1) := Lib.hid ⟨HL1.out, by
              have e2 : nxA n la i = 3 + i := by unfold nxA; rw [if_neg he]
              have e3 : ((nxA n la i : Nat) : Int) = 2 + (i : Int) + 1 := by rw [e2]; omega
              rw [e3]
              exact HB11.out⟩
            go_wp2_with fail
            go_meet
            exact HX.out
        case rest =>
          obtain ⟨hl2, hb2⟩ := hcut
          have hlen : i < len := by have := HLt.out; have := HN.out.2; omega
          obtain rfl := HAd.out (by omega)
          have hid := HRow.out wc hl2.below i hlen
          have ci2 := hl2.bi.cell
          have hxe : (wc.alloc (.cells #[.int .u32 (f i), .int .u32 0, .bool false, .int .i64 1, .int .i64 0, .int .u32 0] 58)).heap[wc.heap.size]? = some (.cells (entA f i).cells 58) := heap_alloc_new wc _
          have hl3 := hl2.keep (S := fun _ => False) ((Grew.refl wc).alloc (.cells #[.int .u32 (f i), .int .u32 0, .bool false, .int .i64 1, .int .i64 0, .int .u32 0] 58)) fun _ e => e.elim
          have hb3 := hb2.keepAlloc (.cells #[.int .u32 (f i), .int .u32 0, .bool false, .int .i64 1, .int .i64 0, .int .u32 0] 58)
          have HGd := Lib.hid (gC1_any hl3.dk i (by have := HN.out.1; have := HLt.out; omega) (by decide) (entA f i) (entA_fits HF.out i) (nxA n la i) (nxA_lt HN.out.1 HLa.out HLt.out) xd xi wc.heap.size x11 hl3.bd hl3.bi hxe hb3 (by
            intro x hx e
            have h2 := (hl3.own x e).2
            have h3 := hl3.h2
            have h4 := HXl.out
            have h5 := hl2.bd.lt
            omega))
          have HL3 := Lib.hid hl3
          clear HL1 HB11 ci1 c11 f11 hl2 hb2 hxe hl3 hb3
          go_wp2_with fail
          refine HGd.out.mono ?_
          rintro e w3 ⟨rfl, hd3, hg3⟩
          have HL4 := Lib.hid (HL3.out.disk hd3 hg3)
          have ci4 := HL4.out.bi.cell
          have hid4 := HRow.out w3 HL4.out.below
          have hidi := hid4 i hlen
          clear hd3 hg3 HGd HL3 hid ci2
          by_cases hw0 : wantA f sp i = 0
          · have HWn : Hid (wantA f sp (i + 1) = if i = sp then 11 else if f i = 0 ∨ (0 < i ∧ f i ≤ f (i - 1)) then 1 else 0) := Lib.hid (wantA_next hw0)
            have hT := TA_succ (f := f) (n := n) (la := la) (sp := sp) i
            rw [hw0] at hT ⊢
            by_cases hs : i = sp
            · rw [if_pos ⟨rfl, hs⟩] at hT
              rw [if_pos hs] at HWn
              have e1 : ((i : Int) == (sp : Int)) = true := by rw [beq_iff_eq]; omega
              have HG2 := Lib.hid (gC2_any HL4.out.dk i (by have := HN.out.1; have := HLt.out; omega) (by decide) xd xi HL4.out.bd HL4.out.bi)
              have HT := Lib.hid hT
              clear hT hs
              go_wp2_with fail
              refine HG2.out.mono ?_
              rintro e w5 ⟨rfl, hd5, hg5⟩
              rw [← HT.out] at hd5
              have HX := Lib.hid (HL4.out.disk hd5 hg5)
              clear hd5 hg5
              go_wp2_with fail
              go_meet
              exact ⟨by rw [HWn.out]; rfl, HX.out⟩
            · rw [if_neg fun q => hs q.2] at hT
              rw [if_neg hs] at HWn
              have e1 : ((i : Int) == (sp : Int)) = false := by rw [beq_eq_false_iff_ne]; omega
              have HLx : Hid (LpA w d bs bt xd (TA f n la sp (i + 1)) i xi w3) := Lib.hid (by rw [hT]; exact HL4.out)
              clear hT hs
              by_cases h0 : f i = 0
              · rw [if_pos (Or.inl h0)] at HWn
                have e2 : ((f i : Int) == 0) = true := by rw [beq_iff_eq]; omega
                go_upto_region 19 with fail
                go_quiet (fail)
                rename_i nq _
                have HY := Lib.hid (HLx.out.keep (drewN_grew w3 nq fun _ => False) fun _ e => e.elim)
                go_wp2_with fail
                go_meet
                exact ⟨by rw [HWn.out]; rfl, HY.out⟩
              · have e2 : ((f i : Int) == 0) = false := by rw [beq_eq_false_iff_ne]; omega
                by_cases hi0 : i = 0
                · have e3 : decide (0 < i) = false := decide_eq_false (by omega)
                  have e3' : decide ((0 : Int) < (i : Int)) = false := decide_eq_false (by omega)
                  rw [if_neg (by rintro (q | q); exact h0 q; omega)] at HWn
                  clear h0 hi0
                  go_upto_region 19 with fail
                  go_quiet (fail)
                  rename_i nq _
                  have HY := Lib.hid (HLx.out.keep (drewN_grew w3 nq fun _ => False) fun _ e => e.elim)
                  go_wp2_with fail
                  go_meet
                  exact ⟨by rw [HWn.out]; rfl, HY.out⟩
                · have e3 : decide (0 < i) = true := decide_eq_true (by omega)
                  have e3' : decide ((0 : Int) < (i : Int)) = true := decide_eq_true (by omega)
                  have e5 : (0 : Int) < (i : Int) := by omega
                  obtain ⟨j, hj⟩ : ∃ j, i - 1 = j := ⟨_, rfl⟩
                  rw [hj] at HWn
                  have hidp := hid4 j (by omega)
                  have hjw : IntKind.i64.wrap ((i : Int) - 1) = (j : Int) := by rw [IntWalk.i64_in _ (by omega)]; omega
                  have hj0 : (j : Int) < (len : Int) := by omega
                  have hj1 : (0 : Int) ≤ (j : Int) := by omega
                  clear hj
                  by_cases hle : f i ≤ f j
                  · rw [if_pos (Or.inr ⟨by omega, hle⟩)] at HWn
                    have e4 : decide (f i ≤ f j) = true := decide_eq_true hle
                    clear h0 hi0 hle
                    go_upto_region 19 with fail
                    go_quiet (fail)
                    rename_i nq _
                    have HY := Lib.hid (HLx.out.keep (drewN_grew w3 nq fun _ => False) fun _ e => e.elim)
                    go_wp2_with fail
                    go_meet
                    exact ⟨by rw [HWn.out]; rfl, HY.out⟩
                  · rw [if_neg (by rintro (q | q); exact h0 q; exact hle q.2)] at HWn
                    have e4 : decide (f i ≤ f j) = false := decide_eq_false hle
                    clear h0 hi0 hle
                    go_upto_region 19 with fail
                    go_quiet (fail)
                    rename_i nq _
                    have HY := Lib.hid (HLx.out.keep (drewN_grew w3 nq fun _ => False) fun _ e => e.elim)
                    go_wp2_with fail
                    go_meet
                    exact ⟨by rw [HWn.out]; rfl, HY.out⟩
          · have HWs := Lib.hid (wantA_stays hw0)
            have hT := TA_succ (f := f) (n := n) (la := la) (sp := sp) i
            rw [if_neg fun q => hw0 q.1] at hT
            have HY : Hid (LpA w d bs bt xd (TA f n la sp (i + 1)) i xi w3) := Lib.hid (by rw [hT]; exact HL4.out)
            have e1 : ((wantA f sp i : Int) != 0) = true := by rw [bne_iff_ne]; omega
            clear hT
            go_wp2_with fail
            go_meet
            exact ⟨by rw [HWs.out], HY.out⟩
      case rest =>
        obtain ⟨rfl, hl5⟩ := hcut
        have ci5 := hl5.bi.cell
        have HL5 := Lib.hid hl5
        clear hl5
        go_upto_region 8 with fail
        have hbn := Box.new wc 3 (.int .i64 (i : Int))
        have HW8 : Hid (∀ q, q = wc.heap.size → LpA w d bs bt xd (TA f n la sp (i + 1)) (i + 1) q ((wc.alloc (.cells #[.int .i64 (i : Int)] 3)).setCell ⟨q, 0, none⟩ (.int .i64 ((i : Int) + 1)))) := Lib.hid (by
          rintro q rfl
          have hl := HL5.out
          have g : Grew (fun _ => False) wc (wc.alloc (.cells #[.int .i64 (i : Int)] 3)) := (Grew.refl wc).alloc _
          have g2 : Grew (fun _ => False) wc ((wc.alloc (.cells #[.int .i64 (i : Int)] 3)).setCell ⟨wc.heap.size, 0, none⟩ (.int .i64 ((i : Int) + 1))) := g.setCell _ _ fun e => by
            have e : wc.heap.size < wc.heap.size := e
            omega
          have hx := hl.bd.lt
          exact ⟨hl.dk.keep g2 fun _ _ e => e, hl.bd.keep g2 fun e => e, hbn.set _, g2.below hl.below hl.below.size fun _ e => e.elim, hl.own, hl.h1, hx⟩)
        have c8 := hbn.cell
        have f8 := hbn.free
        obtain ⟨x8, hx8⟩ : ∃ q, wc.heap.size = q := ⟨_, rfl⟩
        have HX8 := Lib.hid (HW8.out x8 hx8.symm)
        rw [hx8] at c8 f8 ⊢
        clear hbn HW8 hx8 HL5
        generalize wc.alloc (.cells #[.int .i64 (i : Int)] 3) = W8 at *
        go_wp2_with fail
        go_roundw
        case rel => exact ⟨i + 1, x8, HLt.out, rfl, rfl, HX8.out⟩
        case measure =>
          have m1 : ptrCell (.pointer (some ⟨x8, 0, none⟩)) (W8.setCell ⟨x8, 0, none⟩ (.int .i64 ((i : Int) + 1))) = .int .i64 ((i + 1 : Nat) : Int) := by
            show (World.cell? _ _).getD undef = _
            rw [HX8.out.bi.cell]
            rfl
          have m2 : ptrCell (.pointer (some ⟨xi, 0, none⟩)) wr = .int .i64 (i : Int) := by
            show (World.cell? _ _).getD undef = _
            rw [HL.out.bi.cell]
            rfl
          have := HLt.out
          simp only [m1, m2, intOf_nat]
          omega
    · obtain rfl : i = n := by omega
      have i0 : ¬ (i : Int) < (i : Int) := by omega
      go_upto_block 3 with fail
      obtain ⟨q, hq⟩ : ∃ q, wantA f sp i = q := ⟨_, rfl⟩
      have HQ := Lib.hid hq
      rw [hq]
      clear hq i0
      go_cut [9] (fun v wx => v = .int .i64 (finA i la q : Nat) ∧ wx = wr)
      case first =>
        have HFi : Hid (finA i la q = if i = 0 ∨ q ≠ 0 ∨ la = 0 then q else if la = 1 then 6 else if la < 2 + i then 1 else 11) := Lib.hid rfl
        have hi8 : (i : Int) ≤ 8 := by have := HN.out.1; omega
        by_cases h1 : i = 0
        · rw [if_pos (Or.inl h1)] at HFi
          have e1 : ((i : Int) == 0) = true := by rw [beq_iff_eq]; omega
          clear h1
          go_wp2_with fail
          go_meet
          exact ⟨by rw [HFi.out], rfl⟩
        have e1 : ((i : Int) == 0) = false := by rw [beq_eq_false_iff_ne]; omega
        by_cases h2 : q = 0
        case neg =>
          rw [if_pos (Or.inr (Or.inl h2))] at HFi
          have e2 : ((q : Int) != 0) = true := by rw [bne_iff_ne]; omega
          clear h1 h2
          go_wp2_with fail
          go_meet
          exact ⟨by rw [HFi.out], rfl⟩
        have e2 : ((q : Int) != 0) = false := by rw [bne_eq_false_iff_eq]; omega
        by_cases h3 : la = 0
        · rw [if_pos (Or.inr (Or.inr h3))] at HFi
          have e3 : ((la : Int) == 0) = true := by rw [beq_iff_eq]; omega
          clear h1 h2 h3
          go_wp2_with fail
          go_meet
          exact ⟨by rw [HFi.out], rfl⟩
        have e3 : ((la : Int) == 0) = false := by rw [beq_eq_false_iff_ne]; omega
        rw [if_neg (by omega)] at HFi
        by_cases h4 : la = 1
        · rw [if_pos h4] at HFi
          have e4 : ((la : Int) == 1) = true := by rw [beq_iff_eq]; omega
          clear h1 h2 h3 h4
          go_wp2_with fail
          go_meet
          exact ⟨by rw [HFi.out]; rfl, rfl⟩
        have e4 : ((la : Int) == 1) = false := by rw [beq_eq_false_iff_ne]; omega
        rw [if_neg h4] at HFi
        by_cases h5 : la < 2 + i
        · rw [if_pos h5] at HFi
          have e5 : (la : Int) < 2 + (i : Int) := by omega
          clear h1 h2 h3 h4 h5
          go_wp2_with fail
          go_meet
          exact ⟨by rw [HFi.out]; rfl, rfl⟩
        · rw [if_neg h5] at HFi
          have e5 : ¬ (la : Int) < 2 + (i : Int) := by omega
          clear h1 h2 h3 h4 h5
          go_wp2_with fail
          go_meet
          exact ⟨by rw [HFi.out]; rfl, rfl⟩
      case rest =>
        obtain ⟨rfl, rfl⟩ := hcut
        have hl := HL.out
        obtain ⟨M2, hM2, m1, m2, m3, m4, m5, m6, m7, m8⟩ := hl.dk
        have HNew := Lib.hid (hNew_any M2 2 18 wc (by decide) (by decide) hM2 m4 m5 m6 m7)
        rw [m1] at HNew
        have cd := hl.bd.cell
        have HMm : Hid (M2.d = d ∧ M2.bs = bs ∧ M2.bt = bt ∧ M2.T = TA f i la sp i) := Lib.hid ⟨m1, m2, m3, m8⟩
        have HM2 : Hid (DiskAt M2 wc ∧ M2.n = 20 ∧ M2.armed = false ∧ M2.dead = false ∧ M2.left ≤ 2 ^ 62) := Lib.hid ⟨hM2, m4, m5, m6, m7⟩
        clear hM2 m1 m2 m3 m4 m5 m6 m7 m8 hl
        go_wp2_with fail
        refine HNew.out.mono ?_
        rintro e w5 ⟨b, rfl, ok, hbf, hbn, hbd, hI, hLg, hg5, hB, hfr, hbs, hbt⟩
        have HOk := Lib.hid ok
        have HBn : Hid (b.f = 2 ∧ b.n = 18) := Lib.hid ⟨hbf, hbn⟩
        have hA5 : AdAt b (TA f i la sp i) [] w5 := ⟨⟨HS.new, AdS.new b, hI⟩, hLg, ⟨M2, HM2.out.1.kept hg5 (fun e => e) (fun e => e) (fun e => e), HMm.out.1.trans hbd.symm, hbs.symm, hbt.symm, by rw [hbf, hbn]; exact HM2.out.2.1, HM2.out.2.2.1, HM2.out.2.2.2.1, HM2.out.2.2.2.2, HMm.out.2.2.2⟩⟩
        have hb5 : Below w.heap.size w w5 := hg5.below HL.out.below HL.out.below.size fun _ e => e.elim
        have hown : ∀ k, (TrySet b k ∨ k = b.rb) → w.heap.size ≤ k := fun k hk => by
          have hz := HL.out.below.size
          rcases hk with (e | e | e) | e
          · have := hfr 1 (by decide); have e9 : b.blk 1 = b.g := rfl; omega
          · have := hfr 0 (by decide); have e9 : b.blk 0 = b.hb := rfl; omega
          · have := hfr 3 (by decide); have e9 : b.blk 3 = b.q := rfl; omega
          · have := hfr 4 (by decide); have e9 : b.blk 4 = b.rb := rfl; omega
        have HOwn := Lib.hid hown
        have y1 := Box.new w5 43 (.pointer (some ⟨b.hb, 0, none⟩))
        have s1 : (w5.alloc (.cells #[.pointer (some ⟨b.hb, 0, none⟩)] 43)).heap.size = w5.heap.size + 1 := by simp
        have y2 := Box.new (w5.alloc (.cells #[.pointer (some ⟨b.hb, 0, none⟩)] 43)) 3 (.int .i64 0)
        rw [s1] at y2
        have g6 : Grew (fun _ => False) w5 ((w5.alloc (.cells #[.pointer (some ⟨b.hb, 0, none⟩)] 43)).alloc (.cells #[.int .i64 0] 3)) := ((Grew.refl w5).alloc _).alloc _
        have HS6 : Hid (AdAt b (TA f i la sp i) [] ((w5.alloc (.cells #[.pointer (some ⟨b.hb, 0, none⟩)] 43)).alloc (.cells #[.int .i64 0] 3)) ∧ Box w5.heap.size 43 (.pointer (some ⟨b.hb, 0, none⟩)) ((w5.alloc (.cells #[.pointer (some ⟨b.hb, 0, none⟩)] 43)).alloc (.cells #[.int .i64 0] 3)) ∧ Box (w5.heap.size + 1) 3 (.int .i64 0) ((w5.alloc (.cells #[.pointer (some ⟨b.hb, 0, none⟩)] 43)).alloc (.cells #[.int .i64 0] 3)) ∧ Below w.heap.size w ((w5.alloc (.cells #[.pointer (some ⟨b.hb, 0, none⟩)] 43)).alloc (.cells #[.int .i64 0] 3))) := Lib.hid ⟨hA5.keep g6 fun _ _ e => e, y1.keepAlloc _, y2, g6.below hb5 hb5.size fun _ e => e.elim⟩
        have HSz : Hid (b.B ≤ w5.heap.size ∧ w.heap.size ≤ w5.heap.size) := Lib.hid ⟨hB, hb5.size⟩
        clear ok hbf hbn hbd hI hLg hg5 hB hfr hbs hbt hA5 hb5 hown y1 y2 s1 g6 HNew HM2 HMm HL cd
        go_upto_region 32 with fail
        generalize (w5.alloc (.cells #[.pointer (some ⟨b.hb, 0, none⟩)] 43)).alloc (.cells #[.int .i64 0] 3) = W6 at *
        generalize w5.heap.size = x14 at *
        have c15 := HS6.out.2.2.1.cell
        have f15 := HS6.out.2.2.1.free
        go_upto_if 103 with fail
        go_cut [] (fun wx => AdAt b (TA f i la sp i) [] wx ∧ Box x14 43 (.pointer (some ⟨b.hb, 0, none⟩)) wx ∧ Box (x14 + 1) 3 (.int .i64 (atA i la 0 : Nat)) wx ∧ Below w.heap.size w wx)
        case first =>
          by_cases h1 : i = 0
          · have e1 : ¬ (0 : Int) < (i : Int) := by omega
            have e2 : atA i la 0 = 0 := by unfold atA; rw [if_neg (by omega), if_pos h1]
            have HX : Hid (AdAt b (TA f i la sp i) [] W6 ∧ Box x14 43 (.pointer (some ⟨b.hb, 0, none⟩)) W6 ∧ Box (x14 + 1) 3 (.int .i64 (atA i la 0 : Nat)) W6 ∧ Below w.heap.size w W6) := Lib.hid (by rw [e2]; exact HS6.out)
            have e3 : decide (0 < i) = false := decide_eq_false (by omega)
            clear h1 e2
            go_wp2_with fail
            go_meet
            exact HX.out
          · have e1 : (0 : Int) < (i : Int) := by omega
            have e2 : atA i la 0 = 2 := by unfold atA; rw [if_pos (by omega)]
            have e3 : decide (0 < i) = true := decide_eq_true (by omega)
            have HX : Hid (AdAt b (TA f i la sp i) [] (W6.setCell ⟨x14 + 1, 0, none⟩ (.int .i64 2)) ∧ Box x14 43 (.pointer (some ⟨b.hb, 0, none⟩)) (W6.setCell ⟨x14 + 1, 0, none⟩ (.int .i64 2)) ∧ Box (x14 + 1) 3 (.int .i64 (atA i la 0 : Nat)) (W6.setCell ⟨x14 + 1, 0, none⟩ (.int .i64 2)) ∧ Below w.heap.size w (W6.setCell ⟨x14 + 1, 0, none⟩ (.int .i64 2))) := Lib.hid (by
              rw [e2]
              have g : Grew (fun k => k = x14 + 1) W6 (W6.setCell ⟨x14 + 1, 0, none⟩ (.int .i64 2)) := (Grew.refl W6).setCell _ _ fun _ => rfl
              exact ⟨HS6.out.1.keep g fun x hx e => by have := HB.s0_lt HOk.out hx; have := HSz.out.1; omega, HS6.out.2.1.keep g (by omega), HS6.out.2.2.1.set _, g.below HS6.out.2.2.2 HS6.out.2.2.2.size fun k e => by have := HSz.out.2; omega⟩)
            clear h1 e2
            go_wp2_with fail
            go_meet
            exact HX.out
        case rest =>
          obtain ⟨hA7, b14, b15, hb7⟩ := hcut
          have hz16 : x14 + 1 < wc.heap.size := b15.lt
          have hat : atA i la 0 < 65536 := by unfold atA; have := HLa.out; split; omega; split <;> omega
          have HGd := Lib.hid (gC3_any HOk.out (atA i la 0) hat (hA7.alloc (.cells #[.slice none 0 0] 55)) x14 (x14 + 1) wc.heap.size (b14.keepAlloc _) (b15.keepAlloc _) (Box.new wc 55 (.slice none 0 0)) (HB.far HOk.out (by have := HSz.out.1; omega)))
          have hch := chain_A (b := b) (n := i) (la := la) (sp := sp) HBn.out.1 HBn.out.2 HF.out HN.out.1 HLa.out (b.n + 1) (by have := HN.out.1; have := HBn.out.2; omega)
          rw [HQ.out] at hch
          have HB7 : Hid (∀ w8, Grew (fun k => (TrySet b k ∨ k = b.rb) ∨ k = wc.heap.size) (wc.alloc (.cells #[.slice none 0 0] 55)) w8 → Below w.heap.size w w8) := Lib.hid fun w8 g8 => g8.below (hb7.alloc hb7.size _) (Nat.le_trans hb7.size (by simp)) fun k e => by
            rcases e with e | e
            · exact HOwn.out k e
            · have := hb7.size; omega
          clear hA7 b14 b15 hb7 hat HS6 c15 f15
          generalize adRun b (TA f i la sp i) (b.n + 1) [] [] (atA i la 0) = R at *
          generalize finA i la q = F at *
          obtain ⟨o, L⟩ := R
          by_cases hF : F = 0
          · obtain ⟨h1, h2⟩ := hch.1 hF
            obtain rfl : o = none := h1
            have HLn : Hid (L.length = i) := Lib.hid h2
            subst hF
            clear hch h2
            go_wp2_with fail
            refine HGd.out.mono ?_
            rintro e w8 ⟨rfl, hG⟩
            obtain ⟨a, c, b8, _, _⟩ := hG.1 rfl
            have HX := Lib.hid (HB7.out w8 hG.2.2)
            have c8 : w8.cell? ⟨wc.heap.size, 0, none⟩ = some (.slice a i c) := by rw [← HLn.out]; exact b8.cell
            clear hG b8 HGd HB7
            go_wp2_with fail
            go_ret
            exact ⟨rfl, HX.out⟩
          · have h1 := hch.2 hF
            obtain rfl : o = some (F : Int) := h1
            clear hch
            have e1 : ((F : Int) != 0) = true := by rw [bne_iff_ne]; omega
            go_wp2_with fail
            refine HGd.out.mono ?_
            rintro e w8 ⟨rfl, hG⟩
            have HX := Lib.hid (HB7.out w8 hG.2.2)
            clear hG HGd HB7
            go_wp2_with fail
            go_ret
            exact ⟨rfl, HX.out⟩
/-- the same, of a list that was handed in -/
theorem catalogAdopts_any (a : Option Addr) (len cap : Nat) (f : Nat → Nat) (hf : ∀ i, f i < 4294967296) (w : World) (hx : len = 0 ∨ ∃ rb off, a = some ⟨rb, off, none⟩ ∧ ∀ i, i < len → w.cell? ⟨rb, off + i, none⟩ = some (.int .u32 (f i : Nat))) (last spoil : Int) :
    Calls Try.prog 7 #[.slice a len cap, .int .i64 last, .int .i64 spoil] w fun e w' => e = .returned (.bool true) ∧ Below w.heap.size w w' := by
  rcases hx with rfl | ⟨rb, off, rfl, h⟩
  · exact catalogAdopts_walk a 0 cap 0 0 (fun h => absurd h (Nat.lt_irrefl 0)) f hf w (fun j h => absurd h (Nat.not_lt_zero j)) last spoil
  · exact catalogAdopts_walk _ len cap rb off (fun _ => rfl) f hf w h last spoil
end Go.Proofs.Ytjjmapmombhmlaa
