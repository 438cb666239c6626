/-
  spread: the sixteen words of the block and those that are made of them.
-/
import Derived.Test.YtheccbnejamhlaaDoorShaRow
import Derived.RegionTactic
import Derived.BigRegion
import Derived.Deep.QuietTactic
import Derived.BigQuiet
import Derived.Deep.RegionHeld3
import Derived.Deep.DeepCutAuto
import Derived.KernelRfl
import Derived.WalkSmall
namespace Go.Proofs.YtheccbnejamhlaaDoor
open Go.RowKit

/-- the cells of a text -/
def tv (s : Sha.St) (blk : Nat → Nat) (used size : Nat) (j : Nat) : Value :=
  match j with
  | 0 => .int .u32 s.a | 1 => .int .u32 s.b | 2 => .int .u32 s.c | 3 => .int .u32 s.d | 4 => .int .u32 s.e | 5 => .int .u32 s.f | 6 => .int .u32 s.g | 7 => .int .u32 s.z
  | 72 => .int .i64 used
  | 73 => .int .u64 size
  | j => .int .u8 (blk (j - 8))
def TextIs (b : Nat) (s : Sha.St) (blk : Nat → Nat) (used size : Nat) (w : World) : Prop := Cells b 74 (tv s blk used size) w
theorem tv_blk (s : Sha.St) (blk : Nat → Nat) (used size i : Nat) (h : i < 64) : tv s blk used size (8 + i) = .int .u8 (blk i) := by
  have e : 8 + i = i + 8 := by omega
  rw [e]
  unfold tv
  split <;> first | omega | skip
  rename_i h1 h2 h3 h4 h5 h6 h7 h8 h9 h10
  simp
/-- the first n words of a row of 64 words, noughts behind -/
def wv (l : List Nat) (j : Nat) : Value := .int .u32 (l.getD j 0 : Nat)

def lit : Array Value := #[.int .u32 0, .int .u32 0, .int .u32 0, .int .u32 0, .int .u32 0, .int .u32 0, .int .u32 0, .int .u32 0, .int .u32 0, .int .u32 0, .int .u32 0, .int .u32 0, .int .u32 0, .int .u32 0, .int .u32 0, .int .u32 0, .int .u32 0, .int .u32 0, .int .u32 0, .int .u32 0, .int .u32 0, .int .u32 0, .int .u32 0, .int .u32 0, .int .u32 0, .int .u32 0, .int .u32 0, .int .u32 0, .int .u32 0, .int .u32 0, .int .u32 0, .int .u32 0, .int .u32 0, .int .u32 0, .int .u32 0, .int .u32 0, .int .u32 0, .int .u32 0, .int .u32 0, .int .u32 0, .int .u32 0, .int .u32 0, .int .u32 0, .int .u32 0, .int .u32 0, .int .u32 0, .int .u32 0, .int .u32 0, .int .u32 0, .int .u32 0, .int .u32 0, .int .u32 0, .int .u32 0, .int .u32 0, .int .u32 0, .int .u32 0, .int .u32 0, .int .u32 0, .int .u32 0, .int .u32 0, .int .u32 0, .int .u32 0, .int .u32 0, .int .u32 0]
theorem lit_at (j : Nat) (h : j < 64) : lit[j]? = some (.int .u32 0) := by
  have e : lit = Array.replicate 64 (.int .u32 0) := by kernel_rfl
  rw [e]
  simp [h]

theorem slice_block (b k : Nat) (hk : k < 16) (w : World) :
    (Instr.sliceAt 60 (.pointer (some ⟨b, 8, none⟩)) (some (.int .i64 (4 * (k : Int)))) (some (.int .i64 (4 * (k : Int) + 4))) none).run Tryd.prog w = .ok (.slice (some ⟨b, 8 + 4 * k, none⟩) 4 (64 - 4 * k)) w := by
  have e1 : Tryd.prog.arrayLen 60 = 64 := by kernel_rfl
  have e2 : Tryd.prog.elem 60 = 5 := by kernel_rfl
  have e3 : (sizeOf 5).run Tryd.prog w = .ok 1 w := by kernel_rfl
  have h := run_sliceAt_array_lh (P := Tryd.prog) w 60 ⟨b, 8, none⟩ (by rw [e1, e2]; exact Tryd.underlying60) .i64 .i64 (4 * (k : Int)) (4 * (k : Int) + 4) (by omega) (by omega) (by rw [e1]; omega)
  rw [h, e1, e2, e3]
  have a1 : (4 * (k : Int)).toNat = 4 * k := by omega
  have a2 : (4 * (k : Int) + 4).toNat = 4 * k + 4 := by omega
  simp only [Result.andThen_ok, slicedAt, a1, a2]
  rw [if_neg (by omega), Nat.mul_one, Addr.add_mid, show 4 * k + 4 - 4 * k = 4 by omega]
theorem text_byte {b : Nat} {s : Sha.St} {blk : Nat → Nat} {used size : Nat} {w : World} (h : TextIs b s blk used size w) (i : Nat) (hi : i < 64) : w.cell? ⟨b, 8 + i, none⟩ = some (.int .u8 (blk i)) := by
  rw [(h.2 (8 + i) (by omega)).1, tv_blk _ _ _ _ _ hi]
theorem word_value (x0 x1 x2 x3 : Nat) (y0 : x0 < 256) (y1 : x1 < 256) (y2 : x2 < 256) (y3 : x3 < 256) :
    bits BinOp.or IntKind.u32 (bits BinOp.or IntKind.u32 (bits BinOp.or IntKind.u32 ((x0 : Int) * 16777216) ((x1 : Int) * 65536)) ((x2 : Int) * 256)) (x3 : Int) = ((x0 * 16777216 ||| x1 * 65536 ||| x2 * 256 ||| x3 : Nat) : Int) := by
  have e0 : (x0 : Int) * 16777216 = ((x0 * 16777216 : Nat) : Int) := by simp
  have e1 : (x1 : Int) * 65536 = ((x1 * 65536 : Nat) : Int) := by simp
  have e2 : (x2 : Int) * 256 = ((x2 * 256 : Nat) : Int) := by simp
  have l0 : x0 * 16777216 < 4294967296 := Nat.lt_of_le_of_lt (Nat.mul_le_mul_right _ (show x0 ≤ 255 by omega)) (by decide)
  have l1 : x1 * 65536 < 4294967296 := Nat.lt_of_le_of_lt (Nat.mul_le_mul_right _ (show x1 ≤ 255 by omega)) (by decide)
  have l2 : x2 * 256 < 4294967296 := Nat.lt_of_le_of_lt (Nat.mul_le_mul_right _ (show x2 ≤ 255 by omega)) (by decide)
  have l3 : x3 < 4294967296 := by omega
  rw [e0, e1, e2, u32_or_nat _ _ l0 l1, u32_or_nat _ _ (Sha.or_lt l0 l1) l2, u32_or_nat _ _ (Sha.or_lt (Sha.or_lt l0 l1) l2) l3]
theorem s0_value (x : Nat) (hx : x < 4294967296) : bits BinOp.xor IntKind.u32 ((Sha.rotr x 7 ^^^ Sha.rotr x 18 : Nat) : Int) ((x : Int) / 8) = ((Sha.s0 x : Nat) : Int) := by
  rw [show (x : Int) / 8 = ((x / 8 : Nat) : Int) from by omega, u32_xor_nat _ _ (Sha.xor_lt (Sha.rotr_lt _ hx) (Sha.rotr_lt _ hx)) (Sha.div_lt _ hx)]
  rfl
theorem s1_value (x : Nat) (hx : x < 4294967296) : bits BinOp.xor IntKind.u32 ((Sha.rotr x 17 ^^^ Sha.rotr x 19 : Nat) : Int) ((x : Int) / 1024) = ((Sha.s1 x : Nat) : Int) := by
  rw [show (x : Int) / 1024 = ((x / 1024 : Nat) : Int) from by omega, u32_xor_nat _ _ (Sha.xor_lt (Sha.rotr_lt _ hx) (Sha.rotr_lt _ hx)) (Sha.div_lt _ hx)]
  rfl
theorem Cells.draws {b n : Nat} {f : Nat → Value} {w : World} {c k : Nat} {v : Value} (h : Cells b n f (w.setCell ⟨c, k, none⟩ v)) (m : Nat) : Cells b n f ((w.setCell ⟨c, k, none⟩ v).drewN m).drew := h
theorem below_draws {w w' : World} (h : Below w.heap.size w w') {c k : Nat} {v : Value} (m : Nat) (hc : w.heap.size ≤ c) : Below w.heap.size w ((w'.setCell ⟨c, k, none⟩ v).drewN m).drew :=
  (below_drewN (h.setCell (p := ⟨c, k, none⟩) hc v) m).drew
theorem ws_step {b k t : Nat} {blk : Nat → Nat} {w : World} (h : Cells b 64 (wv (Sha.ws blk k)) w) (hk : k < 48) (e : Sha.next (Sha.ws blk k) k = t) :
    Cells b 64 (wv (Sha.ws blk (k + 1))) (w.setCell ⟨b, k + 16, none⟩ (.int .u32 (t : Nat))) := by
  have hl := Sha.ws_len blk k
  refine h.set (k + 16) _ (by omega) ?_ ?_
  · unfold wv Sha.ws
    rw [List.getD_eq_getElem?_getD, List.getElem?_append_right (by omega), e, hl, show k + 16 - (16 + k) = 0 by omega]
    rfl
  · intro j hj hne
    unfold wv
    rw [Sha.ws, List.getD_eq_getElem?_getD, List.getD_eq_getElem?_getD]
    by_cases hlt : j < (Sha.ws blk k).length
    · rw [List.getElem?_append_left hlt]
    · rw [List.getElem?_eq_none (by simp; omega), List.getElem?_eq_none (by omega)]
theorem row_mem {f : Nat → Value} {L : List Value} (e : (List.range 64).map f = L) (j : Nat) (v : Value) (h : L[j]? = some v) : j < 64 ∧ f j = v := by
  subst e
  rw [List.getElem?_map, Option.map_eq_some_iff] at h
  obtain ⟨x, h1, h2⟩ := h
  obtain ⟨h3, h4⟩ := List.getElem?_eq_some_iff.mp h1
  rw [List.getElem_range] at h4
  rw [h4]
  exact ⟨by simp at h3; omega, h2⟩
theorem row_range {b : Nat} {f : Nat → Value} {w : World} {L : List Value} (h : Cells b 64 f w) (e : (List.range 64).map f = L) : w.rangeAt b 0 L :=
  h.range 0 L fun j v hv => by
    have := row_mem e j v hv
    rw [Nat.zero_add]
    exact this
theorem row_one {l : List Nat} {L : List Value} (e : (List.range 64).map (wv l) = L) : L.toArray.all (·.oneCell') = true :=
  all_oneCell_toArray fun v hv => by
    rw [← e, List.mem_map] at hv
    obtain ⟨x, _, rfl⟩ := hv
    rfl
theorem below_row {B : Nat} {u w : World} (h : Below B u w) {c o : Nat} (l : List Value) (hc : B ≤ c) : Below B u (w.setCells c o l) := by
  induction l generalizing w o with
  | nil => exact h
  | cons v l ih => exact ih (h.setCell (p := ⟨c, o, none⟩) hc v)
theorem results_mid {P : Program} {fn : Func} {p : Tmp} {ty : TypeId} (h : fn.results = #[.cell p ty]) (tmps : Array Value) (w : World) (b o : Nat) (cs : List Value) (d : TypeDesc)
    (hp : tmps.getD p undef = .pointer (some ⟨b, o, none⟩)) (hc : w.rangeAt b o cs) (hu : P.underlying ty = some d) (hd : d.isRow = true) (hi : (P.info? ty).map (·.size) = some cs.length) :
    (results fn tmps).run P w = .ok (.agg cs.toArray) w := by
  have hp' : tmps[p]?.getD undef = .pointer (some ⟨b, o, none⟩) := by simpa using hp
  simp [results, h, hp', asAddr, run_loadVar_mid w b o ty cs d hc hu hd hi]
theorem wv_new (f : Nat → Nat) (k : Nat) : wv ((List.range (k + 1)).map f) k = .int .u32 (f k) := by
  unfold wv
  rw [List.getD_eq_getElem?_getD]
  simp
theorem wv_old (f : Nat → Nat) (k j : Nat) (h : j ≠ k) : wv ((List.range (k + 1)).map f) j = wv ((List.range k).map f) j := by
  unfold wv
  rw [List.getD_eq_getElem?_getD, List.getD_eq_getElem?_getD]
  by_cases hj : j < k
  · simp [hj, show j < k + 1 by omega]
  · rw [List.getElem?_eq_none (by simp; omega), List.getElem?_eq_none (by simp; omega)]

set_option maxRecDepth 100000 in
set_option maxHeartbeats 1000000 in
theorem spread_any (b : Nat) (s : Sha.St) (blk : Nat → Nat) (used size : Nat) (w : World) (hb : ∀ i, blk i < 256) (h : TextIs b s blk used size w) :
    Calls Tryd.prog 53 #[.pointer (some ⟨b, 0, none⟩)] w fun r w' => r = .returned (.agg ((List.range 64).map (wv (Sha.ws blk 48))).toArray) ∧ Below w.heap.size w w' := by
  have HB := Lib.hid hb
  have HT := Lib.hid h
  clear hb h
  obtain ⟨L, hL⟩ : ∃ L, (List.range 64).map (wv (Sha.ws blk 48)) = L := ⟨_, rfl⟩
  rw [hL]
  have HL := Lib.hid hL
  clear hL
  go_enter Tryd.func53, Tryd.ntmps53
  go_upto_region 1 with fail
  go_cut [2, 3] (fun p2 p3 wx => p2 = .pointer (some ⟨w.heap.size, 0, none⟩) ∧ p3 = .pointer (some ⟨w.heap.size + 1, 0, none⟩) ∧ Cells (w.heap.size + 1) 64 (fun _ => .int .u32 0) wx ∧ TextIs b s blk used size wx ∧ Cells w.heap.size 64 (fun _ => .int .u32 0) wx ∧ Below w.heap.size w wx)
  case first =>
    go_wp2_with fail
    go_meet
    refine ⟨rfl, rfl, ?_, (HT.out.alloc _).alloc _, (Cells.new w 64 _ _ _ lit_at).alloc _, ((Below.refl _ _).alloc (Nat.le_refl _) _).alloc (by simp) _⟩
    have h := Cells.new (w.alloc (.cells lit 89)) 64 _ 89 _ lit_at
    rw [World.size_alloc] at h
    exact h
  case rest =>
    obtain ⟨rfl, rfl, hW, hT, hR, hBel⟩ := hcut
    go_wp2_with fail
    go_loopw [12] (fun i wr => ∃ k : Nat, k ≤ 16 ∧ i = .int .i64 k ∧ Cells (w.heap.size + 1) 64 (wv ((List.range k).map (Sha.word blk))) wr ∧ TextIs b s blk used size wr ∧ Cells w.heap.size 64 (fun _ => .int .u32 0) wr ∧ Below w.heap.size w wr) (fun i _ => 16 - (intOf i).toNat)
    case atStart => exact ⟨0, by omega, rfl, hW.congr (fun j _ => rfl), hT, hR, hBel⟩
    case round =>
      clear hW hT hR hBel
      obtain ⟨k, hk, rfl, hW, hT, hR, hBel⟩ := hrel
      have HW := Lib.hid hW
      have HTr := Lib.hid hT
      have HR := Lib.hid hR
      have HBel := Lib.hid hBel
      clear hW hT hR hBel
      by_cases hlt : k < 16
      · have hsl := slice_block b k hlt wr
        have c0 := text_byte HTr.out (4 * k) (by omega)
        have c1 := text_byte HTr.out (4 * k + 1) (by omega)
        have c2 := text_byte HTr.out (4 * k + 2) (by omega)
        have c3 := text_byte HTr.out (4 * k + 3) (by omega)
        have y0 := HB.out (4 * k)
        have y1 := HB.out (4 * k + 1)
        have y2 := HB.out (4 * k + 2)
        have y3 := HB.out (4 * k + 3)
        have hwd : Hid (Sha.word blk k = (blk (4 * k) * 16777216 ||| blk (4 * k + 1) * 65536 ||| blk (4 * k + 2) * 256 ||| blk (4 * k + 3))) := Lib.hid rfl
        rw [show 8 + (4 * k + 1) = 8 + 4 * k + 1 from by omega] at c1
        rw [show 8 + (4 * k + 2) = 8 + 4 * k + 2 from by omega] at c2
        rw [show 8 + (4 * k + 3) = 8 + 4 * k + 3 from by omega] at c3
        generalize blk (4 * k) = x0 at c0 y0 hwd
        generalize blk (4 * k + 1) = x1 at c1 y1 hwd
        generalize blk (4 * k + 2) = x2 at c2 y2 hwd
        generalize blk (4 * k + 3) = x3 at c3 y3 hwd
        have hv := word_value x0 x1 x2 x3 y0 y1 y2 y3
        rw [← hwd.out] at hv
        have cw := (HW.out.2 k (by omega)).1
        have fw := (HW.out.2 k (by omega)).2
        obtain ⟨old, hold⟩ : ∃ v, wv ((List.range k).map (Sha.word blk)) k = v := ⟨_, rfl⟩
        rw [hold] at cw
        have hk0 : (0 : Int) ≤ (k : Int) := by omega
        have hk1 : (k : Int) < 64 := by omega
        clear hold
        go_wp2_with fail
        go_region
        go_wp2
        go_roundw
        case rel => exact ⟨k + 1, by omega, by go_num, (HW.out.set k _ (by omega) (wv_new _ k) (fun j _ hj => wv_old _ k j hj)).drew, (HTr.out.far _ (by have := HT.out.1; omega)).drew, (HR.out.far _ (by omega)).drew, (HBel.out.setCell (by show w.heap.size ≤ w.heap.size + 1; omega) _).drew⟩
        case measure => simp [intOf]; omega
      · have hW : Cells (w.heap.size + 1) 64 (wv (Sha.ws blk 0)) wr := by
          have e : k = 16 := by omega
          have z := HW.out
          rw [e] at z
          exact z
        have hR := HR.out
        have hBel := HBel.out
        clear HW HTr HR HBel
        go_wp2_with fail
        go_loopw [49] (fun i wx => ∃ k : Nat, k ≤ 48 ∧ i = .int .i64 k ∧ Cells (w.heap.size + 1) 64 (wv (Sha.ws blk k)) wx ∧ Cells w.heap.size 64 (fun _ => .int .u32 0) wx ∧ Below w.heap.size w wx) (fun i _ => 48 - (intOf i).toNat)
        case atStart => exact ⟨0, by omega, rfl, hW, hR, hBel⟩
        case round =>
          clear hW hR hBel
          obtain ⟨k, hk, rfl, hW, hR, hBel⟩ := hrel
          have HW := Lib.hid hW
          have HR := Lib.hid hR
          have HBel := Lib.hid hBel
          clear hW hR hBel
          by_cases hlt : k < 48
          · have c1 := (HW.out.2 (k + 1) (by omega)).1
            have c14 := (HW.out.2 (k + 14) (by omega)).1
            have c0 := (HW.out.2 k (by omega)).1
            have c9 := (HW.out.2 (k + 9) (by omega)).1
            have c16 := (HW.out.2 (k + 16) (by omega)).1
            have f16 := (HW.out.2 (k + 16) (by omega)).2
            have y1 := Sha.ws_lt blk HB.out k (k + 1)
            have y14 := Sha.ws_lt blk HB.out k (k + 14)
            have y0 := Sha.ws_lt blk HB.out k k
            have y9 := Sha.ws_lt blk HB.out k (k + 9)
            obtain ⟨nx, hnx0⟩ : ∃ n, Sha.next (Sha.ws blk k) k = n := ⟨_, rfl⟩
            have HNX := Lib.hid hnx0
            unfold Sha.next at hnx0
            have hnx := Lib.hid hnx0
            clear hnx0
            unfold wv at c1 c14 c0 c9
            obtain ⟨old, hold⟩ : ∃ v, wv (Sha.ws blk k) (k + 16) = v := ⟨_, rfl⟩
            rw [hold] at c16
            clear hold
            generalize (Sha.ws blk k).getD (k + 1) 0 = x at c1 y1 hnx
            generalize (Sha.ws blk k).getD (k + 14) 0 = y at c14 y14 hnx
            generalize (Sha.ws blk k).getD k 0 = a at c0 y0 hnx
            generalize (Sha.ws blk k).getD (k + 9) 0 = c at c9 y9 hnx
            obtain ⟨p1, hp1⟩ : ∃ p, k + 1 = p := ⟨_, rfl⟩
            obtain ⟨p14, hp14⟩ : ∃ p, k + 14 = p := ⟨_, rfl⟩
            obtain ⟨p9, hp9⟩ : ∃ p, k + 9 = p := ⟨_, rfl⟩
            rw [hp1] at c1
            rw [hp14] at c14
            rw [hp9] at c9
            have w1 : IntKind.i64.wrap ((k : Int) + 16 - 15) = (p1 : Int) := by rw [IntWalk.i64_in _ (by omega)]; omega
            have w14 : IntKind.i64.wrap ((k : Int) + 16 - 2) = (p14 : Int) := by rw [IntWalk.i64_in _ (by omega)]; omega
            have w9 : IntKind.i64.wrap ((k : Int) + 16 - 7) = (p9 : Int) := by rw [IntWalk.i64_in _ (by omega)]; omega
            have w0 : IntKind.i64.wrap ((k : Int) + 16 - 16) = (k : Int) := by rw [IntWalk.i64_in _ (by omega)]; omega
            have i1 : (p1 : Int) < 64 := by omega
            have i14 : (p14 : Int) < 64 := by omega
            have i9 : (p9 : Int) < 64 := by omega
            have i0 : (k : Int) < 64 := by omega
            have i16 : (k : Int) + 16 < 64 := by omega
            have i16' : (0 : Int) ≤ (k : Int) + 16 := by omega
            have n16 : ((k : Int) + 16).toNat = k + 16 := by omega
            clear hp1 hp14 hp9
            go_wp2_with fail
            go_quiet (fail)
            clear w1 w14 i1 i14 c1 c14
            have g1 := u32_xor_nat (Sha.rotr x 7) (Sha.rotr x 18) (Sha.rotr_lt _ y1) (Sha.rotr_lt _ y1)
            have g2 := s0_value x y1
            have g3 := u32_xor_nat (Sha.rotr y 17) (Sha.rotr y 19) (Sha.rotr_lt _ y14) (Sha.rotr_lt _ y14)
            have g4 := s1_value y y14
            go_wp2_with fail
            refine (right_any x 7 _ y1 (by decide) (by decide)).mono ?_
            rintro e w' ⟨rfl, rfl⟩
            go_wp2_with fail
            refine (right_any x 18 _ y1 (by decide) (by decide)).mono ?_
            rintro e w' ⟨rfl, rfl⟩
            go_wp2_with fail
            refine (right_any y 17 _ y14 (by decide) (by decide)).mono ?_
            rintro e w' ⟨rfl, rfl⟩
            go_wp2_with fail
            refine (right_any y 19 _ y14 (by decide) (by decide)).mono ?_
            rintro e w' ⟨rfl, rfl⟩
            go_wp2_with fail
            clear g1 g2 g3 g4
            have l0 := Sha.s0_lt y1
            have l1 := Sha.s1_lt y14
            obtain ⟨t1, e1⟩ : ∃ t, (a + Sha.s0 x) % 4294967296 = t := ⟨_, rfl⟩
            obtain ⟨t2, e2⟩ : ∃ t, (t1 + c) % 4294967296 = t := ⟨_, rfl⟩
            obtain ⟨t3, e3⟩ : ∃ t, (t2 + Sha.s1 y) % 4294967296 = t := ⟨_, rfl⟩
            have HN : Hid (Sha.next (Sha.ws blk k) k = t3) := Lib.hid (by have z := hnx.out; rw [e1, e2, e3] at z; rw [HNX.out, ← z])
            have q1 : IntKind.u32.wrap ((a : Int) + ((Sha.s0 x : Nat) : Int)) = (t1 : Int) := by rw [IntKind.wrap_u32']; omega
            have q2 : IntKind.u32.wrap ((t1 : Int) + (c : Int)) = (t2 : Int) := by rw [IntKind.wrap_u32']; omega
            have q3 : IntKind.u32.wrap ((t2 : Int) + ((Sha.s1 y : Nat) : Int)) = (t3 : Int) := by rw [IntKind.wrap_u32']; omega
            clear e1 e2 e3 hnx l0 l1 y0 y1 y14 y9
            go_region
            go_wp2
            go_roundw
            case rel => exact ⟨k + 1, by omega, by go_num, (ws_step HW.out hlt HN.out).draws nq, (HR.out.far _ (by omega)).draws nq, below_draws HBel.out nq (by omega)⟩
            case measure => simp [intOf]; omega
          · have e48 : k = 48 := by omega
            have z := HW.out
            rw [e48] at z
            have hlen : L.length = 64 := by rw [← HL.out]; simp
            have HRa := Lib.hid (row_range z HL.out)
            have HTh : Hid (wr.there w.heap.size 0 L.toArray.size) := Lib.hid (HR.out.there 0 _ (by simp [hlen]))
            have HO : Hid (L.toArray.all (·.oneCell') = true) := Lib.hid (row_one HL.out)
            have HI : Hid ((Tryd.prog.info? 89).map (·.size) = some L.length) := Lib.hid (by rw [hlen]; kernel_rfl)
            have HI' : Hid ((Tryd.prog.info? 89).map (·.size) = some L.toArray.size) := Lib.hid (by rw [List.size_toArray, hlen]; kernel_rfl)
            have HE := Lib.hid e48
            clear z hlen e48
            go_wp2_with (first
              | (with_reducible refine wpList_load_mid rfl 89 _ rfl (w.heap.size + 1) 0 rfl L _ HRa.out Tryd.underlying89 rfl HI.out ?_)
              | (with_reducible refine wpList_store_mid rfl 89 _ _ rfl w.heap.size 0 L.toArray rfl rfl HTh.out HI'.out HO.out ?_))
            refine bodyPost_ret (v := .agg L.toArray) ?_ rfl ⟨rfl, below_row HBel.out L (Nat.le_refl _)⟩
            exact results_mid Tryd.results53 _ _ w.heap.size 0 L _ rfl (World.rangeAt_setCells_same _ _ _ _ (by have z := HTh.out; rwa [List.size_toArray] at z)) Tryd.underlying89 rfl HI.out
end Go.Proofs.YtheccbnejamhlaaDoor
