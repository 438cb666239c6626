/-
  end: the padding, the number of bits, the last block, and the words as bytes.
-/
import Derived.Test.YtheccbnejamhlaaDoorShaAddWalk
namespace Go.Proofs.YtheccbnejamhlaaDoor
open Go.RowKit

namespace Sha
def St.get (s : St) : Nat → Nat
  | 0 => s.a | 1 => s.b | 2 => s.c | 3 => s.d | 4 => s.e | 5 => s.f | 6 => s.g | _ => s.z
/-- byte j of a sum's 32 -/
def dg (s : St) (j : Nat) : Nat := s.get (j / 4) / 2 ^ (24 - 8 * (j % 4)) % 256
/-- the number of bits as eight bytes -/
def bitsOf (n : Nat) : List UInt8 := (List.range 8).map fun i => UInt8.ofNat (n / 2 ^ (56 - 8 * i) % 256)
def pads (K : Nat → Nat) (x : Tx) : Tx := feeds K x (List.replicate ((120 - x.used) % 64) 0)
def fin (K : Nat → Nat) (x : Tx) (bits : Nat) : St := comp K x.s (put x.blk 56 (bitsOf bits))
theorem pads_step (K : Nat → Nat) (x : Tx) (h : x.used < 64) (hn : x.used ≠ 56) : pads K (feed K x 0) = pads K x := by
  unfold pads
  have hu : (feed K x 0).used = if x.used + 1 = 64 then 0 else x.used + 1 := by
    unfold feed
    split <;> rfl
  have e : (120 - x.used) % 64 = (120 - (feed K x 0).used) % 64 + 1 := by
    rw [hu]
    split <;> omega
  rw [e, List.replicate_succ]
  rfl
theorem pads_done (K : Nat → Nat) (x : Tx) (h : x.used = 56) : pads K x = x := by
  unfold pads
  rw [h]
  rfl
theorem get_lt {s : St} (h : s.ok) (k : Nat) : s.get k < 4294967296 := by
  obtain ⟨ha, hb, hc, hd, he, hf, hg, hz⟩ := h
  unfold St.get
  split <;> assumption
end Sha

def usedOf (b : Nat) (w : World) : Nat :=
  match w.cell? ⟨b, 72, none⟩ with
  | some (.int _ u) => (120 - u.toNat) % 64
  | _ => 0
def lit32 : Array Value := #[.int .u8 0, .int .u8 0, .int .u8 0, .int .u8 0, .int .u8 0, .int .u8 0, .int .u8 0, .int .u8 0, .int .u8 0, .int .u8 0, .int .u8 0, .int .u8 0, .int .u8 0, .int .u8 0, .int .u8 0, .int .u8 0, .int .u8 0, .int .u8 0, .int .u8 0, .int .u8 0, .int .u8 0, .int .u8 0, .int .u8 0, .int .u8 0, .int .u8 0, .int .u8 0, .int .u8 0, .int .u8 0, .int .u8 0, .int .u8 0, .int .u8 0, .int .u8 0]
theorem lit32_at (j : Nat) (h : j < 32) : lit32[j]? = some (.int .u8 0) := by
  have e : lit32 = Array.replicate 32 (.int .u8 0) := by kernel_rfl
  rw [e]
  simp [h]
/-- where end stands: the result's block and the text -/
structure EndAt (b R : Nat) (K : Nat → Nat) (x : Sha.Tx) (size : Nat) (w wx : World) : Prop where
  text : TextIs b x.s x.blk x.used size wx
  table : Table K wx
  res : Cells R 32 (fun _ => .int .u8 0) wx
  only : Only b w wx

theorem end_add {b R : Nat} {K : Nat → Nat} {x y : Sha.Tx} {size size' : Nat} {w wx wy : World} (h : EndAt b R K x size w wx) (k : AddAt b K y size' wx wy) (hR : R ≠ b) : EndAt b R K y size' w wy :=
  ⟨k.text, k.table, k.only.cells h.res hR, h.only.trans k.only⟩
theorem usedOf_eq {b : Nat} {s : Sha.St} {blk : Nat → Nat} {used size : Nat} {w : World} (h : TextIs b s blk used size w) : usedOf b w = (120 - used) % 64 := by
  have c := (h.2 72 (by decide)).1
  simp only [tv] at c
  unfold usedOf
  rw [c]
  simp
theorem used_less {b : Nat} {K : Nat → Nat} {y : Sha.Tx} {z z' : Nat} {w w' : World} (h : TextIs b y.s y.blk y.used z w) (k : TextIs b (Sha.feed K y 0).s (Sha.feed K y 0).blk (Sha.feed K y 0).used z' w') (hy : y.ok) (hn : y.used ≠ 56) : usedOf b w' < usedOf b w := by
  rw [usedOf_eq h, usedOf_eq k]
  have hu : (Sha.feed K y 0).used = if y.used + 1 = 64 then 0 else y.used + 1 := by
    unfold Sha.feed
    split <;> rfl
  have := hy.used
  rw [hu]
  split <;> omega

theorem put_none (blk : Nat → Nat) (i : Nat) (l : List UInt8) : Sha.put blk i (l.take 0) = blk := by
  funext j
  unfold Sha.put
  rw [if_neg (by simp)]

theorem Table.drew {K : Nat → Nat} {w : World} (h : Table K w) : Table K w.drew := h
theorem put_snoc (blk : Nat → Nat) (i k : Nat) (l : List UInt8) (hk : k < l.length) : Sha.put blk i (l.take (k + 1)) = Sha.upd (Sha.put blk i (l.take k)) (i + k) (l.getD k 0).toNat := by
  funext j
  unfold Sha.put Sha.upd
  have l1 : (l.take (k + 1)).length = k + 1 := by simp; omega
  have l2 : (l.take k).length = k := by simp; omega
  rw [l1, l2]
  by_cases e : j = i + k
  · subst e
    rw [if_pos (by omega), if_pos rfl, Nat.add_sub_cancel_left, List.getD_eq_getElem?_getD, List.getElem?_take_of_lt (by omega), ← List.getD_eq_getElem?_getD]
  · rw [if_neg e]
    show _ = (if i ≤ j ∧ j < i + k then ((List.take k l).getD (j - i) 0).toNat else blk j)
    by_cases h : i ≤ j ∧ j < i + k
    · rw [if_pos (by omega), if_pos h, List.getD_eq_getElem?_getD, List.getElem?_take_of_lt (by omega), List.getD_eq_getElem?_getD, List.getElem?_take_of_lt (by omega)]
    · rw [if_neg (by omega), if_neg h]
theorem bits_at (C k : Nat) (hk : k < 8) : ((Sha.bitsOf C).getD k 0).toNat = C / 2 ^ (56 - 8 * k) % 256 := by
  unfold Sha.bitsOf
  rw [List.getD_eq_getElem?_getD, List.getElem?_map, List.getElem?_range hk]
  show (UInt8.ofNat _).toNat = _
  rw [UInt8.toNat_ofNat']
  exact Nat.mod_mod _ _
theorem text_upd {b : Nat} {s : Sha.St} {blk : Nat → Nat} {used size : Nat} {w : World} (h : TextIs b s blk used size w) (i c : Nat) (hi : i < 64) : TextIs b s (Sha.upd blk i c) used size (w.setCell ⟨b, 8 + i, none⟩ (.int .u8 c)) := by
  refine h.set (8 + i) _ (by omega) ?_ fun j hj hne => ?_
  · rw [tv_blk _ _ _ _ _ hi]
    unfold Sha.upd
    rw [if_pos rfl]
  · by_cases h8 : 8 ≤ j ∧ j < 72
    · rw [tv_at _ _ _ _ _ h8.1 h8.2, tv_at _ _ _ _ _ h8.1 h8.2]
      unfold Sha.upd
      rw [if_neg (by omega)]
    · exact tv_out _ _ _ _ _ _ (by omega) hj
theorem end_bit {b R : Nat} {K : Nat → Nat} {s : Sha.St} {blk : Nat → Nat} {u z C k ix sh : Nat} {w wx : World} (h : EndAt b R K ⟨s, Sha.put blk 56 ((Sha.bitsOf C).take k), u⟩ z w wx) (hk : k < 8) (hix : 56 + k = ix) (hsh : 56 - 8 * k = sh) (hb : 1 < b) (hR : R ≠ b) :
    EndAt b R K ⟨s, Sha.put blk 56 ((Sha.bitsOf C).take (k + 1)), u⟩ z w (wx.setCell ⟨b, 8 + ix, none⟩ (.int .u8 ((C : Int) / 2 ^ sh % 256))).drew := by
  have e : (C : Int) / 2 ^ sh % 256 = ((C / 2 ^ sh % 256 : Nat) : Int) := by simp
  subst hix hsh
  rw [e, put_snoc _ _ _ _ (by simp [Sha.bitsOf]; omega), bits_at C k hk]
  have ho : Only b wx (wx.setCell ⟨b, 8 + (56 + k), none⟩ (.int .u8 ((C / 2 ^ (56 - 8 * k) % 256 : Nat) : Int))) := (Only.refl b wx).set _ (.inl rfl)
  exact ⟨(text_upd h.text (56 + k) _ (by omega)).drew, (h.table.only ho (by omega)).drew, (h.res.far _ hR).drew, (h.only.trans ho).drew⟩
def wordsOf (s : Sha.St) : List Value := [.int .u32 s.a, .int .u32 s.b, .int .u32 s.c, .int .u32 s.d, .int .u32 s.e, .int .u32 s.f, .int .u32 s.g, .int .u32 s.z]
theorem text_words {b : Nat} {s : Sha.St} {blk : Nat → Nat} {used size : Nat} {w : World} (h : TextIs b s blk used size w) : w.rangeAt b 0 (wordsOf s) :=
  Cells.range h 0 _ fun j v hv => by
    have hj : j < 8 := (List.getElem?_eq_some_iff.mp hv).1
    rw [Nat.zero_add]
    refine ⟨by omega, ?_⟩
    rcases (by omega : j = 0 ∨ j = 1 ∨ j = 2 ∨ j = 3 ∨ j = 4 ∨ j = 5 ∨ j = 6 ∨ j = 7) with rfl | rfl | rfl | rfl | rfl | rfl | rfl | rfl <;> exact Option.some.inj hv
/-- the sum's bytes so far -/
def dv (s : Sha.St) (k j : Nat) : Value := if j < k then .int .u8 (Sha.dg s j : Nat) else .int .u8 0
structure EndS (R S b : Nat) (F : Sha.St) (k : Nat) (w wx : World) : Prop where
  words : wx.rangeAt b 0 (wordsOf F)
  res : Cells R 32 (fun _ => .int .u8 0) wx
  row : Cells S 32 (dv F k) wx
  only : Only b w wx
theorem end_alloc {R b : Nat} {F : Sha.St} {w wx : World} (h : Cells R 32 (fun _ => .int .u8 0) wx) (ho : Only b w wx) (hw : wx.rangeAt b 0 (wordsOf F)) : EndS R wx.heap.size b F 0 w (wx.alloc (.cells lit32 24)) :=
  ⟨World.rangeAt_alloc hw _, h.alloc _, (Cells.new wx 32 _ _ _ lit32_at).congr fun j _ => by unfold dv; rw [if_neg (by omega)], ho.alloc _⟩

theorem index_words (F : Sha.St) (k : Nat) (hk : k < 8) : ∀ w : World, (Instr.index 59 (.agg (wordsOf F).toArray) (.int .i64 k)).run Tryd.prog w = .ok (.int .u32 (F.get k)) w := by
  intro w
  rcases (by omega : k = 0 ∨ k = 1 ∨ k = 2 ∨ k = 3 ∨ k = 4 ∨ k = 5 ∨ k = 6 ∨ k = 7) with rfl | rfl | rfl | rfl | rfl | rfl | rfl | rfl <;> kernel_rfl

theorem row_mem32 {f : Nat → Value} {L : List Value} (e : (List.range 32).map f = L) (j : Nat) (v : Value) (h : L[j]? = some v) : j < 32 ∧ f j = v := by
  subst e
  rw [List.getElem?_map, Option.map_eq_some_iff] at h
  obtain ⟨x, h1, h2⟩ := h
  obtain ⟨h3, h4⟩ := List.getElem?_eq_some_iff.mp h1
  rw [List.getElem_range] at h4
  rw [h4]
  exact ⟨by simp at h3; omega, h2⟩
theorem row_range32 {b : Nat} {f : Nat → Value} {w : World} {L : List Value} (h : Cells b 32 f w) (e : (List.range 32).map f = L) : w.rangeAt b 0 L :=
  h.range 0 L fun j v hv => by
    have := row_mem32 e j v hv
    rw [Nat.zero_add]
    exact this
theorem row_one32 {F : Sha.St} {k : Nat} {L : List Value} (e : (List.range 32).map (dv F k) = L) : L.toArray.all (·.oneCell') = true :=
  all_oneCell_toArray fun v hv => by
    rw [← e, List.mem_map] at hv
    obtain ⟨x, _, rfl⟩ := hv
    unfold dv
    split <;> rfl
theorem dg_at (F : Sha.St) (m i : Nat) (hi : i < 4) : Sha.dg F (4 * m + i) = F.get m / 2 ^ (24 - 8 * i) % 256 := by
  unfold Sha.dg
  rw [show (4 * m + i) / 4 = m by omega, show (4 * m + i) % 4 = i by omega]
theorem dv_step {F : Sha.St} {S j : Nat} {w : World} (h : Cells S 32 (dv F j) w) (hj : j < 32) (v : Int) (e : v = (Sha.dg F j : Nat)) : Cells S 32 (dv F (j + 1)) (w.setCell ⟨S, j, none⟩ (.int .u8 v)) := by
  subst e
  refine h.set j _ hj ?_ fun i _ hne => ?_
  · unfold dv
    rw [if_pos (by omega)]
  · unfold dv
    by_cases hl : i < j
    · rw [if_pos hl, if_pos (by omega)]
    · rw [if_neg hl, if_neg (by omega)]
theorem end_four {R S b m V : Nat} {F : Sha.St} {w wx : World} (h : EndS R S b F (4 * m) w wx) (hm : m < 8) (hV : F.get m = V) (hl : V < 4294967296) (hS : w.heap.size ≤ S) (hR : R ≠ S) (hb : b ≠ S) :
    EndS R S b F (4 * (m + 1)) w ((((wx.setCell ⟨S, 4 * m, none⟩ (.int .u8 ((V : Int) / 16777216))).setCell ⟨S, 4 * m + 1, none⟩ (.int .u8 ((V : Int) / 65536 % 256))).setCell ⟨S, 4 * m + 2, none⟩ (.int .u8 ((V : Int) / 256 % 256))).setCell ⟨S, 4 * m + 3, none⟩ (.int .u8 ((V : Int) % 256))) := by
  subst hV
  have a0 := dv_step h.row (by omega) ((F.get m : Int) / 16777216) (by rw [show 4 * m = 4 * m + 0 from rfl, dg_at F m 0 (by decide)]; omega)
  have a1 := dv_step a0 (by omega) ((F.get m : Int) / 65536 % 256) (by rw [dg_at F m 1 (by decide)]; omega)
  have a2 := dv_step a1 (by omega) ((F.get m : Int) / 256 % 256) (by rw [show 4 * m + 1 + 1 = 4 * m + 2 from rfl, dg_at F m 2 (by decide)]; omega)
  have a3 := dv_step a2 (by omega) ((F.get m : Int) % 256) (by rw [show 4 * m + 1 + 1 + 1 = 4 * m + 3 from rfl, dg_at F m 3 (by decide)]; omega)
  refine ⟨?_, (((h.res.far _ hR).far _ hR).far _ hR).far _ hR, by rw [show 4 * (m + 1) = 4 * m + 1 + 1 + 1 + 1 by omega]; exact a3, (((h.only.set _ (.inr hS)).set _ (.inr hS)).set _ (.inr hS)).set _ (.inr hS)⟩
  intro j v hv
  have := h.words j v hv
  have hne : ∀ k : Nat, (⟨S, k, none⟩ : Addr) ≠ ⟨b, 0 + j, none⟩ := fun k q => by injection q with q1; exact hb q1.symm
  rw [World.cell?_setCell_other (h := hne _), World.cell?_setCell_other (h := hne _), World.cell?_setCell_other (h := hne _), World.cell?_setCell_other (h := hne _)]
  exact this

set_option maxRecDepth 100000 in
set_option maxHeartbeats 2000000 in
theorem end_any (b : Nat) (K : Nat → Nat) (x : Sha.Tx) (size : Nat) (w : World) (hx : x.ok) (hK : ∀ i, K i < 4294967296) (hb1 : 1 < b) (h : TextIs b x.s x.blk x.used size w) (hT : Table K w) :
    Calls Tryd.prog 30 #[.pointer (some ⟨b, 0, none⟩)] w fun r w' => r = .returned (.agg ((List.range 32).map fun j => Value.int .u8 (Sha.dg (Sha.fin K (Sha.pads K (Sha.feed K x 128)) (size * 8 % M64)) j : Nat)).toArray) ∧ Only b w w' := by
  have HT := Lib.hid h
  have HX := Lib.hid hx
  have HK := Lib.hid hK
  have HTb := Lib.hid hT
  have hbs : b < w.heap.size := h.1
  clear h hx hK hT
  obtain ⟨L, hL⟩ : ∃ L, ((List.range 32).map fun j => Value.int .u8 (Sha.dg (Sha.fin K (Sha.pads K (Sha.feed K x 128)) (size * 8 % M64)) j : Nat)) = L := ⟨_, rfl⟩
  rw [hL]
  have HL := Lib.hid hL
  clear hL
  go_enter Tryd.func30, Tryd.ntmps30
  go_upto_region 0 with fail
  go_cut [2] (fun p wx => p = .pointer (some ⟨w.heap.size, 0, none⟩) ∧ EndAt b w.heap.size K x size w wx)
  case first =>
    go_wp2_with fail
    go_meet
    exact ⟨rfl, HT.out.alloc _, HTb.out.only ((Only.refl b w).alloc _) (by omega), Cells.new w 32 _ _ _ lit32_at, (Only.refl b w).alloc _⟩
  case rest =>
    obtain ⟨rfl, hE⟩ := hcut
    have c73 := hE.text.2 73 (by decide)
    simp only [tv] at c73
    obtain ⟨c73, f73⟩ := c73
    have HE := Lib.hid hE
    clear hE f73
    obtain ⟨C, hC⟩ : ∃ C, size * 8 % M64 = C := ⟨_, rfl⟩
    have hq : IntKind.u64.wrap ((size : Int) * 8) = (C : Int) := by rw [IntKind.wrap_u64, ← hC]; unfold M64; omega
    have HC := Lib.hid hC
    clear hC
    go_wp2_with fail
    refine (add_any b K x size ⟨#[128]⟩ _ HX.out HK.out hb1 HE.out.text HE.out.table (by decide)).mono ?_
    rintro e w1 ⟨rfl, hA1⟩
    have HE1 := Lib.hid (end_add HE.out hA1 (by omega))
    clear hA1 HE hq c73
    go_wp2_with fail
    go_loopw [15] (fun _ wr => ∃ (y : Sha.Tx) (z : Nat), y.ok ∧ Hid (Sha.pads K y = Sha.pads K (Sha.feed K x 128)) ∧ EndAt b w.heap.size K y z w wr) (fun _ wr => usedOf b wr)
    case atStart => exact ⟨_, _, Sha.feed_ok HX.out _, Lib.hid rfl, HE1.out⟩
    case round =>
      clear HE1
      obtain ⟨y, z, hy, HP, hE⟩ := hrel
      have c72 := hE.text.2 72 (by decide)
      simp only [tv] at c72
      obtain ⟨c72, f72⟩ := c72
      have HE := Lib.hid hE
      have HY := Lib.hid hy
      have hu := hy.used
      obtain ⟨U, hU⟩ : ∃ U, y.used = U := ⟨_, rfl⟩
      rw [hU] at c72 hu
      have HU := Lib.hid hU
      clear hE hy f72 hU
      by_cases h56 : U = 56
      · have q : ((U : Int) != 56) = false := by simp; omega
        have HPd : Hid (Sha.pads K (Sha.feed K x 128) = y) := Lib.hid (by rw [← HP.out]; exact Sha.pads_done K y (by rw [HU.out]; exact h56))
        have H56 := Lib.hid h56
        clear h56 HP
        go_wp2_with fail
        clear c72
        go_loopw [22] (fun i wx => ∃ k : Nat, k ≤ 8 ∧ i = .int .i64 k ∧ EndAt b w.heap.size K ⟨y.s, Sha.put y.blk 56 ((Sha.bitsOf C).take k), y.used⟩ z w wx) (fun i _ => 8 - (intOf i).toNat)
        case atStart => exact ⟨0, by omega, rfl, by rw [put_none]; exact HE.out⟩
        case round =>
          clear HE
          obtain ⟨k, hk, rfl, hE⟩ := hrel
          have HE := Lib.hid hE
          by_cases hlt : k < 8
          · obtain ⟨ix, hix⟩ : ∃ i, 56 + k = i := ⟨_, rfl⟩
            obtain ⟨e8, he8⟩ : ∃ i, 8 * k = i := ⟨_, rfl⟩
            obtain ⟨sh, hsh⟩ : ∃ i, 56 - 8 * k = i := ⟨_, rfl⟩
            have v1 : IntKind.i64.wrap (56 + (k : Int)) = (ix : Int) := by rw [IntWalk.i64_in _ (by omega)]; omega
            have v2 : IntKind.i64.wrap (8 * (k : Int)) = (e8 : Int) := by rw [IntWalk.i64_in _ (by omega)]; omega
            have v3 : IntKind.i64.wrap (56 - (e8 : Int)) = (sh : Int) := by rw [IntWalk.i64_in _ (by omega)]; omega
            have i1 : (ix : Int) < 64 := by omega
            have i2 : (sh : Int) ≤ 64 := by omega
            have i3 : (0 : Int) ≤ (sh : Int) := by omega
            have cb := hE.text.2 (8 + ix) (by omega)
            obtain ⟨old, hold⟩ : ∃ v, tv y.s (Sha.put y.blk 56 ((Sha.bitsOf C).take k)) y.used z (8 + ix) = v := ⟨_, rfl⟩
            simp only at cb
            rw [hold] at cb
            obtain ⟨cb, fb⟩ := cb
            have HI := Lib.hid hix
            have HSh := Lib.hid hsh
            clear hix he8 hsh hold hE
            go_wp2_with fail
            go_region
            go_wp2
            go_roundw
            case rel => exact ⟨k + 1, by omega, by go_num, end_bit HE.out hlt HI.out HSh.out hb1 (by omega)⟩
            case measure => simp [intOf]; omega
          · obtain ⟨B3, hB3⟩ : ∃ B, Sha.put y.blk 56 (Sha.bitsOf C) = B := ⟨_, rfl⟩
            have hE3 : EndAt b w.heap.size K ⟨y.s, B3, y.used⟩ z w wr := by
              have e8 : k = 8 := by omega
              rw [e8, show (Sha.bitsOf C).take 8 = Sha.bitsOf C from List.take_of_length_le (by simp [Sha.bitsOf]), hB3] at hE
              exact hE
            have hb3 : ∀ i, B3 i < 256 := fun i => by rw [← hB3]; exact put_lt HY.out.blk _ _ i
            have HB3 := Lib.hid hB3
            have Hb3 := Lib.hid hb3
            have HE3 := Lib.hid hE3
            clear hB3 hb3 hE3 hE HE
            go_wp2_with fail
            refine (mix_any b y.s B3 y.used z K _ Hb3.out HY.out.s HK.out hb1 HE3.out.text HE3.out.table).mono ?_
            rintro e w5 ⟨rfl, hT5, hO5⟩
            obtain ⟨F, hF⟩ : ∃ F, Sha.plus y.s (Sha.rnds K (fun i => (Sha.ws B3 48).getD i 0) y.s 64) = F := ⟨_, rfl⟩
            rw [hF] at hT5
            have HFin : Hid (Sha.fin K (Sha.pads K (Sha.feed K x 128)) (size * 8 % M64) = F) := Lib.hid (by
              rw [HPd.out, HC.out]
              unfold Sha.fin
              rw [HB3.out]
              exact hF)
            have hFok : F.ok := by rw [← hF]; exact Sha.plus_ok _ _
            have HFo := Lib.hid hFok
            have HR5 := Lib.hid (hO5.cells HE3.out.res (by omega))
            have HO5 := Lib.hid (HE3.out.only.trans hO5)
            have HWo := Lib.hid (text_words hT5)
            have hs5 : w.heap.size < w5.heap.size := HR5.out.1
            clear hF hFok hO5 hT5
            go_upto_region 11 with fail
            go_cut [5] (fun p wx => p = .pointer (some ⟨w5.heap.size, 0, none⟩) ∧ EndS w.heap.size w5.heap.size b F 0 w wx)
            case first =>
              go_wp2_with fail
              go_meet
              exact ⟨rfl, end_alloc HR5.out HO5.out HWo.out⟩
            case rest =>
              obtain ⟨rfl, hS⟩ := hcut
              have HS := Lib.hid hS
              clear hS
              have HI37 : Hid ((Tryd.prog.info? 59).map (·.size) = some (wordsOf F).length) := Lib.hid (by kernel_rfl)
              go_wp2_with ((with_reducible refine wpList_load_mid rfl 59 _ rfl b 0 rfl (wordsOf F) _ HS.out.words Tryd.underlying59 rfl HI37.out ?_))
              go_loopw [44] (fun i wx => ∃ m : Nat, m ≤ 8 ∧ i = .int .i64 m ∧ EndS w.heap.size w5.heap.size b F (4 * m) w wx) (fun i _ => 8 - (intOf i).toNat)
              case atStart => exact ⟨0, by omega, rfl, HS.out⟩
              case round =>
                clear HS
                obtain ⟨m, hm, rfl, hS⟩ := hrel
                have HS := Lib.hid hS
                by_cases hlt8 : m < 8
                · have hidx := index_words F m hlt8
                  have hV := Sha.get_lt HFo.out m
                  have d0 := hS.row.2 (4 * m) (by omega)
                  have d1 := hS.row.2 (4 * m + 1) (by omega)
                  have d2 := hS.row.2 (4 * m + 2) (by omega)
                  have d3 := hS.row.2 (4 * m + 3) (by omega)
                  obtain ⟨d0, f0⟩ := d0
                  obtain ⟨d1, f1⟩ := d1
                  obtain ⟨d2, f2⟩ := d2
                  obtain ⟨d3, f3⟩ := d3
                  generalize dv F (4 * m) (4 * m) = o0 at d0
                  generalize dv F (4 * m) (4 * m + 1) = o1 at d1
                  generalize dv F (4 * m) (4 * m + 2) = o2 at d2
                  generalize dv F (4 * m) (4 * m + 3) = o3 at d3
                  have j0 : (4 : Int) * (m : Int) < 32 := by omega
                  have j1 : (4 : Int) * (m : Int) + 1 < 32 := by omega
                  have j2 : (4 : Int) * (m : Int) + 2 < 32 := by omega
                  have j3 : (4 : Int) * (m : Int) + 3 < 32 := by omega
                  obtain ⟨V, hVe⟩ : ∃ V, F.get m = V := ⟨_, rfl⟩
                  rw [hVe] at hidx hV
                  have HV := Lib.hid hVe
                  clear hS hVe
                  go_wp2_with fail
                  go_roundw
                  case rel => exact ⟨m + 1, by omega, by go_num, end_four HS.out hlt8 HV.out hV (by omega) (by omega) (by omega)⟩
                  case measure => simp [intOf]; omega
                · have e32 : 4 * m = 32 := by omega
                  have z := HS.out.row
                  rw [e32] at z
                  have zL : (List.range 32).map (dv F 32) = L := by
                    rw [← HL.out, HFin.out]
                    refine List.map_congr_left fun j hj => ?_
                    unfold dv
                    rw [if_pos (by simpa using hj)]
                  have hlen : L.length = 32 := by rw [← zL]; simp
                  have HRa := Lib.hid (row_range32 z zL)
                  have HTh : Hid (wr.there w.heap.size 0 L.toArray.size) := Lib.hid (HS.out.res.there 0 _ (by simp [hlen]))
                  have HO : Hid (L.toArray.all (·.oneCell') = true) := Lib.hid (row_one32 zL)
                  have HI2 : Hid ((Tryd.prog.info? 24).map (·.size) = some L.length) := Lib.hid (by rw [hlen]; kernel_rfl)
                  have HI3 : Hid ((Tryd.prog.info? 24).map (·.size) = some L.toArray.size) := Lib.hid (by rw [List.size_toArray, hlen]; kernel_rfl)
                  clear z zL hlen hS e32
                  go_wp2_with (first
                    | (with_reducible refine wpList_load_mid rfl 24 _ rfl w5.heap.size 0 rfl L _ HRa.out Tryd.underlying24 rfl HI2.out ?_)
                    | (with_reducible refine wpList_store_mid rfl 24 _ _ rfl w.heap.size 0 L.toArray rfl rfl HTh.out HI3.out HO.out ?_))
                  refine bodyPost_ret (v := .agg L.toArray) ?_ rfl ⟨rfl, HS.out.only.row L (.inr (Nat.le_refl _))⟩
                  exact results_mid Tryd.results30 _ _ w.heap.size 0 L _ rfl (World.rangeAt_setCells_same _ _ _ _ (by have z := HTh.out; rwa [List.size_toArray] at z)) Tryd.underlying24 rfl HI2.out
      · have q : ((U : Int) != 56) = true := by simp; omega
        go_wp2_with fail
        refine (add_any b K y z ⟨#[0]⟩ _ HY.out HK.out hb1 HE.out.text HE.out.table (by decide)).mono ?_
        rintro e w2 ⟨rfl, hA2⟩
        have HE2 := Lib.hid (end_add HE.out hA2 (by omega))
        have HM := Lib.hid (used_less HE.out.text HE2.out.text HY.out (by rw [HU.out]; exact h56))
        clear hA2
        go_wp2
        go_roundw
        case rel => exact ⟨_, _, Sha.feed_ok HY.out _, Lib.hid (by rw [← HP.out]; exact Sha.pads_step K y HY.out.used (by rw [HU.out]; exact h56)), HE2.out⟩
        case measure => exact HM.out
end Go.Proofs.YtheccbnejamhlaaDoor
