/-
  Texts put together: NodeStrs, NodeRef, NodeDigest.
-/
import Derived.Test.YtheccbnejamhlaaDoorNodeDig
import Derived.Deep.AppendLies
import Derived.Laws.OwnMore
import Derived.OwnWalk
import Derived.BigRegion
import Derived.Test.YtheccbnejamhlaaDoorNodeSlots
import Derived.Deep.Upon
/-
  Rows of texts that grow, in the seat of node: append of texts, and where the new row lies.
-/
namespace Go.Proofs.YtheccbnejamhlaaDoor
open Go.RowKit

def textsOf (l : List ByteArray) : List Value := l.map fun s => Value.string s
theorem infoStr : (Tryd.prog.info? 9).map (fun i => (i.zero, i.size, i.bytes)) = some (some (.string ⟨#[]⟩), 1, 16) := by kernel_rfl
/-- what an append of texts leaves: the row, what else has turned, where it lies -/
structure MoreStrs (w : World) (B : Nat) (v : Value) (l k : List ByteArray) (g cap : Nat) (w' : World) : Prop where
  own : w'.ownsRow B 9 1 (.slice (some ⟨g, 0, none⟩) (l.length + k.length) cap) (l.length + k.length) (textsOf (l ++ k))
  grown : w.grownBy w' v.ownBlock
  lies : v.ownBlock = some g ∨ g = w.heap.size
  lt : g < w'.heap.size
theorem wpList_more_strs {w : World} {ops : Array Oper} {rest : List Oper} {o : Oper} {a : Act} {Q : Exit → Act → World → Prop} (hgd : o.guard = none) (s x : Operand)
    (ho : o.op = .call { callee := .builtin .append, args := #[s, x], argTypes := #[49, 49] })
    (B : Nat) (v : Value) (l k : List ByteArray) (hs : a.eval s = v) (n : Nat) (hn : l.length = n) (hown : w.ownsRow B 9 1 v n (textsOf l)) (b m c : Nat) (hx : a.eval x = .slice (some ⟨b, 0, none⟩) m c) (hm : k.length = m)
    (hk : ∀ i (h : i < k.length), w.cell? ⟨b, i, none⟩ = some (.string k[i])) (h0 : 0 < m) (hl : n + m < 1000000) (hB : B ≤ w.heap.size)
    (h : ∀ g cap w', MoreStrs w B v l k g cap w' → wpList Tryd.prog ops Q rest (a.put o.dst (.slice (some ⟨g, 0, none⟩) (n + m) cap)) w') : wpList Tryd.prog ops Q (o :: rest) a w := by
  subst hn hm
  obtain ⟨i0, hi, hz0, hz1, hz2⟩ := info_parts infoStr
  refine wpList_append_lies w hgd s x 49 ho B 9 i0 (.string ⟨#[]⟩) 1 16 Tryd.underlying49 hi hz0 hz1 hz2 rfl (by decide) v _ _ hs hown ⟨b, 0, none⟩ k.length c (textsOf k) hx (by simp [textsOf]) (fun j u hu => ?_) (fun u hu => ?_) h0 (by unfold maxLen; omega) (by omega) hB _ rfl fun g cap w' h1 h2 h3 h4 => h g cap w' ⟨?_, h2, h3, h4⟩
  · unfold textsOf at hu
    rw [List.getElem?_map] at hu
    by_cases hj : j < k.length
    · rw [List.getElem?_eq_getElem hj] at hu
      rw [Addr.add_lit]
      have := hk j hj
      simp only [Option.map_some, Option.some.injEq] at hu
      rw [← hu]
      simpa using this
    · rw [List.getElem?_eq_none (by omega)] at hu
      simp at hu
  · unfold textsOf at hu
    obtain ⟨t, _, rfl⟩ := List.mem_map.1 hu
    rfl
  · have e : textsOf (l ++ k) = textsOf l ++ textsOf k := by simp [textsOf]
    rw [e]
    exact h1
theorem one_str (w : World) (t : ByteArray) : ∀ i (h : i < [t].length), (w.alloc (.cells #[.string t] 9)).cell? ⟨w.heap.size, i, none⟩ = some (.string [t][i]) := fun i h => by
  have : i = 0 := by simpa using h
  subst this
  exact boxNew rfl
theorem MoreStrs.below {w W w' : World} {B C : Nat} {v : Value} {l k : List ByteArray} {g cap n : Nat} {xs : List Value} (h : MoreStrs w B v l k g cap w') (hb : Below C W w) (ho : w.ownsRow B 9 1 v n xs) (hC : C ≤ B) (hs : C ≤ w.heap.size) : Below C W w' :=
  hb.grown h.grown hs (fun q hq => Nat.le_trans hC (ho.lt q hq).1)
theorem own_none (w : World) : (w.alloc (.cells #[] 9)).ownsRow w.heap.size 9 1 (.slice (some ⟨w.heap.size, 0, none⟩) 0 0) 0 (textsOf []) := World.ownsRow_lit (base := w.heap.size) (e := 9) (size := 1) w #[] 0 (Nat.le_refl _) (by decide) rfl
end Go.Proofs.YtheccbnejamhlaaDoor

/-
  The document's own digest of a node: for any sums.
-/
namespace Go.Proofs.YtheccbnejamhlaaDoor
open Go.RowKit

/-- are the first sums noughts? -/
def noneK (f : Nat → Nat) : Nat → Bool
  | 0 => true
  | k + 1 => noneK f k && all2 (fun j => f (k * 32 + j)) (fun _ => 0) 32
theorem noneK_all (f : Nat → Nat) : noneK f 8 = all8 f fun _ => 0 := by
  rw [Bool.eq_iff_iff, all8_iff]
  have h : ∀ k, noneK f k = true ↔ ∀ j, j < 32 * k → f j = 0 := fun k => by
    induction k with
    | zero => exact ⟨fun _ j hj => absurd hj (by omega), fun _ => rfl⟩
    | succ k ih =>
      show (noneK f k && all2 (fun j => f (k * 32 + j)) (fun _ => 0) 32) = true ↔ _
      rw [Bool.and_eq_true, ih, all2_iff]
      constructor
      · rintro ⟨a, b⟩ j hj
        by_cases hc : j < 32 * k
        · exact a j hc
        · have := b (j - k * 32) (by omega)
          rwa [show k * 32 + (j - k * 32) = j by omega] at this
      · intro a
        exact ⟨fun j hj => a j (by omega), fun j hj => a _ (by omega)⟩
  exact h 8
def zero32 : ByteArray := ⟨#[0, 0, 0, 0, 0, 0, 0, 0, 0, 0, 0, 0, 0, 0, 0, 0, 0, 0, 0, 0, 0, 0, 0, 0, 0, 0, 0, 0, 0, 0, 0, 0]⟩
theorem txt_zero (g : Nat → Nat) (hg : ∀ j, g j < 256) : ((⟨(txt g).toArray⟩ : ByteArray).toList == zero32.toList) = all2 g (fun _ => 0) 32 := by
  rw [ByteArray.toList_eq, ByteArray.toList_eq]
  have e : zero32.data.toList = txt fun _ => 0 := by decide
  rw [e]
  show (txt g == txt fun _ => 0) = _
  rw [Bool.eq_iff_iff, beq_iff_eq, all2_iff]
  constructor
  · intro h j hj
    have h1 := congrArg (fun l => (l.getD j 0).toNat) h
    unfold txt at h1
    simp only [List.getD_eq_getElem?_getD, List.getElem?_map, List.getElem?_range hj, Option.map_some, Option.getD_some, UInt8.toNat_ofNat'] at h1
    have := hg j
    omega
  · intro h
    unfold txt
    exact List.map_congr_left fun j hj => by rw [h j (by simpa using hj)]
/-- a node's digest, as a text -/
def digStr (l : Nat) (f : Nat → Nat) : ByteArray := if all8 f (fun _ => 0) then zero32 else ⟨(sumB (shaOf (digText l f))).toArray⟩
/-- eight texts in a row -/
def Told (b : Nat) (f : Nat → Nat) (w : World) : Prop := ∀ i, i < 8 → w.cell? ⟨b, i, none⟩ = some (.string ⟨(txt fun j => f (i * 32 + j)).toArray⟩)
theorem Told.below {b : Nat} {f : Nat → Nat} {w w' : World} (h : Told b f w) (k : Below w.heap.size w w') : Told b f w' := fun i hi => by rw [k.cell (cell_lt (h i hi))]; exact h i hi
theorem enc1 (l : Nat) : enc l 1 = [UInt8.ofNat l] := by simp [enc]
/-- the text on its way -/
def digP (l : Nat) (f : Nat → Nat) (k : Nat) : ByteArray := ⟨([78] ++ enc l 1 ++ texts8 f k).toArray⟩
theorem digP_size (l : Nat) (f : Nat → Nat) (k : Nat) : (digP l f k).size = 2 + 32 * k := by
  show ([78] ++ enc l 1 ++ texts8 f k).length = _
  exact digText_len l f k
theorem digP_next (l : Nat) (f : Nat → Nat) (k : Nat) : digP l f k ++ ⟨(txt fun j => f (k * 32 + j)).toArray⟩ = digP l f (k + 1) := by
  apply ByteArray.ext
  apply Array.toList_inj.mp
  rw [ByteArray.data_append, Array.toList_append]
  show [78] ++ enc l 1 ++ texts8 f k ++ (txt fun j => f (k * 32 + j)) = [78] ++ enc l 1 ++ (texts8 f k ++ txt fun j => f (k * 32 + j))
  rw [List.append_assoc]
set_option maxRecDepth 100000 in
set_option maxHeartbeats 4000000 in
theorem refDig_any (f : Nat → Nat) (hf : ∀ j, f j < 256) (l : Nat) (hl : l < 256) (b cap : Nat) (w : World) (ht : Told b f w) :
    Calls Tryd.prog 26 #[.int .i64 (l : Int), .slice (some ⟨b, 0, none⟩) 8 cap] w fun e w' => e = .returned (.string (digStr l f)) ∧ Below w.heap.size w w' := by
  have hq1 : (l : Int) % 256 = (l : Int) := by omega
  have q2 : IntKind.u8.wrap (l : Int) = (((UInt8.ofNat l).toNat : Nat) : Int) := by
    rw [UInt8.toNat_ofNat', Nat.mod_eq_of_lt hl]
    simp only [IntKind.wrap, IntKind.bits, IntKind.signed]
    simp
    omega
  have hc := one_byte w (UInt8.ofNat l)
  have ha : ∀ wx : World, (Op.stringOp .add ⟨#[78]⟩ ⟨#[UInt8.ofNat l]⟩).run Tryd.prog wx = .ok (.string (digP l f 0)) wx := fun wx => by
    rw [run_string_add_sum wx _ _ (by show (1 : Nat) + 1 ≤ _; decide)]
    unfold digP
    rw [enc1]
    rfl
  have HB : Hid (Below w.heap.size w (w.alloc (.cells #[.int .u8 (((UInt8.ofNat l).toNat : Nat) : Int)] 5))) := Lib.hid ((Below.refl _ _).alloc (Nat.le_refl _) _)
  have HT := Lib.hid (ht.below HB.out)
  have HTx : Hid (∀ k, ((⟨(txt fun j => f (k * 32 + j)).toArray⟩ : ByteArray).toList == zero32.toList) = all2 (fun j => f (k * 32 + j)) (fun _ => 0) 32) := Lib.hid fun k => txt_zero _ fun j => hf _
  have HTz : Hid (∀ k, (⟨(txt fun j => f (k * 32 + j)).toArray⟩ : ByteArray).size = 32) := Lib.hid fun k => txt_len _
  have HN := Lib.hid (digP_next l f)
  have HS := Lib.hid (digP_size l f)
  have HNs : Hid (∀ k, noneK f (k + 1) = (noneK f k && all2 (fun j => f (k * 32 + j)) (fun _ => 0) 32)) := Lib.hid fun _ => rfl
  have HN0 : Hid (noneK f 0 = true) := Lib.hid rfl
  have HNl : Hid (digStr l f = if noneK f 8 then zero32 else ⟨(sumB (shaOf (digP l f 8).data.toList)).toArray⟩) := Lib.hid (by rw [noneK_all]; rfl)
  generalize UInt8.ofNat l = ul at *
  clear ht hf hl
  go_enter Tryd.func26, Tryd.ntmps26
  go_upto_region 3 with fail
  generalize w.alloc (.cells #[.int .u8 ((ul.toNat : Nat) : Int)] 5) = W at *
  clear hc ha q2 hq1
  obtain ⟨Z, hZ⟩ : ∃ Z : ByteArray, zero32 = Z := ⟨_, rfl⟩
  rw [show (⟨#[0, 0, 0, 0, 0, 0, 0, 0, 0, 0, 0, 0, 0, 0, 0, 0, 0, 0, 0, 0, 0, 0, 0, 0, 0, 0, 0, 0, 0, 0, 0, 0]⟩ : ByteArray) = Z from hZ]
  rw [hZ] at HTx HNl
  clear hZ
  go_upto_region 4 with fail
  go_wp2_with fail
  go_loop [6, 7, 18] (fun s n i => ∃ k : Nat, k ≤ 8 ∧ i = .int .i64 (k : Int) ∧ s = .string (digP l f k) ∧ n = .bool (noneK f k)) (fun _ _ i => 8 - (intOf i).toNat)
  case atStart => exact ⟨0, by omega, rfl, rfl, by rw [HN0.out]⟩
  case round =>
    obtain ⟨k, hk, rfl, rfl, rfl⟩ := hrel
    by_cases hlt : k < 8
    · have i0 : (k : Int) < 8 := by omega
      have i1 : (0 : Int) ≤ (k : Int) := by omega
      have hcell := HT.out k hlt
      have hcmp := HTx.out k
      have hz := HTz.out k
      have hadd : ∀ wx : World, (Op.stringOp .add (digP l f k) ⟨(txt fun j => f (k * 32 + j)).toArray⟩).run Tryd.prog wx = .ok (.string (digP l f (k + 1))) wx := fun wx => by
        rw [run_string_add_sum wx _ _ (by rw [HS.out, hz]; omega), HN.out]
      have HNk := Lib.hid (HNs.out k)
      have HK := Lib.hid hlt
      clear hz hlt hk HT HTx HTz HN HS HNs HN0 HNl HB
      generalize (⟨(txt fun j => f (k * 32 + j)).toArray⟩ : ByteArray) = T at *
      generalize all2 (fun j => f (k * 32 + j)) (fun _ => 0) 32 = q at *
      obtain ⟨P1, hP1⟩ : ∃ P1, digP l f (k + 1) = P1 := ⟨_, rfl⟩
      rw [hP1] at hadd
      have HP1 := Lib.hid hP1
      clear hP1
      generalize digP l f k = P0 at *
      generalize noneK f k = n0 at *
      cases n0 with
      | true =>
        go_wp2_with fail
        go_round
        case rel => exact ⟨k + 1, by have := HK.out; omega, by go_num, by rw [HP1.out], by rw [HNk.out, Bool.true_and]⟩
        case measure => simp [intOf]; have := HK.out; omega
      | false =>
        go_wp2_with fail
        go_round
        case rel => exact ⟨k + 1, by have := HK.out; omega, by go_num, by rw [HP1.out], by rw [HNk.out, Bool.false_and]⟩
        case measure => simp [intOf]; have := HK.out; omega
    · have i0 : ¬ (k : Int) < 8 := by omega
      have hk8 : k = 8 := by omega
      have HRo : Hid (∀ wx : World, Calls Tryd.prog 14 #[.string (digP l f k)] wx fun e w' => e = .returned (.string ⟨(sumB (shaOf (digP l f 8).data.toList)).toArray⟩) ∧ Below wx.heap.size wx w') := Lib.hid fun wx => by
        rw [hk8]
        exact refOf_any (digP l f 8) (by rw [HS.out]; decide) wx
      have HNe : Hid (digStr l f = if noneK f k then Z else ⟨(sumB (shaOf (digP l f 8).data.toList)).toArray⟩) := Lib.hid (by rw [hk8]; exact HNl.out)
      clear hk8 hlt hk HT HTx HTz HN HS HNs HN0 HNl
      generalize (⟨(sumB (shaOf (digP l f 8).data.toList)).toArray⟩ : ByteArray) = Q at *
      generalize digP l f k = P0 at *
      generalize noneK f k = n0 at *
      cases n0 with
      | true =>
        go_wp2_with fail
        go_ret
        exact ⟨by rw [HNe.out]; rfl, HB.out⟩
      | false =>
        go_wp2_with fail
        refine (HRo.out _).mono ?_
        rintro e w2 ⟨rfl, hb2⟩
        have HB2 := Lib.hid (HB.out.trans (hb2.mono HB.out.size))
        clear hb2
        go_wp2_with fail
        go_ret
        exact ⟨by rw [HNe.out]; rfl, HB2.out⟩
end Go.Proofs.YtheccbnejamhlaaDoor

/-
  NodeDigest: for every level, all sums of kids, whichever of them count, the law answers true.
-/
namespace Go.Proofs.YtheccbnejamhlaaDoor
open Go.RowKit

theorem maskN (k : Int) (n : Nat) (hn : n < 4294967296) : ∃ p : Nat, bits .and .i64 k (n : Int) = (p : Int) ∧ p ≤ n := by
  have h : (BitVec.ofInt 64 k &&& BitVec.ofInt 64 n).toNat ≤ n := by
    rw [BitVec.toNat_and]
    refine Nat.le_trans Nat.and_le_right ?_
    rw [BitVec.toNat_ofInt]
    omega
  refine ⟨_, ?_, h⟩
  show IntKind.i64.wrap ((BitVec.ofInt 64 k &&& BitVec.ofInt 64 n).toNat : Int) = _
  rw [IntWalk.i64_in _ (by omega)]
theorem alloc_sums (w : World) : (Instr.alloc 48 true (.tuple #[])).run Tryd.prog w = .ok (.pointer (some ⟨w.heap.size, 0, none⟩)) (w.alloc (.cells sums0.toArray 48)) := by kernel_rfl
theorem alloc_arr (w : World) : (Instr.alloc 23 true (.tuple #[])).run Tryd.prog w = .ok (.pointer (some ⟨w.heap.size, 0, none⟩)) (w.alloc (.cells lit32 23)) := by kernel_rfl
/-- does that kid count? -/
def bitOf (s : Int) (k : Nat) : Bool := bits .and .i64 (s / 2 ^ k) 1 == 1
/-- the sums that count, of the first kids -/
def part8 (F : Nat → Nat) (s : Int) (k : Nat) (j : Nat) : Nat := if j < 32 * k ∧ bitOf s (j / 32) = true then F j else 0
theorem digStr_zero : zero32 = ⟨(txt fun _ => 0).toArray⟩ := by decide
theorem digText_any (f : Nat → Nat) (l : Nat) (w : World) : Calls Tryd.prog 13 #[digVal l f] w fun r w' => r = .returned (.string (digStr l f)) ∧ Below w.heap.size w w' := by
  unfold digVal digStr
  cases all8 f fun _ => 0 with
  | true =>
    have h := text_any (fun _ => 0) (fun _ => by decide) w
    rw [arr_zero, ← digStr_zero] at h
    exact h
  | false => exact sum_text (shaOf (digText l f)) w
theorem own_kept {w w' : World} {B n : Nat} {t : TypeId} {v : Value} {xs : List Value} (h : w.ownsRow B t 1 v n xs) (hk : ∀ q, v.ownBlock = some q → w'.heap[q]? = w.heap[q]?) : w'.ownsRow B t 1 v n xs := by
  refine ⟨h.1, ?_⟩
  rcases h.2 with h0 | ⟨g, cap, cur, rfl, hb, hg, rest⟩
  · exact Or.inl h0
  · exact Or.inr ⟨g, cap, cur, rfl, hb, by rw [hk g rfl]; exact hg, rest⟩
theorem own_block_lt {w : World} {B n : Nat} {t : TypeId} {v : Value} {xs : List Value} (h : w.ownsRow B t 1 v n xs) : ∀ q, v.ownBlock = some q → B ≤ q ∧ q < w.heap.size := by
  intro q hq
  rcases h.2 with ⟨rfl, _⟩ | ⟨g, cap, cur, rfl, hb, hg, _⟩
  · cases hq
  · simp [Value.ownBlock] at hq
    subst hq
    refine ⟨hb, ?_⟩
    rcases Nat.lt_or_ge g w.heap.size with h1 | h1
    · exact h1
    · rw [Array.getElem?_eq_none h1] at hg; cases hg
theorem range_block {b : Nat} {X : List Value} {w w' : World} (h : w.rangeAt b 0 X) (e : w'.heap[b]? = w.heap[b]?) : w'.rangeAt b 0 X := fun j v hv => by
  rw [World.cell?_of_block (w := w) e]
  exact h j v hv
theorem Cells.block {b n : Nat} {f : Nat → Value} {w w' : World} (h : Cells b n f w) (e : w'.heap[b]? = w.heap[b]?) (hs : w.heap.size ≤ w'.heap.size) : Cells b n f w' :=
  ⟨Nat.lt_of_lt_of_le h.1 hs, fun j hj => by
    rw [World.cell?_of_block (w := w) e, World.frozen?_of_block (w := w) e]
    exact h.2 j hj⟩
/-- the law on its way: the sums that came in, those that count, the texts told -/
structure DgW (w : World) (b : Nat) (X : List Value) (L B : Nat) (G : Nat → Nat) (v : Value) (told : List ByteArray) (wx : World) : Prop where
  src : wx.rangeAt b 0 X
  cur : Cells L 256 (fun j => .int .u8 (G j : Nat)) wx
  told : wx.ownsRow B 9 1 v told.length (textsOf told)
  at' : At w wx
  bl : b < L
  lo : w.heap.size ≤ L
  lb : L < B
  base : B ≤ wx.heap.size
theorem DgW.step {w : World} {b : Nat} {X : List Value} {L B : Nat} {G : Nat → Nat} {v : Value} {told : List ByteArray} {wx wy : World} (h : DgW w b X L B G v told wx) (k : Below wx.heap.size wx wy) : DgW w b X L B G v told wy :=
  ⟨range_below h.src (by have := h.bl; have := h.lb; have := h.base; omega) k, h.cur.below k, own_kept h.told fun q hq => k.block q (own_block_lt h.told q hq).2, h.at'.next k, h.bl, h.lo, h.lb, Nat.le_trans h.base k.size⟩
theorem DgW.put {w : World} {b : Nat} {X : List Value} {L B : Nat} {G H : Nat → Nat} {v : Value} {told : List ByteArray} {wx : World} (h : DgW w b X L B G v told wx) (hL : Laid KK SS w) (o : Nat) (y : Nat → Nat) (ho : o + 32 ≤ 256)
    (hH : ∀ j, j < 256 → H j = if o ≤ j ∧ j < o + 32 then y (j - o) else G j) : DgW w b X L B H v told (wx.setCells L o (arr y)) := by
  have hb : Below w.heap.size w (wx.setCells L o (arr y)) := below_row h.at'.below (arr y) h.lo
  have hs : wx.heap.size ≤ (wx.setCells L o (arr y)).heap.size := (below_row (Below.refl 0 wx) (c := L) (o := o) (arr y) (Nat.zero_le _)).size
  have h1 := h.bl
  have h2 := h.lb
  have h3 := h.base
  refine ⟨range_block h.src (World.heap_setCells_other wx L o _ (by omega) (by omega)), ?_, own_kept h.told fun q hq => ?_, ⟨hL.below hb, hb⟩, h.bl, h.lo, h.lb, by omega⟩
  · refine (h.cur.splice o (arr y) (by rw [arr_len]; omega)).congr fun j hj => ?_
    rw [arr_len, hH j hj]
    by_cases hc : o ≤ j ∧ j < o + 32
    · rw [if_pos hc, if_pos hc, List.getD_eq_getElem?_getD, arr_at y _ (by omega)]
      rfl
    · rw [if_neg hc, if_neg hc]
  · have := own_block_lt h.told q hq
    exact World.heap_setCells_other wx L o _ this.2 (by omega)
theorem DgW.more {w : World} {b : Nat} {X : List Value} {L B : Nat} {G : Nat → Nat} {v : Value} {told : List ByteArray} {wx wy : World} {T : ByteArray} {g cap : Nat} (h : DgW w b X L B G v told wx) (hL : Laid KK SS w)
    (m : MoreStrs wx B v told [T] g cap wy) : DgW w b X L B G (.slice (some ⟨g, 0, none⟩) (told.length + 1) cap) (told ++ [T]) wy := by
  have hb : Below w.heap.size w wy := m.below h.at'.below h.told (by have := h.lo; have := h.lb; omega) h.at'.below.size
  have h1 := h.bl
  have h2 := h.lb
  have h3 := h.base
  have hq : ∀ q, q < B → wy.heap[q]? = wx.heap[q]? := fun q hq => m.grown.block q (by omega) fun e => by
    have := (own_block_lt h.told q e.symm).1
    omega
  refine ⟨range_block h.src (hq b (by omega)), h.cur.block (hq L h2) m.grown.size, ?_, ⟨hL.below hb, hb⟩, h.bl, h.lo, h.lb, Nat.le_trans h.base m.grown.size⟩
  have := m.own
  rw [List.length_append]
  exact this
/-- the texts that are told -/
def toldL (f : Nat → Nat) (k : Nat) : List ByteArray := (List.range k).map fun i => ⟨(txt fun j => f (i * 32 + j)).toArray⟩
theorem toldL_len (f : Nat → Nat) (k : Nat) : (toldL f k).length = k := by simp [toldL]
theorem toldL_next (f : Nat → Nat) (k : Nat) : toldL f k ++ [⟨(txt fun j => f (k * 32 + j)).toArray⟩] = toldL f (k + 1) := by
  unfold toldL
  rw [List.range_succ, List.map_append]
  rfl
theorem DgW.done {w : World} {b : Nat} {X : List Value} {L B : Nat} {G : Nat → Nat} {v : Value} {f : Nat → Nat} {wx : World} (h : DgW w b X L B G v (toldL f 8) wx) : ∃ g cap, v = .slice (some ⟨g, 0, none⟩) 8 cap ∧ Told g f wx := by
  have ht := h.told
  rw [toldL_len] at ht
  rcases ht.2 with ⟨_, h0⟩ | ⟨g, cap, cur, rfl, hb, hg, _⟩
  · cases h0
  · refine ⟨g, cap, rfl, fun i hi => ?_⟩
    rw [ht.cellAt i (by omega)]
    simp [textsOf, toldL, hi]
theorem box_range0 {w : World} {L : List Value} {t : TypeId} : (w.alloc (.cells L.toArray t)).rangeAt w.heap.size 0 L := fun j v hv => by
  rw [Nat.zero_add, World.cell?_alloc_new]
  simpa using hv
set_option maxRecDepth 100000 in
set_option maxHeartbeats 4000000 in
theorem nodeDigest_walk (a0 : Int) (F : Nat → Nat) (hF : ∀ j, F j < 256) (a2 : Int) (w : World) (hL : Laid KK SS w) :
    Calls Tryd.prog 7 #[.int .i64 a0, .agg (sums F).toArray, .int .i64 a2] w fun e w' => e = .returned (.bool true) ∧ Below w.heap.size w w' := by
  have HL := Lib.hid hL
  have HI : Hid ((Tryd.prog.info? 47).map (·.size) = some (sums F).length) := Lib.hid (by rw [sums_len]; kernel_rfl)
  have HA0 : Hid (At w (w.alloc (.cells (sums F).toArray 47))) := Lib.hid ((At.start hL).alloc _)
  have HR0 : Hid ((w.alloc (.cells (sums F).toArray 47)).rangeAt w.heap.size 0 (sums F)) := Lib.hid box_range0
  have HIx := Lib.hid fun k hk wx => index_sums' F k hk wx
  obtain ⟨f, hf⟩ : ∃ f, part8 F a2 8 = f := ⟨_, rfl⟩
  have hfl : ∀ j, f j < 256 := fun j => by
    rw [← hf]
    unfold part8
    split
    · exact hF j
    · decide
  have HFl := Lib.hid hfl
  have HP0 : Hid (∀ j, part8 F a2 0 j = 0) := Lib.hid fun j => by unfold part8; rw [if_neg (by omega)]
  have HPy : Hid (∀ k, k < 8 → bitOf a2 k = true → ∀ j, j < 256 → part8 F a2 (k + 1) j = if k * 32 ≤ j ∧ j < k * 32 + 32 then (fun i => F (k * 32 + i)) (j - k * 32) else part8 F a2 k j) := Lib.hid fun k hk hb j hj => by
    unfold part8
    by_cases hc : k * 32 ≤ j ∧ j < k * 32 + 32
    · rw [if_pos hc, if_pos ⟨by omega, by rw [show j / 32 = k by omega]; exact hb⟩]
      show F j = F (k * 32 + (j - k * 32))
      rw [show k * 32 + (j - k * 32) = j by omega]
    · rw [if_neg hc]
      by_cases hd : j < 32 * k
      · simp only [hd, show j < 32 * (k + 1) by omega]
      · rw [if_neg (by omega), if_neg (by omega)]
  have HPn : Hid (∀ k, k < 8 → ¬ bitOf a2 k = true → part8 F a2 (k + 1) = part8 F a2 k) := Lib.hid fun k hk hb => funext fun j => by
    unfold part8
    by_cases hd : j < 32 * k
    · simp only [hd, show j < 32 * (k + 1) by omega]
    · rw [if_neg (c := j < 32 * k ∧ _) (by omega)]
      by_cases he : j < 32 * (k + 1)
      · rw [if_neg fun x => hb (by have := x.2; rwa [show j / 32 = k by omega] at this)]
      · rw [if_neg (by omega)]
  have HPf : Hid (∀ k, k < 8 → ∀ j, j < 32 → part8 F a2 (k + 1) (k * 32 + j) = f (k * 32 + j)) := Lib.hid fun k hk j hj => by
    rw [← hf]
    unfold part8
    simp only [show k * 32 + j < 32 * (k + 1) by omega, show k * 32 + j < 32 * 8 by omega]
  have HPl : Hid (part8 F a2 8 = f) := Lib.hid hf
  clear hL hf hfl
  generalize sums F = X at *
  go_enter Tryd.func7, Tryd.ntmps7
  go_wp2_with fail
  refine (nodeAwake _).mono ?_
  rintro e w1 ⟨rfl, hb1⟩
  have HA1 := Lib.hid (HA0.out.next hb1)
  have HR1 := Lib.hid (range_below HR0.out (by simp) hb1)
  have HD1 : Hid (DgW w w.heap.size X w1.heap.size (w1.heap.size + 1) (part8 F a2 0) (.slice (some ⟨w1.heap.size + 1, 0, none⟩) 0 0) (toldL f 0) ((w1.alloc (.cells sums0.toArray 48)).alloc (.cells #[] 9))) := Lib.hid (by
    have hz : w.heap.size < w1.heap.size := by have := hb1.size; simp at this; omega
    have hc := Cells.new w1 256 (fun j => .int .u8 (part8 F a2 0 j : Nat)) 48 sums0.toArray (fun j hj => by rw [HP0.out, ← sums_zero, List.getElem?_toArray]; exact sums_at _ j hj)
    have ho := own_none (w1.alloc (.cells sums0.toArray 48))
    rw [World.size_alloc] at ho
    exact ⟨World.rangeAt_alloc (World.rangeAt_alloc HR1.out _) _, hc.alloc _, ho, (HA1.out.alloc _).alloc _, hz, HA1.out.below.size, by omega, by simp⟩)
  clear hb1 HA0 HR0 HA1 HR1
  go_upto_region 5 with (with_reducible refine wpList_alloc rfl 48 rfl _ (alloc_sums _) ?_)
  generalize (w1.alloc (.cells sums0.toArray 48)).alloc (.cells #[] 9) = W at *
  generalize w1.heap.size + 1 = B at *
  generalize w1.heap.size = L at *
  obtain ⟨b, hbq⟩ : ∃ b, w.heap.size = b := ⟨_, rfl⟩
  have HBq := Lib.hid hbq
  rw [hbq] at HD1 ⊢
  clear hbq
  have hs2 := HD1.out.src
  go_wp2_with (with_reducible refine wpList_load_mid rfl 47 _ rfl b 0 rfl X _ hs2 Tryd.underlying47 rfl HI.out ?_)
  clear hs2
  go_loopw [8, 15] (fun v i wx => ∃ k : Nat, k ≤ 8 ∧ i = .int .i64 (k : Int) ∧ DgW w b X L B (part8 F a2 k) v (toldL f k) wx) (fun _ i _ => 8 - (intOf i).toNat)
  case atStart => exact ⟨0, by omega, rfl, HD1.out⟩
  case round =>
    obtain ⟨k, hk, rfl, hd⟩ := hrel
    have HD := Lib.hid hd
    clear hd HD1
    by_cases hlt : k < 8
    · have i0 : (k : Int) < 8 := by omega
      have i1 : (0 : Int) ≤ (k : Int) := by omega
      have hix := HIx.out k hlt
      have HKy := Lib.hid (HPy.out k hlt)
      have HKn := Lib.hid (HPn.out k hlt)
      have HKf := Lib.hid (HPf.out k hlt)
      obtain ⟨Y, hY⟩ : ∃ Y, arr (fun j => F (k * 32 + j)) = Y := ⟨_, rfl⟩
      have hlenY : Y.length = 32 := by rw [← hY]; exact arr_len _
      have HOY : Hid (Y.toArray.all (·.oneCell') = true) := Lib.hid (by rw [← hY]; exact arr_one _)
      have HIY2 : Hid ((Tryd.prog.info? 23).map (·.size) = some Y.length) := Lib.hid (by rw [hlenY]; kernel_rfl)
      have HIY3 : Hid ((Tryd.prog.info? 23).map (·.size) = some Y.toArray.size) := Lib.hid (by rw [List.size_toArray, hlenY]; kernel_rfl)
      have HIY4 : Hid ((Tryd.prog.info? 24).map (·.size) = some Y.toArray.size) := Lib.hid (by rw [List.size_toArray, hlenY]; kernel_rfl)
      have HThY : Hid ((wr.alloc (.cells lit32 23)).there wr.heap.size 0 Y.toArray.size) := Lib.hid ((Cells.new wr 32 _ 23 _ lit32_at).there 0 _ (by simp [hlenY]))
      rw [hY] at hix
      have HYe := Lib.hid hY
      have HYl := Lib.hid hlenY
      have HW2 : Hid (Below wr.heap.size wr ((wr.alloc (.cells lit32 23)).setCells wr.heap.size 0 Y)) := Lib.hid (below_row ((Below.refl _ wr).alloc (Nat.le_refl _) _) Y (Nat.le_refl _))
      have HRg : Hid (((wr.alloc (.cells lit32 23)).setCells wr.heap.size 0 Y).rangeAt wr.heap.size 0 Y) := Lib.hid (World.rangeAt_setCells_same _ _ _ _ (by have z := HThY.out; rwa [List.size_toArray] at z))
      have HK := Lib.hid hlt
      clear hlt hk hY hlenY HIx HPy HPn HPf
      go_upto_region 8 with (first
        | (with_reducible refine wpList_alloc rfl 23 rfl _ (alloc_arr _) ?_)
        | (with_reducible refine wpList_store_mid rfl 23 _ _ rfl wr.heap.size 0 Y.toArray rfl rfl HThY.out HIY3.out HOY.out ?_))
      have HD2 := Lib.hid (HD.out.step HW2.out)
      have HR2 := HRg
      clear HThY HW2 hix HD
      change Code.wp _ _ _ _ ((wr.alloc (.cells lit32 23)).setCells wr.heap.size 0 Y)
      generalize (wr.alloc (.cells lit32 23)).setCells wr.heap.size 0 Y = W2 at *
      generalize wr.heap.size = g at *
      go_upto_if 23 with fail
      have HTh2 : Hid (W2.there L (k * 32) Y.toArray.size) := Lib.hid (HD2.out.cur.there (k * 32) _ (by have := HYl.out; have := HK.out; simp; omega))
      go_cut [] (fun wx => DgW w b X L B (part8 F a2 (k + 1)) u8 (toldL f k) wx)
      case first =>
        by_cases hb : bitOf a2 k = true
        · have i2 : (bits .and .i64 (a2 / 2 ^ k) 1 == 1) = true := hb
          have HB := Lib.hid hb
          have hr2 := HR2.out
          have HPut : Hid (DgW w b X L B (part8 F a2 (k + 1)) u8 (toldL f k) (W2.setCells L (k * 32) Y)) := Lib.hid (by
            rw [← HYe.out]
            exact HD2.out.put HL.out (k * 32) (fun i => F (k * 32 + i)) (by have := HK.out; omega) (HKy.out hb))
          clear hb
          go_wp2_with (first
            | (with_reducible refine wpList_load_mid rfl 23 _ rfl g 0 rfl Y _ hr2 Tryd.underlying23 rfl HIY2.out ?_)
            | (with_reducible refine wpList_store_mid rfl 24 _ _ rfl L (k * 32) Y.toArray rfl rfl HTh2.out HIY4.out HOY.out ?_))
          go_meet
          exact HPut.out
        · have i2 : (bits .and .i64 (a2 / 2 ^ k) 1 == 1) = false := by simpa [bitOf] using hb
          have HPut : Hid (DgW w b X L B (part8 F a2 (k + 1)) u8 (toldL f k) W2) := Lib.hid (by rw [HKn.out hb]; exact HD2.out)
          clear hb
          go_wp2_with fail
          go_meet
          exact HPut.out
      case rest =>
        have HD3 := Lib.hid hcut
        clear hcut HD2 HR2 HRg HTh2 HKy HKn HOY HIY2 HIY3 HIY4 HYe HYl
        obtain ⟨Z, hZ⟩ : ∃ Z, arr (fun j => f (k * 32 + j)) = Z := ⟨_, rfl⟩
        have hr3 : wc.rangeAt L (k * 32) Z := by
          rw [← hZ]
          refine HD3.out.cur.range (k * 32) _ fun j v hv => ?_
          have hj : j < 32 := by
            have := (List.getElem?_eq_some_iff.1 hv).1
            rwa [arr_len] at this
          have := HK.out
          refine ⟨by omega, ?_⟩
          rw [arr_at _ j hj] at hv
          rw [HKf.out j hj]
          exact Option.some.inj hv
        have HIZ : Hid ((Tryd.prog.info? 24).map (·.size) = some Z.length) := Lib.hid (by rw [← hZ, arr_len]; kernel_rfl)
        have HTx : Hid (∀ wx, Calls Tryd.prog 13 #[.agg Z.toArray] wx fun r w' => r = .returned (.string ⟨(txt fun j => f (k * 32 + j)).toArray⟩) ∧ Below wx.heap.size wx w') := Lib.hid fun wx => by
          rw [← hZ]
          exact text_any (fun j => f (k * 32 + j)) (fun j => HFl.out _) wx
        have HTn := Lib.hid (toldL_next f k)
        have HTl := Lib.hid (toldL_len f k)
        clear hZ HKf
        generalize (⟨(txt fun j => f (k * 32 + j)).toArray⟩ : ByteArray) = T at *
        obtain ⟨M, hM⟩ : ∃ M, toldL f k = M := ⟨_, rfl⟩
        obtain ⟨M1, hM1⟩ : ∃ M1, toldL f (k + 1) = M1 := ⟨_, rfl⟩
        have HM1 := Lib.hid hM1
        rw [hM] at HTn HTl HD3
        rw [hM1] at HTn
        clear hM hM1
        go_wp2_with (with_reducible refine wpList_load_mid rfl 24 _ rfl L (k * 32) rfl Z _ hr3 Tryd.underlying24 rfl HIZ.out ?_)
        refine (HTx.out _).mono ?_
        rintro e w4 ⟨rfl, hb4⟩
        have HD4 := Lib.hid ((HD3.out.step hb4).step ((Below.refl _ w4).alloc (Nat.le_refl _) (.cells #[.string T] 9)))
        clear hb4 hr3 HD3
        go_wp2_with (at_builtin; (refine wpList_more_strs rfl _ _ rfl B _ M [T] rfl k HTl.out (by have := HD4.out.told; rw [HTl.out] at this; exact this) w4.heap.size 1 1 rfl rfl (one_str w4 T) (by decide) (by omega) HD4.out.base ?_); (intro g5 cap5 w5 hm); (have HD5 := Lib.hid (HD4.out.more HL.out hm)); clear hm)
        go_roundw
        case rel => exact ⟨k + 1, by have := HK.out; omega, by go_num, by have := HD5.out; rw [HTl.out, HTn.out] at this; rw [HM1.out]; exact this⟩
        case measure => simp [intOf]; have := HK.out; omega
    · have i0 : ¬ (k : Int) < 8 := by omega
      have hk8 : k = 8 := by omega
      have hd8 : DgW w b X L B f u8 (toldL f 8) wr := by
        have := HD.out
        rw [hk8, HPl.out] at this
        exact this
      obtain ⟨g, cap, hu, hTo⟩ := hd8.done
      subst hu
      obtain ⟨l, hlm, hl⟩ := maskN a0 255 (by decide)
      have hlm' : bits .and .i64 a0 255 = (l : Int) := hlm
      obtain ⟨S, hS⟩ : ∃ S, sums f = S := ⟨_, rfl⟩
      have hr8 : wr.rangeAt L 0 S := by
        rw [← hS]
        refine hd8.cur.range 0 _ fun j v hv => ?_
        have hj : j < 256 := by
          have := (List.getElem?_eq_some_iff.1 hv).1
          rwa [sums_len] at this
        refine ⟨by omega, ?_⟩
        rw [sums_at _ j hj] at hv
        rw [Nat.zero_add]
        exact Option.some.inj hv
      have HIS : Hid ((Tryd.prog.info? 48).map (·.size) = some S.length) := Lib.hid (by rw [← hS, sums_len]; kernel_rfl)
      have HDg : Hid (∀ wx, Laid KK SS wx → Calls Tryd.prog 25 #[.int .i64 (l : Int), .agg S.toArray] wx fun e w' => e = .returned (digVal l f) ∧ Below wx.heap.size wx w') := Lib.hid fun wx hx => by
        rw [← hS]
        exact digest_any f HFl.out l (by omega) wx hx
      have HTd := Lib.hid fun wx => digText_any f l wx
      have HRf : Hid (∀ wx, Told g f wx → Calls Tryd.prog 26 #[.int .i64 (l : Int), .slice (some ⟨g, 0, none⟩) 8 cap] wx fun e w' => e = .returned (.string (digStr l f)) ∧ Below wx.heap.size wx w') := Lib.hid fun wx hx => refDig_any f HFl.out l (by omega) g cap wx hx
      have HA8 := Lib.hid hd8.at'
      have HTo := Lib.hid hTo
      clear hlm hl hS hd8 hTo hk8 hlt hk HD HPl HPf HPn HPy HIx HP0 HFl
      generalize digVal l f = DV at *
      generalize digStr l f = DS at *
      go_wp2_with (with_reducible refine wpList_load_mid rfl 48 _ rfl L 0 rfl S _ hr8 Tryd.underlying48 rfl HIS.out ?_)
      refine (HDg.out _ HA8.out.laid).mono ?_
      rintro e w6 ⟨rfl, hb6⟩
      have HA9 := Lib.hid (HA8.out.next hb6)
      have HT9 := Lib.hid (HTo.out.below hb6)
      clear hb6 hr8 HA8 HTo
      go_wp2_with fail
      refine (HTd.out _).mono ?_
      rintro e w7 ⟨rfl, hb7⟩
      have HA10 := Lib.hid (HA9.out.next hb7)
      have HT10 := Lib.hid (HT9.out.below hb7)
      clear hb7 HA9 HT9
      go_wp2_with fail
      refine (HRf.out _ HT10.out).mono ?_
      rintro e w8 ⟨rfl, hb8⟩
      have HA11 := Lib.hid (HA10.out.next hb8)
      clear hb8 HA10 HT10
      go_wp2_with fail
      go_ret
      exact ⟨rfl, HA11.out.below⟩
end Go.Proofs.YtheccbnejamhlaaDoor
