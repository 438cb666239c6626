/-
  CatalogSpoilt: for all numbers, whichever entry's whichever byte is made whatever, the law answers true.
-/
import Derived.Test.YtjjmapmombhmlaaCatSp
namespace Go.Proofs.Ytjjmapmombhmlaa
open Go.RowKit Go.Maps Go.ChangeMaps Go.WideShapes
/-- the law's entries -/
def enS (i : Nat) : EN := ⟨i + 1, 0, i % 2 == 1, i + 1, 0, 0⟩
def enS' (i : Nat) : EN := if i < 8 then enS i else enS 0
theorem enS'_at {i : Nat} (h : i < 8) : enS' i = ⟨i + 1, 0, i % 2 == 1, i + 1, 0, 0⟩ := if_pos h
theorem enS'_fits (i : Nat) : (enS' i).fits := by
  unfold enS'
  split
  · exact ⟨by show i + 1 < _; omega, by show (0 : Nat) < _; decide, by show i + 1 < _; omega, by show (0 : Nat) < _; decide, by show (0 : Nat) < _; decide⟩
  · exact ⟨by decide, by decide, by decide, by decide, by decide⟩
theorem and_one8 : ∀ i : Nat, i < 8 → bits .and .i64 (i : Int) 1 = ((i % 2 : Nat) : Int) := by decide
section
variable {d bs bt : Nat} {V : Nat → UInt8} {w w' : World}
set_option maxRecDepth 100000 in
theorem spG3_ok (h : DK d bs bt 20 V w) (hd : Nat) (hhd : hd < 65536) (n : Nat) (hm : MadeOf V hd none n) (xd xa xg : Nat) (bd : Box xd 41 (.pointer (some ⟨d, 0, none⟩)) w) (ba : Box xa 3 (.int .i64 (hd : Int)) w) (bg : Box xg 55 (.slice none 0 0) w) :
    Calls Try.prog 17 #[.func (.func 50) #[] #[.pointer (some ⟨xd, 0, none⟩), .pointer (some ⟨xa, 0, none⟩), .pointer (some ⟨xg, 0, none⟩)]] w fun e w' => e = .returned (.int .i64 0) ∧ (∃ a c, Box xg 55 (.slice a n c) w') ∧ Grew (fun k => k = xg) w w' := by
  have hlt := bg.lt
  refine guard_ok _ _ (fun k => k = xg) _ (by omega) (fun _ => by rfl) (fun w1 w2 hq hg => ?_) ?_
  · obtain ⟨a, c, hb⟩ := hq
    exact ⟨a, c, hb.keep hg (by omega)⟩
  · exact spC3_ok (h.keep ((Grew.refl (S := fun _ => False) w).alloc errBox) fun _ _ e => e) hd hhd n hm xd xa xg (bd.keepAlloc _) (ba.keepAlloc _) (bg.keepAlloc _)
set_option maxRecDepth 100000 in
theorem spG3_bad (h : DK d bs bt 20 V w) (hd : Nat) (hhd : hd < 65536) (n : Nat) (k : Int) (hm : MadeOf V hd (some k) n) (xd xa xg : Nat) (bd : Box xd 41 (.pointer (some ⟨d, 0, none⟩)) w) (ba : Box xa 3 (.int .i64 (hd : Int)) w) (bg : Box xg 55 (.slice none 0 0) w) :
    Calls Try.prog 17 #[.func (.func 50) #[] #[.pointer (some ⟨xd, 0, none⟩), .pointer (some ⟨xa, 0, none⟩), .pointer (some ⟨xg, 0, none⟩)]] w fun e w' => e = .returned (.int .i64 k) ∧ Grew (fun _ => False) w w' := by
  refine (guard_grew 50 _ w (fun _ => False) (fun o _ => o = some k) (fun e => e) (fun _ => by rfl) ((spC3_bad (h.keep ((Grew.refl (S := fun _ => False) w).alloc errBox) fun _ _ e => e) hd hhd n k hm xd xa xg (bd.keepAlloc _) (ba.keepAlloc _) (bg.keepAlloc _)).mono ?_)).mono ?_
  · rintro e w1 ⟨rfl, hg⟩
    exact ⟨some k, rfl, hg, rfl⟩
  · rintro e w' ⟨o, w1, rfl, rfl, rfl, hg, _⟩
    exact ⟨rfl, hg⟩
end
theorem LAt.append {xl base : Nat} {L : List EN} {e : EN} {w w4 : World} {o : Obj} {v v' : Value} (hv : Box xl 55 v w) (hown : w.ownsRow base 58 6 v L.length (entRows L)) (hg : (w.alloc o).grownBy w4 v.ownBlock) (ho : w4.ownsRow base 58 6 v' (L.length + 1) (entRows L ++ e.cells.toList)) :
    LAt xl base (L ++ [e]) (w4.setCell ⟨xl, 0, none⟩ v') ∧ Grew (fun k => k = xl ∨ v.ownBlock = some k) w (w4.setCell ⟨xl, 0, none⟩ v') ∧ w4.cell? ⟨xl, 0, none⟩ = some v ∧ w4.frozen? ⟨xl, 0, none⟩ = false := by
  have g4 : Grew (fun k => v.ownBlock = some k) w w4 := ((Grew.refl w).alloc o).grown hg fun k _ hk => hk
  have gF : Grew (fun k => k = xl ∨ v.ownBlock = some k) w (w4.setCell ⟨xl, 0, none⟩ v') := (g4.mono fun _ _ e => Or.inr e).setCell _ _ fun _ => Or.inl rfl
  have apart : ∀ {wx : World} {u : Value} {n : Nat} {xs : List Value}, wx.ownsRow base 58 6 u n xs → ∀ {y : Value}, Box xl 55 y wx → ¬ u.ownBlock = some xl := fun ho y hb e => by
    obtain ⟨c, fz, k⟩ := Lib.ownsRow_kind ho xl e
    unfold Box at hb
    rw [hb] at k
    simp at k
  have hv4 := hv.keep g4 (apart hown hv)
  have gS : Grew (fun k => k = xl) w4 (w4.setCell ⟨xl, 0, none⟩ v') := (Grew.refl w4).setCell _ _ fun _ => rfl
  refine ⟨⟨v', hv4.set v', ?_⟩, gF, hv4.cell, hv4.free⟩
  rw [entRows_add, List.length_append]
  exact own_keepN ho gS fun q hq e => apart ho hv4 (e ▸ hq)
theorem maskN (k : Int) (n : Nat) (hn : n < 4294967296) : ∃ p : Nat, bits .and .i64 k (n : Int) = (p : Int) ∧ p ≤ n := by
  have h : (BitVec.ofInt 64 k &&& BitVec.ofInt 64 n).toNat ≤ n := by
    rw [BitVec.toNat_and]
    refine Nat.le_trans Nat.and_le_right ?_
    rw [BitVec.toNat_ofInt]
    omega
  refine ⟨(BitVec.ofInt 64 k &&& BitVec.ofInt 64 n).toNat, ?_, h⟩
  show IntKind.i64.wrap ((BitVec.ofInt 64 k &&& BitVec.ofInt 64 n).toNat : Int) = _
  generalize (BitVec.ofInt 64 k &&& BitVec.ofInt 64 n).toNat = y at *
  simp only [IntKind.wrap, IntKind.bits, IntKind.signed]
  simp
  omega
theorem cell_alloc {w : World} {a i : Nat} {v : Value} {o : Obj} (h : w.cell? ⟨a, i, none⟩ = some v) : (w.alloc o).cell? ⟨a, i, none⟩ = some v := by
  have hl := cell_lt h
  rw [← h]
  exact World.cell?_of_block (w := w) (Below.heap_alloc _ _ _ hl)
/-- the list so far -/
structure LpS (w0 : World) (x9 base k : Nat) (w : World) : Prop where
  la : LAt x9 base (entsTo enS' k) w
  below : Below w0.heap.size w0 w
  h1 : w0.heap.size ≤ x9
  h2 : w0.heap.size ≤ base
  hz : base ≤ w.heap.size
theorem bkTo_at (E : Nat → EX) (k t : Nat) (h : t < k) : (bkTo E k 0)[t]? = some (E (k - 1 - t)) := by
  unfold bkTo
  rw [List.getElem?_map, List.getElem?_range (by omega)]
  rfl
theorem rising_S {b : HB} (hbf : b.f = 2) (hbn : b.n = 18) {k : Nat} (hk : k ≤ 8) : Rising b enS' k where
  f := by omega
  lt := by omega
  nb := by omega
  fit := enS'_fits
  ok := fun i hi => by
    rw [enS'_at (by omega)]
    rintro (h | h | h)
    · exact absurd (show i + 1 = 0 from h) (by omega)
    · exact absurd (show i + 1 < 1 from h) (by omega)
    · exact absurd (show 2048 < i + 1 from h) (by omega)
  up := fun i hi => by
    rw [enS'_at (by omega), enS'_at (by omega)]
    exact Nat.lt_succ_self _
/-- what Adopt makes of what was saved, a byte of it another one -/
theorem made_S {b : HB} (hbf : b.f = 2) (hbn : b.n = 18) {s1 : HS} {hd k : Nat} {U : Nat → UInt8} (hp : Puts b HS.new (bkTo (exOf enS' enS'_fits) k 0) s1 hd U) (hk1 : 1 ≤ k) (hk : k ≤ 8) (m p : Nat) (hm : m < k) (hp6 : p < 64) (x : UInt8) :
    (x = 0 → MadeOf (bendF U ((2 + m) * 64 + p) x) hd none k) ∧ (x ≠ 0 → MadeOf (bendF U ((2 + m) * 64 + p) x) hd (some 11) k) ∧ hd < 65536 ∧ (∀ i, i < 18 → s1.S i = if i < k then 1 else 0) := by
  obtain ⟨h1, h2, _, h4⟩ := puts_chain hp
  rw [bkTo_length, Nat.sub_zero] at h1 h2
  rw [hbn] at h1
  rw [hbf] at h2 h4
  have hhd : hd = atDn 2 k 0 := by
    rw [h2]
    unfold downNx atDn
    rw [if_neg (by omega), if_pos (by omega)]
    rfl
  have own : ∀ i, i < k → secB U (2 + (k - 1 - i)) = entB (enS' i) (downNx 2 (k - 1 - i)) := fun i hi => by
    have := h4 (k - 1 - i) _ (bkTo_at _ k (k - 1 - i) (by omega))
    rw [show k - 1 - (k - 1 - i) = i by omega] at this
    exact this
  refine ⟨?_, ?_, by rw [hhd]; unfold atDn; split <;> omega, h1⟩
  · rintro rfl b2 hf2 hn2
    have hV : bendF U ((2 + m) * 64 + p) 0 = U := by
      funext j
      unfold bendF
      split
      · exact UInt8.xor_zero
      · rfl
    have := all_dn (rising_S hf2 hn2 hk) (V := U) (b2.n + 1) (by omega) (fun i hi => by unfold OwnAt; rw [hf2]; exact own i hi)
    rw [hf2, ← hhd] at this
    rw [hV, this]
    exact ⟨rfl, fun _ => entsTo_len _ _⟩
  · intro hx b2 hf2 hn2
    have hbad := catE_bent U (2 + m) p hp6 x hx _ _ (by
      have := own (k - 1 - m) (by omega)
      rw [show k - 1 - (k - 1 - m) = m by omega] at this
      exact this)
    have := bad_dn (rising_S hf2 hn2 hk) (V := bendF U ((2 + m) * 64 + p) x) (b2.n + 1) (by omega) (k - 1 - m) (by omega) (fun i hi => by
      unfold OwnAt
      rw [hf2, bendT_other _ _ _ hp6 _ _ (by omega)]
      exact own i (by omega)) 11 (by rw [hf2, show k - 1 - (k - 1 - m) = m by omega]; exact hbad)
    rw [hf2, ← hhd] at this
    exact ⟨this, fun h => by cases h⟩
theorem Box.mut {S0 : Nat → Prop} {B x : Nat} {t : TypeId} {v : Value} {w : World} (h : Box x t v w) (hs : ¬ S0 x) (ht : t ≠ 1) : ¬ Mut B S0 w x := by
  rintro (m | ⟨_, c, fz, e⟩)
  · exact hs m
  · unfold Box at h
    rw [h] at e
    simp at e
    exact ht e.2.1
theorem row_cells {w : World} {base g n cap : Nat} {e : Nat → EN} (h : w.ownsRow base 58 6 (.slice (some ⟨g, 0, none⟩) n cap) n (entRows (entsTo e n))) : ∀ j, j < n → EntCells g (0 + j * 6) (e j) w := fun j hj => by
  have hl : j < (entsTo e n).length := by rw [entsTo_len]; exact hj
  have he : (entsTo e n)[j]'hl = e j := by simp [entsTo]
  have c : ∀ o, o < 6 → w.cell? ⟨g, 0 + j * 6 + o, none⟩ = (e j).cells[o]? := fun o ho => by
    rw [Nat.zero_add, h.cellAt (j * 6 + o) (by omega), entRows_at _ j hl o ho, he]
  exact ⟨c 0 (by decide), c 1 (by decide), c 2 (by decide), c 3 (by decide), c 4 (by decide), c 5 (by decide)⟩
set_option maxRecDepth 100000 in
set_option maxHeartbeats 4000000 in
theorem catalogSpoilt_walk (n0 which by' : Int) (c : Nat) (hc : c < 256) (w : World) :
    Calls Try.prog 8 #[.int .i64 n0, .int .i64 which, .int .i64 by', .int .u8 c] w fun e w' => e = .returned (.bool true) ∧ Below w.heap.size w w' := by
  have hmf : ∀ (fn : Fn) (first cap : Array Value) (w : World), (Instr.makeFunc fn first cap).run Try.prog w = .ok (.func fn first cap) w := fun _ _ _ _ => rfl
  obtain ⟨p0, hp0', hp0⟩ := maskN n0 255 (by decide)
  obtain ⟨q0, hq0', hq0⟩ := maskN which 255 (by decide)
  have hp1 : bits .and .i64 n0 255 = (p0 : Int) := hp0'
  have hq1 : bits .and .i64 which 255 = (q0 : Int) := hq0'
  have y1 := Box.new w 3 (.int .i64 by')
  have s1 : (w.alloc (.cells #[.int .i64 by'] 3)).heap.size = w.heap.size + 1 := by simp
  have y2 := Box.new (w.alloc (.cells #[.int .i64 by'] 3)) 5 (.int .u8 (c : Int))
  rw [s1] at y2
  have HY : Hid (Box w.heap.size 3 (.int .i64 by') ((w.alloc (.cells #[.int .i64 by'] 3)).alloc (.cells #[.int .u8 (c : Int)] 5)) ∧ Box (w.heap.size + 1) 5 (.int .u8 (c : Int)) ((w.alloc (.cells #[.int .i64 by'] 3)).alloc (.cells #[.int .u8 (c : Int)] 5)) ∧ Below w.heap.size w ((w.alloc (.cells #[.int .i64 by'] 3)).alloc (.cells #[.int .u8 (c : Int)] 5)) ∧ ((w.alloc (.cells #[.int .i64 by'] 3)).alloc (.cells #[.int .u8 (c : Int)] 5)).heap.size = w.heap.size + 2) := Lib.hid ⟨y1.keepAlloc _, y2, ((Below.refl _ w).alloc (Nat.le_refl _) _).alloc (by simp) _, by simp⟩
  have HCl := Lib.hid hc
  clear hp0' hq0' y1 y2 s1 hc
  go_enter Try.func8, Try.ntmps8
  go_upto_region 1 with fail
  generalize (w.alloc (.cells #[.int .i64 by'] 3)).alloc (.cells #[.int .u8 (c : Int)] 5) = W0 at *
  go_wp2_with fail
  refine (catAwake _).mono ?_
  rintro e w1 ⟨rfl, hb1⟩
  have HB1 := Lib.hid hb1
  clear hb1
  go_upto_region 6 with fail
  obtain ⟨n, hn⟩ : ∃ n : Nat, 1 + p0 % 8 = n := ⟨_, rfl⟩
  have hnI : (1 : Int) + (p0 : Int) % 8 = (n : Int) := by omega
  have HN : Hid (1 ≤ n ∧ n ≤ 8) := Lib.hid (by omega)
  rw [hnI]
  have HL0 : Hid (LpS W0 (w1.heap.size + 1) w1.heap.size 0 ((w1.alloc (.cells #[] 58)).alloc (.cells #[.slice (some ⟨w1.heap.size, 0, none⟩) 0 0] 55))) := Lib.hid (by
    have s1 : (w1.alloc (.cells #[] 58)).heap.size = w1.heap.size + 1 := by simp
    have y := Box.new (w1.alloc (.cells #[] 58)) 55 (.slice (some ⟨w1.heap.size, 0, none⟩) 0 0)
    rw [s1] at y
    have hz := HB1.out.size
    exact ⟨⟨_, y, own_keepN (World.ownsRow_lit w1 #[] 0 (Nat.le_refl _) (by decide) rfl) ((Grew.refl (S := fun _ => False) _).alloc _) fun _ _ e => e⟩, (HB1.out.alloc hz _).alloc (by simp; omega) _, by omega, hz, by simp; omega⟩)
  generalize (w1.alloc (.cells #[] 58)).alloc (.cells #[.slice (some ⟨w1.heap.size, 0, none⟩) 0 0] 55) = W1 at *
  obtain ⟨x9, hx9⟩ : ∃ x9, w1.heap.size + 1 = x9 := ⟨_, rfl⟩
  rw [hx9] at HL0 ⊢
  generalize w1.heap.size = base at *
  clear hn hnI hp1 hp0 hx9
  obtain ⟨i0, hi, hx⟩ := Option.map_eq_some_iff.1 infoEnt
  simp only [Prod.mk.injEq] at hx
  obtain ⟨hz, h6, hb40⟩ := hx
  obtain ⟨z, hz0, hz1⟩ := Option.map_eq_some_iff.1 hz
  have HI0 := Lib.hid hi
  have HI1 := Lib.hid hz0
  have HI2 := Lib.hid h6
  have HI3 := Lib.hid hb40
  have HI4 := Lib.hid hz1
  clear hi hz h6 hb40 hz0 hz1
  go_loopw [25] (fun i wx => ∃ k : Nat, k ≤ n ∧ i = .int .i64 (k : Int) ∧ LpS W0 x9 base k wx) (fun i _ => n - (intOf i).toNat)
  case atStart => exact ⟨0, Nat.zero_le _, rfl, HL0.out⟩
  case round =>
    obtain ⟨k, hk, rfl, hl⟩ := hrel
    have HL := Lib.hid hl
    clear hl HL0
    by_cases hlt : k < n
    · have i0' : (k : Int) < (n : Int) := by omega
      have i1 : (k : Int) < 8 := by have := HN.out.2; omega
      have HLt := Lib.hid hlt
      have hb2 := and_one8 k (by omega)
      have hb3 : (((k % 2 : Nat) : Int) == 1) = (k % 2 == 1) := by rcases Nat.mod_two_eq_zero_or_one k with h | h <;> (rw [h]; rfl)
      obtain ⟨bb, hbb⟩ : ∃ bb, (k % 2 == 1) = bb := ⟨_, rfl⟩
      have HBb := Lib.hid hbb
      rw [hbb] at hb3
      clear hbb
      generalize k % 2 = r2 at hb2 hb3
      have hu : IntKind.u32.wrap ((k : Int) + 1) = (k : Int) + 1 := by have := wrap_u32 (k + 1) (by omega); exact this
      obtain ⟨v, hv, hown⟩ := HL.out.la.ex
      rw [entsTo_len] at hown
      have cv := hv.cell
      have HBv := Lib.hid hv
      have HOw := Lib.hid (own_keepN hown ((Grew.refl (S := fun _ => False) wr).alloc (.cells #[.int .u32 ((k : Int) + 1), .int .u32 0, .bool bb, .int .i64 ((k : Int) + 1), .int .i64 0, .int .u32 0] 58)) fun _ _ e => e)
      have HNew := Lib.hid (six_new wr 58 (.int .u32 ((k : Int) + 1)) (.int .u32 0) (.bool bb) (.int .i64 ((k : Int) + 1)) (.int .i64 0) (.int .u32 0))
      have HE : Hid (∀ v' w4, w4.ownsRow base 58 6 v' (k + 1) (entRows (entsTo enS' k) ++ [.int .u32 ((k : Int) + 1), .int .u32 0, .bool bb, .int .i64 ((k : Int) + 1), .int .i64 0, .int .u32 0]) → (wr.alloc (.cells #[.int .u32 ((k : Int) + 1), .int .u32 0, .bool bb, .int .i64 ((k : Int) + 1), .int .i64 0, .int .u32 0] 58)).grownBy w4 v.ownBlock → LpS W0 x9 base (k + 1) (w4.setCell ⟨x9, 0, none⟩ v') ∧ w4.cell? ⟨x9, 0, none⟩ = some v ∧ w4.frozen? ⟨x9, 0, none⟩ = false) := Lib.hid fun v' w4 ho hg => by
        have hL := HL.out
        have he : (enS' k).cells.toList = [.int .u32 ((k : Int) + 1), .int .u32 0, .bool bb, .int .i64 ((k : Int) + 1), .int .i64 0, .int .u32 0] := by rw [enS'_at (by omega), HBb.out]; rfl
        obtain ⟨a1, a2, a3, a4⟩ := LAt.append (L := entsTo enS' k) (e := enS' k) HBv.out (by rw [entsTo_len]; exact hown) hg (by rw [entsTo_len, he]; exact ho)
        rw [← entsTo_succ] at a1
        exact ⟨⟨a1, a2.below hL.below hL.below.size fun q hq => by
          rcases hq with e | e
          · have := hL.h1; omega
          · have := (hown.lt q e).1; have := hL.h2; omega, hL.h1, hL.h2, Nat.le_trans hL.hz a2.size⟩, a3, a4⟩
      have HZ := Lib.hid HL.out.hz
      clear hlt hk hv hown HBv
      generalize entRows (entsTo enS' k) = xs at *
      go_wp2_with (at_builtin; refine wpList_append_own_wide _ rfl _ _ 55 rfl base 58 i0 z 6 40 Try.underlying55 HI0.out HI1.out HI2.out HI3.out HI4.out (by decide) v k xs rfl ?c0 ⟨wr.heap.size, 0, none⟩ 1 1 [.int .u32 ((k : Int) + 1), .int .u32 0, .bool bb, .int .i64 ((k : Int) + 1), .int .i64 0, .int .u32 0] rfl ?cl ?c1 ?c2 ?c3 ?c4 ?c5 ?_)
      case c0 => exact HOw.out
      case cl => rfl
      case c1 => exact HNew.out
      case c2 => simp [Value.oneCell']
      case c3 => unfold maxLen; omega
      case c4 => omega
      case c5 => have := HZ.out; simp; omega
      intro v' w4 ho hg _
      obtain ⟨hX, d1, d2⟩ := HE.out v' w4 ho hg
      obtain ⟨g', cap', rfl⟩ := own_slice ho
      have HX := Lib.hid hX
      clear ho hg hX HE HOw HNew
      go_wp2_with fail
      go_roundw
      case rel => exact ⟨k + 1, HLt.out, by go_num, HX.out⟩
      case measure => have := HLt.out; simp [intOf]; omega
    · obtain rfl : k = n := by omega
      have i0' : ¬ (k : Int) < (k : Int) := by omega
      go_upto_region 10 with fail
      have hl := HL.out
      obtain ⟨v, hv, hown⟩ := hl.la.ex
      rw [entsTo_len] at hown
      obtain ⟨g, cap, rfl⟩ : ∃ g cap, v = .slice (some ⟨g, 0, none⟩) k cap := by
        rcases hown.2 with ⟨_, h0⟩ | ⟨g, cap, cur, rfl, _⟩
        · have := HN.out.1; omega
        · exact ⟨g, cap, rfl⟩
      have hgl := (hown.lt g rfl).2
      obtain ⟨gc, gf, hgk⟩ := Lib.ownsRow_kind hown g rfl
      have hrc := row_cells hown
      have HR : Hid (g < wr.heap.size ∧ (∃ c fz, wr.heap[g]? = some (.cells c 58 fz)) ∧ (∀ j, j < k → EntCells g (0 + j * 6) (enS' j) wr) ∧ Box x9 55 (.slice (some ⟨g, 0, none⟩) k cap) wr ∧ Below W0.heap.size W0 wr) := Lib.hid ⟨hgl, ⟨gc, gf, hgk⟩, hrc, hv, hl.below⟩
      clear hl hv hown hgl hgk hrc i0' HL HI0 HI1 HI2 HI3 HI4
      go_wp2_with fail
      refine (new_any 20 wr).mono ?_
      rintro e w2 ⟨M, rfl, hM⟩
      have HM : Hid (DiskAt M w2 ∧ (∀ x, M.own x → wr.heap.size ≤ x ∧ x < w2.heap.size) ∧ Grew (fun _ => False) wr w2 ∧ M.n = 2 + 18 ∧ M.armed = false ∧ M.dead = false ∧ M.left ≤ 2 ^ 62) := Lib.hid (by
        have hat := hM.at'
        obtain ⟨d, bs, bt, e⟩ := hM.is
        refine ⟨hat, fun x hx => ⟨hM.fresh x hx, ?_⟩, hM.grew _, ?_⟩
        · rcases hx with rfl | rfl | rfl
          · exact hat.lt
          · exact hat.sure.lt
          · exact hat.there.lt
        · rw [e]
          exact ⟨by show diskLen 20 = 20; decide, rfl, rfl, by show (0 : Int) ≤ 2 ^ 62; decide⟩)
      have y11 := Box.new w2 41 (.pointer (some ⟨M.d, 0, none⟩))
      have HNew := Lib.hid (hNewT_any M 2 18 (w2.alloc (.cells #[.pointer (some ⟨M.d, 0, none⟩)] 41)) (by decide) (by decide) (HM.out.1.kept ((Grew.refl (S := fun _ => False) w2).alloc _) (fun e => e) (fun e => e) fun e => e) HM.out.2.2.2.1 HM.out.2.2.2.2.1 HM.out.2.2.2.2.2.1 HM.out.2.2.2.2.2.2)
      have c11 := y11.cell
      have HY11 := Lib.hid y11
      clear hM y11
      go_wp2_with fail
      refine HNew.out.mono ?_
      rintro e w3 ⟨b, rfl, ok, hbf, hbn, hbd, hI, hLg, hg3, hB, hfr, hbs, hbt, _⟩
      have hS0 : ∀ x, b.S0 x → wr.heap.size ≤ x ∧ x ≠ w2.heap.size ∧ x < w3.heap.size := by
        rintro x ⟨i, hi, rfl⟩
        have hl := Nat.lt_of_lt_of_le (ok.lt i hi) hB
        have hz := HM.out.2.2.1.size
        have s11 : (w2.alloc (.cells #[.pointer (some ⟨M.d, 0, none⟩)] 41)).heap.size = w2.heap.size + 1 := by simp
        by_cases q : i < 6
        · have := hfr i q
          omega
        · have hmo : M.own (b.blk i) := by
            have : i = 6 ∨ i = 7 ∨ i = 8 := by omega
            rcases this with rfl | rfl | rfl
            · exact Or.inl hbd
            · exact Or.inr (Or.inl hbs)
            · exact Or.inr (Or.inr hbt)
          have := HM.out.2.1 _ hmo
          omega
      have gw : Grew (fun _ => False) wr w3 := (HM.out.2.2.1.alloc _).trans hg3
      have z12 := Box.new w3 43 (.pointer (some ⟨b.hb, 0, none⟩))
      have s12 : (w3.alloc (.cells #[.pointer (some ⟨b.hb, 0, none⟩)] 43)).heap.size = w3.heap.size + 1 := by simp
      have z13 := Box.new (w3.alloc (.cells #[.pointer (some ⟨b.hb, 0, none⟩)] 43)) 3 (.int .i64 0)
      rw [s12] at z13
      have g5 : Grew (fun _ => False) w3 ((w3.alloc (.cells #[.pointer (some ⟨b.hb, 0, none⟩)] 43)).alloc (.cells #[.int .i64 0] 3)) := ((Grew.refl w3).alloc _).alloc _
      have gF := gw.trans g5
      have g11 : Grew (fun _ => False) (w2.alloc (.cells #[.pointer (some ⟨M.d, 0, none⟩)] 41)) ((w3.alloc (.cells #[.pointer (some ⟨b.hb, 0, none⟩)] 43)).alloc (.cells #[.int .i64 0] 3)) := hg3.trans g5
      obtain ⟨r1, ⟨rc, rf, rk⟩, r3, r4, r5⟩ := HR.out
      have gb := Grew.of_below (S := fun _ => False) r5
      have HT := Lib.hid (spTry_any (w := (w3.alloc (.cells #[.pointer (some ⟨b.hb, 0, none⟩)] 43)).alloc (.cells #[.int .i64 0] 3)) ok (by omega) (by omega) enS' enS'_fits k cap (by have := HN.out.2; omega) g w3.heap.size x9 (w3.heap.size + 1) (hI.keep g5 (fun _ _ e => e) fun _ _ _ e => e) (hLg.keep g5 (fun e => e) (fun _ _ e => e)) (z12.keepAlloc _) (r4.keep gF fun e => e) z13 (fun e => by have := hS0 _ e; omega) (fun e => by have := hS0 _ e; have := r4.lt; omega) (fun e => by have := hS0 _ e; omega) ⟨fun e => by have := hS0 _ e; omega, rc, _, rf, (gF.block g r1 fun e => e).trans rk, by decide, by decide⟩ (fun j hj => (r3 j hj).same (gF.block g r1 fun e => e)))
      have HB5 : Hid (Box w.heap.size 3 (.int .i64 by') ((w3.alloc (.cells #[.pointer (some ⟨b.hb, 0, none⟩)] 43)).alloc (.cells #[.int .i64 0] 3)) ∧ Box (w.heap.size + 1) 5 (.int .u8 (c : Int)) ((w3.alloc (.cells #[.pointer (some ⟨b.hb, 0, none⟩)] 43)).alloc (.cells #[.int .i64 0] 3)) ∧ Box w2.heap.size 41 (.pointer (some ⟨b.d, 0, none⟩)) ((w3.alloc (.cells #[.pointer (some ⟨b.hb, 0, none⟩)] 43)).alloc (.cells #[.int .i64 0] 3)) ∧ Box w3.heap.size 43 (.pointer (some ⟨b.hb, 0, none⟩)) ((w3.alloc (.cells #[.pointer (some ⟨b.hb, 0, none⟩)] 43)).alloc (.cells #[.int .i64 0] 3)) ∧ Below w.heap.size w ((w3.alloc (.cells #[.pointer (some ⟨b.hb, 0, none⟩)] 43)).alloc (.cells #[.int .i64 0] 3))) := Lib.hid (by
        have hy := HY.out
        refine ⟨(hy.1.keep gb fun e => e).keep gF fun e => e, (hy.2.1.keep gb fun e => e).keep gF fun e => e, ?_, z12.keepAlloc _, ?_⟩
        · rw [hbd]; exact HY11.out.keep g11 fun e => e
        · exact gF.below ((gb.below hy.2.2.1 hy.2.2.1.size fun _ e => e.elim)) (Nat.le_trans hy.2.2.1.size r5.size) fun _ e => e.elim)
      have HS0 : Hid (∀ x, b.S0 x → W0.heap.size ≤ x ∧ x ≠ w2.heap.size ∧ x < w3.heap.size) := Lib.hid fun x hx => by
        have := hS0 x hx
        have := r5.size
        omega
      have HSz : Hid (W0.heap.size = w.heap.size + 2 ∧ W0.heap.size ≤ w2.heap.size ∧ w2.heap.size < w3.heap.size) := Lib.hid (by
        have h1 := r5.size
        have h2 := HM.out.2.2.1.size
        have h3 := hg3.size
        have s11 : (w2.alloc (.cells #[.pointer (some ⟨M.d, 0, none⟩)] 41)).heap.size = w2.heap.size + 1 := by simp
        exact ⟨HY.out.2.2.2, by omega, by omega⟩)
      have HOk := Lib.hid (And.intro ok (And.intro hbf hbn))
      clear ok hbf hbn hbd hI hLg hg3 hB hfr hbs hbt hS0 gw z12 s12 z13 g5 gF g11 r1 rk r3 r4 r5 gb HNew HM HR HY11 HY
      go_upto_region 13 with fail
      generalize (w3.alloc (.cells #[.pointer (some ⟨b.hb, 0, none⟩)] 43)).alloc (.cells #[.int .i64 0] 3) = W5 at *
      generalize w3.heap.size = x12 at *
      have c12 := HB5.out.2.2.2.1.cell
      go_wp2_with fail
      refine HT.out.mono ?_
      rintro e w6 ⟨rfl, s1, hd, U, hp, hI, hLg, hb13, hg6⟩
      obtain ⟨ok, hbf, hbn⟩ := HOk.out
      have hS0 := HS0.out
      have hsz := HSz.out
      have hBw : W0.heap.size ≤ b.B := by
        have h1 := hS0 b.hb ⟨0, by decide, rfl⟩
        have h2 := ok.lt 0 (by decide)
        have h3 : b.blk 0 = b.hb := rfl
        omega
      have kb : ∀ {x : Nat} {t : TypeId} {v : Value}, Box x t v W5 → ¬ b.S0 x → t ≠ 1 → x ≠ x12 + 1 → Box x t v w6 := fun h hs ht hx => h.keep hg6 fun e => by
        rcases e with e | e
        · exact h.mut hs ht e
        · exact hx e
      obtain ⟨m, hmq⟩ : ∃ m, q0 % k = m := ⟨_, rfl⟩
      have hmk : m < k := by rw [← hmq]; exact Nat.mod_lt _ HN.out.1
      obtain ⟨p, hp', hp6⟩ := maskN by' 63 (by decide)
      have hp1 : bits .and .i64 by' 63 = (p : Int) := hp'
      have hxc : (UInt8.ofNat c).toNat = c := by simp; exact HCl.out
      obtain ⟨md1, md2, hhd, hSs⟩ := made_S hbf hbn hp HN.out.1 HN.out.2 m p hmk (by omega) (UInt8.ofNat c)
      have HAll : Hid (∀ wx, Grew (fun _ => False) w6 wx → Calls Try.prog 48 #[.pointer (some ⟨b.hb, 0, none⟩)] wx fun e w' => ∃ a cc, e = .returned (.slice (some ⟨a, 0, none⟩) k cc) ∧ w'.cell? ⟨a, m, none⟩ = some (.int .i64 (2 + (m : Int))) ∧ a < w'.heap.size ∧ Grew (fun _ => False) wx w') := Lib.hid fun wx gx => by
        obtain ⟨a1, a2⟩ := all_first b.f s1.S k b.n (by rw [hbn]; exact hSs)
        have hk2 := HN.out
        rw [show min b.n k = k by omega] at a1 a2
        refine (hAll_any (b.at U) (ok.at U) s1 wx (hI.keep gx (fun _ _ e => e) fun _ _ _ e => e)).mono ?_
        rintro e w' ⟨⟨a, cc, rfl, ho⟩, hb⟩
        have ho : w'.ownsRow wx.heap.size 3 1 (.slice a (cnt s1.S 1 b.n) cc) (cnt s1.S 1 b.n) (allL b.f s1.S b.n) := ho
        rw [a1] at ho
        show ∃ a' cc', Ending.returned (.slice a (cnt s1.S 1 b.n) cc) = _ ∧ _
        rw [a1]
        rcases ho.2 with ⟨_, h0⟩ | ⟨g', cap', cur, e', _⟩
        · omega
        · cases e'
          have hc := ho.cellAt m (by omega)
          rw [(a2 m hmk).1, hbf] at hc
          exact ⟨_, _, rfl, hc, (ho.lt g' rfl).2, Grew.of_below hb⟩
      obtain ⟨n1, n2, n3, n4, n5⟩ := HB5.out
      have HB6 : Hid (Box w.heap.size 3 (.int .i64 by') w6 ∧ Box (w.heap.size + 1) 5 (.int .u8 (c : Int)) w6 ∧ Box w2.heap.size 41 (.pointer (some ⟨b.d, 0, none⟩)) w6 ∧ Box x12 43 (.pointer (some ⟨b.hb, 0, none⟩)) w6 ∧ Box (x12 + 1) 3 (.int .i64 (hd : Nat)) w6 ∧ Below w.heap.size w w6 ∧ DK b.d b.bs b.bt 20 U w6) := Lib.hid ⟨kb n1 (fun e => by have := hS0 _ e; omega) (by decide) (by omega), kb n2 (fun e => by have := hS0 _ e; omega) (by decide) (by omega), kb n3 (fun e => by have := hS0 _ e; omega) (by decide) (by omega), kb n4 (fun e => by have := hS0 _ e; omega) (by decide) (by omega), hb13, hg6.below n5 n5.size (fun x hx => by
        rcases hx with (e | ⟨e, _⟩) | e
        · have := hS0 _ e; omega
        · omega
        · omega), by
        obtain ⟨M9, h1, h2, h3, h4, h5, h6⟩ := hI.dk
        exact ⟨M9, h1, h2, h3, h4, by rw [h5]; show b.f + b.n = 20; omega, h6⟩⟩
      have HMd : Hid ((UInt8.ofNat c = 0 → MadeOf (bendF U ((2 + m) * 64 + p) (UInt8.ofNat c)) hd none k) ∧ (UInt8.ofNat c ≠ 0 → MadeOf (bendF U ((2 + m) * 64 + p) (UInt8.ofNat c)) hd (some 11) k) ∧ hd < 65536 ∧ bits .and .i64 by' 63 = (p : Int) ∧ p < 64 ∧ m < k ∧ (UInt8.ofNat c).toNat = c) := Lib.hid ⟨md1, md2, hhd, hp1, by omega, hmk, hxc⟩
      have d12 := HB6.out.2.2.2.1.cell
      have d12a := cell_alloc (o := .cells #[.int .i64 0] 3) d12
      have hmi : (q0 : Int) % (k : Int) = (m : Int) := by omega
      clear ok hbf hbn hS0 hsz hBw kb hmq hmk hp' hp6 hp1 hxc md1 md2 hhd hSs hp hI hLg hb13 hg6 n1 n2 n3 n4 n5 HT HB5 c12 c11
      have hk0 : ((k : Int) == 0) = false := by rw [beq_eq_false_iff_ne]; have := HN.out.1; omega
      have hmk : (m : Int) < (k : Int) := by have := HMd.out.2.2.2.2.2.1; omega
      have hm0 : (0 : Int) ≤ (m : Int) := by omega
      go_upto_region 15 with fail
      go_cut [14] (fun v wx => ∃ x14, v = .pointer (some ⟨x14, 0, none⟩) ∧ Box x14 3 (.int .i64 (2 + (m : Int))) wx ∧ Grew (fun _ => False) w6 wx)
      case first =>
        go_region_with (go_at_call 48; (with_reducible refine (HAll.out _ (by first | exact (Grew.refl _).drew | exact ((Grew.refl _).alloc _).drew)).mono ?_); rintro e w7 ⟨a, cc, rfl, hcell, halt, hg7⟩; (first
          | (have y7 := (show Box w6.heap.size 3 (.int .i64 0) (w6.alloc (.cells #[.int .i64 0] 3)).drew from Box.new w6 3 (.int .i64 0)).keep hg7 (fun e => e); (have g1 := y7.cell); (have g2 := y7.free); (have HG7 := Lib.hid (And.intro (y7.set (.int .i64 (2 + (m : Int)))) (((((Grew.refl (S := fun _ => False) w6).alloc (.cells #[.int .i64 0] 3)).drew).trans hg7).setCell ⟨w6.heap.size, 0, none⟩ (.int .i64 (2 + (m : Int))) (fun e => absurd e (Nat.lt_irrefl _))))); clear y7 hg7)
          | ((have y7 := Box.new w7 3 (.int .i64 0)); (have g0 := (cell_alloc (o := .cells #[.int .i64 0] 3) hcell)); (have g1 := y7.cell); (have g2 := y7.free); (have HG7 := Lib.hid (And.intro (Box.new w7 3 (.int .i64 (2 + (m : Int)))) (((Grew.refl (S := fun _ => False) w6).drew.trans hg7).alloc (.cells #[.int .i64 (2 + (m : Int))] 3)))); clear y7 hg7)))
        all_goals
          go_wp2_with fail
          go_meet
          exact ⟨_, rfl, HG7.out⟩
      case rest =>
        obtain ⟨x14, rfl, hb14, hg7⟩ := hcut
        obtain ⟨q1, q2, q3, q4, q5, q6, q7⟩ := HB6.out
        obtain ⟨md1, md2, hhd, hp1, hp6, hmk', hxc⟩ := HMd.out
        have hk8 := HN.out.2
        have hc256 := HCl.out
        have hsz := HSz.out
        have hdk : ∀ q, DkOwn b.d b.bs b.bt q → W0.heap.size ≤ q ∧ q ≠ w2.heap.size ∧ q < x12 := fun q hq => by
          refine HS0.out q ?_
          rcases hq with rfl | rfl | rfl
          · exact ⟨6, by decide, rfl⟩
          · exact ⟨7, by decide, rfl⟩
          · exact ⟨8, by decide, rfl⟩
        have z1 := q1.keep hg7 fun e => e
        have z2 := q2.keep hg7 fun e => e
        have z3 := q3.keep hg7 fun e => e
        have z5 := q5.keep hg7 fun e => e
        have zb := hg7.below q6 q6.size fun _ e => e.elim
        have zd := q7.keep hg7 fun _ _ e => e
        have z2' : Box (w.heap.size + 1) 5 (.int .u8 ((UInt8.ofNat c).toNat : Int)) wc := by rw [hxc]; exact z2
        have hb14' : Box x14 3 (.int .i64 ((2 + m : Nat) : Int)) wc := by
          have e : ((2 + m : Nat) : Int) = 2 + (m : Int) := by omega
          rw [e]; exact hb14
        have HG2 := Lib.hid (spG2_any zd (2 + m) p (by omega) hp6 by' hp1 (UInt8.ofNat c) w2.heap.size x14 w.heap.size (w.heap.size + 1) z3 hb14' z1 z2')
        have h0x : UInt8.ofNat c = 0 ↔ c = 0 := by
          constructor
          · intro e; rw [e] at hxc; simpa using hxc.symm
          · rintro rfl; rfl
        have HM1 : Hid (c = 0 → MadeOf (bendF U ((2 + m) * 64 + p) (UInt8.ofNat c)) hd none k) := Lib.hid fun e => md1 (h0x.2 e)
        have HM2 : Hid (c ≠ 0 → MadeOf (bendF U ((2 + m) * 64 + p) (UInt8.ofNat c)) hd (some 11) k) := Lib.hid fun e => md2 fun h => e (h0x.1 h)
        generalize bendF U ((2 + m) * 64 + p) (UInt8.ofNat c) = V at *
        have HE8 : Hid (∀ w8, DK b.d b.bs b.bt 20 V w8 → Grew (DkOwn b.d b.bs b.bt) wc w8 → DK b.d b.bs b.bt 20 V (w8.alloc (.cells #[.slice none 0 0] 55)) ∧ Box w2.heap.size 41 (.pointer (some ⟨b.d, 0, none⟩)) (w8.alloc (.cells #[.slice none 0 0] 55)) ∧ Box (x12 + 1) 3 (.int .i64 (hd : Int)) (w8.alloc (.cells #[.slice none 0 0] 55)) ∧ Box w8.heap.size 55 (.slice none 0 0) (w8.alloc (.cells #[.slice none 0 0] 55)) ∧ Box (w.heap.size + 1) 5 (.int .u8 (c : Int)) (w8.alloc (.cells #[.slice none 0 0] 55)) ∧ Below w.heap.size w (w8.alloc (.cells #[.slice none 0 0] 55)) ∧ w.heap.size + 1 < w8.heap.size) := Lib.hid fun w8 hd8 hg8 => by
          have g9 : Grew (fun _ => False) w8 (w8.alloc (.cells #[.slice none 0 0] 55)) := (Grew.refl w8).alloc _
          have zb8 := hg8.below zb zb.size fun q hq => by have := hdk q hq; omega
          have hl := z2.lt
          have hl8 := hg8.size
          exact ⟨hd8.keep g9 fun _ _ e => e, (z3.keep hg8 fun e => by have := hdk _ e; omega).keepAlloc _, (z5.keep hg8 fun e => by have := hdk _ e; omega).keepAlloc _, Box.new w8 _ _, (z2.keep hg8 fun e => by have := hdk _ e; omega).keepAlloc _, g9.below zb8 zb8.size fun _ e => e.elim, by omega⟩
        have HHd := Lib.hid hhd
        clear q1 q2 q3 q4 q5 q6 q7 md1 md2 hhd hp1 hp6 hmk' hxc hsz hdk z1 z2 z3 z5 zb zd z2' hb14' h0x hb14 hg7 HB6 HMd HS0 HAll d12 d12a
        go_wp2_with fail
        refine HG2.out.mono ?_
        rintro e w8 ⟨rfl, hd8, hg8⟩
        have HE9 := Lib.hid (HE8.out w8 hd8 hg8)
        clear hd8 hg8 HE8
        go_upto_region 19 with fail
        generalize w8.alloc (.cells #[.slice none 0 0] 55) = W9 at *
        generalize w8.heap.size = x15 at *
        obtain ⟨v1, v2, v3, v4, v5, v6, v7⟩ := HE9.out
        have hhd := HHd.out
        by_cases hc0 : c = 0
        · have HG3 := Lib.hid (spG3_ok v1 hd hhd k (HM1.out hc0) w2.heap.size (x12 + 1) x15 v2 v3 v4)
          have HEnd : Hid (∀ w10 a cc, Box x15 55 (.slice a k cc) w10 → Grew (fun q => q = x15) W9 w10 → w10.cell? ⟨x15, 0, none⟩ = some (.slice a k cc) ∧ w10.cell? ⟨w.heap.size + 1, 0, none⟩ = some (.int .u8 (c : Int)) ∧ Below w.heap.size w w10) := Lib.hid fun w10 a cc hb hg => ⟨hb.cell, (v5.keep hg fun e => by omega).cell, hg.below v6 v6.size fun q e => by omega⟩
          have e0 : ((c : Int) == 0) = true := by rw [hc0]; rfl
          clear v1 v2 v3 v4 v5 v6 v7 hhd hc0 HE9
          go_wp2_with fail
          refine HG3.out.mono ?_
          rintro e w10 ⟨rfl, ⟨a, cc, hb10⟩, hg10⟩
          obtain ⟨k1, k2, k3⟩ := HEnd.out w10 a cc hb10 hg10
          have HB10 := Lib.hid k3
          clear hb10 hg10 k3 HEnd
          go_wp2_with fail
          go_ret
          exact ⟨rfl, HB10.out⟩
        · have HG3 := Lib.hid (spG3_bad v1 hd hhd k 11 (HM2.out hc0) w2.heap.size (x12 + 1) x15 v2 v3 v4)
          have HEnd : Hid (∀ w10, Grew (fun _ => False) W9 w10 → w10.cell? ⟨x15, 0, none⟩ = some (.slice none 0 0) ∧ w10.cell? ⟨w.heap.size + 1, 0, none⟩ = some (.int .u8 (c : Int)) ∧ Below w.heap.size w w10) := Lib.hid fun w10 hg => ⟨(v4.keep hg fun e => e).cell, (v5.keep hg fun e => e).cell, hg.below v6 v6.size fun q e => e.elim⟩
          have e0 : ((c : Int) == 0) = false := by rw [beq_eq_false_iff_ne]; omega
          clear v1 v2 v3 v4 v5 v6 v7 hhd hc0 HE9
          go_wp2_with fail
          refine HG3.out.mono ?_
          rintro e w10 ⟨rfl, hg10⟩
          obtain ⟨k1, k2, k3⟩ := HEnd.out w10 hg10
          have HB10 := Lib.hid k3
          clear hg10 k3 HEnd
          go_wp2_with fail
          go_ret
          exact ⟨rfl, HB10.out⟩
end Go.Proofs.Ytjjmapmombhmlaa
