/-
  Texts put together: NodeBack, CrcRef, NodeRefBytes, NodeInts, NodeRefParse, NodeLaw, NodeEq, ArrArg, NodeKids.
-/
import Derived.Test.YtheccbnejamhlaaDoorNodeReads
import Derived.Test.YtheccbnejamhlaaDoorCrcWalks
import Derived.Test.YtheccbnejamhlaaDoorPackRefNum
import Derived.Test.YtheccbnejamhlaaDoorNodeDigs
import Derived.Deep.AppendLies
import Derived.Laws.OwnMore
import Derived.OwnWalk
import Derived.BigRegion
import Derived.StillTailTactics
import Derived.Test.YtheccbnejamhlaaDoorBoxes
import Derived.Laws.ResultCell
import Derived.Laws.StructEq
import Derived.Test.YtheccbnejamhlaaDoorNodeSums
import Derived.ProofKit
import Derived.OpenShut
/-
  What a sealed text says of itself; a node's own bytes say what they were made of; with one byte another they don't.
-/
namespace Go.Proofs.YtheccbnejamhlaaDoor
open Go.RowKit

theorem ext_list (s : ByteArray) (a b : Nat) : (s.extract a b).data.toList = (s.data.toList.drop a).take (b - a) := by
  rw [ByteArray.data_extract, Array.toList_extract, List.extract_eq_take_drop]
theorem ext_end (s : ByteArray) (a : Nat) : (s.extract a s.size).data.toList = s.data.toList.drop a := by
  rw [ext_list, List.take_of_length_le]
  rw [List.length_drop]
  show s.data.toList.length - a ≤ s.size - a
  simp
theorem ahead_list (s : ByteArray) : (ahead s).data.toList = s.data.toList.take 60 := by
  unfold ahead
  rw [ext_list, List.drop_zero]
/-- a sealed text -/
def sealS (l : List UInt8) : ByteArray := ⟨(sealed l).toArray⟩
theorem sealS_list (l : List UInt8) : (sealS l).data.toList = sealed l := rfl
theorem sealed_len (l : List UInt8) (h : l.length ≤ 60) : (sealed l).length = 64 := by
  unfold sealed
  rw [List.length_append, padTo_len l h, enc_len]
theorem sealS_size (l : List UInt8) (h : l.length ≤ 60) : (sealS l).size = 64 := sealed_len l h
theorem sealS_ahead (l : List UInt8) (h : l.length ≤ 60) : (ahead (sealS l)).data.toList = padTo l := by
  rw [ahead_list, sealS_list]
  unfold sealed
  rw [List.take_append_of_le_length (by rw [padTo_len l h]; exact Nat.le_refl _), List.take_of_length_le (by rw [padTo_len l h]; exact Nat.le_refl _)]
theorem sealS_says (l : List UInt8) (h : l.length ≤ 60) : saysSum (sealS l) = C.Crc.sum (padTo l) := by
  unfold saysSum
  rw [ext_end, sealS_list]
  unfold sealed
  rw [show (60 : Nat) = (padTo l).length from (padTo_len l h).symm, List.drop_left, List.take_of_length_le (by rw [enc_len]; exact Nat.le_refl _), num_enc]
  exact Nat.mod_eq_of_lt (crc_lt _)
theorem sealS_ok (l : List UInt8) (h : l.length ≤ 60) : saysSum (sealS l) = C.Crc.sum (ahead (sealS l)).data.toList := by
  rw [sealS_says l h, sealS_ahead l h]
theorem num_inj {l k : List UInt8} (h : l.length = k.length) (e : num l = num k) : l = k := by
  have := num_eq l k h
  rw [e, decide_eq_true rfl] at this
  exact eq_of_beq this
/-- a text of 64 bytes that bears its sum, one byte of it another: it doesn't bear it -/
theorem turned_sum (s t : ByteArray) (p : Nat) (hp : p < 64) (hs : s.size = 64) (ht : t.size = 64) (h : saysSum s = C.Crc.sum (ahead s).data.toList)
    (hne : s.data.toList[p]? ≠ t.data.toList[p]?) (ho : ∀ j, j ≠ p → s.data.toList[j]? = t.data.toList[j]?) : saysSum t ≠ C.Crc.sum (ahead t).data.toList := by
  intro e
  have hsl : s.data.toList.length = 64 := by rw [← hs]; simp
  have htl : t.data.toList.length = 64 := by rw [← ht]; simp
  rw [ahead_list] at h e
  unfold saysSum at h e
  rw [ext_end] at h e
  generalize s.data.toList = S at *
  generalize t.data.toList = T at *
  by_cases hc : p < 60
  · have e1 : S.drop 60 = T.drop 60 := List.ext_getElem? fun j => by
      rw [List.getElem?_drop, List.getElem?_drop, ho (60 + j) (by omega)]
    have e2 : C.Crc.sum (S.take 60) = C.Crc.sum (T.take 60) := by rw [← h, ← e, e1]
    have cut : ∀ L : List UInt8, L.length = 64 → L.take 60 = L.take p ++ (L.drop p).take 1 ++ (L.drop (p + 1)).take (59 - p) := fun L hL => by
      rw [← List.take_append_drop p (L.take 60), List.take_take, List.append_assoc, Nat.min_eq_left (by omega), List.drop_take]
      congr 1
      rw [show 60 - p = 1 + (59 - p) by omega, List.take_add, List.drop_drop]
    rw [cut S hsl, cut T htl] at e2
    have f1 : S.take p = T.take p := List.ext_getElem? fun j => by
      by_cases hj : j < p
      · rw [List.getElem?_take_of_lt hj, List.getElem?_take_of_lt hj, ho j (by omega)]
      · rw [List.getElem?_take_eq_none (by omega), List.getElem?_take_eq_none (by omega)]
    have f3 : (S.drop (p + 1)) = (T.drop (p + 1)) := List.ext_getElem? fun j => by
      rw [List.getElem?_drop, List.getElem?_drop, ho (p + 1 + j) (by omega)]
    rw [f1, f3] at e2
    have g := C.Crc.sum_spoilt (T.take p) ((S.drop p).take 1) ((T.drop p).take 1) ((T.drop (p + 1)).take (59 - p)) (by rw [List.length_take, List.length_take, List.length_drop, List.length_drop, hsl, htl]) (by rw [List.length_take]; omega) e2
    have g0 := congrArg (fun l => l[0]?) g
    simp only [List.getElem?_take_of_lt (show 0 < 1 by omega), List.getElem?_drop, Nat.add_zero] at g0
    exact hne g0
  · have e1 : S.take 60 = T.take 60 := List.ext_getElem? fun j => by
      by_cases hj : j < 60
      · rw [List.getElem?_take_of_lt hj, List.getElem?_take_of_lt hj, ho j (by omega)]
      · rw [List.getElem?_take_eq_none (by omega), List.getElem?_take_eq_none (by omega)]
    rw [e1, ← e] at h
    have g := num_inj (by rw [List.length_take, List.length_take, List.length_drop, List.length_drop, hsl, htl]) h
    have g0 := congrArg (fun l => l[p - 60]?) g
    simp only [List.getElem?_take_of_lt (show p - 60 < 4 by omega), List.getElem?_drop, show 60 + (p - 60) = p by omega] at g0
    exact hne g0
/-- are these noughts? -/
def zeroB (l : List UInt8) : Bool := l.all (· == 0)
theorem zeroB_iff (r : ByteArray) : zeroB r.data.toList = true ↔ ∀ k (h : k < r.size), r[k] = 0 := by
  unfold zeroB
  rw [List.all_eq_true]
  constructor
  · intro h k hk
    have := h r[k] (Array.mem_toList_iff.2 (Array.getElem_mem (xs := r.data) hk))
    exact eq_of_beq this
  · intro h x hx
    obtain ⟨i, hi, rfl⟩ := Array.mem_iff_getElem.1 (Array.mem_toList_iff.1 hx)
    exact beq_iff_eq.2 (h i hi)
/-- the error of node.Parse -/
def parseE (s : ByteArray) (lv : Int) : Nat :=
  if s.size < 64 then 2
  else if saysSum s ≠ C.Crc.sum (ahead s).data.toList then 11
  else if 64 < s.size then 1
  else if (ahead s).data.toList.take 1 ≠ [78] then 1
  else if ((saysLevel (ahead s) : Nat) : Int) ≠ lv then 1
  else if zeroB ((ahead s).data.toList.drop 50) = true then 0 else 1
/-- the node that a text says -/
def nodeOf (s : ByteArray) : List Value := nodeL ((saysLevel (ahead s) : Nat) : Int) (kidsTo (ahead s) 8) (byteS (ahead s))
theorem parse_any (s : ByteArray) (lv : Int) (w : World) :
    Calls Tryd.prog 41 #[.string s, .int .i64 lv] w fun e w' => Below w.heap.size w w' ∧ (parseE s lv = 0 → e = .returned (.agg (nodeOf s).toArray)) ∧ (parseE s lv ≠ 0 → e = failed (parseE s lv : Nat)) := by
  have bad : ∀ k : Nat, k ≠ 0 → parseE s lv = k → (Calls Tryd.prog 41 #[.string s, .int .i64 lv] w fun e w' => e = failed (k : Int) ∧ Below w.heap.size w w') → _ := fun k hk he hc => hc.mono (R' := fun e w' => Below w.heap.size w w' ∧ (parseE s lv = 0 → e = .returned (.agg (nodeOf s).toArray)) ∧ (parseE s lv ≠ 0 → e = failed (parseE s lv : Nat))) (by
    rintro e w' ⟨rfl, hb⟩
    exact ⟨hb, fun h => absurd (he.symm.trans h) hk, fun _ => by rw [he]⟩)
  by_cases h1 : s.size < 64
  · refine bad 2 (by decide) (by unfold parseE; rw [if_pos h1]) (parse_open s lv 2 w fun wx => ?_)
    by_cases h2 : s.size < 60
    · exact sealOpen_short s wx h2
    · exact sealOpen_less s wx (by omega) h1
  by_cases h2 : saysSum s = C.Crc.sum (ahead s).data.toList
  case neg => exact bad 11 (by decide) (by unfold parseE; rw [if_neg h1, if_pos h2]) (parse_open s lv 11 w fun wx => sealOpen_sum s wx (by omega) h2)
  by_cases h3 : 64 < s.size
  · exact bad 1 (by decide) (by unfold parseE; rw [if_neg h1, if_neg (not_not_intro h2), if_pos h3]) (parse_open s lv 1 w fun wx => sealOpen_form s wx h3 h2)
  have h64 : s.size = 64 := by omega
  have hm0 : (ahead s).extract 0 1 = ⟨#[78]⟩ ↔ (ahead s).data.toList.take 1 = [78] := by
    constructor
    · intro h
      have := congrArg (fun x : ByteArray => x.data.toList) h
      rw [ext_list, List.drop_zero] at this
      exact this
    · intro h
      refine ByteArray.ext (Array.toList_inj.mp ?_)
      rw [ext_list, List.drop_zero]
      exact h
  by_cases h4 : (ahead s).data.toList.take 1 = [78]
  case neg => exact bad 1 (by decide) (by unfold parseE; rw [if_neg h1, if_neg (not_not_intro h2), if_neg h3, if_pos h4]) (parse_mark s lv w h64 h2 fun e => h4 (hm0.1 e))
  by_cases h5 : ((saysLevel (ahead s) : Nat) : Int) = lv
  case neg => exact bad 1 (by decide) (by unfold parseE; rw [if_neg h1, if_neg (not_not_intro h2), if_neg h3, if_neg (not_not_intro h4), if_pos h5]) (parse_level s lv w h64 h2 (hm0.2 h4) h5)
  subst h5
  have hz := zeroB_iff ((ahead s).extract 50 (ahead s).size)
  rw [ext_end] at hz
  have hE : parseE s ((saysLevel (ahead s) : Nat) : Int) = if zeroB ((ahead s).data.toList.drop 50) = true then 0 else 1 := by
    unfold parseE
    rw [if_neg h1, if_neg (not_not_intro h2), if_neg h3, if_neg (not_not_intro h4), if_neg (not_not_intro rfl)]
  refine (parse_last s w h64 h2 (hm0.2 h4)).mono ?_
  rintro e w' ⟨hb, hy, hn⟩
  refine ⟨hb, fun h => hy (hz.1 ?_), fun h => ?_⟩
  · rw [hE] at h
    by_cases q : zeroB ((ahead s).data.toList.drop 50) = true
    · exact q
    · rw [if_neg q] at h; exact absurd h (by decide)
  · rw [hE] at h ⊢
    by_cases q : zeroB ((ahead s).data.toList.drop 50) = true
    · rw [if_pos q] at h; exact absurd rfl h
    · rw [if_neg q]; exact hn fun x => q (hz.2 x)
theorem kidsT_at (kd : Nat → Nat) (j : Nat) : ∀ n, j < n → ((kidsT kd n).drop (2 * j)).take 2 = enc (kd j) 2
  | 0, h => absurd h (by omega)
  | n + 1, h => by
    unfold kidsT
    by_cases e : j = n
    · subst e
      rw [show 2 * j = (kidsT kd j).length from (kidsT_len kd j).symm, List.drop_left, List.take_of_length_le (by rw [enc_len]; exact Nat.le_refl _)]
    · rw [List.drop_append_of_le_length (by rw [kidsT_len]; omega), List.take_append_of_le_length (by rw [List.length_drop, kidsT_len]; omega)]
      exact kidsT_at kd j n (by omega)
theorem nodeP (l : Nat) (kd f : Nat → Nat) : padTo (nodeT l kd f) = [78] ++ (enc l 1 ++ (kidsT kd 8 ++ (txt f ++ List.replicate 10 0))) := by
  unfold padTo
  rw [nodeT_len]
  unfold nodeT
  simp only [List.append_assoc]
theorem own_level (l : Nat) (hl : l < 256) (kd f : Nat → Nat) : saysLevel (ahead (sealS (nodeT l kd f))) = l := by
  unfold saysLevel
  rw [ext_end, sealS_ahead _ (by rw [nodeT_len]; omega), nodeP]
  rw [show (1 : Nat) = ([78] : List UInt8).length from rfl, List.drop_left, List.take_append_of_le_length (by rw [enc_len]; exact Nat.le_refl _), List.take_of_length_le (by rw [enc_len]; exact Nat.le_refl _)]
  show num (enc l 1) = l
  rw [num_enc]
  omega
theorem own_kid (l : Nat) (kd f : Nat → Nat) (hk : ∀ j, kd j < 65536) (j : Nat) (hj : j < 8) : saysKid (ahead (sealS (nodeT l kd f))) j = kd j := by
  unfold saysKid
  rw [ext_end, sealS_ahead _ (by rw [nodeT_len]; omega), nodeP, show 2 + 2 * j = 1 + (1 + 2 * j) by omega]
  rw [← List.drop_drop, show List.drop 1 ([78] ++ (enc l 1 ++ (kidsT kd 8 ++ (txt f ++ List.replicate 10 0)))) = enc l 1 ++ (kidsT kd 8 ++ (txt f ++ List.replicate 10 0)) from rfl]
  have e1 : List.drop 1 (enc l 1 ++ (kidsT kd 8 ++ (txt f ++ List.replicate 10 0))) = kidsT kd 8 ++ (txt f ++ List.replicate 10 0) := by
    have h := List.drop_left (l₁ := enc l 1) (l₂ := kidsT kd 8 ++ (txt f ++ List.replicate 10 0))
    rwa [enc_len] at h
  rw [← List.drop_drop, e1, List.drop_append_of_le_length (by rw [kidsT_len]; omega), List.take_append_of_le_length (by rw [List.length_drop, kidsT_len]; omega), kidsT_at kd j 8 hj, num_enc]
  exact Nat.mod_eq_of_lt (hk j)
theorem nodeP50 (l : Nat) (kd f : Nat → Nat) : List.drop 18 (padTo (nodeT l kd f)) = txt f ++ List.replicate 10 0 := by
  rw [nodeP]
  have h := List.drop_left (l₁ := [78] ++ (enc l 1 ++ kidsT kd 8)) (l₂ := txt f ++ List.replicate 10 0)
  have hl18 : ([78] ++ (enc l 1 ++ kidsT kd 8)).length = 18 := by simp [enc_len, kidsT_len]
  rw [hl18] at h
  simp only [List.append_assoc] at h
  exact h
theorem own_byte (l : Nat) (kd f : Nat → Nat) (hf : ∀ j, f j < 256) (j : Nat) (hj : j < 32) : byteS (ahead (sealS (nodeT l kd f))) j = f j := by
  unfold byteS textS
  rw [ext_list, ext_end, sealS_ahead _ (by rw [nodeT_len]; omega), nodeP50, List.drop_zero, List.take_append_of_le_length (by rw [txt_len]; omega), List.take_of_length_le (by rw [txt_len]; omega)]
  unfold txt
  rw [List.getD_eq_getElem?_getD, List.getElem?_map, List.getElem?_range hj]
  show (UInt8.ofNat (f j)).toNat = f j
  rw [UInt8.toNat_ofNat']
  exact Nat.mod_eq_of_lt (hf j)
theorem kidsL_congr {f g : Nat → Nat} (h : ∀ j, j < 8 → f j = g j) : kidsL f = kidsL g := by
  refine List.ext_getElem? fun j => ?_
  by_cases hj : j < 8
  · rw [kidsL_at f j hj, kidsL_at g j hj, h j hj]
  · rw [List.getElem?_eq_none (by rw [kidsL_len]; omega), List.getElem?_eq_none (by rw [kidsL_len]; omega)]
theorem arr_congr {f g : Nat → Nat} (h : ∀ j, j < 32 → f j = g j) : arr f = arr g := by
  refine List.ext_getElem? fun j => ?_
  by_cases hj : j < 32
  · rw [arr_at f j hj, arr_at g j hj, h j hj]
  · rw [List.getElem?_eq_none (by rw [arr_len]; omega), List.getElem?_eq_none (by rw [arr_len]; omega)]
theorem own_node (l : Nat) (hl : l < 256) (kd f : Nat → Nat) (hk : ∀ j, kd j < 65536) (hf : ∀ j, f j < 256) : nodeOf (sealS (nodeT l kd f)) = nodeL (l : Int) kd f := by
  unfold nodeOf nodeL
  rw [own_level l hl kd f, kidsL_congr (g := kd) fun j hj => by unfold kidsTo; rw [if_pos hj, own_kid l kd f hk j hj], arr_congr (g := f) fun j hj => own_byte l kd f hf j hj]
theorem own_parse (l : Nat) (hl : l < 256) (kd f : Nat → Nat) (lv : Int) : parseE (sealS (nodeT l kd f)) lv = if (l : Int) = lv then 0 else 1 := by
  have hlen : (nodeT l kd f).length ≤ 60 := by rw [nodeT_len]; omega
  unfold parseE
  rw [if_neg (by rw [sealS_size _ hlen]; omega), if_neg (not_not_intro (sealS_ok _ hlen)), if_neg (by rw [sealS_size _ hlen]; omega), sealS_ahead _ hlen, if_neg (by rw [nodeP]; simp), own_level l hl kd f]
  have hz : zeroB ((padTo (nodeT l kd f)).drop 50) = true := by
    rw [show (50 : Nat) = 18 + 32 by omega, ← List.drop_drop, nodeP50]
    have h := List.drop_left (l₁ := txt f) (l₂ := List.replicate 10 0)
    rw [txt_len] at h
    rw [h]
    decide
  rw [if_pos hz]
  by_cases q : (l : Int) = lv
  · rw [if_neg (not_not_intro q), if_pos q]
  · rw [if_pos q, if_neg q]
theorem turned_parse (l : List UInt8) (hl : l.length ≤ 60) (t : ByteArray) (p : Nat) (hp : p < 64) (ht : t.size = 64) (hne : (sealed l)[p]? ≠ t.data.toList[p]?) (ho : ∀ j, j ≠ p → (sealed l)[j]? = t.data.toList[j]?) (lv : Int) : parseE t lv = 11 := by
  unfold parseE
  rw [if_neg (by omega), if_pos (turned_sum (sealS l) t p hp (sealS_size l hl) ht (sealS_ok l hl) hne ho)]
end Go.Proofs.YtheccbnejamhlaaDoor

/-
  The document's own sum of a text.
-/
namespace Go.Proofs.YtheccbnejamhlaaDoor.C
open Go.RowKit

theorem xor_i64 (a b : Nat) (ha : a < 4294967296) (hb : b < 4294967296) : bits .xor .i64 (a : Int) (b : Int) = ((a ^^^ b : Nat) : Int) := by
  have hx := Crc.xor_lt a b ha hb
  have h1 : (BitVec.ofInt 64 (a : Int)).toNat = a := by
    rw [BitVec.ofInt_natCast, BitVec.toNat_ofNat]; exact Nat.mod_eq_of_lt (by omega)
  have h2 : (BitVec.ofInt 64 (b : Int)).toNat = b := by
    rw [BitVec.ofInt_natCast, BitVec.toNat_ofNat]; exact Nat.mod_eq_of_lt (by omega)
  show IntKind.i64.wrap ((BitVec.ofInt 64 (a : Int) ^^^ BitVec.ofInt 64 (b : Int)).toNat : Int) = _
  rw [BitVec.toNat_xor, h1, h2]
  simp only [IntKind.wrap, IntKind.bits, IntKind.signed]
  simp
  omega

theorem xor_byte64 (X : Nat) (b : UInt8) (h : X < 4294967296) : bits .xor .i64 (X : Int) (wrap64 (b.toNat : Int)) = ((X ^^^ b.toNat : Nat) : Int) := by
  have hb := b.toNat_lt
  rw [show wrap64 (b.toNat : Int) = (b.toNat : Int) from by unfold wrap64; omega]
  exact xor_i64 X b.toNat h (by omega)
theorem xor_poly64 (X : Nat) (h : X < 4294967296) : bits .xor .i64 ((X : Int) / 2) 2197175160 = ((X / 2 ^^^ 2197175160 : Nat) : Int) := by
  have e := xor_i64 (X / 2) 2197175160 (by omega) (by omega)
  have d : ((X / 2 : Nat) : Int) = (X : Int) / 2 := by omega
  rw [d] at e
  exact e

set_option maxHeartbeats 400000 in
theorem ref_any (s : ByteArray) (w : World) (hs : s.size ≤ maxLen) :
    Calls Tryd.prog 23 #[.string s] w fun e w' => e = .returned (.int .i64 (Crc.sum s.data.toList)) ∧ w = w' := by
  unfold maxLen at hs
  go_enter Tryd.func23, Tryd.ntmps23
  go_wp2
  go_loop [3, 4] (fun t i => ∃ k : Nat, k ≤ s.size ∧ i = .int .i64 k ∧ t = .int .i64 (Crc.add 4294967295 (s.data.toList.take k))) (fun _ i => s.size - (intOf i).toNat)
  case atStart => exact ⟨0, by omega, rfl, rfl⟩
  case round =>
    obtain ⟨k, hk, rfl, rfl⟩ := hrel
    have hm := Crc.add_lt 4294967295 (s.data.toList.take k) (by decide)
    by_cases hlt : k < s.size
    · have ho : Crc.add 4294967295 (s.data.toList.take (k + 1)) = Crc.step (Crc.add 4294967295 (s.data.toList.take k) ^^^ (s[k]).toNat) := by rw [take_snoc s k hlt, Crc.add_snoc]
      have HO := Lib.hid ho
      clear ho
      generalize Crc.add 4294967295 (s.data.toList.take k) = X at hm HO
      have hp : bits .xor .i64 (X : Int) (wrap64 ((s[k]).toNat : Int)) = ((X ^^^ (s[k]).toNat : Nat) : Int) := xor_byte64 X s[k] hm
      have hl := Crc.xor_lt X (s[k]).toNat hm (Crc.byte_lt _)
      generalize X ^^^ (s[k]).toNat = Y at hp hl HO
      go_wp2
      go_loop [3, 5] (fun t i => ∃ j : Nat, j ≤ 8 ∧ i = .int .i64 j ∧ t = .int .i64 (Crc.many j Y)) (fun _ i => 8 - (intOf i).toNat)
      case atStart => exact ⟨0, by omega, rfl, rfl⟩
      case round =>
        obtain ⟨j, hj, rfl, rfl⟩ := hrel
        have hz := Crc.many_lt j Y hl
        by_cases hjt : j < 8
        · have hq : Crc.many (j + 1) Y = Crc.one (Crc.many j Y) := rfl
          have HQ := Lib.hid hq
          clear hq
          generalize Crc.many j Y = Z at hz HQ
          have hx := xor_poly64 Z hz
          by_cases hb : Z % 2 = 1
          · have hd : (((Z : Int) % 2) == 1) = true := by simp; omega
            go_wp2
            go_round
            case rel => exact ⟨j + 1, by omega, by go_num, by rw [HQ.out]; unfold Crc.one; rw [if_pos hb]⟩
            case measure => simp [intOf]; omega
          · have hd : (((Z : Int) % 2) == 1) = false := by simp; omega
            go_wp2
            go_round
            case rel => exact ⟨j + 1, by omega, by go_num, by rw [HQ.out]; unfold Crc.one; rw [if_neg hb]; go_num⟩
            case measure => simp [intOf]; omega
        · obtain rfl : j = 8 := by omega
          go_wp2
          go_round
          case rel => exact ⟨k + 1, by omega, by go_num, by rw [HO.out]; rfl⟩
          case measure => simp [intOf]; omega
    · have HT : Hid (s.data.toList.take k = s.data.toList) := Lib.hid (List.take_of_length_le (by simp; omega))
      go_wp2
      go_ret
      exact ⟨ret_int (by rw [HT.out] at hm ⊢; unfold Crc.sum; omega), rfl⟩
end Go.Proofs.YtheccbnejamhlaaDoor.C

/-
  The document's own bytes of a node.
-/
namespace Go.Proofs.YtheccbnejamhlaaDoor
open Go.RowKit

/-- kids in a row that was handed in -/
def KidsAt (b : Nat) (kd : Nat → Nat) (w : World) : Prop := ∀ j, j < 8 → w.cell? ⟨b, j, none⟩ = some (.int .i64 (kd j : Nat))
theorem KidsAt.below {b : Nat} {kd : Nat → Nat} {w w' : World} (h : KidsAt b kd w) (k : Below w.heap.size w w') : KidsAt b kd w' := fun i hi => by rw [k.cell (cell_lt (h i hi))]; exact h i hi
/-- the text on its way -/
def refP (l : Nat) (kd : Nat → Nat) (k : Nat) : ByteArray := ⟨([78] ++ enc l 1 ++ kidsT kd k).toArray⟩
theorem refP_size (l : Nat) (kd : Nat → Nat) (k : Nat) : (refP l kd k).size = 2 + 2 * k := by
  show ([78] ++ enc l 1 ++ kidsT kd k).length = _
  simp [enc_len, kidsT_len]
  omega
theorem refP_next (l : Nat) (kd : Nat → Nat) (k : Nat) : refP l kd k ++ ⟨(enc (kd k) 2).toArray⟩ = refP l kd (k + 1) := by
  apply ByteArray.ext
  apply Array.toList_inj.mp
  rw [ByteArray.data_append, Array.toList_append]
  show [78] ++ enc l 1 ++ kidsT kd k ++ enc (kd k) 2 = [78] ++ enc l 1 ++ (kidsT kd k ++ enc (kd k) 2)
  rw [List.append_assoc]
/-- and with noughts behind it -/
def refF (l : Nat) (kd f : Nat → Nat) (k : Nat) : ByteArray := ⟨(nodeT l kd f ++ List.replicate k 0).toArray⟩
theorem refF_size (l : Nat) (kd f : Nat → Nat) (k : Nat) : (refF l kd f k).size = 50 + k := by
  show (nodeT l kd f ++ List.replicate k 0).length = _
  rw [List.length_append, nodeT_len, List.length_replicate]
theorem refF_zero (l : Nat) (kd f : Nat → Nat) : refP l kd 8 ++ ⟨(txt f).toArray⟩ = refF l kd f 0 := by
  apply ByteArray.ext
  apply Array.toList_inj.mp
  rw [ByteArray.data_append, Array.toList_append]
  show [78] ++ enc l 1 ++ kidsT kd 8 ++ txt f = nodeT l kd f ++ []
  rw [List.append_nil]
  rfl
theorem refF_next (l : Nat) (kd f : Nat → Nat) (k : Nat) : refF l kd f k ++ ⟨#[0]⟩ = refF l kd f (k + 1) := by
  apply ByteArray.ext
  apply Array.toList_inj.mp
  rw [ByteArray.data_append, Array.toList_append]
  show nodeT l kd f ++ List.replicate k 0 ++ [0] = nodeT l kd f ++ List.replicate (k + 1) 0
  rw [List.append_assoc, List.replicate_succ']
theorem refF_last (l : Nat) (kd f : Nat → Nat) : (refF l kd f 10).data.toList = padTo (nodeT l kd f) := by
  show nodeT l kd f ++ List.replicate 10 0 = _
  unfold padTo
  rw [nodeT_len]
theorem refF_sealed (l : Nat) (kd f : Nat → Nat) : refF l kd f 10 ++ ⟨(enc (C.Crc.sum (padTo (nodeT l kd f))) 4).toArray⟩ = sealS (nodeT l kd f) := by
  apply ByteArray.ext
  apply Array.toList_inj.mp
  rw [ByteArray.data_append, Array.toList_append, refF_last]
  rfl
theorem add_str (a b c : ByteArray) (h : a ++ b = c) (hs : a.size + b.size ≤ maxLen) (wx : World) : (Op.stringOp .add a b).run Tryd.prog wx = .ok (.string c) wx := by
  rw [run_string_add_sum wx _ _ hs, h]
theorem enc_size (a n : Nat) : (⟨(enc a n).toArray⟩ : ByteArray).size = n := enc_len a n
set_option maxRecDepth 100000 in
set_option maxHeartbeats 4000000 in
theorem refNodeBytes_any (l : Nat) (hl : l < 256) (kd f : Nat → Nat) (hk : ∀ j, kd j < 65536) (b cap : Nat) (w : World) (hr : KidsAt b kd w) :
    Calls Tryd.prog 20 #[.int .i64 (l : Int), .slice (some ⟨b, 0, none⟩) 8 cap, .string ⟨(txt f).toArray⟩] w fun e w' => e = .returned (.string (sealS (nodeT l kd f))) ∧ Below w.heap.size w w' := by
  have u1 := u32_as_u64 l (by omega)
  have HN1 := Lib.hid fun wx => refNum_any l 1 wx (by omega)
  rw [wid1] at HN1
  have ha : ∀ wx : World, (Op.stringOp .add ⟨#[78]⟩ ⟨(enc l 1).toArray⟩).run Tryd.prog wx = .ok (.string (refP l kd 0)) wx := add_str _ _ _ (by
    apply ByteArray.ext
    apply Array.toList_inj.mp
    rw [ByteArray.data_append, Array.toList_append]
    show [78] ++ enc l 1 = [78] ++ enc l 1 ++ []
    rw [List.append_nil]) (by rw [enc_size]; decide)
  have HNk := Lib.hid fun k wx => refNum_any (kd k) 2 wx (by have := hk k; omega)
  rw [wid2] at HNk
  have HPn : Hid (∀ k, k < 8 → ∀ wx : World, (Op.stringOp .add (refP l kd k) ⟨(enc (kd k) 2).toArray⟩).run Tryd.prog wx = .ok (.string (refP l kd (k + 1))) wx) := Lib.hid fun k hk => add_str _ _ _ (refP_next l kd k) (by rw [refP_size, enc_size]; unfold maxLen; omega)
  have HTz : (⟨(txt f).toArray⟩ : ByteArray).size = 32 := txt_len f
  have HF0 : ∀ wx : World, (Op.stringOp .add (refP l kd 8) ⟨(txt f).toArray⟩).run Tryd.prog wx = .ok (.string (refF l kd f 0)) wx := add_str _ _ _ (refF_zero l kd f) (by rw [refP_size, HTz]; decide)
  have HFn : Hid (∀ k, k < 10 → ∀ wx : World, (Op.stringOp .add (refF l kd f k) ⟨#[0]⟩).run Tryd.prog wx = .ok (.string (refF l kd f (k + 1))) wx) := Lib.hid fun k hk => add_str _ _ _ (refF_next l kd f k) (by have h1 : (⟨#[0]⟩ : ByteArray).size = 1 := rfl; rw [refF_size, h1]; unfold maxLen; omega)
  have HFs := Lib.hid (refF_size l kd f)
  have HCr : Hid (∀ wx : World, Calls Tryd.prog 23 #[.string (refF l kd f 10)] wx fun e w' => e = .returned (.int .i64 (C.Crc.sum (padTo (nodeT l kd f)) : Nat)) ∧ wx = w') := Lib.hid fun wx => by
    have h := C.ref_any (refF l kd f 10) wx (by rw [refF_size]; decide)
    rw [refF_last] at h
    exact h
  have hc := crc_lt (padTo (nodeT l kd f))
  have u4 := u32_as_u64 (C.Crc.sum (padTo (nodeT l kd f))) hc
  have HN4 := Lib.hid fun wx => refNum_any (C.Crc.sum (padTo (nodeT l kd f))) 4 wx (by omega)
  rw [wid4] at HN4
  have HL : ∀ wx : World, (Op.stringOp .add (refF l kd f 10) ⟨(enc (C.Crc.sum (padTo (nodeT l kd f))) 4).toArray⟩).run Tryd.prog wx = .ok (.string (sealS (nodeT l kd f))) wx := add_str _ _ _ (refF_sealed l kd f) (by rw [refF_size, enc_size]; decide)
  have HR := Lib.hid hr
  have HB0 := Lib.hid (Below.refl w.heap.size w)
  have HKd := Lib.hid hk
  generalize C.Crc.sum (padTo (nodeT l kd f)) = K at *
  generalize sealS (nodeT l kd f) = SS at *
  generalize (⟨(enc l 1).toArray⟩ : ByteArray) = e1 at *
  generalize (⟨(enc K 4).toArray⟩ : ByteArray) = e4 at *
  generalize (⟨(txt f).toArray⟩ : ByteArray) = T at *
  generalize refF l kd f = RF at *
  clear hr hk hl
  go_enter Tryd.func20, Tryd.ntmps20
  go_wp2_with fail
  refine (HN1.out _).mono ?_
  rintro e w1 ⟨rfl, hb1⟩
  have HB1 := Lib.hid hb1
  have HR1 := Lib.hid (HR.out.below hb1)
  clear hb1 HN1 HR HB0
  go_wp2_with fail
  go_loopw [7, 16] (fun s i wx => ∃ k : Nat, k ≤ 8 ∧ i = .int .i64 (k : Int) ∧ s = .string (refP l kd k) ∧ KidsAt b kd wx ∧ Below w.heap.size w wx) (fun _ i _ => 8 - (intOf i).toNat)
  case atStart => exact ⟨0, by omega, rfl, rfl, HR1.out, HB1.out⟩
  case round =>
    obtain ⟨k, hk, rfl, rfl, hr, hb⟩ := hrel
    have HRr := Lib.hid hr
    have HBr := Lib.hid hb
    clear hr hb HB1 HR1
    by_cases hlt : k < 8
    · have i0 : (k : Int) < 8 := by omega
      have i1 : (0 : Int) ≤ (k : Int) := by omega
      have hcell := HRr.out k hlt
      have hadd := HPn.out k hlt
      have u2 := u32_as_u64 (kd k) (by have := HKd.out k; omega)
      have HNq := Lib.hid (HNk.out k)
      have HK := Lib.hid hlt
      clear hlt hk HNk HPn HKd HF0 HL ha
      generalize kd k = q at *
      generalize (⟨(enc q 2).toArray⟩ : ByteArray) = e2 at *
      generalize refP l kd k = P0 at *
      obtain ⟨P1, hP1⟩ : ∃ P1, refP l kd (k + 1) = P1 := ⟨_, rfl⟩
      rw [hP1] at hadd
      have HP1 := Lib.hid hP1
      clear hP1
      go_wp2_with fail
      refine (HNq.out _).mono ?_
      rintro e w2 ⟨rfl, hb2⟩
      have HR2 := Lib.hid (HRr.out.below hb2)
      have HB2 := Lib.hid (HBr.out.trans (hb2.mono HBr.out.size))
      clear hb2
      go_wp2_with fail
      go_roundw
      case rel => exact ⟨k + 1, by have := HK.out; omega, by go_num, by rw [HP1.out], HR2.out, HB2.out⟩
      case measure => simp [intOf]; have := HK.out; omega
    · have i0 : ¬ (k : Int) < 8 := by omega
      obtain rfl : k = 8 := by omega
      clear HNk HPn HKd hlt hk ha HRr
      generalize refP l kd 8 = P8 at *
      go_wp2_with fail
      go_loop [7] (fun s => ∃ k : Nat, k ≤ 10 ∧ s = .string (RF k)) (fun s => 10 - ((match s with | .string x => x.size | _ => 0) - 50))
      case atStart => exact ⟨0, by omega, rfl⟩
      case round =>
        obtain ⟨k, hk, rfl⟩ := hrel
        have hz := HFs.out k
        by_cases hlt : k < 10
        · have i0 : ((50 + k : Nat) : Int) < 60 := by omega
          have hadd := HFn.out k hlt
          obtain ⟨F0, hF0⟩ : ∃ F0, RF k = F0 := ⟨_, rfl⟩
          have hz1 := HFs.out (k + 1)
          obtain ⟨F1, hF1⟩ : ∃ F1, RF (k + 1) = F1 := ⟨_, rfl⟩
          rw [hF0] at hz hadd ⊢
          rw [hF1] at hadd hz1
          have HF1 := Lib.hid hF1
          have HZ := Lib.hid hz
          have HZ1 := Lib.hid hz1
          have hzi : (F0.size : Int) = ((50 + k : Nat) : Int) := by omega
          clear hF0 hF1 hz hz1
          go_wp2_with fail
          go_round
          case rel => exact ⟨k + 1, by omega, by rw [HF1.out]⟩
          case measure => show 10 - (F1.size - 50) < 10 - (F0.size - 50); have := HZ.out; have := HZ1.out; omega
        · obtain rfl : k = 10 := by omega
          have i0 : ¬ ((60 : Nat) : Int) < 60 := by omega
          have HZ := Lib.hid hz
          generalize RF 10 = F10 at *
          have hzi : (F10.size : Int) = 60 := by have := HZ.out; omega
          clear hz
          go_wp2_with fail
          refine (HCr.out _).mono ?_
          rintro e w3 ⟨rfl, rfl⟩
          go_wp2_with fail
          refine (HN4.out _).mono ?_
          rintro e w4 ⟨rfl, hb4⟩
          have HB4 := Lib.hid (HBr.out.trans (hb4.mono HBr.out.size))
          clear hb4
          go_wp2_with fail
          go_ret
          exact ⟨rfl, HB4.out⟩
end Go.Proofs.YtheccbnejamhlaaDoor

/-
  Rows of numbers that grow: append of numbers, and where the new row lies.
-/
namespace Go.Proofs.YtheccbnejamhlaaDoor
open Go.RowKit

def natsOf (l : List Nat) : List Value := l.map fun s : Nat => Value.int .i64 (s : Nat)
theorem infoInt8 : (Tryd.prog.info? 3).map (fun i => (i.zero, i.size, i.bytes)) = some (some (.int .i64 0), 1, 8) := by kernel_rfl
/-- what an append of texts leaves: the row, what else has turned, where it lies -/
structure MoreInts (w : World) (B : Nat) (v : Value) (l k : List Nat) (g cap : Nat) (w' : World) : Prop where
  own : w'.ownsRow B 3 1 (.slice (some ⟨g, 0, none⟩) (l.length + k.length) cap) (l.length + k.length) (natsOf (l ++ k))
  grown : w.grownBy w' v.ownBlock
  lies : v.ownBlock = some g ∨ g = w.heap.size
  lt : g < w'.heap.size
theorem wpList_more_ints {w : World} {ops : Array Oper} {rest : List Oper} {o : Oper} {a : Act} {Q : Exit → Act → World → Prop} (hgd : o.guard = none) (s x : Operand)
    (ho : o.op = .call { callee := .builtin .append, args := #[s, x], argTypes := #[35, 35] })
    (B : Nat) (v : Value) (l k : List Nat) (hs : a.eval s = v) (n : Nat) (hn : l.length = n) (hown : w.ownsRow B 3 1 v n (natsOf l)) (b m c : Nat) (hx : a.eval x = .slice (some ⟨b, 0, none⟩) m c) (hm : k.length = m)
    (hk : ∀ i (h : i < k.length), w.cell? ⟨b, i, none⟩ = some (.int .i64 (k[i] : Nat))) (h0 : 0 < m) (hl : n + m < 1000000) (hB : B ≤ w.heap.size)
    (h : ∀ g cap w', MoreInts w B v l k g cap w' → wpList Tryd.prog ops Q rest (a.put o.dst (.slice (some ⟨g, 0, none⟩) (n + m) cap)) w') : wpList Tryd.prog ops Q (o :: rest) a w := by
  subst hn hm
  obtain ⟨i0, hi, hz0, hz1, hz2⟩ := info_parts infoInt8
  refine wpList_append_lies w hgd s x 35 ho B 3 i0 (.int .i64 0) 1 8 Tryd.underlying35 hi hz0 hz1 hz2 rfl (by decide) v _ _ hs hown ⟨b, 0, none⟩ k.length c (natsOf k) hx (by simp [natsOf]) (fun j u hu => ?_) (fun u hu => ?_) h0 (by unfold maxLen; omega) (by omega) hB _ rfl fun g cap w' h1 h2 h3 h4 => h g cap w' ⟨?_, h2, h3, h4⟩
  · unfold natsOf at hu
    rw [List.getElem?_map] at hu
    by_cases hj : j < k.length
    · rw [List.getElem?_eq_getElem hj] at hu
      rw [Addr.add_lit]
      have := hk j hj
      simp only [Option.map_some, Option.some.injEq] at hu
      rw [← hu]
      simpa using this
    · rw [List.getElem?_eq_none (by omega)] at hu
      simp at hu
  · unfold natsOf at hu
    obtain ⟨t, _, rfl⟩ := List.mem_map.1 hu
    rfl
  · have e : natsOf (l ++ k) = natsOf l ++ natsOf k := by simp [natsOf]
    rw [e]
    exact h1
theorem one_int (w : World) (t : Nat) : ∀ i (h : i < [t].length), (w.alloc (.cells #[.int .i64 (t : Nat)] 3)).cell? ⟨w.heap.size, i, none⟩ = some (.int .i64 ([t][i] : Nat)) := fun i h => by
  have : i = 0 := by simpa using h
  subst this
  exact boxNew rfl
theorem MoreInts.below {w W w' : World} {B C : Nat} {v : Value} {l k : List Nat} {g cap n : Nat} {xs : List Value} (h : MoreInts w B v l k g cap w') (hb : Below C W w) (ho : w.ownsRow B 3 1 v n xs) (hC : C ≤ B) (hs : C ≤ w.heap.size) : Below C W w' :=
  hb.grown h.grown hs (fun q hq => Nat.le_trans hC (ho.lt q hq).1)
theorem own_noneI (w : World) : (w.alloc (.cells #[] 3)).ownsRow w.heap.size 3 1 (.slice (some ⟨w.heap.size, 0, none⟩) 0 0) 0 (natsOf []) := World.ownsRow_lit (base := w.heap.size) (e := 3) (size := 1) w #[] 0 (Nat.le_refl _) (by decide) rfl
/-- the first numbers of a row -/
def numsL (kd : Nat → Nat) (k : Nat) : List Nat := (List.range k).map kd
theorem numsL_len (kd : Nat → Nat) (k : Nat) : (numsL kd k).length = k := by simp [numsL]
theorem numsL_next (kd : Nat → Nat) (k : Nat) : numsL kd k ++ [kd k] = numsL kd (k + 1) := by
  unfold numsL
  rw [List.range_succ, List.map_append]
  rfl
theorem own_kids {wx : World} {B : Nat} {v : Value} {kd : Nat → Nat} (ht : wx.ownsRow B 3 1 v 8 (natsOf (numsL kd 8))) : ∃ g cap, v = .slice (some ⟨g, 0, none⟩) 8 cap ∧ KidsAt g kd wx ∧ B ≤ g := by
  rcases ht.2 with ⟨_, h0⟩ | ⟨g, cap, cur, rfl, hb, hg, _⟩
  · cases h0
  · refine ⟨g, cap, rfl, fun i hi => ?_, hb⟩
    rw [ht.cellAt i (by omega)]
    simp [natsOf, numsL, hi]
theorem own_keptI {w w' : World} {B n : Nat} {t : TypeId} {v : Value} {xs : List Value} (h : w.ownsRow B t 1 v n xs) (k : Below w.heap.size w w') : w'.ownsRow B t 1 v n xs :=
  own_kept h fun q hq => k.block q (own_block_lt h q hq).2
end Go.Proofs.YtheccbnejamhlaaDoor

/-
  The document's own Parse of a node: of any text.
-/
namespace Go.Proofs.YtheccbnejamhlaaDoor
open Go.RowKit

theorem list_len (s : ByteArray) : s.data.toList.length = s.size := by simp
theorem take_two (l : List UInt8) (a : Nat) (h : a + 1 < l.length) : (l.drop a).take 2 = [l[a], l[a + 1]] := by
  rw [List.drop_eq_getElem_cons (by omega), List.take_succ_cons, List.drop_eq_getElem_cons (by omega), List.take_succ_cons, List.take_zero]
theorem take_one (l : List UInt8) (a : Nat) (h : a < l.length) : (l.drop a).take 1 = [l[a]] := by
  rw [List.drop_eq_getElem_cons (by omega), List.take_succ_cons, List.take_zero]
theorem says_mark (s : ByteArray) (h : 64 ≤ s.size) : (ahead s).data.toList.take 1 = [s[0]] := by
  have hl := list_len s
  rw [ahead_list, List.take_take, show min 1 60 = 1 from rfl]
  have := take_one s.data.toList 0 (by omega)
  rw [List.drop_zero] at this
  exact this
theorem says_level (s : ByteArray) (h : 64 ≤ s.size) : saysLevel (ahead s) = (s[1]).toNat := by
  have hl := list_len s
  unfold saysLevel
  rw [ext_end, ahead_list, List.drop_take, List.take_take, show min 1 (60 - 1) = 1 from rfl, take_one _ _ (by omega)]
  show num [s[1]] = _
  simp [num]
theorem says_kid (s : ByteArray) (h : 64 ≤ s.size) (k : Nat) (hk : k < 8) : saysKid (ahead s) k = 256 * (s[2 + 2 * k]).toNat + (s[3 + 2 * k]).toNat := by
  have hl := list_len s
  unfold saysKid
  rw [ext_end, ahead_list, List.drop_take, List.take_take, Nat.min_eq_left (by omega), take_two _ _ (by omega)]
  show num [s[2 + 2 * k], s[2 + 2 * k + 1]] = _
  have e : s[2 + 2 * k + 1] = s[3 + 2 * k] := by congr 1; omega
  rw [e]
  simp [num]
  omega
theorem says_zero (s : ByteArray) (h : 64 ≤ s.size) : zeroB ((ahead s).data.toList.drop 50) = true ↔ ∀ j (_ : j < s.size), 50 ≤ j → j < 60 → s[j] = 0 := by
  have hl := list_len s
  rw [ahead_list]
  unfold zeroB
  rw [List.all_eq_true]
  constructor
  · intro q j hj h1 h2
    have hm : s[j] ∈ List.drop 50 (List.take 60 s.data.toList) := by
      rw [List.mem_iff_getElem]
      refine ⟨j - 50, by rw [List.length_drop, List.length_take]; omega, ?_⟩
      rw [List.getElem_drop, List.getElem_take]
      show s.data.toList[50 + (j - 50)] = s.data.toList[j]
      congr 1
      omega
    exact eq_of_beq (q _ hm)
  · intro q x hx
    obtain ⟨i, hi, rfl⟩ := List.mem_iff_getElem.1 hx
    rw [List.length_drop, List.length_take] at hi
    rw [List.getElem_drop, List.getElem_take, beq_iff_eq]
    exact q (50 + i) (by omega) (by omega) (by omega)
theorem says_text (s : ByteArray) (h : 64 ≤ s.size) : s.extract 18 50 = ⟨(txt (byteS (ahead s))).toArray⟩ := by
  have hl := list_len s
  apply ByteArray.ext
  apply Array.toList_inj.mp
  rw [ext_list]
  show (s.data.toList.drop 18).take (50 - 18) = txt (byteS (ahead s))
  have e : (textS (ahead s)).data.toList = (s.data.toList.drop 18).take 32 := by
    unfold textS
    rw [ext_list, ext_end, ahead_list, List.drop_zero, List.drop_take, List.take_take]
    rfl
  refine List.ext_getElem? fun j => ?_
  unfold txt byteS
  rw [e]
  by_cases hj : j < 32
  · rw [List.getElem?_map, List.getElem?_range hj]
    simp only [Option.map_some]
    rw [List.getD_eq_getElem?_getD, List.getElem?_take_of_lt (by omega)]
    have hlt : j < (s.data.toList.drop 18).length := by rw [List.length_drop]; omega
    rw [List.getElem?_eq_getElem hlt]
    simp
  · rw [List.getElem?_eq_none (by rw [List.length_take]; omega), List.getElem?_eq_none (by simp; omega)]
theorem says_sum (s : ByteArray) (h : 64 ≤ s.size) (K : Nat) (hK : K < 4294967296) : ((⟨(enc K 4).toArray⟩ : ByteArray).toList == (s.extract 60 64).toList) = decide (saysSum s = K) := by
  have hl := list_len s
  rw [ByteArray.toList_eq, ByteArray.toList_eq, ext_list]
  show (enc K 4 == (s.data.toList.drop 60).take 4) = _
  rw [num_eq _ _ (by rw [enc_len, List.length_take, List.length_drop]; omega), num_enc]
  unfold saysSum
  rw [ext_end, Nat.mod_eq_of_lt (by omega)]
  exact decide_eq_decide.2 ⟨fun e => e.symm, fun e => e.symm⟩
theorem w64_byte (b : UInt8) : wrap64 (b.toNat : Int) = (b.toNat : Int) := by
  have := b.toNat_lt
  unfold wrap64
  omega
theorem refParse_short (s : ByteArray) (hs : s.size < 64) (lv : Int) (w : World) :
    Calls Tryd.prog 24 #[.string s, .int .i64 lv] w fun e w' => e = .returned (.tuple #[.slice none 0 0, .string ⟨#[]⟩, .int .i64 2]) ∧ Below w.heap.size w w' := by
  go_enter Tryd.func24, Tryd.ntmps24
  go_wp2_with fail
  exact bodyPost_ret (v := .tuple #[.slice none 0 0, .string ⟨#[]⟩, .int .i64 2]) (by simp [results, Tryd.results24, go_sem]) rfl ⟨rfl, Below.refl _ _⟩
/-- what the document's Parse answers -/
def RpPost (w : World) (PE : Nat) (KD : Nat → Nat) (TX : ByteArray) (e : Ending) (w' : World) : Prop :=
  Below w.heap.size w w' ∧ (PE ≠ 0 → e = .returned (.tuple #[.slice none 0 0, .string ⟨#[]⟩, .int .i64 (PE : Nat)])) ∧
    (PE = 0 → ∃ g cap, e = .returned (.tuple #[.slice (some ⟨g, 0, none⟩) 8 cap, .string TX, .int .i64 0]) ∧ KidsAt g KD w' ∧ w.heap.size ≤ g)
theorem RpPost.bad {w : World} {PE : Nat} {KD : Nat → Nat} {TX : ByteArray} {w' : World} (k : Nat) (hk : k ≠ 0) (hE : PE = k) (hb : Below w.heap.size w w') : RpPost w PE KD TX (.returned (.tuple #[.slice none 0 0, .string ⟨#[]⟩, .int .i64 (k : Nat)])) w' :=
  ⟨hb, fun _ => by rw [hE], fun h => absurd (hE.symm.trans h) hk⟩
set_option maxRecDepth 100000 in
set_option maxHeartbeats 400000 in
theorem refParse_long (s : ByteArray) (h64 : 64 ≤ s.size) (hs : s.size ≤ maxLen) (lv : Int) (w : World) :
    Calls Tryd.prog 24 #[.string s, .int .i64 lv] w fun e w' => RpPost w (parseE s lv) (saysKid (ahead s)) ⟨(txt (byteS (ahead s))).toArray⟩ e w' := by
  unfold maxLen at hs
  have HC := Lib.hid fun wx => C.ref_any (s.extract 0 60) wx (by have := ahead_size s (by omega); unfold ahead at this; rw [this]; decide)
  have hA : C.Crc.sum (ahead s).data.toList = C.Crc.sum (s.extract 0 60).data.toList := rfl
  have hK := crc_lt (s.extract 0 60).data.toList
  have hcmp := says_sum s h64 _ hK
  have uK := u32_as_u64 _ hK
  have HN := Lib.hid fun wx => refNum_any (C.Crc.sum (s.extract 0 60).data.toList) 4 wx (by omega)
  rw [wid4] at HN
  have HM := Lib.hid (says_mark s h64)
  have HLv := Lib.hid (says_level s h64)
  have HKd := Lib.hid (says_kid s h64)
  have HZ := Lib.hid (says_zero s h64)
  have HTX := Lib.hid (says_text s h64)
  obtain ⟨ii, hi, hz0, hz1, hz2⟩ := info_parts infoInt8
  have HI0 := Lib.hid hi
  have HI1 := Lib.hid hz0
  have HI2 := Lib.hid hz1
  have HI3 := Lib.hid hz2
  clear hi hz0 hz1 hz2
  have HP : Hid (parseE s lv = if saysSum s ≠ C.Crc.sum (s.extract 0 60).data.toList then 11 else if 64 < s.size then 1 else if (ahead s).data.toList.take 1 ≠ [78] then 1 else if ((saysLevel (ahead s) : Nat) : Int) ≠ lv then 1 else if zeroB ((ahead s).data.toList.drop 50) = true then 0 else 1) := Lib.hid (by
    unfold parseE
    rw [if_neg (by omega), hA])
  clear hA
  obtain ⟨PE, hPE⟩ : ∃ PE, parseE s lv = PE := ⟨_, rfl⟩
  rw [hPE] at HP ⊢
  clear hPE
  generalize C.Crc.sum (s.extract 0 60).data.toList = K at *
  generalize (⟨(enc K 4).toArray⟩ : ByteArray) = e4 at *
  generalize (⟨(txt (byteS (ahead s))).toArray⟩ : ByteArray) = TX at *
  generalize saysLevel (ahead s) = L at *
  generalize saysSum s = SM at *
  generalize (ahead s).data.toList.take 1 = M at *
  generalize zeroB ((ahead s).data.toList.drop 50) = ZB at *
  generalize saysKid (ahead s) = KD at *
  go_enter Tryd.func24, Tryd.ntmps24
  go_wp2_with fail
  go_cut [20] (fun v wx => v = .bool (!(decide (SM = K))) ∧ Below w.heap.size w wx)
  case first =>
    clear HM HLv HKd HZ HP HTX
    generalize decide (SM = K) = EQ at *
    go_region_with (first
      | (go_at_call 23; (with_reducible refine (HC.out _).mono ?_); rintro e w' ⟨rfl, rfl⟩)
      | (go_at_call 22; (with_reducible refine (HN.out _).mono ?_); rintro e w2 ⟨rfl, hb2⟩; (have HB2 := Lib.hid hb2); clear hb2))
    all_goals
      go_wp2_with fail
      go_meet
      exact ⟨rfl, (Below.refl w.heap.size w).drew.trans HB2.out⟩
  case rest =>
    obtain ⟨rfl, hb⟩ := hcut
    have HB := Lib.hid hb
    clear hb HC HN hcmp uK hK
    by_cases c0 : SM = K
    case neg =>
      have HE : Hid (PE = 11) := Lib.hid (by rw [HP.out, if_pos c0])
      rw [decide_eq_false c0]
      clear HP HM HLv HKd HZ HTX
      go_wp2_with fail
      exact bodyPost_ret (v := .tuple #[.slice none 0 0, .string ⟨#[]⟩, .int .i64 11]) (by simp [results, Tryd.results24, go_sem]) rfl (RpPost.bad 11 (by decide) HE.out HB.out)
    rw [decide_eq_true c0]
    have HP1 : Hid (PE = if 64 < s.size then 1 else if M ≠ [78] then 1 else if (L : Int) ≠ lv then 1 else if ZB = true then 0 else 1) := Lib.hid (by rw [HP.out, if_neg (not_not_intro c0)])
    clear HP c0
    have HLv' := Lib.hid HLv.out
    obtain ⟨g, hg⟩ : ∃ g : Nat → UInt8, ∀ j (h : j < s.size), s[j] = g j := ⟨fun j => s.data.toList.getD j 0, fun j h => by
      show s[j] = s.data.toList.getD j 0
      rw [List.getD_eq_getElem?_getD, List.getElem?_eq_getElem (by rw [list_len]; exact h)]
      rfl⟩
    have HM1 : Hid (M = [g 0]) := Lib.hid (by rw [HM.out, hg 0 (by omega)])
    have HL1 : Hid (L = (g 1).toNat) := Lib.hid (by rw [HLv.out, hg 1 (by omega)])
    have HK1 : Hid (∀ k, k < 8 → KD k = 256 * (g (2 + 2 * k)).toNat + (g (3 + 2 * k)).toNat) := Lib.hid fun k hk => by rw [HKd.out k hk, hg _ (by omega), hg _ (by omega)]
    have HZ1 : Hid (ZB = true ↔ ∀ j, 50 ≤ j → j < 60 → g j = 0) := Lib.hid (HZ.out.trans ⟨fun h j h1 h2 => by rw [← hg j (by omega)]; exact h j (by omega) h1 h2, fun h j hj h1 h2 => by rw [hg j hj]; exact h j h1 h2⟩)
    have HG := Lib.hid hg
    have hg0 : s[0] = g 0 := hg 0 (by omega)
    have hg1 : s[1] = g 1 := hg 1 (by omega)
    have hw1 := w64_byte (g 1)
    clear hg HM HLv HKd HZ HLv'
    by_cases c1 : 64 < s.size
    · have HE : Hid (PE = 1) := Lib.hid (by rw [HP1.out, if_pos c1])
      have i1 : (64 : Int) < (s.size : Int) := by omega
      clear HP1 HM1 HL1 HK1 HZ1
      go_wp2_with fail
      exact bodyPost_ret (v := .tuple #[.slice none 0 0, .string ⟨#[]⟩, .int .i64 1]) (by simp [results, Tryd.results24, go_sem]) rfl (RpPost.bad 1 (by decide) HE.out HB.out)
    have i1 : ¬ (64 : Int) < (s.size : Int) := by omega
    by_cases c2 : g 0 = 78
    case neg =>
      have HE : Hid (PE = 1) := Lib.hid (by rw [HP1.out, if_neg c1, if_pos (by rw [HM1.out]; intro e; exact c2 (List.cons.inj e).1)])
      have i2 : (((g 0).toNat : Int) != 78) = true := by
        rw [bne_iff_ne]
        intro e
        exact c2 (UInt8.toNat_inj.1 (by show (g 0).toNat = 78; omega))
      clear HP1 HM1 HL1 HK1 HZ1
      go_wp2_with fail
      exact bodyPost_ret (v := .tuple #[.slice none 0 0, .string ⟨#[]⟩, .int .i64 1]) (by simp [results, Tryd.results24, go_sem]) rfl (RpPost.bad 1 (by decide) HE.out HB.out)
    have HP2 : Hid (PE = if (L : Int) ≠ lv then 1 else if ZB = true then 0 else 1) := Lib.hid (by rw [HP1.out, if_neg c1, if_neg (not_not_intro (by rw [HM1.out, c2]))])
    have i2 : (((g 0).toNat : Int) != 78) = false := by rw [c2]; rfl
    clear HP1 HM1
    by_cases c3 : (L : Int) = lv
    case neg =>
      have HE : Hid (PE = 1) := Lib.hid (by rw [HP2.out, if_pos c3])
      have i3 : (((g 1).toNat : Int) != lv) = true := by rw [bne_iff_ne, ← HL1.out]; exact c3
      clear HP2 HL1 HK1 HZ1 c2
      go_wp2_with fail
      exact bodyPost_ret (v := .tuple #[.slice none 0 0, .string ⟨#[]⟩, .int .i64 1]) (by simp [results, Tryd.results24, go_sem]) rfl (RpPost.bad 1 (by decide) HE.out HB.out)
    have HP3 : Hid (PE = if ZB = true then 0 else 1) := Lib.hid (by rw [HP2.out, if_neg (not_not_intro c3)])
    have i3 : (((g 1).toNat : Int) != lv) = false := by rw [bne_eq_false_iff_eq, ← HL1.out]; exact c3
    clear HP2 HL1 c2 c3
    go_wp2_with fail
    clear i2 i3 hg0 hg1 hw1
    go_loop [7] (fun i => ∃ k : Nat, 50 ≤ k ∧ k ≤ 60 ∧ i = .int .i64 (k : Int) ∧ ∀ j, 50 ≤ j → j < k → g j = 0) (fun i => 60 - (intOf i).toNat)
    case atStart => exact ⟨50, by omega, by omega, rfl, fun j h1 h2 => absurd h2 (by omega)⟩
    case round =>
      obtain ⟨k, hk0, hk, rfl, hzk⟩ := hrel
      have HZk := Lib.hid hzk
      clear hzk
      by_cases hlt : k < 60
      · have i0 : (k : Int) < 60 := by omega
        have i4 : (0 : Int) ≤ (k : Int) := by omega
        have hks : k < s.size := by omega
        have hgk : s[k] = g k := HG.out k hks
        by_cases hz : g k = 0
        · have i5 : (((g k).toNat : Int) != 0) = false := by rw [hz]; rfl
          have HZn : Hid (∀ j, 50 ≤ j → j < k + 1 → g j = 0) := Lib.hid fun j h1 h2 => by
            by_cases e : j = k
            · rw [e, hz]
            · exact HZk.out j h1 (by omega)
          clear hz
          go_wp2_with fail
          go_round
          case rel => exact ⟨k + 1, by omega, by omega, by go_num, HZn.out⟩
          case measure => simp [intOf]; omega
        · have i5 : (((g k).toNat : Int) != 0) = true := by
            rw [bne_iff_ne]
            intro e
            exact hz (UInt8.toNat_inj.1 (by show (g k).toNat = 0; omega))
          have HE : Hid (PE = 1) := Lib.hid (by rw [HP3.out, if_neg (fun h => hz ((HZ1.out.1 h) k hk0 hlt))])
          clear hz HP3 HK1 HZ1
          go_wp2_with fail
          exact bodyPost_ret (v := .tuple #[.slice none 0 0, .string ⟨#[]⟩, .int .i64 1]) (by simp [results, Tryd.results24, go_sem]) rfl (RpPost.bad 1 (by decide) HE.out HB.out)
      · have i0 : ¬ (k : Int) < 60 := by omega
        obtain rfl : k = 60 := by omega
        have HE : Hid (PE = 0) := Lib.hid (by rw [HP3.out, if_pos (HZ1.out.2 HZk.out)])
        clear HP3 HZ1 HZk hlt hk hk0
        have HT : Hid (s.extract 18 50 = TX) := HTX
        go_wp2_with fail
        have HO0 := Lib.hid (own_noneI wc)
        have HB0 := Lib.hid (HB.out.alloc HB.out.size (.cells #[] 3))
        have HS0 := Lib.hid (show wc.heap.size ≤ (wc.alloc (.cells #[] 3)).heap.size by simp)
        have HL0 := Lib.hid HB.out.size
        clear HB
        generalize wc.alloc (.cells #[] 3) = W at *
        generalize wc.heap.size = B at *
        go_loopw [8, 9] (fun v i wx => ∃ k : Nat, k ≤ 8 ∧ i = .int .i64 (k : Int) ∧ wx.ownsRow B 3 1 v k (natsOf (numsL KD k)) ∧ Below w.heap.size w wx ∧ B ≤ wx.heap.size) (fun _ i _ => 8 - (intOf i).toNat)
        case atStart => exact ⟨0, by omega, rfl, HO0.out, HB0.out, HS0.out⟩
        case round =>
          obtain ⟨k, hk, rfl, hown, hb, hs'⟩ := hrel
          have HO := Lib.hid hown
          have HBk := Lib.hid hb
          have HSk := Lib.hid hs'
          clear hown hb hs' HO0 HB0 HS0
          by_cases hlt : k < 8
          · have i0 : (k : Int) < 8 := by omega
            obtain ⟨p, hp⟩ : ∃ p, 2 * k = p := ⟨_, rfl⟩
            obtain ⟨q, hq⟩ : ∃ q, 2 + p = q := ⟨_, rfl⟩
            obtain ⟨r, hr⟩ : ∃ r, 3 + p = r := ⟨_, rfl⟩
            have f1 : IntKind.i64.wrap (2 * (k : Int)) = (p : Int) := by rw [IntWalk.i64_in _ (by omega)]; omega
            have f2 : IntKind.i64.wrap (2 + (p : Int)) = (q : Int) := by rw [IntWalk.i64_in _ (by omega)]; omega
            have f3 : IntKind.i64.wrap (3 + (p : Int)) = (r : Int) := by rw [IntWalk.i64_in _ (by omega)]; omega
            have j0 : q < s.size := by omega
            have j1 : r < s.size := by omega
            have hga : s[q] = g q := HG.out _ j0
            have hgb : s[r] = g r := HG.out _ j1
            have HKk : Hid (KD k = 256 * (g q).toNat + (g r).toNat) := Lib.hid (by rw [HK1.out k hlt, hp, hq, hr])
            have HK := Lib.hid hlt
            have b0 : (q : Int) < (s.size : Int) := by omega
            have b1 : (r : Int) < (s.size : Int) := by omega
            have c0 : (0 : Int) ≤ (q : Int) := by omega
            have c1' : (0 : Int) ≤ (r : Int) := by omega
            clear hp hq hr hlt
            generalize g q = ga at *
            generalize g r = gb at *
            have la := ga.toNat_lt
            have lb := gb.toNat_lt
            obtain ⟨x, hx⟩ : ∃ x, 256 * ga.toNat = x := ⟨_, rfl⟩
            obtain ⟨y, hy⟩ : ∃ y, x + gb.toNat = y := ⟨_, rfl⟩
            have fa : IntKind.i64.wrap (ga.toNat : Int) = (ga.toNat : Int) := IntWalk.i64_in _ (by omega)
            have fb : IntKind.i64.wrap (gb.toNat : Int) = (gb.toNat : Int) := IntWalk.i64_in _ (by omega)
            have f4 : IntKind.i64.wrap (256 * (ga.toNat : Int)) = (x : Int) := by rw [IntWalk.i64_in _ (by omega)]; omega
            have f5 : IntKind.i64.wrap ((x : Int) + (gb.toNat : Int)) = (y : Int) := by rw [IntWalk.i64_in _ (by omega)]; omega
            have HKy : Hid (KD k = y) := Lib.hid (by rw [HKk.out, hx, hy])
            clear HKk hx hy
            have HOa : Hid (((wr.alloc (.cells #[.int .i64 (y : Int)] 3)).drew).ownsRow B 3 1 u8 k (natsOf (numsL KD k))) := Lib.hid (own_keptI HO.out ((((Below.refl _ wr).alloc (Nat.le_refl _) _)).drew))
            have HBa : Hid (Below w.heap.size w ((wr.alloc (.cells #[.int .i64 (y : Int)] 3)).drew)) := Lib.hid ((HBk.out.alloc HBk.out.size _).drew)
            have HNa : Hid (∀ j u, [Value.int .i64 (y : Int)][j]? = some u → ((wr.alloc (.cells #[.int .i64 (y : Int)] 3)).drew).cell? ((⟨wr.heap.size, 0, none⟩ : Addr).add j) = some u) := Lib.hid (news_onep wr _ _)
            have HCa : Hid (∀ u ∈ [Value.int .i64 (y : Int)], u.oneCell' = true) := Lib.hid (by intro u hu; simp at hu; subst hu; rfl)
            have HM1 : Hid (k + 1 ≤ maxLen) := Lib.hid (by unfold maxLen; have := HK.out; omega)
            have HM2 : Hid ((k + 1) * 8 ≤ 140737488355328) := Lib.hid (by have := HK.out; omega)
            have HSa : Hid (B ≤ ((wr.alloc (.cells #[.int .i64 (y : Int)] 3)).drew).heap.size) := Lib.hid (Nat.le_trans HSk.out (by simp))
            go_wp2_with fail
            go_region_law ((refine step_append_lies _ rfl (.tmp 49) (.tmp 64) 35 rfl B 3 ii (.int .i64 0) 1 8 Tryd.underlying35 HI0.out HI1.out HI2.out HI3.out rfl (by decide) u8 k (natsOf (numsL KD k)) rfl HOa.out ⟨wr.heap.size, 0, none⟩ 1 1 [.int .i64 (y : Int)] rfl rfl HNa.out HCa.out (by decide) HM1.out HM2.out HSa.out _ rfl ?_); (intro g1 cap1 w1 hs1 hg1 hat hlt'))
            all_goals
              have HO1 := Lib.hid hs1
              have HB1 := Lib.hid (HBa.out.grown hg1 HBa.out.size (fun z hz => by have := (own_block_lt HOa.out z hz).1; have := HL0.out; omega))
              have HS1 := Lib.hid (Nat.le_trans HSa.out hg1.size)
              clear hs1 hg1 hat hlt'
              go_wp2_with fail
              go_roundw
              case rel => exact ⟨k + 1, by have := HK.out; omega, by go_num, by have := HO1.out; rw [← numsL_next, HKy.out]; simpa [natsOf] using this, HB1.out, HS1.out⟩
              case measure => simp [intOf]; have := HK.out; omega
          · have i0 : ¬ (k : Int) < 8 := by omega
            obtain rfl : k = 8 := by omega
            obtain ⟨g1, cap1, rfl, hkd, hg1⟩ := own_kids HO.out
            have HKd := Lib.hid hkd
            have HGl := Lib.hid hg1
            have htx := HTX.out
            have h18 : (18 : Int) ≤ 50 := by decide
            have h50 : (50 : Int) ≤ (s.size : Int) := by omega
            clear hkd hg1
            go_wp2_with fail
            go_region
            go_wp2_with fail
            exact bodyPost_ret (v := .tuple #[.slice (some ⟨g1, 0, none⟩) 8 cap1, .string TX, .int .i64 0]) (by simp [results, Tryd.results24, go_sem]) rfl ⟨HBk.out.drew, fun h => absurd HE.out h, fun _ => ⟨g1, cap1, rfl, HKd.out, Nat.le_trans HL0.out HGl.out⟩⟩
end Go.Proofs.YtheccbnejamhlaaDoor

/-
  The law's own Parse of a node, in a Guard: a contract.
-/
namespace Go.Proofs.YtheccbnejamhlaaDoor
open Go.RowKit

/-- the node that the law's Parse answers -/
def parsedN (s : ByteArray) (lv : Int) : List Value := if parseE s lv = 0 then nodeOf s else nodeL 0 (fun _ => 0) (fun _ => 0)
theorem parsedN_len (s : ByteArray) (lv : Int) : (parsedN s lv).length = 41 := by
  unfold parsedN
  split
  · exact nodeL_len _ _ _
  · exact nodeL_len _ _ _
theorem parsedN_one (s : ByteArray) (lv : Int) : (parsedN s lv).toArray.all (·.oneCell') = true := by
  unfold parsedN
  split
  · exact nodeL_one _ _ _
  · exact nodeL_one _ _ _
/-- its error -/
def parseO (s : ByteArray) (lv : Int) : Option Int := if parseE s lv = 0 then none else some ((parseE s lv : Nat) : Int)
theorem parseO_get (s : ByteArray) (lv : Int) : (parseO s lv).getD 0 = (parseE s lv : Nat) := by
  unfold parseO
  split
  · next h => rw [h]; rfl
  · rfl
theorem Grew.row {S : Nat → Prop} {a w : World} (h : Grew S a w) (c o : Nat) (l : List Value) (hc : c < a.heap.size → S c) : Grew S a (w.setCells c o l) :=
  have b : Below c w (w.setCells c o l) := below_row (Below.refl c w) l (Nat.le_refl c)
  h.step (T := fun k => k = c) ⟨b.os, b.tape, b.output, b.size, fun k hk hs => World.heap_setCells_other w c o l hk hs⟩ fun x hx e => by
    subst e
    exact hc hx
theorem done_only (b : Nat) (o : Option Int) (w : World) : Grew (fun k => k = b) w (done b o w) := by
  cases o with
  | none => exact (Grew.refl w).setCell _ _ fun _ => rfl
  | some k => exact ((Grew.refl (S := fun k => k = b) w).setCell ⟨b, 0, none⟩ _ fun _ => rfl).alloc _
theorem results_two_mid {fn : Func} {p u : Tmp} {ty : TypeId} {P : Program} (h : fn.results = #[.cell p ty, .tmp u]) (tmps : Array Value) (w : World) (g : Nat) (l : List Value) (d : TypeDesc)
    (hp : tmps.getD p undef = .pointer (some ⟨g, 0, none⟩)) (hr : w.rangeAt g 0 l) (hu : P.underlying ty = some d) (hd : d.isRow = true) (hi : (P.info? ty).map (·.size) = some l.length) :
    (results fn tmps).run P w = .ok (.tuple #[.agg l.toArray, tmps.getD u undef]) w := by
  rw [results_cell_tmp h, hp]
  simp only [asAddr, Sem.run_pure, Result.andThen_ok, run_loadVar_mid w g 0 ty l d hr hu hd hi]
theorem Cells.fill {c n : Nat} {f : Nat → Value} {w : World} {N : List Value} (h : Cells c n f w) (hn : N.length = n) : Cells c n (cellsAt N) (w.setCells c 0 N) :=
  h.row N (cellsAt N) hn fun j hj => cellsAt_get N j (by omega)
theorem lawParse1_any (s : ByteArray) (lv : Int) (a b c : Nat) (w : World) (ca : w.cell? ⟨a, 0, none⟩ = some (.string s)) (cb : w.cell? ⟨b, 0, none⟩ = some (.int .i64 lv)) (cc : Cells c 41 (cellsAt (nodeL 0 (fun _ => 0) (fun _ => 0))) w) :
    Calls Tryd.prog 40 #[.pointer (some ⟨a, 0, none⟩), .pointer (some ⟨b, 0, none⟩), .pointer (some ⟨c, 0, none⟩)] w fun e w' => e = Ends (parseO s lv) ∧ Cells c 41 (cellsAt (parsedN s lv)) w' ∧ Grew (fun k => k = c) w w' := by
  have HP := Lib.hid fun wx => parse_any s lv wx
  have HC := Lib.hid cc
  clear cc
  by_cases hE : parseE s lv = 0
  · have e1 : parseO s lv = none := by unfold parseO; rw [if_pos hE]
    have e2 : parsedN s lv = nodeOf s := by unfold parsedN; rw [if_pos hE]
    have HE := Lib.hid hE
    rw [e1, e2]
    clear hE e1 e2
    obtain ⟨N, hN⟩ : ∃ N, nodeOf s = N := ⟨_, rfl⟩
    have HNl : Hid (N.length = 41) := Lib.hid (by rw [← hN]; exact nodeL_len _ _ _)
    have HNo : Hid (N.toArray.all (·.oneCell') = true) := Lib.hid (by rw [← hN]; exact nodeL_one _ _ _)
    have HIN : Hid ((Tryd.prog.info? 34).map (·.size) = some N.toArray.size) := Lib.hid (by rw [List.size_toArray, HNl.out]; kernel_rfl)
    rw [hN] at HP ⊢
    clear hN
    go_enter Tryd.func40, Tryd.ntmps40
    go_wp2_with fail
    refine (HP.out _).mono ?_
    rintro e w1 ⟨hb, hok, _⟩
    obtain rfl := hok HE.out
    have HB := Lib.hid hb
    have HC1 := Lib.hid (HC.out.below hb)
    clear hb hok
    have HTh : Hid (w1.there c 0 N.toArray.size) := Lib.hid (HC1.out.there 0 _ (by have := HNl.out; simp [this]))
    go_wp2_with (with_reducible refine wpList_store_mid rfl 34 _ _ rfl c 0 N.toArray rfl rfl HTh.out HIN.out HNo.out ?_)
    go_end0
    exact ⟨rfl, HC1.out.fill HNl.out, (Grew.of_below HB.out).row c 0 N fun _ => rfl⟩
  · have e1 : parseO s lv = some ((parseE s lv : Nat) : Int) := by unfold parseO; rw [if_neg hE]
    have e2 : parsedN s lv = nodeL 0 (fun _ => 0) (fun _ => 0) := by unfold parsedN; rw [if_neg hE]
    have HE := Lib.hid hE
    rw [e1, e2]
    clear hE e1 e2
    go_enter Tryd.func40, Tryd.ntmps40
    go_wp2_with fail
    refine (HP.out _).mono ?_
    rintro e w1 ⟨hb, _, hno⟩
    obtain rfl := hno HE.out
    have HB := Lib.hid hb
    have HC1 := Lib.hid (HC.out.below hb)
    clear hb hno
    unfold failed
    go_wp2_with fail
    exact ⟨rfl, rfl, HC1.out, Grew.of_below HB.out⟩
theorem node0_cells (w : World) : Cells w.heap.size 41 (cellsAt (nodeL 0 (fun _ => 0) (fun _ => 0))) (w.alloc (.cells (nodeL 0 (fun _ => 0) (fun _ => 0)).toArray 34)) :=
  Cells.new w 41 _ 34 _ fun j hj => by rw [List.getElem?_toArray]; exact cellsAt_get _ j (by rw [nodeL_len]; exact hj)
set_option maxRecDepth 100000 in
set_option maxHeartbeats 1000000 in
theorem lawParse_any (s : ByteArray) (lv : Int) (w : World) :
    Calls Tryd.prog 19 #[.string s, .int .i64 lv] w fun e w' => e = .returned (.tuple #[.agg (parsedN s lv).toArray, .int .i64 (parseE s lv : Nat)]) ∧ Below w.heap.size w w' := by
  have hmf : ∀ (fn : Fn) (first cap : Array Value) (w : World), (Instr.makeFunc fn first cap).run Tryd.prog w = .ok (.func fn first cap) w := fun _ _ _ _ => rfl
  have HAl := alloc_node
  obtain ⟨W, hW⟩ : ∃ W, (((w.alloc (.cells #[.string s] 9)).alloc (.cells #[.int .i64 lv] 3)).alloc (.cells (nodeL 0 (fun _ => 0) (fun _ => 0)).toArray 34)).alloc (.cells (nodeL 0 (fun _ => 0) (fun _ => 0)).toArray 34) = W := ⟨_, rfl⟩
  have g0 : ∀ S, Grew S w W := fun S => by rw [← hW]; exact ((((Grew.refl w).alloc _).alloc _).alloc _).alloc _
  have hsz : W.heap.size = w.heap.size + 4 := by rw [← hW]; simp
  have s1 : (w.alloc (.cells #[.string s] 9)).heap.size = w.heap.size + 1 := by simp
  have s2 : ((w.alloc (.cells #[.string s] 9)).alloc (.cells #[.int .i64 lv] 3)).heap.size = w.heap.size + 2 := by simp
  have s3 : (((w.alloc (.cells #[.string s] 9)).alloc (.cells #[.int .i64 lv] 3)).alloc (.cells (nodeL 0 (fun _ => 0) (fun _ => 0)).toArray 34)).heap.size = w.heap.size + 3 := by simp
  have ca : W.cell? ⟨w.heap.size, 0, none⟩ = some (.string s) := by rw [← hW]; exact boxOld (boxOld (boxOld (boxNew rfl) (by simp)) (by simp; omega)) (by simp; omega)
  have cb : W.cell? ⟨w.heap.size + 1, 0, none⟩ = some (.int .i64 lv) := by rw [← hW]; exact boxOld (boxOld (boxNew s1) (by omega)) (by omega)
  have cr : Cells (w.heap.size + 2) 41 (cellsAt (nodeL 0 (fun _ => 0) (fun _ => 0))) W := by
    rw [← hW, ← s2]
    exact (node0_cells _).alloc _
  have cn : Cells (w.heap.size + 3) 41 (cellsAt (nodeL 0 (fun _ => 0) (fun _ => 0))) W := by
    rw [← hW, ← s3]
    exact node0_cells _
  have HG : Hid (Calls Tryd.prog 39 #[.func (.func 40) #[] #[.pointer (some ⟨w.heap.size, 0, none⟩), .pointer (some ⟨w.heap.size + 1, 0, none⟩), .pointer (some ⟨w.heap.size + 3, 0, none⟩)]] W fun e w' => e = .returned (.int .i64 (parseE s lv : Nat)) ∧ Cells (w.heap.size + 3) 41 (cellsAt (parsedN s lv)) w' ∧ Cells (w.heap.size + 2) 41 (cellsAt (nodeL 0 (fun _ => 0) (fun _ => 0))) w' ∧ Below w.heap.size w w') := by
    refine Lib.hid ((guard_grew 40 #[.pointer (some ⟨w.heap.size, 0, none⟩), .pointer (some ⟨w.heap.size + 1, 0, none⟩), .pointer (some ⟨w.heap.size + 3, 0, none⟩)] W (fun k => k = w.heap.size + 3) (fun o w1 => o = parseO s lv ∧ Cells (w.heap.size + 3) 41 (cellsAt (parsedN s lv)) w1) (by omega) (fun _ => by kernel_rfl) ?_).mono ?_)
    · have g1 : Grew (fun _ => False) W (W.alloc errBox) := (Grew.refl W).alloc _
      refine (lawParse1_any s lv w.heap.size (w.heap.size + 1) (w.heap.size + 3) _ (by rw [g1.cell (p := ⟨w.heap.size, 0, none⟩) (by show w.heap.size < _; omega) fun e => e]; exact ca) (by rw [g1.cell (p := ⟨w.heap.size + 1, 0, none⟩) (by show w.heap.size + 1 < _; omega) fun e => e]; exact cb) (cn.alloc _)).mono ?_
      rintro e w' ⟨rfl, hq, hg⟩
      exact ⟨_, rfl, hg, rfl, hq⟩
    · rintro e w' ⟨o, w1, rfl, ⟨rfl, hq⟩, rfl, hg, hlt⟩
      have gd := done_only W.heap.size (parseO s lv) w1
      refine ⟨by rw [parseO_get], hq.block (gd.block _ (by omega) (by omega)) gd.size, cr.block (hg.block _ (by omega) (by omega)) hg.size, ?_⟩
      exact hg.below ((g0 fun _ => False).below (Below.refl _ _) (Nat.le_refl _) fun _ x => x.elim) (by omega) fun k e => by omega
  rw [← hW] at HG
  clear hW g0 ca cb cr cn hsz s1 s2 s3
  obtain ⟨N, hN⟩ : ∃ N, parsedN s lv = N := ⟨_, rfl⟩
  have HNl : Hid (N.length = 41) := Lib.hid (by rw [← hN]; exact parsedN_len _ _)
  have HNo : Hid (N.toArray.all (·.oneCell') = true) := Lib.hid (by rw [← hN]; exact parsedN_one _ _)
  have HIN : Hid ((Tryd.prog.info? 34).map (·.size) = some N.toArray.size) := Lib.hid (by rw [List.size_toArray, HNl.out]; kernel_rfl)
  have HIN2 : Hid ((Tryd.prog.info? 34).map (·.size) = some N.length) := Lib.hid (by rw [HNl.out]; kernel_rfl)
  rw [hN] at HG ⊢
  clear hN
  generalize parseE s lv = E at *
  generalize (nodeL 0 (fun _ => 0) (fun _ => 0)).toArray = ZN at *
  go_enter Tryd.func19, Tryd.ntmps19
  go_wp2_with (with_reducible refine wpList_alloc rfl 34 rfl _ (HAl _) ?_)
  refine HG.out.mono ?_
  rintro e w1 ⟨rfl, hq, hr, hb⟩
  have hr1 := Cells.all HNl.out hq
  have HTh : Hid (w1.there (w.heap.size + 1 + 1) 0 N.toArray.size) := Lib.hid (hr.there 0 _ (by have := HNl.out; simp [this]))
  have HB := Lib.hid hb
  clear hq hr hb HG
  go_wp2_with (first
    | (with_reducible refine wpList_load_mid rfl 34 _ rfl (w.heap.size + 1 + 1 + 1) 0 rfl N _ hr1 Tryd.underlying34 rfl HIN2.out ?_)
    | (with_reducible refine wpList_store_mid rfl 34 _ _ rfl (w.heap.size + 1 + 1) 0 N.toArray rfl rfl HTh.out HIN.out HNo.out ?_))
  refine bodyPost_ret (results_two_mid rfl _ _ (w.heap.size + 1 + 1) N _ rfl (World.rangeAt_setCells_same _ _ _ _ (by have z := HTh.out; rwa [List.size_toArray] at z)) Tryd.underlying34 rfl HIN2.out) rfl ?_
  exact ⟨rfl, below_row HB.out N (by omega)⟩
end Go.Proofs.YtheccbnejamhlaaDoor

/-
  A node is the same as itself.
-/
namespace Go.Proofs.YtheccbnejamhlaaDoor
open Go.RowKit

theorem eqFields_self {P : Program} (d : Nat) (X : Array Value) (w : World) : ∀ fs : List Field, (∀ f ∈ fs, ∃ a, (part f.type X f.offset).run P w = .ok a w ∧ (Op.equalIn d f.type a a).run P w = .ok true w) → (Op.eqFields d X X fs).run P w = .ok true w
  | [], _ => by simp [Op.eqFields]
  | f :: fs, h => by
    obtain ⟨a, h1, h2⟩ := h f List.mem_cons_self
    have ih := eqFields_self d X w fs fun g hg => h g (List.mem_cons_of_mem _ hg)
    simp only [Op.eqFields, Sem.run_ite]
    split
    · simp only [Sem.run_bind, h1, h2, Result.andThen_ok, Bool.not_true, Bool.false_eq_true, if_false, ih]
    · exact ih
theorem node_fields : (Tryd.prog.fieldsOf 34).toList.map (fun f => (f.type, f.offset)) = [(3, 0), (32, 1), (24, 9)] := by kernel_rfl
theorem cells_kids : Tryd.prog.cellsOf 32 = 8 := by kernel_rfl
theorem kids_self (kd : Nat → Nat) (w : World) : (Op.equalIn 9999 32 (.agg (kidsL kd).toArray) (.agg (kidsL kd).toArray)).run Tryd.prog w = .ok true w := by
  obtain ⟨i, hi⟩ : ∃ i, Tryd.prog.info? 3 = some i := info_of_underlying Tryd.underlying3
  have h := eq_items (P := Tryd.prog) (kidsL kd).toArray (kidsL kd).toArray (fun i => kd i == kd i) 9998 8 1 3 w
    (fun i hi => kids_step 9997 kd kd _ _ (fun j hj => by rw [List.getElem?_toArray]; exact kidsL_at kd j hj) (fun j hj => by rw [List.getElem?_toArray]; exact kidsL_at kd j hj) w i hi) (List.range 8) fun j hj => by simpa using hj
  have e : (List.range 8).all (fun i => kd i == kd i) = true := by rw [List.all_eq_true]; exact fun x _ => beq_self_eq_true _
  rw [e] at h
  generalize kidsL kd = X at *
  exact (run_equalIn_array (P := Tryd.prog) w 9998 (e := 3) (n := 8) (i := i) X.toArray X.toArray Tryd.underlying32 hi).trans (by rw [cells_int]; exact h)
theorem node_kids (lv : Int) (kd f : Nat → Nat) : List.take 8 (List.drop 1 (nodeL lv kd f)) = kidsL kd := by
  unfold nodeL
  rw [List.drop_one, List.tail_cons, List.take_append_of_le_length (by rw [kidsL_len]; omega), List.take_of_length_le (by rw [kidsL_len]; omega)]
theorem node_sum (lv : Int) (kd f : Nat → Nat) : List.take 32 (List.drop 9 (nodeL lv kd f)) = arr f := by
  unfold nodeL
  rw [show (9 : Nat) = 8 + 1 from rfl, List.drop_succ_cons]
  have h := List.drop_left (l₁ := kidsL kd) (l₂ := arr f)
  rw [kidsL_len] at h
  rw [h, List.take_of_length_le (by rw [arr_len]; omega)]
theorem part_kids (lv : Int) (kd f : Nat → Nat) (w : World) : (part 32 (nodeL lv kd f).toArray 1).run Tryd.prog w = .ok (.agg (kidsL kd).toArray) w := by
  obtain ⟨i, hi⟩ : ∃ i, Tryd.prog.info? 32 = some i := info_of_underlying Tryd.underlying32
  have hs := run_sizeOf (P := Tryd.prog) w hi
  rw [cells_kids] at hs
  have e := node_kids lv kd f
  rw [List.drop_one] at e
  generalize nodeL lv kd f = X at *
  simp [part, isAgg, run_underlying Tryd.underlying32, e]
theorem part_nsum (lv : Int) (kd f : Nat → Nat) (w : World) : (part 24 (nodeL lv kd f).toArray 9).run Tryd.prog w = .ok (.agg (arr f).toArray) w := by
  obtain ⟨i, hi⟩ : ∃ i, Tryd.prog.info? 24 = some i := info_of_underlying Tryd.underlying24
  have hs := run_sizeOf (P := Tryd.prog) w hi
  rw [cells_sum] at hs
  have e := node_sum lv kd f
  generalize nodeL lv kd f = X at *
  simp [part, isAgg, run_underlying Tryd.underlying24]
  exact e
theorem all2_self (f : Nat → Nat) : all2 f f 32 = true := (all2_iff f f 32).2 fun _ _ => rfl
theorem node_self (lv : Int) (kd f : Nat → Nat) (w : World) : (binOp .neq 34 (.agg (nodeL lv kd f).toArray) (.agg (nodeL lv kd f).toArray)).run Tryd.prog w = .ok (.bool false) w := by
  rw [run_neq_struct, run_equalIn_struct (P := Tryd.prog) w 9999 34 _ _ (by kernel_rfl) (by kernel_rfl), eqFields_self]
  · rfl
  · intro fd hf
    have hm : (fd.type, fd.offset) ∈ [(3, 0), (32, 1), (24, 9)] := by
      rw [← node_fields]
      exact List.mem_map.2 ⟨fd, hf, rfl⟩
    simp only [List.mem_cons, Prod.mk.injEq, List.not_mem_nil, or_false] at hm
    rcases hm with ⟨h1, h2⟩ | ⟨h1, h2⟩ | ⟨h1, h2⟩ <;> rw [h1, h2]
    · refine ⟨_, run_part_plain w plainInt (by rw [List.getElem?_toArray]; rfl), ?_⟩
      have p3 := run_equalIn_int (P := Tryd.prog) w 9998 3 .i64 .i64 lv lv Tryd.underlying3
      rw [beq_self_eq_true] at p3
      exact p3
    · exact ⟨_, part_kids lv kd f w, kids_self kd w⟩
    · have h := arr_eql f f 9997 w
      rw [all2_self] at h
      exact ⟨_, part_nsum lv kd f w, h⟩
theorem node_guard (lv : Int) (kd f : Nat → Nat) (x y : Operand) (w : World) : (eqGuard .neq 34 x y (.agg (nodeL lv kd f).toArray) (.agg (nodeL lv kd f).toArray)).run Tryd.prog w = .ok () w :=
  run_eqGuard_agg (P := Tryd.prog) w .neq _ x y _ _ (by kernel_rfl)
end Go.Proofs.YtheccbnejamhlaaDoor

/-
  Arrays handed in by value: 32 bytes; eight times 32 bytes; eight numbers.
-/
namespace Go.Proofs.YtheccbnejamhlaaDoor
open Go.ChangeShapes Go.WideShapes Go.ChangeAt Go.RowKit

theorem okWide_array {P : Program} {w : World} {r : Reach} {base : Nat} {t e : TypeId} {n : Nat} {v : Value} (ht : P.underlying t = some (.array n e)) (h : Value.okWide P w r base t v) : ∃ cs, v = .agg cs ∧ cs.size = P.cellsOf t := by
  simp only [Value.okWide, ht] at h
  obtain ⟨cs, h1, h2, _⟩ := h
  exact ⟨cs, h1, h2⟩
/-- the byte in a row's cell -/
def byteAt (cs : List Value) (j : Nat) : Nat := match cs[j]? with | some (.int _ n) => n.toNat % 256 | _ => 0
theorem byteAt_lt (cs : List Value) (j : Nat) : byteAt cs j < 256 := by
  unfold byteAt
  split
  · omega
  · decide
def Bytes (cs : List Value) (n : Nat) : Prop := cs.length = n ∧ ∀ j, j < n → ∃ k : Nat, k < 256 ∧ cs[j]? = some (.int .u8 (k : Int))
theorem Bytes.at' {cs : List Value} {n : Nat} (h : Bytes cs n) (j : Nat) (hj : j < n) : cs[j]? = some (.int .u8 (byteAt cs j : Nat)) := by
  obtain ⟨k, hk, e⟩ := h.2 j hj
  unfold byteAt
  rw [e]
  show _ = some (Value.int .u8 (((k : Int).toNat % 256 : Nat) : Int))
  rw [show (k : Int).toNat % 256 = k by omega]
section
variable {H : Type} {enc : TypeId × Value → H} {w : World} {base : Nat} {spare : Nat → Bool} {held : Bool} {fuel : Nat} {cs : List Value} {x : DataW H × List MemPlace}
theorem bytes_of_trod (h : DataW.trod enc Tryd.prog w base spare held fuel 23 cs = some x) : Bytes cs 32 := by
  obtain ⟨xs, m, _, _, hl, hx, hi⟩ := DataW.trod_array Tryd.underlying23 h
  rw [show Tryd.prog.cellsOf 23 = 32 by kernel_rfl] at hl
  rw [show Tryd.prog.cellsOf 5 = 1 by kernel_rfl] at hi
  refine ⟨hl, fun j hj => ?_⟩
  have h1 := hi j hj
  rw [List.getElem?_eq_getElem (by omega)] at h1
  obtain ⟨n, e, _, hw⟩ := DataW.trod_int Tryd.underlying5 h1
  have hb := bounds_u8 hw
  have hc : cs[j]? = some (.int .u8 n) := by
    have := congrArg (fun l => l[0]?) e
    simpa using this
  exact ⟨n.toNat, by omega, by rw [hc, Int.toNat_of_nonneg hb.1]⟩
theorem bytes_of_trod8 (h : DataW.trod enc Tryd.prog w base spare held fuel 47 cs = some x) : Bytes cs 256 := by
  obtain ⟨xs, m, _, _, hl, hx, hi⟩ := DataW.trod_array Tryd.underlying47 h
  rw [show Tryd.prog.cellsOf 47 = 256 by kernel_rfl] at hl
  rw [show Tryd.prog.cellsOf 23 = 32 by kernel_rfl] at hi
  refine ⟨hl, fun j hj => ?_⟩
  have h1 := hi (j / 32) (by omega)
  rw [List.getElem?_eq_getElem (by omega)] at h1
  obtain ⟨_, h2⟩ := bytes_of_trod h1
  obtain ⟨k, hk, e⟩ := h2 (j % 32) (by omega)
  rw [List.getElem?_take_of_lt (by omega), List.getElem?_drop, show j / 32 * 32 + j % 32 = j by omega] at e
  exact ⟨k, hk, e⟩
end
theorem Bytes.arr {cs : List Value} (h : Bytes cs 32) : cs = arr (byteAt cs) := by
  apply List.ext_getElem?
  intro j
  by_cases hj : j < 32
  · rw [h.at' j hj, arr_at _ j hj]
  · rw [List.getElem?_eq_none (by rw [h.1]; omega), List.getElem?_eq_none (by rw [arr_len]; omega)]
theorem Bytes.sums {cs : List Value} (h : Bytes cs 256) : cs = sums (byteAt cs) := by
  apply List.ext_getElem?
  intro j
  by_cases hj : j < 256
  · rw [h.at' j hj, sums_at _ j hj]
  · rw [List.getElem?_eq_none (by rw [h.1]; omega), List.getElem?_eq_none (by rw [sums_len]; omega)]
theorem open_arr {H : Type} {enc : TypeId × Value → H} {w : World} {base b0 : Nat} {spare : Nat → Bool} {held : Bool} {r : Reach} {v : Value} {d : DataW H} {p : List MemPlace}
    (hv : Value.okWide Tryd.prog w r b0 23 v) (h : DataW.Trod enc Tryd.prog w base spare held 23 v d p) :
    ∃ f : Nat → Nat, (∀ j, f j < 256) ∧ v = .agg (arr f).toArray := by
  obtain ⟨cs, rfl, _⟩ := okWide_array Tryd.underlying23 hv
  obtain ⟨fuel, hf⟩ := h
  have hb : Bytes cs.toList 32 := bytes_of_trod hf
  exact ⟨_, byteAt_lt cs.toList, by rw [← hb.arr]⟩
theorem open_sums {H : Type} {enc : TypeId × Value → H} {w : World} {base b0 : Nat} {spare : Nat → Bool} {held : Bool} {r : Reach} {v : Value} {d : DataW H} {p : List MemPlace}
    (hv : Value.okWide Tryd.prog w r b0 47 v) (h : DataW.Trod enc Tryd.prog w base spare held 47 v d p) :
    ∃ f : Nat → Nat, (∀ j, f j < 256) ∧ v = .agg (sums f).toArray := by
  obtain ⟨cs, rfl, _⟩ := okWide_array Tryd.underlying47 hv
  obtain ⟨fuel, hf⟩ := h
  have hb : Bytes cs.toList 256 := bytes_of_trod8 hf
  exact ⟨_, byteAt_lt cs.toList, by rw [← hb.sums]⟩
end Go.Proofs.YtheccbnejamhlaaDoor

/-
  NodeBytes: eight numbers handed in by value; the node and its kids' row on their way.
-/
namespace Go.Proofs.YtheccbnejamhlaaDoor
open Go.ChangeShapes Go.WideShapes Go.ChangeAt Go.RowKit

/-- eight numbers -/
def intsL (K : Nat → Int) : List Value := (List.range 8).map fun j => Value.int .i64 (K j)
theorem intsL_at (K : Nat → Int) (j : Nat) (h : j < 8) : (intsL K)[j]? = some (.int .i64 (K j)) := by
  unfold intsL
  rw [List.getElem?_map, List.getElem?_range h]
  rfl
theorem intsL_len (K : Nat → Int) : (intsL K).length = 8 := by simp [intsL]
def intAt (cs : List Value) (j : Nat) : Int := match cs[j]? with | some (.int _ n) => n | _ => 0
section
variable {H : Type} {enc : TypeId × Value → H} {w : World} {base : Nat} {spare : Nat → Bool} {held : Bool} {fuel : Nat} {cs : List Value} {x : DataW H × List MemPlace}
theorem ints_of_trod (h : DataW.trod enc Tryd.prog w base spare held fuel 32 cs = some x) : cs.length = 8 ∧ ∀ j, j < 8 → ∃ n, cs[j]? = some (.int .i64 n) := by
  obtain ⟨xs, m, _, _, hl, hx, hi⟩ := DataW.trod_array Tryd.underlying32 h
  rw [show Tryd.prog.cellsOf 32 = 8 by kernel_rfl] at hl
  rw [show Tryd.prog.cellsOf 3 = 1 by kernel_rfl] at hi
  refine ⟨hl, fun j hj => ?_⟩
  have h1 := hi j hj
  rw [List.getElem?_eq_getElem (by omega)] at h1
  obtain ⟨n, e, _, hw⟩ := DataW.trod_int Tryd.underlying3 h1
  have hc : cs[j]? = some (.int .i64 n) := by
    have := congrArg (fun l => l[0]?) e
    simpa using this
  exact ⟨n, hc⟩
end
theorem open_kids {H : Type} {enc : TypeId × Value → H} {w : World} {base b0 : Nat} {spare : Nat → Bool} {held : Bool} {r : Reach} {v : Value} {d : DataW H} {p : List MemPlace}
    (hv : Value.okWide Tryd.prog w r b0 32 v) (h : DataW.Trod enc Tryd.prog w base spare held 32 v d p) :
    ∃ K : Nat → Int, v = .agg (intsL K).toArray := by
  obtain ⟨cs, rfl, _⟩ := okWide_array Tryd.underlying32 hv
  obtain ⟨fuel, hf⟩ := h
  have hb : cs.toList.length = 8 ∧ ∀ j, j < 8 → ∃ n, cs.toList[j]? = some (.int .i64 n) := ints_of_trod hf
  refine ⟨intAt cs.toList, ?_⟩
  congr 1
  apply Array.toList_inj.mp
  refine List.ext_getElem? fun j => ?_
  have hl := hb.1
  by_cases hj : j < 8
  · obtain ⟨n, hc⟩ := hb.2 j hj
    rw [List.toList_toArray, intsL_at _ j hj, hc]
    unfold intAt
    rw [hc]
  · rw [List.toList_toArray, List.getElem?_eq_none (by omega), List.getElem?_eq_none (by rw [intsL_len]; omega)]
/-- a number's low 16 bits -/
def kdOf (x : Int) : Nat := (bits .and .i64 x 65535).toNat
theorem kdOf_eq (x : Int) : bits .and .i64 x 65535 = (kdOf x : Int) ∧ kdOf x < 65536 := by
  obtain ⟨p, hp, hl⟩ := maskN x 65535 (by decide)
  have hp' : bits .and .i64 x 65535 = (p : Int) := hp
  unfold kdOf
  rw [hp']
  exact ⟨by simp, by simp; omega⟩
/-- the first kids -/
def kidsUp (kd : Nat → Nat) (k : Nat) (j : Nat) : Nat := if j < k then kd j else 0
theorem kidsUp_all (lv : Int) (kd f : Nat → Nat) : nodeL lv (kidsUp kd 8) f = nodeL lv kd f := by
  unfold nodeL
  rw [kidsL_congr (g := kd) fun j hj => by unfold kidsUp; rw [if_pos hj]]
theorem kidsUp_none (lv : Int) (kd f : Nat → Nat) : nodeL lv (kidsUp kd 0) f = nodeL lv (fun _ => 0) f := by
  unfold nodeL
  rw [kidsL_congr (g := fun _ => 0) fun j hj => by unfold kidsUp; rw [if_neg (by omega)]]
theorem kidsUp_next (lv : Int) (kd f : Nat → Nat) (k : Nat) (hk : k < 8) (j : Nat) : cellsAt (nodeL lv (kidsUp kd (k + 1)) f) j = if j = 1 + k then .int .i64 (kd k : Nat) else cellsAt (nodeL lv (kidsUp kd k) f) j := by
  by_cases h9 : 1 ≤ j ∧ j < 9
  · have h1 := nodeL_kid lv (kidsUp kd (k + 1)) f (j - 1) (by omega)
    have h2 := nodeL_kid lv (kidsUp kd k) f (j - 1) (by omega)
    rw [show 1 + (j - 1) = j by omega] at h1 h2
    unfold cellsAt
    rw [List.getD_eq_getElem?_getD, List.getD_eq_getElem?_getD, h1, h2]
    by_cases e : j = 1 + k
    · rw [if_pos e, show j - 1 = k by omega]
      have : kidsUp kd (k + 1) k = kd k := by unfold kidsUp; rw [if_pos (by omega)]
      rw [this]
      rfl
    · rw [if_neg e]
      have : kidsUp kd (k + 1) (j - 1) = kidsUp kd k (j - 1) := by
        unfold kidsUp
        by_cases h3 : j - 1 < k
        · rw [if_pos (by omega), if_pos h3]
        · rw [if_neg (by omega), if_neg h3]
      rw [this]
  · rw [if_neg (by omega)]
    unfold cellsAt nodeL
    rw [List.getD_eq_getElem?_getD, List.getD_eq_getElem?_getD]
    rcases Nat.eq_zero_or_pos j with rfl | hp
    · rfl
    · obtain ⟨m, rfl⟩ : ∃ m, j = m + 1 := ⟨j - 1, by omega⟩
      rw [List.getElem?_cons_succ, List.getElem?_cons_succ, List.getElem?_append_right (by rw [kidsL_len]; omega), List.getElem?_append_right (by rw [kidsL_len]; omega), kidsL_len, kidsL_len]
/-- the law on its way: what came in, the node, the kids' row -/
structure NyW (w : World) (q : Nat) (KI : List Value) (n B : Nat) (lv : Int) (kd f : Nat → Nat) (k : Nat) (v : Value) (wx : World) : Prop where
  src : wx.rangeAt q 0 KI
  sum : Cells (q + 1) 32 (fun j => .int .u8 (f j : Nat)) wx
  node : Cells n 41 (cellsAt (nodeL lv (kidsUp kd k) f)) wx
  own : wx.ownsRow B 3 1 v k (natsOf (numsL kd k))
  below : Below w.heap.size w wx
  lo : w.heap.size ≤ q
  qn : q + 1 < n
  nb : n < B
  base : B ≤ wx.heap.size
theorem NyW.step {w : World} {q : Nat} {KI : List Value} {n B : Nat} {lv : Int} {kd f : Nat → Nat} {k : Nat} {v : Value} {wx wy : World} (h : NyW w q KI n B lv kd f k v wx) (b : Below wx.heap.size wx wy) : NyW w q KI n B lv kd f k v wy :=
  ⟨range_below h.src (by have := h.qn; have := h.nb; have := h.base; omega) b, h.sum.below b, h.node.below b, own_keptI h.own b, h.below.trans (b.mono h.below.size), h.lo, h.qn, h.nb, Nat.le_trans h.base b.size⟩
theorem NyW.put {w : World} {q : Nat} {KI : List Value} {n B : Nat} {lv : Int} {kd f : Nat → Nat} {k : Nat} {v : Value} {wx : World} (h : NyW w q KI n B lv kd f k v wx) (hk : k < 8) :
    let wy := wx.setCell ⟨n, 1 + k, none⟩ (.int .i64 (kd k : Nat))
    wy.rangeAt q 0 KI ∧ Cells (q + 1) 32 (fun j => .int .u8 (f j : Nat)) wy ∧ Cells n 41 (cellsAt (nodeL lv (kidsUp kd (k + 1)) f)) wy ∧ wy.ownsRow B 3 1 v k (natsOf (numsL kd k)) ∧ Below w.heap.size w wy ∧ B ≤ wy.heap.size := by
  have h1 := h.qn
  have h2 := h.nb
  have h3 := h.base
  have h4 := h.lo
  have hb : ∀ x, x ≠ n → (wx.setCell ⟨n, 1 + k, none⟩ (.int .i64 (kd k : Nat))).heap[x]? = wx.heap[x]? := fun x hx => by
    have g : Grew (fun y => y = n) wx (wx.setCell ⟨n, 1 + k, none⟩ (.int .i64 (kd k : Nat))) := (Grew.refl wx).setCell _ _ fun _ => rfl
    by_cases hl : x < wx.heap.size
    · exact g.block x hl hx
    · rw [Array.getElem?_eq_none (by rw [World.size_setCell]; omega), Array.getElem?_eq_none (by omega)]
  refine ⟨range_block h.src (hb q (by omega)), h.sum.far _ (by omega), ?_, own_kept h.own fun x hx => hb x (by have := (own_block_lt h.own x hx).1; omega), h.below.setCell (by show w.heap.size ≤ n; omega) _, by rw [World.size_setCell]; exact h.base⟩
  exact h.node.set (1 + k) _ (by omega) (by rw [kidsUp_next lv kd f k hk, if_pos rfl]) fun j hj hne => by rw [kidsUp_next lv kd f k hk, if_neg hne]
theorem nyMore {w : World} {q : Nat} {KI : List Value} {n B : Nat} {lv : Int} {kd f : Nat → Nat} {k : Nat} {v : Value} {wx wy : World} {g cap : Nat} (hs : wx.rangeAt q 0 KI) (hm : Cells (q + 1) 32 (fun j => .int .u8 (f j : Nat)) wx) (hn : Cells n 41 (cellsAt (nodeL lv (kidsUp kd (k + 1)) f)) wx)
    (ho : wx.ownsRow B 3 1 v k (natsOf (numsL kd k))) (hb : Below w.heap.size w wx) (h4 : w.heap.size ≤ q) (h1 : q + 1 < n) (h2 : n < B) (h3 : B ≤ wx.heap.size) (m : MoreInts wx B v (numsL kd k) [kd k] g cap wy) :
    NyW w q KI n B lv kd f (k + 1) (.slice (some ⟨g, 0, none⟩) (k + 1) cap) wy := by
  have hq : ∀ x, x < B → wy.heap[x]? = wx.heap[x]? := fun x hx => m.grown.block x (by omega) fun e => by
    have := (own_block_lt ho x e.symm).1
    omega
  refine ⟨range_block hs (hq q (by omega)), hm.block (hq _ (by omega)) m.grown.size, hn.block (hq n h2) m.grown.size, ?_, m.below hb ho (by omega) hb.size, h4, h1, h2, Nat.le_trans h3 m.grown.size⟩
  have := m.own
  rw [numsL_len, numsL_next] at this
  exact this
end Go.Proofs.YtheccbnejamhlaaDoor
