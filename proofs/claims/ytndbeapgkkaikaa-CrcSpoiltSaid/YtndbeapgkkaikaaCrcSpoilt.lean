/-
  CrcSpoilt: for every text (of which at most 300 bytes are taken), every place and every four bytes that are xored there, the law answers true.
-/
import Derived.Test.YtndbeapgkkaikaaCrcRow
import Derived.Deep.RegionHeld3
import Derived.Deep.DeepCutAuto
import Derived.RegionTactic
import Derived.BigRegion
namespace Go.Proofs.Ytndbeapgkkaikaa
open Go.RowKit

theorem below_box {w w2 w3 : World} {o : Obj} (h : Below (w.alloc o).heap.size (w.alloc o) w2) (k : Below w2.heap.size w2 w3) : Below w.heap.size w w3 := by
  have h1 : Below w.heap.size w (w.alloc o) := (Below.refl _ _).alloc (Nat.le_refl _) _
  have s1 := h1.size
  have s2 := h.size
  exact (h1.trans (h.mono s1)).trans (k.mono (by omega))

theorem place (a : Int) (n : Nat) (h : 0 < n) (h3 : n ≤ 300) : ∃ p : Nat, p < n ∧ (wrap64 (a.tmod n + n)).tmod n = (p : Int) := by
  have l := Int.tmod_lt_of_pos a (show (0 : Int) < (n : Int) by omega)
  have g := Int.lt_tmod_of_pos a (show (0 : Int) < (n : Int) by omega)
  have e : wrap64 (a.tmod n + n) = a.tmod n + n := by unfold wrap64; omega
  rw [e, Int.tmod_eq_emod_of_nonneg (by omega)]
  have m := Int.emod_nonneg (a.tmod n + n) (show (n : Int) ≠ 0 by omega)
  have q := Int.emod_lt_of_pos (a.tmod n + n) (show (0 : Int) < (n : Int) by omega)
  exact ⟨((a.tmod n + n) % n).toNat, by omega, by omega⟩
def xs (x0 x1 x2 x3 : Nat) (j : Nat) : Nat := [x0, x1, x2, x3].getD j 0
def Box (D x0 x1 x2 x3 : Nat) (w : World) : Prop := D < w.heap.size ∧ ∀ j, j < 4 → w.cell? ⟨D, j, none⟩ = some (.int .u8 (xs x0 x1 x2 x3 j))
theorem box_cells {w w2 : World} {x0 x1 x2 x3 : Nat} (h : Below (w.alloc (.cells #[.int .u8 x0, .int .u8 x1, .int .u8 x2, .int .u8 x3] 28)).heap.size (w.alloc (.cells #[.int .u8 x0, .int .u8 x1, .int .u8 x2, .int .u8 x3] 28)) w2) :
    Box w.heap.size x0 x1 x2 x3 w2 := by
  have hs := h.size
  refine ⟨by simp at hs; omega, fun j hj => ?_⟩
  rw [h.cell (p := ⟨w.heap.size, j, none⟩) (by simp), World.cell?_alloc_new]
  rcases (by omega : j = 0 ∨ j = 1 ∨ j = 2 ∨ j = 3) with rfl | rfl | rfl | rfl <;> rfl
theorem box_kept {D x0 x1 x2 x3 : Nat} {w w' : World} (h : Box D x0 x1 x2 x3 w) (k : Below w.heap.size w w') : Box D x0 x1 x2 x3 w' := by
  have hs := k.size
  refine ⟨by have := h.1; omega, fun j hj => ?_⟩
  rw [k.cell (p := ⟨D, j, none⟩) h.1]
  exact h.2 j hj

theorem box_set {D B x0 x1 x2 x3 : Nat} {w : World} {j : Nat} {v : Value} (h : Box D x0 x1 x2 x3 w) (hne : D ≠ B) : Box D x0 x1 x2 x3 (w.setCell ⟨B, j, none⟩ v).drew := by
  refine ⟨by have := h.1; simpa using this, fun i hi => ?_⟩
  show (w.setCell ⟨B, j, none⟩ v).cell? ⟨D, i, none⟩ = _
  rw [World.cell?_setCell_other (h := by intro q; injection q with q1 q2 q3; exact hne q1.symm)]
  exact h.2 i hi
def spv (l : List UInt8) (p k : Nat) (x : Nat → Nat) (j : Nat) : Nat := if p ≤ j ∧ j < p + k then (l.getD j 0).toNat ^^^ x (j - p) else (l.getD j 0).toNat
theorem spv_zero (l : List UInt8) (p : Nat) (x : Nat → Nat) (j : Nat) : spv l p 0 x j = (l.getD j 0).toNat := by
  unfold spv
  rw [if_neg (by omega)]
theorem spv_here (l : List UInt8) (p k : Nat) (x : Nat → Nat) : spv l p k x (p + k) = (l.getD (p + k) 0).toNat := by
  unfold spv
  rw [if_neg (by omega)]
theorem spv_next (l : List UInt8) (p k : Nat) (x : Nat → Nat) : spv l p (k + 1) x (p + k) = spv l p k x (p + k) ^^^ x k := by
  rw [spv_here]
  unfold spv
  rw [if_pos (by omega), Nat.add_sub_cancel_left]
theorem spv_other (l : List UInt8) (p k : Nat) (x : Nat → Nat) (j : Nat) (h : j ≠ p + k) : spv l p (k + 1) x j = spv l p k x j := by
  unfold spv
  by_cases e : p ≤ j ∧ j < p + k
  · rw [if_pos e, if_pos (by omega)]
  · rw [if_neg e, if_neg (by omega)]
theorem xs_lt {x0 x1 x2 x3 : Nat} (h0 : x0 < 256) (h1 : x1 < 256) (h2 : x2 < 256) (h3 : x3 < 256) (k : Nat) : xs x0 x1 x2 x3 k < 256 := by
  unfold xs
  match k with
  | 0 => exact h0
  | 1 => exact h1
  | 2 => exact h2
  | 3 => exact h3
  | n + 4 => simp

def spl (l : List UInt8) (p k : Nat) (x : Nat → Nat) : List UInt8 := (List.range l.length).map fun j => UInt8.ofNat (spv l p k x j)
theorem spl_len (l : List UInt8) (p k : Nat) (x : Nat → Nat) : (spl l p k x).length = l.length := by simp [spl]
theorem spv_lt (l : List UInt8) (p k : Nat) (x : Nat → Nat) (hx : ∀ i, x i < 256) (j : Nat) : spv l p k x j < 256 := by
  unfold spv
  have := (l.getD j 0).toNat_lt
  split
  · exact Nat.xor_lt_two_pow (n := 8) this (hx _)
  · exact this
theorem spl_get (l : List UInt8) (p k : Nat) (x : Nat → Nat) (j : Nat) (hj : j < l.length) : (spl l p k x).getD j 0 = UInt8.ofNat (spv l p k x j) := by
  rw [List.getD_eq_getElem?_getD, List.getElem?_eq_getElem (by rw [spl_len]; exact hj)]
  simp [spl]
theorem spl_at (l : List UInt8) (p k : Nat) (x : Nat → Nat) (hx : ∀ i, x i < 256) (j : Nat) (hj : j < l.length) : ((spl l p k x).getD j 0).toNat = spv l p k x j := by
  rw [spl_get l p k x j hj, UInt8.toNat_ofNat']
  have := spv_lt l p k x hx j
  omega
theorem spl_out (l : List UInt8) (p k : Nat) (x : Nat → Nat) (j : Nat) (h : ¬ (p ≤ j ∧ j < p + k)) : (spl l p k x)[j]? = l[j]? := by
  by_cases hj : j < l.length
  · have e := spl_get l p k x j hj
    rw [List.getD_eq_getElem?_getD, List.getElem?_eq_getElem (by rw [spl_len]; exact hj)] at e
    rw [List.getElem?_eq_getElem (by rw [spl_len]; exact hj), List.getElem?_eq_getElem hj]
    simp only [Option.getD_some] at e
    rw [e]
    unfold spv
    rw [if_neg h, List.getD_eq_getElem?_getD, List.getElem?_eq_getElem hj]
    simp
  · rw [List.getElem?_eq_none (by rw [spl_len]; omega), List.getElem?_eq_none (by omega)]
theorem sum_apart (l m : List UInt8) (p k : Nat) (hlen : l.length = m.length) (hk : k ≤ 4) (hout : ∀ j, ¬ (p ≤ j ∧ j < p + k) → l[j]? = m[j]?) (e : Crc.sum l = Crc.sum m) : l = m := by
  have parts : ∀ a : List UInt8, a = a.take p ++ (a.drop p).take k ++ a.drop (p + k) := fun a => by
    rw [List.append_assoc, ← List.drop_drop, List.take_append_drop, List.take_append_drop]
  have h1 : l.take p = m.take p := by
    refine List.ext_getElem? fun j => ?_
    by_cases hj : j < p
    · rw [List.getElem?_take_of_lt hj, List.getElem?_take_of_lt hj, hout j (by omega)]
    · rw [List.getElem?_eq_none (by simp; omega), List.getElem?_eq_none (by simp; omega)]
  have h2 : l.drop (p + k) = m.drop (p + k) := by
    refine List.ext_getElem? fun j => ?_
    rw [List.getElem?_drop, List.getElem?_drop, hout _ (by omega)]
  have h3 : (l.drop p).take k = (m.drop p).take k := by
    rw [parts l, parts m, h1, h2] at e
    exact Crc.sum_spoilt _ _ _ _ (by simp [hlen]) (by simp; omega) e
  rw [parts l, parts m, h1, h2, h3]
theorem spl_sum (l : List UInt8) (p k : Nat) (x : Nat → Nat) (hk : k ≤ 4) (e : Crc.sum (spl l p k x) = Crc.sum l) : spl l p k x = l :=
  sum_apart _ _ p k (spl_len l p k x) hk (spl_out l p k x) e

theorem same_apart (T t : ByteArray) (h : Crc.sum T.data.toList = Crc.sum t.data.toList → T.data.toList = t.data.toList) :
    ((T.toList == t.toList) == (((Crc.sum T.data.toList : Nat) : Int) == ((Crc.sum t.data.toList : Nat) : Int))) = true := by
  by_cases e : T = t
  · subst e
    simp
  · have e1 : ¬ T.data.toList = t.data.toList := fun q => e (ByteArray.ext (Array.toList_inj.mp q))
    have e2 : ¬ Crc.sum T.data.toList = Crc.sum t.data.toList := fun q => e1 (h q)
    have e3 : (T.toList == t.toList) = false := by
      rw [beq_eq_false_iff_ne]
      intro q
      exact e1 (by rw [← ByteArray.toList_eq, ← ByteArray.toList_eq]; exact q)
    have e4 : (((Crc.sum T.data.toList : Nat) : Int) == ((Crc.sum t.data.toList : Nat) : Int)) = false := by
      rw [beq_eq_false_iff_ne]
      omega
    rw [e3, e4]
    rfl

set_option maxHeartbeats 4000000 in
theorem crcSpoilt_walk (a0 : ByteArray) (a1 : Int) (x0 x1 x2 x3 : Nat) (w0 : a0.size ≤ maxLen) (_w1 : (Lit.int .i64 a1).wf = true) (h0 : x0 < 256) (h1 : x1 < 256) (h2 : x2 < 256) (h3 : x3 < 256) (w : World) :
    Calls Try.prog 4 #[.string a0, .int .i64 a1, .agg #[.int .u8 x0, .int .u8 x1, .int .u8 x2, .int .u8 x3]] w fun e w' => e = .returned (.bool true) ∧ Below w.heap.size w w' := by
  have hc := fun wx => cut_any a0 300 wx w0 (by omega)
  have ht : (a0.extract 0 (min 300 a0.size)).size ≤ 300 := by rw [ByteArray.size_extract]; omega
  generalize a0.extract 0 (min 300 a0.size) = t at hc ht
  have HC := Lib.hid hc
  clear hc
  go_enter Try.func4, Try.ntmps4
  go_wp2_with fail
  refine (HC.out _).mono ?_
  rintro e w' ⟨rfl, rfl⟩
  go_wp2_with fail
  refine (awake_any _).mono ?_
  rintro e w2 ⟨rfl, hb2⟩
  by_cases hz : t.size = 0
  · have hz1 : ((t.size : Int) == 0) = true := by simpa using hz
    have hz2 := Lib.hid hz
    clear hz
    go_wp2_with fail
    refine (awake_any _).mono ?_
    rintro e w3 ⟨rfl, hb3⟩
    go_wp2
    go_ret
    exact ⟨rfl, below_box hb2 hb3⟩
  · have hz1 : ((t.size : Int) == 0) = false := by simpa using hz
    obtain ⟨cap, W, hconv, hrow, hbel⟩ := bytes_of w2 t
    go_upto_region 5 with fail
    go_cut [1] (fun i wx => ∃ p : Nat, p < t.size ∧ i = .int .i64 p ∧ wx = W)
    case first =>
      go_wp2_with fail
      go_meet
      obtain ⟨p, hp, he⟩ := place a1 t.size (by omega) ht
      exact ⟨p, hp, by rw [he], rfl⟩
    case rest =>
      obtain ⟨p, hp, rfl, rfl⟩ := hcut
      clear hconv
      have hbox := box_kept (box_cells hb2) hbel
      have hw := below_box hb2 hbel
      have hD : w.heap.size < w2.heap.size := (box_cells hb2).1
      clear hb2 hbel
      go_wp2_with fail
      go_loopw [8] (fun i wr => ∃ k : Nat, k ≤ 4 ∧ p + k ≤ t.size ∧ i = .int .i64 k ∧ RowIs w2.heap.size t.size (spv t.data.toList p k (xs x0 x1 x2 x3)) wr ∧ Box w.heap.size x0 x1 x2 x3 wr ∧ Below w.heap.size w wr) (fun i _ => 4 - (intOf i).toNat)
      case atStart => exact ⟨0, by omega, by omega, rfl, hrow.congr (fun j _ => (spv_zero _ _ _ _).symm), hbox, hw⟩
      case round =>
        clear hrow hbox hw
        obtain ⟨k, hk, hpk, rfl, hrow, hbox, hw⟩ := hrel
        have HR := Lib.hid hrow
        have HX := Lib.hid hbox
        have HW := Lib.hid hw
        clear hrow hbox hw
        by_cases hgo : k < 4 ∧ p + k < t.size
        · obtain ⟨hk4, hq⟩ := hgo
          · have hcell := (HR.out.2 (p + k) hq).1
            have hfr := (HR.out.2 (p + k) hq).2
            have hbx := HX.out.2 k hk4
            obtain ⟨y, hy⟩ : ∃ y, spv t.data.toList p k (xs x0 x1 x2 x3) (p + k) = y := ⟨_, rfl⟩
            obtain ⟨z, hz3⟩ : ∃ z, xs x0 x1 x2 x3 k = z := ⟨_, rfl⟩
            rw [hy] at hcell
            rw [hz3] at hbx
            have hyb : y < 256 := by rw [← hy]; exact spv_here _ _ _ _ ▸ UInt8.toNat_lt _
            have hzb : z < 256 := by rw [← hz3]; exact xs_lt h0 h1 h2 h3 k
            have hx := u8_xor_nat y z hyb hzb
            have hwr : IntKind.i64.wrap ((p : Int) + (k : Int)) = (p : Int) + (k : Int) := IntWalk.i64_in _ (by omega)
            have hi0 : (0 : Int) ≤ (p : Int) + (k : Int) := by omega
            have hi1 : (p : Int) + (k : Int) < (t.size : Int) := by omega
            have hi2 : ((p : Int) + (k : Int)).toNat = p + k := by omega
            have hi3 : (k : Int) < 4 := by omega
            have HY := Lib.hid hy
            have HZ := Lib.hid hz3
            clear hy hz3
            go_wp2_with fail
            go_region
            go_wp2
            go_roundw
            case rel => exact ⟨k + 1, by omega, by omega, by go_num, (HR.out.set (p + k) _ hq (by rw [spv_next, HY.out, HZ.out]) (fun j hj => spv_other _ _ _ _ _ hj)).drew, box_set HX.out (by omega), (HW.out.setCell (by exact Nat.le_of_lt hD) _).drew⟩
            case measure => simp [intOf]; omega
        · have hlen : (spl t.data.toList p k (xs x0 x1 x2 x3)).length = t.size := by rw [spl_len]; simp
          have hrow : RowIs w2.heap.size t.size (fun j => ((spl t.data.toList p k (xs x0 x1 x2 x3)).getD j 0).toNat) wr :=
            HR.out.congr fun j hj => (spl_at _ _ _ _ (xs_lt h0 h1 h2 h3) j (by simpa using hj)).symm
          have hsum := spl_sum t.data.toList p k (xs x0 x1 x2 x3) hk
          clear HR HX
          generalize spl t.data.toList p k (xs x0 x1 x2 x3) = M at hlen hrow hsum
          obtain ⟨f, hf⟩ : ∃ f : Nat → Nat, f = fun j => (M.getD j 0).toNat := ⟨_, rfl⟩
          have kc : ∀ wx : World, RowIs w2.heap.size t.size f wx → _ := fun wx h => conv_row w2.heap.size t.size cap M hlen wx (hf ▸ h)
          rw [← hf] at hrow
          clear hf
          obtain ⟨T, hT⟩ : ∃ T : ByteArray, T = ⟨M.toArray⟩ := ⟨_, rfl⟩
          rw [← hT] at kc
          have hTd : T.data.toList = M := by rw [hT]
          have hTz : T.size ≤ maxLen := by
            have : T.size = T.data.toList.length := by simp
            rw [this, hTd, hlen]
            unfold maxLen
            omega
          have htz : t.size ≤ maxLen := by unfold maxLen; omega
          rw [← hTd] at hsum
          clear hT hlen hTd
          have HS := Lib.hid hsum
          clear hsum
          have HQ := Lib.hid (same_apart T t HS.out)
          clear HS
          rcases (show (k < 4 ∧ (t.size : Int) ≤ (p : Int) + (k : Int)) ∨ 4 ≤ k by omega) with ⟨hk4, hi1⟩ | hk4
          all_goals
            go_wp2_with fail
            go_region_held3 (fun wx => RowIs w2.heap.size t.size f wx) (first | exact RowIs.alloc (by assumption) _ | exact RowIs.below (by assumption) (by assumption) | exact RowIs.drew (by assumption) | assumption) (first
              | (go_at_call 9; (with_reducible refine (sum_self _ _ ?_ _ ?_ ?_).mono ?_); (rotate_left 2); (first | ((with_reducible refine cell_at0d ?_); (focus (simp; done))) | ((with_reducible refine cell_at1d ?_); (focus (simp; done)))); (rotate_left); (any_goals (with_reducible assumption)); rintro e w' ⟨rfl, rfl⟩))
            all_goals
              go_wp2
              go_ret
              exact ⟨ret_bool HQ.out, (HW.out.alloc HW.out.size _).alloc (by have := HW.out.size; simp; omega) _ |>.drew⟩
end Go.Proofs.Ytndbeapgkkaikaa
