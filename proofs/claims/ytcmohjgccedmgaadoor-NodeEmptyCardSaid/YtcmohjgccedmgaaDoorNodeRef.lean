/-
  The document's own digest of a node: for any sums.
-/
import Derived.Test.YtcmohjgccedmgaaDoorNodeDig
import Derived.BigRegion
namespace Go.Proofs.YtcmohjgccedmgaaDoor
open Go.RowKit

/-- are the first sums noughts? -/
def noneK (f : Nat → Nat) : Nat → Bool
  | 0 => true
  | k + 1 => noneK f k && all2 (fun j => f (k * 32 + j)) (fun _ => 0) 32
theorem noneK_all (f : Nat → Nat) : noneK f 8 = all8 f fun _ => 0 := by
  rw [Bool.eq_iff_iff, all8_iff]
  have h : ∀ k, noneK f k = true ↔ ∀ j, j < 32 * k → f j = 0 := fun k => by
    induction k with
    | zero => exact ⟨fun _ j hj => absurd hj (by omega), fun _ => rfl⟩
    | succ k ih =>
      show (noneK f k && all2 (fun j => f (k * 32 + j)) (fun _ => 0) 32) = true ↔ _
      rw [Bool.and_eq_true, ih, all2_iff]
      constructor
      · rintro ⟨a, b⟩ j hj
        by_cases hc : j < 32 * k
        · exact a j hc
        · have := b (j - k * 32) (by omega)
          rwa [show k * 32 + (j - k * 32) = j by omega] at this
      · intro a
        exact ⟨fun j hj => a j (by omega), fun j hj => a _ (by omega)⟩
  exact h 8
def zero32 : ByteArray := ⟨#[0, 0, 0, 0, 0, 0, 0, 0, 0, 0, 0, 0, 0, 0, 0, 0, 0, 0, 0, 0, 0, 0, 0, 0, 0, 0, 0, 0, 0, 0, 0, 0]⟩
theorem txt_zero (g : Nat → Nat) (hg : ∀ j, g j < 256) : ((⟨(txt g).toArray⟩ : ByteArray).toList == zero32.toList) = all2 g (fun _ => 0) 32 := by
  rw [ByteArray.toList_eq, ByteArray.toList_eq]
  have e : zero32.data.toList = txt fun _ => 0 := by decide
  rw [e]
  show (txt g == txt fun _ => 0) = _
  rw [Bool.eq_iff_iff, beq_iff_eq, all2_iff]
  constructor
  · intro h j hj
    have h1 := congrArg (fun l => (l.getD j 0).toNat) h
    unfold txt at h1
    simp only [List.getD_eq_getElem?_getD, List.getElem?_map, List.getElem?_range hj, Option.map_some, Option.getD_some, UInt8.toNat_ofNat'] at h1
    have := hg j
    omega
  · intro h
    unfold txt
    exact List.map_congr_left fun j hj => by rw [h j (by simpa using hj)]
/-- a node's digest, as a text -/
def digStr (l : Nat) (f : Nat → Nat) : ByteArray := if all8 f (fun _ => 0) then zero32 else ⟨(sumB (shaOf (digText l f))).toArray⟩
/-- eight texts in a row -/
def Told (b : Nat) (f : Nat → Nat) (w : World) : Prop := ∀ i, i < 8 → w.cell? ⟨b, i, none⟩ = some (.string ⟨(txt fun j => f (i * 32 + j)).toArray⟩)
theorem Told.below {b : Nat} {f : Nat → Nat} {w w' : World} (h : Told b f w) (k : Below w.heap.size w w') : Told b f w' := fun i hi => by rw [k.cell (cell_lt (h i hi))]; exact h i hi
theorem enc1 (l : Nat) : enc l 1 = [UInt8.ofNat l] := by simp [enc]
/-- the text on its way -/
def digP (l : Nat) (f : Nat → Nat) (k : Nat) : ByteArray := ⟨([78] ++ enc l 1 ++ texts8 f k).toArray⟩
theorem digP_size (l : Nat) (f : Nat → Nat) (k : Nat) : (digP l f k).size = 2 + 32 * k := by
  show ([78] ++ enc l 1 ++ texts8 f k).length = _
  exact digText_len l f k
theorem digP_next (l : Nat) (f : Nat → Nat) (k : Nat) : digP l f k ++ ⟨(txt fun j => f (k * 32 + j)).toArray⟩ = digP l f (k + 1) := by
  apply ByteArray.ext
  apply Array.toList_inj.mp
  rw [ByteArray.data_append, Array.toList_append]
  show [78] ++ enc l 1 ++ texts8 f k ++ (txt fun j => f (k * 32 + j)) = [78] ++ enc l 1 ++ (texts8 f k ++ txt fun j => f (k * 32 + j))
  rw [List.append_assoc]
set_option maxRecDepth 100000 in
set_option maxHeartbeats 4000000 in
theorem refDig_any (f : Nat → Nat) (hf : ∀ j, f j < 256) (l : Nat) (hl : l < 256) (b cap : Nat) (w : World) (ht : Told b f w) :
    Calls Tryd.prog 26 #[.int .i64 (l : Int), .slice (some ⟨b, 0, none⟩) 8 cap] w fun e w' => e = .returned (.string (digStr l f)) ∧ Below w.heap.size w w' := by
  have hq1 : (l : Int) % 256 = (l : Int) := by omega
  have q2 : IntKind.u8.wrap (l : Int) = (((UInt8.ofNat l).toNat : Nat) : Int) := by
    rw [UInt8.toNat_ofNat', Nat.mod_eq_of_lt hl]
    simp only [IntKind.wrap, IntKind.bits, IntKind.signed]
    simp
    omega
  have hc := one_byte w (UInt8.ofNat l)
  have ha : ∀ wx : World, (Op.stringOp .add ⟨#[78]⟩ ⟨#[UInt8.ofNat l]⟩).run Tryd.prog wx = .ok (.string (digP l f 0)) wx := fun wx => by
    rw [run_string_add_sum wx _ _ (by show (1 : Nat) + 1 ≤ _; decide)]
    unfold digP
    rw [enc1]
    rfl
  have HB : Hid (Below w.heap.size w (w.alloc (.cells #[.int .u8 (((UInt8.ofNat l).toNat : Nat) : Int)] 5))) := Lib.hid ((Below.refl _ _).alloc (Nat.le_refl _) _)
  have HT := Lib.hid (ht.below HB.out)
  have HTx : Hid (∀ k, ((⟨(txt fun j => f (k * 32 + j)).toArray⟩ : ByteArray).toList == zero32.toList) = all2 (fun j => f (k * 32 + j)) (fun _ => 0) 32) := Lib.hid fun k => txt_zero _ fun j => hf _
  have HTz : Hid (∀ k, (⟨(txt fun j => f (k * 32 + j)).toArray⟩ : ByteArray).size = 32) := Lib.hid fun k => txt_len _
  have HN := Lib.hid (digP_next l f)
  have HS := Lib.hid (digP_size l f)
  have HNs : Hid (∀ k, noneK f (k + 1) = (noneK f k && all2 (fun j => f (k * 32 + j)) (fun _ => 0) 32)) := Lib.hid fun _ => rfl
  have HN0 : Hid (noneK f 0 = true) := Lib.hid rfl
  have HNl : Hid (digStr l f = if noneK f 8 then zero32 else ⟨(sumB (shaOf (digP l f 8).data.toList)).toArray⟩) := Lib.hid (by rw [noneK_all]; rfl)
  generalize UInt8.ofNat l = ul at *
  clear ht hf hl
  go_enter Tryd.func26, Tryd.ntmps26
  go_upto_region 3 with fail
  generalize w.alloc (.cells #[.int .u8 ((ul.toNat : Nat) : Int)] 5) = W at *
  clear hc ha q2 hq1
  obtain ⟨Z, hZ⟩ : ∃ Z : ByteArray, zero32 = Z := ⟨_, rfl⟩
  rw [show (⟨#[0, 0, 0, 0, 0, 0, 0, 0, 0, 0, 0, 0, 0, 0, 0, 0, 0, 0, 0, 0, 0, 0, 0, 0, 0, 0, 0, 0, 0, 0, 0, 0]⟩ : ByteArray) = Z from hZ]
  rw [hZ] at HTx HNl
  clear hZ
  go_upto_region 4 with fail
  go_wp2_with fail
  go_loop [6, 7, 18] (fun s n i => ∃ k : Nat, k ≤ 8 ∧ i = .int .i64 (k : Int) ∧ s = .string (digP l f k) ∧ n = .bool (noneK f k)) (fun _ _ i => 8 - (intOf i).toNat)
  case atStart => exact ⟨0, by omega, rfl, rfl, by rw [HN0.out]⟩
  case round =>
    obtain ⟨k, hk, rfl, rfl, rfl⟩ := hrel
    by_cases hlt : k < 8
    · have i0 : (k : Int) < 8 := by omega
      have i1 : (0 : Int) ≤ (k : Int) := by omega
      have hcell := HT.out k hlt
      have hcmp := HTx.out k
      have hz := HTz.out k
      have hadd : ∀ wx : World, (Op.stringOp .add (digP l f k) ⟨(txt fun j => f (k * 32 + j)).toArray⟩).run Tryd.prog wx = .ok (.string (digP l f (k + 1))) wx := fun wx => by
        rw [run_string_add_sum wx _ _ (by rw [HS.out, hz]; omega), HN.out]
      have HNk := Lib.hid (HNs.out k)
      have HK := Lib.hid hlt
      clear hz hlt hk HT HTx HTz HN HS HNs HN0 HNl HB
      generalize (⟨(txt fun j => f (k * 32 + j)).toArray⟩ : ByteArray) = T at *
      generalize all2 (fun j => f (k * 32 + j)) (fun _ => 0) 32 = q at *
      obtain ⟨P1, hP1⟩ : ∃ P1, digP l f (k + 1) = P1 := ⟨_, rfl⟩
      rw [hP1] at hadd
      have HP1 := Lib.hid hP1
      clear hP1
      generalize digP l f k = P0 at *
      generalize noneK f k = n0 at *
      cases n0 with
      | true =>
        go_wp2_with fail
        go_round
        case rel => exact ⟨k + 1, by have := HK.out; omega, by go_num, by rw [HP1.out], by rw [HNk.out, Bool.true_and]⟩
        case measure => simp [intOf]; have := HK.out; omega
      | false =>
        go_wp2_with fail
        go_round
        case rel => exact ⟨k + 1, by have := HK.out; omega, by go_num, by rw [HP1.out], by rw [HNk.out, Bool.false_and]⟩
        case measure => simp [intOf]; have := HK.out; omega
    · have i0 : ¬ (k : Int) < 8 := by omega
      have hk8 : k = 8 := by omega
      have HRo : Hid (∀ wx : World, Calls Tryd.prog 14 #[.string (digP l f k)] wx fun e w' => e = .returned (.string ⟨(sumB (shaOf (digP l f 8).data.toList)).toArray⟩) ∧ Below wx.heap.size wx w') := Lib.hid fun wx => by
        rw [hk8]
        exact refOf_any (digP l f 8) (by rw [HS.out]; decide) wx
      have HNe : Hid (digStr l f = if noneK f k then Z else ⟨(sumB (shaOf (digP l f 8).data.toList)).toArray⟩) := Lib.hid (by rw [hk8]; exact HNl.out)
      clear hk8 hlt hk HT HTx HTz HN HS HNs HN0 HNl
      generalize (⟨(sumB (shaOf (digP l f 8).data.toList)).toArray⟩ : ByteArray) = Q at *
      generalize digP l f k = P0 at *
      generalize noneK f k = n0 at *
      cases n0 with
      | true =>
        go_wp2_with fail
        go_ret
        exact ⟨by rw [HNe.out]; rfl, HB.out⟩
      | false =>
        go_wp2_with fail
        refine (HRo.out _).mono ?_
        rintro e w2 ⟨rfl, hb2⟩
        have HB2 := Lib.hid (HB.out.trans (hb2.mono HB.out.size))
        clear hb2
        go_wp2_with fail
        go_ret
        exact ⟨by rw [HNe.out]; rfl, HB2.out⟩
end Go.Proofs.YtcmohjgccedmgaaDoor
