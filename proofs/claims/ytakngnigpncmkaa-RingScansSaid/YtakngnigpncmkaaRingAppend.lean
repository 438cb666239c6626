/-
  Append: a record's frames, one behind the other, or no room: contracts.
-/
import Derived.Test.YtakngnigpncmkaaRingWrite
namespace Go.Proofs.Ytakngnigpncmkaa
open Go.RowKit

/-- texts, written from a sector on, so many of them -/
def DiskM.putTo (m : DiskM) (a : Nat) (F : Nat → ByteArray) : Nat → DiskM
  | 0 => m
  | j + 1 => (m.putTo a F j).wrote (a + j) (txtf (F j))
theorem putTo_same (m : DiskM) (a : Nat) (F : Nat → ByteArray) (j : Nat) : (m.putTo a F j).d = m.d ∧ (m.putTo a F j).n = m.n ∧ (m.putTo a F j).own = m.own ∧ (m.putTo a F j).S = m.S ∧ (m.Live → (m.putTo a F j).Live) := by
  induction j with
  | zero => exact ⟨rfl, rfl, rfl, rfl, fun h => h⟩
  | succ j ih => exact ⟨ih.1, ih.2.1, ih.2.2.1, ih.2.2.2.1, fun h => live_wrote (ih.2.2.2.2 h) _ _⟩
/-- the i-th frame (from 0 on) of a record, whose first has the number k + 1 -/
def recFrame (ep k : Nat) (t : ByteArray) (i : Nat) : ByteArray :=
  ringFrame ep (k + i) (if i + 1 = costOf t.size then 1 else 0) (t.extract (46 * i) (46 * i + 46))
theorem append_not (r p f n ep u : Nat) (t : ByteArray) (w : World) (h : RingAt r p f n ep u w) (hn : n < 100000) (hu : u < 100000) (ht : t.size < 100000) (hc : n < u + costOf t.size) :
    Calls Try.prog 79 #[.pointer (some ⟨r, 0, none⟩), .string t] w fun e w' => e = .returned (.bool false) ∧ Below w.heap.size w w' := by
  have HC := Lib.hid (cost_any t.size w (by omega))
  have HL := Lib.hid fun wx (hb : Below w.heap.size w wx) => left_any' r p f n ep u wx (h.below hb) (by omega) (by omega)
  have hi : (n : Int) - (u : Int) < (costOf t.size : Nat) := by omega
  clear h
  generalize costOf t.size = C at *
  go_enter Try.func79, Try.ntmps79
  go_wp2_with fail
  refine HC.out.mono ?_
  rintro e w1 ⟨rfl, rfl⟩
  go_wp2_with fail
  refine (HL.out _ (Below.refl _ _)).mono ?_
  rintro e w1 ⟨rfl, hb⟩
  go_wp2_with fail
  go_ret
  exact ⟨rfl, hb⟩
theorem cut_cut (t : ByteArray) (a b : Nat) : (t.extract a t.size).extract 0 b = t.extract a (a + b) := by
  apply ByteArray.ext
  apply Array.toList_inj.mp
  rw [ByteArray.data_extract, ByteArray.data_extract, ByteArray.data_extract, Array.toList_extract, Array.toList_extract, Array.toList_extract]
  simp only [List.extract_eq_take_drop, List.drop_zero, Nat.sub_zero]
  have hl : t.data.toList.length = t.size := by simp
  rw [List.take_take, show a + b - a = b by omega, show min b (t.size - a) = if b ≤ t.size - a then b else t.size - a by split <;> omega]
  split
  · rfl
  · rw [List.take_of_length_le (i := b) (by rw [List.length_drop]; omega), List.take_of_length_le (by rw [List.length_drop]; omega)]
theorem cut_rest (t : ByteArray) (a b : Nat) : (t.extract a t.size).extract b (t.extract a t.size).size = t.extract (a + b) t.size := by
  apply ByteArray.ext
  apply Array.toList_inj.mp
  rw [ByteArray.data_extract, ByteArray.data_extract, ByteArray.data_extract, Array.toList_extract, Array.toList_extract, Array.toList_extract]
  simp only [List.extract_eq_take_drop]
  have hl : t.data.toList.length = t.size := by simp
  rw [ByteArray.size_extract, List.drop_take, List.drop_drop, List.take_take]
  congr 1
  omega
theorem cut_end (t : ByteArray) (a b : Nat) (h : t.size ≤ b) : t.extract a t.size = t.extract a b := by
  apply ByteArray.ext
  apply Array.toList_inj.mp
  rw [ByteArray.data_extract, ByteArray.data_extract, Array.toList_extract, Array.toList_extract]
  simp only [List.extract_eq_take_drop]
  have hl : t.data.toList.length = t.size := by simp
  rw [List.take_of_length_le (by rw [List.length_drop]; omega), List.take_of_length_le (by rw [List.length_drop]; omega)]
theorem cost_pos (s : Nat) : ∃ d, costOf s = d + 1 ∧ 46 * d ≤ s ∧ s ≤ 46 * d + 46 ∧ (∀ i, i < d → 46 * i + 46 < s) := by
  refine ⟨(max s 1 - 1) / 46, rfl, by omega, by omega, fun i hi => by omega⟩
set_option maxRecDepth 10000 in
set_option maxHeartbeats 2000000 in
theorem append_ok (r p f n ep u : Nat) (t : ByteArray) (m : DiskM) (hp : m.d = p) (hL : m.Live) (w : World) (h : RingAt r p f n ep u w) (hD : DiskAt m w) (hr : ¬ m.own r) (hf : f + n ≤ m.n) (he : ep < 4294967296) (ht : t.size < 100000) (hc : u + costOf t.size ≤ n) :
    Calls Try.prog 79 #[.pointer (some ⟨r, 0, none⟩), .string t] w fun e w' => e = .returned (.bool true) ∧ DiskAt (m.putTo (f + u) (recFrame ep u t) (costOf t.size)) w' ∧ RingAt r p f n ep (u + costOf t.size) w' ∧ Grew (fun k => m.own k ∨ k = r) w w' := by
  have hn := hD.size
  have HC := Lib.hid (cost_any t.size w (by omega))
  have HL := Lib.hid fun wx (hb : Below w.heap.size w wx) => left_any' r p f n ep u wx (h.below hb) (by omega) (by omega)
  obtain ⟨d, hd, d0, d1, d2⟩ := cost_pos t.size
  have HW : Hid (∀ i x wx, i < d → x = ((u + i : Nat) : Int) → DiskAt (m.putTo (f + u) (recFrame ep u t) i) wx → RingAt r p f n ep u wx → Calls Try.prog 92 #[.pointer (some ⟨r, 0, none⟩), .int .i64 x, .int .u8 0, .string ((t.extract (46 * i) t.size).extract 0 46)] wx fun e w' =>
      e = .returned (.tuple #[]) ∧ DiskAt (m.putTo (f + u) (recFrame ep u t) (i + 1)) w' ∧ Grew m.own wx w') := Lib.hid fun i x wx hi hx h1 h2 => by
    subst hx
    obtain ⟨q1, q2, q3, q4, q5⟩ := putTo_same m (f + u) (recFrame ep u t) i
    rw [cut_cut]
    refine (ringWrite_any r p f n ep u (u + i) 0 (t.extract (46 * i) (46 * i + 46)) (m.putTo (f + u) (recFrame ep u t) i) (q1.trans hp) (q5 hL) wx h2 h1 (by rw [q3]; exact hr) (by omega) (by rw [ByteArray.size_extract]; omega) he).mono ?_
    rintro e w' ⟨rfl, a1, a2⟩
    rw [q3] at a2
    refine ⟨rfl, ?_, a2⟩
    have e0 : m.putTo (f + u) (recFrame ep u t) (i + 1) = (m.putTo (f + u) (recFrame ep u t) i).wrote (f + (u + i)) (txtf (ringFrame ep (u + i) 0 (t.extract (46 * i) (46 * i + 46)))) := by
      show (m.putTo (f + u) (recFrame ep u t) i).wrote (f + u + i) (txtf (recFrame ep u t i)) = _
      unfold recFrame
      rw [hd, if_neg (by omega), Nat.add_assoc]
    rw [e0]
    exact a1
  have HWl : Hid (∀ x wx, x = ((u + d : Nat) : Int) → DiskAt (m.putTo (f + u) (recFrame ep u t) d) wx → RingAt r p f n ep u wx → Calls Try.prog 92 #[.pointer (some ⟨r, 0, none⟩), .int .i64 x, .int .u8 1, .string (t.extract (46 * d) t.size)] wx fun e w' =>
      e = .returned (.tuple #[]) ∧ DiskAt (m.putTo (f + u) (recFrame ep u t) (d + 1)) w' ∧ Grew m.own wx w') := Lib.hid fun x wx hx h1 h2 => by
    subst hx
    obtain ⟨q1, q2, q3, q4, q5⟩ := putTo_same m (f + u) (recFrame ep u t) d
    rw [cut_end t (46 * d) (46 * d + 46) d1]
    refine (ringWrite_any r p f n ep u (u + d) 1 (t.extract (46 * d) (46 * d + 46)) (m.putTo (f + u) (recFrame ep u t) d) (q1.trans hp) (q5 hL) wx h2 h1 (by rw [q3]; exact hr) (by omega) (by rw [ByteArray.size_extract]; omega) he).mono ?_
    rintro e w' ⟨rfl, a1, a2⟩
    rw [q3] at a2
    refine ⟨rfl, ?_, a2⟩
    have e0 : m.putTo (f + u) (recFrame ep u t) (d + 1) = (m.putTo (f + u) (recFrame ep u t) d).wrote (f + (u + d)) (txtf (ringFrame ep (u + d) 1 (t.extract (46 * d) (46 * d + 46)))) := by
      show (m.putTo (f + u) (recFrame ep u t) d).wrote (f + u + d) (txtf (recFrame ep u t d)) = _
      unfold recFrame
      rw [hd, if_pos rfl, Nat.add_assoc]
    rw [e0]
    exact a1
  have hi : ¬ (n : Int) - (u : Int) < ((d + 1 : Nat) : Int) := by omega
  rw [hd] at HC hc ⊢
  clear hd
  have HM : Hid (∀ i, (m.putTo (f + u) (recFrame ep u t) i).own = m.own) := Lib.hid fun i => (putTo_same m (f + u) (recFrame ep u t) i).2.2.1
  have H0 : Hid (m.putTo (f + u) (recFrame ep u t) 0 = m) := Lib.hid rfl
  generalize m.putTo (f + u) (recFrame ep u t) = M at *
  have h0 : t.extract (46 * 0) t.size = t := by simp
  have HZ : Hid (∀ i, (t.extract (46 * i) t.size).size = t.size - 46 * i) := Lib.hid fun i => by rw [ByteArray.size_extract]; omega
  have HR : Hid (∀ i, (t.extract (46 * i) t.size).extract 46 (t.extract (46 * i) t.size).size = t.extract (46 * (i + 1)) t.size) := Lib.hid fun i => by rw [cut_rest]; rfl
  generalize hT : (fun i => t.extract (46 * i) t.size) = T at *
  have HT : Hid (∀ i, t.extract (46 * i) t.size = T i) := Lib.hid fun i => by rw [← hT]
  clear hT
  simp only [HT.out] at HW HWl HZ HR h0
  have H := Lib.hid h
  have HD := Lib.hid hD
  clear h hD HT
  go_enter Try.func79, Try.ntmps79
  go_wp2_with fail
  refine HC.out.mono ?_
  rintro e w1 ⟨rfl, rfl⟩
  go_wp2_with fail
  refine (HL.out _ (Below.refl _ _)).mono ?_
  rintro e w1 ⟨rfl, hb⟩
  have HB := Lib.hid hb
  clear hb HC HL
  go_wp2_with fail
  go_loopw [1, 16] (fun s i wx => ∃ k : Nat, k ≤ d ∧ i = .int .i64 k ∧ s = .string (T k) ∧ DiskAt (M k) wx ∧ RingAt r p f n ep u wx ∧ Grew m.own w wx) (fun _ i _ => d - (intOf i).toNat)
  case atStart => exact ⟨0, by omega, rfl, by rw [h0], by rw [H0.out]; exact HD.out.keep (Grew.of_below (S := fun _ => False) HB.out) (fun _ _ e => e), H.out.below HB.out, Grew.of_below HB.out⟩
  case round =>
    obtain ⟨k, hk, rfl, rfl, hD1, hR1, hG1⟩ := hrel
    have c4 := hR1.c4
    have hz := HZ.out k
    have HD1 := Lib.hid hD1
    have HR1 := Lib.hid hR1
    have HG1 := Lib.hid hG1
    clear hD1 hR1 hG1
    by_cases hlt : k < d
    · have i1 : (k : Int) < ((d + 1 : Nat) : Int) - 1 := by omega
      have i2 : (46 : Int) ≤ ((T k).size : Int) := by have := d2 k hlt; omega
      have e1 : IntKind.i64.wrap ((u : Int) + (k : Int)) = (u : Int) + (k : Int) := IntWalk.i64_in _ (by omega)
      have hrest := HR.out k
      clear hz
      go_upto_region 7 with fail
      go_region_held3 (fun wx => wx.cell? ⟨r, 4, none⟩ = some (.int .i64 u)) (first | exact c4 | exact HR2.out.c4)
        (first | (go_at_call 92; (with_reducible refine (HW.out k _ wr.drew hlt (by omega) HD1.out.drew (HR1.out.keep (S := fun _ => False) (Grew.refl wr).drew fun e => e)).mono ?_); rintro e w2 ⟨rfl, hd2, hg2⟩; (have HD2 := Lib.hid hd2); (have HR2 := Lib.hid (HR1.out.keep ((Grew.refl wr).drew.trans hg2) hr)); (have HG2 := Lib.hid (HG1.out.drew.trans hg2)); clear hd2 hg2))
      go_wp2_with fail
      go_roundw
      case rel => exact ⟨k + 1, by omega, by go_num, by rw [← hrest], HD2.out, HR2.out, HG2.out⟩
      case measure => simp [intOf]; omega
    · have i1 : ¬ (k : Int) < ((d + 1 : Nat) : Int) - 1 := by omega
      obtain rfl : k = d := by omega
      clear hz
      go_wp2_with fail
      refine (HWl.out _ _ (by omega) HD1.out HR1.out).mono ?_
      rintro e w2 ⟨rfl, hd2, hg2⟩
      have hR2 := HR1.out.keep hg2 hr
      have c4 := hR2.c4
      have z4 := hR2.free
      have HD2 := Lib.hid hd2
      have HR2 := Lib.hid hR2
      have HG2 := Lib.hid (HG1.out.trans hg2)
      clear hd2 hg2 hR2
      go_wp2_with fail
      go_ret
      refine ⟨rfl, ?_, ?_, ?_⟩
      · exact HD2.out.keep (S := fun q => q = r) ((Grew.refl w2).setCell _ _ fun _ => rfl) (fun q hq e => by rw [HM.out] at hq; subst e; exact hr hq)
      · have := HR2.out.used (u + (k + 1))
        exact this
      · exact (HG2.out.mono fun _ _ e => Or.inl e).setCell _ _ fun _ => Or.inr rfl
/-- what Append leaves of the disk, and of the journal's frames -/
def appM (m : DiskM) (f n ep u : Nat) (t : ByteArray) : DiskM := if u + costOf t.size ≤ n then m.putTo (f + u) (recFrame ep u t) (costOf t.size) else m
def appU (n u : Nat) (t : ByteArray) : Nat := if u + costOf t.size ≤ n then u + costOf t.size else u
theorem appM_same (m : DiskM) (f n ep u : Nat) (t : ByteArray) : (appM m f n ep u t).d = m.d ∧ (appM m f n ep u t).n = m.n ∧ (appM m f n ep u t).own = m.own ∧ (appM m f n ep u t).S = m.S ∧ (m.Live → (appM m f n ep u t).Live) := by
  unfold appM
  split
  · exact putTo_same _ _ _ _
  · exact ⟨rfl, rfl, rfl, rfl, fun h => h⟩
theorem appU_le (n u : Nat) (t : ByteArray) (h : u ≤ n) : appU n u t ≤ n := by unfold appU; split <;> omega
theorem append_any (r p f n ep u : Nat) (t : ByteArray) (m : DiskM) (hp : m.d = p) (hL : m.Live) (w : World) (h : RingAt r p f n ep u w) (hD : DiskAt m w) (hr : ¬ m.own r) (hf : f + n ≤ m.n) (hu : u ≤ n) (he : ep < 4294967296) (ht : t.size < 100000) :
    Calls Try.prog 79 #[.pointer (some ⟨r, 0, none⟩), .string t] w fun e w' => e = .returned (.bool (decide (u + costOf t.size ≤ n))) ∧ DiskAt (appM m f n ep u t) w' ∧ RingAt r p f n ep (appU n u t) w' ∧ Grew (fun k => m.own k ∨ k = r) w w' := by
  have hn := hD.size
  by_cases hc : u + costOf t.size ≤ n
  · rw [decide_eq_true hc]
    unfold appM appU
    rw [if_pos hc, if_pos hc]
    exact append_ok r p f n ep u t m hp hL w h hD hr hf he ht hc
  · rw [decide_eq_false hc]
    unfold appM appU
    rw [if_neg hc, if_neg hc]
    refine (append_not r p f n ep u t w h (by omega) (by omega) ht (by omega)).mono ?_
    rintro e w' ⟨rfl, hb⟩
    exact ⟨rfl, hD.keep (Grew.of_below (S := fun _ => False) hb) (fun _ _ e => e), h.below hb, Grew.of_below hb⟩
end Go.Proofs.Ytakngnigpncmkaa
