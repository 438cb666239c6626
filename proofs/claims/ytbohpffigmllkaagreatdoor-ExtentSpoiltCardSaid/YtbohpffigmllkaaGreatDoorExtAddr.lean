/-
  The document's address of an extent: the key of what it sums to.
-/
import Derived.Test.YtbohpffigmllkaaGreatDoorShaRefHead
import Derived.Test.YtbohpffigmllkaaGreatDoorRefs
import Derived.Test.YtbohpffigmllkaaGreatDoorExtKept
import Derived.Test.YtbohpffigmllkaaGreatDoorShas
import Derived.Deep.RegionHeld3
namespace Go.Proofs.YtbohpffigmllkaaGreatDoor
open Go.RowKit

theorem ref_same (f : Nat → Nat) (hf : ∀ j, f j < 256) (n : Int) : headBytes ⟨(txt f).toArray⟩ n 32 = txt (headF f (clamp n)) := by
  unfold headBytes txt
  refine List.map_congr_left fun j hj => ?_
  have hj' : j < 32 := by simpa using hj
  rw [head_same f hf n j hj']
  congr 2
  show ((List.map (fun j => UInt8.ofNat (f j)) (List.range 32)).getD j 0).toNat = f j
  rw [List.getD_eq_getElem?_getD, List.getElem?_map, List.getElem?_range hj']
  show (UInt8.ofNat (f j)).toNat = f j
  rw [UInt8.toNat_ofNat', Nat.mod_eq_of_lt (hf j)]
/-- an extent's key at so many bits -/
def keyB (D : ByteArray) (q : Int) : List UInt8 := txt (headF (Sha.dg (shaOf D.data.toList)) (clamp q))
theorem sum_txt (s : Sha.St) : txt (Sha.dg s) = sumB s := by
  obtain ⟨a, b, c, d, e, f, g, z⟩ := s
  have h : ∀ n : Nat, UInt8.ofNat (n % 256) = UInt8.ofNat n := fun n => by
    apply UInt8.toNat_inj.1
    rw [UInt8.toNat_ofNat', UInt8.toNat_ofNat']
    omega
  simp [txt, sumB, wl, enc, List.range_succ, Sha.dg, Sha.St.get, h]
theorem keyB_addr (D : ByteArray) (q : Int) : headBytes ⟨(sumB (shaOf D.data.toList)).toArray⟩ q (⟨(sumB (shaOf D.data.toList)).toArray⟩ : ByteArray).size = keyB D q := by
  have e : (⟨(sumB (shaOf D.data.toList)).toArray⟩ : ByteArray).size = 32 := by
    rw [← sum_txt]
    show (txt (Sha.dg (shaOf D.data.toList))).length = 32
    simp [txt]
  rw [e, ← sum_txt]
  exact ref_same _ (fun j => Nat.mod_lt _ (by decide)) q
set_option maxRecDepth 100000 in
theorem addr_any (x0 : Value) (q : Int) (hq1 : -9223372036854775808 ≤ q) (hq2 : q ≤ 9223372036854775807) (D : ByteArray) (hD : D.size < 900000) (w : World) :
    Calls Tryz.prog 48 #[.agg #[x0, .int .i64 q], .string D] w fun e w' => e = .returned (.string ⟨(keyB D q).toArray⟩) ∧ Below w.heap.size w w' := by
  obtain ⟨S, hS⟩ : ∃ S : ByteArray, ⟨(sumB (shaOf D.data.toList)).toArray⟩ = S := ⟨_, rfl⟩
  have hs32 : S.size = 32 := by
    rw [← hS, ← sum_txt]
    show (txt (Sha.dg (shaOf D.data.toList))).length = 32
    simp [txt]
  have hK := keyB_addr D q
  rw [hS] at hK
  have HOf := Lib.hid fun wx => refOf_any D hD wx
  rw [hS] at HOf
  have HHd := Lib.hid fun wx => refHead_any S q (by omega) hq1 hq2 wx
  rw [hK] at HHd
  generalize (⟨(keyB D q).toArray⟩ : ByteArray) = K at *
  obtain ⟨W, hW⟩ : ∃ W, w.alloc (.cells #[x0, .int .i64 q] 32) = W := ⟨_, rfl⟩
  have hc : W.cell? ⟨w.heap.size, 1, none⟩ = some (.int .i64 q) := by
    rw [← hW, World.cell?_alloc_new]
    rfl
  have hlt : w.heap.size < W.heap.size := by rw [← hW]; simp
  have hB : Below w.heap.size w W := by rw [← hW]; exact (Below.refl _ w).alloc (Nat.le_refl _) _
  have HS0 : Hid (W.drew.cell? ⟨w.heap.size, 1, none⟩ = some (.int .i64 q) ∧ Hid (w.heap.size < W.drew.heap.size ∧ Below w.heap.size w W.drew)) := Lib.hid ⟨hc, Lib.hid ⟨hlt, hB.drew⟩⟩
  have HK : Hid (∀ wx wy, (wx.cell? ⟨w.heap.size, 1, none⟩ = some (.int .i64 q) ∧ Hid (w.heap.size < wx.heap.size ∧ Below w.heap.size w wx)) → Below wx.heap.size wx wy → (wy.cell? ⟨w.heap.size, 1, none⟩ = some (.int .i64 q) ∧ Hid (w.heap.size < wy.heap.size ∧ Below w.heap.size w wy))) := Lib.hid fun wx wy h k => ⟨(k.cell (p := ⟨w.heap.size, 1, none⟩) h.2.out.1).trans h.1, Lib.hid ⟨Nat.lt_of_lt_of_le h.2.out.1 k.size, h.2.out.2.trans (k.mono h.2.out.2.size)⟩⟩
  clear hS hs32 hK hc hlt hB
  go_enter Tryz.func48, Tryz.ntmps48
  go_upto_region 1 with fail
  try simp only [hW]
  go_region_held3 (fun wx => wx.cell? ⟨w.heap.size, 1, none⟩ = some (.int .i64 q) ∧ Hid (w.heap.size < wx.heap.size ∧ Below w.heap.size w wx)) (first | assumption | exact HS0.out) (first
    | (go_at_call 34; refine (HOf.out _).mono ?_; rintro e w' ⟨rfl, hb⟩; have hS' := HK.out _ _ (by assumption) hb)
    | (go_at_call 83; refine (HHd.out _).mono ?_; rintro e w' ⟨rfl, hb⟩; have hS' := HK.out _ _ (by assumption) hb))
  have HE := Lib.hid hS'.2.out.2
  clear hS'
  go_wp2_with fail
  go_ret
  exact ⟨rfl, HE.out⟩
end Go.Proofs.YtbohpffigmllkaaGreatDoor
