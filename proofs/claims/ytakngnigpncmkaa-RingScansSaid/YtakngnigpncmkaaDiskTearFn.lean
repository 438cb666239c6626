/-
  tear.
-/
import Derived.Test.YtakngnigpncmkaaDiskTear
namespace Go.Proofs.Ytakngnigpncmkaa
open Go.RowKit

/-- of sector k the first c bytes have reached the device, and no others -/
def DiskM.torn (m : DiskM) (k c : Nat) : DiskM := (m.reach k c).wrote k fun j => (m.reach k c).S (k * 64 + j)
theorem RowAt.rangePart {b len : Nat} {f : Nat → UInt8} {w : World} (h : RowAt b len f w) (o n : Nat) (ho : o + n ≤ len) : w.rangeAt b o (rowOf (fun j => f (o + j)) 0 n) := fun j v hv => by
  have hj : j < n := by
    rcases Nat.lt_or_ge j n with hj | hj
    · exact hj
    · rw [List.getElem?_eq_none (by simpa using hj)] at hv
      simp at hv
  rw [rowOf_get _ _ _ _ hj, Nat.zero_add] at hv
  rw [← hv, h.cell (o + j) (by omega)]
set_option maxRecDepth 100000 in
theorem tear_any (m : DiskM) (k c : Nat) (w : World) (h : DiskAt m w) (hk : k < m.n) (hc : c ≤ 64) :
    Calls Try.prog 59 #[.pointer (some ⟨m.d, 0, none⟩), .int .i64 k, .int .i64 c] w fun e w' => e = .returned (.tuple #[]) ∧ DiskAt (m.torn k c) w' ∧ Grew m.own w w' := by
  have c0 : w.drew.cell? ⟨m.d, 0, none⟩ = some (.slice (some ⟨m.bs, 0, none⟩) m.n m.cs) := h.drew.c0
  have c1 : w.drew.cell? ⟨m.d, 1, none⟩ = some (.slice (some ⟨m.bt, 0, none⟩) m.n m.ct) := h.drew.c1
  have hcp := copy_part m k c _ h.drew hk hc
  have hsl := slice_cut m.bs (k * 64) c hc
  have hb : (0 : Int) ≤ k ∧ (k : Int) < m.n := by omega
  have H1 := Lib.hid (h.drew.reach k c hk hc)
  have HG : Hid (Grew m.own w (w.drew.setCells m.bs (k * 64) (rowOf m.T (k * 64) c))) := Lib.hid (setCells_grew _ _ _ _ (Grew.refl w).drew fun _ => Or.inr (Or.inl rfl))
  have HS0 : Hid (w.drew.cell? ⟨m.d, 0, none⟩ = some (.slice (some ⟨m.bs, 0, none⟩) m.n m.cs) ∧ w.drew.cell? ⟨m.d, 1, none⟩ = some (.slice (some ⟨m.bt, 0, none⟩) m.n m.ct)) := Lib.hid ⟨c0, c1⟩
  have HS1 : Hid ((w.drew.setCells m.bs (k * 64) (rowOf m.T (k * 64) c)).cell? ⟨m.d, 0, none⟩ = some (.slice (some ⟨m.bs, 0, none⟩) m.n m.cs) ∧ (w.drew.setCells m.bs (k * 64) (rowOf m.T (k * 64) c)).cell? ⟨m.d, 1, none⟩ = some (.slice (some ⟨m.bt, 0, none⟩) m.n m.ct)) := Lib.hid ⟨H1.out.c0, H1.out.c1⟩
  have HK := Lib.hid hk
  clear h hk c0 c1 hc
  go_enter Try.func59, Try.ntmps59
  go_upto_region 0 with fail
  go_region_held3 (fun wx => wx.cell? ⟨m.d, 0, none⟩ = some (.slice (some ⟨m.bs, 0, none⟩) m.n m.cs) ∧ wx.cell? ⟨m.d, 1, none⟩ = some (.slice (some ⟨m.bt, 0, none⟩) m.n m.ct)) (first | exact HS0.out | exact HS1.out) (fail)
  clear hcp hsl HS0 HS1
  generalize w.drew.setCells m.bs (k * 64) (rowOf m.T (k * 64) c) = wb at H1 HG ⊢
  go_upto_region 1 with fail
  have h2 := H1.out
  have hr := h2.sure.rangePart (k * 64) 64 (by have := HK.out; simp only [DiskM.reach]; omega)
  have hq := h2.drew.wrote k HK.out fun j => (m.reach k c).S (k * 64 + j)
  have hL := rowOf_length (fun j => (m.reach k c).S (k * 64 + j)) 0 64
  have hO := rowOf_one (fun j => (m.reach k c).S (k * 64 + j)) 0 64
  have hgq : Grew m.own w (wb.drew.setCells m.bt (k * 64) (rowOf (fun j => (m.reach k c).S (k * 64 + j)) 0 64)) := setCells_grew _ _ _ _ HG.out.drew fun _ => Or.inr (Or.inr rfl)
  change DiskAt (m.torn k c) (wb.drew.setCells m.bt (k * 64) _) at hq
  change wb.rangeAt m.bs (k * 64) _ at hr
  generalize rowOf (fun j => (m.reach k c).S (k * 64 + j)) 0 64 = L at hL hO hr hq hgq
  have hI2 : (Try.prog.info? 100).map (·.size) = some L.length := by rw [hL]; kernel_rfl
  have hI3 : (Try.prog.info? 100).map (·.size) = some L.toArray.size := by rw [List.size_toArray, hL]; kernel_rfl
  have hU := Try.underlying100
  have n2 : m.d ≠ m.bt := h2.n2
  have n3 : m.bs ≠ m.bt := h2.n3
  have ht : wb.there m.bt (k * 64) L.toArray.size := h2.there.part (k * 64) L.toArray.size (by rw [List.size_toArray, hL]; have := HK.out; simp only [DiskM.reach]; omega)
  have HS0 : Hid (wb.drew.cell? ⟨m.d, 0, none⟩ = some (.slice (some ⟨m.bs, 0, none⟩) m.n m.cs) ∧ wb.drew.cell? ⟨m.d, 1, none⟩ = some (.slice (some ⟨m.bt, 0, none⟩) m.n m.ct) ∧ wb.drew.rangeAt m.bs (k * 64) L ∧ wb.drew.there m.bt (k * 64) L.toArray.size) := Lib.hid ⟨h2.drew.c0, h2.drew.c1, by simpa using hr, by simpa using ht⟩
  have HS1 : Hid ((wb.drew.setCells m.bt (k * 64) L).cell? ⟨m.d, 0, none⟩ = some (.slice (some ⟨m.bs, 0, none⟩) m.n m.cs) ∧ (wb.drew.setCells m.bt (k * 64) L).cell? ⟨m.d, 1, none⟩ = some (.slice (some ⟨m.bt, 0, none⟩) m.n m.ct) ∧ (wb.drew.setCells m.bt (k * 64) L).rangeAt m.bs (k * 64) L ∧ (wb.drew.setCells m.bt (k * 64) L).there m.bt (k * 64) L.toArray.size) :=
    Lib.hid ⟨by rw [World.cell?_setCells_out _ _ _ _ _ fun e => absurd e n2]; exact HS0.out.1, by rw [World.cell?_setCells_out _ _ _ _ _ fun e => absurd e n2]; exact HS0.out.2.1, World.rangeAt_setCells_apart HS0.out.2.2.1 _ _ _ (Or.inl n3), World.there_setCells HS0.out.2.2.2 _ _ _⟩
  have HQ := Lib.hid hq
  have HGQ := Lib.hid hgq
  clear hq hgq h2 H1 HG hr ht HK n2 n3 hL
  go_region_held3 (fun wx => wx.cell? ⟨m.d, 0, none⟩ = some (.slice (some ⟨m.bs, 0, none⟩) m.n m.cs) ∧ wx.cell? ⟨m.d, 1, none⟩ = some (.slice (some ⟨m.bt, 0, none⟩) m.n m.ct) ∧ wx.rangeAt m.bs (k * 64) L ∧ wx.there m.bt (k * 64) L.toArray.size)
    (first | exact HS0.out | exact HS1.out) (fail)
  go_end0
  exact ⟨rfl, HQ.out, HGQ.out⟩
end Go.Proofs.Ytakngnigpncmkaa
