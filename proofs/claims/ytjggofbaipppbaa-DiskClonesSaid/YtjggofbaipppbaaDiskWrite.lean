/-
  A sector is written.
-/
import Derived.Test.YtjggofbaipppbaaDiskOne
import Derived.Deep.RegionHeld3
namespace Go.Proofs.Ytjggofbaipppbaa
open Go.RowKit

theorem write_cut (m : DiskM) (at' : Int) (s : ByteArray) (w : World) (h : DiskAt m w) (hd : m.dead = true) :
    Calls Try.prog 57 #[.pointer (some ⟨m.d, 0, none⟩), .int .i64 at', .string s] w fun e w' => e = failed 12 ∧ w = w' := by
  have H := Lib.hid (power_cut m w h hd)
  clear h hd
  go_enter Try.func57, Try.ntmps57
  go_wp2_with fail
  refine H.out.mono ?_
  rintro e w' ⟨rfl, rfl⟩
  exact ⟨rfl, rfl, rfl⟩
theorem write_not (m : DiskM) (at' : Int) (s : ByteArray) (w : World) (h : DiskAt m w) (hd : m.dead = false) (hn : at' < 0 ∨ m.n ≤ at') :
    Calls Try.prog 57 #[.pointer (some ⟨m.d, 0, none⟩), .int .i64 at', .string s] w fun e w' => e = failed 6 ∧ w = w' := by
  have H := Lib.hid (power_ok m w h hd)
  have H' := Lib.hid (sector_not m at' w h hn)
  clear h hd hn
  go_enter Try.func57, Try.ntmps57
  go_wp2_with fail
  refine H.out.mono ?_
  rintro e w' ⟨rfl, rfl⟩
  go_wp2_with fail
  refine H'.out.mono ?_
  rintro e w' ⟨rfl, rfl⟩
  exact ⟨rfl, rfl, rfl⟩
theorem write_big (m : DiskM) (k : Nat) (s : ByteArray) (w : World) (h : DiskAt m w) (hd : m.dead = false) (hk : k < m.n) (hs : 64 < s.size) :
    Calls Try.prog 57 #[.pointer (some ⟨m.d, 0, none⟩), .int .i64 k, .string s] w fun e w' => e = failed 3 ∧ w = w' := by
  have H := Lib.hid (power_ok m w h hd)
  have H' := Lib.hid (sector_ok m k w h (by omega) (by omega))
  have h3 : (64 : Int) < s.size := by omega
  clear h hd hk hs
  go_enter Try.func57, Try.ntmps57
  go_wp2_with fail
  refine H.out.mono ?_
  rintro e w' ⟨rfl, rfl⟩
  go_wp2_with fail
  refine H'.out.mono ?_
  rintro e w' ⟨rfl, rfl⟩
  go_wp2_with fail
  refine (fail_any _ _).mono ?_
  rintro e w' ⟨rfl, rfl⟩
  exact ⟨rfl, rfl, rfl⟩
theorem write_dies (m : DiskM) (k : Nat) (s : ByteArray) (w : World) (h : DiskAt m w) (hd : m.dead = false) (hk : k < m.n) (hs : s.size ≤ 64) (ha : m.armed = true) (h0 : m.left = 0) :
    Calls Try.prog 57 #[.pointer (some ⟨m.d, 0, none⟩), .int .i64 k, .string s] w fun e w' => e = failed 12 ∧ DiskAt { m with dead := true } w' ∧ Grew m.own w w' := by
  have H := Lib.hid (power_ok m w h hd)
  have H' := Lib.hid (sector_ok m k w h (by omega) (by omega))
  have H'' := Lib.hid (spend_dies m w h ha h0)
  have h3 : ¬ (64 : Int) < s.size := by omega
  clear h hd hk hs ha h0
  go_enter Try.func57, Try.ntmps57
  go_wp2_with fail
  refine H.out.mono ?_
  rintro e w' ⟨rfl, rfl⟩
  go_wp2_with fail
  refine H'.out.mono ?_
  rintro e w' ⟨rfl, rfl⟩
  go_wp2_with fail
  refine H''.out.mono ?_
  rintro e w' ⟨rfl, hr⟩
  exact ⟨rfl, rfl, hr⟩
theorem RowAt.range {b len : Nat} {f : Nat → UInt8} {w : World} (h : RowAt b len f w) : w.rangeAt b 0 (rowOf f 0 len) := fun j v hv => by
  have hj : j < len := by
    rcases Nat.lt_or_ge j len with hj | hj
    · exact hj
    · rw [List.getElem?_eq_none (by simpa using hj)] at hv
      simp at hv
  rw [rowOf_get _ _ _ _ hj] at hv
  rw [← hv, h.cell (0 + j) (by omega)]
theorem RowAt.part {b len : Nat} {f : Nat → UInt8} {w : World} (h : RowAt b len f w) (o n : Nat) (hn : o + n ≤ len) : w.there b o n := fun j hj =>
  ⟨by rw [h.cell (o + j) (by omega)]; rfl, h.free (o + j) (by omega)⟩
set_option maxRecDepth 100000 in
theorem write_ok (m : DiskM) (k : Nat) (s : ByteArray) (w : World) (h : DiskAt m w) (hd : m.dead = false) (hk : k < m.n) (hs : s.size ≤ 64) (hl : m.left ≤ 2 ^ 62) (hp : m.armed = true → 0 < m.left) :
    Calls Try.prog 57 #[.pointer (some ⟨m.d, 0, none⟩), .int .i64 k, .string s] w fun e w' => e = .returned (.tuple #[]) ∧ DiskAt (m.spent.wrote k (txtf s)) w' ∧ Grew m.own w w' := by
  have H := Lib.hid (power_ok m w h hd)
  have H' := Lib.hid (sector_ok m k w h (by omega) (by omega))
  have H'' := Lib.hid (spend_ok m w h hl hp)
  have h3 : ¬ (64 : Int) < s.size := by omega
  have HK := Lib.hid hk
  have hb : (0 : Int) ≤ k ∧ (k : Int) < m.n := by omega
  clear h hd hl hp hk
  go_enter Try.func57, Try.ntmps57
  go_wp2_with fail
  refine H.out.mono ?_
  rintro e w' ⟨rfl, rfl⟩
  go_wp2_with fail
  refine H'.out.mono ?_
  rintro e w' ⟨rfl, rfl⟩
  go_wp2_with fail
  refine H''.out.mono ?_
  rintro e w1 ⟨rfl, h1, hg⟩
  clear H H' H''
  go_upto_region 6 with fail
  have hx := row_new w1 84
  have hg2 : Grew (fun _ => False) w1 (w1.alloc (.cells lit64 84)) := (Grew.refl w1).alloc _
  unfold lit64 at hx hg2
  generalize w1.alloc _ = wa at hx hg2 ⊢
  have hcp := copy_text w1.heap.size s wa hx hs
  have hf := row_filled w1.heap.size s wa hx hs
  have hg3 : Grew (fun k => k = w1.heap.size) w1 (wa.setCells w1.heap.size 0 (rowOf (txtf s) 0 s.size)) := setCells_grew _ _ _ _ (hg2.mono fun _ _ e => e.elim) fun _ => rfl
  have H1 := Lib.hid h1
  have HG := Lib.hid hg
  have HF := Lib.hid hf
  have HG3 := Lib.hid hg3
  clear h1 hg hf hg3 hx hg2 hs
  go_upto_region 7 with fail
  clear hcp
  generalize wa.setCells w1.heap.size 0 (rowOf (txtf s) 0 s.size) = wb at HF HG3 ⊢
  have h2 : DiskAt m.spent wb := H1.out.kept HG3.out (Nat.ne_of_lt H1.out.lt) (Nat.ne_of_lt H1.out.sure.lt) (Nat.ne_of_lt H1.out.there.lt)
  have hL := rowOf_length (txtf s) 0 64
  have hO := rowOf_one (txtf s) 0 64
  have hr := HF.out.range
  have hq := h2.drew.wrote k (by simpa using HK.out) (txtf s)
  have hgq : Grew m.own w (wb.drew.setCells m.bt (k * 64) (rowOf (txtf s) 0 64)) := setCells_grew _ _ _ _ ((HG.out.step HG3.out fun x hx e => by have := HG.out.size; omega).drew) fun _ => Or.inr (Or.inr rfl)
  generalize rowOf (txtf s) 0 64 = L at hL hO hr hq hgq
  have hI2 : (Try.prog.info? 84).map (·.size) = some L.length := by rw [hL]; kernel_rfl
  have hI3 : (Try.prog.info? 84).map (·.size) = some L.toArray.size := by rw [List.size_toArray, hL]; kernel_rfl
  have hU := Try.underlying84
  have n2 : m.d ≠ m.bt := by simpa using H1.out.n2
  have nx : w1.heap.size ≠ m.bt := by have := H1.out.there.lt; simp at this; omega
  have c1 := h2.c1
  have ht := h2.there.part (k * 64) L.toArray.size (by rw [List.size_toArray, hL]; have := HK.out; simp; omega)
  simp only [DiskM.spent_d, DiskM.spent_bt, DiskM.spent_n, DiskM.spent_ct] at c1 ht
  have HS0 : Hid (wb.drew.cell? ⟨m.d, 1, none⟩ = some (.slice (some ⟨m.bt, 0, none⟩) m.n m.ct) ∧ wb.drew.rangeAt w1.heap.size 0 L ∧ wb.drew.there m.bt (k * 64) L.toArray.size) := Lib.hid ⟨by simpa using c1, by simpa using hr, by simpa using ht⟩
  have HS1 : Hid ((wb.drew.setCells m.bt (k * 64) L).cell? ⟨m.d, 1, none⟩ = some (.slice (some ⟨m.bt, 0, none⟩) m.n m.ct) ∧ (wb.drew.setCells m.bt (k * 64) L).rangeAt w1.heap.size 0 L ∧ (wb.drew.setCells m.bt (k * 64) L).there m.bt (k * 64) L.toArray.size) :=
    Lib.hid ⟨by rw [World.cell?_setCells_out _ _ _ _ _ fun e => absurd e n2]; exact HS0.out.1, World.rangeAt_setCells_apart HS0.out.2.1 _ _ _ (Or.inl nx), World.there_setCells HS0.out.2.2 _ _ _⟩
  have HQ := Lib.hid hq
  have HGQ := Lib.hid hgq
  clear hq hgq h2 H1 HG HF HG3 hr c1 ht HK n2 nx hL
  go_region_held3 (fun wx => wx.cell? ⟨m.d, 1, none⟩ = some (.slice (some ⟨m.bt, 0, none⟩) m.n m.ct) ∧ wx.rangeAt w1.heap.size 0 L ∧ wx.there m.bt (k * 64) L.toArray.size)
    (first | exact HS0.out | exact HS1.out) (fail)
  go_end0
  exact ⟨rfl, by simpa using HQ.out, HGQ.out⟩
end Go.Proofs.Ytjggofbaipppbaa
