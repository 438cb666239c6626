/-
  A super is written: contracts.
-/
import Derived.Test.YtnkmidfdpjcdaaaSuperBytes
namespace Go.Proofs.Ytnkmidfdpjcdaaa
open Go.RowKit

/-- a super's sector -/
def Sup.frame (s : Sup) : ByteArray := mkFrame s.ep 0 ⟨s.text.toArray⟩
theorem Sup.text_size (s : Sup) : (⟨s.text.toArray⟩ : ByteArray).size = 14 := s.text_len
theorem Sup.frame_size (s : Sup) : s.frame.size = 64 := mkFrame_size _ _ _ (by rw [s.text_size]; decide)
set_option maxHeartbeats 2000000 in
theorem supWrite_not (s : Sup) (hs : s.fits) (p : Nat) (m : DiskM) (hp : m.d = p) (w : World) (hD : DiskAt m w) (hc : ¬ s.check m.n = 0) :
    Calls Try.prog 50 #[.agg s.cells, .pointer (some ⟨p, 0, none⟩)] w fun e w' => e = failed (s.check m.n : Nat) ∧ Below w.heap.size w w' := by
  have hn := hD.size
  have HL : Hid (∀ wx, Below w.heap.size w wx → Calls Try.prog 15 #[.pointer (some ⟨p, 0, none⟩)] wx fun e w' => e = .returned (.int .i64 m.n) ∧ wx = w') := Lib.hid fun wx hb => by
    subst hp
    exact len_any m wx (hD.keep (Grew.of_below (S := fun _ => False) hb) fun _ _ e => e)
  have HC := Lib.hid fun wx => check_any s hs m.n (by omega) wx
  generalize s.check m.n = C at *
  generalize m.n = N at *
  obtain ⟨ep, j, b, h, nx⟩ := s
  dsimp only [Sup.cells] at *
  have hblk := heap_alloc_new w (.cells #[.int .u32 ep, .int .i64 j, .int .i64 b, .int .i64 h, .int .u32 nx] 51)
  have HB0 : Hid (Below w.heap.size w (w.alloc (.cells #[.int .u32 ep, .int .i64 j, .int .i64 b, .int .i64 h, .int .u32 nx] 51)).drew) := Lib.hid ((Below.refl _ _).alloc (Nat.le_refl _) _).drew
  have hlt0 : w.heap.size < (w.alloc (.cells #[.int .u32 ep, .int .i64 j, .int .i64 b, .int .i64 h, .int .u32 nx] 51)).drew.heap.size := by show w.heap.size < (w.alloc _).heap.size; simp
  obtain ⟨l0, l1, l2, l3, l4⟩ := fiveAt hblk
  clear hs hD hn
  have i0 : ((C : Int) == 0) = false := by rw [beq_eq_false_iff_ne]; omega
  have HF := Lib.hid fun wx => fail_any (C : Int) wx
  go_enter Try.func50, Try.ntmps50
  go_wp2_with fail
  generalize hW : w.alloc (.cells #[.int .u32 ep, .int .i64 j, .int .i64 b, .int .i64 h, .int .u32 nx] 51) = W at *
  clear hW
  have HKb : Hid (∀ wx, Below W.drew.heap.size W.drew wx → wx.cell? ⟨w.heap.size, 0, none⟩ = some (.int .u32 ep) ∧ wx.cell? ⟨w.heap.size, 1, none⟩ = some (.int .i64 j) ∧ wx.cell? ⟨w.heap.size, 2, none⟩ = some (.int .i64 b) ∧ wx.cell? ⟨w.heap.size, 3, none⟩ = some (.int .i64 h) ∧ wx.cell? ⟨w.heap.size, 4, none⟩ = some (.int .u32 nx)) := Lib.hid fun wx hb => by
    refine fiveAt (t := 51) ?_
    rw [hb.block w.heap.size hlt0]
    exact hblk
  have HLd := Lib.hid (HL.out W.drew HB0.out)
  have HCd := Lib.hid (HC.out W.drew)
  go_region_held3 (fun wx => wx.cell? ⟨w.heap.size, 0, none⟩ = some (.int .u32 ep) ∧ wx.cell? ⟨w.heap.size, 1, none⟩ = some (.int .i64 j) ∧ wx.cell? ⟨w.heap.size, 2, none⟩ = some (.int .i64 b) ∧ wx.cell? ⟨w.heap.size, 3, none⟩ = some (.int .i64 h) ∧ wx.cell? ⟨w.heap.size, 4, none⟩ = some (.int .u32 nx))
    (first | exact ⟨l0, l1, l2, l3, l4⟩ | exact HK2.out)
    (first
      | (go_at_call 15; (with_reducible refine HLd.out.mono ?_); rintro e w1 ⟨rfl, rfl⟩)
      | (go_at_call 26; (with_reducible refine HCd.out.mono ?_); rintro e w2 ⟨rfl, hb2⟩; (have HK2 := Lib.hid (HKb.out w2 hb2)); (have HB2 := Lib.hid (HB0.out.trans (hb2.mono HB0.out.size))); clear hb2))
  go_wp2_with fail
  refine (HF.out w2).mono ?_
  rintro e w3 ⟨rfl, rfl⟩
  unfold failed
  go_wp2_with fail
  exact ⟨rfl, rfl, HB2.out⟩
set_option maxHeartbeats 4000000 in
theorem supWrite_ok (s : Sup) (hs : s.fits) (p : Nat) (m : DiskM) (hp : m.d = p) (hL : m.Live) (w : World) (hD : DiskAt m w) (hc : s.check m.n = 0) (h2 : 2 ≤ m.n) :
    Calls Try.prog 50 #[.agg s.cells, .pointer (some ⟨p, 0, none⟩)] w fun e w' => e = .returned (.tuple #[]) ∧ DiskAt (m.wrote (s.ep % 2) (txtf s.frame)) w' ∧ Grew m.own w w' := by
  have hn := hD.size
  have hdl := hD.below
  have HL : Hid (∀ wx, Below w.heap.size w wx → Calls Try.prog 15 #[.pointer (some ⟨p, 0, none⟩)] wx fun e w' => e = .returned (.int .i64 m.n) ∧ wx = w') := Lib.hid fun wx hb => by
    subst hp
    exact len_any m wx (hD.keep (Grew.of_below (S := fun _ => False) hb) fun _ _ e => e)
  have HC := Lib.hid fun wx => check_any s hs m.n (by omega) wx
  rw [hc] at HC
  have HSl := Lib.hid fun wx => slot_any s.ep hs.ep wx
  have HBy := Lib.hid fun wx => supBytes_any s hs wx
  have HFr : Hid (∀ wx, Calls Try.prog 67 #[.agg #[.int .u32 s.ep, .int .u32 0], .string ⟨s.text.toArray⟩] wx fun e w' => e = .returned (.string s.frame) ∧ Below wx.heap.size wx w') := Lib.hid fun wx => frame_ok s.ep 0 ⟨s.text.toArray⟩ wx (by rw [s.text_size]; decide) hs.ep (by decide)
  have HWr : Hid (∀ wx, Below w.heap.size w wx → Calls Try.prog 57 #[.pointer (some ⟨p, 0, none⟩), .int .i64 ((s.ep % 2 : Nat) : Int), .string s.frame] wx fun e w' => e = .returned (.tuple #[]) ∧ DiskAt (m.wrote (s.ep % 2) (txtf s.frame)) w' ∧ Grew m.own w w' ∧ Grew m.own wx w') := Lib.hid fun wx hb => by
    subst hp
    refine (write_ok m (s.ep % 2) s.frame wx (hD.keep (Grew.of_below (S := fun _ => False) hb) fun _ _ e => e) hL.dead (by omega) (by rw [s.frame_size]; decide) hL.fits.2 (fun e => by rw [hL.armed] at e; cases e)).mono ?_
    rintro e w' ⟨rfl, hd, hg⟩
    rw [DiskM.spent_live hL] at hd
    exact ⟨rfl, hd, (Grew.of_below hb).trans hg, hg⟩
  generalize s.frame = FR at *
  generalize (⟨s.text.toArray⟩ : ByteArray) = TX at *
  generalize ((s.ep % 2 : Nat) : Int) = SL at *
  generalize m.wrote (s.ep % 2) (txtf FR) = M' at *
  have HOw : Hid (∀ k, m.own k → k < w.heap.size) := Lib.hid hdl
  generalize m.own = O at *
  clear hc hL h2
  generalize m.n = N at *
  obtain ⟨ep, j, b, h, nx⟩ := s
  dsimp only [Sup.cells] at *
  have hblk := heap_alloc_new w (.cells #[.int .u32 ep, .int .i64 j, .int .i64 b, .int .i64 h, .int .u32 nx] 51)
  have hlt0 : w.heap.size < (w.alloc (.cells #[.int .u32 ep, .int .i64 j, .int .i64 b, .int .i64 h, .int .u32 nx] 51)).drew.heap.size := by show w.heap.size < (w.alloc _).heap.size; simp
  have HB0 : Hid (Below w.heap.size w (w.alloc (.cells #[.int .u32 ep, .int .i64 j, .int .i64 b, .int .i64 h, .int .u32 nx] 51)).drew) := Lib.hid ((Below.refl _ _).alloc (Nat.le_refl _) _).drew
  obtain ⟨l0, l1, l2, l3, l4⟩ := fiveAt hblk
  clear hs hD hn hdl
  go_enter Try.func50, Try.ntmps50
  go_wp2_with fail
  generalize hW : w.alloc (.cells #[.int .u32 ep, .int .i64 j, .int .i64 b, .int .i64 h, .int .u32 nx] 51) = W at *
  clear hW
  have HKb : Hid (∀ wx, Below W.drew.heap.size W.drew wx → wx.cell? ⟨w.heap.size, 0, none⟩ = some (.int .u32 ep) ∧ wx.cell? ⟨w.heap.size, 1, none⟩ = some (.int .i64 j) ∧ wx.cell? ⟨w.heap.size, 2, none⟩ = some (.int .i64 b) ∧ wx.cell? ⟨w.heap.size, 3, none⟩ = some (.int .i64 h) ∧ wx.cell? ⟨w.heap.size, 4, none⟩ = some (.int .u32 nx)) := Lib.hid fun wx hb => by
    refine fiveAt (t := 51) ?_
    rw [hb.block w.heap.size hlt0]
    exact hblk
  have HLd := Lib.hid (HL.out W.drew HB0.out)
  have HCd := Lib.hid (HC.out W.drew)
  have HKd : Hid (∀ wx, Grew O W.drew wx → wx.cell? ⟨w.heap.size, 0, none⟩ = some (.int .u32 ep) ∧ wx.cell? ⟨w.heap.size, 1, none⟩ = some (.int .i64 j) ∧ wx.cell? ⟨w.heap.size, 2, none⟩ = some (.int .i64 b) ∧ wx.cell? ⟨w.heap.size, 3, none⟩ = some (.int .i64 h) ∧ wx.cell? ⟨w.heap.size, 4, none⟩ = some (.int .u32 nx)) := Lib.hid fun wx hg => by
    refine fiveAt (t := 51) ?_
    rw [hg.block w.heap.size hlt0 (fun e => by have := HOw.out _ e; omega)]
    exact hblk
  go_region_held3 (fun wx => wx.cell? ⟨w.heap.size, 0, none⟩ = some (.int .u32 ep) ∧ wx.cell? ⟨w.heap.size, 1, none⟩ = some (.int .i64 j) ∧ wx.cell? ⟨w.heap.size, 2, none⟩ = some (.int .i64 b) ∧ wx.cell? ⟨w.heap.size, 3, none⟩ = some (.int .i64 h) ∧ wx.cell? ⟨w.heap.size, 4, none⟩ = some (.int .u32 nx))
    (first | exact ⟨l0, l1, l2, l3, l4⟩ | exact HK2.out)
    (first
      | (go_at_call 15; (with_reducible refine HLd.out.mono ?_); rintro e w1 ⟨rfl, rfl⟩)
      | (go_at_call 26; (with_reducible refine HCd.out.mono ?_); rintro e w2 ⟨rfl, hb2⟩; (have HK2 := Lib.hid (HKb.out w2 hb2)); (have HB2 := Lib.hid (HB0.out.trans (hb2.mono HB0.out.size))); (have HG2 : Hid (Grew O W.drew w2) := Lib.hid (Grew.of_below hb2)); clear hb2))
  clear l0 l1 l2 l3 l4 HLd HCd HL HC
  have hk2 := HKd.out w2 HG2.out
  have HG2d : Hid (Grew O W.drew w2.drew) := Lib.hid HG2.out.drew
  have HB2d : Hid (Below w.heap.size w w2.drew) := Lib.hid HB2.out.drew
  go_wp2_with fail
  go_region_held3 (fun wx => wx.cell? ⟨w.heap.size, 0, none⟩ = some (.int .u32 ep) ∧ wx.cell? ⟨w.heap.size, 1, none⟩ = some (.int .i64 j) ∧ wx.cell? ⟨w.heap.size, 2, none⟩ = some (.int .i64 b) ∧ wx.cell? ⟨w.heap.size, 3, none⟩ = some (.int .i64 h) ∧ wx.cell? ⟨w.heap.size, 4, none⟩ = some (.int .u32 nx))
    (first | exact hk2 | exact HKd.out _ HG2d.out | exact HKd.out _ HG3.out | exact HKd.out _ HG4.out | exact HKd.out _ HG5.out)
    (first
      | (go_at_call 66; (with_reducible refine (HSl.out _).mono ?_); rintro e wz ⟨rfl, rfl⟩)
      | (go_at_call 68; (with_reducible refine (HBy.out w2.drew).mono ?_); rintro e w3 ⟨rfl, hb3⟩; (have HB3 := Lib.hid (HB2d.out.trans (hb3.mono HB2d.out.size))); (have HG3 : Hid (Grew O W.drew w3) := Lib.hid (HG2d.out.trans (Grew.of_below hb3))); clear hb3)
      | (go_at_call 67; (with_reducible refine (HFr.out w3).mono ?_); rintro e w4 ⟨rfl, hb4⟩; (have HB4 := Lib.hid (HB3.out.trans (hb4.mono HB3.out.size))); (have HG4 : Hid (Grew O W.drew w4) := Lib.hid (HG3.out.trans (Grew.of_below hb4))); clear hb4)
      | (go_at_call 57; (with_reducible refine (HWr.out w4 HB4.out).mono ?_); rintro e w5 ⟨rfl, hd5, hg5, hg6⟩; (have HR5 := Lib.hid (And.intro hd5 hg5)); (have HG5 : Hid (Grew O W.drew w5) := Lib.hid (HG4.out.trans hg6)); clear hd5 hg5 hg6))
  go_wp2_with fail
  go_end0
  exact ⟨rfl, HR5.out⟩
end Go.Proofs.Ytnkmidfdpjcdaaa
