/-
  What the law of the disk asks at its head.
-/
import Derived.Test.YtjggofbaipppbaaDiskCrash
namespace Go.Proofs.Ytjggofbaipppbaa
open Go.RowKit

/-- there is power, and no end of it -/
structure DiskM.Live (m : DiskM) : Prop where
  dead : m.dead = false
  armed : m.armed = false
  fits : m.fits
theorem DiskM.spent_live {m : DiskM} (h : m.Live) : m.spent = m := by unfold DiskM.spent; rw [h.armed]; rfl
theorem live_write {m m' : DiskM} {at' : Int} {s : ByteArray} {o : Option Int} (h : m.Live) (k : Nat) (hk : k < m.n) (he : at' = k) (hs : s.size ≤ 64) (hw : WriteOf m at' s o m') : o = none ∧ m' = m.wrote k (txtf s) := by
  cases hw with
  | cut e => rw [h.dead] at e; cases e
  | range _ e => omega
  | big j _ _ _ e => omega
  | dies j _ _ _ _ e _ => rw [h.armed] at e; cases e
  | works j _ e _ _ _ =>
    obtain rfl : j = k := by omega
    exact ⟨rfl, by rw [m.spent_live h]⟩
theorem live_sync {m m' : DiskM} {o : Option Int} (h : m.Live) (hw : SyncOf m o m') : o = none ∧ m' = { m with S := m.T } := by
  cases hw with
  | cut e => rw [h.dead] at e; cases e
  | dies _ e _ => rw [h.armed] at e; cases e
  | works _ _ => exact ⟨rfl, by rw [m.spent_live h]⟩
theorem live_read {m : DiskM} {at' : Int} {o : Option Int} {l : List UInt8} (h : m.dead = false) (k : Nat) (hk : k < m.n) (he : at' = k) (hw : ReadOf m at' o l) : o = none ∧ l = sec m.T k := by
  cases hw with
  | cut e => rw [h] at e; cases e
  | range _ e => omega
  | works j _ e _ =>
    obtain rfl : j = k := by omega
    exact ⟨rfl, rfl⟩
theorem live_wrote {m : DiskM} (h : m.Live) (k : Nat) (g : Nat → UInt8) : (m.wrote k g).Live := ⟨h.dead, h.armed, h.fits⟩
theorem live_synced {m : DiskM} (h : m.Live) : ({ m with S := m.T } : DiskM).Live := ⟨h.dead, h.armed, h.fits⟩
theorem live_new (d bs bt n : Nat) : (newDisk d bs bt n).Live := ⟨rfl, rfl, by unfold DiskM.fits newDisk; simp⟩
theorem live_crashed (m : DiskM) (ct : Nat → Nat) : (m.crashed ct).Live := ⟨rfl, rfl, by unfold DiskM.fits DiskM.crashed; simp⟩
theorem crashed_n (m : DiskM) (ct : Nat → Nat) : (m.crashed ct).n = m.n := (m.tornTo_same _ ct _).2.2.2.1
theorem crashed_d (m : DiskM) (ct : Nat → Nat) : (m.crashed ct).d = m.d := (m.tornTo_same _ ct _).1
theorem crashed_own (m : DiskM) (ct : Nat → Nat) : (m.crashed ct).own = m.own := m.tornTo_own _ ct _
theorem lawWrite_live (p : Nat) (m : DiskM) (hp : m.d = p) (k : Nat) (hk : k < m.n) (s : ByteArray) (hs : s.size ≤ 64) (hL : m.Live) (w : World) (h : DiskAt m w) :
    Calls Try.prog 30 #[.pointer (some ⟨p, 0, none⟩), .int .i64 (k : Int), .string s] w fun e w' => e = .returned (.int .i64 0) ∧ DiskAt (m.wrote k (txtf s)) w' ∧ Grew m.own w w' := by
  subst hp
  refine (lawWrite_any m k s w h hL.fits).mono ?_
  rintro e w' ⟨o, m', rfl, hw, hD, hG⟩
  obtain ⟨rfl, rfl⟩ := live_write hL k hk rfl hs hw
  exact ⟨rfl, hD, hG⟩
theorem lawWrite_far (p : Nat) (m : DiskM) (hp : m.d = p) (k : Nat) (hk : m.n ≤ k) (s : ByteArray) (hL : m.Live) (w : World) (h : DiskAt m w) :
    Calls Try.prog 30 #[.pointer (some ⟨p, 0, none⟩), .int .i64 (k : Int), .string s] w fun e w' => e = .returned (.int .i64 6) ∧ DiskAt m w' ∧ Grew m.own w w' := by
  subst hp
  refine (lawWrite_any m k s w h hL.fits).mono ?_
  rintro e w' ⟨o, m', rfl, hw, hD, hG⟩
  cases hw with
  | cut e => rw [hL.dead] at e; cases e
  | range _ e => exact ⟨rfl, hD, hG⟩
  | big j _ _ _ e => omega
  | dies j _ _ _ _ e _ => rw [hL.armed] at e; cases e
  | works j _ e _ _ _ => omega
theorem lawSync_live (p : Nat) (m : DiskM) (hp : m.d = p) (hL : m.Live) (w : World) (h : DiskAt m w) :
    Calls Try.prog 32 #[.pointer (some ⟨p, 0, none⟩)] w fun e w' => e = .returned (.int .i64 0) ∧ DiskAt { m with S := m.T } w' ∧ Grew m.own w w' := by
  subst hp
  refine (lawSync_any m w h hL.fits).mono ?_
  rintro e w' ⟨o, m', rfl, hw, hD, hG⟩
  obtain ⟨rfl, rfl⟩ := live_sync hL hw
  exact ⟨rfl, hD, hG⟩
theorem lawRead_live (p : Nat) (m : DiskM) (hp : m.d = p) (k : Nat) (hk : k < m.n) (hL : m.Live) (w : World) (h : DiskAt m w) :
    Calls Try.prog 18 #[.pointer (some ⟨p, 0, none⟩), .int .i64 (k : Int)] w fun e w' => e = .returned (.tuple #[.string ⟨(sec m.T k).toArray⟩, .int .i64 0]) ∧ DiskAt m w' ∧ ∀ S, Grew S w w' := by
  subst hp
  refine (lawRead_any m k w h).mono ?_
  rintro e w' ⟨o, l, rfl, hw, hD, hG⟩
  obtain ⟨rfl, rfl⟩ := live_read hL.dead k hk rfl hw
  exact ⟨rfl, hD, hG⟩
/-- the disk of the head -/
def headDisk (m : DiskM) : DiskM := ({ (m.wrote 0 (txtf ⟨#[97, 98]⟩)) with S := (m.wrote 0 (txtf ⟨#[97, 98]⟩)).T } : DiskM).wrote 0 (txtf ⟨#[120, 121, 122]⟩)
def one1 : Nat → Int := fun _ => 1
theorem head_is (d bs bt : Nat) : (sec ((headDisk (newDisk d bs bt 3)).crashed (cutOf 1 one1)).T 0).take 3 = [120, 98, 0] := by
  have h0 : (headDisk (newDisk 0 0 0 3)).looseTo 3 = [0] := by decide +kernel
  have h : (headDisk (newDisk d bs bt 3)).looseTo 3 = [0] := h0
  have hc : (headDisk (newDisk d bs bt 3)).crashed (cutOf 1 one1) = { (headDisk (newDisk d bs bt 3)).tornTo [0] (cutOf 1 one1) 1 with armed := false, left := 0, dead := false } := by
    unfold DiskM.crashed
    have hn : (headDisk (newDisk d bs bt 3)).n = 3 := rfl
    rw [hn, h]
    rfl
  rw [hc]
  have h1 : (sec ((headDisk (newDisk 0 0 0 3)).tornTo [0] (cutOf 1 one1) 1).T 0).take 3 = [120, 98, 0] := by decide +kernel
  exact h1
set_option maxHeartbeats 4000000 in
theorem diskAwake (w : World) : Calls Try.prog 9 #[] w fun e w' => e = .returned (.bool true) ∧ Below w.heap.size w w' := by
  go_enter Try.func9, Try.ntmps9
  go_wp2_with fail
  refine (new_any 3 w).mono ?_
  rintro e w1 ⟨m, rfl, hM⟩
  obtain ⟨d, bs, bt, hm⟩ := hM.is
  rw [show diskLen 3 = 3 from rfl] at hm
  have hn : m.n = 3 := by rw [hm]; rfl
  have HL : Hid m.Live := Lib.hid (by rw [hm]; exact live_new _ _ _ _)
  have HR : Hid ((sec ((headDisk m).crashed (cutOf 1 one1)).T 0).take 3 = [120, 98, 0]) := Lib.hid (by rw [hm]; exact head_is d bs bt)
  have HO := Lib.hid hM.fresh
  have HB1 : Hid (Below w.heap.size w w1) := Lib.hid ((hM.grew fun _ => False).below (Below.refl _ _) (Nat.le_refl _) (fun _ x => x.elim))
  have HD1 := Lib.hid hM.at'
  have HLen := Lib.hid (len_any m w1 hM.at')
  rw [hn] at HLen
  obtain ⟨p, hp⟩ : ∃ p, m.d = p := ⟨_, rfl⟩
  rw [hp] at HLen ⊢
  have HP := Lib.hid hp
  have HN := Lib.hid hn
  clear hM hm hp hn
  go_wp2_with fail
  refine HLen.out.mono ?_
  rintro e w' ⟨rfl, rfl⟩
  have HW := Lib.hid (lawWrite_live p m HP.out 0 (by rw [HN.out]; decide) ⟨#[97, 98]⟩ (by decide) HL.out w1 HD1.out)
  go_wp2_with fail
  refine HW.out.mono ?_
  rintro e w2 ⟨rfl, hD, hG⟩
  have HD2 := Lib.hid hD
  have HB2 := Lib.hid (hG.below HB1.out HB1.out.size HO.out)
  clear hD hG HW HLen HD1 HB1
  have HSy := Lib.hid (lawSync_live p (m.wrote 0 (txtf ⟨#[97, 98]⟩)) HP.out (live_wrote HL.out 0 _) w2 HD2.out)
  go_wp2_with fail
  refine HSy.out.mono ?_
  rintro e w3 ⟨rfl, hD, hG⟩
  have HD3 := Lib.hid hD
  have HB3 := Lib.hid (hG.below HB2.out HB2.out.size HO.out)
  clear hD hG HSy HD2 HB2
  have HW := Lib.hid (lawWrite_live p ({ (m.wrote 0 (txtf ⟨#[97, 98]⟩)) with S := (m.wrote 0 (txtf ⟨#[97, 98]⟩)).T } : DiskM) HP.out 0 (by show 0 < m.n; rw [HN.out]; decide) ⟨#[120, 121, 122]⟩ (by decide) (live_synced (live_wrote HL.out 0 _)) w3 HD3.out)
  go_wp2_with fail
  refine HW.out.mono ?_
  rintro e w4 ⟨rfl, hD, hG⟩
  have HD4 : Hid (DiskAt (headDisk m) w4) := Lib.hid hD
  have HB4 := Lib.hid (hG.below HB3.out HB3.out.size HO.out)
  clear hD hG HW HD3 HB3
  have HL4 : Hid (headDisk m).Live := Lib.hid (live_wrote (live_synced (live_wrote HL.out 0 _)) 0 _)
  have HP4 : Hid ((headDisk m).d = p ∧ (headDisk m).n = 3 ∧ ∀ k, (headDisk m).own k → w.heap.size ≤ k) := Lib.hid ⟨HP.out, HN.out, HO.out⟩
  clear HP HN HO HL
  generalize headDisk m = h at *
  have HW := Lib.hid (lawWrite_far p h HP4.out.1 3 (by rw [HP4.out.2.1]; decide) ⟨#[]⟩ HL4.out w4 HD4.out)
  go_wp2_with fail
  refine HW.out.mono ?_
  rintro e w5 ⟨rfl, hD, hG⟩
  have HD5 := Lib.hid hD
  have HB5 := Lib.hid (hG.below HB4.out HB4.out.size HP4.out.2.2)
  clear hD hG HW HD4 HB4
  have HA : Hid (IntsApart h.own (w5.alloc (.cells #[.int .i64 1] 3)) (some ⟨w5.heap.size, 0, none⟩) 1 one1) := Lib.hid (Or.inr ⟨w5.heap.size, 0, rfl, fun e => absurd (HD5.out.below _ e) (Nat.lt_irrefl _), fun i hi => by
    obtain rfl : i = 0 := by omega
    exact boxNew rfl⟩)
  have HD6 : Hid (DiskAt h (w5.alloc (.cells #[.int .i64 1] 3))) := Lib.hid (HD5.out.kept (S := fun _ => False) ((Grew.refl w5).alloc _) (fun x => x) (fun x => x) (fun x => x))
  have HB6 : Hid (Below w.heap.size w (w5.alloc (.cells #[.int .i64 1] 3))) := Lib.hid (HB5.out.alloc HB5.out.size _)
  have HCr := Lib.hid (crash_any h (some ⟨w5.heap.size, 0, none⟩) 1 1 one1 _ HD6.out HA.out)
  rw [HP4.out.1] at HCr
  go_wp2_with fail
  refine HCr.out.mono ?_
  rintro e w7 ⟨rfl, hD, hG⟩
  have HD7 := Lib.hid hD
  have HB7 := Lib.hid (hG.below HB6.out HB6.out.size HP4.out.2.2)
  clear hD hG HCr HD6 HB6 HD5 HB5 HA
  have HRd := Lib.hid (lawRead_live p (h.crashed (cutOf 1 one1)) (by rw [crashed_d]; exact HP4.out.1) 0 (by rw [crashed_n, HP4.out.2.1]; decide) (live_crashed _ _) w7 HD7.out)
  have z1 : (⟨(sec (h.crashed (cutOf 1 one1)).T 0).toArray⟩ : ByteArray).size = 64 := by show (sec _ _).length = 64; simp
  have z2 : (⟨(sec (h.crashed (cutOf 1 one1)).T 0).toArray⟩ : ByteArray).extract 0 3 = ⟨#[120, 98, 0]⟩ := by
    apply ByteArray.ext
    apply Array.toList_inj.mp
    rw [ByteArray.data_extract, Array.toList_extract, List.extract_eq_take_drop, List.drop_zero]
    exact HR.out
  clear HR
  generalize (⟨(sec (h.crashed (cutOf 1 one1)).T 0).toArray⟩ : ByteArray) = R at *
  have z3 : (R.size : Int) = 64 := by omega
  go_wp2_with fail
  refine HRd.out.mono ?_
  rintro e w8 ⟨rfl, hD, hG⟩
  have HB8 := Lib.hid ((hG fun _ => False).below HB7.out HB7.out.size (fun _ x => x.elim))
  clear hD hG HRd
  go_wp2_with fail
  go_ret
  exact ⟨rfl, HB8.out⟩
end Go.Proofs.Ytjggofbaipppbaa
