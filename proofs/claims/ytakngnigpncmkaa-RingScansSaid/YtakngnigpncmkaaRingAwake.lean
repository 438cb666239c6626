/-
  What the law asks of a journal at its head.
-/
import Derived.Test.YtakngnigpncmkaaRingMath
import Derived.Test.YtakngnigpncmkaaRingLawScan
namespace Go.Proofs.Ytakngnigpncmkaa
open Go.RowKit

theorem own_one {w : World} {B n : Nat} {v : Value} {t : ByteArray} (h : w.ownsRow B 9 1 v n [.string t]) : ∃ g cap, v = .slice (some ⟨g, 0, none⟩) 1 cap ∧ w.cell? ⟨g, 0, none⟩ = some (.string t) := by
  have hn : n = 1 := by have := h.1; simp at this; exact this.symm
  subst hn
  rcases h.2 with ⟨_, e⟩ | ⟨g, cap, cur, rfl, _⟩
  · cases e
  · have := h.cells (g := g) rfl 0 (.string t) rfl
    rw [Addr.add_lit] at this
    exact ⟨g, cap, rfl, by simpa using this⟩
def abc : ByteArray := ⟨#[97, 98, 99]⟩
theorem head_scan (d bs bt n f ep N : Nat) (he : ep < 4294967296) : scanF ep (fun k => sectB ((newDisk d bs bt n).putTo f (recFrame ep 0 abc) 1) (f + k)) (N + 1) 0 [] [] = [abc] := by
  obtain ⟨p1, p2⟩ := sectB_put (newDisk d bs bt n) f (recFrame ep 0 abc) (recFrame_size ep 0 abc) 1
  have hc : costOf abc.size = 1 := by decide
  have h1 := scan_rec ep (fun k => sectB ((newDisk d bs bt n).putTo f (recFrame ep 0 abc) 1) (f + k)) abc 0 (fun i hi => by rw [hc] at hi; show sectB _ (f + (0 + i)) = _; rw [Nat.zero_add]; exact p1 i hi) [] N
  rw [hc, Nat.add_comm 1 N] at h1
  rw [h1]
  apply scan_stop
  refine blank_not ep _ _ he (by omega) ?_
  show (sectB _ (f + (0 + 1))).data.toList = _
  rw [p2 _ (Or.inr (by omega))]
  exact blank_sec d bs bt n _
set_option maxRecDepth 10000 in
set_option maxHeartbeats 2000000 in
theorem ringAwake (w : World) : Calls Try.prog 41 #[] w fun e w' => e = .returned (.bool true) ∧ Below w.heap.size w w' := by
  go_enter Try.func41, Try.ntmps41
  go_wp2_with fail
  refine (new_any 10 w).mono ?_
  rintro e w1 ⟨m, rfl, hM⟩
  obtain ⟨d, bs, bt, hm⟩ := hM.is
  rw [show diskLen 10 = 10 from rfl] at hm
  have hn : m.n = 10 := by rw [hm]; rfl
  have hL : m.Live := by rw [hm]; exact live_new _ _ _ _
  have hO := hM.fresh
  have hB1 : Below w.heap.size w w1 := (hM.grew fun _ => False).below (Below.refl _ _) (Nat.le_refl _) (fun _ x => x.elim)
  have hD1 := hM.at'
  have hR : ∀ M, M = m.putTo 2 (recFrame 7 0 abc) 1 → scanF 7 (fun k => sectB M (2 + k)) 4 0 [] [] = [abc] := fun M hM => by rw [hM, hm]; exact head_scan d bs bt 10 2 7 3 (by decide)
  obtain ⟨p, hp⟩ : ∃ p, m.d = p := ⟨_, rfl⟩
  rw [hp]
  clear hM hm d bs bt
  have HO := Lib.hid hO
  have HL := Lib.hid hL
  have HR := Lib.hid hR
  have HB1 := Lib.hid hB1
  have HD1 := Lib.hid hD1
  have HP := Lib.hid hp
  have HNm := Lib.hid hn
  clear hO hL hR hB1 hD1 hp hn
  have HC1 : Hid (∀ wx : World, Calls Try.prog 46 #[.int .i64 46] wx fun e w' => e = .returned (.int .i64 1) ∧ wx = w') := Lib.hid fun wx => cost_any 46 wx (by decide)
  have HC2 : Hid (∀ wx : World, Calls Try.prog 46 #[.int .i64 47] wx fun e w' => e = .returned (.int .i64 2) ∧ wx = w') := Lib.hid fun wx => cost_any 47 wx (by decide)
  have HN : Hid (∀ wx : World, Calls Try.prog 43 #[.pointer (some ⟨p, 0, none⟩), .int .i64 2, .int .i64 4, .int .u32 7] wx fun e w' => e = .returned (.pointer (some ⟨wx.heap.size, 0, none⟩)) ∧ RingAt wx.heap.size p 2 4 7 0 w' ∧ Below wx.heap.size wx w') := Lib.hid fun wx => ringNew_any p 2 4 7 wx
  go_wp2_with fail
  refine (HN.out w1).mono ?_
  rintro e w2 ⟨rfl, hr2, hb2⟩
  have hlr : w1.heap.size < w2.heap.size := hr2.lt
  have hD2 := HD1.out.keep (Grew.of_below (S := fun _ => False) hb2) fun _ _ e => e
  have hro : ¬ m.own w1.heap.size := fun e => Nat.lt_irrefl _ (HD1.out.below _ e)
  obtain ⟨r, hr⟩ : ∃ r, w1.heap.size = r := ⟨_, rfl⟩
  have hrw : w.heap.size ≤ r := by rw [← hr]; exact HB1.out.size
  have hB2 := HB1.out.trans (hb2.mono HB1.out.size)
  rw [hr] at hr2 hro ⊢
  have HA : Hid (Calls Try.prog 45 #[.pointer (some ⟨r, 0, none⟩), .string ⟨#[97, 98, 99]⟩] w2 fun e w' => e = .returned (.tuple #[.bool true, .int .i64 0]) ∧ ∃ M, M.d = p ∧ M.Live ∧ M.n = 10 ∧ scanF 7 (fun k => sectB M (2 + k)) 4 0 [] [] = [abc] ∧ DiskAt M w' ∧ RingAt r p 2 4 7 1 w' ∧ Below w.heap.size w w') := Lib.hid (by
    refine (lawAppend_any r p 2 4 7 0 abc m HP.out HL.out w2 hr2 hD2 hro (by rw [HNm.out]; decide) (by decide) (by decide) (by decide)).mono ?_
    rintro e w' ⟨rfl, hd, hr', hg⟩
    have hc : costOf abc.size = 1 := by decide
    obtain ⟨s1, s2, s3, s4, s5⟩ := appM_same m 2 4 7 0 abc
    refine ⟨by rw [hc]; rfl, appM m 2 4 7 0 abc, s1.trans HP.out, s5 HL.out, s2.trans HNm.out, HR.out _ ?_, hd, ?_, hg.below hB2 hB2.size (fun k hk => ?_)⟩
    · unfold appM
      rw [hc]
      rfl
    · have : appU 4 0 abc = 1 := by decide
      rw [← this]
      exact hr'
    · rcases hk with hk | hk
      · exact HO.out k hk
      · omega)
  clear hr2 hb2 hlr hD2 hro hr hrw hB2 HR HD1 HB1
  go_wp2_with (first | (go_at_call 46; (with_reducible refine (HC1.out _).mono ?_); rintro e w' ⟨rfl, rfl⟩) | (go_at_call 46; (with_reducible refine (HC2.out _).mono ?_); rintro e w' ⟨rfl, rfl⟩))
  refine HA.out.mono ?_
  rintro e w3 ⟨rfl, M, m1, m2, m3, m4, hD3, hr3, hB3⟩
  clear HA
  have HScan : Hid (∀ wx r2, DiskAt M wx → RingAt r2 p 2 4 7 0 wx → Calls Try.prog 48 #[.pointer (some ⟨r2, 0, none⟩)] wx fun e w' => ∃ g cap, e = .returned (.tuple #[.slice (some ⟨g, 0, none⟩) 1 cap, .int .i64 0]) ∧ w'.cell? ⟨g, 0, none⟩ = some (.string ⟨#[97, 98, 99]⟩) ∧ Below wx.heap.size wx w') := Lib.hid fun wx r2 h1 h2 => by
    refine (lawScan_any r2 p 2 4 7 0 M m1 m2 wx h2 h1 (by rw [m3]; decide) (by decide)).mono ?_
    rintro e w' ⟨v, rfl, ho, hb⟩
    rw [m4] at ho
    obtain ⟨g, cap, rfl, hc⟩ := own_one ho
    exact ⟨g, cap, rfl, hc, hb⟩
  have HD3 := Lib.hid hD3
  have HR3 := Lib.hid hr3
  have HB3 := Lib.hid hB3
  clear hD3 hr3 hB3 m1 m2 m3 m4
  go_wp2_with fail
  refine (HN.out w3).mono ?_
  rintro e w4 ⟨rfl, hr4, hb4⟩
  have HD4 := Lib.hid (HD3.out.keep (Grew.of_below (S := fun _ => False) hb4) fun _ _ e => e)
  have HQ4 := Lib.hid (HR3.out.below hb4)
  have HB4 := Lib.hid (HB3.out.trans (hb4.mono HB3.out.size))
  have HR4 := Lib.hid hr4
  clear hr4 hb4
  go_wp2_with fail
  refine (HScan.out w4 _ HD4.out HR4.out).mono ?_
  rintro e w5 ⟨g, cap, rfl, hc, hb5⟩
  have HQ5 := Lib.hid (HQ4.out.below hb5)
  have HB5 := Lib.hid (HB4.out.trans (hb5.mono HB4.out.size))
  have HLf : Hid (Calls Try.prog 47 #[.pointer (some ⟨r, 0, none⟩)] w5 fun e w' => e = .returned (.int .i64 3) ∧ Below w5.heap.size w5 w') := Lib.hid (left_any' r p 2 4 7 1 w5 HQ5.out (by decide) (by decide))
  clear hb5
  go_wp2_with fail
  refine HLf.out.mono ?_
  rintro e w6 ⟨rfl, hb6⟩
  have HB6 := Lib.hid (HB5.out.trans (hb6.mono HB5.out.size))
  clear hb6
  go_wp2_with fail
  go_ret
  exact ⟨rfl, HB6.out⟩
end Go.Proofs.Ytakngnigpncmkaa
