/-
  seal.Close: what was put, noughts up to 60 bytes, the sum behind them.
-/
import Derived.Test.YtbohpffigmllkaaGreatDoorOutVia
import Derived.Test.YtbohpffigmllkaaGreatDoorCrcWalks
namespace Go.Proofs.YtbohpffigmllkaaGreatDoor
open Go.RowKit

/-- what was put, and noughts behind it -/
def padTo (l : List UInt8) : List UInt8 := l ++ List.replicate (60 - l.length) 0
theorem padTo_len (l : List UInt8) (h : l.length ≤ 60) : (padTo l).length = 60 := by
  unfold padTo
  rw [List.length_append, List.length_replicate]
  omega
/-- and the sum -/
def sealed (l : List UInt8) : List UInt8 := padTo l ++ enc (C.Crc.sum (padTo l)) 4
theorem crc_lt (l : List UInt8) : C.Crc.sum l < 4294967296 := by
  unfold C.Crc.sum
  omega
theorem crc_one (b : Nat) (p : List UInt8) (w : World) (hs : p.length ≤ maxLen) (hc : w.cell? ⟨b, 0, none⟩ = some (.string ⟨p.toArray⟩)) :
    Calls Tryz.prog 97 #[.slice (some ⟨b, 0, none⟩) 1 1] w fun e w' => e = .returned (.int .u32 (C.Crc.sum p : Nat)) ∧ w = w' := by
  have h := C.sum_any b 0 1 [⟨p.toArray⟩] w (by simp) (fun i hi => by
    obtain rfl : i = 0 := by simp at hi; omega
    exact hc) (fun i hi => by
    obtain rfl : i = 0 := by simp at hi; omega
    exact hs)
  have e : C.cat [⟨p.toArray⟩] = p := by simp [C.cat]
  rw [e] at h
  exact h
set_option maxHeartbeats 1000000 in
theorem close_any (B o : Nat) (v : Value) (l : List UInt8) (w : World) (h : OutAt B o v l w) (hl : l.length ≤ 60) :
    Calls Tryz.prog 125 #[.pointer (some ⟨o, 0, none⟩)] w fun e w' => e = .returned (.string ⟨(sealed l).toArray⟩) ∧ OutTo B o v (sealed l) w w' := by
  have HV0 := Lib.hid (OutVia.start h)
  have hpl := padTo_len l hl
  have HF := Lib.hid (outFill_ok B o v l 60 w h (by omega) (by decide))
  have e60 : l ++ List.replicate ((60 : Int).toNat - l.length) 0 = padTo l := rfl
  rw [e60] at HF
  have HSe : Hid (padTo l ++ enc (C.Crc.sum (padTo l)) (wid 4) = sealed l) := Lib.hid rfl
  generalize sealed l = SL at *
  generalize padTo l = p at *
  have hlt := crc_lt p
  have HCr : Hid (∀ b wx, wx.cell? ⟨b, 0, none⟩ = some (.string ⟨p.toArray⟩) → Calls Tryz.prog 97 #[.slice (some ⟨b, 0, none⟩) 1 1] wx fun e w' => e = .returned (.int .u32 (C.Crc.sum p : Nat)) ∧ wx = w') := Lib.hid fun b wx hc => crc_one b p wx (by rw [hpl]; decide) hc
  generalize C.Crc.sum p = K at *
  have u1 := u32_as_u64 K hlt
  clear h hl e60
  go_enter Tryz.func125, Tryz.ntmps125
  go_wp2_with fail
  refine HF.out.mono ?_
  rintro e w1 ⟨rfl, T1⟩
  obtain ⟨v1, H1⟩ := HV0.out.next T1
  clear T1 HV0 HF
  go_wp2_with fail
  refine (outBytes_any B o v1 p w1 H1.out.at1).mono ?_
  rintro e w2 ⟨rfl, rfl⟩
  have H2 := Lib.hid (H1.out.alloc (.cells #[.string ⟨p.toArray⟩] 9))
  clear H1
  go_wp2_with fail
  refine (HCr.out w1.heap.size _ (by rw [World.cell?_alloc_new]; rfl)).mono ?_
  rintro e w3 ⟨rfl, rfl⟩
  go_wp2_with fail
  refine (outNum_any B o v1 p K 4 _ H2.out.at1 (by omega)).mono ?_
  rintro e w4 ⟨rfl, T4⟩
  obtain ⟨v4, H4⟩ := H2.out.next T4
  clear T4 H2
  rw [HSe.out] at H4
  go_wp2_with fail
  refine (outBytes_any B o v4 SL w4 H4.out.at1).mono ?_
  rintro e w5 ⟨rfl, rfl⟩
  go_wp2_with fail
  go_ret
  exact ⟨rfl, H4.out.to⟩
end Go.Proofs.YtbohpffigmllkaaGreatDoor
