/-
  A stream's bytes are opened: the sum behind them; then they are parsed: contracts.
-/
import Derived.Test.YtpgmgopcgoblhaaDoorStreamParB
import Derived.Test.YtpgmgopcgoblhaaDoorStreamBytesFn
namespace Go.Proofs.YtpgmgopcgoblhaaDoor
open Go.RowKit

def openE (t : List UInt8) : Option Int :=
  if t.length < 4 then some 2
  else if num (t.drop (t.length - 4)) ≠ C.Crc.sum (t.take (t.length - 4)) then some 11
  else none
theorem allP_open (t : List UInt8) : allP t = match openE t with
    | some k => .error k
    | none => match bodyP (t.take (t.length - 4)) with
      | .error e => .error e
      | .ok s => if chk s = 0 then .ok s else .error (chk s) := by
  unfold allP openE
  split
  · rfl
  · split <;> rfl
/-- what opening leaves -/
def OpenPost (t : List UInt8) (w : World) (e : Ending) (w' : World) : Prop :=
  Below w.heap.size w w' ∧ ((∃ k, openE t = some k ∧ e = failed k) ∨ (∃ q, openE t = none ∧ e = .returned (.pointer (some ⟨q, 0, none⟩)) ∧ InP q (t.take (t.length - 4)) w' ∧ w.heap.size ≤ q))
set_option maxRecDepth 100000 in
set_option maxHeartbeats 2000000 in
theorem open_any (t : List UInt8) (w : World) (ht : t.length < 1000000) :
    Calls Tryd.prog 38 #[.string ⟨t.toArray⟩] w fun e w' => OpenPost t w e w' := by
  obtain ⟨W, hW⟩ : ∃ W, w.alloc (.cells #[.string ⟨t.toArray⟩] 118) = W := ⟨_, rfl⟩
  have hi0 : InP w.heap.size t W := by rw [← hW]; exact ⟨boxNew rfl, boxFree rfl⟩
  have hb0 : Below w.heap.size w W := by rw [← hW]; exact (Below.refl _ _).alloc (Nat.le_refl _) _
  have hs0 : W.heap.size = w.heap.size + 1 := by rw [← hW]; simp
  have HI := Lib.hid hi0
  have HB := Lib.hid hb0
  have HS := Lib.hid hs0
  have HRd := Lib.hid (read_any ⟨t.toArray⟩ w)
  rw [hW] at HRd
  have HLf := Lib.hid (left_any ⟨w.heap.size, 0, none⟩ ⟨t.toArray⟩ W hi0.cell)
  rw [ba_size] at HLf
  have HTl := Lib.hid ht
  clear hW hi0 hb0 hs0 ht
  by_cases h4 : t.length < 4
  · have hP : openE t = some 2 := by unfold openE; rw [if_pos h4]
    have HP := Lib.hid hP
    have i0 : (t.length : Int) < 4 := by omega
    clear hP h4
    go_enter Tryd.func38, Tryd.ntmps38
    go_wp2_with fail
    refine HRd.out.mono ?_
    rintro e w1 ⟨rfl, rfl⟩
    go_wp2_with fail
    refine HLf.out.mono ?_
    rintro e w1 ⟨rfl, rfl⟩
    go_wp2_with fail
    refine (fail_any 2 _).mono ?_
    rintro e w5 ⟨rfl, rfl⟩
    unfold failed
    go_wp2_with fail
    exact ⟨rfl, HB.out, Or.inl ⟨2, HP.out, rfl⟩⟩
  · have i0 : ¬ (t.length : Int) < 4 := by omega
    obtain ⟨m, hm⟩ : ∃ m, t.length - 4 = m := ⟨_, rfl⟩
    have m1 : IntKind.i64.wrap ((t.length : Int) - 4) = (m : Int) := by rw [IntWalk.i64_in _ (by have := HTl.out; omega)]; omega
    have HTx := Lib.hid (inText w.heap.size m t W HI.out (by omega))
    have hml : (t.take m).length = m := by rw [List.length_take]; omega
    have hdl : (t.drop m).length = 4 := by rw [List.length_drop]; omega
    have hOp : openE t = if num (t.drop m) ≠ C.Crc.sum (t.take m) then some 11 else none := by unfold openE; rw [if_neg h4, hm]
    have HOp := Lib.hid hOp
    have HM := Lib.hid hm
    have HDl := Lib.hid hdl
    obtain ⟨BD, hBD⟩ : ∃ BD, t.take m = BD := ⟨_, rfl⟩
    rw [hBD] at HTx HOp hml
    have HBDe := Lib.hid hBD
    have HCr : Hid (∀ b wx, wx.cell? ⟨b, 0, none⟩ = some (.string ⟨BD.toArray⟩) → Calls Tryd.prog 29 #[.slice (some ⟨b, 0, none⟩) 1 1] wx fun e w' => e = .returned (.int .u32 (C.Crc.sum BD : Nat)) ∧ wx = w') := Lib.hid fun b wx hc => crc_one b BD wx (by have := HTl.out; unfold maxLen; omega) hc
    have hlt := crc_lt BD
    obtain ⟨K, hK⟩ : ∃ K, C.Crc.sum BD = K := ⟨_, rfl⟩
    rw [hK] at HCr HOp hlt
    have u3 := u32_as_u64 K hlt
    obtain ⟨n, hn⟩ : ∃ n, num (t.drop m) = n := ⟨_, rfl⟩
    have HNn := Lib.hid hn
    rw [hn] at HOp
    clear hm h4 hml hdl hOp hBD hK hlt hn
    go_enter Tryd.func38, Tryd.ntmps38
    go_wp2_with fail
    refine HRd.out.mono ?_
    rintro e w1 ⟨rfl, rfl⟩
    go_wp2_with fail
    refine HLf.out.mono ?_
    rintro e w1 ⟨rfl, rfl⟩
    go_wp2_with fail
    refine HLf.out.mono ?_
    rintro e w1 ⟨rfl, rfl⟩
    go_wp2_with fail
    refine HTx.out.mono ?_
    rintro e w2 ⟨rfl, hi2, hg2⟩
    have HN := Lib.hid (inNum w.heap.size 4 4 (t.drop m) w2 hi2 rfl (by have := HDl.out; omega))
    rw [List.take_of_length_le (by have := HDl.out; omega), HNn.out] at HN
    have HB2 := Lib.hid (HB.out.trans (hg2.below (Below.refl w.heap.size W) (by have := HS.out; omega) (fun k e => by subst e; omega)))
    clear hi2 hg2 HRd HLf HTx
    go_wp2_with fail
    refine HN.out.mono ?_
    rintro e w3 ⟨rfl, hi3, hg3⟩
    have HB3 := Lib.hid (HB2.out.trans (hg3.below (Below.refl w.heap.size w2) (by have := HB2.out.size; omega) (fun k e => by subst e; omega)))
    have HB4 : Hid (Below w.heap.size w (w3.alloc (.cells #[.string ⟨BD.toArray⟩] 9))) := Lib.hid (HB3.out.alloc HB3.out.size _)
    clear hi3 hg3 HN
    go_wp2_with fail
    refine (HCr.out w3.heap.size _ (by rw [World.cell?_alloc_new]; rfl)).mono ?_
    rintro e w4 ⟨rfl, rfl⟩
    by_cases hc : n = K
    · have hP : openE t = none := by rw [HOp.out, if_neg (by simpa using hc)]
      have HP := Lib.hid hP
      subst hc
      have e0 : (((n : Nat) : Int) != ((n : Nat) : Int)) = false := by simp
      have HFin : Hid (∀ w5, (w3.alloc (.cells #[.string ⟨BD.toArray⟩] 9)).alloc (.cells #[.string ⟨BD.toArray⟩] 118) = w5 → Below w.heap.size w w5 ∧ InP (w3.alloc (.cells #[.string ⟨BD.toArray⟩] 9)).heap.size BD w5 ∧ w.heap.size ≤ (w3.alloc (.cells #[.string ⟨BD.toArray⟩] 9)).heap.size) := Lib.hid (fun w5 e => by
        subst e
        exact ⟨HB4.out.alloc HB4.out.size _, ⟨boxNew rfl, boxFree rfl⟩, HB4.out.size⟩)
      have HRd2 := Lib.hid (read_any ⟨BD.toArray⟩ (w3.alloc (.cells #[.string ⟨BD.toArray⟩] 9)))
      clear hP
      generalize w3.alloc (.cells #[.string ⟨BD.toArray⟩] 9) = w4 at *
      go_wp2_with fail
      refine HRd2.out.mono ?_
      rintro e w5 ⟨rfl, h5⟩
      obtain ⟨k1, k2, k3⟩ := HFin.out w5 h5
      have HK1 := Lib.hid k1
      have HK2 := Lib.hid k2
      have HK3 := Lib.hid k3
      clear k1 k2 k3 h5
      go_wp2_with fail
      go_ret
      exact ⟨HK1.out, Or.inr ⟨w4.heap.size, HP.out, rfl, by rw [HM.out, HBDe.out]; exact HK2.out, HK3.out⟩⟩
    · have hP : openE t = some 11 := by rw [HOp.out, if_pos hc]
      have HP := Lib.hid hP
      have e0 : (((n : Nat) : Int) != ((K : Nat) : Int)) = true := by
        have : ((n : Nat) : Int) ≠ (K : Int) := by omega
        simpa using this
      clear hP hc
      go_wp2_with fail
      refine (fail_any 11 _).mono ?_
      rintro e w5 ⟨rfl, rfl⟩
      unfold failed
      go_wp2_with fail
      exact ⟨rfl, HB4.out, Or.inl ⟨11, HP.out, rfl⟩⟩
end Go.Proofs.YtpgmgopcgoblhaaDoor
