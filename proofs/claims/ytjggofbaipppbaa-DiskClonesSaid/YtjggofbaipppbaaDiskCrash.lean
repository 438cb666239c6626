/-
  Crash: of each loose sector some first bytes stay; there is power again.
-/
import Derived.Test.YtjggofbaipppbaaDiskLoose
import Derived.Laws.OwnMore
namespace Go.Proofs.Ytjggofbaipppbaa
open Go.RowKit

/-- a list of ints, nothing or a row in a block outside of S -/
def IntsApart (S : Nat → Prop) (w : World) (a : Option Addr) (l : Nat) (es : Nat → Int) : Prop :=
  l = 0 ∨ ∃ b off, a = some ⟨b, off, none⟩ ∧ ¬ S b ∧ ∀ i, i < l → w.cell? ⟨b, off + i, none⟩ = some (.int .i64 (es i))
theorem IntsApart.keep {S : Nat → Prop} {w w' : World} {a : Option Addr} {l : Nat} {es : Nat → Int} (h : IntsApart S w a l es) (k : Grew S w w') : IntsApart S w' a l es := by
  rcases h with h | ⟨b, off, rfl, hS, hr⟩
  · exact Or.inl h
  · exact Or.inr ⟨b, off, rfl, hS, fun i hi => by rw [k.cell (cell_lt (hr i hi)) hS]; exact hr i hi⟩
/-- how many bytes reached the device, by the cuts that were handed in -/
def cutOf (l : Nat) (es : Nat → Int) (i : Nat) : Nat := if i < l then (min (max (es i) 0) 64).toNat else 0
theorem cutOf_le (l : Nat) (es : Nat → Int) (i : Nat) : cutOf l es i ≤ 64 := by unfold cutOf; split <;> omega
/-- the first j loose sectors torn -/
def DiskM.tornTo (m : DiskM) (L : List Nat) (ct : Nat → Nat) : Nat → DiskM
  | 0 => m
  | j + 1 => (m.tornTo L ct j).torn (L.getD j 0) (ct j)
/-- the same disk, but for what is in its rows -/
theorem DiskM.tornTo_same (m : DiskM) (L : List Nat) (ct : Nat → Nat) (j : Nat) : (m.tornTo L ct j).d = m.d ∧ (m.tornTo L ct j).bs = m.bs ∧ (m.tornTo L ct j).bt = m.bt ∧ (m.tornTo L ct j).n = m.n ∧ (m.tornTo L ct j).armed = m.armed ∧ (m.tornTo L ct j).left = m.left ∧ (m.tornTo L ct j).dead = m.dead := by
  induction j with
  | zero => exact ⟨rfl, rfl, rfl, rfl, rfl, rfl, rfl⟩
  | succ j ih => exact ih
theorem DiskM.tornTo_own (m : DiskM) (L : List Nat) (ct : Nat → Nat) (j : Nat) : (m.tornTo L ct j).own = m.own := by
  obtain ⟨h1, h2, h3, _⟩ := m.tornTo_same L ct j
  unfold DiskM.own
  rw [h1, h2, h3]
/-- what a crash leaves -/
def DiskM.crashed (m : DiskM) (ct : Nat → Nat) : DiskM := { m.tornTo (m.looseTo m.n) ct (m.looseTo m.n).length with armed := false, left := 0, dead := false }
theorem loose_lt (m : DiskM) (k j : Nat) (hj : j < (m.looseTo k).length) : (m.looseTo k).getD j 0 < k := by
  have h : (m.looseTo k).getD j 0 ∈ m.looseTo k := by rw [List.getD_eq_getElem?_getD, List.getElem?_eq_getElem hj]; exact List.getElem_mem hj
  have h2 : (m.looseTo k).getD j 0 ∈ List.range k := by
    unfold DiskM.looseTo at h ⊢
    exact (List.mem_filter.1 h).1
  exact List.mem_range.1 h2
theorem loose_ints {m : DiskM} {w w1 : World} {qa : Option Addr} {n qc : Nat} {L : List Nat} (h : DiskAt m w) (hL : L.length = n) (ho : w1.ownsRow w.heap.size 3 1 (.slice qa n qc) n (intsOf L)) : IntsApart m.own w1 qa n (fun j => (L.getD j 0 : Nat)) := by
  by_cases h0 : n = 0
  · exact Or.inl h0
  · obtain ⟨hxl, ⟨e, e0⟩ | ⟨g, cap, cur, e, hb, _⟩⟩ := id ho
    · exact absurd e0 h0
    · obtain ⟨rfl, -, rfl⟩ : qa = some ⟨g, 0, none⟩ ∧ n = n ∧ qc = cap := by simpa using e
      refine Or.inr ⟨g, 0, rfl, fun hk => by have := h.below g hk; omega, fun i hi => ?_⟩
      have hc := ho.cellAt i (by omega)
      rw [Nat.zero_add, hc]
      unfold intsOf
      show _ = some (Value.int .i64 ((L.getD i 0 : Nat) : Int))
      rw [List.getElem?_map, List.getD_eq_getElem?_getD, List.getElem?_eq_getElem (by omega)]
      rfl
set_option maxRecDepth 10000 in
set_option maxHeartbeats 4000000 in
theorem crash_any (m : DiskM) (a : Option Addr) (l c : Nat) (es : Nat → Int) (w : World) (h : DiskAt m w) (hA : IntsApart m.own w a l es) :
    Calls Try.prog 16 #[.pointer (some ⟨m.d, 0, none⟩), .slice a l c] w fun e w' => e = .returned (.tuple #[]) ∧ DiskAt (m.crashed (cutOf l es)) w' ∧ Grew m.own w w' := by
  have HLo := Lib.hid (loose_any m w h)
  have H := Lib.hid h
  have HA := Lib.hid hA
  have HLe := Lib.hid (m.looseTo_len m.n)
  have HLt := Lib.hid (loose_lt m m.n)
  obtain ⟨L, hL⟩ : ∃ L, m.looseTo m.n = L := ⟨_, rfl⟩
  have HC : Hid (m.crashed (cutOf l es) = { m.tornTo L (cutOf l es) L.length with armed := false, left := 0, dead := false }) := Lib.hid (by rw [← hL]; rfl)
  rw [hL] at HLo HLe HLt
  obtain ⟨n, hn⟩ : ∃ n, L.length = n := ⟨_, rfl⟩
  rw [hn] at HLo HLe HLt HC
  have HN := Lib.hid hn
  clear h hA hL hn
  go_enter Try.func16, Try.ntmps16
  go_wp2_with fail
  refine HLo.out.mono ?_
  rintro e w1 ⟨v, rfl, hown, hb⟩
  obtain ⟨_, qa, qc, rfl⟩ := rowOwn hown
  have HV := Lib.hid (loose_ints H.out HN.out hown)
  have HA1 := Lib.hid (HA.out.keep (Grew.of_below hb))
  have HD1 : Hid (DiskAt m w1) := Lib.hid (H.out.kept (S := fun _ => False) (Grew.of_below hb) (fun x => x) (fun x => x) (fun x => x))
  have HG1 : Hid (Grew m.own w w1) := Lib.hid (Grew.of_below hb)
  have HM : Hid (m.n ≤ 4096) := Lib.hid H.out.size
  clear hown hb HLo HA
  go_wp2_with fail
  go_loopw [10] (fun i wx => ∃ j : Nat, j ≤ n ∧ i = .int .i64 j ∧ DiskAt (m.tornTo L (cutOf l es) j) wx ∧ Grew m.own w1 wx) (fun i _ => n - (intOf i).toNat)
  case atStart => exact ⟨0, by omega, rfl, HD1.out, Grew.refl _⟩
  case round =>
    obtain ⟨j, hj, rfl, hD, hG⟩ := hrel
    have HD := Lib.hid hD
    have HG := Lib.hid hG
    clear hD hG HD1
    by_cases hlt : j < n
    · have i1 : (j : Int) < (n : Int) := by omega
      have i2 : (0 : Int) ≤ (j : Int) := by omega
      have HVj := Lib.hid (HV.out.keep HG.out)
      have HAj := Lib.hid (HA1.out.keep HG.out)
      have hlk := HLt.out j hlt
      have hcc := cutOf_le l es j
      have hcut : cutOf l es j = if j < l then (min (max (es j) 0) 64).toNat else 0 := rfl
      have HT := Lib.hid (tear_any (m.tornTo L (cutOf l es) j) (L.getD j 0) (cutOf l es j) wr HD.out (by rw [(m.tornTo_same L (cutOf l es) j).2.2.2.1]; exact hlk) hcc)
      rw [(m.tornTo_same L (cutOf l es) j).1, m.tornTo_own] at HT
      have HS : Hid (m.tornTo L (cutOf l es) (j + 1) = (m.tornTo L (cutOf l es) j).torn (L.getD j 0) (cutOf l es j)) := Lib.hid rfl
      rcases HVj.out with hz | ⟨b, off, rfl, _, hr⟩
      · omega
      have hcell : wr.cell? ⟨b, off + j, none⟩ = some (.int .i64 ((L.getD j 0 : Nat) : Int)) := hr j hlt
      clear hr HVj
      generalize m.tornTo L (cutOf l es) j = Dj at *
      generalize L.getD j 0 = q at *
      generalize cutOf l es j = ct at *
      obtain ⟨ci, hci⟩ : ∃ ci : Int, (ct : Int) = ci := ⟨_, rfl⟩
      rw [hci] at HT
      have hjb : j < 5000 := by have := HLe.out; have := HM.out; omega
      by_cases hjl : j < l
      · have i3 : (j : Int) < (l : Int) := by omega
        rw [if_pos hjl] at hcut
        rcases HAj.out with hz | ⟨b2, off2, rfl, _, hr⟩
        · omega
        have hcell2 := hr j hjl
        have hcase : (es j < 0 ∧ ci = 0) ∨ (64 < es j ∧ ci = 64) ∨ (¬ es j < 0 ∧ ¬ 64 < es j ∧ es j = ci) := by omega
        clear hr HAj hcut hci
        generalize es j = ej at *
        rcases hcase with ⟨h1, rfl⟩ | ⟨h1, rfl⟩ | ⟨h1, h2, rfl⟩
        all_goals
          go_wp2_with fail
          with_reducible refine HT.out.mono ?_
          rintro e w3 ⟨rfl, hD3, hG3⟩
          have HD3 := Lib.hid hD3
          have HG3 := Lib.hid (HG.out.trans hG3)
          clear hD3 hG3 HT
          go_wp2_with fail
          go_roundw
          case rel => exact ⟨j + 1, by omega, by go_num, by rw [HS.out]; exact HD3.out, HG3.out⟩
          case measure => simp [intOf]; omega
      · have i3 : ¬ (j : Int) < (l : Int) := by omega
        rw [if_neg hjl] at hcut
        obtain rfl : ci = 0 := by omega
        clear hcut hci
        go_wp2_with fail
        with_reducible refine HT.out.mono ?_
        rintro e w3 ⟨rfl, hD3, hG3⟩
        have HD3 := Lib.hid hD3
        have HG3 := Lib.hid (HG.out.trans hG3)
        clear hD3 hG3 HT
        go_wp2_with fail
        go_roundw
        case rel => exact ⟨j + 1, by omega, by go_num, by rw [HS.out]; exact HD3.out, HG3.out⟩
        case measure => simp [intOf]; omega
    · have i1 : ¬ (j : Int) < (n : Int) := by omega
      obtain rfl : j = n := by omega
      have hs := m.tornTo_same L (cutOf l es) j
      generalize m.tornTo L (cutOf l es) j = Dj at *
      have c2 := HD.out.c2
      have c3 := HD.out.c3
      have c4 := HD.out.c4
      have hf := HD.out.free
      rw [hs.1] at c2 c3 c4 hf
      have f2 := hf 2
      have f3 := hf 3
      have f4 := hf 4
      go_wp2_with fail
      go_end0
      have hD := ((HD.out.armed2 false).left3 0).dead4 false
      simp only [hs.1] at hD
      refine ⟨rfl, ?_, ?_⟩
      · rw [HC.out]
        rw [hs.1]
        exact hD
      · exact (((HG1.out.trans HG.out).setCell ⟨m.d, 2, none⟩ _ fun _ => Or.inl rfl).setCell ⟨m.d, 3, none⟩ _ fun _ => Or.inl rfl).setCell ⟨m.d, 4, none⟩ _ fun _ => Or.inl rfl
end Go.Proofs.Ytjggofbaipppbaa
