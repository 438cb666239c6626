/-
  Law 10's HeapAdopts: what it runs in a Try: Less of a sector by all that want it: contract.
-/
import Derived.Test.YtdeohkkpmjgaoaaHeapAwake
namespace Go.Proofs.Ytdeohkkpmjgaoaa
open Go.RowKit Go.Maps Go.ChangeMaps Go.WideShapes

/-- a sector that k less want; if none does, it is late -/
def lessS (s : HS) (i : Nat) (T : Int) (r k : Nat) : HS := if k = r then s.letGo i T else { s with R := upF s.R T (some ((r - k : Nat) : Int)) }
theorem upF_upF {K V : Type} [DecidableEq K] (F : K → Option V) (k : K) (u v : Option V) : upF (upF F k u) k v = upF F k v := by
  funext x
  unfold upF
  by_cases h : x = k
  · rw [if_pos h, if_pos h]
  · rw [if_neg h, if_neg h, if_neg h]
theorem upF_self {K V : Type} [DecidableEq K] (F : K → Option V) (k : K) : upF F k (F k) = F := by
  funext x
  unfold upF
  by_cases h : x = k
  · rw [if_pos h, h]
  · rw [if_neg h]
theorem lessS_zero (s : HS) (i : Nat) (T : Int) (r : Nat) (hr : 0 < r) (h : s.R T = some (r : Int)) : lessS s i T r 0 = s := by
  unfold lessS
  rw [if_neg (by omega), Nat.sub_zero, ← h, upF_self]
/-- one less wants it -/
theorem inLess (b : HB) (ok : b.ok) (s : HS) (i : Nat) (T : Int) (hT : ((b.f + i : Nat) : Int) = T) (r k : Nat) (hi : i < b.n) (hs : s.S i = 1) (hy : s.Y T = none) (hk : k < r) (hrb : r < 10000) (n : Nat) (hn : n < 80000) (w : World) (h : InTry b (lessS s i T r k) n w) : Calls Try.prog 35 #[.pointer (some ⟨b.hb, 0, none⟩), .int .i64 T] w fun e w' => ∃ q, e = .returned (.bool q) ∧ InTry b (lessS s i T r (k + 1)) (n + 2) w' ∧ Grew (Mut b.B b.S0 w) w w' := by
  subst hT
  have hne : ¬ k = r := by omega
  unfold lessS at h
  rw [if_neg hne] at h
  by_cases hl : k + 1 = r
  · refine (inLessOld b ok { s with R := upF s.R ((b.f + i : Nat) : Int) (some ((r - k : Nat) : Int)) } i hi hs ?_ hy n hn w h).mono ?_
    · show upF s.R _ _ _ = _
      rw [upF_same, show r - k = 1 by omega]
      rfl
    · rintro e w' ⟨rfl, a, g⟩
      refine ⟨true, rfl, ?_, g⟩
      unfold lessS
      rw [if_pos hl]
      unfold HS.letGo at a ⊢
      simp only [upF_upF] at a
      exact a
  · obtain ⟨m, hm⟩ : ∃ m, r - k = m + 2 := ⟨r - k - 2, by omega⟩
    refine (inLessMore b ok { s with R := upF s.R ((b.f + i : Nat) : Int) (some ((r - k : Nat) : Int)) } i m hi hs ?_ (by omega) n hn w h).mono ?_
    · show upF s.R _ _ _ = _
      rw [upF_same, hm]
    · rintro e w' ⟨rfl, ⟨⟨v, fs, n1, l⟩, st⟩, g⟩
      refine ⟨false, rfl, ⟨⟨v, fs, by omega, l⟩, ?_⟩, g⟩
      unfold lessS
      rw [if_neg hl]
      simp only [upF_upF] at st
      rw [show r - (k + 1) = m + 1 by omega]
      exact st
set_option maxRecDepth 100000 in
set_option maxHeartbeats 1000000 in
theorem lessAll_any (b : HB) (ok : b.ok) (s : HS) (i : Nat) (T : Int) (hT : ((b.f + i : Nat) : Int) = T) (r : Nat) (hi : i < b.n) (hs : s.S i = 1) (hy : s.Y T = none) (hR : s.R T = some (r : Int)) (hr : 0 < r) (hrb : r < 10000) (nx hx ax e0 : Nat) (hS : ∀ k, k = nx ∨ k = hx ∨ k = ax → ¬ b.S0 k) (he : ¬ b.S0 e0) (w : World) (h : InTry b s 0 w) (b1 : Box nx 3 (.int .i64 r) w) (b2 : Box hx 54 (.pointer (some ⟨b.hb, 0, none⟩)) w) (b3 : Box ax 3 (.int .i64 T) w) (b4 : w.heap[e0]? = some errBox) :
    Calls Try.prog 34 #[.pointer (some ⟨nx, 0, none⟩), .pointer (some ⟨hx, 0, none⟩), .pointer (some ⟨ax, 0, none⟩)] w fun e w' => e = .returned (.tuple #[]) ∧ InTry b (s.letGo i T) (2 * r) w' ∧ w'.heap[e0]? = some errBox ∧ Grew (fun q => b.S0 q ∨ b.B ≤ q) w w' := by
  have HX := Lib.hid (fun k n wx hk hn hh => inLess b ok s i T hT r k hi hs hy hk hrb n hn wx hh)
  have H0 : Hid (InTry b (lessS s i T r 0) (2 * 0) w) := Lib.hid (by rw [lessS_zero s i T r hr hR]; exact h)
  have HEnd : Hid (lessS s i T r r = s.letGo i T) := Lib.hid (if_pos rfl)
  have d1 := b1.cell
  have HB1 := Lib.hid (And.intro b1 (And.intro b2 (And.intro b3 b4)))
  have HS := Lib.hid hS
  have HE := Lib.hid he
  have HK : Hid (∀ wx wy, Grew (Mut b.B b.S0 wx) wx wy → (Box nx 3 (.int .i64 r) wx ∧ Box hx 54 (.pointer (some ⟨b.hb, 0, none⟩)) wx ∧ Box ax 3 (.int .i64 T) wx ∧ wx.heap[e0]? = some errBox) → Box nx 3 (.int .i64 r) wy ∧ Box hx 54 (.pointer (some ⟨b.hb, 0, none⟩)) wy ∧ Box ax 3 (.int .i64 T) wy ∧ wy.heap[e0]? = some errBox) := Lib.hid fun wx wy k hb => by
    obtain ⟨x1, x2, x3, x4⟩ := hb
    have kk := Kept.of k
    have hlt : e0 < wx.heap.size := by
      rcases Nat.lt_or_ge e0 wx.heap.size with e | e
      · exact e
      · rw [Array.getElem?_eq_none e] at x4; cases x4
    refine ⟨(kk _ (plainB x1 (hS _ (by simp)) (by decide) (by decide))).trans x1, (kk _ (plainB x2 (hS _ (by simp)) (by decide) (by decide))).trans x2, (kk _ (plainB x3 (hS _ (by simp)) (by decide) (by decide))).trans x3, (k.block e0 hlt ?_).trans x4⟩
    rintro (m | m)
    · exact he m
    · exact notFunc_err x4 m
  have HG : Hid (∀ wx wy, Grew (fun q => b.S0 q ∨ b.B ≤ q) w wx → Grew (Mut b.B b.S0 wx) wx wy → Grew (fun q => b.S0 q ∨ b.B ≤ q) w wy) := Lib.hid fun wx wy g k => g.step k fun q _ m => by
    rcases m with m | m
    · exact Or.inl m
    · exact Or.inr m.1
  clear h hT hi hs hy hR hS he b1 b2 b3 b4
  go_enter Try.func34, Try.ntmps34
  go_wp2_with fail
  go_loopw [4] (fun x wx => ∃ k : Nat, k ≤ r ∧ x = .int .i64 k ∧ InTry b (lessS s i T r k) (2 * k) wx ∧ (Box nx 3 (.int .i64 r) wx ∧ Box hx 54 (.pointer (some ⟨b.hb, 0, none⟩)) wx ∧ Box ax 3 (.int .i64 T) wx ∧ wx.heap[e0]? = some errBox) ∧ Grew (fun q => b.S0 q ∨ b.B ≤ q) w wx) (fun x _ => r - (intOf x).toNat)
  case atStart => exact ⟨0, Nat.zero_le _, rfl, H0.out, HB1.out, Grew.refl w⟩
  case round =>
    obtain ⟨k, hk, rfl, hi, hb, hg⟩ := hrel
    have HI := Lib.hid hi
    have HBx := Lib.hid hb
    have HGx := Lib.hid hg
    have q2 := hb.2.1.cell
    have q3 := hb.2.2.1.cell
    clear hi hb hg
    by_cases hlt : k < r
    · have i1 : (k : Int) < (r : Int) := by omega
      have HL := Lib.hid (HX.out k (2 * k) wr hlt (by omega) HI.out)
      go_wp2_with fail
      refine HL.out.mono ?_
      rintro e w1 ⟨q, rfl, a, g⟩
      have HA := Lib.hid a
      have HB2 := Lib.hid (HK.out wr w1 g HBx.out)
      have HG2 := Lib.hid (HG.out wr w1 HGx.out g)
      clear a g HL
      go_wp2_with fail
      go_roundw
      case rel => exact ⟨k + 1, by omega, rfl, HA.out, HB2.out, HG2.out⟩
      case measure => simp [intOf]; omega
    · have i1 : ¬ (k : Int) < (r : Int) := by omega
      obtain rfl : k = r := by omega
      go_wp2_with fail
      go_end0
      exact ⟨rfl, HEnd.out ▸ HI.out, HBx.out.2.2.2, HGx.out⟩
end Go.Proofs.Ytdeohkkpmjgaoaa
