/-
  The document's own disk: Loose: a contract.
-/
import Derived.Test.YtjggofbaipppbaaRefWrite2
namespace Go.Proofs.Ytjggofbaipppbaa
open Go.RowKit

def looseF (S T : Nat → UInt8) (k : Nat) : List Nat := (List.range k).filter fun i => !alike T S (i * 64)
theorem looseF_is (m : DiskM) (k : Nat) : m.looseTo k = looseF m.S m.T k := rfl
theorem looseF_succ (S T : Nat → UInt8) (k : Nat) : looseF S T (k + 1) = looseF S T k ++ (if !alike T S (k * 64) then [k] else []) := by
  unfold looseF
  rw [List.range_succ, List.filter_append]
  congr 1
  simp only [List.filter_cons, List.filter_nil]
theorem looseF_len (S T : Nat → UInt8) (k : Nat) : (looseF S T k).length ≤ k := by
  unfold looseF
  refine Nat.le_trans (List.length_filter_le _ _) ?_
  simp
theorem texts_alike (S T : Nat → UInt8) (k : Nat) : ((⟨(sec T k).toArray⟩ : ByteArray).toList == (⟨(sec S k).toArray⟩ : ByteArray).toList) = alike T S (k * 64) := by
  rw [ByteArray.toList_eq, ByteArray.toList_eq]
  show (sec T k == sec S k) = _
  rw [Bool.eq_iff_iff, beq_iff_eq, alike_iff]
  constructor
  · intro h j hj
    have h1 := sec_get T k j (by simpa [sec] using hj)
    have h2 := sec_get S k j (by simpa [sec] using hj)
    rw [← h1, ← h2]
    simp only [h]
  · intro h
    exact h.sec
set_option maxRecDepth 10000 in
set_option maxHeartbeats 2000000 in
theorem refLoose_any (r : RefM) (w : World) (h : RefAt r w) :
    Calls Try.prog 14 #[.agg r.cells] w fun e w' => ∃ v, e = .returned v ∧ w'.ownsRow w.heap.size 3 1 v (looseF r.S r.T r.n).length (intsOf (looseF r.S r.T r.n)) ∧ Below w.heap.size w w' := by
  have hn := h.n
  have H := Lib.hid h
  clear h
  obtain ⟨sa, na, n, sc, nc, S, T, l, d⟩ := r
  simp only at hn ⊢
  have e1 : (⟨sa, na, n, sc, nc, S, T, l, d⟩ : RefM).cells = #[.slice sa n sc, .slice na n nc, .int .i64 l, .bool d] := rfl
  rw [e1]
  clear e1
  obtain ⟨i0, hi, hz0, hz1, hz2⟩ := info_parts infoInt
  have HI0 := Lib.hid hi
  have HI1 := Lib.hid hz0
  have HI2 := Lib.hid hz1
  have HI3 := Lib.hid hz2
  clear hi hz0 hz1 hz2
  go_enter Try.func14, Try.ntmps14
  go_wp2_with fail
  have hB0 : Below w.heap.size w ((w.alloc (.cells #[.slice sa n sc, .slice na n nc, .int .i64 l, .bool d] 28)).alloc (.cells #[] 3)) := two_below w _ _
  have hQ0 : Quad w.heap.size (.slice sa n sc) (.slice na n nc) (.int .i64 l) (.bool d) ((w.alloc (.cells #[.slice sa n sc, .slice na n nc, .int .i64 l, .bool d] 28)).alloc (.cells #[] 3)) := ⟨heap_alloc2_old w _ _⟩
  have hO0 : ((w.alloc (.cells #[.slice sa n sc, .slice na n nc, .int .i64 l, .bool d] 28)).alloc (.cells #[] 3)).ownsRow (w.heap.size + 1) 3 1 (.slice (some ⟨w.heap.size + 1, 0, none⟩) 0 0) 0 [] := by
    have := World.ownsRow_lit (base := w.heap.size + 1) (e := 3) (size := 1) (w.alloc (.cells #[.slice sa n sc, .slice na n nc, .int .i64 l, .bool d] 28)) #[] 0 (by simp) (by decide) rfl
    have hs : (w.alloc (.cells #[.slice sa n sc, .slice na n nc, .int .i64 l, .bool d] 28)).heap.size = w.heap.size + 1 := by simp
    rw [hs] at this
    exact this
  generalize (w.alloc (.cells #[.slice sa n sc, .slice na n nc, .int .i64 l, .bool d] 28)).alloc (.cells #[] 3) = W at *
  have HB0 := Lib.hid hB0
  have HQ0 := Lib.hid hQ0
  have HO0 := Lib.hid hO0
  clear hB0 hQ0 hO0
  go_loopw [3, 9] (fun v i wx => ∃ k : Nat, k ≤ n ∧ i = .int .i64 k ∧ wx.ownsRow (w.heap.size + 1) 3 1 v (looseF S T k).length (intsOf (looseF S T k)) ∧ Below (w.heap.size + 1) W wx ∧ Below w.heap.size w wx) (fun _ i _ => n - (intOf i).toNat)
  case atStart => exact ⟨0, by omega, rfl, HO0.out, Below.refl _ _, HB0.out⟩
  case round =>
    obtain ⟨k, hk, rfl, hown, hB1, hB⟩ := hrel
    have HO := Lib.hid hown
    have HB1 := Lib.hid hB1
    have HB := Lib.hid hB
    clear hown hB hB1
    by_cases hlt : k < n
    · have i1 : (k : Int) < (n : Int) := by omega
      have i2 : (0 : Int) ≤ (k : Int) := by omega
      have hW := HQ0.out.lt
      have hq : Quad w.heap.size (.slice sa n sc) (.slice na n nc) (.int .i64 l) (.bool d) wr := ⟨by rw [HB1.out.block _ (by omega)]; exact HQ0.out.at'⟩
      obtain ⟨⟨c0, c1, _⟩, _⟩ := hq.cells
      have hr := H.out.below HB.out
      have hlen := looseF_len S T k
      have HS := Lib.hid (looseF_succ S T k)
      have hal := texts_alike S T k
      rcases hr.s with h0 | ⟨bs, rfl, hrs⟩
      · simp only at h0; omega
      rcases hr.t with h0 | ⟨bt, rfl, hrt⟩
      · simp only at h0; omega
      have q1 := hrs k hlt
      have q2 := hrt k hlt
      simp only at q1 q2
      generalize (⟨(sec T k).toArray⟩ : ByteArray) = A at *
      generalize (⟨(sec S k).toArray⟩ : ByteArray) = B at *
      generalize alike T S (k * 64) = AL at *
      clear hrs hrt hr hq
      generalize looseF S T k = L at *
      go_upto_region 5 with fail
      go_region_held3 (fun wx => wx.cell? ⟨w.heap.size, 0, none⟩ = some (.slice (some ⟨bs, 0, none⟩) n sc) ∧ wx.cell? ⟨w.heap.size, 1, none⟩ = some (.slice (some ⟨bt, 0, none⟩) n nc) ∧ wx.cell? ⟨bs, k, none⟩ = some (.string B) ∧ wx.cell? ⟨bt, k, none⟩ = some (.string A))
        (exact ⟨c0, c1, q1, q2⟩) (fail)
      clear c0 c1 q1 q2
      cases AL with
      | true =>
        go_wp2_with fail
        go_roundw
        case rel => exact ⟨k + 1, by omega, by go_num, by rw [HS.out]; simpa using HO.out.drew, HB1.out.drew, HB.out.drew⟩
        case measure => simp [intOf]; omega
      | false =>
        go_wp2_with (at_builtin; refine wpList_append_own _ rfl _ _ 32 rfl (w.heap.size + 1) 3 i0 (.int .i64 0) 1 8 Try.underlying32 HI0.out HI1.out HI2.out HI3.out rfl (by decide) _ _ _ rfl (HO.out.drew.alloc _) ⟨wr.heap.size, 0, none⟩ 1 1 [.int .i64 (k : Int)] rfl rfl ?c1 ?c2 ?c3 ?c4 ?c5 ?_)
        case c1 => exact news_one wr.drew _ _
        case c2 => first | rfl | (intro u hu; simp at hu; subst hu; rfl)
        case c3 => first | omega | (unfold maxLen; omega)
        case c4 => omega
        case c5 => have := HB1.out.size; first | omega | (simp; omega)
        · intro v' w1 hown' hgrow _
          have hsz := HB1.out.size
          have HO1 := Lib.hid hown'
          have HB2 := Lib.hid ((HB1.out.drew.alloc (by show w.heap.size + 1 ≤ wr.heap.size; omega) (.cells #[.int .i64 (k : Int)] 3)).grown hgrow (by simp; omega) (rowOwn HO.out).1)
          have HB3 := Lib.hid ((HB.out.drew.alloc HB.out.size (.cells #[.int .i64 (k : Int)] 3)).grown hgrow (by simp; omega) (fun q hq => by have := (rowOwn HO.out).1 q hq; omega))
          clear hown' hgrow hsz
          go_wp2
          go_roundw
          case rel => exact ⟨k + 1, by omega, by go_num, by rw [HS.out]; simpa [intsOf] using HO1.out, HB2.out, HB3.out⟩
          case measure => simp [intOf]; omega
    · have i1 : ¬ (k : Int) < (n : Int) := by omega
      obtain rfl : k = n := by omega
      go_wp2_with fail
      go_ret
      refine ⟨_, rfl, ?_, HB.out⟩
      have h := HO.out
      refine ⟨h.1, ?_⟩
      rcases h.2 with h1 | ⟨g, cap, cur, e, hb, hrest⟩
      · exact Or.inl h1
      · exact Or.inr ⟨g, cap, cur, e, by omega, hrest⟩
end Go.Proofs.Ytjggofbaipppbaa
