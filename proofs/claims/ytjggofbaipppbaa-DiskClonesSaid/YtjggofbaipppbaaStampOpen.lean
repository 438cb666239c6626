/-
  Stamp.Open and Of, for every sector: contracts by walking their text; and what the law asks at its head.
-/
import Derived.Test.YtjggofbaipppbaaStampLaw
namespace Go.Proofs.Ytjggofbaipppbaa
open Go.RowKit

/-- how many bytes a sector says that it bears -/
def bears (s : ByteArray) : Nat := (s.data.toList.getD 8 0).toNat
/-- these -/
def textIn (s : ByteArray) : ByteArray := (s.extract 9 64).extract 0 (bears s)
/-- is it a frame of that stamp? -/
def isFrame (a b : Nat) (s : ByteArray) : Prop := s.size = 64 ∧ bears s ≤ 47 ∧ s = ⟨(frameOf a b (textIn s).data.toList).toArray⟩
theorem bears_eq (s : ByteArray) (h : 8 < s.size) : (s[8]'h).toNat = bears s := by
  unfold bears
  rw [List.getD_eq_getElem?_getD, List.getElem?_eq_getElem (by simpa using h)]
  rfl
theorem bears_lt (s : ByteArray) : bears s < 256 := by unfold bears; exact UInt8.toNat_lt _
theorem toList_ne {s t : ByteArray} (h : ¬ s = t) : (s.toList == t.toList) = false := by
  rw [beq_eq_false_iff_ne]
  intro q
  exact h (ByteArray.ext (Array.toList_inj.mp (by rw [← ByteArray.toList_eq, ← ByteArray.toList_eq]; exact q)))
theorem wrap64_small (n : Nat) (h : n < 1000) : wrap64 (n : Int) = n := by unfold wrap64; omega

set_option maxHeartbeats 1000000 in
theorem open_any (a b : Nat) (s : ByteArray) (w : World) (ha : a < 4294967296) (hb : b < 4294967296) :
    Calls Try.prog 78 #[.agg #[.int .u32 a, .int .u32 b], .string s] w fun e w' =>
      (isFrame a b s → e = .returned (.tuple #[.string (textIn s), .bool true])) ∧ (¬ isFrame a b s → e = .returned (.tuple #[.string ⟨#[]⟩, .bool false])) ∧ Below w.heap.size w w' := by
  have hB : Below w.heap.size w (w.alloc (.cells #[.int .u32 a, .int .u32 b] 103)) := (Below.refl _ _).alloc (Nat.le_refl _) _
  by_cases h1 : s.size = 64
  · have hi : (s.size : Int) = 64 := by omega
    have hl : 8 < s.size := by omega
    have hw : wrap64 ((s[8]'hl).toNat : Int) = (bears s : Int) := by rw [bears_eq, wrap64_small _ (by have := bears_lt s; omega)]
    by_cases h2 : bears s ≤ 47
    · have hz : (textIn s).size ≤ 47 := by unfold textIn; rw [ByteArray.size_extract]; omega
      have HF := Lib.hid fun wx => frame_ok a b (textIn s) wx hz ha hb
      have HI : Hid (isFrame a b s ↔ s = ⟨(frameOf a b (textIn s).data.toList).toArray⟩) := Lib.hid ⟨fun h => h.2.2, fun h => ⟨h1, h2, h⟩⟩
      have ht : (s.extract 9 64).extract 0 (bears s) = textIn s := rfl
      generalize isFrame a b s = IS at HI ⊢
      generalize (⟨(frameOf a b (textIn s).data.toList).toArray⟩ : ByteArray) = F at HF HI
      generalize textIn s = T at *
      generalize bears s = n at *
      have hn : ¬ 47 < (n : Int) := by omega
      have hn2 : (0 : Int) ≤ n ∧ (n : Int) ≤ 55 := by omega
      clear hz
      have HB := Lib.hid hB
      clear hB
      go_enter Try.func78, Try.ntmps78
      go_wp2_with fail
      refine (HF.out _).mono ?_
      rintro e w1 ⟨rfl, hb1⟩
      have HB1 := Lib.hid (HB.out.trans (hb1.mono (by simp)))
      clear hb1 HF HB
      by_cases hs : s = F
      · have HS := Lib.hid hs
        go_wp2_with fail
        go_ret2
        exact ⟨fun _ => rfl, fun h => absurd (HI.out.2 HS.out) h, HB1.out⟩
      · have hne := toList_ne hs
        go_wp2_with fail
        go_ret2
        exact ⟨fun h => absurd (HI.out.1 h) hs, fun _ => rfl, HB1.out⟩
    · have HI : Hid (¬ isFrame a b s) := Lib.hid fun h => h2 h.2.1
      generalize isFrame a b s = IS at HI ⊢
      generalize bears s = n at *
      have hn : 47 < (n : Int) := by omega
      have HB := Lib.hid hB
      clear hB
      go_enter Try.func78, Try.ntmps78
      go_wp2_with fail
      go_ret2
      exact ⟨fun h => absurd h HI.out, fun _ => rfl, HB.out⟩
  · have hi : ¬ (s.size : Int) = 64 := by omega
    have HI : Hid (¬ isFrame a b s) := Lib.hid fun h => h1 h.1
    generalize isFrame a b s = IS at HI ⊢
    have HB := Lib.hid hB
    clear hB
    go_enter Try.func78, Try.ntmps78
    go_wp2_with fail
    go_ret2
    exact ⟨fun h => absurd h HI.out, fun _ => rfl, HB.out⟩

theorem num_u32 (l : List UInt8) : num (l.take 4) < 4294967296 := by
  have h := num_lt (l.take 4)
  have h2 : 256 ^ (l.take 4).length ≤ 256 ^ 4 := Nat.pow_le_pow_right (by decide) (by rw [List.length_take]; omega)
  omega
theorem wrap_u32 (n : Nat) (h : n < 4294967296) : IntKind.u32.wrap (n : Int) = n := by
  simp only [IntKind.wrap, IntKind.bits, IntKind.signed]
  simp
  omega
theorem pair0 {w : World} {x : Nat} {t : TypeId} {u v : Value} (h : w.heap[x]? = some (.cells #[u, v] t)) (u' : Value) : (w.setCell ⟨x, 0, none⟩ u').heap[x]? = some (.cells #[u', v] t) := by
  simp [World.setCell, Array.getElem?_modify, h]
theorem pair1 {w : World} {x : Nat} {t : TypeId} {u v : Value} (h : w.heap[x]? = some (.cells #[u, v] t)) (v' : Value) : (w.setCell ⟨x, 1, none⟩ v').heap[x]? = some (.cells #[u, v'] t) := by
  simp [World.setCell, Array.getElem?_modify, h]
theorem pairAt {w : World} {x : Nat} {t : TypeId} {u v : Value} (h : w.heap[x]? = some (.cells #[u, v] t)) : (w.cell? ⟨x, 0, none⟩ = some u ∧ w.cell? ⟨x, 1, none⟩ = some v) ∧ w.frozen? ⟨x, 0, none⟩ = false ∧ w.frozen? ⟨x, 1, none⟩ = false := by
  simp [World.cell?, World.frozen?, h]
theorem size_stamp : (Try.prog.info? 103).map (·.size) = some 2 := by kernel_rfl
theorem of_short (s : ByteArray) (w : World) (h : s.size < 8) :
    Calls Try.prog 77 #[.string s] w fun e w' => e = .returned (.agg #[.int .u32 0, .int .u32 0]) ∧ Below w.heap.size w w' := by
  have hi : (s.size : Int) < 8 := by omega
  go_enter Try.func77, Try.ntmps77
  go_wp2_with fail
  refine bodyPost_ret (results_cell_row rfl _ _ w.heap.size _ _ _ _ rfl (heap_alloc_new w _) Try.underlying103 rfl size_stamp) rfl ?_
  exact ⟨rfl, (Below.refl _ _).alloc (Nat.le_refl _) _⟩
set_option maxHeartbeats 1000000 in
theorem of_any (s : ByteArray) (w : World) (h : 8 ≤ s.size) :
    Calls Try.prog 77 #[.string s] w fun e w' => e = .returned (.agg #[.int .u32 (num (s.data.toList.take 4)), .int .u32 (num ((s.data.toList.drop 4).take 4))]) ∧ Below w.heap.size w w' := by
  have hi : ¬ (s.size : Int) < 8 := by omega
  obtain ⟨W, hW⟩ : ∃ W, (w.alloc (.cells #[.int .u32 0, .int .u32 0] 103)).alloc (.cells #[.string s] 124) = W := ⟨_, rfl⟩
  have s1 : (w.alloc (.cells #[.int .u32 0, .int .u32 0] 103)).heap.size = w.heap.size + 1 := by simp
  have hc : W.cell? ⟨w.heap.size + 1, 0, none⟩ = some (.string s) := by rw [← hW]; exact boxNew s1
  have hf : W.frozen? ⟨w.heap.size + 1, 0, none⟩ = false := by rw [← hW]; exact boxFree s1
  have hx : W.heap[w.heap.size]? = some (.cells #[.int .u32 0, .int .u32 0] 103) := by rw [← hW]; exact heap_alloc2_old w _ _
  have hB : Below w.heap.size w W := by rw [← hW]; exact ((Below.refl _ _).alloc (Nat.le_refl _) _).alloc (by simp) _
  have d1 : (s.extract 4 s.size).data.toList.take 4 = (s.data.toList.drop 4).take 4 := by
    rw [ByteArray.data_extract, Array.toList_extract, List.extract_eq_take_drop, List.take_take]
    congr 1
    have : s.data.toList.length = s.size := by simp
    omega
  have z1 : (s.extract 4 s.size).size = s.size - 4 := by rw [ByteArray.size_extract]; omega
  have HN1 := Lib.hid (num_ok ⟨w.heap.size + 1, 0, none⟩ s 4 W (by rw [wid4]; omega) hc hf)
  obtain ⟨W1, hW1⟩ : ∃ W1, W.setCell ⟨w.heap.size + 1, 0, none⟩ (.string (s.extract 4 s.size)) = W1 := ⟨_, rfl⟩
  have hc1 : W1.cell? ⟨w.heap.size + 1, 0, none⟩ = some (.string (s.extract 4 s.size)) := by rw [← hW1]; exact World.cell?_setCell_same _ _ _ hc
  have hf1 : W1.frozen? ⟨w.heap.size + 1, 0, none⟩ = false := by rw [← hW1, World.frozen?_setCell]; exact hf
  have HN2 := Lib.hid (num_ok ⟨w.heap.size + 1, 0, none⟩ (s.extract 4 s.size) 4 W1 (by rw [wid4]; omega) hc1 hf1)
  obtain ⟨W2, hW2⟩ : ∃ W2, W1.setCell ⟨w.heap.size + 1, 0, none⟩ (.string ((s.extract 4 s.size).extract 4 (s.extract 4 s.size).size)) = W2 := ⟨_, rfl⟩
  have hx2 : W2.heap[w.heap.size]? = some (.cells #[.int .u32 0, .int .u32 0] 103) := by
    rw [← hW2, Below.heap_setCell _ _ _ _ (Nat.ne_of_lt (Nat.lt_succ_self _)), ← hW1, Below.heap_setCell _ _ _ _ (Nat.ne_of_lt (Nat.lt_succ_self _))]
    exact hx
  have hB2 : Below w.heap.size w W2 := by rw [← hW2, ← hW1]; exact (hB.setCell (Nat.le_succ _) _).setCell (Nat.le_succ _) _
  rw [wid4] at HN1 HN2
  rw [hW1] at HN1
  rw [hW2, d1] at HN2
  have u1 := wrap_u32 _ (num_u32 s.data.toList)
  have u2 := wrap_u32 _ (num_u32 (s.data.toList.drop 4))
  generalize num (s.data.toList.take 4) = A at *
  generalize num ((s.data.toList.drop 4).take 4) = B at *
  have HW := Lib.hid hW
  have HB2 := Lib.hid hB2
  have HX2 := Lib.hid hx2
  clear hc hf hx hB d1 z1 hW1 hc1 hf1 hW2 s1 hW hB2 hx2
  go_enter Try.func77, Try.ntmps77
  go_wp2_with fail
  refine (read_any s _).mono ?_
  rintro e w1 ⟨rfl, rfl⟩
  rw [HW.out]
  have hsz : (w.alloc (.cells #[.int .u32 0, .int .u32 0] 103)).heap.size = w.heap.size + 1 := by simp
  rw [hsz]
  go_wp2_with fail
  refine HN1.out.mono ?_
  rintro e w1 ⟨rfl, rfl⟩
  go_wp2_with fail
  refine HN2.out.mono ?_
  rintro e w1 ⟨rfl, rfl⟩
  have hp1 := pair0 HX2.out (.int .u32 A)
  obtain ⟨⟨p0, p1⟩, q0, q1⟩ := pairAt HX2.out
  obtain ⟨⟨p2, p3⟩, q2, q3⟩ := pairAt hp1
  have HP := Lib.hid (pair1 hp1 (.int .u32 B))
  clear hp1 HN1 HN2
  go_wp2_with fail
  refine bodyPost_ret (results_cell_row rfl _ _ w.heap.size _ _ _ _ rfl HP.out Try.underlying103 rfl size_stamp) rfl ?_
  exact ⟨rfl, (HB2.out.setCell (Nat.le_refl _) _).setCell (Nat.le_refl _) _⟩
end Go.Proofs.Ytjggofbaipppbaa
