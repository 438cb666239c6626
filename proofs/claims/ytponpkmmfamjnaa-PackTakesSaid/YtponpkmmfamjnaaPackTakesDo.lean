/-
  PackTakes: what each thing leaves, by its kind: the document's answer is the program's.
-/
import Derived.Test.YtponpkmmfamjnaaPackTakesInv
namespace Go.Proofs.Ytponpkmmfamjnaa
open Go.RowKit

theorem same_cell {w : World} {b : Nat} {v : Value} (h : w.cell? ⟨b, 0, none⟩ = some v) : w.setCell ⟨b, 0, none⟩ v = w := by
  unfold World.cell? at h
  have key : w.heap.modify b (fun | .cells c elem frozen => .cells (if (⟨b, 0, none⟩ : Addr).spot.isSome then c else c.setIfInBounds 0 v) elem frozen | o => o) = w.heap := by
    apply Array.ext_getElem?
    intro i
    rw [Array.getElem?_modify]
    by_cases e : b = i
    · subst e
      rw [if_pos rfl]
      cases hb : w.heap[b]? with
      | none => rfl
      | some o =>
        simp only [hb] at h
        obtain ⟨c, t, f, rfl⟩ : ∃ c t f, o = .cells c t f := by cases o <;> simp_all
        simp at h
        have hc : c.setIfInBounds 0 v = c := by
          apply Array.ext_getElem?
          intro j
          rw [Array.getElem?_setIfInBounds]
          by_cases e0 : 0 = j
          · subst e0
            rw [if_pos rfl]
            have : 0 < c.size := by
              rcases Nat.eq_zero_or_pos c.size with h0 | h0
              · rw [Array.getElem?_eq_none (by omega)] at h; cases h
              · exact h0
            rw [if_pos this, h]
          · rw [if_neg e0]
        simp [hc]
    · rw [if_neg e]
  have key' : (w.setCell ⟨b, 0, none⟩ v).heap = w.heap := key
  calc w.setCell ⟨b, 0, none⟩ v = { w with heap := (w.setCell ⟨b, 0, none⟩ v).heap } := rfl
    _ = w := by rw [key']
theorem z64 : (0 : Nat) < 18446744073709551616 := by decide
theorem ztop : (0 : Nat) ≤ top := Nat.zero_le _
theorem n1 : (1 : Int) ≠ 0 := by decide
theorem n2 : (2 : Int) ≠ 0 := by decide
theorem n3 : (3 : Int) ≠ 0 := by decide
theorem n4 : (4 : Int) ≠ 0 := by decide
theorem ext_size (z : ByteArray) (i : Nat) : (z.extract i z.size).size ≤ z.size := by rw [ByteArray.size_extract]; omega
theorem took_text (g : TAt) (k p y : Nat) (z : ByteArray) (hp : bits .and .i64 (g.kd k) 255 = (p : Int)) (hq : p % 5 = 0) :
    ∃ r, Does g k z r ∧ Gives 17 #[.pointer (some ⟨y, 0, none⟩), .int .i64 (g.n k)] y z r (.string r.t) := by
  by_cases h0 : g.n k < 0
  · exact ⟨⟨z, 4, 0, ⟨#[]⟩⟩, ⟨z64, Nat.le_refl _, fun w => takes_text z z ⟨#[]⟩ 4 _ _ _ p w hp hq fun wx => refText_neg z _ wx h0⟩, fun w _ _ => (text_neg _ _ w h0).mono fun e w' ⟨he, hw⟩ => Or.inr ⟨n4, he, Or.inr ⟨hw, rfl⟩⟩⟩
  · by_cases h1 : (z.size : Int) < g.n k
    · exact ⟨⟨z, 2, 0, ⟨#[]⟩⟩, ⟨z64, Nat.le_refl _, fun w => takes_text z z ⟨#[]⟩ 2 _ _ _ p w hp hq fun wx => refText_end z _ wx h0 h1⟩, fun w hc _ => (text_end _ z _ w (by omega) h1 hc).mono fun e w' ⟨he, hw⟩ => Or.inr ⟨n2, he, Or.inr ⟨hw, rfl⟩⟩⟩
    · obtain ⟨n, hn⟩ := Int.eq_ofNat_of_zero_le (by omega : 0 ≤ g.n k)
      refine ⟨⟨z.extract n z.size, 0, 0, z.extract 0 n⟩, ⟨z64, ext_size z n, fun w => takes_text z _ _ 0 _ _ _ p w hp hq fun wx => ?_⟩, fun w hc hz => ?_⟩
      · rw [hn]; exact refText_ok z n wx (by omega)
      · have := text_ok ⟨y, 0, none⟩ z (g.n k) w (by omega) (by omega) hc hz
        rw [hn, Int.toNat_natCast] at this
        rw [hn]
        exact this.mono fun e w' ⟨he, hw⟩ => Or.inl ⟨rfl, he, hw⟩
theorem refNumber_end (s : ByteArray) (n : Int) (w : World) (h : s.size < wid n) :
    Calls Try.prog 53 #[inOf s 0, .int .i64 n] w fun e w' => e = .returned (.tuple #[inOf s 2, .int .u64 0]) ∧ Below w.heap.size w w' :=
  refNumber_of s s ⟨#[]⟩ 2 n w (by decide) fun wx => refText_end s _ wx (by omega) (by omega)
theorem refNumber_ok (s : ByteArray) (n : Int) (w : World) (h : wid n ≤ s.size) :
    Calls Try.prog 53 #[inOf s 0, .int .i64 n] w fun e w' => e = .returned (.tuple #[inOf (s.extract (wid n) s.size) 0, .int .u64 (num (s.data.toList.take (wid n)))]) ∧ Below w.heap.size w w' := by
  have hb := wid_bd n
  have := refNumber_of s (s.extract (wid n) s.size) (s.extract 0 (wid n)) 0 n w (by rw [ByteArray.size_extract]; omega) fun wx => refText_ok s _ wx h
  have hd : (s.extract 0 (wid n)).data.toList = s.data.toList.take (wid n) := by rw [ByteArray.data_extract, Array.toList_extract, List.extract_eq_take_drop, List.drop_zero, Nat.sub_zero]
  rw [hd] at this
  exact this
theorem num8 (l : List UInt8) (n : Int) : num (l.take (wid n)) < 18446744073709551616 := by
  have h := num_lt (l.take (wid n))
  have h1 : (l.take (wid n)).length ≤ 8 := by rw [List.length_take]; have := (wid_bd n).2; omega
  have h2 : 256 ^ (l.take (wid n)).length ≤ 256 ^ 8 := Nat.pow_le_pow_right (by decide) h1
  omega
theorem took_num (g : TAt) (k p y : Nat) (z : ByteArray) (hp : bits .and .i64 (g.kd k) 255 = (p : Int)) (hq : p % 5 = 1) :
    ∃ r, Does g k z r ∧ Gives 18 #[.pointer (some ⟨y, 0, none⟩), .int .i64 (g.n k)] y z r (.int .u64 r.x) := by
  by_cases h : z.size < wid (g.n k)
  · exact ⟨⟨z, 2, 0, ⟨#[]⟩⟩, ⟨z64, Nat.le_refl _, fun w => takes_num z z 0 2 _ _ _ p w hp hq fun wx => refNumber_end z _ wx h⟩, fun w hc _ => (num_end _ z _ w h hc).mono fun e w' ⟨he, hw⟩ => Or.inr ⟨n2, he, Or.inr ⟨hw, rfl⟩⟩⟩
  · exact ⟨⟨z.extract (wid (g.n k)) z.size, 0, num (z.data.toList.take (wid (g.n k))), ⟨#[]⟩⟩, ⟨num8 _ _, ext_size z _, fun w => takes_num z _ _ 0 _ _ _ p w hp hq fun wx => refNumber_ok z _ wx (by omega)⟩,
      fun w hc hz => (num_ok _ z _ w (by omega) hc hz).mono fun e w' ⟨he, hw⟩ => Or.inl ⟨rfl, he, hw⟩⟩
theorem took_small (g : TAt) (k p y : Nat) (z : ByteArray) (hp : bits .and .i64 (g.kd k) 255 = (p : Int)) (hq : p % 5 = 2) :
    ∃ r, Does g k z r ∧ r.x ≤ top ∧ Gives 19 #[.pointer (some ⟨y, 0, none⟩), .int .i64 (g.n k), .int .u64 (g.mo k)] y z r (.int .i64 r.x) := by
  by_cases h : z.size < wid (g.n k)
  · exact ⟨⟨z, 2, 0, ⟨#[]⟩⟩, ⟨z64, Nat.le_refl _, fun w => takes_small z z 0 2 _ _ _ p w hp hq ztop fun wx => refSmall_of z z 2 0 _ _ 0 z 2 wx z64 (fun wy => refNumber_end z _ wy h) (Or.inr (Or.inr ⟨rfl, rfl, rfl, rfl, rfl⟩))⟩, ztop,
      fun w hc _ => (small_end _ z _ _ w h hc).mono fun e w' ⟨he, hw⟩ => Or.inr ⟨n2, he, Or.inr ⟨hw, rfl⟩⟩⟩
  · by_cases hb : g.mo k < (num (z.data.toList.take (wid (g.n k))) : Nat) ∨ top < num (z.data.toList.take (wid (g.n k)))
    · exact ⟨⟨z.extract (wid (g.n k)) z.size, 3, 0, ⟨#[]⟩⟩, ⟨z64, ext_size z _, fun w => takes_small z _ 0 3 _ _ _ p w hp hq ztop fun wx => refSmall_of z _ 0 _ _ _ 0 _ 3 wx (num8 _ _) (fun wy => refNumber_ok z _ wy (by omega)) (Or.inl ⟨rfl, hb, rfl, rfl, rfl⟩)⟩, ztop,
        fun w hc hz => (small_big _ z _ _ _ w (by omega) hc hz rfl hb).mono fun e w' ⟨he, hw⟩ => Or.inr ⟨n3, he, Or.inl hw⟩⟩
    · have h1 : ¬ g.mo k < (num (z.data.toList.take (wid (g.n k))) : Nat) := fun e => hb (Or.inl e)
      have h2 : num (z.data.toList.take (wid (g.n k))) ≤ top := Nat.le_of_not_lt fun e => hb (Or.inr e)
      exact ⟨⟨z.extract (wid (g.n k)) z.size, 0, num (z.data.toList.take (wid (g.n k))), ⟨#[]⟩⟩, ⟨num8 _ _, ext_size z _, fun w => takes_small z _ _ 0 _ _ _ p w hp hq h2 fun wx => refSmall_of z _ 0 _ _ _ _ _ 0 wx (num8 _ _) (fun wy => refNumber_ok z _ wy (by omega)) (Or.inr (Or.inl ⟨rfl, h1, h2, rfl, rfl, rfl⟩))⟩, h2,
        fun w hc hz => (small_ok _ z _ _ _ w (by omega) hc hz rfl h1 h2).mono fun e w' ⟨he, hw⟩ => Or.inl ⟨rfl, he, hw⟩⟩
theorem first_not (z : ByteArray) (h : ¬ ∀ k (h : k < z.size), z[k] = 0) : ∃ j, ∃ (hj : j < z.size), z[j] ≠ 0 ∧ ∀ k (hk : k < j), z[k] = 0 := by
  have : ∃ j, ∃ (hj : j < z.size), z[j] ≠ 0 := by
    refine Classical.byContradiction fun hn => h fun k hk => ?_
    exact Classical.byContradiction fun hz => hn ⟨k, hk, hz⟩
  obtain ⟨j, hj, hne⟩ := this
  induction j using Nat.strongRecOn with
  | _ j ih =>
    by_cases hb : ∃ i, ∃ (hi : i < j), z[i] ≠ 0
    · obtain ⟨i, hi, hne'⟩ := hb
      exact ih i hi (by omega) hne'
    · exact ⟨j, hj, hne, fun k hk => Classical.byContradiction fun hz => hb ⟨k, hk, hz⟩⟩
theorem took_zero (g : TAt) (k p y : Nat) (z : ByteArray) (hp : bits .and .i64 (g.kd k) 255 = (p : Int)) (hq : p % 5 = 3) (hl : z.size ≤ maxLen) :
    ∃ r, Does g k z r ∧ Gives 20 #[.pointer (some ⟨y, 0, none⟩)] y z r (.tuple #[]) := by
  by_cases h : ∀ k (h : k < z.size), z[k] = 0
  · exact ⟨⟨⟨#[]⟩, 0, 0, ⟨#[]⟩⟩, ⟨z64, Nat.zero_le _, fun w => takes_zero z _ 0 _ _ _ p w hp hq fun wx => refZero_ok z wx h hl⟩, fun w hc hz => (zero_ok _ z w h hl hc hz).mono fun e w' ⟨he, hw⟩ => Or.inl ⟨rfl, he, hw⟩⟩
  · obtain ⟨j, hj, hne, hall⟩ := first_not z h
    exact ⟨⟨z, 1, 0, ⟨#[]⟩⟩, ⟨z64, Nat.le_refl _, fun w => takes_zero z _ 1 _ _ _ p w hp hq fun wx => refZero_not z wx j hj hne hall hl⟩, fun w hc _ => (zero_not _ z w j hj hne hall hl hc).mono fun e w' ⟨he, hw⟩ => Or.inr ⟨n1, he, Or.inr ⟨hw, rfl⟩⟩⟩
theorem took_done (g : TAt) (k p y : Nat) (z : ByteArray) (hp : bits .and .i64 (g.kd k) 255 = (p : Int)) (hq : p % 5 = 4) :
    ∃ r, Does g k z r ∧ Gives 21 #[.pointer (some ⟨y, 0, none⟩)] y z r (.tuple #[]) := by
  by_cases h : z = ⟨#[]⟩
  · subst h
    exact ⟨⟨⟨#[]⟩, 0, 0, ⟨#[]⟩⟩, ⟨z64, Nat.zero_le _, fun w => takes_done _ _ 0 _ _ _ p w hp hq fun wx => refDone_ok wx⟩, fun w hc hz => (done_ok _ w hc).mono fun e w' ⟨he, hw⟩ => Or.inl ⟨rfl, he, by rw [← hw]; exact same_cell hc⟩⟩
  · have hs : (!z.toList.isEmpty) = true := by
      rw [ByteArray.toList_eq]
      cases z with
      | mk d =>
        cases d with
        | mk l =>
          cases l with
          | nil => exact absurd rfl h
          | cons a l => rfl
    exact ⟨⟨z, 1, 0, ⟨#[]⟩⟩, ⟨z64, Nat.le_refl _, fun w => takes_done z _ 1 _ _ _ p w hp hq fun wx => refDone_not z wx hs⟩, fun w hc _ => (done_not _ z w hs hc).mono fun e w' ⟨he, hw⟩ => Or.inr ⟨n1, he, Or.inr ⟨hw, rfl⟩⟩⟩
/-- what thing k of the text z leaves, whichever its kind is -/
def Tells (g : TAt) (k p : Nat) (z : ByteArray) (r : Took) : Prop :=
  (p % 5 = 0 ∧ Gives 17 #[.pointer (some ⟨g.y, 0, none⟩), .int .i64 (g.n k)] g.y z r (.string r.t)) ∨
  (p % 5 = 1 ∧ Gives 18 #[.pointer (some ⟨g.y, 0, none⟩), .int .i64 (g.n k)] g.y z r (.int .u64 r.x)) ∨
  (p % 5 = 2 ∧ r.x ≤ top ∧ Gives 19 #[.pointer (some ⟨g.y, 0, none⟩), .int .i64 (g.n k), .int .u64 (g.mo k)] g.y z r (.int .i64 r.x)) ∨
  (p % 5 = 3 ∧ Gives 20 #[.pointer (some ⟨g.y, 0, none⟩)] g.y z r (.tuple #[])) ∨
  (p % 5 = 4 ∧ Gives 21 #[.pointer (some ⟨g.y, 0, none⟩)] g.y z r (.tuple #[]))
theorem took_any (g : TAt) (k p : Nat) (z : ByteArray) (hp : bits .and .i64 (g.kd k) 255 = (p : Int)) (hl : z.size ≤ maxLen) : ∃ r, Does g k z r ∧ Tells g k p z r := by
  rcases (by omega : p % 5 = 0 ∨ p % 5 = 1 ∨ p % 5 = 2 ∨ p % 5 = 3 ∨ p % 5 = 4) with h | h | h | h | h
  · obtain ⟨r, a, b⟩ := took_text g k p g.y z hp h
    exact ⟨r, a, Or.inl ⟨h, b⟩⟩
  · obtain ⟨r, a, b⟩ := took_num g k p g.y z hp h
    exact ⟨r, a, Or.inr (Or.inl ⟨h, b⟩)⟩
  · obtain ⟨r, a, c, b⟩ := took_small g k p g.y z hp h
    exact ⟨r, a, Or.inr (Or.inr (Or.inl ⟨h, c, b⟩))⟩
  · obtain ⟨r, a, b⟩ := took_zero g k p g.y z hp h hl
    exact ⟨r, a, Or.inr (Or.inr (Or.inr (Or.inl ⟨h, b⟩)))⟩
  · obtain ⟨r, a, b⟩ := took_done g k p g.y z hp h
    exact ⟨r, a, Or.inr (Or.inr (Or.inr (Or.inr ⟨h, b⟩)))⟩
end Go.Proofs.Ytponpkmmfamjnaa
