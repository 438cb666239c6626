/-
  The document's own taking of things, where nothing has failed yet.
-/
import Derived.Test.YtpgmgopcgoblhaaDoorPackIn
import Derived.RegionTactic
namespace Go.Proofs.YtpgmgopcgoblhaaDoor
open Go.RowKit

theorem bcell {W w1 : World} (hb : Below W.heap.size W w1) : (∀ b o, b < W.heap.size → w1.cell? ⟨b, o, none⟩ = W.cell? ⟨b, o, none⟩) ∧ (∀ b o, b < W.heap.size → w1.frozen? ⟨b, o, none⟩ = W.frozen? ⟨b, o, none⟩) :=
  ⟨fun b o h => hb.cell (p := ⟨b, o, none⟩) h, fun b o h => hb.frozen (p := ⟨b, o, none⟩) h⟩
def inOf (s : ByteArray) (e : Int) : Value := .agg #[.string s, .int .i64 e]
theorem pair_set {w : World} {b : Nat} {u0 u1 v0 v1 : Value} {o : Obj} (c0 : w.cell? ⟨b, 0, none⟩ = some u0) (c1 : w.cell? ⟨b, 1, none⟩ = some u1) (hb : b < w.heap.size) :
    (((w.setCell ⟨b, 0, none⟩ v0).setCell ⟨b, 1, none⟩ v1).alloc o).cell? ⟨b, 0, none⟩ = some v0 ∧ (((w.setCell ⟨b, 0, none⟩ v0).setCell ⟨b, 1, none⟩ v1).alloc o).cell? ⟨b, 1, none⟩ = some v1 := by
  have hs : ((w.setCell ⟨b, 0, none⟩ v0).setCell ⟨b, 1, none⟩ v1).heap.size = w.heap.size := by simp [World.setCell]
  constructor
  · rw [World.cell?_alloc_past (hn := by omega), World.cell?_setCell_other (h := by simp)]
    exact World.cell?_setCell_same _ _ _ c0
  · rw [World.cell?_alloc_past (hn := by omega)]
    exact World.cell?_setCell_same _ _ _ (by rw [World.cell?_setCell_other (h := by simp)]; exact c1)
theorem pair_below {w w1 : World} {o1 o2 o : Obj} {v0 v1 : Value} (h : Below ((w.alloc o1).alloc o2).heap.size ((w.alloc o1).alloc o2) w1) : Below w.heap.size w (((w1.setCell ⟨w.heap.size + 1, 0, none⟩ v0).setCell ⟨w.heap.size + 1, 1, none⟩ v1).alloc o) := by
  have h0 : Below w.heap.size w w1 := (((Below.refl w.heap.size w).alloc (Nat.le_refl _) o1).alloc (by simp) o2).trans (h.mono (by simp; omega))
  have hs := h0.size
  exact ((h0.setCell (p := ⟨w.heap.size + 1, 0, none⟩) (by show _ ≤ w.heap.size + 1; omega) _).setCell (p := ⟨w.heap.size + 1, 1, none⟩) (by show _ ≤ w.heap.size + 1; omega) _).alloc (by simpa [World.setCell] using hs) _
theorem two_new {w : World} (o1 o2 : Obj) : Below w.heap.size w ((w.alloc o1).alloc o2) := ((Below.refl _ _).alloc (Nat.le_refl _) _).alloc (by simp) _
set_option maxHeartbeats 1000000 in
theorem refText_neg (s : ByteArray) (n : Int) (w : World) (hn : n < 0) :
    Calls Tryd.prog 31 #[inOf s 0, .int .i64 n] w fun e w' => e = .returned (.tuple #[inOf s 4, .string ⟨#[]⟩]) ∧ Below w.heap.size w w' := by
  unfold inOf
  go_enter Tryd.func31, Tryd.ntmps31
  go_wp2
  exact bodyPost_ret (v := .tuple #[.agg #[.string s, .int .i64 4], .string ⟨#[]⟩]) (by simp [results, Tryd.results31, go_sem]) rfl ⟨rfl, two_new _ _⟩
set_option maxHeartbeats 1000000 in
theorem refText_end (s : ByteArray) (n : Int) (w : World) (h0 : ¬ n < 0) (hn : (s.size : Int) < n) :
    Calls Tryd.prog 31 #[inOf s 0, .int .i64 n] w fun e w' => e = .returned (.tuple #[inOf s 2, .string ⟨#[]⟩]) ∧ Below w.heap.size w w' := by
  unfold inOf
  go_enter Tryd.func31, Tryd.ntmps31
  go_wp2
  exact bodyPost_ret (v := .tuple #[.agg #[.string s, .int .i64 2], .string ⟨#[]⟩]) (by simp [results, Tryd.results31, go_sem]) rfl ⟨rfl, two_new _ _⟩
set_option maxHeartbeats 1000000 in
theorem refText_ok (s : ByteArray) (n : Nat) (w : World) (hn : n ≤ s.size) :
    Calls Tryd.prog 31 #[inOf s 0, .int .i64 n] w fun e w' => e = .returned (.tuple #[inOf (s.extract n s.size) 0, .string (s.extract 0 n)]) ∧ Below w.heap.size w w' := by
  unfold inOf
  have h1 : ¬ (n : Int) < 0 := by omega
  have h2 : ¬ (s.size : Int) < n := by omega
  go_enter Tryd.func31, Tryd.ntmps31
  go_wp2
  go_region
  all_goals
    go_wp2
    exact bodyPost_ret (v := .tuple #[.agg #[.string (s.extract n s.size), .int .i64 0], .string (s.extract 0 n)]) (by simp [results, Tryd.results31, go_sem]) rfl ⟨rfl, (two_new _ _).drew⟩

theorem num_take' (t : ByteArray) (k : Nat) (h : k < t.size) (hm : t.size ≤ 8) : IntKind.u64.wrap (IntKind.u64.wrap (256 * (num (t.data.toList.take k) : Int)) + IntKind.u64.wrap ((t[k]).toNat : Int)) = (num (t.data.toList.take (k + 1)) : Int) := by
  rw [take_snoc t k h, num_snoc]
  have h1 := num_lt (t.data.toList.take k)
  have h2 : (t.data.toList.take k).length ≤ 7 := by rw [List.length_take]; omega
  have h3 : 256 ^ (t.data.toList.take k).length ≤ 256 ^ 7 := Nat.pow_le_pow_right (by decide) h2
  have hb := (t[k]).toNat_lt
  generalize num (t.data.toList.take k) = X at *
  have hX : X < 72057594037927936 := by omega
  simp only [IntKind.wrap, IntKind.bits, IntKind.signed]
  simp
  omega
/-- Number, by what Text answers -/
theorem wid_cases (n : Int) : (n < 1 ∧ wid n = 1) ∨ (¬ n < 1 ∧ 8 < n ∧ wid n = 8) ∨ (¬ n < 1 ∧ ¬ 8 < n ∧ n = wid n) := by
  unfold wid
  omega
set_option maxRecDepth 100000 in
set_option maxHeartbeats 2000000 in
theorem refNumber_of (s s' t : ByteArray) (e0 e' : Int) (n : Int) (w : World) (ht : t.size ≤ 8)
    (hT : ∀ wx : World, Calls Tryd.prog 31 #[inOf s e0, .int .i64 (wid n)] wx fun e w' => e = .returned (.tuple #[inOf s' e', .string t]) ∧ Below wx.heap.size wx w') :
    Calls Tryd.prog 32 #[inOf s e0, .int .i64 n] w fun e w' => e = .returned (.tuple #[inOf s' e', .int .u64 (num t.data.toList)]) ∧ Below w.heap.size w w' := by
  have HT := Lib.hid hT
  clear hT
  unfold inOf at *
  have h3 := wid_cases n
  generalize wid n = m at *
  rcases h3 with ⟨h1, rfl⟩ | ⟨h1, h2, rfl⟩ | ⟨h1, h2, rfl⟩
  all_goals
    go_enter Tryd.func32, Tryd.ntmps32
    go_wp2_with fail
    refine (HT.out _).mono ?_
    rintro e w1 ⟨rfl, hb⟩
    obtain ⟨hc, hf⟩ := bcell hb
    have hz : w.heap.size + 1 < w1.heap.size := by have := hb.size; simp at this; omega
    have HB := Lib.hid hb
    clear hb HT
    go_wp2_with fail
    go_loop [8, 9] (fun x i => ∃ k : Nat, k ≤ t.size ∧ i = .int .i64 k ∧ x = .int .u64 (num (t.data.toList.take k))) (fun _ i => t.size - (intOf i).toNat)
    case atStart => exact ⟨0, by omega, rfl, rfl⟩
    case round =>
      obtain ⟨k, hk, rfl, rfl⟩ := hrel
      by_cases hlt : k < t.size
      · have HN := Lib.hid (num_take' t k hlt ht)
        go_wp2
        go_round
        case rel => exact ⟨k + 1, by omega, by go_num, congrArg (Value.int .u64) HN.out⟩
        case measure => simp [intOf]; omega
      · have HE : Hid (t.data.toList.take k = t.data.toList) := Lib.hid (List.take_of_length_le (by simp; omega))
        rw [HE.out]
        have d0 : w1.cell? ⟨w.heap.size + 1, 0, none⟩ = some (.string ⟨#[]⟩) := by rw [hc _ _ (by simp)]; simp
        have d1 : w1.cell? ⟨w.heap.size + 1, 1, none⟩ = some (.int .i64 0) := by rw [hc _ _ (by simp)]; simp
        obtain ⟨r0, r1⟩ := pair_set (o := .cells #[.string s', .int .i64 e'] 70) (v0 := .string s') (v1 := .int .i64 e') d0 d1 hz
        go_wp2
        exact bodyPost_ret (v := .tuple #[.agg #[.string s', .int .i64 e'], .int .u64 (num t.data.toList)]) (by simp [results, Tryd.results32, go_sem, r0, r1]) rfl ⟨rfl, pair_below HB.out⟩

set_option maxHeartbeats 1000000 in
theorem refDone_ok (w : World) :
    Calls Tryd.prog 33 #[inOf ⟨#[]⟩ 0] w fun e w' => e = .returned (inOf ⟨#[]⟩ 0) ∧ Below w.heap.size w w' := by
  unfold inOf
  go_enter Tryd.func33, Tryd.ntmps33
  go_wp2
  exact bodyPost_ret (v := .agg #[.string ⟨#[]⟩, .int .i64 0]) (by simp [results, Tryd.results33, go_sem]) rfl ⟨rfl, two_new _ _⟩
set_option maxHeartbeats 1000000 in
theorem refDone_not (s : ByteArray) (w : World) (hs : (!s.toList.isEmpty) = true) :
    Calls Tryd.prog 33 #[inOf s 0] w fun e w' => e = .returned (inOf s 1) ∧ Below w.heap.size w w' := by
  unfold inOf
  go_enter Tryd.func33, Tryd.ntmps33
  go_wp2
  exact bodyPost_ret (v := .agg #[.string s, .int .i64 1]) (by simp [results, Tryd.results33, go_sem]) rfl ⟨rfl, two_new _ _⟩
end Go.Proofs.YtpgmgopcgoblhaaDoor
