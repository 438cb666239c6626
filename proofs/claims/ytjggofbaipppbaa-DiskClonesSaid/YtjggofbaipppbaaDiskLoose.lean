/-
  Loose: the sectors that aren't sure, rising.
-/
import Derived.Test.YtjggofbaipppbaaDiskTears
import Derived.Test.YtjggofbaipppbaaGrants2
namespace Go.Proofs.Ytjggofbaipppbaa
open Go.RowKit

/-- of the first k sectors those that aren't sure -/
def DiskM.looseTo (m : DiskM) (k : Nat) : List Nat := (List.range k).filter fun i => !alike m.T m.S (i * 64)
theorem DiskM.looseTo_succ (m : DiskM) (k : Nat) : m.looseTo (k + 1) = m.looseTo k ++ (if !alike m.T m.S (k * 64) then [k] else []) := by
  unfold DiskM.looseTo
  rw [List.range_succ, List.filter_append]
  congr 1
  simp only [List.filter_cons, List.filter_nil]
theorem DiskM.looseTo_len (m : DiskM) (k : Nat) : (m.looseTo k).length ≤ k := by
  unfold DiskM.looseTo
  refine Nat.le_trans (List.length_filter_le _ _) ?_
  simp
def intsOf (l : List Nat) : List Value := l.map fun (i : Nat) => Value.int .i64 (i : Int)
set_option maxRecDepth 10000 in
set_option maxHeartbeats 4000000 in
theorem loose_any (m : DiskM) (w : World) (h : DiskAt m w) :
    Calls Try.prog 13 #[.pointer (some ⟨m.d, 0, none⟩)] w fun e w' => ∃ v, e = .returned v ∧ w'.ownsRow w.heap.size 3 1 v (m.looseTo m.n).length (intsOf (m.looseTo m.n)) ∧ Below w.heap.size w w' := by
  have HL := Lib.hid (len_any m w h)
  have hn := h.size
  have H := Lib.hid h
  clear h
  obtain ⟨i0, hi, hz0, hz1, hz2⟩ := info_parts infoInt
  have HI0 := Lib.hid hi
  have HI1 := Lib.hid hz0
  have HI2 := Lib.hid hz1
  have HI3 := Lib.hid hz2
  clear hi hz0 hz1 hz2
  go_enter Try.func13, Try.ntmps13
  go_wp2_with fail
  refine HL.out.mono ?_
  rintro e w' ⟨rfl, rfl⟩
  clear HL
  go_wp2_with fail
  go_loopw [3, 7] (fun v i wx => ∃ k : Nat, k ≤ m.n ∧ i = .int .i64 k ∧ wx.ownsRow w.heap.size 3 1 v (m.looseTo k).length (intsOf (m.looseTo k)) ∧ Below w.heap.size w wx) (fun _ i _ => m.n - (intOf i).toNat)
  case atStart => exact ⟨0, by omega, rfl, by simp [World.ownsRow, DiskM.looseTo, intsOf], Below.refl _ _⟩
  case round =>
    obtain ⟨k, hk, rfl, hown, hB⟩ := hrel
    have HO := Lib.hid hown
    have HB := Lib.hid hB
    clear hown hB
    by_cases hlt : k < m.n
    · have hi1 : (k : Int) < (m.n : Int) := by omega
      have hb : (0 : Int) ≤ k ∧ (k : Int) < m.n := by omega
      have hD : DiskAt m wr := H.out.kept (S := fun _ => False) (Grew.of_below HB.out) (fun x => x) (fun x => x) (fun x => x)
      have c0 : wr.drew.cell? ⟨m.d, 0, none⟩ = some (.slice (some ⟨m.bs, 0, none⟩) m.n m.cs) := hD.drew.c0
      have c1 : wr.drew.cell? ⟨m.d, 1, none⟩ = some (.slice (some ⟨m.bt, 0, none⟩) m.n m.ct) := hD.drew.c1
      have hrT : wr.drew.rangeAt m.bt (k * 64) _ := hD.there.rangePart (k * 64) 64 (by omega)
      have hrS : wr.drew.rangeAt m.bs (k * 64) _ := hD.sure.rangePart (k * 64) 64 (by omega)
      have hneq := sec_neq m.T m.S (k * 64)
      have hLT := rowOf_length (fun j => m.T (k * 64 + j)) 0 64
      have hLS := rowOf_length (fun j => m.S (k * 64 + j)) 0 64
      have HS := Lib.hid (m.looseTo_succ k)
      generalize rowOf (fun j => m.T (k * 64 + j)) 0 64 = LT at *
      generalize rowOf (fun j => m.S (k * 64 + j)) 0 64 = LS at *
      have hIT : (Try.prog.info? 84).map (·.size) = some LT.length := by rw [hLT]; kernel_rfl
      have hIS : (Try.prog.info? 84).map (·.size) = some LS.length := by rw [hLS]; kernel_rfl
      have hU := Try.underlying84
      generalize alike m.T m.S (k * 64) = B at *
      have hlen := m.looseTo_len k
      clear hLT hLS hD
      generalize m.looseTo k = L at *
      go_upto_region 5 with fail
      refine wp_region_held_drew (S := fun wx => wx.cell? ⟨m.d, 0, none⟩ = some (.slice (some ⟨m.bs, 0, none⟩) m.n m.cs) ∧ wx.cell? ⟨m.d, 1, none⟩ = some (.slice (some ⟨m.bt, 0, none⟩) m.n m.ct) ∧ wx.rangeAt m.bt (k * 64) LT ∧ wx.rangeAt m.bs (k * 64) LS) (by kernel_rfl) ⟨c0, c1, hrT, hrS⟩ (fun hHeld => ?_)
      refine wpAnyH_take (i := 0) (oi := { dst := some 10, op := Op.move (Operand.tmp 0), type := 24, pos := "disk.go:99", after := #[], guard := none }) (v := ?_) rfl (by kernel_rfl) (by kernel_rfl) (by kernel_rfl) (fun _ _ _ h => h) (Or.inl ⟨by rfl, ?_⟩) (by assumption) ?_
      rotate_left
      · (intro wz hSw; (try dsimp only at hSw); go_simp; try with_reducible rfl)
      try simp only [Act.put, List.setIfInBounds_toArray, List.set_cons_zero, List.set_cons_succ]
      refine wpAnyH_take (i := 1) (oi := { dst := some 11, op := Op.nilCheck (Operand.tmp 10), type := 0, pos := "disk.go:99", after := #[{ on := 0, ground := Ground.data }], guard := none }) (v := ?_) rfl (by kernel_rfl) (by kernel_rfl) (by kernel_rfl) (fun _ _ _ h => h) (Or.inl ⟨by rfl, ?_⟩) (by assumption) ?_
      rotate_left
      · (intro wz hSw; (try dsimp only at hSw); go_simp; try with_reducible rfl)
      try simp only [Act.put, List.setIfInBounds_toArray, List.set_cons_zero, List.set_cons_succ]
      refine wpAnyH_take (i := 2) (oi := { dst := some 12, op := Op.fieldAddr 74 (Operand.tmp 11) 1, type := 0, pos := "disk.go:99", after := #[{ on := 1, ground := Ground.data }], guard := none }) (v := ?_) rfl (by kernel_rfl) (by kernel_rfl) (by kernel_rfl) (fun _ _ _ h => h) (Or.inl ⟨by rfl, ?_⟩) (by assumption) ?_
      rotate_left
      · (intro wz hSw; (try dsimp only at hSw); go_simp; try with_reducible rfl)
      try simp only [Act.put, List.setIfInBounds_toArray, List.set_cons_zero, List.set_cons_succ]
      refine wpAnyH_take (i := 3) (oi := { dst := some 13, op := Op.load 72 (Operand.tmp 12), type := 72, pos := "disk.go:99", after := #[{ on := 2, ground := Ground.data }], guard := none }) (v := ?_) rfl (by kernel_rfl) (by kernel_rfl) (by kernel_rfl) (fun _ _ _ h => h) (Or.inl ⟨by rfl, ?_⟩) (by assumption) ?_
      rotate_left
      · (intro wz hSw; (try dsimp only at hSw); go_simp; try with_reducible rfl)
      try simp only [Act.put, List.setIfInBounds_toArray, List.set_cons_zero, List.set_cons_succ]
      refine wpAnyH_take (i := 4) (oi := { dst := some 14, op := Op.move (Operand.tmp 4), type := 3, pos := "disk.go:99", after := #[], guard := none }) (v := ?_) rfl (by kernel_rfl) (by kernel_rfl) (by kernel_rfl) (fun _ _ _ h => h) (Or.inl ⟨by rfl, ?_⟩) (by assumption) ?_
      rotate_left
      · (intro wz hSw; (try dsimp only at hSw); go_simp; try with_reducible rfl)
      try simp only [Act.put, List.setIfInBounds_toArray, List.set_cons_zero, List.set_cons_succ]
      refine wpAnyH_take (i := 5) (oi := { dst := some 15, op := Op.indexAddr 72 (Operand.tmp 13) (Operand.tmp 14), type := 0, pos := "disk.go:99", after := #[{ on := 3, ground := Ground.data }, { on := 4, ground := Ground.data }], guard := none }) (v := ?_) rfl (by kernel_rfl) (by kernel_rfl) (by kernel_rfl) (fun _ _ _ h => h) (Or.inl ⟨by rfl, ?_⟩) (by assumption) ?_
      rotate_left
      · (intro wz hSw; (try dsimp only at hSw); go_simp; try with_reducible rfl)
      try simp only [Act.put, List.setIfInBounds_toArray, List.set_cons_zero, List.set_cons_succ]
      refine wpAnyH_take (i := 6) (oi := { dst := some 16, op := Op.load 84 (Operand.tmp 15), type := 84, pos := "disk.go:99", after := #[{ on := 5, ground := Ground.data }], guard := none }) rfl (by kernel_rfl) (by kernel_rfl) (by kernel_rfl) (fun _ _ _ h => h) (yieldsIf_load_mid (by rfl) _ _ rfl m.bt (k * 64) rfl LT _ (fun wz h => h.2.2.1) hU rfl hIT) (by assumption) ?_
      try simp only [Act.put, List.setIfInBounds_toArray, List.set_cons_zero, List.set_cons_succ]
      refine wpAnyH_take (i := 7) (oi := { dst := some 17, op := Op.move (Operand.tmp 0), type := 24, pos := "disk.go:99", after := #[], guard := none }) (v := ?_) rfl (by kernel_rfl) (by kernel_rfl) (by kernel_rfl) (fun _ _ _ h => h) (Or.inl ⟨by rfl, ?_⟩) (by assumption) ?_
      rotate_left
      · (intro wz hSw; (try dsimp only at hSw); go_simp; try with_reducible rfl)
      try simp only [Act.put, List.setIfInBounds_toArray, List.set_cons_zero, List.set_cons_succ]
      refine wpAnyH_take (i := 8) (oi := { dst := some 18, op := Op.nilCheck (Operand.tmp 17), type := 0, pos := "disk.go:99", after := #[{ on := 7, ground := Ground.data }], guard := none }) (v := ?_) rfl (by kernel_rfl) (by kernel_rfl) (by kernel_rfl) (fun _ _ _ h => h) (Or.inl ⟨by rfl, ?_⟩) (by assumption) ?_
      rotate_left
      · (intro wz hSw; (try dsimp only at hSw); go_simp; try with_reducible rfl)
      try simp only [Act.put, List.setIfInBounds_toArray, List.set_cons_zero, List.set_cons_succ]
      refine wpAnyH_take (i := 9) (oi := { dst := some 19, op := Op.fieldAddr 74 (Operand.tmp 18) 0, type := 0, pos := "disk.go:99", after := #[{ on := 8, ground := Ground.data }], guard := none }) (v := ?_) rfl (by kernel_rfl) (by kernel_rfl) (by kernel_rfl) (fun _ _ _ h => h) (Or.inl ⟨by rfl, ?_⟩) (by assumption) ?_
      rotate_left
      · (intro wz hSw; (try dsimp only at hSw); go_simp; try with_reducible rfl)
      try simp only [Act.put, List.setIfInBounds_toArray, List.set_cons_zero, List.set_cons_succ]
      refine wpAnyH_take (i := 10) (oi := { dst := some 20, op := Op.load 72 (Operand.tmp 19), type := 72, pos := "disk.go:99", after := #[{ on := 9, ground := Ground.data }], guard := none }) (v := ?_) rfl (by kernel_rfl) (by kernel_rfl) (by kernel_rfl) (fun _ _ _ h => h) (Or.inl ⟨by rfl, ?_⟩) (by assumption) ?_
      rotate_left
      · (intro wz hSw; (try dsimp only at hSw); go_simp; try with_reducible rfl)
      try simp only [Act.put, List.setIfInBounds_toArray, List.set_cons_zero, List.set_cons_succ]
      refine wpAnyH_take (i := 11) (oi := { dst := some 21, op := Op.move (Operand.tmp 4), type := 3, pos := "disk.go:99", after := #[], guard := none }) (v := ?_) rfl (by kernel_rfl) (by kernel_rfl) (by kernel_rfl) (fun _ _ _ h => h) (Or.inl ⟨by rfl, ?_⟩) (by assumption) ?_
      rotate_left
      · (intro wz hSw; (try dsimp only at hSw); go_simp; try with_reducible rfl)
      try simp only [Act.put, List.setIfInBounds_toArray, List.set_cons_zero, List.set_cons_succ]
      refine wpAnyH_take (i := 12) (oi := { dst := some 22, op := Op.indexAddr 72 (Operand.tmp 20) (Operand.tmp 21), type := 0, pos := "disk.go:99", after := #[{ on := 10, ground := Ground.data }, { on := 11, ground := Ground.data }], guard := none }) (v := ?_) rfl (by kernel_rfl) (by kernel_rfl) (by kernel_rfl) (fun _ _ _ h => h) (Or.inl ⟨by rfl, ?_⟩) (by assumption) ?_
      rotate_left
      · (intro wz hSw; (try dsimp only at hSw); go_simp; try with_reducible rfl)
      try simp only [Act.put, List.setIfInBounds_toArray, List.set_cons_zero, List.set_cons_succ]
      refine wpAnyH_take (i := 13) (oi := { dst := some 23, op := Op.load 84 (Operand.tmp 22), type := 84, pos := "disk.go:99", after := #[{ on := 12, ground := Ground.data }], guard := none }) rfl (by kernel_rfl) (by kernel_rfl) (by kernel_rfl) (fun _ _ _ h => h) (yieldsIf_load_mid (by rfl) _ _ rfl m.bs (k * 64) rfl LS _ (fun wz h => h.2.2.2) hU rfl hIS) (by assumption) ?_
      try simp only [Act.put, List.setIfInBounds_toArray, List.set_cons_zero, List.set_cons_succ]
      refine wpAnyH_take (i := 14) (oi := { dst := some 24, op := Op.binOp BinOp.neq 84 (Operand.tmp 16) (Operand.tmp 23) 84, type := 4, pos := "disk.go:99", after := #[{ on := 6, ground := Ground.data }, { on := 13, ground := Ground.data }], guard := none }) (v := ?_) rfl (by kernel_rfl) (by kernel_rfl) (by kernel_rfl) (fun _ _ _ h => h) (Or.inl ⟨by rfl, ?_⟩) (by assumption) ?_
      rotate_left
      · (intro wz hSw; (try dsimp only at hSw); go_simp; try with_reducible rfl)
      try simp only [Act.put, List.setIfInBounds_toArray, List.set_cons_zero, List.set_cons_succ]
      refine wpAnyH_done (by kernel_rfl) ?_ _
      clear hrT hrS c0 c1 hHeld hneq hIT hIS
      cases B with
      | true =>
        go_wp2_with fail
        go_roundw
        case rel => exact ⟨k + 1, by omega, by go_num, by rw [HS.out]; simpa using HO.out.drew, HB.out.drew⟩
        case measure => simp [intOf]; omega
      | false =>
        go_wp2_with (at_builtin; refine wpList_append_own _ rfl _ _ 32 rfl w.heap.size 3 i0 (.int .i64 0) 1 8 Try.underlying32 HI0.out HI1.out HI2.out HI3.out rfl (by decide) _ _ _ rfl (HO.out.drew.alloc _) ⟨wr.heap.size, 0, none⟩ 1 1 [.int .i64 (k : Int)] rfl rfl ?c1 ?c2 ?c3 ?c4 ?c5 ?_)
        case c1 => exact news_one wr.drew _ _
        case c2 => first | rfl | (intro u hu; simp at hu; subst hu; rfl)
        case c3 => first | omega | (unfold maxLen; omega)
        case c4 => omega
        case c5 => have := HB.out.size; first | omega | (simp; omega)
        · intro v' w1 hown' hgrow _
          have HO1 := Lib.hid hown'
          have HB1 := Lib.hid ((HB.out.drew.alloc HB.out.size (.cells #[.int .i64 (k : Int)] 3)).grown hgrow (by have := HB.out.size; simp; omega) (rowOwn HO.out).1)
          clear hown' hgrow
          go_wp2
          go_roundw
          case rel => exact ⟨k + 1, by omega, by go_num, by rw [HS.out]; simpa [intsOf] using HO1.out, HB1.out⟩
          case measure => simp [intOf]; omega
    · have hi1 : ¬ (k : Int) < (m.n : Int) := by omega
      obtain rfl : k = m.n := by omega
      go_wp2_with fail
      go_ret
      exact ⟨_, rfl, HO.out, HB.out⟩
end Go.Proofs.Ytjggofbaipppbaa
