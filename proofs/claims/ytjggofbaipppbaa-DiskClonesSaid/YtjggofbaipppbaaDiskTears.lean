/-
  Texts put together: DiskTear, DiskTearFn, DiskEql.
-/
import Derived.Test.YtjggofbaipppbaaDiskLawRead
import Derived.Deep.RegionHeld3
import Derived.Laws.StructEq
import Derived.ChangeKeysEq
/-
  A sector is torn.
-/
namespace Go.Proofs.Ytjggofbaipppbaa
open Go.RowKit

/-- the first bytes of a sector reach what is sure -/
def DiskM.reach (m : DiskM) (k c : Nat) : DiskM := { m with S := fun j => if k * 64 ≤ j ∧ j < k * 64 + c then m.T j else m.S j }
theorem DiskAt.reach {m : DiskM} {w : World} (h : DiskAt m w) (k c : Nat) (hk : k < m.n) (hc : c ≤ 64) : DiskAt (m.reach k c) (w.setCells m.bs (k * 64) (rowOf m.T (k * 64) c)) := by
  have g : Grew (fun k => k = m.bs) w (w.setCells m.bs (k * 64) (rowOf m.T (k * 64) c)) := setCells_grew _ _ w w (Grew.refl w) fun _ => rfl
  have e : ∀ j v, w.cell? ⟨m.d, j, none⟩ = some v → (w.setCells m.bs (k * 64) (rowOf m.T (k * 64) c)).cell? ⟨m.d, j, none⟩ = some v := fun j v hc => by rw [g.cell (p := ⟨m.d, j, none⟩) h.lt h.n1]; exact hc
  exact ⟨Nat.lt_of_lt_of_le h.lt g.size, h.n1, h.n2, h.n3, h.size, e _ _ h.c0, e _ _ h.c1, e _ _ h.c2, e _ _ h.c3, e _ _ h.c4, fun j => by rw [World.frozen?_setCells]; exact h.free j, h.sure.over m.T (k * 64) c (by omega), h.there.kept g fun e => h.n3 e.symm⟩
theorem copy_part (m : DiskM) (k c : Nat) (w : World) (h : DiskAt m w) (hk : k < m.n) (hc : c ≤ 64) :
    (Builtin.copy_ #[100, 100] 3 #[.slice (some ⟨m.bs, k * 64, none⟩) c 64, .slice (some ⟨m.bt, k * 64, none⟩) 64 64]).run Try.prog w = .ok (.int .i64 c) (w.setCells m.bs (k * 64) (rowOf m.T (k * 64) c)) := by
  refine run_copy_wide w _ _ _ 5 m.bs (k * 64) c 64 ⟨m.bt, k * 64, none⟩ 64 64 1 c _ Try.underlying100 (fun w => by kernel_rfl) (Nat.min_eq_right hc) (by simp) ?_ ?_ ?_ (rowOf_one _ _ _)
  · intro j v hv
    have hj : j < c := by
      rcases Nat.lt_or_ge j c with hj | hj
      · exact hj
      · rw [List.getElem?_eq_none (by simpa using hj)] at hv
        simp at hv
    rw [rowOf_get _ _ _ _ hj] at hv
    rw [Addr.add_mid, ← hv, h.there.cell (k * 64 + j) (by omega)]
  · intro j hj
    rw [h.sure.cell (k * 64 + j) (by simp at hj; omega)]
    rfl
  · intro j hj
    exact h.sure.free (k * 64 + j) (by simp at hj; omega)
theorem slice_cut (b o c : Nat) (hc : c ≤ 64) : ∀ w : World, (Instr.sliceAt 84 (.pointer (some ⟨b, o, none⟩)) none (some (.int .i64 (c : Int))) none).run Try.prog w = .ok (.slice (some ⟨b, o, none⟩) c 64) w := by
  intro w
  have e1 : Try.prog.arrayLen 84 = 64 := by kernel_rfl
  have e2 : Try.prog.elem 84 = 5 := by kernel_rfl
  have e3 : (sizeOf 5).run Try.prog w = .ok 1 w := by kernel_rfl
  have h := run_sliceAt_array_h (P := Try.prog) w 84 ⟨b, o, none⟩ (by rw [e1, e2]; exact Try.underlying84) .i64 (c : Int) (by omega) (by rw [e1]; omega)
  rw [h, e1, e2, e3]
  simp only [Result.andThen_ok, slicedAt, Int.toNat_natCast]
  rw [if_neg (by omega), Addr.add_mid]
  simp
end Go.Proofs.Ytjggofbaipppbaa

/-
  tear.
-/
namespace Go.Proofs.Ytjggofbaipppbaa
open Go.RowKit

/-- of sector k the first c bytes have reached the device, and no others -/
def DiskM.torn (m : DiskM) (k c : Nat) : DiskM := (m.reach k c).wrote k fun j => (m.reach k c).S (k * 64 + j)
theorem RowAt.rangePart {b len : Nat} {f : Nat → UInt8} {w : World} (h : RowAt b len f w) (o n : Nat) (ho : o + n ≤ len) : w.rangeAt b o (rowOf (fun j => f (o + j)) 0 n) := fun j v hv => by
  have hj : j < n := by
    rcases Nat.lt_or_ge j n with hj | hj
    · exact hj
    · rw [List.getElem?_eq_none (by simpa using hj)] at hv
      simp at hv
  rw [rowOf_get _ _ _ _ hj, Nat.zero_add] at hv
  rw [← hv, h.cell (o + j) (by omega)]
set_option maxRecDepth 100000 in
theorem tear_any (m : DiskM) (k c : Nat) (w : World) (h : DiskAt m w) (hk : k < m.n) (hc : c ≤ 64) :
    Calls Try.prog 44 #[.pointer (some ⟨m.d, 0, none⟩), .int .i64 k, .int .i64 c] w fun e w' => e = .returned (.tuple #[]) ∧ DiskAt (m.torn k c) w' ∧ Grew m.own w w' := by
  have c0 : w.drew.cell? ⟨m.d, 0, none⟩ = some (.slice (some ⟨m.bs, 0, none⟩) m.n m.cs) := h.drew.c0
  have c1 : w.drew.cell? ⟨m.d, 1, none⟩ = some (.slice (some ⟨m.bt, 0, none⟩) m.n m.ct) := h.drew.c1
  have hcp := copy_part m k c _ h.drew hk hc
  have hsl := slice_cut m.bs (k * 64) c hc
  have hb : (0 : Int) ≤ k ∧ (k : Int) < m.n := by omega
  have H1 := Lib.hid (h.drew.reach k c hk hc)
  have HG : Hid (Grew m.own w (w.drew.setCells m.bs (k * 64) (rowOf m.T (k * 64) c))) := Lib.hid (setCells_grew _ _ _ _ (Grew.refl w).drew fun _ => Or.inr (Or.inl rfl))
  have HS0 : Hid (w.drew.cell? ⟨m.d, 0, none⟩ = some (.slice (some ⟨m.bs, 0, none⟩) m.n m.cs) ∧ w.drew.cell? ⟨m.d, 1, none⟩ = some (.slice (some ⟨m.bt, 0, none⟩) m.n m.ct)) := Lib.hid ⟨c0, c1⟩
  have HS1 : Hid ((w.drew.setCells m.bs (k * 64) (rowOf m.T (k * 64) c)).cell? ⟨m.d, 0, none⟩ = some (.slice (some ⟨m.bs, 0, none⟩) m.n m.cs) ∧ (w.drew.setCells m.bs (k * 64) (rowOf m.T (k * 64) c)).cell? ⟨m.d, 1, none⟩ = some (.slice (some ⟨m.bt, 0, none⟩) m.n m.ct)) := Lib.hid ⟨H1.out.c0, H1.out.c1⟩
  have HK := Lib.hid hk
  clear h hk c0 c1 hc
  go_enter Try.func44, Try.ntmps44
  go_upto_region 0 with fail
  go_region_held3 (fun wx => wx.cell? ⟨m.d, 0, none⟩ = some (.slice (some ⟨m.bs, 0, none⟩) m.n m.cs) ∧ wx.cell? ⟨m.d, 1, none⟩ = some (.slice (some ⟨m.bt, 0, none⟩) m.n m.ct)) (first | exact HS0.out | exact HS1.out) (fail)
  clear hcp hsl HS0 HS1
  generalize w.drew.setCells m.bs (k * 64) (rowOf m.T (k * 64) c) = wb at H1 HG ⊢
  go_upto_region 1 with fail
  have h2 := H1.out
  have hr := h2.sure.rangePart (k * 64) 64 (by have := HK.out; simp only [DiskM.reach]; omega)
  have hq := h2.drew.wrote k HK.out fun j => (m.reach k c).S (k * 64 + j)
  have hL := rowOf_length (fun j => (m.reach k c).S (k * 64 + j)) 0 64
  have hO := rowOf_one (fun j => (m.reach k c).S (k * 64 + j)) 0 64
  have hgq : Grew m.own w (wb.drew.setCells m.bt (k * 64) (rowOf (fun j => (m.reach k c).S (k * 64 + j)) 0 64)) := setCells_grew _ _ _ _ HG.out.drew fun _ => Or.inr (Or.inr rfl)
  change DiskAt (m.torn k c) (wb.drew.setCells m.bt (k * 64) _) at hq
  change wb.rangeAt m.bs (k * 64) _ at hr
  generalize rowOf (fun j => (m.reach k c).S (k * 64 + j)) 0 64 = L at hL hO hr hq hgq
  have hI2 : (Try.prog.info? 84).map (·.size) = some L.length := by rw [hL]; kernel_rfl
  have hI3 : (Try.prog.info? 84).map (·.size) = some L.toArray.size := by rw [List.size_toArray, hL]; kernel_rfl
  have hU := Try.underlying84
  have n2 : m.d ≠ m.bt := h2.n2
  have n3 : m.bs ≠ m.bt := h2.n3
  have ht : wb.there m.bt (k * 64) L.toArray.size := h2.there.part (k * 64) L.toArray.size (by rw [List.size_toArray, hL]; have := HK.out; simp only [DiskM.reach]; omega)
  have HS0 : Hid (wb.drew.cell? ⟨m.d, 0, none⟩ = some (.slice (some ⟨m.bs, 0, none⟩) m.n m.cs) ∧ wb.drew.cell? ⟨m.d, 1, none⟩ = some (.slice (some ⟨m.bt, 0, none⟩) m.n m.ct) ∧ wb.drew.rangeAt m.bs (k * 64) L ∧ wb.drew.there m.bt (k * 64) L.toArray.size) := Lib.hid ⟨h2.drew.c0, h2.drew.c1, by simpa using hr, by simpa using ht⟩
  have HS1 : Hid ((wb.drew.setCells m.bt (k * 64) L).cell? ⟨m.d, 0, none⟩ = some (.slice (some ⟨m.bs, 0, none⟩) m.n m.cs) ∧ (wb.drew.setCells m.bt (k * 64) L).cell? ⟨m.d, 1, none⟩ = some (.slice (some ⟨m.bt, 0, none⟩) m.n m.ct) ∧ (wb.drew.setCells m.bt (k * 64) L).rangeAt m.bs (k * 64) L ∧ (wb.drew.setCells m.bt (k * 64) L).there m.bt (k * 64) L.toArray.size) :=
    Lib.hid ⟨by rw [World.cell?_setCells_out _ _ _ _ _ fun e => absurd e n2]; exact HS0.out.1, by rw [World.cell?_setCells_out _ _ _ _ _ fun e => absurd e n2]; exact HS0.out.2.1, World.rangeAt_setCells_apart HS0.out.2.2.1 _ _ _ (Or.inl n3), World.there_setCells HS0.out.2.2.2 _ _ _⟩
  have HQ := Lib.hid hq
  have HGQ := Lib.hid hgq
  clear hq hgq h2 H1 HG hr ht HK n2 n3 hL
  go_region_held3 (fun wx => wx.cell? ⟨m.d, 0, none⟩ = some (.slice (some ⟨m.bs, 0, none⟩) m.n m.cs) ∧ wx.cell? ⟨m.d, 1, none⟩ = some (.slice (some ⟨m.bt, 0, none⟩) m.n m.ct) ∧ wx.rangeAt m.bs (k * 64) L ∧ wx.there m.bt (k * 64) L.toArray.size)
    (first | exact HS0.out | exact HS1.out) (fail)
  go_end0
  exact ⟨rfl, HQ.out, HGQ.out⟩
end Go.Proofs.Ytjggofbaipppbaa

/-
  Two sectors as values: equal or not.
-/
namespace Go.Proofs.Ytjggofbaipppbaa
open Go.RowKit

theorem plain8 : Try.prog.plainKey 5 = true := by kernel_rfl
theorem items_run (d : Nat) (f g : Nat → UInt8) (xs ys : Array Value) (w : World) : ∀ is : List Nat, (∀ i ∈ is, xs[i]? = some (.int .u8 ((f i).toNat : Int))) → (∀ i ∈ is, ys[i]? = some (.int .u8 ((g i).toNat : Int))) →
    (Op.eqItems (d + 1) 5 1 xs ys is).run Try.prog w = .ok (is.all fun i => f i == g i) w
  | [], _, _ => by simp [Op.eqItems]
  | i :: is, hx, hy => by
    have ih := items_run d f g xs ys w is (fun j hj => hx j (List.mem_cons_of_mem _ hj)) (fun j hj => hy j (List.mem_cons_of_mem _ hj))
    have p1 := run_part_plain (P := Try.prog) w plain8 (off := i * 1) (by rw [Nat.mul_one]; exact hx i (List.mem_cons_self))
    have p2 := run_part_plain (P := Try.prog) w plain8 (off := i * 1) (by rw [Nat.mul_one]; exact hy i (List.mem_cons_self))
    have p3 := run_equalIn_int (P := Try.prog) w d 5 .u8 .u8 ((f i).toNat : Int) ((g i).toNat : Int) Try.underlying5
    have e : (((f i).toNat : Int) == ((g i).toNat : Int)) = (f i == g i) := by
      rw [Bool.eq_iff_iff, beq_iff_eq, beq_iff_eq]
      constructor
      · intro h
        exact UInt8.toNat_inj.1 (by omega)
      · intro h
        rw [h]
    rw [e] at p3
    simp only [Op.eqItems, Sem.run_bind, p1, p2, p3, Result.andThen_ok, List.all_cons]
    cases hc : (f i == g i)
    · simp
    · simpa using ih
/-- are these bytes the same? -/
def alike (f g : Nat → UInt8) (o : Nat) : Bool := (List.range 64).all fun j => f (o + j) == g (o + j)
theorem sec_eql (f g : Nat → UInt8) (o : Nat) : ∀ w : World, (Op.equalIn 10000 84 (.agg (rowOf (fun j => f (o + j)) 0 64).toArray) (.agg (rowOf (fun j => g (o + j)) 0 64).toArray)).run Try.prog w = .ok (alike f g o) w := fun w => by
  obtain ⟨i, hi⟩ : ∃ i, Try.prog.info? 5 = some i := info_of_underlying Try.underlying5
  have c : Try.prog.cellsOf 5 = 1 := by kernel_rfl
  rw [run_equalIn_array (P := Try.prog) w 9999 (e := 5) (n := 64) (i := i) _ _ Try.underlying84 hi, c]
  exact items_run 9998 (fun j => f (o + j)) (fun j => g (o + j)) _ _ w (List.range 64)
    (fun j hj => by rw [List.getElem?_toArray, rowOf_get _ _ _ _ (by simpa using hj), Nat.zero_add]) (fun j hj => by rw [List.getElem?_toArray, rowOf_get _ _ _ _ (by simpa using hj), Nat.zero_add])
theorem sec_neq (f g : Nat → UInt8) (o : Nat) : ∀ w : World, (binOp .neq 84 (.agg (rowOf (fun j => f (o + j)) 0 64).toArray) (.agg (rowOf (fun j => g (o + j)) 0 64).toArray)).run Try.prog w = .ok (.bool (!alike f g o)) w := fun w => by
  have e : (Op.equalIn Op.maxDepth 84 (.agg (rowOf (fun j => f (o + j)) 0 64).toArray) (.agg (rowOf (fun j => g (o + j)) 0 64).toArray)).run Try.prog w = .ok (alike f g o) w := sec_eql f g o w
  simp [binOp, Op.equal, e]
end Go.Proofs.Ytjggofbaipppbaa
