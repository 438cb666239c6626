/-
  Texts put together: DiskAt, DiskSpend, DiskRead, DiskCopy, DiskSync, DiskFill, DiskWrite.
-/
import Derived.Test.YtbohpffigmllkaaGreatDoorPackGuard
import Derived.Test.YtbohpffigmllkaaGreatDoorGuardGrew
import Derived.Deep.MidRow
import Derived.Lib.LazyBuf
import Derived.Deep.CutBlock
import Derived.Deep.RegionHeld3
/-
  A disk in memory: its struct, its two rows; the small calls.
-/
namespace Go.Proofs.YtbohpffigmllkaaGreatDoor
open Go.RowKit

/-- a row of bytes -/
structure RowAt (b len : Nat) (f : Nat → UInt8) (w : World) : Prop where
  lt : b < w.heap.size
  cell : ∀ j, j < len → w.cell? ⟨b, j, none⟩ = some (.int .u8 ((f j).toNat : Int))
  free : ∀ j, j < len → w.frozen? ⟨b, j, none⟩ = false
theorem RowAt.kept {b len : Nat} {f : Nat → UInt8} {S : Nat → Prop} {w w' : World} (h : RowAt b len f w) (g : Grew S w w') (hS : ¬ S b) : RowAt b len f w' :=
  ⟨Nat.lt_of_lt_of_le h.lt g.size, fun j hj => by rw [g.cell (p := ⟨b, j, none⟩) h.lt hS]; exact h.cell j hj, fun j hj => by rw [g.frozen (p := ⟨b, j, none⟩) h.lt hS]; exact h.free j hj⟩
/-- what a disk is: where it lies, how many sectors, what is sure, what is there, its power -/
structure DiskM where
  d : Nat
  bs : Nat
  bt : Nat
  n : Nat
  cs : Nat
  ct : Nat
  S : Nat → UInt8
  T : Nat → UInt8
  armed : Bool
  left : Int
  dead : Bool
structure DiskAt (m : DiskM) (w : World) : Prop where
  lt : m.d < w.heap.size
  n1 : m.d ≠ m.bs
  n2 : m.d ≠ m.bt
  n3 : m.bs ≠ m.bt
  size : m.n ≤ 4096
  c0 : w.cell? ⟨m.d, 0, none⟩ = some (.slice (some ⟨m.bs, 0, none⟩) m.n m.cs)
  c1 : w.cell? ⟨m.d, 1, none⟩ = some (.slice (some ⟨m.bt, 0, none⟩) m.n m.ct)
  c2 : w.cell? ⟨m.d, 2, none⟩ = some (.bool m.armed)
  c3 : w.cell? ⟨m.d, 3, none⟩ = some (.int .i64 m.left)
  c4 : w.cell? ⟨m.d, 4, none⟩ = some (.bool m.dead)
  free : ∀ j, w.frozen? ⟨m.d, j, none⟩ = false
  sure : RowAt m.bs (64 * m.n) m.S w
  there : RowAt m.bt (64 * m.n) m.T w
/-- the blocks of a disk -/
def DiskM.own (m : DiskM) : Nat → Prop := fun k => k = m.d ∨ k = m.bs ∨ k = m.bt
theorem DiskAt.kept {m : DiskM} {S : Nat → Prop} {w w' : World} (h : DiskAt m w) (g : Grew S w w') (h1 : ¬ S m.d) (h2 : ¬ S m.bs) (h3 : ¬ S m.bt) : DiskAt m w' := by
  have c : ∀ j v, w.cell? ⟨m.d, j, none⟩ = some v → w'.cell? ⟨m.d, j, none⟩ = some v := fun j v hc => by rw [g.cell (p := ⟨m.d, j, none⟩) h.lt h1]; exact hc
  exact ⟨Nat.lt_of_lt_of_le h.lt g.size, h.n1, h.n2, h.n3, h.size, c _ _ h.c0, c _ _ h.c1, c _ _ h.c2, c _ _ h.c3, c _ _ h.c4, fun j => by rw [g.frozen (p := ⟨m.d, j, none⟩) h.lt h1]; exact h.free j, h.sure.kept g h2, h.there.kept g h3⟩

theorem len_any (m : DiskM) (w : World) (h : DiskAt m w) :
    Calls Tryz.prog 52 #[.pointer (some ⟨m.d, 0, none⟩)] w fun e w' => e = .returned (.int .i64 m.n) ∧ w = w' := by
  have c1 := h.c1
  clear h
  go_enter Tryz.func52, Tryz.ntmps52
  go_wp2
  go_ret
  exact ⟨rfl, rfl⟩
theorem power_ok (m : DiskM) (w : World) (h : DiskAt m w) (hd : m.dead = false) :
    Calls Tryz.prog 163 #[.pointer (some ⟨m.d, 0, none⟩)] w fun e w' => e = .returned (.tuple #[]) ∧ w = w' := by
  have c4 := h.c4
  rw [hd] at c4
  clear h hd
  go_enter Tryz.func163, Tryz.ntmps163
  go_wp2_with fail
  go_end0
  exact ⟨rfl, rfl⟩
theorem power_cut (m : DiskM) (w : World) (h : DiskAt m w) (hd : m.dead = true) :
    Calls Tryz.prog 163 #[.pointer (some ⟨m.d, 0, none⟩)] w fun e w' => e = failed 12 ∧ w = w' := by
  have c4 := h.c4
  rw [hd] at c4
  clear h hd
  go_enter Tryz.func163, Tryz.ntmps163
  go_wp2_with fail
  refine (fail_any 12 _).mono ?_
  rintro e w' ⟨rfl, rfl⟩
  exact ⟨rfl, rfl, rfl⟩
theorem sector_ok (m : DiskM) (at' : Int) (w : World) (h : DiskAt m w) (h0 : 0 ≤ at') (h1 : at' < m.n) :
    Calls Tryz.prog 81 #[.pointer (some ⟨m.d, 0, none⟩), .int .i64 at'] w fun e w' => e = .returned (.tuple #[]) ∧ w = w' := by
  have H := Lib.hid (len_any m w h)
  have h2 : ¬ at' < 0 := by omega
  clear h h0
  go_enter Tryz.func81, Tryz.ntmps81
  go_wp2_with fail
  refine H.out.mono ?_
  rintro e w' ⟨rfl, rfl⟩
  go_wp2_with fail
  go_end0
  exact ⟨rfl, rfl⟩
theorem sector_not (m : DiskM) (at' : Int) (w : World) (h : DiskAt m w) (hn : at' < 0 ∨ m.n ≤ at') :
    Calls Tryz.prog 81 #[.pointer (some ⟨m.d, 0, none⟩), .int .i64 at'] w fun e w' => e = failed 6 ∧ w = w' := by
  have H := Lib.hid (len_any m w h)
  clear h
  by_cases h0 : at' < 0
  · clear hn
    go_enter Tryz.func81, Tryz.ntmps81
    go_wp2_with fail
    refine (fail_any 6 _).mono ?_
    rintro e w' ⟨rfl, rfl⟩
    exact ⟨rfl, rfl, rfl⟩
  · have h1 : (m.n : Int) ≤ at' := by omega
    clear hn
    go_enter Tryz.func81, Tryz.ntmps81
    go_wp2_with fail
    refine H.out.mono ?_
    rintro e w' ⟨rfl, rfl⟩
    go_wp2_with fail
    refine (fail_any 6 _).mono ?_
    rintro e w' ⟨rfl, rfl⟩
    exact ⟨rfl, rfl, rfl⟩
end Go.Proofs.YtbohpffigmllkaaGreatDoor

/-
  A disk's power: Arm, and what each call spends.
-/
namespace Go.Proofs.YtbohpffigmllkaaGreatDoor
open Go.RowKit

/-- a cell of the struct is another one -/
theorem row_set {b len d j : Nat} {f : Nat → UInt8} {w : World} (v : Value) (h : RowAt b len f w) (hne : d ≠ b) : RowAt b len f (w.setCell ⟨d, j, none⟩ v) :=
  h.kept (S := fun k => k = d) ((Grew.refl w).setCell ⟨d, j, none⟩ v fun _ => rfl) (fun e => hne e.symm)
theorem set_same {w : World} {d j : Nat} {v v' : Value} (h : w.cell? ⟨d, j, none⟩ = some v) : (w.setCell ⟨d, j, none⟩ v').cell? ⟨d, j, none⟩ = some v' := World.cell?_setCell_same _ _ _ h
theorem set_off {w : World} {d j k : Nat} {v' : Value} (hne : j ≠ k) : (w.setCell ⟨d, j, none⟩ v').cell? ⟨d, k, none⟩ = w.cell? ⟨d, k, none⟩ := by
  exact World.cell?_setCell_other _ _ _ _ (fun e => hne (by cases e; rfl))
theorem set_free {w : World} {d j k : Nat} {v' : Value} : (w.setCell ⟨d, j, none⟩ v').frozen? ⟨d, k, none⟩ = w.frozen? ⟨d, k, none⟩ := by
  simp
theorem DiskAt.armed2 {m : DiskM} {w : World} (h : DiskAt m w) (a : Bool) : DiskAt { m with armed := a } (w.setCell ⟨m.d, 2, none⟩ (.bool a)) :=
  ⟨by simpa [World.setCell] using h.lt, h.n1, h.n2, h.n3, h.size, by rw [set_off (by decide)]; exact h.c0, by rw [set_off (by decide)]; exact h.c1, set_same h.c2, by rw [set_off (by decide)]; exact h.c3, by rw [set_off (by decide)]; exact h.c4, fun j => by rw [set_free]; exact h.free j, row_set _ h.sure h.n1, row_set _ h.there h.n2⟩
theorem DiskAt.left3 {m : DiskM} {w : World} (h : DiskAt m w) (a : Int) : DiskAt { m with left := a } (w.setCell ⟨m.d, 3, none⟩ (.int .i64 a)) :=
  ⟨by simpa [World.setCell] using h.lt, h.n1, h.n2, h.n3, h.size, by rw [set_off (by decide)]; exact h.c0, by rw [set_off (by decide)]; exact h.c1, by rw [set_off (by decide)]; exact h.c2, set_same h.c3, by rw [set_off (by decide)]; exact h.c4, fun j => by rw [set_free]; exact h.free j, row_set _ h.sure h.n1, row_set _ h.there h.n2⟩
theorem DiskAt.dead4 {m : DiskM} {w : World} (h : DiskAt m w) (a : Bool) : DiskAt { m with dead := a } (w.setCell ⟨m.d, 4, none⟩ (.bool a)) :=
  ⟨by simpa [World.setCell] using h.lt, h.n1, h.n2, h.n3, h.size, by rw [set_off (by decide)]; exact h.c0, by rw [set_off (by decide)]; exact h.c1, by rw [set_off (by decide)]; exact h.c2, by rw [set_off (by decide)]; exact h.c3, set_same h.c4, fun j => by rw [set_free]; exact h.free j, row_set _ h.sure h.n1, row_set _ h.there h.n2⟩
theorem spend_free (m : DiskM) (w : World) (h : DiskAt m w) (ha : m.armed = false) :
    Calls Tryz.prog 172 #[.pointer (some ⟨m.d, 0, none⟩)] w fun e w' => e = .returned (.tuple #[]) ∧ w = w' := by
  have c2 := h.c2
  rw [ha] at c2
  clear h ha
  go_enter Tryz.func172, Tryz.ntmps172
  go_wp2_with fail
  refine bodyPost_ret (results_none rfl _ _ _) rfl ?_
  exact ⟨rfl, rfl⟩
theorem spend_one (m : DiskM) (w : World) (h : DiskAt m w) (ha : m.armed = true) (h0 : 0 < m.left) (h1 : m.left ≤ 2 ^ 62) :
    Calls Tryz.prog 172 #[.pointer (some ⟨m.d, 0, none⟩)] w fun e w' => e = .returned (.tuple #[]) ∧ w.setCell ⟨m.d, 3, none⟩ (.int .i64 (m.left - 1)) = w' := by
  have c2 := h.c2
  have c3 := h.c3
  have f3 := h.free 3
  have hl : ¬ m.left = 0 := by omega
  rw [ha] at c2
  have hw : wrap64 (m.left - 1) = m.left - 1 := by
    unfold wrap64
    omega
  clear h ha h0
  go_enter Tryz.func172, Tryz.ntmps172
  go_wp2_with fail
  go_end0
  exact ⟨rfl, rfl⟩
theorem spend_cut (m : DiskM) (w : World) (h : DiskAt m w) (ha : m.armed = true) (h0 : m.left = 0) :
    Calls Tryz.prog 172 #[.pointer (some ⟨m.d, 0, none⟩)] w fun e w' => e = failed 12 ∧ w.setCell ⟨m.d, 4, none⟩ (.bool true) = w' := by
  have c2 := h.c2
  have c3 := h.c3
  have c4 := h.c4
  have f4 := h.free 4
  rw [ha] at c2
  rw [h0] at c3
  clear h ha h0
  go_enter Tryz.func172, Tryz.ntmps172
  go_wp2_with fail
  refine (fail_any 12 _).mono ?_
  rintro e w' ⟨rfl, rfl⟩
  exact ⟨rfl, rfl, rfl⟩
end Go.Proofs.YtbohpffigmllkaaGreatDoor

/-
  A sector is read.
-/
namespace Go.Proofs.YtbohpffigmllkaaGreatDoor
open Go.RowKit

/-- the bytes of a sector -/
def sec (f : Nat → UInt8) (k : Nat) : List UInt8 := (List.range 64).map fun j => f (k * 64 + j)
@[simp] theorem sec_length (f : Nat → UInt8) (k : Nat) : (sec f k).length = 64 := by simp [sec]
theorem sec_get (f : Nat → UInt8) (k j : Nat) (h : j < (sec f k).length) : (sec f k)[j] = f (k * 64 + j) := by simp [sec]
theorem sec_text (b n k : Nat) (f : Nat → UInt8) (w : World) (h : RowAt b (64 * n) f w) (hk : k < n) :
    (convert 81 9 (.slice (some ⟨b, k * 64, none⟩) 64 64)).run Tryz.prog w = .ok (.string ⟨(sec f k).toArray⟩) w := by
  have z := run_convert_bytes_back (P := Tryz.prog) w 81 9 5 ⟨b, k * 64, none⟩ 64 (sec f k) Tryz.underlying81 Tryz.underlying5 Tryz.underlying9 fun j hj => by
    have hj' : j < 64 := by simpa using hj
    rw [sec_get]
    have e := h.cell (k * 64 + j) (by omega)
    rw [Addr.add_mid]
    exact e
  simpa using z
theorem read_cut (m : DiskM) (at' : Int) (w : World) (h : DiskAt m w) (hd : m.dead = true) :
    Calls Tryz.prog 134 #[.pointer (some ⟨m.d, 0, none⟩), .int .i64 at'] w fun e w' => e = failed 12 ∧ w = w' := by
  have H := Lib.hid (power_cut m w h hd)
  clear h hd
  go_enter Tryz.func134, Tryz.ntmps134
  go_wp2_with fail
  refine H.out.mono ?_
  rintro e w' ⟨rfl, rfl⟩
  exact ⟨rfl, rfl, rfl⟩
theorem read_not (m : DiskM) (at' : Int) (w : World) (h : DiskAt m w) (hd : m.dead = false) (hn : at' < 0 ∨ m.n ≤ at') :
    Calls Tryz.prog 134 #[.pointer (some ⟨m.d, 0, none⟩), .int .i64 at'] w fun e w' => e = failed 6 ∧ w = w' := by
  have H := Lib.hid (power_ok m w h hd)
  have H' := Lib.hid (sector_not m at' w h hn)
  clear h hd hn
  go_enter Tryz.func134, Tryz.ntmps134
  go_wp2_with fail
  refine H.out.mono ?_
  rintro e w' ⟨rfl, rfl⟩
  go_wp2_with fail
  refine H'.out.mono ?_
  rintro e w' ⟨rfl, rfl⟩
  exact ⟨rfl, rfl, rfl⟩
set_option maxRecDepth 100000 in
theorem read_ok (m : DiskM) (k : Nat) (w : World) (h : DiskAt m w) (hd : m.dead = false) (hk : k < m.n) :
    Calls Tryz.prog 134 #[.pointer (some ⟨m.d, 0, none⟩), .int .i64 (k : Int)] w fun e w' => e = .returned (.string ⟨(sec m.T k).toArray⟩) ∧ w = w' := by
  have H := Lib.hid (power_ok m w h hd)
  have H' := Lib.hid (sector_ok m k w h (by omega) (by omega))
  have c1 := h.c1
  have cv := sec_text m.bt m.n k m.T w h.there hk
  have hb : (0 : Int) ≤ k ∧ (k : Int) < m.n := by omega
  clear h hd hk
  go_enter Tryz.func134, Tryz.ntmps134
  go_wp2_with fail
  refine H.out.mono ?_
  rintro e w' ⟨rfl, rfl⟩
  go_wp2_with fail
  refine H'.out.mono ?_
  rintro e w' ⟨rfl, rfl⟩
  go_wp2_with fail
  go_ret
  exact ⟨rfl, rfl⟩
end Go.Proofs.YtbohpffigmllkaaGreatDoor

/-
  A row of sectors goes over into another one.
-/
namespace Go.Proofs.YtbohpffigmllkaaGreatDoor
open Go.RowKit

/-- 'copy' of elements of z cells: all is read before anything is written -/
theorem run_copy_wide {P : Program} (w : World) (dT sT ty elem : TypeId) (b o dLen dCap : Nat) (a : Addr) (sLen sCap z n : Nat) (cs : List Value)
    (hu : P.underlying dT = some (.slice elem)) (hz : ∀ w, (Go.sizeOf elem).run P w = .ok z w) (hn : Nat.min sLen dLen = n) (hl : cs.length = n * z)
    (hsrc : ∀ j v, cs[j]? = some v → w.cell? (a.add j) = some v) (hc : ∀ j, j < cs.length → (w.cell? ⟨b, o + j, none⟩).isSome = true) (hf : ∀ j, j < cs.length → w.frozen? ⟨b, o + j, none⟩ = false) (h1 : ∀ v ∈ cs, v.oneCell' = true) :
    (Builtin.copy_ #[dT, sT] ty #[.slice (some ⟨b, o, none⟩) dLen dCap, .slice (some a) sLen sCap]).run P w = .ok (goInt n) (w.setCells b o cs) := by
  have hld := run_loadCells_list (P := P) w a cs hsrc
  have hst := run_storeCells_cells (P := P) b o cs 0 w (by simpa using hc) (by simpa using hf) h1
  simp [Builtin.copy_, run_underlying hu, Builtin.lenOf, Builtin.firstCells, hz, hn, ← hl, hld, hst]
/-- the cells of a row -/
def rowOf (f : Nat → UInt8) (o len : Nat) : List Value := (List.range len).map fun j => .int .u8 ((f (o + j)).toNat : Int)
@[simp] theorem rowOf_length (f : Nat → UInt8) (o len : Nat) : (rowOf f o len).length = len := by simp [rowOf]
theorem rowOf_get (f : Nat → UInt8) (o len j : Nat) (h : j < len) : (rowOf f o len)[j]? = some (.int .u8 ((f (o + j)).toNat : Int)) := by simp [rowOf, h]
theorem rowOf_one (f : Nat → UInt8) (o len : Nat) : ∀ v ∈ rowOf f o len, v.oneCell' = true := by
  intro v hv
  obtain ⟨x, _, rfl⟩ := List.mem_map.1 hv
  rfl
theorem setCells_grew {S : Nat → Prop} {b : Nat} : ∀ (vs : List Value) (o : Nat) (a w : World), Grew S a w → (b < a.heap.size → S b) → Grew S a (w.setCells b o vs)
  | [], _, _, _, h, _ => h
  | v :: r, o, a, w, h, hb => setCells_grew r (o + 1) a (w.setCell ⟨b, o, none⟩ v) (h.setCell ⟨b, o, none⟩ v hb) hb
/-- a part of a row is written over -/
theorem RowAt.over {b len : Nat} {f : Nat → UInt8} {w : World} (h : RowAt b len f w) (g : Nat → UInt8) (o n : Nat) (ho : o + n ≤ len) :
    RowAt b len (fun j => if o ≤ j ∧ j < o + n then g j else f j) (w.setCells b o (rowOf g o n)) := by
  have hin : ∀ j, j < (rowOf g o n).length → (w.cell? ⟨b, o + j, none⟩).isSome = true := fun j hj => by
    rw [h.cell (o + j) (by simp at hj; omega)]
    rfl
  refine ⟨Nat.lt_of_lt_of_le h.lt (setCells_grew (S := fun _ => True) _ _ w w (Grew.refl w) fun _ => trivial).size, fun j hj => ?_, fun j hj => by rw [World.frozen?_setCells]; exact h.free j hj⟩
  by_cases hj' : o ≤ j ∧ j < o + n
  · obtain ⟨i, rfl⟩ : ∃ i, j = o + i := ⟨j - o, by omega⟩
    have hi : i < (rowOf g o n).length := by simp; omega
    rw [World.cell?_setCells_in b _ o w hin i hi, if_pos hj']
    have e := rowOf_get g o n i (by omega)
    rw [List.getElem?_eq_getElem hi] at e
    exact e
  · rw [World.cell?_setCells_out b _ o w _ (fun _ _ => by simp; omega), if_neg hj']
    exact h.cell j hj
theorem copy_all (m : DiskM) (w : World) (h : DiskAt m w) :
    (Builtin.copy_ #[75, 75] 3 #[.slice (some ⟨m.bs, 0, none⟩) m.n m.cs, .slice (some ⟨m.bt, 0, none⟩) m.n m.ct]).run Tryz.prog w = .ok (.int .i64 m.n) (w.setCells m.bs 0 (rowOf m.T 0 (64 * m.n))) := by
  refine run_copy_wide w _ _ _ 107 m.bs 0 m.n m.cs ⟨m.bt, 0, none⟩ m.n m.ct 64 m.n _ Tryz.underlying75 (fun w => by kernel_rfl) (Nat.min_self _) (by simp; omega) ?_ ?_ ?_ (rowOf_one _ _ _)
  · intro j v hv
    have hj : j < 64 * m.n := by
      rcases Nat.lt_or_ge j (64 * m.n) with hj | hj
      · exact hj
      · rw [List.getElem?_eq_none (by simpa using hj)] at hv
        simp at hv
    rw [rowOf_get _ _ _ _ hj] at hv
    rw [Addr.add_mid, ← hv, h.there.cell (0 + j) (by omega)]
  · intro j hj
    rw [h.sure.cell (0 + j) (by simp at hj; omega)]
    rfl
  · intro j hj
    exact h.sure.free (0 + j) (by simp at hj; omega)
/-- what is there is sure -/
theorem DiskAt.synced {m : DiskM} {w : World} (h : DiskAt m w) : DiskAt { m with S := m.T } (w.setCells m.bs 0 (rowOf m.T 0 (64 * m.n))) := by
  have g : Grew (fun k => k = m.bs) w (w.setCells m.bs 0 (rowOf m.T 0 (64 * m.n))) := setCells_grew _ _ w w (Grew.refl w) fun _ => rfl
  have c : ∀ j v, w.cell? ⟨m.d, j, none⟩ = some v → (w.setCells m.bs 0 (rowOf m.T 0 (64 * m.n))).cell? ⟨m.d, j, none⟩ = some v := fun j v hc => by rw [g.cell (p := ⟨m.d, j, none⟩) h.lt h.n1]; exact hc
  have hs := h.sure.over m.T 0 (64 * m.n) (by omega)
  refine ⟨Nat.lt_of_lt_of_le h.lt g.size, h.n1, h.n2, h.n3, h.size, c _ _ h.c0, c _ _ h.c1, c _ _ h.c2, c _ _ h.c3, c _ _ h.c4, fun j => by rw [World.frozen?_setCells]; exact h.free j, ⟨hs.lt, fun j hj => ?_, hs.free⟩, h.there.kept g fun e => h.n3 e.symm⟩
  have e := hs.cell j hj
  rw [if_pos (by have hj' : j < 64 * m.n := hj; omega)] at e
  exact e
end Go.Proofs.YtbohpffigmllkaaGreatDoor

/-
  Sync.
-/
namespace Go.Proofs.YtbohpffigmllkaaGreatDoor
open Go.RowKit

/-- a call that works is used up -/
def DiskM.spent (m : DiskM) : DiskM := if m.armed then { m with left := m.left - 1 } else m
@[simp] theorem DiskM.spent_d (m : DiskM) : m.spent.d = m.d := by unfold DiskM.spent; split <;> rfl
@[simp] theorem DiskM.spent_bs (m : DiskM) : m.spent.bs = m.bs := by unfold DiskM.spent; split <;> rfl
@[simp] theorem DiskM.spent_bt (m : DiskM) : m.spent.bt = m.bt := by unfold DiskM.spent; split <;> rfl
@[simp] theorem DiskM.spent_n (m : DiskM) : m.spent.n = m.n := by unfold DiskM.spent; split <;> rfl
@[simp] theorem DiskM.spent_cs (m : DiskM) : m.spent.cs = m.cs := by unfold DiskM.spent; split <;> rfl
@[simp] theorem DiskM.spent_ct (m : DiskM) : m.spent.ct = m.ct := by unfold DiskM.spent; split <;> rfl
@[simp] theorem DiskM.spent_S (m : DiskM) : m.spent.S = m.S := by unfold DiskM.spent; split <;> rfl
@[simp] theorem DiskM.spent_T (m : DiskM) : m.spent.T = m.T := by unfold DiskM.spent; split <;> rfl
@[simp] theorem DiskM.spent_armed (m : DiskM) : m.spent.armed = m.armed := by unfold DiskM.spent; split <;> rfl
@[simp] theorem DiskM.spent_dead (m : DiskM) : m.spent.dead = m.dead := by unfold DiskM.spent; split <;> rfl
/-- how many calls work yet is a number that an int holds -/
def DiskM.fits (m : DiskM) : Prop := 0 ≤ m.left ∧ m.left ≤ 2 ^ 62
theorem spend_ok (m : DiskM) (w : World) (h : DiskAt m w) (hl : m.left ≤ 2 ^ 62) (hp : m.armed = true → 0 < m.left) :
    Calls Tryz.prog 172 #[.pointer (some ⟨m.d, 0, none⟩)] w fun e w' => e = .returned (.tuple #[]) ∧ DiskAt m.spent w' ∧ Grew m.own w w' := by
  cases ha : m.armed with
  | false =>
    refine (spend_free m w h ha).mono ?_
    rintro e w' ⟨rfl, rfl⟩
    refine ⟨rfl, ?_, Grew.refl _⟩
    unfold DiskM.spent
    simpa [ha] using h
  | true =>
    refine (spend_one m w h ha (hp ha) hl).mono ?_
    rintro e w' ⟨rfl, rfl⟩
    refine ⟨rfl, ?_, (Grew.refl _).setCell _ _ fun _ => Or.inl rfl⟩
    unfold DiskM.spent
    simpa [ha] using h.left3 (m.left - 1)
theorem spend_dies (m : DiskM) (w : World) (h : DiskAt m w) (ha : m.armed = true) (h0 : m.left = 0) :
    Calls Tryz.prog 172 #[.pointer (some ⟨m.d, 0, none⟩)] w fun e w' => e = failed 12 ∧ DiskAt { m with dead := true } w' ∧ Grew m.own w w' := by
  refine (spend_cut m w h ha h0).mono ?_
  rintro e w' ⟨rfl, rfl⟩
  exact ⟨rfl, h.dead4 true, (Grew.refl _).setCell _ _ fun _ => Or.inl rfl⟩
theorem DiskAt.drew {m : DiskM} {w : World} (h : DiskAt m w) : DiskAt m w.drew := h.kept (S := fun _ => False) (Grew.refl w).drew (fun e => e) (fun e => e) (fun e => e)
end Go.Proofs.YtbohpffigmllkaaGreatDoor

/-
  A new sector, and a text in it.
-/
namespace Go.Proofs.YtbohpffigmllkaaGreatDoor
open Go.RowKit

/-- the cells of a new sector -/
def lit64 : Array Value := #[.int .u8 0, .int .u8 0, .int .u8 0, .int .u8 0, .int .u8 0, .int .u8 0, .int .u8 0, .int .u8 0, .int .u8 0, .int .u8 0, .int .u8 0, .int .u8 0, .int .u8 0, .int .u8 0, .int .u8 0, .int .u8 0, .int .u8 0, .int .u8 0, .int .u8 0, .int .u8 0, .int .u8 0, .int .u8 0, .int .u8 0, .int .u8 0, .int .u8 0, .int .u8 0, .int .u8 0, .int .u8 0, .int .u8 0, .int .u8 0, .int .u8 0, .int .u8 0, .int .u8 0, .int .u8 0, .int .u8 0, .int .u8 0, .int .u8 0, .int .u8 0, .int .u8 0, .int .u8 0, .int .u8 0, .int .u8 0, .int .u8 0, .int .u8 0, .int .u8 0, .int .u8 0, .int .u8 0, .int .u8 0, .int .u8 0, .int .u8 0, .int .u8 0, .int .u8 0, .int .u8 0, .int .u8 0, .int .u8 0, .int .u8 0, .int .u8 0, .int .u8 0, .int .u8 0, .int .u8 0, .int .u8 0, .int .u8 0, .int .u8 0, .int .u8 0]
theorem lit64_at (j : Nat) (h : j < 64) : lit64[j]? = some (.int .u8 0) := by
  have e : lit64 = Array.replicate 64 (.int .u8 0) := by kernel_rfl
  rw [e, Array.getElem?_replicate, if_pos h]
theorem row_new (w : World) (t : TypeId) : RowAt w.heap.size 64 (fun _ => 0) (w.alloc (.cells lit64 t)) := by
  refine ⟨by simp, fun j hj => ?_, fun j hj => by simp⟩
  have e := lit64_at j hj
  rw [World.cell?_alloc_new, e]
  rfl
/-- the bytes of a text, and noughts behind -/
def txtf (s : ByteArray) (j : Nat) : UInt8 := s.data.toList.getD j 0
theorem txt_row (s : ByteArray) : (s.data.toList.map fun x => Value.int .u8 (x.toNat : Int)) = rowOf (txtf s) 0 s.size := by
  have hl : s.data.toList.length = s.size := by simp
  refine List.ext_getElem (by simp) fun j h1 h2 => ?_
  have hj : j < s.data.toList.length := by simpa using h1
  have e := rowOf_get (txtf s) 0 s.size j (by omega)
  rw [List.getElem?_eq_getElem h2] at e
  injection e with e
  rw [e, List.getElem_map, Nat.zero_add]
  unfold txtf
  rw [List.getD_eq_getElem?_getD, List.getElem?_eq_getElem hj, Option.getD_some]
theorem copy_text (b : Nat) (s : ByteArray) (w : World) (h : RowAt b 64 (fun _ => 0) w) (hs : s.size ≤ 64) :
    (Builtin.copy_ #[81, 9] 3 #[.slice (some ⟨b, 0, none⟩) 64 64, .string s]).run Tryz.prog w = .ok (.int .i64 s.size) (w.setCells b 0 (rowOf (txtf s) 0 s.size)) := by
  rw [← txt_row]
  refine run_copy_string w _ _ _ 5 b 0 64 64 s Tryz.underlying81 (fun w => by kernel_rfl) hs (fun j hj => ?_) (fun j hj => h.free (0 + j) (by omega))
  rw [h.cell (0 + j) (by omega)]
  rfl
theorem row_filled (b : Nat) (s : ByteArray) (w : World) (h : RowAt b 64 (fun _ => 0) w) (hs : s.size ≤ 64) : RowAt b 64 (txtf s) (w.setCells b 0 (rowOf (txtf s) 0 s.size)) := by
  have z := h.over (txtf s) 0 s.size (by omega)
  refine ⟨z.lt, fun j hj => ?_, z.free⟩
  have e := z.cell j hj
  by_cases hj' : j < s.size
  · rw [if_pos (by omega)] at e
    exact e
  · rw [if_neg (by omega)] at e
    have hl : s.data.toList.length = s.size := by simp
    have e2 : txtf s j = 0 := by
      unfold txtf
      rw [List.getD_eq_getElem?_getD, List.getElem?_eq_none (by omega), Option.getD_none]
    rw [e2]
    exact e
/-- a sector of what is there is another one -/
def DiskM.wrote (m : DiskM) (k : Nat) (g : Nat → UInt8) : DiskM := { m with T := fun j => if k * 64 ≤ j ∧ j < k * 64 + 64 then g (j - k * 64) else m.T j }
theorem rowOf_shift (g : Nat → UInt8) (o n : Nat) : rowOf (fun j => g (j - o)) o n = rowOf g 0 n := by
  unfold rowOf
  simp
theorem DiskAt.wrote {m : DiskM} {w : World} (h : DiskAt m w) (k : Nat) (hk : k < m.n) (g : Nat → UInt8) : DiskAt (m.wrote k g) (w.setCells m.bt (k * 64) (rowOf g 0 64)) := by
  have gr : Grew (fun k => k = m.bt) w (w.setCells m.bt (k * 64) (rowOf g 0 64)) := setCells_grew _ _ w w (Grew.refl w) fun _ => rfl
  have c : ∀ j v, w.cell? ⟨m.d, j, none⟩ = some v → (w.setCells m.bt (k * 64) (rowOf g 0 64)).cell? ⟨m.d, j, none⟩ = some v := fun j v hc => by rw [gr.cell (p := ⟨m.d, j, none⟩) h.lt h.n2]; exact hc
  have hs := h.there.over (fun j => g (j - k * 64)) (k * 64) 64 (by omega)
  rw [rowOf_shift] at hs
  exact ⟨Nat.lt_of_lt_of_le h.lt gr.size, h.n1, h.n2, h.n3, h.size, c _ _ h.c0, c _ _ h.c1, c _ _ h.c2, c _ _ h.c3, c _ _ h.c4, fun j => by rw [World.frozen?_setCells]; exact h.free j, h.sure.kept gr h.n3, hs⟩
end Go.Proofs.YtbohpffigmllkaaGreatDoor

/-
  A sector is written.
-/
namespace Go.Proofs.YtbohpffigmllkaaGreatDoor
open Go.RowKit

theorem write_cut (m : DiskM) (at' : Int) (s : ByteArray) (w : World) (h : DiskAt m w) (hd : m.dead = true) :
    Calls Tryz.prog 154 #[.pointer (some ⟨m.d, 0, none⟩), .int .i64 at', .string s] w fun e w' => e = failed 12 ∧ w = w' := by
  have H := Lib.hid (power_cut m w h hd)
  clear h hd
  go_enter Tryz.func154, Tryz.ntmps154
  go_wp2_with fail
  refine H.out.mono ?_
  rintro e w' ⟨rfl, rfl⟩
  exact ⟨rfl, rfl, rfl⟩
theorem write_not (m : DiskM) (at' : Int) (s : ByteArray) (w : World) (h : DiskAt m w) (hd : m.dead = false) (hn : at' < 0 ∨ m.n ≤ at') :
    Calls Tryz.prog 154 #[.pointer (some ⟨m.d, 0, none⟩), .int .i64 at', .string s] w fun e w' => e = failed 6 ∧ w = w' := by
  have H := Lib.hid (power_ok m w h hd)
  have H' := Lib.hid (sector_not m at' w h hn)
  clear h hd hn
  go_enter Tryz.func154, Tryz.ntmps154
  go_wp2_with fail
  refine H.out.mono ?_
  rintro e w' ⟨rfl, rfl⟩
  go_wp2_with fail
  refine H'.out.mono ?_
  rintro e w' ⟨rfl, rfl⟩
  exact ⟨rfl, rfl, rfl⟩
theorem write_big (m : DiskM) (k : Nat) (s : ByteArray) (w : World) (h : DiskAt m w) (hd : m.dead = false) (hk : k < m.n) (hs : 64 < s.size) :
    Calls Tryz.prog 154 #[.pointer (some ⟨m.d, 0, none⟩), .int .i64 k, .string s] w fun e w' => e = failed 3 ∧ w = w' := by
  have H := Lib.hid (power_ok m w h hd)
  have H' := Lib.hid (sector_ok m k w h (by omega) (by omega))
  have h3 : (64 : Int) < s.size := by omega
  clear h hd hk hs
  go_enter Tryz.func154, Tryz.ntmps154
  go_wp2_with fail
  refine H.out.mono ?_
  rintro e w' ⟨rfl, rfl⟩
  go_wp2_with fail
  refine H'.out.mono ?_
  rintro e w' ⟨rfl, rfl⟩
  go_wp2_with fail
  refine (fail_any _ _).mono ?_
  rintro e w' ⟨rfl, rfl⟩
  exact ⟨rfl, rfl, rfl⟩
theorem write_dies (m : DiskM) (k : Nat) (s : ByteArray) (w : World) (h : DiskAt m w) (hd : m.dead = false) (hk : k < m.n) (hs : s.size ≤ 64) (ha : m.armed = true) (h0 : m.left = 0) :
    Calls Tryz.prog 154 #[.pointer (some ⟨m.d, 0, none⟩), .int .i64 k, .string s] w fun e w' => e = failed 12 ∧ DiskAt { m with dead := true } w' ∧ Grew m.own w w' := by
  have H := Lib.hid (power_ok m w h hd)
  have H' := Lib.hid (sector_ok m k w h (by omega) (by omega))
  have H'' := Lib.hid (spend_dies m w h ha h0)
  have h3 : ¬ (64 : Int) < s.size := by omega
  clear h hd hk hs ha h0
  go_enter Tryz.func154, Tryz.ntmps154
  go_wp2_with fail
  refine H.out.mono ?_
  rintro e w' ⟨rfl, rfl⟩
  go_wp2_with fail
  refine H'.out.mono ?_
  rintro e w' ⟨rfl, rfl⟩
  go_wp2_with fail
  refine H''.out.mono ?_
  rintro e w' ⟨rfl, hr⟩
  exact ⟨rfl, rfl, hr⟩
theorem RowAt.range {b len : Nat} {f : Nat → UInt8} {w : World} (h : RowAt b len f w) : w.rangeAt b 0 (rowOf f 0 len) := fun j v hv => by
  have hj : j < len := by
    rcases Nat.lt_or_ge j len with hj | hj
    · exact hj
    · rw [List.getElem?_eq_none (by simpa using hj)] at hv
      simp at hv
  rw [rowOf_get _ _ _ _ hj] at hv
  rw [← hv, h.cell (0 + j) (by omega)]
theorem RowAt.part {b len : Nat} {f : Nat → UInt8} {w : World} (h : RowAt b len f w) (o n : Nat) (hn : o + n ≤ len) : w.there b o n := fun j hj =>
  ⟨by rw [h.cell (o + j) (by omega)]; rfl, h.free (o + j) (by omega)⟩
set_option maxRecDepth 100000 in
theorem write_ok (m : DiskM) (k : Nat) (s : ByteArray) (w : World) (h : DiskAt m w) (hd : m.dead = false) (hk : k < m.n) (hs : s.size ≤ 64) (hl : m.left ≤ 2 ^ 62) (hp : m.armed = true → 0 < m.left) :
    Calls Tryz.prog 154 #[.pointer (some ⟨m.d, 0, none⟩), .int .i64 k, .string s] w fun e w' => e = .returned (.tuple #[]) ∧ DiskAt (m.spent.wrote k (txtf s)) w' ∧ Grew m.own w w' := by
  have H := Lib.hid (power_ok m w h hd)
  have H' := Lib.hid (sector_ok m k w h (by omega) (by omega))
  have H'' := Lib.hid (spend_ok m w h hl hp)
  have h3 : ¬ (64 : Int) < s.size := by omega
  have HK := Lib.hid hk
  have hb : (0 : Int) ≤ k ∧ (k : Int) < m.n := by omega
  clear h hd hl hp hk
  go_enter Tryz.func154, Tryz.ntmps154
  go_wp2_with fail
  refine H.out.mono ?_
  rintro e w' ⟨rfl, rfl⟩
  go_wp2_with fail
  refine H'.out.mono ?_
  rintro e w' ⟨rfl, rfl⟩
  go_wp2_with fail
  refine H''.out.mono ?_
  rintro e w1 ⟨rfl, h1, hg⟩
  clear H H' H''
  go_upto_region 6 with fail
  have hx := row_new w1 107
  have hg2 : Grew (fun _ => False) w1 (w1.alloc (.cells lit64 107)) := (Grew.refl w1).alloc _
  unfold lit64 at hx hg2
  generalize w1.alloc _ = wa at hx hg2 ⊢
  have hcp := copy_text w1.heap.size s wa hx hs
  have hf := row_filled w1.heap.size s wa hx hs
  have hg3 : Grew (fun k => k = w1.heap.size) w1 (wa.setCells w1.heap.size 0 (rowOf (txtf s) 0 s.size)) := setCells_grew _ _ _ _ (hg2.mono fun _ _ e => e.elim) fun _ => rfl
  have H1 := Lib.hid h1
  have HG := Lib.hid hg
  have HF := Lib.hid hf
  have HG3 := Lib.hid hg3
  clear h1 hg hf hg3 hx hg2 hs
  go_upto_region 7 with fail
  clear hcp
  generalize wa.setCells w1.heap.size 0 (rowOf (txtf s) 0 s.size) = wb at HF HG3 ⊢
  have h2 : DiskAt m.spent wb := H1.out.kept HG3.out (Nat.ne_of_lt H1.out.lt) (Nat.ne_of_lt H1.out.sure.lt) (Nat.ne_of_lt H1.out.there.lt)
  have hL := rowOf_length (txtf s) 0 64
  have hO := rowOf_one (txtf s) 0 64
  have hr := HF.out.range
  have hq := h2.drew.wrote k (by simpa using HK.out) (txtf s)
  have hgq : Grew m.own w (wb.drew.setCells m.bt (k * 64) (rowOf (txtf s) 0 64)) := setCells_grew _ _ _ _ ((HG.out.step HG3.out fun x hx e => by have := HG.out.size; omega).drew) fun _ => Or.inr (Or.inr rfl)
  generalize rowOf (txtf s) 0 64 = L at hL hO hr hq hgq
  have hI2 : (Tryz.prog.info? 107).map (·.size) = some L.length := by rw [hL]; kernel_rfl
  have hI3 : (Tryz.prog.info? 107).map (·.size) = some L.toArray.size := by rw [List.size_toArray, hL]; kernel_rfl
  have hU := Tryz.underlying107
  have n2 : m.d ≠ m.bt := by simpa using H1.out.n2
  have nx : w1.heap.size ≠ m.bt := by have := H1.out.there.lt; simp at this; omega
  have c1 := h2.c1
  have ht := h2.there.part (k * 64) L.toArray.size (by rw [List.size_toArray, hL]; have := HK.out; simp; omega)
  simp only [DiskM.spent_d, DiskM.spent_bt, DiskM.spent_n, DiskM.spent_ct] at c1 ht
  have HS0 : Hid (wb.drew.cell? ⟨m.d, 1, none⟩ = some (.slice (some ⟨m.bt, 0, none⟩) m.n m.ct) ∧ wb.drew.rangeAt w1.heap.size 0 L ∧ wb.drew.there m.bt (k * 64) L.toArray.size) := Lib.hid ⟨by simpa using c1, by simpa using hr, by simpa using ht⟩
  have HS1 : Hid ((wb.drew.setCells m.bt (k * 64) L).cell? ⟨m.d, 1, none⟩ = some (.slice (some ⟨m.bt, 0, none⟩) m.n m.ct) ∧ (wb.drew.setCells m.bt (k * 64) L).rangeAt w1.heap.size 0 L ∧ (wb.drew.setCells m.bt (k * 64) L).there m.bt (k * 64) L.toArray.size) :=
    Lib.hid ⟨by rw [World.cell?_setCells_out _ _ _ _ _ fun e => absurd e n2]; exact HS0.out.1, World.rangeAt_setCells_apart HS0.out.2.1 _ _ _ (Or.inl nx), World.there_setCells HS0.out.2.2 _ _ _⟩
  have HQ := Lib.hid hq
  have HGQ := Lib.hid hgq
  clear hq hgq h2 H1 HG HF HG3 hr c1 ht HK n2 nx hL
  go_region_held3 (fun wx => wx.cell? ⟨m.d, 1, none⟩ = some (.slice (some ⟨m.bt, 0, none⟩) m.n m.ct) ∧ wx.rangeAt w1.heap.size 0 L ∧ wx.there m.bt (k * 64) L.toArray.size)
    (first | exact HS0.out | exact HS1.out) (fail)
  go_end0
  exact ⟨rfl, by simpa using HQ.out, HGQ.out⟩
end Go.Proofs.YtbohpffigmllkaaGreatDoor
