/-
  Texts put together: DiskNew, DiskNewFn, DiskSpoil.
-/
import Derived.Test.YtbohpffigmllkaaGreatDoorDiskOne
import Derived.Laws.MakeOwn
import Derived.StillTailTactics
/-
  A new disk.
-/
namespace Go.Proofs.YtbohpffigmllkaaGreatDoor
open Go.RowKit

theorem make_any (k : Nat) (hk : k ≤ 4096) : ∃ Z : Array Value, (∀ j, j < 64 * k → Z[j]? = some (.int .u8 0)) ∧ ∀ w : World, (Instr.makeSlice 75 (.int .i64 (k : Int)) (.int .i64 (k : Int))).run Tryz.prog w = .ok (.slice (some ⟨w.heap.size, 0, none⟩) k k) (w.alloc (.cells Z 107)) := by
  have hm : (Tryz.prog.info? 107).map (fun i => (i.zero, i.size, i.bytes)) = some (some (.agg lit64), 64, 64) := by kernel_rfl
  obtain ⟨i, hi, hz, hs, hb⟩ : ∃ i, Tryz.prog.info? 107 = some i ∧ i.zero = some (.agg lit64) ∧ i.size = 64 ∧ i.bytes = 64 := by
    cases hq : Tryz.prog.info? 107 with
    | none => rw [hq] at hm; simp at hm
    | some i =>
      rw [hq, Option.map_some] at hm
      injection hm with hm
      injection hm with e1 hm
      injection hm with e2 e3
      exact ⟨i, rfl, e1, e2, e3⟩
  refine ⟨madeCells lit64 (k * 64), fun j hj => ?_, fun w => ?_⟩
  · have e : lit64.size = 64 := by kernel_rfl
    unfold madeCells
    rw [Array.getElem?_map, Array.getElem?_range, if_pos (by omega), Option.map_some, e]
    have z := lit64_at (j % 64) (by omega)
    rw [getElem!_def, z]
  · have z := run_make (P := Tryz.prog) w 75 107 i _ Tryz.underlying75 hi hz .i64 .i64 k k (by omega) (by omega) (by rw [hb]; omega) (by omega)
    rw [hs, Int.toNat_natCast] at z
    rw [z]
    rfl
theorem row_made (w : World) (Z : Array Value) (k : Nat) (hZ : ∀ j, j < 64 * k → Z[j]? = some (.int .u8 0)) (t : TypeId) : RowAt w.heap.size (64 * k) (fun _ => 0) (w.alloc (.cells Z t)) := by
  refine ⟨by simp, fun j hj => ?_, fun j hj => by simp⟩
  rw [World.cell?_alloc_new, hZ j hj]
  rfl
theorem new_free (w : World) (C : Array Value) (t : TypeId) (j : Nat) : (w.alloc (.cells C t)).frozen? ⟨w.heap.size, j, none⟩ = false := by simp
/-- how many sectors -/
def diskLen (n : Int) : Nat := (min (max n 0) 4096).toNat
theorem diskLen_le (n : Int) : diskLen n ≤ 4096 := by unfold diskLen; omega
/-- a new one -/
def newDisk (d bs bt n : Nat) : DiskM := ⟨d, bs, bt, n, n, n, fun _ => 0, fun _ => 0, false, 0, false⟩
theorem newDisk_at (w : World) (Z : Array Value) (k : Nat) (hk : k ≤ 4096) (hZ : ∀ j, j < 64 * k → Z[j]? = some (.int .u8 0)) (t u : TypeId) (bs bt : Nat) (hb : bs = w.heap.size ∧ bt = w.heap.size + 1 ∨ bt = w.heap.size ∧ bs = w.heap.size + 1) :
    DiskAt (newDisk (w.heap.size + 2) bs bt k) (((w.alloc (.cells Z t)).alloc (.cells Z t)).alloc (.cells #[.slice (some ⟨bs, 0, none⟩) k k, .slice (some ⟨bt, 0, none⟩) k k, .bool false, .int .i64 0, .bool false] u)) := by
  have r1 := row_made w Z k hZ t
  have r2 := row_made (w.alloc (.cells Z t)) Z k hZ t
  rw [World.size_alloc] at r2
  have r1' := (r1.kept (S := fun _ => False) (((Grew.refl _).alloc (.cells Z t)).alloc (.cells #[.slice (some ⟨bs, 0, none⟩) k k, .slice (some ⟨bt, 0, none⟩) k k, .bool false, .int .i64 0, .bool false] u)) fun e => e)
  have r2' := (r2.kept (S := fun _ => False) ((Grew.refl _).alloc (.cells #[.slice (some ⟨bs, 0, none⟩) k k, .slice (some ⟨bt, 0, none⟩) k k, .bool false, .int .i64 0, .bool false] u)) fun e => e)
  have hd : ((w.alloc (.cells Z t)).alloc (.cells Z t)).heap.size = w.heap.size + 2 := by simp
  have c : ∀ j, (((w.alloc (.cells Z t)).alloc (.cells Z t)).alloc (.cells #[.slice (some ⟨bs, 0, none⟩) k k, .slice (some ⟨bt, 0, none⟩) k k, .bool false, .int .i64 0, .bool false] u)).cell? ⟨w.heap.size + 2, j, none⟩ = (#[.slice (some ⟨bs, 0, none⟩) k k, .slice (some ⟨bt, 0, none⟩) k k, .bool false, .int .i64 0, .bool false] : Array Value)[j]? := fun j => by
    rw [← hd]
    exact World.cell?_alloc_new _ _ _ _
  have f : ∀ j, (((w.alloc (.cells Z t)).alloc (.cells Z t)).alloc (.cells #[.slice (some ⟨bs, 0, none⟩) k k, .slice (some ⟨bt, 0, none⟩) k k, .bool false, .int .i64 0, .bool false] u)).frozen? ⟨w.heap.size + 2, j, none⟩ = false := fun j => by
    rw [← hd]
    exact new_free _ _ _ _
  rcases hb with ⟨rfl, rfl⟩ | ⟨rfl, rfl⟩
  · exact ⟨by simp [newDisk], by simp [newDisk], by simp [newDisk], by simp [newDisk], hk, c 0, c 1, c 2, c 3, c 4, f, r1', r2'⟩
  · exact ⟨by simp [newDisk], by simp [newDisk], by simp [newDisk], by simp [newDisk], hk, c 0, c 1, c 2, c 3, c 4, f, r2', r1'⟩
end Go.Proofs.YtbohpffigmllkaaGreatDoor

/-
  New.
-/
namespace Go.Proofs.YtbohpffigmllkaaGreatDoor
open Go.RowKit

/-- what New answers -/
structure NewOf (n : Int) (w : World) (m : DiskM) (w' : World) : Prop where
  at' : DiskAt m w'
  fresh : ∀ k, m.own k → w.heap.size ≤ k
  grew : ∀ S, Grew S w w'
  is : ∃ d bs bt, m = newDisk d bs bt (diskLen n)
theorem newOf (n : Int) (w : World) (Z : Array Value) (hZ : ∀ j, j < 64 * diskLen n → Z[j]? = some (.int .u8 0)) (t u : TypeId) (bs bt : Nat) (hb : bs = w.heap.size ∧ bt = w.heap.size + 1 ∨ bt = w.heap.size ∧ bs = w.heap.size + 1) :
    NewOf n w (newDisk (w.heap.size + 2) bs bt (diskLen n)) (((w.alloc (.cells Z t)).alloc (.cells Z t)).alloc (.cells #[.slice (some ⟨bs, 0, none⟩) (diskLen n) (diskLen n), .slice (some ⟨bt, 0, none⟩) (diskLen n) (diskLen n), .bool false, .int .i64 0, .bool false] u)) := by
  refine ⟨newDisk_at w Z _ (diskLen_le n) hZ t u bs bt hb, fun k hk => ?_, fun S => (((Grew.refl _).alloc _).alloc _).alloc _, _, _, _, rfl⟩
  simp only [DiskM.own, newDisk] at hk
  omega
theorem NewOf.drew {n : Int} {w w' : World} {m : DiskM} (h : NewOf n w m w') : NewOf n w m w'.drew := ⟨h.at'.drew, h.fresh, fun S => (h.grew S).drew, h.is⟩
set_option maxRecDepth 100000 in
theorem new_any (n : Int) (w : World) :
    Calls Tryz.prog 9 #[.int .i64 n] w fun e w' => ∃ m, e = .returned (.pointer (some ⟨m.d, 0, none⟩)) ∧ NewOf n w m w' := by
  obtain ⟨Z, hZ, hmk⟩ := make_any (diskLen n) (diskLen_le n)
  have HN := Lib.hid (fun w bs bt hb => newOf n w Z hZ 107 77 bs bt hb)
  obtain ⟨k, hk⟩ : ∃ k, diskLen n = k := ⟨_, rfl⟩
  rw [hk] at HN hmk
  have hv : (k : Int) = min (max n 0) 4096 := by rw [← hk]; unfold diskLen; omega
  clear hZ
  go_enter Tryz.func9, Tryz.ntmps9
  go_upto_region 2 with fail
  have hif : (if (4096 : Int) < (if n < 0 then 0 else n) then 4096 else (if n < 0 then 0 else n)) = (k : Int) := by
    rw [hv]
    repeat' split
    all_goals omega
  rw [hif]
  generalize (if n < 0 then (0 : Int) else n) = n1
  clear hif hv
  go_region_held3 (fun _ => True) (exact trivial) (fail)
  all_goals (go_wp2_with fail)
  all_goals go_ret
  · exact ⟨newDisk (w.heap.size + 2) w.heap.size (w.heap.size + 1) k, rfl, (HN.out w w.heap.size (w.heap.size + 1) (Or.inl ⟨rfl, rfl⟩)).drew⟩
  · exact ⟨newDisk (w.heap.size + 2) (w.heap.size + 1) w.heap.size k, rfl, (HN.out w (w.heap.size + 1) w.heap.size (Or.inr ⟨rfl, rfl⟩)).drew⟩
end Go.Proofs.YtbohpffigmllkaaGreatDoor

/-
  A byte of a sector is made another one: Spoil, for every place and byte.
-/
namespace Go.Proofs.YtbohpffigmllkaaGreatDoor
open Go.RowKit

theorem xor_u8 (a b : UInt8) : bits .xor .u8 ((a.toNat : Nat) : Int) ((b.toNat : Nat) : Int) = ((a ^^^ b).toNat : Int) := by
  have ha := a.toNat_lt
  have hb := b.toNat_lt
  have e1 : ∀ c : Nat, c < 256 → (BitVec.ofInt 8 ((c : Nat) : Int)).toNat = c := fun c hc => by
    rw [BitVec.toNat_ofInt]
    omega
  have hx : a.toNat ^^^ b.toNat < 256 := Nat.xor_lt_two_pow (n := 8) ha hb
  show IntKind.u8.wrap ((BitVec.ofInt 8 (a.toNat : Int) ^^^ BitVec.ofInt 8 (b.toNat : Int)).toNat : Int) = _
  rw [BitVec.toNat_xor, e1 _ ha, e1 _ hb, UInt8.toNat_xor]
  generalize a.toNat ^^^ b.toNat = y at *
  simp only [IntKind.wrap, IntKind.bits, IntKind.signed]
  simp
  omega
def bendF (f : Nat → UInt8) (q : Nat) (x : UInt8) : Nat → UInt8 := fun j => if j = q then f j ^^^ x else f j
def DiskM.spoilt (m : DiskM) (q : Nat) (x : UInt8) : DiskM := { m with S := bendF m.S q x, T := bendF m.T q x }
theorem RowAt.bend {b len : Nat} {f : Nat → UInt8} {w : World} (h : RowAt b len f w) (q : Nat) (hq : q < len) (x : UInt8) : RowAt b len (bendF f q x) (w.setCell ⟨b, q, none⟩ (.int .u8 ((f q ^^^ x).toNat : Int))) := by
  refine ⟨by simpa using h.lt, fun j hj => ?_, fun j hj => by rw [set_free]; exact h.free j hj⟩
  unfold bendF
  by_cases e : j = q
  · subst e
    rw [if_pos rfl, set_same (h.cell j hj)]
  · rw [if_neg e, set_off (fun e' => e e'.symm)]
    exact h.cell j hj
theorem row_off {b len k d : Nat} {f : Nat → UInt8} {w : World} (v : Value) (h : RowAt b len f w) (hne : d ≠ b) : RowAt b len f (w.setCell ⟨d, k, none⟩ v) := row_set v h hne
theorem DiskAt.spoil {m : DiskM} {w : World} (h : DiskAt m w) (q : Nat) (hq : q < 64 * m.n) (x : UInt8) :
    DiskAt { m with S := bendF m.S q x } (w.setCell ⟨m.bs, q, none⟩ (.int .u8 ((m.S q ^^^ x).toNat : Int))) := by
  have e : ∀ j, (w.setCell ⟨m.bs, q, none⟩ (.int .u8 ((m.S q ^^^ x).toNat : Int))).cell? ⟨m.d, j, none⟩ = w.cell? ⟨m.d, j, none⟩ := fun j => World.cell?_setCell_other _ _ _ _ (fun e => by have := congrArg Addr.block e; exact h.n1 this.symm)
  exact ⟨by simpa using h.lt, h.n1, h.n2, h.n3, h.size, by rw [e]; exact h.c0, by rw [e]; exact h.c1, by rw [e]; exact h.c2, by rw [e]; exact h.c3, by rw [e]; exact h.c4, fun j => by simpa using h.free j, h.sure.bend q hq x, row_off _ h.there h.n3⟩
theorem DiskAt.spoil2 {m : DiskM} {w : World} (h : DiskAt m w) (q : Nat) (hq : q < 64 * m.n) (x : UInt8) :
    DiskAt { m with T := bendF m.T q x } (w.setCell ⟨m.bt, q, none⟩ (.int .u8 ((m.T q ^^^ x).toNat : Int))) := by
  have e : ∀ j, (w.setCell ⟨m.bt, q, none⟩ (.int .u8 ((m.T q ^^^ x).toNat : Int))).cell? ⟨m.d, j, none⟩ = w.cell? ⟨m.d, j, none⟩ := fun j => World.cell?_setCell_other _ _ _ _ (fun e => by have := congrArg Addr.block e; exact h.n2 this.symm)
  exact ⟨by simpa using h.lt, h.n1, h.n2, h.n3, h.size, by rw [e]; exact h.c0, by rw [e]; exact h.c1, by rw [e]; exact h.c2, by rw [e]; exact h.c3, by rw [e]; exact h.c4, fun j => by simpa using h.free j, row_off _ h.sure h.n3.symm, h.there.bend q hq x⟩
set_option maxRecDepth 10000 in
set_option maxHeartbeats 1000000 in
theorem spoil_ok (m : DiskM) (k b : Nat) (x : UInt8) (w : World) (h : DiskAt m w) (hk : k < m.n) (hb : b < 64) :
    Calls Tryz.prog 40 #[.pointer (some ⟨m.d, 0, none⟩), .int .i64 (k : Int), .int .i64 (b : Int), .int .u8 ((x.toNat : Nat) : Int)] w fun e w' => e = .returned (.tuple #[]) ∧ DiskAt (m.spoilt (k * 64 + b) x) w' ∧ Grew m.own w w' := by
  have H' := Lib.hid (sector_ok m k w h (by omega) (by omega))
  have hkb : (0 : Int) ≤ (k : Int) ∧ (k : Int) < m.n := by omega
  have hbb : (0 : Int) ≤ (b : Int) ∧ (b : Int) < 64 := by omega
  have hq : k * 64 + b < 64 * m.n := by omega
  have hX := xor_u8 (m.S (k * 64 + b)) x
  have hX2 := xor_u8 (m.T (k * 64 + b)) x
  have h1 := h.drew
  have k0 := h.c0
  have k1 := h.sure.cell (k * 64 + b) hq
  have s1 := h1.sure.free (k * 64 + b) hq
  have s1c := h1.sure.cell (k * 64 + b) hq
  have d1 := h1.spoil (k * 64 + b) hq x
  have g1 : Grew m.own w (w.drew.setCell ⟨m.bs, k * 64 + b, none⟩ (.int .u8 ((m.S (k * 64 + b) ^^^ x).toNat : Int))) := (Grew.refl w).drew.setCell _ _ fun _ => Or.inr (Or.inl rfl)
  rw [UInt8.toNat_xor] at hX hX2 d1 g1
  have HQ := Lib.hid hq
  have HD1 := Lib.hid d1
  have HG1 := Lib.hid g1
  have HS1 := Lib.hid (And.intro s1 s1c)
  clear h h1 d1 g1 hq s1 s1c
  go_enter Tryz.func40, Tryz.ntmps40
  go_wp2_with fail
  refine H'.out.mono ?_
  rintro e w' ⟨rfl, rfl⟩
  go_wp2_with fail
  go_still_tail 13, (by kernel_rfl)
  change wpList _ _ _ _ _ w.drew
  generalize w.drew = w2 at *
  obtain ⟨s1, s1c⟩ := HS1.out
  go_upto_region 4 with fail
  clear HS1 hX s1 s1c k0 k1
  generalize w2.setCell ⟨m.bs, k * 64 + b, none⟩ (.int .u8 (((m.S (k * 64 + b)).toNat ^^^ x.toNat : Nat) : Int)) = wb at HD1 HG1 ⊢
  have k0 := HD1.out.c1
  have k1 := HD1.out.there.cell (k * 64 + b) HQ.out
  have h2 := HD1.out.drew
  have HS2 := Lib.hid (And.intro (h2.there.free (k * 64 + b) HQ.out) (h2.there.cell (k * 64 + b) HQ.out))
  have d2 := h2.spoil2 (k * 64 + b) HQ.out x
  have g2 : Grew m.own w (wb.drew.setCell ⟨m.bt, k * 64 + b, none⟩ (.int .u8 ((m.T (k * 64 + b) ^^^ x).toNat : Int))) := HG1.out.drew.setCell _ _ fun _ => Or.inr (Or.inr rfl)
  have d2 : DiskAt (m.spoilt (k * 64 + b) x) (wb.drew.setCell ⟨m.bt, k * 64 + b, none⟩ (.int .u8 ((m.T (k * 64 + b) ^^^ x).toNat : Int))) := d2
  rw [UInt8.toNat_xor] at d2 g2
  have HD2 := Lib.hid d2
  have HG2 := Lib.hid g2
  clear h2 HD1 HG1 HQ d2 g2
  go_still_tail 13, (by kernel_rfl)
  change wpList _ _ _ _ _ wb.drew
  generalize wb.drew = w3 at *
  obtain ⟨s2, s2c⟩ := HS2.out
  go_wp2_with fail
  go_end0
  exact ⟨rfl, HD2.out, HG2.out⟩
theorem spoil_range (m : DiskM) (at' b x : Int) (w : World) (h : DiskAt m w) (hn : at' < 0 ∨ m.n ≤ at') :
    Calls Tryz.prog 40 #[.pointer (some ⟨m.d, 0, none⟩), .int .i64 at', .int .i64 b, .int .u8 x] w fun e w' => e = failed 6 ∧ w = w' := by
  have H' := Lib.hid (sector_not m at' w h hn)
  clear h hn
  go_enter Tryz.func40, Tryz.ntmps40
  go_wp2_with fail
  refine H'.out.mono ?_
  rintro e w' ⟨rfl, rfl⟩
  unfold failed
  go_wp2_with fail
  exact ⟨rfl, rfl, rfl⟩
theorem spoil_arg (m : DiskM) (k : Nat) (b x : Int) (w : World) (h : DiskAt m w) (hk : k < m.n) (hb : b < 0 ∨ 64 ≤ b) :
    Calls Tryz.prog 40 #[.pointer (some ⟨m.d, 0, none⟩), .int .i64 (k : Int), .int .i64 b, .int .u8 x] w fun e w' => e = failed 4 ∧ w = w' := by
  have H' := Lib.hid (sector_ok m k w h (by omega) (by omega))
  have HF := Lib.hid (fail_any 4 w)
  clear h hk
  by_cases h0 : b < 0
  all_goals
    first | (have h1 : (64 : Int) ≤ b := by omega) | skip
    clear hb
    go_enter Tryz.func40, Tryz.ntmps40
    go_wp2_with fail
    refine H'.out.mono ?_
    rintro e w' ⟨rfl, rfl⟩
    go_wp2_with fail
    refine HF.out.mono ?_
    rintro e w' ⟨rfl, rfl⟩
    unfold failed
    go_wp2_with fail
    exact ⟨rfl, rfl, rfl⟩
end Go.Proofs.YtbohpffigmllkaaGreatDoor
