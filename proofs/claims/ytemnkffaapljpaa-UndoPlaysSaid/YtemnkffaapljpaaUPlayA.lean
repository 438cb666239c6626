/-
  UndoPlays: the law's steps, made from any numbers: a contract.
-/
import Derived.Test.YtemnkffaapljpaaUPlayM
namespace Go.Proofs.Ytemnkffaapljpaa
open Go.RowKit Go.Maps Go.ChangeMaps Go.WideShapes
theorem maskU (k : Int) (n : Nat) (hn : n < 4294967296) : ∃ p : Nat, bits .and .i64 k (n : Int) = (p : Int) ∧ p ≤ n := by
  have h : (BitVec.ofInt 64 k &&& BitVec.ofInt 64 n).toNat ≤ n := by
    rw [BitVec.toNat_and]
    refine Nat.le_trans Nat.and_le_right ?_
    rw [BitVec.toNat_ofInt]
    omega
  refine ⟨(BitVec.ofInt 64 k &&& BitVec.ofInt 64 n).toNat, ?_, h⟩
  show IntKind.i64.wrap ((BitVec.ofInt 64 k &&& BitVec.ofInt 64 n).toNat : Int) = _
  generalize (BitVec.ofInt 64 k &&& BitVec.ofInt 64 n).toNat = y at *
  simp only [IntKind.wrap, IntKind.bits, IntKind.signed]
  simp
  omega
/-- three numbers of the list -/
structure RA where
  k : Int
  a : Int
  t : Int
def RawsAt (w : World) (a : Option Addr) (l : Nat) (R : Nat → RA) : Prop :=
  l = 0 ∨ ∃ b off, a = some ⟨b, off, none⟩ ∧ ∀ i, i < l → w.cell? ⟨b, off + i * 3, none⟩ = some (.int .i64 (R i).k) ∧ w.cell? ⟨b, off + i * 3 + 1, none⟩ = some (.int .i64 (R i).a) ∧ w.cell? ⟨b, off + i * 3 + 2, none⟩ = some (.int .i64 (R i).t)
theorem RawsAt.below {w w' : World} {a : Option Addr} {l : Nat} {R : Nat → RA} (h : RawsAt w a l R) (k : Below w.heap.size w w') : RawsAt w' a l R := by
  rcases h with h | ⟨b, off, e, hr⟩
  · exact Or.inl h
  · exact Or.inr ⟨b, off, e, fun i hi => ⟨(k.cell (cell_lt (hr i hi).1)).trans (hr i hi).1, (k.cell (cell_lt (hr i hi).2.1)).trans (hr i hi).2.1, (k.cell (cell_lt (hr i hi).2.2)).trans (hr i hi).2.2⟩⟩
def actU (r : RA) : UA := ⟨(bits .and .i64 r.k 255).tmod 5, (bits .and .i64 r.a 3).toNat, 1 + bits .and .i64 r.t 255⟩
theorem actU_ok (r : RA) : 0 ≤ (actU r).k ∧ (actU r).k < 5 ∧ (actU r).i < 4 ∧ 1 ≤ (actU r).t ∧ (actU r).t ≤ 256 ∧ bits .and .i64 r.a 3 = ((actU r).i : Int) ∧ (0 : Int) ≤ bits .and .i64 r.k 255 ∧ bits .and .i64 r.t 255 ≤ 255 ∧ 0 ≤ bits .and .i64 r.t 255 := by
  obtain ⟨p, hp, p1⟩ := maskU r.k 255 (by decide)
  obtain ⟨q, hq, q1⟩ := maskU r.a 3 (by decide)
  obtain ⟨z, hz, z1⟩ := maskU r.t 255 (by decide)
  have hp : bits .and .i64 r.k 255 = (p : Int) := hp
  have hq : bits .and .i64 r.a 3 = (q : Int) := hq
  have hz : bits .and .i64 r.t 255 = (z : Int) := hz
  unfold actU
  rw [hp, hq, hz]
  have e : (p : Int).tmod 5 = (p : Int) % 5 := Int.tmod_eq_emod_of_nonneg (by omega)
  dsimp only
  rw [e]
  refine ⟨by omega, by omega, by omega, by omega, by omega, by omega, by omega, by omega, by omega⟩
def actsL (R : Nat → RA) : Nat → List Value
  | 0 => []
  | k + 1 => actsL R k ++ [.int .i64 (actU (R k)).k, .int .i64 ((actU (R k)).i : Int), .int .i64 (actU (R k)).t]
theorem actsL_len (R : Nat → RA) : ∀ k, (actsL R k).length = k * 3
  | 0 => rfl
  | k + 1 => by
    unfold actsL
    rw [List.length_append, actsL_len R k]
    simp
    omega
theorem actsL_at (R : Nat → RA) : ∀ k j, j < k → (actsL R k)[j * 3]? = some (.int .i64 (actU (R j)).k) ∧ (actsL R k)[j * 3 + 1]? = some (.int .i64 ((actU (R j)).i : Int)) ∧ (actsL R k)[j * 3 + 2]? = some (.int .i64 (actU (R j)).t)
  | 0, _, h => absurd h (Nat.not_lt_zero _)
  | k + 1, j, h => by
    unfold actsL
    have hl := actsL_len R k
    by_cases e : j = k
    · subst e
      rw [List.getElem?_append_right (by omega), List.getElem?_append_right (by omega), List.getElem?_append_right (by omega), hl]
      have e0 : j * 3 - j * 3 = 0 := by omega
      have e1 : j * 3 + 1 - j * 3 = 1 := by omega
      have e2 : j * 3 + 2 - j * 3 = 2 := by omega
      rw [e0, e1, e2]
      exact ⟨rfl, rfl, rfl⟩
    · obtain ⟨a, b, c⟩ := actsL_at R k j (by omega)
      rw [List.getElem?_append_left (by omega), List.getElem?_append_left (by omega), List.getElem?_append_left (by omega)]
      exact ⟨a, b, c⟩
theorem infoActU : (Try.prog.info? 109).map (fun i => (i.zero, i.size, i.bytes)) = some (some (.agg #[.int .i64 0, .int .i64 0, .int .i64 0]), 3, 24) := by kernel_rfl
set_option maxRecDepth 100000 in
set_option maxHeartbeats 4000000 in
theorem acts_any (a1 : Option Addr) (l1 c1 : Nat) (R : Nat → RA) (w : World) (hR : RawsAt w a1 l1 R) :
    Calls Try.prog 15 #[.slice a1 l1 c1] w fun e w' => ∃ ao n cap, e = .returned (.slice ao n cap) ∧ n ≤ 40 ∧ w'.ownsRow w.heap.size 109 3 (.slice ao n cap) n (actsL R n) ∧ Below w.heap.size w w' := by
  obtain ⟨i0, hi, hz0, hz1, hz2⟩ := info_parts' infoActU
  have HI0 := Lib.hid hi
  have HI1 := Lib.hid hz0
  have HI2 := Lib.hid hz1
  have HI3 := Lib.hid hz2
  have HR := Lib.hid hR
  have HO0 : Hid ((w.alloc (.cells #[] 109)).ownsRow w.heap.size 109 3 (.slice (some ⟨w.heap.size, 0, none⟩) 0 0) 0 []) := Lib.hid (World.ownsRow_lit w #[] 0 (Nat.le_refl _) (by decide) rfl)
  have HB0 : Hid (Below w.heap.size w (w.alloc (.cells #[] 109))) := Lib.hid ((Below.refl _ w).alloc (Nat.le_refl _) _)
  clear hi hz0 hz1 hz2 hR
  go_enter Try.func15, Try.ntmps15
  go_wp2_with fail
  go_loopw [3, 4] (fun v i wx => ∃ k : Nat, k ≤ 40 ∧ i = .int .i64 (k : Int) ∧ wx.ownsRow w.heap.size 109 3 v k (actsL R k) ∧ Below w.heap.size w wx) (fun _ i _ => 40 - (intOf i).toNat)
  case atStart => exact ⟨0, by omega, rfl, HO0.out, HB0.out⟩
  case round =>
    clear HO0 HB0
    obtain ⟨k, hk, rfl, hown, hbel⟩ := hrel
    have HO := Lib.hid hown
    have HB := Lib.hid hbel
    have HFin : Hid (∃ ao cap, u3 = .slice ao k cap) := Lib.hid (by
      rcases hown.2 with ⟨e, h0⟩ | ⟨b, cap, cur, e, _⟩
      · exact ⟨none, 0, by rw [e, h0]⟩
      · exact ⟨_, cap, e⟩)
    by_cases h1 : k < l1
    · by_cases h2 : k < 40
      · have i1 : (k : Int) < (l1 : Int) := by omega
        have i2 : (k : Int) < 40 := by omega
        have i3 : (0 : Int) ≤ (k : Int) := by omega
        have hR' := HR.out.below hbel
        rcases hR' with h0 | ⟨b, off, rfl, hr⟩
        · omega
        obtain ⟨r0, r1, r2⟩ := hr k h1
        have hrd : ∀ p : Addr, wr.drew.cell? p = wr.cell? p := fun _ => rfl
        have r0 := (hrd _).trans r0
        have r1 := (hrd _).trans r1
        have r2 := (hrd _).trans r2
        obtain ⟨o0, o1, o2, o3, o4, o5, o6, o7, o8⟩ := actU_ok (R k)
        have eK : (bits .and .i64 (R k).k 255).tmod 5 = (actU (R k)).k := rfl
        have eY : 1 + bits .and .i64 (R k).t 255 = (actU (R k)).t := rfl
        have HNx : Hid (actsL R (k + 1) = actsL R k ++ [.int .i64 (actU (R k)).k, .int .i64 ((actU (R k)).i : Int), .int .i64 (actU (R k)).t]) := Lib.hid rfl
        generalize (R k).k = x0 at *
        generalize (R k).a = x1 at *
        generalize (R k).t = x2 at *
        generalize (actU (R k)).k = K at *
        generalize (actU (R k)).i = I at *
        generalize (actU (R k)).t = Y at *
        have m1 : IntKind.i64.wrap (1 + bits .and .i64 x2 255) = Y := by rw [IntWalk.i64_in _ (by omega)]; exact eY
        have m0 : IntKind.i64.wrap ((bits .and .i64 x0 255).tmod 5) = K := by rw [IntWalk.i64_in _ (by omega)]; exact eK
        have gA : Grew (fun _ => False) wr ((wr.alloc (.cells #[.int .i64 K, .int .i64 (I : Int), .int .i64 Y] 109)).drew) := ((Grew.refl wr).alloc _).drew
        have HOa : Hid (((wr.alloc (.cells #[.int .i64 K, .int .i64 (I : Int), .int .i64 Y] 109)).drew).ownsRow w.heap.size 109 3 u3 k (actsL R k)) := Lib.hid (hown.alloc _)
        have HBa : Hid (Below w.heap.size w ((wr.alloc (.cells #[.int .i64 K, .int .i64 (I : Int), .int .i64 Y] 109)).drew)) := Lib.hid ((hbel.alloc hbel.size _).drew)
        have HNa : Hid (∀ j u, [Value.int .i64 K, .int .i64 (I : Int), .int .i64 Y][j]? = some u → ((wr.alloc (.cells #[.int .i64 K, .int .i64 (I : Int), .int .i64 Y] 109)).drew).cell? ((⟨wr.heap.size, 0, none⟩ : Addr).add j) = some u) := Lib.hid (by
          intro j u hu
          have hb : (wr.alloc (.cells #[.int .i64 K, .int .i64 (I : Int), .int .i64 Y] 109)).heap[wr.heap.size]? = some (.cells #[.int .i64 K, .int .i64 (I : Int), .int .i64 Y] 109) := heap_alloc_new _ _
          have e : (⟨wr.heap.size, 0, none⟩ : Addr).add j = ⟨wr.heap.size, j, none⟩ := by unfold Addr.add; split <;> simp_all
          rw [e]
          show (wr.alloc (.cells #[.int .i64 K, .int .i64 (I : Int), .int .i64 Y] 109)).cell? ⟨wr.heap.size, j, none⟩ = some u
          have e2 : (#[Value.int .i64 K, .int .i64 (I : Int), .int .i64 Y])[j]? = some u := by
            rw [← hu]
            simp
          simp only [World.cell?, hb]
          exact e2)
        have HCa : Hid (∀ u ∈ [Value.int .i64 K, .int .i64 (I : Int), .int .i64 Y], u.oneCell' = true) := Lib.hid (by
          intro u hu
          simp at hu
          rcases hu with rfl | rfl | rfl <;> rfl)
        have HM1 : Hid (k + 1 ≤ maxLen) := Lib.hid (by unfold maxLen; omega)
        have HM2 : Hid ((k + 1) * 24 ≤ 140737488355328) := Lib.hid (by omega)
        have HSa : Hid (w.heap.size ≤ ((wr.alloc (.cells #[.int .i64 K, .int .i64 (I : Int), .int .i64 Y] 109)).drew).heap.size) := Lib.hid (Nat.le_trans hbel.size gA.size)
        clear hr hown hbel hrd HFin gA o0 o1 o2 o3 o4 o6 o7 o8 eY m0
        go_wp2_with fail
        go_region_law ((refine step_append_lies _ rfl (.tmp 16) (.tmp 38) 24 rfl w.heap.size 109 i0 (.agg #[.int .i64 0, .int .i64 0, .int .i64 0]) 3 24 Try.underlying24 HI0.out HI1.out HI2.out HI3.out rfl (by decide) u3 k (actsL R k) rfl HOa.out ⟨wr.heap.size, 0, none⟩ 1 1 [.int .i64 K, .int .i64 (I : Int), .int .i64 Y] rfl rfl HNa.out HCa.out (by decide) HM1.out HM2.out HSa.out _ rfl ?_); (intro g1 cap1 w1 hs1 hg1 hat hlt'))
        all_goals
          have HO1 := Lib.hid hs1
          have HB1 := Lib.hid (HBa.out.grown hg1 HBa.out.size (fun z hz => (HOa.out.lt z hz).1))
          clear hs1 hg1 hat hlt'
          go_wp2_with fail
          go_roundw
          case rel => exact ⟨k + 1, by omega, by go_num, by rw [HNx.out]; exact HO1.out, HB1.out⟩
          case measure => simp [intOf]; omega
      · have i1 : (k : Int) < (l1 : Int) := by omega
        have i2 : ¬ (k : Int) < 40 := by omega
        obtain ⟨ao, cap, rfl⟩ := HFin.out
        clear hown hbel HFin
        go_wp2_with fail
        go_ret
        exact ⟨ao, k, cap, rfl, hk, HO.out, HB.out⟩
    · have i1 : ¬ (k : Int) < (l1 : Int) := by omega
      obtain ⟨ao, cap, rfl⟩ := HFin.out
      clear hown hbel HFin
      go_wp2_with fail
      go_ret
      exact ⟨ao, k, cap, rfl, hk, HO.out, HB.out⟩
end Go.Proofs.Ytemnkffaapljpaa
