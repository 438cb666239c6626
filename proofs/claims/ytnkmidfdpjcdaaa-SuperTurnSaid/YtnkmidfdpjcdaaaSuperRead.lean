/-
  A disk's super is read: a contract.
-/
import Derived.Test.YtnkmidfdpjcdaaaSuperOpen
namespace Go.Proofs.Ytnkmidfdpjcdaaa
open Go.RowKit

/-- a sector of a disk -/
def sectOf (m : DiskM) (k : Nat) : ByteArray := ⟨(sec m.T k).toArray⟩
theorem sectOf_size (m : DiskM) (k : Nat) : (sectOf m k).size = 64 := by show (sec m.T k).length = 64; simp [sec]
/-- is a slot's super the last one, behind one that was found? -/
def better (m : DiskM) (k : Nat) (l : Sup) : Prop := hasSup (sectOf m k) k ∧ (supIn (sectOf m k)).check m.n = 0 ∧ l.ep < (supIn (sectOf m k)).ep
instance betterDec (m : DiskM) (k : Nat) (l : Sup) : Decidable (better m k l) := by unfold better; infer_instance
/-- the last one of so many slots -/
def best (m : DiskM) : Nat → Sup
  | 0 => Sup.none
  | k + 1 => if better m k (best m k) then supIn (sectOf m k) else best m k
theorem best_fits (m : DiskM) : ∀ k, (best m k).fits
  | 0 => ⟨(by decide : (0 : Nat) < 4294967296), (by decide : (0 : Nat) < 65536), (by decide : (0 : Nat) < 65536), (by decide : (0 : Nat) < 65536), (by decide : (0 : Nat) < 4294967296)⟩
  | k + 1 => by
    unfold best
    split
    · exact supIn_fits _
    · exact best_fits m k
/-- while it reads: where the answer lies, the last one that was found -/
structure ReadAt (w : World) (m : DiskM) (l : Sup) (wx : World) : Prop where
  z : wx.heap[w.heap.size]? = some zeroSup
  l : wx.heap[w.heap.size + 1]? = some (.cells l.cells 51)
  at' : DiskAt m wx
  below : Below w.heap.size w wx
theorem ReadAt.step {w : World} {m : DiskM} {l : Sup} {wx wy : World} (h : ReadAt w m l wx) (hb : Below wx.heap.size wx wy) : ReadAt w m l wy := by
  have hlt : ∀ b o, wx.heap[b]? = some o → b < wx.heap.size := fun b o e => by
    rcases Nat.lt_or_ge b wx.heap.size with h1 | h1
    · exact h1
    · rw [Array.getElem?_eq_none h1] at e; cases e
  exact ⟨by rw [hb.block _ (hlt _ _ h.z)]; exact h.z, by rw [hb.block _ (hlt _ _ h.l)]; exact h.l, h.at'.keep (Grew.of_below (S := fun _ => False) hb) fun _ _ e => e, h.below.trans (hb.mono h.below.size)⟩
theorem ReadAt.drewN {w : World} {m : DiskM} {l : Sup} {wx : World} (h : ReadAt w m l wx) (n : Nat) : ReadAt w m l (wx.drewN n) :=
  h.step (below_drewN (Below.refl _ _) n)
def fiveSets (w : World) (x : Nat) (s : Sup) : World := ((((w.setCell ⟨x, 0, none⟩ (.int .u32 s.ep)).setCell ⟨x, 1, none⟩ (.int .i64 s.j)).setCell ⟨x, 2, none⟩ (.int .i64 s.b)).setCell ⟨x, 3, none⟩ (.int .i64 s.h)).setCell ⟨x, 4, none⟩ (.int .u32 s.nx)
theorem ReadAt.set {w : World} {m : DiskM} {l : Sup} {wx : World} (h : ReadAt w m l wx) (ho : ∀ k, m.own k → k < w.heap.size) (s : Sup) : ReadAt w m s (fiveSets wx (w.heap.size + 1) s) := by
  have g : Grew (fun k => k = w.heap.size + 1) wx (fiveSets wx (w.heap.size + 1) s) := (((((Grew.refl (S := fun k => k = w.heap.size + 1) wx).setCell _ _ fun _ => rfl).setCell _ _ fun _ => rfl).setCell _ _ fun _ => rfl).setCell _ _ fun _ => rfl).setCell _ _ fun _ => rfl
  have hz : w.heap.size < wx.heap.size := by
    have e := h.z
    rcases Nat.lt_or_ge w.heap.size wx.heap.size with h1 | h1
    · exact h1
    · rw [Array.getElem?_eq_none h1] at e; cases e
  refine ⟨by rw [g.block _ hz (by omega)]; exact h.z, five_set (a := .int .u32 l.ep) (b := .int .i64 l.j) (c := .int .i64 l.b) (d := .int .i64 l.h) (e := .int .u32 l.nx) h.l _ _ _ _ _, h.at'.keep g fun k hk e => ?_, g.below h.below h.below.size fun k e => by omega⟩
  have := ho k hk
  omega
set_option maxHeartbeats 4000000 in
theorem supRead_any (p : Nat) (m : DiskM) (hp : m.d = p) (hL : m.dead = false) (w : World) (hD : DiskAt m w) :
    Calls Try.prog 53 #[.pointer (some ⟨p, 0, none⟩)] w fun e w' => (¬ (best m (min 2 m.n)).ep = 0 → e = .returned (.agg (best m (min 2 m.n)).cells)) ∧ ((best m (min 2 m.n)).ep = 0 → e = failed 1) ∧ Below w.heap.size w w' := by
  have hn := hD.size
  have HOw := Lib.hid hD.below
  have HLn : Hid (∀ wx, DiskAt m wx → Calls Try.prog 15 #[.pointer (some ⟨p, 0, none⟩)] wx fun e w' => e = .returned (.int .i64 m.n) ∧ wx = w') := Lib.hid fun wx h => by
    subst hp
    exact len_any m wx h
  have HRd : Hid (∀ k wx, k < m.n → DiskAt m wx → Calls Try.prog 46 #[.pointer (some ⟨p, 0, none⟩), .int .i64 (k : Nat)] wx fun e w' => e = .returned (.string (sectOf m k)) ∧ wx = w') := Lib.hid fun k wx hk h => by
    subst hp
    exact read_ok m k wx h hL hk
  have HOp := Lib.hid fun (k : Nat) (wx : World) => supOpen_any (sectOf m k) (sectOf_size m k) k wx
  have HCk := Lib.hid fun (k : Nat) (wx : World) => check_any (supIn (sectOf m k)) (supIn_fits _) m.n (by omega) wx
  obtain ⟨K, hK⟩ : ∃ K, min 2 m.n = K := ⟨_, rfl⟩
  have hKi : (K : Int) = min 2 (m.n : Int) := by omega
  have hK2 : K ≤ m.n := by omega
  rw [hK]
  clear hK
  have hmin : ∀ (wx : World) (ts : Array TypeId) (t : TypeId), (Builtin.min_ ts t #[.int .i64 2, .int .i64 m.n]).run Try.prog wx = .ok (.int .i64 K) wx := fun wx ts t => by
    rw [hKi]
    by_cases hc : (m.n : Int) < 2
    · rw [Int.min_eq_right (by omega)]
      simp [Builtin.min_, Builtin.min2, hc]
    · rw [Int.min_eq_left (by omega)]
      simp [Builtin.min_, Builtin.min2, hc]
  clear hKi
  have HR0 : Hid (ReadAt w m Sup.none ((w.alloc zeroSup).alloc zeroSup)) := Lib.hid (by
    have s1 : (w.alloc zeroSup).heap.size = w.heap.size + 1 := by simp
    have hb : Below w.heap.size w ((w.alloc zeroSup).alloc zeroSup) := ((Below.refl _ _).alloc (Nat.le_refl _) _).alloc (by simp) _
    refine ⟨?_, ?_, hD.keep (Grew.of_below (S := fun _ => False) hb) fun _ _ e => e, hb⟩
    · rw [Below.heap_alloc _ _ _ (by rw [s1]; omega)]
      exact heap_alloc_new w _
    · rw [← s1]
      exact heap_alloc_new _ _)
  clear hD
  have HL0 := Lib.hid (HLn.out _ HR0.out.at')
  go_enter Try.func53, Try.ntmps53
  go_wp2_with fail
  refine HL0.out.mono ?_
  rintro e w1 ⟨rfl, rfl⟩
  go_wp2_with fail
  generalize hW0 : (w.alloc zeroSup).alloc zeroSup = W0 at *
  clear hW0 HL0
  go_loopw [10] (fun i wx => ∃ k : Nat, k ≤ K ∧ i = .int .i64 k ∧ ReadAt w m (best m k) wx) (fun i _ => K - (intOf i).toNat)
  case atStart => exact ⟨0, by omega, rfl, HR0.out⟩
  case round =>
    obtain ⟨k, hk, rfl, hR⟩ := hrel
    have HR := Lib.hid hR
    clear hR HR0
    by_cases hlt : k < K
    · have i1 : (k : Int) < (K : Int) := by omega
      have HRk := Lib.hid (HRd.out k wr (by omega) HR.out.at')
      have HOk := Lib.hid (HOp.out k wr)
      by_cases hh : hasSup (sectOf m k) k
      · rw [if_pos hh, decide_eq_true hh] at HOk
        have HCk1 := Lib.hid (HCk.out k)
        have HBt : Hid (better m k (best m k) ↔ (supIn (sectOf m k)).check m.n = 0 ∧ (best m k).ep < (supIn (sectOf m k)).ep) := Lib.hid ⟨fun h => h.2, fun h => ⟨hh, h⟩⟩
        have HN1 : Hid (better m k (best m k) → best m (k + 1) = supIn (sectOf m k)) := Lib.hid fun h => by show (if better m k (best m k) then _ else _) = _; rw [if_pos h]
        have HN2 : Hid (¬ better m k (best m k) → best m (k + 1) = best m k) := Lib.hid fun h => by show (if better m k (best m k) then _ else _) = _; rw [if_neg h]
        obtain ⟨C, hC⟩ : ∃ C, (supIn (sectOf m k)).check m.n = C := ⟨_, rfl⟩
        rw [hC] at HCk1 HBt
        clear hC
        generalize better m k (best m k) = BT at *
        generalize hL1 : best m (k + 1) = L1 at *
        have HL1 := Lib.hid hL1
        clear hL1
        generalize best m k = L0 at *
        generalize supIn (sectOf m k) = SP at *
        obtain ⟨ep, j, b, h, nx⟩ := SP
        obtain ⟨lep, lj, lb, lh, lnx⟩ := L0
        dsimp only [Sup.cells] at HOk HCk1 HBt
        have hl0 := HR.out.l
        dsimp only [Sup.cells] at hl0
        generalize sectOf m k = SX at *
        clear hh
        go_wp2_with fail
        refine HRk.out.mono ?_
        rintro e wz ⟨rfl, rfl⟩
        go_wp2_with fail
        refine HOk.out.mono ?_
        rintro e w2 ⟨rfl, hb2⟩
        have HR2 := HR.out.step hb2
        have HR3 := Lib.hid (HR2.step ((Below.refl _ _).alloc (Nat.le_refl _) (.cells #[.int .u32 ep, .int .i64 j, .int .i64 b, .int .i64 h, .int .u32 nx] 51)))
        have hx5 := heap_alloc_new w2 (.cells #[.int .u32 ep, .int .i64 j, .int .i64 b, .int .i64 h, .int .u32 nx] 51)
        clear hb2 HR2 HRk HOk hl0
        go_upto_region 6 with fail
        generalize hW3 : w2.alloc (.cells #[.int .u32 ep, .int .i64 j, .int .i64 b, .int .i64 h, .int .u32 nx] 51) = W3 at *
        clear hW3
        generalize w2.heap.size = x5 at *
        have HR3d : Hid (ReadAt w m ⟨lep, lj, lb, lh, lnx⟩ W3.drew) := Lib.hid ⟨HR3.out.z, HR3.out.l, HR3.out.at'.drew, HR3.out.below.drew⟩
        have HLd := Lib.hid (HLn.out W3.drew HR3d.out.at')
        have HCd := Lib.hid (HCk1.out W3.drew)
        have hx5l : x5 < W3.heap.size := by
          rcases Nat.lt_or_ge x5 W3.heap.size with h1 | h1
          · exact h1
          · rw [Array.getElem?_eq_none h1] at hx5; cases hx5
        obtain ⟨l0, l1, l2, l3, l4⟩ := fiveAt hx5
        have l5 : W3.cell? ⟨w.heap.size + 1, 0, none⟩ = some (.int .u32 lep) := (fiveAt HR3.out.l).1
        have HK5 : Hid (∀ wx, Below W3.drew.heap.size W3.drew wx → wx.cell? ⟨x5, 0, none⟩ = some (.int .u32 ep) ∧ wx.cell? ⟨x5, 1, none⟩ = some (.int .i64 j) ∧ wx.cell? ⟨x5, 2, none⟩ = some (.int .i64 b) ∧ wx.cell? ⟨x5, 3, none⟩ = some (.int .i64 h) ∧ wx.cell? ⟨x5, 4, none⟩ = some (.int .u32 nx) ∧ wx.cell? ⟨w.heap.size + 1, 0, none⟩ = some (.int .u32 lep)) := Lib.hid fun wx hb => by
          have hx : wx.heap[x5]? = W3.heap[x5]? := hb.block x5 hx5l
          rw [hx5] at hx
          obtain ⟨m0, m1, m2, m3, m4⟩ := fiveAt hx
          exact ⟨m0, m1, m2, m3, m4, (fiveAt (HR3d.out.step hb).l).1⟩
        by_cases hc0 : C = 0
        · subst hc0
          by_cases he : lep < ep
          · have i2 : (lep : Int) < (ep : Int) := by omega
            have HYe : Hid BT := Lib.hid (HBt.out.2 ⟨rfl, he⟩)
            go_region_held3 (fun wx => wx.cell? ⟨x5, 0, none⟩ = some (.int .u32 ep) ∧ wx.cell? ⟨x5, 1, none⟩ = some (.int .i64 j) ∧ wx.cell? ⟨x5, 2, none⟩ = some (.int .i64 b) ∧ wx.cell? ⟨x5, 3, none⟩ = some (.int .i64 h) ∧ wx.cell? ⟨x5, 4, none⟩ = some (.int .u32 nx) ∧ wx.cell? ⟨w.heap.size + 1, 0, none⟩ = some (.int .u32 lep)) (first | exact ⟨l0, l1, l2, l3, l4, l5⟩ | exact HK4.out) (first | (go_at_call 15; (with_reducible refine HLd.out.mono ?_); rintro e wz ⟨rfl, rfl⟩) | (go_at_call 26; (with_reducible refine HCd.out.mono ?_); rintro e w4 ⟨rfl, hb4⟩; (have HK4 := Lib.hid (HK5.out w4 hb4)); (have HR4 := Lib.hid (HR3d.out.step hb4)); clear hb4))
            obtain ⟨q0, q1, q2, q3, q4, q5⟩ := HK4.out
            obtain ⟨⟨y0, y1, y2, y3, y4⟩, g0, g1, g2, g3, g4⟩ := zero_cells HR4.out.l
            have HRn := Lib.hid (HR4.out.set HOw.out ⟨ep, j, b, h, nx⟩)
            unfold fiveSets at HRn
            go_wp2_with fail
            go_roundw
            case rel => exact ⟨k + 1, by omega, by go_num, by rw [HL1.out, HN1.out HYe.out]; exact HRn.out⟩
            case measure => simp [intOf]; omega
          · have i2 : ¬ (lep : Int) < (ep : Int) := by omega
            have HNo : Hid (¬ BT) := Lib.hid fun h => he (HBt.out.1 h).2
            go_region_held3 (fun wx => wx.cell? ⟨x5, 0, none⟩ = some (.int .u32 ep) ∧ wx.cell? ⟨x5, 1, none⟩ = some (.int .i64 j) ∧ wx.cell? ⟨x5, 2, none⟩ = some (.int .i64 b) ∧ wx.cell? ⟨x5, 3, none⟩ = some (.int .i64 h) ∧ wx.cell? ⟨x5, 4, none⟩ = some (.int .u32 nx) ∧ wx.cell? ⟨w.heap.size + 1, 0, none⟩ = some (.int .u32 lep)) (first | exact ⟨l0, l1, l2, l3, l4, l5⟩ | exact HK4.out) (first | (go_at_call 15; (with_reducible refine HLd.out.mono ?_); rintro e wz ⟨rfl, rfl⟩) | (go_at_call 26; (with_reducible refine HCd.out.mono ?_); rintro e w4 ⟨rfl, hb4⟩; (have HK4 := Lib.hid (HK5.out w4 hb4)); (have HR4 := Lib.hid (HR3d.out.step hb4)); clear hb4))
            go_wp2_with fail
            go_roundw
            case rel => exact ⟨k + 1, by omega, by go_num, by rw [HL1.out, HN2.out HNo.out]; exact HR4.out⟩
            case measure => simp [intOf]; omega
        · have i2 : ((C : Int) == 0) = false := by rw [beq_eq_false_iff_ne]; omega
          have HNo : Hid (¬ BT) := Lib.hid fun h => hc0 (HBt.out.1 h).1
          first | (go_region_with (first | (go_at_call 15; (with_reducible refine HLd.out.mono ?_); rintro e wz ⟨rfl, rfl⟩) | (go_at_call 26; (with_reducible refine HCd.out.mono ?_); rintro e w4 ⟨rfl, hb4⟩; (obtain ⟨q0, q1, q2, q3, q4, q5⟩ := HK5.out w4 hb4); (have HR4 := Lib.hid (HR3d.out.step hb4)); clear hb4))) | fail
          all_goals
            go_wp2_with fail
            go_roundw
            case rel => exact ⟨k + 1, by omega, by go_num, by rw [HL1.out, HN2.out HNo.out]; exact HR4.out⟩
            case measure => simp [intOf]; omega
      · rw [if_neg hh, decide_eq_false hh] at HOk
        unfold Sup.none at HOk
        dsimp only [Sup.cells] at HOk
        have HN2 : Hid (best m (k + 1) = best m k) := Lib.hid (by show (if better m k (best m k) then _ else _) = _; rw [if_neg fun h => hh h.1])
        generalize sectOf m k = SX at *
        go_wp2_with fail
        refine HRk.out.mono ?_
        rintro e wz ⟨rfl, rfl⟩
        go_wp2_with fail
        refine HOk.out.mono ?_
        rintro e w2 ⟨rfl, hb2⟩
        have HR3 := Lib.hid ((HR.out.step hb2).step ((Below.refl _ _).alloc (Nat.le_refl _) zeroSup))
        clear hb2 HRk HOk
        go_upto_region 6 with fail
        generalize hW3 : w2.alloc zeroSup = W3 at *
        clear hW3
        go_quiet (fail)
        go_wp2_with fail
        go_roundw
        case rel => exact ⟨k + 1, by omega, by go_num, by rw [HN2.out]; exact HR3.out.drewN _⟩
        case measure => simp [intOf]; omega
    · obtain rfl : k = K := by omega
      have i1 : ¬ (k : Int) < (k : Int) := by omega
      obtain ⟨L0, hL0⟩ : ∃ L0, best m k = L0 := ⟨_, rfl⟩
      have HL0 := Lib.hid hL0
      rw [hL0] at HR
      clear hL0
      obtain ⟨lep, lj, lb, lh, lnx⟩ := L0
      obtain ⟨⟨y0, y1, y2, y3, y4⟩, _⟩ := zero_cells HR.out.l
      by_cases he : lep = 0
      · subst he
        have HFl := Lib.hid (fail_any 1 wr)
        go_wp2_with fail
        refine HFl.out.mono ?_
        rintro e w3 ⟨rfl, rfl⟩
        unfold failed
        go_wp2_with fail
        exact ⟨rfl, fun h => absurd (by rw [HL0.out]) h, fun _ => rfl, HR.out.below⟩
      · have i2 : ((lep : Int) == 0) = false := by rw [beq_eq_false_iff_ne]; omega
        obtain ⟨⟨z0, z1, z2, z3, z4⟩, g0, g1, g2, g3, g4⟩ := zero_cells HR.out.z
        have HQ := Lib.hid (five_set HR.out.z (.int .u32 lep) (.int .i64 lj) (.int .i64 lb) (.int .i64 lh) (.int .u32 lnx))
        go_wp2_with fail
        refine bodyPost_ret (results_cell_row rfl _ _ w.heap.size _ _ _ _ rfl HQ.out Try.underlying51 rfl supSize) rfl ?_
        rw [HL0.out]
        exact ⟨fun _ => rfl, fun h => absurd h he, ((((HR.out.below.setCell (Nat.le_refl _) _).setCell (Nat.le_refl _) _).setCell (Nat.le_refl _) _).setCell (Nat.le_refl _) _).setCell (Nat.le_refl _) _⟩
end Go.Proofs.Ytnkmidfdpjcdaaa
