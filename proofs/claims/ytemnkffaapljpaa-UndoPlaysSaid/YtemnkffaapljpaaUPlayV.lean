/-
  UndoPlays: a run of steps, within any Tries: a contract.
-/
import Derived.Test.YtemnkffaapljpaaUPlayU
namespace Go.Proofs.Ytemnkffaapljpaa
open Go.RowKit Go.Maps Go.ChangeMaps Go.WideShapes
/-- where a run stands: what is left does what all of it does -/
structure At (B g tb n d : Nat) (ao : Option Addr) (L : Nat → UA) (F a : Nat) (fs : List Step) (s : US) (w : World) (a' : Nat) (wx : World) : Prop where
  pos : a ≤ a' ∧ a' ≤ n
  go : ∃ f s', n - a' ≤ f ∧ f ≤ F ∧ runU L n F a (decide (0 < d)) s = runU L n f a' (decide (0 < d)) s' ∧ Ran B g d (UO g tb) (UW g tb) fs (2 * (a' - a)) a' s s' w wx
theorem At.start {B g tb n d : Nat} {ao : Option Addr} {L : Nat → UA} {F a : Nat} {fs : List Step} {s : US} {w : World} {v : Value} (ha : a ≤ n) (hF : n - a ≤ F) (h : UW g tb a s w) (hl : LogAt B g d v fs w) : At B g tb n d ao L F a fs s w a w :=
  ⟨⟨Nat.le_refl _, ha⟩, F, s, hF, Nat.le_refl _, rfl, by rw [Nat.sub_self, Nat.mul_zero]; exact Ran.none hl h⟩
theorem runU_end {L : Nat → UA} {n f a : Nat} {d : Bool} {s : US} (h : ¬ a < n) : runU L n f a d s = (false, a, s) := by
  cases f with
  | zero => rfl
  | succ f => unfold runU; rw [if_neg h]
/-- one behind the other, where the first is given whole -/
theorem Ran.link {σ ι : Type} {B g d n m : Nat} {S0 : Nat → Prop} {I : ι → σ → World → Prop} {fs : List Step} {j1 j2 : ι} {s s1 s2 : σ} {w w1 w2 : World} (h : Ran B g d S0 I fs n j1 s s1 w w1) (k : ∀ v1 fs1, LogAt B g d v1 (fs ++ fs1) w1 → fs1.length ≤ n → (d = 0 → fs1 = []) → Ran B g d S0 I (fs ++ fs1) m j2 s1 s2 w1 w2) : Ran B g d S0 I fs (n + m) j2 s s2 w w2 := by
  obtain ⟨⟨v1, fs1, l1, n1, p1, z1⟩, i1, g1⟩ := h
  exact Ran.chain n1 p1 z1 g1 (k v1 fs1 l1 n1 z1)
theorem runU_0 {L : Nat → UA} {n f a : Nat} {d : Bool} {s : US} {I : Nat} {Y : Int} (h : a < n) (hX : L a = ⟨0, I, Y⟩) : runU L n (f + 1) a d s = runU L n f (a + 1) d (s.set I Y) := by
  rw [runU, if_pos h, hX]
  rfl
theorem runU_1 {L : Nat → UA} {n f a : Nat} {d : Bool} {s : US} {I : Nat} {Y : Int} (h : a < n) (hX : L a = ⟨1, I, Y⟩) : runU L n (f + 1) a d s = runU L n f (a + 1) d (s.drop I) := by
  rw [runU, if_pos h, hX]
  rfl
theorem runU_2 {L : Nat → UA} {n f a : Nat} {d : Bool} {s : US} {I : Nat} {Y : Int} (h : a < n) (hX : L a = ⟨2, I, Y⟩) : runU L n (f + 1) a d s = runU L n f (runU L n f (a + 1) true s).2.1 d (if (runU L n f (a + 1) true s).1 = true then s else (runU L n f (a + 1) true s).2.2) := by
  rw [runU, if_pos h, hX]
  rfl
theorem runU_3 {L : Nat → UA} {n f a : Nat} {d : Bool} {s : US} {I : Nat} {Y : Int} (h : a < n) (hX : L a = ⟨3, I, Y⟩) : runU L n (f + 1) a d s = if d then (false, a + 1, s) else runU L n f (a + 1) d s := by
  rw [runU, if_pos h, hX]
  rfl
theorem runU_4 {L : Nat → UA} {n f a : Nat} {d : Bool} {s : US} {I : Nat} {Y : Int} (h : a < n) (hX : L a = ⟨4, I, Y⟩) : runU L n (f + 1) a d s = if d then (true, a + 1, s) else runU L n f (a + 1) d s := by
  rw [runU, if_pos h, hX]
  rfl
theorem Ran.nothing {B g d a' : Nat} {tb : Nat} {fs : List Step} {s : US} {w : World} {v : Value} (h : UW g tb a' s w) (l : LogAt B g d v fs w) : Ran B g d (UO g tb) (UW g tb) fs 0 a' s s w w := Ran.none l h
set_option maxRecDepth 100000 in
set_option maxHeartbeats 4000000 in
theorem runOk (B g tb n cap : Nat) (ao : Option Addr) (L : Nat → UA) (F : Nat) (ih : ∀ f, f < F → RunOk B g tb n cap ao L f) : RunOk B g tb n cap ao L F := by
  intro a d v fs s w ha hF hz hf hd hB h hl hA
  have HS0 := Lib.hid (At.start (B := B) (ao := ao) (L := L) ha hF h hl)
  have HA := Lib.hid hA
  have HIh := Lib.hid ih
  have HZ := Lib.hid hz
  have HBs := Lib.hid hB
  have hn := hA.small
  clear h hl hA ih hz hB
  obtain ⟨R, hR⟩ : ∃ R : Ending → World → Prop, RunEnd B g tb n L F a d fs s w = R := ⟨_, rfl⟩
  have HR : Hid (∀ e w', RunEnd B g tb n L F a d fs s w e w' → R e w') := Lib.hid fun e w' r => by rw [← hR]; exact r
  rw [hR]
  clear hR
  go_enter Try.func16, Try.ntmps16
  go_wp2_with fail
  go_loopw [] (fun wx => ∃ a' : Nat, At B g tb n d ao L F a fs s w a' wx) (fun wx => n - (intOf ((wx.cell? ⟨g, 7, none⟩).getD undef)).toNat)
  case atStart => exact ⟨a, HS0.out⟩
  case round =>
    clear HS0
    obtain ⟨a', hAt⟩ := hrel
    obtain ⟨⟨hp1, hp2⟩, f, s', hf1, hf2, hrun, hran⟩ := hAt
    obtain ⟨⟨v1, fs1, l1, n1, p1, z1⟩, u1, g1⟩ := hran
    have e7 := u1.at'
    have HC : Hid (∀ m j2 s2 w2, Ran B g d (UO g tb) (UW g tb) (fs ++ fs1) m j2 s' s2 wr w2 → Ran B g d (UO g tb) (UW g tb) fs (2 * (a' - a) + m) j2 s s2 w w2) := Lib.hid fun m j2 s2 w2 k => Ran.chain n1 p1 z1 g1 k
    by_cases hend : a' < n
    · have i1 : (a' : Int) < (n : Int) := by omega
      have i3 : (0 : Int) ≤ (a' : Int) := by omega
      have i4 : (a' : Int) < 1000 := by omega
      obtain ⟨f', rfl⟩ : ∃ f', f = f' + 1 := ⟨f - 1, by omega⟩
      have hAx := HA.out.kept (Kept.of g1)
      obtain ⟨lb, off, rfl, hu, hbk, hc⟩ := hAx.at' (by omega)
      obtain ⟨k0, k1, k2⟩ := hc a' hend
      obtain ⟨o0, o1, o2, o3, o4⟩ := hAx.ok a' hend
      obtain ⟨X, hX⟩ : ∃ X, L a' = X := ⟨_, rfl⟩
      rw [hX] at k0 k1 k2 o0 o1 o2 o3 o4
      obtain ⟨K, I, Y⟩ := X
      change wr.cell? ⟨lb, off + a' * 3, none⟩ = some (.int .i64 K) at k0
      change wr.cell? ⟨lb, off + a' * 3 + 1, none⟩ = some (.int .i64 (I : Int)) at k1
      change wr.cell? ⟨lb, off + a' * 3 + 2, none⟩ = some (.int .i64 Y) at k2
      change 0 ≤ K at o0
      change K < 5 at o1
      change I < 4 at o2
      change 1 ≤ Y at o3
      change Y ≤ 256 at o4
      obtain ⟨W, hW⟩ : ∃ W, (wr.alloc (.cells #[.int .i64 K, .int .i64 (I : Int), .int .i64 Y] 109)).setCell ⟨g, 7, none⟩ (.int .i64 ((a' : Int) + 1)) = W := ⟨_, rfl⟩
      have hcast : ((a' + 1 : Nat) : Int) = (a' : Int) + 1 := by omega
      have gW : Grew (Mut B (UO g tb) wr) wr W := by rw [← hW]; exact ((Grew.refl wr).alloc _).setCell _ _ fun _ => Or.inl (Or.inl rfl)
      have uW : UW g tb (a' + 1) s' W := by
        rw [← hW, ← hcast]
        exact (u1.alloc _).atTo (a' + 1)
      have lW : LogAt B g d v1 (fs ++ fs1) W := by
        rw [← hW]
        exact (l1.keepAlloc _).field 7 (by decide) _
      have bW : W.heap[wr.heap.size]? = some (.cells #[.int .i64 K, .int .i64 (I : Int), .int .i64 Y] 109) := by
        have hgl := u1.lt
        rw [← hW, Below.heap_setCell _ _ _ _ (by show wr.heap.size ≠ g; omega)]
        exact heap_alloc_new _ _
      have hNx : ¬ UO g tb wr.heap.size := uo_new u1 (Nat.le_refl _)
      have f7 := u1.fr 7
      have HUW := Lib.hid uW
      have HLW := Lib.hid lW
      have HGW := Lib.hid gW
      have HBW := Lib.hid bW
      have HAW := Lib.hid (hAx.kept (Kept.of gW))
      have gA : Grew (fun _ => False) wr (wr.alloc (.cells #[.int .i64 K, .int .i64 (I : Int), .int .i64 Y] 109)) := (Grew.refl wr).alloc _
      have c7 : (wr.alloc (.cells #[.int .i64 K, .int .i64 (I : Int), .int .i64 Y] 109)).cell? ⟨g, 7, none⟩ = some (.int .i64 (a' : Int)) := (gA.cell (p := ⟨g, 7, none⟩) u1.lt fun e => e).trans e7
      have c7' : (wr.alloc (.cells #[.int .i64 K, .int .i64 (I : Int), .int .i64 Y] 109)).frozen? ⟨g, 7, none⟩ = false := (gA.frozen (p := ⟨g, 7, none⟩) u1.lt fun e => e).trans f7
      have t0 : W.cell? ⟨wr.heap.size, 0, none⟩ = some (.int .i64 K) := by simp [World.cell?, bW]
      have HT1 : Hid (W.cell? ⟨wr.heap.size, 1, none⟩ = some (.int .i64 (I : Int)) ∧ W.cell? ⟨wr.heap.size, 2, none⟩ = some (.int .i64 Y)) := Lib.hid (by simp [World.cell?, bW])
      have zz : d = 0 → fs ++ fs1 = [] := fun e => by rw [HZ.out e, z1 e]; rfl
      have ll : (fs ++ fs1).length + 2 * (n - a') ≤ 200 := by rw [List.length_append]; omega
      have hBW : B ≤ W.heap.size := Nat.le_trans HBs.out (Nat.le_trans g1.size gW.size)
      have gD : ∀ wx : World, Grew (Mut B (UO g tb) wx) wx wx.drew := fun wx => (Grew.refl wx).drew
      have j1 : (I : Int) < 4 := by omega
      have j2 : (0 : Int) ≤ (I : Int) := by omega
      have hK : K = 0 ∨ K = 1 ∨ K = 2 ∨ K = 3 ∨ K = 4 := by omega
      rcases hK with rfl | rfl | rfl | rfl | rfl
      · have HArm : Hid (Calls Try.prog 74 #[.pointer (some ⟨g, 0, none⟩), .pointer (some ⟨g, 2 + I, none⟩), .int .i64 Y] W.drew fun e w1 => e = .returned (.tuple #[]) ∧ (w1.drew.cell? ⟨wr.heap.size, 1, none⟩ = some (.int .i64 (I : Int)) ∧ w1.drew.cell? ⟨wr.heap.size, 2, none⟩ = some (.int .i64 Y) ∧ w1.drew.cell? ⟨g, 6, none⟩ = some (.map (some tb))) ∧ Calls Try.prog 76 #[.pointer (some ⟨g, 0, none⟩), .map (some tb), .int .i64 (I : Int), .int .i64 Y] w1.drew fun e w2 => e = .returned (.tuple #[]) ∧ w2.cell? ⟨g, 7, none⟩ = some (.int .i64 ((a' + 1 : Nat) : Int)) ∧ At B g tb n d (some ⟨lb, off, none⟩) L F a fs s w (a' + 1) w2) := Lib.hid (by
          refine (setU B g tb (a' + 1) s' I o2 Y d v1 (fs ++ fs1) W.drew zz (by omega) hBW uW.drew lW.drew').mono ?_
          rintro e w1 ⟨rfl, r1⟩
          have b1 : w1.heap[wr.heap.size]? = some (.cells #[.int .i64 0, .int .i64 (I : Int), .int .i64 Y] 109) := (Kept.of r1.grew _ ⟨hNx, _, _, _, bW, by decide, by decide⟩).trans bW
          obtain ⟨⟨v2, fs2, l2, n2, p2, z2⟩, u2, g2⟩ := r1
          refine ⟨rfl, ⟨by show w1.cell? ⟨wr.heap.size, 1, none⟩ = _; simp [World.cell?, b1], by show w1.cell? ⟨wr.heap.size, 2, none⟩ = _; simp [World.cell?, b1], u2.tp⟩, ?_⟩
          refine (putU B g tb (a' + 1) _ I o2 Y (by omega) (by omega) d v2 ((fs ++ fs1) ++ fs2) w1.drew (fun e => by rw [zz e, z2 e]; rfl) (by rw [List.length_append]; omega) (Nat.le_trans hBW g2.size) u2.drew l2.drew').mono ?_
          rintro e w2 ⟨rfl, r2⟩
          have at2 := r2.st.at'
          have r12 := Ran.chain n2 p2 z2 g2 (r2.after (gD w1))
          have r := HC.out _ _ _ _ ((r12.after (gD W)).after gW)
          refine ⟨rfl, at2, ⟨by omega, by omega⟩, f', _, by omega, by omega, ?_, r.mono (by omega)⟩
          rw [hrun, runU_0 hend hX]
          rfl)
        have t1 : W.drew.cell? ⟨wr.heap.size, 1, none⟩ = some (.int .i64 (I : Int)) := HT1.out.1
        have t2 : W.drew.cell? ⟨wr.heap.size, 2, none⟩ = some (.int .i64 Y) := HT1.out.2
        clear hAx hc hu hbk u1 g1 p1 z1 gW uW lW bW gA zz ll hBW gD HC HT1 HR HIh HZ HBs HA HUW HLW HGW HBW HAW hNx f7
        subst hW
        go_wp2_with fail
        refine wp_region_still_tail 11 (by kernel_rfl) (by kernel_rfl) ?_
        change wpStill _ _ (((wr.alloc (.cells #[.int .i64 0, .int .i64 (I : Int), .int .i64 Y] 109)).setCell ⟨g, 7, none⟩ (.int .i64 ((a' : Int) + 1))).drew) (fun a1 => wpList _ _ _ _ a1 (((wr.alloc (.cells #[.int .i64 0, .int .i64 (I : Int), .int .i64 Y] 109)).setCell ⟨g, 7, none⟩ (.int .i64 ((a' : Int) + 1))).drew)) _ _
        simp only [List.take_succ_cons, List.take_zero, List.drop_succ_cons, List.drop_zero]
        repeat still_step
        refine wpStill_nil ?_
        go_wp2_with fail
        refine HArm.out.mono ?_
        rintro e w1 ⟨rfl, ⟨q1, q2, q3⟩, hput⟩
        have HPut := Lib.hid hput
        clear hput HArm t0 t1 t2
        go_wp2_with fail
        refine wp_region_still_tail 11 (by kernel_rfl) (by kernel_rfl) ?_
        change wpStill _ _ (w1.drew) (fun a1 => wpList _ _ _ _ a1 (w1.drew)) _ _
        simp only [List.take_succ_cons, List.take_zero, List.drop_succ_cons, List.drop_zero]
        repeat still_step
        refine wpStill_nil ?_
        go_wp2_with fail
        refine HPut.out.mono ?_
        rintro e w2 ⟨rfl, q7, hat⟩
        have HAt := Lib.hid hat
        clear hat HPut q1 q2 q3
        go_wp2_with fail
        go_roundw
        case rel => exact ⟨a' + 1, HAt.out⟩
        case measure => rw [e7, q7]; simp [intOf]; omega
      · have HArm : Hid (Calls Try.prog 74 #[.pointer (some ⟨g, 0, none⟩), .pointer (some ⟨g, 2 + I, none⟩), .int .i64 0] W.drew fun e w1 => e = .returned (.tuple #[]) ∧ (w1.drew.cell? ⟨wr.heap.size, 1, none⟩ = some (.int .i64 (I : Int)) ∧ w1.drew.cell? ⟨wr.heap.size, 2, none⟩ = some (.int .i64 Y) ∧ w1.drew.cell? ⟨g, 6, none⟩ = some (.map (some tb))) ∧ Calls Try.prog 77 #[.pointer (some ⟨g, 0, none⟩), .map (some tb), .int .i64 (I : Int)] w1.drew fun e w2 => e = .returned (.tuple #[]) ∧ w2.cell? ⟨g, 7, none⟩ = some (.int .i64 ((a' + 1 : Nat) : Int)) ∧ At B g tb n d (some ⟨lb, off, none⟩) L F a fs s w (a' + 1) w2) := Lib.hid (by
          refine (setU B g tb (a' + 1) s' I o2 0 d v1 (fs ++ fs1) W.drew zz (by omega) hBW uW.drew lW.drew').mono ?_
          rintro e w1 ⟨rfl, r1⟩
          have b1 : w1.heap[wr.heap.size]? = some (.cells #[.int .i64 1, .int .i64 (I : Int), .int .i64 Y] 109) := (Kept.of r1.grew _ ⟨hNx, _, _, _, bW, by decide, by decide⟩).trans bW
          obtain ⟨⟨v2, fs2, l2, n2, p2, z2⟩, u2, g2⟩ := r1
          refine ⟨rfl, ⟨by show w1.cell? ⟨wr.heap.size, 1, none⟩ = _; simp [World.cell?, b1], by show w1.cell? ⟨wr.heap.size, 2, none⟩ = _; simp [World.cell?, b1], u2.tp⟩, ?_⟩
          refine (dropU B g tb (a' + 1) _ I o2 d v2 ((fs ++ fs1) ++ fs2) w1.drew (fun e => by rw [zz e, z2 e]; rfl) (by rw [List.length_append]; omega) (Nat.le_trans hBW g2.size) u2.drew l2.drew').mono ?_
          rintro e w2 ⟨rfl, r2⟩
          have at2 := r2.st.at'
          have r12 := Ran.chain n2 p2 z2 g2 (r2.after (gD w1))
          have r := HC.out _ _ _ _ ((r12.after (gD W)).after gW)
          refine ⟨rfl, at2, ⟨by omega, by omega⟩, f', _, by omega, by omega, ?_, r.mono (by omega)⟩
          rw [hrun, runU_1 hend hX]
          rfl)
        have t1 : W.drew.cell? ⟨wr.heap.size, 1, none⟩ = some (.int .i64 (I : Int)) := HT1.out.1
        have t2 : W.drew.cell? ⟨wr.heap.size, 2, none⟩ = some (.int .i64 Y) := HT1.out.2
        clear hAx hc hu hbk u1 g1 p1 z1 gW uW lW bW gA zz ll hBW gD HC HT1 HR HIh HZ HBs HA HUW HLW HGW HBW HAW hNx f7
        subst hW
        go_wp2_with fail
        refine wp_region_still_tail 9 (by kernel_rfl) (by kernel_rfl) ?_
        change wpStill _ _ (((wr.alloc (.cells #[.int .i64 1, .int .i64 (I : Int), .int .i64 Y] 109)).setCell ⟨g, 7, none⟩ (.int .i64 ((a' : Int) + 1))).drew) (fun a1 => wpList _ _ _ _ a1 (((wr.alloc (.cells #[.int .i64 1, .int .i64 (I : Int), .int .i64 Y] 109)).setCell ⟨g, 7, none⟩ (.int .i64 ((a' : Int) + 1))).drew)) _ _
        simp only [List.take_succ_cons, List.take_zero, List.drop_succ_cons, List.drop_zero]
        repeat still_step
        refine wpStill_nil ?_
        go_wp2_with fail
        refine HArm.out.mono ?_
        rintro e w1 ⟨rfl, ⟨q1, q2, q3⟩, hput⟩
        have HPut := Lib.hid hput
        clear hput HArm t0 t1 t2
        go_wp2_with fail
        refine wp_region_still_tail 9 (by kernel_rfl) (by kernel_rfl) ?_
        change wpStill _ _ (w1.drew) (fun a1 => wpList _ _ _ _ a1 (w1.drew)) _ _
        simp only [List.take_succ_cons, List.take_zero, List.drop_succ_cons, List.drop_zero]
        repeat still_step
        refine wpStill_nil ?_
        go_wp2_with fail
        refine HPut.out.mono ?_
        rintro e w2 ⟨rfl, q7, hat⟩
        have HAt := Lib.hid hat
        clear hat HPut q1 q2 q3
        go_wp2_with fail
        go_roundw
        case rel => exact ⟨a' + 1, HAt.out⟩
        case measure => rw [e7, q7]; simp [intOf]; omega
      · have HArm : Hid (Calls Try.prog 78 #[.pointer (some ⟨g, 0, none⟩), .slice (some ⟨lb, off, none⟩) n cap] W fun e w2 => e = .returned (.tuple #[]) ∧ ∃ a2, a' < a2 ∧ w2.cell? ⟨g, 7, none⟩ = some (.int .i64 ((a2 : Nat) : Int)) ∧ At B g tb n d (some ⟨lb, off, none⟩) L F a fs s w a2 w2) := Lib.hid (by
          obtain ⟨q, hq⟩ : ∃ q, runU L n f' (a' + 1) true s' = q := ⟨_, rfl⟩
          have hps := runU_pos L n f' (a' + 1) true s' hend
          rw [hq] at hps
          refine (tryU B g tb n cap _ L f' (HIh.out f' (by omega)) (a' + 1) d v1 (fs ++ fs1) s' W (by omega) hend (by omega) zz (by omega) (by omega) hBW uW lW HAW.out q hq).mono ?_
          rintro e w2 ⟨rfl, r1⟩
          have at2 := r1.st.at'
          have r := HC.out _ _ _ _ (r1.after gW)
          refine ⟨rfl, q.2.1, by omega, at2, ⟨by omega, hps.2.1⟩, f', _, by omega, by omega, ?_, r.mono (by omega)⟩
          rw [hrun, runU_2 hend hX, hq])
        clear hAx hc hu hbk u1 g1 p1 z1 gW uW lW bW gA zz ll hBW gD HC HT1 HR HIh HZ HBs HA HUW HLW HGW HBW HAW hNx f7
        subst hW
        go_wp2_with fail
        refine HArm.out.mono ?_
        rintro e w2 ⟨rfl, a2, h2, q7, hat⟩
        have HAt := Lib.hid hat
        clear hat HArm t0
        go_wp2_with fail
        go_roundw
        case rel => exact ⟨a2, HAt.out⟩
        case measure => rw [e7, q7]; simp [intOf]; omega
      · have HDp := Lib.hid (deep_any B g d v1 (fs ++ fs1) W lW)
        by_cases hd0 : 0 < d
        · have HFin : Hid (R (.returned (.tuple #[])) W) := Lib.hid (HR.out _ _ (by
            have hdd : decide (0 < d) = true := decide_eq_true hd0
            have hrn : runU L n F a (decide (0 < d)) s = (false, a' + 1, s') := by
              rw [hrun, runU_3 hend hX, if_pos hdd]
            unfold RunEnd
            rw [hrn]
            have r := HC.out _ _ _ _ ((Ran.nothing uW lW).after gW)
            exact ⟨rfl, r.mono (by show 2 * (a' - a) + 0 ≤ 2 * (a' + 1 - a); omega)⟩))
          have i5 : (0 : Int) < (d : Int) := by omega
          clear hAx hc hu hbk u1 g1 p1 z1 gW uW lW bW gA zz ll hBW gD HC HT1 HR HIh HZ HBs HA HUW HLW HGW HBW HAW hNx f7
          subst hW
          go_wp2_with fail
          refine HDp.out.mono ?_
          rintro e w2 ⟨rfl, rfl⟩
          clear HDp
          go_wp2_with fail
          go_end0
          exact HFin.out
        · have HAt : Hid (At B g tb n d (some ⟨lb, off, none⟩) L F a fs s w (a' + 1) W) := Lib.hid (by
            have hdd : decide (0 < d) = false := decide_eq_false hd0
            have r := HC.out _ _ _ _ ((Ran.nothing uW lW).after gW)
            refine ⟨⟨by omega, by omega⟩, f', s', by omega, by omega, ?_, r.mono (by omega)⟩
            rw [hrun, runU_3 hend hX, if_neg (by rw [hdd]; decide)])
          have q7 := uW.at'
          have i5 : ¬ (0 : Int) < (d : Int) := by omega
          clear hAx hc hu hbk u1 g1 p1 z1 gW uW lW bW gA zz ll hBW gD HC HT1 HR HIh HZ HBs HA HUW HLW HGW HBW HAW hNx f7
          subst hW
          go_wp2_with fail
          refine HDp.out.mono ?_
          rintro e w2 ⟨rfl, rfl⟩
          clear HDp
          go_wp2_with fail
          go_roundw
          case rel => exact ⟨a' + 1, HAt.out⟩
          case measure => rw [e7, q7]; simp [intOf]; omega
      · have HDp := Lib.hid (deep_any B g d v1 (fs ++ fs1) W lW)
        by_cases hd0 : 0 < d
        · have HFin : Hid (R (failed 4) W) := Lib.hid (HR.out _ _ (by
            have hdd : decide (0 < d) = true := decide_eq_true hd0
            have hrn : runU L n F a (decide (0 < d)) s = (true, a' + 1, s') := by
              rw [hrun, runU_4 hend hX, if_pos hdd]
            unfold RunEnd
            rw [hrn]
            have r := HC.out _ _ _ _ ((Ran.nothing uW lW).after gW)
            exact ⟨rfl, r.mono (by show 2 * (a' - a) + 0 ≤ 2 * (a' + 1 - a); omega)⟩))
          have i5 : (0 : Int) < (d : Int) := by omega
          have HFl := Lib.hid (fail_any 4 W)
          clear hAx hc hu hbk u1 g1 p1 z1 gW uW lW bW gA zz ll hBW gD HC HT1 HR HIh HZ HBs HA HUW HLW HGW HBW HAW hNx f7
          subst hW
          go_wp2_with fail
          refine HDp.out.mono ?_
          rintro e w2 ⟨rfl, rfl⟩
          clear HDp
          go_wp2_with fail
          refine HFl.out.mono ?_
          rintro e w3 ⟨rfl, rfl⟩
          unfold failed at HFin ⊢
          go_wp2_with fail
          exact ⟨rfl, HFin.out⟩
        · have HAt : Hid (At B g tb n d (some ⟨lb, off, none⟩) L F a fs s w (a' + 1) W) := Lib.hid (by
            have hdd : decide (0 < d) = false := decide_eq_false hd0
            have r := HC.out _ _ _ _ ((Ran.nothing uW lW).after gW)
            refine ⟨⟨by omega, by omega⟩, f', s', by omega, by omega, ?_, r.mono (by omega)⟩
            rw [hrun, runU_4 hend hX, if_neg (by rw [hdd]; decide)])
          have q7 := uW.at'
          have i5 : ¬ (0 : Int) < (d : Int) := by omega
          clear hAx hc hu hbk u1 g1 p1 z1 gW uW lW bW gA zz ll hBW gD HC HT1 HR HIh HZ HBs HA HUW HLW HGW HBW HAW hNx f7
          subst hW
          go_wp2_with fail
          refine HDp.out.mono ?_
          rintro e w2 ⟨rfl, rfl⟩
          clear HDp
          go_wp2_with fail
          go_roundw
          case rel => exact ⟨a' + 1, HAt.out⟩
          case measure => rw [e7, q7]; simp [intOf]; omega
    · have i1 : ¬ (a' : Int) < (n : Int) := by omega
      have hFin : R (.returned (.tuple #[])) wr := HR.out _ _ (by
        unfold RunEnd
        rw [hrun, runU_end hend]
        exact ⟨rfl, HC.out 0 a' s' wr ⟨⟨v1, [], by rw [List.append_nil]; exact l1, Nat.le_refl _, fun _ _ => Path.nil _ _, fun _ => rfl⟩, u1, Grew.refl _⟩⟩)
      have HF := Lib.hid hFin
      clear hFin HC HR HIh
      go_wp2_with fail
      go_end0
      exact HF.out
theorem runAll (B g tb n cap : Nat) (ao : Option Addr) (L : Nat → UA) (F : Nat) : RunOk B g tb n cap ao L F :=
  Nat.strongRecOn F fun F ih => runOk B g tb n cap ao L F ih
end Go.Proofs.Ytemnkffaapljpaa
