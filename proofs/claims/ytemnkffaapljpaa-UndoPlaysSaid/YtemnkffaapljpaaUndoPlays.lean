/-
  UndoPlays: for every list the law answers true.
-/
import Derived.Test.YtemnkffaapljpaaUPlayA
import Derived.Test.YtemnkffaapljpaaUPlayF
import Derived.Laws.StructEq
import Derived.ChangeKeysEq
namespace Go.Proofs.Ytemnkffaapljpaa
open Go.RowKit Go.Maps Go.ChangeMaps Go.WideShapes
theorem plainIntU : Try.prog.plainKey 3 = true := by kernel_rfl
theorem itemsU (d : Nat) (f : Nat → Int) (xs : Array Value) (w : World) : ∀ is : List Nat, (∀ i ∈ is, xs[i]? = some (.int .i64 (f i))) → (Op.eqItems (d + 1) 3 1 xs xs is).run Try.prog w = .ok true w
  | [], _ => by simp [Op.eqItems]
  | i :: is, hx => by
    have ih := itemsU d f xs w is (fun j hj => hx j (List.mem_cons_of_mem _ hj))
    have p1 := run_part_plain (P := Try.prog) w plainIntU (off := i * 1) (by rw [Nat.mul_one]; exact hx i (List.mem_cons_self))
    have p3 := run_equalIn_int (P := Try.prog) w d 3 .i64 .i64 (f i) (f i) Try.underlying3
    simp only [Op.eqItems, Sem.run_bind, p1, p3, Result.andThen_ok, beq_self_eq_true]
    simpa using ih
theorem neqU (c : Nat → Int) (w : World) : (binOp .neq 31 (.agg #[.int .i64 (c 0), .int .i64 (c 1), .int .i64 (c 2), .int .i64 (c 3)]) (.agg #[.int .i64 (c 0), .int .i64 (c 1), .int .i64 (c 2), .int .i64 (c 3)])).run Try.prog w = .ok (.bool false) w := by
  obtain ⟨i, hi⟩ : ∃ i, Try.prog.info? 3 = some i := info_of_underlying Try.underlying3
  have e : Try.prog.cellsOf 3 = 1 := by kernel_rfl
  have z := itemsU 9998 c #[.int .i64 (c 0), .int .i64 (c 1), .int .i64 (c 2), .int .i64 (c 3)] w (List.range 4) (fun j hj => by
    have h : j < 4 := by simpa using hj
    have : j = 0 ∨ j = 1 ∨ j = 2 ∨ j = 3 := by omega
    rcases this with rfl | rfl | rfl | rfl <;> rfl)
  rw [run_neq_struct, run_equalIn_array (P := Try.prog) w 9999 (e := 3) (n := 4) (i := i) _ _ Try.underlying31 hi, e, z]
  rfl
theorem neqGuardU (c : Nat → Int) (x y : Operand) (w : World) : (eqGuard .neq 31 x y (.agg #[.int .i64 (c 0), .int .i64 (c 1), .int .i64 (c 2), .int .i64 (c 3)]) (.agg #[.int .i64 (c 0), .int .i64 (c 1), .int .i64 (c 2), .int .i64 (c 3)])).run Try.prog w = .ok () w :=
  run_eqGuard_agg (P := Try.prog) w .neq 31 x y _ _ (by kernel_rfl)
theorem indexU (c : Nat → Int) (k : Nat) (hk : k < 4) (w : World) : (Instr.index 35 (.agg #[.int .i64 (c 0), .int .i64 (c 1), .int .i64 (c 2), .int .i64 (c 3)]) (.int .i64 (k : Int))).run Try.prog w = .ok (.int .i64 (c k)) w := by
  obtain ⟨i, hi⟩ : ∃ i, Try.prog.info? 3 = some i := info_of_underlying Try.underlying3
  have e : Try.prog.cellsOf 3 = 1 := by kernel_rfl
  have hs := run_sizeOf (P := Try.prog) w hi
  rw [e] at hs
  have hx : (#[Value.int .i64 (c 0), .int .i64 (c 1), .int .i64 (c 2), .int .i64 (c 3)])[k]? = some (.int .i64 (c k)) := by
    have : k = 0 ∨ k = 1 ∨ k = 2 ∨ k = 3 := by omega
    rcases this with rfl | rfl | rfl | rfl <;> rfl
  have p := run_part_plain (P := Try.prog) w plainIntU (off := k) hx
  generalize (#[Value.int .i64 (c 0), .int .i64 (c 1), .int .i64 (c 2), .int .i64 (c 3)]) = X at *
  simp [Instr.index, asIntOf, run_underlying Try.underlying35, hs, p]
  omega
def us0 : US := ⟨fun _ => 0, fun _ => none⟩
theorem us0_same : us0.same := ⟨fun _ _ => Int.le_refl 0, fun _ _ => rfl⟩
/-- the law's block, just made -/
def wbox (tb : Nat) : Obj := .cells #[.int .i64 0, .slice none 0 0, .int .i64 0, .int .i64 0, .int .i64 0, .int .i64 0, .map (some tb), .int .i64 0, .bool true, .int .i64 0] 33
theorem uw_made (w : World) : UW (w.heap.size + 1) w.heap.size 0 us0 ((w.alloc (.map #[] 0)).alloc (wbox w.heap.size)) ∧ LogAt (w.heap.size + 2) (w.heap.size + 1) 0 (.slice none 0 0) [] ((w.alloc (.map #[] 0)).alloc (wbox w.heap.size)) := by
  have s1 : (w.alloc (.map #[] 0)).heap.size = w.heap.size + 1 := by simp
  have hb : ((w.alloc (.map #[] 0)).alloc (wbox w.heap.size)).heap[w.heap.size + 1]? = some (wbox w.heap.size) := by
    rw [← s1]
    exact heap_alloc_new _ _
  have hT : Tab (tblII Try.prog) w.heap.size (fun _ => none) keys4 ((w.alloc (.map #[] 0)).alloc (wbox w.heap.size)) :=
    (Tab.made (tblII Try.prog) keys4 w).keep ((Grew.refl (S := fun _ => False) _).alloc _) fun e => e
  generalize (w.alloc (.map #[] 0)).alloc (wbox w.heap.size) = W at *
  unfold wbox at hb
  have fr : ∀ o, W.frozen? ⟨w.heap.size + 1, o, none⟩ = false := fun o => by simp [World.frozen?, hb]
  refine ⟨⟨fun i hi => ?_, by simp [World.cell?, hb], by simp [World.cell?, hb], by simp [World.cell?, hb], ⟨0, by simp [World.cell?, hb]⟩, fr, hT, by omega⟩, ⟨by simp [World.cell?, hb], by simp [World.cell?, hb], fr 0, fr 1, ⟨rfl, Or.inl ⟨rfl, rfl⟩⟩, ⟨_, _, _, hb, by decide⟩⟩⟩
  have : i = 0 ∨ i = 1 ∨ i = 2 ∨ i = 3 := by omega
  rcases this with rfl | rfl | rfl | rfl <;> simp [World.cell?, hb, us0]
theorem acts_at {w w' : World} {ao : Option Addr} {n cap : Nat} {R : Nat → RA} {B g tb : Nat} (hn : n ≤ 40) (ho : w'.ownsRow B 109 3 (.slice ao n cap) n (actsL R n)) (hg : w'.heap.size ≤ g) (ht : w'.heap.size ≤ tb) (k : ∀ q, q < w'.heap.size → w.heap[q]? = w'.heap[q]?) : AsAt g tb ao n (fun j => actU (R j)) w := by
  refine ⟨hn, fun j _ => ?_, fun h0 => ?_⟩
  · obtain ⟨a, b, c, d, e, _⟩ := actU_ok (R j)
    exact ⟨a, b, c, d, e⟩
  · rcases ho.2 with ⟨_, e⟩ | ⟨b, cap', cur, e, a1, a2, _⟩
    · omega
    · cases e
      have hlt := (ho.lt b rfl).2
      have e2 := k b hlt
      have hc : ∀ j, w.cell? ⟨b, j, none⟩ = w'.cell? ⟨b, j, none⟩ := fun j => by simp [World.cell?, e2]
      refine ⟨b, 0, rfl, fun e => ?_, ⟨_, _, e2.trans a2⟩, fun j hj => ?_⟩
      · rcases e with e | e <;> omega
      · obtain ⟨x0, x1, x2⟩ := actsL_at R n j hj
        rw [Nat.zero_add]
        exact ⟨by rw [hc, ho.cellAt _ (by omega)]; exact x0, by rw [hc, ho.cellAt _ (by omega)]; exact x1, by rw [hc, ho.cellAt _ (by omega)]; exact x2⟩
theorem AsAt.acts {g tb : Nat} {ao : Option Addr} {n : Nat} {L : Nat → UA} {w : World} (h : AsAt g tb ao n L w) : Acts ao n L w := by
  refine ⟨h.small, h.ok, fun h0 => ?_⟩
  obtain ⟨lb, off, e, _, _, hc⟩ := h.at' h0
  exact ⟨lb, off, e, hc⟩
set_option maxRecDepth 100000 in
set_option maxHeartbeats 4000000 in
theorem undoPlays_walk (a1 : Option Addr) (l1 c1 : Nat) (R : Nat → RA) (w : World) (hR : RawsAt w a1 l1 R) :
    Calls Try.prog 3 #[.slice a1 l1 c1] w fun e w' => e = .returned (.bool true) ∧ Below w.heap.size w w' := by
  have hmm := @run_makeMap Try.prog
  have HR := Lib.hid hR
  clear hR
  go_enter Try.func3, Try.ntmps3
  go_wp2_with fail
  refine (undoAwake _).mono ?_
  rintro e w1 ⟨rfl, hB⟩
  have HB := Lib.hid hB
  clear hB
  go_wp2_with fail
  refine (acts_any a1 l1 c1 R w1 (HR.out.below HB.out)).mono ?_
  rintro e w2 ⟨ao, n, cap, rfl, hn, hown, hb2⟩
  have HAs : Hid (∀ W, (∀ q, q < w2.heap.size → W.heap[q]? = w2.heap[q]?) → AsAt (w2.heap.size + 1) w2.heap.size ao n (fun j => actU (R j)) W) := Lib.hid fun W k => acts_at hn hown (by omega) (Nat.le_refl _) k
  have HB2 : Hid (Below w.heap.size w w2) := Lib.hid (HB.out.trans (hb2.mono HB.out.size))
  generalize (fun j => actU (R j)) = L at *
  clear hown hb2 HR HB
  have HRun : Hid (Calls Try.prog 16 #[.pointer (some ⟨w2.heap.size + 1, 0, none⟩), .slice ao n cap] ((w2.alloc (.map #[] 0)).alloc (wbox w2.heap.size)) fun e w3 => e = .returned (.tuple #[]) ∧ ∃ (s : US) (a : Nat) (v : Value), s.same ∧ s.c = playU L n n 0 (fun _ => 0) [] ∧ UW (w2.heap.size + 1) w2.heap.size a s w3 ∧ LogAt (w2.heap.size + 2) (w2.heap.size + 1) 0 v [] w3 ∧ Acts ao n L w3 ∧ Below w.heap.size w w3) := Lib.hid (by
    obtain ⟨hu, hl⟩ := uw_made w2
    have gW : Grew (fun _ => False) w2 ((w2.alloc (.map #[] 0)).alloc (wbox w2.heap.size)) := ((Grew.refl w2).alloc _).alloc _
    have sW : ((w2.alloc (.map #[] 0)).alloc (wbox w2.heap.size)).heap.size = w2.heap.size + 2 := by simp
    have hA := HAs.out _ fun q hq => gW.block q hq fun e => e
    refine (runAll (w2.heap.size + 2) (w2.heap.size + 1) w2.heap.size n cap ao L n 0 0 (.slice none 0 0) [] us0 _ (Nat.zero_le _) (by omega) (fun _ => rfl) (by simp; omega) (by omega) (by omega) hu hl hA).mono ?_
    rintro e w3 ⟨rfl, hr⟩
    have hd : decide (0 < 0) = false := rfl
    rw [hd] at hr ⊢
    have hp := runU_pos L n n 0 false us0 (Nat.zero_le _)
    have h1 : ¬ (runU L n n 0 false us0).1 = true := fun e => by have := (hp.2.2 e).1; cases this
    rw [if_neg h1]
    obtain ⟨⟨v, fs', hl3, _, _, hz⟩, hu3, hg3⟩ := hr
    have hz := hz rfl
    subst hz
    have hb3 : Below w.heap.size w w3 := by
      have b2 : Below w.heap.size w ((w2.alloc (.map #[] 0)).alloc (wbox w2.heap.size)) := gW.below HB2.out HB2.out.size fun _ e => e.elim
      have z := HB2.out.size
      refine hg3.below b2 b2.size fun q m => ?_
      rcases m with (m | m) | ⟨hB, _⟩ <;> omega
    have hL : ∀ j, j < n → 1 ≤ (L j).t := fun j hj => (hA.ok j hj).2.2.2.1
    exact ⟨rfl, _, _, v, runU_same L n hL n 0 false us0 us0_same, ((runU_play L n n 0 us0 (fun _ => 0) [] n (Nat.zero_le _) (by omega) (by omega)).2 rfl).symm, hu3, hl3, (hA.kept (Kept.of hg3)).acts, hb3⟩)
  unfold wbox at HRun
  clear HAs HB2
  go_wp2_with fail
  refine HRun.out.mono ?_
  rintro e w3 ⟨rfl, s, a, v, hsame, hpl, hu, hl, hA, hb3⟩
  generalize w2.heap.size = tb at *
  clear HRun
  have HU3 := Lib.hid hu
  have HL3 := Lib.hid hl
  have HB3 := Lib.hid hb3
  have HS := Lib.hid hsame
  have HPl := Lib.hid hpl
  have HA := Lib.hid hA
  clear hu hl hb3 hsame hpl hA
  go_wp2_with fail
  refine (play_any ao n cap L w3 HA.out).mono ?_
  rintro e w4 ⟨c, rfl, hc, hb4⟩
  have hcs : c = s.c := hc.trans HPl.out.symm
  subst hcs
  have g4 : Grew (fun _ => False) w3 w4 := Grew.of_below hb4
  have HU4 := Lib.hid (HU3.out.keep g4 (fun e => e) fun e => e)
  have HL4 := Lib.hid (HL3.out.keep g4 (fun e => e) fun _ _ e => e)
  have HB4 := Lib.hid (HB3.out.trans (hb4.mono HB3.out.size))
  clear hc hb4 g4 HU3 HL3 HB3 HPl HA
  obtain ⟨W, hW⟩ : ∃ W, w4.alloc (.cells #[.int .i64 (s.c 0), .int .i64 (s.c 1), .int .i64 (s.c 2), .int .i64 (s.c 3)] 35) = W := ⟨_, rfl⟩
  have bW : W.heap[w4.heap.size]? = some (.cells #[.int .i64 (s.c 0), .int .i64 (s.c 1), .int .i64 (s.c 2), .int .i64 (s.c 3)] 35) := by rw [← hW]; exact heap_alloc_new _ _
  have hU : UW (tb + 1) tb a s W := by rw [← hW]; exact HU4.out.alloc _
  have hL : LogAt (tb + 2) (tb + 1) 0 v [] W := by rw [← hW]; exact HL4.out.keepAlloc _
  have HBW : Hid (Below w.heap.size w W) := Lib.hid (by rw [← hW]; exact HB4.out.alloc HB4.out.size _)
  have hU := hU.drew
  have HDe := Lib.hid (deep_still _ _ 0 v [] W.drew hL.drew')
  have x8 := hU.fine
  have x2 := hU.cell 0 (by decide)
  have x3 := hU.cell 1 (by decide)
  have x4 := hU.cell 2 (by decide)
  have x5 := hU.cell 3 (by decide)
  have x6 := hU.tp
  have y0 : W.drew.cell? ⟨w4.heap.size, 0, none⟩ = some (.int .i64 (s.c 0)) := by show W.cell? ⟨w4.heap.size, 0, none⟩ = _; simp [World.cell?, bW]
  have y1 : W.drew.cell? ⟨w4.heap.size, 1, none⟩ = some (.int .i64 (s.c 1)) := by show W.cell? ⟨w4.heap.size, 1, none⟩ = _; simp [World.cell?, bW]
  have y2 : W.drew.cell? ⟨w4.heap.size, 2, none⟩ = some (.int .i64 (s.c 2)) := by show W.cell? ⟨w4.heap.size, 2, none⟩ = _; simp [World.cell?, bW]
  have y3 : W.drew.cell? ⟨w4.heap.size, 3, none⟩ = some (.int .i64 (s.c 3)) := by show W.cell? ⟨w4.heap.size, 3, none⟩ = _; simp [World.cell?, bW]
  have HLk : Hid (∀ k : Nat, k < 4 → (Instr.lookup 27 (.map (some tb)) (.int .i64 (k : Int)) true).run Try.prog W.drew = .ok (.tuple #[.int .i64 (s.c k), .bool (decide (0 < s.c k))]) W.drew) := Lib.hid fun k hk => by
    have h := hU.tab.look tblII_fine (k : Int) (wf_small _ (by omega) (by omega))
    rw [HS.out.2 k hk] at h
    have h0 := HS.out.1 k hk
    by_cases e : s.c k = 0
    · rw [if_pos e] at h
      rw [e]
      exact h
    · rw [if_neg e] at h
      rw [decide_eq_true (show (0 : Int) < s.c k by omega)]
      exact h
  have hne := neqU s.c
  have hng := neqGuardU s.c
  clear hU hL bW HU4 HL4 HB4
  go_wp2_with fail
  clear hW
  generalize w4.heap.size = b5 at *
  refine wp_region_still_lit (by kernel_rfl) (by kernel_rfl) ?_
  change wpStill _ _ (W.drew) _ _ _
  repeat (first | still_step | still_call HDe.out)
  refine wpStill_nil ?_
  go_wp2_with fail
  clear x8 x2 x3 x4 x5 y0 y1 y2 y3 hne hng HDe hU
  go_loopw [43] (fun i wx => ∃ k : Nat, k ≤ 4 ∧ i = .int .i64 (k : Int) ∧ wx = W.drew) (fun i _ => 4 - (intOf i).toNat)
  case atStart => exact ⟨0, by decide, rfl, rfl⟩
  case round =>
    obtain ⟨k, hk4, rfl, rfl⟩ := hrel
    have hk5 : k = 0 ∨ k = 1 ∨ k = 2 ∨ k = 3 ∨ k = 4 := by omega
    rcases hk5 with rfl | rfl | rfl | rfl | rfl
    · have hk := HLk.out 0 (by decide)
      have hk : (Instr.lookup 27 (.map (some tb)) (.int .i64 0) true).run Try.prog W.drew = .ok (.tuple #[.int .i64 (s.c 0), .bool (decide (0 < s.c 0))]) W.drew := hk
      have hix : ∀ wx : World, (Instr.index 35 (.agg #[.int .i64 (s.c 0), .int .i64 (s.c 1), .int .i64 (s.c 2), .int .i64 (s.c 3)]) (.int .i64 0)).run Try.prog wx = .ok (.int .i64 (s.c 0)) wx := indexU s.c 0 (by decide)
      have hp := HS.out.1 0 (by decide)
      rcases Int.lt_or_eq_of_le hp with h0 | h0
      · rw [decide_eq_true h0] at hk
        go_wp2_with fail
        go_roundw
        case rel => exact ⟨0 + 1, by decide, rfl, trivial⟩
        case measure => simp [intOf]
      · have h0' := h0.symm
        have hk0 : (Instr.lookup 27 (.map (some tb)) (.int .i64 0) true).run Try.prog W.drew = .ok (.tuple #[.int .i64 0, .bool false]) W.drew := by
          have h := hk
          rw [h0'] at h
          exact h
        have hix0 : ∀ wx : World, (Instr.index 35 (.agg #[.int .i64 (s.c 0), .int .i64 (s.c 1), .int .i64 (s.c 2), .int .i64 (s.c 3)]) (.int .i64 0)).run Try.prog wx = .ok (.int .i64 0) wx := fun wx => (hix wx).trans (by rw [h0'])
        clear hk hix h0 h0' hp
        go_wp2_with fail
        go_roundw
        case rel => exact ⟨0 + 1, by decide, rfl, trivial⟩
        case measure => simp [intOf]
    · have hk := HLk.out 1 (by decide)
      have hk : (Instr.lookup 27 (.map (some tb)) (.int .i64 1) true).run Try.prog W.drew = .ok (.tuple #[.int .i64 (s.c 1), .bool (decide (0 < s.c 1))]) W.drew := hk
      have hix : ∀ wx : World, (Instr.index 35 (.agg #[.int .i64 (s.c 0), .int .i64 (s.c 1), .int .i64 (s.c 2), .int .i64 (s.c 3)]) (.int .i64 1)).run Try.prog wx = .ok (.int .i64 (s.c 1)) wx := indexU s.c 1 (by decide)
      have hp := HS.out.1 1 (by decide)
      rcases Int.lt_or_eq_of_le hp with h0 | h0
      · rw [decide_eq_true h0] at hk
        go_wp2_with fail
        go_roundw
        case rel => exact ⟨1 + 1, by decide, rfl, trivial⟩
        case measure => simp [intOf]
      · have h0' := h0.symm
        have hk0 : (Instr.lookup 27 (.map (some tb)) (.int .i64 1) true).run Try.prog W.drew = .ok (.tuple #[.int .i64 0, .bool false]) W.drew := by
          have h := hk
          rw [h0'] at h
          exact h
        have hix0 : ∀ wx : World, (Instr.index 35 (.agg #[.int .i64 (s.c 0), .int .i64 (s.c 1), .int .i64 (s.c 2), .int .i64 (s.c 3)]) (.int .i64 1)).run Try.prog wx = .ok (.int .i64 0) wx := fun wx => (hix wx).trans (by rw [h0'])
        clear hk hix h0 h0' hp
        go_wp2_with fail
        go_roundw
        case rel => exact ⟨1 + 1, by decide, rfl, trivial⟩
        case measure => simp [intOf]
    · have hk := HLk.out 2 (by decide)
      have hk : (Instr.lookup 27 (.map (some tb)) (.int .i64 2) true).run Try.prog W.drew = .ok (.tuple #[.int .i64 (s.c 2), .bool (decide (0 < s.c 2))]) W.drew := hk
      have hix : ∀ wx : World, (Instr.index 35 (.agg #[.int .i64 (s.c 0), .int .i64 (s.c 1), .int .i64 (s.c 2), .int .i64 (s.c 3)]) (.int .i64 2)).run Try.prog wx = .ok (.int .i64 (s.c 2)) wx := indexU s.c 2 (by decide)
      have hp := HS.out.1 2 (by decide)
      rcases Int.lt_or_eq_of_le hp with h0 | h0
      · rw [decide_eq_true h0] at hk
        go_wp2_with fail
        go_roundw
        case rel => exact ⟨2 + 1, by decide, rfl, trivial⟩
        case measure => simp [intOf]
      · have h0' := h0.symm
        have hk0 : (Instr.lookup 27 (.map (some tb)) (.int .i64 2) true).run Try.prog W.drew = .ok (.tuple #[.int .i64 0, .bool false]) W.drew := by
          have h := hk
          rw [h0'] at h
          exact h
        have hix0 : ∀ wx : World, (Instr.index 35 (.agg #[.int .i64 (s.c 0), .int .i64 (s.c 1), .int .i64 (s.c 2), .int .i64 (s.c 3)]) (.int .i64 2)).run Try.prog wx = .ok (.int .i64 0) wx := fun wx => (hix wx).trans (by rw [h0'])
        clear hk hix h0 h0' hp
        go_wp2_with fail
        go_roundw
        case rel => exact ⟨2 + 1, by decide, rfl, trivial⟩
        case measure => simp [intOf]
    · have hk := HLk.out 3 (by decide)
      have hk : (Instr.lookup 27 (.map (some tb)) (.int .i64 3) true).run Try.prog W.drew = .ok (.tuple #[.int .i64 (s.c 3), .bool (decide (0 < s.c 3))]) W.drew := hk
      have hix : ∀ wx : World, (Instr.index 35 (.agg #[.int .i64 (s.c 0), .int .i64 (s.c 1), .int .i64 (s.c 2), .int .i64 (s.c 3)]) (.int .i64 3)).run Try.prog wx = .ok (.int .i64 (s.c 3)) wx := indexU s.c 3 (by decide)
      have hp := HS.out.1 3 (by decide)
      rcases Int.lt_or_eq_of_le hp with h0 | h0
      · rw [decide_eq_true h0] at hk
        go_wp2_with fail
        go_roundw
        case rel => exact ⟨3 + 1, by decide, rfl, trivial⟩
        case measure => simp [intOf]
      · have h0' := h0.symm
        have hk0 : (Instr.lookup 27 (.map (some tb)) (.int .i64 3) true).run Try.prog W.drew = .ok (.tuple #[.int .i64 0, .bool false]) W.drew := by
          have h := hk
          rw [h0'] at h
          exact h
        have hix0 : ∀ wx : World, (Instr.index 35 (.agg #[.int .i64 (s.c 0), .int .i64 (s.c 1), .int .i64 (s.c 2), .int .i64 (s.c 3)]) (.int .i64 3)).run Try.prog wx = .ok (.int .i64 0) wx := fun wx => (hix wx).trans (by rw [h0'])
        clear hk hix h0 h0' hp
        go_wp2_with fail
        go_roundw
        case rel => exact ⟨3 + 1, by decide, rfl, trivial⟩
        case measure => simp [intOf]
    · go_wp2_with fail
      go_ret
      exact ⟨rfl, HBW.out.drew⟩
end Go.Proofs.Ytemnkffaapljpaa
