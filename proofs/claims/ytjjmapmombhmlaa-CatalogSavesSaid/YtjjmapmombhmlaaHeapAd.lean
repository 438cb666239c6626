/-
  A heap outside of a Try: More, Adopt: contracts (written by gen_had.py).
-/
import Derived.Test.YtjjmapmombhmlaaHeapFn
import Derived.StillTailTactics
namespace Go.Proofs.Ytjjmapmombhmlaa
open Go.RowKit Go.Maps Go.ChangeMaps Go.WideShapes

theorem wf_small (x : Int) (h0 : 0 ≤ x) (h1 : x < 1000000) : (Lit.int .i64 x).wf = true := WalkArith.wf_i64 (by omega)
set_option maxRecDepth 10000 in
set_option maxHeartbeats 1000000 in
theorem more0_any (b : HB) (ok : b.ok) (s : HS) (i r : Nat) (hi : i < b.n) (hs : s.S i = 1) (hr : s.R ((b.f + i : Nat) : Int) = some (r : Int)) (hrb : r < 10000) (v : Value) (w : World) (h : HeapI b s w) (hl : LogAt b.B b.g 0 v [] w) : Calls Try.prog 63 #[.pointer (some ⟨b.hb, 0, none⟩), .int .i64 ((b.f + i : Nat) : Int)] w fun e w' => e = .returned (.tuple #[]) ∧ HeapI b { s with R := upF s.R ((b.f + i : Nat) : Int) (some ((r + 1 : Nat) : Int)) } w' ∧ Grew (fun q => q = b.rb) w w' := by
  have HN := Lib.hid (needHeld_ok b ok s i hi hs w h)
  have hd2 := h.drew.drew
  have ld2 := hl.drew'.drew'
  have c1 := hd2.c1
  have c3 := hd2.c3
  have ct := hd2.rf
  have wk : (Lit.int .i64 ((b.f + i : Nat) : Int)).wf = true := wf_small _ (by omega) (by have := ok.f; have := ok.n; omega)
  have hb := b.keys_mem i hi
  have HLk : Hid (∀ wz, Tab (tblII Try.prog) b.rb s.R b.keys wz → (Instr.lookup 27 (.map (some b.rb)) (.int .i64 ((b.f + i : Nat) : Int)) false).run Try.prog wz = .ok (.int .i64 (r : Int)) wz) := Lib.hid fun wz hz => by
    have := hz.look1 tblII_fine _ wk
    rw [hr] at this
    exact this
  have HPut : Hid (Calls Try.prog 55 #[.pointer (some ⟨b.g, 0, none⟩), .map (some b.rb), .int .i64 ((b.f + i : Nat) : Int), .int .i64 ((r : Int) + 1)] w.drew.drew fun e w' => e = .returned (.tuple #[]) ∧ Tab (tblII Try.prog) b.rb (upF s.R ((b.f + i : Nat) : Int) (some ((r : Int) + 1))) b.keys w' ∧ Grew (fun q => q = b.rb) w.drew.drew w') := Lib.hid (put0II b.B b.g b.rb v [] s.R b.keys (by rw [b.keys_len]; have := ok.n; omega) _ _ _ ld2 ct wk (wf_small _ (by omega) (by omega)) hb)
  have HS2 : Hid (∀ w2, Tab (tblII Try.prog) b.rb (upF s.R ((b.f + i : Nat) : Int) (some ((r : Int) + 1))) b.keys w2 → Grew (fun q => q = b.rb) w.drew.drew w2 → HeapI b { s with R := upF s.R ((b.f + i : Nat) : Int) (some ((r : Int) + 1)) } w2) := Lib.hid fun w2 hT hg => hd2.refs ok hT hg
  have e3 : (r : Int) + 1 = ((r + 1 : Nat) : Int) := rfl
  have hw : IntKind.i64.wrap ((r : Int) + 1) = (r : Int) + 1 := IntWalk.i64_in _ (by omega)
  clear h hl hd2 ld2 wk hb hs hr
  rw [← e3]
  clear e3
  generalize b.f + i = T at *
  go_enter Try.func63, Try.ntmps63
  go_wp2_with fail
  refine HN.out.mono ?_
  rintro e w' ⟨rfl, rfl⟩
  clear HN
  go_upto_region 1 with fail
  have hlk := HLk.out w.drew.drew ct
  refine wp_region_still_tail 16 (by kernel_rfl) (by kernel_rfl) ?_
  change wpStill _ _ w.drew.drew (fun a' => wpList _ _ _ _ a' w.drew.drew) _ _
  simp only [List.take_succ_cons, List.take_zero, List.drop_succ_cons, List.drop_zero]
  repeat still_step
  refine wpStill_nil ?_
  go_wp2_with fail
  refine HPut.out.mono ?_
  rintro e w2 ⟨rfl, hT2, hg2⟩
  have HT2 := Lib.hid hT2
  have HG2 := Lib.hid hg2
  clear hT2 hg2
  go_wp2_with fail
  go_end0
  exact ⟨rfl, HS2.out _ HT2.out HG2.out, ((Grew.refl w).drew.drew).trans HG2.out⟩
set_option maxRecDepth 10000 in
set_option maxHeartbeats 1000000 in
/-- a sector that was free is wanted by one: outside of a Try -/
theorem first0_any (b : HB) (ok : b.ok) (s : HS) (i : Nat) (hi : i < b.n) (v : Value) (w : World) (h : HeapI b s w) (hl : LogAt b.B b.g 0 v [] w) : Calls Try.prog 65 #[.pointer (some ⟨b.hb, 0, none⟩), .int .i64 ((b.f + i : Nat) : Int)] w fun e w' => e = .returned (.tuple #[]) ∧ HeapI b { s with R := upF s.R ((b.f + i : Nat) : Int) (some 1) } w' ∧ Grew (fun q => q = b.rb) w w' := by
  have hmf : ∀ (fn : Fn) (first cap : Array Value) (w : World), (Instr.makeFunc fn first cap).run Try.prog w = .ok (.func fn first cap) w := fun _ _ _ _ => rfl
  have wk : (Lit.int .i64 ((b.f + i : Nat) : Int)).wf = true := wf_small _ (by omega) (by have := ok.f; have := ok.n; omega)
  have hb := b.keys_mem i hi
  generalize ((b.f + i : Nat) : Int) = T at *
  obtain ⟨W, hW⟩ : ∃ W, (w.alloc (.cells #[.pointer (some ⟨b.hb, 0, none⟩)] 43)).alloc (.cells #[.int .i64 T] 3) = W := ⟨_, rfl⟩
  have g0 : Grew (fun _ => False) w W := by rw [← hW]; exact ((Grew.refl w).alloc _).alloc _
  have hI : HeapI b s W := by rw [← hW]; exact (h.alloc _).alloc _
  have hL : LogAt b.B b.g 0 v [] W := hl.keep g0 (fun e => e) fun _ _ e => e
  have d1 : W.cell? ⟨w.heap.size, 0, none⟩ = some (.pointer (some ⟨b.hb, 0, none⟩)) := by rw [← hW]; exact boxOld (boxNew rfl) (by simp)
  have d2 : W.cell? ⟨w.heap.size + 1, 0, none⟩ = some (.int .i64 T) := by rw [← hW]; exact boxNew (by simp)
  have c1 := hI.c1
  have HBk := Lib.hid fun sv => back_none b.B b.g v [] sv W hL
  have hId := hI.drew
  have e1 : W.drew.cell? ⟨w.heap.size, 0, none⟩ = some (.pointer (some ⟨b.hb, 0, none⟩)) := d1
  have e2 : W.drew.cell? ⟨w.heap.size + 1, 0, none⟩ = some (.int .i64 T) := d2
  have f1 := hId.c1
  have f3 := hId.c3
  have HPut := Lib.hid (put0II b.B b.g b.rb v [] s.R b.keys (by rw [b.keys_len]; have := ok.n; omega) T 1 W.drew hL.drew' hId.rf wk (by decide) hb)
  have HS2 : Hid (∀ w2, Tab (tblII Try.prog) b.rb (upF s.R T (some 1)) b.keys w2 → Grew (fun q => q = b.rb) W.drew w2 → HeapI b { s with R := upF s.R T (some 1) } w2 ∧ Grew (fun q => q = b.rb) w w2) := Lib.hid fun w2 hT hg => ⟨hId.refs ok hT hg, (g0.drew.mono fun _ _ e => e.elim).trans hg⟩
  clear h hl hI hL g0 hId wk hb hi
  subst hW
  go_enter Try.func65, Try.ntmps65
  go_wp2_with fail
  refine (HBk.out _).mono ?_
  rintro e w' ⟨rfl, rfl⟩
  clear HBk
  go_upto_region 2 with fail
  generalize (w.alloc (.cells #[.pointer (some ⟨b.hb, 0, none⟩)] 43)).alloc (.cells #[.int .i64 T] 3) = W at *
  refine wp_region_still_tail 9 (by kernel_rfl) (by kernel_rfl) ?_
  change wpStill _ _ (W.drew) (fun a' => wpList _ _ _ _ a' (W.drew)) _ _
  simp only [List.take_succ_cons, List.take_zero, List.drop_succ_cons, List.drop_zero]
  repeat still_step
  refine wpStill_nil ?_
  go_wp2_with fail
  refine HPut.out.mono ?_
  rintro e w2 ⟨rfl, hT2, hg2⟩
  have HF := Lib.hid (HS2.out _ hT2 hg2)
  clear hT2 hg2 HPut HS2
  go_wp2_with fail
  go_end0
  exact ⟨rfl, HF.out.1, HF.out.2⟩
theorem upd_same (S : Nat → Nat) (i v : Nat) : upd S i v i = v := if_pos rfl
/-- Adopt of one that is held -/
theorem adopt0_more (b : HB) (ok : b.ok) (s : HS) (i r : Nat) (hi : i < b.n) (hs : s.S i = 1) (hr : s.R ((b.f + i : Nat) : Int) = some (r : Int)) (hrb : r < 10000) (v : Value) (w : World) (h : HeapI b s w) (hl : LogAt b.B b.g 0 v [] w) : Calls Try.prog 19 #[.pointer (some ⟨b.hb, 0, none⟩), .int .i64 ((b.f + i : Nat) : Int)] w fun e w' => e = .returned (.bool false) ∧ HeapI b { s with R := upF s.R ((b.f + i : Nat) : Int) (some ((r + 1 : Nat) : Int)) } w' ∧ Grew (fun q => q = b.rb) w w' := by
  have HIs := Lib.hid (is_any b.m b.q b.f b.n s.S i w h.gr (Nat.le_trans ok.f (by decide)) (Nat.le_trans ok.n (by decide)) hi)
  rw [hs] at HIs
  have HM := Lib.hid (more0_any b ok s i r hi hs hr hrb v w.drew h.drew hl.drew')
  have c2 := h.c2
  clear h hl hs hr
  generalize ((b.f + i : Nat) : Int) = T at *
  go_enter Try.func19, Try.ntmps19
  go_wp2_with fail
  refine HIs.out.mono ?_
  rintro e w1 ⟨rfl, rfl⟩
  go_wp2_with fail
  refine HM.out.mono ?_
  rintro e w2 ⟨rfl, hI, hg⟩
  have HF := Lib.hid (And.intro hI hg)
  clear hI hg HM
  go_wp2_with fail
  go_ret
  exact ⟨rfl, HF.out.1, ((Grew.refl w).drew).trans HF.out.2⟩
/-- Adopt of a free one -/
theorem adopt0_first (b : HB) (ok : b.ok) (s : HS) (i : Nat) (hi : i < b.n) (hs : s.S i = 0) (v : Value) (w : World) (h : HeapI b s w) (hl : LogAt b.B b.g 0 v [] w) : Calls Try.prog 19 #[.pointer (some ⟨b.hb, 0, none⟩), .int .i64 ((b.f + i : Nat) : Int)] w fun e w' => e = .returned (.bool true) ∧ HeapI b { s with S := upd s.S i 1, R := upF s.R ((b.f + i : Nat) : Int) (some 1) } w' ∧ Grew (fun q => q = b.rb ∨ q = b.q) w w' ∧ LogAt b.B b.g 0 v [] w' := by
  have HIs := Lib.hid (is_any b.m b.q b.f b.n s.S i w h.gr (Nat.le_trans ok.f (by decide)) (Nat.le_trans ok.n (by decide)) hi)
  rw [hs] at HIs
  have HHo := Lib.hid (hold_any b.m b.q b.f b.n s.S i w.drew h.drew.gr (Nat.le_trans ok.f (by decide)) (Nat.le_trans ok.n (by decide)) hi)
  have HT : Hid (∀ r w1, Turned b.m b.q b.f b.n s.S i 0 1 w.drew r w1 → r = true ∧ HeapI b { s with S := upd s.S i 1 } w1 ∧ LogAt b.B b.g 0 v [] w1 ∧ Grew (fun q => q = b.q) w w1) := Lib.hid fun r w1 ht => by
    obtain ⟨r1, hm⟩ := ht.1.1 hs
    refine ⟨r1, h.drew.grants ok hm ht.2, hl.drew'.keep ht.2 (fun e => ok.nd 1 3 (by decide) (by decide) (by decide) e) fun q hq e => ?_, ((Grew.refl w).drew).trans ht.2⟩
    have a := (hl.row.lt q hq).1
    have c := ok.lt 3 (by decide)
    have d : b.blk 3 = b.q := rfl
    omega
  have HFi : Hid (∀ w1, HeapI b { s with S := upd s.S i 1 } w1 → LogAt b.B b.g 0 v [] w1 → Calls Try.prog 65 #[.pointer (some ⟨b.hb, 0, none⟩), .int .i64 ((b.f + i : Nat) : Int)] w1 fun e w' => e = .returned (.tuple #[]) ∧ HeapI b { s with S := upd s.S i 1, R := upF s.R ((b.f + i : Nat) : Int) (some 1) } w' ∧ Grew (fun q => q = b.rb) w1 w') := Lib.hid fun w1 h1 l1 => first0_any b ok _ i hi v w1 h1 l1
  have HLk : Hid (∀ w1 w2, LogAt b.B b.g 0 v [] w1 → Grew (fun q => q = b.rb) w1 w2 → LogAt b.B b.g 0 v [] w2) := Lib.hid fun w1 w2 l1 hg => l1.keep hg (fun e => ok.nd 1 4 (by decide) (by decide) (by decide) e) fun q hq e => by
    have a := (l1.row.lt q hq).1
    have c := ok.lt 4 (by decide)
    have d : b.blk 4 = b.rb := rfl
    omega
  have c2 := h.c2
  have c2d := h.drew.c2
  clear h hl hs
  generalize ((b.f + i : Nat) : Int) = T at *
  go_enter Try.func19, Try.ntmps19
  go_wp2_with fail
  refine HIs.out.mono ?_
  rintro e w1 ⟨rfl, rfl⟩
  clear c2 HIs
  go_wp2_with fail
  refine HHo.out.mono ?_
  rintro e w1 ⟨r, rfl, ht⟩
  obtain ⟨rfl, hI1, hl1, hg1⟩ := HT.out r w1 ht
  have HG1 := Lib.hid hg1
  have HL1 := Lib.hid hl1
  have HFx := Lib.hid (HFi.out w1 hI1 hl1)
  clear ht hI1 hl1 hg1 HT HHo HFi c2d
  go_wp2_with fail
  refine HFx.out.mono ?_
  rintro e w2 ⟨rfl, hI2, hg2⟩
  have HF := Lib.hid (And.intro hI2 hg2)
  clear hI2 hg2 HFx
  go_wp2_with fail
  go_ret
  exact ⟨rfl, HF.out.1, (HG1.out.mono fun _ _ e => Or.inr e).trans (HF.out.2.mono fun _ _ e => Or.inl e), HLk.out _ _ HL1.out HF.out.2⟩
/-- Adopt of what isn't there -/
theorem adopt0_out (b : HB) (ok : b.ok) (s : HS) (at' : Int) (ho : at' < b.f ∨ ((b.f + b.n : Nat) : Int) ≤ at') (w : World) (h : HeapI b s w) : Calls Try.prog 19 #[.pointer (some ⟨b.hb, 0, none⟩), .int .i64 at'] w fun e w' => e = failed 6 ∧ w.drew.drew = w' := by
  have HIs := Lib.hid (is_out b.m b.q b.f b.n s.S at' w h.gr (Nat.le_trans ok.f (by decide)) (Nat.le_trans ok.n (by decide)) ho)
  have HHo := Lib.hid (hold_out b.m b.q b.f b.n s.S at' w.drew h.drew.gr (Nat.le_trans ok.f (by decide)) (Nat.le_trans ok.n (by decide)) ho)
  have c2 := h.c2
  have c2d := h.drew.c2
  clear h ho
  go_enter Try.func19, Try.ntmps19
  go_wp2_with fail
  refine HIs.out.mono ?_
  rintro e w1 ⟨rfl, rfl⟩
  clear c2 HIs
  go_wp2_with fail
  refine HHo.out.mono ?_
  rintro e w1 ⟨rfl, rfl⟩
  go_wp2_with fail
  refine (fail_any 6 _).mono ?_
  rintro e w3 ⟨rfl, rfl⟩
  unfold failed
  go_wp2_with fail
  exact ⟨rfl, rfl, rfl⟩
end Go.Proofs.Ytjjmapmombhmlaa
