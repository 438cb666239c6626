/-
  The law's own Parse, in a Guard: a contract.
-/
import Derived.Test.YtpgmgopcgoblhaaDoorStreamParse
namespace Go.Proofs.YtpgmgopcgoblhaaDoor
open Go.RowKit

/-- which cells, which error -/
def Parsed (t : List UInt8) (N : List Value) (o : Option Int) (w : World) : Prop :=
  (∃ k, allP t = .error k ∧ o = some k ∧ N = st0) ∨ (∃ s v, allP t = .ok s ∧ o = none ∧ N = stL s.size s.base s.target v ∧ ItsAt w v s.items)
/-- what the law's Parse leaves -/
def LPost (t : List UInt8) (w : World) (e : Ending) (w' : World) : Prop :=
  Below w.heap.size w w' ∧ ∃ N o, e = .returned (.tuple #[.agg N.toArray, .int .i64 (Option.getD o 0)]) ∧ N.length = 66 ∧ Parsed t N o w'
theorem Parsed.len {t : List UInt8} {N : List Value} {o : Option Int} {w : World} (h : Parsed t N o w) : N.length = 66 := by
  rcases h with ⟨_, _, _, rfl⟩ | ⟨s, v, hp, _, rfl, _⟩
  · exact st0_len
  · obtain ⟨_, hr, _⟩ := allP_back hp
    exact stL_len hr.base hr.target
theorem Parsed.one {t : List UInt8} {N : List Value} {o : Option Int} {w : World} (h : Parsed t N o w) : N.toArray.all (·.oneCell') = true := by
  rcases h with ⟨_, _, _, rfl⟩ | ⟨s, v, _, _, rfl, hi⟩
  · exact one_st _ _ _ _ rfl
  · exact one_st _ _ _ _ (its_one hi)
/-- what runs in the Guard leaves -/
def LP1 (t : List UInt8) (c : Nat) (w : World) (e : Ending) (w' : World) : Prop :=
  ∃ o, e = Ends o ∧ Grew (fun k => k = c) w w' ∧ ∃ N, Cells c 66 (cellsAt N) w' ∧ ((∃ k, allP t = .error k ∧ o = some k ∧ N = st0) ∨ (∃ s v, allP t = .ok s ∧ o = none ∧ N = stL s.size s.base s.target v ∧ ItsAt w' v s.items ∧ (∀ b, v.ownBlock = some b → w.heap.size ≤ b)))
set_option maxRecDepth 100000 in
set_option maxHeartbeats 1000000 in
theorem lawParse1_any (t : List UInt8) (a c : Nat) (w : World) (ht : t.length < 1000000) (ca : w.cell? ⟨a, 0, none⟩ = some (.string ⟨t.toArray⟩)) (cc : Cells c 66 (cellsAt st0) w) :
    Calls Tryd.prog 24 #[.pointer (some ⟨a, 0, none⟩), .pointer (some ⟨c, 0, none⟩)] w fun e w' => LP1 t c w e w' := by
  have HP := Lib.hid (stParse_any t w ht)
  have HC := Lib.hid cc
  clear cc ht
  obtain ⟨T, hT⟩ : ∃ T : ByteArray, ⟨t.toArray⟩ = T := ⟨_, rfl⟩
  rw [hT] at ca HP
  clear hT
  go_enter Tryd.func24, Tryd.ntmps24
  go_wp2_with fail
  refine HP.out.mono ?_
  rintro e w1 ⟨hb, hc⟩
  rcases hc with ⟨k, hk, rfl⟩ | ⟨s, v, hk, rfl, hits, hob⟩
  · have HF : Hid (LP1 t c w (failed k) w1) := Lib.hid ⟨some k, rfl, Grew.of_below hb, st0, HC.out.below hb, Or.inl ⟨k, hk, rfl, rfl⟩⟩
    clear hb hk
    unfold failed
    go_wp2_with fail
    exact ⟨rfl, HF.out⟩
  · have hl : (stL s.size s.base s.target v).length = 66 := by
      obtain ⟨_, hr, _⟩ := allP_back hk
      exact stL_len hr.base hr.target
    have ho := one_st s.size s.base s.target v (its_one hits)
    obtain ⟨N, hN⟩ : ∃ N, stL s.size s.base s.target v = N := ⟨_, rfl⟩
    rw [hN] at hl ho ⊢
    have HTh : Hid (w1.there c 0 N.toArray.size) := Lib.hid ((HC.out.below hb).there 0 _ (by simp [hl]))
    have HIN : Hid ((Tryd.prog.info? 28).map (·.size) = some N.toArray.size) := Lib.hid (by rw [List.size_toArray, hl]; kernel_rfl)
    have HOne := Lib.hid ho
    have HF : Hid (LP1 t c w (.returned (.tuple #[])) (w1.setCells c 0 N)) := Lib.hid ⟨none, rfl, (Grew.of_below hb).row c 0 N (fun _ => rfl), N, (HC.out.below hb).fill hl, Or.inr ⟨s, v, hk, rfl, hN.symm, its_grew hits (Grew.row (S := fun k => k = c) (Grew.refl w1) c 0 N (fun _ => rfl)) (fun b h e => by
      have h1 := hob b h
      have h2 := HC.out.1
      omega), hob⟩⟩
    clear hb hk hits hob hl ho hN
    go_wp2_with (with_reducible refine wpList_store_mid rfl 28 _ _ rfl c 0 N.toArray rfl rfl HTh.out HIN.out HOne.out ?_)
    go_end0
    exact HF.out
set_option maxRecDepth 100000 in
set_option maxHeartbeats 1000000 in
theorem lawParse_any (t : List UInt8) (w : World) (ht : t.length < 1000000) :
    Calls Tryd.prog 11 #[.string ⟨t.toArray⟩] w fun e w' => LPost t w e w' := by
  have hmf : ∀ (fn : Fn) (first cap : Array Value) (w : World), (Instr.makeFunc fn first cap).run Tryd.prog w = .ok (.func fn first cap) w := fun _ _ _ _ => rfl
  have HAl := alloc_st
  obtain ⟨W, hW⟩ : ∃ W, ((w.alloc (.cells #[.string ⟨t.toArray⟩] 9)).alloc (.cells st0.toArray 28)).alloc (.cells st0.toArray 28) = W := ⟨_, rfl⟩
  have g0 : ∀ S, Grew S w W := fun S => by rw [← hW]; exact (((Grew.refl w).alloc _).alloc _).alloc _
  have hsz : W.heap.size = w.heap.size + 3 := by rw [← hW]; simp
  have s1 : (w.alloc (.cells #[.string ⟨t.toArray⟩] 9)).heap.size = w.heap.size + 1 := by simp
  have s2 : ((w.alloc (.cells #[.string ⟨t.toArray⟩] 9)).alloc (.cells st0.toArray 28)).heap.size = w.heap.size + 2 := by simp
  have ca : W.cell? ⟨w.heap.size, 0, none⟩ = some (.string ⟨t.toArray⟩) := by rw [← hW]; exact boxOld (boxOld (boxNew rfl) (by simp)) (by simp; omega)
  have cr : Cells (w.heap.size + 1) 66 (cellsAt st0) W := by
    rw [← hW, ← s1]
    exact (st0_cells _).alloc _
  have cn : Cells (w.heap.size + 2) 66 (cellsAt st0) W := by
    rw [← hW, ← s2]
    exact st0_cells _
  have HG : Hid (Calls Tryd.prog 23 #[.func (.func 24) #[] #[.pointer (some ⟨w.heap.size, 0, none⟩), .pointer (some ⟨w.heap.size + 2, 0, none⟩)]] W fun e w' => ∃ N o, e = .returned (.int .i64 (Option.getD o 0)) ∧ Cells (w.heap.size + 2) 66 (cellsAt N) w' ∧ Cells (w.heap.size + 1) 66 (cellsAt st0) w' ∧ Below w.heap.size w w' ∧ Parsed t N o w' ∧ (∀ s v, allP t = .ok s → N = stL s.size s.base s.target v → ItsAt w' v s.items → ItsAt (w'.setCells (w.heap.size + 1) 0 N) v s.items)) := by
    refine Lib.hid ((guard_grew 24 #[.pointer (some ⟨w.heap.size, 0, none⟩), .pointer (some ⟨w.heap.size + 2, 0, none⟩)] W (fun k => k = w.heap.size + 2) (fun o w1 => ∃ N, Cells (w.heap.size + 2) 66 (cellsAt N) w1 ∧ ((∃ k, allP t = .error k ∧ o = some k ∧ N = st0) ∨ (∃ s v, allP t = .ok s ∧ o = none ∧ N = stL s.size s.base s.target v ∧ ItsAt w1 v s.items ∧ (∀ b, v.ownBlock = some b → (W.alloc errBox).heap.size ≤ b)))) (by omega) (fun _ => rfl) ?_).mono ?_)
    · have g1 : Grew (fun _ => False) W (W.alloc errBox) := (Grew.refl W).alloc _
      exact lawParse1_any t w.heap.size (w.heap.size + 2) _ ht (by rw [g1.cell (p := ⟨w.heap.size, 0, none⟩) (by show w.heap.size < _; omega) fun e => e]; exact ca) (cn.alloc _)
    · rintro e w' ⟨o, w1, rfl, ⟨N, hq, hp⟩, rfl, hg, hlt⟩
      have gd := done_only W.heap.size o w1
      have he : (W.alloc errBox).heap.size = W.heap.size + 1 := by simp
      refine ⟨N, o, rfl, hq.block (gd.block _ (by omega) (by omega)) gd.size, cr.block (hg.block _ (by omega) (by omega)) hg.size, ?_, ?_, ?_⟩
      · exact hg.below ((g0 fun _ => False).below (Below.refl _ _) (Nat.le_refl _) fun _ x => x.elim) (by omega) fun k e => by omega
      · rcases hp with h | ⟨s, v, h1, h2, h3, h4, h5⟩
        · exact Or.inl h
        · exact Or.inr ⟨s, v, h1, h2, h3, its_grew h4 gd (fun b hb e => by have := h5 b hb; omega)⟩
      · intro s' v' hok' hN' hI'
        refine its_grew hI' (Grew.row (S := fun k => k = w.heap.size + 1) (Grew.refl _) (w.heap.size + 1) 0 N (fun _ => rfl)) (fun b hb e => ?_)
        rcases hp with ⟨_, h1, _, _⟩ | ⟨s, v, h1, h2, h3, h4, h5⟩
        · rw [h1] at hok'
          cases hok'
        · rw [h1] at hok'
          injection hok' with hss
          subst hss
          obtain ⟨_, hr, _⟩ := allP_back h1
          have t1 := stL_row (size := s.size) (v := v) hr.base hr.target
          rw [← h3, hN', stL_row hr.base hr.target] at t1
          injection t1 with t1
          subst t1
          have := h5 b hb
          omega
  rw [← hW] at HG
  clear hW g0 ca cr cn hsz s1 s2 ht
  obtain ⟨T, hT⟩ : ∃ T : ByteArray, ⟨t.toArray⟩ = T := ⟨_, rfl⟩
  rw [hT] at HG ⊢
  clear hT
  generalize st0.toArray = ZN at *
  go_enter Tryd.func11, Tryd.ntmps11
  go_wp2_with (with_reducible refine wpList_alloc rfl 28 rfl _ (HAl _) ?_)
  refine HG.out.mono ?_
  rintro e w1 ⟨N, o, rfl, hq, hr, hb, hp, hm⟩
  have hl := hp.len
  have hr1 := Cells.all hl hq
  have HTh : Hid (w1.there (w.heap.size + 1) 0 N.toArray.size) := Lib.hid (hr.there 0 _ (by simp [hl]))
  have HIN : Hid ((Tryd.prog.info? 28).map (·.size) = some N.toArray.size) := Lib.hid (by rw [List.size_toArray, hl]; kernel_rfl)
  have HIN2 : Hid ((Tryd.prog.info? 28).map (·.size) = some N.length) := Lib.hid (by rw [hl]; kernel_rfl)
  have HOne := Lib.hid hp.one
  have HF : Hid (LPost t w (.returned (.tuple #[.agg N.toArray, .int .i64 (Option.getD o 0)])) (w1.setCells (w.heap.size + 1) 0 N)) := Lib.hid ⟨below_row hb N (by omega), N, o, rfl, hl, by
    rcases hp with h | ⟨s, v, h1, h2, h3, h4⟩
    · exact Or.inl h
    · exact Or.inr ⟨s, v, h1, h2, h3, hm s v h1 h3 h4⟩⟩
  clear hq hr hb hp hm hl HG
  generalize Option.getD o 0 = E at *
  go_wp2_with (first
    | (with_reducible refine wpList_load_mid rfl 28 _ rfl (w.heap.size + 1 + 1) 0 rfl N _ hr1 Tryd.underlying28 rfl HIN2.out ?_)
    | (with_reducible refine wpList_store_mid rfl 28 _ _ rfl (w.heap.size + 1) 0 N.toArray rfl rfl HTh.out HIN.out HOne.out ?_))
  refine bodyPost_ret (results_two_mid rfl _ _ (w.heap.size + 1) N _ rfl (World.rangeAt_setCells_same _ _ _ _ (by have z := HTh.out; rwa [List.size_toArray] at z)) Tryd.underlying28 rfl HIN2.out) rfl ?_
  exact HF.out
end Go.Proofs.YtpgmgopcgoblhaaDoor
