/-
  The law's Parse of an op, in a Guard; its head: contracts.
-/
import Derived.Test.YtdeohkkpmjgaoaaRedoParse
import Derived.Test.YtdeohkkpmjgaoaaGuardGrew
namespace Go.Proofs.Ytdeohkkpmjgaoaa
open Go.RowKit

theorem results_two {fn : Func} {p u : Tmp} {ty : TypeId} {P : Program} (h : fn.results = #[.cell p ty, .tmp u]) (tmps : Array Value) (w : World) (g : Nat) (t : TypeId) (cs : Array Value) (fr : Nat × Nat) (fs : Array Field)
    (hp : tmps.getD p undef = .pointer (some ⟨g, 0, none⟩)) (hg : w.heap[g]? = some (.cells cs t fr))
    (hu : P.underlying ty = some (.struct fs)) (hi : (P.info? ty).map (·.size) = some cs.size) :
    (results fn tmps).run P w = .ok (.tuple #[.agg cs, tmps.getD u undef]) w := by
  rw [results_cell_tmp h, hp]
  simp only [asAddr, Sem.run_pure, Result.andThen_ok, run_loadVar_row w g t ty cs fr _ hg hu rfl hi]
theorem done_one (b : Nat) (o : Option Int) (w : World) : Grew (fun k => k = b) w (done b o w) := by
  cases o with
  | none => exact (Grew.refl (S := fun k => k = b) w).setCell _ _ fun _ => rfl
  | some k => exact ((Grew.refl (S := fun k => k = b) w).setCell ⟨b, 0, none⟩ _ fun _ => rfl).alloc _
/-- the error of a text that is read as an op -/
def redoE (s : ByteArray) : Option Int := if s.size < 9 then some 2 else if (roOf s).k < 1 ∨ 7 < (roOf s).k then some 15 else none
def RO.none : RO := ⟨0, 0, 0, 0, ⟨#[]⟩⟩
/-- the op that is read, or nothing -/
def gotRO (s : ByteArray) : RO := if redoE s = Option.none then roOf s else RO.none
theorem redoParse_any (s : ByteArray) (w : World) : Calls Try.prog 122 #[.string s] w fun e w' => (match redoE s with | some k => e = failed k | Option.none => e = .returned (.agg (roOf s).cells)) ∧ Below w.heap.size w w' := by
  by_cases h : s.size < 9
  · have e0 : redoE s = some 2 := by unfold redoE; rw [if_pos h]
    rw [e0]
    exact redoParse_end s w h
  · by_cases hk : (roOf s).k < 1 ∨ 7 < (roOf s).k
    · have e0 : redoE s = some 15 := by unfold redoE; rw [if_neg h, if_pos hk]
      rw [e0]
      exact redoParse_kind s w (by omega) hk
    · have e0 : redoE s = Option.none := by unfold redoE; rw [if_neg h, if_neg hk]
      rw [e0]
      exact redoParse_ok s w (by omega) hk
theorem zero_cells {w : World} {x : Nat} {t : TypeId} {a b c d e : Value} (h : w.heap[x]? = some (.cells #[a, b, c, d, e] t)) : (w.cell? ⟨x, 0, none⟩ = some a ∧ w.cell? ⟨x, 1, none⟩ = some b ∧ w.cell? ⟨x, 2, none⟩ = some c ∧ w.cell? ⟨x, 3, none⟩ = some d ∧ w.cell? ⟨x, 4, none⟩ = some e) ∧ w.frozen? ⟨x, 0, none⟩ = false ∧ w.frozen? ⟨x, 1, none⟩ = false ∧ w.frozen? ⟨x, 2, none⟩ = false ∧ w.frozen? ⟨x, 3, none⟩ = false ∧ w.frozen? ⟨x, 4, none⟩ = false :=
  ⟨five h, by simp [World.frozen?, h], by simp [World.frozen?, h], by simp [World.frozen?, h], by simp [World.frozen?, h], by simp [World.frozen?, h]⟩
theorem redoP1_any (s : ByteArray) (a b : Nat) (w : World) (ca : w.cell? ⟨a, 0, none⟩ = some (.string s)) (cb : w.heap[b]? = some zeroOp) :
    Calls Try.prog 121 #[.pointer (some ⟨a, 0, none⟩), .pointer (some ⟨b, 0, none⟩)] w fun e w' => e = Ends (redoE s) ∧ w'.heap[b]? = some (.cells (gotRO s).cells 93) ∧ Grew (fun k => k = b) w w' := by
  have H := Lib.hid (redoParse_any s w)
  have hbl : b < w.heap.size := by
    rcases Nat.lt_or_ge b w.heap.size with h1 | h1
    · exact h1
    · rw [Array.getElem?_eq_none h1] at cb; cases cb
  have HN : Hid (redoE s ≠ Option.none → (.cells (gotRO s).cells 93 : Obj) = zeroOp) := Lib.hid fun h => by unfold gotRO; rw [if_neg h]; rfl
  have HY : Hid (redoE s = Option.none → gotRO s = roOf s) := Lib.hid fun h => by unfold gotRO; rw [if_pos h]
  obtain ⟨E, hE⟩ : ∃ E, redoE s = E := ⟨_, rfl⟩
  rw [hE] at H HN HY ⊢
  clear hE
  have HCb := Lib.hid cb
  clear cb
  cases E with
  | some k =>
    have HFin := Lib.hid (HN.out (by simp))
    go_enter Try.func121, Try.ntmps121
    go_wp2_with fail
    refine H.out.mono ?_
    rintro e w1 ⟨rfl, hb1⟩
    have HB := Lib.hid hb1
    clear hb1
    unfold failed
    go_wp2_with fail
    exact ⟨rfl, rfl, by rw [HFin.out, HB.out.block b hbl]; exact HCb.out, Grew.of_below HB.out⟩
  | none =>
    rw [HY.out rfl]
    clear HY HN
    generalize roOf s = R at *
    obtain ⟨k, id, at', n, data⟩ := R
    dsimp only [RO.cells] at *
    go_enter Try.func121, Try.ntmps121
    go_wp2_with fail
    refine H.out.mono ?_
    rintro e w1 ⟨rfl, hb1⟩
    have hz1 : w1.heap[b]? = some zeroOp := by rw [hb1.block b hbl]; exact HCb.out
    obtain ⟨⟨y0, y1, y2, y3, y4⟩, g0, g1, g2, g3, g4⟩ := zero_cells hz1
    have HQ := Lib.hid (op_set hz1 (.int .i64 k) (.int .u32 id) (.int .i64 at') (.int .i64 n) (.string data))
    have HG : Hid (Grew (fun k => k = b) w w1) := Lib.hid (Grew.of_below hb1)
    clear hb1 hz1 H
    go_wp2_with fail
    go_end0
    exact ⟨rfl, HQ.out, ((((HG.out.setCell _ _ fun _ => rfl).setCell _ _ fun _ => rfl).setCell _ _ fun _ => rfl).setCell _ _ fun _ => rfl).setCell _ _ fun _ => rfl⟩
set_option maxHeartbeats 1000000 in
theorem lawRedo_any (s : ByteArray) (w : World) :
    Calls Try.prog 69 #[.string s] w fun e w' => e = .returned (.tuple #[.agg (gotRO s).cells, .int .i64 ((redoE s).getD 0)]) ∧ Below w.heap.size w w' := by
  have hmf : ∀ (fn : Fn) (first cap : Array Value) (w : World), (Instr.makeFunc fn first cap).run Try.prog w = .ok (.func fn first cap) w := fun _ _ _ _ => rfl
  obtain ⟨W, hW⟩ : ∃ W, ((w.alloc (.cells #[.string s] 9)).alloc zeroOp).alloc zeroOp = W := ⟨_, rfl⟩
  have g0 : ∀ S, Grew S w W := fun S => by rw [← hW]; exact (((Grew.refl w).alloc _).alloc _).alloc _
  have s1 : (w.alloc (.cells #[.string s] 9)).heap.size = w.heap.size + 1 := by simp
  have s2 : ((w.alloc (.cells #[.string s] 9)).alloc zeroOp).heap.size = w.heap.size + 1 + 1 := by simp
  have hsz : W.heap.size = w.heap.size + 1 + 1 + 1 := by rw [← hW]; simp
  have ca : W.cell? ⟨w.heap.size, 0, none⟩ = some (.string s) := by rw [← hW]; exact boxOld (boxOld (boxNew rfl) (by simp)) (by simp; omega)
  have cr : W.heap[w.heap.size + 1]? = some zeroOp := by
    rw [← hW, Below.heap_alloc _ _ _ (by rw [s2]; omega), ← s1]
    exact heap_alloc_new _ _
  have cb : W.heap[w.heap.size + 1 + 1]? = some zeroOp := by
    rw [← hW, ← s2]
    exact heap_alloc_new _ _
  have HG : Hid (Calls Try.prog 27 #[.func (.func 121) #[] #[.pointer (some ⟨w.heap.size, 0, none⟩), .pointer (some ⟨w.heap.size + 1 + 1, 0, none⟩)]] W fun e w' => e = .returned (.int .i64 ((redoE s).getD 0)) ∧ w'.heap[w.heap.size + 1 + 1]? = some (.cells (gotRO s).cells 93) ∧ w'.heap[w.heap.size + 1]? = some zeroOp ∧ Below w.heap.size w w') := by
    refine Lib.hid ((guard_grew 121 #[.pointer (some ⟨w.heap.size, 0, none⟩), .pointer (some ⟨w.heap.size + 1 + 1, 0, none⟩)] W (fun k => k = w.heap.size + 1 + 1) (fun o w1 => o = redoE s ∧ w1.heap[w.heap.size + 1 + 1]? = some (.cells (gotRO s).cells 93)) (by omega) (fun _ => by kernel_rfl) ?_).mono ?_)
    · have g1 : Grew (fun _ => False) W (W.alloc errBox) := (Grew.refl W).alloc _
      refine (redoP1_any s w.heap.size (w.heap.size + 1 + 1) _ (by rw [g1.cell (p := ⟨w.heap.size, 0, none⟩) (by show w.heap.size < _; omega) fun e => e]; exact ca) (by rw [g1.block _ (by omega) fun e => e]; exact cb)).mono ?_
      rintro e w' ⟨rfl, hq, hg⟩
      exact ⟨_, rfl, hg, rfl, hq⟩
    · rintro e w' ⟨o, w1, rfl, ⟨rfl, hq⟩, rfl, hg, hlt⟩
      have gd := done_one W.heap.size (redoE s) w1
      refine ⟨rfl, by rw [gd.block _ (by omega) (by omega)]; exact hq, by rw [hg.block _ (by omega) (by omega)]; exact cr, ?_⟩
      exact hg.below (by have := g0 fun _ => False; exact this.below (Below.refl _ _) (Nat.le_refl _) fun _ x => x.elim) (by omega) fun k e => by omega
  rw [← hW] at HG
  clear hW g0 ca cb cr hsz s1 s2
  generalize (redoE s).getD 0 = E at *
  generalize gotRO s = L at *
  obtain ⟨k, id, at', n, data⟩ := L
  dsimp only [RO.cells] at *
  go_enter Try.func69, Try.ntmps69
  go_wp2_with fail
  refine HG.out.mono ?_
  rintro e w1 ⟨rfl, hq, hr, hb⟩
  obtain ⟨q0, q1, q2, q3, q4⟩ := five hq
  obtain ⟨⟨y0, y1, y2, y3, y4⟩, g0, g1, g2, g3, g4⟩ := zero_cells hr
  have HQ := Lib.hid (op_set hr (.int .i64 k) (.int .u32 id) (.int .i64 at') (.int .i64 n) (.string data))
  have HB := Lib.hid hb
  clear hq hr hb HG
  go_wp2_with fail
  refine bodyPost_ret (results_two rfl _ _ (w.heap.size + 1) _ _ _ _ rfl HQ.out Try.underlying93 opSize) rfl ?_
  exact ⟨rfl, ((((HB.out.setCell (Nat.le_succ _) _).setCell (Nat.le_succ _) _).setCell (Nat.le_succ _) _).setCell (Nat.le_succ _) _).setCell (Nat.le_succ _) _⟩
def t8 : ByteArray := ⟨#[8, 0, 0, 0, 0, 0, 0, 0, 0]⟩
theorem t8_e : redoE t8 = some 15 := by
  unfold redoE roOf
  decide
def ro4 : RO := ⟨4, 3, 0, 0, ⟨#[]⟩⟩
theorem ro4_text : ro4.text = [4, 0, 0, 0, 3, 0, 0, 0, 0] := by decide
theorem ro4_fits : ro4.fits := ⟨by decide, by decide, by decide, by decide, by decide⟩
set_option maxHeartbeats 1000000 in
theorem redoAwake (w : World) : Calls Try.prog 67 #[] w fun e w' => e = .returned (.bool true) ∧ Below w.heap.size w w' := by
  have HP : Hid (∀ wx, Calls Try.prog 69 #[.string ⟨#[8, 0, 0, 0, 0, 0, 0, 0, 0]⟩] wx fun e w' => e = .returned (.tuple #[.agg #[.int .i64 0, .int .u32 0, .int .i64 0, .int .i64 0, .string ⟨#[]⟩], .int .i64 15]) ∧ Below wx.heap.size wx w') := Lib.hid fun wx => by
    have h := lawRedo_any t8 wx
    have hg : gotRO t8 = RO.none := by unfold gotRO; rw [t8_e, if_neg (by simp)]
    rw [hg, t8_e] at h
    exact h
  have HB4 : Hid (∀ wx, Calls Try.prog 68 #[.agg #[.int .i64 4, .int .u32 3, .int .i64 0, .int .i64 0, .string ⟨#[]⟩]] wx fun e w' => e = .returned (.string ⟨#[4, 0, 0, 0, 3, 0, 0, 0, 0]⟩) ∧ Below wx.heap.size wx w') := Lib.hid fun wx => by
    have h := redoBytes_any ro4 ro4_fits wx
    rw [ro4_text] at h
    exact h
  go_enter Try.func67, Try.ntmps67
  go_wp2_with fail
  refine (HP.out _).mono ?_
  rintro e w1 ⟨rfl, hb1⟩
  have HB1 := Lib.hid hb1
  clear hb1
  go_wp2_with fail
  refine (HB4.out _).mono ?_
  rintro e w2 ⟨rfl, hb2⟩
  have HB2 := Lib.hid ((HB1.out.alloc HB1.out.size _).trans (hb2.mono (by have := HB1.out.size; simp; omega)))
  clear hb2
  go_wp2_with fail
  go_ret
  exact ⟨rfl, HB2.out⟩
end Go.Proofs.Ytdeohkkpmjgaoaa
