/-
  The law's Parse of an entry, in a Guard: contract.
-/
import Derived.Test.YtjjmapmombhmlaaCatParse
import Derived.Test.YtjjmapmombhmlaaGuardGrew
import Derived.Deep.RegionHeld3
namespace Go.Proofs.Ytjjmapmombhmlaa
open Go.RowKit

theorem results_cell_tmps {fn : Func} {p u v : Tmp} {ty : TypeId} {P : Program} (h : fn.results = #[.cell p ty, .tmp u, .tmp v]) (tmps : Array Value) (w : World) (g : Nat) (t : TypeId) (cs : Array Value) (fr : Nat × Nat) (fs : Array Field)
    (hp : tmps.getD p undef = .pointer (some ⟨g, 0, none⟩)) (hg : w.heap[g]? = some (.cells cs t fr))
    (hu : P.underlying ty = some (.struct fs)) (hi : (P.info? ty).map (·.size) = some cs.size) :
    (results fn tmps).run P w = .ok (.tuple #[.agg cs, tmps.getD u undef, tmps.getD v undef]) w := by
  have hp' : tmps[p]?.getD undef = .pointer (some ⟨g, 0, none⟩) := by simpa using hp
  simp [results, h, hp', asAddr, run_loadVar_row w g t ty cs fr _ hg hu rfl hi, Result.andThen]
theorem done_one (b : Nat) (o : Option Int) (w : World) : Grew (fun k => k = b) w (done b o w) := by
  cases o with
  | none => exact (Grew.refl (S := fun k => k = b) w).setCell _ _ fun _ => rfl
  | some k => exact ((Grew.refl (S := fun k => k = b) w).setCell ⟨b, 0, none⟩ _ fun _ => rfl).alloc _
/-- the error of a text that is read as an entry -/
def catE (s : ByteArray) : Option Int :=
  if s.size < 64 then some 2 else if saysSum s ≠ C.Crc.sum (ahead s).data.toList then some 11 else if 64 < s.size then some 1
  else if (ahead s).data.toList.take 1 = [86] ∧ ((ahead s).data.toList.drop 20).all (· == 0) = true ∧ ¬ badEn (ahead s).data.toList then none else some 1
def EN.none : EN := ⟨0, 0, false, 0, 0, 0⟩
/-- the entry that is read, or nothing -/
def gotEN (s : ByteArray) : EN := if catE s = Option.none then enOf (ahead s).data.toList else EN.none
def gotNx (s : ByteArray) : Nat := if catE s = Option.none then nxOf (ahead s).data.toList else 0
theorem catParse_any (s : ByteArray) (w : World) : Calls Try.prog 84 #[.string s] w fun e w' => (match catE s with | some k => e = failed k | Option.none => e = .returned (.tuple #[.agg (gotEN s).cells, .int .i64 (gotNx s)])) ∧ Below w.heap.size w w' := by
  by_cases h : s.size < 64
  · have e0 : catE s = some 2 := by unfold catE; rw [if_pos h]
    rw [e0]
    refine catParse_open s 2 w fun wx => ?_
    by_cases h6 : s.size < 60
    · exact sealOpen_short s wx h6
    · exact sealOpen_less s wx (by omega) h
  by_cases hc : saysSum s ≠ C.Crc.sum (ahead s).data.toList
  · have e0 : catE s = some 11 := by unfold catE; rw [if_neg h, if_pos hc]
    rw [e0]
    exact catParse_open s 11 w fun wx => sealOpen_sum s wx (by omega) hc
  have hc' : saysSum s = C.Crc.sum (ahead s).data.toList := Decidable.byContradiction hc
  by_cases h2 : 64 < s.size
  · have e0 : catE s = some 1 := by unfold catE; rw [if_neg h, if_neg hc, if_pos h2]
    rw [e0]
    exact catParse_open s 1 w fun wx => sealOpen_form s wx h2 hc'
  by_cases hm : (ahead s).data.toList.take 1 = [86]
  · by_cases hz : ((ahead s).data.toList.drop 20).all (· == 0) = true ∧ ¬ badEn (ahead s).data.toList
    · have e0 : catE s = Option.none := by unfold catE; rw [if_neg h, if_neg hc, if_neg h2, if_pos ⟨hm, hz.1, hz.2⟩]
      have h1 := catParse_read s w (by omega) hc' hm
      unfold gotEN gotNx
      rw [e0, if_pos rfl, if_pos rfl]
      exact h1.mono fun e w' h => ⟨by have h3 := h.1; rw [if_pos hz] at h3; exact h3, h.2⟩
    · have e0 : catE s = some 1 := by unfold catE; rw [if_neg h, if_neg hc, if_neg h2, if_neg fun e => hz e.2]
      have h1 := catParse_read s w (by omega) hc' hm
      rw [e0]
      exact h1.mono fun e w' h => ⟨by have h3 := h.1; rw [if_neg hz] at h3; exact h3, h.2⟩
  · have e0 : catE s = some 1 := by unfold catE; rw [if_neg h, if_neg hc, if_neg h2, if_neg fun e => hm e.1]
    rw [e0]
    exact catParse_mark s w (by omega) hc' hm
theorem ent_cells {w : World} {x : Nat} {t : TypeId} {a b c d e f : Value} (h : w.heap[x]? = some (.cells #[a, b, c, d, e, f] t)) : (w.cell? ⟨x, 0, none⟩ = some a ∧ w.cell? ⟨x, 1, none⟩ = some b ∧ w.cell? ⟨x, 2, none⟩ = some c ∧ w.cell? ⟨x, 3, none⟩ = some d ∧ w.cell? ⟨x, 4, none⟩ = some e ∧ w.cell? ⟨x, 5, none⟩ = some f) ∧ w.frozen? ⟨x, 0, none⟩ = false ∧ w.frozen? ⟨x, 1, none⟩ = false ∧ w.frozen? ⟨x, 2, none⟩ = false ∧ w.frozen? ⟨x, 3, none⟩ = false ∧ w.frozen? ⟨x, 4, none⟩ = false ∧ w.frozen? ⟨x, 5, none⟩ = false :=
  ⟨six h, by simp [World.frozen?, h], by simp [World.frozen?, h], by simp [World.frozen?, h], by simp [World.frozen?, h], by simp [World.frozen?, h], by simp [World.frozen?, h]⟩
theorem six_off {w : World} {k x y : Nat} {a b c d e f g : Value} (hx : x ≠ k) (hy : y ≠ k) (h : (w.cell? ⟨x, 0, none⟩ = some a ∧ w.cell? ⟨x, 1, none⟩ = some b ∧ w.cell? ⟨x, 2, none⟩ = some c ∧ w.cell? ⟨x, 3, none⟩ = some d ∧ w.cell? ⟨x, 4, none⟩ = some e ∧ w.cell? ⟨x, 5, none⟩ = some f) ∧ w.cell? ⟨y, 0, none⟩ = some g) (a' b' c' d' e' f' : Value) :
    ((((((((w.setCell ⟨k, 0, none⟩ a').setCell ⟨k, 1, none⟩ b').setCell ⟨k, 2, none⟩ c').setCell ⟨k, 3, none⟩ d').setCell ⟨k, 4, none⟩ e').setCell ⟨k, 5, none⟩ f').drew.cell? ⟨x, 0, none⟩ = some a ∧ ((((((w.setCell ⟨k, 0, none⟩ a').setCell ⟨k, 1, none⟩ b').setCell ⟨k, 2, none⟩ c').setCell ⟨k, 3, none⟩ d').setCell ⟨k, 4, none⟩ e').setCell ⟨k, 5, none⟩ f').drew.cell? ⟨x, 1, none⟩ = some b ∧ ((((((w.setCell ⟨k, 0, none⟩ a').setCell ⟨k, 1, none⟩ b').setCell ⟨k, 2, none⟩ c').setCell ⟨k, 3, none⟩ d').setCell ⟨k, 4, none⟩ e').setCell ⟨k, 5, none⟩ f').drew.cell? ⟨x, 2, none⟩ = some c ∧ ((((((w.setCell ⟨k, 0, none⟩ a').setCell ⟨k, 1, none⟩ b').setCell ⟨k, 2, none⟩ c').setCell ⟨k, 3, none⟩ d').setCell ⟨k, 4, none⟩ e').setCell ⟨k, 5, none⟩ f').drew.cell? ⟨x, 3, none⟩ = some d ∧ ((((((w.setCell ⟨k, 0, none⟩ a').setCell ⟨k, 1, none⟩ b').setCell ⟨k, 2, none⟩ c').setCell ⟨k, 3, none⟩ d').setCell ⟨k, 4, none⟩ e').setCell ⟨k, 5, none⟩ f').drew.cell? ⟨x, 4, none⟩ = some e ∧ ((((((w.setCell ⟨k, 0, none⟩ a').setCell ⟨k, 1, none⟩ b').setCell ⟨k, 2, none⟩ c').setCell ⟨k, 3, none⟩ d').setCell ⟨k, 4, none⟩ e').setCell ⟨k, 5, none⟩ f').drew.cell? ⟨x, 5, none⟩ = some f) ∧ ((((((w.setCell ⟨k, 0, none⟩ a').setCell ⟨k, 1, none⟩ b').setCell ⟨k, 2, none⟩ c').setCell ⟨k, 3, none⟩ d').setCell ⟨k, 4, none⟩ e').setCell ⟨k, 5, none⟩ f').drew.cell? ⟨y, 0, none⟩ = some g) := by
  have ex : ∀ (q : Nat) (v : Value) (wx : World) (o : Nat), (wx.setCell ⟨k, q, none⟩ v).cell? ⟨x, o, none⟩ = wx.cell? ⟨x, o, none⟩ := fun q v wx o => World.cell?_setCell_other _ _ _ _ (by intro e; cases e; exact hx rfl)
  have ey : ∀ (q : Nat) (v : Value) (wx : World) (o : Nat), (wx.setCell ⟨k, q, none⟩ v).cell? ⟨y, o, none⟩ = wx.cell? ⟨y, o, none⟩ := fun q v wx o => World.cell?_setCell_other _ _ _ _ (by intro e; cases e; exact hy rfl)
  have ed : ∀ (wx : World) (q : Addr), wx.drew.cell? q = wx.cell? q := fun _ _ => rfl
  simp only [ed, ex, ey]
  exact h
theorem heap_drew (w : World) : w.drew.heap = w.heap := rfl
abbrev intObj (n : Nat) : Obj := .cells #[.int .i64 (n : Int)] 3
theorem catP1_any (s : ByteArray) (a b c : Nat) (w : World) (ca : w.cell? ⟨a, 0, none⟩ = some (.string s)) (cb : w.heap[b]? = some zeroEnt) (cc : w.heap[c]? = some (intObj 0)) (hbc : b ≠ c) :
    Calls Try.prog 112 #[.pointer (some ⟨a, 0, none⟩), .pointer (some ⟨b, 0, none⟩), .pointer (some ⟨c, 0, none⟩)] w fun e w' => e = Ends (catE s) ∧ w'.heap[b]? = some (.cells (gotEN s).cells 58) ∧ w'.heap[c]? = some (intObj (gotNx s)) ∧ Grew (fun k => k = b ∨ k = c) w w' := by
  have H := Lib.hid (catParse_any s w)
  have hbl : b < w.heap.size := (Array.getElem?_eq_some_iff.1 cb).1
  have hcl : c < w.heap.size := (Array.getElem?_eq_some_iff.1 cc).1
  have HN : Hid (catE s ≠ Option.none → (.cells (gotEN s).cells 58 : Obj) = zeroEnt ∧ gotNx s = 0) := Lib.hid fun h => by unfold gotEN gotNx; rw [if_neg h, if_neg h]; exact ⟨rfl, rfl⟩
  generalize catE s = E at *
  generalize gotNx s = NX at *
  generalize gotEN s = R at *
  have HCb := Lib.hid cb
  have HCc := Lib.hid cc
  clear cb cc
  cases E with
  | some k =>
    obtain ⟨n1, n2⟩ := HN.out (by simp)
    subst n2
    have HFin := Lib.hid n1
    clear n1 HN
    go_enter Try.func112, Try.ntmps112
    go_wp2_with fail
    refine H.out.mono ?_
    rintro e w1 ⟨rfl, hb1⟩
    have HB := Lib.hid hb1
    clear hb1
    unfold failed
    go_wp2_with fail
    exact ⟨rfl, rfl, by rw [HFin.out, HB.out.block b hbl]; exact HCb.out, by rw [HB.out.block c hcl]; exact HCc.out, Grew.of_below HB.out⟩
  | none =>
    clear HN
    obtain ⟨id, parent, only, size, root, born⟩ := R
    dsimp only [EN.cells] at *
    go_enter Try.func112, Try.ntmps112
    go_wp2_with fail
    refine H.out.mono ?_
    rintro e w1 ⟨rfl, hb1⟩
    have hz1 : w1.heap[b]? = some zeroEnt := by rw [hb1.block b hbl]; exact HCb.out
    have hz2 : w1.heap[c]? = some (intObj 0) := by rw [hb1.block c hcl]; exact HCc.out
    obtain ⟨⟨y0, y1, y2, y3, y4, y5⟩, g0, g1, g2, g3, g4, g5⟩ := ent_cells hz1
    have z0 : w1.cell? ⟨c, 0, none⟩ = some (.int .i64 0) := by simp [World.cell?, hz2]
    have z1 : w1.frozen? ⟨c, 0, none⟩ = false := by simp [World.frozen?, hz2]
    obtain ⟨W, hW⟩ : ∃ W, ((((((w1.setCell ⟨b, 0, none⟩ (.int .u32 id)).setCell ⟨b, 1, none⟩ (.int .u32 parent)).setCell ⟨b, 2, none⟩ (.bool only)).setCell ⟨b, 3, none⟩ (.int .i64 size)).setCell ⟨b, 4, none⟩ (.int .i64 root)).setCell ⟨b, 5, none⟩ (.int .u32 born)) = W := ⟨_, rfl⟩
    have hW1 : W.heap[b]? = some (.cells #[.int .u32 id, .int .u32 parent, .bool only, .int .i64 size, .int .i64 root, .int .u32 born] 58) := by rw [← hW]; exact ent_set hz1 _ _ _ _ _ _
    have gW : Grew (fun k => k = b ∨ k = c) w W := by
      rw [← hW]
      have g := Grew.of_below (S := fun k => k = b ∨ k = c) hb1
      exact (((((g.setCell _ _ fun _ => Or.inl rfl).setCell _ _ fun _ => Or.inl rfl).setCell _ _ fun _ => Or.inl rfl).setCell _ _ fun _ => Or.inl rfl).setCell _ _ fun _ => Or.inl rfl).setCell _ _ fun _ => Or.inl rfl
    have hW2 : W.heap[c]? = some (intObj 0) := by
      rw [← hW, Below.heap_setCell _ _ _ _ (Ne.symm hbc), Below.heap_setCell _ _ _ _ (Ne.symm hbc), Below.heap_setCell _ _ _ _ (Ne.symm hbc), Below.heap_setCell _ _ _ _ (Ne.symm hbc), Below.heap_setCell _ _ _ _ (Ne.symm hbc), Below.heap_setCell _ _ _ _ (Ne.symm hbc)]
      exact hz2
    have HQ : Hid ((W.setCell ⟨c, 0, none⟩ (.int .i64 (NX : Int))).heap[b]? = some (.cells #[.int .u32 id, .int .u32 parent, .bool only, .int .i64 size, .int .i64 root, .int .u32 born] 58) ∧ (W.setCell ⟨c, 0, none⟩ (.int .i64 (NX : Int))).heap[c]? = some (intObj NX) ∧ Grew (fun k => k = b ∨ k = c) w (W.setCell ⟨c, 0, none⟩ (.int .i64 (NX : Int)))) := Lib.hid ⟨by rw [Below.heap_setCell _ _ _ _ hbc]; exact hW1, by simp [World.setCell, Array.getElem?_modify, hW2], gW.setCell _ _ fun _ => Or.inr rfl⟩
    subst hW
    clear hb1 hz1 hz2 H hW1 hW2 gW
    go_wp2_with fail
    go_end0
    exact ⟨rfl, HQ.out.1, HQ.out.2.1, HQ.out.2.2⟩
set_option maxHeartbeats 1000000 in
theorem lawCat_any (s : ByteArray) (w : World) :
    Calls Try.prog 77 #[.string s] w fun e w' => e = .returned (.tuple #[.agg (gotEN s).cells, .int .i64 (gotNx s), .int .i64 ((catE s).getD 0)]) ∧ Below w.heap.size w w' := by
  have hmf : ∀ (fn : Fn) (first cap : Array Value) (w : World), (Instr.makeFunc fn first cap).run Try.prog w = .ok (.func fn first cap) w := fun _ _ _ _ => rfl
  obtain ⟨W, hW⟩ : ∃ W, (((w.alloc (.cells #[.string s] 9)).alloc zeroEnt).alloc zeroEnt).alloc (intObj 0) = W := ⟨_, rfl⟩
  have g0 : ∀ S, Grew S w W := fun S => by rw [← hW]; exact ((((Grew.refl w).alloc _).alloc _).alloc _).alloc _
  have s1 : (w.alloc (.cells #[.string s] 9)).heap.size = w.heap.size + 1 := by simp
  have s2 : ((w.alloc (.cells #[.string s] 9)).alloc zeroEnt).heap.size = w.heap.size + 1 + 1 := by simp
  have s3 : (((w.alloc (.cells #[.string s] 9)).alloc zeroEnt).alloc zeroEnt).heap.size = w.heap.size + 1 + 1 + 1 := by simp
  have hsz : W.heap.size = w.heap.size + 1 + 1 + 1 + 1 := by rw [← hW]; simp
  have ca : W.cell? ⟨w.heap.size, 0, none⟩ = some (.string s) := by rw [← hW]; exact boxOld (boxOld (boxOld (boxNew rfl) (by simp)) (by simp; omega)) (by simp; omega)
  have cr : W.heap[w.heap.size + 1]? = some zeroEnt := by
    rw [← hW, Below.heap_alloc _ _ _ (by rw [s3]; omega), Below.heap_alloc _ _ _ (by rw [s2]; omega), ← s1]
    exact heap_alloc_new _ _
  have cb : W.heap[w.heap.size + 1 + 1]? = some zeroEnt := by
    rw [← hW, Below.heap_alloc _ _ _ (by rw [s3]; omega), ← s2]
    exact heap_alloc_new _ _
  have cc : W.heap[w.heap.size + 1 + 1 + 1]? = some (intObj 0) := by
    rw [← hW, ← s3]
    exact heap_alloc_new _ _
  have HG : Hid (Calls Try.prog 17 #[.func (.func 112) #[] #[.pointer (some ⟨w.heap.size, 0, none⟩), .pointer (some ⟨w.heap.size + 1 + 1, 0, none⟩), .pointer (some ⟨w.heap.size + 1 + 1 + 1, 0, none⟩)]] W fun e w' => e = .returned (.int .i64 ((catE s).getD 0)) ∧ w'.heap[w.heap.size + 1 + 1]? = some (.cells (gotEN s).cells 58) ∧ w'.heap[w.heap.size + 1 + 1 + 1]? = some (intObj (gotNx s)) ∧ w'.heap[w.heap.size + 1]? = some zeroEnt ∧ Below w.heap.size w w') := by
    refine Lib.hid ((guard_grew 112 #[.pointer (some ⟨w.heap.size, 0, none⟩), .pointer (some ⟨w.heap.size + 1 + 1, 0, none⟩), .pointer (some ⟨w.heap.size + 1 + 1 + 1, 0, none⟩)] W (fun k => k = w.heap.size + 1 + 1 ∨ k = w.heap.size + 1 + 1 + 1) (fun o w1 => o = catE s ∧ w1.heap[w.heap.size + 1 + 1]? = some (.cells (gotEN s).cells 58) ∧ w1.heap[w.heap.size + 1 + 1 + 1]? = some (intObj (gotNx s))) (by omega) (fun _ => by kernel_rfl) ?_).mono ?_)
    · have g1 : Grew (fun _ => False) W (W.alloc errBox) := (Grew.refl W).alloc _
      refine (catP1_any s w.heap.size (w.heap.size + 1 + 1) (w.heap.size + 1 + 1 + 1) _ (by rw [g1.cell (p := ⟨w.heap.size, 0, none⟩) (by show w.heap.size < _; omega) fun e => e]; exact ca) (by rw [g1.block _ (by omega) fun e => e]; exact cb) (by rw [g1.block _ (by omega) fun e => e]; exact cc) (by omega)).mono ?_
      rintro e w' ⟨rfl, hq, hq2, hg⟩
      exact ⟨_, rfl, hg, rfl, hq, hq2⟩
    · rintro e w' ⟨o, w1, rfl, ⟨rfl, hq, hq2⟩, rfl, hg, hlt⟩
      have gd := done_one W.heap.size (catE s) w1
      refine ⟨rfl, by rw [gd.block _ (by omega) (by omega)]; exact hq, by rw [gd.block _ (by omega) (by omega)]; exact hq2, by rw [hg.block _ (by omega) (by omega)]; exact cr, ?_⟩
      exact hg.below (by have := g0 fun _ => False; exact this.below (Below.refl _ _) (Nat.le_refl _) fun _ x => x.elim) (by omega) fun k e => by omega
  rw [← hW] at HG
  clear hW g0 ca cb cc cr hsz s1 s2 s3
  generalize (catE s).getD 0 = E at *
  generalize gotEN s = L at *
  generalize gotNx s = NX at *
  obtain ⟨id, parent, only, size, root, born⟩ := L
  dsimp only [EN.cells, intObj] at *
  go_enter Try.func77, Try.ntmps77
  go_wp2_with fail
  refine HG.out.mono ?_
  rintro e w1 ⟨rfl, hq, hq2, hr, hb⟩
  obtain ⟨q0, q1, q2, q3, q4, q5⟩ := six hq
  have z0 : w1.cell? ⟨w.heap.size + 1 + 1 + 1, 0, none⟩ = some (.int .i64 NX) := by simp [World.cell?, hq2]
  obtain ⟨⟨y0, y1, y2, y3, y4, y5⟩, g0, g1, g2, g3, g4, g5⟩ := ent_cells hr
  have HQ : Hid ((((((((w1.setCell ⟨w.heap.size + 1, 0, none⟩ (.int .u32 id)).setCell ⟨w.heap.size + 1, 1, none⟩ (.int .u32 parent)).setCell ⟨w.heap.size + 1, 2, none⟩ (.bool only)).setCell ⟨w.heap.size + 1, 3, none⟩ (.int .i64 size)).setCell ⟨w.heap.size + 1, 4, none⟩ (.int .i64 root)).setCell ⟨w.heap.size + 1, 5, none⟩ (.int .u32 born)).drew).heap[w.heap.size + 1]? = some (.cells #[.int .u32 id, .int .u32 parent, .bool only, .int .i64 size, .int .i64 root, .int .u32 born] 58) ∧ Below w.heap.size w (((((((w1.setCell ⟨w.heap.size + 1, 0, none⟩ (.int .u32 id)).setCell ⟨w.heap.size + 1, 1, none⟩ (.int .u32 parent)).setCell ⟨w.heap.size + 1, 2, none⟩ (.bool only)).setCell ⟨w.heap.size + 1, 3, none⟩ (.int .i64 size)).setCell ⟨w.heap.size + 1, 4, none⟩ (.int .i64 root)).setCell ⟨w.heap.size + 1, 5, none⟩ (.int .u32 born)).drew)) := Lib.hid ⟨by rw [heap_drew]; exact ent_set hr _ _ _ _ _ _, ((((((hb.setCell (Nat.le_succ _) _).setCell (Nat.le_succ _) _).setCell (Nat.le_succ _) _).setCell (Nat.le_succ _) _).setCell (Nat.le_succ _) _).setCell (Nat.le_succ _) _).drew⟩
  have HS0 : Hid ((w1.drew.cell? ⟨w.heap.size + 1 + 1, 0, none⟩ = some (.int .u32 id) ∧ w1.drew.cell? ⟨w.heap.size + 1 + 1, 1, none⟩ = some (.int .u32 parent) ∧ w1.drew.cell? ⟨w.heap.size + 1 + 1, 2, none⟩ = some (.bool only) ∧ w1.drew.cell? ⟨w.heap.size + 1 + 1, 3, none⟩ = some (.int .i64 size) ∧ w1.drew.cell? ⟨w.heap.size + 1 + 1, 4, none⟩ = some (.int .i64 root) ∧ w1.drew.cell? ⟨w.heap.size + 1 + 1, 5, none⟩ = some (.int .u32 born)) ∧ w1.drew.cell? ⟨w.heap.size + 1 + 1 + 1, 0, none⟩ = some (.int .i64 NX)) := Lib.hid ⟨six hq, z0⟩
  have HS1 := Lib.hid (six_off (k := w.heap.size + 1) (x := w.heap.size + 1 + 1) (y := w.heap.size + 1 + 1 + 1) (w := w1) (by omega) (by omega) HS0.out (.int .u32 id) (.int .u32 parent) (.bool only) (.int .i64 size) (.int .i64 root) (.int .u32 born))
  clear hq hq2 hr hb HG
  go_wp2_with fail
  refine wp_region_held_drew (S := (fun wx => (wx.cell? ⟨w.heap.size + 1 + 1, 0, none⟩ = some (.int .u32 id) ∧ wx.cell? ⟨w.heap.size + 1 + 1, 1, none⟩ = some (.int .u32 parent) ∧ wx.cell? ⟨w.heap.size + 1 + 1, 2, none⟩ = some (.bool only) ∧ wx.cell? ⟨w.heap.size + 1 + 1, 3, none⟩ = some (.int .i64 size) ∧ wx.cell? ⟨w.heap.size + 1 + 1, 4, none⟩ = some (.int .i64 root) ∧ wx.cell? ⟨w.heap.size + 1 + 1, 5, none⟩ = some (.int .u32 born)) ∧ wx.cell? ⟨w.heap.size + 1 + 1 + 1, 0, none⟩ = some (.int .i64 NX))) (by kernel_rfl) HS0.out (fun hHeld => ?_)
  refine wpAnyH_take (i := 0) (oi := { dst := some 10, op := Op.load 58 (Operand.tmp 5), type := 58, pos := "law.go:31", after := #[], guard := none }) (v := ?_) rfl (by kernel_rfl) (by kernel_rfl) (by kernel_rfl) (fun _ _ _ h => h) (Or.inl ⟨by rfl, ?_⟩) (by assumption) ?_
  rotate_left
  · (intro wz hSw; (try dsimp only at hSw); go_simp; try with_reducible rfl)
  try simp only [Act.put, List.setIfInBounds_toArray, List.set_cons_zero, List.set_cons_succ]
  refine wpAnyH_take (i := 1) (oi := { dst := some 11, op := Op.load 3 (Operand.tmp 6), type := 3, pos := "law.go:31", after := #[{ on := 3, ground := Ground.gcOnly Departure.lateStores }], guard := none }) (v := ?_) rfl (by kernel_rfl) (by kernel_rfl) (by kernel_rfl) (fun _ _ _ h => h) (Or.inl ⟨by rfl, ?_⟩) (by assumption) ?_
  rotate_left
  · (intro wz hSw; (try dsimp only at hSw); go_simp; try with_reducible rfl)
  try simp only [Act.put, List.setIfInBounds_toArray, List.set_cons_zero, List.set_cons_succ]
  refine wpAnyH_take (i := 2) (oi := { dst := some 12, op := Op.move (Operand.tmp 7), type := 45, pos := "law.go:31", after := #[{ on := 4, ground := Ground.gcOnly Departure.lateStores }], guard := none }) (v := ?_) rfl (by kernel_rfl) (by kernel_rfl) (by kernel_rfl) (fun _ _ _ h => h) (Or.inl ⟨by rfl, ?_⟩) (by assumption) ?_
  rotate_left
  · (intro wz hSw; (try dsimp only at hSw); go_simp; try with_reducible rfl)
  try simp only [Act.put, List.setIfInBounds_toArray, List.set_cons_zero, List.set_cons_succ]
  refine wpAnyH_ready (rs := [3]) (by kernel_rfl) (by simp) ?_
  refine AllReadyH.cons (o := { dst := none, op := Op.store 58 (Operand.tmp 2) (Operand.tmp 10), type := 0, pos := "law.go:31", after := #[{ on := 0, ground := Ground.data }, { on := 0, ground := Ground.phase }, { on := 1, ground := Ground.textOnly Departure.lateStores }, { on := 2, ground := Ground.textOnly Departure.lateStores }], guard := none }) rfl (fun K hK => ?_) AllReadyH.nil
  go_simp
  have hS1 := HS1.out
  with_reducible refine hK.out _ _ hS1 (fun hHeld => ?_)
  clear hS1
  clear hK K
  try simp only [Act.put, List.setIfInBounds_toArray, List.set_cons_zero, List.set_cons_succ]
  refine wpAnyH_take (i := 4) (oi := { dst := some 3, op := Op.assign (Operand.tmp 11), type := 3, pos := "law.go:31", after := #[{ on := 1, ground := Ground.data }, { on := 3, ground := Ground.chain }, { on := 0, ground := Ground.phase }, { on := 1, ground := Ground.phase }, { on := 2, ground := Ground.textOnly Departure.lateStores }, { on := 3, ground := Ground.phase }], guard := none }) (v := ?_) rfl (by kernel_rfl) (by kernel_rfl) (by kernel_rfl) (fun _ _ _ h => h) (Or.inl ⟨by rfl, ?_⟩) (by assumption) ?_
  rotate_left
  · (intro wz hSw; (try dsimp only at hSw); go_simp; try with_reducible rfl)
  try simp only [Act.put, List.setIfInBounds_toArray, List.set_cons_zero, List.set_cons_succ]
  refine wpAnyH_take (i := 5) (oi := { dst := some 4, op := Op.assign (Operand.tmp 12), type := 45, pos := "law.go:31", after := #[{ on := 2, ground := Ground.data }, { on := 4, ground := Ground.chain }, { on := 0, ground := Ground.phase }, { on := 1, ground := Ground.phase }, { on := 2, ground := Ground.phase }, { on := 3, ground := Ground.phase }, { on := 4, ground := Ground.phase }], guard := none }) (v := ?_) rfl (by kernel_rfl) (by kernel_rfl) (by kernel_rfl) (fun _ _ _ h => h) (Or.inl ⟨by rfl, ?_⟩) (by assumption) ?_
  rotate_left
  · (intro wz hSw; (try dsimp only at hSw); go_simp; try with_reducible rfl)
  try simp only [Act.put, List.setIfInBounds_toArray, List.set_cons_zero, List.set_cons_succ]
  refine wpAnyH_done (by kernel_rfl) ?_ _
  go_wp2_with fail
  refine bodyPost_ret (results_cell_tmps rfl _ _ (w.heap.size + 1) _ _ _ _ rfl HQ.out.1 Try.underlying58 entSize) rfl ?_
  exact ⟨rfl, HQ.out.2⟩
end Go.Proofs.Ytjjmapmombhmlaa
