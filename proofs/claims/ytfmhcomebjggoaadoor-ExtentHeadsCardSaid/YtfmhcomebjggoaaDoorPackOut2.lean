/-
  The other calls of an Out, for every text: contracts by walking their text.
-/
import Derived.Test.YtfmhcomebjggoaaDoorPackOut
import Derived.Test.YtfmhcomebjggoaaDoorAppendMore
import Derived.Laws.IdiomStrings
namespace Go.Proofs.YtfmhcomebjggoaaDoor
open Go.RowKit

section
variable {P : Program} (w : World)
theorem wp_append_run {o : Oper} {a : Act} {K : Act → World → Prop} {Q : Exit → Act → World → Prop} (s x : Operand) (t u : TypeId)
    (ho : o.op = .call { callee := .builtin .append, args := #[s, x], argTypes := #[t, u] }) (v y : Value) (hs : a.eval s = v) (hx : a.eval x = y)
    (n : Nat) (R : Value → World → Prop) (hr : ∃ ao cap w', (Builtin.append_ #[t, u] o.type #[v, y]).run P w = .ok (.slice ao n cap) w' ∧ R (.slice ao n cap) w')
    (h : ∀ ao cap w', R (.slice ao n cap) w' → K (a.put o.dst (.slice ao n cap)) w') : o.wp P a w K Q := by
  obtain ⟨ao, cap, w', hr, h2⟩ := hr
  unfold Oper.wp execOp
  simp only [ho, resolve, invoke, builtin, Sem.run_bind, Sem.run_pure, Result.andThen_ok, List.map_toArray, List.map_cons, List.map_nil, hs, hx, hr]
  exact h ao cap w' h2
theorem wpList_append_run {ops : Array Oper} {rest : List Oper} {o : Oper} {a : Act} {Q : Exit → Act → World → Prop} (hgd : o.guard = none) (s x : Operand) (t u : TypeId)
    (ho : o.op = .call { callee := .builtin .append, args := #[s, x], argTypes := #[t, u] }) (v y : Value) (hs : a.eval s = v) (hx : a.eval x = y)
    (n : Nat) (R : Value → World → Prop) (hr : ∃ ao cap w', (Builtin.append_ #[t, u] o.type #[v, y]).run P w = .ok (.slice ao n cap) w' ∧ R (.slice ao n cap) w')
    (h : ∀ ao cap w', R (.slice ao n cap) w' → wpList P ops Q rest (a.put o.dst (.slice ao n cap)) w') : wpList P ops Q (o :: rest) a w :=
  wpList_plain hgd fun _ hK => wp_append_run w s x t u ho v y hs hx n R hr fun ao cap w' h2 => hK _ _ (h ao cap w' h2)
theorem step_append_run {ops : Array Oper} {o : Oper} {a : Act} {K : Act → World → Prop} {Q : Exit → Act → World → Prop} {E : Prop} (hgd : o.guard = none) (s x : Operand) (t u : TypeId)
    (ho : o.op = .call { callee := .builtin .append, args := #[s, x], argTypes := #[t, u] }) (v y : Value) (hs : a.eval s = v) (hx : a.eval x = y)
    (n : Nat) (R : Value → World → Prop) (hr : ∃ ao cap w', (Builtin.append_ #[t, u] o.type #[v, y]).run P w = .ok (.slice ao n cap) w' ∧ R (.slice ao n cap) w')
    (h : ∀ ao cap w', R (.slice ao n cap) w' → K (a.put o.dst (.slice ao n cap)) w') :
    if Region.wanted o (yielded ops a.tmps) = true then Oper.wp P o a w K Q else E := by
  have hw : Region.wanted o (yielded ops a.tmps) = true := by simp [Region.wanted, hgd]
  rw [if_pos hw]
  exact wp_append_run w s x t u ho v y hs hx n R hr h
end

theorem out_step' {B o : Nat} {v v1 v' : Value} {l k : List UInt8} {w wr W w1 : World} {n : Nat} (h1 : OutAt B o v1 l wr) (h2 : ∀ k, k < w.heap.size → v1.ownBlock = some k → v.ownBlock = some k) (h3 : Grew (outs o v) w wr)
    (hW : Grew (fun _ => False) wr W) (hs : w1.ownsRow B 5 1 v' n (cellsOf l ++ cellsOf k)) (hn : n = l.length + k.length) (hg : W.grownBy w1 v1.ownBlock) (hat : ∀ j, j < W.heap.size → v'.ownBlock = some j → v1.ownBlock = some j) :
    OutTo B o v (l ++ k) w (w1.setCell ⟨o, 0, none⟩ v') := by
  have hlt := h1.lt
  have hbs := h1.base
  have hws := hW.size
  have hgs := hg.size
  obtain ⟨c1, c2⟩ := out_cells h1 hW hg
  refine ⟨_, ⟨hlt, by simp [World.setCell]; omega, World.cell?_setCell_same _ _ _ c1, by rw [World.frozen?_setCell]; exact c2, ?_⟩, ?_, ?_⟩
  · rw [List.length_append, ← hn, cellsOf_append]
    exact ownsRow_setCell_below hs hlt _
  · intro k hk e
    have := h3.size
    exact h2 _ hk (hat k (by omega) e)
  · refine ((h3.step hW fun _ _ x => x.elim).grown hg ?_).setCell _ _ fun _ => Or.inl rfl
    intro k hk e
    exact Or.inr (h2 k hk e)
theorem OutAt.form {B o : Nat} {v : Value} {l : List UInt8} {w : World} (h : OutAt B o v l w) : ∃ ao cap, v = .slice ao l.length cap := by
  rcases h.row.2 with ⟨rfl, h0⟩ | ⟨g', cap', cur, rfl, hb, _⟩
  · exact ⟨none, 0, by rw [h0]⟩
  · exact ⟨_, _, rfl⟩

/-- what an append to an Out's row leaves -/
def AppTo (B : Nat) (v : Value) (l k : List UInt8) (w : World) (v' : Value) (w' : World) : Prop :=
  w'.ownsRow B 5 1 v' (l.length + k.length) (cellsOf l ++ cellsOf k) ∧ w.grownBy w' v.ownBlock ∧ (∀ j, j < w.heap.size → v'.ownBlock = some j → v.ownBlock = some j)
theorem app_text {B o : Nat} {v : Value} {l : List UInt8} {w : World} (ty : TypeId) (h : OutAt B o v l w) (s : ByteArray) (hl : l.length + s.size < 1000000000) :
    ∃ ao cap w', (Builtin.append_ #[33, 9] ty #[v, .string s]).run Tryd.prog w = .ok (.slice ao (l.length + s.size) cap) w' ∧ AppTo B v l s.data.toList w (.slice ao (l.length + s.size) cap) w' := by
  obtain ⟨i0, hi, hz0, hz1, hz2⟩ := info_parts info8p
  exact append_text (P := Tryd.prog) w B _ _ ty 5 i0 Tryd.underlying33 Tryd.underlying9 hi hz0 hz1 hz2 v l.length _ h.row s (by unfold maxLen; omega) (by omega) h.base
theorem cellsOf_zeros (k : Nat) : cellsOf (List.replicate k 0) = noughts k := by simp [cellsOf, noughts]
theorem app_zeros {B o : Nat} {v : Value} {l : List UInt8} {w W : World} (ty : TypeId) (h : OutAt B o v l w) (hW : W = w.drew) (k : Nat) (hl : l.length + k < 1000000000) :
    ∃ ao cap w', (Builtin.append_ #[33, 3] ty #[v, .int .i64 k]).run Tryd.prog W = .ok (.slice ao (l.length + k) cap) w' ∧ AppTo B v l (List.replicate k 0) W (.slice ao (l.length + k) cap) w' := by
  subst hW
  obtain ⟨i0, hi, hz0, hz1, hz2⟩ := info_parts info8p
  have := append_zeros (P := Tryd.prog) w.drew B _ _ ty 5 i0 .i64 Tryd.underlying33 Tryd.underlying3 hi hz0 hz1 hz2 v l.length _ h.row k (by omega) (by unfold maxLen; omega) (by omega) h.base
  unfold AppTo
  rw [cellsOf_zeros, List.length_replicate]
  exact this

set_option maxHeartbeats 1000000 in
theorem outText_any (B o : Nat) (v : Value) (l : List UInt8) (s : ByteArray) (w : World) (h : OutAt B o v l w) (hl : l.length + s.size < 1000000) :
    Calls Tryd.prog 34 #[.pointer (some ⟨o, 0, none⟩), .string s] w fun e w' => e = .returned (.pointer (some ⟨o, 0, none⟩)) ∧ OutTo B o v (l ++ s.data.toList) w w' := by
  have hcell := h.cell
  have HT := Lib.hid (app_text 33 h s (by omega))
  have H := Lib.hid h
  clear h
  go_enter Tryd.func34, Tryd.ntmps34
  go_wp2_with ((with_reducible refine wpList_append_run _ rfl (.tmp 9) (.tmp 10) 33 9 rfl v (.string s) rfl rfl (l.length + s.size) _ HT.out ?_); (rintro ao cap w1 ⟨hs, hg, hat⟩); (obtain ⟨c1, c2⟩ := out_cells H.out (Grew.refl _) hg); (have HS := Lib.hid hs); (have HG := Lib.hid hg); (have HA := Lib.hid hat); (clear hs hg hat))
  go_ret
  exact ⟨rfl, out_step' H.out (fun _ _ h => h) (Grew.refl _) (Grew.refl _) HS.out rfl HG.out HA.out⟩

theorem out_conv {B o : Nat} {v : Value} {l : List UInt8} {w : World} (h : OutAt B o v l w) :
    (convert 33 9 v).run Tryd.prog w = .ok (.string ⟨l.toArray⟩) w := by
  rcases h.row.2 with ⟨rfl, h0⟩ | ⟨g, cap, cur, rfl, hb, hr⟩
  · obtain rfl : l = [] := List.eq_nil_of_length_eq_zero h0
    kernel_rfl
  · refine run_convert_bytes_back w _ _ 5 _ cap l Tryd.underlying33 Tryd.underlying5 Tryd.underlying9 fun j hj => ?_
    refine h.row.cells (g := g) rfl j _ ?_
    simp [cellsOf, hj]
set_option maxHeartbeats 1000000 in
theorem outBytes_any (B o : Nat) (v : Value) (l : List UInt8) (w : World) (h : OutAt B o v l w) :
    Calls Tryd.prog 52 #[.pointer (some ⟨o, 0, none⟩)] w fun e w' => e = .returned (.string ⟨l.toArray⟩) ∧ w = w' := by
  have hcell := h.cell
  have hconv := out_conv h
  clear h
  go_enter Tryd.func52, Tryd.ntmps52
  go_wp2
  go_ret
  exact ⟨rfl, rfl⟩
set_option maxHeartbeats 1000000 in
theorem outFill_big (B o : Nat) (v : Value) (l : List UInt8) (n : Int) (w : World) (h : OutAt B o v l w) (hn : n < l.length) :
    Calls Tryd.prog 51 #[.pointer (some ⟨o, 0, none⟩), .int .i64 n] w fun e w' => e = failed 3 ∧ w = w' := by
  obtain ⟨ao, cap, rfl⟩ := h.form
  have hcell := h.cell
  clear h
  go_enter Tryd.func51, Tryd.ntmps51
  go_wp2_with fail
  refine (fail_any 3 _).mono ?_
  rintro e w' ⟨rfl, rfl⟩
  unfold failed
  go_wp2
  exact ⟨rfl, rfl, rfl⟩
set_option maxHeartbeats 1000000 in
theorem outFill_ok (B o : Nat) (v : Value) (l : List UInt8) (n : Int) (w : World) (h : OutAt B o v l w) (hn : l.length ≤ n) (hm : n < 1000000) :
    Calls Tryd.prog 51 #[.pointer (some ⟨o, 0, none⟩), .int .i64 n] w fun e w' => e = .returned (.pointer (some ⟨o, 0, none⟩)) ∧ OutTo B o v (l ++ List.replicate (n.toNat - l.length) 0) w w' := by
  obtain ⟨ao, cap, rfl⟩ := h.form
  have hcell := h.cell
  have HT := Lib.hid (app_zeros 33 h rfl (n.toNat - l.length) (by omega))
  have H := Lib.hid h
  have hge : ¬ n < l.length := by omega
  clear h
  have e1 : IntKind.i64.wrap (n - l.length) = ((n.toNat - l.length : Nat) : Int) := by rw [IntWalk.i64_in _ (by omega)]; omega
  generalize n.toNat - l.length = k at *
  go_enter Tryd.func51, Tryd.ntmps51
  go_wp2_with fail
  go_region_law ((refine step_append_run _ rfl (.tmp 17) (.tmp 24) 33 3 rfl (.slice ao l.length cap) (.int .i64 k) rfl rfl (l.length + k) _ HT.out ?_); (rintro ao1 cap1 w1 ⟨hs, hg, hat⟩); (obtain ⟨c1, c2⟩ := out_cells H.out (Grew.refl _).drew hg); (have HS := Lib.hid hs); (have HG := Lib.hid hg); (have HA := Lib.hid hat); (clear hs hg hat))
  all_goals
    go_wp2
    go_ret
    exact ⟨rfl, out_step' H.out (fun _ _ h => h) (Grew.refl _) (Grew.refl _).drew HS.out (by simp) HG.out HA.out⟩
end Go.Proofs.YtfmhcomebjggoaaDoor
