/-
  A table of ints by ints: how many it has; a range over it, with what is left.
-/
import Derived.Test.YtdeohkkpmjgaoaaTabII
import Derived.Maps.RangeWalk
namespace Go.Proofs.Ytdeohkkpmjgaoaa
open Go.RowKit Go.Maps Go.ChangeMaps Go.WideShapes

/-- 'len(m)' is how many of the list's keys it has -/
theorem Tab.count {K V : Type} {T : Tbl K V} {b : Nat} {F : K → Option V} {L : List K} {w : World} (h : Tab T b F L w) (f : T.Fine) (hL : L.Nodup) (ty : TypeId) : (Builtin.len_ #[T.t] ty #[.map (some b)]).run Try.prog w = .ok (.int .i64 ((L.filter fun k => (F k).isSome).length : Nat)) w := by
  obtain ⟨D, ho, hh, ha, hl⟩ := h.own
  have e : size D = (L.filter fun k => (F k).isSome).length := by
    obtain ⟨es, rfl, hp⟩ := ho.tidy f.law
    have h1 : (es.map Prod.fst).Nodup := by
      rw [List.nodup_iff_pairwise_ne, List.pairwise_map]
      exact hp
    have h2 : ∀ x ∈ es.map Prod.fst, x ∈ (L.filter fun k => (F k).isSome).map T.kl := fun x hx => by
      obtain ⟨p, hpm, rfl⟩ := List.mem_map.1 hx
      have hKey : WideAt.IsKeyLit p.1 := by
        obtain ⟨es', e', _, hc⟩ := ho.canon f.law
        cases e'
        exact hc p hpm
      have hm : has (.map es) p.1 = true := by
        rw [has_eq, List.any_eq_true]
        exact ⟨p, hpm, WideAt.sameKey_self hKey⟩
      obtain ⟨k, hk1⟩ := hl _ hm
      rw [hk1, hh] at hm
      rw [hk1]
      exact List.mem_map.2 ⟨k, List.mem_filter.2 ⟨(h.sup k hm).1, hm⟩, rfl⟩
    have h3 : ((L.filter fun k => (F k).isSome).map T.kl).Nodup := by
      rw [List.nodup_iff_pairwise_ne, List.pairwise_map]
      have hn : (L.filter fun k => (F k).isSome).Pairwise fun p q => p ≠ q := by
        exact hL.filter fun k => (F k).isSome
      exact hn.imp fun {x y} hne e => hne (f.inj _ _ e)
    have h4 : ∀ x ∈ (L.filter fun k => (F k).isSome).map T.kl, x ∈ es.map Prod.fst := fun x hx => by
      obtain ⟨k, hk, rfl⟩ := List.mem_map.1 hx
      have hs := (List.mem_filter.1 hk).2
      have hm : has (.map es) (T.kl k) = true := by rw [hh]; exact hs
      rw [has_eq, List.any_eq_true] at hm
      obtain ⟨p, hpm, hsame⟩ := hm
      exact List.mem_map.2 ⟨p, hpm, WideAt.sameKey_eq hsame⟩
    have a1 := len_le _ _ h1 h2
    have a2 := len_le _ _ h3 h4
    rw [size_eq]
    simp only [List.length_map] at a1 a2
    omega
  rw [← e]
  exact ho.len f.und ty
/-- a range over a table is under way: G has what is left -/
def RngI (b r : Nat) (F G : Int → Option Int) (cnt : Nat) (w : World) : Prop := ∃ D n left, w.ranges Try.prog 3 (tblII Try.prog).R b r n (D : DataW Unit) left cnt ∧ (∀ k, has D ((tblII Try.prog).kl k) = (F k).isSome) ∧ (∀ k v, F k = some v → ∀ z, D.atKey ((tblII Try.prog).kl k) z = (tblII Try.prog).el v) ∧ ∀ x : Int, left (.int .i64 x) = (G x).isSome
section
variable {b r cnt : Nat} {F G : Int → Option Int} {w : World}
theorem RngI.keep {S : Nat → Prop} {w' : World} (h : RngI b r F G cnt w) (g : Grew S w w') (hb : ¬ S b) (hr : ¬ S r) : RngI b r F G cnt w' := by
  obtain ⟨D, n, left, h1, h2⟩ := h
  have l1 := h1.owns.lt
  have l2 := h1.lt
  obtain ⟨es, clock, since, seen, c0, e1, F', hs, hD, e2, rest⟩ := h1
  exact ⟨D, n, left, ⟨es, clock, since, seen, c0, (g.block b l1 hb).trans e1, F', hs, hD, (g.block r l2 hr).trans e2, rest⟩, h2⟩
theorem wpList_tab_rangeI {L : List Int} {ops : Array Oper} {rest : List Oper} {o : Oper} {a : Act} {Q : Exit → Act → World → Prop} (hg : o.guard = none) (m : Operand) (hop : o.op = Op.range 27 m) (hm : a.eval m = .map (some b)) (h : Tab (tblII Try.prog) b F L w)
    (hK : ∀ w' cnt, RngI b w.heap.size F F cnt w' → Grew (fun _ => False) w w' → wpList Try.prog ops Q rest (a.put o.dst (.pointer (some ⟨w.heap.size, 0, none⟩))) w') : wpList Try.prog ops Q (o :: rest) a w := by
  obtain ⟨D, ho, hh, ha, hl⟩ := h.own
  refine wpList_range_own w hg m 27 hop 3 3 tblII_fine.law tblII_fine.und (tblII Try.prog).R b (size D) D hm ho fun w' h1 h2 _ => hK w' _ ⟨D, _, _, h1, hh, ha, fun x => hh x⟩ ?_
  exact ⟨h2.os, h2.tape, h2.output, h2.size, fun k hk _ => h2.block k hk (by simp)⟩
theorem RngI.left (h : RngI b r F G cnt w) : w.rangeLeft b r = cnt := by
  obtain ⟨D, n, left, h1, _⟩ := h
  exact h1.left_eq
set_option maxRecDepth 100000 in
theorem wpList_tab_nextI {ops : Array Oper} {rest : List Oper} {o : Oper} {a : Act} {Q : Exit → Act → World → Prop} (hg : o.guard = none) (it : Operand) (hop : o.op = Op.next it false) (hit : a.eval it = .pointer (some ⟨r, 0, none⟩)) (h : RngI b r F G cnt w)
    (hDone : (∀ x, G x = none) → wpList Try.prog ops Q rest (a.put o.dst (.tuple #[.bool false])) w)
    (hMore : ∀ (x c : Int) w' cnt', F x = some c → (G x).isSome = true → (Lit.int .i64 x).wf = true → RngI b r F (upF G x none) cnt' w' → cnt' < cnt → Grew (fun q => q = r) w w' → (Instr.entry (.pointer (some ⟨r, 0, none⟩))).run Try.prog w' = .ok (.tuple #[.int .i64 x, .int .i64 c]) w' → wpList Try.prog ops Q rest (a.put o.dst (.tuple #[.bool true, .int .i64 x, .int .i64 c])) w') : wpList Try.prog ops Q (o :: rest) a w := by
  obtain ⟨D, n, left, h1, hh, ha, hleft⟩ := h
  refine wpList_next_ranges_ii w hg it hop 3 3 .i64 .i64 tblII_fine.law Try.underlying3 Try.underlying3 b r n D left cnt hit h1 (fun _ hz => hDone fun x => ?_) ?_
  · have := hleft x
    rw [hz] at this
    exact Option.isNone_iff_eq_none.1 (by cases hG : G x with | none => rfl | some _ => rw [hG] at this; cases this)
  · intro x c w' cnt' hwx hwc hl hat hr hlt hgr _ hen
    have hs : has D ((tblII Try.prog).kl x) = true := has_true_of_atKey hat
    rw [hh, Option.isSome_iff_exists] at hs
    obtain ⟨c', hc'⟩ := hs
    have hcc : c' = c := by
      have e1 := ha x c' hc' (.map [])
      have e2 := hat (.map [])
      have e5 : DataW.lit (.int .i64 c') = DataW.lit (.int .i64 c) := e1.symm.trans e2
      exact (Lit.int.inj (DataW.lit.inj e5)).2
    subst hcc
    refine hMore x c' w' cnt' hc' ((hleft x).symm.trans hl) hwx ⟨D, n, _, hr, hh, ha, fun y => ?_⟩ hlt ⟨hgr.os, hgr.tape, hgr.output, hgr.size, fun k hk hs => hgr.block k hk fun e => hs (Option.some.inj e)⟩ hen
    show (left (.int .i64 y) && !(Lit.int .i64 y).sameKey (.int .i64 x)) = (upF G x none y).isSome
    rw [hleft]
    unfold upF
    by_cases e : y = x
    · subst e
      rw [if_pos rfl, show (Lit.int .i64 y).sameKey (.int .i64 y) = true from WideAt.sameKey_self (tblII_fine.isKey y)]
      simp
    · rw [if_neg e, sameKey_ne (fun k => e (Lit.int.inj k).2)]
      simp
end
end Go.Proofs.Ytdeohkkpmjgaoaa
