/-
  A table that a call makes, as a function of its keys: look-up, store, delete.
-/
import Derived.Test.YtjjmapmombhmlaaUndoGen
import Derived.Maps.OwnSet
import Derived.Maps.Ext
import Derived.Maps.StringElems
namespace Go.Proofs.Ytjjmapmombhmlaa
open Go.RowKit Go.Maps Go.ChangeMaps Go.WideShapes

/-- what is known of a table's types: how keys and elements stand, and read -/
structure Tbl (K V : Type) where
  t : TypeId
  kt : TypeId
  et : TypeId
  R : Value → Option (DataW Unit × List MemPlace)
  kv : K → Value
  kl : K → Lit
  vv : V → Value
  el : V → DataW Unit
  ok : K → Prop
  okv : V → Prop
  z : V
structure Tbl.Fine {K V : Type} (T : Tbl K V) : Prop where
  und : Try.prog.underlying T.t = some (.map T.kt T.et)
  law : Keyed Try.prog T.kt
  key : ∀ k, T.ok k → keyOf Try.prog T.kt (T.kv k) = some (T.kl k)
  isKey : ∀ k, WideAt.IsKeyLit (T.kl k)
  inj : ∀ k k', T.kl k = T.kl k' → k = k'
  val : ∀ v, T.okv v → T.R (T.vv v) = some (T.el v, [])
  inv : ∀ x v ps, T.R x = some (T.el v, ps) → x = T.vv v
  zero : ∀ w : World, (zeroValue T.et).run Try.prog w = .ok (T.vv T.z) w
  okz : T.okv T.z
/-- block b is a table that has these elements by their keys, all of a list -/
structure Tab {K V : Type} (T : Tbl K V) (b : Nat) (F : K → Option V) (L : List K) (w : World) : Prop where
  own : ∃ D : DataW Unit, w.ownsMap Try.prog T.kt T.R b (size D) D ∧ (∀ k, has D (T.kl k) = (F k).isSome) ∧ (∀ k v, F k = some v → ∀ z, D.atKey (T.kl k) z = T.el v) ∧ (∀ l, has D l = true → ∃ k, l = T.kl k)
  sup : ∀ k, (F k).isSome = true → k ∈ L ∧ T.ok k
  vals : ∀ k v, F k = some v → T.okv v
section
variable {K V : Type} {T : Tbl K V} {b : Nat} {F : K → Option V} {L : List K} {w : World}
theorem len_le {α : Type} : ∀ (es L : List α), es.Nodup → (∀ x ∈ es, x ∈ L) → es.length ≤ L.length
  | [], _, _, _ => Nat.zero_le _
  | x :: es, L, hn, hs => by
    classical
    have hx : x ∈ L := hs x List.mem_cons_self
    have h1 := len_le es (L.erase x) (List.nodup_cons.1 hn).2 fun y hy => by
      have hne : y ≠ x := fun e => (List.nodup_cons.1 hn).1 (e ▸ hy)
      exact (List.mem_erase_of_ne hne).2 (hs y (List.mem_cons_of_mem _ hy))
    have h2 := List.length_erase_of_mem hx
    have h3 : 0 < L.length := List.length_pos_of_mem hx
    simp only [List.length_cons]
    omega
theorem Tab.few (h : Tab T b F L w) (f : T.Fine) {D : DataW Unit} (ho : w.ownsMap Try.prog T.kt T.R b (size D) D) (hh : ∀ k, has D (T.kl k) = (F k).isSome) (hk : ∀ l, has D l = true → ∃ k, l = T.kl k) : size D ≤ L.length := by
  obtain ⟨es, rfl, hp⟩ := ho.tidy f.law
  have h1 : (es.map Prod.fst).Nodup := by
    rw [List.nodup_iff_pairwise_ne, List.pairwise_map]
    exact hp
  have h2 : ∀ x ∈ es.map Prod.fst, x ∈ L.map T.kl := fun x hx => by
    obtain ⟨p, hpm, rfl⟩ := List.mem_map.1 hx
    have hKey : WideAt.IsKeyLit p.1 := by
      obtain ⟨es', e', _, hc⟩ := ho.canon f.law
      cases e'
      exact hc p hpm
    have hm : has (.map es) p.1 = true := by
      rw [has_eq, List.any_eq_true]
      exact ⟨p, hpm, WideAt.sameKey_self hKey⟩
    obtain ⟨k, hk1⟩ := hk _ hm
    rw [hk1, hh] at hm
    rw [hk1]
    exact List.mem_map.2 ⟨k, (h.sup k hm).1, rfl⟩
  have := len_le _ _ h1 h2
  rw [size_eq]
  simpa using this
theorem Tab.lt (h : Tab T b F L w) : b < w.heap.size := by
  obtain ⟨D, ho, _⟩ := h.own
  exact ho.lt
theorem Tab.block {w' : World} (h : Tab T b F L w) (e : w'.heap[b]? = w.heap[b]?) : Tab T b F L w' := by
  obtain ⟨D, ⟨es, clock, hb, r⟩, q⟩ := h.own
  exact ⟨⟨D, ⟨es, clock, e.trans hb, r⟩, q⟩, h.sup, h.vals⟩
theorem Tab.keep {S : Nat → Prop} {w' : World} (h : Tab T b F L w) (g : Grew S w w') (hS : ¬ S b) : Tab T b F L w' := h.block (g.block b h.lt hS)
/-- 'v, ok := m[k]' -/
theorem Tab.look (h : Tab T b F L w) (f : T.Fine) (k : K) (hk : T.ok k) : (Instr.lookup T.t (.map (some b)) (T.kv k) true).run Try.prog w = .ok (.tuple #[T.vv ((F k).getD T.z), .bool (F k).isSome]) w := by
  obtain ⟨D, ho, hh, ha, hl⟩ := h.own
  obtain ⟨v, ps, hrun, hv⟩ := ho.look_ok f.law f.und (f.zero w) (f.val _ f.okz) (f.key k hk)
  rw [hrun, hh]
  cases hF : F k with
  | some y =>
    rw [ha k y hF] at hv
    rw [f.inv _ _ _ hv]
    rfl
  | none =>
    rw [atKey_of_not_has (by rw [hh, hF]; rfl)] at hv
    rw [f.inv _ _ _ hv]
    rfl
/-- 'm[k]' -/
theorem Tab.look1 (h : Tab T b F L w) (f : T.Fine) (k : K) (hk : T.ok k) : (Instr.lookup T.t (.map (some b)) (T.kv k) false).run Try.prog w = .ok (T.vv ((F k).getD T.z)) w := by
  obtain ⟨D, ho, hh, ha, hl⟩ := h.own
  obtain ⟨v, ps, hrun, hv⟩ := ho.lookup f.law f.und (f.zero w) (f.val _ f.okz) (f.key k hk)
  rw [hrun]
  cases hF : F k with
  | some y =>
    rw [ha k y hF] at hv
    rw [f.inv _ _ _ hv]
    rfl
  | none =>
    rw [atKey_of_not_has (by rw [hh, hF]; rfl)] at hv
    rw [f.inv _ _ _ hv]
    rfl
/-- one key's element is another one, or none -/
def upF [DecidableEq K] (F : K → Option V) (k : K) (v : Option V) : K → Option V := fun x => if x = k then v else F x
theorem upF_same [DecidableEq K] (F : K → Option V) (k : K) (v : Option V) : upF F k v k = v := if_pos rfl
theorem upF_back [DecidableEq K] (F : K → Option V) (k : K) (v : Option V) : upF (upF F k v) k (F k) = F := by
  funext x
  unfold upF
  by_cases h : x = k
  · rw [if_pos h, h]
  · rw [if_neg h, if_neg h]
theorem turned_grew {w' : World} {b : Nat} (h : w.mapTurned w' b) : Grew (fun k => k = b) w w' := by
  have g := h.grown
  exact ⟨g.os, g.tape, g.output, g.size, fun k hk hs => g.block k hk fun e => hs (Option.some.inj e)⟩
theorem Tab.put [DecidableEq K] {w' : World} (h : Tab T b F L w) (f : T.Fine) (k : K) (v : V) (hk : k ∈ L) (hok : T.ok k) (hv : T.okv v) {D : DataW Unit} (hh : ∀ k, has D (T.kl k) = (F k).isSome) (ha : ∀ k v, F k = some v → ∀ z, D.atKey (T.kl k) z = T.el v) (hl : ∀ l, has D l = true → ∃ k, l = T.kl k) (hm : IsMap D) (ho : ∃ n, w'.ownsMap Try.prog T.kt T.R b n (D.put (T.kl k) (T.el v))) : Tab T b (upF F k (some v)) L w' := by
  obtain ⟨n, ho⟩ := ho
  refine ⟨⟨D.put (T.kl k) (T.el v), ?_, fun x => ?_, fun x y hy z => ?_, fun l hl' => ?_⟩, fun x hx => ?_, fun x y hy => ?_⟩
  · obtain ⟨es, clock, hb, F', hs, hD⟩ := ho
    refine ⟨es, clock, hb, F', ?_, hD⟩
    rw [hD, size_eq, length_sorted]
    simp
  · unfold upF
    by_cases hx : x = k
    · rw [if_pos hx, hx, has_put_same hm (f.isKey k)]
      rfl
    · rw [if_neg hx, has_put_other fun e => hx (f.inj _ _ e)]
      exact hh x
  · unfold upF at hy
    by_cases hx : x = k
    · rw [if_pos hx] at hy
      cases hy
      rw [hx, atKey_put_same hm (f.isKey k)]
    · rw [if_neg hx] at hy
      rw [atKey_put_other fun e => hx (f.inj _ _ e)]
      exact ha x y hy z
  · by_cases e : l = T.kl k
    · exact ⟨k, e⟩
    · rw [has_put_other e] at hl'
      exact hl l hl'
  · unfold upF at hx
    by_cases hxk : x = k
    · rw [hxk]; exact ⟨hk, hok⟩
    · rw [if_neg hxk] at hx
      exact h.sup x hx
  · unfold upF at hy
    by_cases hxk : x = k
    · rw [if_pos hxk] at hy
      cases hy
      exact hv
    · rw [if_neg hxk] at hy
      exact h.vals x y hy
theorem Tab.del [DecidableEq K] {w' : World} (h : Tab T b F L w) (f : T.Fine) (k : K) {D : DataW Unit} (hh : ∀ k, has D (T.kl k) = (F k).isSome) (ha : ∀ k v, F k = some v → ∀ z, D.atKey (T.kl k) z = T.el v) (hl : ∀ l, has D l = true → ∃ k, l = T.kl k) (ho : ∃ n, w'.ownsMap Try.prog T.kt T.R b n (D.del (T.kl k))) : Tab T b (upF F k none) L w' := by
  obtain ⟨n, ho⟩ := ho
  refine ⟨⟨D.del (T.kl k), ?_, fun x => ?_, fun x y hy z => ?_, fun l hl' => ?_⟩, fun x hx => ?_, fun x y hy => ?_⟩
  · obtain ⟨es, clock, hb, F', hs, hD⟩ := ho
    refine ⟨es, clock, hb, F', ?_, hD⟩
    rw [hD, size_eq, length_sorted]
    simp
  · unfold upF
    by_cases hx : x = k
    · rw [if_pos hx, hx, has_del_same]
      rfl
    · rw [if_neg hx, has_del_other fun e => hx (f.inj _ _ e)]
      exact hh x
  · unfold upF at hy
    by_cases hx : x = k
    · rw [if_pos hx] at hy
      cases hy
    · rw [if_neg hx] at hy
      rw [atKey_del_other fun e => hx (f.inj _ _ e)]
      exact ha x y hy z
  · by_cases e : l = T.kl k
    · exact ⟨k, e⟩
    · rw [has_del_other e] at hl'
      exact hl l hl'
  · unfold upF at hx
    by_cases hxk : x = k
    · rw [if_pos hxk] at hx; cases hx
    · rw [if_neg hxk] at hx
      exact h.sup x hx
  · unfold upF at hy
    by_cases hxk : x = k
    · rw [if_pos hxk] at hy
      cases hy
    · rw [if_neg hxk] at hy
      exact h.vals x y hy
/-- 'm[k] = v' at the operation -/
theorem wpList_tab_put [DecidableEq K] {ops : Array Oper} {rest : List Oper} {o : Oper} {a : Act} {Q : Exit → Act → World → Prop} (f : T.Fine) (h : Tab T b F L w) (hL : L.length < 1000000) (hg : o.guard = none) (m x v : Operand) (hop : o.op = Op.mapUpdate T.t m x v)
    (hm : a.eval m = .map (some b)) (k : K) (y : V) (hx : a.eval x = T.kv k) (hv : a.eval v = T.vv y) (hk : k ∈ L) (hok : T.ok k) (hy : T.okv y)
    (hK : ∀ w', Tab T b (upF F k (some y)) L w' → Grew (fun q => q = b) w w' → wpList Try.prog ops Q rest (a.put o.dst undef) w') : wpList Try.prog ops Q (o :: rest) a w := by
  obtain ⟨D, ho, hh, ha, hl⟩ := h.own
  have hs := h.few f ho hh hl
  exact wpList_mapUpdate_in w hg m x v T.t hop T.kt T.et f.law f.und T.R b (size D) D hm ho (by unfold maxLen; omega) (T.kv k) (T.vv y) (T.kl k) hx hv (f.key k hok) (T.el y) [] (f.val y hy) fun w' h1 h2 => hK w' (h.put f k y hk hok hy hh ha hl ho.isMap ⟨_, h1⟩) (turned_grew h2)
/-- 'delete(m, k)' at the operation -/
theorem wpList_tab_del [DecidableEq K] {ops : Array Oper} {rest : List Oper} {o : Oper} {a : Act} {Q : Exit → Act → World → Prop} (f : T.Fine) (h : Tab T b F L w) (hg : o.guard = none) (m x : Operand) (hop : o.op = Op.call { callee := Callee.builtin Builtin.delete, args := #[m, x], argTypes := #[T.t, T.kt] })
    (hm : a.eval m = .map (some b)) (k : K) (hx : a.eval x = T.kv k) (hok : T.ok k)
    (hK : ∀ w', Tab T b (upF F k none) L w' → Grew (fun q => q = b) w w' → wpList Try.prog ops Q rest (a.put o.dst (.tuple #[])) w') : wpList Try.prog ops Q (o :: rest) a w := by
  obtain ⟨D, ho, hh, ha, hl⟩ := h.own
  exact wpList_delete_own w hg m x T.t T.kt hop T.et f.law f.und T.R b (size D) D hm ho (T.kv k) (T.kl k) hx (f.key k hok) fun w' h1 h2 => hK w' (h.del f k hh ha hl ⟨_, h1⟩) (turned_grew h2)
/-- 'len(m)' -/
theorem Tab.len (h : Tab T b F L w) (f : T.Fine) (ty : TypeId) : ∃ n : Nat, n ≤ L.length ∧ (Builtin.len_ #[T.t] ty #[.map (some b)]).run Try.prog w = .ok (.int .i64 n) w := by
  obtain ⟨D, ho, hh, ha, hl⟩ := h.own
  exact ⟨size D, h.few f ho hh hl, ho.len f.und ty⟩
/-- a table that is made -/
theorem Tab.made (T : Tbl K V) (L : List K) (w : World) : Tab T w.heap.size (fun _ => none) L (w.alloc (.map #[] 0)) :=
  ⟨⟨.map [], World.ownsMap_made _ _ _ _, fun _ => rfl, fun _ _ e => (nomatch e), fun _ e => (nomatch e)⟩, fun _ e => (nomatch e), fun _ _ e => (nomatch e)⟩
/-- a table within a state that a log guards -/
structure Acc {σ : Type} [DecidableEq K] (g : Nat) (S0 : Nat → Prop) (I : σ → World → Prop) (T : Tbl K V) (b : Nat) (L : List K) (get : σ → K → Option V) (set : σ → (K → Option V) → σ) : Prop where
  tab : ∀ s w, I s w → Tab T b (get s) L w
  upd : ∀ s w w' F, I s w → Tab T b F L w' → Grew (fun q => q = b) w w' → I (set s F) w'
  own : S0 b
  ne : b ≠ g
  back : ∀ s F, set (set s F) (get s) = s
  got : ∀ s F, get (set s F) = F
theorem LogAt.tab {B g dp : Nat} {v : Value} {fs : List Step} {w w' : World} (h : LogAt B g dp v fs w) (hT : Tab T b F L w) (hn : b ≠ g) (hg : Grew (fun q => q = b) w w') : LogAt B g dp v fs w' :=
  h.keep hg (fun e => hn e.symm) fun q hq e => by
    obtain ⟨c, fz, e1⟩ := Lib.ownsRow_kind h.row q hq
    obtain ⟨D, ⟨es, clock, e2, _⟩, _⟩ := hT.own
    rw [e, e2] at e1
    cases e1
end
end Go.Proofs.Ytjjmapmombhmlaa
