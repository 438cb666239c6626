/-
  Texts put together: Tab, TabII, TabIU.
-/
import Derived.Test.YtbohpffigmllkaaGreatDoorUndoG
import Derived.Maps.OwnSet
import Derived.Maps.Ext
import Derived.Maps.StringElems
import Derived.Maps.Own
/-
  A table that a call makes, as a function of its keys: look-up, store, delete.
-/
namespace Go.Proofs.YtbohpffigmllkaaGreatDoor
open Go.RowKit Go.Maps Go.ChangeMaps Go.WideShapes

/-- what is known of a table's types: how keys and elements stand, and read -/
structure Tbl (K V : Type) where
  t : TypeId
  kt : TypeId
  et : TypeId
  R : Value → Option (DataW Unit × List MemPlace)
  kv : K → Value
  kl : K → Lit
  vv : V → Value
  el : V → DataW Unit
  ok : K → Prop
  okv : V → Prop
  z : V
structure Tbl.Fine {K V : Type} (T : Tbl K V) : Prop where
  und : Tryz.prog.underlying T.t = some (.map T.kt T.et)
  law : Keyed Tryz.prog T.kt
  key : ∀ k, T.ok k → keyOf Tryz.prog T.kt (T.kv k) = some (T.kl k)
  isKey : ∀ k, WideAt.IsKeyLit (T.kl k)
  inj : ∀ k k', T.kl k = T.kl k' → k = k'
  val : ∀ v, T.okv v → T.R (T.vv v) = some (T.el v, [])
  inv : ∀ x v ps, T.R x = some (T.el v, ps) → x = T.vv v
  zero : ∀ w : World, (zeroValue T.et).run Tryz.prog w = .ok (T.vv T.z) w
  okz : T.okv T.z
/-- block b is a table that has these elements by their keys, all of a list -/
structure Tab {K V : Type} (T : Tbl K V) (b : Nat) (F : K → Option V) (L : List K) (w : World) : Prop where
  own : ∃ D : DataW Unit, w.ownsMap Tryz.prog T.kt T.R b (size D) D ∧ (∀ k, has D (T.kl k) = (F k).isSome) ∧ (∀ k v, F k = some v → ∀ z, D.atKey (T.kl k) z = T.el v) ∧ (∀ l, has D l = true → ∃ k, l = T.kl k)
  sup : ∀ k, (F k).isSome = true → k ∈ L ∧ T.ok k
  vals : ∀ k v, F k = some v → T.okv v
section
variable {K V : Type} {T : Tbl K V} {b : Nat} {F : K → Option V} {L : List K} {w : World}
theorem len_le {α : Type} : ∀ (es L : List α), es.Nodup → (∀ x ∈ es, x ∈ L) → es.length ≤ L.length
  | [], _, _, _ => Nat.zero_le _
  | x :: es, L, hn, hs => by
    classical
    have hx : x ∈ L := hs x List.mem_cons_self
    have h1 := len_le es (L.erase x) (List.nodup_cons.1 hn).2 fun y hy => by
      have hne : y ≠ x := fun e => (List.nodup_cons.1 hn).1 (e ▸ hy)
      exact (List.mem_erase_of_ne hne).2 (hs y (List.mem_cons_of_mem _ hy))
    have h2 := List.length_erase_of_mem hx
    have h3 : 0 < L.length := List.length_pos_of_mem hx
    simp only [List.length_cons]
    omega
theorem Tab.few (h : Tab T b F L w) (f : T.Fine) {D : DataW Unit} (ho : w.ownsMap Tryz.prog T.kt T.R b (size D) D) (hh : ∀ k, has D (T.kl k) = (F k).isSome) (hk : ∀ l, has D l = true → ∃ k, l = T.kl k) : size D ≤ L.length := by
  obtain ⟨es, rfl, hp⟩ := ho.tidy f.law
  have h1 : (es.map Prod.fst).Nodup := by
    rw [List.nodup_iff_pairwise_ne, List.pairwise_map]
    exact hp
  have h2 : ∀ x ∈ es.map Prod.fst, x ∈ L.map T.kl := fun x hx => by
    obtain ⟨p, hpm, rfl⟩ := List.mem_map.1 hx
    have hKey : WideAt.IsKeyLit p.1 := by
      obtain ⟨es', e', _, hc⟩ := ho.canon f.law
      cases e'
      exact hc p hpm
    have hm : has (.map es) p.1 = true := by
      rw [has_eq, List.any_eq_true]
      exact ⟨p, hpm, WideAt.sameKey_self hKey⟩
    obtain ⟨k, hk1⟩ := hk _ hm
    rw [hk1, hh] at hm
    rw [hk1]
    exact List.mem_map.2 ⟨k, (h.sup k hm).1, rfl⟩
  have := len_le _ _ h1 h2
  rw [size_eq]
  simpa using this
theorem Tab.lt (h : Tab T b F L w) : b < w.heap.size := by
  obtain ⟨D, ho, _⟩ := h.own
  exact ho.lt
theorem Tab.block {w' : World} (h : Tab T b F L w) (e : w'.heap[b]? = w.heap[b]?) : Tab T b F L w' := by
  obtain ⟨D, ⟨es, clock, hb, r⟩, q⟩ := h.own
  exact ⟨⟨D, ⟨es, clock, e.trans hb, r⟩, q⟩, h.sup, h.vals⟩
theorem Tab.keep {S : Nat → Prop} {w' : World} (h : Tab T b F L w) (g : Grew S w w') (hS : ¬ S b) : Tab T b F L w' := h.block (g.block b h.lt hS)
/-- 'v, ok := m[k]' -/
theorem Tab.look (h : Tab T b F L w) (f : T.Fine) (k : K) (hk : T.ok k) : (Instr.lookup T.t (.map (some b)) (T.kv k) true).run Tryz.prog w = .ok (.tuple #[T.vv ((F k).getD T.z), .bool (F k).isSome]) w := by
  obtain ⟨D, ho, hh, ha, hl⟩ := h.own
  obtain ⟨v, ps, hrun, hv⟩ := ho.look_ok f.law f.und (f.zero w) (f.val _ f.okz) (f.key k hk)
  rw [hrun, hh]
  cases hF : F k with
  | some y =>
    rw [ha k y hF] at hv
    rw [f.inv _ _ _ hv]
    rfl
  | none =>
    rw [atKey_of_not_has (by rw [hh, hF]; rfl)] at hv
    rw [f.inv _ _ _ hv]
    rfl
/-- 'm[k]' -/
theorem Tab.look1 (h : Tab T b F L w) (f : T.Fine) (k : K) (hk : T.ok k) : (Instr.lookup T.t (.map (some b)) (T.kv k) false).run Tryz.prog w = .ok (T.vv ((F k).getD T.z)) w := by
  obtain ⟨D, ho, hh, ha, hl⟩ := h.own
  obtain ⟨v, ps, hrun, hv⟩ := ho.lookup f.law f.und (f.zero w) (f.val _ f.okz) (f.key k hk)
  rw [hrun]
  cases hF : F k with
  | some y =>
    rw [ha k y hF] at hv
    rw [f.inv _ _ _ hv]
    rfl
  | none =>
    rw [atKey_of_not_has (by rw [hh, hF]; rfl)] at hv
    rw [f.inv _ _ _ hv]
    rfl
/-- one key's element is another one, or none -/
def upF [DecidableEq K] (F : K → Option V) (k : K) (v : Option V) : K → Option V := fun x => if x = k then v else F x
theorem upF_same [DecidableEq K] (F : K → Option V) (k : K) (v : Option V) : upF F k v k = v := if_pos rfl
theorem upF_back [DecidableEq K] (F : K → Option V) (k : K) (v : Option V) : upF (upF F k v) k (F k) = F := by
  funext x
  unfold upF
  by_cases h : x = k
  · rw [if_pos h, h]
  · rw [if_neg h, if_neg h]
theorem turned_grew {w' : World} {b : Nat} (h : w.mapTurned w' b) : Grew (fun k => k = b) w w' := by
  have g := h.grown
  exact ⟨g.os, g.tape, g.output, g.size, fun k hk hs => g.block k hk fun e => hs (Option.some.inj e)⟩
theorem Tab.put [DecidableEq K] {w' : World} (h : Tab T b F L w) (f : T.Fine) (k : K) (v : V) (hk : k ∈ L) (hok : T.ok k) (hv : T.okv v) {D : DataW Unit} (hh : ∀ k, has D (T.kl k) = (F k).isSome) (ha : ∀ k v, F k = some v → ∀ z, D.atKey (T.kl k) z = T.el v) (hl : ∀ l, has D l = true → ∃ k, l = T.kl k) (hm : IsMap D) (ho : ∃ n, w'.ownsMap Tryz.prog T.kt T.R b n (D.put (T.kl k) (T.el v))) : Tab T b (upF F k (some v)) L w' := by
  obtain ⟨n, ho⟩ := ho
  refine ⟨⟨D.put (T.kl k) (T.el v), ?_, fun x => ?_, fun x y hy z => ?_, fun l hl' => ?_⟩, fun x hx => ?_, fun x y hy => ?_⟩
  · obtain ⟨es, clock, hb, F', hs, hD⟩ := ho
    refine ⟨es, clock, hb, F', ?_, hD⟩
    rw [hD, size_eq, length_sorted]
    simp
  · unfold upF
    by_cases hx : x = k
    · rw [if_pos hx, hx, has_put_same hm (f.isKey k)]
      rfl
    · rw [if_neg hx, has_put_other fun e => hx (f.inj _ _ e)]
      exact hh x
  · unfold upF at hy
    by_cases hx : x = k
    · rw [if_pos hx] at hy
      cases hy
      rw [hx, atKey_put_same hm (f.isKey k)]
    · rw [if_neg hx] at hy
      rw [atKey_put_other fun e => hx (f.inj _ _ e)]
      exact ha x y hy z
  · by_cases e : l = T.kl k
    · exact ⟨k, e⟩
    · rw [has_put_other e] at hl'
      exact hl l hl'
  · unfold upF at hx
    by_cases hxk : x = k
    · rw [hxk]; exact ⟨hk, hok⟩
    · rw [if_neg hxk] at hx
      exact h.sup x hx
  · unfold upF at hy
    by_cases hxk : x = k
    · rw [if_pos hxk] at hy
      cases hy
      exact hv
    · rw [if_neg hxk] at hy
      exact h.vals x y hy
theorem Tab.del [DecidableEq K] {w' : World} (h : Tab T b F L w) (f : T.Fine) (k : K) {D : DataW Unit} (hh : ∀ k, has D (T.kl k) = (F k).isSome) (ha : ∀ k v, F k = some v → ∀ z, D.atKey (T.kl k) z = T.el v) (hl : ∀ l, has D l = true → ∃ k, l = T.kl k) (ho : ∃ n, w'.ownsMap Tryz.prog T.kt T.R b n (D.del (T.kl k))) : Tab T b (upF F k none) L w' := by
  obtain ⟨n, ho⟩ := ho
  refine ⟨⟨D.del (T.kl k), ?_, fun x => ?_, fun x y hy z => ?_, fun l hl' => ?_⟩, fun x hx => ?_, fun x y hy => ?_⟩
  · obtain ⟨es, clock, hb, F', hs, hD⟩ := ho
    refine ⟨es, clock, hb, F', ?_, hD⟩
    rw [hD, size_eq, length_sorted]
    simp
  · unfold upF
    by_cases hx : x = k
    · rw [if_pos hx, hx, has_del_same]
      rfl
    · rw [if_neg hx, has_del_other fun e => hx (f.inj _ _ e)]
      exact hh x
  · unfold upF at hy
    by_cases hx : x = k
    · rw [if_pos hx] at hy
      cases hy
    · rw [if_neg hx] at hy
      rw [atKey_del_other fun e => hx (f.inj _ _ e)]
      exact ha x y hy z
  · by_cases e : l = T.kl k
    · exact ⟨k, e⟩
    · rw [has_del_other e] at hl'
      exact hl l hl'
  · unfold upF at hx
    by_cases hxk : x = k
    · rw [if_pos hxk] at hx; cases hx
    · rw [if_neg hxk] at hx
      exact h.sup x hx
  · unfold upF at hy
    by_cases hxk : x = k
    · rw [if_pos hxk] at hy
      cases hy
    · rw [if_neg hxk] at hy
      exact h.vals x y hy
/-- 'm[k] = v' at the operation -/
theorem wpList_tab_put [DecidableEq K] {ops : Array Oper} {rest : List Oper} {o : Oper} {a : Act} {Q : Exit → Act → World → Prop} (f : T.Fine) (h : Tab T b F L w) (hL : L.length < 1000000) (hg : o.guard = none) (m x v : Operand) (hop : o.op = Op.mapUpdate T.t m x v)
    (hm : a.eval m = .map (some b)) (k : K) (y : V) (hx : a.eval x = T.kv k) (hv : a.eval v = T.vv y) (hk : k ∈ L) (hok : T.ok k) (hy : T.okv y)
    (hK : ∀ w', Tab T b (upF F k (some y)) L w' → Grew (fun q => q = b) w w' → wpList Tryz.prog ops Q rest (a.put o.dst undef) w') : wpList Tryz.prog ops Q (o :: rest) a w := by
  obtain ⟨D, ho, hh, ha, hl⟩ := h.own
  have hs := h.few f ho hh hl
  exact wpList_mapUpdate_in w hg m x v T.t hop T.kt T.et f.law f.und T.R b (size D) D hm ho (by unfold maxLen; omega) (T.kv k) (T.vv y) (T.kl k) hx hv (f.key k hok) (T.el y) [] (f.val y hy) fun w' h1 h2 => hK w' (h.put f k y hk hok hy hh ha hl ho.isMap ⟨_, h1⟩) (turned_grew h2)
/-- 'delete(m, k)' at the operation -/
theorem wpList_tab_del [DecidableEq K] {ops : Array Oper} {rest : List Oper} {o : Oper} {a : Act} {Q : Exit → Act → World → Prop} (f : T.Fine) (h : Tab T b F L w) (hg : o.guard = none) (m x : Operand) (hop : o.op = Op.call { callee := Callee.builtin Builtin.delete, args := #[m, x], argTypes := #[T.t, T.kt] })
    (hm : a.eval m = .map (some b)) (k : K) (hx : a.eval x = T.kv k) (hok : T.ok k)
    (hK : ∀ w', Tab T b (upF F k none) L w' → Grew (fun q => q = b) w w' → wpList Tryz.prog ops Q rest (a.put o.dst (.tuple #[])) w') : wpList Tryz.prog ops Q (o :: rest) a w := by
  obtain ⟨D, ho, hh, ha, hl⟩ := h.own
  exact wpList_delete_own w hg m x T.t T.kt hop T.et f.law f.und T.R b (size D) D hm ho (T.kv k) (T.kl k) hx (f.key k hok) fun w' h1 h2 => hK w' (h.del f k hh ha hl ⟨_, h1⟩) (turned_grew h2)
/-- 'len(m)' -/
theorem Tab.len (h : Tab T b F L w) (f : T.Fine) (ty : TypeId) : ∃ n : Nat, n ≤ L.length ∧ (Builtin.len_ #[T.t] ty #[.map (some b)]).run Tryz.prog w = .ok (.int .i64 n) w := by
  obtain ⟨D, ho, hh, ha, hl⟩ := h.own
  exact ⟨size D, h.few f ho hh hl, ho.len f.und ty⟩
/-- a table that is made -/
theorem Tab.made (T : Tbl K V) (L : List K) (w : World) : Tab T w.heap.size (fun _ => none) L (w.alloc (.map #[] 0)) :=
  ⟨⟨.map [], World.ownsMap_made _ _ _ _, fun _ => rfl, fun _ _ e => (nomatch e), fun _ e => (nomatch e)⟩, fun _ e => (nomatch e), fun _ _ e => (nomatch e)⟩
/-- a table within a state that a log guards -/
structure Acc {σ : Type} [DecidableEq K] (g : Nat) (S0 : Nat → Prop) (I : σ → World → Prop) (T : Tbl K V) (b : Nat) (L : List K) (get : σ → K → Option V) (set : σ → (K → Option V) → σ) : Prop where
  tab : ∀ s w, I s w → Tab T b (get s) L w
  upd : ∀ s w w' F, I s w → Tab T b F L w' → Grew (fun q => q = b) w w' → I (set s F) w'
  own : S0 b
  ne : b ≠ g
  back : ∀ s F, set (set s F) (get s) = s
  got : ∀ s F, get (set s F) = F
theorem LogAt.tab {B g dp : Nat} {v : Value} {fs : List Step} {w w' : World} (h : LogAt B g dp v fs w) (hT : Tab T b F L w) (hn : b ≠ g) (hg : Grew (fun q => q = b) w w') : LogAt B g dp v fs w' :=
  h.keep hg (fun e => hn e.symm) fun q hq e => by
    obtain ⟨c, fz, e1⟩ := Lib.ownsRow_kind h.row q hq
    obtain ⟨D, ⟨es, clock, e2, _⟩, _⟩ := hT.own
    rw [e, e2] at e1
    cases e1
end
end Go.Proofs.YtbohpffigmllkaaGreatDoor

/-
  keep, Put and Drop of a table map[int]int, and how they are undone: contracts (written by gen_tab.py).
-/
namespace Go.Proofs.YtbohpffigmllkaaGreatDoor
open Go.RowKit Go.Maps Go.ChangeMaps Go.WideShapes

def tblII (P : Program) : Tbl Int Int where
  t := 71
  kt := 3
  et := 3
  R := plainElem P 3
  kv := fun a => .int .i64 a
  kl := fun a => .int .i64 a
  vv := fun a => .int .i64 a
  el := fun a => .lit (.int .i64 a)
  ok := fun a => (Lit.int .i64 a).wf = true
  okv := fun a => (Lit.int .i64 a).wf = true
  z := 0
theorem tblII_fine : (tblII Tryz.prog).Fine where
  und := Tryz.underlying71
  law := int_keyed Tryz.underlying3
  key := fun k h => keyOf_int_mk Tryz.underlying3 h
  isKey := fun _ => trivial
  inj := fun k k' e => (Lit.int.inj e).2
  val := fun v h => by
    dsimp only [tblII] at h ⊢
    exact plainElem_int Tryz.underlying3 h
  inv := fun x v ps h => by
    dsimp only [tblII] at h ⊢
    obtain ⟨a, rfl, e, _⟩ := plainElem_int_inv Tryz.underlying3 h
    have e1 : DataW.lit (.int .i64 v) = .lit (.int .i64 a) := congrArg Prod.fst e
    exact congrArg (Value.int .i64) (Lit.int.inj (DataW.lit.inj e1)).2.symm
  zero := fun w => by kernel_rfl
  okz := (by decide : (Lit.int .i64 0).wf = true)
/-- how a keep is undone -/
def stepII (hb wb mb kb : Nat) : Step := (160, #[.pointer (some ⟨hb, 0, none⟩), .pointer (some ⟨wb, 0, none⟩), .pointer (some ⟨mb, 0, none⟩), .pointer (some ⟨kb, 0, none⟩)])
/-- its boxes -/
structure KbII (hb wb mb kb b : Nat) (k : Int) (v : Option Int) (w : World) : Prop where
  h : w.heap[hb]? = some (.cells #[.bool v.isSome] 4)
  w' : w.heap[wb]? = some (.cells #[.int .i64 (v.getD 0)] 3)
  m : w.heap[mb]? = some (.cells #[.map (some b)] 71)
  k' : w.heap[kb]? = some (.cells #[.int .i64 k] 3)
theorem box_cellII {w : World} {x : Nat} {t : TypeId} {v : Value} (h : w.heap[x]? = some (.cells #[v] t)) : w.cell? ⟨x, 0, none⟩ = some v := by simp [World.cell?, h]
set_option maxRecDepth 100000 in
set_option maxHeartbeats 1000000 in
theorem keepBackII (hb wb mb kb b : Nat) (k : Int) (v : Option Int) (F : Int → Option Int) (L : List Int) (w : World) (hB : KbII hb wb mb kb b k v w) (hT : Tab (tblII Tryz.prog) b F L w) (hL : L.length < 1000000) (hok : (tblII Tryz.prog).ok k) (hv : ∀ y, v = some y → (tblII Tryz.prog).okv y ∧ k ∈ L) :
    Calls Tryz.prog 160 (stepII hb wb mb kb).2 w fun e w' => e = .returned (.tuple #[]) ∧ Tab (tblII Tryz.prog) b (upF F k v) L w' ∧ Grew (fun q => q = b) w w' := by
  have c1 := box_cellII hB.h
  have c2 := box_cellII hB.w'
  have c3 := box_cellII hB.m
  have c4 := box_cellII hB.k'
  have HT := Lib.hid hT
  have HV := Lib.hid hv
  have HO := Lib.hid hok
  have HL := Lib.hid hL
  clear hB hT hv hok hL
  unfold stepII
  cases v with
  | none =>
    have c1 : w.cell? ⟨hb, 0, none⟩ = some (.bool false) := c1
    go_enter Tryz.func160, Tryz.ntmps160
    go_wp2_with (at_delete; (refine wpList_tab_del (T := (tblII Tryz.prog)) tblII_fine HT.out rfl _ _ rfl rfl k rfl HO.out ?_); (intro w1 hT1 hG1); (have HT1 := Lib.hid hT1); (have HG1 := Lib.hid hG1); clear hT1 hG1)
    go_end0
    exact ⟨rfl, HT1.out, HG1.out⟩
  | some y =>
    have c1 : w.cell? ⟨hb, 0, none⟩ = some (.bool true) := c1
    have c2 : w.cell? ⟨wb, 0, none⟩ = some (.int .i64 y) := c2
    go_enter Tryz.func160, Tryz.ntmps160
    go_wp2_with (at_mapUpdate; (refine wpList_tab_put (T := (tblII Tryz.prog)) tblII_fine HT.out HL.out rfl _ _ _ rfl rfl k y rfl rfl (HV.out y rfl).2 HO.out (HV.out y rfl).1 ?_); (intro w1 hT1 hG1); (have HT1 := Lib.hid hT1); (have HG1 := Lib.hid hG1); clear hT1 hG1)
    go_end0
    exact ⟨rfl, HT1.out, HG1.out⟩
set_option maxRecDepth 100000 in
set_option maxHeartbeats 1000000 in
theorem keepII (B g dp b : Nat) (v : Value) (fs : List Step) (F : Int → Option Int) (L : List Int) (k : Int) (w : World) (h : LogAt B g (dp + 1) v fs w) (hl : fs.length < 100000) (hB : B ≤ w.heap.size) (hT : Tab (tblII Tryz.prog) b F L w) (hok : (tblII Tryz.prog).ok k) :
    Calls Tryz.prog 129 #[.pointer (some ⟨g, 0, none⟩), .map (some b), .int .i64 k] w fun e w' => e = .returned (.tuple #[]) ∧ ∃ v' x, w.heap.size = x ∧ LogAt B g (dp + 1) v' (fs ++ [stepII (x + 3) (x + 2) x (x + 1)]) w' ∧ KbII (x + 3) (x + 2) x (x + 1) b k (F k) w' ∧ Grew (fun q => q = g ∨ v.ownBlock = some q) w w' ∧ (∀ o, ¬ o = 1 → w'.cell? ⟨g, o, none⟩ = w.cell? ⟨g, o, none⟩) ∧ (∀ o, w'.frozen? ⟨g, o, none⟩ = w.frozen? ⟨g, o, none⟩) := by
  have hmf : ∀ (fn : Fn) (first cap : Array Value) (w : World), (Instr.makeFunc fn first cap).run Tryz.prog w = .ok (.func fn first cap) w := fun _ _ _ _ => rfl
  obtain ⟨W2, hW2⟩ : ∃ W2, (w.alloc (.cells #[.map (some b)] 71)).alloc (.cells #[.int .i64 k] 3) = W2 := ⟨_, rfl⟩
  obtain ⟨u, hu⟩ : ∃ u, (F k).getD 0 = u := ⟨_, rfl⟩
  obtain ⟨hd, hhd⟩ : ∃ hd, (F k).isSome = hd := ⟨_, rfl⟩
  have s1 : (w.alloc (.cells #[.map (some b)] 71)).heap.size = w.heap.size + 1 := by simp
  have s2 : W2.heap.size = w.heap.size + 2 := by rw [← hW2]; simp
  have g2 : Grew (fun _ => False) w W2 := by rw [← hW2]; exact ((Grew.refl w).alloc _).alloc _
  have hT2 : Tab (tblII Tryz.prog) b F L W2 := hT.keep g2 fun e => e
  have hlk : (Instr.lookup 71 (.map (some b)) (.int .i64 k) true).run Tryz.prog W2 = .ok (.tuple #[.int .i64 u, .bool hd]) W2 := by
    have := hT2.look tblII_fine k hok
    rw [hhd] at this
    have e : (tblII Tryz.prog).vv ((F k).getD (tblII Tryz.prog).z) = .int .i64 u := by rw [← hu]; rfl
    rw [e] at this
    exact this
  have bm2 : W2.heap[w.heap.size]? = some (.cells #[.map (some b)] 71) := by
    rw [← hW2, Below.heap_alloc _ _ _ (by rw [s1]; omega)]
    exact heap_alloc_new w _
  have bk2 : W2.heap[w.heap.size + 1]? = some (.cells #[.int .i64 k] 3) := by
    rw [← hW2, ← s1]
    exact heap_alloc_new _ _
  obtain ⟨W4, hW4⟩ : ∃ W4, (W2.alloc (.cells #[.int .i64 u] 3)).alloc (.cells #[.bool hd] 4) = W4 := ⟨_, rfl⟩
  have s3 : (W2.alloc (.cells #[.int .i64 u] 3)).heap.size = w.heap.size + 3 := by simp [s2]
  have g4 : Grew (fun _ => False) W2 W4 := by rw [← hW4]; exact ((Grew.refl W2).alloc _).alloc _
  have g04 : Grew (fun _ => False) w W4 := g2.trans g4
  have bw4 : W4.heap[w.heap.size + 2]? = some (.cells #[.int .i64 u] 3) := by
    rw [← hW4, Below.heap_alloc _ _ _ (by rw [s3]; omega), ← s2]
    exact heap_alloc_new _ _
  have bh4 : W4.heap[w.heap.size + 3]? = some (.cells #[.bool hd] 4) := by
    rw [← hW4, ← s3]
    exact heap_alloc_new _ _
  have bm4 : W4.heap[w.heap.size]? = some (.cells #[.map (some b)] 71) := by rw [g4.block _ (by omega) fun e => e]; exact bm2
  have bk4 : W4.heap[w.heap.size + 1]? = some (.cells #[.int .i64 k] 3) := by rw [g4.block _ (by omega) fun e => e]; exact bk2
  have hL4 : LogAt B g (dp + 1) v fs W4 := h.keep g04 (fun e => e) (fun _ _ e => e)
  have HBk := Lib.hid (back_some B g dp v fs (stepII (w.heap.size + 3) (w.heap.size + 2) w.heap.size (w.heap.size + 1)) W4 hL4 hl (Nat.le_trans hB g04.size))
  have hno : ∀ x c t, W4.heap[x]? = some (.cells c t) → t ≠ 1 → x ≠ g → ¬ (x = g ∨ v.ownBlock = some x) := fun x c t hx ht hg => by
    rintro (e | e)
    · exact hg e
    · exact other.ne ⟨_, _, _, hx, ht⟩ hL4.row e
  have hgl := h.lt
  have HFin : Hid (∀ w', Grew (fun q => q = g ∨ v.ownBlock = some q) W4 w' → KbII (w.heap.size + 3) (w.heap.size + 2) w.heap.size (w.heap.size + 1) b k (F k) w' ∧ Grew (fun q => q = g ∨ v.ownBlock = some q) w w') := Lib.hid fun w' hg => by
    have hs4 : w.heap.size + 4 = W4.heap.size := by rw [← hW4]; simp [s2]
    refine ⟨⟨?_, ?_, ?_, ?_⟩, (g04.mono fun _ _ e => e.elim).step hg fun _ _ e => e⟩
    · rw [hhd, hg.block _ (by omega) (hno _ _ _ bh4 (by decide) (by omega))]; exact bh4
    · rw [hu]; rw [hg.block _ (by omega) (hno _ _ _ bw4 (by decide) (by omega))]; exact bw4
    · rw [hg.block _ (by omega) (hno _ _ _ bm4 (by decide) (by omega))]; exact bm4
    · rw [hg.block _ (by omega) (hno _ _ _ bk4 (by decide) (by omega))]; exact bk4
  have HC := Lib.hid (fun o => (g04.cell (p := ⟨g, o, none⟩) hgl fun e => e))
  have HZ := Lib.hid (fun o => (g04.frozen (p := ⟨g, o, none⟩) hgl fun e => e))
  have HS2 := Lib.hid s2
  clear s1 s3 g2 g4 g04 hT2 bm2 bk2 bw4 bh4 bm4 bk4 hL4 hno h hT hu hhd
  subst hW4
  subst hW2
  unfold stepV stepII at HBk
  go_enter Tryz.func129, Tryz.ntmps129
  go_wp2_with fail
  refine HBk.out.mono ?_
  rintro e w1 ⟨rfl, v', hl1, hg1, hk1, hk2⟩
  obtain ⟨f1, f2⟩ := HFin.out w1 hg1
  have HF1 := Lib.hid f1
  have HF2 := Lib.hid f2
  have HL1 := Lib.hid hl1
  have HK1 := Lib.hid fun o ho => (hk1 o ho).trans (HC.out o)
  have HK2 := Lib.hid fun o => (hk2 o).trans (HZ.out o)
  clear f1 f2 hl1 hg1 hk1 hk2 HC HZ HBk HFin hlk s2 hgl
  go_wp2_with fail
  go_end0
  exact ⟨rfl, v', _, rfl, HL1.out, HF1.out, HF2.out, HK1.out, HK2.out⟩
theorem KbII.keep {b : Nat} {L : List Int} {hb wb mb kb c : Nat} {k : Int} {v : Option Int} {F : Int → Option Int} {w w' : World} (h : KbII hb wb mb kb c k v w) (hg : Grew (fun q => q = b) w w') (hT : Tab (tblII Tryz.prog) b F L w) : KbII hb wb mb kb c k v w' := by
  obtain ⟨D, ⟨es, clock, e2, _⟩, _⟩ := hT.own
  have hne : ∀ x cs t, w.heap[x]? = some (Obj.cells cs t (0, 0)) → w'.heap[x]? = some (Obj.cells cs t (0, 0)) := fun x cs t hx => by
    rw [hg.block x ?_ ?_]
    · exact hx
    · rcases Nat.lt_or_ge x w.heap.size with h1 | h1
      · exact h1
      · rw [Array.getElem?_eq_none h1] at hx; cases hx
    · intro e
      rw [e, e2] at hx
      cases hx
  exact ⟨hne _ _ _ h.h, hne _ _ _ h.w', hne _ _ _ h.m, hne _ _ _ h.k'⟩
theorem goodII {σ : Type} {B g b : Nat} {S0 : Nat → Prop} {I : σ → World → Prop} {L : List Int} {get : σ → Int → Option Int} {set : σ → (Int → Option Int) → σ} (A : Acc g S0 I (tblII Tryz.prog) b L get set) (hL : L.length < 1000000) (s s1 : σ) (k : Int) (hb wb mb kb : Nat) (w : World) (hB : KbII hb wb mb kb b k (get s k) w) (hS : ¬ S0 hb ∧ ¬ S0 wb ∧ ¬ S0 mb ∧ ¬ S0 kb) (hok : (tblII Tryz.prog).ok k) (hv : ∀ y, get s k = some y → (tblII Tryz.prog).okv y ∧ k ∈ L) (he : set s1 (upF (get s1) k (get s k)) = s) : Good B g S0 I (stepII hb wb mb kb) s1 s w := by
  refine ⟨fun _ => by kernel_rfl, fun q => q = hb ∨ q = wb ∨ q = mb ∨ q = kb, ?_, ?_⟩
  · rintro q (rfl | rfl | rfl | rfl)
    · exact ⟨hS.1, _, _, _, hB.h, by decide, by decide⟩
    · exact ⟨hS.2.1, _, _, _, hB.w', by decide, by decide⟩
    · exact ⟨hS.2.2.1, _, _, _, hB.m, by decide, by decide⟩
    · exact ⟨hS.2.2.2, _, _, _, hB.k', by decide, by decide⟩
  · intro wx hx hI
    have hBx : KbII hb wb mb kb b k (get s k) wx := ⟨(hx _ (Or.inl rfl)).trans hB.h, (hx _ (Or.inr (Or.inl rfl))).trans hB.w', (hx _ (Or.inr (Or.inr (Or.inl rfl)))).trans hB.m, (hx _ (Or.inr (Or.inr (Or.inr rfl)))).trans hB.k'⟩
    refine (keepBackII hb wb mb kb b k (get s k) (get s1) L wx hBx (A.tab _ _ hI) hL hok hv).mono ?_
    rintro e w' ⟨rfl, hT, hg⟩
    refine ⟨rfl, ?_, hg.mono fun q _ e => (by rw [e]; exact Or.inl A.own), fun _ _ _ _ hl => hl.tab (A.tab _ _ hI) A.ne hg⟩
    rw [← he]
    exact A.upd _ _ _ _ hI hT hg
set_option maxRecDepth 100000 in
/-- a Put in a Try -/
theorem putII {σ : Type} {g b : Nat} {S0 : Nat → Prop} {I : σ → World → Prop} {L : List Int} {get : σ → Int → Option Int} {set : σ → (Int → Option Int) → σ} (LG : Logged g S0 I) (A : Acc g S0 I (tblII Tryz.prog) b L get set) (hL : L.length < 1000000) (B dp : Nat) (v : Value) (fs : List Step) (s : σ) (k : Int) (y : Int) (w : World) (h : LogAt B g (dp + 1) v fs w) (hl : fs.length < 100000) (hB : B ≤ w.heap.size) (hI : I s w) (hok : (tblII Tryz.prog).ok k) (hy : (tblII Tryz.prog).okv y) (hk : k ∈ L)
    (hlog : ∀ w', Grew (fun q => q = g ∨ v.ownBlock = some q) w w' → (∀ o, ¬ o = 1 → w'.cell? ⟨g, o, none⟩ = w.cell? ⟨g, o, none⟩) → (∀ o, w'.frozen? ⟨g, o, none⟩ = w.frozen? ⟨g, o, none⟩) → I s w') :
    Calls Tryz.prog 101 #[.pointer (some ⟨g, 0, none⟩), .map (some b), .int .i64 k, .int .i64 y] w fun e w' => e = .returned (.tuple #[]) ∧ Did B g dp S0 I fs 1 s (set s (upF (get s) k (some y))) w w' := by
  have HK := Lib.hid (keepII B g dp b v fs (get s) L k w h hl hB (A.tab _ _ hI) hok)
  have HM : Hid (∀ w', Grew (fun q => q = g ∨ v.ownBlock = some q) w w' → Grew (Mut B S0 w) w w') := Lib.hid fun w' hg => hg.mono fun q _ e => by
    rcases e with e | e
    · rw [e]; exact Or.inl LG.own
    · exact Or.inr ⟨(h.row.lt q e).1, Lib.ownsRow_kind h.row q e⟩
  have HNo : Hid (∀ x, w.heap.size = x → ¬ S0 (x + 3) ∧ ¬ S0 (x + 2) ∧ ¬ S0 x ∧ ¬ S0 (x + 1)) := Lib.hid fun x hx => ⟨fun m => (by have := LG.lt _ _ _ hI m; omega), fun m => (by have := LG.lt _ _ _ hI m; omega), fun m => (by have := LG.lt _ _ _ hI m; omega), fun m => (by have := LG.lt _ _ _ hI m; omega)⟩
  have HLg := Lib.hid hlog
  have HO := Lib.hid hok
  have HY := Lib.hid hy
  have HIn := Lib.hid hk
  have HLL := Lib.hid hL
  clear h hlog hI
  go_enter Tryz.func101, Tryz.ntmps101
  go_wp2_with fail
  refine HK.out.mono ?_
  rintro e w1 ⟨rfl, v', x, hx, hl1, hb1, hg1, hc1, hz1⟩
  have hI1 := HLg.out w1 hg1 hc1 hz1
  have HI1 := Lib.hid hI1
  have HL1 := Lib.hid hl1
  have HB1 := Lib.hid hb1
  have HG1 := Lib.hid (HM.out w1 hg1)
  have HT1 := Lib.hid (A.tab _ _ hI1)
  clear HLg HK HM hI1 hl1 hb1 hg1 hc1 hz1 hok hy hk hL
  go_wp2_with (at_mapUpdate; (refine wpList_tab_put (T := (tblII Tryz.prog)) tblII_fine HT1.out HLL.out rfl _ _ _ rfl rfl k y rfl rfl HIn.out HO.out HY.out ?_); (intro w2 hT2 hG2); (have HT2 := Lib.hid hT2); (have HG2 := Lib.hid hG2); clear hT2 hG2)
  go_end0
  have hm2 : Grew (Mut B S0 w1) w1 w2 := HG2.out.mono fun q _ e => by rw [e]; exact Or.inl A.own
  refine ⟨rfl, Did.one (HL1.out.tab HT1.out A.ne HG2.out) (A.upd _ _ _ _ HI1.out HT2.out HG2.out) (goodII A HLL.out s _ k (x + 3) (x + 2) x (x + 1) w2 ?_ (HNo.out x hx) HO.out (fun z hz => ⟨HT1.out.vals _ _ hz, (HT1.out.sup _ (by rw [hz]; rfl)).1⟩) (by rw [A.got, upF_back]; exact A.back _ _)) (HG1.out.thenMut hm2)⟩
  exact HB1.out.keep HG2.out HT1.out
set_option maxRecDepth 100000 in
/-- a Drop in a Try -/
theorem dropII {σ : Type} {g b : Nat} {S0 : Nat → Prop} {I : σ → World → Prop} {L : List Int} {get : σ → Int → Option Int} {set : σ → (Int → Option Int) → σ} (LG : Logged g S0 I) (A : Acc g S0 I (tblII Tryz.prog) b L get set) (hL : L.length < 1000000) (B dp : Nat) (v : Value) (fs : List Step) (s : σ) (k : Int) (w : World) (h : LogAt B g (dp + 1) v fs w) (hl : fs.length < 100000) (hB : B ≤ w.heap.size) (hI : I s w) (hok : (tblII Tryz.prog).ok k)
    (hlog : ∀ w', Grew (fun q => q = g ∨ v.ownBlock = some q) w w' → (∀ o, ¬ o = 1 → w'.cell? ⟨g, o, none⟩ = w.cell? ⟨g, o, none⟩) → (∀ o, w'.frozen? ⟨g, o, none⟩ = w.frozen? ⟨g, o, none⟩) → I s w') :
    Calls Tryz.prog 135 #[.pointer (some ⟨g, 0, none⟩), .map (some b), .int .i64 k] w fun e w' => e = .returned (.tuple #[]) ∧ Did B g dp S0 I fs 1 s (set s (upF (get s) k none)) w w' := by
  have HK := Lib.hid (keepII B g dp b v fs (get s) L k w h hl hB (A.tab _ _ hI) hok)
  have HM : Hid (∀ w', Grew (fun q => q = g ∨ v.ownBlock = some q) w w' → Grew (Mut B S0 w) w w') := Lib.hid fun w' hg => hg.mono fun q _ e => by
    rcases e with e | e
    · rw [e]; exact Or.inl LG.own
    · exact Or.inr ⟨(h.row.lt q e).1, Lib.ownsRow_kind h.row q e⟩
  have HNo : Hid (∀ x, w.heap.size = x → ¬ S0 (x + 3) ∧ ¬ S0 (x + 2) ∧ ¬ S0 x ∧ ¬ S0 (x + 1)) := Lib.hid fun x hx => ⟨fun m => (by have := LG.lt _ _ _ hI m; omega), fun m => (by have := LG.lt _ _ _ hI m; omega), fun m => (by have := LG.lt _ _ _ hI m; omega), fun m => (by have := LG.lt _ _ _ hI m; omega)⟩
  have HLg := Lib.hid hlog
  have HO := Lib.hid hok
  have HLL := Lib.hid hL
  clear h hlog hI
  go_enter Tryz.func135, Tryz.ntmps135
  go_wp2_with fail
  refine HK.out.mono ?_
  rintro e w1 ⟨rfl, v', x, hx, hl1, hb1, hg1, hc1, hz1⟩
  have hI1 := HLg.out w1 hg1 hc1 hz1
  have HI1 := Lib.hid hI1
  have HL1 := Lib.hid hl1
  have HB1 := Lib.hid hb1
  have HG1 := Lib.hid (HM.out w1 hg1)
  have HT1 := Lib.hid (A.tab _ _ hI1)
  clear HLg HK HM hI1 hl1 hb1 hg1 hc1 hz1 hok hL
  go_wp2_with (at_delete; (refine wpList_tab_del (T := (tblII Tryz.prog)) tblII_fine HT1.out rfl _ _ rfl rfl k rfl HO.out ?_); (intro w2 hT2 hG2); (have HT2 := Lib.hid hT2); (have HG2 := Lib.hid hG2); clear hT2 hG2)
  go_end0
  have hm2 : Grew (Mut B S0 w1) w1 w2 := HG2.out.mono fun q _ e => by rw [e]; exact Or.inl A.own
  refine ⟨rfl, Did.one (HL1.out.tab HT1.out A.ne HG2.out) (A.upd _ _ _ _ HI1.out HT2.out HG2.out) (goodII A HLL.out s _ k (x + 3) (x + 2) x (x + 1) w2 ?_ (HNo.out x hx) HO.out (fun z hz => ⟨HT1.out.vals _ _ hz, (HT1.out.sup _ (by rw [hz]; rfl)).1⟩) (by rw [A.got, upF_back]; exact A.back _ _)) (HG1.out.thenMut hm2)⟩
  exact HB1.out.keep HG2.out HT1.out
end Go.Proofs.YtbohpffigmllkaaGreatDoor

/-
  keep, Put and Drop of a table map[int]struct {}, and how they are undone: contracts (written by gen_tab.py).
-/
namespace Go.Proofs.YtbohpffigmllkaaGreatDoor
open Go.RowKit Go.Maps Go.ChangeMaps Go.WideShapes

def tblIU (_P : Program) : Tbl Int Unit where
  t := 72
  kt := 3
  et := 159
  R := unitElem
  kv := fun a => .int .i64 a
  kl := fun a => .int .i64 a
  vv := fun _ => .agg #[]
  el := fun _ => .agg []
  ok := fun a => (Lit.int .i64 a).wf = true
  okv := fun _ => True
  z := ()
theorem tblIU_fine : (tblIU Tryz.prog).Fine where
  und := Tryz.underlying72
  law := int_keyed Tryz.underlying3
  key := fun k h => keyOf_int_mk Tryz.underlying3 h
  isKey := fun _ => trivial
  inj := fun k k' e => (Lit.int.inj e).2
  val := fun v h => unitElem_mk
  inv := fun x v ps h => (unitElem_inv h).1
  zero := fun w => by kernel_rfl
  okz := trivial
/-- how a keep is undone -/
def stepIU (hb wb mb kb : Nat) : Step := (174, #[.pointer (some ⟨hb, 0, none⟩), .pointer (some ⟨wb, 0, none⟩), .pointer (some ⟨mb, 0, none⟩), .pointer (some ⟨kb, 0, none⟩)])
/-- its boxes -/
structure KbIU (hb wb mb kb b : Nat) (k : Int) (v : Option Unit) (w : World) : Prop where
  h : w.heap[hb]? = some (.cells #[.bool v.isSome] 4)
  w' : w.heap[wb]? = some (.cells #[] 159)
  m : w.heap[mb]? = some (.cells #[.map (some b)] 72)
  k' : w.heap[kb]? = some (.cells #[.int .i64 k] 3)
theorem box_cellIU {w : World} {x : Nat} {t : TypeId} {v : Value} (h : w.heap[x]? = some (.cells #[v] t)) : w.cell? ⟨x, 0, none⟩ = some v := by simp [World.cell?, h]
set_option maxRecDepth 100000 in
set_option maxHeartbeats 1000000 in
theorem keepBackIU (hb wb mb kb b : Nat) (k : Int) (v : Option Unit) (F : Int → Option Unit) (L : List Int) (w : World) (hB : KbIU hb wb mb kb b k v w) (hT : Tab (tblIU Tryz.prog) b F L w) (hL : L.length < 1000000) (hok : (tblIU Tryz.prog).ok k) (hv : ∀ y, v = some y → (tblIU Tryz.prog).okv y ∧ k ∈ L) :
    Calls Tryz.prog 174 (stepIU hb wb mb kb).2 w fun e w' => e = .returned (.tuple #[]) ∧ Tab (tblIU Tryz.prog) b (upF F k v) L w' ∧ Grew (fun q => q = b) w w' := by
  have c1 := box_cellIU hB.h
  have c2 := hB.w'
  have c3 := box_cellIU hB.m
  have c4 := box_cellIU hB.k'
  have HT := Lib.hid hT
  have HV := Lib.hid hv
  have HO := Lib.hid hok
  have HL := Lib.hid hL
  clear hB hT hv hok hL
  unfold stepIU
  cases v with
  | none =>
    have c1 : w.cell? ⟨hb, 0, none⟩ = some (.bool false) := c1
    go_enter Tryz.func174, Tryz.ntmps174
    go_wp2_with (at_delete; (refine wpList_tab_del (T := (tblIU Tryz.prog)) tblIU_fine HT.out rfl _ _ rfl rfl k rfl HO.out ?_); (intro w1 hT1 hG1); (have HT1 := Lib.hid hT1); (have HG1 := Lib.hid hG1); clear hT1 hG1)
    go_end0
    exact ⟨rfl, HT1.out, HG1.out⟩
  | some y =>
    have c1 : w.cell? ⟨hb, 0, none⟩ = some (.bool true) := c1
    skip
    go_enter Tryz.func174, Tryz.ntmps174
    go_wp2_with (at_mapUpdate; (refine wpList_tab_put (T := (tblIU Tryz.prog)) tblIU_fine HT.out HL.out rfl _ _ _ rfl rfl k y rfl rfl (HV.out y rfl).2 HO.out (HV.out y rfl).1 ?_); (intro w1 hT1 hG1); (have HT1 := Lib.hid hT1); (have HG1 := Lib.hid hG1); clear hT1 hG1)
    go_end0
    exact ⟨rfl, HT1.out, HG1.out⟩
set_option maxRecDepth 100000 in
set_option maxHeartbeats 1000000 in
theorem keepIU (B g dp b : Nat) (v : Value) (fs : List Step) (F : Int → Option Unit) (L : List Int) (k : Int) (w : World) (h : LogAt B g (dp + 1) v fs w) (hl : fs.length < 100000) (hB : B ≤ w.heap.size) (hT : Tab (tblIU Tryz.prog) b F L w) (hok : (tblIU Tryz.prog).ok k) :
    Calls Tryz.prog 164 #[.pointer (some ⟨g, 0, none⟩), .map (some b), .int .i64 k] w fun e w' => e = .returned (.tuple #[]) ∧ ∃ v' x, w.heap.size = x ∧ LogAt B g (dp + 1) v' (fs ++ [stepIU (x + 3) (x + 2) x (x + 1)]) w' ∧ KbIU (x + 3) (x + 2) x (x + 1) b k (F k) w' ∧ Grew (fun q => q = g ∨ v.ownBlock = some q) w w' ∧ (∀ o, ¬ o = 1 → w'.cell? ⟨g, o, none⟩ = w.cell? ⟨g, o, none⟩) ∧ (∀ o, w'.frozen? ⟨g, o, none⟩ = w.frozen? ⟨g, o, none⟩) := by
  have hmf : ∀ (fn : Fn) (first cap : Array Value) (w : World), (Instr.makeFunc fn first cap).run Tryz.prog w = .ok (.func fn first cap) w := fun _ _ _ _ => rfl
  obtain ⟨W2, hW2⟩ : ∃ W2, (w.alloc (.cells #[.map (some b)] 72)).alloc (.cells #[.int .i64 k] 3) = W2 := ⟨_, rfl⟩
  obtain ⟨u, hu⟩ : ∃ u, (F k).getD () = u := ⟨_, rfl⟩
  obtain ⟨hd, hhd⟩ : ∃ hd, (F k).isSome = hd := ⟨_, rfl⟩
  have s1 : (w.alloc (.cells #[.map (some b)] 72)).heap.size = w.heap.size + 1 := by simp
  have s2 : W2.heap.size = w.heap.size + 2 := by rw [← hW2]; simp
  have g2 : Grew (fun _ => False) w W2 := by rw [← hW2]; exact ((Grew.refl w).alloc _).alloc _
  have hT2 : Tab (tblIU Tryz.prog) b F L W2 := hT.keep g2 fun e => e
  have hlk : (Instr.lookup 72 (.map (some b)) (.int .i64 k) true).run Tryz.prog W2 = .ok (.tuple #[.agg #[], .bool hd]) W2 := by
    have := hT2.look tblIU_fine k hok
    rw [hhd] at this
    have e : (tblIU Tryz.prog).vv ((F k).getD (tblIU Tryz.prog).z) = .agg #[] := rfl
    rw [e] at this
    exact this
  have bm2 : W2.heap[w.heap.size]? = some (.cells #[.map (some b)] 72) := by
    rw [← hW2, Below.heap_alloc _ _ _ (by rw [s1]; omega)]
    exact heap_alloc_new w _
  have bk2 : W2.heap[w.heap.size + 1]? = some (.cells #[.int .i64 k] 3) := by
    rw [← hW2, ← s1]
    exact heap_alloc_new _ _
  obtain ⟨W4, hW4⟩ : ∃ W4, (W2.alloc (.cells #[] 159)).alloc (.cells #[.bool hd] 4) = W4 := ⟨_, rfl⟩
  have s3 : (W2.alloc (.cells #[] 159)).heap.size = w.heap.size + 3 := by simp [s2]
  have g4 : Grew (fun _ => False) W2 W4 := by rw [← hW4]; exact ((Grew.refl W2).alloc _).alloc _
  have g04 : Grew (fun _ => False) w W4 := g2.trans g4
  have bw4 : W4.heap[w.heap.size + 2]? = some (.cells #[] 159) := by
    rw [← hW4, Below.heap_alloc _ _ _ (by rw [s3]; omega), ← s2]
    exact heap_alloc_new _ _
  have bh4 : W4.heap[w.heap.size + 3]? = some (.cells #[.bool hd] 4) := by
    rw [← hW4, ← s3]
    exact heap_alloc_new _ _
  have bm4 : W4.heap[w.heap.size]? = some (.cells #[.map (some b)] 72) := by rw [g4.block _ (by omega) fun e => e]; exact bm2
  have bk4 : W4.heap[w.heap.size + 1]? = some (.cells #[.int .i64 k] 3) := by rw [g4.block _ (by omega) fun e => e]; exact bk2
  have hL4 : LogAt B g (dp + 1) v fs W4 := h.keep g04 (fun e => e) (fun _ _ e => e)
  have HBk := Lib.hid (back_some B g dp v fs (stepIU (w.heap.size + 3) (w.heap.size + 2) w.heap.size (w.heap.size + 1)) W4 hL4 hl (Nat.le_trans hB g04.size))
  have hno : ∀ x c t, W4.heap[x]? = some (.cells c t) → t ≠ 1 → x ≠ g → ¬ (x = g ∨ v.ownBlock = some x) := fun x c t hx ht hg => by
    rintro (e | e)
    · exact hg e
    · exact other.ne ⟨_, _, _, hx, ht⟩ hL4.row e
  have hgl := h.lt
  have HFin : Hid (∀ w', Grew (fun q => q = g ∨ v.ownBlock = some q) W4 w' → KbIU (w.heap.size + 3) (w.heap.size + 2) w.heap.size (w.heap.size + 1) b k (F k) w' ∧ Grew (fun q => q = g ∨ v.ownBlock = some q) w w') := Lib.hid fun w' hg => by
    have hs4 : w.heap.size + 4 = W4.heap.size := by rw [← hW4]; simp [s2]
    refine ⟨⟨?_, ?_, ?_, ?_⟩, (g04.mono fun _ _ e => e.elim).step hg fun _ _ e => e⟩
    · rw [hhd, hg.block _ (by omega) (hno _ _ _ bh4 (by decide) (by omega))]; exact bh4
    · rw [hg.block _ (by omega) (hno _ _ _ bw4 (by decide) (by omega))]; exact bw4
    · rw [hg.block _ (by omega) (hno _ _ _ bm4 (by decide) (by omega))]; exact bm4
    · rw [hg.block _ (by omega) (hno _ _ _ bk4 (by decide) (by omega))]; exact bk4
  have HC := Lib.hid (fun o => (g04.cell (p := ⟨g, o, none⟩) hgl fun e => e))
  have HZ := Lib.hid (fun o => (g04.frozen (p := ⟨g, o, none⟩) hgl fun e => e))
  have HS2 := Lib.hid s2
  clear s1 s3 g2 g4 g04 hT2 bm2 bk2 bw4 bh4 bm4 bk4 hL4 hno h hT hu hhd
  subst hW4
  subst hW2
  unfold stepV stepIU at HBk
  go_enter Tryz.func164, Tryz.ntmps164
  go_wp2_with fail
  refine HBk.out.mono ?_
  rintro e w1 ⟨rfl, v', hl1, hg1, hk1, hk2⟩
  obtain ⟨f1, f2⟩ := HFin.out w1 hg1
  have HF1 := Lib.hid f1
  have HF2 := Lib.hid f2
  have HL1 := Lib.hid hl1
  have HK1 := Lib.hid fun o ho => (hk1 o ho).trans (HC.out o)
  have HK2 := Lib.hid fun o => (hk2 o).trans (HZ.out o)
  clear f1 f2 hl1 hg1 hk1 hk2 HC HZ HBk HFin hlk s2 hgl
  go_wp2_with fail
  go_end0
  exact ⟨rfl, v', _, rfl, HL1.out, HF1.out, HF2.out, HK1.out, HK2.out⟩
theorem KbIU.keep {b : Nat} {L : List Int} {hb wb mb kb c : Nat} {k : Int} {v : Option Unit} {F : Int → Option Unit} {w w' : World} (h : KbIU hb wb mb kb c k v w) (hg : Grew (fun q => q = b) w w') (hT : Tab (tblIU Tryz.prog) b F L w) : KbIU hb wb mb kb c k v w' := by
  obtain ⟨D, ⟨es, clock, e2, _⟩, _⟩ := hT.own
  have hne : ∀ x cs t, w.heap[x]? = some (Obj.cells cs t (0, 0)) → w'.heap[x]? = some (Obj.cells cs t (0, 0)) := fun x cs t hx => by
    rw [hg.block x ?_ ?_]
    · exact hx
    · rcases Nat.lt_or_ge x w.heap.size with h1 | h1
      · exact h1
      · rw [Array.getElem?_eq_none h1] at hx; cases hx
    · intro e
      rw [e, e2] at hx
      cases hx
  exact ⟨hne _ _ _ h.h, hne _ _ _ h.w', hne _ _ _ h.m, hne _ _ _ h.k'⟩
theorem goodIU {σ : Type} {B g b : Nat} {S0 : Nat → Prop} {I : σ → World → Prop} {L : List Int} {get : σ → Int → Option Unit} {set : σ → (Int → Option Unit) → σ} (A : Acc g S0 I (tblIU Tryz.prog) b L get set) (hL : L.length < 1000000) (s s1 : σ) (k : Int) (hb wb mb kb : Nat) (w : World) (hB : KbIU hb wb mb kb b k (get s k) w) (hS : ¬ S0 hb ∧ ¬ S0 wb ∧ ¬ S0 mb ∧ ¬ S0 kb) (hok : (tblIU Tryz.prog).ok k) (hv : ∀ y, get s k = some y → (tblIU Tryz.prog).okv y ∧ k ∈ L) (he : set s1 (upF (get s1) k (get s k)) = s) : Good B g S0 I (stepIU hb wb mb kb) s1 s w := by
  refine ⟨fun _ => by kernel_rfl, fun q => q = hb ∨ q = wb ∨ q = mb ∨ q = kb, ?_, ?_⟩
  · rintro q (rfl | rfl | rfl | rfl)
    · exact ⟨hS.1, _, _, _, hB.h, by decide, by decide⟩
    · exact ⟨hS.2.1, _, _, _, hB.w', by decide, by decide⟩
    · exact ⟨hS.2.2.1, _, _, _, hB.m, by decide, by decide⟩
    · exact ⟨hS.2.2.2, _, _, _, hB.k', by decide, by decide⟩
  · intro wx hx hI
    have hBx : KbIU hb wb mb kb b k (get s k) wx := ⟨(hx _ (Or.inl rfl)).trans hB.h, (hx _ (Or.inr (Or.inl rfl))).trans hB.w', (hx _ (Or.inr (Or.inr (Or.inl rfl)))).trans hB.m, (hx _ (Or.inr (Or.inr (Or.inr rfl)))).trans hB.k'⟩
    refine (keepBackIU hb wb mb kb b k (get s k) (get s1) L wx hBx (A.tab _ _ hI) hL hok hv).mono ?_
    rintro e w' ⟨rfl, hT, hg⟩
    refine ⟨rfl, ?_, hg.mono fun q _ e => (by rw [e]; exact Or.inl A.own), fun _ _ _ _ hl => hl.tab (A.tab _ _ hI) A.ne hg⟩
    rw [← he]
    exact A.upd _ _ _ _ hI hT hg
set_option maxRecDepth 100000 in
/-- a Put in a Try -/
theorem putIU {σ : Type} {g b : Nat} {S0 : Nat → Prop} {I : σ → World → Prop} {L : List Int} {get : σ → Int → Option Unit} {set : σ → (Int → Option Unit) → σ} (LG : Logged g S0 I) (A : Acc g S0 I (tblIU Tryz.prog) b L get set) (hL : L.length < 1000000) (B dp : Nat) (v : Value) (fs : List Step) (s : σ) (k : Int) (y : Unit) (w : World) (h : LogAt B g (dp + 1) v fs w) (hl : fs.length < 100000) (hB : B ≤ w.heap.size) (hI : I s w) (hok : (tblIU Tryz.prog).ok k) (hy : (tblIU Tryz.prog).okv y) (hk : k ∈ L)
    (hlog : ∀ w', Grew (fun q => q = g ∨ v.ownBlock = some q) w w' → (∀ o, ¬ o = 1 → w'.cell? ⟨g, o, none⟩ = w.cell? ⟨g, o, none⟩) → (∀ o, w'.frozen? ⟨g, o, none⟩ = w.frozen? ⟨g, o, none⟩) → I s w') :
    Calls Tryz.prog 156 #[.pointer (some ⟨g, 0, none⟩), .map (some b), .int .i64 k, .agg #[]] w fun e w' => e = .returned (.tuple #[]) ∧ Did B g dp S0 I fs 1 s (set s (upF (get s) k (some y))) w w' := by
  obtain ⟨W0, hW0⟩ : ∃ W0, w.alloc (.cells #[] 159) = W0 := ⟨_, rfl⟩
  have HW0 : Hid (Grew (Mut B S0 w) w W0) := Lib.hid (by rw [← hW0]; exact (Grew.refl w).alloc _)
  have HF0 : Hid (Grew (fun _ => False) w W0) := Lib.hid (by rw [← hW0]; exact (Grew.refl w).alloc _)
  have hgl := h.lt
  have h : LogAt B g (dp + 1) v fs W0 := by rw [← hW0]; exact h.keepAlloc _
  have hI : I s W0 := by rw [← hW0]; exact LG.keep _ _ _ hI (grow_not S0 _ _)
  have hB : B ≤ W0.heap.size := Nat.le_trans hB HW0.out.size
  have hlog : ∀ w', Grew (fun q => q = g ∨ v.ownBlock = some q) W0 w' → (∀ o, ¬ o = 1 → w'.cell? ⟨g, o, none⟩ = W0.cell? ⟨g, o, none⟩) → (∀ o, w'.frozen? ⟨g, o, none⟩ = W0.frozen? ⟨g, o, none⟩) → I s w' := fun w' hg a b => hlog w' ((HF0.out.mono fun _ _ e => e.elim).step hg fun _ _ e => e) (fun o ho => (a o ho).trans (HF0.out.cell (p := ⟨g, o, none⟩) hgl fun e => e)) fun o => (b o).trans (HF0.out.frozen (p := ⟨g, o, none⟩) hgl fun e => e)
  have HK := Lib.hid (keepIU B g dp b v fs (get s) L k W0 h hl hB (A.tab _ _ hI) hok)
  have HM : Hid (∀ w', Grew (fun q => q = g ∨ v.ownBlock = some q) W0 w' → Grew (Mut B S0 W0) W0 w') := Lib.hid fun w' hg => hg.mono fun q _ e => by
    rcases e with e | e
    · rw [e]; exact Or.inl LG.own
    · exact Or.inr ⟨(h.row.lt q e).1, Lib.ownsRow_kind h.row q e⟩
  have HNo : Hid (∀ x, W0.heap.size = x → ¬ S0 (x + 3) ∧ ¬ S0 (x + 2) ∧ ¬ S0 x ∧ ¬ S0 (x + 1)) := Lib.hid fun x hx => ⟨fun m => (by have := LG.lt _ _ _ hI m; omega), fun m => (by have := LG.lt _ _ _ hI m; omega), fun m => (by have := LG.lt _ _ _ hI m; omega), fun m => (by have := LG.lt _ _ _ hI m; omega)⟩
  have HLg := Lib.hid hlog
  have HO := Lib.hid hok
  have HY := Lib.hid hy
  have HIn := Lib.hid hk
  have HLL := Lib.hid hL
  clear h hlog hI hgl HF0
  subst hW0
  go_enter Tryz.func156, Tryz.ntmps156
  go_wp2_with fail
  refine HK.out.mono ?_
  rintro e w1 ⟨rfl, v', x, hx, hl1, hb1, hg1, hc1, hz1⟩
  have hI1 := HLg.out w1 hg1 hc1 hz1
  have HI1 := Lib.hid hI1
  have HL1 := Lib.hid hl1
  have HB1 := Lib.hid hb1
  have HG1 := Lib.hid (HM.out w1 hg1)
  have HT1 := Lib.hid (A.tab _ _ hI1)
  clear HLg HK HM hI1 hl1 hb1 hg1 hc1 hz1 hok hy hk hL
  go_wp2_with (at_mapUpdate; (refine wpList_tab_put (T := (tblIU Tryz.prog)) tblIU_fine HT1.out HLL.out rfl _ _ _ rfl rfl k y rfl rfl HIn.out HO.out HY.out ?_); (intro w2 hT2 hG2); (have HT2 := Lib.hid hT2); (have HG2 := Lib.hid hG2); clear hT2 hG2)
  go_end0
  have hm2 : Grew (Mut B S0 w1) w1 w2 := HG2.out.mono fun q _ e => by rw [e]; exact Or.inl A.own
  refine ⟨rfl, Did.one (HL1.out.tab HT1.out A.ne HG2.out) (A.upd _ _ _ _ HI1.out HT2.out HG2.out) (goodIU A HLL.out s _ k (x + 3) (x + 2) x (x + 1) w2 ?_ (HNo.out x hx) HO.out (fun z hz => ⟨HT1.out.vals _ _ hz, (HT1.out.sup _ (by rw [hz]; rfl)).1⟩) (by rw [A.got, upF_back]; exact A.back _ _)) (HW0.out.thenMut (HG1.out.thenMut hm2))⟩
  exact HB1.out.keep HG2.out HT1.out
set_option maxRecDepth 100000 in
/-- a Drop in a Try -/
theorem dropIU {σ : Type} {g b : Nat} {S0 : Nat → Prop} {I : σ → World → Prop} {L : List Int} {get : σ → Int → Option Unit} {set : σ → (Int → Option Unit) → σ} (LG : Logged g S0 I) (A : Acc g S0 I (tblIU Tryz.prog) b L get set) (hL : L.length < 1000000) (B dp : Nat) (v : Value) (fs : List Step) (s : σ) (k : Int) (w : World) (h : LogAt B g (dp + 1) v fs w) (hl : fs.length < 100000) (hB : B ≤ w.heap.size) (hI : I s w) (hok : (tblIU Tryz.prog).ok k)
    (hlog : ∀ w', Grew (fun q => q = g ∨ v.ownBlock = some q) w w' → (∀ o, ¬ o = 1 → w'.cell? ⟨g, o, none⟩ = w.cell? ⟨g, o, none⟩) → (∀ o, w'.frozen? ⟨g, o, none⟩ = w.frozen? ⟨g, o, none⟩) → I s w') :
    Calls Tryz.prog 138 #[.pointer (some ⟨g, 0, none⟩), .map (some b), .int .i64 k] w fun e w' => e = .returned (.tuple #[]) ∧ Did B g dp S0 I fs 1 s (set s (upF (get s) k none)) w w' := by
  have HK := Lib.hid (keepIU B g dp b v fs (get s) L k w h hl hB (A.tab _ _ hI) hok)
  have HM : Hid (∀ w', Grew (fun q => q = g ∨ v.ownBlock = some q) w w' → Grew (Mut B S0 w) w w') := Lib.hid fun w' hg => hg.mono fun q _ e => by
    rcases e with e | e
    · rw [e]; exact Or.inl LG.own
    · exact Or.inr ⟨(h.row.lt q e).1, Lib.ownsRow_kind h.row q e⟩
  have HNo : Hid (∀ x, w.heap.size = x → ¬ S0 (x + 3) ∧ ¬ S0 (x + 2) ∧ ¬ S0 x ∧ ¬ S0 (x + 1)) := Lib.hid fun x hx => ⟨fun m => (by have := LG.lt _ _ _ hI m; omega), fun m => (by have := LG.lt _ _ _ hI m; omega), fun m => (by have := LG.lt _ _ _ hI m; omega), fun m => (by have := LG.lt _ _ _ hI m; omega)⟩
  have HLg := Lib.hid hlog
  have HO := Lib.hid hok
  have HLL := Lib.hid hL
  clear h hlog hI
  go_enter Tryz.func138, Tryz.ntmps138
  go_wp2_with fail
  refine HK.out.mono ?_
  rintro e w1 ⟨rfl, v', x, hx, hl1, hb1, hg1, hc1, hz1⟩
  have hI1 := HLg.out w1 hg1 hc1 hz1
  have HI1 := Lib.hid hI1
  have HL1 := Lib.hid hl1
  have HB1 := Lib.hid hb1
  have HG1 := Lib.hid (HM.out w1 hg1)
  have HT1 := Lib.hid (A.tab _ _ hI1)
  clear HLg HK HM hI1 hl1 hb1 hg1 hc1 hz1 hok hL
  go_wp2_with (at_delete; (refine wpList_tab_del (T := (tblIU Tryz.prog)) tblIU_fine HT1.out rfl _ _ rfl rfl k rfl HO.out ?_); (intro w2 hT2 hG2); (have HT2 := Lib.hid hT2); (have HG2 := Lib.hid hG2); clear hT2 hG2)
  go_end0
  have hm2 : Grew (Mut B S0 w1) w1 w2 := HG2.out.mono fun q _ e => by rw [e]; exact Or.inl A.own
  refine ⟨rfl, Did.one (HL1.out.tab HT1.out A.ne HG2.out) (A.upd _ _ _ _ HI1.out HT2.out HG2.out) (goodIU A HLL.out s _ k (x + 3) (x + 2) x (x + 1) w2 ?_ (HNo.out x hx) HO.out (fun z hz => ⟨HT1.out.vals _ _ hz, (HT1.out.sup _ (by rw [hz]; rfl)).1⟩) (by rw [A.got, upF_back]; exact A.back _ _)) (HG1.out.thenMut hm2)⟩
  exact HB1.out.keep HG2.out HT1.out
end Go.Proofs.YtbohpffigmllkaaGreatDoor
