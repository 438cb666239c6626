/-
  UndoTable: a Try of it; what lies apart; stores and steps of a range as equations.
-/
import Derived.Test.YtdeohkkpmjgaoaaTblRun
import Derived.Maps.RangeWalk
namespace Go.Proofs.Ytdeohkkpmjgaoaa
open Go.RowKit Go.Maps Go.ChangeMaps Go.WideShapes

theorem run_min4 (P : Program) (w : World) (ts : Array TypeId) (t : TypeId) (x y z u n : Int)
    (h : (if u < (if z < (if y < x then y else x) then z else (if y < x then y else x)) then u else (if z < (if y < x then y else x) then z else (if y < x then y else x))) = n) :
    (Builtin.min_ ts t #[.int .i64 x, .int .i64 y, .int .i64 z, .int .i64 u]).run P w = .ok (.int .i64 n) w := by
  rw [← h]
  simp [Builtin.min_, Builtin.min2]
theorem run_min2 (P : Program) (w : World) (ts : Array TypeId) (t : TypeId) (x y z : Int) (h : z = min x y) : (Builtin.min_ ts t #[.int .i64 x, .int .i64 y]).run P w = .ok (.int .i64 z) w := by
  subst h
  by_cases hc : y < x
  · rw [Int.min_eq_right (by omega)]
    simp [Builtin.min_, Builtin.min2, hc]
  · rw [Int.min_eq_left (by omega)]
    simp [Builtin.min_, Builtin.min2, hc]
theorem Box.neLog {b B g dp : Nat} {t : TypeId} {x v : Value} {fs : List Step} {w : World} (h : Box b t x w) (l : LogAt B g dp v fs w) : b ≠ g := fun e => by
  have h1 := l.c1
  subst e
  unfold Box at h
  simp [World.cell?, h] at h1
theorem Box.neTab {K V : Type} {T : Tbl K V} {b m : Nat} {t : TypeId} {x : Value} {F : K → Option V} {L : List K} {w : World} (h : Box b t x w) (k : Tab T m F L w) : b ≠ m := fun e => by
  obtain ⟨D, ⟨es, clock, e2, _⟩, _⟩ := k.own
  subst e
  unfold Box at h
  rw [e2] at h
  exact nomatch h
theorem Tab.neLog {K V : Type} {T : Tbl K V} {m B g dp : Nat} {v : Value} {fs : List Step} {F : K → Option V} {L : List K} {w : World} (k : Tab T m F L w) (l : LogAt B g dp v fs w) : m ≠ g := fun e => by
  obtain ⟨D, ⟨es, clock, e2, _⟩, _⟩ := k.own
  have h1 := l.c1
  subst e
  simp [World.cell?, e2] at h1
theorem Tab.notFunc {K V : Type} {T : Tbl K V} {B m : Nat} {F : K → Option V} {L : List K} {w : World} (k : Tab T m F L w) : ¬ isFunc B m w := by
  rintro ⟨_, c, fz, e⟩
  obtain ⟨D, ⟨es, clock, e2, _⟩, _⟩ := k.own
  rw [e2] at e
  exact nomatch e
/-- 'm[k] = v' as an equation -/
theorem Tab.runPut {K V : Type} [DecidableEq K] {T : Tbl K V} {b : Nat} {F : K → Option V} {L : List K} {w : World} (f : T.Fine) (h : Tab T b F L w) (hL : L.length < 1000000) (k : K) (y : V) (hk : k ∈ L) (hok : T.ok k) (hy : T.okv y) : ∃ w', (Instr.mapUpdate T.t (.map (some b)) (T.kv k) (T.vv y)).run Try.prog w = .ok () w' ∧ Tab T b (upF F k (some y)) L w' ∧ Grew (fun q => q = b) w w' := by
  obtain ⟨D, ho, hh, ha, hl⟩ := h.own
  have hs := h.few f ho hh hl
  obtain ⟨w', h0, h1, h2⟩ := ho.store f.law f.und (by unfold maxLen; omega) (f.key k hok) (f.val y hy)
  exact ⟨w', h0, h.put f k y hk hok hy hh ha hl ho.isMap ⟨_, h1⟩, turned_grew h2⟩
/-- two tables with the same elements have as many of them -/
theorem Tab.len2 {K V : Type} {T : Tbl K V} {b b' : Nat} {F : K → Option V} {L : List K} {w : World} (f : T.Fine) (h : Tab T b F L w) (h' : Tab T b' F L w) : ∃ n : Nat, ∀ ty, (Builtin.len_ #[T.t] ty #[.map (some b)]).run Try.prog w = .ok (.int .i64 n) w ∧ (Builtin.len_ #[T.t] ty #[.map (some b')]).run Try.prog w = .ok (.int .i64 n) w := by
  obtain ⟨D, ho, hh, ha, hl⟩ := h.own
  obtain ⟨D', ho', hh', ha', hl'⟩ := h'.own
  have e : D = D' := by
    refine Maps.ext (ho.canon f.law) (ho'.canon f.law) (fun l => ?_) (fun l z hl1 => ?_)
    · rw [Bool.eq_iff_iff]
      constructor
      · intro q
        obtain ⟨k, rfl⟩ := hl l q
        rw [hh', ← hh]
        exact q
      · intro q
        obtain ⟨k, rfl⟩ := hl' l q
        rw [hh, ← hh']
        exact q
    · obtain ⟨k, rfl⟩ := hl l hl1
      rw [hh, Option.isSome_iff_exists] at hl1
      obtain ⟨v, hv⟩ := hl1
      rw [ha k v hv z, ha' k v hv z]
  subst e
  exact ⟨size D, fun ty => ⟨ho.len f.und ty, ho'.len f.und ty⟩⟩
theorem upF_two {K V : Type} [DecidableEq K] (F : K → Option V) (k : K) (u v : Option V) : upF (upF F k u) k v = upF F k v := by
  funext x
  unfold upF
  by_cases h : x = k
  · rw [if_pos h, if_pos h]
  · rw [if_neg h, if_neg h, if_neg h]
theorem keyOf_string_inv {k : TypeId} (hk : Try.prog.underlying k = some .string) {key : Value} {kl : Lit} (h : keyOf Try.prog k key = some kl) : ∃ s : ByteArray, key = .string s ∧ kl = .string s.data.toList ∧ s.size ≤ maxLen := by
  cases key <;> simp [keyOf, hk, mapKey] at h
  exact ⟨_, rfl, h.2.symm, h.1⟩
/-- a range over a table is under way -/
def Rng (b r : Nat) (F : ByteArray → Option ByteArray) (cnt : Nat) (w : World) : Prop := ∃ D n left, w.ranges Try.prog 9 (tblSS Try.prog).R b r n (D : DataW Unit) left cnt ∧ (∀ k, has D ((tblSS Try.prog).kl k) = (F k).isSome) ∧ (∀ k v, F k = some v → ∀ z, D.atKey ((tblSS Try.prog).kl k) z = (tblSS Try.prog).el v)
theorem Rng.keep {b r cnt : Nat} {F : ByteArray → Option ByteArray} {w w' : World} (h : Rng b r F cnt w) (g : Grew (fun _ => False) w w') : Rng b r F cnt w' := by
  obtain ⟨D, n, left, h1, h2, h3⟩ := h
  exact ⟨D, n, left, h1.kept (row := none) ⟨g.os, g.tape, g.output, g.size, fun k hk _ => g.block k hk fun e => e⟩ (by simp) (by simp), h2, h3⟩
theorem wpList_tab_range {b : Nat} {F : ByteArray → Option ByteArray} {L : List ByteArray} {w : World} {ops : Array Oper} {rest : List Oper} {o : Oper} {a : Act} {Q : Exit → Act → World → Prop} (hg : o.guard = none) (m : Operand) (hop : o.op = Op.range 42 m) (hm : a.eval m = .map (some b)) (h : Tab (tblSS Try.prog) b F L w)
    (hK : ∀ w' cnt, Rng b w.heap.size F cnt w' → Grew (fun _ => False) w w' → wpList Try.prog ops Q rest (a.put o.dst (.pointer (some ⟨w.heap.size, 0, none⟩))) w') : wpList Try.prog ops Q (o :: rest) a w := by
  obtain ⟨D, ho, hh, ha, hl⟩ := h.own
  refine wpList_range_own w hg m 42 hop 9 9 tblSS_fine.law tblSS_fine.und (tblSS Try.prog).R b (size D) D hm ho fun w' h1 h2 _ => hK w' _ ⟨D, _, _, h1, hh, ha⟩ ?_
  exact ⟨h2.os, h2.tape, h2.output, h2.size, fun k hk _ => h2.block k hk (by simp)⟩
theorem Rng.left {b r cnt : Nat} {F : ByteArray → Option ByteArray} {w : World} (h : Rng b r F cnt w) : w.rangeLeft b r = cnt := by
  obtain ⟨D, n, left, h1, _⟩ := h
  exact h1.left_eq
theorem wpList_tab_next {b r cnt : Nat} {F : ByteArray → Option ByteArray} {w : World} {ops : Array Oper} {rest : List Oper} {o : Oper} {a : Act} {Q : Exit → Act → World → Prop} (hg : o.guard = none) (it : Operand) (hop : o.op = Op.next it false) (hit : a.eval it = .pointer (some ⟨r, 0, none⟩)) (h : Rng b r F cnt w)
    (hDone : wpList Try.prog ops Q rest (a.put o.dst (.tuple #[.bool false])) w)
    (hMore : ∀ (x c : ByteArray) w' cnt', F x = some c → x.size ≤ maxLen → Rng b r F cnt' w' → cnt' < cnt → Grew (fun q => q = r) w w' → (Instr.entry (.pointer (some ⟨r, 0, none⟩))).run Try.prog w' = .ok (.tuple #[.string x, .string c]) w' → wpList Try.prog ops Q rest (a.put o.dst (.tuple #[.bool true, .string x, .string c])) w') : wpList Try.prog ops Q (o :: rest) a w := by
  obtain ⟨D, n, left, h1, hh, ha⟩ := h
  refine wpList_next_ranges w hg it hop 9 tblSS_fine.law (tblSS Try.prog).R Value.string Value.string (fun key kl hk => ?_) (fun v y hv => ?_) b r n D left cnt hit h1 (fun _ _ => hDone) ?_
  · obtain ⟨s, e, _⟩ := keyOf_string_inv Try.underlying9 hk
    exact ⟨s, e⟩
  · dsimp only [tblSS] at hv
    obtain ⟨s, e, _⟩ := plainElem_string_inv Try.underlying9 hv
    exact ⟨s, e⟩
  · intro x c kl y w' cnt' hk hl hv hat hr hlt hgr _ hen
    obtain ⟨s, e, rfl, hsz⟩ := keyOf_string_inv Try.underlying9 hk
    cases e
    have hs : has D (.string x.data.toList) = true := has_true_of_atKey hat
    have hs' : has D ((tblSS Try.prog).kl x) = true := hs
    rw [hh, Option.isSome_iff_exists] at hs'
    obtain ⟨c', hc'⟩ := hs'
    have hcc : c' = c := by
      have e1 := ha x c' hc' (.map [])
      have e2 := hat (.map [])
      dsimp only [tblSS] at hv e1
      obtain ⟨q, e3, e4, _⟩ := plainElem_string_inv Try.underlying9 hv
      cases e3
      rw [e4] at e2
      have e5 : DataW.lit (.string c'.data.toList) = DataW.lit (.string c.data.toList) := e1.symm.trans e2
      exact ByteArray.ext (Array.toList_inj.mp (Lit.string.inj (DataW.lit.inj e5)))
    subst hcc
    exact hMore x c' w' cnt' hc' hsz ⟨D, n, _, hr, hh, ha⟩ hlt ⟨hgr.os, hgr.tape, hgr.output, hgr.size, fun k hk hs => hgr.block k hk fun e => hs (Option.some.inj e)⟩ hen
/-- a Try of the law -/
theorem tblTry_any (w0 : World) (g mb ib lb vb mx kb fb i last vl vc kl kc fl fc : Nat) (va ka fa : Option Addr) (ks vs : Nat → ByteArray) (bs : Nat → Bool) (F : ByteArray → Option ByteArray) (Ls : List ByteArray) (v : Value) (W : World)
    (hS : ∀ k, tabS0 mb g k → w0.heap.size ≤ k)
    (hil : i ≤ last) (hlast : last < 30) (hlk : last < kl) (hlv : last < vl) (hlf : last < fl)
    (hK : StrsIn w0 ka kl ks) (hV : StrsIn w0 va vl vs) (hFl : BoolsAt w0 fa fl bs) (hBl : Below w0.heap.size w0 W)
    (hT : TbAt ib lb vb mx kb fb mb i last vl vc kl kc fl fc va ka fa W) (hL : LogAt w0.heap.size g 0 v [] W) (hI : Tab (tblSS Try.prog) mb F Ls W) (hLs : Ls.length < 1000000) (hks : ∀ j, j ≤ last → ks j ∈ Ls) :
    Calls Try.prog 19 #[.pointer (some ⟨g, 0, none⟩), .func (.func 20) #[] #[.pointer (some ⟨ib, 0, none⟩), .pointer (some ⟨lb, 0, none⟩), .pointer (some ⟨vb, 0, none⟩), .pointer (some ⟨g, 0, none⟩), .pointer (some ⟨mx, 0, none⟩), .pointer (some ⟨kb, 0, none⟩), .pointer (some ⟨fb, 0, none⟩)]] W fun e w' =>
      e = .returned (.int .i64 (if bs last then 11 else 0)) ∧ (∃ v', LogAt w0.heap.size g 0 v' [] w') ∧ Tab (tblSS Try.prog) mb (if bs last then F else foldF ks vs F i (last + 1 - i)) Ls w' ∧ Grew (Mut w0.heap.size (tabS0 mb g) W) W w' := by
  have hn : mb ≠ g := hI.neLog hL
  have LG := tabLogged mb g Ls hn
  have hI0 : tabI mb g Ls F W := ⟨hI, hL.lt⟩
  have hNb : ¬ tabS0 mb g ib ∧ ¬ tabS0 mb g lb ∧ ¬ tabS0 mb g vb ∧ ¬ tabS0 mb g mx ∧ ¬ tabS0 mb g kb ∧ ¬ tabS0 mb g fb :=
    ⟨fun e => e.elim (hT.i.neLog hL) (hT.i.neTab hI), fun e => e.elim (hT.l.neLog hL) (hT.l.neTab hI), fun e => e.elim (hT.v.neLog hL) (hT.v.neTab hI), fun e => e.elim (hT.m.neLog hL) (hT.m.neTab hI), fun e => e.elim (hT.k.neLog hL) (hT.k.neTab hI), fun e => e.elim (hT.f.neLog hL) (hT.f.neTab hI)⟩
  refine (try_gen LG w0.heap.size 0 v [] 20 _ F W hL (by decide) hI0 (fun o _ s1 _ => o = (if bs last then some 11 else none) ∧ s1 = foldF ks vs F i (last + 1 - i)) (fun _ => by kernel_rfl) fun l1 i1 => ?_).mono ?_
  · have gt := tryWorld_grew g 0 W
    have hT1 := hT.kept (S0 := tabS0 mb g) (w' := tryWorld g 0 W) (fun k hk => gt.block k hk.lt fun e => hk.1 (Or.inl e)) hNb
    refine (tblRun_any w0 g mb ib lb vb mx kb fb i last vl vc kl kc fl fc va ka fa ks vs bs F Ls v _ hn hS hNb hil hlast hlk hlv hlf hK hV hFl (gt.below hBl hBl.size fun k e => by rw [e]; exact hS g (Or.inl rfl)) hT1 l1 i1 hLs hks).mono ?_
    rintro e w' ⟨rfl, ⟨v', fs', l2, n2, p2⟩, i2, g2⟩
    refine ⟨_, fs', v', _, rfl, l2, ?_, i2, p2, ?_, g2, rfl, rfl⟩
    · intro k hk
      split at hk
      · cases hk; decide
      · cases hk
    · rw [List.nil_append]; omega
  · rintro e w' ⟨o, fs', s1, w1, rfl, ⟨ho, hs1⟩, _, hg, _, _, h⟩
    rcases h with ⟨rfl, hi, hl, _⟩ | ⟨k, rfl, _, hi, hl⟩
    · have hb : bs last = false := by
        cases hbb : bs last with
        | false => rfl
        | true => rw [hbb] at ho; cases ho
      rw [hb]
      rw [hs1] at hi
      exact ⟨rfl, hl, hi.1, hg⟩
    · have hb : bs last = true := by
        cases hbb : bs last with
        | false => rw [hbb] at ho; cases ho
        | true => rfl
      rw [hb] at ho ⊢
      cases ho
      exact ⟨rfl, hl, hi.1, hg⟩
end Go.Proofs.Ytdeohkkpmjgaoaa
