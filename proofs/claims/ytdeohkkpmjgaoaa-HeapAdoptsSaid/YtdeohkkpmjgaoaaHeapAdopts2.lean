/-
  Law 10's HeapAdopts.
-/
import Derived.Test.YtdeohkkpmjgaoaaAdTry
namespace Go.Proofs.Ytdeohkkpmjgaoaa
open Go.RowKit Go.Maps Go.ChangeMaps Go.WideShapes

/-- a list of ints that was handed in: nothing, or a row of the world -/
def IntsAt (w : World) (a : Option Addr) (l : Nat) (es : Nat → Int) : Prop :=
  l = 0 ∨ ∃ b off, a = some ⟨b, off, none⟩ ∧ ∀ i, i < l → w.cell? ⟨b, off + i, none⟩ = some (.int .i64 (es i))
theorem IntsAt.below {w w' : World} {a : Option Addr} {l : Nat} {es : Nat → Int} (h : IntsAt w a l es) (k : Below w.heap.size w w') : IntsAt w' a l es := by
  rcases h with h | ⟨b, off, rfl, hr⟩
  · exact Or.inl h
  · exact Or.inr ⟨b, off, rfl, fun i hi => by rw [k.cell (cell_lt (hr i hi))]; exact hr i hi⟩
/-- how many of n keys from 2 on are there -/
def seenN (F : Int → Option Int) (n : Nat) : Nat := (((List.range n).map fun i => ((2 + i : Nat) : Int)).filter fun k => (F k).isSome).length
theorem seenN_succ (F : Int → Option Int) (n : Nat) : seenN F (n + 1) = seenN F n + if (F ((2 + n : Nat) : Int)).isSome then 1 else 0 := by
  unfold seenN
  rw [List.range_succ, List.map_append, List.filter_append, List.length_append]
  congr 1
  show (([((2 + n : Nat) : Int)]).filter fun k => (F k).isSome).length = _
  by_cases h : (F ((2 + n : Nat) : Int)).isSome
  · rw [if_pos h, List.filter_cons_of_pos (by simpa using h)]
    rfl
  · rw [if_neg h, List.filter_cons_of_neg (by simpa using h)]
    rfl
theorem cnt_seen (F : Int → Option Int) (S : Nat → Nat) (k : Nat) : ∀ n, (∀ i, i < n → (S i = k ↔ (F ((2 + i : Nat) : Int)).isSome = true)) → cnt S k n = seenN F n
  | 0, _ => rfl
  | n + 1, h => by
    have e := cnt_seen F S k n fun i hi => h i (by omega)
    have h1 := h n (by omega)
    rw [seenN_succ, ← e]
    show cnt S k n + _ = _
    by_cases hs : (F ((2 + n : Nat) : Int)).isSome = true
    · rw [if_pos (h1.2 hs), if_pos hs]
    · rw [if_neg (fun e => hs (h1.1 e)), if_neg hs]
theorem cnt_unseen (F : Int → Option Int) (S : Nat → Nat) (k : Nat) : ∀ n, (∀ i, i < n → (S i = k ↔ ¬ (F ((2 + i : Nat) : Int)).isSome = true)) → cnt S k n + seenN F n = n
  | 0, _ => rfl
  | n + 1, h => by
    have e := cnt_unseen F S k n fun i hi => h i (by omega)
    have h1 := h n (by omega)
    rw [seenN_succ]
    show cnt S k n + _ + _ = _
    by_cases hs : (F ((2 + n : Nat) : Int)).isSome = true
    · rw [if_neg (fun e => h1.1 e hs), if_pos hs]
      omega
    · rw [if_pos (h1.2 hs), if_neg hs]
      omega
/-- what holds between two steps of HeapAdopts -/
structure AdAt (b : HB) (hx sb : Nat) (F G : Int → Option Int) (w0 w : World) : Prop where
  st : HeapI b (adS F G) w
  log : LogAt b.B b.g 0 (.slice none 0 0) [] w
  sn : Tab (tblII Try.prog) sb F b.keys w
  bh : Box hx 54 (.pointer (some ⟨b.hb, 0, none⟩)) w
  bel : Below w0.heap.size w0 w
/-- what doesn't change -/
structure AdC (b : HB) (hx sb : Nat) (w0 : World) : Prop where
  ok : b.ok
  f : b.f = 2
  n : b.n = 10
  own : ∀ k, b.S0 k → w0.heap.size ≤ k
  hx : ¬ b.S0 hx
  sb : ¬ b.S0 sb ∧ w0.heap.size ≤ sb
section
variable {b : HB} {hx sb : Nat} {F G : Int → Option Int} {w0 w w' : World}
theorem AdAt.alloc (h : AdAt b hx sb F G w0 w) (o : Obj) : AdAt b hx sb F G w0 (w.alloc o) :=
  ⟨h.st.alloc o, h.log.keepAlloc o, h.sn.keep (S := fun _ => False) ((Grew.refl w).alloc o) (fun e => e), h.bh.keepAlloc o, h.bel.alloc h.bel.size o⟩
theorem AdC.at' (c : AdC b hx sb w0) (T : Int) (h : 2 ≤ T) (h2 : T ≤ 11) : ∃ i, i < b.n ∧ ((b.f + i : Nat) : Int) = T ∧ ((2 + i : Nat) : Int) = T := by
  have := c.f
  have := c.n
  exact ⟨T.toNat - 2, by omega, by omega, by omega⟩
theorem AdAt.seen (c : AdC b hx sb w0) (hne : hx ≠ sb) {F' : Int → Option Int} (st : HeapI b (adS F' F') w) (log : LogAt b.B b.g 0 (.slice none 0 0) [] w) (sn : Tab (tblII Try.prog) sb F b.keys w) (bh : Box hx 54 (.pointer (some ⟨b.hb, 0, none⟩)) w) (bel : Below w0.heap.size w0 w) (hT : Tab (tblII Try.prog) sb F' b.keys w') (hg : Grew (fun q => q = sb) w w') : AdAt b hx sb F' F' w0 w' := by
  refine ⟨st.keep hg (fun i hi e => c.sb.1 ⟨i, hi, e.symm⟩) fun r _ hr e => ?_, log.tab sn (fun e => c.sb.1 (e ▸ ⟨1, by decide, rfl⟩)) hg, hT, bh.keep hg hne, hg.below bel bel.size fun q e => by rw [e]; exact c.sb.2⟩
  obtain ⟨cc, fz, e1⟩ := hr
  obtain ⟨D, ⟨es, clock, e2, _⟩, _⟩ := sn.own
  have e : r = sb := e
  rw [e, e2] at e1
  cases e1
theorem AdAt.drew (h : AdAt b hx sb F G w0 w) : AdAt b hx sb F G w0 w.drew :=
  ⟨h.st.drew, h.log.drew', h.sn.keep (S := fun _ => False) (Grew.refl w).drew (fun e => e), h.bh, ((Grew.refl (S := fun _ => False) w).drew).below h.bel h.bel.size fun _ e => e.elim⟩
theorem vals_up {k : Nat} {T Y : Int} (hv : ∀ T v, F T = some v → 1 ≤ v ∧ v ≤ (k : Int)) (hY : 1 ≤ Y ∧ Y ≤ (k : Int) + 1) : ∀ T' v, upF F T (some Y) T' = some v → 1 ≤ v ∧ v ≤ ((k + 1 : Nat) : Int) := fun T' v e => by
  unfold upF at e
  by_cases h : T' = T
  · rw [if_pos h] at e
    cases e
    omega
  · rw [if_neg h] at e
    have := hv T' v e
    omega
theorem AdC.keys (c : AdC b hx sb w0) : b.keys = (List.range 10).map fun i => ((2 + i : Nat) : Int) := by
  unfold HB.keys
  rw [c.f, c.n]
/-- what HeapAdopts asks in between -/
theorem AdAt.mid (c : AdC b hx sb w0) (h : AdAt b hx sb F F w0 w) : ∃ N : Nat, N ≤ 10 ∧ (∀ ty, (Builtin.len_ #[27] ty #[.map (some sb)]).run Try.prog w = .ok (.int .i64 (N : Nat)) w) ∧ (Calls Try.prog 31 #[.pointer (some ⟨b.hb, 0, none⟩)] w fun e w' => e = .returned (.int .i64 (N : Nat)) ∧ w = w') ∧ (Calls Try.prog 32 #[.pointer (some ⟨b.hb, 0, none⟩)] w fun e w' => e = .returned (.int .i64 (10 - (N : Int))) ∧ w = w') := by
  have e1 : cnt (adS F F).S 1 10 = seenN F 10 := cnt_seen F _ 1 10 fun i _ => by
    show (if (F ((2 + i : Nat) : Int)).isSome then 1 else if (F ((2 + i : Nat) : Int)).isSome then 2 else 0) = 1 ↔ _
    cases F ((2 + i : Nat) : Int) <;> simp
  have e0 : cnt (adS F F).S 0 10 + seenN F 10 = 10 := cnt_unseen F _ 0 10 fun i _ => by
    show (if (F ((2 + i : Nat) : Int)).isSome then 1 else if (F ((2 + i : Nat) : Int)).isSome then 2 else 0) = 0 ↔ _
    cases F ((2 + i : Nat) : Int) <;> simp
  have hH := hHeld_any b c.ok _ w h.st
  have hF := hFree_any b c.ok _ w h.st
  rw [c.n, e1] at hH
  rw [c.n, show ((cnt (adS F F).S 0 10 : Nat) : Int) = 10 - ((seenN F 10 : Nat) : Int) by omega] at hF
  refine ⟨seenN F 10, by omega, fun ty => ?_, hH, hF⟩
  have := h.sn.count tblII_fine (by rw [c.keys]; decide) ty
  rw [c.keys] at this
  exact this
/-- what HeapAdopts asks in the end -/
theorem AdAt.last (c : AdC b hx sb w0) (h : AdAt b hx sb F G w0 w) (hG : ∀ x, G x = none) : ∃ N : Nat, (∀ ty, (Builtin.len_ #[27] ty #[.map (some sb)]).run Try.prog w = .ok (.int .i64 (N : Nat)) w) ∧ (Calls Try.prog 36 #[.pointer (some ⟨b.hb, 0, none⟩)] w fun e w' => e = .returned (.int .i64 (N : Nat)) ∧ w = w') ∧ (Calls Try.prog 31 #[.pointer (some ⟨b.hb, 0, none⟩)] w fun e w' => e = .returned (.int .i64 0) ∧ w = w') := by
  have eS : ∀ i, (adS F G).S i = if (F ((2 + i : Nat) : Int)).isSome then 2 else 0 := fun i => by
    show (if (G ((2 + i : Nat) : Int)).isSome then 1 else if (F ((2 + i : Nat) : Int)).isSome then 2 else 0) = _
    rw [hG]
    rfl
  have e2 : cnt (adS F G).S 2 10 = seenN F 10 := cnt_seen F _ 2 10 fun i _ => by
    rw [eS]
    cases F ((2 + i : Nat) : Int) <;> simp
  have e1 : cnt (adS F G).S 1 10 = 0 := cnt_none _ 1 10 fun i _ => by
    rw [eS]
    cases F ((2 + i : Nat) : Int) <;> simp
  have hH := hHeld_any b c.ok _ w h.st
  have hL := hLate_any b c.ok _ w h.st
  rw [c.n, e1] at hH
  rw [c.n, e2] at hL
  refine ⟨seenN F 10, fun ty => ?_, hL, hH⟩
  have := h.sn.count tblII_fine (by rw [c.keys]; decide) ty
  rw [c.keys] at this
  exact this
/-- a Try of HeapAdopts -/
theorem AdAt.try' (c : AdC b hx sb w0) (h : AdAt b hx sb F G w0 w) (x v : Int) (hF : F x = some v) (hGx : (G x).isSome = true) (hsub : ∀ T v, G T = some v → F T = some v) (hv : 1 ≤ v ∧ v ≤ 20) (r cnt : Nat) (hr : ¬ b.S0 r) (hR : RngI sb r F (upF G x none) cnt w) (W : World) (hW : (w.alloc (.cells #[.int .i64 x] 3)).alloc (.cells #[.int .i64 v] 3) = W) :
    Calls Try.prog 33 #[.pointer (some ⟨b.hb, 0, none⟩), .func (.func 34) #[] #[.pointer (some ⟨w.heap.size + 1, 0, none⟩), .pointer (some ⟨hx, 0, none⟩), .pointer (some ⟨w.heap.size, 0, none⟩)]] W fun e w' => e = .returned (.int .i64 0) ∧ AdAt b hx sb F (upF G x none) w0 w' ∧ RngI sb r F (upF G x none) cnt w' ∧ ∀ T v, upF G x none T = some v → F T = some v := by
  have s1 : (w.alloc (.cells #[.int .i64 x] 3)).heap.size = w.heap.size + 1 := by simp
  have hA : AdAt b hx sb F G w0 W := by rw [← hW]; exact (h.alloc _).alloc _
  have y2 : Box w.heap.size 3 (.int .i64 x) W := by rw [← hW]; exact (Box.new w _ _).keepAlloc _
  have y3 : Box (w.heap.size + 1) 3 (.int .i64 v) W := by
    have := Box.new (w.alloc (.cells #[.int .i64 x] 3)) 3 (.int .i64 v)
    rw [s1] at this
    rw [← hW]
    exact this
  have n1 := HB.not0 c.ok h.st.sz (Nat.le_refl w.heap.size)
  have n2 := HB.not0 c.ok h.st.sz (Nat.le_succ w.heap.size)
  have hG : G x = some v := by
    obtain ⟨u, hu⟩ := Option.isSome_iff_exists.1 hGx
    rw [hu, ← hsub x u hu, hF]
  have hRW : RngI sb r F (upF G x none) cnt W := by
    rw [← hW]
    exact hR.keep (S := fun _ => False) (((Grew.refl w).alloc _).alloc _) (fun e => e) fun e => e
  refine (adTry b c.ok c.f F G x v (h.sn.sup x (by rw [hF]; rfl)).1 hF hG hv (w.heap.size + 1) hx w.heap.size W hA.st hA.log y3 hA.bh y2 fun k hk => ?_).mono ?_
  · rcases hk with rfl | rfl | rfl
    · exact n2
    · exact c.hx
    · exact n1
  · rintro e w' ⟨rfl, hI, hL, hg⟩
    refine ⟨rfl, ⟨hI, hL, hA.sn.keep hg c.sb.1, hA.bh.keep hg c.hx, hg.below hA.bel hA.bel.size c.own⟩, hRW.keep hg c.sb.1 hr, fun T u e => ?_⟩
    unfold upF at e
    by_cases he : T = x
    · rw [if_pos he] at e
      cases e
    · rw [if_neg he] at e
      exact hsub T u e
/-- an Adopt in its Guard, of one that isn't there -/
theorem AdAt.out (c : AdC b hx sb w0) (h : AdAt b hx sb F F w0 w) (T : Int) (ho : T < 2 ∨ 11 < T) (W : World) (hW : (w.alloc (.cells #[.int .i64 T] 3)).alloc (.cells #[.bool false] 4) = W) :
    Calls Try.prog 27 #[.func (.func 28) #[] #[.pointer (some ⟨hx, 0, none⟩), .pointer (some ⟨w.heap.size, 0, none⟩), .pointer (some ⟨w.heap.size + 1, 0, none⟩)]] W fun e w' => e = .returned (.int .i64 6) ∧ AdAt b hx sb F F w0 w' ∧ w'.cell? ⟨w.heap.size, 0, none⟩ = some (.int .i64 T) := by
  have hA : AdAt b hx sb F F w0 W := by rw [← hW]; exact (h.alloc _).alloc _
  have y2 : Box w.heap.size 3 (.int .i64 T) W := by rw [← hW]; exact (Box.new w _ _).keepAlloc _
  have := c.f
  have := c.n
  refine (adG_out b c.ok (adS F F) T (by omega) hx _ _ W hA.st hA.log hA.bh y2).mono ?_
  rintro e w' ⟨rfl, hI, hL, hg⟩
  exact ⟨rfl, ⟨hI, hL, hA.sn.keep hg fun e => e, hA.bh.keep hg fun e => e, hg.below hA.bel hA.bel.size fun _ e => e.elim⟩, (y2.keep hg fun e => e).cell⟩
/-- an Adopt in its Guard, of one that is there -/
theorem AdAt.in' (c : AdC b hx sb w0) (h : AdAt b hx sb F F w0 w) (T : Int) (ho : 2 ≤ T ∧ T ≤ 11) (hv : ∀ v, F T = some v → 1 ≤ v ∧ v ≤ 20) (W : World) (hW : (w.alloc (.cells #[.int .i64 T] 3)).alloc (.cells #[.bool false] 4) = W) :
    Calls Try.prog 27 #[.func (.func 28) #[] #[.pointer (some ⟨hx, 0, none⟩), .pointer (some ⟨w.heap.size, 0, none⟩), .pointer (some ⟨w.heap.size + 1, 0, none⟩)]] W fun e w' => e = .returned (.int .i64 0) ∧ HeapI b (adS (upF F T (some ((F T).getD 0 + 1))) (upF F T (some ((F T).getD 0 + 1)))) w' ∧ LogAt b.B b.g 0 (.slice none 0 0) [] w' ∧ Tab (tblII Try.prog) sb F b.keys w' ∧ Box hx 54 (.pointer (some ⟨b.hb, 0, none⟩)) w' ∧ Below w0.heap.size w0 w' ∧ Box w.heap.size 3 (.int .i64 T) w' ∧ w'.cell? ⟨w.heap.size + 1, 0, none⟩ = some (.bool (decide (F T = none))) ∧ w.heap.size ≠ sb := by
  have s1 : (w.alloc (.cells #[.int .i64 T] 3)).heap.size = w.heap.size + 1 := by simp
  have hA : AdAt b hx sb F F w0 W := by rw [← hW]; exact (h.alloc _).alloc _
  have y2 : Box w.heap.size 3 (.int .i64 T) W := by rw [← hW]; exact (Box.new w _ _).keepAlloc _
  have y3 : Box (w.heap.size + 1) 4 (.bool false) W := by
    have := Box.new (w.alloc (.cells #[.int .i64 T] 3)) 4 (.bool false)
    rw [s1] at this
    rw [← hW]
    exact this
  have n1 := HB.not0 c.ok h.st.sz (Nat.le_refl w.heap.size)
  have n2 := HB.not0 c.ok h.st.sz (Nat.le_succ w.heap.size)
  have l1 := h.bh.lt
  have l2 := h.sn.lt
  obtain ⟨i, hi, e1, e2⟩ := c.at' T ho.1 ho.2
  have hSd : decide ((adS F F).S i = 0) = decide (F T = none) := by
    have hS0 : (adS F F).S i = if (F T).isSome then 1 else if (F T).isSome then 2 else 0 := by rw [← e2]; rfl
    refine decide_eq_decide.2 ?_
    rw [hS0]
    cases F T <;> simp
  have hS : ((adS F F).S i = 0 ∧ (adS F F).R ((b.f + i : Nat) : Int) = none) ∨ ((adS F F).S i = 1 ∧ ∃ r : Nat, (adS F F).R ((b.f + i : Nat) : Int) = some (r : Int) ∧ r < 10000) := by
    show ((if (F ((2 + i : Nat) : Int)).isSome then 1 else if (F ((2 + i : Nat) : Int)).isSome then 2 else 0) = 0 ∧ F _ = none) ∨ ((if (F ((2 + i : Nat) : Int)).isSome then 1 else if (F ((2 + i : Nat) : Int)).isSome then 2 else 0) = 1 ∧ ∃ r : Nat, F _ = some (r : Int) ∧ r < 10000)
    rw [e1, e2]
    cases hF : F T with
    | none => exact Or.inl ⟨rfl, rfl⟩
    | some v =>
      have := hv v hF
      exact Or.inr ⟨rfl, v.toNat, by rw [show ((v.toNat : Nat) : Int) = v by omega], by omega⟩
  have hG := adG_in b c.ok (adS F F) i hi hS hx w.heap.size (w.heap.size + 1) false n2 W hA.st hA.log hA.bh (by rw [e1]; exact y2) y3
  refine hG.mono ?_
  rintro e w' ⟨rfl, hI, hL, hB, hg⟩
  have nq : ∀ x, x < w.heap.size + 1 → ¬ b.S0 x → ¬ (b.S0 x ∨ x = w.heap.size + 1) := fun x hx hs e => by
    rcases e with e | e
    · exact hs e
    · omega
  have ea := adS_adopt F i
  rw [e2] at ea
  rw [e1, ea] at hI
  refine ⟨rfl, hI, hL, hA.sn.keep hg (nq _ (by omega) c.sb.1), hA.bh.keep hg (nq _ (by omega) c.hx), hg.below hA.bel hA.bel.size fun q e => ?_, y2.keep hg (nq _ (by omega) n1), ?_, by omega⟩
  · rcases e with e | e
    · exact c.own q e
    · have := h.bel.size
      omega
  · rw [hB.cell, hSd]
end
set_option maxRecDepth 100000 in
set_option maxHeartbeats 2000000 in
theorem heapAdopts_walk (a : Option Addr) (l c : Nat) (es : Nat → Int) (w : World) (hl : l ≤ maxLen) (hA : IntsAt w a l es) :
    Calls Try.prog 5 #[.slice a l c] w fun e w' => e = .returned (.bool true) ∧ Below w.heap.size w w' := by
  have hmm := @run_makeMap Try.prog
  have hmf : ∀ (fn : Fn) (first cap : Array Value) (w : World), (Instr.makeFunc fn first cap).run Try.prog w = .ok (.func fn first cap) w := fun _ _ _ _ => rfl
  unfold maxLen at hl
  have HAr := Lib.hid hA
  clear hA
  go_enter Try.func5, Try.ntmps5
  go_wp2_with fail
  refine (heapAwake w).mono ?_
  rintro e w1 ⟨rfl, hb1⟩
  have HB1 := Lib.hid hb1
  clear hb1
  go_wp2_with fail
  refine (new_any 12 w1).mono ?_
  rintro e w2 ⟨M, rfl, hM⟩
  have hn : M.n = 2 + 10 ∧ M.armed = false ∧ M.dead = false ∧ M.left ≤ 2 ^ 62 := by
    obtain ⟨d, bs, bt, e⟩ := hM.is
    rw [e]
    exact ⟨by show diskLen 12 = 12; decide, rfl, rfl, by show (0 : Int) ≤ 2 ^ 62; decide⟩
  have HNew : Hid (Calls Try.prog 26 #[.pointer (some ⟨M.d, 0, none⟩), .int .i64 2] w2 fun e w' => ∃ b : HB, e = .returned (.pointer (some ⟨b.hb, 0, none⟩)) ∧ b.ok ∧ b.f = 2 ∧ b.n = 10 ∧ b.d = M.d ∧ HeapI b HS.new w' ∧ LogAt b.B b.g 0 (.slice none 0 0) [] w' ∧ Grew (fun _ => False) w2 w' ∧ b.B ≤ w'.heap.size ∧ (∀ i, i < 6 → w2.heap.size ≤ b.blk i) ∧ b.bs = M.bs ∧ b.bt = M.bt) := Lib.hid (hNew_any M 2 10 w2 (by decide) (by decide) hM.at' hn.1 hn.2.1 hn.2.2.1 hn.2.2.2)
  have HM := Lib.hid hM
  clear hM hn
  go_wp2_with fail
  refine HNew.out.mono ?_
  rintro e w3 ⟨b, rfl, ok, hbf, hbn, hbd, hI, hL, hg, hB, hfr, hbs, hbt⟩
  have hC : AdC b w3.heap.size (w3.heap.size + 1) w := by
    have s1 := HB1.out.size
    have s2 := (HM.out.grew fun _ => False).size
    have s3 := hg.size
    refine ⟨ok, hbf, hbn, fun k hk => ?_, HB.not0 ok hB (Nat.le_refl _), HB.not0 ok hB (Nat.le_succ _), by omega⟩
    obtain ⟨i, hi, rfl⟩ := hk
    by_cases h6 : i < 6
    · have := hfr i h6
      omega
    · have h9 : i = 6 ∨ i = 7 ∨ i = 8 := by omega
      rcases h9 with rfl | rfl | rfl
      · have : w1.heap.size ≤ b.blk 6 := HM.out.fresh _ (Or.inl hbd)
        omega
      · have : w1.heap.size ≤ b.blk 7 := HM.out.fresh _ (Or.inr (Or.inl hbs))
        omega
      · have : w1.heap.size ≤ b.blk 8 := HM.out.fresh _ (Or.inr (Or.inr hbt))
        omega
  have hAt : AdAt b w3.heap.size (w3.heap.size + 1) (fun _ => none) (fun _ => none) w ((w3.alloc (.cells #[.pointer (some ⟨b.hb, 0, none⟩)] 54)).alloc (.map #[] 0)) := by
    have e0 : adS (fun _ => none) (fun _ => none) = HS.new := rfl
    have s1 : (w3.alloc (.cells #[.pointer (some ⟨b.hb, 0, none⟩)] 54)).heap.size = w3.heap.size + 1 := by simp
    have tm := Tab.made (tblII Try.prog) b.keys (w3.alloc (.cells #[.pointer (some ⟨b.hb, 0, none⟩)] 54))
    rw [s1] at tm
    have sz1 := HB1.out.size
    have k : Grew (fun _ => False) w1 w3 := (HM.out.grew _).trans hg
    refine ⟨by rw [e0]; exact (hI.alloc _).alloc _, (hL.keepAlloc _).keepAlloc _, tm, (Box.new w3 _ _).keepAlloc _, ?_⟩
    exact ((k.alloc _).alloc _).below HB1.out sz1 fun _ e => e.elim
  have HC := Lib.hid hC
  have HAt := Lib.hid hAt
  clear HM HNew ok hbf hbn hbd hI hL hg hB hfr hbs hbt hC hAt HB1
  go_wp2_with fail
  generalize w3.heap.size = hx at *
  go_loopw [6] (fun x wx => ∃ (k : Nat) (F : Int → Option Int), x = .int .i64 k ∧ k ≤ 20 ∧ k ≤ l ∧ (∀ T v, F T = some v → 1 ≤ v ∧ v ≤ (k : Int)) ∧ AdAt b hx (hx + 1) F F w wx) (fun x _ => 20 - (intOf x).toNat)
  case atStart => exact ⟨0, fun _ => none, rfl, by omega, by omega, (fun _ _ e => nomatch e), HAt.out⟩
  case round =>
    obtain ⟨k, F, rfl, hk, hkl, hv, hat⟩ := hrel
    have HV := Lib.hid hv
    have HA := Lib.hid hat
    have dh := hat.bh.cell
    clear hv hat HAt
    by_cases hgo : k < l ∧ k < 20
    · obtain ⟨g1, g2⟩ := hgo
      have i0 : (0 : Int) ≤ (k : Int) := by omega
      have i1 : (k : Int) < (l : Int) := by omega
      have i2 : (k : Int) < 20 := by omega
      rcases HAr.out.below HA.out.bel with hz | ⟨ba, off, rfl, hr⟩
      · omega
      have hc := hr k g1
      obtain ⟨raw, hraw⟩ : ∃ raw, es k = raw := ⟨_, rfl⟩
      rw [hraw] at hc
      clear hr hraw
      by_cases hA0 : 0 ≤ raw ∧ raw < 40
      · obtain ⟨a1, a2⟩ := hA0
        rcases (by omega : raw % 14 < 2 ∨ (2 ≤ raw % 14 ∧ raw % 14 ≤ 11) ∨ 11 < raw % 14) with b1 | ⟨b1, b2⟩ | b1
        · have b2 : raw % 14 < 2 ∨ 11 < raw % 14 := Or.inl b1
          go_upto_region 13 with fail
          obtain ⟨W, hW⟩ : ∃ W, (wr.alloc (.cells #[.int .i64 (raw % 14)] 3)).alloc (.cells #[.bool false] 4) = W := ⟨_, rfl⟩
          have HG := Lib.hid (HA.out.out HC.out (raw % 14) b2 W hW)
          rw [hW]
          go_wp2_with fail
          refine HG.out.mono ?_
          rintro e w4 ⟨rfl, hat, d4⟩
          have HA4 := Lib.hid hat
          clear hat HG
          go_wp2_with fail
          go_roundw
          case rel => exact ⟨k + 1, F, rfl, by omega, by omega, fun T v e => by have := HV.out T v e; omega, HA4.out⟩
          case measure => simp [intOf]; omega
        · go_upto_region 13 with fail
          obtain ⟨T, hT⟩ : ∃ T, raw % 14 = T := ⟨_, rfl⟩
          rw [hT] at b1 b2 ⊢
          obtain ⟨W, hW⟩ : ∃ W, (wr.alloc (.cells #[.int .i64 T] 3)).alloc (.cells #[.bool false] 4) = W := ⟨_, rfl⟩
          have HG := Lib.hid (HA.out.in' HC.out T ⟨b1, b2⟩ (fun v e => by have := HV.out T v e; omega) W hW)
          rw [hW]
          have wT : (Lit.int .i64 T).wf = true := wf_small _ (by omega) (by omega)
          have mT : T ∈ b.keys := by obtain ⟨i, hi, e1, _⟩ := HC.out.at' T b1 b2; exact List.mem_map.2 ⟨i, List.mem_range.2 hi, e1⟩
          obtain ⟨v0, hv0⟩ : ∃ v0, (F T).getD 0 = v0 := ⟨_, rfl⟩
          have hb0 : 0 ≤ v0 ∧ v0 ≤ k ∧ (decide (F T = none) = decide (v0 = 0)) := by
            rw [← hv0]
            cases hF : F T with
            | none => exact ⟨by simp, by simp, by simp⟩
            | some v => have := HV.out T v hF; exact ⟨by simp; omega, by simp; omega, by simp; omega⟩
          obtain ⟨q1, q2, q3⟩ := hb0
          rw [hv0, q3] at HG
          have HM := Lib.hid mT
          have HWT := Lib.hid wT
          have hwr : IntKind.i64.wrap (v0 + 1) = v0 + 1 := IntWalk.i64_in _ (by omega)
          have HY : Hid ((Lit.int .i64 (v0 + 1)).wf = true) := Lib.hid (wf_small _ (by omega) (by omega))
          clear mT wT q3
          go_wp2_with fail
          refine HG.out.mono ?_
          rintro e w4 ⟨rfl, st4, lg4, sn4, bh4, bl4, bx4, fx4, nsb⟩
          have hlk : (Instr.lookup 27 (.map (some (hx + 1))) (.int .i64 T) false).run Try.prog w4 = .ok (.int .i64 v0) w4 := by
            have := sn4.look1 tblII_fine T HWT.out
            have e0 : (tblII Try.prog).vv ((F T).getD (tblII Try.prog).z) = .int .i64 v0 := by rw [← hv0]; rfl
            rw [e0] at this
            exact this
          have HSn := Lib.hid sn4
          have H4 := Lib.hid (And.intro st4 (And.intro lg4 (And.intro bh4 bl4)))
          have HBx := Lib.hid (And.intro bx4 nsb)
          have d4 := bx4.cell
          have HLL := Lib.hid (b.few HC.out.ok)
          clear st4 lg4 sn4 bh4 bl4 bx4 nsb HG
          by_cases hz : v0 = 0
          · subst hz
            replace HY : Hid ((Lit.int .i64 1).wf = true) := Lib.hid (by decide)
            go_wp2_with (at_mapUpdate; (refine wpList_tab_put (T := (tblII Try.prog)) tblII_fine HSn.out HLL.out rfl _ _ _ rfl rfl T (1) rfl rfl HM.out HWT.out HY.out ?_); (intro w5 hT5 hG5); (have HT5 := Lib.hid hT5); (have HG5 := Lib.hid hG5); clear hT5 hG5)
            have HA5 : Hid (AdAt b hx (hx + 1) (upF F T (some (1))) (upF F T (some (1))) w w5) := Lib.hid (AdAt.seen HC.out (by omega) H4.out.1 H4.out.2.1 HSn.out H4.out.2.2.1 H4.out.2.2.2 HT5.out HG5.out)
            have dh5 : w5.drew.cell? ⟨hx, 0, none⟩ = some (.pointer (some ⟨b.hb, 0, none⟩)) := HA5.out.bh.cell
            have d5 : w5.drew.cell? ⟨wr.heap.size, 0, none⟩ = some (.int .i64 T) := (HBx.out.1.keep HG5.out HBx.out.2).cell
            have hlk5 : (Instr.lookup 27 (.map (some (hx + 1))) (.int .i64 T) false).run Try.prog w5.drew = .ok (.int .i64 (1)) w5.drew := by
              have := HA5.out.drew.sn.look1 tblII_fine T HWT.out
              rw [upF_same] at this
              exact this
            have HRf : Hid (Calls Try.prog 30 #[.pointer (some ⟨b.hb, 0, none⟩), .int .i64 T] w5.drew fun e w' => e = .returned (.int .i64 (1)) ∧ w5.drew = w') := Lib.hid (by
              have := hRefs_any b (adS (upF F T (some (1))) (upF F T (some (1)))) T HWT.out w5.drew HA5.out.st.drew
              rw [show (adS (upF F T (some (1))) (upF F T (some (1)))).R T = some (1) from upF_same _ _ _] at this
              exact this)
            clear hlk d4 fx4 H4 HSn HBx
            go_upto_region 20 with fail
            refine wp_region_held_drew (S := fun wx => wx = w5.drew) (by kernel_rfl) rfl (fun hHeld => ?_)
            refine wpAnyH_take (i := 0) (oi := { dst := some 65, op := Op.load 54 (Operand.tmp 4), type := 54, pos := "law.go:234", after := #[], guard := none }) (v := ?_) rfl (by kernel_rfl) (by kernel_rfl) (by kernel_rfl) (fun _ _ _ h => h) (Or.inl ⟨by rfl, ?_⟩) (by assumption) ?_
            rotate_left
            · (intro wz hSw; subst hSw; go_simp; try with_reducible rfl)
            try simp only [Act.put, List.setIfInBounds_toArray, List.set_cons_zero, List.set_cons_succ]
            refine wpAnyH_take (i := 1) (oi := { dst := some 66, op := Op.load 3 (Operand.tmp 7), type := 3, pos := "law.go:234", after := #[], guard := none }) (v := ?_) rfl (by kernel_rfl) (by kernel_rfl) (by kernel_rfl) (fun _ _ _ h => h) (Or.inl ⟨by rfl, ?_⟩) (by assumption) ?_
            rotate_left
            · (intro wz hSw; subst hSw; go_simp; try with_reducible rfl)
            try simp only [Act.put, List.setIfInBounds_toArray, List.set_cons_zero, List.set_cons_succ]
            refine wpAnyH_take (i := 3) (oi := { dst := some 68, op := Op.move (Operand.tmp 5), type := 27, pos := "law.go:234", after := #[], guard := none }) (v := ?_) rfl (by kernel_rfl) (by kernel_rfl) (by kernel_rfl) (fun _ _ _ h => h) (Or.inl ⟨by rfl, ?_⟩) (by assumption) ?_
            rotate_left
            · (intro wz hSw; subst hSw; go_simp; try with_reducible rfl)
            try simp only [Act.put, List.setIfInBounds_toArray, List.set_cons_zero, List.set_cons_succ]
            refine wpAnyH_take (i := 4) (oi := { dst := some 69, op := Op.load 3 (Operand.tmp 7), type := 3, pos := "law.go:234", after := #[], guard := none }) (v := ?_) rfl (by kernel_rfl) (by kernel_rfl) (by kernel_rfl) (fun _ _ _ h => h) (Or.inl ⟨by rfl, ?_⟩) (by assumption) ?_
            rotate_left
            · (intro wz hSw; subst hSw; go_simp; try with_reducible rfl)
            try simp only [Act.put, List.setIfInBounds_toArray, List.set_cons_zero, List.set_cons_succ]
            refine wpAnyH_take (i := 5) (oi := { dst := some 70, op := Op.lookup 27 (Operand.tmp 68) (Operand.tmp 69) false, type := 3, pos := "law.go:234", after := #[{ on := 3, ground := Ground.data }, { on := 4, ground := Ground.data }], guard := none }) (v := ?_) rfl (by kernel_rfl) (by kernel_rfl) (by kernel_rfl) (fun _ _ _ h => h) (Or.inl ⟨by rfl, ?_⟩) (by assumption) ?_
            rotate_left
            · (intro wz hSw; subst hSw; go_simp; try with_reducible rfl)
            try simp only [Act.put, List.setIfInBounds_toArray, List.set_cons_zero, List.set_cons_succ]
            refine wpAnyH_ready (rs := [2]) (by kernel_rfl) (by simp) ?_
            refine AllReadyH.cons (o := { dst := some 67, op := Op.call { callee := Callee.value (Operand.func 30), args := #[Operand.tmp 65, Operand.tmp 66], argTypes := #[54, 3] }, type := 3, pos := "law.go:234", after := #[{ on := 0, ground := Ground.data }, { on := 1, ground := Ground.data }], guard := none }) rfl (fun K hK => ?_) AllReadyH.nil
            go_simp
            refine HRf.out.mono ?_
            rintro e w' ⟨rfl, rfl⟩
            try go_wp2_with fail
            refine hK.out _ _ rfl (fun hHeld => ?_)
            clear hK K
            try simp only [Act.put, List.setIfInBounds_toArray, List.set_cons_zero, List.set_cons_succ]
            refine wpAnyH_take (i := 6) (oi := { dst := some 71, op := Op.binOp BinOp.neq 3 (Operand.tmp 67) (Operand.tmp 70) 3, type := 4, pos := "law.go:234", after := #[{ on := 2, ground := Ground.data }, { on := 5, ground := Ground.data }], guard := none }) (v := ?_) rfl (by kernel_rfl) (by kernel_rfl) (by kernel_rfl) (fun _ _ _ h => h) (Or.inl ⟨by rfl, ?_⟩) (by assumption) ?_
            rotate_left
            · (intro wz hSw; subst hSw; go_simp; try with_reducible rfl)
            try simp only [Act.put, List.setIfInBounds_toArray, List.set_cons_zero, List.set_cons_succ]
            refine wpAnyH_done (by kernel_rfl) ?_ _
            go_wp2_with fail
            go_roundw
            case rel => exact ⟨k + 1, _, rfl, by omega, by omega, vals_up HV.out (by omega), HA5.out.drew⟩
            case measure => simp [intOf]; omega
          · have hz1 : decide (v0 = 0) = false := decide_eq_false hz
            go_wp2_with (at_mapUpdate; (refine wpList_tab_put (T := (tblII Try.prog)) tblII_fine HSn.out HLL.out rfl _ _ _ rfl rfl T (v0 + 1) rfl rfl HM.out HWT.out HY.out ?_); (intro w5 hT5 hG5); (have HT5 := Lib.hid hT5); (have HG5 := Lib.hid hG5); clear hT5 hG5)
            have HA5 : Hid (AdAt b hx (hx + 1) (upF F T (some (v0 + 1))) (upF F T (some (v0 + 1))) w w5) := Lib.hid (AdAt.seen HC.out (by omega) H4.out.1 H4.out.2.1 HSn.out H4.out.2.2.1 H4.out.2.2.2 HT5.out HG5.out)
            have dh5 : w5.drew.cell? ⟨hx, 0, none⟩ = some (.pointer (some ⟨b.hb, 0, none⟩)) := HA5.out.bh.cell
            have d5 : w5.drew.cell? ⟨wr.heap.size, 0, none⟩ = some (.int .i64 T) := (HBx.out.1.keep HG5.out HBx.out.2).cell
            have hlk5 : (Instr.lookup 27 (.map (some (hx + 1))) (.int .i64 T) false).run Try.prog w5.drew = .ok (.int .i64 (v0 + 1)) w5.drew := by
              have := HA5.out.drew.sn.look1 tblII_fine T HWT.out
              rw [upF_same] at this
              exact this
            have HRf : Hid (Calls Try.prog 30 #[.pointer (some ⟨b.hb, 0, none⟩), .int .i64 T] w5.drew fun e w' => e = .returned (.int .i64 (v0 + 1)) ∧ w5.drew = w') := Lib.hid (by
              have := hRefs_any b (adS (upF F T (some (v0 + 1))) (upF F T (some (v0 + 1)))) T HWT.out w5.drew HA5.out.st.drew
              rw [show (adS (upF F T (some (v0 + 1))) (upF F T (some (v0 + 1)))).R T = some (v0 + 1) from upF_same _ _ _] at this
              exact this)
            clear hlk d4 fx4 H4 HSn HBx
            go_upto_region 20 with fail
            refine wp_region_held_drew (S := fun wx => wx = w5.drew) (by kernel_rfl) rfl (fun hHeld => ?_)
            refine wpAnyH_take (i := 0) (oi := { dst := some 65, op := Op.load 54 (Operand.tmp 4), type := 54, pos := "law.go:234", after := #[], guard := none }) (v := ?_) rfl (by kernel_rfl) (by kernel_rfl) (by kernel_rfl) (fun _ _ _ h => h) (Or.inl ⟨by rfl, ?_⟩) (by assumption) ?_
            rotate_left
            · (intro wz hSw; subst hSw; go_simp; try with_reducible rfl)
            try simp only [Act.put, List.setIfInBounds_toArray, List.set_cons_zero, List.set_cons_succ]
            refine wpAnyH_take (i := 1) (oi := { dst := some 66, op := Op.load 3 (Operand.tmp 7), type := 3, pos := "law.go:234", after := #[], guard := none }) (v := ?_) rfl (by kernel_rfl) (by kernel_rfl) (by kernel_rfl) (fun _ _ _ h => h) (Or.inl ⟨by rfl, ?_⟩) (by assumption) ?_
            rotate_left
            · (intro wz hSw; subst hSw; go_simp; try with_reducible rfl)
            try simp only [Act.put, List.setIfInBounds_toArray, List.set_cons_zero, List.set_cons_succ]
            refine wpAnyH_take (i := 3) (oi := { dst := some 68, op := Op.move (Operand.tmp 5), type := 27, pos := "law.go:234", after := #[], guard := none }) (v := ?_) rfl (by kernel_rfl) (by kernel_rfl) (by kernel_rfl) (fun _ _ _ h => h) (Or.inl ⟨by rfl, ?_⟩) (by assumption) ?_
            rotate_left
            · (intro wz hSw; subst hSw; go_simp; try with_reducible rfl)
            try simp only [Act.put, List.setIfInBounds_toArray, List.set_cons_zero, List.set_cons_succ]
            refine wpAnyH_take (i := 4) (oi := { dst := some 69, op := Op.load 3 (Operand.tmp 7), type := 3, pos := "law.go:234", after := #[], guard := none }) (v := ?_) rfl (by kernel_rfl) (by kernel_rfl) (by kernel_rfl) (fun _ _ _ h => h) (Or.inl ⟨by rfl, ?_⟩) (by assumption) ?_
            rotate_left
            · (intro wz hSw; subst hSw; go_simp; try with_reducible rfl)
            try simp only [Act.put, List.setIfInBounds_toArray, List.set_cons_zero, List.set_cons_succ]
            refine wpAnyH_take (i := 5) (oi := { dst := some 70, op := Op.lookup 27 (Operand.tmp 68) (Operand.tmp 69) false, type := 3, pos := "law.go:234", after := #[{ on := 3, ground := Ground.data }, { on := 4, ground := Ground.data }], guard := none }) (v := ?_) rfl (by kernel_rfl) (by kernel_rfl) (by kernel_rfl) (fun _ _ _ h => h) (Or.inl ⟨by rfl, ?_⟩) (by assumption) ?_
            rotate_left
            · (intro wz hSw; subst hSw; go_simp; try with_reducible rfl)
            try simp only [Act.put, List.setIfInBounds_toArray, List.set_cons_zero, List.set_cons_succ]
            refine wpAnyH_ready (rs := [2]) (by kernel_rfl) (by simp) ?_
            refine AllReadyH.cons (o := { dst := some 67, op := Op.call { callee := Callee.value (Operand.func 30), args := #[Operand.tmp 65, Operand.tmp 66], argTypes := #[54, 3] }, type := 3, pos := "law.go:234", after := #[{ on := 0, ground := Ground.data }, { on := 1, ground := Ground.data }], guard := none }) rfl (fun K hK => ?_) AllReadyH.nil
            go_simp
            refine HRf.out.mono ?_
            rintro e w' ⟨rfl, rfl⟩
            try go_wp2_with fail
            refine hK.out _ _ rfl (fun hHeld => ?_)
            clear hK K
            try simp only [Act.put, List.setIfInBounds_toArray, List.set_cons_zero, List.set_cons_succ]
            refine wpAnyH_take (i := 6) (oi := { dst := some 71, op := Op.binOp BinOp.neq 3 (Operand.tmp 67) (Operand.tmp 70) 3, type := 4, pos := "law.go:234", after := #[{ on := 2, ground := Ground.data }, { on := 5, ground := Ground.data }], guard := none }) (v := ?_) rfl (by kernel_rfl) (by kernel_rfl) (by kernel_rfl) (fun _ _ _ h => h) (Or.inl ⟨by rfl, ?_⟩) (by assumption) ?_
            rotate_left
            · (intro wz hSw; subst hSw; go_simp; try with_reducible rfl)
            try simp only [Act.put, List.setIfInBounds_toArray, List.set_cons_zero, List.set_cons_succ]
            refine wpAnyH_done (by kernel_rfl) ?_ _
            go_wp2_with fail
            go_roundw
            case rel => exact ⟨k + 1, _, rfl, by omega, by omega, vals_up HV.out (by omega), HA5.out.drew⟩
            case measure => simp [intOf]; omega
        · have b2 : raw % 14 < 2 ∨ 11 < raw % 14 := Or.inr b1
          have b3 : ¬ raw % 14 < 2 := by omega
          go_upto_region 13 with fail
          obtain ⟨W, hW⟩ : ∃ W, (wr.alloc (.cells #[.int .i64 (raw % 14)] 3)).alloc (.cells #[.bool false] 4) = W := ⟨_, rfl⟩
          have HG := Lib.hid (HA.out.out HC.out (raw % 14) b2 W hW)
          rw [hW]
          go_wp2_with fail
          refine HG.out.mono ?_
          rintro e w4 ⟨rfl, hat, d4⟩
          have HA4 := Lib.hid hat
          clear hat HG
          go_wp2_with fail
          go_roundw
          case rel => exact ⟨k + 1, F, rfl, by omega, by omega, fun T v e => by have := HV.out T v e; omega, HA4.out⟩
          case measure => simp [intOf]; omega
      · rcases (by omega : raw < 0 ∨ 40 ≤ raw) with b1 | b1
        · have b2 : raw < 2 ∨ 11 < raw := by omega
          have b3 : ¬ 0 ≤ raw := by omega
          have b4 : raw < 2 := by omega
          go_upto_region 13 with fail
          obtain ⟨W, hW⟩ : ∃ W, (wr.alloc (.cells #[.int .i64 (raw)] 3)).alloc (.cells #[.bool false] 4) = W := ⟨_, rfl⟩
          have HG := Lib.hid (HA.out.out HC.out (raw) b2 W hW)
          rw [hW]
          go_wp2_with fail
          refine HG.out.mono ?_
          rintro e w4 ⟨rfl, hat, d4⟩
          have HA4 := Lib.hid hat
          clear hat HG
          go_wp2_with fail
          go_roundw
          case rel => exact ⟨k + 1, F, rfl, by omega, by omega, fun T v e => by have := HV.out T v e; omega, HA4.out⟩
          case measure => simp [intOf]; omega
        · have b2 : raw < 2 ∨ 11 < raw := by omega
          have b3 : 0 ≤ raw := by omega
          have b4 : ¬ raw < 40 := by omega
          have b5 : ¬ raw < 2 := by omega
          have b6 : 11 < raw := by omega
          go_upto_region 13 with fail
          obtain ⟨W, hW⟩ : ∃ W, (wr.alloc (.cells #[.int .i64 (raw)] 3)).alloc (.cells #[.bool false] 4) = W := ⟨_, rfl⟩
          have HG := Lib.hid (HA.out.out HC.out (raw) b2 W hW)
          rw [hW]
          go_wp2_with fail
          refine HG.out.mono ?_
          rintro e w4 ⟨rfl, hat, d4⟩
          have HA4 := Lib.hid hat
          clear hat HG
          go_wp2_with fail
          go_roundw
          case rel => exact ⟨k + 1, F, rfl, by omega, by omega, fun T v e => by have := HV.out T v e; omega, HA4.out⟩
          case measure => simp [intOf]; omega
    · rcases (by omega : ¬ k < l ∨ (k < l ∧ ¬ k < 20)) with h1 | ⟨h1, h2⟩
      · have i1 : ¬ (k : Int) < (l : Int) := by omega
        obtain ⟨N, hN, hlen, hheld, hfree⟩ := HA.out.mid HC.out
        have HHe := Lib.hid hheld
        have HFr := Lib.hid hfree
        have hl1 := fun ty => hlen ty
        have hwr : IntKind.i64.wrap (10 - (N : Int)) = 10 - (N : Int) := IntWalk.i64_in _ (by omega)
        clear hlen hheld hfree
        go_wp2_with fail
        refine HHe.out.mono ?_
        rintro e w' ⟨rfl, rfl⟩
        go_wp2_with fail
        refine HFr.out.mono ?_
        rintro e w' ⟨rfl, rfl⟩
        go_wp2_with (at_range; (refine wpList_tab_rangeI rfl _ rfl rfl HA.out.sn ?_); (intro w5 cnt hr5 hg5); (have HR5 := Lib.hid hr5); (have HG5 := Lib.hid hg5); clear hr5 hg5)
        try go_frame
        have HA5 : Hid (AdAt b hx (hx + 1) F F w w5) := Lib.hid ⟨HA.out.st.keep HG5.out (fun _ _ e => e) fun _ _ _ e => e, HA.out.log.keep HG5.out (fun e => e) fun _ _ e => e, HA.out.sn.keep HG5.out fun e => e, HA.out.bh.keep HG5.out fun e => e, HG5.out.below HA.out.bel HA.out.bel.size fun _ e => e.elim⟩
        have HRn : Hid (¬ b.S0 wr.heap.size ∧ w.heap.size ≤ wr.heap.size ∧ wr.heap.size ≠ hx ∧ wr.heap.size ≠ hx + 1) := Lib.hid ⟨HB.not0 HC.out.ok HA.out.st.sz (Nat.le_refl _), HA.out.bel.size, fun e => by have := HA.out.bh.lt; omega, fun e => by have := HA.out.sn.lt; omega⟩
        clear dh hl1 hwr HG5 HHe HFr HA
        generalize wr.heap.size = r at *
        go_loopw [12] (fun _ wx => ∃ (G : Int → Option Int) (cnt : Nat), RngI (hx + 1) r F G cnt wx ∧ AdAt b hx (hx + 1) F G w wx ∧ ∀ T v, G T = some v → F T = some v) (fun _ wx => wx.rangeLeft (hx + 1) r)
        case atStart => exact ⟨F, cnt, HR5.out, HA5.out, fun _ _ e => e⟩
        case round =>
          obtain ⟨G, cnt1, hrg, hat, hsub⟩ := hrel
          have HRg := Lib.hid hrg
          have HA6 := Lib.hid hat
          have HSub := Lib.hid hsub
          have dh := hat.bh.cell
          clear hrg hat hsub HR5 HA5
          go_wp2_with (at_next; (refine wpList_tab_nextI rfl _ rfl rfl HRg.out ?_ ?_))
          · intro hnone
            obtain ⟨N2, hlen, hlate, hheld⟩ := HA6.out.last HC.out hnone
            have HLa := Lib.hid hlate
            have HHe := Lib.hid hheld
            have hl2 := fun ty => hlen ty
            clear hlen hlate hheld hnone
            go_wp2_with fail
            refine HLa.out.mono ?_
            rintro e w' ⟨rfl, rfl⟩
            go_wp2_with fail
            refine HHe.out.mono ?_
            rintro e w' ⟨rfl, rfl⟩
            go_wp2_with fail
            go_ret
            exact ⟨rfl, HA6.out.bel⟩
          · intro x v w7 cnt7 hFx hGx hwf hr7 hlt7 hg7 hen
            have hA7 : AdAt b hx (hx + 1) F G w w7 := by
              have hA := HA6.out
              refine ⟨hA.st.keep hg7 (fun i hi e => HRn.out.1 ⟨i, hi, e.symm⟩) (fun q _ hq e => ?_), hA.log.keep hg7 (fun e => HRn.out.1 ⟨1, by decide, e.symm⟩) (fun q hq _ => by cases hq), hA.sn.keep hg7 fun e => HRn.out.2.2.2 e.symm, hA.bh.keep hg7 fun e => HRn.out.2.2.1 e.symm, hg7.below hA.bel hA.bel.size fun q e => by rw [e]; exact HRn.out.2.1⟩
              obtain ⟨cc, fz, e1⟩ := hq
              obtain ⟨D, nn, lf, ⟨es', clock, since, seen, c0, _, _, _, _, e2, _⟩, _⟩ := HRg.out
              have e : q = r := e
              rw [e, e2] at e1
              cases e1
            have hvv := HV.out x v hFx
            obtain ⟨W, hW⟩ : ∃ W, (w7.alloc (.cells #[.int .i64 x] 3)).alloc (.cells #[.int .i64 v] 3) = W := ⟨_, rfl⟩
            have HTr := Lib.hid (hA7.try' HC.out x v hFx hGx HSub.out (by omega) r cnt7 HRn.out.1 hr7 W hW)
            have dh7 : W.cell? ⟨hx, 0, none⟩ = some (.pointer (some ⟨b.hb, 0, none⟩)) := by rw [← hW]; exact ((hA7.alloc _).alloc _).bh.cell
            have HLt := Lib.hid hlt7
            clear hA7 hFx hGx hwf hr7 hlt7 hg7 hvv dh
            go_wp2_with fail
            refine HTr.out.mono ?_
            rintro e w8 ⟨rfl, hat, hrg, hsub⟩
            have H8 := Lib.hid (And.intro hrg (And.intro hat hsub))
            clear hat hrg hsub HTr
            go_wp2_with fail
            go_roundw
            case rel => exact ⟨_, cnt7, H8.out⟩
            case measure => rw [H8.out.1.left, HRg.out.left]; exact HLt.out
      · have i1 : (k : Int) < (l : Int) := by omega
        have i2 : ¬ (k : Int) < 20 := by omega
        obtain ⟨N, hN, hlen, hheld, hfree⟩ := HA.out.mid HC.out
        have HHe := Lib.hid hheld
        have HFr := Lib.hid hfree
        have hl1 := fun ty => hlen ty
        have hwr : IntKind.i64.wrap (10 - (N : Int)) = 10 - (N : Int) := IntWalk.i64_in _ (by omega)
        clear hlen hheld hfree
        go_wp2_with fail
        refine HHe.out.mono ?_
        rintro e w' ⟨rfl, rfl⟩
        go_wp2_with fail
        refine HFr.out.mono ?_
        rintro e w' ⟨rfl, rfl⟩
        go_wp2_with (at_range; (refine wpList_tab_rangeI rfl _ rfl rfl HA.out.sn ?_); (intro w5 cnt hr5 hg5); (have HR5 := Lib.hid hr5); (have HG5 := Lib.hid hg5); clear hr5 hg5)
        try go_frame
        have HA5 : Hid (AdAt b hx (hx + 1) F F w w5) := Lib.hid ⟨HA.out.st.keep HG5.out (fun _ _ e => e) fun _ _ _ e => e, HA.out.log.keep HG5.out (fun e => e) fun _ _ e => e, HA.out.sn.keep HG5.out fun e => e, HA.out.bh.keep HG5.out fun e => e, HG5.out.below HA.out.bel HA.out.bel.size fun _ e => e.elim⟩
        have HRn : Hid (¬ b.S0 wr.heap.size ∧ w.heap.size ≤ wr.heap.size ∧ wr.heap.size ≠ hx ∧ wr.heap.size ≠ hx + 1) := Lib.hid ⟨HB.not0 HC.out.ok HA.out.st.sz (Nat.le_refl _), HA.out.bel.size, fun e => by have := HA.out.bh.lt; omega, fun e => by have := HA.out.sn.lt; omega⟩
        clear dh hl1 hwr HG5 HHe HFr HA
        generalize wr.heap.size = r at *
        go_loopw [12] (fun _ wx => ∃ (G : Int → Option Int) (cnt : Nat), RngI (hx + 1) r F G cnt wx ∧ AdAt b hx (hx + 1) F G w wx ∧ ∀ T v, G T = some v → F T = some v) (fun _ wx => wx.rangeLeft (hx + 1) r)
        case atStart => exact ⟨F, cnt, HR5.out, HA5.out, fun _ _ e => e⟩
        case round =>
          obtain ⟨G, cnt1, hrg, hat, hsub⟩ := hrel
          have HRg := Lib.hid hrg
          have HA6 := Lib.hid hat
          have HSub := Lib.hid hsub
          have dh := hat.bh.cell
          clear hrg hat hsub HR5 HA5
          go_wp2_with (at_next; (refine wpList_tab_nextI rfl _ rfl rfl HRg.out ?_ ?_))
          · intro hnone
            obtain ⟨N2, hlen, hlate, hheld⟩ := HA6.out.last HC.out hnone
            have HLa := Lib.hid hlate
            have HHe := Lib.hid hheld
            have hl2 := fun ty => hlen ty
            clear hlen hlate hheld hnone
            go_wp2_with fail
            refine HLa.out.mono ?_
            rintro e w' ⟨rfl, rfl⟩
            go_wp2_with fail
            refine HHe.out.mono ?_
            rintro e w' ⟨rfl, rfl⟩
            go_wp2_with fail
            go_ret
            exact ⟨rfl, HA6.out.bel⟩
          · intro x v w7 cnt7 hFx hGx hwf hr7 hlt7 hg7 hen
            have hA7 : AdAt b hx (hx + 1) F G w w7 := by
              have hA := HA6.out
              refine ⟨hA.st.keep hg7 (fun i hi e => HRn.out.1 ⟨i, hi, e.symm⟩) (fun q _ hq e => ?_), hA.log.keep hg7 (fun e => HRn.out.1 ⟨1, by decide, e.symm⟩) (fun q hq _ => by cases hq), hA.sn.keep hg7 fun e => HRn.out.2.2.2 e.symm, hA.bh.keep hg7 fun e => HRn.out.2.2.1 e.symm, hg7.below hA.bel hA.bel.size fun q e => by rw [e]; exact HRn.out.2.1⟩
              obtain ⟨cc, fz, e1⟩ := hq
              obtain ⟨D, nn, lf, ⟨es', clock, since, seen, c0, _, _, _, _, e2, _⟩, _⟩ := HRg.out
              have e : q = r := e
              rw [e, e2] at e1
              cases e1
            have hvv := HV.out x v hFx
            obtain ⟨W, hW⟩ : ∃ W, (w7.alloc (.cells #[.int .i64 x] 3)).alloc (.cells #[.int .i64 v] 3) = W := ⟨_, rfl⟩
            have HTr := Lib.hid (hA7.try' HC.out x v hFx hGx HSub.out (by omega) r cnt7 HRn.out.1 hr7 W hW)
            have dh7 : W.cell? ⟨hx, 0, none⟩ = some (.pointer (some ⟨b.hb, 0, none⟩)) := by rw [← hW]; exact ((hA7.alloc _).alloc _).bh.cell
            have HLt := Lib.hid hlt7
            clear hA7 hFx hGx hwf hr7 hlt7 hg7 hvv dh
            go_wp2_with fail
            refine HTr.out.mono ?_
            rintro e w8 ⟨rfl, hat, hrg, hsub⟩
            have H8 := Lib.hid (And.intro hrg (And.intro hat hsub))
            clear hat hrg hsub HTr
            go_wp2_with fail
            go_roundw
            case rel => exact ⟨_, cnt7, H8.out⟩
            case measure => rw [H8.out.1.left, HRg.out.left]; exact HLt.out
end Go.Proofs.Ytdeohkkpmjgaoaa
