/-
  The document's own disk: where it lies; its small calls blank, spend and Read: contracts.
-/
import Derived.Test.YtjggofbaipppbaaDiskSureMath
import Derived.Test.YtjggofbaipppbaaStampRef
import Derived.Laws.ResultCell
namespace Go.Proofs.Ytjggofbaipppbaa
open Go.RowKit

theorem blank_any (w : World) : Calls Try.prog 37 #[] w fun e w' => e = .returned (.string (tail0 ⟨#[]⟩ 64)) ∧ w = w' := by
  go_enter Try.func37, Try.ntmps37
  go_wp2_with fail
  go_loopw [1, 2] (fun s i wx => ∃ k : Nat, k ≤ 64 ∧ i = .int .i64 k ∧ s = .string (tail0 ⟨#[]⟩ k) ∧ wx = w) (fun _ i _ => 64 - (intOf i).toNat)
  case atStart => exact ⟨0, by omega, rfl, by rw [tail0_zero], rfl⟩
  case round =>
    obtain ⟨k, hk, rfl, rfl, rfl⟩ := hrel
    have HT := Lib.hid (tail0_succ ⟨#[]⟩ k)
    have hz : (tail0 ⟨#[]⟩ k).size = k := by rw [tail0_size]; show 0 + k = k; omega
    generalize hP : tail0 ⟨#[]⟩ k = P at *
    have HP := Lib.hid hP
    by_cases hlt : k < 64
    · have hi : (k : Int) < 64 := by omega
      have hc : ∀ wx : World, (Op.stringOp .add P ⟨#[0]⟩).run Try.prog wx = .ok (.string (P ++ ⟨#[0]⟩)) wx := fun wx => run_string_add_sum wx P _ (by show P.size + 1 ≤ _; omega)
      clear hz hP
      go_wp2_with fail
      go_roundw
      case rel => exact ⟨k + 1, by omega, by go_num, by rw [HT.out], trivial⟩
      case measure => simp [intOf]; omega
    · have hi : ¬ (k : Int) < 64 := by omega
      obtain rfl : k = 64 := by omega
      clear hz hP
      go_wp2_with fail
      go_ret
      exact ⟨by rw [HP.out]; rfl, rfl⟩
/-- a row of texts of 64 bytes each: nothing, or a row of the world -/
def TextsAt (w : World) (a : Option Addr) (n : Nat) (f : Nat → UInt8) : Prop :=
  n = 0 ∨ ∃ b, a = some ⟨b, 0, none⟩ ∧ ∀ i, i < n → w.cell? ⟨b, i, none⟩ = some (.string ⟨(sec f i).toArray⟩)
theorem TextsAt.below {w w' : World} {a : Option Addr} {n : Nat} {f : Nat → UInt8} (h : TextsAt w a n f) (k : Below w.heap.size w w') : TextsAt w' a n f := by
  rcases h with h | ⟨b, rfl, hr⟩
  · exact Or.inl h
  · exact Or.inr ⟨b, rfl, fun i hi => by rw [k.cell (cell_lt (hr i hi))]; exact hr i hi⟩
/-- the document's disk, as a value -/
structure RefM where
  sa : Option Addr
  na : Option Addr
  n : Nat
  sc : Nat
  nc : Nat
  S : Nat → UInt8
  T : Nat → UInt8
  left : Int
  dead : Bool
def RefM.cells (r : RefM) : Array Value := #[.slice r.sa r.n r.sc, .slice r.na r.n r.nc, .int .i64 r.left, .bool r.dead]
structure RefAt (r : RefM) (w : World) : Prop where
  s : TextsAt w r.sa r.n r.S
  t : TextsAt w r.na r.n r.T
  n : r.n ≤ 4096
  zs : r.sa = none → r.sc = 0
  zt : r.na = none → r.nc = 0
theorem RefAt.below {r : RefM} {w w' : World} (h : RefAt r w) (k : Below w.heap.size w w') : RefAt r w' := ⟨h.s.below k, h.t.below k, h.n, h.zs, h.zt⟩
theorem size_ref : (Try.prog.info? 28).map (·.size) = some 4 := by kernel_rfl
theorem results_pair {fn : Func} {p u : Tmp} {ty : TypeId} {P : Program} (h : fn.results = #[.cell p ty, .tmp u]) (tmps : Array Value) (w : World) (g : Nat) (t : TypeId) (cs : Array Value) (fr : Nat × Nat) (fs : Array Field)
    (hp : tmps.getD p undef = .pointer (some ⟨g, 0, none⟩)) (hg : w.heap[g]? = some (.cells cs t fr))
    (hu : P.underlying ty = some (.struct fs)) (hi : (P.info? ty).map (·.size) = some cs.size) :
    (results fn tmps).run P w = .ok (.tuple #[.agg cs, tmps.getD u undef]) w := by
  rw [results_cell_tmp h, hp]
  simp only [asAddr, Sem.run_pure, Result.andThen_ok, run_loadVar_row w g t ty cs fr _ hg hu rfl hi]
/-- four cells of a block, set one behind the other -/
theorem quad_set {w : World} {x : Nat} {t : TypeId} {a b c d : Value} (h : w.heap[x]? = some (.cells #[a, b, c, d] t)) (a' b' c' d' : Value) :
    ((((w.setCell ⟨x, 0, none⟩ a').setCell ⟨x, 1, none⟩ b').setCell ⟨x, 2, none⟩ c').setCell ⟨x, 3, none⟩ d').heap[x]? = some (.cells #[a', b', c', d'] t) := by
  simp [World.setCell, Array.getElem?_modify, h]
theorem two_below (w : World) (o1 o2 : Obj) : Below w.heap.size w ((w.alloc o1).alloc o2) := ((Below.refl _ _).alloc (Nat.le_refl _) _).alloc (by simp) _
/-- one call less -/
inductive RefSpent (r : RefM) : Int → RefM → Prop
  | cut : r.dead = true → RefSpent r 12 r
  | dies : r.dead = false → r.left = 0 → RefSpent r 12 { r with dead := true }
  | armed : r.dead = false → 0 < r.left → RefSpent r 0 { r with left := r.left - 1 }
  | free : r.dead = false → r.left < 0 → RefSpent r 0 r
set_option maxHeartbeats 1000000 in
theorem refSpend_any (r : RefM) (w : World) (hl : r.left ≤ 2 ^ 62) :
    Calls Try.prog 63 #[.agg r.cells] w fun e w' => ∃ o r', e = .returned (.tuple #[.agg r'.cells, .int .i64 o]) ∧ RefSpent r o r' ∧ r'.sa = r.sa ∧ r'.na = r.na ∧ r'.n = r.n ∧ r'.sc = r.sc ∧ r'.nc = r.nc ∧ r'.S = r.S ∧ r'.T = r.T ∧ Below w.heap.size w w' := by
  obtain ⟨sa, na, n, sc, nc, S, T, l, d⟩ := r
  simp only at hl
  cases d with
  | true =>
    have e1 : (⟨sa, na, n, sc, nc, S, T, l, true⟩ : RefM).cells = #[.slice sa n sc, .slice na n nc, .int .i64 l, .bool true] := rfl
    rw [e1]
    go_enter Try.func63, Try.ntmps63
    go_wp2_with fail
    refine bodyPost_ret (results_pair rfl _ _ (w.heap.size + 1) _ _ _ _ rfl (heap_alloc2_new w _ _) Try.underlying28 size_ref) rfl ?_
    exact ⟨12, ⟨sa, na, n, sc, nc, S, T, l, true⟩, rfl, .cut rfl, rfl, rfl, rfl, rfl, rfl, rfl, rfl, two_below _ _ _⟩
  | false =>
    have e1 : (⟨sa, na, n, sc, nc, S, T, l, false⟩ : RefM).cells = #[.slice sa n sc, .slice na n nc, .int .i64 l, .bool false] := rfl
    rw [e1]
    by_cases h0 : l = 0
    · subst h0
      go_enter Try.func63, Try.ntmps63
      go_wp2_with fail
      refine bodyPost_ret (results_pair rfl _ _ (w.heap.size + 1) _ _ _ _ rfl (heap_alloc2_new w _ _) Try.underlying28 size_ref) rfl ?_
      exact ⟨12, ⟨sa, na, n, sc, nc, S, T, 0, true⟩, rfl, .dies rfl rfl, rfl, rfl, rfl, rfl, rfl, rfl, rfl, two_below _ _ _⟩
    · have h1 : (l == 0) = false := by rw [beq_eq_false_iff_ne]; exact h0
      by_cases hp : 0 < l
      · have hw : IntKind.i64.wrap (l - 1) = l - 1 := IntWalk.i64_in _ (by omega)
        go_enter Try.func63, Try.ntmps63
        go_wp2_with fail
        refine bodyPost_ret (results_pair rfl _ _ (w.heap.size + 1) _ _ _ _ rfl (heap_alloc2_new w _ _) Try.underlying28 size_ref) rfl ?_
        exact ⟨0, ⟨sa, na, n, sc, nc, S, T, l - 1, false⟩, rfl, .armed rfl hp, rfl, rfl, rfl, rfl, rfl, rfl, rfl, two_below _ _ _⟩
      · go_enter Try.func63, Try.ntmps63
        go_wp2_with fail
        refine bodyPost_ret (results_pair rfl _ _ (w.heap.size + 1) _ _ _ _ rfl (heap_alloc2_new w _ _) Try.underlying28 size_ref) rfl ?_
        exact ⟨0, ⟨sa, na, n, sc, nc, S, T, l, false⟩, rfl, .free rfl (by show l < 0; omega), rfl, rfl, rfl, rfl, rfl, rfl, rfl, two_below _ _ _⟩
/-- a sector, the error's number -/
inductive RefRead (r : RefM) (at' : Int) : Int → ByteArray → Prop
  | cut : r.dead = true → RefRead r at' 12 ⟨#[]⟩
  | range : r.dead = false → (at' < 0 ∨ r.n ≤ at') → RefRead r at' 6 ⟨#[]⟩
  | works (k : Nat) : r.dead = false → at' = k → k < r.n → RefRead r at' 0 ⟨(sec r.T k).toArray⟩
set_option maxHeartbeats 1000000 in
theorem refRead_any (r : RefM) (at' : Int) (w : World) (h : RefAt r w) :
    Calls Try.prog 39 #[.agg r.cells, .int .i64 at'] w fun e w' => ∃ o s, e = .returned (.tuple #[.string s, .int .i64 o]) ∧ RefRead r at' o s ∧ Below w.heap.size w w' := by
  obtain ⟨sa, na, n, sc, nc, S, T, l, d⟩ := r
  have e1 : (⟨sa, na, n, sc, nc, S, T, l, d⟩ : RefM).cells = #[.slice sa n sc, .slice na n nc, .int .i64 l, .bool d] := rfl
  rw [e1]
  have ht := h.t
  simp only at ht
  have hn := h.n
  simp only at hn
  clear h
  cases d with
  | true =>
    clear ht
    go_enter Try.func39, Try.ntmps39
    go_wp2_with fail
    go_ret2
    exact ⟨12, _, rfl, .cut rfl, (Below.refl _ _).alloc (Nat.le_refl _) _⟩
  | false =>
    by_cases hlo : at' < 0
    · clear ht
      go_enter Try.func39, Try.ntmps39
      go_wp2_with fail
      go_ret2
      exact ⟨6, _, rfl, .range rfl (Or.inl hlo), (Below.refl _ _).alloc (Nat.le_refl _) _⟩
    · by_cases hhi : (n : Int) ≤ at'
      · clear ht
        go_enter Try.func39, Try.ntmps39
        go_wp2_with fail
        go_ret2
        exact ⟨6, _, rfl, .range rfl (Or.inr hhi), (Below.refl _ _).alloc (Nat.le_refl _) _⟩
      · obtain ⟨k, rfl⟩ := Int.eq_ofNat_of_zero_le (Int.not_lt.1 hlo)
        rcases ht with h0 | ⟨b, rfl, hr⟩
        · omega
        have hk : k < n := by omega
        have hc := hr k hk
        have hcl : (w.alloc (.cells #[.slice sa n sc, .slice (some ⟨b, 0, none⟩) n nc, .int .i64 l, .bool false] 28)).cell? ⟨b, k, none⟩ = some (.string ⟨(sec T k).toArray⟩) := by rw [World.cell?_alloc_past (hn := cell_lt hc)]; exact hc
        obtain ⟨R, hR⟩ : ∃ R : ByteArray, ⟨(sec T k).toArray⟩ = R := ⟨_, rfl⟩
        rw [hR] at hcl
        have HR := Lib.hid hR
        clear hr hc hR
        go_enter Try.func39, Try.ntmps39
        go_wp2_with fail
        go_ret2
        exact ⟨0, R, rfl, by rw [← HR.out]; exact .works k rfl rfl hk, (Below.refl _ _).alloc (Nat.le_refl _) _⟩
end Go.Proofs.Ytjggofbaipppbaa
