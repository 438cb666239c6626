/-
  Texts put together: GrantsAll, CatDown, CatSpoil, CatSpoil3.
-/
import Derived.Test.YtjjmapmombhmlaaHeapFn
import Derived.Test.YtjjmapmombhmlaaCatLws
import Derived.Test.YtjjmapmombhmlaaCatAwakes
import Derived.Deep.RegionWith
/-
  All: those that are held, rising: contract.
-/
namespace Go.Proofs.Ytjjmapmombhmlaa
open Go.RowKit Go.Maps Go.ChangeMaps Go.WideShapes

/-- those that are held among the first ones -/
def allL (f : Nat) (S : Nat → Nat) : Nat → List Value
  | 0 => []
  | j + 1 => if S j = 1 then allL f S j ++ [.int .i64 ((f : Int) + (j : Int))] else allL f S j
set_option maxRecDepth 10000 in
set_option maxHeartbeats 1000000 in
theorem all_any (m g f n : Nat) (S : Nat → Nat) (w : World) (h : MapAt m g f n S w) (hf : f ≤ 4096) (hn : n ≤ 4096) :
    Calls Try.prog 95 #[.pointer (some ⟨m, 0, none⟩)] w fun e w' => (∃ a c, e = .returned (.slice a (cnt S 1 n) c) ∧ w'.ownsRow w.heap.size 3 1 (.slice a (cnt S 1 n) c) (cnt S 1 n) (allL f S n)) ∧ Below w.heap.size w w' := by
  have c1 := h.c1
  have H := Lib.hid h
  clear h
  go_enter Try.func95, Try.ntmps95
  obtain ⟨i0, hi, hz0, hz1, hz2⟩ := info_parts infoInt
  have HI0 := Lib.hid hi
  have HI1 := Lib.hid hz0
  have HI2 := Lib.hid hz1
  have HI3 := Lib.hid hz2
  clear hi hz0 hz1 hz2
  go_wp2_with fail
  go_loopw [3, 11] (fun v i wx => ∃ j : Nat, j ≤ n ∧ i = .int .i64 j ∧ wx.ownsRow w.heap.size 3 1 v (cnt S 1 j) (allL f S j) ∧ Below w.heap.size w wx) (fun _ i _ => n - (intOf i).toNat)
  case atStart => exact ⟨0, by omega, rfl, by simp [World.ownsRow, cnt, allL], Below.refl _ _⟩
  case round =>
    obtain ⟨j, hj, rfl, hown, hB⟩ := hrel
    have HO := Lib.hid hown
    have HB := Lib.hid hB
    clear hown hB
    by_cases hlt : j < n
    · have hi1 : (j : Int) < (n : Int) := by omega
      have hi0 : (0 : Int) ≤ (j : Int) := by omega
      have hcell := (H.out.below HB.out).row.cell hlt
      have hc0 := (H.out.below HB.out).c0
      have hc2 := cnt_le S 1 j
      have e9 : IntKind.i64.wrap ((f : Int) + (j : Int)) = (f : Int) + (j : Int) := IntWalk.i64_in _ (by omega)
      by_cases e : S j = 1
      · have HAl : Hid (allL f S (j + 1) = allL f S j ++ [.int .i64 ((f : Int) + (j : Int))]) := Lib.hid (if_pos e)
        have HC : Hid (cnt S 1 (j + 1) = cnt S 1 j + 1) := Lib.hid (by show cnt S 1 j + _ = _; rw [if_pos e])
        have e2 : ((S j : Nat) : Int) = 1 := by omega
        generalize cnt S 1 j = c at *
        generalize allL f S j = xs at *
        go_wp2_with (at_builtin; refine wpList_append_own _ rfl _ _ 40 rfl w.heap.size 3 i0 (.int .i64 0) 1 8 Try.underlying40 HI0.out HI1.out HI2.out HI3.out rfl (by decide) _ _ _ rfl (HO.out.alloc _) ⟨wr.heap.size, 0, none⟩ 1 1 [.int .i64 ((f : Int) + (j : Int))] rfl rfl ?c1 ?c2 ?c3 ?c4 ?c5 ?_)
        case c1 => exact news_one wr _ _
        case c2 => first | rfl | (intro u hu; simp at hu; subst hu; rfl)
        case c3 => first | omega | (unfold maxLen; omega)
        case c4 => omega
        case c5 => have := HB.out.size; first | omega | (simp; omega)
        · intro v' w1 hown' hgrow _
          have HO1 := Lib.hid hown'
          have HB1 := Lib.hid ((HB.out.alloc HB.out.size (.cells #[.int .i64 ((f : Int) + (j : Int))] 3)).grown hgrow (by have := HB.out.size; simp; omega) (rowOwn HO.out).1)
          clear hown' hgrow
          go_wp2
          go_roundw
          case rel => exact ⟨j + 1, by omega, by go_num, by rw [HC.out, HAl.out]; exact HO1.out, HB1.out⟩
          case measure => simp [intOf]; omega
      · have HAl : Hid (allL f S (j + 1) = allL f S j) := Lib.hid (if_neg e)
        have HC : Hid (cnt S 1 (j + 1) = cnt S 1 j) := Lib.hid (by show cnt S 1 j + _ = _; rw [if_neg e]; rfl)
        have e2 : ¬ ((S j : Nat) : Int) = 1 := by omega
        generalize cnt S 1 j = c at *
        generalize S j = q at *
        have e3 : ((q : Int) == 1) = false := by rw [beq_eq_false_iff_ne]; exact e2
        go_wp2_with fail
        go_roundw
        case rel => exact ⟨j + 1, by omega, by go_num, by rw [HC.out, HAl.out]; exact HO.out, HB.out⟩
        case measure => simp [intOf]; omega
    · obtain rfl : j = n := by omega
      have hi1 : ¬ (j : Int) < (j : Int) := by omega
      obtain ⟨_, a, c, rfl⟩ := rowOwn HO.out
      go_wp2_with fail
      go_ret
      exact ⟨⟨a, c, rfl, HO.out⟩, HB.out⟩
theorem hAll_any (b : HB) (ok : b.ok) (s : HS) (w : World) (h : HeapI b s w) : Calls Try.prog 48 #[.pointer (some ⟨b.hb, 0, none⟩)] w fun e w' => (∃ a c, e = .returned (.slice a (cnt s.S 1 b.n) c) ∧ w'.ownsRow w.heap.size 3 1 (.slice a (cnt s.S 1 b.n) c) (cnt s.S 1 b.n) (allL b.f s.S b.n)) ∧ Below w.heap.size w w' := by
  have HH := Lib.hid (all_any b.m b.q b.f b.n s.S w h.gr (Nat.le_trans ok.f (by decide)) (Nat.le_trans ok.n (by decide)))
  have c2 := h.c2
  generalize cnt s.S 1 b.n = x at *
  generalize allL b.f s.S b.n = xs at *
  clear h
  go_enter Try.func48, Try.ntmps48
  go_wp2_with fail
  refine HH.out.mono ?_
  rintro e w' ⟨⟨a, c, rfl, ho⟩, hb⟩
  have HX := Lib.hid (And.intro ho hb)
  clear ho hb
  go_wp2_with fail
  go_ret
  exact ⟨⟨a, c, rfl, HX.out.1⟩, HX.out.2⟩
/-- the first k are held -/
theorem all_first (f : Nat) (S : Nat → Nat) (k : Nat) : ∀ j, (∀ i, i < j → S i = if i < k then 1 else 0) → cnt S 1 j = min j k ∧ ∀ m, m < min j k → (allL f S j)[m]? = some (.int .i64 ((f : Int) + (m : Int))) ∧ (allL f S j).length = min j k
  | 0, _ => ⟨by simp [cnt], fun m hm => absurd hm (by simp)⟩
  | j + 1, h => by
    obtain ⟨i1, i2⟩ := all_first f S k j fun i hi => h i (by omega)
    have hl : (allL f S j).length = min j k := by
      rcases Nat.eq_zero_or_pos (min j k) with q | q
      · have : ∀ j, (∀ i, i < j → S i = if i < k then 1 else 0) → (allL f S j).length = cnt S 1 j := fun j => by
          induction j with
          | zero => intro _; rfl
          | succ j ih =>
            intro h
            have a := ih fun i hi => h i (by omega)
            show (if S j = 1 then _ else _ : List Value).length = cnt S 1 j + _
            by_cases e : S j = 1
            · rw [if_pos e, if_pos e, List.length_append, a]; rfl
            · rw [if_neg e, if_neg e, a]; rfl
        rw [this j fun i hi => h i (by omega), i1]
      · exact (i2 0 q).2
    have hj := h j (by omega)
    by_cases e : j < k
    · rw [if_pos e] at hj
      have hm1 : min j k = j := by omega
      have hm2 : min (j + 1) k = j + 1 := by omega
      have ha : allL f S (j + 1) = allL f S j ++ [.int .i64 ((f : Int) + (j : Int))] := if_pos hj
      rw [ha, hm2]
      rw [hm1] at i1 i2 hl
      refine ⟨by show cnt S 1 j + _ = _; rw [if_pos hj, i1], fun m hm => ⟨?_, by rw [List.length_append, hl]; rfl⟩⟩
      by_cases q : m < j
      · rw [List.getElem?_append_left (by omega)]
        exact (i2 m q).1
      · obtain rfl : m = j := by omega
        rw [List.getElem?_append_right (by omega), hl, Nat.sub_self]
        rfl
    · rw [if_neg e] at hj
      have hm2 : min (j + 1) k = min j k := by omega
      have ha : allL f S (j + 1) = allL f S j := if_neg (by omega)
      rw [ha, hm2]
      refine ⟨by show cnt S 1 j + _ = _; rw [if_neg (by omega), i1]; rfl, i2⟩
end Go.Proofs.Ytjjmapmombhmlaa

/-
  What Save leaves on a disk of its own, and what catalog.Adopt makes of it: the mathematics.
-/
namespace Go.Proofs.Ytjjmapmombhmlaa
open Go.RowKit Go.Maps Go.ChangeMaps Go.WideShapes

/-- where an entry leads: to the one that was put ahead of it -/
def downNx (f k : Nat) : Nat := if k = 0 then 0 else f + (k - 1)
theorem puts_chain {b : HB} {s1 : HS} {pre : List EX} {hd : Nat} {U : Nat → UInt8} (h : Puts b HS.new pre s1 hd U) : (∀ i, i < b.n → s1.S i = if i < pre.length then 1 else 0) ∧ hd = downNx b.f pre.length ∧ pre.length ≤ b.n ∧ (∀ k x, pre[k]? = some x → secB U (b.f + k) = entB x.1.2 (downNx b.f k)) := by
  induction h with
  | nil => exact ⟨fun i hi => by rw [if_neg (by simp)]; rfl, rfl, Nat.zero_le _, fun k x hx => by simp at hx⟩
  | @snoc pre s0 h0 j U x hp hj hs hmin ih =>
    obtain ⟨i1, rfl, i3, i4⟩ := ih
    have hjk : j = pre.length := by
      have h1 := i1 j hj
      rw [hs] at h1
      have h2 : ¬ j < pre.length := fun q => by rw [if_pos q] at h1; cases h1
      rcases Nat.lt_or_ge pre.length j with q | q
      · have h3 := i1 pre.length (by omega)
        rw [if_neg (Nat.lt_irrefl _)] at h3
        exact absurd h3 (hmin _ q)
      · omega
    subst hjk
    rw [List.length_append, List.length_singleton]
    refine ⟨fun i hi => ?_, ?_, by omega, fun k y hy => ?_⟩
    · show upd s0.S pre.length 1 i = _
      unfold upd
      by_cases e : i = pre.length
      · rw [if_pos e, if_pos (by omega)]
      · rw [if_neg e, i1 i hi]
        by_cases q : i < pre.length
        · rw [if_pos q, if_pos (by omega)]
        · rw [if_neg q, if_neg (by omega)]
    · unfold downNx
      rw [if_neg (by omega)]
      rfl
    · by_cases e : k = pre.length
      · subst e
        rw [List.getElem?_append_right (Nat.le_refl _), Nat.sub_self] at hy
        cases hy
        exact wroteT_same _ _ _ (entB_size _ _)
      · have hk : k < pre.length := by
          have := (List.getElem?_eq_some_iff.1 hy).1
          rw [List.length_append, List.length_singleton] at this
          omega
        rw [List.getElem?_append_left hk] at hy
        rw [wroteT_other _ _ _ _ (by omega)]
        exact i4 k y hy
/-- those that are held when i were read, from the last one put on -/
def heldDn (n i : Nat) : List Nat := ((List.range i).map fun t => n - 1 - t).reverse
theorem heldDn_succ (n i : Nat) : heldDn n (i + 1) = (n - 1 - i) :: heldDn n i := by
  unfold heldDn
  rw [List.range_succ, List.map_append, List.reverse_append]
  rfl
theorem heldDn_mem (n i x : Nat) (hi : i ≤ n) : x ∈ heldDn n i ↔ (n - i ≤ x ∧ x < n) := by
  unfold heldDn
  rw [List.mem_reverse, List.mem_map]
  constructor
  · rintro ⟨t, ht, rfl⟩
    have := List.mem_range.1 ht
    omega
  · rintro ⟨h1, h2⟩
    exact ⟨n - 1 - x, List.mem_range.2 (by omega), by omega⟩
/-- where the i-th lies -/
def atDn (f n i : Nat) : Nat := if i < n then f + (n - 1 - i) else 0
section
variable {b : HB} {V : Nat → UInt8} {e : Nat → EN} {n : Nat}
theorem vis_dn (hnb : n ≤ b.n) {i : Nat} (hi : i < n) : visE b V (heldDn n i) (entsTo e i) (b.f + (n - 1 - i)) = match catE (secB V (b.f + (n - 1 - i))) with
    | some k => some k
    | none => if 0 < i ∧ (gotEN (secB V (b.f + (n - 1 - i)))).id ≤ (e (i - 1)).id then some 1 else none := by
  unfold visE
  rw [if_neg (by omega), if_neg (by rw [heldDn_mem n i _ (by omega)]; omega)]
  cases catE (secB V (b.f + (n - 1 - i))) with
  | some k => rfl
  | none =>
    have : (∃ x, (entsTo e i).getLast? = some x ∧ (gotEN (secB V (b.f + (n - 1 - i)))).id ≤ x.id) ↔ (0 < i ∧ (gotEN (secB V (b.f + (n - 1 - i)))).id ≤ (e (i - 1)).id) := by
      cases i with
      | zero =>
        constructor
        · rintro ⟨x, h, _⟩
          cases h
        · rintro ⟨h, _⟩
          exact absurd h (Nat.lt_irrefl 0)
      | succ m =>
        rw [entsTo_last]
        constructor
        · rintro ⟨x, h, h2⟩
          cases h
          exact ⟨by omega, h2⟩
        · rintro ⟨_, h2⟩
          exact ⟨_, rfl, h2⟩
    by_cases h : 0 < i ∧ (gotEN (secB V (b.f + (n - 1 - i)))).id ≤ (e (i - 1)).id
    · exact (if_pos (this.2 h)).trans (if_pos h).symm
    · exact (if_neg fun q => h (this.1 q)).trans (if_neg h).symm
/-- an entry that is as it was put -/
def OwnAt (b : HB) (V : Nat → UInt8) (e : Nat → EN) (n i : Nat) : Prop := secB V (b.f + (n - 1 - i)) = entB (e i) (downNx b.f (n - 1 - i))
/-- entries that rise and may be -/
structure Rising (b : HB) (e : Nat → EN) (n : Nat) : Prop where
  f : 1 ≤ b.f
  lt : b.f + b.n ≤ 65536
  nb : n ≤ b.n
  fit : ∀ i, (e i).fits
  ok : ∀ i, i < n → ¬ badO (e i)
  up : ∀ i, i + 1 < n → (e i).id < (e (i + 1)).id
theorem step_dn (r : Rising b e n) {i : Nat} (hi : i < n) (ho : OwnAt b V e n i) : visE b V (heldDn n i) (entsTo e i) (b.f + (n - 1 - i)) = none ∧ gotEN (secB V (b.f + (n - 1 - i))) = e i ∧ gotNx (secB V (b.f + (n - 1 - i))) = downNx b.f (n - 1 - i) := by
  have hn := r.nb
  have hl := r.lt
  have hf := r.f
  have hnx : downNx b.f (n - 1 - i) < 65536 := by unfold downNx; split <;> omega
  have hE := entB_catE (e i) (r.fit i) _ hnx
  obtain ⟨hG, hN⟩ := entB_got (e i) (r.fit i) _ hnx
  rw [if_neg (r.ok i hi)] at hE hG hN
  rw [vis_dn hn hi]
  unfold OwnAt at ho
  rw [ho]
  generalize entB (e i) (downNx b.f (n - 1 - i)) = t at *
  rw [hE, hG, hN]
  refine ⟨if_neg ?_, rfl, rfl⟩
  rintro ⟨h0, h1⟩
  have := r.up (i - 1) (by omega)
  rw [show i - 1 + 1 = i by omega] at this
  omega
theorem run_dn (r : Rising b e n) (N : Nat) (hN : n < N) : ∀ i, i ≤ n → (∀ k, k < i → OwnAt b V e n k) → adRun b V N [] [] (atDn b.f n 0) = adRun b V (N - i) (heldDn n i) (entsTo e i) (atDn b.f n i)
  | 0, _, _ => rfl
  | i + 1, h, ho => by
    rw [run_dn r N hN i (by omega) fun k hk => ho k (by omega)]
    obtain ⟨q, hq⟩ : ∃ q, N - i = q + 1 := ⟨N - i - 1, by omega⟩
    have hf := r.f
    rw [hq, show N - (i + 1) = q by omega]
    have hat : atDn b.f n i = b.f + (n - 1 - i) := by unfold atDn; rw [if_pos (by omega)]
    obtain ⟨v1, v2, v3⟩ := step_dn r (V := V) (i := i) (by omega) (ho i (by omega))
    rw [hat, adRun_next (by omega) v1, v2, v3, show b.f + (n - 1 - i) - b.f = n - 1 - i by omega, ← heldDn_succ, ← entsTo_succ]
    have hx : downNx b.f (n - 1 - i) = atDn b.f n (i + 1) := by
      unfold downNx atDn
      by_cases q : i + 1 < n
      · rw [if_pos q, if_neg (by omega)]
        congr 1
      · rw [if_neg q, if_pos (by omega)]
    rw [hx]
/-- all are as they were put -/
theorem all_dn (r : Rising b e n) (N : Nat) (hN : n < N) (ho : ∀ k, k < n → OwnAt b V e n k) : adRun b V N [] [] (atDn b.f n 0) = (none, entsTo e n) := by
  rw [run_dn r N hN n (Nat.le_refl _) ho]
  obtain ⟨q, hq⟩ : ∃ q, N - n = q + 1 := ⟨N - n - 1, by omega⟩
  have hat : atDn b.f n n = 0 := by unfold atDn; rw [if_neg (Nat.lt_irrefl _)]
  rw [hq, hat, adRun_end]
/-- one isn't -/
theorem bad_dn (r : Rising b e n) (N : Nat) (hN : n < N) (i : Nat) (hi : i < n) (ho : ∀ k, k < i → OwnAt b V e n k) (k : Int) (hb : catE (secB V (b.f + (n - 1 - i))) = some k) : (adRun b V N [] [] (atDn b.f n 0)).1 = some k := by
  rw [run_dn r N hN i (by omega) ho]
  obtain ⟨q, hq⟩ : ∃ q, N - i = q + 1 := ⟨N - i - 1, by omega⟩
  have hf := r.f
  have hat : atDn b.f n i = b.f + (n - 1 - i) := by unfold atDn; rw [if_pos hi]
  have hv := vis_dn (V := V) (e := e) r.nb hi
  rw [hb] at hv
  rw [hq, hat, adRun_bad (by omega) hv]
end
end Go.Proofs.Ytjjmapmombhmlaa

/-
  What CatalogSpoilt runs: its Try, its Guards: contracts.
-/
namespace Go.Proofs.Ytjjmapmombhmlaa
open Go.RowKit Go.Maps Go.ChangeMaps Go.WideShapes
/-- an entry and its place -/
def exOf (e : Nat → EN) (hf : ∀ i, (e i).fits) (i : Nat) : EX := ⟨((i : Int), e i), hf i⟩
section
variable {b : HB} {w w' : World}
set_option maxRecDepth 100000 in
/-- what its Try runs: Save -/
theorem spC1_any (ok : b.ok) (hf : 1 ≤ b.f) (hn : 12 ≤ b.n) (e : Nat → EN) (hfit : ∀ i, (e i).fits) (len cap : Nat) (hlen : len ≤ 12) (rb xh xl xa : Nat) (h : InL b HS.new 1 [] 0 w) (bh : Box xh 43 (.pointer (some ⟨b.hb, 0, none⟩)) w) (bl : Box xl 55 (.slice (some ⟨rb, 0, none⟩) len cap) w) (ba : Box xa 3 (.int .i64 0) w) (sa : ¬ b.S0 xa) (hrb : Plain b.S0 w rb) (hc : ∀ j, j < len → EntCells rb (0 + j * 6) (e j) w) :
    Calls Try.prog 47 #[.pointer (some ⟨xh, 0, none⟩), .pointer (some ⟨xl, 0, none⟩), .pointer (some ⟨xa, 0, none⟩)] w fun e' w' => e' = .returned (.tuple #[]) ∧ ∃ s1 hd U, Puts b HS.new (bkTo (exOf e hfit) len 0) s1 hd U ∧ InL (b.at U) s1 1 [] (0 + 3 * len) w' ∧ s1.G = [] ∧ Box xa 3 (.int .i64 (hd : Nat)) w' ∧ Grew (fun q => Mut b.B b.S0 w q ∨ q = xa) w w' := by
  have d1 := bh.cell
  have d2 := bl.cell
  have hcnt : ∀ n : Nat, cnt HS.new.S 0 n = n := fun n => by
    induction n with
    | zero => rfl
    | succ n ih => show cnt HS.new.S 0 n + _ = _; rw [ih]; rfl
  have HSv := Lib.hid (save_any (b := b) (s := HS.new) (dp := 1) (n := 0) (f0 := []) (w := w) ok hf rfl (by decide) rb 0 len cap (some ⟨rb, 0, none⟩) (by rw [hcnt]; show (0 : Int) + _ ≤ _; omega) (by omega) (fun _ => rfl) (exOf e hfit) (fun _ => rfl) (by decide) (by decide) h hrb hc)
  have HE : Hid (∀ w' s1 hd U, Puts b HS.new (bkTo (exOf e hfit) len 0) s1 hd U → InL (b.at U) s1 1 [] (0 + 3 * len) w' → Grew (Mut b.B b.S0 w) w w' → Box xa 3 (.int .i64 0) w' ∧ (∃ s1 hd' U, Puts b HS.new (bkTo (exOf e hfit) len 0) s1 hd' U ∧ InL (b.at U) s1 1 [] (0 + 3 * len) (w'.setCell ⟨xa, 0, none⟩ (.int .i64 (hd : Nat))) ∧ s1.G = [] ∧ Box xa 3 (.int .i64 (hd' : Nat)) (w'.setCell ⟨xa, 0, none⟩ (.int .i64 (hd : Nat))) ∧ Grew (fun q => Mut b.B b.S0 w q ∨ q = xa) w (w'.setCell ⟨xa, 0, none⟩ (.int .i64 (hd : Nat))))) := Lib.hid fun w' s1 hd U hp hi hg => by
    have hG : s1.G = [] := hp.same.2.1
    have kk := Kept.of hg
    have b1 : Box xa 3 (.int .i64 0) w' := (kk _ (Box.pl ba sa (by decide) (by decide))).trans ba
    exact ⟨b1, s1, hd, U, hp, hi.box hG b1 (by decide) sa, hG, b1.set _, (hg.mono fun _ _ e => Or.inl e).setCell _ _ fun _ => Or.inr rfl⟩
  clear h bh bl ba sa hrb hc hf hn hlen hcnt
  go_enter Try.func47, Try.ntmps47
  go_wp2_with fail
  refine HSv.out.mono ?_
  rintro e w1 ⟨s1, hd, U, rfl, hp, hi, hg⟩
  obtain ⟨b1, hx⟩ := HE.out w1 s1 hd U hp hi hg
  have d3 := b1.cell
  have d4 := b1.free
  have HX := Lib.hid hx
  clear hp hi hg hx HE HSv b1
  go_wp2_with fail
  go_end0
  exact ⟨rfl, HX.out⟩
set_option maxRecDepth 100000 in
/-- its Try -/
theorem spTry_any (ok : b.ok) (hf : 1 ≤ b.f) (hn : 12 ≤ b.n) (e : Nat → EN) (hfit : ∀ i, (e i).fits) (len cap : Nat) (hlen : len ≤ 12) (rb xh xl xa : Nat) (hI : HeapI b HS.new w) (hL : LogAt b.B b.g 0 (.slice none 0 0) [] w) (bh : Box xh 43 (.pointer (some ⟨b.hb, 0, none⟩)) w) (bl : Box xl 55 (.slice (some ⟨rb, 0, none⟩) len cap) w) (ba : Box xa 3 (.int .i64 0) w) (sh : ¬ b.S0 xh) (sl : ¬ b.S0 xl) (sa : ¬ b.S0 xa) (hrb : Plain b.S0 w rb) (hc : ∀ j, j < len → EntCells rb (0 + j * 6) (e j) w) :
    Calls Try.prog 23 #[.pointer (some ⟨b.hb, 0, none⟩), .func (.func 47) #[] #[.pointer (some ⟨xh, 0, none⟩), .pointer (some ⟨xl, 0, none⟩), .pointer (some ⟨xa, 0, none⟩)]] w fun e' w' => e' = .returned (.int .i64 0) ∧ ∃ s1 hd U, Puts b HS.new (bkTo (exOf e hfit) len 0) s1 hd U ∧ HeapI (b.at U) s1 w' ∧ LogAt b.B b.g 0 (.slice none 0 0) [] w' ∧ Box xa 3 (.int .i64 (hd : Nat)) w' ∧ Grew (fun q => Mut b.B b.S0 w q ∨ q = xa) w w' := by
  have gT := tryWorld_grew b.g 0 w
  have hgS : b.S0 b.g := ⟨1, by decide, rfl⟩
  have hB := hI.sz
  have bT : ∀ {x : Nat} {t : TypeId} {v : Value}, Box x t v w → ¬ b.S0 x → Box x t v (tryWorld b.g 0 w) := fun h hs => h.keep gT fun e => hs (e ▸ hgS)
  have er : (tryWorld b.g 0 w).heap[rb]? = w.heap[rb]? := gT.block rb hrb.lt fun e => hrb.1 (e ▸ hgS)
  have hla := ba.lt
  refine (hTryU b ok HS.new w hI hL 47 _ (fun s1 U w1 => ∃ hd, Puts b HS.new (bkTo (exOf e hfit) len 0) s1 hd U ∧ s1.G = [] ∧ Box xa 3 (.int .i64 (hd : Nat)) w1 ∧ Grew (fun q => Mut b.B b.S0 w q ∨ q = xa) w w1) (fun _ => by rfl) fun hin => ?_).mono ?_
  · refine (spC1_any ok hf hn e hfit len cap hlen rb xh xl xa hin.deep (bT bh sh) (bT bl sl) (bT ba sa) sa (hrb.block er) (fun j hj => (hc j hj).same er)).mono ?_
    rintro e' w1 ⟨rfl, s1, hd, U, hp, hi, hG, hb, hg⟩
    refine ⟨s1, _, U, rfl, hi.first, GoneOk.nil hG, ?_, hd, hp, hG, hb, ?_⟩
    · rw [hg.block _ (by rw [tryWorld_size]; omega) ?_]
      · exact tryWorld_box b.g 0 w
      · rintro (m | m)
        · rcases m with m | m
          · exact HB.far ok hB m
          · exact notFunc_err (tryWorld_box b.g 0 w) m
        · omega
    · have g1 : Grew (Mut b.B b.S0 w) w (tryWorld b.g 0 w) := gT.mono fun y _ e => Or.inl (e ▸ hgS)
      exact (g1.mono fun _ _ e => Or.inl e).step hg fun y hy m => by
        rcases m with m | m
        · exact Or.inl (Mut.back g1 hy m)
        · exact Or.inr m
  · rintro e' w' ⟨s1, U, w1, rfl, ⟨hd, hp, hG, hb, hg⟩, hI', hL', hg'⟩
    rw [HS.fin_nil b s1 hG] at hI'
    refine ⟨rfl, s1, hd, U, hp, hI', hL', hb.keep hg' ?_, hg.step hg' fun y hy m => ?_⟩
    · rintro (m | m)
      · exact sa m.in0
      · omega
    · rcases m with m | m
      · exact Or.inl (Or.inl m.in0)
      · omega
end
section
variable {d bs bt n : Nat} {T : Nat → UInt8} {w w' : World}
theorem spC2_any (h : DK d bs bt n T w) (at' p : Nat) (hi : at' < n) (hp : p < 64) (by' : Int) (hby : bits .and .i64 by' 63 = (p : Int)) (x : UInt8) (xd xt xb xw : Nat) (bd : Box xd 41 (.pointer (some ⟨d, 0, none⟩)) w) (bt' : Box xt 3 (.int .i64 (at' : Int)) w) (bb : Box xb 3 (.int .i64 by') w) (bw : Box xw 5 (.int .u8 (x.toNat : Int)) w) :
    Calls Try.prog 49 #[.pointer (some ⟨xd, 0, none⟩), .pointer (some ⟨xt, 0, none⟩), .pointer (some ⟨xb, 0, none⟩), .pointer (some ⟨xw, 0, none⟩)] w fun e w' => e = .returned (.tuple #[]) ∧ Grew (DkOwn d bs bt) w w' ∧ DK d bs bt n (bendF T (at' * 64 + p) x) w' := by
  have HSp := Lib.hid (dkSpoil h at' p x hi hp)
  generalize bendF T (at' * 64 + p) x = U at *
  have c1 := bd.cell
  have c2 := bt'.cell
  have c3 := bb.cell
  have c4 := bw.cell
  generalize (x.toNat : Int) = X at *
  clear h hi hp bd bt' bb bw
  go_enter Try.func49, Try.ntmps49
  go_wp2_with fail
  refine HSp.out.mono ?_
  rintro e w1 ⟨rfl, hd, hg⟩
  have HX := Lib.hid (And.intro hg hd)
  clear hd hg
  go_wp2_with fail
  go_end0
  exact ⟨rfl, HX.out⟩
set_option maxRecDepth 100000 in
theorem spG2_any (h : DK d bs bt n T w) (at' p : Nat) (hi : at' < n) (hp : p < 64) (by' : Int) (hby : bits .and .i64 by' 63 = (p : Int)) (x : UInt8) (xd xt xb xw : Nat) (bd : Box xd 41 (.pointer (some ⟨d, 0, none⟩)) w) (bt' : Box xt 3 (.int .i64 (at' : Int)) w) (bb : Box xb 3 (.int .i64 by') w) (bw : Box xw 5 (.int .u8 (x.toNat : Int)) w) :
    Calls Try.prog 17 #[.func (.func 49) #[] #[.pointer (some ⟨xd, 0, none⟩), .pointer (some ⟨xt, 0, none⟩), .pointer (some ⟨xb, 0, none⟩), .pointer (some ⟨xw, 0, none⟩)]] w fun e w' => e = .returned (.int .i64 0) ∧ DK d bs bt n (bendF T (at' * 64 + p) x) w' ∧ Grew (DkOwn d bs bt) w w' := by
  refine guard_ok _ _ (DkOwn d bs bt) _ (fun e => Nat.lt_irrefl _ (h.own_lt e)) (fun _ => by rfl) (fun w1 w2 hq hg => hq.keep hg fun x hx e => ?_) ?_
  · have := h.own_lt hx
    omega
  · exact spC2_any (h.keep ((Grew.refl (S := fun _ => False) w).alloc errBox) fun _ _ e => e) at' p hi hp by' hby x xd xt xb xw (bd.keepAlloc _) (bt'.keepAlloc _) (bb.keepAlloc _) (bw.keepAlloc _)
end
end Go.Proofs.Ytjjmapmombhmlaa

/-
  CatalogSpoilt's last Guard: a new heap over the disk, and catalog.Adopt: contracts.
-/
namespace Go.Proofs.Ytjjmapmombhmlaa
open Go.RowKit Go.Maps Go.ChangeMaps Go.WideShapes
section
variable {d bs bt : Nat} {V : Nat → UInt8} {w w' : World}
theorem phantom {p : Prop} (h : ¬ Hid False → p) (k : Hid False → p) : p := (Classical.em (Hid False)).elim k h
/-- how catalog.Adopt ends -/
def AdEnd (n : Nat) (e : Ending) : Option Int → Prop
  | some k => e = failed k
  | none => ∃ a c, e = .returned (.slice a n c)
/-- what catalog.Adopt makes of a disk, whatever heap lies over it -/
def MadeOf (V : Nat → UInt8) (hd : Nat) (o : Option Int) (n : Nat) : Prop := ∀ b : HB, b.f = 2 → b.n = 18 → (adRun b V (b.n + 1) [] [] hd).1 = o ∧ (o = none → (adRun b V (b.n + 1) [] [] hd).2.length = n)
/-- a new heap over the disk, and Adopt upon it -/
theorem newAdopt (h : DK d bs bt 20 V w) (hd : Nat) (hhd : hd < 65536) (o : Option Int) (n : Nat) (hm : MadeOf V hd o n) : Calls Try.prog 16 #[.pointer (some ⟨d, 0, none⟩), .int .i64 2] w fun e w1 => ∃ hb : Nat, e = .returned (.pointer (some ⟨hb, 0, none⟩)) ∧ Grew (fun _ => False) w w1 ∧ ∀ w2, Grew (fun _ => False) w1 w2 → Calls Try.prog 38 #[.pointer (some ⟨hb, 0, none⟩), .int .i64 (hd : Int)] w2 fun e w3 => AdEnd n e o ∧ Grew (fun _ => False) w w3 := by
  obtain ⟨M, hM, m1, m2, m3, m4, m5, m6, m7, m8⟩ := h
  have hN := hNew_any M 2 18 w (by decide) (by decide) hM m4 m5 m6 m7
  rw [m1] at hN
  refine hN.mono ?_
  rintro e w1 ⟨b, rfl, ok, hbf, hbn, hbd, hI, hL, hg, hB, hfr, hbs, hbt⟩
  refine ⟨b.hb, rfl, hg, fun w2 g2 => ?_⟩
  have hA : AdAt b V [] w2 := by
    have h1 : AdAt b V [] w1 := ⟨⟨HS.new, AdS.new b, hI⟩, hL, ⟨M, hM.kept hg (fun e => e) (fun e => e) (fun e => e), m1.trans hbd.symm, hbs.symm, hbt.symm, by rw [hbf, hbn]; exact m4, m5, m6, m7, m8⟩⟩
    exact h1.keep g2 fun _ _ e => e
  obtain ⟨r1, r2⟩ := hm b hbf hbn
  refine (adopt_any ok hd hhd hA).mono ?_
  rintro e w3 ⟨he, hg3⟩
  generalize adRun b V (b.n + 1) [] [] hd = R at *
  obtain ⟨q, L⟩ := R
  have r1 : q = o := r1
  subst r1
  have hgw : Grew (fun _ => False) w w3 := (hg.trans g2).step hg3 fun k hk e => by
    rcases e with (e | e | e) | e
    · have := hfr 1 (by decide); have e9 : b.blk 1 = b.g := rfl; omega
    · have := hfr 0 (by decide); have e9 : b.blk 0 = b.hb := rfl; omega
    · have := hfr 3 (by decide); have e9 : b.blk 3 = b.q := rfl; omega
    · have := hfr 4 (by decide); have e9 : b.blk 4 = b.rb := rfl; omega
  cases q with
  | some k => exact ⟨he, hgw⟩
  | none =>
    obtain ⟨a, c, rfl, _⟩ := he
    have r2 : L.length = n := r2 rfl
    rw [r2]
    exact ⟨⟨a, c, rfl⟩, hgw⟩
set_option maxRecDepth 100000 in
set_option maxHeartbeats 1000000 in
theorem spC3_ok (h : DK d bs bt 20 V w) (hd : Nat) (hhd : hd < 65536) (n : Nat) (hm : MadeOf V hd none n) (xd xa xg : Nat) (bd : Box xd 41 (.pointer (some ⟨d, 0, none⟩)) w) (ba : Box xa 3 (.int .i64 (hd : Int)) w) (bg : Box xg 55 (.slice none 0 0) w) :
    Calls Try.prog 50 #[.pointer (some ⟨xd, 0, none⟩), .pointer (some ⟨xa, 0, none⟩), .pointer (some ⟨xg, 0, none⟩)] w fun e w' => e = .returned (.tuple #[]) ∧ Grew (fun k => k = xg) w w' ∧ ∃ a c, Box xg 55 (.slice a n c) w' := by
  have HN := Lib.hid (newAdopt (h.keep (S := fun _ => False) (Grew.refl w).drew fun _ _ e => e) hd hhd none n hm)
  have HC : Hid (∀ wx, Grew (fun _ => False) w.drew wx → wx.cell? ⟨xa, 0, none⟩ = some (.int .i64 (hd : Int)) ∧ wx.cell? ⟨xg, 0, none⟩ = some (.slice none 0 0) ∧ wx.frozen? ⟨xg, 0, none⟩ = false) := Lib.hid fun wx g => by
    have g0 : Grew (fun _ => False) w wx := ((Grew.refl w).drew).trans g
    exact ⟨(ba.keep g0 fun e => e).cell, (bg.keep g0 fun e => e).cell, (bg.keep g0 fun e => e).free⟩
  have HE : Hid (∀ wx a c, Grew (fun _ => False) w.drew wx → Grew (fun k => k = xg) w (wx.setCell ⟨xg, 0, none⟩ (.slice a n c)) ∧ ∃ a' c', Box xg 55 (.slice a' n c') (wx.setCell ⟨xg, 0, none⟩ (.slice a n c))) := Lib.hid fun wx a c g => by
    have g0 : Grew (fun _ => False) w wx := ((Grew.refl w).drew).trans g
    exact ⟨(g0.mono fun _ _ e => e.elim).setCell _ _ fun _ => rfl, a, c, (bg.keep g0 fun e => e).set _⟩
  have c1 : w.drew.cell? ⟨xd, 0, none⟩ = some (.pointer (some ⟨d, 0, none⟩)) := bd.cell
  have c2 : w.drew.cell? ⟨xa, 0, none⟩ = some (.int .i64 (hd : Int)) := ba.cell
  clear h hm bd ba bg hhd
  go_enter Try.func50, Try.ntmps50
  go_region_with (first
    | (go_at_call 16; (with_reducible refine HN.out.mono ?_); rintro e w1 ⟨hb, rfl, hg1, hA1⟩; (obtain ⟨k1, k2, k3⟩ := HC.out w1 hg1); (have HA1 := Lib.hid hA1); clear hg1 hA1)
    | (go_at_call 38; (with_reducible refine (HA1.out _ (Grew.refl _)).mono ?_); rintro e w3 ⟨⟨a, c, rfl⟩, hg3⟩; (obtain ⟨m1, m2, m3⟩ := HC.out w3 hg3); (have HG3 := Lib.hid hg3); clear hg3))
  all_goals
    go_wp2_with fail
    go_end0
    exact ⟨rfl, HE.out w3 a c HG3.out⟩
set_option maxRecDepth 100000 in
set_option maxHeartbeats 1000000 in
theorem spC3_bad (h : DK d bs bt 20 V w) (hd : Nat) (hhd : hd < 65536) (n : Nat) (k : Int) (hm : MadeOf V hd (some k) n) (xd xa xg : Nat) (bd : Box xd 41 (.pointer (some ⟨d, 0, none⟩)) w) (ba : Box xa 3 (.int .i64 (hd : Int)) w) (bg : Box xg 55 (.slice none 0 0) w) :
    Calls Try.prog 50 #[.pointer (some ⟨xd, 0, none⟩), .pointer (some ⟨xa, 0, none⟩), .pointer (some ⟨xg, 0, none⟩)] w fun e w' => e = failed k ∧ Grew (fun _ => False) w w' := by
  have HN := Lib.hid (newAdopt (h.keep (S := fun _ => False) (Grew.refl w).drew fun _ _ e => e) hd hhd (some k) n hm)
  have HC : Hid (∀ wx, Grew (fun _ => False) w.drew wx → wx.cell? ⟨xa, 0, none⟩ = some (.int .i64 (hd : Int)) ∧ wx.cell? ⟨xg, 0, none⟩ = some (.slice none 0 0) ∧ wx.frozen? ⟨xg, 0, none⟩ = false) := Lib.hid fun wx g => by
    have g0 : Grew (fun _ => False) w wx := ((Grew.refl w).drew).trans g
    exact ⟨(ba.keep g0 fun e => e).cell, (bg.keep g0 fun e => e).cell, (bg.keep g0 fun e => e).free⟩
  have c1 : w.drew.cell? ⟨xd, 0, none⟩ = some (.pointer (some ⟨d, 0, none⟩)) := bd.cell
  have c2 : w.drew.cell? ⟨xa, 0, none⟩ = some (.int .i64 (hd : Int)) := ba.cell
  clear h hm bd ba bg hhd
  go_enter Try.func50, Try.ntmps50
  go_region_with (first
    | (go_at_call 16; (with_reducible refine HN.out.mono ?_); rintro e w1 ⟨hb, rfl, hg1, hA1⟩; (obtain ⟨k1, k2, k3⟩ := HC.out w1 hg1); (have HA1 := Lib.hid hA1); clear hg1 hA1)
    | (go_at_call 38; (with_reducible refine (HA1.out _ (Grew.refl _)).mono ?_); rintro e w3 ⟨he, hg3⟩; (obtain ⟨m1, m2, m3⟩ := HC.out w3 hg3); (have HG3 := Lib.hid hg3); clear hg3; refine phantom (fun _ => ?_) (fun hF => ?_); (focus (subst he; unfold failed; go_simp; exact ⟨rfl, rfl, ((Grew.refl w).drew).trans HG3.out⟩)); (clear he; obtain rfl : e = .returned (.slice none 0 0) := hF.out.elim)))
  all_goals exact hF.out.elim
end
end Go.Proofs.Ytjjmapmombhmlaa
