/-
  Texts put together: CatChain, CatLaws, CatGuards.
-/
import Derived.Test.YtjjmapmombhmlaaCatAds
import Derived.Test.YtjjmapmombhmlaaGuardGrew
import Derived.Deep.RegionHeld3
/-
  A chain of entries, as CatalogAdopts lays it: what catalog.Adopt makes of it.
-/
namespace Go.Proofs.Ytjjmapmombhmlaa
open Go.RowKit

def heldTo (i : Nat) : List Nat := (List.range i).reverse
def entsTo (e : Nat → EN) (i : Nat) : List EN := (List.range i).map e
theorem heldTo_succ (i : Nat) : heldTo (i + 1) = i :: heldTo i := by
  unfold heldTo
  rw [List.range_succ, List.reverse_append]
  rfl
theorem heldTo_mem (i x : Nat) : x ∈ heldTo i ↔ x < i := by
  unfold heldTo
  rw [List.mem_reverse, List.mem_range]
theorem entsTo_succ (e : Nat → EN) (i : Nat) : entsTo e (i + 1) = entsTo e i ++ [e i] := by
  unfold entsTo
  rw [List.range_succ, List.map_append]
  rfl
theorem entsTo_len (e : Nat → EN) (i : Nat) : (entsTo e i).length = i := by simp [entsTo]
theorem entsTo_last (e : Nat → EN) (i : Nat) : (entsTo e (i + 1)).getLast? = some (e i) := by
  rw [entsTo_succ]
  simp
theorem vis_chain {b : HB} {T : Nat → UInt8} (e : Nat → EN) (i : Nat) (hi : i < b.n) : visE b T (heldTo i) (entsTo e i) (b.f + i) = match catE (secB T (b.f + i)) with
    | some k => some k
    | none => if 0 < i ∧ (gotEN (secB T (b.f + i))).id ≤ (e (i - 1)).id then some 1 else none := by
  unfold visE
  rw [if_neg (by omega), show b.f + i - b.f = i by omega, if_neg (by rw [heldTo_mem]; omega)]
  cases catE (secB T (b.f + i)) with
  | some k => rfl
  | none =>
    have : (∃ x, (entsTo e i).getLast? = some x ∧ (gotEN (secB T (b.f + i))).id ≤ x.id) ↔ (0 < i ∧ (gotEN (secB T (b.f + i))).id ≤ (e (i - 1)).id) := by
      cases i with
      | zero =>
        constructor
        · rintro ⟨x, h, _⟩
          cases h
        · rintro ⟨h, _⟩
          exact absurd h (Nat.lt_irrefl 0)
      | succ m =>
        rw [entsTo_last]
        constructor
        · rintro ⟨x, h, h2⟩
          cases h
          exact ⟨by omega, h2⟩
        · rintro ⟨_, h2⟩
          exact ⟨_, rfl, h2⟩
    by_cases h : 0 < i ∧ (gotEN (secB T (b.f + i))).id ≤ (e (i - 1)).id
    · exact (if_pos (this.2 h)).trans (if_pos h).symm
    · exact (if_neg fun q => h (this.1 q)).trans (if_neg h).symm
theorem adRun_next {b : HB} {T : Nat → UInt8} {n at' : Nat} {H : List Nat} {L : List EN} (h0 : ¬ at' = 0) (hv : visE b T H L at' = none) : adRun b T (n + 1) H L at' = adRun b T n ((at' - b.f) :: H) (L ++ [gotEN (secB T at')]) (gotNx (secB T at')) := by
  rw [adRun, if_neg h0, hv]
theorem adRun_bad {b : HB} {T : Nat → UInt8} {n at' : Nat} {H : List Nat} {L : List EN} {k : Int} (h0 : ¬ at' = 0) (hv : visE b T H L at' = some k) : adRun b T (n + 1) H L at' = (some k, L) := by
  rw [adRun, if_neg h0, hv]
theorem adRun_end {b : HB} {T : Nat → UInt8} {n : Nat} {H : List Nat} {L : List EN} : adRun b T (n + 1) H L 0 = (none, L) := by
  rw [adRun, if_pos rfl]
/-- what the law wants behind so many entries -/
def wantA (f : Nat → Nat) (sp : Nat) : Nat → Nat
  | 0 => 0
  | i + 1 => if wantA f sp i ≠ 0 then wantA f sp i else if i = sp then 11 else if f i = 0 ∨ (0 < i ∧ f i ≤ f (i - 1)) then 1 else 0
def nxA (n la i : Nat) : Nat := if i + 1 = n then la else 3 + i
def entA (f : Nat → Nat) (i : Nat) : EN := ⟨f i, 0, false, 1, 0, 0⟩
def TA (f : Nat → Nat) (n la sp : Nat) : Nat → Nat → UInt8
  | 0 => fun _ => 0
  | i + 1 => if wantA f sp i = 0 ∧ i = sp then bendF (wroteT (TA f n la sp i) (2 + i) (entB (entA f i) (nxA n la i))) ((2 + i) * 64 + 7) 9 else wroteT (TA f n la sp i) (2 + i) (entB (entA f i) (nxA n la i))
def finA (n la w : Nat) : Nat := if n = 0 ∨ w ≠ 0 ∨ la = 0 then w else if la = 1 then 6 else if la < 2 + n then 1 else 11
theorem entB_catE (o : EN) (ho : o.fits) (nx : Nat) (hn : nx < 65536) : catE (entB o nx) = if badO o then some 1 else none := own_catE o ho nx hn
theorem entB_got (o : EN) (ho : o.fits) (nx : Nat) (hn : nx < 65536) : gotEN (entB o nx) = (if badO o then EN.none else o) ∧ gotNx (entB o nx) = if badO o then 0 else nx := own_got o ho nx hn
section
variable {f : Nat → Nat} {n la sp : Nat}
theorem TA_succ (i : Nat) : TA f n la sp (i + 1) = if wantA f sp i = 0 ∧ i = sp then bendF (wroteT (TA f n la sp i) (2 + i) (entB (entA f i) (nxA n la i))) ((2 + i) * 64 + 7) 9 else wroteT (TA f n la sp i) (2 + i) (entB (entA f i) (nxA n la i)) := rfl
theorem TA_step (i k : Nat) (h : k ≠ 2 + i) : secB (TA f n la sp (i + 1)) k = secB (TA f n la sp i) k := by
  rw [TA_succ]
  split
  · rw [bendT_other _ _ _ (by decide) _ _ h, wroteT_other _ _ _ _ h]
  · rw [wroteT_other _ _ _ _ h]
theorem TA_later (i : Nat) : ∀ m, i < m → secB (TA f n la sp m) (2 + i) = secB (TA f n la sp (i + 1)) (2 + i)
  | 0, h => absurd h (Nat.not_lt_zero _)
  | m + 1, h => by
    by_cases e : i = m
    · rw [e]
    · rw [TA_step m _ (by omega)]
      exact TA_later i m (by omega)
theorem TA_own (i : Nat) (h : ¬ (wantA f sp i = 0 ∧ i = sp)) : secB (TA f n la sp (i + 1)) (2 + i) = entB (entA f i) (nxA n la i) := by
  rw [TA_succ, if_neg h, wroteT_same _ _ _ (entB_size _ _)]
theorem TA_bent (i : Nat) (h : wantA f sp i = 0 ∧ i = sp) : catE (secB (TA f n la sp (i + 1)) (2 + i)) = some 11 := by
  rw [TA_succ, if_pos h]
  exact catE_bent _ _ 7 (by decide) 9 (by decide) (entA f i) (nxA n la i) (wroteT_same _ _ _ (entB_size _ _))
theorem TA_zero : ∀ m k, 2 + m ≤ k → ∀ j, j < 64 → TA f n la sp m (k * 64 + j) = 0
  | 0, _, _, _, _ => rfl
  | m + 1, k, h, j, hj => by
    have ih := TA_zero m k (by omega) j hj
    rw [TA_succ]
    have hw : ∀ s, wroteT (TA f n la sp m) (2 + m) s (k * 64 + j) = 0 := fun s => by
      unfold wroteT
      rw [if_neg (by omega)]
      exact ih
    split
    · unfold bendF
      rw [if_neg (by omega)]
      exact hw _
    · exact hw _
theorem wantA_stays {i : Nat} (h : wantA f sp i ≠ 0) : wantA f sp (i + 1) = wantA f sp i := by
  show (if wantA f sp i ≠ 0 then wantA f sp i else _) = _
  rw [if_pos h]
theorem wantA_first : ∀ m, wantA f sp m ≠ 0 → ∃ i, i < m ∧ wantA f sp i = 0 ∧ wantA f sp (i + 1) = wantA f sp m
  | 0, h => absurd rfl h
  | m + 1, h => by
    by_cases e : wantA f sp m = 0
    · exact ⟨m, by omega, e, rfl⟩
    · obtain ⟨i, h1, h2, h3⟩ := wantA_first m e
      exact ⟨i, by omega, h2, by rw [h3, wantA_stays e]⟩
theorem wantA_next {i : Nat} (h : wantA f sp i = 0) : wantA f sp (i + 1) = if i = sp then 11 else if f i = 0 ∨ (0 < i ∧ f i ≤ f (i - 1)) then 1 else 0 := by
  show (if wantA f sp i ≠ 0 then wantA f sp i else _) = _
  rw [if_neg (not_not_intro h)]
theorem entA_fits (hf : ∀ i, f i < 4294967296) (i : Nat) : (entA f i).fits := ⟨hf i, by show (0 : Nat) < _; decide, by show (1 : Nat) < _; decide, by show (0 : Nat) < _; decide, by show (0 : Nat) < _; decide⟩
theorem nxA_lt (hn : n ≤ 8) (hla : la < 16) {i : Nat} (hi : i < n) : nxA n la i < 65536 := by
  unfold nxA
  split <;> omega
/-- at an entry: what it answers -/
theorem vis_A {b : HB} (hbf : b.f = 2) (hbn : b.n = 18) (hf : ∀ i, f i < 4294967296) (hn : n ≤ 8) (hla : la < 16) {i : Nat} (hi : i < n) (hw : wantA f sp i = 0) :
    (wantA f sp (i + 1) ≠ 0 → visE b (TA f n la sp n) (heldTo i) (entsTo (entA f) i) (2 + i) = some ((wantA f sp (i + 1) : Nat) : Int)) ∧
    (wantA f sp (i + 1) = 0 → visE b (TA f n la sp n) (heldTo i) (entsTo (entA f) i) (2 + i) = none ∧ gotEN (secB (TA f n la sp n) (2 + i)) = entA f i ∧ gotNx (secB (TA f n la sp n) (2 + i)) = nxA n la i) := by
  have hv := vis_chain (b := b) (T := TA f n la sp n) (entA f) i (by omega)
  rw [hbf] at hv
  rw [TA_later i n hi] at hv ⊢
  rw [hv, wantA_next hw]
  by_cases hs : i = sp
  · rw [if_pos hs, TA_bent i ⟨hw, hs⟩]
    exact ⟨fun _ => rfl, fun h => absurd h (by decide)⟩
  rw [if_neg hs, TA_own i fun q => hs q.2]
  have hfit := entA_fits hf i
  have hnx := nxA_lt (la := la) hn hla hi
  have hE := entB_catE (entA f i) hfit _ hnx
  obtain ⟨hG, hN⟩ := entB_got (entA f i) hfit _ hnx
  have hbad : badO (entA f i) ↔ f i = 0 := by
    constructor
    · rintro (h | h | h)
      · exact h
      · exact absurd (show (1 : Nat) < 1 from h) (by decide)
      · exact absurd (show 2048 < (1 : Nat) from h) (by decide)
    · exact fun h => Or.inl h
  generalize entB (entA f i) (nxA n la i) = t at *
  by_cases h0 : f i = 0
  · rw [if_pos (hbad.2 h0)] at hE
    rw [if_pos (Or.inl h0), hE]
    exact ⟨fun _ => rfl, fun h => absurd h (by decide)⟩
  · have hb := fun q => h0 (hbad.1 q)
    rw [if_neg hb] at hE hG hN
    rw [hE, hG, hN]
    have e1 : (entA f i).id = f i := rfl
    have e2 : (entA f (i - 1)).id = f (i - 1) := rfl
    rw [e1, e2]
    by_cases hle : 0 < i ∧ f i ≤ f (i - 1)
    · rw [if_pos (Or.inr hle)]
      exact ⟨fun _ => if_pos hle, fun h => absurd h (by decide)⟩
    · rw [if_neg (by rintro (q | q); exact h0 q; exact hle q)]
      exact ⟨fun h => absurd rfl h, fun _ => ⟨if_neg hle, rfl, rfl⟩⟩
/-- where the next one lies -/
def atA (n la i : Nat) : Nat := if i < n then 2 + i else if n = 0 then 0 else la
theorem run_A {b : HB} (hbf : b.f = 2) (hbn : b.n = 18) (hf : ∀ i, f i < 4294967296) (hn : n ≤ 8) (hla : la < 16) (N : Nat) (hN : n < N) : ∀ i, i ≤ n → wantA f sp i = 0 → adRun b (TA f n la sp n) N [] [] (atA n la 0) = adRun b (TA f n la sp n) (N - i) (heldTo i) (entsTo (entA f) i) (atA n la i)
  | 0, _, _ => rfl
  | i + 1, h, hw => by
    have hw0 : wantA f sp i = 0 := Decidable.byContradiction fun q => by
      rw [wantA_stays q] at hw
      exact q hw
    rw [run_A hbf hbn hf hn hla N hN i (by omega) hw0]
    obtain ⟨q, hq⟩ : ∃ q, N - i = q + 1 := ⟨N - i - 1, by omega⟩
    rw [hq, show N - (i + 1) = q by omega]
    have hat : atA n la i = 2 + i := by unfold atA; rw [if_pos (by omega)]
    obtain ⟨v1, v2, v3⟩ := (vis_A (b := b) hbf hbn hf hn hla (i := i) (by omega) hw0).2 hw
    rw [hat, adRun_next (by omega) v1, v2, v3, hbf, show 2 + i - 2 = i by omega, ← heldTo_succ, ← entsTo_succ]
    have hx : nxA n la i = atA n la (i + 1) := by
      unfold nxA atA
      by_cases e : i + 1 = n
      · rw [if_pos e, if_neg (by omega), if_neg (by omega)]
      · rw [if_neg e, if_pos (by omega)]
        omega
    rw [hx]
theorem chain_A {b : HB} (hbf : b.f = 2) (hbn : b.n = 18) (hf : ∀ i, f i < 4294967296) (hn : n ≤ 8) (hla : la < 16) (N : Nat) (hN : n < N) :
    (finA n la (wantA f sp n) = 0 → (adRun b (TA f n la sp n) N [] [] (atA n la 0)).1 = none ∧ (adRun b (TA f n la sp n) N [] [] (atA n la 0)).2.length = n) ∧
    (finA n la (wantA f sp n) ≠ 0 → (adRun b (TA f n la sp n) N [] [] (atA n la 0)).1 = some ((finA n la (wantA f sp n) : Nat) : Int)) := by
  by_cases hw : wantA f sp n = 0
  · rw [run_A hbf hbn hf hn hla N hN n (Nat.le_refl _) hw, hw]
    obtain ⟨q, hq⟩ : ∃ q, N - n = q + 1 := ⟨N - n - 1, by omega⟩
    rw [hq]
    have hat : atA n la n = if n = 0 then 0 else la := by unfold atA; rw [if_neg (Nat.lt_irrefl _)]
    rw [hat]
    by_cases h0 : (if n = 0 then 0 else la) = 0
    · have hfin : finA n la 0 = 0 := by
        unfold finA
        by_cases e : n = 0
        · rw [if_pos (Or.inl e)]
        · rw [if_neg e] at h0
          rw [if_pos (Or.inr (Or.inr h0))]
      have hr : adRun b (TA f n la sp n) (q + 1) (heldTo n) (entsTo (entA f) n) (if n = 0 then 0 else la) = (none, entsTo (entA f) n) := by
        rw [h0, adRun_end]
      rw [hr, hfin]
      exact ⟨fun _ => ⟨rfl, entsTo_len _ _⟩, fun h => absurd rfl h⟩
    · have hn0 : ¬ n = 0 := fun e => h0 (by rw [if_pos e])
      rw [if_neg hn0] at h0 ⊢
      have hfin : finA n la 0 = if la = 1 then 6 else if la < 2 + n then 1 else 11 := by
        unfold finA
        rw [if_neg (by omega)]
      have hv : visE b (TA f n la sp n) (heldTo n) (entsTo (entA f) n) la = some ((finA n la 0 : Nat) : Int) := by
        rw [hfin]
        unfold visE
        rw [hbf, hbn]
        by_cases h1 : la = 1
        · rw [if_pos (by omega), if_pos h1]
          rfl
        · rw [if_neg (by omega), if_neg h1]
          by_cases h2 : la < 2 + n
          · rw [if_pos (by rw [heldTo_mem]; omega), if_pos h2]
            rfl
          · rw [if_neg (by rw [heldTo_mem]; omega), if_neg h2, catE_zero _ _ (TA_zero n la (by omega))]
            rfl
      have hr : (adRun b (TA f n la sp n) (q + 1) (heldTo n) (entsTo (entA f) n) la).1 = some ((finA n la 0 : Nat) : Int) := by
        rw [adRun_bad h0 hv]
      rw [hr]
      refine ⟨fun h => ?_, fun _ => rfl⟩
      rw [hfin] at h
      split at h
      · exact absurd h (by decide)
      · split at h <;> exact absurd h (by decide)
  · have hfin : finA n la (wantA f sp n) = wantA f sp n := by
      unfold finA
      rw [if_pos (Or.inr (Or.inl hw))]
    rw [hfin]
    refine ⟨fun h => absurd h hw, fun _ => ?_⟩
    obtain ⟨i, hi, h0, h1⟩ := wantA_first n hw
    rw [run_A hbf hbn hf hn hla N hN i (by omega) h0]
    obtain ⟨q, hq⟩ : ∃ q, N - i = q + 1 := ⟨N - i - 1, by omega⟩
    rw [hq]
    have hat : atA n la i = 2 + i := by unfold atA; rw [if_pos hi]
    have hv := (vis_A (b := b) hbf hbn hf hn hla hi h0).1 (by rw [h1]; exact hw)
    rw [hat, ← h1]
    rw [adRun_bad (by omega) hv]
end
end Go.Proofs.Ytjjmapmombhmlaa

/-
  catalog.Adopt whole; a disk, its calls, and what law 15's Guards run: contracts.
-/
namespace Go.Proofs.Ytjjmapmombhmlaa
open Go.RowKit Go.Maps Go.ChangeMaps Go.WideShapes
section
variable {b : HB} {T : Nat → UInt8} {w w' : World}
/-- what catalog.Adopt ends in -/
def AdoptEnd (b : HB) (T : Nat → UInt8) (R : Option Int × List EN) (w : World) (e : Ending) (w' : World) : Prop :=
  (match R.1 with
    | some k => e = failed k
    | none => ∃ a c, e = .returned (.slice a R.2.length c) ∧ w'.ownsRow w.heap.size 58 6 (.slice a R.2.length c) R.2.length (entRows R.2) ∧ ∃ H, AdAt b T H w' ∧ HeldL b H R.2.length) ∧ Grew (fun k => TrySet b k ∨ k = b.rb) w w'
theorem own_base {w : World} {B B' n z : Nat} {e : TypeId} {v : Value} {xs : List Value} (h : w.ownsRow B e z v n xs) (hB : B' ≤ B) : w.ownsRow B' e z v n xs := by
  rcases h.2 with ⟨rfl, h0⟩ | ⟨b, cap, cur, rfl, a1, a2, a3, a4, a5, a6⟩
  · exact ⟨h.1, Or.inl ⟨rfl, h0⟩⟩
  · exact ⟨h.1, Or.inr ⟨b, cap, cur, rfl, Nat.le_trans hB a1, a2, a3, a4, a5, a6⟩⟩
theorem own_shape {w : World} {B n : Nat} {e : TypeId} {v : Value} {xs : List Value} (h : w.ownsRow B e 6 v n xs) : ∃ a c, v = .slice a n c := by
  rcases h.2 with ⟨rfl, h0⟩ | ⟨g, cap, cur, rfl, _⟩
  · exact ⟨none, 0, by rw [h0]⟩
  · exact ⟨some ⟨g, 0, none⟩, cap, rfl⟩
set_option maxRecDepth 100000 in
theorem adopt_any (ok : b.ok) (at' : Nat) (hat : at' < 65536) (h : AdAt b T [] w) :
    Calls Try.prog 38 #[.pointer (some ⟨b.hb, 0, none⟩), .int .i64 (at' : Int)] w fun e w' => AdoptEnd b T (adRun b T (b.n + 1) [] [] at') w e w' := by
  have hmf : ∀ (fn : Fn) (first cap : Array Value) (w : World), (Instr.makeFunc fn first cap).run Try.prog w = .ok (.func fn first cap) w := fun _ _ _ _ => rfl
  have s1 : (w.alloc (.cells #[.pointer (some ⟨b.hb, 0, none⟩)] 43)).heap.size = w.heap.size + 1 := by simp
  have x1 := Box.new w 43 (.pointer (some ⟨b.hb, 0, none⟩))
  have x2 := Box.new (w.alloc (.cells #[.pointer (some ⟨b.hb, 0, none⟩)] 43)) 55 (.slice none 0 0)
  rw [s1] at x2
  have x1' := x1.keepAlloc (.cells #[.slice none 0 0] 55)
  have hsz := h.size
  have hA := (h.alloc (.cells #[.pointer (some ⟨b.hb, 0, none⟩)] 43)).alloc (.cells #[.slice none 0 0] 55)
  have hV : VisAt b T w.heap.size (w.heap.size + 1) (w.heap.size + 2) [] [] ((w.alloc (.cells #[.pointer (some ⟨b.hb, 0, none⟩)] 43)).alloc (.cells #[.slice none 0 0] 55)) :=
    ⟨hA, x1', ⟨_, x2, World.ownsRow_nil _ _ _ _⟩, HB.far ok hsz, HB.far ok (by omega), by omega, by omega, by omega, by omega, by simp⟩
  have gW : Grew (fun k => TrySet b k ∨ k = b.rb) w ((w.alloc (.cells #[.pointer (some ⟨b.hb, 0, none⟩)] 43)).alloc (.cells #[.slice none 0 0] 55)) := ((Grew.refl w).alloc _).alloc _
  have HC := Lib.hid (each_any ok w.heap.size (w.heap.size + 1) (w.heap.size + 2) at' hat hV)
  have HG : Hid (∀ w2, Grew (VisSet b (w.heap.size + 1) (w.heap.size + 2)) ((w.alloc (.cells #[.pointer (some ⟨b.hb, 0, none⟩)] 43)).alloc (.cells #[.slice none 0 0] 55)) w2 → Grew (fun k => TrySet b k ∨ k = b.rb) w w2) := Lib.hid fun w2 g2 => gW.step g2 fun x hx e => by
    rcases e with e | e | e | e
    · exact Or.inl e
    · exact Or.inr e
    · omega
    · omega
  clear h hA hV x1 x2 x1' s1 hsz gW hat
  generalize adRun b T (b.n + 1) [] [] at' = R at *
  obtain ⟨o, L⟩ := R
  unfold EachEnd at HC
  cases o with
  | some k =>
    go_enter Try.func38, Try.ntmps38
    go_wp2_with fail
    refine HC.out.mono ?_
    rintro e w2 ⟨rfl, g2⟩
    have HX := Lib.hid (HG.out w2 g2)
    clear g2 HC HG
    unfold failed
    go_wp2_with fail
    exact ⟨rfl, rfl, HX.out⟩
  | none =>
    go_enter Try.func38, Try.ntmps38
    go_wp2_with fail
    refine HC.out.mono ?_
    rintro e w2 ⟨⟨rfl, H, hv, hl⟩, g2⟩
    obtain ⟨v, hb, hown⟩ := hv.la.ex
    obtain ⟨a, c, rfl⟩ := own_shape hown
    have c2 := hb.cell
    have HX : Hid (w2.ownsRow w.heap.size 58 6 (.slice a L.length c) L.length (entRows L) ∧ (∃ H, AdAt b T H w2 ∧ HeldL b H L.length) ∧ Grew (fun k => TrySet b k ∨ k = b.rb) w w2) := Lib.hid ⟨own_base hown (by omega), ⟨H, hv.ad, hl⟩, HG.out w2 g2⟩
    clear g2 HC HG hv hl hb hown
    go_wp2_with fail
    go_ret
    exact ⟨⟨a, c, rfl, HX.out.1, HX.out.2.1⟩, HX.out.2.2⟩
end
/-- a disk and what lies on it -/
def DK (d bs bt n : Nat) (T : Nat → UInt8) (w : World) : Prop := ∃ M : DiskM, DiskAt M w ∧ M.d = d ∧ M.bs = bs ∧ M.bt = bt ∧ M.n = n ∧ M.armed = false ∧ M.dead = false ∧ M.left ≤ 2 ^ 62 ∧ M.T = T
def DkOwn (d bs bt : Nat) (k : Nat) : Prop := k = d ∨ k = bs ∨ k = bt
section
variable {d bs bt n : Nat} {T : Nat → UInt8} {w w' : World}
theorem DK.keep {S : Nat → Prop} (h : DK d bs bt n T w) (k : Grew S w w') (h0 : ∀ x, DkOwn d bs bt x → ¬ S x) : DK d bs bt n T w' := by
  obtain ⟨M, hM, m1, m2, m3, r⟩ := h
  exact ⟨M, hM.kept k (by rw [m1]; exact h0 _ (Or.inl rfl)) (by rw [m2]; exact h0 _ (Or.inr (Or.inl rfl))) (by rw [m3]; exact h0 _ (Or.inr (Or.inr rfl))), m1, m2, m3, r⟩
theorem dkWrite (h : DK d bs bt n T w) (k : Nat) (hk : k < n) (s : ByteArray) (hs : s.size ≤ 64) : Calls Try.prog 42 #[.pointer (some ⟨d, 0, none⟩), .int .i64 (k : Int), .string s] w fun e w' => e = .returned (.tuple #[]) ∧ DK d bs bt n (wroteT T k s) w' ∧ Grew (DkOwn d bs bt) w w' := by
  obtain ⟨M, hM, rfl, rfl, rfl, rfl, m5, m6, m7, rfl⟩ := h
  refine (write_ok M k s w hM m6 hk hs m7 (by rw [m5]; intro h; cases h)).mono ?_
  rintro e w' ⟨rfl, hD, hg⟩
  have e1 : M.spent = M := by unfold DiskM.spent; rw [m5]; rfl
  rw [e1] at hD
  exact ⟨rfl, ⟨_, hD, rfl, rfl, rfl, rfl, m5, m6, m7, rfl⟩, hg⟩
theorem dkSpoil (h : DK d bs bt n T w) (k b : Nat) (x : UInt8) (hk : k < n) (hb : b < 64) : Calls Try.prog 45 #[.pointer (some ⟨d, 0, none⟩), .int .i64 (k : Int), .int .i64 (b : Int), .int .u8 ((x.toNat : Nat) : Int)] w fun e w' => e = .returned (.tuple #[]) ∧ DK d bs bt n (bendF T (k * 64 + b) x) w' ∧ Grew (DkOwn d bs bt) w w' := by
  obtain ⟨M, hM, rfl, rfl, rfl, rfl, m5, m6, m7, rfl⟩ := h
  refine (spoil_ok M k b x w hM hk hb).mono ?_
  rintro e w' ⟨rfl, hD, hg⟩
  exact ⟨rfl, ⟨_, hD, rfl, rfl, rfl, rfl, m5, m6, m7, rfl⟩, hg⟩
/-- a Guard of what doesn't fail -/
theorem guard_ok (g : FuncId) (cap : Array Value) (S : Nat → Prop) (Q : World → Prop) (hS : ¬ S w.heap.size) (hg : ∀ w : World, (callFunc g cap).run Try.prog w = .ok (.enter g cap) w) (hQ : ∀ w1 w2, Q w1 → Grew (fun k => k = w.heap.size) w1 w2 → Q w2)
    (hrun : Calls Try.prog g cap (w.alloc errBox) fun e w' => e = .returned (.tuple #[]) ∧ Grew S (w.alloc errBox) w' ∧ Q w') :
    Calls Try.prog 17 #[.func (.func g) #[] cap] w fun e w' => e = .returned (.int .i64 0) ∧ Q w' ∧ Grew S w w' := by
  refine (guard_grew g cap w S (fun o w1 => o = none ∧ Q w1) hS hg (hrun.mono ?_)).mono ?_
  · rintro e w' ⟨rfl, hG, hq⟩
    exact ⟨none, rfl, hG, rfl, hq⟩
  · rintro e w' ⟨o, w1, rfl, ⟨rfl, hq⟩, rfl, hg, _⟩
    exact ⟨rfl, hQ _ _ hq (done_one _ _ _), hg⟩
set_option maxRecDepth 100000 in
set_option maxHeartbeats 1000000 in
theorem adC1_any (h : DK d bs bt n T w) (i : Nat) (hi : 2 + i < n) (hn : n < 1000) (o : EN) (ho : o.fits) (nx : Nat) (hnx : nx < 65536) (xd xi xe xn : Nat) (bd : Box xd 41 (.pointer (some ⟨d, 0, none⟩)) w) (bi : Box xi 3 (.int .i64 (i : Int)) w) (be : w.heap[xe]? = some (.cells o.cells 58)) (bn : Box xn 3 (.int .i64 (nx : Int)) w) (hno : ∀ x, (x = xd ∨ x = xi ∨ x = xe ∨ x = xn) → ¬ DkOwn d bs bt x) :
    Calls Try.prog 41 #[.pointer (some ⟨xd, 0, none⟩), .pointer (some ⟨xi, 0, none⟩), .pointer (some ⟨xe, 0, none⟩), .pointer (some ⟨xn, 0, none⟩)] w fun e w' => e = .returned (.tuple #[]) ∧ Grew (DkOwn d bs bt) w w' ∧ DK d bs bt n (wroteT T (2 + i) (entB o nx)) w' := by
  have HBy : Hid (∀ wx, Calls Try.prog 43 #[.agg o.cells, .int .i64 nx] wx fun e w' => e = .returned (.string (entB o nx)) ∧ Below wx.heap.size wx w') := Lib.hid fun wx => catBytes_any o ho nx hnx wx
  have HWr : Hid (∀ w1, Grew (fun _ => False) w w1 → Calls Try.prog 42 #[.pointer (some ⟨d, 0, none⟩), .int .i64 (IntKind.i64.wrap (2 + (i : Int))), .string (entB o nx)] w1 fun e w' => e = .returned (.tuple #[]) ∧ DK d bs bt n (wroteT T (2 + i) (entB o nx)) w' ∧ Grew (DkOwn d bs bt) w w') := Lib.hid fun w1 g1 => by
    have e2 : IntKind.i64.wrap (2 + (i : Int)) = ((2 + i : Nat) : Int) := by rw [IntWalk.i64_in _ (by omega)]; rfl
    rw [e2]
    refine (dkWrite (h.keep g1 fun _ _ e => e) (2 + i) hi (entB o nx) (by rw [entB_size]; exact Nat.le_refl _)).mono ?_
    rintro e w' ⟨he, hd, hg⟩
    exact ⟨he, hd, (g1.mono fun _ _ e => e.elim).trans hg⟩
  generalize wroteT T (2 + i) (entB o nx) = U at *
  generalize entB o nx = t at *
  have hn' : (i : Int) < 1000 := by omega
  obtain ⟨id, parent, only, size, root, born⟩ := o
  have HK : Hid (∀ w1, Grew (DkOwn d bs bt) w w1 → (w1.cell? ⟨xd, 0, none⟩ = some (.pointer (some ⟨d, 0, none⟩)) ∧ w1.cell? ⟨xi, 0, none⟩ = some (.int .i64 (i : Int)) ∧ (w1.cell? ⟨xe, 0, none⟩ = some (.int .u32 id) ∧ w1.cell? ⟨xe, 1, none⟩ = some (.int .u32 parent) ∧ w1.cell? ⟨xe, 2, none⟩ = some (.bool only) ∧ w1.cell? ⟨xe, 3, none⟩ = some (.int .i64 size) ∧ w1.cell? ⟨xe, 4, none⟩ = some (.int .i64 root) ∧ w1.cell? ⟨xe, 5, none⟩ = some (.int .u32 born)) ∧ w1.cell? ⟨xn, 0, none⟩ = some (.int .i64 (nx : Int)))) := Lib.hid fun w1 g1 => by
    have hl : xe < w.heap.size := (Array.getElem?_eq_some_iff.1 be).1
    have be1 : w1.heap[xe]? = some (.cells (⟨id, parent, only, size, root, born⟩ : EN).cells 58) := (g1.block xe hl (hno xe (by simp))).trans be
    exact ⟨(bd.keep g1 (hno xd (by simp))).cell, (bi.keep g1 (hno xi (by simp))).cell, six be1, (bn.keep g1 (hno xn (by simp))).cell⟩
  have HD : Hid (∀ w1, Below w.heap.size w.drew w1 → Grew (fun _ => False) w w1) := Lib.hid fun w1 hb => ((Grew.refl w).drew).trans (Grew.of_below hb)
  have HF : Hid (∀ w1, Grew (fun _ => False) w w1 → Grew (DkOwn d bs bt) w w1) := Lib.hid fun w1 g => g.mono fun _ _ e => e.elim
  have k0 := HK.out w.drew ((Grew.refl w).drew)
  clear h bd bi be bn hno hi hnx ho hn
  dsimp only [EN.cells] at HBy
  go_enter Try.func41, Try.ntmps41
  go_region_held3 (fun wx => (wx.cell? ⟨xd, 0, none⟩ = some (.pointer (some ⟨d, 0, none⟩)) ∧ wx.cell? ⟨xi, 0, none⟩ = some (.int .i64 (i : Int)) ∧ (wx.cell? ⟨xe, 0, none⟩ = some (.int .u32 id) ∧ wx.cell? ⟨xe, 1, none⟩ = some (.int .u32 parent) ∧ wx.cell? ⟨xe, 2, none⟩ = some (.bool only) ∧ wx.cell? ⟨xe, 3, none⟩ = some (.int .i64 size) ∧ wx.cell? ⟨xe, 4, none⟩ = some (.int .i64 root) ∧ wx.cell? ⟨xe, 5, none⟩ = some (.int .u32 born)) ∧ wx.cell? ⟨xn, 0, none⟩ = some (.int .i64 (nx : Int))))
    (first | exact k0 | exact HK.out _ (HF.out _ HG1.out) | exact HK.out _ HG2.out)
    (first
      | (go_at_call 43; (with_reducible refine (HBy.out _).mono ?_); rintro e w1 ⟨rfl, hb1⟩; (have HG1 := Lib.hid (HD.out _ hb1)); clear hb1)
      | (go_at_call 42; (with_reducible refine (HWr.out _ HG1.out).mono ?_); rintro e w2 ⟨rfl, hd2, hg2⟩; (have HG2 := Lib.hid hg2); (have HD2 := Lib.hid hd2); clear hd2 hg2))
  go_wp2_with fail
  go_end0
  exact ⟨rfl, HG2.out, HD2.out⟩
end
end Go.Proofs.Ytjjmapmombhmlaa

/-
  What CatalogAdopts' Guards answer: contracts.
-/
namespace Go.Proofs.Ytjjmapmombhmlaa
open Go.RowKit Go.Maps Go.ChangeMaps Go.WideShapes
section
variable {d bs bt n : Nat} {T : Nat → UInt8} {w w' : World}
theorem DK.own_lt (h : DK d bs bt n T w) {x : Nat} (hx : DkOwn d bs bt x) : x < w.heap.size := by
  obtain ⟨M, hM, rfl, rfl, rfl, _⟩ := h
  rcases hx with rfl | rfl | rfl
  · exact hM.lt
  · exact hM.sure.lt
  · exact hM.there.lt
set_option maxRecDepth 100000 in
theorem gC1_any (h : DK d bs bt n T w) (i : Nat) (hi : 2 + i < n) (hn : n < 1000) (o : EN) (ho : o.fits) (nx : Nat) (hnx : nx < 65536) (xd xi xe xn : Nat) (bd : Box xd 41 (.pointer (some ⟨d, 0, none⟩)) w) (bi : Box xi 3 (.int .i64 (i : Int)) w) (be : w.heap[xe]? = some (.cells o.cells 58)) (bn : Box xn 3 (.int .i64 (nx : Int)) w) (hno : ∀ x, (x = xd ∨ x = xi ∨ x = xe ∨ x = xn) → ¬ DkOwn d bs bt x) :
    Calls Try.prog 17 #[.func (.func 41) #[] #[.pointer (some ⟨xd, 0, none⟩), .pointer (some ⟨xi, 0, none⟩), .pointer (some ⟨xe, 0, none⟩), .pointer (some ⟨xn, 0, none⟩)]] w fun e w' => e = .returned (.int .i64 0) ∧ DK d bs bt n (wroteT T (2 + i) (entB o nx)) w' ∧ Grew (DkOwn d bs bt) w w' := by
  have hl : xe < w.heap.size := (Array.getElem?_eq_some_iff.1 be).1
  refine guard_ok _ _ (DkOwn d bs bt) _ (fun e => Nat.lt_irrefl _ (h.own_lt e)) (fun _ => by rfl) (fun w1 w2 hq hg => hq.keep hg fun x hx e => ?_) ?_
  · have := h.own_lt hx
    omega
  · exact adC1_any (h.keep ((Grew.refl (S := fun _ => False) w).alloc errBox) fun _ _ e => e) i hi hn o ho nx hnx xd xi xe xn (bd.keepAlloc _) (bi.keepAlloc _) ((Below.heap_alloc _ _ _ hl).trans be) (bn.keepAlloc _) hno
theorem adC2_any (h : DK d bs bt n T w) (i : Nat) (hi : 2 + i < n) (hn : n < 1000) (xd xi : Nat) (bd : Box xd 41 (.pointer (some ⟨d, 0, none⟩)) w) (bi : Box xi 3 (.int .i64 (i : Int)) w) :
    Calls Try.prog 44 #[.pointer (some ⟨xd, 0, none⟩), .pointer (some ⟨xi, 0, none⟩)] w fun e w' => e = .returned (.tuple #[]) ∧ Grew (DkOwn d bs bt) w w' ∧ DK d bs bt n (bendF T ((2 + i) * 64 + 7) 9) w' := by
  have HSp : Hid (Calls Try.prog 45 #[.pointer (some ⟨d, 0, none⟩), .int .i64 (2 + (i : Int)), .int .i64 7, .int .u8 9] w fun e w' => e = .returned (.tuple #[]) ∧ DK d bs bt n (bendF T ((2 + i) * 64 + 7) 9) w' ∧ Grew (DkOwn d bs bt) w w') := Lib.hid (dkSpoil h (2 + i) 7 9 hi (by decide))
  generalize bendF T ((2 + i) * 64 + 7) 9 = U at *
  have hn' : (i : Int) < 1000 := by omega
  have c1 := bd.cell
  have c2 := bi.cell
  clear h hi hn bd bi
  go_enter Try.func44, Try.ntmps44
  go_wp2_with fail
  refine HSp.out.mono ?_
  rintro e w1 ⟨rfl, hd, hg⟩
  have HX := Lib.hid (And.intro hg hd)
  clear hd hg
  go_wp2_with fail
  go_end0
  exact ⟨rfl, HX.out⟩
set_option maxRecDepth 100000 in
theorem gC2_any (h : DK d bs bt n T w) (i : Nat) (hi : 2 + i < n) (hn : n < 1000) (xd xi : Nat) (bd : Box xd 41 (.pointer (some ⟨d, 0, none⟩)) w) (bi : Box xi 3 (.int .i64 (i : Int)) w) :
    Calls Try.prog 17 #[.func (.func 44) #[] #[.pointer (some ⟨xd, 0, none⟩), .pointer (some ⟨xi, 0, none⟩)]] w fun e w' => e = .returned (.int .i64 0) ∧ DK d bs bt n (bendF T ((2 + i) * 64 + 7) 9) w' ∧ Grew (DkOwn d bs bt) w w' := by
  refine guard_ok _ _ (DkOwn d bs bt) _ (fun e => Nat.lt_irrefl _ (h.own_lt e)) (fun _ => by rfl) (fun w1 w2 hq hg => hq.keep hg fun x hx e => ?_) ?_
  · have := h.own_lt hx
    omega
  · exact adC2_any (h.keep ((Grew.refl (S := fun _ => False) w).alloc errBox) fun _ _ e => e) i hi hn xd xi (bd.keepAlloc _) (bi.keepAlloc _)
end
section
variable {b : HB} {T : Nat → UInt8} {w w' : World}
/-- what a Guard of catalog.Adopt leaves in the box for what it answers -/
def GotEnd (b : HB) (T : Nat → UInt8) (R : Option Int × List EN) (xg : Nat) (w w' : World) : Prop :=
  (R.1 = none → ∃ a c, Box xg 55 (.slice a R.2.length c) w' ∧ w'.ownsRow w.heap.size 58 6 (.slice a R.2.length c) R.2.length (entRows R.2) ∧ ∃ H, AdAt b T H w' ∧ HeldL b H R.2.length) ∧ (∀ k, R.1 = some k → Box xg 55 (.slice none 0 0) w') ∧ Grew (fun k => (TrySet b k ∨ k = b.rb) ∨ k = xg) w w'
theorem adC3_any (ok : b.ok) (at' : Nat) (hat : at' < 65536) (h : AdAt b T [] w) (xh xa xg : Nat) (bh : Box xh 43 (.pointer (some ⟨b.hb, 0, none⟩)) w) (ba : Box xa 3 (.int .i64 (at' : Int)) w) (bg : Box xg 55 (.slice none 0 0) w) (sg : ¬ b.S0 xg) :
    Calls Try.prog 46 #[.pointer (some ⟨xh, 0, none⟩), .pointer (some ⟨xa, 0, none⟩), .pointer (some ⟨xg, 0, none⟩)] w fun e w' => e = Ends (adRun b T (b.n + 1) [] [] at').1 ∧ GotEnd b T (adRun b T (b.n + 1) [] [] at') xg w w' := by
  have HA := Lib.hid (adopt_any ok at' hat h)
  have hsz := h.size
  have c1 := bh.cell
  have c2 := ba.cell
  have HB := Lib.hid bg
  have HSg := Lib.hid sg
  clear h bh ba bg sg hat
  generalize adRun b T (b.n + 1) [] [] at' = R at *
  obtain ⟨o, L⟩ := R
  unfold AdoptEnd at HA
  cases o with
  | some k =>
    go_enter Try.func46, Try.ntmps46
    go_wp2_with fail
    refine HA.out.mono ?_
    rintro e w1 ⟨rfl, hg⟩
    have HX : Hid (GotEnd b T (some k, L) xg w w1) := Lib.hid ⟨(fun h => by cases h), fun _ _ => HB.out.keep hg fun e => HSg.out (adSet0 e), hg.mono fun _ _ e => Or.inl e⟩
    clear hg HA
    unfold failed
    go_wp2_with fail
    exact ⟨rfl, rfl, HX.out⟩
  | none =>
    go_enter Try.func46, Try.ntmps46
    go_wp2_with fail
    refine HA.out.mono ?_
    rintro e w1 ⟨⟨a, c, rfl, hown, H, hA, hl⟩, hg⟩
    have bg1 := HB.out.keep hg fun e => HSg.out (adSet0 e)
    have d1 := bg1.cell
    have d2 := bg1.free
    have HX : Hid (GotEnd b T (none, L) xg w (w1.setCell ⟨xg, 0, none⟩ (.slice a L.length c))) := Lib.hid (by
      have gs : Grew (fun k => k = xg) w1 (w1.setCell ⟨xg, 0, none⟩ (.slice a L.length c)) := (Grew.refl w1).setCell _ _ fun _ => rfl
      have hlt := HB.out.lt
      exact ⟨fun _ => ⟨a, c, bg1.set _, own_keepN hown gs fun q hq e => by
        have := (hown.lt q hq).1
        omega, H, hA.keep gs fun x hx e => HSg.out (e ▸ hx), hl⟩, (fun _ h => by cases h), (hg.mono fun _ _ e => Or.inl e).step gs fun _ _ e => Or.inr e⟩)
    clear hg HA hown hA hl bg1
    go_wp2_with fail
    go_end0
    exact ⟨rfl, HX.out⟩
set_option maxRecDepth 100000 in
theorem gC3_any (ok : b.ok) (at' : Nat) (hat : at' < 65536) (h : AdAt b T [] w) (xh xa xg : Nat) (bh : Box xh 43 (.pointer (some ⟨b.hb, 0, none⟩)) w) (ba : Box xa 3 (.int .i64 (at' : Int)) w) (bg : Box xg 55 (.slice none 0 0) w) (sg : ¬ b.S0 xg) :
    Calls Try.prog 17 #[.func (.func 46) #[] #[.pointer (some ⟨xh, 0, none⟩), .pointer (some ⟨xa, 0, none⟩), .pointer (some ⟨xg, 0, none⟩)]] w fun e w' => e = .returned (.int .i64 ((adRun b T (b.n + 1) [] [] at').1.getD 0)) ∧ GotEnd b T (adRun b T (b.n + 1) [] [] at') xg w w' := by
  have hsz := h.size
  have hlt := bg.lt
  have hS : ¬ ((TrySet b w.heap.size ∨ w.heap.size = b.rb) ∨ w.heap.size = xg) := by
    rintro (e | e)
    · have := HB.s0_lt ok (adSet0 e)
      omega
    · omega
  have g0 : Grew (fun _ => False) w (w.alloc errBox) := (Grew.refl w).alloc errBox
  refine (guard_grew 46 _ w (fun k => (TrySet b k ∨ k = b.rb) ∨ k = xg) (fun o w1 => o = (adRun b T (b.n + 1) [] [] at').1 ∧ GotEnd b T (adRun b T (b.n + 1) [] [] at') xg (w.alloc errBox) w1) hS (fun _ => by rfl) ?_).mono ?_
  · refine (adC3_any ok at' hat (h.alloc errBox) xh xa xg (bh.keepAlloc _) (ba.keepAlloc _) (bg.keepAlloc _) sg).mono ?_
    rintro e w1 ⟨rfl, hG⟩
    exact ⟨_, rfl, hG.2.2, rfl, hG⟩
  · rintro e w' ⟨o, w1, rfl, ⟨rfl, h1, h2, h3⟩, rfl, hg, hlt2⟩
    have gd := done_one w.heap.size (adRun b T (b.n + 1) [] [] at').1 w1
    generalize adRun b T (b.n + 1) [] [] at' = R at *
    refine ⟨rfl, fun hn => ?_, fun k hk => (h2 k hk).keep gd (by omega), hg⟩
    obtain ⟨a, c, hb, hown, H, hA, hl⟩ := h1 hn
    rw [World.size_alloc] at hown
    exact ⟨a, c, hb.keep gd (by omega), own_base (own_keepN hown gd fun q hq e => by have := (hown.lt q hq).1; omega) (Nat.le_succ _), H, hA.keep gd fun x hx e => by
      have := HB.s0_lt ok hx
      omega, hl⟩
end
end Go.Proofs.Ytjjmapmombhmlaa
