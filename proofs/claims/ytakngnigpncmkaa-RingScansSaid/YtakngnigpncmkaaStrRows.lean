/-
  Rows of texts that grow: append of texts, and where the new row lies.
-/
import Derived.Test.YtakngnigpncmkaaRingSame
import Derived.Test.YtakngnigpncmkaaCut
namespace Go.Proofs.Ytakngnigpncmkaa
open Go.RowKit

/-- what an append of texts leaves: the row, what else has turned, where it lies -/
structure MoreStrs (w : World) (B : Nat) (v : Value) (l k : List ByteArray) (g cap : Nat) (w' : World) : Prop where
  own : w'.ownsRow B 9 1 (.slice (some ⟨g, 0, none⟩) (l.length + k.length) cap) (l.length + k.length) (textsOf (l ++ k))
  grown : w.grownBy w' v.ownBlock
  lies : v.ownBlock = some g ∨ g = w.heap.size
  lt : g < w'.heap.size
theorem wpList_more_strs {w : World} {ops : Array Oper} {rest : List Oper} {o : Oper} {a : Act} {Q : Exit → Act → World → Prop} (hgd : o.guard = none) (s x : Operand)
    (ho : o.op = .call { callee := .builtin .append, args := #[s, x], argTypes := #[26, 26] })
    (B : Nat) (v : Value) (l k : List ByteArray) (hs : a.eval s = v) (n : Nat) (hn : l.length = n) (hown : w.ownsRow B 9 1 v n (textsOf l)) (b m c : Nat) (hx : a.eval x = .slice (some ⟨b, 0, none⟩) m c) (hm : k.length = m)
    (hk : ∀ i (h : i < k.length), w.cell? ⟨b, i, none⟩ = some (.string k[i])) (h0 : 0 < m) (hl : n + m < 1000000) (hB : B ≤ w.heap.size)
    (h : ∀ g cap w', MoreStrs w B v l k g cap w' → wpList Try.prog ops Q rest (a.put o.dst (.slice (some ⟨g, 0, none⟩) (n + m) cap)) w') : wpList Try.prog ops Q (o :: rest) a w := by
  subst hn hm
  obtain ⟨i0, hi, hz0, hz1, hz2⟩ := info_parts infoStr
  refine wpList_append_lies w hgd s x 26 ho B 9 i0 (.string ⟨#[]⟩) 1 16 Try.underlying26 hi hz0 hz1 hz2 rfl (by decide) v _ _ hs hown ⟨b, 0, none⟩ k.length c (textsOf k) hx (by simp [textsOf]) (fun j u hu => ?_) (fun u hu => ?_) h0 (by unfold maxLen; omega) (by omega) hB _ rfl fun g cap w' h1 h2 h3 h4 => h g cap w' ⟨?_, h2, h3, h4⟩
  · unfold textsOf at hu
    rw [List.getElem?_map] at hu
    by_cases hj : j < k.length
    · rw [List.getElem?_eq_getElem hj] at hu
      rw [Addr.add_lit]
      have := hk j hj
      simp only [Option.map_some, Option.some.injEq] at hu
      rw [← hu]
      simpa using this
    · rw [List.getElem?_eq_none (by omega)] at hu
      simp at hu
  · unfold textsOf at hu
    obtain ⟨t, _, rfl⟩ := List.mem_map.1 hu
    rfl
  · have e : textsOf (l ++ k) = textsOf l ++ textsOf k := by simp [textsOf]
    rw [e]
    exact h1
theorem one_str (w : World) (t : ByteArray) : ∀ i (h : i < [t].length), (w.alloc (.cells #[.string t] 9)).cell? ⟨w.heap.size, i, none⟩ = some (.string [t][i]) := fun i h => by
  have : i = 0 := by simpa using h
  subst this
  exact boxNew rfl
theorem MoreStrs.below {w W w' : World} {B C : Nat} {v : Value} {l k : List ByteArray} {g cap n : Nat} {xs : List Value} (h : MoreStrs w B v l k g cap w') (hb : Below C W w) (ho : w.ownsRow B 9 1 v n xs) (hC : C ≤ B) (hs : C ≤ w.heap.size) : Below C W w' :=
  hb.grown h.grown hs (fun q hq => Nat.le_trans hC (ho.lt q hq).1)
theorem own_none (w : World) : (w.alloc (.cells #[] 9)).ownsRow w.heap.size 9 1 (.slice (some ⟨w.heap.size, 0, none⟩) 0 0) 0 (textsOf []) := World.ownsRow_lit (base := w.heap.size) (e := 9) (size := 1) w #[] 0 (Nat.le_refl _) (by decide) rfl
/-- texts that were handed in: nothing, or a row of the world -/
def StrsIn (w : World) (a : Option Addr) (l : Nat) (ss : Nat → ByteArray) : Prop :=
  l = 0 ∨ ∃ b off, a = some ⟨b, off, none⟩ ∧ ∀ i, i < l → w.cell? ⟨b, off + i, none⟩ = some (.string (ss i)) ∧ (ss i).size ≤ maxLen
theorem StrsIn.below {w w' : World} {a : Option Addr} {l : Nat} {ss : Nat → ByteArray} (h : StrsIn w a l ss) (k : Below w.heap.size w w') : StrsIn w' a l ss := by
  rcases h with h | ⟨b, off, rfl, hr⟩
  · exact Or.inl h
  · exact Or.inr ⟨b, off, rfl, fun i hi => ⟨by rw [k.cell (cell_lt (hr i hi).1)]; exact (hr i hi).1, (hr i hi).2⟩⟩
/-- a text, cut at 150 bytes -/
def cut150 (s : ByteArray) : ByteArray := s.extract 0 (min 150 s.size)
theorem cut150_size (s : ByteArray) : (cut150 s).size ≤ 150 := by unfold cut150; rw [ByteArray.size_extract]; omega
def fewOf (l : Nat) (ss : Nat → ByteArray) : List ByteArray := (List.range (min l 12)).map fun i => cut150 (ss i)
theorem fewOf_len (l : Nat) (ss : Nat → ByteArray) : (fewOf l ss).length = min l 12 := by simp [fewOf]
theorem fewOf_size {l : Nat} {ss : Nat → ByteArray} {t : ByteArray} (h : t ∈ fewOf l ss) : t.size ≤ 150 := by
  unfold fewOf at h
  obtain ⟨i, _, rfl⟩ := List.mem_map.1 h
  exact cut150_size _
set_option maxRecDepth 10000 in
set_option maxHeartbeats 2000000 in
theorem few_any (a : Option Addr) (l c : Nat) (ss : Nat → ByteArray) (w : World) (hin : StrsIn w a l ss) :
    Calls Try.prog 42 #[.slice a l c] w fun e w' => ∃ v, e = .returned v ∧ w'.ownsRow w.heap.size 9 1 v (fewOf l ss).length (textsOf (fewOf l ss)) ∧ Below w.heap.size w w' := by
  have HA := Lib.hid hin
  clear hin
  have HC : Hid (∀ i wx, (ss i).size ≤ maxLen → Calls Try.prog 33 #[.string (ss i), .int .i64 150] wx fun e w' => e = .returned (.string (cut150 (ss i))) ∧ wx = w') := Lib.hid fun i wx h => cut_any (ss i) 150 wx h (by decide)
  obtain ⟨T, hT⟩ : ∃ T : Nat → ByteArray, (fun i => cut150 (ss i)) = T := ⟨_, rfl⟩
  have hTi : ∀ i, cut150 (ss i) = T i := fun i => by rw [← hT]
  simp only [hTi] at HC
  have HL := Lib.hid (fewOf_len l ss)
  have HF : Hid (fewOf l ss = (List.range (min l 12)).map T) := Lib.hid (by unfold fewOf; rw [hT])
  clear hT hTi
  go_enter Try.func42, Try.ntmps42
  go_wp2_with fail
  have hO0 := own_none w
  have hB0 : Below w.heap.size w (w.alloc (.cells #[] 9)) := (Below.refl _ _).alloc (Nat.le_refl _) _
  generalize w.alloc (.cells #[] 9) = W at *
  go_loopw [3, 4] (fun v i wx => ∃ k : Nat, k ≤ l ∧ k ≤ 12 ∧ i = .int .i64 k ∧ wx.ownsRow w.heap.size 9 1 v k (textsOf ((List.range k).map T)) ∧ Below w.heap.size w wx) (fun _ i _ => 12 - (intOf i).toNat)
  case atStart => exact ⟨0, by omega, by omega, rfl, hO0, hB0⟩
  case round =>
    obtain ⟨k, hk1, hk2, rfl, ho, hB⟩ := hrel
    have HO := Lib.hid ho
    have HB := Lib.hid hB
    clear ho hB hO0 hB0
    by_cases hlt : k < l ∧ k < 12
    · have j1 : (k : Int) < (l : Int) := by omega
      have j2 : (k : Int) < 12 := by omega
      have j3 : (0 : Int) ≤ (k : Int) := by omega
      rcases HA.out with hz | ⟨b, off, rfl, hr⟩
      · omega
      obtain ⟨r1, r2⟩ := hr k hlt.1
      have hbw := cell_lt r1
      have q1 : wr.cell? ⟨b, off + k, none⟩ = some (.string (ss k)) := by rw [HB.out.cell hbw]; exact r1
      have HCk := Lib.hid fun wx => HC.out k wx r2
      have hsz := HB.out.size
      clear hr r1 r2 hbw
      generalize ss k = sk at *
      go_wp2_with (first
        | (go_at_call 33; (with_reducible refine (HCk.out _).mono ?_); rintro e w1 ⟨rfl, rfl⟩)
        | (at_builtin; (refine wpList_more_strs rfl _ _ rfl w.heap.size _ _ [T k] rfl k (by simp) (HO.out.alloc (.cells #[.string (T k)] 9)) wr.heap.size 1 1 rfl rfl (one_str wr (T k)) (by decide) (by omega) (by simp; omega) ?_); (intro g cap w3 hm); (have HM := Lib.hid hm); (have HB3 := Lib.hid (hm.below (HB.out.alloc HB.out.size _) (HO.out.alloc (.cells #[.string (T k)] 9)) (Nat.le_refl _) (by simp; omega))); clear hm))
      go_roundw
      case rel => exact ⟨k + 1, by omega, by omega, by go_num, by have := HM.out.own; rw [List.range_succ]; simpa using this, HB3.out⟩
      case measure => simp [intOf]; omega
    · have HEnd : Hid (¬ ((k : Int) < (l : Int)) ∨ ((k : Int) < (l : Int) ∧ ¬ (k : Int) < 12)) := Lib.hid (by omega)
      have HKm : Hid (k = min l 12) := Lib.hid (by omega)
      clear hlt
      rcases HEnd.out with j1 | ⟨j1, j2⟩
      all_goals
        go_wp2_with fail
        go_ret
        refine ⟨_, rfl, ?_, HB.out⟩
        rw [HL.out, HF.out, ← HKm.out]
        exact HO.out
end Go.Proofs.Ytakngnigpncmkaa
