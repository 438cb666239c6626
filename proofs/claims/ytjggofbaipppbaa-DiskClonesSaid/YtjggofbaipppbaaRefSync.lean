/-
  The document's own disk: Sync and Write: contracts.
-/
import Derived.Test.YtjggofbaipppbaaRefDisk
import Derived.Laws.AppendOwnNone
namespace Go.Proofs.Ytjggofbaipppbaa
open Go.RowKit

/-- four cells of a block -/
structure Quad (x : Nat) (v0 v1 v2 v3 : Value) (w : World) : Prop where
  at' : w.heap[x]? = some (.cells #[v0, v1, v2, v3] 28)
theorem Quad.lt {x : Nat} {v0 v1 v2 v3 : Value} {w : World} (h : Quad x v0 v1 v2 v3 w) : x < w.heap.size := by
  rcases Nat.lt_or_ge x w.heap.size with h1 | h1
  · exact h1
  · have := h.at'
    rw [Array.getElem?_eq_none h1] at this
    cases this
theorem Quad.keep {x : Nat} {v0 v1 v2 v3 : Value} {w w' : World} (h : Quad x v0 v1 v2 v3 w) (k : Below w.heap.size w w') : Quad x v0 v1 v2 v3 w' := ⟨by rw [k.block x h.lt]; exact h.at'⟩
theorem Quad.cells {x : Nat} {v0 v1 v2 v3 : Value} {w : World} (h : Quad x v0 v1 v2 v3 w) : (w.cell? ⟨x, 0, none⟩ = some v0 ∧ w.cell? ⟨x, 1, none⟩ = some v1 ∧ w.cell? ⟨x, 2, none⟩ = some v2 ∧ w.cell? ⟨x, 3, none⟩ = some v3) ∧ w.frozen? ⟨x, 0, none⟩ = false ∧ w.frozen? ⟨x, 1, none⟩ = false ∧ w.frozen? ⟨x, 2, none⟩ = false ∧ w.frozen? ⟨x, 3, none⟩ = false := by
  have h1 := h.at'
  simp [World.cell?, World.frozen?, h1]
theorem infoText : (Try.prog.info? 9).map (fun i => (i.zero, i.size, i.bytes)) = some (some (.string ⟨#[]⟩), 1, 16) := by kernel_rfl
theorem TextsAt.keep {S : Nat → Prop} {w w' : World} {a : Option Addr} {n : Nat} {f : Nat → UInt8} (h : TextsAt w a n f) (k : Grew S w w') (hS : ∀ b, a = some ⟨b, 0, none⟩ → ¬ S b) : TextsAt w' a n f := by
  rcases h with h | ⟨b, rfl, hr⟩
  · exact Or.inl h
  · exact Or.inr ⟨b, rfl, fun i hi => by rw [k.cell (cell_lt (hr i hi)) (hS b rfl)]; exact hr i hi⟩
/-- the texts of a row, as values -/
def textsOf (f : Nat → UInt8) (n : Nat) : List Value := (List.range n).map fun i => .string ⟨(sec f i).toArray⟩
theorem textsOf_get (f : Nat → UInt8) (n i : Nat) (h : i < n) : (textsOf f n)[i]? = some (.string ⟨(sec f i).toArray⟩) := by simp [textsOf, h]
/-- a row of texts is copied: append to a new empty one -/
theorem wpList_copy_texts {ops : Array Oper} {rest : List Oper} {o : Oper} {a : Act} {Q : Exit → Act → World → Prop} (hgd : o.guard = none) (s x : Operand)
    (ho : o.op = .call { callee := .builtin .append, args := #[s, x], argTypes := #[26, 26] }) (X : World) (na : Option Addr) (n nc : Nat) (f : Nat → UInt8)
    (hs : a.eval s = .slice (some ⟨X.heap.size, 0, none⟩) 0 0) (hx : a.eval x = .slice na n nc) (ht : TextsAt X na n f) (hn : n ≤ 4096) (hz : na = none → nc = 0)
    (h : ∀ g cap w', TextsAt w' (some ⟨g, 0, none⟩) n f → (∀ j, w'.frozen? ⟨g, j, none⟩ = false) → Below X.heap.size X w' → X.heap.size ≤ g → wpList Try.prog ops Q rest (a.put o.dst (.slice (some ⟨g, 0, none⟩) n cap)) w') :
    wpList Try.prog ops Q (o :: rest) a (X.alloc (.cells #[] 9)) := by
  obtain ⟨i0, hi, hz0, hz1, hz2⟩ := info_parts infoText
  have hown : (X.alloc (.cells #[] 9)).ownsRow X.heap.size 9 1 (.slice (some ⟨X.heap.size, 0, none⟩) 0 0) 0 [] := World.ownsRow_lit X #[] 0 (Nat.le_refl _) (by decide) rfl
  have hB0 : Below X.heap.size X (X.alloc (.cells #[] 9)) := (Below.refl _ _).alloc (Nat.le_refl _) _
  have fin : ∀ ad, na = some ad → (∀ j u, (textsOf f n)[j]? = some u → (X.alloc (.cells #[] 9)).cell? (ad.add j) = some u) → wpList Try.prog ops Q (o :: rest) a (X.alloc (.cells #[] 9)) := by
    intro ad e hnews
    subst e
    refine wpList_append_own _ hgd s x 26 ho X.heap.size 9 i0 (.string ⟨#[]⟩) 1 16 Try.underlying26 hi hz0 hz1 hz2 rfl (by decide) _ 0 [] hs hown ad n nc (textsOf f n) hx (by simp [textsOf]) hnews ?_ (by unfold maxLen; omega) (by omega) (by simp) ?_
    · intro u hu
      obtain ⟨_, _, rfl⟩ := List.mem_map.1 hu
      rfl
    · intro v' w1 hown' hgrow hne
      simp only [Nat.zero_add, List.nil_append] at hown'
      obtain ⟨hlen, ⟨e, _⟩ | ⟨g, cap, cur, rfl, hg1, hg2, hg3, hg4, hg5, hg6⟩⟩ := id hown'
      · subst e
        have := hne.1 rfl
        simp at this
      · refine h g cap w1 ?_ (fun j => hown'.frozenAt j) (hB0.grown hgrow (by simp) (fun k hk => by simp [Value.ownBlock] at hk; omega)) hg1
        refine Or.inr ⟨g, rfl, fun i hi => ?_⟩
        rw [hown'.cellAt i (by omega), textsOf_get f n i hi]
  rcases ht with h0 | ⟨b, rfl, hr⟩
  · subst h0
    cases na with
    | none =>
      obtain rfl : nc = 0 := hz rfl
      refine wpList_append_own_none hgd s x 26 ho X.heap.size 9 i0 1 Try.underlying26 hi _ 0 [] hs hown hx ?_
      exact h X.heap.size 0 _ (Or.inl rfl) (fun j => by simp) hB0 (Nat.le_refl _)
    | some ad => exact fin ad rfl fun j u hu => by simp [textsOf] at hu
  · refine fin ⟨b, 0, none⟩ rfl fun j u hu => ?_
    have hj : j < n := by
      rcases Nat.lt_or_ge j n with a | a
      · exact a
      · rw [List.getElem?_eq_none (by simpa [textsOf] using a)] at hu; cases hu
    rw [textsOf_get f n j hj] at hu
    have e : (⟨b, 0, none⟩ : Addr).add j = ⟨b, j, none⟩ := by unfold Addr.add; split <;> simp_all
    rw [e, World.cell?_alloc_past (hn := cell_lt (hr j hj)), hr j hj]
    exact hu
/-- what is known behind the copy: of the struct at y, whose first field is stored, and of the one at x, which it is stored to -/
def QuadsAt (y x : Nat) (v0 v1 v2 v3 v : Value) (w : World) : Prop :=
  w.cell? ⟨y, 0, none⟩ = some v0 ∧ w.frozen? ⟨y, 0, none⟩ = false ∧
  ((w.setCell ⟨y, 0, none⟩ v).cell? ⟨y, 0, none⟩ = some v ∧ (w.setCell ⟨y, 0, none⟩ v).cell? ⟨y, 1, none⟩ = some v1 ∧ (w.setCell ⟨y, 0, none⟩ v).cell? ⟨y, 2, none⟩ = some v2 ∧ (w.setCell ⟨y, 0, none⟩ v).cell? ⟨y, 3, none⟩ = some v3) ∧
  ((w.setCell ⟨y, 0, none⟩ v).cell? ⟨x, 0, none⟩ = some (.slice none 0 0) ∧ (w.setCell ⟨y, 0, none⟩ v).cell? ⟨x, 1, none⟩ = some (.slice none 0 0) ∧ (w.setCell ⟨y, 0, none⟩ v).cell? ⟨x, 2, none⟩ = some (.int .i64 0) ∧ (w.setCell ⟨y, 0, none⟩ v).cell? ⟨x, 3, none⟩ = some (.bool false)) ∧
  (w.setCell ⟨y, 0, none⟩ v).frozen? ⟨x, 0, none⟩ = false ∧ (w.setCell ⟨y, 0, none⟩ v).frozen? ⟨x, 1, none⟩ = false ∧ (w.setCell ⟨y, 0, none⟩ v).frozen? ⟨x, 2, none⟩ = false ∧ (w.setCell ⟨y, 0, none⟩ v).frozen? ⟨x, 3, none⟩ = false ∧
  (((((w.setCell ⟨y, 0, none⟩ v).setCell ⟨x, 0, none⟩ v).setCell ⟨x, 1, none⟩ v1).setCell ⟨x, 2, none⟩ v2).setCell ⟨x, 3, none⟩ v3).heap[x]? = some (.cells #[v, v1, v2, v3] 28)
theorem quads {y x : Nat} {v0 v1 v2 v3 : Value} {w : World} (h : Quad y v0 v1 v2 v3 w) (k : Quad x (.slice none 0 0) (.slice none 0 0) (.int .i64 0) (.bool false) w) (hne : x ≠ y) (v : Value) : QuadsAt y x v0 v1 v2 v3 v w := by
  have hq5 : Quad y v v1 v2 v3 (w.setCell ⟨y, 0, none⟩ v) := ⟨by have := h.at'; simp [World.setCell, Array.getElem?_modify, this]⟩
  have hq6 : Quad x (.slice none 0 0) (.slice none 0 0) (.int .i64 0) (.bool false) (w.setCell ⟨y, 0, none⟩ v) := ⟨by rw [Below.heap_setCell _ _ _ _ hne]; exact k.at'⟩
  obtain ⟨a1, b1, _⟩ := h.cells
  obtain ⟨a2, _⟩ := hq5.cells
  obtain ⟨a3, b3⟩ := hq6.cells
  exact ⟨a1.1, b1, a2, a3, b3.1, b3.2.1, b3.2.2.1, b3.2.2.2, quad_set hq6.at' v v1 v2 v3⟩
set_option maxHeartbeats 1000000 in
theorem refSync_any (r : RefM) (w : World) (h : RefAt r w) (hl : r.left ≤ 2 ^ 62) :
    Calls Try.prog 40 #[.agg r.cells] w fun e w' => ∃ o r', e = .returned (.tuple #[.agg r'.cells, .int .i64 o]) ∧ (∃ r1, RefSpent r o r1 ∧ r'.n = r.n ∧ r'.T = r.T ∧ r'.left = r1.left ∧ r'.dead = r1.dead ∧ (o = 0 → r'.S = r.T) ∧ (¬ o = 0 → r'.S = r.S)) ∧ RefAt r' w' ∧ Below w.heap.size w w' := by
  have HSp := Lib.hid fun wx => refSpend_any r wx hl
  have H := Lib.hid h
  clear h hl
  obtain ⟨sa, na, n, sc, nc, S, T, l, d⟩ := r
  have e1 : (⟨sa, na, n, sc, nc, S, T, l, d⟩ : RefM).cells = #[.slice sa n sc, .slice na n nc, .int .i64 l, .bool d] := rfl
  rw [e1] at HSp ⊢
  clear e1
  go_enter Try.func40, Try.ntmps40
  go_wp2_with fail
  have q1 : Quad (w.heap.size + 1) (.slice none 0 0) (.slice none 0 0) (.int .i64 0) (.bool false) ((w.alloc (.cells #[.slice sa n sc, .slice na n nc, .int .i64 l, .bool d] 28)).alloc (.cells #[.slice none 0 0, .slice none 0 0, .int .i64 0, .bool false] 28)) := ⟨heap_alloc2_new w _ _⟩
  have HB := Lib.hid (two_below w (.cells #[.slice sa n sc, .slice na n nc, .int .i64 l, .bool d] 28) (.cells #[.slice none 0 0, .slice none 0 0, .int .i64 0, .bool false] 28))
  have HQ := Lib.hid q1
  clear q1
  generalize (w.alloc (.cells #[.slice sa n sc, .slice na n nc, .int .i64 l, .bool d] 28)).alloc (.cells #[.slice none 0 0, .slice none 0 0, .int .i64 0, .bool false] 28) = W at *
  refine (HSp.out _).mono ?_
  rintro e w1 ⟨o, r1, rfl, hS, f1, f2, f3, f4, f5, f6, f7, hb⟩
  obtain ⟨sa', na', n', sc', nc', S', T', l', d'⟩ := r1
  simp only at f1 f2 f3 f4 f5 f6 f7
  subst f1 f2 f3 f4 f5 f6 f7
  have HS := Lib.hid hS
  have HQ1 := Lib.hid (HQ.out.keep hb)
  have HB1 := Lib.hid (HB.out.trans (hb.mono HB.out.size))
  clear hS hb HQ HB HSp
  have e2 : (⟨sa', na', n', sc', nc', S', T', l', d'⟩ : RefM).cells = #[.slice sa' n' sc', .slice na' n' nc', .int .i64 l', .bool d'] := rfl
  rw [e2]
  clear e2
  by_cases ho : o = 0
  · subst ho
    have hlt1 := HQ1.out.lt
    have hq2 : Quad (w.heap.size + 1) (.slice none 0 0) (.slice none 0 0) (.int .i64 0) (.bool false) (w1.alloc (.cells #[.slice sa' n' sc', .slice na' n' nc', .int .i64 l', .bool d'] 28)) := HQ1.out.keep ((Below.refl _ _).alloc (Nat.le_refl _) _)
    have hq3 : Quad w1.heap.size (.slice sa' n' sc') (.slice na' n' nc') (.int .i64 l') (.bool d') (w1.alloc (.cells #[.slice sa' n' sc', .slice na' n' nc', .int .i64 l', .bool d'] 28)) := ⟨heap_alloc_new w1 _⟩
    have HBV : Hid (Below w.heap.size w (w1.alloc (.cells #[.slice sa' n' sc', .slice na' n' nc', .int .i64 l', .bool d'] 28))) := Lib.hid (HB1.out.alloc HB1.out.size _)
    go_upto_region 3 with fail
    generalize w1.alloc (.cells #[.slice sa' n' sc', .slice na' n' nc', .int .i64 l', .bool d'] 28) = V at *
    generalize w1.heap.size = y at *
    generalize hx1 : w.heap.size + 1 = x1 at *
    have HX1 := Lib.hid hx1
    have HV := Lib.hid (H.out.below HBV.out)
    have HQ2 := Lib.hid hq2
    have HQ3 := Lib.hid hq3
    have hq4 : Quad y (.slice sa' n' sc') (.slice na' n' nc') (.int .i64 l') (.bool d') (V.alloc (.cells #[] 9)) := hq3.keep ((Below.refl _ _).alloc (Nat.le_refl _) _)
    obtain ⟨⟨c0, c1, c2, c3⟩, z0, z1, z2, z3⟩ := hq4.cells
    clear hq2 hq3 hq4 HQ1 HB1 hx1
    have HAft : Hid (∀ g cap w3, Below V.heap.size V w3 → QuadsAt y x1 (.slice sa' n' sc') (.slice na' n' nc') (.int .i64 l') (.bool d') (.slice (some ⟨g, 0, none⟩) n' cap) w3) := Lib.hid fun g cap w3 hb => quads (HQ3.out.keep hb) (HQ2.out.keep hb) (by omega) _
    go_wp2_with (at_builtin; (refine wpList_copy_texts rfl _ _ rfl V na' n' nc' T' rfl rfl HV.out.t HV.out.n HV.out.zt ?_); (intro g cap w3 ht hf hb hg); (obtain ⟨k0, k1, ⟨d0, d1, d2, d3⟩, ⟨f0, f1, f2, f3⟩, u0, u1, u2, u3, hres⟩ := HAft.out g cap w3 hb); (have HT3 := Lib.hid ht); (have HB3 := Lib.hid hb); (have HG3 := Lib.hid hg); (have HR := Lib.hid hres); (clear ht hf hb hg hres))
    refine bodyPost_ret (results_pair rfl _ _ x1 _ _ _ _ rfl HR.out Try.underlying28 size_ref) rfl ?_
    have hx1 := HX1.out
    have hyV := HQ3.out.lt
    have hg3 := HG3.out
    have hgr : Grew (fun k => k = y ∨ k = x1) w3 (((((w3.setCell ⟨y, 0, none⟩ (.slice (some ⟨g, 0, none⟩) n' cap)).setCell ⟨x1, 0, none⟩ (.slice (some ⟨g, 0, none⟩) n' cap)).setCell ⟨x1, 1, none⟩ (.slice na' n' nc')).setCell ⟨x1, 2, none⟩ (.int .i64 l')).setCell ⟨x1, 3, none⟩ (.bool d')) :=
      (((((Grew.refl w3).setCell ⟨y, 0, none⟩ _ fun _ => Or.inl rfl).setCell ⟨x1, 0, none⟩ _ fun _ => Or.inr rfl).setCell ⟨x1, 1, none⟩ _ fun _ => Or.inr rfl).setCell ⟨x1, 2, none⟩ _ fun _ => Or.inr rfl).setCell ⟨x1, 3, none⟩ _ fun _ => Or.inr rfl
    have hB3 : Below w.heap.size w w3 := HBV.out.trans (HB3.out.mono (by omega))
    have hBf := hgr.below hB3 hB3.size (fun k e => by omega)
    have hold := H.out.below hBf
    refine ⟨0, ⟨some ⟨g, 0, none⟩, na', n', cap, nc', T', T', l', d'⟩, rfl, ⟨⟨sa', na', n', sc', nc', S', T', l', d'⟩, HS.out, rfl, rfl, rfl, rfl, fun _ => rfl, fun h => absurd rfl h⟩, ⟨HT3.out.keep hgr (fun b e => ?_), hold.t, hold.n, fun e => ?_, hold.zt⟩, hBf⟩
    · obtain rfl : g = b := by simpa using e
      show ¬ (g = y ∨ g = x1)
      omega
    · cases e
  · have hob : (o == 0) = false := by rw [beq_eq_false_iff_ne]; exact ho
    have hq2 : Quad (w.heap.size + 1) (.slice none 0 0) (.slice none 0 0) (.int .i64 0) (.bool false) (w1.alloc (.cells #[.slice sa' n' sc', .slice na' n' nc', .int .i64 l', .bool d'] 28)) := HQ1.out.keep ((Below.refl _ _).alloc (Nat.le_refl _) _)
    obtain ⟨⟨c0, c1, c2, c3⟩, z0, z1, z2, z3⟩ := hq2.cells
    have HR := Lib.hid (quad_set hq2.at' (.slice sa' n' sc') (.slice na' n' nc') (.int .i64 l') (.bool d'))
    clear hq2
    go_wp2_with fail
    refine bodyPost_ret (results_pair rfl _ _ (w.heap.size + 1) _ _ _ _ rfl HR.out Try.underlying28 size_ref) rfl ?_
    have hB : Below w.heap.size w (w1.alloc (.cells #[.slice sa' n' sc', .slice na' n' nc', .int .i64 l', .bool d'] 28)) := HB1.out.alloc HB1.out.size _
    have hB2 := (((hB.setCell (p := ⟨w.heap.size + 1, 0, none⟩) (Nat.le_succ _) (.slice sa' n' sc')).setCell (p := ⟨w.heap.size + 1, 1, none⟩) (Nat.le_succ _) (.slice na' n' nc')).setCell (p := ⟨w.heap.size + 1, 2, none⟩) (Nat.le_succ _) (.int .i64 l')).setCell (p := ⟨w.heap.size + 1, 3, none⟩) (Nat.le_succ _) (.bool d')
    refine ⟨o, ⟨sa', na', n', sc', nc', S', T', l', d'⟩, rfl, ⟨⟨sa', na', n', sc', nc', S', T', l', d'⟩, HS.out, rfl, rfl, rfl, rfl, fun h => absurd h ho, fun _ => rfl⟩, ?_, hB2⟩
    have h3 := H.out.below hB2
    exact ⟨h3.s, h3.t, h3.n, h3.zs, h3.zt⟩
end Go.Proofs.Ytjggofbaipppbaa
