/-
  A heap within a Try: how letGo and first are undone; what a log remembers of them.
-/
import Derived.Test.YtjjmapmombhmlaaHeapAd
namespace Go.Proofs.Ytjjmapmombhmlaa
open Go.RowKit Go.Maps Go.ChangeMaps Go.WideShapes

theorem MapAt.other {m q f n : Nat} {S : Nat → Nat} {w : World} (h : MapAt m q f n S w) : other q w := by
  obtain ⟨c, e, _⟩ := h.row
  exact ⟨c, _, _, e, by decide⟩
/-- a log, when the grants turned -/
theorem LogAt.turned {b : HB} (ok : b.ok) {s : HS} {B dp : Nat} {v : Value} {fs : List Step} {w w' : World} (h : HeapI b s w) (hl : LogAt B b.g dp v fs w) (hg : Grew (fun q => q = b.q) w w') : LogAt B b.g dp v fs w' :=
  hl.keep hg (fun e => ok.nd 1 3 (by decide) (by decide) (by decide) e) fun q hq e => by subst e; exact h.gr.other.ne hl.row hq
theorem HeapI.turn {b : HB} (ok : b.ok) {s : HS} {i a c : Nat} {w w' : World} {r : Bool} (h : HeapI b s w) (hs : s.S i = a) (ht : Turned b.m b.q b.f b.n s.S i a c w r w') : r = true ∧ HeapI b { s with S := upd s.S i c } w' := by
  obtain ⟨r1, hm⟩ := ht.1.1 hs
  exact ⟨r1, h.grants ok hm ht.2⟩
theorem upd_back (S : Nat → Nat) (i v : Nat) : upd (upd S i v) i (S i) = S := by
  funext j
  unfold upd
  by_cases h : j = i
  · rw [if_pos h, h]
  · rw [if_neg h, if_neg h]
theorem upd_upd (S : Nat → Nat) (i v u : Nat) : upd (upd S i v) i u = upd S i u := by
  funext j
  unfold upd
  by_cases h : j = i
  · rw [if_pos h, if_pos h]
  · rw [if_neg h, if_neg h, if_neg h]
set_option maxRecDepth 100000 in
theorem letStep_any (b : HB) (ok : b.ok) (s : HS) (i : Nat) (hi : i < b.n) (hs : s.S i = 2) (x y : Nat) (w : World) (d1 : w.cell? ⟨x, 0, none⟩ = some (.pointer (some ⟨b.hb, 0, none⟩))) (d2 : w.cell? ⟨y, 0, none⟩ = some (.int .i64 ((b.f + i : Nat) : Int))) (h : HeapI b s w) : Calls Try.prog 107 #[.pointer (some ⟨x, 0, none⟩), .pointer (some ⟨y, 0, none⟩)] w fun e w' => e = .returned (.tuple #[]) ∧ HeapI b { s with S := upd s.S i 1 } w' ∧ Grew (fun q => q = b.q) w w' := by
  have e1 : w.drew.cell? ⟨x, 0, none⟩ = some (.pointer (some ⟨b.hb, 0, none⟩)) := d1
  have e2 : w.drew.cell? ⟨y, 0, none⟩ = some (.int .i64 ((b.f + i : Nat) : Int)) := d2
  have c2 := h.drew.c2
  have HB := Lib.hid (back_any b.m b.q b.f b.n s.S i w.drew h.drew.gr (Nat.le_trans ok.f (by decide)) (Nat.le_trans ok.n (by decide)) hi)
  have HF : Hid (∀ r w', Turned b.m b.q b.f b.n s.S i 2 1 w.drew r w' → HeapI b { s with S := upd s.S i 1 } w' ∧ Grew (fun q => q = b.q) w w') := Lib.hid fun r w' ht => ⟨(h.drew.turn ok hs ht).2, ((Grew.refl w).drew).trans ht.2⟩
  generalize ((b.f + i : Nat) : Int) = T at *
  clear h hs hi d1 d2
  go_enter Try.func107, Try.ntmps107
  go_upto_region 0 with fail
  refine wp_region_still_tail 5 (by kernel_rfl) (by kernel_rfl) ?_
  change wpStill _ _ (w.drew) (fun a' => wpList _ _ _ _ a' (w.drew)) _ _
  simp only [List.take_succ_cons, List.take_zero, List.drop_succ_cons, List.drop_zero]
  repeat still_step
  refine wpStill_nil ?_
  go_wp2_with fail
  refine HB.out.mono ?_
  rintro e w' ⟨r, rfl, ht⟩
  have HR := Lib.hid (HF.out r w' ht)
  clear ht HB HF
  go_wp2_with fail
  go_end0
  exact ⟨rfl, HR.out.1, HR.out.2⟩
set_option maxRecDepth 100000 in
theorem firstStep_any (b : HB) (ok : b.ok) (s : HS) (i : Nat) (hi : i < b.n) (hs : s.S i = 1) (x y : Nat) (w : World) (d1 : w.cell? ⟨x, 0, none⟩ = some (.pointer (some ⟨b.hb, 0, none⟩))) (d2 : w.cell? ⟨y, 0, none⟩ = some (.int .i64 ((b.f + i : Nat) : Int))) (h : HeapI b s w) : Calls Try.prog 103 #[.pointer (some ⟨x, 0, none⟩), .pointer (some ⟨y, 0, none⟩)] w fun e w' => e = .returned (.tuple #[]) ∧ HeapI b { s with S := upd s.S i 0 } w' ∧ Grew (fun q => q = b.q) w w' := by
  have e1 : w.drew.cell? ⟨x, 0, none⟩ = some (.pointer (some ⟨b.hb, 0, none⟩)) := d1
  have e2 : w.drew.cell? ⟨y, 0, none⟩ = some (.int .i64 ((b.f + i : Nat) : Int)) := d2
  have c2 := h.drew.c2
  have HB := Lib.hid (give_any b.m b.q b.f b.n s.S i w.drew h.drew.gr (Nat.le_trans ok.f (by decide)) (Nat.le_trans ok.n (by decide)) hi)
  have HF : Hid (∀ r w', Turned b.m b.q b.f b.n s.S i 1 0 w.drew r w' → HeapI b { s with S := upd s.S i 0 } w' ∧ Grew (fun q => q = b.q) w w') := Lib.hid fun r w' ht => ⟨(h.drew.turn ok hs ht).2, ((Grew.refl w).drew).trans ht.2⟩
  generalize ((b.f + i : Nat) : Int) = T at *
  clear h hs hi d1 d2
  go_enter Try.func103, Try.ntmps103
  go_upto_region 0 with fail
  refine wp_region_still_tail 5 (by kernel_rfl) (by kernel_rfl) ?_
  change wpStill _ _ (w.drew) (fun a' => wpList _ _ _ _ a' (w.drew)) _ _
  simp only [List.take_succ_cons, List.take_zero, List.drop_succ_cons, List.drop_zero]
  repeat still_step
  refine wpStill_nil ?_
  go_wp2_with fail
  refine HB.out.mono ?_
  rintro e w' ⟨r, rfl, ht⟩
  have HR := Lib.hid (HF.out r w' ht)
  clear ht HB HF
  go_wp2_with fail
  go_end0
  exact ⟨rfl, HR.out.1, HR.out.2⟩
def stepLet (x y : Nat) : Step := (107, #[.pointer (some ⟨x, 0, none⟩), .pointer (some ⟨y, 0, none⟩)])
def stepFirst (x y : Nat) : Step := (103, #[.pointer (some ⟨x, 0, none⟩), .pointer (some ⟨y, 0, none⟩)])
/-- the two boxes that a step back of a sector needs -/
structure Boxes2 (b : HB) (x y : Nat) (T : Int) (w : World) : Prop where
  bx : w.heap[x]? = some (.cells #[.pointer (some ⟨b.hb, 0, none⟩)] 43)
  by' : w.heap[y]? = some (.cells #[.int .i64 T] 3)
set_option maxRecDepth 100000 in
theorem goodLet (b : HB) (ok : b.ok) (s s0 : HS) (i : Nat) (hi : i < b.n) (hs : s.S i = 2) (x y : Nat) (w : World) (hB : Boxes2 b x y ((b.f + i : Nat) : Int) w) (hS : ¬ b.S0 x ∧ ¬ b.S0 y) (h0 : { s with S := upd s.S i 1 } = s0) : Good b.B b.g b.S0 (HeapI b) (stepLet x y) s s0 w := by
  refine ⟨fun _ => rfl, fun k => k = x ∨ k = y, ?_, ?_⟩
  · rintro k (rfl | rfl)
    · exact ⟨hS.1, _, _, _, hB.bx, by decide, by decide⟩
    · exact ⟨hS.2, _, _, _, hB.by', by decide, by decide⟩
  · intro wx hx hI
    have p1 := hx x (Or.inl rfl)
    have p2 := hx y (Or.inr rfl)
    rw [hB.bx] at p1
    rw [hB.by'] at p2
    refine (letStep_any b ok s i hi hs x y wx (by simp [World.cell?, p1]) (by simp [World.cell?, p2]) hI).mono ?_
    rintro e w' ⟨rfl, h1, hg⟩
    exact ⟨rfl, h0 ▸ h1, hg.mono fun q _ e => Or.inl ⟨3, by decide, e⟩, fun B' dp v fs hl => hl.turned ok hI hg⟩
set_option maxRecDepth 100000 in
theorem goodFirst (b : HB) (ok : b.ok) (s s0 : HS) (i : Nat) (hi : i < b.n) (hs : s.S i = 1) (x y : Nat) (w : World) (hB : Boxes2 b x y ((b.f + i : Nat) : Int) w) (hS : ¬ b.S0 x ∧ ¬ b.S0 y) (h0 : { s with S := upd s.S i 0 } = s0) : Good b.B b.g b.S0 (HeapI b) (stepFirst x y) s s0 w := by
  refine ⟨fun _ => rfl, fun k => k = x ∨ k = y, ?_, ?_⟩
  · rintro k (rfl | rfl)
    · exact ⟨hS.1, _, _, _, hB.bx, by decide, by decide⟩
    · exact ⟨hS.2, _, _, _, hB.by', by decide, by decide⟩
  · intro wx hx hI
    have p1 := hx x (Or.inl rfl)
    have p2 := hx y (Or.inr rfl)
    rw [hB.bx] at p1
    rw [hB.by'] at p2
    refine (firstStep_any b ok s i hi hs x y wx (by simp [World.cell?, p1]) (by simp [World.cell?, p2]) hI).mono ?_
    rintro e w' ⟨rfl, h1, hg⟩
    exact ⟨rfl, h0 ▸ h1, hg.mono fun q _ e => Or.inl ⟨3, by decide, e⟩, fun B' dp v fs hl => hl.turned ok hI hg⟩
end Go.Proofs.Ytjjmapmombhmlaa
