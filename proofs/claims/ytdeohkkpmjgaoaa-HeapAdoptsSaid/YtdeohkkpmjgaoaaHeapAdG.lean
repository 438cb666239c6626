/-
  Law 10's HeapAdopts: an Adopt in a Guard: contracts.
-/
import Derived.Test.YtdeohkkpmjgaoaaHeapLoop
namespace Go.Proofs.Ytdeohkkpmjgaoaa
open Go.RowKit Go.Maps Go.ChangeMaps Go.WideShapes

def HS.adopt (s : HS) (i : Nat) (T : Int) : HS := { s with S := upd s.S i 1, R := upF s.R T (some ((s.R T).getD 0 + 1)) }
theorem upd_self (S : Nat → Nat) (i v : Nat) (h : S i = v) : upd S i v = S := by
  funext j
  unfold upd
  by_cases e : j = i
  · rw [if_pos e, e, h]
  · rw [if_neg e]
theorem adoptIn (b : HB) (ok : b.ok) (s : HS) (i : Nat) (hi : i < b.n) (hS : (s.S i = 0 ∧ s.R ((b.f + i : Nat) : Int) = none) ∨ (s.S i = 1 ∧ ∃ r : Nat, s.R ((b.f + i : Nat) : Int) = some (r : Int) ∧ r < 10000)) (v : Value) (w : World) (h : HeapI b s w) (hl : LogAt b.B b.g 0 v [] w) : Calls Try.prog 29 #[.pointer (some ⟨b.hb, 0, none⟩), .int .i64 ((b.f + i : Nat) : Int)] w fun e w' => e = .returned (.bool (decide (s.S i = 0))) ∧ HeapI b (s.adopt i ((b.f + i : Nat) : Int)) w' ∧ LogAt b.B b.g 0 v [] w' ∧ Grew (fun q => q = b.rb ∨ q = b.q) w w' := by
  rcases hS with ⟨h0, hr⟩ | ⟨h1, r, hr, hrb⟩
  · refine (adopt0_first b ok s i hi h0 v w h hl).mono ?_
    rintro e w' ⟨rfl, hI, hg, hL⟩
    refine ⟨by rw [h0]; rfl, ?_, hL, hg⟩
    unfold HS.adopt
    rw [hr]
    exact hI
  · refine (adopt0_more b ok s i r hi h1 hr hrb v w h hl).mono ?_
    rintro e w' ⟨rfl, hI, hg⟩
    refine ⟨by rw [h1]; rfl, ?_, ?_, hg.mono fun _ _ e => Or.inl e⟩
    · unfold HS.adopt
      rw [hr, upd_self s.S i 1 h1]
      exact hI
    · exact hl.keep hg (fun e => ok.nd 1 4 (by decide) (by decide) (by decide) e) fun q hq e => by
        have a := (hl.row.lt q hq).1
        have c := ok.lt 4 (by decide)
        have d : b.blk 4 = b.rb := rfl
        omega
set_option maxRecDepth 100000 in
theorem ad1_in (b : HB) (ok : b.ok) (s : HS) (i : Nat) (hi : i < b.n) (hS : (s.S i = 0 ∧ s.R ((b.f + i : Nat) : Int) = none) ∨ (s.S i = 1 ∧ ∃ r : Nat, s.R ((b.f + i : Nat) : Int) = some (r : Int) ∧ r < 10000)) (hx ax fx : Nat) (u : Bool) (hn : ¬ (fx = b.rb ∨ fx = b.q)) (w : World) (h : HeapI b s w) (hl : LogAt b.B b.g 0 (.slice none 0 0) [] w) (b1 : Box hx 54 (.pointer (some ⟨b.hb, 0, none⟩)) w) (b2 : Box ax 3 (.int .i64 ((b.f + i : Nat) : Int)) w) (b3 : Box fx 4 (.bool u) w) :
    Calls Try.prog 28 #[.pointer (some ⟨hx, 0, none⟩), .pointer (some ⟨ax, 0, none⟩), .pointer (some ⟨fx, 0, none⟩)] w fun e w' => e = .returned (.tuple #[]) ∧ ∃ w1, HeapI b (s.adopt i ((b.f + i : Nat) : Int)) w1 ∧ LogAt b.B b.g 0 (.slice none 0 0) [] w1 ∧ Grew (fun q => q = b.rb ∨ q = b.q) w w1 ∧ w1.setCell ⟨fx, 0, none⟩ (.bool (decide (s.S i = 0))) = w' := by
  have HA := Lib.hid (adoptIn b ok s i hi hS _ w h hl)
  have d1 := b1.cell
  have d2 := b2.cell
  have HB3 := Lib.hid b3
  have HN := Lib.hid hn
  generalize ((b.f + i : Nat) : Int) = T at *
  generalize decide (s.S i = 0) = q at *
  clear h hl b1 b2 b3 hS hi hn
  go_enter Try.func28, Try.ntmps28
  go_wp2_with fail
  refine HA.out.mono ?_
  rintro e w1 ⟨rfl, hI, hL, hg⟩
  have x3 := HB3.out.keep hg HN.out
  have f1 := x3.cell
  have f2 := x3.free
  have HR := Lib.hid (And.intro hI (And.intro hL hg))
  clear hI hL hg x3 HA
  go_wp2_with fail
  go_end0
  exact ⟨rfl, w1, HR.out.1, HR.out.2.1, HR.out.2.2, rfl⟩
set_option maxRecDepth 100000 in
theorem ad1_out (b : HB) (ok : b.ok) (s : HS) (at' : Int) (ho : at' < b.f ∨ ((b.f + b.n : Nat) : Int) ≤ at') (hx ax fx : Nat) (w : World) (h : HeapI b s w) (b1 : Box hx 54 (.pointer (some ⟨b.hb, 0, none⟩)) w) (b2 : Box ax 3 (.int .i64 at') w) :
    Calls Try.prog 28 #[.pointer (some ⟨hx, 0, none⟩), .pointer (some ⟨ax, 0, none⟩), .pointer (some ⟨fx, 0, none⟩)] w fun e w' => e = failed 6 ∧ w.drew.drew = w' := by
  have HA := Lib.hid (adopt0_out b ok s at' ho w h)
  have d1 := b1.cell
  have d2 := b2.cell
  clear h b1 b2 ho
  go_enter Try.func28, Try.ntmps28
  go_wp2_with fail
  refine HA.out.mono ?_
  rintro e w1 ⟨rfl, rfl⟩
  unfold failed
  go_wp2_with fail
  exact ⟨rfl, rfl, rfl⟩
end Go.Proofs.Ytdeohkkpmjgaoaa
