/-
  The law's Scan, in a Guard: a contract.
-/
import Derived.Test.YtakngnigpncmkaaRingScan
import Derived.Test.YtakngnigpncmkaaRingLaw
namespace Go.Proofs.Ytakngnigpncmkaa
open Go.RowKit

theorem box2 {w W : World} {v0 v1 : Value} {t0 t1 : TypeId} (h : (w.alloc (.cells #[v0] t0)).alloc (.cells #[v1] t1) = W) :
    W.heap.size = w.heap.size + 2 ∧ (W.cell? ⟨w.heap.size, 0, none⟩ = some v0 ∧ W.cell? ⟨w.heap.size + 1, 0, none⟩ = some v1) ∧ (W.frozen? ⟨w.heap.size, 0, none⟩ = false ∧ W.frozen? ⟨w.heap.size + 1, 0, none⟩ = false) := by
  subst h
  have s1 : (w.alloc (.cells #[v0] t0)).heap.size = w.heap.size + 1 := by simp
  exact ⟨by simp, ⟨boxOld (boxNew rfl) (by omega), boxNew s1⟩, boxOldFree (boxFree rfl) (by omega), boxFree s1⟩
theorem own_le {w : World} {B C n : Nat} {e : TypeId} {v : Value} {xs : List Value} (h : w.ownsRow B e 1 v n xs) (hc : C ≤ B) : w.ownsRow C e 1 v n xs := by
  refine ⟨h.1, ?_⟩
  rcases h.2 with h1 | ⟨g, cap, cur, e, hb, hrest⟩
  · exact Or.inl h1
  · exact Or.inr ⟨g, cap, cur, e, by omega, hrest⟩
theorem scan1_any (r p f n ep u : Nat) (m : DiskM) (hp : m.d = p) (hL : m.Live) (a c : Nat) (w : World) (h : RingAt r p f n ep u w) (hD : DiskAt m w) (hf : f + n ≤ m.n) (he : ep < 4294967296)
    (ca : w.cell? ⟨a, 0, none⟩ = some (.pointer (some ⟨r, 0, none⟩))) (cc : w.cell? ⟨c, 0, none⟩ = some (.slice none 0 0)) (fc : w.frozen? ⟨c, 0, none⟩ = false) :
    Calls Try.prog 80 #[.pointer (some ⟨a, 0, none⟩), .pointer (some ⟨c, 0, none⟩)] w fun e w' => e = Ends none ∧ (∃ v, w'.cell? ⟨c, 0, none⟩ = some v ∧ w'.ownsRow w.heap.size 9 1 v (scanF ep (fun k => sectB m (f + k)) n 0 [] []).length (textsOf (scanF ep (fun k => sectB m (f + k)) n 0 [] []))) ∧ Grew (fun k => k = c) w w' := by
  have H := Lib.hid (scan_any r p f n ep u m hp hL w h hD hf he)
  have hlt := cell_lt cc
  have HC : Hid (∀ w', Below w.heap.size w w' → w'.cell? ⟨c, 0, none⟩ = some (.slice none 0 0) ∧ w'.frozen? ⟨c, 0, none⟩ = false) := Lib.hid fun w' hb => by
    have g := Grew.of_below (S := fun _ => False) hb
    exact ⟨by rw [g.cell (p := ⟨c, 0, none⟩) hlt fun e => e]; exact cc, by rw [g.frozen (p := ⟨c, 0, none⟩) hlt fun e => e]; exact fc⟩
  clear h hD cc fc
  generalize scanF ep (fun k => sectB m (f + k)) n 0 [] [] = R at *
  go_enter Try.func80, Try.ntmps80
  go_wp2_with fail
  refine H.out.mono ?_
  rintro e w' ⟨v, rfl, ho, hb⟩
  obtain ⟨_, va, vc, rfl⟩ := rowOwn ho
  obtain ⟨cc, fc⟩ := HC.out w' hb
  have HO := Lib.hid ho
  have HB := Lib.hid hb
  clear ho hb H HC
  go_wp2_with fail
  go_end0
  exact ⟨rfl, ⟨_, World.cell?_setCell_same _ _ _ cc, ownsRow_setCell_below HO.out hlt _⟩, (Grew.of_below HB.out).setCell _ _ fun _ => rfl⟩
set_option maxHeartbeats 1000000 in
theorem lawScan_any (r p f n ep u : Nat) (m : DiskM) (hp : m.d = p) (hL : m.Live) (w : World) (h : RingAt r p f n ep u w) (hD : DiskAt m w) (hf : f + n ≤ m.n) (he : ep < 4294967296) :
    Calls Try.prog 48 #[.pointer (some ⟨r, 0, none⟩)] w fun e w' => ∃ v, e = .returned (.tuple #[v, .int .i64 0]) ∧ w'.ownsRow w.heap.size 9 1 v (scanF ep (fun k => sectB m (f + k)) n 0 [] []).length (textsOf (scanF ep (fun k => sectB m (f + k)) n 0 [] [])) ∧ Below w.heap.size w w' := by
  have hmf : ∀ (fn : Fn) (first cap : Array Value) (w : World), (Instr.makeFunc fn first cap).run Try.prog w = .ok (.func fn first cap) w := fun _ _ _ _ => rfl
  obtain ⟨W, hW⟩ : ∃ W, (w.alloc (.cells #[.pointer (some ⟨r, 0, none⟩)] 73)).alloc (.cells #[.slice none 0 0] 26) = W := ⟨_, rfl⟩
  have g0 : ∀ S, Grew S w W := fun S => by rw [← hW]; exact ((Grew.refl w).alloc _).alloc _
  obtain ⟨hsz, ⟨ca, cc⟩, _, fc⟩ := box2 hW
  have hDW : DiskAt m W := hD.keep (g0 fun _ => False) fun _ _ e => e
  have hRW : RingAt r p f n ep u W := h.keep (g0 fun _ => False) fun e => e
  have HG : Hid (Calls Try.prog 37 #[.func (.func 80) #[] #[.pointer (some ⟨w.heap.size, 0, none⟩), .pointer (some ⟨w.heap.size + 1, 0, none⟩)]] W fun e w' => e = .returned (.int .i64 0) ∧ ∃ v, w'.cell? ⟨w.heap.size + 1, 0, none⟩ = some v ∧ w'.ownsRow w.heap.size 9 1 v (scanF ep (fun k => sectB m (f + k)) n 0 [] []).length (textsOf (scanF ep (fun k => sectB m (f + k)) n 0 [] [])) ∧ Below w.heap.size w w') := by
    refine Lib.hid ((guard_grew 80 #[.pointer (some ⟨w.heap.size, 0, none⟩), .pointer (some ⟨w.heap.size + 1, 0, none⟩)] W (fun k => k = w.heap.size + 1) (fun o w1 => o = none ∧ ∃ v, w1.cell? ⟨w.heap.size + 1, 0, none⟩ = some v ∧ w1.ownsRow (W.heap.size + 1) 9 1 v (scanF ep (fun k => sectB m (f + k)) n 0 [] []).length (textsOf (scanF ep (fun k => sectB m (f + k)) n 0 [] []))) (by omega) (fun _ => by kernel_rfl) ?_).mono ?_)
    · have g1 : Grew (fun _ => False) W (W.alloc errBox) := (Grew.refl W).alloc _
      refine (scan1_any r p f n ep u m hp hL w.heap.size (w.heap.size + 1) _ (hRW.keep g1 fun e => e) (hDW.keep g1 fun _ _ e => e) hf he (by rw [g1.cell (p := ⟨w.heap.size, 0, none⟩) (by show w.heap.size < _; omega) fun e => e]; exact ca) (by rw [g1.cell (p := ⟨w.heap.size + 1, 0, none⟩) (by show w.heap.size + 1 < _; omega) fun e => e]; exact cc) (by rw [g1.frozen (p := ⟨w.heap.size + 1, 0, none⟩) (by show w.heap.size + 1 < _; omega) fun e => e]; exact fc)).mono ?_
      rintro e w' ⟨rfl, ⟨v, hc, ho⟩, hg⟩
      refine ⟨none, rfl, hg, rfl, v, hc, ?_⟩
      have e2 : (W.alloc errBox).heap.size = W.heap.size + 1 := by simp
      rw [e2] at ho
      exact ho
    · rintro e w' ⟨o, w1, rfl, ⟨rfl, v, hc, ho⟩, rfl, hg, hlt⟩
      have gd := done_only W.heap.size none w1
      refine ⟨rfl, v, ?_, ?_, ((g0 (fun _ => False)).step hg fun x hx e => by omega).below (Below.refl _ _) (Nat.le_refl _) (fun _ e => e.elim)⟩
      · rw [gd.cell (p := ⟨w.heap.size + 1, 0, none⟩) (by show w.heap.size + 1 < _; omega) (by show ¬ w.heap.size + 1 = _; omega)]
        exact hc
      · have h3 : (done W.heap.size none w1).ownsRow (W.heap.size + 1) 9 1 v (scanF ep (fun k => sectB m (f + k)) n 0 [] []).length (textsOf (scanF ep (fun k => sectB m (f + k)) n 0 [] [])) := ownsRow_setCell_below ho (by show W.heap.size < W.heap.size + 1; omega) _
        exact own_le h3 (by omega)
  rw [← hW] at HG
  clear h hW g0 ca cc fc hsz hD hDW hRW
  generalize scanF ep (fun k => sectB m (f + k)) n 0 [] [] = R at *
  go_enter Try.func48, Try.ntmps48
  go_wp2_with fail
  refine HG.out.mono ?_
  rintro e w' ⟨rfl, v, hc, hr⟩
  have HR := Lib.hid hr
  clear hr HG
  go_wp2_with fail
  go_ret2
  exact ⟨v, rfl, HR.out⟩
end Go.Proofs.Ytakngnigpncmkaa
