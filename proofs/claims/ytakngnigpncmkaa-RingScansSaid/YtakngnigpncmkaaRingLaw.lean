/-
  The law's Append, in a Guard: a contract.
-/
import Derived.Test.YtakngnigpncmkaaRingAppend
namespace Go.Proofs.Ytakngnigpncmkaa
open Go.RowKit

theorem append1_any (r p f n ep u : Nat) (t : ByteArray) (m : DiskM) (hp : m.d = p) (hL : m.Live) (a b c : Nat) (w : World) (h : RingAt r p f n ep u w) (hD : DiskAt m w) (hr : ¬ m.own r) (hf : f + n ≤ m.n) (hu : u ≤ n) (he : ep < 4294967296) (ht : t.size < 100000)
    (ca : w.cell? ⟨a, 0, none⟩ = some (.pointer (some ⟨r, 0, none⟩))) (cb : w.cell? ⟨b, 0, none⟩ = some (.string t)) (cc : w.cell? ⟨c, 0, none⟩ = some (.bool false)) (fc : w.frozen? ⟨c, 0, none⟩ = false) (n1 : ¬ m.own c) (n2 : c ≠ r) :
    Calls Try.prog 78 #[.pointer (some ⟨a, 0, none⟩), .pointer (some ⟨b, 0, none⟩), .pointer (some ⟨c, 0, none⟩)] w fun e w' => e = Ends none ∧ w'.cell? ⟨c, 0, none⟩ = some (.bool (decide (u + costOf t.size ≤ n))) ∧ DiskAt (appM m f n ep u t) w' ∧ RingAt r p f n ep (appU n u t) w' ∧ Grew (fun k => (m.own k ∨ k = r) ∨ k = c) w w' := by
  have H := Lib.hid (append_any r p f n ep u t m hp hL w h hD hr hf hu he ht)
  have HC : Hid (∀ w', Grew (fun k => m.own k ∨ k = r) w w' → w'.cell? ⟨c, 0, none⟩ = some (.bool false) ∧ w'.frozen? ⟨c, 0, none⟩ = false) := Lib.hid fun w' g => by
    have hS : ¬ (m.own c ∨ c = r) := fun e => e.elim n1 n2
    exact ⟨by rw [g.cell (p := ⟨c, 0, none⟩) (cell_lt cc) hS]; exact cc, by rw [g.frozen (p := ⟨c, 0, none⟩) (cell_lt cc) hS]; exact fc⟩
  have HO : Hid ((appM m f n ep u t).own = m.own) := Lib.hid (appM_same m f n ep u t).2.2.1
  clear h hD cc fc
  generalize decide (u + costOf t.size ≤ n) = B at *
  generalize appM m f n ep u t = M at *
  generalize appU n u t = U at *
  go_enter Try.func78, Try.ntmps78
  go_wp2_with fail
  refine H.out.mono ?_
  rintro e w' ⟨rfl, hd, hr', hg⟩
  obtain ⟨cc, fc⟩ := HC.out w' hg
  have HD := Lib.hid hd
  have HR := Lib.hid hr'
  have HG := Lib.hid hg
  clear hd hr' hg H HC
  go_wp2_with fail
  go_end0
  have g0 : Grew (fun k => k = c) w' (w'.setCell ⟨c, 0, none⟩ (.bool B)) := (Grew.refl w').setCell _ _ fun _ => rfl
  exact ⟨rfl, World.cell?_setCell_same _ _ _ cc, HD.out.keep g0 (fun k hk e => n1 (by rw [HO.out] at hk; rw [← e]; exact hk)), HR.out.keep g0 (fun e => n2 e.symm), (HG.out.mono fun _ _ e => Or.inl e).step g0 fun _ _ e => Or.inr e⟩
set_option maxHeartbeats 1000000 in
theorem lawAppend_any (r p f n ep u : Nat) (t : ByteArray) (m : DiskM) (hp : m.d = p) (hL : m.Live) (w : World) (h : RingAt r p f n ep u w) (hD : DiskAt m w) (hr : ¬ m.own r) (hf : f + n ≤ m.n) (hu : u ≤ n) (he : ep < 4294967296) (ht : t.size < 100000) :
    Calls Try.prog 45 #[.pointer (some ⟨r, 0, none⟩), .string t] w fun e w' => e = .returned (.tuple #[.bool (decide (u + costOf t.size ≤ n)), .int .i64 0]) ∧ DiskAt (appM m f n ep u t) w' ∧ RingAt r p f n ep (appU n u t) w' ∧ Grew (fun k => m.own k ∨ k = r) w w' := by
  have hmf : ∀ (fn : Fn) (first cap : Array Value) (w : World), (Instr.makeFunc fn first cap).run Try.prog w = .ok (.func fn first cap) w := fun _ _ _ _ => rfl
  obtain ⟨W, hW⟩ : ∃ W, ((w.alloc (.cells #[.pointer (some ⟨r, 0, none⟩)] 73)).alloc (.cells #[.string t] 9)).alloc (.cells #[.bool false] 4) = W := ⟨_, rfl⟩
  have g0 : ∀ S, Grew S w W := fun S => by rw [← hW]; exact (((Grew.refl w).alloc _).alloc _).alloc _
  obtain ⟨hsz, ⟨ca, cb, cc⟩, _, _, fc⟩ := box3 hW
  have hDW : DiskAt m W := hD.keep (g0 fun _ => False) fun _ _ e => e
  have hRW : RingAt r p f n ep u W := h.keep (g0 fun _ => False) fun e => e
  have hown : ∀ k, m.own k → k < w.heap.size := hD.below
  have hlr := h.lt
  have hO := (appM_same m f n ep u t).2.2.1
  have HG : Hid (Calls Try.prog 37 #[.func (.func 78) #[] #[.pointer (some ⟨w.heap.size, 0, none⟩), .pointer (some ⟨w.heap.size + 1, 0, none⟩), .pointer (some ⟨w.heap.size + 1 + 1, 0, none⟩)]] W fun e w' => e = .returned (.int .i64 0) ∧ w'.cell? ⟨w.heap.size + 1 + 1, 0, none⟩ = some (.bool (decide (u + costOf t.size ≤ n))) ∧ DiskAt (appM m f n ep u t) w' ∧ RingAt r p f n ep (appU n u t) w' ∧ Grew (fun k => m.own k ∨ k = r) w w') := by
    refine Lib.hid ((guard_grew 78 #[.pointer (some ⟨w.heap.size, 0, none⟩), .pointer (some ⟨w.heap.size + 1, 0, none⟩), .pointer (some ⟨w.heap.size + 1 + 1, 0, none⟩)] W (fun k => (m.own k ∨ k = r) ∨ k = w.heap.size + 1 + 1) (fun o w1 => o = none ∧ w1.cell? ⟨w.heap.size + 1 + 1, 0, none⟩ = some (.bool (decide (u + costOf t.size ≤ n))) ∧ DiskAt (appM m f n ep u t) w1 ∧ RingAt r p f n ep (appU n u t) w1) ?_ (fun _ => by kernel_rfl) ?_).mono ?_)
    · rintro ((e | e) | e)
      · have := hown _ e; omega
      · omega
      · omega
    · have g1 : Grew (fun _ => False) W (W.alloc errBox) := (Grew.refl W).alloc _
      refine (append1_any r p f n ep u t m hp hL w.heap.size (w.heap.size + 1) (w.heap.size + 1 + 1) _ (hRW.keep g1 fun e => e) (hDW.keep g1 fun _ _ e => e) hr hf hu he ht (by rw [g1.cell (p := ⟨w.heap.size, 0, none⟩) (by show w.heap.size < _; omega) fun e => e]; exact ca) (by rw [g1.cell (p := ⟨w.heap.size + 1, 0, none⟩) (by show w.heap.size + 1 < _; omega) fun e => e]; exact cb) (by rw [g1.cell (p := ⟨w.heap.size + 1 + 1, 0, none⟩) (by show w.heap.size + 1 + 1 < _; omega) fun e => e]; exact cc) (by rw [g1.frozen (p := ⟨w.heap.size + 1 + 1, 0, none⟩) (by show w.heap.size + 1 + 1 < _; omega) fun e => e]; exact fc) (fun e => by have := hown _ e; omega) (by omega)).mono ?_
      rintro e w' ⟨rfl, hc, hd, hr', hg⟩
      exact ⟨none, rfl, hg, rfl, hc, hd, hr'⟩
    · rintro e w' ⟨o, w1, rfl, ⟨rfl, hc, hd, hr'⟩, rfl, hg, hlt⟩
      have gd := done_only W.heap.size none w1
      refine ⟨rfl, ?_, hd.keep gd fun k hk e => ?_, hr'.keep gd fun e => ?_, (g0 _).step hg fun x hx e => ?_⟩
      · rw [gd.cell (p := ⟨w.heap.size + 1 + 1, 0, none⟩) (by show w.heap.size + 1 + 1 < _; omega) (by show ¬ w.heap.size + 1 + 1 = _; omega)]
        exact hc
      · rw [hO] at hk
        have := hown k hk
        omega
      · omega
      · rcases e with e | e
        · exact e
        · omega
  rw [← hW] at HG
  clear h hW g0 ca cb cc fc hsz hD hDW hRW hown hlr hO
  generalize decide (u + costOf t.size ≤ n) = B at *
  generalize appM m f n ep u t = M at *
  generalize appU n u t = U at *
  go_enter Try.func45, Try.ntmps45
  go_wp2_with fail
  refine HG.out.mono ?_
  rintro e w' ⟨rfl, hc, hr⟩
  have HR := Lib.hid hr
  clear hr HG
  go_wp2_with fail
  go_ret2
  exact ⟨rfl, HR.out⟩
end Go.Proofs.Ytakngnigpncmkaa
