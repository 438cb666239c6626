/-
  PackGuards' own functions: run, by induction on how many Guards are left.
-/
import Derived.Test.YtponpkmmfamjnaaPackGuardsFn
namespace Go.Proofs.Ytponpkmmfamjnaa
open Go.RowKit

set_option maxHeartbeats 2000000 in
theorem inner_on (g : GAt) (k d kb r : Nat) (w : World) (IH : RunSaid g (k + 1) d) (h : GInv g r w) (hk : k < g.n) (hr : r ≤ k) (hkb : w.cell? ⟨kb, 0, none⟩ = some (.int .i64 k)) (ho : g.early k = false) (hne : ¬ g.writes kb) (hks : kb < w.heap.size) :
    Calls Try.prog 31 #[.pointer (some ⟨g.x + 1, 0, none⟩), .pointer (some ⟨g.B, 0, none⟩), .pointer (some ⟨kb, 0, none⟩), .pointer (some ⟨g.B + 1, 0, none⟩), .pointer (some ⟨g.x + 3, 0, none⟩)] w
      (InTo g (r + 1 + g.cnt (k + 1) d) (if g.odd k then some (g.err k) else none) w) := by
  have H1 : Hid (GInv g (r + 1) (w.setCell ⟨g.x + 1, 0, none⟩ (.int .i64 ((r : Int) + 1)))) := Lib.hid (h.set (r + 1))
  have HR := Lib.hid (IH (r + 1) _ H1.out (by omega))
  have cR := h.cR
  have fR := h.fR
  have cE := H1.out.cE
  have cB := H1.out.cB
  have cG := H1.out.cG
  have ce := H1.out.es k hk
  have cb := H1.out.bs k hk
  obtain ⟨l1, l2, l3⟩ := h.len
  have hkb' : (w.setCell ⟨g.x + 1, 0, none⟩ (.int .i64 ((r : Int) + 1))).cell? ⟨kb, 0, none⟩ = some (.int .i64 k) := by rw [World.cell?_of_block (Below.heap_setCell _ _ _ _ (fun e => hne (Or.inl e)))]; exact hkb
  have HW : Hid (Grew g.writes w (w.setCell ⟨g.x + 1, 0, none⟩ (.int .i64 ((r : Int) + 1)))) := Lib.hid ((Grew.refl w).setCell _ _ fun _ => Or.inl rfl)
  have behind : ∀ w2 : World, GInv g (r + 1 + g.cnt (k + 1) d) w2 → Grew g.writes (w.setCell ⟨g.x + 1, 0, none⟩ (.int .i64 ((r : Int) + 1))) w2 →
      w2.cell? ⟨g.B, 0, none⟩ = some (.slice (some ⟨g.be, g.oe, none⟩) g.le g.ce) ∧ w2.cell? ⟨g.be, g.oe + k, none⟩ = some (.int .i64 (g.es k)) ∧ w2.cell? ⟨kb, 0, none⟩ = some (.int .i64 k) ∧ Hid (Grew g.writes w w2) := fun w2 i2 g2 =>
    ⟨i2.cE, i2.es k hk, by rw [g2.cell (by show kb < _; simpa [World.setCell] using hks) hne]; exact hkb', HW.out.trans g2⟩
  have HB := Lib.hid behind
  have hcap : (#[.int .i64 ((k + 1 : Nat) : Int)] ++ g.caps) = #[.int .i64 ((k : Int) + 1), .pointer (some ⟨g.x, 0, none⟩), .pointer (some ⟨g.x + 1, 0, none⟩), .pointer (some ⟨g.B, 0, none⟩), .pointer (some ⟨g.B + 1, 0, none⟩), .pointer (some ⟨g.x + 3, 0, none⟩), .pointer (some ⟨g.x + 2, 0, none⟩)] := rfl
  rw [hcap] at HR
  unfold GAt.caps at cG
  clear h hcap behind IH
  unfold GAt.early at ho
  by_cases hod : g.odd k = true
  · have hbs : g.bs k = true := by rw [hod] at ho; simpa using ho
    rw [if_pos hod]
    rw [hbs] at cb
    unfold GAt.odd at hod
    clear ho
    go_enter Try.func31, Try.ntmps31
    go_wp2_with fail
    refine HR.out.mono ?_
    rintro e w2 ⟨rfl, i2, g2⟩
    obtain ⟨b1, b2, b3, G2⟩ := HB.out w2 i2 g2
    have I2 := Lib.hid i2
    clear i2 g2 HB HR cE cB cG ce cb cR fR
    go_wp2_with fail
    refine (fail_any _ _).mono ?_
    rintro e w' ⟨rfl, rfl⟩
    unfold failed
    go_wp2
    exact ⟨rfl, rfl, I2.out, G2.out⟩
  · have hod' : g.odd k = false := by simpa using hod
    rw [if_neg hod]
    unfold GAt.odd at hod'
    clear ho hod
    go_enter Try.func31, Try.ntmps31
    go_wp2_with fail
    refine HR.out.mono ?_
    rintro e w2 ⟨rfl, i2, g2⟩
    obtain ⟨b1, b2, b3, G2⟩ := HB.out w2 i2 g2
    have I2 := Lib.hid i2
    clear i2 g2 HB HR cE cB cG ce cb cR fR
    go_wp2_with fail
    go_end0
    exact ⟨rfl, I2.out, G2.out⟩

theorem inner_any (g : GAt) (k d kb r : Nat) (w : World) (IH : RunSaid g (k + 1) d) (h : GInv g r w) (hk : k < g.n) (hr : r ≤ k) (hkb : w.cell? ⟨kb, 0, none⟩ = some (.int .i64 k)) (hne : ¬ g.writes kb) :
    Calls Try.prog 31 #[.pointer (some ⟨g.x + 1, 0, none⟩), .pointer (some ⟨g.B, 0, none⟩), .pointer (some ⟨kb, 0, none⟩), .pointer (some ⟨g.B + 1, 0, none⟩), .pointer (some ⟨g.x + 3, 0, none⟩)] w
      (InTo g (r + g.cnt k (d + 1)) (if g.odd k then some (g.err k) else none) w) := by
  unfold GAt.cnt
  by_cases he : g.early k = true
  · rw [if_pos he]
    have he' := he
    unfold GAt.early at he'
    simp only [Bool.and_eq_true, Bool.not_eq_true'] at he'
    rw [if_pos he'.1]
    exact inner_early g k kb r w h hk hr hkb he'.1 he'.2 (fun e => hne (Or.inl e))
  · rw [if_neg he, ← Nat.add_assoc]
    exact inner_on g k d kb r w IH h hk hr hkb (by simpa using he) hne (cell_lt hkb)

/-- a Guard of run's -/
theorem guard_inner (g : GAt) (k d r : Nat) (w : World) (IH : RunSaid g (k + 1) d) (h : GInv g r w) (hk : k < g.n) (hr : r ≤ k) :
    Calls Try.prog 14 #[.func (.func 31) #[] #[.pointer (some ⟨g.x + 1, 0, none⟩), .pointer (some ⟨g.B, 0, none⟩), .pointer (some ⟨w.heap.size, 0, none⟩), .pointer (some ⟨g.B + 1, 0, none⟩), .pointer (some ⟨g.x + 3, 0, none⟩)]] (w.alloc (.cells #[.int .i64 k] 3)) fun e w' =>
      e = .returned (.int .i64 (if g.odd k then g.err k else 0)) ∧ GInv g (r + g.cnt k (d + 1)) w' ∧ w'.cell? ⟨w.heap.size, 0, none⟩ = some (.int .i64 k) ∧ Grew g.writes w w' := by
  have hx := h.hx
  have hnw : ¬ g.writes w.heap.size := by rintro (e | e) <;> omega
  have hnw' : ¬ g.writes (w.alloc (.cells #[.int .i64 k] 3)).heap.size := by rw [World.size_alloc]; rintro (e | e) <;> omega
  have hin := inner_any g k d w.heap.size r ((w.alloc (.cells #[.int .i64 k] 3)).alloc errBox) IH (h.grew (((Grew.refl w).alloc _).alloc _)) hk hr (old_cellAt (by simp) (by simp)) hnw
  refine (guard_grew _ _ (w.alloc (.cells #[.int .i64 k] 3)) g.writes (fun o w1 => o = (if g.odd k then some (g.err k) else none) ∧ GInv g (r + g.cnt k (d + 1)) w1 ∧ w1.cell? ⟨w.heap.size, 0, none⟩ = some (.int .i64 k)) hnw' (fun _ => by kernel_rfl) (hin.mono ?_)).mono ?_
  · rintro e w' ⟨rfl, i2, g2⟩
    refine ⟨_, rfl, g2, rfl, i2, ?_⟩
    rw [g2.cell (by simp; omega) hnw]
    exact old_cellAt (by simp) (by simp)
  · rintro e w' ⟨o, w1, rfl, ⟨rfl, i1, c1⟩, rfl, hG, hlt⟩
    have hlt' : w.heap.size + 1 < w1.heap.size := by simpa using hlt
    have hS : (w.alloc (.cells #[.int .i64 k] 3)).heap.size = w.heap.size + 1 := by simp
    refine ⟨by split <;> rfl, ?_, ?_, ((Grew.refl w).alloc _).step hG fun _ _ x => x⟩
    · have h1 := i1.hB
      have h2 := i1.he
      have h3 := i1.hb
      have c : ∀ o b j v, b < w.heap.size → w1.cell? ⟨b, j, none⟩ = some v → (done (w.heap.size + 1) o w1).cell? ⟨b, j, none⟩ = some v := fun o b j v hb hc => by
        rw [done_cell (by show b ≠ _; omega) (by show b < _; omega)]; exact hc
      have f : ∀ o b, b < w.heap.size → w1.frozen? ⟨b, 0, none⟩ = false → (done (w.heap.size + 1) o w1).frozen? ⟨b, 0, none⟩ = false := fun o b hb hc => by
        rw [done_frozen (by show b ≠ _; omega) (by show b < _; omega)]; exact hc
      rw [hS]
      exact ⟨h1, h2, h3, Nat.lt_of_lt_of_le (by omega) (done_size _ _ _), c _ _ _ _ (by omega) i1.cE, c _ _ _ _ (by omega) i1.cB, c _ _ _ _ (by omega) i1.cN, c _ _ _ _ (by omega) i1.cR, f _ _ (by omega) i1.fR, c _ _ _ _ (by omega) i1.cF, f _ _ (by omega) i1.fF, c _ _ _ _ (by omega) i1.cG,
        fun k hk => c _ _ _ _ (by omega) (i1.es k hk), fun k hk => c _ _ _ _ (by omega) (i1.bs k hk), i1.len⟩
    · rw [hS, done_cell (by show w.heap.size ≠ _; omega) (by show w.heap.size < _; omega)]
      exact c1

set_option maxHeartbeats 2000000 in
theorem run_end (g : GAt) (k : Nat) (hk : k = g.n) : RunSaid g k 0 := by
  intro r w h _
  subst hk
  have cN := h.cN
  have cN' : (w.alloc (.cells #[.int .i64 g.n] 3)).cell? ⟨g.x, 0, none⟩ = some (.int .i64 g.n) := old_cellAt cN (by have := h.hx; omega)
  have H := Lib.hid h
  clear h
  show Calls _ _ #[.int .i64 g.n, .pointer (some ⟨g.x, 0, none⟩), .pointer (some ⟨g.x + 1, 0, none⟩), .pointer (some ⟨g.B, 0, none⟩), .pointer (some ⟨g.B + 1, 0, none⟩), .pointer (some ⟨g.x + 3, 0, none⟩), .pointer (some ⟨g.x + 2, 0, none⟩)] _ _
  go_enter Try.func30, Try.ntmps30
  go_wp2
  first | go_end0 | refine bodyPost_ret (results_none rfl _ _ _) rfl ?_
  exact ⟨rfl, H.out.grew ((Grew.refl w).alloc _), (Grew.refl w).alloc _⟩

set_option maxHeartbeats 2000000 in
theorem run_step (g : GAt) (k d : Nat) (hk : k < g.n) (IH : RunSaid g (k + 1) d) : RunSaid g k (d + 1) := by
  intro r w h hr
  have HG := Lib.hid (guard_inner g k d r w IH h hk hr)
  have hne : (((k : Int)) == (g.n : Int)) = false := by simp; omega
  have cN := h.cN
  have hx := h.hx
  have cN' : (w.alloc (.cells #[.int .i64 k] 3)).cell? ⟨g.x, 0, none⟩ = some (.int .i64 g.n) := old_cellAt cN (by omega)
  obtain ⟨l1, l2, l3⟩ := h.len
  clear h IH cN
  show Calls _ _ #[.int .i64 k, .pointer (some ⟨g.x, 0, none⟩), .pointer (some ⟨g.x + 1, 0, none⟩), .pointer (some ⟨g.B, 0, none⟩), .pointer (some ⟨g.B + 1, 0, none⟩), .pointer (some ⟨g.x + 3, 0, none⟩), .pointer (some ⟨g.x + 2, 0, none⟩)] _ _
  by_cases hod : g.odd k = true
  · rw [if_pos hod] at HG
    unfold GAt.odd at hod
    go_enter Try.func30, Try.ntmps30
    go_wp2_with fail
    refine HG.out.mono ?_
    rintro e w2 ⟨rfl, i2, ck, g2⟩
    have cE := i2.cE
    have ce := i2.es k hk
    have cF := i2.cF
    have fF := i2.fF
    have I2 := Lib.hid i2
    have G2 := Lib.hid g2
    clear i2 g2 HG
    unfold GAt.err
    go_wp2
    go_end0
    exact ⟨rfl, I2.out.fine, G2.out.setCell _ _ fun _ => Or.inr rfl⟩
  · have hod' : g.odd k = false := by simpa using hod
    rw [if_neg hod] at HG
    unfold GAt.odd at hod'
    clear hod
    go_enter Try.func30, Try.ntmps30
    go_wp2_with fail
    refine HG.out.mono ?_
    rintro e w2 ⟨rfl, i2, ck, g2⟩
    have cE := i2.cE
    have ce := i2.es k hk
    have cF := i2.cF
    have fF := i2.fF
    have I2 := Lib.hid i2
    have G2 := Lib.hid g2
    clear i2 g2 HG
    go_wp2
    go_end0
    exact ⟨rfl, I2.out.fine, G2.out.setCell _ _ fun _ => Or.inr rfl⟩
theorem run_any (g : GAt) : ∀ d k, k + d = g.n → RunSaid g k d := by
  intro d
  induction d with
  | zero => exact fun k h => run_end g k h
  | succ d ih => exact fun k h => run_step g k d (by omega) (ih (k + 1) (by omega))
set_option maxHeartbeats 2000000 in
theorem run_none (x y z u v t : Addr) (w : World) (cN : w.cell? x = some (.int .i64 0)) (hx : x.block < w.heap.size) :
    Calls Try.prog 30 #[.int .i64 0, .pointer (some x), .pointer (some y), .pointer (some z), .pointer (some u), .pointer (some v), .pointer (some t)] w fun e w' => e = .returned (.tuple #[]) ∧ w.alloc (.cells #[.int .i64 0] 3) = w' := by
  have cN' : (w.alloc (.cells #[.int .i64 0] 3)).cell? x = some (.int .i64 0) := by rw [World.cell?_of_block (Below.heap_alloc _ _ _ hx)]; exact cN
  go_enter Try.func30, Try.ntmps30
  go_wp2
  first | go_end0 | refine bodyPost_ret (results_none rfl _ _ _) rfl ?_
  exact ⟨rfl, rfl⟩
end Go.Proofs.Ytponpkmmfamjnaa
