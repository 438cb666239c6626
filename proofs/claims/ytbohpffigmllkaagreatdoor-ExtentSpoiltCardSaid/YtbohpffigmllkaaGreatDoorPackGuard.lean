/-
  Fail, and Guard's deferred function, for every error: contracts by walking their text.
-/
import Derived.Test.YtbohpffigmllkaaGreatDoorRows
import Derived.WalkKit
import Derived.WalkSpells
import Derived.WalkLawsBesides
import Derived.Lib.Hide
import Derived.Below
import Derived.Defers
import Derived.Recover
namespace Go.Proofs.YtbohpffigmllkaaGreatDoor
open Go.RowKit

/-- what a failing call panics with -/
def failure (k : Int) : Value := .iface 104 (.agg #[.int .i64 k])
def failed (k : Int) : Ending := .panicked [{ v := failure k, recovered := false }]

theorem fail_any (k : Int) (w : World) :
    Calls Tryz.prog 56 #[.int .i64 k] w fun e w' => e = failed k ∧ w = w' := by
  go_enter Tryz.func56, Tryz.ntmps56
  go_wp2
  exact ⟨rfl, rfl, rfl⟩

theorem slots (p v : Value) : (#[p] ++ ((Array.replicate 16 undef).setIfInBounds 3 v).setIfInBounds 0 v) = #[p, v, undef, undef, v, undef, undef, undef, undef, undef, undef, undef, undef, undef, undef, undef, undef] := rfl
theorem catch_idle (p : Addr) (w : World) :
    CallsD Tryz.prog 80 #[.pointer (some p)] .returning w fun e u' w' => e = .returned (.tuple #[]) ∧ u' = .returning ∧ w' = w := by
  refine callsD_of_wpS Tryz.func80 rfl fun c₀ cs hu => ?_
  apply wpS_seq
  apply wpS_region
  simp [wpOpsS, go_sem, recoverD, hu, Tryz.ntmps80, Exit.thenS]
  refine wpS_of_wp ?_
  rw [slots]
  go_wp2
  cases c₀
  simp_all [bodyPostS, results, Tryz.results80]
set_option maxRecDepth 100000 in
theorem catch_failed (b : Nat) (x k : Int) (older : List PanicEntry) (w : World) (hb : b < w.heap.size) (hc : w.cell? ⟨b, 0, none⟩ = some (.int .i64 x)) (hz : w.frozen? ⟨b, 0, none⟩ = false) :
    CallsD Tryz.prog 80 #[.pointer (some ⟨b, 0, none⟩)] (.panicking ({ v := failure k, recovered := false } :: older)) w fun e u' w' =>
      e = .returned (.tuple #[]) ∧ u' = .panicking ({ v := failure k, recovered := true } :: older) ∧ w' = (w.setCell ⟨b, 0, none⟩ (.int .i64 k)).alloc (.cells #[.int .i64 k] 104) := by
  have hc' : (w.alloc (.cells #[.int .i64 k] 104)).cell? ⟨b, 0, none⟩ = some (.int .i64 x) := by rw [World.cell?_alloc_past (hn := hb), hc]
  have hz' : (w.alloc (.cells #[.int .i64 k] 104)).frozen? ⟨b, 0, none⟩ = false := by rw [World.frozen?_alloc_old (h := by simp; omega), hz]
  refine callsD_of_wpS Tryz.func80 rfl fun c₀ cs hu => ?_
  apply wpS_seq
  apply wpS_region
  simp [wpOpsS, go_sem, recoverD, hu, Tryz.ntmps80, Exit.thenS]
  refine wpS_of_wp ?_
  unfold failure
  rw [slots]
  have hta : ∀ w : World, (Instr.typeAssert (.iface 104 (.agg #[.int .i64 k])) 20 104 true).run Tryz.prog w = .ok (.tuple #[.agg #[.int .i64 k], .bool true]) w := fun _ => by kernel_rfl
  go_wp2
  cases c₀
  simp_all [bodyPostS, results, Tryz.results80]

/-- how what a Guard runs ends: it comes to its end, or fails -/
def Ends : Option Int → Ending
  | none => .returned (.tuple #[])
  | some k => failed k
/-- what Guard does behind it -/
def done (b : Nat) (o : Option Int) (w : World) : World :=
  match o with
  | none => w.setCell ⟨b, 0, none⟩ (.int .i64 0)
  | some k => (w.setCell ⟨b, 0, none⟩ (.int .i64 k)).alloc (.cells #[.int .i64 k] 104)
theorem done_cell {b : Nat} {o : Option Int} {w : World} {p : Addr} (hp : p.block ≠ b) (hs : p.block < w.heap.size) : (done b o w).cell? p = w.cell? p := by
  have e : ∀ v, (w.setCell ⟨b, 0, none⟩ v).cell? p = w.cell? p := fun v => World.cell?_of_block (Below.heap_setCell _ _ _ _ hp)
  cases o with
  | none => exact e _
  | some k =>
    have e2 : ((w.setCell ⟨b, 0, none⟩ (.int .i64 k)).alloc (.cells #[.int .i64 k] 104)).cell? p = (w.setCell ⟨b, 0, none⟩ (.int .i64 k)).cell? p := World.cell?_of_block (Below.heap_alloc _ _ _ (by simpa [World.setCell] using hs))
    exact e2.trans (e _)
theorem done_frozen {b : Nat} {o : Option Int} {w : World} {p : Addr} (hp : p.block ≠ b) (hs : p.block < w.heap.size) : (done b o w).frozen? p = w.frozen? p := by
  have e : ∀ v, (w.setCell ⟨b, 0, none⟩ v).frozen? p = w.frozen? p := fun v => World.frozen?_of_block (Below.heap_setCell _ _ _ _ hp)
  cases o with
  | none => exact e _
  | some k =>
    have e2 : ((w.setCell ⟨b, 0, none⟩ (.int .i64 k)).alloc (.cells #[.int .i64 k] 104)).frozen? p = (w.setCell ⟨b, 0, none⟩ (.int .i64 k)).frozen? p := World.frozen?_of_block (Below.heap_alloc _ _ _ (by simpa [World.setCell] using hs))
    exact e2.trans (e _)
theorem done_below {B b : Nat} {o : Option Int} {W w : World} (h : Below B W w) (hb : B ≤ b) (hs : B ≤ w.heap.size) : Below B W (done b o w) := by
  cases o with
  | none => exact h.setCell hb _
  | some k => exact (h.setCell (p := ⟨b, 0, none⟩) hb _).alloc (by simpa [World.setCell] using hs) _
theorem done_size (b : Nat) (o : Option Int) (w : World) : w.heap.size ≤ (done b o w).heap.size := by
  cases o <;> simp [done, World.setCell]
set_option maxHeartbeats 400000 in
theorem guard_any (g : FuncId) (cap : Array Value) (w : World) (R : Option Int → World → Prop) (hg : ∀ w : World, (callFunc g cap).run Tryz.prog w = .ok (.enter g cap) w)
    (hrun : Calls Tryz.prog g cap (w.alloc (.cells #[.int .i64 0] 37)) fun e w' => ∃ o, e = Ends o ∧ w'.cell? ⟨w.heap.size, 0, none⟩ = some (.int .i64 0) ∧ w'.frozen? ⟨w.heap.size, 0, none⟩ = false ∧ w.heap.size < w'.heap.size ∧ R o w') :
    Calls Tryz.prog 38 #[.func (.func g) #[] cap] w fun e w' => ∃ o w1, R o w1 ∧ e = .returned (.int .i64 (o.getD 0)) ∧ w' = done w.heap.size o w1 := by
  have hmf : ∀ (fn : Fn) (first cap : Array Value) (w : World), (Instr.makeFunc fn first cap).run Tryz.prog w = .ok (.func fn first cap) w := fun _ _ _ _ => rfl
  have HR := Lib.hid hrun
  clear hrun
  go_enter_defers Tryz.func38, Tryz.ntmps38
  go_wp2_with fail
  refine HR.out.mono ?_
  rintro e w1 ⟨o, rfl, hc, hz, hb, hR⟩
  cases o with
  | none =>
    unfold Ends
    go_wp2_with fail
    refine leaves_cons (f := 80) (args := #[.pointer (some ⟨w.heap.size, 0, none⟩)]) (by simp) (by simp [go_sem]) ?_
    refine (catch_idle ⟨w.heap.size, 0, none⟩ _).mono ?_
    rintro e u' w'' ⟨rfl, rfl, rfl⟩
    have hs : (w1.setCell ⟨w.heap.size, 0, none⟩ (.int .i64 0)).cell? ⟨w.heap.size, 0, none⟩ = some (.int .i64 0) := World.cell?_setCell_same _ _ _ hc
    simp only [Leaves, settle]
    exact ⟨.int .i64 0, by simp [results, Tryz.results38, go_sem, hs], none, w1, hR, rfl, rfl⟩
  | some k =>
    unfold Ends failed
    go_wp2_with fail
    refine leaves_cons (f := 80) (args := #[.pointer (some ⟨w.heap.size, 0, none⟩)]) (by simp) (by simp [go_sem]) ?_
    refine (catch_failed w.heap.size 0 k [] _ hb hc hz).mono ?_
    rintro e u' w'' ⟨rfl, rfl, rfl⟩
    have hs : (w1.setCell ⟨w.heap.size, 0, none⟩ (.int .i64 k)).cell? ⟨w.heap.size, 0, none⟩ = some (.int .i64 k) := World.cell?_setCell_same _ _ _ hc
    have hs' : ((w1.setCell ⟨w.heap.size, 0, none⟩ (.int .i64 k)).alloc (.cells #[.int .i64 k] 104)).cell? ⟨w.heap.size, 0, none⟩ = some (.int .i64 k) := by
      rw [World.cell?_alloc_past (hn := by simpa using hb), hs]
    simp only [settle]
    exact ⟨.int .i64 k, by simp [results, Tryz.results38, go_sem, hs'], some k, w1, hR, rfl, rfl⟩
end Go.Proofs.YtbohpffigmllkaaGreatDoor
