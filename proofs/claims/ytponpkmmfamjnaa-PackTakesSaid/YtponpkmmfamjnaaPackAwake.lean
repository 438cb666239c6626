/-
  The law's package of layer 3: awake answers true.
-/
import Derived.Test.YtponpkmmfamjnaaPackOut2
namespace Go.Proofs.Ytponpkmmfamjnaa
open Go.RowKit

theorem short_any (w : World) : Calls Try.prog 49 #[] w fun e w' => e = failed 2 ∧ w.alloc (.cells #[.string ⟨#[97]⟩] 83) = w' := by
  go_enter Try.func49, Try.ntmps49
  go_wp2_with fail
  refine (read_any _ _).mono ?_
  rintro e w' ⟨rfl, rfl⟩
  go_wp2_with fail
  refine (num_end _ ⟨#[97]⟩ 2 _ (by decide) (by simp)).mono ?_
  rintro e w' ⟨rfl, rfl⟩
  unfold failed
  go_wp2
  exact ⟨rfl, rfl, rfl⟩
theorem idle_any (w : World) : Calls Try.prog 50 #[] w fun e w' => e = .returned (.tuple #[]) ∧ w = w' := by
  go_enter Try.func50, Try.ntmps50
  go_wp2
  go_end0
  exact ⟨rfl, rfl⟩

theorem outNew (w : World) : OutAt (w.heap.size + 1) w.heap.size (.slice none 0 0) [] (w.alloc (.cells #[.slice none 0 0] 43)) := by
  refine ⟨by omega, by simp, by simp, by simp, World.ownsRow_nil _ _ _ _⟩
theorem outs_own {o : Nat} {v : Value} {l : List UInt8} {B : Nat} {w : World} (h : OutAt B o v l w) : ∀ k, outs o v k → o ≤ k := by
  rintro k (rfl | e)
  · omega
  · have := h.own k e
    have := h.lt
    omega

theorem guard_ends (g : FuncId) (cap : Array Value) (w : World) (o : Option Int) (W1 : World) (hg : ∀ w : World, (callFunc g cap).run Try.prog w = .ok (.enter g cap) w)
    (hrun : Calls Try.prog g cap (w.alloc (.cells #[.int .i64 0] 29)) fun e w' => e = Ends o ∧ W1 = w') (hc : W1.cell? ⟨w.heap.size, 0, none⟩ = some (.int .i64 0)) (hz : W1.frozen? ⟨w.heap.size, 0, none⟩ = false) (hs : w.heap.size < W1.heap.size) :
    Calls Try.prog 14 #[.func (.func g) #[] cap] w fun e w' => e = .returned (.int .i64 (o.getD 0)) ∧ done w.heap.size o W1 = w' := by
  refine (guard_any g cap w (fun o' w' => o' = o ∧ W1 = w') hg (hrun.mono ?_)).mono ?_
  · rintro e w' ⟨rfl, rfl⟩
    exact ⟨o, rfl, hc, hz, hs, rfl, rfl⟩
  · rintro e w' ⟨o', w1, ⟨rfl, rfl⟩, rfl, rfl⟩
    exact ⟨rfl, rfl⟩
theorem guard_short (w : World) : Calls Try.prog 14 #[.func (.func 49) #[] #[]] w fun e w' => e = .returned (.int .i64 2) ∧ Below w.heap.size w w' := by
  refine (guard_ends _ #[] w (some 2) _ (fun _ => by kernel_rfl) (short_any _) (by simp) (by simp) (by simp; omega)).mono ?_
  rintro e w' ⟨rfl, rfl⟩
  exact ⟨rfl, done_below (((Below.refl _ _).alloc (Nat.le_refl _) _).alloc (by simp) _) (Nat.le_refl _) (by simp; omega)⟩
theorem guard_idle (w : World) : Calls Try.prog 14 #[.func (.func 50) #[] #[]] w fun e w' => e = .returned (.int .i64 0) ∧ Below w.heap.size w w' := by
  refine (guard_ends _ #[] w none _ (fun _ => by kernel_rfl) (idle_any _) (by simp) (by simp) (by simp)).mono ?_
  rintro e w' ⟨rfl, rfl⟩
  exact ⟨rfl, done_below ((Below.refl _ _).alloc (Nat.le_refl _) _) (Nat.le_refl _) (by simp)⟩

set_option maxHeartbeats 1000000 in
theorem packAwake_any (w : World) :
    Calls Try.prog 12 #[] w fun e w' => e = .returned (.bool true) ∧ Below w.heap.size w w' := by
  have HO := Lib.hid (outNew w)
  go_enter Try.func12, Try.ntmps12
  go_wp2_with fail
  refine (outNum_any _ _ _ [] 300 2 _ HO.out (by decide)).mono ?_
  rintro e w1 ⟨rfl, v1, h1, _, h3⟩
  have HG : Hid (Below w.heap.size w w1) := Lib.hid (h3.below ((Below.refl _ _).alloc (Nat.le_refl _) _) (by simp) (outs_own HO.out))
  have H1 := Lib.hid h1
  clear h1 h3
  go_wp2_with fail
  refine (outBytes_any _ _ _ _ _ H1.out).mono ?_
  rintro e w' ⟨rfl, rfl⟩
  have e1 : (⟨([] ++ enc 300 (wid 2)).toArray⟩ : ByteArray) = ⟨#[1, 44]⟩ := by decide
  rw [e1]
  clear e1
  go_wp2_with fail
  refine (guard_short _).mono ?_
  rintro e w2 ⟨rfl, hb2⟩
  go_wp2_with fail
  refine (guard_idle _).mono ?_
  rintro e w3 ⟨rfl, hb3⟩
  go_wp2
  go_ret
  have s1 := HG.out.size
  have s2 := hb2.size
  exact ⟨rfl, (HG.out.trans (hb2.mono s1)).trans (hb3.mono (by omega))⟩
end Go.Proofs.Ytponpkmmfamjnaa
