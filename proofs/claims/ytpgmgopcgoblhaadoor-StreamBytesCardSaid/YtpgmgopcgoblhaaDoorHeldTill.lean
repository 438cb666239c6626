/-
  A region that draws its order and ends in stores: a condition that holds till the first of the stores; what it gives may be taken first.
-/
import Derived.Test.YtpgmgopcgoblhaaDoorStreamItem
import Derived.OrdersHeld
import Derived.Deep.RegionHeld
namespace Go.Proofs.YtpgmgopcgoblhaaDoor
open Go.RowKit

/-- whatever comes next: S behind each operation, as long as number s hasn't come -/
def HeldTill (P : Program) (md : Region.Mode) (ops : Array Oper) (Q : Exit → Act → World → Prop) (S : World → Prop) (s : Nat) : Nat → Array Bool → Act → World → Prop
  | 0, l, a, w => Region.ready md ops l = [] ∧ Q .normal a w
  | n + 1, l, a, w => (Region.ready md ops l = [] → Q .normal a w) ∧
    ∀ i ∈ Region.ready md ops l, wpOp P ops Q i (fun b v => ((l.setIfInBounds i true).getD s true = false → S v) ∧ HeldTill P md ops Q S s n (l.setIfInBounds i true) b v) a w
section
variable {P : Program} {md : Region.Mode} {ops : Array Oper} {Q : Exit → Act → World → Prop} {S : World → Prop} {s : Nat}
theorem HeldTill.any : ∀ (n : Nat) (l : Array Bool) (a : Act) (w : World), HeldTill P md ops Q S s n l a w → wpAny P md ops Q n l a w
  | 0, _, _, _, h => h
  | n + 1, _, _, _, h => ⟨h.1, fun i hi => wpOp_mono (fun b v k => HeldTill.any n _ b v k.2) (h.2 i hi)⟩
/-- number j waits for number i -/
def Waits (md : Region.Mode) (ops : Array Oper) (j i : Nat) : Prop := ∃ o, ops[j]? = some o ∧ ∃ e ∈ o.after, Region.binds md e = true ∧ e.on = i
/-- each of a path waits for the one ahead, the first one for i -/
def Pth (md : Region.Mode) (ops : Array Oper) : Nat → List Nat → Prop
  | _, [] => True
  | i, p :: ps => Waits md ops p i ∧ Pth md ops p ps
theorem getD_both {l : Array Bool} {i : Nat} (h0 : l.getD i true = false) (ht : l.getD i false = true) : False := by
  rcases Nat.lt_or_ge i l.size with h | h
  · simp [h] at h0 ht
    rw [h0] at ht
    cases ht
  · simp [Array.getElem?_eq_none h] at ht
theorem Waits.not {j i : Nat} {l : Array Bool} (h : Waits md ops j i) (hi : l.getD i true = false) : j ∉ Region.ready md ops l := fun hj => by
  obtain ⟨os, hos, e0, he0, hb0, ho0⟩ := h
  obtain ⟨_, o, ho, hall⟩ := mem_ready.1 hj
  rw [hos] at ho
  cases ho
  have := hall e0 he0 hb0
  rw [ho0] at this
  exact getD_both hi this
theorem Pth.not {l : Array Bool} : ∀ {ps : List Nat} {i : Nat}, Pth md ops i ps → l.getD i true = false → (∀ p ∈ ps, l.getD p true = false) → ∀ p ∈ ps, p ∉ Region.ready md ops l
  | [], _, _, _, _, _, hp => by cases hp
  | q :: ps, i, h, hi, hu, p, hp => by
    rcases List.mem_cons.1 hp with rfl | hp
    · exact h.1.not hi
    · exact Pth.not h.2 (hu q List.mem_cons_self) (fun x hx => hu x (List.mem_cons_of_mem _ hx)) p hp
theorem HeldTill.first {i : Nat} {oi : Oper} {v : Value} (hi : ops[i]? = some oi) (hsel : ∀ (j : Nat) (o : Oper) cs b, ops[j]? = some o → o.op ≠ .select cs b)
    (hQ : ∀ c a w, Q (.panic c) (a.put oi.dst v) w → Q (.panic c) a w) (ps : List Nat) (hpath : Pth md ops i ps) (hsp : s ∈ ps) (n : Nat) :
    ∀ (l : Array Bool) (a : Act) (w : World), (∀ p ∈ ps, l.getD p true = false) → i ∈ Region.ready md ops l →
      (∀ j oj, ops[j]? = some oj → j ≠ i → l.getD j true = false → (∀ e ∈ oj.after, Region.binds md e = true → e.on ≠ i) → oi.apart ops oj = true) →
      YieldsIf P ops S oi v a → S w → HeldTill P md ops Q S s n (l.setIfInBounds i true) (a.put oi.dst v) w → HeldTill P md ops Q S s (n + 1) l a w := by
  have unlisted : ∀ {l : Array Bool}, i ∈ Region.ready md ops l → l.getD i true = false := fun {l} hr => (mem_ready.1 hr).1
  induction n with
  | zero =>
    intro l a w _ hr _ hy hS H
    refine ⟨fun h => (by rw [h] at hr; cases hr), fun j hj => ?_⟩
    by_cases hji : j = i
    · subst hji
      exact hy.wpOp hi hS ⟨fun _ => hS, H⟩
    · have := ready_mono hj hji
      rw [H.1] at this
      cases this
  | succ n ih =>
    intro l a w hus hr hfree hy hS H
    refine ⟨fun h => (by rw [h] at hr; cases hr), fun j hj => ?_⟩
    by_cases hji : j = i
    · subst hji
      exact hy.wpOp hi hS ⟨fun _ => hS, H⟩
    · have hps := Pth.not hpath (unlisted hr) hus
      have hne : ∀ p ∈ ps, j ≠ p := fun p hp e => hps p hp (by rw [← e]; exact hj)
      have his : i ≠ s := fun e => hps s hsp (by rw [← e]; exact hr)
      have step := H.2 j (ready_mono hj hji)
      obtain ⟨hjun, oj, hoj, hall⟩ := mem_ready.1 hj
      have hnot : ∀ e ∈ oj.after, Region.binds md e = true → e.on ≠ i := fun e he hb heq => getD_both (unlisted hr) (by have := hall e he hb; rwa [heq] at this)
      have moved := wpOp_putIf hoj (hfree j oj hoj hji hjun hnot) (fun cs b => hsel i oi cs b hi) (fun cs b => hsel j oj cs b hoj) hQ hy step
      have hus' : ∀ p ∈ ps, (l.setIfInBounds j true).getD p true = false := fun p hp => by rw [getD_set_ne true (hne p hp)]; exact hus p hp
      have hus2 : ((l.setIfInBounds i true).setIfInBounds j true).getD s true = false := by rw [getD_set_ne true (hne s hsp), getD_set_ne true his]; exact hus s hsp
      have hfree' : ∀ k ok, ops[k]? = some ok → k ≠ i → (l.setIfInBounds j true).getD k true = false → (∀ e ∈ ok.after, Region.binds md e = true → e.on ≠ i) → oi.apart ops ok = true := fun k ok hk hki hun hno =>
        hfree k ok hk hki (by
          by_cases hjk : j = k
          · rw [← hjk]; exact hjun
          · rwa [getD_set_ne true hjk] at hun) hno
      refine wpOp_mono (fun b v k => ⟨fun _ => k.2.1 hus2, ih (l.setIfInBounds j true) b v hus' (ready_mono hr (Ne.symm hji)) hfree' k.1 (k.2.1 hus2) ?_⟩) moved
      rw [Array.setIfInBounds_comm _ _ hji]
      exact k.2.2
/-- does each of a path wait for the one ahead? -/
def pathB (md : Region.Mode) (ops : Array Oper) : Nat → List Nat → Bool
  | _, [] => true
  | i, p :: ps => (match ops[p]? with | some o => o.after.any fun e => Region.binds md e && e.on == i | none => false) && pathB md ops p ps
theorem path_of : ∀ {ps : List Nat} {i : Nat}, pathB md ops i ps = true → Pth md ops i ps
  | [], _, _ => trivial
  | p :: ps, i, h => by
    unfold pathB at h
    rw [Bool.and_eq_true] at h
    refine ⟨?_, path_of h.2⟩
    cases ho : ops[p]? with
    | none => rw [ho] at h; cases h.1
    | some o =>
      rw [ho] at h
      obtain ⟨k, hk, he⟩ := Array.any_eq_true.1 h.1
      rw [Bool.and_eq_true, beq_iff_eq] at he
      exact ⟨o, ho, o.after[k], Array.getElem_mem hk, he⟩
theorem HeldTill.take {i : Nat} {oi : Oper} {v : Value} {n : Nat} {l : Array Bool} {a : Act} {w : World} (hi : ops[i]? = some oi)
    (hs : Region.noSelect ops = true) (hf : Region.free md ops l i = true) (hr : (Region.ready md ops l).contains i = true) (ps : List Nat) (hus : (ps.all fun p => !l.getD p true) = true)
    (hwait : pathB md ops i ps = true) (hsp : ps.contains s = true)
    (hQ : ∀ c a w, Q (.panic c) (a.put oi.dst v) w → Q (.panic c) a w) (hy : YieldsIf P ops S oi v a) (hS : S w)
    (h : HeldTill P md ops Q S s n (l.setIfInBounds i true) (a.put oi.dst v) w) : HeldTill P md ops Q S s (n + 1) l a w :=
  HeldTill.first hi (Region.noSelect_spec hs) hQ ps (path_of hwait) (by simpa using hsp) n l a w (fun p hp => by simpa using List.all_eq_true.1 hus p hp) (by simpa using hr) (Region.free_spec hi hf) hy hS h
theorem HeldTill.next {i : Nat} {o : Oper} {n : Nat} {l : Array Bool} {a : Act} {w : World} (hr : Region.ready md ops l = [i]) (ho : ops[i]? = some o)
    (h : ∀ K' : Act → World → Prop, Shut (∀ b v, ((l.setIfInBounds i true).getD s true = false → S v) → HeldTill P md ops Q S s n (l.setIfInBounds i true) b v → K' b v) → if Region.wanted o (yielded ops a.tmps) = true then Oper.wp P o a w K' Q else K' (a.put o.dst undef) w) :
    HeldTill P md ops Q S s (n + 1) l a w :=
  ⟨fun e => (by rw [hr] at e; cases e), fun j hj => by
    rw [hr, List.mem_singleton] at hj
    subst hj
    exact wpOp_step ho fun K' hK => h K' fun b v hS hh => hK b v ⟨hS, hh⟩⟩
theorem HeldTill.done {l : Array Bool} {a : Act} {w : World} (hr : Region.ready md ops l = []) (h : Q .normal a w) : ∀ n, HeldTill P md ops Q S s n l a w
  | 0 => ⟨hr, h⟩
  | _ + 1 => ⟨fun _ => h, by rw [hr]; simp⟩
theorem HeldTill.start {id : Nat} {a : Act} {w : World} (hm : P.follows .mixedOrders = true)
    (h : HeldTill P .any ops Q S s ops.size (Array.replicate ops.size false) a w.drew) : (Code.region id ops true).wp P Q a w :=
  wp_region_any hm (HeldTill.any _ _ _ _ h)
end
end Go.Proofs.YtpgmgopcgoblhaaDoor
