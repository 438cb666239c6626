/-
  A super's sector is spoilt: what the law's Guard does, and what is read then.
-/
import Derived.Test.YtmpegfmhnciemaaSuperKit
import Derived.Test.YtmpegfmhnciemaaDiskSpoil
namespace Go.Proofs.Ytmpegfmhnciemaa
open Go.RowKit

theorem bend_other (f : Nat → UInt8) (k b i : Nat) (x : UInt8) (hb : b < 64) (h : ¬ i = k) : sec (bendF f (k * 64 + b) x) i = sec f i := by
  unfold sec
  apply List.map_congr_left
  intro j hj
  have hj' : j < 64 := by simpa using hj
  unfold bendF
  rw [if_neg (by omega)]
/-- what a spoilt disk's supers are -/
theorem last_spoilt (d bs bt n : Nat) (s : Sup) (hc : s.check n = 0) (b : Nat) (hb : b < 64) (x : UInt8) (M : DiskM) (hM : M = ((newDisk d bs bt n).wrote (s.ep % 2) (txtf s.frame)).spoilt (s.ep % 2 * 64 + b) x) :
    (refOk (sectOf M (s.ep % 2)) (s.ep % 2) n → lastOf M = refOf (sectOf M (s.ep % 2)) ∧ lastE M = none) ∧
    (¬ refOk (sectOf M (s.ep % 2)) (s.ep % 2) n → lastOf M = Sup.none ∧ lastE M = some 1) := by
  have h2 := check_room s n hc
  have hn : M.n = n := by rw [hM]; rfl
  have ho : ∀ k, k < 2 → ¬ k = s.ep % 2 → ¬ refOk (sectOf M k) k M.n := fun k _ hk => by
    have e : sectOf M k = sectOf (newDisk d bs bt n) k := by
      rw [hM]
      unfold sectOf
      rw [show (((newDisk d bs bt n).wrote (s.ep % 2) (txtf s.frame)).spoilt (s.ep % 2 * 64 + b) x).T = bendF ((newDisk d bs bt n).wrote (s.ep % 2) (txtf s.frame)).T (s.ep % 2 * 64 + b) x from rfl, bend_other _ _ _ _ _ hb hk]
      exact congrArg (fun l : List UInt8 => (⟨l.toArray⟩ : ByteArray)) (wrote_in (newDisk d bs bt n) _ _ k hk).sec
    rw [e]
    exact blank_ref (sectOf_blank d bs bt n k) _ _
  constructor
  · intro h
    have hl : lastOf M = refOf (sectOf M (s.ep % 2)) := last_one M (by omega) (s.ep % 2) (Nat.mod_lt _ (by decide)) (by rw [hn]; exact h) ho
    refine ⟨hl, ?_⟩
    unfold lastE
    rw [hl, if_neg (ok_ep h)]
  · intro h
    have hl : lastOf M = Sup.none := last_none M fun k hk => by
      by_cases e : k = s.ep % 2
      · rw [e, hn]
        exact h
      · exact ho k hk e
    refine ⟨hl, ?_⟩
    unfold lastE
    rw [hl]
    rfl
/-- the variables that the law's Guard takes along -/
structure SpBox (q p b0 : Nat) (o : Obj) (b1 b2 : Nat) (v1 v2 : Value) (w : World) : Prop where
  d : w.cell? ⟨q, 0, none⟩ = some (.pointer (some ⟨p, 0, none⟩))
  x : Holds b0 o w
  by' : w.cell? ⟨b1, 0, none⟩ = some v1
  wi : w.cell? ⟨b2, 0, none⟩ = some v2
theorem SpBox.grew {q p b0 : Nat} {o : Obj} {b1 b2 : Nat} {v1 v2 : Value} {w w' : World} {S : Nat → Prop} (h : SpBox q p b0 o b1 b2 v1 v2 w) (g : Grew S w w') (h0 : ¬ S q) (h1 : ¬ S b0) (h2 : ¬ S b1) (h3 : ¬ S b2) : SpBox q p b0 o b1 b2 v1 v2 w' :=
  ⟨by rw [g.cell (p := ⟨q, 0, none⟩) (cell_lt h.d) h0]; exact h.d, h.x.grew g h1, by rw [g.cell (p := ⟨b1, 0, none⟩) (cell_lt h.by') h2]; exact h.by', by rw [g.cell (p := ⟨b2, 0, none⟩) (cell_lt h.wi) h3]; exact h.wi⟩
theorem SpBox.below {q p b0 : Nat} {o : Obj} {b1 b2 : Nat} {v1 v2 : Value} {w w' : World} (h : SpBox q p b0 o b1 b2 v1 v2 w) (g : Below w.heap.size w w') : SpBox q p b0 o b1 b2 v1 v2 w' :=
  h.grew (Grew.of_below (S := fun _ => False) g) (fun e => e) (fun e => e) (fun e => e) (fun e => e)
theorem SpBox.keep {q p b0 : Nat} {v0 v1 v2 v3 v4 : Value} {t : TypeId} {b1 b2 : Nat} {u1 u2 : Value} {w : World} (h : SpBox q p b0 (.cells #[v0, v1, v2, v3, v4] t) b1 b2 u1 u2 w) : w.cell? ⟨q, 0, none⟩ = some (.pointer (some ⟨p, 0, none⟩)) ∧ w.cell? ⟨b0, 0, none⟩ = some v0 ∧ w.cell? ⟨b0, 1, none⟩ = some v1 ∧ w.cell? ⟨b0, 2, none⟩ = some v2 ∧ w.cell? ⟨b0, 3, none⟩ = some v3 ∧ w.cell? ⟨b0, 4, none⟩ = some v4 := ⟨h.d, fiveAt h.x⟩
set_option maxHeartbeats 1000000 in
theorem superSpoilt1_any (p : Nat) (m : DiskM) (hp : m.d = p) (s : Sup) (q b0 b1 b2 : Nat) (y : Int) (b : Nat) (hy : bits .and .i64 y 63 = (b : Int)) (hb : b < 64) (x : UInt8) (w : World) (hD : DiskAt m w) (hk : s.ep % 2 < m.n)
    (hB : SpBox q p b0 (.cells s.refCells 47) b1 b2 (.int .i64 y) (.int .u8 (x.toNat : Int)) w) :
    Calls Try.prog 34 #[.pointer (some ⟨q, 0, none⟩), .pointer (some ⟨b0, 0, none⟩), .pointer (some ⟨b1, 0, none⟩), .pointer (some ⟨b2, 0, none⟩)] w fun e w' => e = .returned (.tuple #[]) ∧ DiskAt (m.spoilt (s.ep % 2 * 64 + b) x) w' ∧ Grew m.own w w' := by
  have HSp : Hid (Calls Try.prog 35 #[.pointer (some ⟨p, 0, none⟩), .int .i64 ((s.ep : Int) % 2), .int .i64 (b : Int), .int .u8 ((x.toNat : Nat) : Int)] w fun e w' => e = .returned (.tuple #[]) ∧ DiskAt (m.spoilt (s.ep % 2 * 64 + b) x) w' ∧ Grew m.own w w') := Lib.hid (by
    subst hp
    have := spoil_ok m (s.ep % 2) b x w hD hk hb
    rw [show ((s.ep % 2 : Nat) : Int) = (s.ep : Int) % 2 by omega] at this
    exact this)
  obtain ⟨c0, c1, c2, c3⟩ := hB
  obtain ⟨l0, l1, l2, l3, l4⟩ := c1.ref
  clear hD hk hp c1
  generalize m.spoilt (s.ep % 2 * 64 + b) x = M at *
  generalize m.own = O at *
  generalize s.ep = ep at *
  go_enter Try.func34, Try.ntmps34
  go_wp2_with fail
  refine HSp.out.mono ?_
  rintro e w1 ⟨rfl, hr⟩
  have HR := Lib.hid hr
  clear hr
  go_wp2_with fail
  go_end0
  exact ⟨rfl, HR.out⟩
theorem superSpoilt_guard (p : Nat) (m : DiskM) (hp : m.d = p) (s : Sup) (q b0 b1 b2 : Nat) (y : Int) (b : Nat) (hy : bits .and .i64 y 63 = (b : Int)) (hb : b < 64) (x : UInt8) (w : World) (hD : DiskAt m w) (hk : s.ep % 2 < m.n)
    (hB : SpBox q p b0 (.cells s.refCells 47) b1 b2 (.int .i64 y) (.int .u8 (x.toNat : Int)) w) :
    Calls Try.prog 33 #[.func (.func 34) #[] #[.pointer (some ⟨q, 0, none⟩), .pointer (some ⟨b0, 0, none⟩), .pointer (some ⟨b1, 0, none⟩), .pointer (some ⟨b2, 0, none⟩)]] w fun e w' => e = .returned (.int .i64 0) ∧ DiskAt (m.spoilt (s.ep % 2 * 64 + b) x) w' ∧ Grew m.own w w' := by
  have hown := hD.below
  refine (guard_grew 34 #[.pointer (some ⟨q, 0, none⟩), .pointer (some ⟨b0, 0, none⟩), .pointer (some ⟨b1, 0, none⟩), .pointer (some ⟨b2, 0, none⟩)] w m.own (fun o w1 => o = none ∧ DiskAt (m.spoilt (s.ep % 2 * 64 + b) x) w1) (fun e => Nat.lt_irrefl _ (hown _ e)) (fun _ => by kernel_rfl) ?_).mono ?_
  · have g1 : Grew (fun _ => False) w (w.alloc errBox) := (Grew.refl w).alloc _
    refine (superSpoilt1_any p m hp s q b0 b1 b2 y b hy hb x _ (hD.keep g1 fun _ _ e => e) hk (hB.grew g1 (fun e => e) (fun e => e) (fun e => e) (fun e => e))).mono ?_
    rintro e w' ⟨rfl, hd, hg⟩
    exact ⟨none, rfl, hg, rfl, hd⟩
  · rintro e w' ⟨o, w1, rfl, ⟨rfl, hd⟩, rfl, hg, hlt⟩
    exact ⟨rfl, hd.keep (done_only _ _ _) (fun k hk e => by have := hown k hk; omega), hg⟩
end Go.Proofs.Ytmpegfmhnciemaa
