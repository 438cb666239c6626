/-
  Sync.
-/
import Derived.Test.YtakngnigpncmkaaDiskCopy
namespace Go.Proofs.Ytakngnigpncmkaa
open Go.RowKit

/-- a call that works is used up -/
def DiskM.spent (m : DiskM) : DiskM := if m.armed then { m with left := m.left - 1 } else m
@[simp] theorem DiskM.spent_d (m : DiskM) : m.spent.d = m.d := by unfold DiskM.spent; split <;> rfl
@[simp] theorem DiskM.spent_bs (m : DiskM) : m.spent.bs = m.bs := by unfold DiskM.spent; split <;> rfl
@[simp] theorem DiskM.spent_bt (m : DiskM) : m.spent.bt = m.bt := by unfold DiskM.spent; split <;> rfl
@[simp] theorem DiskM.spent_n (m : DiskM) : m.spent.n = m.n := by unfold DiskM.spent; split <;> rfl
@[simp] theorem DiskM.spent_cs (m : DiskM) : m.spent.cs = m.cs := by unfold DiskM.spent; split <;> rfl
@[simp] theorem DiskM.spent_ct (m : DiskM) : m.spent.ct = m.ct := by unfold DiskM.spent; split <;> rfl
@[simp] theorem DiskM.spent_S (m : DiskM) : m.spent.S = m.S := by unfold DiskM.spent; split <;> rfl
@[simp] theorem DiskM.spent_T (m : DiskM) : m.spent.T = m.T := by unfold DiskM.spent; split <;> rfl
@[simp] theorem DiskM.spent_armed (m : DiskM) : m.spent.armed = m.armed := by unfold DiskM.spent; split <;> rfl
@[simp] theorem DiskM.spent_dead (m : DiskM) : m.spent.dead = m.dead := by unfold DiskM.spent; split <;> rfl
/-- how many calls work yet is a number that an int holds -/
def DiskM.fits (m : DiskM) : Prop := 0 ≤ m.left ∧ m.left ≤ 2 ^ 62
theorem spend_ok (m : DiskM) (w : World) (h : DiskAt m w) (hl : m.left ≤ 2 ^ 62) (hp : m.armed = true → 0 < m.left) :
    Calls Try.prog 91 #[.pointer (some ⟨m.d, 0, none⟩)] w fun e w' => e = .returned (.tuple #[]) ∧ DiskAt m.spent w' ∧ Grew m.own w w' := by
  cases ha : m.armed with
  | false =>
    refine (spend_free m w h ha).mono ?_
    rintro e w' ⟨rfl, rfl⟩
    refine ⟨rfl, ?_, Grew.refl _⟩
    unfold DiskM.spent
    simpa [ha] using h
  | true =>
    refine (spend_one m w h ha (hp ha) hl).mono ?_
    rintro e w' ⟨rfl, rfl⟩
    refine ⟨rfl, ?_, (Grew.refl _).setCell _ _ fun _ => Or.inl rfl⟩
    unfold DiskM.spent
    simpa [ha] using h.left3 (m.left - 1)
theorem spend_dies (m : DiskM) (w : World) (h : DiskAt m w) (ha : m.armed = true) (h0 : m.left = 0) :
    Calls Try.prog 91 #[.pointer (some ⟨m.d, 0, none⟩)] w fun e w' => e = failed 12 ∧ DiskAt { m with dead := true } w' ∧ Grew m.own w w' := by
  refine (spend_cut m w h ha h0).mono ?_
  rintro e w' ⟨rfl, rfl⟩
  exact ⟨rfl, h.dead4 true, (Grew.refl _).setCell _ _ fun _ => Or.inl rfl⟩
theorem DiskAt.drew {m : DiskM} {w : World} (h : DiskAt m w) : DiskAt m w.drew := h.kept (S := fun _ => False) (Grew.refl w).drew (fun e => e) (fun e => e) (fun e => e)
theorem sync_cut (m : DiskM) (w : World) (h : DiskAt m w) (hd : m.dead = true) :
    Calls Try.prog 73 #[.pointer (some ⟨m.d, 0, none⟩)] w fun e w' => e = failed 12 ∧ w = w' := by
  have H := Lib.hid (power_cut m w h hd)
  clear h hd
  go_enter Try.func73, Try.ntmps73
  go_wp2_with fail
  refine H.out.mono ?_
  rintro e w' ⟨rfl, rfl⟩
  exact ⟨rfl, rfl, rfl⟩
theorem sync_dies (m : DiskM) (w : World) (h : DiskAt m w) (hd : m.dead = false) (ha : m.armed = true) (h0 : m.left = 0) :
    Calls Try.prog 73 #[.pointer (some ⟨m.d, 0, none⟩)] w fun e w' => e = failed 12 ∧ DiskAt { m with dead := true } w' ∧ Grew m.own w w' := by
  have H := Lib.hid (power_ok m w h hd)
  have H' := Lib.hid (spend_dies m w h ha h0)
  clear h hd ha h0
  go_enter Try.func73, Try.ntmps73
  go_wp2_with fail
  refine H.out.mono ?_
  rintro e w' ⟨rfl, rfl⟩
  go_wp2_with fail
  refine H'.out.mono ?_
  rintro e w' ⟨rfl, hr⟩
  exact ⟨rfl, rfl, hr⟩
theorem sync_ok (m : DiskM) (w : World) (h : DiskAt m w) (hd : m.dead = false) (hl : m.left ≤ 2 ^ 62) (hp : m.armed = true → 0 < m.left) :
    Calls Try.prog 73 #[.pointer (some ⟨m.d, 0, none⟩)] w fun e w' => e = .returned (.tuple #[]) ∧ DiskAt { m.spent with S := m.T } w' ∧ Grew m.own w w' := by
  have H := Lib.hid (power_ok m w h hd)
  have H' := Lib.hid (spend_ok m w h hl hp)
  clear h hd hl hp
  go_enter Try.func73, Try.ntmps73
  go_wp2_with fail
  refine H.out.mono ?_
  rintro e w' ⟨rfl, rfl⟩
  go_wp2_with fail
  refine H'.out.mono ?_
  rintro e w1 ⟨rfl, h1, hg⟩
  have c0 := h1.c0
  have c1 := h1.c1
  have cp := copy_all m.spent _ h1.drew
  have hq := h1.drew.synced
  simp only [DiskM.spent_d, DiskM.spent_bs, DiskM.spent_bt, DiskM.spent_n, DiskM.spent_cs, DiskM.spent_ct, DiskM.spent_T] at c0 c1 cp hq
  have HQ := Lib.hid hq
  have HG : Hid (Grew m.own w (w1.drew.setCells m.bs 0 (rowOf m.T 0 (64 * m.n)))) := Lib.hid (setCells_grew _ _ _ _ hg.drew fun _ => Or.inr (Or.inl rfl))
  clear H H' h1 hg hq
  go_wp2_with fail
  go_region
  go_end0
  exact ⟨rfl, by simpa using HQ.out, HG.out⟩
end Go.Proofs.Ytakngnigpncmkaa
