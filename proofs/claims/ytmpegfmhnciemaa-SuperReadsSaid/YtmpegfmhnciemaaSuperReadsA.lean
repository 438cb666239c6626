/-
  SuperReads: what holds of its row, its boxes and its disk while it runs.
-/
import Derived.Test.YtmpegfmhnciemaaSuperKit
import Derived.Test.YtmpegfmhnciemaaSuperRefR
namespace Go.Proofs.Ytmpegfmhnciemaa
open Go.RowKit

/-- a text with noughts behind, up to a sector -/
def pad64 (s : ByteArray) : ByteArray := tail0 s (64 - s.size)
theorem pad64_size (s : ByteArray) (h : s.size ≤ 64) : (pad64 s).size = 64 := by unfold pad64; rw [tail0_size]; omega
theorem sectOf_pad (m : DiskM) (k : Nat) (s : ByteArray) (hs : s.size ≤ 64) : sectOf (m.wrote k (txtf s)) k = pad64 s := by
  apply ByteArray.ext
  apply Array.toList_inj.mp
  have hl : s.data.toList.length = s.size := by simp
  have h1 : (pad64 s).data.toList = s.data.toList ++ List.replicate (64 - s.size) 0 := by simp [pad64, tail0, ByteArray.data_append]
  rw [h1]
  show sec (m.wrote k (txtf s)).T k = _
  refine List.ext_getElem (by simp [sec, hl]; omega) fun j h2 h3 => ?_
  have hj : j < 64 := by simpa [sec] using h2
  rw [sec_get]
  have h4 : (m.wrote k (txtf s)).T (k * 64 + j) = txtf s j := by
    show (if k * 64 ≤ k * 64 + j ∧ k * 64 + j < k * 64 + 64 then txtf s (k * 64 + j - k * 64) else _) = _
    rw [if_pos ⟨by omega, by omega⟩]
    congr 1
    omega
  rw [h4]
  unfold txtf
  rw [List.getD_eq_getElem?_getD]
  by_cases hjs : j < s.data.toList.length
  · rw [List.getElem?_eq_getElem hjs, List.getElem_append_left hjs]
    rfl
  · rw [List.getElem?_eq_none (by omega), List.getElem_append_right (by omega)]
    simp
theorem twoAt {w : World} {x : Nat} {t : TypeId} {a b : Value} (h : Holds x (.cells #[a, b] t) w) : w.cell? ⟨x, 0, none⟩ = some a ∧ w.cell? ⟨x, 1, none⟩ = some b ∧ ∀ j, w.frozen? ⟨x, j, none⟩ = false := by
  unfold Holds at h
  simp [World.cell?, World.frozen?, h]
/-- the law's row of two texts, its boxes -/
structure RS (w : World) (L : Nat) (o8 o9 : Obj) (T0 T1 : ByteArray) (wx : World) : Prop where
  r0 : wx.cell? ⟨L, 0, none⟩ = some (.string T0)
  r1 : wx.cell? ⟨L, 1, none⟩ = some (.string T1)
  f : ∀ j, wx.frozen? ⟨L, j, none⟩ = false
  z0 : T0.size ≤ 64
  z1 : T1.size ≤ 64
  lt : w.heap.size + 1 < L
  x : Holds w.heap.size o8 wx
  y : Holds (w.heap.size + 1) o9 wx
  below : Below w.heap.size w wx
theorem RS.grew {w : World} {L : Nat} {o8 o9 : Obj} {T0 T1 : ByteArray} {wx wy : World} {S : Nat → Prop} (h : RS w L o8 o9 T0 T1 wx) (g : Grew S wx wy) (hL : ¬ S L) (hS : ∀ k, S k → w.heap.size + 1 < k) : RS w L o8 o9 T0 T1 wy :=
  ⟨by rw [g.cell (p := ⟨L, 0, none⟩) (cell_lt h.r0) hL]; exact h.r0, by rw [g.cell (p := ⟨L, 1, none⟩) (cell_lt h.r1) hL]; exact h.r1, fun j => by rw [g.frozen (p := ⟨L, j, none⟩) (cell_lt h.r0) hL]; exact h.f j, h.z0, h.z1, h.lt,
    h.x.grew g fun e => by have := hS _ e; omega, h.y.grew g fun e => by have := hS _ e; omega, g.below h.below h.below.size fun k e => by have := hS k e; omega⟩
theorem RS.step {w : World} {L : Nat} {o8 o9 : Obj} {T0 T1 : ByteArray} {wx wy : World} (h : RS w L o8 o9 T0 T1 wx) (g : Below wx.heap.size wx wy) : RS w L o8 o9 T0 T1 wy :=
  h.grew (Grew.of_below (S := fun _ => False) g) (fun e => e) fun _ e => e.elim
theorem RS.set0 {w : World} {L : Nat} {o8 o9 : Obj} {T0 T1 : ByteArray} {wx : World} (h : RS w L o8 o9 T0 T1 wx) (U : ByteArray) (hU : U.size ≤ 64) : RS w L o8 o9 U T1 (wx.setCell ⟨L, 0, none⟩ (.string U)) := by
  have hlt := h.lt
  exact ⟨set_same h.r0, by rw [set_off (by decide)]; exact h.r1, fun j => by rw [set_free]; exact h.f j, hU, h.z1, h.lt, h.x.set _ _ (by show w.heap.size ≠ L; omega), h.y.set _ _ (by show w.heap.size + 1 ≠ L; omega), h.below.setCell (by show w.heap.size ≤ L; omega) _⟩
theorem RS.set1 {w : World} {L : Nat} {o8 o9 : Obj} {T0 T1 : ByteArray} {wx : World} (h : RS w L o8 o9 T0 T1 wx) (U : ByteArray) (hU : U.size ≤ 64) : RS w L o8 o9 T0 U (wx.setCell ⟨L, 1, none⟩ (.string U)) := by
  have hlt := h.lt
  exact ⟨by rw [set_off (by decide)]; exact h.r0, set_same h.r1, fun j => by rw [set_free]; exact h.f j, h.z0, hU, h.lt, h.x.set _ _ (by show w.heap.size ≠ L; omega), h.y.set _ _ (by show w.heap.size + 1 ≠ L; omega), h.below.setCell (by show w.heap.size ≤ L; omega) _⟩
theorem RS.cellp {w : World} {L : Nat} {o8 o9 : Obj} {T0 T1 : ByteArray} {wx : World} (h : RS w L o8 o9 T0 T1 wx) (p : Nat) (hp : p < 2) : ∃ T : ByteArray, wx.cell? ⟨L, p, none⟩ = some (.string T) := by
  rcases Nat.lt_or_ge p 1 with h1 | h1
  · obtain rfl : p = 0 := by omega
    exact ⟨_, h.r0⟩
  · obtain rfl : p = 1 := by omega
    exact ⟨_, h.r1⟩
theorem RS.setp {w : World} {L : Nat} {o8 o9 : Obj} {T0 T1 : ByteArray} {wx : World} (h : RS w L o8 o9 T0 T1 wx) (p : Nat) (hp : p < 2) (U : ByteArray) (hU : U.size ≤ 64) : ∃ V0 V1, RS w L o8 o9 V0 V1 (wx.setCell ⟨L, p, none⟩ (.string U)) := by
  rcases Nat.lt_or_ge p 1 with h1 | h1
  · obtain rfl : p = 0 := by omega
    exact ⟨_, _, h.set0 U hU⟩
  · obtain rfl : p = 1 := by omega
    exact ⟨_, _, h.set1 U hU⟩
/-- with the disk, of which the first k sectors are written -/
structure Rd (w : World) (L : Nat) (o8 o9 : Obj) (p n : Nat) (O : Nat → Prop) (T0 T1 : ByteArray) (k : Nat) (M : DiskM) (U0 U1 : ByteArray) (wx : World) : Prop where
  d : M.d = p
  n : M.n = n
  own : M.own = O
  live : M.Live
  at' : DiskAt M wx
  u0 : U0 = if 0 < k then pad64 T0 else T0
  u1 : U1 = if 1 < k then pad64 T1 else T1
  m0 : 0 < k → sectOf M 0 = pad64 T0
  m1 : 1 < k → sectOf M 1 = pad64 T1
  rs : RS w L o8 o9 U0 U1 wx
  oL : ¬ O L
  hi : ∀ k, O k → w.heap.size + 1 < k
/-- while the k-th text is filled up behind its write -/
structure Pd (w : World) (L : Nat) (o8 o9 : Obj) (p n : Nat) (O : Nat → Prop) (V0 V1 : ByteArray) (k : Nat) (M : DiskM) (T : ByteArray) (j : Nat) (wy : World) : Prop where
  d : M.d = p
  n : M.n = n
  own : M.own = O
  live : M.Live
  tt : T = if k = 0 then V0 else V1
  z : T.size ≤ 64
  m0 : 0 < k → sectOf M 0 = pad64 V0
  at' : DiskAt (M.wrote k (txtf T)) wy
  rs : RS w L o8 o9 (if k = 0 then tail0 T j else pad64 V0) (if k = 0 then V1 else tail0 T j) wy
  jz : T.size + j ≤ 64
  oL : ¬ O L
  hi : ∀ k, O k → w.heap.size + 1 < k
theorem Pd.cell {w : World} {L : Nat} {o8 o9 : Obj} {p n : Nat} {O : Nat → Prop} {V0 V1 : ByteArray} {k : Nat} {M : DiskM} {T : ByteArray} {j : Nat} {wy : World} (h : Pd w L o8 o9 p n O V0 V1 k M T j wy) (hk : k < 2) : wy.cell? ⟨L, k, none⟩ = some (.string (tail0 T j)) ∧ wy.frozen? ⟨L, k, none⟩ = false := by
  refine ⟨?_, h.rs.f k⟩
  by_cases e : k = 0
  · subst e
    exact h.rs.r0
  · obtain rfl : k = 1 := by omega
    exact h.rs.r1
theorem Pd.step {w : World} {L : Nat} {o8 o9 : Obj} {p n : Nat} {O : Nat → Prop} {V0 V1 : ByteArray} {k : Nat} {M : DiskM} {T : ByteArray} {j : Nat} {wy : World} (h : Pd w L o8 o9 p n O V0 V1 k M T j wy) (hk : k < 2) (hj : T.size + j < 64) : Pd w L o8 o9 p n O V0 V1 k M T (j + 1) (wy.setCell ⟨L, k, none⟩ (.string (tail0 T (j + 1)))) := by
  have hz : (tail0 T (j + 1)).size ≤ 64 := by rw [tail0_size]; omega
  have hrs := h.rs
  refine ⟨h.d, h.n, h.own, h.live, h.tt, h.z, h.m0, h.at'.keep ((Grew.refl (S := fun q => q = L) wy).setCell _ _ fun _ => rfl) (fun q hq e => ?_), ?_, by omega, h.oL, h.hi⟩
  · have e : q = L := e
    subst e
    have hq : M.own q := hq
    rw [h.own] at hq
    exact h.oL hq
  · by_cases e : k = 0
    · subst e
      exact hrs.set0 _ hz
    · obtain rfl : k = 1 := by omega
      exact hrs.set1 _ hz
theorem tail0_pad (T : ByteArray) (j : Nat) (h : T.size + j = 64) : tail0 T j = pad64 T := by unfold pad64; rw [show 64 - T.size = j by omega]
theorem Pd.done {w : World} {L : Nat} {o8 o9 : Obj} {p n : Nat} {O : Nat → Prop} {V0 V1 : ByteArray} {k : Nat} {M : DiskM} {T : ByteArray} {j : Nat} {wy : World} (h : Pd w L o8 o9 p n O V0 V1 k M T j wy) (hk : k < 2) (hj : T.size + j = 64) : ∃ U0 U1, Rd w L o8 o9 p n O V0 V1 (k + 1) (M.wrote k (txtf T)) U0 U1 wy := by
  have hrs := h.rs
  have htt := h.tt
  rw [tail0_pad T j hj] at hrs
  by_cases e : k = 0
  · subst e
    have htt : T = V0 := htt
    subst htt
    exact ⟨_, _, h.d, h.n, h.own, live_wrote h.live _ _, h.at', rfl, rfl, fun _ => sectOf_pad M 0 T h.z, fun e => absurd e (by decide), hrs, h.oL, h.hi⟩
  · obtain rfl : k = 1 := by omega
    have htt : T = V1 := htt
    subst htt
    exact ⟨_, _, h.d, h.n, h.own, live_wrote h.live _ _, h.at', rfl, rfl, fun _ => (sectOf_other M 1 _ 0 (by decide)).trans (h.m0 (by decide)), fun _ => sectOf_pad M 1 T h.z, hrs, h.oL, h.hi⟩
theorem Rd.now {w : World} {L : Nat} {o8 o9 : Obj} {p n : Nat} {O : Nat → Prop} {V0 V1 : ByteArray} {k : Nat} {M : DiskM} {U0 U1 : ByteArray} {wx : World} (h : Rd w L o8 o9 p n O V0 V1 k M U0 U1 wx) (hk : k < 2) :
    ∃ T : ByteArray, T.size ≤ 64 ∧ wx.cell? ⟨L, k, none⟩ = some (.string T) ∧ ∀ wy, DiskAt (M.wrote k (txtf T)) wy → Grew O wx wy → Pd w L o8 o9 p n O V0 V1 k M T 0 wy := by
  have h0 := h.u0
  have h1 := h.u1
  have hrs := h.rs
  by_cases e : k = 0
  · subst e
    have h0 : U0 = V0 := h0
    have h1 : U1 = V1 := h1
    subst h0 h1
    exact ⟨U0, hrs.z0, hrs.r0, fun wy hd hg => ⟨h.d, h.n, h.own, h.live, rfl, hrs.z0, h.m0, hd, by rw [tail0_zero]; exact hrs.grew hg h.oL h.hi, by have := hrs.z0; omega, h.oL, h.hi⟩⟩
  · obtain rfl : k = 1 := by omega
    have h0 : U0 = pad64 V0 := h0
    have h1 : U1 = V1 := h1
    subst h0 h1
    exact ⟨U1, hrs.z1, hrs.r1, fun wy hd hg => ⟨h.d, h.n, h.own, h.live, rfl, hrs.z1, h.m0, hd, by rw [tail0_zero]; exact hrs.grew hg h.oL h.hi, by have := hrs.z1; omega, h.oL, h.hi⟩⟩
theorem few_n (k : Int) : ∃ n : Nat, 2 ≤ n ∧ n ≤ 4096 ∧ ∃ q : Nat, q ≤ 4095 ∧ bits .and .i64 k 4095 = (q : Int) ∧ n = 2 + q % 4095 := by
  obtain ⟨q, hq, hb⟩ := maskN k 4095 (by decide)
  exact ⟨2 + q % 4095, by omega, by omega, q, hb, hq, rfl⟩
end Go.Proofs.Ytmpegfmhnciemaa
