/-
  PackTakes: for every text and every list of things the law answers true.
-/
import Derived.Test.YtponpkmmfamjnaaPackTakesFn
import Derived.Test.YtponpkmmfamjnaaPackAwake
import Derived.Test.YtponpkmmfamjnaaPackPutsG
import Derived.Test.YtponpkmmfamjnaaCut
import Derived.Deep.QuietTactic
import Derived.BigQuiet
import Derived.WalkSmall
namespace Go.Proofs.Ytponpkmmfamjnaa
open Go.RowKit

theorem TInv.out {g : TAt} {s z : ByteArray} {e : Int} {d : Nat} {S : Nat → Prop} {w w' : World} (h : TInv g s e z d w) (k : Grew S w w') (hS : ∀ j, S j → g.y + 4 < j) : TInv g s e z d w' := by
  have h1 := h.hl
  have h2 := h.hb
  have h4 := h.hy
  have hs := k.size
  have c : ∀ b o v, b ≤ g.y + 4 → w.cell? ⟨b, o, none⟩ = some v → w'.cell? ⟨b, o, none⟩ = some v := fun b o v hb hc => by rw [k.cell (p := ⟨b, o, none⟩) (by show b < _; omega) (fun x => by have := hS _ x; simp at this; omega)]; exact hc
  have f : ∀ b o, b ≤ g.y + 4 → w.frozen? ⟨b, o, none⟩ = false → w'.frozen? ⟨b, o, none⟩ = false := fun b o hb hc => by rw [k.frozen (p := ⟨b, o, none⟩) (by show b < _; omega) (fun x => by have := hS _ x; simp at this; omega)]; exact hc
  exact ⟨h1, h2, by omega, c _ _ _ (by omega) h.cL, c _ _ _ (by omega) h.cZ, f _ _ (by omega) h.fZ, c _ _ _ (by omega) h.cI, c _ _ _ (by omega) h.cS, f _ _ (by omega) h.fS, c _ _ _ (by omega) h.cE, f _ _ (by omega) h.fE, c _ _ _ (by omega) h.cF, f _ _ (by omega) h.fF, c _ _ _ (by omega) h.cD, f _ _ (by omega) h.fD,
    fun k hk => ⟨c _ _ _ (by omega) (h.row k hk).1, c _ _ _ (by omega) (h.row k hk).2.1, c _ _ _ (by omega) (h.row k hk).2.2⟩⟩
theorem guard_takes (g : TAt) (s : ByteArray) (W : World) (hs : s.size ≤ 100) (hle : g.le ≤ maxLen) (h : TInv g s 0 s 0 W) :
    Calls Try.prog 14 #[.func (.func 15) #[] #[.pointer (some ⟨g.bl, 0, none⟩), .pointer (some ⟨g.y + 2, 0, none⟩), .pointer (some ⟨g.y + 1, 0, none⟩), .pointer (some ⟨g.y + 3, 0, none⟩), .pointer (some ⟨g.y + 4, 0, none⟩)]] W fun e w' =>
      ∃ (z : ByteArray) (x : Int) (d : Nat), e = .returned (.int .i64 x) ∧ TInv g z x z d w' ∧ Grew g.writes W w' ∧ (x = 0 → d = g.most) := by
  have hy := h.hy
  have hin := takesFn_any g s (W.alloc errBox) hs hle (h.alloc errBox)
  refine (guard_grew _ _ W g.writes (fun o w1 => ∃ (z : ByteArray) (x : Int) (d : Nat), TInv g z x z d w1 ∧ ((o = none ∧ x = 0 ∧ d = g.most) ∨ (x ≠ 0 ∧ o = some x))) (fun hw => by have := hw.2; omega) (fun _ => by kernel_rfl) (hin.mono ?_)).mono ?_
  · rintro e w' ⟨o, z, x, d, rfl, hI, hG, hO⟩
    exact ⟨o, rfl, hG, z, x, d, hI, hO⟩
  · rintro e w' ⟨o, w1, rfl, ⟨z, x, d, hI, hO⟩, rfl, hG, hlt⟩
    refine ⟨z, x, d, ?_, hI.out (done_step _ _ _) (fun j hj => by omega), hG, ?_⟩
    · rcases hO with ⟨rfl, rfl, _⟩ | ⟨_, rfl⟩ <;> rfl
    · intro hx
      rcases hO with ⟨_, _, hd⟩ | ⟨h0, _⟩
      · exact hd
      · exact absurd hx h0

/-- the law's boxes -/
theorem takes_start {w w1 W : World} {be oe le ce : Nat} {kd n mo : Nat → Int} {t : ByteArray} {tl t0 t1 t2 t3 t4 : TypeId}
    (hb : Below (w.alloc (.cells #[.slice (some ⟨be, oe, none⟩) le ce] tl)).heap.size (w.alloc (.cells #[.slice (some ⟨be, oe, none⟩) le ce] tl)) w1) (hbe : be < w.heap.size)
    (row : ∀ k, k < min le 15 → w.cell? ⟨be, oe + k * 3, none⟩ = some (.int .i64 (kd k)) ∧ w.cell? ⟨be, oe + k * 3 + 1, none⟩ = some (.int .i64 (n k)) ∧ w.cell? ⟨be, oe + k * 3 + 2, none⟩ = some (.int .u64 (mo k)))
    (hW : ((((w1.alloc (.cells #[.string t] t0)).alloc (.cells #[.pointer (some ⟨w1.heap.size, 0, none⟩)] t1)).alloc (.cells #[.string t, .int .i64 0] t2)).alloc (.cells #[.bool true] t3)).alloc (.cells #[.int .i64 0] t4) = W) :
    TInv ⟨be, oe, le, ce, w.heap.size, w1.heap.size, kd, n, mo⟩ t 0 t 0 W ∧ Below w.heap.size w W := by
  have hs : w.heap.size < w1.heap.size := by have := hb.size; simp at this; omega
  have z1 : (w1.alloc (.cells #[.string t] t0)).heap.size = w1.heap.size + 1 := by simp
  have z2 : ((w1.alloc (.cells #[.string t] t0)).alloc (.cells #[.pointer (some ⟨w1.heap.size, 0, none⟩)] t1)).heap.size = w1.heap.size + 2 := by simp
  have z3 : (((w1.alloc (.cells #[.string t] t0)).alloc (.cells #[.pointer (some ⟨w1.heap.size, 0, none⟩)] t1)).alloc (.cells #[.string t, .int .i64 0] t2)).heap.size = w1.heap.size + 3 := by simp
  have z4 : ((((w1.alloc (.cells #[.string t] t0)).alloc (.cells #[.pointer (some ⟨w1.heap.size, 0, none⟩)] t1)).alloc (.cells #[.string t, .int .i64 0] t2)).alloc (.cells #[.bool true] t3)).heap.size = w1.heap.size + 4 := by simp
  have oc : ∀ {w : World} {o : Obj} {b j : Nat} {v : Value}, w.cell? ⟨b, j, none⟩ = some v → b < w.heap.size → (w.alloc o).cell? ⟨b, j, none⟩ = some v := fun h hb => by rw [World.cell?_alloc_past (hn := hb), h]
  have of : ∀ {w : World} {o : Obj} {b j : Nat}, w.frozen? ⟨b, j, none⟩ = false → b < w.heap.size → (w.alloc o).frozen? ⟨b, j, none⟩ = false := fun h hb => by rw [World.frozen?_alloc_old (h := by simp; omega), h]
  have nc : ∀ {w : World} {c : Array Value} {t : TypeId} {b j : Nat}, w.heap.size = b → (w.alloc (.cells c t)).cell? ⟨b, j, none⟩ = c[j]? := fun h => by subst h; exact World.cell?_alloc_new _ _ _ _
  have nf : ∀ {w : World} {c : Array Value} {t : TypeId} {b j : Nat}, w.heap.size = b → (w.alloc (.cells c t)).frozen? ⟨b, j, none⟩ = false := fun h => by subst h; simp
  have hB1 : Below w.heap.size w w1 := ((Below.refl _ _).alloc (Nat.le_refl _) _).trans (hb.mono (by simp))
  have old : ∀ b j v, b < w1.heap.size → w1.cell? ⟨b, j, none⟩ = some v → W.cell? ⟨b, j, none⟩ = some v := fun b j v hb h => by
    rw [← hW]
    exact oc (oc (oc (oc (oc h hb) (by omega)) (by omega)) (by omega)) (by omega)
  have cl : w1.cell? ⟨w.heap.size, 0, none⟩ = some (.slice (some ⟨be, oe, none⟩) le ce) := by rw [hb.cell (by show w.heap.size < _; simp), nc rfl]; rfl
  have orow : ∀ j v, w.cell? ⟨be, j, none⟩ = some v → W.cell? ⟨be, j, none⟩ = some v := fun j v h => old _ _ _ (by omega) (by rw [hB1.cell (p := ⟨be, j, none⟩) hbe]; exact h)
  refine ⟨⟨hs, hbe, by rw [← hW]; show w1.heap.size + 4 < _; rw [World.size_alloc, z4]; omega, old _ _ _ hs cl, ?_, ?_, ?_, ?_, ?_, ?_, ?_, ?_, ?_, ?_, ?_, fun k hk => ⟨orow _ _ (row k hk).1, orow _ _ (row k hk).2.1, orow _ _ (row k hk).2.2⟩⟩, ?_⟩
  · rw [← hW]; exact oc (oc (oc (oc (nc rfl) (by show w1.heap.size < _; omega)) (by show w1.heap.size < _; omega)) (by show w1.heap.size < _; omega)) (by show w1.heap.size < _; omega)
  · rw [← hW]; exact of (of (of (of (nf rfl) (by show w1.heap.size < _; omega)) (by show w1.heap.size < _; omega)) (by show w1.heap.size < _; omega)) (by show w1.heap.size < _; omega)
  · rw [← hW]; exact oc (oc (oc (nc z1) (by show w1.heap.size + 1 < _; omega)) (by show w1.heap.size + 1 < _; omega)) (by show w1.heap.size + 1 < _; omega)
  · rw [← hW]; exact oc (oc (nc z2) (by show w1.heap.size + 2 < _; omega)) (by show w1.heap.size + 2 < _; omega)
  · rw [← hW]; exact of (of (nf z2) (by show w1.heap.size + 2 < _; omega)) (by show w1.heap.size + 2 < _; omega)
  · rw [← hW]; exact oc (oc (nc z2) (by show w1.heap.size + 2 < _; omega)) (by show w1.heap.size + 2 < _; omega)
  · rw [← hW]; exact of (of (nf z2) (by show w1.heap.size + 2 < _; omega)) (by show w1.heap.size + 2 < _; omega)
  · rw [← hW]; exact oc (nc z3) (by show w1.heap.size + 3 < _; omega)
  · rw [← hW]; exact of (nf z3) (by show w1.heap.size + 3 < _; omega)
  · rw [← hW]; exact nc z4
  · rw [← hW]; exact nf z4
  · rw [← hW]
    exact ((((hB1.alloc (by omega) _).alloc (by omega) _).alloc (by omega) _).alloc (by omega) _).alloc (by omega) _

set_option maxRecDepth 100000 in
set_option maxHeartbeats 4000000 in
theorem packTakes_some (s : ByteArray) (be oe le ce : Nat) (kd n mo : Nat → Int) (hs : s.size ≤ maxLen) (hle : le ≤ maxLen) (w : World) (hbe : be < w.heap.size)
    (row : ∀ k, k < min le 15 → w.cell? ⟨be, oe + k * 3, none⟩ = some (.int .i64 (kd k)) ∧ w.cell? ⟨be, oe + k * 3 + 1, none⟩ = some (.int .i64 (n k)) ∧ w.cell? ⟨be, oe + k * 3 + 2, none⟩ = some (.int .u64 (mo k))) :
    Calls Try.prog 3 #[.string s, .slice (some ⟨be, oe, none⟩) le ce] w fun e w' => e = .returned (.bool true) ∧ Below w.heap.size w w' := by
  have hmf : ∀ (fn : Fn) (first cap : Array Value) (w : World), (Instr.makeFunc fn first cap).run Try.prog w = .ok (.func fn first cap) w := fun _ _ _ _ => rfl
  obtain ⟨t, ht, hcut⟩ := cut_law s 100 hs (by omega)
  have HCut := Lib.hid hcut
  have HRow := Lib.hid row
  have HLe := Lib.hid hle
  clear hcut hs row hle
  go_enter Try.func3, Try.ntmps3
  go_wp2_with fail
  refine (HCut.out _).mono ?_
  rintro e w' ⟨rfl, rfl⟩
  go_wp2_with fail
  refine (packAwake_any _).mono ?_
  rintro e w1 ⟨rfl, hb1⟩
  go_wp2_with fail
  refine (read_any _ _).mono ?_
  rintro e w' ⟨rfl, rfl⟩
  go_wp2_with fail
  obtain ⟨W, hW⟩ : ∃ W, ((((w1.alloc (.cells #[.string t] 83)).alloc (.cells #[.pointer (some ⟨w1.heap.size, 0, none⟩)] 25)).alloc (.cells #[.string t, .int .i64 0] 28)).alloc (.cells #[.bool true] 4)).alloc (.cells #[.int .i64 0] 3) = W := ⟨_, rfl⟩
  obtain ⟨hI, hB⟩ := takes_start hb1 hbe HRow.out hW
  rw [hW]
  have HG := Lib.hid (guard_takes _ t W ht HLe.out hI)
  have HB := Lib.hid hB
  have hy := hI.hy
  have hbl := hI.hl
  clear hI hB hW hb1 HCut HRow
  refine HG.out.mono ?_
  rintro e w6 ⟨z, x, d, rfl, hI, hG, hx⟩
  have HL : Hid (Below w.heap.size w w6) := Lib.hid (hG.below HB.out (by have : w.heap.size < w1.heap.size := hbl; have : w1.heap.size + 4 < W.heap.size := hy; omega) (fun k hk => by have h1 : w1.heap.size ≤ k := hk.1; have : w.heap.size < w1.heap.size := hbl; omega))
  have cF : w6.cell? ⟨w1.heap.size + 1 + 1 + 1, 0, none⟩ = some (.bool true) := hI.cF
  have cE : w6.cell? ⟨w1.heap.size + 1 + 1, 1, none⟩ = some (.int .i64 x) := hI.cE
  have cS : w6.cell? ⟨w1.heap.size + 1 + 1, 0, none⟩ = some (.string z) := hI.cS
  have cI : w6.cell? ⟨w1.heap.size + 1, 0, none⟩ = some (.pointer (some ⟨w1.heap.size, 0, none⟩)) := hI.cI
  have cZ : w6.cell? ⟨w1.heap.size, 0, none⟩ = some (.string z) := hI.cZ
  have cD : w6.cell? ⟨w1.heap.size + 1 + 1 + 1 + 1, 0, none⟩ = some (.int .i64 d) := hI.cD
  have cL : w6.cell? ⟨w.heap.size, 0, none⟩ = some (.slice (some ⟨be, oe, none⟩) le ce) := hI.cL
  have hd : x = 0 → d = min le 15 := hx
  have HLeft : Hid (∀ wx : World, wx.cell? ⟨w1.heap.size, 0, none⟩ = some (.string z) → Calls Try.prog 22 #[.pointer (some ⟨w1.heap.size, 0, none⟩)] wx fun e w' => e = .returned (.int .i64 z.size) ∧ w' = wx) := Lib.hid fun wx h => (left_any _ z wx h).mono fun _ _ ⟨a, b⟩ => ⟨a, b.symm⟩
  have HLe2 : Hid (le ≤ 9223372036854775807) := Lib.hid (by have := HLe.out; unfold maxLen at this; omega)
  have hz : (((z.size : Nat) : Int) == ((z.size : Nat) : Int)) = true := by simp
  clear hI hG hx HG HB HLe hy hbl
  by_cases h0 : x = 0
  · obtain rfl := h0
    have hd0 := hd rfl
    rcases Nat.lt_trichotomy le 15 with h15 | h15 | h15
    · obtain rfl : d = le := by omega
      clear hd0
      clear hd
      go_wp2_with fail
      go_quiet ((go_at_call 22; exact Calls.quiet_of_same (HLeft.out _ cZ)))
      go_wp2
      go_ret
      exact ⟨rfl, below_drewN HL.out _⟩
    · obtain rfl : d = 15 := by omega
      obtain rfl := h15
      clear hd0
      clear hd
      go_wp2_with fail
      go_quiet ((go_at_call 22; exact Calls.quiet_of_same (HLeft.out _ cZ)))
      go_wp2
      go_ret
      exact ⟨rfl, below_drewN HL.out _⟩
    · obtain rfl : d = 15 := by omega
      clear hd0
      have h16 : (15 : Int) < le := by omega
      clear hd
      go_wp2_with fail
      go_quiet ((go_at_call 22; exact Calls.quiet_of_same (HLeft.out _ cZ)))
      go_wp2
      go_ret
      exact ⟨rfl, below_drewN HL.out _⟩
  · have hx0 : (x != 0) = true := by simpa using h0
    clear hd
    go_wp2_with fail
    go_quiet ((go_at_call 22; exact Calls.quiet_of_same (HLeft.out _ cZ)))
    go_wp2
    go_ret
    exact ⟨rfl, below_drewN HL.out _⟩
set_option maxHeartbeats 1000000 in
theorem takesFn_none (a0 : Option Addr) (c0 bl : Nat) (p1 p2 p3 p4 : Value) (w : World) (hc : w.cell? ⟨bl, 0, none⟩ = some (.slice a0 0 c0)) :
    Calls Try.prog 15 #[.pointer (some ⟨bl, 0, none⟩), p1, p2, p3, p4] w fun e w' => e = .returned (.tuple #[]) ∧ w = w' := by
  go_enter Try.func15, Try.ntmps15
  go_wp2_with fail
  go_loop [5] (fun i => i = .int .i64 0) (fun _ => 0)
  case atStart => rfl
  case round =>
    obtain rfl := hrel
    go_wp2_with fail
    go_end0
    exact ⟨rfl, rfl⟩
theorem guard_none (a0 : Option Addr) (c0 bl : Nat) (p1 p2 p3 p4 : Value) (W : World) (hc : W.cell? ⟨bl, 0, none⟩ = some (.slice a0 0 c0)) (hg : ∀ w : World, (callFunc 15 #[.pointer (some ⟨bl, 0, none⟩), p1, p2, p3, p4]).run Try.prog w = .ok (.enter 15 #[.pointer (some ⟨bl, 0, none⟩), p1, p2, p3, p4]) w) :
    Calls Try.prog 14 #[.func (.func 15) #[] #[.pointer (some ⟨bl, 0, none⟩), p1, p2, p3, p4]] W fun e w' => e = .returned (.int .i64 0) ∧ Grew (fun _ => False) W w' := by
  refine (guard_grew _ _ W (fun _ => False) (fun o _ => o = none) (fun x => x) hg ((takesFn_none a0 c0 bl p1 p2 p3 p4 (W.alloc errBox) (by rw [World.cell?_alloc_past (hn := cell_lt hc)]; exact hc)).mono ?_)).mono ?_
  · rintro e w' ⟨rfl, rfl⟩
    exact ⟨none, rfl, Grew.refl _, rfl⟩
  · rintro e w' ⟨o, w1, rfl, rfl, rfl, hG, _⟩
    exact ⟨rfl, hG⟩
theorem five {w1 W : World} {t : ByteArray} {t0 t1 t2 t3 t4 : TypeId}
    (hW : ((((w1.alloc (.cells #[.string t] t0)).alloc (.cells #[.pointer (some ⟨w1.heap.size, 0, none⟩)] t1)).alloc (.cells #[.string t, .int .i64 0] t2)).alloc (.cells #[.bool true] t3)).alloc (.cells #[.int .i64 0] t4) = W) :
    W.heap.size = w1.heap.size + 5 ∧ Grew (fun _ => False) w1 W ∧ W.cell? ⟨w1.heap.size, 0, none⟩ = some (.string t) ∧ W.cell? ⟨w1.heap.size + 1, 0, none⟩ = some (.pointer (some ⟨w1.heap.size, 0, none⟩)) ∧ W.cell? ⟨w1.heap.size + 2, 0, none⟩ = some (.string t) ∧ W.cell? ⟨w1.heap.size + 2, 1, none⟩ = some (.int .i64 0) ∧ W.cell? ⟨w1.heap.size + 3, 0, none⟩ = some (.bool true) ∧ W.cell? ⟨w1.heap.size + 4, 0, none⟩ = some (.int .i64 0) := by
  subst hW
  have z1 : (w1.alloc (.cells #[.string t] t0)).heap.size = w1.heap.size + 1 := by simp
  have z2 : ((w1.alloc (.cells #[.string t] t0)).alloc (.cells #[.pointer (some ⟨w1.heap.size, 0, none⟩)] t1)).heap.size = w1.heap.size + 2 := by simp
  have z3 : (((w1.alloc (.cells #[.string t] t0)).alloc (.cells #[.pointer (some ⟨w1.heap.size, 0, none⟩)] t1)).alloc (.cells #[.string t, .int .i64 0] t2)).heap.size = w1.heap.size + 3 := by simp
  have z4 : ((((w1.alloc (.cells #[.string t] t0)).alloc (.cells #[.pointer (some ⟨w1.heap.size, 0, none⟩)] t1)).alloc (.cells #[.string t, .int .i64 0] t2)).alloc (.cells #[.bool true] t3)).heap.size = w1.heap.size + 4 := by simp
  have oc : ∀ {w : World} {o : Obj} {b j : Nat} {v : Value}, w.cell? ⟨b, j, none⟩ = some v → b < w.heap.size → (w.alloc o).cell? ⟨b, j, none⟩ = some v := fun h hb => by rw [World.cell?_alloc_past (hn := hb), h]
  have nc : ∀ {w : World} {c : Array Value} {t : TypeId} {b j : Nat}, w.heap.size = b → (w.alloc (.cells c t)).cell? ⟨b, j, none⟩ = c[j]? := fun h => by subst h; exact World.cell?_alloc_new _ _ _ _
  exact ⟨by simp, (((((Grew.refl w1).alloc _).alloc _).alloc _).alloc _).alloc _, oc (oc (oc (oc (nc rfl) (by omega)) (by omega)) (by omega)) (by omega), oc (oc (oc (nc z1) (by omega)) (by omega)) (by omega), oc (oc (nc z2) (by omega)) (by omega), oc (oc (nc z2) (by omega)) (by omega), oc (nc z3) (by omega), nc z4⟩
set_option maxRecDepth 100000 in
set_option maxHeartbeats 4000000 in
theorem packTakes_none (s : ByteArray) (a0 : Option Addr) (c0 : Nat) (hs : s.size ≤ maxLen) (w : World) :
    Calls Try.prog 3 #[.string s, .slice a0 0 c0] w fun e w' => e = .returned (.bool true) ∧ Below w.heap.size w w' := by
  have hmf : ∀ (fn : Fn) (first cap : Array Value) (w : World), (Instr.makeFunc fn first cap).run Try.prog w = .ok (.func fn first cap) w := fun _ _ _ _ => rfl
  obtain ⟨t, ht, hcut⟩ := cut_law s 100 hs (by omega)
  have HCut := Lib.hid hcut
  clear hcut hs
  go_enter Try.func3, Try.ntmps3
  go_wp2_with fail
  refine (HCut.out _).mono ?_
  rintro e w' ⟨rfl, rfl⟩
  go_wp2_with fail
  refine (packAwake_any _).mono ?_
  rintro e w1 ⟨rfl, hb1⟩
  go_wp2_with fail
  refine (read_any _ _).mono ?_
  rintro e w' ⟨rfl, rfl⟩
  go_wp2_with fail
  obtain ⟨W, hW⟩ : ∃ W, ((((w1.alloc (.cells #[.string t] 83)).alloc (.cells #[.pointer (some ⟨w1.heap.size, 0, none⟩)] 25)).alloc (.cells #[.string t, .int .i64 0] 28)).alloc (.cells #[.bool true] 4)).alloc (.cells #[.int .i64 0] 3) = W := ⟨_, rfl⟩
  obtain ⟨zs, hg5, y0, y1, y2, y3, y4, y5⟩ := five hW
  have hs1 : w.heap.size < w1.heap.size := by have := hb1.size; simp at this; omega
  have hB1 : Below w.heap.size w w1 := ((Below.refl _ _).alloc (Nat.le_refl _) _).trans (hb1.mono (by simp))
  have cl : w1.cell? ⟨w.heap.size, 0, none⟩ = some (.slice a0 0 c0) := by rw [hb1.cell (by show w.heap.size < _; simp)]; simp
  have cl5 : W.cell? ⟨w.heap.size, 0, none⟩ = some (.slice a0 0 c0) := by rw [hg5.cell hs1 (fun x => x)]; exact cl
  have HB : Hid (Below w.heap.size w W) := Lib.hid (hg5.below hB1 (by omega) (fun _ x => x.elim))
  rw [hW]
  refine (guard_none a0 c0 w.heap.size _ _ _ _ W cl5 (fun _ => by kernel_rfl)).mono ?_
  rintro e w6 ⟨rfl, g6⟩
  have k6 : ∀ b j v, b < W.heap.size → W.cell? ⟨b, j, none⟩ = some v → w6.cell? ⟨b, j, none⟩ = some v := fun b j v hb hc => by rw [g6.cell (p := ⟨b, j, none⟩) hb (fun x => x)]; exact hc
  have HL : Hid (Below w.heap.size w w6) := Lib.hid (g6.below HB.out (by omega) (fun _ x => x.elim))
  have cF : w6.cell? ⟨w1.heap.size + 1 + 1 + 1, 0, none⟩ = some (.bool true) := k6 _ _ _ (by omega) y4
  have cE : w6.cell? ⟨w1.heap.size + 1 + 1, 1, none⟩ = some (.int .i64 0) := k6 _ _ _ (by omega) y3
  have cS : w6.cell? ⟨w1.heap.size + 1 + 1, 0, none⟩ = some (.string t) := k6 _ _ _ (by omega) y2
  have cI : w6.cell? ⟨w1.heap.size + 1, 0, none⟩ = some (.pointer (some ⟨w1.heap.size, 0, none⟩)) := k6 _ _ _ (by omega) y1
  have cZ : w6.cell? ⟨w1.heap.size, 0, none⟩ = some (.string t) := k6 _ _ _ (by omega) y0
  have cD : w6.cell? ⟨w1.heap.size + 1 + 1 + 1 + 1, 0, none⟩ = some (.int .i64 0) := k6 _ _ _ (by omega) y5
  have cL : w6.cell? ⟨w.heap.size, 0, none⟩ = some (.slice a0 0 c0) := k6 _ _ _ (by omega) cl5
  have HLeft : Hid (∀ wx : World, wx.cell? ⟨w1.heap.size, 0, none⟩ = some (.string t) → Calls Try.prog 22 #[.pointer (some ⟨w1.heap.size, 0, none⟩)] wx fun e w' => e = .returned (.int .i64 t.size) ∧ w' = wx) := Lib.hid fun wx h => (left_any _ t wx h).mono fun _ _ ⟨a, b⟩ => ⟨a, b.symm⟩
  have hz : (((t.size : Nat) : Int) == ((t.size : Nat) : Int)) = true := by simp
  clear k6 g6 HB cl5 cl hB1 hs1 hg5 y0 y1 y2 y3 y4 y5 zs hW hb1 HCut
  go_wp2_with fail
  go_quiet ((go_at_call 22; exact Calls.quiet_of_same (HLeft.out _ cZ)))
  go_wp2
  go_ret
  exact ⟨rfl, below_drewN HL.out _⟩
end Go.Proofs.Ytponpkmmfamjnaa
