/-
  PackGuards: for every list of errors and of places the law answers true.
-/
import Derived.Test.YtponpkmmfamjnaaPackGuardsRun
import Derived.Deep.DeepCutAuto
import Derived.Laws.EntriesVeiled
namespace Go.Proofs.Ytponpkmmfamjnaa
open Go.RowKit

theorem cnt_succ (g : GAt) (m : Nat) : ∀ k, g.cnt k (m + 1) = if g.early k then 1 else 1 + g.cnt (k + 1) m := fun _ => rfl
/-- what the law's own loop has counted behind j rounds -/
theorem cnt_split (g : GAt) (d : Nat) : ∀ j k, j ≤ d → (∀ i, i < j → g.early (k + i) = false) → g.cnt k d = j + g.cnt (k + j) (d - j) := by
  intro j
  induction j with
  | zero => intro k _ _; simp
  | succ j ih =>
    intro k hj h
    rw [ih k (by omega) (fun i hi => h i (by omega))]
    have e : d - j = d - (j + 1) + 1 := by omega
    rw [e, cnt_succ, h j (by omega), if_neg (by simp), ← Nat.add_assoc]
    congr 1

theorem cnt_same (g : GAt) (B x : Nat) : ∀ d k, GAt.cnt { g with B := B, x := x } k d = g.cnt k d := by
  intro d
  induction d with
  | zero => intro k; rfl
  | succ d ih => intro k; rw [cnt_succ, cnt_succ, ih (k + 1)]; rfl
theorem cnt_le (g : GAt) : ∀ d k, g.cnt k d ≤ d := by
  intro d
  induction d with
  | zero => intro k; exact Nat.le_refl _
  | succ d ih =>
    intro k
    rw [cnt_succ]
    have := ih (k + 1)
    split <;> omega
theorem laid3 {w : World} {x y : Int} {t : TypeId} {o o' : Obj} (h : x = y) : ((w.alloc (.cells #[.int .i64 x] t)).alloc o).alloc o' = ((w.alloc (.cells #[.int .i64 y] t)).alloc o).alloc o' := by rw [h]
theorem below5 {B : Nat} {w w1 : World} (h : Below B w w1) (hB : B ≤ w1.heap.size) (o1 o2 o3 o4 : Obj) : Below B w ((((w1.alloc o1).alloc o2).alloc o3).alloc o4) :=
  (((h.alloc hB _).alloc (by simp; omega) _).alloc (by simp; omega) _).alloc (by simp; omega) _
theorem cellNew {w : World} {t : TypeId} {v : Value} {b : Nat} (h : w.heap.size = b) : (w.alloc (.cells #[v] t)).cell? ⟨b, 0, none⟩ = some v := by subst h; simp
theorem frozenNew {w : World} {t : TypeId} {v : Value} {b : Nat} (h : w.heap.size = b) : (w.alloc (.cells #[v] t)).frozen? ⟨b, 0, none⟩ = false := by subst h; simp
theorem oldFrozen {w : World} {o : Obj} {b : Nat} (h : w.frozen? ⟨b, 0, none⟩ = false) (hb : b < w.heap.size) : (w.alloc o).frozen? ⟨b, 0, none⟩ = false := by
  rw [World.frozen?_alloc_old (h := by simp; omega), h]
/-- four boxes, one behind the other -/
theorem four {w W : World} {v0 v1 v2 v3 : Value} {t0 t1 t2 t3 : TypeId} (h : (((w.alloc (.cells #[v0] t0)).alloc (.cells #[v1] t1)).alloc (.cells #[v2] t2)).alloc (.cells #[v3] t3) = W) :
    W.heap.size = w.heap.size + 4 ∧ W.cell? ⟨w.heap.size, 0, none⟩ = some v0 ∧ W.cell? ⟨w.heap.size + 1, 0, none⟩ = some v1 ∧ W.cell? ⟨w.heap.size + 2, 0, none⟩ = some v2 ∧ W.cell? ⟨w.heap.size + 3, 0, none⟩ = some v3 ∧
      W.frozen? ⟨w.heap.size + 1, 0, none⟩ = false ∧ W.frozen? ⟨w.heap.size + 2, 0, none⟩ = false := by
  subst h
  have s1 : (w.alloc (.cells #[v0] t0)).heap.size = w.heap.size + 1 := by simp
  have s2 : ((w.alloc (.cells #[v0] t0)).alloc (.cells #[v1] t1)).heap.size = w.heap.size + 2 := by simp
  have s3 : (((w.alloc (.cells #[v0] t0)).alloc (.cells #[v1] t1)).alloc (.cells #[v2] t2)).heap.size = w.heap.size + 3 := by simp
  exact ⟨by simp, old_cellAt (old_cellAt (old_cellAt (cellNew rfl) (by omega)) (by omega)) (by omega), old_cellAt (old_cellAt (cellNew s1) (by omega)) (by omega), old_cellAt (cellNew s2) (by omega), cellNew s3,
    oldFrozen (oldFrozen (frozenNew s1) (by omega)) (by omega), oldFrozen (frozenNew s2) (by omega)⟩
set_option maxHeartbeats 2000000 in
theorem packGuards_none (a0 a1 : Option Addr) (l0 c0 l1 c1 : Nat) (h0 : l0 ≤ maxLen) (h1 : l1 ≤ maxLen) (hn : l0 = 0 ∨ l1 = 0) (w : World) :
    Calls Try.prog 5 #[.slice a0 l0 c0, .slice a1 l1 c1] w fun e w' => e = .returned (.bool true) ∧ Below w.heap.size w w' := by
  have hmf : ∀ (fn : Fn) (first cap : Array Value) (w : World), (Instr.makeFunc fn first cap).run Try.prog w = .ok (.func fn first cap) w := fun _ _ _ _ => rfl
  unfold maxLen at h0 h1
  go_enter Try.func5, Try.ntmps5
  go_wp2_with fail
  refine (packAwake_any _).mono ?_
  rintro e w1 ⟨rfl, hb1⟩
  have hcE : w1.cell? ⟨w.heap.size, 0, none⟩ = some (.slice a0 l0 c0) := by rw [hb1.cell (by simp; omega)]; simp
  have hcB : w1.cell? ⟨w.heap.size + 1, 0, none⟩ = some (.slice a1 l1 c1) := by rw [hb1.cell (by simp)]; simp
  have HB1 : Hid (Below w.heap.size w w1) := Lib.hid ((((Below.refl _ _).alloc (Nat.le_refl _) _).alloc (by simp) _).trans (hb1.mono (by simp; omega)))
  have hsz : w.heap.size + 1 < w1.heap.size := by have := hb1.size; simp at this; omega
  clear hb1
  go_upto_region 4 with (fail)
  go_cut [5, 6, 7] (fun p q r wx => p = .pointer (some ⟨w1.heap.size, 0, none⟩) ∧ q = .pointer (some ⟨w1.heap.size + 1, 0, none⟩) ∧ r = .pointer (some ⟨w1.heap.size + 2, 0, none⟩) ∧
    wx = ((w1.alloc (.cells #[.int .i64 0] 3)).alloc (.cells #[.int .i64 0] 3)).alloc (.cells #[.bool true] 4))
  case first =>
    go_wp2_with fail
    all_goals go_meet
    all_goals
      refine ⟨rfl, rfl, rfl, laid3 ?_⟩
      omega
  case rest =>
    obtain ⟨rfl, rfl, rfl, rfl⟩ := hcut
    go_wp2_with fail
    refine (run_none _ _ _ _ _ _ _ (old_cellAt (old_cellAt (old_cellAt (cellNew rfl) (by simp)) (by simp; omega)) (by simp; omega)) (by simp only [World.size_alloc]; omega)).mono ?_
    rintro e w' ⟨rfl, rfl⟩
    go_wp2_with fail
    go_loop [9, 10] (fun a b => a = .int .i64 0 ∧ b = .int .i64 0) (fun _ _ => 0)
    case atStart => exact ⟨rfl, rfl⟩
    case round =>
      obtain ⟨rfl, rfl⟩ := hrel
      go_wp2
      go_ret
      exact ⟨rfl, (below5 HB1.out (by omega) _ _ _ _).alloc (by simp; omega) _⟩

set_option maxHeartbeats 4000000 in
theorem packGuards_some (g : GAt) (he : g.le ≤ maxLen) (hb : g.lb ≤ maxLen) (hn : g.n = min (min g.le g.lb) 8) (w : World) (hB : g.B = w.heap.size) (hbe : g.be < w.heap.size) (hbb : g.bb < w.heap.size)
    (es : ∀ k, k < g.n → w.cell? ⟨g.be, g.oe + k, none⟩ = some (.int .i64 (g.es k))) (bs : ∀ k, k < g.n → w.cell? ⟨g.bb, g.ob + k, none⟩ = some (.bool (g.bs k))) :
    Calls Try.prog 5 #[.slice (some ⟨g.be, g.oe, none⟩) g.le g.ce, .slice (some ⟨g.bb, g.ob, none⟩) g.lb g.cb] w fun e w' => e = .returned (.bool true) ∧ Below w.heap.size w w' := by
  have hmf : ∀ (fn : Fn) (first cap : Array Value) (w : World), (Instr.makeFunc fn first cap).run Try.prog w = .ok (.func fn first cap) w := fun _ _ _ _ => rfl
  unfold maxLen at he hb
  have HES := Lib.hid es
  have HBS := Lib.hid bs
  have HN := Lib.hid hn
  have HBB := Lib.hid hB
  have hn8 : g.n ≤ 8 ∧ g.n ≤ g.le ∧ g.n ≤ g.lb := by omega
  clear es bs hn hB
  go_enter Try.func5, Try.ntmps5
  go_wp2_with fail
  refine (packAwake_any _).mono ?_
  rintro e w1 ⟨rfl, hb1⟩
  have hcE : w1.cell? ⟨w.heap.size, 0, none⟩ = some (.slice (some ⟨g.be, g.oe, none⟩) g.le g.ce) := by rw [hb1.cell (by simp; omega)]; simp
  have hcB : w1.cell? ⟨w.heap.size + 1, 0, none⟩ = some (.slice (some ⟨g.bb, g.ob, none⟩) g.lb g.cb) := by rw [hb1.cell (by simp)]; simp
  have HB1 : Hid (Below w.heap.size w w1) := Lib.hid ((((Below.refl _ _).alloc (Nat.le_refl _) _).alloc (by simp) _).trans (hb1.mono (by simp; omega)))
  have hsz : w.heap.size + 1 < w1.heap.size := by have := hb1.size; simp at this; omega
  clear hb1
  go_upto_region 4 with (fail)
  go_cut [5, 6, 7] (fun p q r wx => p = .pointer (some ⟨w1.heap.size, 0, none⟩) ∧ q = .pointer (some ⟨w1.heap.size + 1, 0, none⟩) ∧ r = .pointer (some ⟨w1.heap.size + 2, 0, none⟩) ∧
    wx = ((w1.alloc (.cells #[.int .i64 g.n] 3)).alloc (.cells #[.int .i64 0] 3)).alloc (.cells #[.bool true] 4))
  case first =>
    go_wp2_with fail
    all_goals go_meet
    all_goals
      refine ⟨rfl, rfl, rfl, laid3 ?_⟩
      have := HN.out
      omega
  case rest =>
    obtain ⟨rfl, rfl, rfl, rfl⟩ := hcut
    obtain ⟨W, hW⟩ : ∃ W, (((w1.alloc (.cells #[.int .i64 g.n] 3)).alloc (.cells #[.int .i64 0] 3)).alloc (.cells #[.bool true] 4)).alloc
      (.cells #[.func (.func 30) #[] #[.pointer (some ⟨w1.heap.size, 0, none⟩), .pointer (some ⟨w1.heap.size + 1, 0, none⟩), .pointer (some ⟨w.heap.size, 0, none⟩), .pointer (some ⟨w.heap.size + 1, 0, none⟩), .pointer (some ⟨w1.heap.size + 1 + 1 + 1, 0, none⟩), .pointer (some ⟨w1.heap.size + 2, 0, none⟩)]] 53) = W := ⟨_, rfl⟩
    have hbel : Below w.heap.size w W := by rw [← hW]; exact below5 HB1.out (by omega) _ _ _ _
    have old : ∀ b o v, b < w1.heap.size → w1.cell? ⟨b, o, none⟩ = some v → W.cell? ⟨b, o, none⟩ = some v := fun b o v hb hc => by
      rw [← hW]
      exact old_cellAt (old_cellAt (old_cellAt (old_cellAt hc hb) (by simp; omega)) (by simp; omega)) (by simp; omega)
    obtain ⟨z, z0, z1, z2, z3, y1, y2⟩ := four hW
    have hinv : GInv { g with B := w.heap.size, x := w1.heap.size } 0 W :=
      ⟨hsz, hbe, hbb, by show w1.heap.size + 3 < _; omega, old w.heap.size 0 _ (by omega) hcE, old (w.heap.size + 1) 0 _ (by omega) hcB, z0, z1, y1, z2, y2, z3,
        fun k hk => by rw [hbel.cell (p := ⟨g.be, g.oe + k, none⟩) hbe]; exact HES.out k hk, fun k hk => by rw [hbel.cell (p := ⟨g.bb, g.ob + k, none⟩) hbb]; exact HBS.out k hk, ⟨hn8.2.1, hn8.2.2, hn8.1⟩⟩
    have HR : Hid (Calls Try.prog 30 #[.int .i64 0, .pointer (some ⟨w1.heap.size, 0, none⟩), .pointer (some ⟨w1.heap.size + 1, 0, none⟩), .pointer (some ⟨w.heap.size, 0, none⟩), .pointer (some ⟨w.heap.size + 1, 0, none⟩), .pointer (some ⟨w1.heap.size + 1 + 1 + 1, 0, none⟩), .pointer (some ⟨w1.heap.size + 2, 0, none⟩)] W
      (RunTo { g with B := w.heap.size, x := w1.heap.size } (0 + GAt.cnt { g with B := w.heap.size, x := w1.heap.size } 0 g.n) W)) := Lib.hid (run_any { g with B := w.heap.size, x := w1.heap.size } g.n 0 (Nat.zero_add _) 0 W hinv (Nat.zero_le _))
    have HBW := Lib.hid hbel
    have hWs : w1.heap.size + 3 < W.heap.size := by omega
    have HW := Lib.hid hW
    clear hbel old hinv hW z z0 z1 z2 z3 y1 y2
    go_wp2_with fail
    rw [HW.out]
    refine HR.out.mono ?_
    rintro e w2 ⟨rfl, i2, g2⟩
    have cE : w2.cell? ⟨w.heap.size, 0, none⟩ = some (.slice (some ⟨g.be, g.oe, none⟩) g.le g.ce) := i2.cE
    have cB : w2.cell? ⟨w.heap.size + 1, 0, none⟩ = some (.slice (some ⟨g.bb, g.ob, none⟩) g.lb g.cb) := i2.cB
    have cN : w2.cell? ⟨w1.heap.size, 0, none⟩ = some (.int .i64 g.n) := i2.cN
    have cR : w2.cell? ⟨w1.heap.size + 1, 0, none⟩ = some (.int .i64 ((0 + GAt.cnt { g with B := w.heap.size, x := w1.heap.size } 0 g.n : Nat) : Int)) := i2.cR
    have cF : w2.cell? ⟨w1.heap.size + 2, 0, none⟩ = some (.bool true) := i2.cF
    have HE2 : Hid (∀ k, k < g.n → w2.cell? ⟨g.be, g.oe + k, none⟩ = some (.int .i64 (g.es k))) := Lib.hid i2.es
    have HB2 : Hid (∀ k, k < g.n → w2.cell? ⟨g.bb, g.ob + k, none⟩ = some (.bool (g.bs k))) := Lib.hid i2.bs
    have HL : Hid (Below w.heap.size w w2) := Lib.hid (g2.below HBW.out (by omega) (fun k hk => by rcases hk with e | e <;> (have e' : k = _ := e; simp at e'; omega)))
    have HC : Hid (GAt.cnt { g with B := w.heap.size, x := w1.heap.size } 0 g.n = g.cnt 0 g.n) := Lib.hid (cnt_same g _ _ _ _)
    rw [Nat.zero_add, HC.out] at cR
    have hcm : g.cnt 0 g.n ≤ 8 := Nat.le_trans (cnt_le g g.n 0) hn8.1
    obtain ⟨m, hm⟩ : ∃ m, g.cnt 0 g.n = m := ⟨_, rfl⟩
    rw [hm] at cR hcm
    have HM := Lib.hid hm
    clear hm HC i2 g2 HR HW HBW hWs hcE hcB HES HBS
    go_wp2_with fail
    go_loop [9, 10] (fun a b => ∃ j : Nat, j ≤ g.n ∧ a = .int .i64 j ∧ b = .int .i64 j ∧ Hid (∀ i, i < j → g.early i = false)) (fun _ b => g.n - (intOf b).toNat)
    case atStart => exact ⟨0, by omega, rfl, rfl, fun i hi => by omega⟩
    case round =>
      obtain ⟨j, hj, rfl, rfl, HJ⟩ := hrel
      by_cases hlt : j < g.n
      · have ce := HE2.out j hlt
        have cb := HB2.out j hlt
        by_cases hod : g.odd j = true
        · by_cases hbs : g.bs j = true
          · rw [hbs] at cb
            have HJ' : Hid (∀ i, i < j + 1 → g.early i = false) := Lib.hid fun i hi => by
              rcases Nat.lt_succ_iff_lt_or_eq.1 hi with h | rfl
              · exact HJ.out i h
              · unfold GAt.early; rw [hbs]; simp
            unfold GAt.odd at hod
            clear hbs
            go_wp2
            go_round
            case rel => exact ⟨j + 1, by omega, by go_num, by go_num, HJ'⟩
            case measure => simp [intOf]; omega
          · have hbs' : g.bs j = false := by simpa using hbs
            rw [hbs'] at cb
            have hm : ((m : Int) == (j : Int) + 1) = true := by
              have h1 := cnt_split g g.n j 0 (by omega) (fun i hi => by rw [Nat.zero_add]; exact HJ.out i hi)
              have e : g.n - j = g.n - j - 1 + 1 := by omega
              have he : g.early (0 + j) = true := by rw [Nat.zero_add]; unfold GAt.early; rw [hod, hbs']; rfl
              rw [HM.out, e, cnt_succ, if_pos he] at h1
              simp
              omega
            unfold GAt.odd at hod
            clear hbs hbs'
            go_wp2
            go_ret
            exact ⟨rfl, HL.out⟩
        · have hod' : g.odd j = false := by simpa using hod
          have HJ' : Hid (∀ i, i < j + 1 → g.early i = false) := Lib.hid fun i hi => by
            rcases Nat.lt_succ_iff_lt_or_eq.1 hi with h | rfl
            · exact HJ.out i h
            · unfold GAt.early; rw [hod']; rfl
          unfold GAt.odd at hod'
          clear hod
          go_wp2
          go_round
          case rel => exact ⟨j + 1, by omega, by go_num, by go_num, HJ'⟩
          case measure => simp [intOf]; omega
      · have hm : ((m : Int) == (j : Int)) = true := by
          have h1 := cnt_split g g.n j 0 hj (fun i hi => by rw [Nat.zero_add]; exact HJ.out i hi)
          have e : g.n - j = 0 := by omega
          rw [HM.out, e] at h1
          simp [GAt.cnt] at h1
          simp [h1]
        go_wp2
        go_ret
        exact ⟨rfl, HL.out⟩
end Go.Proofs.Ytponpkmmfamjnaa
