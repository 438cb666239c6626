/-
  UndoPlays: a Try of steps: a contract, given one of the steps behind it.
-/
import Derived.Test.YtemnkffaapljpaaUPlayT
namespace Go.Proofs.Ytemnkffaapljpaa
open Go.RowKit Go.Maps Go.ChangeMaps Go.WideShapes
theorem dec_succ (d : Nat) : decide (0 < d + 1) = true := decide_eq_true (Nat.succ_pos d)
set_option maxRecDepth 100000 in
/-- Try itself -/
theorem tryDo (B g tb n cap : Nat) (ao : Option Addr) (L : Nat → UA) (F : Nat) (ih : RunOk B g tb n cap ao L F) (xw xd xl a d : Nat) (v : Value) (fs : List Step) (s : US) (w : World) (ha : a ≤ n) (hF : n - a ≤ F) (hz : d = 0 → fs = []) (hf : fs.length + 2 * (n - a) ≤ 200) (hd : d + 1 + (n - a) ≤ 100) (hB : B ≤ w.heap.size) (hb : Boxs g xw xd xl d n cap ao w) (hS : ¬ UO g tb xw ∧ ¬ UO g tb xd ∧ ¬ UO g tb xl) (h : UW g tb a s w) (hl : LogAt B g d v fs w) (hA : AsAt g tb ao n L w) (q : Bool × Nat × US) (hq : runU L n F a true s = q) :
    Calls Try.prog 19 #[.pointer (some ⟨g, 0, none⟩), .func (.func 127) #[] #[.pointer (some ⟨xw, 0, none⟩), .pointer (some ⟨xd, 0, none⟩), .pointer (some ⟨xl, 0, none⟩)]] w fun e w' => e = .returned (.int .i64 (if q.1 = true then 4 else 0)) ∧ Ran B g d (UO g tb) (UW g tb) fs (2 * (q.2.1 - a)) q.2.1 s (if q.1 = true then s else q.2.2) w w' := by
  have gT := tryWorld_grew g d w
  have kT : Kept (UO g tb) w (tryWorld g d w) := Kept.of (B := B) (gT.mono fun _ _ e => Or.inl (Or.inl e))
  have hpos := runU_pos L n F a true s ha
  rw [hq] at hpos
  refine (try_genA (uwLogged g tb) B d v fs 127 _ a s w hl (by omega) h (fun o fs' j1 s1 w1 => o = (if q.1 = true then some 4 else none) ∧ j1 = q.2.1 ∧ s1 = q.2.2 ∧ fs'.length ≤ 2 * (q.2.1 - a) ∧ (d = 0 → True)) (fun _ => by rfl) fun l1 i1 => ?_).mono ?_
  · have hBt : B ≤ (tryWorld g d w).heap.size := Nat.le_trans hB gT.size
    refine (tryIn_any B g tb n cap ao L F ih xw xd xl a d v fs s (tryWorld g d w) ha hF hf hd hBt (hb.kept hS kT) hS i1 l1 (hA.kept kT)).mono ?_
    rintro e w' ⟨rfl, hr⟩
    rw [dec_succ, hq] at hr ⊢
    obtain ⟨⟨v', fs', l2, n2, p2, _⟩, i2, g2⟩ := hr
    refine ⟨_, fs', v', q.2.1, q.2.2, rfl, l2, fun k hk => ?_, i2, p2 (Nat.succ_pos d), ?_, g2, rfl, rfl, rfl, n2, fun _ => trivial⟩
    · split at hk
      · cases hk; decide
      · cases hk
    · rw [List.length_append]
      omega
  · rintro e w' ⟨o, fs', j1, s1, w1, rfl, ⟨rfl, rfl, rfl, n1, _⟩, _, gr, _, _, hc⟩
    rcases hc with ⟨ho, i2, ⟨v', l2⟩, p2⟩ | ⟨k, ho, hk, i2, v', l2⟩
    · have h1 : ¬ q.1 = true := fun e => by rw [if_pos e] at ho; cases ho
      rw [if_neg h1, if_neg h1, if_neg h1]
      refine ⟨rfl, ?_, i2, gr⟩
      by_cases h0 : d = 0
      · rw [if_pos h0] at l2
        exact ⟨v', [], by rw [hz h0]; exact l2, Nat.zero_le _, fun e => absurd h0 (Nat.pos_iff_ne_zero.1 e), fun _ => rfl⟩
      · rw [if_neg h0] at l2
        exact ⟨v', fs', l2, n1, fun _ => p2, fun e => absurd e h0⟩
    · have h1 : q.1 = true := by
        by_cases e : q.1 = true
        · exact e
        · rw [if_neg e] at ho; cases ho
      rw [if_pos h1, if_pos h1, if_pos h1]
      refine ⟨rfl, ?_, i2, gr⟩
      by_cases h0 : d = 0
      · rw [if_pos h0] at l2
        exact ⟨v', [], by rw [hz h0]; exact l2, Nat.zero_le _, fun e => absurd h0 (Nat.pos_iff_ne_zero.1 e), fun _ => rfl⟩
      · rw [if_neg h0] at l2
        exact ⟨v', [], by rw [List.append_nil]; exact l2, Nat.zero_le _, fun _ j => Path.nil s w', fun _ => rfl⟩
theorem ranFine {B g tb d m j : Nat} {fs : List Step} {s s2 : US} {w w1 : World} (h : Ran B g d (UO g tb) (UW g tb) fs m j s s2 w w1) : Ran B g d (UO g tb) (UW g tb) fs m j s s2 w (w1.drew.drew.setCell ⟨g, 8, none⟩ (.bool true)) := by
  obtain ⟨⟨v1, fs1, l1, n1, p1, z1⟩, i1, g1⟩ := h
  have k : Grew (Mut B (UO g tb) w1) w1 (w1.drew.drew.setCell ⟨g, 8, none⟩ (.bool true)) := (Grew.refl w1).drew.drew.setCell _ _ fun _ => Or.inl (Or.inl rfl)
  exact ⟨⟨v1, fs1, l1.drew'.drew'.field 8 (by decide) _, n1, fun h j => (p1 h j).later (Kept.of k), z1⟩, i1.drew.drew.fineTo, g1.thenMut k⟩
set_option maxRecDepth 100000 in
set_option maxHeartbeats 2000000 in
/-- a Try of what follows -/
theorem tryU (B g tb n cap : Nat) (ao : Option Addr) (L : Nat → UA) (F : Nat) (ih : RunOk B g tb n cap ao L F) (a d : Nat) (v : Value) (fs : List Step) (s : US) (w : World) (ha0 : 1 ≤ a) (ha : a ≤ n) (hF : n - a ≤ F) (hz : d = 0 → fs = []) (hf : fs.length + 2 * (n - a) ≤ 200) (hd : d + 1 + (n - a) ≤ 100) (hB : B ≤ w.heap.size) (h : UW g tb a s w) (hl : LogAt B g d v fs w) (hA : AsAt g tb ao n L w) (q : Bool × Nat × US) (hq : runU L n F a true s = q) :
    Calls Try.prog 78 #[.pointer (some ⟨g, 0, none⟩), .slice ao n cap] w fun e w' => e = .returned (.tuple #[]) ∧ Ran B g d (UO g tb) (UW g tb) fs (2 * (q.2.1 - a)) q.2.1 s (if q.1 = true then s else q.2.2) w w' := by
  have hmf : ∀ (fn : Fn) (first cap : Array Value) (w : World), (Instr.makeFunc fn first cap).run Try.prog w = .ok (.func fn first cap) w := fun _ _ _ _ => rfl
  obtain ⟨T, hT⟩ := h.trys
  have hpos := runU_pos L n F a true s ha
  rw [hq] at hpos
  obtain ⟨W1, hW1⟩ : ∃ W1, w.alloc (.cells #[.pointer (some ⟨g, 0, none⟩)] 26) = W1 := ⟨_, rfl⟩
  obtain ⟨W2, hW2⟩ : ∃ W2, W1.alloc (.cells #[.slice ao n cap] 24) = W2 := ⟨_, rfl⟩
  obtain ⟨W3, hW3⟩ : ∃ W3, ((w.setCell ⟨g, 9, none⟩ (.int .i64 (wrap64 (T + 1)))).alloc (.cells #[.pointer (some ⟨g, 0, none⟩)] 26)).alloc (.cells #[.slice ao n cap] 24) = W3 := ⟨_, rfl⟩
  obtain ⟨W4, hW4⟩ : ∃ W4, W3.alloc (.cells #[.int .i64 (d : Int)] 3) = W4 := ⟨_, rfl⟩
  have s1 : W1.heap.size = w.heap.size + 1 := by rw [← hW1]; simp
  have s2 : W2.heap.size = w.heap.size + 1 + 1 := by rw [← hW2]; simp [s1]
  have s3 : W3.heap.size = w.heap.size + 1 + 1 := by rw [← hW3]; simp [World.setCell]
  have g1 : Grew (Mut B (UO g tb) w) w W1 := by rw [← hW1]; exact (Grew.refl w).alloc _
  have g2 : Grew (Mut B (UO g tb) w) w W2 := by rw [← hW2]; exact g1.alloc _
  have g3 : Grew (Mut B (UO g tb) w) w W3 := by rw [← hW3]; exact (((Grew.refl w).setCell _ _ fun _ => Or.inl (Or.inl rfl)).alloc _).alloc _
  have g4 : Grew (Mut B (UO g tb) w) w W4 := by rw [← hW4]; exact g3.alloc _
  have u1 : UW g tb a s W1 := by rw [← hW1]; exact h.alloc _
  have u2 : UW g tb a s W2 := by rw [← hW2]; exact u1.alloc _
  have u3 : UW g tb a s W3 := by rw [← hW3]; exact ((h.trysTo _).alloc _).alloc _
  have u4 : UW g tb a s W4 := by rw [← hW4]; exact u3.alloc _
  have l3 : LogAt B g d v fs W3 := by rw [← hW3]; exact ((hl.field 9 (by decide) _).keepAlloc _).keepAlloc _
  have l4 : LogAt B g d v fs W4 := by rw [← hW4]; exact l3.keepAlloc _
  have hgl := h.lt
  have b1 : Box w.heap.size 26 (.pointer (some ⟨g, 0, none⟩)) W2 := by rw [← hW2, ← hW1]; exact (Box.new w _ _).keepAlloc _
  have b2 : Box (w.heap.size + 1) 24 (.slice ao n cap) W2 := by rw [← hW2, ← s1]; exact Box.new W1 _ _
  have b1' : Box w.heap.size 26 (.pointer (some ⟨g, 0, none⟩)) W3 := by
    have e : (w.setCell ⟨g, 9, none⟩ (.int .i64 (wrap64 (T + 1)))).heap.size = w.heap.size := by simp [World.setCell]
    rw [← hW3, ← e]
    exact (Box.new _ _ _).keepAlloc _
  have b2' : Box (w.heap.size + 1) 24 (.slice ao n cap) W3 := by
    have e : ((w.setCell ⟨g, 9, none⟩ (.int .i64 (wrap64 (T + 1)))).alloc (.cells #[.pointer (some ⟨g, 0, none⟩)] 26)).heap.size = w.heap.size + 1 := by simp [World.setCell]
    rw [← hW3, ← e]
    exact Box.new _ _ _
  have hb : Boxs g w.heap.size (w.heap.size + 1 + 1) (w.heap.size + 1) d n cap ao W4 := by
    rw [← hW4]
    exact ⟨b1'.keepAlloc _, by rw [← s3]; exact Box.new W3 _ _, b2'.keepAlloc _⟩
  have hS : ¬ UO g tb w.heap.size ∧ ¬ UO g tb (w.heap.size + 1 + 1) ∧ ¬ UO g tb (w.heap.size + 1) := ⟨uo_new h (Nat.le_refl _), uo_new h (by omega), uo_new h (by omega)⟩
  have hA4 := hA.kept (Kept.of g4)
  have HDo := Lib.hid (tryDo B g tb n cap ao L F ih _ _ _ a d v fs s W4 ha hF hz hf hd (Nat.le_trans hB g4.size) hb hS u4 l4 hA4 q hq)
  have HD3 := Lib.hid (deep_any B g d v fs W3 l3)
  have c1 := b1.cell
  have c2 : W2.cell? ⟨g, 9, none⟩ = some (.int .i64 T) := by
    rw [← hW2, ← hW1]
    exact ((((Grew.refl (S := fun _ => False) w).alloc _).alloc _).cell (p := ⟨g, 9, none⟩) hgl (fun e => e)).trans hT
  have f2 := u2.fr 9
  have c3 := b1'.cell
  have c4 := hb.w'.cell
  have c5 := hb.l'.cell
  have HB := Lib.hid hb
  have HS := Lib.hid hS
  have HA := Lib.hid hA4
  have HP := Lib.hid hpos
  have HG := Lib.hid g4
  have HZ := Lib.hid hz
  have HQ : Hid (q.2.1 ≤ 40) := Lib.hid (Nat.le_trans hpos.2.1 hA.small)
  clear hb hS hA4 hpos g1 g2 g3 g4 u1 u2 u3 u4 l3 l4 b1 b2 b1' b2' hT hA hl h hz hd hf hF hB hq
  subst hW4
  subst hW3
  subst hW2
  subst hW1
  clear s1 s2 s3
  go_enter Try.func78, Try.ntmps78
  go_wp2_with fail
  refine HD3.out.mono ?_
  rintro e w3 ⟨rfl, rfl⟩
  go_wp2_with fail
  refine HDo.out.mono ?_
  rintro e w5 ⟨rfl, hr⟩
  have hp0 : 1 ≤ q.2.1 := Nat.le_trans ha0 HP.out.1
  obtain ⟨P, hP⟩ : ∃ P, q.2.1 = P + 1 := ⟨q.2.1 - 1, by omega⟩
  have hPn : P < n := by have := HP.out.2.1; omega
  have kk := Kept.of hr.grew
  have hb5 := HB.out.kept HS.out kk
  have hA5 := HA.out.kept kk
  have u5 := hr.st
  obtain ⟨v5, fs5, l5, _⟩ := hr.log
  have hK4 : q.1 = true → (L P).k = 4 := fun e => by
    have h1 := (HP.out.2.2 e).2.2
    rw [hP, Nat.add_sub_cancel] at h1
    have h2 := hA5.ok P hPn
    omega
  obtain ⟨lb, off, rfl, _, _, hc⟩ := hA5.at' (by omega)
  have k0 := (hc P hPn).1
  have HF : Hid (Ran B g d (UO g tb) (UW g tb) fs (2 * (q.2.1 - a)) q.2.1 s (if q.1 = true then s else q.2.2) w (w5.drew.drew.setCell ⟨g, 8, none⟩ (.bool true))) := Lib.hid (ranFine (hr.after HG.out))
  have HDe := Lib.hid (deep_still B g d v5 (fs ++ fs5) w5.drew.drew l5.drew'.drew')
  obtain ⟨Z, hZ⟩ : ∃ Z : Int, ((q.2.1 : Nat) : Int) = Z := ⟨_, rfl⟩
  have e7 : w5.drew.cell? ⟨g, 7, none⟩ = some (.int .i64 Z) := by rw [← hZ]; exact u5.at'
  have i0 : (0 : Int) < Z := by omega
  have i1 : (0 : Int) ≤ (P : Int) := by omega
  have i2 : (P : Int) < (n : Int) := by omega
  have hw : IntKind.i64.wrap (Z - 1) = (P : Int) := by
    have := HQ.out
    have e : Z - 1 = (P : Int) := by omega
    rw [e]
    simp only [IntKind.wrap, IntKind.bits, IntKind.signed]
    simp
    omega
  have x1 : w5.drew.cell? ⟨w.heap.size, 0, none⟩ = some (.pointer (some ⟨g, 0, none⟩)) := hb5.w'.cell
  have x2 : w5.drew.cell? ⟨w.heap.size + 1, 0, none⟩ = some (.slice (some ⟨lb, off, none⟩) n cap) := hb5.l'.cell
  have y1 : w5.drew.drew.cell? ⟨w.heap.size, 0, none⟩ = some (.pointer (some ⟨g, 0, none⟩)) := hb5.w'.cell
  have y2 : w5.drew.drew.cell? ⟨w.heap.size + 1 + 1, 0, none⟩ = some (.int .i64 (d : Int)) := hb5.d'.cell
  have y3 : w5.drew.drew.cell? ⟨g, 8, none⟩ = some (.bool true) := u5.fine
  have y4 : w5.drew.drew.frozen? ⟨g, 8, none⟩ = false := u5.fr 8
  have k1 : w5.drew.cell? ⟨lb, off + P * 3, none⟩ = some (.int .i64 (L P).k) := k0
  generalize (L P).k = K at *
  clear kk hb5 hA5 u5 l5 hc hr HDo HD3 HP HB HA HG HZ hp0 c3 c4 c5 k0
  have e9 : w5.drew.drew.setCell ⟨g, 8, none⟩ (.bool true) = (w5.setCell ⟨g, 8, none⟩ (.bool true)).drew.drew := rfl
  rw [e9] at HF
  clear e9
  clear HS HQ ih hgl c1 c2 f2 hmf hP hPn hZ
  obtain ⟨s', hs'⟩ : ∃ s', (if q.1 = true then s else q.2.2) = s' := ⟨_, rfl⟩
  obtain ⟨M, hM⟩ : ∃ M, (2 * (q.2.1 - a)) = M := ⟨_, rfl⟩
  obtain ⟨p, hp⟩ : ∃ p, q.2.1 = p := ⟨_, rfl⟩
  by_cases hq1 : q.1 = true
  · obtain rfl : K = 4 := hK4 hq1
    clear hK4
    rw [if_pos hq1] at HF ⊢
    clear hs' hM hp
    go_wp2_with fail
    refine wp_region_still_lit (by kernel_rfl) (by kernel_rfl) ?_
    change wpStill _ _ (w5.drew) _ _ _
    repeat still_step
    refine wpStill_nil ?_
    go_wp2_with fail
    refine wp_region_still_tail 24 (by kernel_rfl) (by kernel_rfl) ?_
    change wpStill _ _ (w5.drew.drew) (fun a' => wpList _ _ _ _ a' (w5.drew.drew)) _ _
    simp only [List.take_succ_cons, List.take_zero, List.drop_succ_cons, List.drop_zero]
    repeat (first | still_step | still_call HDe.out)
    refine wpStill_nil ?_
    go_wp2_with fail
    go_end0
    exact ⟨rfl, HF.out⟩
  · clear hK4
    rw [if_neg hq1] at HF ⊢
    clear hs' hM hp
    go_wp2_with fail
    refine wp_region_still_lit (by kernel_rfl) (by kernel_rfl) ?_
    change wpStill _ _ (w5.drew) _ _ _
    repeat still_step
    refine wpStill_nil ?_
    go_wp2_with fail
    refine wp_region_still_tail 24 (by kernel_rfl) (by kernel_rfl) ?_
    change wpStill _ _ (w5.drew.drew) (fun a' => wpList _ _ _ _ a' (w5.drew.drew)) _ _
    simp only [List.take_succ_cons, List.take_zero, List.drop_succ_cons, List.drop_zero]
    repeat (first | still_step | still_call HDe.out)
    refine wpStill_nil ?_
    go_wp2_with fail
    go_end0
    exact ⟨rfl, HF.out⟩
end Go.Proofs.Ytemnkffaapljpaa
