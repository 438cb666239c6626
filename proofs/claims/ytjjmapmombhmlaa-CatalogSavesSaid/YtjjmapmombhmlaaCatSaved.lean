/-
  What CatalogSaves runs: its first Try, its Guard; what is held: contracts.
-/
import Derived.Test.YtjjmapmombhmlaaCatSp
import Derived.Test.YtjjmapmombhmlaaCatDrop
namespace Go.Proofs.Ytjjmapmombhmlaa
open Go.RowKit Go.Maps Go.ChangeMaps Go.WideShapes
section
variable {b : HB} {w w' : World}
set_option maxRecDepth 100000 in
/-- what its Try runs: Save -/
theorem saC1_any (ok : b.ok) (hf : 1 ≤ b.f) (hn : 12 ≤ b.n) (e : Nat → EN) (hfit : ∀ i, (e i).fits) (len cap : Nat) (hlen : len ≤ 12) (rb xh xl xa : Nat) (h : InL b HS.new 1 [] 0 w) (bh : Box xh 43 (.pointer (some ⟨b.hb, 0, none⟩)) w) (bl : Box xl 55 (.slice (some ⟨rb, 0, none⟩) len cap) w) (ba : Box xa 3 (.int .i64 0) w) (sa : ¬ b.S0 xa) (hrb : Plain b.S0 w rb) (hc : ∀ j, j < len → EntCells rb (0 + j * 6) (e j) w) :
    Calls Try.prog 35 #[.pointer (some ⟨xh, 0, none⟩), .pointer (some ⟨xl, 0, none⟩), .pointer (some ⟨xa, 0, none⟩)] w fun e' w' => e' = .returned (.tuple #[]) ∧ ∃ s1 hd U, Puts b HS.new (bkTo (exOf e hfit) len 0) s1 hd U ∧ InL (b.at U) s1 1 [] (0 + 3 * len) w' ∧ s1.G = [] ∧ Box xa 3 (.int .i64 (hd : Nat)) w' ∧ Grew (fun q => Mut b.B b.S0 w q ∨ q = xa) w w' := by
  have d1 := bh.cell
  have d2 := bl.cell
  have hcnt : ∀ n : Nat, cnt HS.new.S 0 n = n := fun n => by
    induction n with
    | zero => rfl
    | succ n ih => show cnt HS.new.S 0 n + _ = _; rw [ih]; rfl
  have HSv := Lib.hid (save_any (b := b) (s := HS.new) (dp := 1) (n := 0) (f0 := []) (w := w) ok hf rfl (by decide) rb 0 len cap (some ⟨rb, 0, none⟩) (by rw [hcnt]; show (0 : Int) + _ ≤ _; omega) (by omega) (fun _ => rfl) (exOf e hfit) (fun _ => rfl) (by decide) (by decide) h hrb hc)
  have HE : Hid (∀ w' s1 hd U, Puts b HS.new (bkTo (exOf e hfit) len 0) s1 hd U → InL (b.at U) s1 1 [] (0 + 3 * len) w' → Grew (Mut b.B b.S0 w) w w' → Box xa 3 (.int .i64 0) w' ∧ (∃ s1 hd' U, Puts b HS.new (bkTo (exOf e hfit) len 0) s1 hd' U ∧ InL (b.at U) s1 1 [] (0 + 3 * len) (w'.setCell ⟨xa, 0, none⟩ (.int .i64 (hd : Nat))) ∧ s1.G = [] ∧ Box xa 3 (.int .i64 (hd' : Nat)) (w'.setCell ⟨xa, 0, none⟩ (.int .i64 (hd : Nat))) ∧ Grew (fun q => Mut b.B b.S0 w q ∨ q = xa) w (w'.setCell ⟨xa, 0, none⟩ (.int .i64 (hd : Nat))))) := Lib.hid fun w' s1 hd U hp hi hg => by
    have hG : s1.G = [] := hp.same.2.1
    have kk := Kept.of hg
    have b1 : Box xa 3 (.int .i64 0) w' := (kk _ (Box.pl ba sa (by decide) (by decide))).trans ba
    exact ⟨b1, s1, hd, U, hp, hi.box hG b1 (by decide) sa, hG, b1.set _, (hg.mono fun _ _ e => Or.inl e).setCell _ _ fun _ => Or.inr rfl⟩
  clear h bh bl ba sa hrb hc hf hn hlen hcnt
  go_enter Try.func35, Try.ntmps35
  go_wp2_with fail
  refine HSv.out.mono ?_
  rintro e w1 ⟨s1, hd, U, rfl, hp, hi, hg⟩
  obtain ⟨b1, hx⟩ := HE.out w1 s1 hd U hp hi hg
  have d3 := b1.cell
  have d4 := b1.free
  have HX := Lib.hid hx
  clear hp hi hg hx HE HSv b1
  go_wp2_with fail
  go_end0
  exact ⟨rfl, HX.out⟩
set_option maxRecDepth 100000 in
/-- its Try -/
theorem saT1_any (ok : b.ok) (hf : 1 ≤ b.f) (hn : 12 ≤ b.n) (e : Nat → EN) (hfit : ∀ i, (e i).fits) (len cap : Nat) (hlen : len ≤ 12) (rb xh xl xa : Nat) (hI : HeapI b HS.new w) (hL : LogAt b.B b.g 0 (.slice none 0 0) [] w) (bh : Box xh 43 (.pointer (some ⟨b.hb, 0, none⟩)) w) (bl : Box xl 55 (.slice (some ⟨rb, 0, none⟩) len cap) w) (ba : Box xa 3 (.int .i64 0) w) (sh : ¬ b.S0 xh) (sl : ¬ b.S0 xl) (sa : ¬ b.S0 xa) (hrb : Plain b.S0 w rb) (hc : ∀ j, j < len → EntCells rb (0 + j * 6) (e j) w) :
    Calls Try.prog 23 #[.pointer (some ⟨b.hb, 0, none⟩), .func (.func 35) #[] #[.pointer (some ⟨xh, 0, none⟩), .pointer (some ⟨xl, 0, none⟩), .pointer (some ⟨xa, 0, none⟩)]] w fun e' w' => e' = .returned (.int .i64 0) ∧ ∃ s1 hd U, Puts b HS.new (bkTo (exOf e hfit) len 0) s1 hd U ∧ HeapI (b.at U) s1 w' ∧ LogAt b.B b.g 0 (.slice none 0 0) [] w' ∧ Box xa 3 (.int .i64 (hd : Nat)) w' ∧ Grew (fun q => Mut b.B b.S0 w q ∨ q = xa) w w' := by
  have gT := tryWorld_grew b.g 0 w
  have hgS : b.S0 b.g := ⟨1, by decide, rfl⟩
  have hB := hI.sz
  have bT : ∀ {x : Nat} {t : TypeId} {v : Value}, Box x t v w → ¬ b.S0 x → Box x t v (tryWorld b.g 0 w) := fun h hs => h.keep gT fun e => hs (e ▸ hgS)
  have er : (tryWorld b.g 0 w).heap[rb]? = w.heap[rb]? := gT.block rb hrb.lt fun e => hrb.1 (e ▸ hgS)
  have hla := ba.lt
  refine (hTryU b ok HS.new w hI hL 35 _ (fun s1 U w1 => ∃ hd, Puts b HS.new (bkTo (exOf e hfit) len 0) s1 hd U ∧ s1.G = [] ∧ Box xa 3 (.int .i64 (hd : Nat)) w1 ∧ Grew (fun q => Mut b.B b.S0 w q ∨ q = xa) w w1) (fun _ => by rfl) fun hin => ?_).mono ?_
  · refine (saC1_any ok hf hn e hfit len cap hlen rb xh xl xa hin.deep (bT bh sh) (bT bl sl) (bT ba sa) sa (hrb.block er) (fun j hj => (hc j hj).same er)).mono ?_
    rintro e' w1 ⟨rfl, s1, hd, U, hp, hi, hG, hb, hg⟩
    refine ⟨s1, _, U, rfl, hi.first, GoneOk.nil hG, ?_, hd, hp, hG, hb, ?_⟩
    · rw [hg.block _ (by rw [tryWorld_size]; omega) ?_]
      · exact tryWorld_box b.g 0 w
      · rintro (m | m)
        · rcases m with m | m
          · exact HB.far ok hB m
          · exact notFunc_err (tryWorld_box b.g 0 w) m
        · omega
    · have g1 : Grew (Mut b.B b.S0 w) w (tryWorld b.g 0 w) := gT.mono fun y _ e => Or.inl (e ▸ hgS)
      exact (g1.mono fun _ _ e => Or.inl e).step hg fun y hy m => by
        rcases m with m | m
        · exact Or.inl (Mut.back g1 hy m)
        · exact Or.inr m
  · rintro e' w' ⟨s1, U, w1, rfl, ⟨hd, hp, hG, hb, hg⟩, hI', hL', hg'⟩
    rw [HS.fin_nil b s1 hG] at hI'
    refine ⟨rfl, s1, hd, U, hp, hI', hL', hb.keep hg' ?_, hg.step hg' fun y hy m => ?_⟩
    · rintro (m | m)
      · exact sa m.in0
      · omega
    · rcases m with m | m
      · exact Or.inl (Or.inl m.in0)
      · omega
end
section
variable {b : HB} {T : Nat → UInt8} {w w' : World}
theorem saC2_any (ok : b.ok) (at' : Nat) (hat : at' < 65536) (h : AdAt b T [] w) (xh xa xg : Nat) (bh : Box xh 43 (.pointer (some ⟨b.hb, 0, none⟩)) w) (ba : Box xa 3 (.int .i64 (at' : Int)) w) (bg : Box xg 55 (.slice none 0 0) w) (sg : ¬ b.S0 xg) :
    Calls Try.prog 37 #[.pointer (some ⟨xh, 0, none⟩), .pointer (some ⟨xa, 0, none⟩), .pointer (some ⟨xg, 0, none⟩)] w fun e w' => e = Ends (adRun b T (b.n + 1) [] [] at').1 ∧ GotEnd b T (adRun b T (b.n + 1) [] [] at') xg w w' := by
  have HA := Lib.hid (adopt_any ok at' hat h)
  have hsz := h.size
  have c1 := bh.cell
  have c2 := ba.cell
  have HB := Lib.hid bg
  have HSg := Lib.hid sg
  clear h bh ba bg sg hat
  generalize adRun b T (b.n + 1) [] [] at' = R at *
  obtain ⟨o, L⟩ := R
  unfold AdoptEnd at HA
  cases o with
  | some k =>
    go_enter Try.func37, Try.ntmps37
    go_wp2_with fail
    refine HA.out.mono ?_
    rintro e w1 ⟨rfl, hg⟩
    have HX : Hid (GotEnd b T (some k, L) xg w w1) := Lib.hid ⟨(fun h => by cases h), fun _ _ => HB.out.keep hg fun e => HSg.out (adSet0 e), hg.mono fun _ _ e => Or.inl e⟩
    clear hg HA
    unfold failed
    go_wp2_with fail
    exact ⟨rfl, rfl, HX.out⟩
  | none =>
    go_enter Try.func37, Try.ntmps37
    go_wp2_with fail
    refine HA.out.mono ?_
    rintro e w1 ⟨⟨a, c, rfl, hown, H, hA, hl⟩, hg⟩
    have bg1 := HB.out.keep hg fun e => HSg.out (adSet0 e)
    have d1 := bg1.cell
    have d2 := bg1.free
    have HX : Hid (GotEnd b T (none, L) xg w (w1.setCell ⟨xg, 0, none⟩ (.slice a L.length c))) := Lib.hid (by
      have gs : Grew (fun k => k = xg) w1 (w1.setCell ⟨xg, 0, none⟩ (.slice a L.length c)) := (Grew.refl w1).setCell _ _ fun _ => rfl
      have hlt := HB.out.lt
      exact ⟨fun _ => ⟨a, c, bg1.set _, own_keepN hown gs fun q hq e => by
        have := (hown.lt q hq).1
        omega, H, hA.keep gs fun x hx e => HSg.out (e ▸ hx), hl⟩, (fun _ h => by cases h), (hg.mono fun _ _ e => Or.inl e).step gs fun _ _ e => Or.inr e⟩)
    clear hg HA hown hA hl bg1
    go_wp2_with fail
    go_end0
    exact ⟨rfl, HX.out⟩
set_option maxRecDepth 100000 in
theorem saG2_any (ok : b.ok) (at' : Nat) (hat : at' < 65536) (h : AdAt b T [] w) (xh xa xg : Nat) (bh : Box xh 43 (.pointer (some ⟨b.hb, 0, none⟩)) w) (ba : Box xa 3 (.int .i64 (at' : Int)) w) (bg : Box xg 55 (.slice none 0 0) w) (sg : ¬ b.S0 xg) :
    Calls Try.prog 17 #[.func (.func 37) #[] #[.pointer (some ⟨xh, 0, none⟩), .pointer (some ⟨xa, 0, none⟩), .pointer (some ⟨xg, 0, none⟩)]] w fun e w' => e = .returned (.int .i64 ((adRun b T (b.n + 1) [] [] at').1.getD 0)) ∧ GotEnd b T (adRun b T (b.n + 1) [] [] at') xg w w' := by
  have hsz := h.size
  have hlt := bg.lt
  have hS : ¬ ((TrySet b w.heap.size ∨ w.heap.size = b.rb) ∨ w.heap.size = xg) := by
    rintro (e | e)
    · have := HB.s0_lt ok (adSet0 e)
      omega
    · omega
  have g0 : Grew (fun _ => False) w (w.alloc errBox) := (Grew.refl w).alloc errBox
  refine (guard_grew 37 _ w (fun k => (TrySet b k ∨ k = b.rb) ∨ k = xg) (fun o w1 => o = (adRun b T (b.n + 1) [] [] at').1 ∧ GotEnd b T (adRun b T (b.n + 1) [] [] at') xg (w.alloc errBox) w1) hS (fun _ => by rfl) ?_).mono ?_
  · refine (saC2_any ok at' hat (h.alloc errBox) xh xa xg (bh.keepAlloc _) (ba.keepAlloc _) (bg.keepAlloc _) sg).mono ?_
    rintro e w1 ⟨rfl, hG⟩
    exact ⟨_, rfl, hG.2.2, rfl, hG⟩
  · rintro e w' ⟨o, w1, rfl, ⟨rfl, h1, h2, h3⟩, rfl, hg, hlt2⟩
    have gd := done_one w.heap.size (adRun b T (b.n + 1) [] [] at').1 w1
    generalize adRun b T (b.n + 1) [] [] at' = R at *
    refine ⟨rfl, fun hn => ?_, fun k hk => (h2 k hk).keep gd (by omega), hg⟩
    obtain ⟨a, c, hb, hown, H, hA, hl⟩ := h1 hn
    rw [World.size_alloc] at hown
    exact ⟨a, c, hb.keep gd (by omega), own_base (own_keepN hown gd fun q hq e => by have := (hown.lt q hq).1; omega) (Nat.le_succ _), H, hA.keep gd fun x hx e => by
      have := HB.s0_lt ok hx
      omega, hl⟩
/-- how many are held -/
theorem cnt_held : ∀ (H : List Nat) (n : Nat) (S : Nat → Nat), H.Nodup → (∀ x ∈ H, x < n) → (∀ i, i < n → S i = if i ∈ H then 1 else 0) → cnt S 1 n = H.length
  | [], n, S, _, _, h => by
    have : ∀ n, (∀ i, i < n → S i = 0) → cnt S 1 n = 0 := fun n => by
      induction n with
      | zero => intro _; rfl
      | succ n ih =>
        intro h
        show cnt S 1 n + _ = 0
        rw [ih fun i hi => h i (by omega), h n (by omega)]
        rfl
    exact this n fun i hi => by rw [h i hi]; simp
  | x :: H, n, S, hn, hl, h => by
    have hx := hl x List.mem_cons_self
    have hnx : ¬ x ∈ H := (List.nodup_cons.1 hn).1
    have i1 := cnt_held H n (upd S x 0) (List.nodup_cons.1 hn).2 (fun y hy => hl y (List.mem_cons_of_mem _ hy)) fun i hi => by
      unfold upd
      by_cases e : i = x
      · rw [if_pos e, if_neg (by rw [e]; exact hnx)]
      · rw [if_neg e, h i hi]
        by_cases q : i ∈ H
        · rw [if_pos q, if_pos (List.mem_cons_of_mem _ q)]
        · rw [if_neg q, if_neg]
          intro m
          rcases List.mem_cons.1 m with m | m
          · exact e m
          · exact q m
    have i2 := cnt_upd S 1 x 0 n hx
    rw [h x hx, if_pos List.mem_cons_self, if_pos rfl, if_neg (by decide)] at i2
    rw [List.length_cons, ← i1]
    omega
theorem AdAt.held {H : List Nat} {m : Nat} (h : AdAt b T H w) (l : HeldL b H m) : ∃ s, HeapI b s w ∧ cnt s.S 1 b.n = m := by
  obtain ⟨s, hs, hI⟩ := h.ex
  exact ⟨s, hI, (cnt_held H b.n s.S l.nd l.lt hs.st).trans l.len⟩
/-- none is held -/
theorem cnt_zero {S : Nat → Nat} : ∀ n, (∀ i, i < n → S i = 0) → cnt S 1 n = 0
  | 0, _ => rfl
  | n + 1, h => by
    show cnt S 1 n + _ = 0
    rw [cnt_zero n fun i hi => h i (by omega), h n (by omega)]
    rfl
theorem puts_dr {s1 : HS} {pre : List EX} {hd : Nat} {U : Nat → UInt8} (h : Puts b HS.new pre s1 hd U) : DrS b pre.length 0 s1 ∧ cnt s1.S 1 b.n = pre.length := by
  suffices hs : (∀ j, j < pre.length → s1.S j = 1 ∧ s1.R ((b.f + j : Nat) : Int) = some 1 ∧ s1.Y ((b.f + j : Nat) : Int) = some ()) ∧ s1.G = [] by
    obtain ⟨c1, _, c3, _⟩ := puts_chain h
    refine ⟨⟨fun j hj => hs.1 j (by omega), fun j h1 h2 => by omega, fun j h1 h2 => by rw [c1 j h2, if_neg (by omega)], hs.2⟩, ?_⟩
    have := cnt_held (List.range pre.length) b.n s1.S List.nodup_range (fun x hx => by have := List.mem_range.1 hx; omega) fun i hi => by
      rw [c1 i hi]
      simp only [List.mem_range]
    rw [this, List.length_range]
  induction h with
  | nil => exact ⟨fun j hj => absurd hj (Nat.not_lt_zero j), rfl⟩
  | @snoc pre s0 h0 j U x hp hj hs hmin ih =>
    obtain ⟨i1, i2⟩ := ih
    obtain ⟨c1, _, c3, _⟩ := puts_chain hp
    have hjk : j = pre.length := by
      have h1 := c1 j hj
      rw [hs] at h1
      have h2 : ¬ j < pre.length := fun q => by rw [if_pos q] at h1; cases h1
      rcases Nat.lt_or_ge pre.length j with q | q
      · have h3 := c1 pre.length (by omega)
        rw [if_neg (Nat.lt_irrefl _)] at h3
        exact absurd h3 (hmin _ q)
      · omega
    subst hjk
    refine ⟨fun k hk => ?_, i2⟩
    rw [List.length_append, List.length_singleton] at hk
    by_cases e : k = pre.length
    · subst e
      refine ⟨?_, ?_, ?_⟩
      · show upd s0.S pre.length 1 pre.length = 1
        unfold upd
        rw [if_pos rfl]
      · show upF s0.R _ (some 1) _ = _
        unfold upF
        rw [if_pos rfl]
      · show upF s0.Y _ (some ()) _ = _
        unfold upF
        rw [if_pos rfl]
    · obtain ⟨a1, a2, a3⟩ := i1 k (by omega)
      have e2 : ¬ ((b.f + k : Nat) : Int) = ((b.f + pre.length : Nat) : Int) := by omega
      refine ⟨?_, ?_, ?_⟩
      · show upd s0.S pre.length 1 k = 1
        unfold upd
        rw [if_neg e]
        exact a1
      · show upF s0.R _ (some 1) _ = _
        unfold upF
        rw [if_neg e2]
        exact a2
      · show upF s0.Y _ (some ()) _ = _
        unfold upF
        rw [if_neg e2]
        exact a3
end
end Go.Proofs.Ytjjmapmombhmlaa
