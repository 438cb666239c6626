/-
  UndoPlays' table: Put and Drop, in a Try or outside of one.
-/
import Derived.Test.YtemnkffaapljpaaUPlayS
namespace Go.Proofs.Ytemnkffaapljpaa
open Go.RowKit Go.Maps Go.ChangeMaps Go.WideShapes
set_option maxRecDepth 100000 in
/-- a Put in a Try -/
theorem putA {σ ι : Type} {g b : Nat} {S0 : Nat → Prop} {I : ι → σ → World → Prop} {L : List Int} {get : σ → Int → Option Int} {set : σ → (Int → Option Int) → σ} (LG : ∀ j, Logged g S0 (I j)) (A : ∀ j, Acc g S0 (I j) (tblII Try.prog) b L get set) (hL : L.length < 1000000) (B dp : Nat) (v : Value) (fs : List Step) (j : ι) (s : σ) (k : Int) (y : Int) (w : World) (h : LogAt B g (dp + 1) v fs w) (hl : fs.length < 100000) (hB : B ≤ w.heap.size) (hI : I j s w) (hok : (tblII Try.prog).ok k) (hy : (tblII Try.prog).okv y) (hk : k ∈ L)
    (hlog : ∀ w', Grew (fun q => q = g ∨ v.ownBlock = some q) w w' → (∀ o, ¬ o = 1 → w'.cell? ⟨g, o, none⟩ = w.cell? ⟨g, o, none⟩) → (∀ o, w'.frozen? ⟨g, o, none⟩ = w.frozen? ⟨g, o, none⟩) → I j s w') :
    Calls Try.prog 76 #[.pointer (some ⟨g, 0, none⟩), .map (some b), .int .i64 k, .int .i64 y] w fun e w' => e = .returned (.tuple #[]) ∧ Ran B g (dp + 1) S0 I fs 1 j s (set s (upF (get s) k (some y))) w w' := by
  have HK := Lib.hid (keepII B g dp b v fs (get s) L k w h hl hB ((A j).tab _ _ hI) hok)
  have HM : Hid (∀ w', Grew (fun q => q = g ∨ v.ownBlock = some q) w w' → Grew (Mut B S0 w) w w') := Lib.hid fun w' hg => hg.mono fun q _ e => by
    rcases e with e | e
    · rw [e]; exact Or.inl (LG j).own
    · exact Or.inr ⟨(h.row.lt q e).1, Lib.ownsRow_kind h.row q e⟩
  have HNo : Hid (∀ x, w.heap.size = x → ¬ S0 (x + 3) ∧ ¬ S0 (x + 2) ∧ ¬ S0 x ∧ ¬ S0 (x + 1)) := Lib.hid fun x hx => ⟨fun m => (by have := (LG j).lt _ _ _ hI m; omega), fun m => (by have := (LG j).lt _ _ _ hI m; omega), fun m => (by have := (LG j).lt _ _ _ hI m; omega), fun m => (by have := (LG j).lt _ _ _ hI m; omega)⟩
  have HLg := Lib.hid hlog
  have HO := Lib.hid hok
  have HY := Lib.hid hy
  have HIn := Lib.hid hk
  have HLL := Lib.hid hL
  clear h hlog hI
  go_enter Try.func76, Try.ntmps76
  go_wp2_with fail
  refine HK.out.mono ?_
  rintro e w1 ⟨rfl, v', x, hx, hl1, hb1, hg1, hc1, hz1⟩
  have hI1 := HLg.out w1 hg1 hc1 hz1
  have HI1 := Lib.hid hI1
  have HL1 := Lib.hid hl1
  have HB1 := Lib.hid hb1
  have HG1 := Lib.hid (HM.out w1 hg1)
  have HT1 := Lib.hid ((A j).tab _ _ hI1)
  clear HLg HK HM hI1 hl1 hb1 hg1 hc1 hz1 hok hy hk hL
  go_wp2_with (at_mapUpdate; (refine wpList_tab_put (T := (tblII Try.prog)) tblII_fine HT1.out HLL.out rfl _ _ _ rfl rfl k y rfl rfl HIn.out HO.out HY.out ?_); (intro w2 hT2 hG2); (have HT2 := Lib.hid hT2); (have HG2 := Lib.hid hG2); clear hT2 hG2)
  go_end0
  have hm2 : Grew (Mut B S0 w1) w1 w2 := HG2.out.mono fun q _ e => by rw [e]; exact Or.inl (A j).own
  refine ⟨rfl, Ran.one (HL1.out.tab HT1.out (A j).ne HG2.out) ((A j).upd _ _ _ _ HI1.out HT2.out HG2.out) (fun q => goodII (A q) HLL.out s _ k (x + 3) (x + 2) x (x + 1) w2 (HB1.out.keep HG2.out HT1.out) (HNo.out x hx) HO.out (fun z hz => ⟨HT1.out.vals _ _ hz, (HT1.out.sup _ (by rw [hz]; rfl)).1⟩) (by rw [(A q).got, upF_back]; exact (A q).back _ _)) (HG1.out.thenMut hm2)⟩
set_option maxRecDepth 100000 in
/-- a Drop in a Try -/
theorem dropA {σ ι : Type} {g b : Nat} {S0 : Nat → Prop} {I : ι → σ → World → Prop} {L : List Int} {get : σ → Int → Option Int} {set : σ → (Int → Option Int) → σ} (LG : ∀ j, Logged g S0 (I j)) (A : ∀ j, Acc g S0 (I j) (tblII Try.prog) b L get set) (hL : L.length < 1000000) (B dp : Nat) (v : Value) (fs : List Step) (j : ι) (s : σ) (k : Int) (w : World) (h : LogAt B g (dp + 1) v fs w) (hl : fs.length < 100000) (hB : B ≤ w.heap.size) (hI : I j s w) (hok : (tblII Try.prog).ok k)
    (hlog : ∀ w', Grew (fun q => q = g ∨ v.ownBlock = some q) w w' → (∀ o, ¬ o = 1 → w'.cell? ⟨g, o, none⟩ = w.cell? ⟨g, o, none⟩) → (∀ o, w'.frozen? ⟨g, o, none⟩ = w.frozen? ⟨g, o, none⟩) → I j s w') :
    Calls Try.prog 77 #[.pointer (some ⟨g, 0, none⟩), .map (some b), .int .i64 k] w fun e w' => e = .returned (.tuple #[]) ∧ Ran B g (dp + 1) S0 I fs 1 j s (set s (upF (get s) k none)) w w' := by
  have HK := Lib.hid (keepII B g dp b v fs (get s) L k w h hl hB ((A j).tab _ _ hI) hok)
  have HM : Hid (∀ w', Grew (fun q => q = g ∨ v.ownBlock = some q) w w' → Grew (Mut B S0 w) w w') := Lib.hid fun w' hg => hg.mono fun q _ e => by
    rcases e with e | e
    · rw [e]; exact Or.inl (LG j).own
    · exact Or.inr ⟨(h.row.lt q e).1, Lib.ownsRow_kind h.row q e⟩
  have HNo : Hid (∀ x, w.heap.size = x → ¬ S0 (x + 3) ∧ ¬ S0 (x + 2) ∧ ¬ S0 x ∧ ¬ S0 (x + 1)) := Lib.hid fun x hx => ⟨fun m => (by have := (LG j).lt _ _ _ hI m; omega), fun m => (by have := (LG j).lt _ _ _ hI m; omega), fun m => (by have := (LG j).lt _ _ _ hI m; omega), fun m => (by have := (LG j).lt _ _ _ hI m; omega)⟩
  have HLg := Lib.hid hlog
  have HO := Lib.hid hok
  have HLL := Lib.hid hL
  clear h hlog hI
  go_enter Try.func77, Try.ntmps77
  go_wp2_with fail
  refine HK.out.mono ?_
  rintro e w1 ⟨rfl, v', x, hx, hl1, hb1, hg1, hc1, hz1⟩
  have hI1 := HLg.out w1 hg1 hc1 hz1
  have HI1 := Lib.hid hI1
  have HL1 := Lib.hid hl1
  have HB1 := Lib.hid hb1
  have HG1 := Lib.hid (HM.out w1 hg1)
  have HT1 := Lib.hid ((A j).tab _ _ hI1)
  clear HLg HK HM hI1 hl1 hb1 hg1 hc1 hz1 hok hL
  go_wp2_with (at_delete; (refine wpList_tab_del (T := (tblII Try.prog)) tblII_fine HT1.out rfl _ _ rfl rfl k rfl HO.out ?_); (intro w2 hT2 hG2); (have HT2 := Lib.hid hT2); (have HG2 := Lib.hid hG2); clear hT2 hG2)
  go_end0
  have hm2 : Grew (Mut B S0 w1) w1 w2 := HG2.out.mono fun q _ e => by rw [e]; exact Or.inl (A j).own
  refine ⟨rfl, Ran.one (HL1.out.tab HT1.out (A j).ne HG2.out) ((A j).upd _ _ _ _ HI1.out HT2.out HG2.out) (fun q => goodII (A q) HLL.out s _ k (x + 3) (x + 2) x (x + 1) w2 (HB1.out.keep HG2.out HT1.out) (HNo.out x hx) HO.out (fun z hz => ⟨HT1.out.vals _ _ hz, (HT1.out.sup _ (by rw [hz]; rfl)).1⟩) (by rw [(A q).got, upF_back]; exact (A q).back _ _)) (HG1.out.thenMut hm2)⟩
set_option maxRecDepth 100000 in
/-- a Drop outside of a Try -/
theorem drop0II (B g b : Nat) (v : Value) (fs : List Step) (F : Int → Option Int) (L : List Int) (k : Int) (w : World) (h : LogAt B g 0 v fs w) (hT : Tab (tblII Try.prog) b F L w) (hok : (Lit.int .i64 k).wf = true) :
    Calls Try.prog 77 #[.pointer (some ⟨g, 0, none⟩), .map (some b), .int .i64 k] w fun e w' => e = .returned (.tuple #[]) ∧ Tab (tblII Try.prog) b (upF F k none) L w' ∧ Grew (fun q => q = b) w w' := by
  have HK := Lib.hid (keep0II B g b v fs F L k w h hT hok)
  have HT := Lib.hid hT
  have HO := Lib.hid hok
  clear h hT hok
  go_enter Try.func77, Try.ntmps77
  go_wp2_with fail
  refine HK.out.mono ?_
  rintro e w1 ⟨rfl, hg1⟩
  have HT1 := Lib.hid (HT.out.keep hg1 fun e => e)
  have HG1 := Lib.hid hg1
  clear HK HT hg1
  go_wp2_with (at_delete; (refine wpList_tab_del (T := tblII Try.prog) tblII_fine HT1.out rfl _ _ rfl rfl k rfl HO.out ?_); (intro w2 hT2 hG2); (have HT2 := Lib.hid hT2); (have HG2 := Lib.hid hG2); clear hT2 hG2)
  go_end0
  exact ⟨rfl, HT2.out, (HG1.out.mono fun _ _ e => e.elim).trans HG2.out⟩

theorem key4 (i : Nat) (hi : i < 4) : (i : Int) ∈ keys4 := by
  have : i = 0 ∨ i = 1 ∨ i = 2 ∨ i = 3 := by omega
  rcases this with rfl | rfl | rfl | rfl <;> decide
theorem wf_small (n : Int) (h0 : 0 ≤ n) (h1 : n < 1000) : (Lit.int .i64 n).wf = true := by
  have e1 : IntKind.i64.min = -9223372036854775808 := rfl
  have e2 : IntKind.i64.max = 9223372036854775807 := rfl
  simp [Lit.wf]
  omega
/-- Put of a key, at any depth -/
theorem putU (B g tb a : Nat) (s : US) (i : Nat) (hi : i < 4) (y : Int) (hy0 : 0 ≤ y) (hy : y < 1000) (d : Nat) (v : Value) (fs : List Step) (w : World) (hz : d = 0 → fs = []) (hf : fs.length < 100000) (hB : B ≤ w.heap.size) (h : UW g tb a s w) (hl : LogAt B g d v fs w) : Calls Try.prog 76 #[.pointer (some ⟨g, 0, none⟩), .map (some tb), .int .i64 (i : Int), .int .i64 y] w fun e w' => e = .returned (.tuple #[]) ∧ Ran B g d (UO g tb) (UW g tb) fs 1 a s { s with T := upF s.T i (some y) } w w' := by
  have wi := wf_small (i : Int) (by omega) (by omega)
  have wy := wf_small y hy0 hy
  cases d with
  | zero =>
    obtain rfl := hz rfl
    refine (put0II B g tb v [] s.T keys4 (by decide) i y w hl h.tab wi wy (key4 i hi)).mono ?_
    rintro e w' ⟨rfl, hT, hg⟩
    exact ⟨rfl, (Ran.out (hl.tab h.tab h.ne hg) ((uwAcc g tb a h.ne).upd _ _ _ _ h hT hg) (hg.mono fun q _ e => Or.inl (Or.inr e))).mono (Nat.zero_le _)⟩
  | succ dp => exact putA (uwLogged g tb) (fun j => uwAcc g tb j h.ne) (by decide) B dp v fs a s i y w hl hf hB h wi wy (key4 i hi) fun w' hg hc hz => h.backed hl hg hc hz
/-- Drop of a key, at any depth -/
theorem dropU (B g tb a : Nat) (s : US) (i : Nat) (hi : i < 4) (d : Nat) (v : Value) (fs : List Step) (w : World) (hz : d = 0 → fs = []) (hf : fs.length < 100000) (hB : B ≤ w.heap.size) (h : UW g tb a s w) (hl : LogAt B g d v fs w) : Calls Try.prog 77 #[.pointer (some ⟨g, 0, none⟩), .map (some tb), .int .i64 (i : Int)] w fun e w' => e = .returned (.tuple #[]) ∧ Ran B g d (UO g tb) (UW g tb) fs 1 a s { s with T := upF s.T i none } w w' := by
  have wi := wf_small (i : Int) (by omega) (by omega)
  cases d with
  | zero =>
    obtain rfl := hz rfl
    refine (drop0II B g tb v [] s.T keys4 i w hl h.tab wi).mono ?_
    rintro e w' ⟨rfl, hT, hg⟩
    exact ⟨rfl, (Ran.out (hl.tab h.tab h.ne hg) ((uwAcc g tb a h.ne).upd _ _ _ _ h hT hg) (hg.mono fun q _ e => Or.inl (Or.inr e))).mono (Nat.zero_le _)⟩
  | succ dp => exact dropA (uwLogged g tb) (fun j => uwAcc g tb j h.ne) (by decide) B dp v fs a s i w hl hf hB h wi fun w' hg hc hz => h.backed hl hg hc hz
/-- Set of a cell, at any depth -/
theorem setU (B g tb a : Nat) (s : US) (i : Nat) (hi : i < 4) (y : Int) (d : Nat) (v : Value) (fs : List Step) (w : World) (hz : d = 0 → fs = []) (hf : fs.length < 100000) (hB : B ≤ w.heap.size) (h : UW g tb a s w) (hl : LogAt B g d v fs w) : Calls Try.prog 74 #[.pointer (some ⟨g, 0, none⟩), .pointer (some ⟨g, 2 + i, none⟩), .int .i64 y] w fun e w' => e = .returned (.tuple #[]) ∧ Ran B g d (UO g tb) (UW g tb) fs 1 a s { s with c := upN s.c i y } w w' := by
  cases d with
  | zero =>
    obtain rfl := hz rfl
    exact (setU0 B g tb a s i hi y v w h hl).mono fun e w' r => ⟨r.1, r.2.mono (Nat.zero_le _)⟩
  | succ dp => exact setU1 B g tb a s i hi y dp v fs w hf hB h hl
end Go.Proofs.Ytemnkffaapljpaa
