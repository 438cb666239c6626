/-
  ExtentCosts: the law's walk.
-/
import Derived.Test.YtbohpffigmllkaaGreatDoorExtTry
import Derived.Test.YtbohpffigmllkaaGreatDoorExtAwake
import Derived.Test.YtbohpffigmllkaaGreatDoorExtRefCost
import Derived.Test.YtbohpffigmllkaaGreatDoorCut
import Derived.Deep.RegionHeld3
import Derived.BigQuiet
namespace Go.Proofs.YtbohpffigmllkaaGreatDoor
open Go.RowKit Go.Maps Go.ChangeMaps Go.WideShapes

/-- the law's text in its box, sha's variables, all that was there -/
structure LwA (w0 : World) (xd : Nat) (D : ByteArray) (W : World) : Prop where
  bd : Box xd 9 (.string D) W
  ld : Laid KK SS W
  g : Grew (fun k => w0.heap.size ≤ k) w0 W
theorem LwA.keepF {w0 : World} {xd : Nat} {D : ByteArray} {W W' : World} (h : LwA w0 xd D W) (k : Grew (fun _ => False) W W') : LwA w0 xd D W' :=
  ⟨h.bd.keep k fun e => e, h.ld.grew k (fun e => e) (fun e => e), h.g.trans (k.mono fun _ _ e => e.elim)⟩
theorem LwA.below {w0 : World} {xd : Nat} {D : ByteArray} {W W' : World} (h : LwA w0 xd D W) (k : Below W.heap.size W W') : LwA w0 xd D W' := h.keepF (Grew.of_below k)
theorem lwStart (a0 D : ByteArray) (w : World) (hL : Laid KK SS w) : LwA w w.heap.size D ((w.alloc (.cells #[.string a0] 9)).setCell ⟨w.heap.size, 0, none⟩ (.string D)) := by
  have h1 := hL.table.1
  have g : Grew (fun k => k = w.heap.size) (w.alloc (.cells #[.string a0] 9)) ((w.alloc (.cells #[.string a0] 9)).setCell ⟨w.heap.size, 0, none⟩ (.string D)) := (Grew.refl _).setCell _ _ fun _ => rfl
  exact ⟨(Box.new w _ _).set _, (hL.alloc _).grew g (by omega) (by omega), (((Grew.refl w).alloc _).mono fun _ _ e => e).trans (g.mono fun x _ e => by omega)⟩
theorem tyMk {w0 wd w3 w4 w5 : World} {xd : Nat} {D : ByteArray} {M : DiskM} {b : HB} (L : List (List UInt8)) (hw2 : 1 < w0.heap.size) (h0 : LwA w0 xd D wd) (hD : D.size ≤ 300) (hM : NewOf 20 wd M w3) (ok : b.ok) (hbf : b.f = 2) (hbn : b.n = 18) (hbd : b.d = M.d) (hI : HeapI b HS.new w4) (hL : LogAt b.B b.g 0 (.slice none 0 0) [] w4) (hg : Grew (fun _ => False) w3 w4) (hB : b.B ≤ w4.heap.size) (hfr : ∀ i, i < 6 → w3.heap.size ≤ b.blk i) (hbs : b.bs = M.bs) (hbt : b.bt = M.bt)
    (hx : StAt b (w4.heap.size + 1) w4.heap.size 8 w5) (hT : Tab (tblK Tryz.prog) w4.heap.size (fun _ => none) L w5) (g5 : Grew (fun _ => False) w4 w5) (s5 : w5.heap.size = w4.heap.size + 2) :
    TyAt w0 b (w4.heap.size + 1) w4.heap.size w5.heap.size xd D L (w5.alloc (.cells #[.pointer (some ⟨w4.heap.size + 1, 0, none⟩)] 28)) := by
  have hsz1 : wd.heap.size ≤ w3.heap.size := (hM.grew fun _ => False).size
  have hsz2 : w3.heap.size ≤ w4.heap.size := hg.size
  have hsz0 : w0.heap.size ≤ wd.heap.size := h0.g.size
  have hxd := h0.bd.lt
  have own : ∀ k, b.S0 k → wd.heap.size ≤ k := fun k hk => by
    obtain ⟨i, hi, rfl⟩ := hk
    by_cases h6 : i < 6
    · exact Nat.le_trans hsz1 (hfr i h6)
    · have h9 : i = 6 ∨ i = 7 ∨ i = 8 := by omega
      rcases h9 with rfl | rfl | rfl
      · exact hM.fresh _ (Or.inl hbd)
      · exact hM.fresh _ (Or.inr (Or.inl hbs))
      · exact hM.fresh _ (Or.inr (Or.inr hbt))
  have ga : Grew (fun _ => False) w4 (w5.alloc (.cells #[.pointer (some ⟨w4.heap.size + 1, 0, none⟩)] 28)) := g5.trans ((Grew.refl _).alloc _)
  have gb : Grew (fun _ => False) w5 (w5.alloc (.cells #[.pointer (some ⟨w4.heap.size + 1, 0, none⟩)] 28)) := (Grew.refl _).alloc _
  have hl := ((h0.keepF (hM.grew _)).keepF hg).keepF ga
  have hxs := (hx.pl (S0 := b.S0) (HB.far ok (by omega))).lt
  exact ⟨ok, hbf, hbn, fun k hk => Nat.le_trans hsz0 (own k hk), hI.keep ga (fun _ _ e => e) (fun _ _ _ e => e), hL.keep ga (fun e => e) (fun _ _ e => e), (gb.block _ hxs (fun e => e)).trans hx, hT.keep gb (fun e => e), hl.ld, Box.new _ _ _, hl.bd, hD, HB.far ok (by omega), HB.far ok (by omega), HB.far ok (by omega), fun e => by have := own _ e; omega, by omega, by omega, HB.far ok (by rw [World.size_alloc]; omega), hw2, hl.g⟩
/-- the law's box can be read, and what the law wants is there -/
def LwP (w0 : World) (xd : Nat) (D : ByteArray) (W : World) : Prop := W.cell? ⟨xd, 0, none⟩ = some (.string D) ∧ Hid (LwA w0 xd D W)
theorem lw_drewN {B : Nat} {a w : World} (h : Below B a w) (n : Nat) : Below B a (w.drewN n) := h.trans ⟨rfl, rfl, rfl, Nat.le_refl _, fun _ _ => rfl⟩
theorem LwA.p {w0 : World} {xd : Nat} {D : ByteArray} {W : World} (h : LwA w0 xd D W) : LwP w0 xd D W := ⟨h.bd.cell, Lib.hid h⟩
theorem lw_awake {w0 : World} {xd : Nat} {D : ByteArray} {W : World} (h : LwP w0 xd D W) : Calls Tryz.prog 7 #[] W fun e w' => e = .returned (.bool true) ∧ LwP w0 xd D w' :=
  (extAwake W).mono fun _ _ ⟨e, hb⟩ => ⟨e, (h.2.out.below hb).p⟩
theorem lw_zero {w0 : World} {xd : Nat} {D : ByteArray} {W : World} (hD : D.size ≤ 300) (h : LwP w0 xd D W) : Calls Tryz.prog 43 #[.string D] W fun e w' => e = .returned (.bool (allZero D.data.toList)) ∧ LwP w0 xd D w' :=
  (zero_any D W (by unfold maxLen; omega)).mono fun _ _ ⟨e, hb⟩ => ⟨e, by
    rcases hb with rfl | rfl
    · exact h
    · exact (h.2.out.keepF ((Grew.refl _).drew)).p⟩
theorem lw_refZero {w0 : World} {xd : Nat} {D : ByteArray} {W : World} (hD : D.size ≤ 300) (h : LwP w0 xd D W) : Calls Tryz.prog 15 #[.string D] W fun e w' => e = .returned (.bool (allZero D.data.toList)) ∧ LwP w0 xd D w' :=
  (refZero_any D W (by unfold maxLen; omega)).mono fun _ _ ⟨e, hb⟩ => ⟨e, by subst hb; exact h⟩
theorem lw_cost {w0 : World} {xd : Nat} {D : ByteArray} {W : World} (hD : D.size ≤ 300) (h : LwP w0 xd D W) : Calls Tryz.prog 44 #[.string D] W fun e w' => e = .returned (.int .i64 (costN D.data.toList : Nat)) ∧ LwP w0 xd D w' :=
  (cost_any D W (by omega)).mono fun _ _ ⟨e, hb⟩ => ⟨e, (h.2.out.below hb).p⟩
theorem lw_refCost {w0 : World} {xd : Nat} {D : ByteArray} {W : World} (hD : D.size ≤ 300) (h : LwP w0 xd D W) : Calls Tryz.prog 18 #[.string D] W fun e w' => e = .returned (.int .i64 (costN D.data.toList : Nat)) ∧ LwP w0 xd D w' :=
  (refCost_any D W (by omega)).mono fun _ _ ⟨e, hb⟩ => ⟨e, (h.2.out.below hb).p⟩
/-- behind the law's Try -/
def LeP (w0 : World) (b : HB) (s : HS) (xd : Nat) (D : ByteArray) (W : World) : Prop := W.cell? ⟨xd, 0, none⟩ = some (.string D) ∧ Hid (HeapI b s W ∧ Box xd 9 (.string D) W ∧ Grew (fun k => w0.heap.size ≤ k) w0 W)
theorem LeP.keepF {w0 : World} {b : HB} {s : HS} {xd : Nat} {D : ByteArray} {W W' : World} (h : LeP w0 b s xd D W) (k : Grew (fun _ => False) W W') : LeP w0 b s xd D W' := by
  obtain ⟨h1, h2, h3⟩ := h.2.out
  have hb := h2.keep k fun e => e
  exact ⟨hb.cell, Lib.hid ⟨h1.keep k (fun _ _ e => e) (fun _ _ _ e => e), hb, h3.trans (k.mono fun _ _ e => e.elim)⟩⟩
theorem le_held {w0 : World} {b : HB} {s : HS} {xd : Nat} {D : ByteArray} {W : World} (ok : b.ok) (h : LeP w0 b s xd D W) : Calls Tryz.prog 28 #[.pointer (some ⟨b.hb, 0, none⟩)] W fun e w' => e = .returned (.int .i64 (cnt s.S 1 b.n)) ∧ LeP w0 b s xd D w' :=
  (hHeld_any b ok s W h.2.out.1).mono fun _ _ ⟨e, hb⟩ => ⟨e, by subst hb; exact h⟩
theorem le_refCost {w0 : World} {b : HB} {s : HS} {xd : Nat} {D : ByteArray} {W : World} (hD : D.size ≤ 300) (h : LeP w0 b s xd D W) : Calls Tryz.prog 18 #[.string D] W fun e w' => e = .returned (.int .i64 (costN D.data.toList : Nat)) ∧ LeP w0 b s xd D w' :=
  (refCost_any D W (by omega)).mono fun _ _ ⟨e, hb⟩ => ⟨e, h.keepF (Grew.of_below hb)⟩
theorem tyAny {w0 : World} {b : HB} {xs kb xt xd : Nat} {D : ByteArray} {L : List (List UInt8)} {W : World} (h : TyAt w0 b xs kb xt xd D L W) (hL : L = [txt (headF (Sha.dg (shaOf D.data.toList)) 8)]) :
    Calls Tryz.prog 12 #[.pointer (some ⟨b.hb, 0, none⟩), .func (.func 45) #[] #[.pointer (some ⟨xt, 0, none⟩), .pointer (some ⟨xd, 0, none⟩)]] W fun e w' => e = .returned (.int .i64 (if D.size = 256 then 0 else 4)) ∧ TyEnd w0 b xd D w' := by
  by_cases hD : D.size = 256
  · rw [if_pos hD]
    cases hz : allZero D.data.toList with
    | true => exact tyZero h hD hz
    | false => exact tyNew h hD hz hL
  · rw [if_neg hD]
    exact tyLen h hD
set_option maxRecDepth 100000 in
set_option maxHeartbeats 4000000 in
theorem extentCosts_walk (a0 : ByteArray) (hm : a0.size ≤ maxLen) (w : World) (hL : Laid KK SS w) :
    Calls Tryz.prog 5 #[.string a0] w fun e w' => e = .returned (.bool true) ∧ Below w.heap.size w w' := by
  have hmf : ∀ (fn : Fn) (first cap : Array Value) (w : World), (Instr.makeFunc fn first cap).run Tryz.prog w = .ok (.func fn first cap) w := fun _ _ _ _ => rfl
  have hw2 := hL.table.1
  obtain ⟨D, hDs, hC⟩ := cut_law a0 300 hm (by decide)
  have HCut := Lib.hid hC
  have HSt := Lib.hid (lwStart a0 D w hL)
  have hc0 : (w.alloc (.cells #[.string a0] 9)).cell? ⟨w.heap.size, 0, none⟩ = some (.string a0) := (Box.new w _ _).cell
  have hc1 : (w.alloc (.cells #[.string a0] 9)).frozen? ⟨w.heap.size, 0, none⟩ = false := (Box.new w _ _).free
  obtain ⟨W1, hW1⟩ : ∃ W1, w.alloc (.cells #[.string a0] 9) = W1 := ⟨_, rfl⟩
  rw [hW1] at HSt hc0 hc1
  clear hL hC hm
  go_enter Tryz.func5, Tryz.ntmps5
  go_wp2_with fail
  refine (HCut.out _).mono ?_
  rintro e w1 ⟨rfl, rfl⟩
  go_wp2_with fail
  obtain ⟨W2, hW2⟩ : ∃ W2, W1.setCell ⟨w.heap.size, 0, none⟩ (.string D) = W2 := ⟨_, rfl⟩
  rw [hW2] at HSt
  simp only [hW2]
  have HP0 : Hid (LwP w w.heap.size D W2.drew) := Lib.hid (HSt.out.keepF (Grew.refl _).drew).p
  have HAw := Lib.hid fun wx (h : LwP w w.heap.size D wx) => lw_awake h
  have HZe := Lib.hid fun wx (h : LwP w w.heap.size D wx) => lw_zero hDs h
  have HZr := Lib.hid fun wx (h : LwP w w.heap.size D wx) => lw_refZero hDs h
  have HCo := Lib.hid fun wx (h : LwP w w.heap.size D wx) => lw_cost hDs h
  have HCr := Lib.hid fun wx (h : LwP w w.heap.size D wx) => lw_refCost hDs h
  have HDs := Lib.hid hDs
  obtain ⟨z, hz⟩ : ∃ z, allZero D.data.toList = z := ⟨_, rfl⟩
  obtain ⟨C, hC⟩ : ∃ C, costN D.data.toList = C := ⟨_, rfl⟩
  rw [hz] at HZe HZr
  rw [hC] at HCo HCr
  have HzE := Lib.hid hz
  have HcE := Lib.hid hC
  clear hW2 hc0 hc1 hW1 HSt hz hC hDs HCut
  unfold LwP at *
  have hn0 : (!z == z) = false := by cases z <;> rfl
  go_region_held3 (fun wx => wx.cell? ⟨w.heap.size, 0, none⟩ = some (.string D) ∧ Hid (LwA w w.heap.size D wx)) (first | assumption | exact HP0.out) (first
    | (go_at_call 7; refine (HAw.out _ (by assumption)).mono ?_; rintro e w' ⟨rfl, hS'⟩)
    | (go_at_call 43; refine (HZe.out _ (by assumption)).mono ?_; rintro e w' ⟨rfl, hS'⟩)
    | (go_at_call 15; refine (HZr.out _ (by assumption)).mono ?_; rintro e w' ⟨rfl, hS'⟩)
    | (go_at_call 44; refine (HCo.out _ (by assumption)).mono ?_; rintro e w' ⟨rfl, hS'⟩)
    | (go_at_call 18; refine (HCr.out _ (by assumption)).mono ?_; rintro e w' ⟨rfl, hS'⟩))
  have HS3 := Lib.hid hS'.2.out
  clear hn0 HAw HZe HZr HCo HCr HzE HP0
  clear hS'
  go_wp2_with fail
  refine (new_any 20 _).mono ?_
  rintro e w3 ⟨M, rfl, hM⟩
  have hn : M.n = 2 + 18 ∧ M.armed = false ∧ M.dead = false ∧ M.left ≤ 2 ^ 62 := by
    obtain ⟨d, bs, bt, e⟩ := hM.is
    rw [e]
    exact ⟨by show diskLen 20 = 20; decide, rfl, rfl, by show (0 : Int) ≤ 2 ^ 62; decide⟩
  have HNew := Lib.hid (hNewT_any M 2 18 w3 (by decide) (by decide) hM.at' hn.1 hn.2.1 hn.2.2.1 hn.2.2.2)
  have HM := Lib.hid hM
  clear hM hn
  go_wp2_with fail
  refine HNew.out.mono ?_
  rintro e w4 ⟨b, rfl, ok, hbf, hbn, hbd, hI, hL, hg, hB, hfr, hbs, hbt, _⟩
  have HTy := Lib.hid fun w5 hx hT g5 s5 => tyMk (w5 := w5) [txt (headF (Sha.dg (shaOf D.data.toList)) 8)] hw2 HS3.out HDs.out HM.out ok hbf hbn hbd hI hL hg hB hfr hbs hbt hx hT g5 s5
  clear ok hbf hbn hbd hI hL hg hB hfr hbs hbt HM HNew HS3
  go_wp2_with fail
  refine (eNew_any b [txt (headF (Sha.dg (shaOf D.data.toList)) 8)] w4).mono ?_
  rintro e w5 ⟨rfl, hx, hT, g5, s5⟩
  have HT := Lib.hid (tyAny (HTy.out w5 hx hT g5 s5) rfl)
  clear hx hT g5 s5 HTy
  go_wp2_with fail
  refine HT.out.mono ?_
  rintro e w6 ⟨rfl, hend⟩
  obtain ⟨b', s', hhb, ok', hI', hcnt⟩ := hend.st
  have HP0 : Hid (LeP w b' s' w.heap.size D w6.drew) := Lib.hid (LeP.keepF ⟨hend.bd.cell, Lib.hid ⟨hI', hend.bd, hend.g⟩⟩ (Grew.refl _).drew)
  have HHe := Lib.hid fun wx (h : LeP w b' s' w.heap.size D wx) => le_held ok' h
  have HCr := Lib.hid fun wx (h : LeP w b' s' w.heap.size D wx) => le_refCost HDs.out h
  rw [hhb] at HHe
  rw [HcE.out] at HCr
  rw [HcE.out] at hcnt
  have HG6 := Lib.hid hend.g
  clear hend HT ok' hI' hhb hw2 HcE HDs
  unfold LeP at HP0 HHe HCr
  by_cases h256 : D.size = 256
  · have h1 : (D.size : Int) = 256 := by omega
    rw [if_pos h256]
    rw [hcnt h256] at HHe
    clear hcnt h256
    go_wp2_with fail
    go_region_held3 (fun wx => wx.cell? ⟨w.heap.size, 0, none⟩ = some (.string D) ∧ Hid (HeapI b' s' wx ∧ Box w.heap.size 9 (.string D) wx ∧ Grew (fun k => w.heap.size ≤ k) w wx)) (first | assumption | exact HP0.out) (first
      | (go_at_call 28; refine (HHe.out _ (by assumption)).mono ?_; rintro e w' ⟨rfl, hS'⟩)
      | (go_at_call 18; refine (HCr.out _ (by assumption)).mono ?_; rintro e w' ⟨rfl, hS'⟩))
    have HS8 := Lib.hid hS'.2.out.2.2
    clear hS'
    go_wp2_with fail
    go_ret
    exact ⟨rfl, HS8.out.below (Below.refl _ w) (Nat.le_refl _) fun _ e => e⟩
  · have h0 : ¬ (D.size : Int) = 256 := by omega
    have h1 : ((D.size : Int) == 256) = false := by simpa using h0
    have h2 : ((D.size : Int) != 256) = true := by simpa using h0
    rw [if_neg h256]
    clear hcnt h256 h0
    go_wp2_with fail
    have hcl : w6.cell? ⟨w.heap.size, 0, none⟩ = some (.string D) := HP0.out.1
    go_quiet (fail)
    go_wp2_with fail
    go_ret
    exact ⟨rfl, lw_drewN (HG6.out.below (Below.refl _ w) (Nat.le_refl _) fun _ e => e) _⟩
end Go.Proofs.YtbohpffigmllkaaGreatDoor
