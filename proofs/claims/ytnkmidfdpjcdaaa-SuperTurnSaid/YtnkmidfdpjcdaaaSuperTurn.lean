/-
  SuperTurn: for every three supers and every cut the law answers true.
-/
import Derived.Test.YtnkmidfdpjcdaaaSuperTurnA
import Derived.BigRegion
namespace Go.Proofs.Ytnkmidfdpjcdaaa
open Go.RowKit

set_option maxRecDepth 100000 in
set_option maxHeartbeats 20000000 in
theorem superTurn_walk (x0 x1 x2 x3 x4 y0 y1 y2 y3 y4 z0 z1 z2 z3 z4 cut : Int) (w : World) :
    Calls Try.prog 7 #[.agg #[.int .i64 x0, .int .i64 x1, .int .i64 x2, .int .i64 x3, .int .i64 x4], .agg #[.int .i64 y0, .int .i64 y1, .int .i64 y2, .int .i64 y3, .int .i64 y4], .int .i64 cut, .agg #[.int .i64 z0, .int .i64 z1, .int .i64 z2, .int .i64 z3, .int .i64 z4]] w fun e w' => e = .returned (.bool true) ∧ Below w.heap.size w w' := by
  obtain ⟨s, hs, hfs⟩ := supFew_any x0 x1 x2 x3 x4
  obtain ⟨t, ht, hft⟩ := supFew_any y0 y1 y2 y3 y4
  obtain ⟨u, hu, hfu⟩ := supFew_any z0 z1 z2 z3 z4
  have HFs := Lib.hid hfs
  have HFt := Lib.hid hft
  have HFu := Lib.hid hfu
  have HS := Lib.hid (And.intro hs (And.intro ht hu))
  clear hfs hft hfu hs ht hu
  obtain ⟨es, js, bs, ps, ns⟩ := s
  obtain ⟨et, jt, bt, pt, nt⟩ := t
  obtain ⟨eu, ju, bu, pu, nu⟩ := u
  dsimp only [Sup.refCells] at HFs HFt HFu
  have HT0 := Lib.hid (triNew w (refBox x0 x1 x2 x3 x4) (refBox y0 y1 y2 y3 y4) (refBox z0 z1 z2 z3 z4))
  go_enter Try.func7, Try.ntmps7
  go_wp2_with fail
  generalize ((w.alloc (refBox x0 x1 x2 x3 x4)).alloc (refBox y0 y1 y2 y3 y4)).alloc (refBox z0 z1 z2 z3 z4) = W at *
  generalize w.heap.size + 1 + 1 = b2 at *
  generalize w.heap.size + 1 = b1 at *
  obtain ⟨b0, hb0⟩ : ∃ b, w.heap.size = b := ⟨_, rfl⟩
  have HTq : Hid (Tri w b0 b1 b2 (refBox x0 x1 x2 x3 x4) (refBox y0 y1 y2 y3 y4) (refBox z0 z1 z2 z3 z4) W) := Lib.hid (by rw [← hb0]; exact HT0.out)
  have HBq := Lib.hid hb0
  rw [hb0]
  clear hb0 HT0
  refine (supAwake W).mono ?_
  rintro e w1 ⟨rfl, hb1⟩
  have HT1 := Lib.hid (HTq.out.step hb1).drew
  clear hb1 HTq
  go_upto_region 3 with fail
  go_cut [] (fun wx => Tri w b0 b1 b2 (refBox es js bs ps ns) (refBox et jt bt pt nt) (refBox eu ju bu pu nu) wx)
  case first =>
    have hHeld := HT1.out.cells
    refine HeldTill.start (S := fun wx => (wx.cell? ⟨b0, 0, none⟩ = some (.int .i64 x0) ∧ wx.cell? ⟨b0, 1, none⟩ = some (.int .i64 x1) ∧ wx.cell? ⟨b0, 2, none⟩ = some (.int .i64 x2) ∧ wx.cell? ⟨b0, 3, none⟩ = some (.int .i64 x3) ∧ wx.cell? ⟨b0, 4, none⟩ = some (.int .i64 x4)) ∧ (wx.cell? ⟨b1, 0, none⟩ = some (.int .i64 y0) ∧ wx.cell? ⟨b1, 1, none⟩ = some (.int .i64 y1) ∧ wx.cell? ⟨b1, 2, none⟩ = some (.int .i64 y2) ∧ wx.cell? ⟨b1, 3, none⟩ = some (.int .i64 y3) ∧ wx.cell? ⟨b1, 4, none⟩ = some (.int .i64 y4)) ∧ (wx.cell? ⟨b2, 0, none⟩ = some (.int .i64 z0) ∧ wx.cell? ⟨b2, 1, none⟩ = some (.int .i64 z1) ∧ wx.cell? ⟨b2, 2, none⟩ = some (.int .i64 z2) ∧ wx.cell? ⟨b2, 3, none⟩ = some (.int .i64 z3) ∧ wx.cell? ⟨b2, 4, none⟩ = some (.int .i64 z4))) (s := 6) (by kernel_rfl) ?_
    skip
    refine HeldTill.take (i := 0) (oi := { dst := some 18, op := Op.load 47 (Operand.tmp 4), type := 47, pos := "law.go:102", after := #[], guard := none }) (v := ?_) rfl (by kernel_rfl) (by kernel_rfl) (by kernel_rfl) [1, 6] (by kernel_rfl) (by kernel_rfl) (by kernel_rfl) (fun _ _ _ h => h) (Or.inl ⟨by rfl, ?_⟩) hHeld ?_
    rotate_left
    · (intro wz hSw; (try dsimp only at hSw); go_simp; try with_reducible rfl)
    try simp only [Act.put, List.setIfInBounds_toArray, List.set_cons_zero, List.set_cons_succ]
    refine HeldTill.take (i := 2) (oi := { dst := some 20, op := Op.load 47 (Operand.tmp 5), type := 47, pos := "law.go:102", after := #[], guard := none }) (v := ?_) rfl (by kernel_rfl) (by kernel_rfl) (by kernel_rfl) [3, 5, 6] (by kernel_rfl) (by kernel_rfl) (by kernel_rfl) (fun _ _ _ h => h) (Or.inl ⟨by rfl, ?_⟩) hHeld ?_
    rotate_left
    · (intro wz hSw; (try dsimp only at hSw); go_simp; try with_reducible rfl)
    try simp only [Act.put, List.setIfInBounds_toArray, List.set_cons_zero, List.set_cons_succ]
    refine HeldTill.take (i := 4) (oi := { dst := some 22, op := Op.load 47 (Operand.tmp 7), type := 47, pos := "law.go:102", after := #[], guard := none }) (v := ?_) rfl (by kernel_rfl) (by kernel_rfl) (by kernel_rfl) [5, 6] (by kernel_rfl) (by kernel_rfl) (by kernel_rfl) (fun _ _ _ h => h) (Or.inl ⟨by rfl, ?_⟩) hHeld ?_
    rotate_left
    · (intro wz hSw; (try dsimp only at hSw); go_simp; try with_reducible rfl)
    try simp only [Act.put, List.setIfInBounds_toArray, List.set_cons_zero, List.set_cons_succ]
    clear hHeld
    refine HeldTill.next (i := 1) (o := { dst := some 19, op := Op.call { callee := Callee.value (Operand.func 22), args := #[Operand.tmp 18], argTypes := #[47] }, type := 47, pos := "law.go:102", after := #[{ on := 0, ground := Ground.data }], guard := none }) (by kernel_rfl) rfl (fun K hK => ?_)
    go_simp
    refine (HFs.out _).mono ?_
    rintro e wa ⟨rfl, hb⟩
    have HTa := Lib.hid (HT1.out.step hb)
    clear hb
    try go_wp2_with fail
    refine hK.out _ _ (fun _ => HTa.out.cells) ?_
    clear hK K
    try simp only [Act.put, List.setIfInBounds_toArray, List.set_cons_zero, List.set_cons_succ]
    refine HeldTill.next (i := 3) (o := { dst := some 21, op := Op.call { callee := Callee.value (Operand.func 22), args := #[Operand.tmp 20], argTypes := #[47] }, type := 47, pos := "law.go:102", after := #[{ on := 2, ground := Ground.data }, { on := 1, ground := Ground.chain }], guard := none }) (by kernel_rfl) rfl (fun K hK => ?_)
    go_simp
    refine (HFt.out _).mono ?_
    rintro e wb ⟨rfl, hb⟩
    have HTb := Lib.hid (HTa.out.step hb)
    clear hb
    try go_wp2_with fail
    refine hK.out _ _ (fun _ => HTb.out.cells) ?_
    clear hK K
    try simp only [Act.put, List.setIfInBounds_toArray, List.set_cons_zero, List.set_cons_succ]
    refine HeldTill.next (i := 5) (o := { dst := some 23, op := Op.call { callee := Callee.value (Operand.func 22), args := #[Operand.tmp 22], argTypes := #[47] }, type := 47, pos := "law.go:102", after := #[{ on := 4, ground := Ground.data }, { on := 3, ground := Ground.chain }], guard := none }) (by kernel_rfl) rfl (fun K hK => ?_)
    go_simp
    refine (HFu.out _).mono ?_
    rintro e wd ⟨rfl, hb⟩
    have HTd := Lib.hid (HTb.out.step hb)
    clear hb
    try go_wp2_with fail
    refine hK.out _ _ (fun _ => HTd.out.cells) ?_
    clear hK K
    try simp only [Act.put, List.setIfInBounds_toArray, List.set_cons_zero, List.set_cons_succ]
    obtain ⟨⟨k0, k1, k2, k3, k4⟩, g0, g1, g2, g3, g4⟩ := zero_cells HTd.out.x
    have HTf : Hid (Tri w b0 b1 b2 (refBox es js bs ps ns) (refBox y0 y1 y2 y3 y4) (refBox z0 z1 z2 z3 z4) (((((wd.setCell ⟨b0, 0, none⟩ (.int .i64 (es : Int))).setCell ⟨b0, 1, none⟩ (.int .i64 (js : Int))).setCell ⟨b0, 2, none⟩ (.int .i64 (bs : Int))).setCell ⟨b0, 3, none⟩ (.int .i64 (ps : Int))).setCell ⟨b0, 4, none⟩ (.int .i64 (ns : Int)))) := Lib.hid (HTd.out.setx (es : Int) (js : Int) (bs : Int) (ps : Int) (ns : Int))
    refine HeldTill.next (i := 6) (o := { dst := none, op := Op.store 47 (Operand.tmp 4) (Operand.tmp 19), type := 0, pos := "law.go:102", after := #[{ on := 1, ground := Ground.data }, { on := 5, ground := Ground.chain }, { on := 0, ground := Ground.phase }, { on := 1, ground := Ground.phase }, { on := 2, ground := Ground.textOnly Departure.lateStores }, { on := 3, ground := Ground.textOnly Departure.lateStoresUnsure }, { on := 4, ground := Ground.textOnly Departure.lateStores }, { on := 5, ground := Ground.textOnly Departure.lateStoresUnsure }], guard := none }) (by kernel_rfl) rfl (fun K hK => ?_)
    go_simp
    refine hK.out _ _ (fun h => absurd h (by decide)) ?_
    clear hK K
    try simp only [Act.put, List.setIfInBounds_toArray, List.set_cons_zero, List.set_cons_succ]
    clear k0 k1 k2 k3 k4 g0 g1 g2 g3 g4
    generalize (((((wd.setCell ⟨b0, 0, none⟩ (.int .i64 (es : Int))).setCell ⟨b0, 1, none⟩ (.int .i64 (js : Int))).setCell ⟨b0, 2, none⟩ (.int .i64 (bs : Int))).setCell ⟨b0, 3, none⟩ (.int .i64 (ps : Int))).setCell ⟨b0, 4, none⟩ (.int .i64 (ns : Int))) = wf at *
    obtain ⟨⟨k0, k1, k2, k3, k4⟩, g0, g1, g2, g3, g4⟩ := zero_cells HTf.out.y
    have HTg : Hid (Tri w b0 b1 b2 (refBox es js bs ps ns) (refBox et jt bt pt nt) (refBox z0 z1 z2 z3 z4) (((((wf.setCell ⟨b1, 0, none⟩ (.int .i64 (et : Int))).setCell ⟨b1, 1, none⟩ (.int .i64 (jt : Int))).setCell ⟨b1, 2, none⟩ (.int .i64 (bt : Int))).setCell ⟨b1, 3, none⟩ (.int .i64 (pt : Int))).setCell ⟨b1, 4, none⟩ (.int .i64 (nt : Int)))) := Lib.hid (HTf.out.sety (et : Int) (jt : Int) (bt : Int) (pt : Int) (nt : Int))
    refine HeldTill.next (i := 7) (o := { dst := none, op := Op.store 47 (Operand.tmp 5) (Operand.tmp 21), type := 0, pos := "law.go:102", after := #[{ on := 3, ground := Ground.data }, { on := 6, ground := Ground.chain }, { on := 0, ground := Ground.phase }, { on := 1, ground := Ground.phase }, { on := 2, ground := Ground.phase }, { on := 3, ground := Ground.phase }, { on := 4, ground := Ground.textOnly Departure.lateStores }, { on := 5, ground := Ground.textOnly Departure.lateStoresUnsure }, { on := 6, ground := Ground.phase }], guard := none }) (by kernel_rfl) rfl (fun K hK => ?_)
    go_simp
    refine hK.out _ _ (fun h => absurd h (by decide)) ?_
    clear hK K
    try simp only [Act.put, List.setIfInBounds_toArray, List.set_cons_zero, List.set_cons_succ]
    clear k0 k1 k2 k3 k4 g0 g1 g2 g3 g4
    generalize (((((wf.setCell ⟨b1, 0, none⟩ (.int .i64 (et : Int))).setCell ⟨b1, 1, none⟩ (.int .i64 (jt : Int))).setCell ⟨b1, 2, none⟩ (.int .i64 (bt : Int))).setCell ⟨b1, 3, none⟩ (.int .i64 (pt : Int))).setCell ⟨b1, 4, none⟩ (.int .i64 (nt : Int))) = wg at *
    obtain ⟨⟨k0, k1, k2, k3, k4⟩, g0, g1, g2, g3, g4⟩ := zero_cells HTg.out.z
    have HTh : Hid (Tri w b0 b1 b2 (refBox es js bs ps ns) (refBox et jt bt pt nt) (refBox eu ju bu pu nu) (((((wg.setCell ⟨b2, 0, none⟩ (.int .i64 (eu : Int))).setCell ⟨b2, 1, none⟩ (.int .i64 (ju : Int))).setCell ⟨b2, 2, none⟩ (.int .i64 (bu : Int))).setCell ⟨b2, 3, none⟩ (.int .i64 (pu : Int))).setCell ⟨b2, 4, none⟩ (.int .i64 (nu : Int)))) := Lib.hid (HTg.out.setz (eu : Int) (ju : Int) (bu : Int) (pu : Int) (nu : Int))
    refine HeldTill.next (i := 8) (o := { dst := none, op := Op.store 47 (Operand.tmp 7) (Operand.tmp 23), type := 0, pos := "law.go:102", after := #[{ on := 5, ground := Ground.data }, { on := 7, ground := Ground.chain }, { on := 0, ground := Ground.phase }, { on := 1, ground := Ground.phase }, { on := 2, ground := Ground.phase }, { on := 3, ground := Ground.phase }, { on := 4, ground := Ground.phase }, { on := 5, ground := Ground.phase }, { on := 6, ground := Ground.phase }, { on := 7, ground := Ground.phase }], guard := none }) (by kernel_rfl) rfl (fun K hK => ?_)
    go_simp
    refine hK.out _ _ (fun h => absurd h (by decide)) ?_
    clear hK K
    try simp only [Act.put, List.setIfInBounds_toArray, List.set_cons_zero, List.set_cons_succ]
    clear k0 k1 k2 k3 k4 g0 g1 g2 g3 g4
    generalize (((((wg.setCell ⟨b2, 0, none⟩ (.int .i64 (eu : Int))).setCell ⟨b2, 1, none⟩ (.int .i64 (ju : Int))).setCell ⟨b2, 2, none⟩ (.int .i64 (bu : Int))).setCell ⟨b2, 3, none⟩ (.int .i64 (pu : Int))).setCell ⟨b2, 4, none⟩ (.int .i64 (nu : Int))) = wh at *
    refine HeldTill.done (by kernel_rfl) ?_ _
    go_wp2_with fail
    go_meet
    exact HTh.out
  case rest =>
    have HT2 := Lib.hid hcut
    clear hcut HT1 HFs HFt HFu
    obtain ⟨p, hpm', hp⟩ := maskN (es : Int) 16777215 (by decide)
    have hpm : bits .and .i64 (es : Int) 16777215 = (p : Int) := hpm'
    obtain ⟨ex, hex⟩ : ∃ ex : Nat, 2 + (p : Int) = (ex : Int) := ⟨2 + p, by omega⟩
    obtain ⟨ey, hey⟩ : ∃ ey : Nat, (ex : Int) + 1 = (ey : Int) := ⟨ex + 1, by omega⟩
    obtain ⟨eo, heo⟩ : ∃ eo : Nat, (ex : Int) - 1 = (eo : Int) := ⟨ex - 1, by omega⟩
    have HE : Hid (ex = eo + 1 ∧ ey = ex + 1 ∧ ey < 16777300) := Lib.hid (by omega)
    have hp2 : (p : Int) ≤ 16777215 := by omega
    have hx2 : (ex : Int) ≤ 16777217 := by omega
    clear hpm' hp
    obtain ⟨⟨k0, k1, k2, k3, k4⟩, g0, g1, g2, g3, g4⟩ := zero_cells HT2.out.x
    have HT3 := Lib.hid (HT2.out.set0x (ex : Int))
    go_upto_region 5 with fail
    generalize wc.setCell ⟨b0, 0, none⟩ (.int .i64 (ex : Int)) = w3 at *
    clear k0 k1 k2 k3 k4 g0 g1 g2 g3 g4 HT2 hpm hex hp2
    obtain ⟨⟨k0, k1, k2, k3, k4⟩, g0, g1, g2, g3, g4⟩ := zero_cells HT3.out.x
    obtain ⟨⟨l0, l1, l2, l3, l4⟩, i0, i1, i2, i3, i4⟩ := zero_cells HT3.out.y
    obtain ⟨⟨m0, m1, m2, m3, m4⟩, o0, o1, o2, o3, o4⟩ := zero_cells HT3.out.z
    have HT4 := Lib.hid ((HT3.out.set0y (ey : Int)).set0z (eo : Int)).drew
    have hne : b1 ≠ b2 := by have := HT3.out.h2; omega
    have hne1 : b0 ≠ b1 := by have := HT3.out.h1; omega
    have hne2 : b1 ≠ b0 := by have := HT3.out.h1; omega
    have hne3 : b2 ≠ b1 := by have := HT3.out.h2; omega
    have hne4 : b0 ≠ b2 := by have := HT3.out.h1; have := HT3.out.h2; omega
    have hne5 : b2 ≠ b0 := by have := HT3.out.h1; have := HT3.out.h2; omega
    have hy3 : (ey : Int) ≤ 16777218 := by omega
    have ho3 : (eo : Int) ≤ 16777218 := by omega
    go_region
    generalize ((w3.setCell ⟨b1, 0, none⟩ (.int .i64 (ey : Int))).setCell ⟨b2, 0, none⟩ (.int .i64 (eo : Int))).drew = w4 at *
    clear k0 k1 k2 k3 k4 g0 g1 g2 g3 g4 l0 l1 l2 l3 l4 i0 i1 i2 i3 i4 m0 m1 m2 m3 m4 o0 o1 o2 o3 o4 HT3 hne hne1 hne2 hne3 hne4 hne5 hey heo hx2 hy3 ho3
    obtain ⟨Cx, hCx⟩ : ∃ C, (⟨ex, js, bs, ps, ns⟩ : Sup).check 1000 = C := ⟨_, rfl⟩
    obtain ⟨Cy, hCy⟩ : ∃ C, (⟨ey, jt, bt, pt, nt⟩ : Sup).check 1000 = C := ⟨_, rfl⟩
    obtain ⟨Co, hCo⟩ : ∃ C, (⟨eo, ju, bu, pu, nu⟩ : Sup).check 1000 = C := ⟨_, rfl⟩
    have HF : Hid ((⟨ex, js, bs, ps, ns⟩ : Sup).fits ∧ (⟨ey, jt, bt, pt, nt⟩ : Sup).fits ∧ (⟨eo, ju, bu, pu, nu⟩ : Sup).fits) := Lib.hid (by
      obtain ⟨h1, h2, h3⟩ := HS.out
      have := HE.out
      exact ⟨⟨by show ex < _; omega, h1.j, h1.b, h1.h, h1.nx⟩, ⟨by show ey < _; omega, h2.j, h2.b, h2.h, h2.nx⟩, ⟨by show eo < _; omega, h3.j, h3.b, h3.h, h3.nx⟩⟩)
    have HCx : Hid (∀ wx : World, Calls Try.prog 24 #[.agg #[.int .i64 ex, .int .i64 js, .int .i64 bs, .int .i64 ps, .int .i64 ns], .int .i64 1000] wx fun e w' => e = .returned (.int .i64 (Cx : Nat)) ∧ Below wx.heap.size wx w') := Lib.hid fun wx => by
      have := refCheck_any ⟨ex, js, bs, ps, ns⟩ HF.out.1 1000 (by decide) wx
      rw [hCx] at this
      exact this
    have HCy : Hid (∀ wx : World, Calls Try.prog 24 #[.agg #[.int .i64 ey, .int .i64 jt, .int .i64 bt, .int .i64 pt, .int .i64 nt], .int .i64 1000] wx fun e w' => e = .returned (.int .i64 (Cy : Nat)) ∧ Below wx.heap.size wx w') := Lib.hid fun wx => by
      have := refCheck_any ⟨ey, jt, bt, pt, nt⟩ HF.out.2.1 1000 (by decide) wx
      rw [hCy] at this
      exact this
    have HCo : Hid (∀ wx : World, Calls Try.prog 24 #[.agg #[.int .i64 eo, .int .i64 ju, .int .i64 bu, .int .i64 pu, .int .i64 nu], .int .i64 1000] wx fun e w' => e = .returned (.int .i64 (Co : Nat)) ∧ Below wx.heap.size wx w') := Lib.hid fun wx => by
      have := refCheck_any ⟨eo, ju, bu, pu, nu⟩ HF.out.2.2 1000 (by decide) wx
      rw [hCo] at this
      exact this
    have HCs := Lib.hid (And.intro hCx (And.intro hCy hCo))
    clear hCx hCy hCo HS
    obtain ⟨k0, k1, k2, k3, k4⟩ := fiveAt HT4.out.x
    go_wp2_with fail
    refine (HCx.out _).mono ?_
    rintro e w5 ⟨rfl, hb5⟩
    have HT5 := Lib.hid (HT4.out.step hb5)
    clear hb5 HT4 k0 k1 k2 k3 k4 HCx
    by_cases hc : Cx = 0
    rotate_left
    · have q1 : ((Cx : Int) != 0) = true := by simp; omega
      go_wp2_with fail
      go_ret
      exact ⟨rfl, HT5.out.below⟩
    subst hc
    obtain ⟨k0, k1, k2, k3, k4⟩ := fiveAt HT5.out.y
    go_wp2_with fail
    refine (HCy.out _).mono ?_
    rintro e w6 ⟨rfl, hb6⟩
    have HT6 := Lib.hid (HT5.out.step hb6)
    clear hb6 HT5 k0 k1 k2 k3 k4 HCy
    by_cases hc : Cy = 0
    rotate_left
    · have q1 : ((Cy : Int) != 0) = true := by simp; omega
      go_wp2_with fail
      go_ret
      exact ⟨rfl, HT6.out.below⟩
    subst hc
    obtain ⟨k0, k1, k2, k3, k4⟩ := fiveAt HT6.out.z
    go_wp2_with fail
    refine (HCo.out _).mono ?_
    rintro e w7 ⟨rfl, hb7⟩
    have HT7 := Lib.hid (HT6.out.step hb7)
    clear hb7 HT6 k0 k1 k2 k3 k4 HCo
    by_cases hc : Co = 0
    rotate_left
    · have q1 : ((Co : Int) != 0) = true := by simp; omega
      go_wp2_with fail
      go_ret
      exact ⟨rfl, HT7.out.below⟩
    subst hc
    have HTS : Hid (TurnS ⟨ex, js, bs, ps, ns⟩ ⟨ey, jt, bt, pt, nt⟩ ⟨eo, ju, bu, pu, nu⟩) := Lib.hid ⟨HF.out.1, HF.out.2.1, HF.out.2.2, HCs.out.1, HCs.out.2.1, HCs.out.2.2, HE.out.1, HE.out.2.1⟩
    clear HF HCs HE
    go_wp2_with fail
    refine (new_any 1000 w7).mono ?_
    rintro e w8 ⟨m, rfl, hM⟩
    obtain ⟨d, bs', bt', hm⟩ := hM.is
    rw [show diskLen 1000 = 1000 from rfl] at hm
    have HT8 := Lib.hid (HT7.out.grew (hM.grew fun _ => False) fun _ e => e.elim)
    have HO : Hid (∀ k, m.own k → b2 < k) := Lib.hid fun k hk => by have := hM.fresh k hk; have := HT7.out.z.lt; omega
    have HD8 := Lib.hid hM.at'
    have hL : m.Live := by rw [hm]; exact live_new _ _ _ _
    have hnn : m.n = 1000 := by rw [hm]; rfl
    obtain ⟨q, hq⟩ : ∃ q, m.d = q := ⟨_, rfl⟩
    rw [hq]
    have HOwo : Hid (∀ wx : World, Calls Try.prog 23 #[.agg #[.int .i64 eo, .int .i64 ju, .int .i64 bu, .int .i64 pu, .int .i64 nu]] wx fun e w' => e = .returned (.agg #[.int .u32 eo, .int .i64 ju, .int .i64 bu, .int .i64 pu, .int .u32 nu]) ∧ Below wx.heap.size wx w') := Lib.hid fun wx => own_any ⟨eo, ju, bu, pu, nu⟩ HTS.out.fo wx
    have HOwx : Hid (∀ wx : World, Calls Try.prog 23 #[.agg #[.int .i64 ex, .int .i64 js, .int .i64 bs, .int .i64 ps, .int .i64 ns]] wx fun e w' => e = .returned (.agg #[.int .u32 ex, .int .i64 js, .int .i64 bs, .int .i64 ps, .int .u32 ns]) ∧ Below wx.heap.size wx w') := Lib.hid fun wx => own_any ⟨ex, js, bs, ps, ns⟩ HTS.out.fx wx
    have HOwy : Hid (∀ wx : World, Calls Try.prog 23 #[.agg #[.int .i64 ey, .int .i64 jt, .int .i64 bt, .int .i64 pt, .int .i64 nt]] wx fun e w' => e = .returned (.agg #[.int .u32 ey, .int .i64 jt, .int .i64 bt, .int .i64 pt, .int .u32 nt]) ∧ Below wx.heap.size wx w') := Lib.hid fun wx => own_any ⟨ey, jt, bt, pt, nt⟩ HTS.out.fy wx
    have HDW : Hid (∀ (s : Sup) (M : DiskM), s.fits → s.check 1000 = 0 → M.d = q → M.n = 1000 → M.Live → (∀ wx, DiskAt M wx → Calls Try.prog 25 #[.pointer (some ⟨q, 0, none⟩), .agg s.cells] wx fun e w' => e = .returned (.int .i64 0) ∧ DiskAt (M.wrote (s.ep % 2) (txtf s.frame)) w' ∧ Grew M.own wx w')) := Lib.hid fun s M hs hc hd hn hl wx hw => by
      have := lawSupWrite_any s hs q M hd hl wx hw
      have e : supW s M = M.wrote (s.ep % 2) (txtf s.frame) := by unfold supW; rw [hn, hc]; rfl
      rw [hn, hc, e] at this
      exact this
    obtain ⟨M1, hM1⟩ : ∃ M, m.wrote (eo % 2) (txtf (⟨eo, ju, bu, pu, nu⟩ : Sup).frame) = M := ⟨_, rfl⟩
    obtain ⟨M2, hM2⟩ : ∃ M, M1.wrote (ex % 2) (txtf (⟨ex, js, bs, ps, ns⟩ : Sup).frame) = M := ⟨_, rfl⟩
    obtain ⟨M3, hM3⟩ : ∃ M, ({ M2 with S := M2.T } : DiskM) = M := ⟨_, rfl⟩
    obtain ⟨M4, hM4⟩ : ∃ M, M3.wrote (ey % 2) (txtf (⟨ey, jt, bt, pt, nt⟩ : Sup).frame) = M := ⟨_, rfl⟩
    have HTM : Hid (TurnM M4 ⟨ex, js, bs, ps, ns⟩ ⟨ey, jt, bt, pt, nt⟩ ⟨eo, ju, bu, pu, nu⟩) := Lib.hid (by
      rw [← hM4]
      exact turn_made d bs' bt' ⟨ex, js, bs, ps, ns⟩ ⟨ey, jt, bt, pt, nt⟩ ⟨eo, ju, bu, pu, nu⟩ HTS.out M1 (by rw [← hM1, hm]) M2 hM2.symm M3 (by rw [← hM3]) (by rw [← hM3]) (by rw [← hM3]))
    have l1 : M1.Live ∧ M1.d = q ∧ M1.n = 1000 ∧ M1.own = m.own := by rw [← hM1]; exact ⟨live_wrote hL _ _, hq, hnn, rfl⟩
    have l2 : M2.Live ∧ M2.d = q ∧ M2.n = 1000 ∧ M2.own = m.own := by rw [← hM2]; exact ⟨live_wrote l1.1 _ _, l1.2.1, l1.2.2.1, l1.2.2.2⟩
    have l3 : M3.Live ∧ M3.d = q ∧ M3.n = 1000 ∧ M3.own = m.own := by rw [← hM3]; exact ⟨live_synced l2.1, l2.2.1, l2.2.2.1, l2.2.2.2⟩
    have l4 : M4.Live ∧ M4.d = q ∧ M4.n = 1000 ∧ M4.own = m.own := by rw [← hM4]; exact ⟨live_wrote l3.1 _ _, l3.2.1, l3.2.2.1, l3.2.2.2⟩
    have HW1 : Hid (∀ wx, DiskAt m wx → Calls Try.prog 25 #[.pointer (some ⟨q, 0, none⟩), .agg #[.int .u32 eo, .int .i64 ju, .int .i64 bu, .int .i64 pu, .int .u32 nu]] wx fun e w' => e = .returned (.int .i64 0) ∧ DiskAt M1 w' ∧ Grew m.own wx w') := Lib.hid (by
      have := HDW.out ⟨eo, ju, bu, pu, nu⟩ m HTS.out.fo HTS.out.co hq hnn hL
      rw [← hM1]
      exact this)
    have HW2 : Hid (∀ wx, DiskAt M1 wx → Calls Try.prog 25 #[.pointer (some ⟨q, 0, none⟩), .agg #[.int .u32 ex, .int .i64 js, .int .i64 bs, .int .i64 ps, .int .u32 ns]] wx fun e w' => e = .returned (.int .i64 0) ∧ DiskAt M2 w' ∧ Grew m.own wx w') := Lib.hid (by
      have := HDW.out ⟨ex, js, bs, ps, ns⟩ M1 HTS.out.fx HTS.out.cx l1.2.1 l1.2.2.1 l1.1
      rw [l1.2.2.2] at this
      rw [← hM2]
      exact this)
    have HW3 : Hid (∀ wx, DiskAt M2 wx → Calls Try.prog 32 #[.pointer (some ⟨q, 0, none⟩)] wx fun e w' => e = .returned (.int .i64 0) ∧ DiskAt M3 w' ∧ Grew m.own wx w') := Lib.hid fun wx hw => by
      have := lawSync_live q M2 l2.2.1 l2.1 wx hw
      rw [l2.2.2.2, hM3] at this
      exact this
    have HW4 : Hid (∀ wx, DiskAt M3 wx → Calls Try.prog 25 #[.pointer (some ⟨q, 0, none⟩), .agg #[.int .u32 ey, .int .i64 jt, .int .i64 bt, .int .i64 pt, .int .u32 nt]] wx fun e w' => e = .returned (.int .i64 0) ∧ DiskAt M4 w' ∧ Grew m.own wx w') := Lib.hid (by
      have := HDW.out ⟨ey, jt, bt, pt, nt⟩ M3 HTS.out.fy HTS.out.cy l3.2.1 l3.2.2.1 l3.1
      rw [l3.2.2.2] at this
      rw [← hM4]
      exact this)
    have HL4 := Lib.hid l4
    clear hM1 hM2 hM3 hM4 l1 l2 l3 l4 hM hm hL hnn hq HDW HT7
    generalize m.own = O at *
    obtain ⟨k0, k1, k2, k3, k4⟩ := fiveAt HT8.out.z
    go_wp2_with fail
    refine (HOwo.out _).mono ?_
    rintro e w9 ⟨rfl, hb⟩
    have HT9 := Lib.hid (HT8.out.step hb)
    have HD9 := Lib.hid (HD8.out.keep (Grew.of_below (S := fun _ => False) hb) fun _ _ e => e)
    clear hb k0 k1 k2 k3 k4 HT8 HD8
    go_wp2_with fail
    refine (HW1.out _ HD9.out).mono ?_
    rintro e w10 ⟨rfl, hd, hg⟩
    have HT10 := Lib.hid (HT9.out.grew hg HO.out)
    have HD10 := Lib.hid hd
    clear hd hg HT9 HD9 HW1
    obtain ⟨k0, k1, k2, k3, k4⟩ := fiveAt HT10.out.x
    go_wp2_with fail
    refine (HOwx.out _).mono ?_
    rintro e w11 ⟨rfl, hb⟩
    have HT11 := Lib.hid (HT10.out.step hb)
    have HD11 := Lib.hid (HD10.out.keep (Grew.of_below (S := fun _ => False) hb) fun _ _ e => e)
    clear hb k0 k1 k2 k3 k4 HT10 HD10
    go_wp2_with fail
    refine (HW2.out _ HD11.out).mono ?_
    rintro e w12 ⟨rfl, hd, hg⟩
    have HT12 := Lib.hid (HT11.out.grew hg HO.out)
    have HD12 := Lib.hid hd
    clear hd hg HT11 HD11 HW2
    go_wp2_with fail
    refine (HW3.out _ HD12.out).mono ?_
    rintro e w13 ⟨rfl, hd, hg⟩
    have HT13 := Lib.hid (HT12.out.grew hg HO.out)
    have HD13 := Lib.hid hd
    clear hd hg HT12 HD12 HW3
    obtain ⟨k0, k1, k2, k3, k4⟩ := fiveAt HT13.out.y
    go_wp2_with fail
    refine (HOwy.out _).mono ?_
    rintro e w14 ⟨rfl, hb⟩
    have HT14 := Lib.hid (HT13.out.step hb)
    have HD14 := Lib.hid (HD13.out.keep (Grew.of_below (S := fun _ => False) hb) fun _ _ e => e)
    clear hb k0 k1 k2 k3 k4 HT13 HD13
    go_wp2_with fail
    refine (HW4.out _ HD14.out).mono ?_
    rintro e w15 ⟨rfl, hd, hg⟩
    have HT15 := Lib.hid (HT14.out.grew hg HO.out)
    have HD15 := Lib.hid hd
    clear hd hg HT14 HD14 HW4
    go_wp2_with fail
    clear HOwo
    have HCl : Hid (Calls Try.prog 19 #[.pointer (some ⟨q, 0, none⟩)] w15 fun e w' => ∃ x m', e = .returned (.pointer (some ⟨x, 0, none⟩)) ∧ CloneOf M4 w15 x m' w') := Lib.hid (by
      have := clone_any M4 w15 HD15.out
      rw [HL4.out.2.1] at this
      exact this)
    refine HCl.out.mono ?_
    rintro e w16 ⟨c, mc, rfl, hC⟩
    have HT16 := Lib.hid (HT15.out.step hC.below)
    have HD16 := Lib.hid hC.old
    have HK16 := Lib.hid hC.at'
    have HMc : Hid (mc.d = c ∧ mc.Live ∧ mc.n = 1000 ∧ mc.T = M4.T ∧ (∀ k, mc.own k → ¬ O k) ∧ (∀ k, mc.own k → b2 < k)) := Lib.hid (by
      obtain ⟨i1, i2, i3, i4⟩ := HL4.out
      refine ⟨hC.d, ⟨hC.dead.trans i1.dead, hC.armed.trans i1.armed, ?_⟩, hC.n.trans i3, hC.T, fun k hk ho => ?_, fun k hk => ?_⟩
      · have := i1.fits
        unfold DiskM.fits at *
        rw [hC.left]
        exact this
      · rw [← i4] at ho
        have := HD15.out.below k ho
        have := hC.fresh k hk
        omega
      · have := hC.fresh k hk
        have := HT15.out.z.lt
        omega)
    clear hC HCl HT15 HD15
    obtain ⟨M5, hM5⟩ : ∃ M, M4.crashed (cutOf 1 fun _ => cut) = M := ⟨_, rfl⟩
    have HCr : Hid (∀ wx, DiskAt M4 wx → Calls Try.prog 16 #[.pointer (some ⟨q, 0, none⟩), .slice (some ⟨wx.heap.size, 0, none⟩) 1 1] (wx.alloc (.cells #[.int .i64 cut] 3)) fun e w' => e = .returned (.tuple #[]) ∧ DiskAt M5 w' ∧ Grew O (wx.alloc (.cells #[.int .i64 cut] 3)) w') := Lib.hid fun wx hw => by
      have hk : DiskAt M4 (wx.alloc (.cells #[.int .i64 cut] 3)) := hw.keep ((Grew.refl (S := fun _ => False) wx).alloc _) fun _ _ e => e
      have := crash_any M4 (some ⟨wx.heap.size, 0, none⟩) 1 1 (fun _ => cut) _ hk (Or.inr ⟨wx.heap.size, 0, rfl, fun e => Nat.lt_irrefl _ (hw.below _ e), fun i hi => by
        obtain rfl : i = 0 := by omega
        exact boxNew rfl⟩)
      rw [HL4.out.2.1, HL4.out.2.2.2, hM5] at this
      exact this
    have HM5 : Hid (M5.d = q ∧ M5.dead = false ∧ (lastOf M5 = (⟨ex, js, bs, ps, ns⟩ : Sup) ∨ lastOf M5 = (⟨ey, jt, bt, pt, nt⟩ : Sup)) ∧ (64 ≤ cut → lastOf M5 = (⟨ey, jt, bt, pt, nt⟩ : Sup))) := Lib.hid (by
      have hct : cutOf 1 (fun _ => cut) 0 = (min (max cut 0) 64).toNat := rfl
      have := HTM.out.read HTS.out (cutOf 1 fun _ => cut) (by rw [hct]; omega)
      rw [hM5] at this
      refine ⟨by rw [← hM5, crashed_d]; exact HL4.out.2.1, by rw [← hM5]; rfl, this.1, fun h => this.2 (by rw [hct]; omega)⟩)
    clear hM5
    go_wp2_with fail
    refine (HCr.out w16 HD16.out).mono ?_
    rintro e w17 ⟨rfl, hd, hg⟩
    have HT17 := Lib.hid ((HT16.out.alloc (.cells #[.int .i64 cut] 3)).grew hg HO.out)
    have HD17 := Lib.hid hd
    have HK17 := Lib.hid ((HK16.out.keep ((Grew.refl (S := fun _ => False) w16).alloc (.cells #[.int .i64 cut] 3)) fun _ _ e => e).keep hg HMc.out.2.2.2.2.1)
    clear hd hg HT16 HD16 HK16 HCr
    have HRd := Lib.hid (lawSupRead_any q M5 HM5.out.1 HM5.out.2.1 w17 HD17.out)
    have HEp : Hid (¬ (lastOf M5).ep = 0) := Lib.hid (by
      have e1 := HTS.out.e1
      have e2 := HTS.out.e2
      dsimp only at e1 e2
      rcases HM5.out.2.2.1 with h | h
      · rw [h]
        show ¬ ex = 0
        omega
      · rw [h]
        show ¬ ey = 0
        omega)
    have HR : Hid ((lastOf M5 = (⟨ex, js, bs, ps, ns⟩ : Sup) ∨ lastOf M5 = (⟨ey, jt, bt, pt, nt⟩ : Sup)) ∧ (64 ≤ cut → lastOf M5 = (⟨ey, jt, bt, pt, nt⟩ : Sup))) := Lib.hid HM5.out.2.2
    unfold lastE at HRd
    rw [if_neg HEp.out] at HRd
    generalize lastOf M5 = R at *
    clear HEp HM5 HD17
    dsimp only [Sup.cells] at HRd
    go_wp2_with fail
    refine HRd.out.mono ?_
    rintro e w18 ⟨rfl, hb⟩
    have HT18 := Lib.hid ((HT17.out.step hb).alloc (.cells #[.int .u32 R.ep, .int .i64 R.j, .int .i64 R.b, .int .i64 R.h, .int .u32 R.nx] 51))
    have HK18 := Lib.hid ((HK17.out.keep (Grew.of_below (S := fun _ => False) hb) fun _ _ e => e).keep ((Grew.refl (S := fun _ => False) w18).alloc (.cells #[.int .u32 R.ep, .int .i64 R.j, .int .i64 R.b, .int .i64 R.h, .int .u32 R.nx] 51)) fun _ _ e => e)
    have HG18 := Lib.hid (Holds.new w18 (.cells #[.int .u32 R.ep, .int .i64 R.j, .int .i64 R.b, .int .i64 R.h, .int .u32 R.nx] 51))
    clear hb HT17 HK17 HRd
    go_upto_region 14 with fail
    have HD19 := HK18
    generalize w18.alloc (.cells #[.int .u32 R.ep, .int .i64 R.j, .int .i64 R.b, .int .i64 R.h, .int .u32 R.nx] 51) = w19 at *
    generalize w18.heap.size = g at *
    clear HK18
    go_cut [109] (fun v wx => v = .bool false ∧ Tri w b0 b1 b2 (refBox ex js bs ps ns) (refBox ey jt bt pt nt) (refBox eo ju bu pu nu) wx ∧ DiskAt mc wx)
    case first =>
      have HB : Hid (∀ wx wy, Tri w b0 b1 b2 (refBox ex js bs ps ns) (refBox ey jt bt pt nt) (refBox eo ju bu pu nu) wx ∧ DiskAt mc wx ∧ Holds g (.cells #[.int .u32 R.ep, .int .i64 R.j, .int .i64 R.b, .int .i64 R.h, .int .u32 R.nx] 51) wx → Below wx.heap.size wx wy → Tri w b0 b1 b2 (refBox ex js bs ps ns) (refBox ey jt bt pt nt) (refBox eo ju bu pu nu) wy ∧ DiskAt mc wy ∧ Holds g (.cells #[.int .u32 R.ep, .int .i64 R.j, .int .i64 R.b, .int .i64 R.h, .int .u32 R.nx] 51) wy) := Lib.hid fun wx wy h hb => ⟨h.1.step hb, h.2.1.keep (Grew.of_below (S := fun _ => False) hb) fun _ _ e => e, h.2.2.below hb⟩
      have H0 : Hid (Tri w b0 b1 b2 (refBox ex js bs ps ns) (refBox ey jt bt pt nt) (refBox eo ju bu pu nu) w19.drew ∧ DiskAt mc w19.drew ∧ Holds g (.cells #[.int .u32 R.ep, .int .i64 R.j, .int .i64 R.b, .int .i64 R.h, .int .u32 R.nx] 51) w19.drew) := Lib.hid ⟨HT18.out.drew, HD19.out.drew, HG18.out.drew⟩
      obtain ⟨hR1, hR2⟩ := HR.out
      have e1 := HTS.out.e2
      dsimp only at e1
      have c1 : ((ey : Int) == (ex : Int)) = false := by rw [beq_eq_false_iff_ne]; omega
      have c2 : ¬ ey = ex := by omega
      clear e1 HT18 HD19 HG18
      by_cases hcut : 64 ≤ cut
      · have hR := hR2 hcut
        subst hR
        clear hR1 hR2 HR
        dsimp only at HB H0
        refine wp_region_held_drew (S := fun wx => (wx.cell? ⟨g, 0, none⟩ = some (.int .u32 ey) ∧ wx.cell? ⟨g, 1, none⟩ = some (.int .i64 jt) ∧ wx.cell? ⟨g, 2, none⟩ = some (.int .i64 bt) ∧ wx.cell? ⟨g, 3, none⟩ = some (.int .i64 pt) ∧ wx.cell? ⟨g, 4, none⟩ = some (.int .u32 nt)) ∧ (wx.cell? ⟨b0, 0, none⟩ = some (.int .i64 ex) ∧ wx.cell? ⟨b0, 1, none⟩ = some (.int .i64 js) ∧ wx.cell? ⟨b0, 2, none⟩ = some (.int .i64 bs) ∧ wx.cell? ⟨b0, 3, none⟩ = some (.int .i64 ps) ∧ wx.cell? ⟨b0, 4, none⟩ = some (.int .i64 ns)) ∧ (wx.cell? ⟨b1, 0, none⟩ = some (.int .i64 ey) ∧ wx.cell? ⟨b1, 1, none⟩ = some (.int .i64 jt) ∧ wx.cell? ⟨b1, 2, none⟩ = some (.int .i64 bt) ∧ wx.cell? ⟨b1, 3, none⟩ = some (.int .i64 pt) ∧ wx.cell? ⟨b1, 4, none⟩ = some (.int .i64 nt))) (by kernel_rfl) (keep15 H0.out) (fun hHeld => ?_)
        refine wpAnyH_take (i := 0) (oi := { dst := some 86, op := Op.move (Operand.tmp 12), type := 40, pos := "law.go:115", after := #[], guard := none }) (v := ?_) rfl (by kernel_rfl) (by kernel_rfl) (by kernel_rfl) (fun _ _ _ h => h) (Or.inl ⟨by rfl, ?_⟩) (by assumption) ?_
        rotate_left
        · (intro wz hSw; (try dsimp only at hSw); go_simp; try with_reducible rfl)
        try simp only [Act.put, List.setIfInBounds_toArray, List.set_cons_zero, List.set_cons_succ]
        refine wpAnyH_take (i := 1) (oi := { dst := some 87, op := Op.binOp BinOp.neq 40 (Operand.tmp 86) (Operand.const (Value.int IntKind.i64 0)) 40, type := 4, pos := "law.go:115", after := #[{ on := 0, ground := Ground.data }], guard := none }) (v := ?_) rfl (by kernel_rfl) (by kernel_rfl) (by kernel_rfl) (fun _ _ _ h => h) (Or.inl ⟨by rfl, ?_⟩) (by assumption) ?_
        rotate_left
        · (intro wz hSw; (try dsimp only at hSw); go_simp; try with_reducible rfl)
        try simp only [Act.put, List.setIfInBounds_toArray, List.set_cons_zero, List.set_cons_succ]
        refine wpAnyH_take (i := 2) (oi := { dst := some 88, op := Op.move (Operand.tmp 87), type := 4, pos := "law.go:115", after := #[{ on := 1, ground := Ground.data }], guard := none }) (v := ?_) rfl (by kernel_rfl) (by kernel_rfl) (by kernel_rfl) (fun _ _ _ h => h) (Or.inl ⟨by rfl, ?_⟩) (by assumption) ?_
        rotate_left
        · (intro wz hSw; (try dsimp only at hSw); go_simp; try with_reducible rfl)
        try simp only [Act.put, List.setIfInBounds_toArray, List.set_cons_zero, List.set_cons_succ]
        refine wpAnyH_take (i := 3) (oi := { dst := some 89, op := Op.load 51 (Operand.tmp 11), type := 51, pos := "law.go:115", after := #[{ on := 2, ground := Ground.guard }], guard := some (2, false) }) (v := ?_) rfl (by kernel_rfl) (by kernel_rfl) (by kernel_rfl) (fun _ _ _ h => h) (Or.inl ⟨by rfl, ?_⟩) (by assumption) ?_
        rotate_left
        · (intro wz hSw; (try dsimp only at hSw); go_simp; try with_reducible rfl)
        try simp only [Act.put, List.setIfInBounds_toArray, List.set_cons_zero, List.set_cons_succ]
        refine wpAnyH_take (i := 4) (oi := { dst := some 90, op := Op.load 47 (Operand.tmp 4), type := 47, pos := "law.go:115", after := #[{ on := 2, ground := Ground.guard }], guard := some (2, false) }) (v := ?_) rfl (by kernel_rfl) (by kernel_rfl) (by kernel_rfl) (fun _ _ _ h => h) (Or.inl ⟨by rfl, ?_⟩) (by assumption) ?_
        rotate_left
        · (intro wz hSw; (try dsimp only at hSw); go_simp; try with_reducible rfl)
        try simp only [Act.put, List.setIfInBounds_toArray, List.set_cons_zero, List.set_cons_succ]
        refine wpAnyH_ready (rs := [5]) (by kernel_rfl) (by simp) ?_
        refine AllReadyH.cons (o := { dst := some 91, op := Op.call { callee := Callee.value (Operand.func 23), args := #[Operand.tmp 90], argTypes := #[47] }, type := 51, pos := "law.go:115", after := #[{ on := 4, ground := Ground.data }, { on := 2, ground := Ground.chain }, { on := 2, ground := Ground.guard }], guard := some (2, false) }) rfl (fun K hK => ?_) AllReadyH.nil
        go_simp
        refine (HOwx.out _).mono ?_
        rintro e wa ⟨rfl, hba⟩
        have H1 := Lib.hid (HB.out _ _ H0.out hba)
        clear hba
        try go_wp2_with fail
        refine hK.out _ _ (keep15 H1.out) (fun hHeld => ?_)
        clear hK K
        try simp only [Act.put, List.setIfInBounds_toArray, List.set_cons_zero, List.set_cons_succ]
        refine wpAnyH_take (i := 6) (oi := { dst := some 92, op := Op.binOp BinOp.neq 51 (Operand.tmp 89) (Operand.tmp 91) 51, type := 4, pos := "law.go:115", after := #[{ on := 3, ground := Ground.data }, { on := 5, ground := Ground.data }, { on := 2, ground := Ground.guard }], guard := some (2, false) }) (v := ?_) rfl (by kernel_rfl) (by kernel_rfl) (by kernel_rfl) (fun _ _ _ h => h) (Or.inl ⟨by rfl, ?_⟩) (by assumption) ?_
        rotate_left
        · (intro wz hSw; (try dsimp only at hSw); go_simp; try with_reducible rfl)
        try simp only [Act.put, List.setIfInBounds_toArray, List.set_cons_zero, List.set_cons_succ]
        refine wpAnyH_take (i := 7) (oi := { dst := some 93, op := Op.move (Operand.tmp 92), type := 4, pos := "law.go:115", after := #[{ on := 6, ground := Ground.data }, { on := 5, ground := Ground.chain }, { on := 2, ground := Ground.guard }], guard := some (2, false) }) (v := ?_) rfl (by kernel_rfl) (by kernel_rfl) (by kernel_rfl) (fun _ _ _ h => h) (Or.inl ⟨by rfl, ?_⟩) (by assumption) ?_
        rotate_left
        · (intro wz hSw; (try dsimp only at hSw); go_simp; try with_reducible rfl)
        try simp only [Act.put, List.setIfInBounds_toArray, List.set_cons_zero, List.set_cons_succ]
        refine wpAnyH_take (i := 8) (oi := { dst := some 94, op := Op.load 51 (Operand.tmp 11), type := 51, pos := "law.go:115", after := #[{ on := 7, ground := Ground.guard }], guard := some (7, true) }) (v := ?_) rfl (by kernel_rfl) (by kernel_rfl) (by kernel_rfl) (fun _ _ _ h => h) (Or.inl ⟨by rfl, ?_⟩) (by assumption) ?_
        rotate_left
        · (intro wz hSw; (try dsimp only at hSw); go_simp; try with_reducible rfl)
        try simp only [Act.put, List.setIfInBounds_toArray, List.set_cons_zero, List.set_cons_succ]
        refine wpAnyH_take (i := 9) (oi := { dst := some 95, op := Op.load 47 (Operand.tmp 5), type := 47, pos := "law.go:115", after := #[{ on := 7, ground := Ground.guard }], guard := some (7, true) }) (v := ?_) rfl (by kernel_rfl) (by kernel_rfl) (by kernel_rfl) (fun _ _ _ h => h) (Or.inl ⟨by rfl, ?_⟩) (by assumption) ?_
        rotate_left
        · (intro wz hSw; (try dsimp only at hSw); go_simp; try with_reducible rfl)
        try simp only [Act.put, List.setIfInBounds_toArray, List.set_cons_zero, List.set_cons_succ]
        refine wpAnyH_ready (rs := [10]) (by kernel_rfl) (by simp) ?_
        refine AllReadyH.cons (o := { dst := some 96, op := Op.call { callee := Callee.value (Operand.func 23), args := #[Operand.tmp 95], argTypes := #[47] }, type := 51, pos := "law.go:115", after := #[{ on := 9, ground := Ground.data }, { on := 7, ground := Ground.chain }, { on := 7, ground := Ground.guard }], guard := some (7, true) }) rfl (fun K hK => ?_) AllReadyH.nil
        go_simp
        refine (HOwy.out _).mono ?_
        rintro e wb ⟨rfl, hbb⟩
        have H2 := Lib.hid (HB.out _ _ H1.out hbb)
        clear hbb
        try go_wp2_with fail
        refine hK.out _ _ (keep15 H2.out) (fun hHeld => ?_)
        clear hK K
        try simp only [Act.put, List.setIfInBounds_toArray, List.set_cons_zero, List.set_cons_succ]
        refine wpAnyH_take (i := 11) (oi := { dst := some 97, op := Op.binOp BinOp.neq 51 (Operand.tmp 94) (Operand.tmp 96) 51, type := 4, pos := "law.go:115", after := #[{ on := 8, ground := Ground.data }, { on := 10, ground := Ground.data }, { on := 7, ground := Ground.guard }], guard := some (7, true) }) (v := ?_) rfl (by kernel_rfl) (by kernel_rfl) (by kernel_rfl) (fun _ _ _ h => h) (Or.inl ⟨by rfl, ?_⟩) (by assumption) ?_
        rotate_left
        · (intro wz hSw; (try dsimp only at hSw); go_simp; try with_reducible rfl)
        try simp only [Act.put, List.setIfInBounds_toArray, List.set_cons_zero, List.set_cons_succ]
        refine wpAnyH_take (i := 12) (oi := { dst := some 98, op := Op.pick (Operand.tmp 93) (Operand.tmp 97) (Operand.const (Value.bool false)), type := 4, pos := "law.go:115", after := #[{ on := 7, ground := Ground.data }, { on := 11, ground := Ground.data }, { on := 2, ground := Ground.guard }], guard := some (2, false) }) (v := ?_) rfl (by kernel_rfl) (by kernel_rfl) (by kernel_rfl) (fun _ _ _ h => h) (Or.inl ⟨by rfl, ?_⟩) (by assumption) ?_
        rotate_left
        · (intro wz hSw; (try dsimp only at hSw); go_simp; try with_reducible rfl)
        try simp only [Act.put, List.setIfInBounds_toArray, List.set_cons_zero, List.set_cons_succ]
        refine wpAnyH_take (i := 13) (oi := { dst := some 99, op := Op.pick (Operand.tmp 88) (Operand.const (Value.bool true)) (Operand.tmp 98), type := 4, pos := "law.go:115", after := #[{ on := 2, ground := Ground.data }, { on := 12, ground := Ground.data }], guard := none }) (v := ?_) rfl (by kernel_rfl) (by kernel_rfl) (by kernel_rfl) (fun _ _ _ h => h) (Or.inl ⟨by rfl, ?_⟩) (by assumption) ?_
        rotate_left
        · (intro wz hSw; (try dsimp only at hSw); go_simp; try with_reducible rfl)
        try simp only [Act.put, List.setIfInBounds_toArray, List.set_cons_zero, List.set_cons_succ]
        refine wpAnyH_take (i := 14) (oi := { dst := some 100, op := Op.move (Operand.tmp 99), type := 4, pos := "law.go:115", after := #[{ on := 13, ground := Ground.data }, { on := 10, ground := Ground.chain }], guard := none }) (v := ?_) rfl (by kernel_rfl) (by kernel_rfl) (by kernel_rfl) (fun _ _ _ h => h) (Or.inl ⟨by rfl, ?_⟩) (by assumption) ?_
        rotate_left
        · (intro wz hSw; (try dsimp only at hSw); go_simp; try with_reducible rfl)
        try simp only [Act.put, List.setIfInBounds_toArray, List.set_cons_zero, List.set_cons_succ]
        refine wpAnyH_take (i := 15) (oi := { dst := some 101, op := Op.move (Operand.tmp 2), type := 3, pos := "law.go:115", after := #[{ on := 14, ground := Ground.guard }], guard := some (14, false) }) (v := ?_) rfl (by kernel_rfl) (by kernel_rfl) (by kernel_rfl) (fun _ _ _ h => h) (Or.inl ⟨by rfl, ?_⟩) (by assumption) ?_
        rotate_left
        · (intro wz hSw; (try dsimp only at hSw); go_simp; try with_reducible rfl)
        try simp only [Act.put, List.setIfInBounds_toArray, List.set_cons_zero, List.set_cons_succ]
        refine wpAnyH_take (i := 16) (oi := { dst := some 102, op := Op.binOp BinOp.geq 3 (Operand.tmp 101) (Operand.const (Value.int IntKind.i64 64)) 3, type := 4, pos := "law.go:115", after := #[{ on := 15, ground := Ground.data }, { on := 14, ground := Ground.guard }], guard := some (14, false) }) (v := ?_) rfl (by kernel_rfl) (by kernel_rfl) (by kernel_rfl) (fun _ _ _ h => h) (Or.inl ⟨by rfl, ?_⟩) (by assumption) ?_
        rotate_left
        · (intro wz hSw; (try dsimp only at hSw); go_simp; try with_reducible rfl)
        try simp only [Act.put, List.setIfInBounds_toArray, List.set_cons_zero, List.set_cons_succ]
        refine wpAnyH_take (i := 17) (oi := { dst := some 103, op := Op.move (Operand.tmp 102), type := 4, pos := "law.go:115", after := #[{ on := 16, ground := Ground.data }, { on := 14, ground := Ground.chain }, { on := 14, ground := Ground.guard }], guard := some (14, false) }) (v := ?_) rfl (by kernel_rfl) (by kernel_rfl) (by kernel_rfl) (fun _ _ _ h => h) (Or.inl ⟨by rfl, ?_⟩) (by assumption) ?_
        rotate_left
        · (intro wz hSw; (try dsimp only at hSw); go_simp; try with_reducible rfl)
        try simp only [Act.put, List.setIfInBounds_toArray, List.set_cons_zero, List.set_cons_succ]
        refine wpAnyH_take (i := 18) (oi := { dst := some 104, op := Op.load 51 (Operand.tmp 11), type := 51, pos := "law.go:115", after := #[{ on := 17, ground := Ground.guard }], guard := some (17, true) }) (v := ?_) rfl (by kernel_rfl) (by kernel_rfl) (by kernel_rfl) (fun _ _ _ h => h) (Or.inl ⟨by rfl, ?_⟩) (by assumption) ?_
        rotate_left
        · (intro wz hSw; (try dsimp only at hSw); go_simp; try with_reducible rfl)
        try simp only [Act.put, List.setIfInBounds_toArray, List.set_cons_zero, List.set_cons_succ]
        refine wpAnyH_take (i := 19) (oi := { dst := some 105, op := Op.load 47 (Operand.tmp 5), type := 47, pos := "law.go:115", after := #[{ on := 17, ground := Ground.guard }], guard := some (17, true) }) (v := ?_) rfl (by kernel_rfl) (by kernel_rfl) (by kernel_rfl) (fun _ _ _ h => h) (Or.inl ⟨by rfl, ?_⟩) (by assumption) ?_
        rotate_left
        · (intro wz hSw; (try dsimp only at hSw); go_simp; try with_reducible rfl)
        try simp only [Act.put, List.setIfInBounds_toArray, List.set_cons_zero, List.set_cons_succ]
        refine wpAnyH_ready (rs := [20]) (by kernel_rfl) (by simp) ?_
        refine AllReadyH.cons (o := { dst := some 106, op := Op.call { callee := Callee.value (Operand.func 23), args := #[Operand.tmp 105], argTypes := #[47] }, type := 51, pos := "law.go:115", after := #[{ on := 19, ground := Ground.data }, { on := 17, ground := Ground.chain }, { on := 17, ground := Ground.guard }], guard := some (17, true) }) rfl (fun K hK => ?_) AllReadyH.nil
        go_simp
        refine (HOwy.out _).mono ?_
        rintro e wd ⟨rfl, hbd⟩
        have H3 := Lib.hid (HB.out _ _ H2.out hbd)
        clear hbd
        try go_wp2_with fail
        refine hK.out _ _ (keep15 H3.out) (fun hHeld => ?_)
        clear hK K
        try simp only [Act.put, List.setIfInBounds_toArray, List.set_cons_zero, List.set_cons_succ]
        refine wpAnyH_take (i := 21) (oi := { dst := some 107, op := Op.binOp BinOp.neq 51 (Operand.tmp 104) (Operand.tmp 106) 51, type := 4, pos := "law.go:115", after := #[{ on := 18, ground := Ground.data }, { on := 20, ground := Ground.data }, { on := 17, ground := Ground.guard }], guard := some (17, true) }) (v := ?_) rfl (by kernel_rfl) (by kernel_rfl) (by kernel_rfl) (fun _ _ _ h => h) (Or.inl ⟨by rfl, ?_⟩) (by assumption) ?_
        rotate_left
        · (intro wz hSw; (try dsimp only at hSw); go_simp; try with_reducible rfl)
        try simp only [Act.put, List.setIfInBounds_toArray, List.set_cons_zero, List.set_cons_succ]
        refine wpAnyH_take (i := 22) (oi := { dst := some 108, op := Op.pick (Operand.tmp 103) (Operand.tmp 107) (Operand.const (Value.bool false)), type := 4, pos := "law.go:115", after := #[{ on := 17, ground := Ground.data }, { on := 21, ground := Ground.data }, { on := 14, ground := Ground.guard }], guard := some (14, false) }) (v := ?_) rfl (by kernel_rfl) (by kernel_rfl) (by kernel_rfl) (fun _ _ _ h => h) (Or.inl ⟨by rfl, ?_⟩) (by assumption) ?_
        rotate_left
        · (intro wz hSw; (try dsimp only at hSw); go_simp; try with_reducible rfl)
        try simp only [Act.put, List.setIfInBounds_toArray, List.set_cons_zero, List.set_cons_succ]
        refine wpAnyH_take (i := 23) (oi := { dst := some 109, op := Op.pick (Operand.tmp 100) (Operand.const (Value.bool true)) (Operand.tmp 108), type := 4, pos := "law.go:115", after := #[{ on := 14, ground := Ground.data }, { on := 22, ground := Ground.data }], guard := none }) (v := ?_) rfl (by kernel_rfl) (by kernel_rfl) (by kernel_rfl) (fun _ _ _ h => h) (Or.inl ⟨by rfl, ?_⟩) (by assumption) ?_
        rotate_left
        · (intro wz hSw; (try dsimp only at hSw); go_simp; try with_reducible rfl)
        try simp only [Act.put, List.setIfInBounds_toArray, List.set_cons_zero, List.set_cons_succ]
        refine wpAnyH_done (by kernel_rfl) ?_ _
        go_wp2_with fail
        go_meet
        exact ⟨rfl, H3.out.1, H3.out.2.1⟩
      · have hcd : decide (64 ≤ cut) = false := decide_eq_false hcut
        rcases hR1 with hR | hR
        · subst hR
          clear hR2 HR
          dsimp only at HB H0
          refine wp_region_held_drew (S := fun wx => (wx.cell? ⟨g, 0, none⟩ = some (.int .u32 ex) ∧ wx.cell? ⟨g, 1, none⟩ = some (.int .i64 js) ∧ wx.cell? ⟨g, 2, none⟩ = some (.int .i64 bs) ∧ wx.cell? ⟨g, 3, none⟩ = some (.int .i64 ps) ∧ wx.cell? ⟨g, 4, none⟩ = some (.int .u32 ns)) ∧ (wx.cell? ⟨b0, 0, none⟩ = some (.int .i64 ex) ∧ wx.cell? ⟨b0, 1, none⟩ = some (.int .i64 js) ∧ wx.cell? ⟨b0, 2, none⟩ = some (.int .i64 bs) ∧ wx.cell? ⟨b0, 3, none⟩ = some (.int .i64 ps) ∧ wx.cell? ⟨b0, 4, none⟩ = some (.int .i64 ns)) ∧ (wx.cell? ⟨b1, 0, none⟩ = some (.int .i64 ey) ∧ wx.cell? ⟨b1, 1, none⟩ = some (.int .i64 jt) ∧ wx.cell? ⟨b1, 2, none⟩ = some (.int .i64 bt) ∧ wx.cell? ⟨b1, 3, none⟩ = some (.int .i64 pt) ∧ wx.cell? ⟨b1, 4, none⟩ = some (.int .i64 nt))) (by kernel_rfl) (keep15 H0.out) (fun hHeld => ?_)
          refine wpAnyH_take (i := 0) (oi := { dst := some 86, op := Op.move (Operand.tmp 12), type := 40, pos := "law.go:115", after := #[], guard := none }) (v := ?_) rfl (by kernel_rfl) (by kernel_rfl) (by kernel_rfl) (fun _ _ _ h => h) (Or.inl ⟨by rfl, ?_⟩) (by assumption) ?_
          rotate_left
          · (intro wz hSw; (try dsimp only at hSw); go_simp; try with_reducible rfl)
          try simp only [Act.put, List.setIfInBounds_toArray, List.set_cons_zero, List.set_cons_succ]
          refine wpAnyH_take (i := 1) (oi := { dst := some 87, op := Op.binOp BinOp.neq 40 (Operand.tmp 86) (Operand.const (Value.int IntKind.i64 0)) 40, type := 4, pos := "law.go:115", after := #[{ on := 0, ground := Ground.data }], guard := none }) (v := ?_) rfl (by kernel_rfl) (by kernel_rfl) (by kernel_rfl) (fun _ _ _ h => h) (Or.inl ⟨by rfl, ?_⟩) (by assumption) ?_
          rotate_left
          · (intro wz hSw; (try dsimp only at hSw); go_simp; try with_reducible rfl)
          try simp only [Act.put, List.setIfInBounds_toArray, List.set_cons_zero, List.set_cons_succ]
          refine wpAnyH_take (i := 2) (oi := { dst := some 88, op := Op.move (Operand.tmp 87), type := 4, pos := "law.go:115", after := #[{ on := 1, ground := Ground.data }], guard := none }) (v := ?_) rfl (by kernel_rfl) (by kernel_rfl) (by kernel_rfl) (fun _ _ _ h => h) (Or.inl ⟨by rfl, ?_⟩) (by assumption) ?_
          rotate_left
          · (intro wz hSw; (try dsimp only at hSw); go_simp; try with_reducible rfl)
          try simp only [Act.put, List.setIfInBounds_toArray, List.set_cons_zero, List.set_cons_succ]
          refine wpAnyH_take (i := 3) (oi := { dst := some 89, op := Op.load 51 (Operand.tmp 11), type := 51, pos := "law.go:115", after := #[{ on := 2, ground := Ground.guard }], guard := some (2, false) }) (v := ?_) rfl (by kernel_rfl) (by kernel_rfl) (by kernel_rfl) (fun _ _ _ h => h) (Or.inl ⟨by rfl, ?_⟩) (by assumption) ?_
          rotate_left
          · (intro wz hSw; (try dsimp only at hSw); go_simp; try with_reducible rfl)
          try simp only [Act.put, List.setIfInBounds_toArray, List.set_cons_zero, List.set_cons_succ]
          refine wpAnyH_take (i := 4) (oi := { dst := some 90, op := Op.load 47 (Operand.tmp 4), type := 47, pos := "law.go:115", after := #[{ on := 2, ground := Ground.guard }], guard := some (2, false) }) (v := ?_) rfl (by kernel_rfl) (by kernel_rfl) (by kernel_rfl) (fun _ _ _ h => h) (Or.inl ⟨by rfl, ?_⟩) (by assumption) ?_
          rotate_left
          · (intro wz hSw; (try dsimp only at hSw); go_simp; try with_reducible rfl)
          try simp only [Act.put, List.setIfInBounds_toArray, List.set_cons_zero, List.set_cons_succ]
          refine wpAnyH_ready (rs := [5]) (by kernel_rfl) (by simp) ?_
          refine AllReadyH.cons (o := { dst := some 91, op := Op.call { callee := Callee.value (Operand.func 23), args := #[Operand.tmp 90], argTypes := #[47] }, type := 51, pos := "law.go:115", after := #[{ on := 4, ground := Ground.data }, { on := 2, ground := Ground.chain }, { on := 2, ground := Ground.guard }], guard := some (2, false) }) rfl (fun K hK => ?_) AllReadyH.nil
          go_simp
          refine (HOwx.out _).mono ?_
          rintro e wa ⟨rfl, hba⟩
          have H1 := Lib.hid (HB.out _ _ H0.out hba)
          clear hba
          try go_wp2_with fail
          refine hK.out _ _ (keep15 H1.out) (fun hHeld => ?_)
          clear hK K
          try simp only [Act.put, List.setIfInBounds_toArray, List.set_cons_zero, List.set_cons_succ]
          refine wpAnyH_take (i := 6) (oi := { dst := some 92, op := Op.binOp BinOp.neq 51 (Operand.tmp 89) (Operand.tmp 91) 51, type := 4, pos := "law.go:115", after := #[{ on := 3, ground := Ground.data }, { on := 5, ground := Ground.data }, { on := 2, ground := Ground.guard }], guard := some (2, false) }) (v := ?_) rfl (by kernel_rfl) (by kernel_rfl) (by kernel_rfl) (fun _ _ _ h => h) (Or.inl ⟨by rfl, ?_⟩) (by assumption) ?_
          rotate_left
          · (intro wz hSw; (try dsimp only at hSw); go_simp; try with_reducible rfl)
          try simp only [Act.put, List.setIfInBounds_toArray, List.set_cons_zero, List.set_cons_succ]
          refine wpAnyH_take (i := 7) (oi := { dst := some 93, op := Op.move (Operand.tmp 92), type := 4, pos := "law.go:115", after := #[{ on := 6, ground := Ground.data }, { on := 5, ground := Ground.chain }, { on := 2, ground := Ground.guard }], guard := some (2, false) }) (v := ?_) rfl (by kernel_rfl) (by kernel_rfl) (by kernel_rfl) (fun _ _ _ h => h) (Or.inl ⟨by rfl, ?_⟩) (by assumption) ?_
          rotate_left
          · (intro wz hSw; (try dsimp only at hSw); go_simp; try with_reducible rfl)
          try simp only [Act.put, List.setIfInBounds_toArray, List.set_cons_zero, List.set_cons_succ]
          refine wpAnyH_take (i := 8) (oi := { dst := some 94, op := Op.load 51 (Operand.tmp 11), type := 51, pos := "law.go:115", after := #[{ on := 7, ground := Ground.guard }], guard := some (7, true) }) (v := undef) rfl (by kernel_rfl) (by kernel_rfl) (by kernel_rfl) (fun _ _ _ h => h) (Or.inr ⟨by rfl, rfl⟩) (by assumption) ?_
          try simp only [Act.put, List.setIfInBounds_toArray, List.set_cons_zero, List.set_cons_succ]
          refine wpAnyH_take (i := 9) (oi := { dst := some 95, op := Op.load 47 (Operand.tmp 5), type := 47, pos := "law.go:115", after := #[{ on := 7, ground := Ground.guard }], guard := some (7, true) }) (v := undef) rfl (by kernel_rfl) (by kernel_rfl) (by kernel_rfl) (fun _ _ _ h => h) (Or.inr ⟨by rfl, rfl⟩) (by assumption) ?_
          try simp only [Act.put, List.setIfInBounds_toArray, List.set_cons_zero, List.set_cons_succ]
          refine wpAnyH_take (i := 10) (oi := { dst := some 96, op := Op.call { callee := Callee.value (Operand.func 23), args := #[Operand.tmp 95], argTypes := #[47] }, type := 51, pos := "law.go:115", after := #[{ on := 9, ground := Ground.data }, { on := 7, ground := Ground.chain }, { on := 7, ground := Ground.guard }], guard := some (7, true) }) (v := undef) rfl (by kernel_rfl) (by kernel_rfl) (by kernel_rfl) (fun _ _ _ h => h) (Or.inr ⟨by rfl, rfl⟩) (by assumption) ?_
          try simp only [Act.put, List.setIfInBounds_toArray, List.set_cons_zero, List.set_cons_succ]
          refine wpAnyH_take (i := 11) (oi := { dst := some 97, op := Op.binOp BinOp.neq 51 (Operand.tmp 94) (Operand.tmp 96) 51, type := 4, pos := "law.go:115", after := #[{ on := 8, ground := Ground.data }, { on := 10, ground := Ground.data }, { on := 7, ground := Ground.guard }], guard := some (7, true) }) (v := undef) rfl (by kernel_rfl) (by kernel_rfl) (by kernel_rfl) (fun _ _ _ h => h) (Or.inr ⟨by rfl, rfl⟩) (by assumption) ?_
          try simp only [Act.put, List.setIfInBounds_toArray, List.set_cons_zero, List.set_cons_succ]
          refine wpAnyH_take (i := 12) (oi := { dst := some 98, op := Op.pick (Operand.tmp 93) (Operand.tmp 97) (Operand.const (Value.bool false)), type := 4, pos := "law.go:115", after := #[{ on := 7, ground := Ground.data }, { on := 11, ground := Ground.data }, { on := 2, ground := Ground.guard }], guard := some (2, false) }) (v := ?_) rfl (by kernel_rfl) (by kernel_rfl) (by kernel_rfl) (fun _ _ _ h => h) (Or.inl ⟨by rfl, ?_⟩) (by assumption) ?_
          rotate_left
          · (intro wz hSw; (try dsimp only at hSw); go_simp; try with_reducible rfl)
          try simp only [Act.put, List.setIfInBounds_toArray, List.set_cons_zero, List.set_cons_succ]
          refine wpAnyH_take (i := 13) (oi := { dst := some 99, op := Op.pick (Operand.tmp 88) (Operand.const (Value.bool true)) (Operand.tmp 98), type := 4, pos := "law.go:115", after := #[{ on := 2, ground := Ground.data }, { on := 12, ground := Ground.data }], guard := none }) (v := ?_) rfl (by kernel_rfl) (by kernel_rfl) (by kernel_rfl) (fun _ _ _ h => h) (Or.inl ⟨by rfl, ?_⟩) (by assumption) ?_
          rotate_left
          · (intro wz hSw; (try dsimp only at hSw); go_simp; try with_reducible rfl)
          try simp only [Act.put, List.setIfInBounds_toArray, List.set_cons_zero, List.set_cons_succ]
          refine wpAnyH_take (i := 14) (oi := { dst := some 100, op := Op.move (Operand.tmp 99), type := 4, pos := "law.go:115", after := #[{ on := 13, ground := Ground.data }, { on := 10, ground := Ground.chain }], guard := none }) (v := ?_) rfl (by kernel_rfl) (by kernel_rfl) (by kernel_rfl) (fun _ _ _ h => h) (Or.inl ⟨by rfl, ?_⟩) (by assumption) ?_
          rotate_left
          · (intro wz hSw; (try dsimp only at hSw); go_simp; try with_reducible rfl)
          try simp only [Act.put, List.setIfInBounds_toArray, List.set_cons_zero, List.set_cons_succ]
          refine wpAnyH_take (i := 15) (oi := { dst := some 101, op := Op.move (Operand.tmp 2), type := 3, pos := "law.go:115", after := #[{ on := 14, ground := Ground.guard }], guard := some (14, false) }) (v := ?_) rfl (by kernel_rfl) (by kernel_rfl) (by kernel_rfl) (fun _ _ _ h => h) (Or.inl ⟨by rfl, ?_⟩) (by assumption) ?_
          rotate_left
          · (intro wz hSw; (try dsimp only at hSw); go_simp; try with_reducible rfl)
          try simp only [Act.put, List.setIfInBounds_toArray, List.set_cons_zero, List.set_cons_succ]
          refine wpAnyH_take (i := 16) (oi := { dst := some 102, op := Op.binOp BinOp.geq 3 (Operand.tmp 101) (Operand.const (Value.int IntKind.i64 64)) 3, type := 4, pos := "law.go:115", after := #[{ on := 15, ground := Ground.data }, { on := 14, ground := Ground.guard }], guard := some (14, false) }) (v := ?_) rfl (by kernel_rfl) (by kernel_rfl) (by kernel_rfl) (fun _ _ _ h => h) (Or.inl ⟨by rfl, ?_⟩) (by assumption) ?_
          rotate_left
          · (intro wz hSw; (try dsimp only at hSw); go_simp; try with_reducible rfl)
          try simp only [Act.put, List.setIfInBounds_toArray, List.set_cons_zero, List.set_cons_succ]
          refine wpAnyH_take (i := 17) (oi := { dst := some 103, op := Op.move (Operand.tmp 102), type := 4, pos := "law.go:115", after := #[{ on := 16, ground := Ground.data }, { on := 14, ground := Ground.chain }, { on := 14, ground := Ground.guard }], guard := some (14, false) }) (v := ?_) rfl (by kernel_rfl) (by kernel_rfl) (by kernel_rfl) (fun _ _ _ h => h) (Or.inl ⟨by rfl, ?_⟩) (by assumption) ?_
          rotate_left
          · (intro wz hSw; (try dsimp only at hSw); go_simp; try with_reducible rfl)
          try simp only [Act.put, List.setIfInBounds_toArray, List.set_cons_zero, List.set_cons_succ]
          refine wpAnyH_take (i := 18) (oi := { dst := some 104, op := Op.load 51 (Operand.tmp 11), type := 51, pos := "law.go:115", after := #[{ on := 17, ground := Ground.guard }], guard := some (17, true) }) (v := undef) rfl (by kernel_rfl) (by kernel_rfl) (by kernel_rfl) (fun _ _ _ h => h) (Or.inr ⟨by rfl, rfl⟩) (by assumption) ?_
          try simp only [Act.put, List.setIfInBounds_toArray, List.set_cons_zero, List.set_cons_succ]
          refine wpAnyH_take (i := 19) (oi := { dst := some 105, op := Op.load 47 (Operand.tmp 5), type := 47, pos := "law.go:115", after := #[{ on := 17, ground := Ground.guard }], guard := some (17, true) }) (v := undef) rfl (by kernel_rfl) (by kernel_rfl) (by kernel_rfl) (fun _ _ _ h => h) (Or.inr ⟨by rfl, rfl⟩) (by assumption) ?_
          try simp only [Act.put, List.setIfInBounds_toArray, List.set_cons_zero, List.set_cons_succ]
          refine wpAnyH_take (i := 20) (oi := { dst := some 106, op := Op.call { callee := Callee.value (Operand.func 23), args := #[Operand.tmp 105], argTypes := #[47] }, type := 51, pos := "law.go:115", after := #[{ on := 19, ground := Ground.data }, { on := 17, ground := Ground.chain }, { on := 17, ground := Ground.guard }], guard := some (17, true) }) (v := undef) rfl (by kernel_rfl) (by kernel_rfl) (by kernel_rfl) (fun _ _ _ h => h) (Or.inr ⟨by rfl, rfl⟩) (by assumption) ?_
          try simp only [Act.put, List.setIfInBounds_toArray, List.set_cons_zero, List.set_cons_succ]
          refine wpAnyH_take (i := 21) (oi := { dst := some 107, op := Op.binOp BinOp.neq 51 (Operand.tmp 104) (Operand.tmp 106) 51, type := 4, pos := "law.go:115", after := #[{ on := 18, ground := Ground.data }, { on := 20, ground := Ground.data }, { on := 17, ground := Ground.guard }], guard := some (17, true) }) (v := undef) rfl (by kernel_rfl) (by kernel_rfl) (by kernel_rfl) (fun _ _ _ h => h) (Or.inr ⟨by rfl, rfl⟩) (by assumption) ?_
          try simp only [Act.put, List.setIfInBounds_toArray, List.set_cons_zero, List.set_cons_succ]
          refine wpAnyH_take (i := 22) (oi := { dst := some 108, op := Op.pick (Operand.tmp 103) (Operand.tmp 107) (Operand.const (Value.bool false)), type := 4, pos := "law.go:115", after := #[{ on := 17, ground := Ground.data }, { on := 21, ground := Ground.data }, { on := 14, ground := Ground.guard }], guard := some (14, false) }) (v := ?_) rfl (by kernel_rfl) (by kernel_rfl) (by kernel_rfl) (fun _ _ _ h => h) (Or.inl ⟨by rfl, ?_⟩) (by assumption) ?_
          rotate_left
          · (intro wz hSw; (try dsimp only at hSw); go_simp; try with_reducible rfl)
          try simp only [Act.put, List.setIfInBounds_toArray, List.set_cons_zero, List.set_cons_succ]
          refine wpAnyH_take (i := 23) (oi := { dst := some 109, op := Op.pick (Operand.tmp 100) (Operand.const (Value.bool true)) (Operand.tmp 108), type := 4, pos := "law.go:115", after := #[{ on := 14, ground := Ground.data }, { on := 22, ground := Ground.data }], guard := none }) (v := ?_) rfl (by kernel_rfl) (by kernel_rfl) (by kernel_rfl) (fun _ _ _ h => h) (Or.inl ⟨by rfl, ?_⟩) (by assumption) ?_
          rotate_left
          · (intro wz hSw; (try dsimp only at hSw); go_simp; try with_reducible rfl)
          try simp only [Act.put, List.setIfInBounds_toArray, List.set_cons_zero, List.set_cons_succ]
          refine wpAnyH_done (by kernel_rfl) ?_ _
          go_wp2_with fail
          go_meet
          exact ⟨rfl, H1.out.1, H1.out.2.1⟩
        · subst hR
          clear hR2 HR
          dsimp only at HB H0
          refine wp_region_held_drew (S := fun wx => (wx.cell? ⟨g, 0, none⟩ = some (.int .u32 ey) ∧ wx.cell? ⟨g, 1, none⟩ = some (.int .i64 jt) ∧ wx.cell? ⟨g, 2, none⟩ = some (.int .i64 bt) ∧ wx.cell? ⟨g, 3, none⟩ = some (.int .i64 pt) ∧ wx.cell? ⟨g, 4, none⟩ = some (.int .u32 nt)) ∧ (wx.cell? ⟨b0, 0, none⟩ = some (.int .i64 ex) ∧ wx.cell? ⟨b0, 1, none⟩ = some (.int .i64 js) ∧ wx.cell? ⟨b0, 2, none⟩ = some (.int .i64 bs) ∧ wx.cell? ⟨b0, 3, none⟩ = some (.int .i64 ps) ∧ wx.cell? ⟨b0, 4, none⟩ = some (.int .i64 ns)) ∧ (wx.cell? ⟨b1, 0, none⟩ = some (.int .i64 ey) ∧ wx.cell? ⟨b1, 1, none⟩ = some (.int .i64 jt) ∧ wx.cell? ⟨b1, 2, none⟩ = some (.int .i64 bt) ∧ wx.cell? ⟨b1, 3, none⟩ = some (.int .i64 pt) ∧ wx.cell? ⟨b1, 4, none⟩ = some (.int .i64 nt))) (by kernel_rfl) (keep15 H0.out) (fun hHeld => ?_)
          refine wpAnyH_take (i := 0) (oi := { dst := some 86, op := Op.move (Operand.tmp 12), type := 40, pos := "law.go:115", after := #[], guard := none }) (v := ?_) rfl (by kernel_rfl) (by kernel_rfl) (by kernel_rfl) (fun _ _ _ h => h) (Or.inl ⟨by rfl, ?_⟩) (by assumption) ?_
          rotate_left
          · (intro wz hSw; (try dsimp only at hSw); go_simp; try with_reducible rfl)
          try simp only [Act.put, List.setIfInBounds_toArray, List.set_cons_zero, List.set_cons_succ]
          refine wpAnyH_take (i := 1) (oi := { dst := some 87, op := Op.binOp BinOp.neq 40 (Operand.tmp 86) (Operand.const (Value.int IntKind.i64 0)) 40, type := 4, pos := "law.go:115", after := #[{ on := 0, ground := Ground.data }], guard := none }) (v := ?_) rfl (by kernel_rfl) (by kernel_rfl) (by kernel_rfl) (fun _ _ _ h => h) (Or.inl ⟨by rfl, ?_⟩) (by assumption) ?_
          rotate_left
          · (intro wz hSw; (try dsimp only at hSw); go_simp; try with_reducible rfl)
          try simp only [Act.put, List.setIfInBounds_toArray, List.set_cons_zero, List.set_cons_succ]
          refine wpAnyH_take (i := 2) (oi := { dst := some 88, op := Op.move (Operand.tmp 87), type := 4, pos := "law.go:115", after := #[{ on := 1, ground := Ground.data }], guard := none }) (v := ?_) rfl (by kernel_rfl) (by kernel_rfl) (by kernel_rfl) (fun _ _ _ h => h) (Or.inl ⟨by rfl, ?_⟩) (by assumption) ?_
          rotate_left
          · (intro wz hSw; (try dsimp only at hSw); go_simp; try with_reducible rfl)
          try simp only [Act.put, List.setIfInBounds_toArray, List.set_cons_zero, List.set_cons_succ]
          refine wpAnyH_take (i := 3) (oi := { dst := some 89, op := Op.load 51 (Operand.tmp 11), type := 51, pos := "law.go:115", after := #[{ on := 2, ground := Ground.guard }], guard := some (2, false) }) (v := ?_) rfl (by kernel_rfl) (by kernel_rfl) (by kernel_rfl) (fun _ _ _ h => h) (Or.inl ⟨by rfl, ?_⟩) (by assumption) ?_
          rotate_left
          · (intro wz hSw; (try dsimp only at hSw); go_simp; try with_reducible rfl)
          try simp only [Act.put, List.setIfInBounds_toArray, List.set_cons_zero, List.set_cons_succ]
          refine wpAnyH_take (i := 4) (oi := { dst := some 90, op := Op.load 47 (Operand.tmp 4), type := 47, pos := "law.go:115", after := #[{ on := 2, ground := Ground.guard }], guard := some (2, false) }) (v := ?_) rfl (by kernel_rfl) (by kernel_rfl) (by kernel_rfl) (fun _ _ _ h => h) (Or.inl ⟨by rfl, ?_⟩) (by assumption) ?_
          rotate_left
          · (intro wz hSw; (try dsimp only at hSw); go_simp; try with_reducible rfl)
          try simp only [Act.put, List.setIfInBounds_toArray, List.set_cons_zero, List.set_cons_succ]
          refine wpAnyH_ready (rs := [5]) (by kernel_rfl) (by simp) ?_
          refine AllReadyH.cons (o := { dst := some 91, op := Op.call { callee := Callee.value (Operand.func 23), args := #[Operand.tmp 90], argTypes := #[47] }, type := 51, pos := "law.go:115", after := #[{ on := 4, ground := Ground.data }, { on := 2, ground := Ground.chain }, { on := 2, ground := Ground.guard }], guard := some (2, false) }) rfl (fun K hK => ?_) AllReadyH.nil
          go_simp
          refine (HOwx.out _).mono ?_
          rintro e wa ⟨rfl, hba⟩
          have H1 := Lib.hid (HB.out _ _ H0.out hba)
          clear hba
          try go_wp2_with fail
          refine hK.out _ _ (keep15 H1.out) (fun hHeld => ?_)
          clear hK K
          try simp only [Act.put, List.setIfInBounds_toArray, List.set_cons_zero, List.set_cons_succ]
          refine wpAnyH_take (i := 6) (oi := { dst := some 92, op := Op.binOp BinOp.neq 51 (Operand.tmp 89) (Operand.tmp 91) 51, type := 4, pos := "law.go:115", after := #[{ on := 3, ground := Ground.data }, { on := 5, ground := Ground.data }, { on := 2, ground := Ground.guard }], guard := some (2, false) }) (v := ?_) rfl (by kernel_rfl) (by kernel_rfl) (by kernel_rfl) (fun _ _ _ h => h) (Or.inl ⟨by rfl, ?_⟩) (by assumption) ?_
          rotate_left
          · (intro wz hSw; (try dsimp only at hSw); go_simp; try with_reducible rfl)
          try simp only [Act.put, List.setIfInBounds_toArray, List.set_cons_zero, List.set_cons_succ]
          refine wpAnyH_take (i := 7) (oi := { dst := some 93, op := Op.move (Operand.tmp 92), type := 4, pos := "law.go:115", after := #[{ on := 6, ground := Ground.data }, { on := 5, ground := Ground.chain }, { on := 2, ground := Ground.guard }], guard := some (2, false) }) (v := ?_) rfl (by kernel_rfl) (by kernel_rfl) (by kernel_rfl) (fun _ _ _ h => h) (Or.inl ⟨by rfl, ?_⟩) (by assumption) ?_
          rotate_left
          · (intro wz hSw; (try dsimp only at hSw); go_simp; try with_reducible rfl)
          try simp only [Act.put, List.setIfInBounds_toArray, List.set_cons_zero, List.set_cons_succ]
          refine wpAnyH_take (i := 8) (oi := { dst := some 94, op := Op.load 51 (Operand.tmp 11), type := 51, pos := "law.go:115", after := #[{ on := 7, ground := Ground.guard }], guard := some (7, true) }) (v := ?_) rfl (by kernel_rfl) (by kernel_rfl) (by kernel_rfl) (fun _ _ _ h => h) (Or.inl ⟨by rfl, ?_⟩) (by assumption) ?_
          rotate_left
          · (intro wz hSw; (try dsimp only at hSw); go_simp; try with_reducible rfl)
          try simp only [Act.put, List.setIfInBounds_toArray, List.set_cons_zero, List.set_cons_succ]
          refine wpAnyH_take (i := 9) (oi := { dst := some 95, op := Op.load 47 (Operand.tmp 5), type := 47, pos := "law.go:115", after := #[{ on := 7, ground := Ground.guard }], guard := some (7, true) }) (v := ?_) rfl (by kernel_rfl) (by kernel_rfl) (by kernel_rfl) (fun _ _ _ h => h) (Or.inl ⟨by rfl, ?_⟩) (by assumption) ?_
          rotate_left
          · (intro wz hSw; (try dsimp only at hSw); go_simp; try with_reducible rfl)
          try simp only [Act.put, List.setIfInBounds_toArray, List.set_cons_zero, List.set_cons_succ]
          refine wpAnyH_ready (rs := [10]) (by kernel_rfl) (by simp) ?_
          refine AllReadyH.cons (o := { dst := some 96, op := Op.call { callee := Callee.value (Operand.func 23), args := #[Operand.tmp 95], argTypes := #[47] }, type := 51, pos := "law.go:115", after := #[{ on := 9, ground := Ground.data }, { on := 7, ground := Ground.chain }, { on := 7, ground := Ground.guard }], guard := some (7, true) }) rfl (fun K hK => ?_) AllReadyH.nil
          go_simp
          refine (HOwy.out _).mono ?_
          rintro e wb ⟨rfl, hbb⟩
          have H2 := Lib.hid (HB.out _ _ H1.out hbb)
          clear hbb
          try go_wp2_with fail
          refine hK.out _ _ (keep15 H2.out) (fun hHeld => ?_)
          clear hK K
          try simp only [Act.put, List.setIfInBounds_toArray, List.set_cons_zero, List.set_cons_succ]
          refine wpAnyH_take (i := 11) (oi := { dst := some 97, op := Op.binOp BinOp.neq 51 (Operand.tmp 94) (Operand.tmp 96) 51, type := 4, pos := "law.go:115", after := #[{ on := 8, ground := Ground.data }, { on := 10, ground := Ground.data }, { on := 7, ground := Ground.guard }], guard := some (7, true) }) (v := ?_) rfl (by kernel_rfl) (by kernel_rfl) (by kernel_rfl) (fun _ _ _ h => h) (Or.inl ⟨by rfl, ?_⟩) (by assumption) ?_
          rotate_left
          · (intro wz hSw; (try dsimp only at hSw); go_simp; try with_reducible rfl)
          try simp only [Act.put, List.setIfInBounds_toArray, List.set_cons_zero, List.set_cons_succ]
          refine wpAnyH_take (i := 12) (oi := { dst := some 98, op := Op.pick (Operand.tmp 93) (Operand.tmp 97) (Operand.const (Value.bool false)), type := 4, pos := "law.go:115", after := #[{ on := 7, ground := Ground.data }, { on := 11, ground := Ground.data }, { on := 2, ground := Ground.guard }], guard := some (2, false) }) (v := ?_) rfl (by kernel_rfl) (by kernel_rfl) (by kernel_rfl) (fun _ _ _ h => h) (Or.inl ⟨by rfl, ?_⟩) (by assumption) ?_
          rotate_left
          · (intro wz hSw; (try dsimp only at hSw); go_simp; try with_reducible rfl)
          try simp only [Act.put, List.setIfInBounds_toArray, List.set_cons_zero, List.set_cons_succ]
          refine wpAnyH_take (i := 13) (oi := { dst := some 99, op := Op.pick (Operand.tmp 88) (Operand.const (Value.bool true)) (Operand.tmp 98), type := 4, pos := "law.go:115", after := #[{ on := 2, ground := Ground.data }, { on := 12, ground := Ground.data }], guard := none }) (v := ?_) rfl (by kernel_rfl) (by kernel_rfl) (by kernel_rfl) (fun _ _ _ h => h) (Or.inl ⟨by rfl, ?_⟩) (by assumption) ?_
          rotate_left
          · (intro wz hSw; (try dsimp only at hSw); go_simp; try with_reducible rfl)
          try simp only [Act.put, List.setIfInBounds_toArray, List.set_cons_zero, List.set_cons_succ]
          refine wpAnyH_take (i := 14) (oi := { dst := some 100, op := Op.move (Operand.tmp 99), type := 4, pos := "law.go:115", after := #[{ on := 13, ground := Ground.data }, { on := 10, ground := Ground.chain }], guard := none }) (v := ?_) rfl (by kernel_rfl) (by kernel_rfl) (by kernel_rfl) (fun _ _ _ h => h) (Or.inl ⟨by rfl, ?_⟩) (by assumption) ?_
          rotate_left
          · (intro wz hSw; (try dsimp only at hSw); go_simp; try with_reducible rfl)
          try simp only [Act.put, List.setIfInBounds_toArray, List.set_cons_zero, List.set_cons_succ]
          refine wpAnyH_take (i := 15) (oi := { dst := some 101, op := Op.move (Operand.tmp 2), type := 3, pos := "law.go:115", after := #[{ on := 14, ground := Ground.guard }], guard := some (14, false) }) (v := ?_) rfl (by kernel_rfl) (by kernel_rfl) (by kernel_rfl) (fun _ _ _ h => h) (Or.inl ⟨by rfl, ?_⟩) (by assumption) ?_
          rotate_left
          · (intro wz hSw; (try dsimp only at hSw); go_simp; try with_reducible rfl)
          try simp only [Act.put, List.setIfInBounds_toArray, List.set_cons_zero, List.set_cons_succ]
          refine wpAnyH_take (i := 16) (oi := { dst := some 102, op := Op.binOp BinOp.geq 3 (Operand.tmp 101) (Operand.const (Value.int IntKind.i64 64)) 3, type := 4, pos := "law.go:115", after := #[{ on := 15, ground := Ground.data }, { on := 14, ground := Ground.guard }], guard := some (14, false) }) (v := ?_) rfl (by kernel_rfl) (by kernel_rfl) (by kernel_rfl) (fun _ _ _ h => h) (Or.inl ⟨by rfl, ?_⟩) (by assumption) ?_
          rotate_left
          · (intro wz hSw; (try dsimp only at hSw); go_simp; try with_reducible rfl)
          try simp only [Act.put, List.setIfInBounds_toArray, List.set_cons_zero, List.set_cons_succ]
          refine wpAnyH_take (i := 17) (oi := { dst := some 103, op := Op.move (Operand.tmp 102), type := 4, pos := "law.go:115", after := #[{ on := 16, ground := Ground.data }, { on := 14, ground := Ground.chain }, { on := 14, ground := Ground.guard }], guard := some (14, false) }) (v := ?_) rfl (by kernel_rfl) (by kernel_rfl) (by kernel_rfl) (fun _ _ _ h => h) (Or.inl ⟨by rfl, ?_⟩) (by assumption) ?_
          rotate_left
          · (intro wz hSw; (try dsimp only at hSw); go_simp; try with_reducible rfl)
          try simp only [Act.put, List.setIfInBounds_toArray, List.set_cons_zero, List.set_cons_succ]
          refine wpAnyH_take (i := 18) (oi := { dst := some 104, op := Op.load 51 (Operand.tmp 11), type := 51, pos := "law.go:115", after := #[{ on := 17, ground := Ground.guard }], guard := some (17, true) }) (v := undef) rfl (by kernel_rfl) (by kernel_rfl) (by kernel_rfl) (fun _ _ _ h => h) (Or.inr ⟨by rfl, rfl⟩) (by assumption) ?_
          try simp only [Act.put, List.setIfInBounds_toArray, List.set_cons_zero, List.set_cons_succ]
          refine wpAnyH_take (i := 19) (oi := { dst := some 105, op := Op.load 47 (Operand.tmp 5), type := 47, pos := "law.go:115", after := #[{ on := 17, ground := Ground.guard }], guard := some (17, true) }) (v := undef) rfl (by kernel_rfl) (by kernel_rfl) (by kernel_rfl) (fun _ _ _ h => h) (Or.inr ⟨by rfl, rfl⟩) (by assumption) ?_
          try simp only [Act.put, List.setIfInBounds_toArray, List.set_cons_zero, List.set_cons_succ]
          refine wpAnyH_take (i := 20) (oi := { dst := some 106, op := Op.call { callee := Callee.value (Operand.func 23), args := #[Operand.tmp 105], argTypes := #[47] }, type := 51, pos := "law.go:115", after := #[{ on := 19, ground := Ground.data }, { on := 17, ground := Ground.chain }, { on := 17, ground := Ground.guard }], guard := some (17, true) }) (v := undef) rfl (by kernel_rfl) (by kernel_rfl) (by kernel_rfl) (fun _ _ _ h => h) (Or.inr ⟨by rfl, rfl⟩) (by assumption) ?_
          try simp only [Act.put, List.setIfInBounds_toArray, List.set_cons_zero, List.set_cons_succ]
          refine wpAnyH_take (i := 21) (oi := { dst := some 107, op := Op.binOp BinOp.neq 51 (Operand.tmp 104) (Operand.tmp 106) 51, type := 4, pos := "law.go:115", after := #[{ on := 18, ground := Ground.data }, { on := 20, ground := Ground.data }, { on := 17, ground := Ground.guard }], guard := some (17, true) }) (v := undef) rfl (by kernel_rfl) (by kernel_rfl) (by kernel_rfl) (fun _ _ _ h => h) (Or.inr ⟨by rfl, rfl⟩) (by assumption) ?_
          try simp only [Act.put, List.setIfInBounds_toArray, List.set_cons_zero, List.set_cons_succ]
          refine wpAnyH_take (i := 22) (oi := { dst := some 108, op := Op.pick (Operand.tmp 103) (Operand.tmp 107) (Operand.const (Value.bool false)), type := 4, pos := "law.go:115", after := #[{ on := 17, ground := Ground.data }, { on := 21, ground := Ground.data }, { on := 14, ground := Ground.guard }], guard := some (14, false) }) (v := ?_) rfl (by kernel_rfl) (by kernel_rfl) (by kernel_rfl) (fun _ _ _ h => h) (Or.inl ⟨by rfl, ?_⟩) (by assumption) ?_
          rotate_left
          · (intro wz hSw; (try dsimp only at hSw); go_simp; try with_reducible rfl)
          try simp only [Act.put, List.setIfInBounds_toArray, List.set_cons_zero, List.set_cons_succ]
          refine wpAnyH_take (i := 23) (oi := { dst := some 109, op := Op.pick (Operand.tmp 100) (Operand.const (Value.bool true)) (Operand.tmp 108), type := 4, pos := "law.go:115", after := #[{ on := 14, ground := Ground.data }, { on := 22, ground := Ground.data }], guard := none }) (v := ?_) rfl (by kernel_rfl) (by kernel_rfl) (by kernel_rfl) (fun _ _ _ h => h) (Or.inl ⟨by rfl, ?_⟩) (by assumption) ?_
          rotate_left
          · (intro wz hSw; (try dsimp only at hSw); go_simp; try with_reducible rfl)
          try simp only [Act.put, List.setIfInBounds_toArray, List.set_cons_zero, List.set_cons_succ]
          refine wpAnyH_done (by kernel_rfl) ?_ _
          go_wp2_with fail
          go_meet
          exact ⟨rfl, H2.out.1, H2.out.2.1⟩
    case rest =>
      obtain ⟨rfl, hT, hK⟩ := hcut
      have HT20 := Lib.hid hT
      have HK20 := Lib.hid hK
      clear hT hK HT18 HD19 HG18 HR HO HL4 HOwx
      obtain ⟨Mw, hMw⟩ : ∃ M, ({ mc with S := mc.T } : DiskM) = M := ⟨_, rfl⟩
      have HSy : Hid (∀ wx, DiskAt mc wx → Calls Try.prog 32 #[.pointer (some ⟨c, 0, none⟩)] wx fun e w' => e = .returned (.int .i64 0) ∧ DiskAt Mw w' ∧ Grew mc.own wx w') := Lib.hid fun wx hw => by
        have := lawSync_live c mc HMc.out.1 HMc.out.2.1 wx hw
        rw [hMw] at this
        exact this
      obtain ⟨M6, hM6⟩ : ∃ M, Mw.crashed (cutOf 0 fun _ => 0) = M := ⟨_, rfl⟩
      have HCr : Hid (∀ wx, DiskAt Mw wx → Calls Try.prog 16 #[.pointer (some ⟨c, 0, none⟩), .slice none 0 0] wx fun e w' => e = .returned (.tuple #[]) ∧ DiskAt M6 w' ∧ Grew mc.own wx w') := Lib.hid fun wx hw => by
        have := crash_any Mw none 0 0 (fun _ => 0) wx hw (Or.inl rfl)
        rw [show Mw.d = c by rw [← hMw]; exact HMc.out.1, show Mw.own = mc.own by rw [← hMw]; rfl, hM6] at this
        exact this
      have HM6 : Hid (M6.d = c ∧ M6.dead = false ∧ lastOf M6 = (⟨ey, jt, bt, pt, nt⟩ : Sup)) := Lib.hid (by
        refine ⟨by rw [← hM6, crashed_d, ← hMw]; exact HMc.out.1, by rw [← hM6]; rfl, ?_⟩
        rw [← hM6]
        exact HTM.out.whole HTS.out (by rw [← hMw]; exact HMc.out.2.2.1.trans HTM.out.n.symm) (by rw [← hMw]; exact HMc.out.2.2.2.1) (by rw [← hMw]; exact HMc.out.2.2.2.1) _ fun q => cutOf_le _ _ q)
      have HO2 : Hid (∀ k, mc.own k → b2 < k) := Lib.hid HMc.out.2.2.2.2.2
      clear hMw hM6 HTM HMc
      go_wp2_with fail
      refine (HSy.out _ HK20.out).mono ?_
      rintro e w21 ⟨rfl, hd, hg⟩
      have HT21 := Lib.hid (HT20.out.grew hg HO2.out)
      have HD21 := Lib.hid hd
      clear hd hg HT20 HK20 HSy
      go_wp2_with fail
      refine (HCr.out _ HD21.out).mono ?_
      rintro e w22 ⟨rfl, hd, hg⟩
      have HT22 := Lib.hid (HT21.out.grew hg HO2.out)
      have HD22 := Lib.hid hd
      clear hd hg HT21 HD21 HCr
      have HRd := Lib.hid (lawSupRead_any c M6 HM6.out.1 HM6.out.2.1 w22 HD22.out)
      have HEp : Hid (¬ (lastOf M6).ep = 0) := Lib.hid (by
        have e1 := HTS.out.e1
        have e2 := HTS.out.e2
        dsimp only at e1 e2
        rw [HM6.out.2.2]
        show ¬ ey = 0
        omega)
      unfold lastE at HRd
      rw [if_neg HEp.out, HM6.out.2.2] at HRd
      dsimp only [Sup.cells] at HRd
      clear HEp HM6 HD22 HTS
      go_wp2_with fail
      refine HRd.out.mono ?_
      rintro e w23 ⟨rfl, hb⟩
      have HT23 := Lib.hid ((HT22.out.step hb).alloc (.cells #[.int .u32 ey, .int .i64 jt, .int .i64 bt, .int .i64 pt, .int .u32 nt] 51))
      have HG23 := Lib.hid (Holds.new w23 (.cells #[.int .u32 ey, .int .i64 jt, .int .i64 bt, .int .i64 pt, .int .u32 nt] 51))
      clear hb HT22 HRd
      go_upto_region 19 with fail
      generalize w23.alloc (.cells #[.int .u32 ey, .int .i64 jt, .int .i64 bt, .int .i64 pt, .int .u32 nt] 51) = w24 at *
      generalize w23.heap.size = g2 at *
      have H0 : Hid (Tri w b0 b1 b2 (refBox ex js bs ps ns) (refBox ey jt bt pt nt) (refBox eo ju bu pu nu) w24.drew ∧ Holds g2 (.cells #[.int .u32 ey, .int .i64 jt, .int .i64 bt, .int .i64 pt, .int .u32 nt] 51) w24.drew) := Lib.hid ⟨HT23.out.drew, HG23.out.drew⟩
      have HB : Hid (∀ wx wy, Tri w b0 b1 b2 (refBox ex js bs ps ns) (refBox ey jt bt pt nt) (refBox eo ju bu pu nu) wx ∧ Holds g2 (.cells #[.int .u32 ey, .int .i64 jt, .int .i64 bt, .int .i64 pt, .int .u32 nt] 51) wx → Below wx.heap.size wx wy → Tri w b0 b1 b2 (refBox ex js bs ps ns) (refBox ey jt bt pt nt) (refBox eo ju bu pu nu) wy ∧ Holds g2 (.cells #[.int .u32 ey, .int .i64 jt, .int .i64 bt, .int .i64 pt, .int .u32 nt] 51) wy) := Lib.hid fun wx wy h hb => ⟨h.1.step hb, h.2.below hb⟩
      clear HT23 HG23
      go_region_held3 (fun wx => (wx.cell? ⟨g2, 0, none⟩ = some (.int .u32 ey) ∧ wx.cell? ⟨g2, 1, none⟩ = some (.int .i64 jt) ∧ wx.cell? ⟨g2, 2, none⟩ = some (.int .i64 bt) ∧ wx.cell? ⟨g2, 3, none⟩ = some (.int .i64 pt) ∧ wx.cell? ⟨g2, 4, none⟩ = some (.int .u32 nt)) ∧ (wx.cell? ⟨b1, 0, none⟩ = some (.int .i64 ey) ∧ wx.cell? ⟨b1, 1, none⟩ = some (.int .i64 jt) ∧ wx.cell? ⟨b1, 2, none⟩ = some (.int .i64 bt) ∧ wx.cell? ⟨b1, 3, none⟩ = some (.int .i64 pt) ∧ wx.cell? ⟨b1, 4, none⟩ = some (.int .i64 nt)))
        (first | (with_reducible exact keep10 H0.out) | (with_reducible exact keep10 H1.out))
        (first | (go_at_call 23; (with_reducible refine (HOwy.out w24.drew).mono ?_); rintro e wa ⟨rfl, hba⟩; (have H1 := Lib.hid (HB.out _ _ H0.out hba)); clear hba))
      all_goals
        go_wp2_with fail
        go_ret
        exact ⟨rfl, H1.out.1.below⟩
end Go.Proofs.Ytnkmidfdpjcdaaa
