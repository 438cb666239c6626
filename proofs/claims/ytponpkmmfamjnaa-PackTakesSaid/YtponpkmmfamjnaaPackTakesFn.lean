/-
  PackTakes' own function: things are taken till one fails.
-/
import Derived.Test.YtponpkmmfamjnaaPackTakesDo
import Derived.Deep.LoopGhost
import Derived.Deep.DeepCutAuto
import Derived.Deep.RegionHeld3
import Derived.Deep.CutBlock
import Derived.Deep.RegionWith
namespace Go.Proofs.Ytponpkmmfamjnaa
open Go.RowKit

/-- how the function ends: all was taken, or a thing failed -/
def TakesTo (g : TAt) (w : World) (e : Ending) (w' : World) : Prop :=
  ∃ (o : Option Int) (s : ByteArray) (x : Int) (d : Nat), e = Ends o ∧ TInv g s x s d w' ∧ Grew g.writes w w' ∧ ((o = none ∧ x = 0 ∧ d = g.most) ∨ (x ≠ 0 ∧ o = some x))

/-- a struct of two fields in a block of its own -/
structure Pair (b : Nat) (s : ByteArray) (e : Int) (w : World) : Prop where
  lt : b < w.heap.size
  c0 : w.cell? ⟨b, 0, none⟩ = some (.string s)
  c1 : w.cell? ⟨b, 1, none⟩ = some (.int .i64 e)

abbrev pairBox : Obj := .cells #[.string ⟨#[]⟩, .int .i64 0] 28
theorem TInv.alloc {g : TAt} {s z : ByteArray} {e : Int} {d : Nat} {w : World} (h : TInv g s e z d w) (o : Obj) : TInv g s e z d (w.alloc o) := h.grew ((Grew.refl w).alloc o)
theorem TInv.free {g : TAt} {s z : ByteArray} {e : Int} {d : Nat} {w : World} {b : Nat} {v0 v1 : Value} (h : TInv g s e z d w) (hb : g.y + 4 < b) : TInv g s e z d ((w.setCell ⟨b, 0, none⟩ v0).setCell ⟨b, 1, none⟩ v1) := by
  have h1 := h.hl
  have h2 := h.hb
  have f : ∀ a, w.frozen? a = false → ((w.setCell ⟨b, 0, none⟩ v0).setCell ⟨b, 1, none⟩ v1).frozen? a = false := fun a ha => by rw [World.frozen?_setCell, World.frozen?_setCell]; exact ha
  have c : ∀ b' o v, b' ≠ b → w.cell? ⟨b', o, none⟩ = some v → ((w.setCell ⟨b, 0, none⟩ v0).setCell ⟨b, 1, none⟩ v1).cell? ⟨b', o, none⟩ = some v := fun b' o v hb hc => cell_apart (Or.inl hb) (cell_apart (Or.inl hb) hc)
  exact ⟨h1, h2, by simpa [World.setCell] using h.hy, c _ _ _ (by omega) h.cL, c _ _ _ (by omega) h.cZ, f _ h.fZ, c _ _ _ (by omega) h.cI, c _ _ _ (by omega) h.cS, f _ h.fS, c _ _ _ (by omega) h.cE, f _ h.fE, c _ _ _ (by omega) h.cF, f _ h.fF, c _ _ _ (by omega) h.cD, f _ h.fD,
    fun k hk => ⟨c _ _ _ (by omega) (h.row k hk).1, c _ _ _ (by omega) (h.row k hk).2.1, c _ _ _ (by omega) (h.row k hk).2.2⟩⟩
theorem pair_kept {w w1 : World} (hb : Below (w.alloc pairBox).drew.heap.size (w.alloc pairBox).drew w1) :
    w.heap.size < w1.heap.size ∧ w1.cell? ⟨w.heap.size, 0, none⟩ = some (.string ⟨#[]⟩) ∧ w1.cell? ⟨w.heap.size, 1, none⟩ = some (.int .i64 0) ∧ w1.frozen? ⟨w.heap.size, 0, none⟩ = false ∧ w1.frozen? ⟨w.heap.size, 1, none⟩ = false := by
  have hs : w.heap.size < (w.alloc pairBox).drew.heap.size := by show _ < (w.alloc pairBox).heap.size; simp
  have e : ∀ o, (w.alloc pairBox).cell? ⟨w.heap.size, o, none⟩ = (#[Value.string ⟨#[]⟩, .int .i64 0] : Array Value)[o]? := fun o => World.cell?_alloc_new _ _ _ o
  refine ⟨Nat.lt_of_lt_of_le hs hb.size, ?_, ?_, ?_, ?_⟩
  · rw [hb.cell (p := ⟨w.heap.size, 0, none⟩) hs]; show (w.alloc pairBox).cell? _ = _; rw [e]; rfl
  · rw [hb.cell (p := ⟨w.heap.size, 1, none⟩) hs]; show (w.alloc pairBox).cell? _ = _; rw [e]; rfl
  · rw [hb.frozen (p := ⟨w.heap.size, 0, none⟩) hs]; show (w.alloc pairBox).frozen? _ = _; simp
  · rw [hb.frozen (p := ⟨w.heap.size, 1, none⟩) hs]; show (w.alloc pairBox).frozen? _ = _; simp
theorem pair_new (w : World) (s : ByteArray) (e : Int) (t : TypeId) : Pair w.heap.size s e (w.alloc (.cells #[.string s, .int .i64 e] t)) :=
  ⟨by simp, by rw [World.cell?_alloc_new]; rfl, by rw [World.cell?_alloc_new]; rfl⟩
theorem pair_put {w : World} {b : Nat} {s : ByteArray} {e : Int} {u0 u1 : Value} (hb : b < w.heap.size) (c0 : w.cell? ⟨b, 0, none⟩ = some u0) (c1 : w.cell? ⟨b, 1, none⟩ = some u1) : Pair b s e ((w.setCell ⟨b, 0, none⟩ (.string s)).setCell ⟨b, 1, none⟩ (.int .i64 e)) :=
  ⟨by simpa [World.setCell] using hb, (pair_set0 c0 c1).1, (pair_set0 c0 c1).2⟩
/-- the program's call answers, where nothing fails -/
theorem Gives.ok {f : FuncId} {args : Array Value} {y : Nat} {z : ByteArray} {r : Took} {v : Value} (h : Gives f args y z r v) (he : r.e = 0) : Hid (∀ w : World, w.cell? ⟨y, 0, none⟩ = some (.string z) → w.frozen? ⟨y, 0, none⟩ = false →
    Calls Try.prog f args w fun e w' => e = .returned v ∧ w.setCell ⟨y, 0, none⟩ (.string r.s) = w') := fun w hc hz => (h w hc hz).mono fun e w' hh => by
  rcases hh with ⟨_, h1, h2⟩ | ⟨h0, _⟩
  · exact ⟨h1, h2⟩
  · exact absurd he h0
theorem Gives.not {f : FuncId} {args : Array Value} {y : Nat} {z : ByteArray} {r : Took} {v : Value} (h : Gives f args y z r v) (he : r.e ≠ 0) : Hid (∀ w : World, w.cell? ⟨y, 0, none⟩ = some (.string z) → w.frozen? ⟨y, 0, none⟩ = false →
    Calls Try.prog f args w fun e w' => e = failed r.e ∧ w.setCell ⟨y, 0, none⟩ (.string r.s) = w') := fun w hc hz => (h w hc hz).mono fun e w' hh => by
  rcases hh with ⟨h0, _⟩ | ⟨_, h1, h2 | ⟨rfl, h3⟩⟩
  · exact absurd h0 he
  · exact ⟨h1, h2⟩
  · exact ⟨h1, by rw [h3]; exact same_cell hc⟩
set_option maxRecDepth 100000 in
set_option maxHeartbeats 8000000 in
theorem takesFn_any (g : TAt) (s0 : ByteArray) (w : World) (hs : s0.size ≤ 100) (_hle : g.le ≤ maxLen) (h : TInv g s0 0 s0 0 w) :
    Calls Try.prog 15 #[.pointer (some ⟨g.bl, 0, none⟩), .pointer (some ⟨g.y + 2, 0, none⟩), .pointer (some ⟨g.y + 1, 0, none⟩), .pointer (some ⟨g.y + 3, 0, none⟩), .pointer (some ⟨g.y + 4, 0, none⟩)] w (TakesTo g w) := by
  have H := Lib.hid h
  clear h
  have hmo : g.most ≤ 15 ∧ g.most ≤ g.le ∧ (g.most = 15 ∨ g.most = g.le) := by unfold TAt.most; omega
  unfold maxLen at _hle
  go_enter Try.func15, Try.ntmps15
  go_wp2_with fail
  go_loopg [5] g.most (fun gk i wx => ∃ (k : Nat) (s : ByteArray), k ≤ g.most ∧ gk = g.most - k ∧ i = .int .i64 k ∧ s.size ≤ 100 ∧ TInv g s 0 s k wx ∧ Grew g.writes w wx)
  case atStart => exact ⟨0, s0, by omega, by omega, rfl, hs, H.out, Grew.refl _⟩
  case round =>
    clear H hs
    obtain ⟨k, s, hk, rfl, rfl, hs, hI, hG⟩ := hrel
    have cL := hI.cL
    have cS := hI.cS
    have cE := hI.cE
    have HI := Lib.hid hI
    have HG := Lib.hid hG
    clear hG
    by_cases hlt : k < g.most
    · obtain ⟨rw0, rw1, rw2⟩ := hI.row k hlt
      clear hI
      obtain ⟨p, hp, _⟩ := and255 (g.kd k)
      obtain ⟨r, hD, hT⟩ := took_any g k p s hp (by unfold maxLen; omega)
      have HT := Lib.hid hT
      have HRef := Lib.hid hD.ref
      have hrs : r.s.size ≤ 100 := Nat.le_trans hD.le hs
      clear hT hD
      unfold inOf at HRef
      have HK : Hid (∀ wx : World, TInv g s 0 s k wx → wx.cell? ⟨g.y + 2, 0, none⟩ = some (.string s) ∧ wx.cell? ⟨g.y + 2, 1, none⟩ = some (.int .i64 0) ∧ wx.cell? ⟨g.bl, 0, none⟩ = some (.slice (some ⟨g.be, g.oe, none⟩) g.le g.ce) ∧
        wx.cell? ⟨g.be, g.oe + k * 3, none⟩ = some (.int .i64 (g.kd k)) ∧ wx.cell? ⟨g.be, g.oe + k * 3 + 1, none⟩ = some (.int .i64 (g.n k)) ∧ wx.cell? ⟨g.be, g.oe + k * 3 + 2, none⟩ = some (.int .u64 (g.mo k))) := Lib.hid fun wx i => ⟨i.cS, i.cE, i.cL, i.row k hlt⟩
      go_wp2_with fail
      go_cut [6, 7, 8] (fun p6 p7 p8 wx => ∃ yb, p6 = .pointer (some ⟨yb, 0, none⟩) ∧ p7 = .int .u64 r.x ∧ p8 = .string r.t ∧ Pair yb r.s r.e wx ∧ g.y + 4 < yb ∧ TInv g s 0 s k wx ∧ Grew g.writes w wx)
      case first =>
        go_region_held3 (fun wx => wx.cell? ⟨g.y + 2, 0, none⟩ = some (.string s) ∧ wx.cell? ⟨g.y + 2, 1, none⟩ = some (.int .i64 0) ∧ wx.cell? ⟨g.bl, 0, none⟩ = some (.slice (some ⟨g.be, g.oe, none⟩) g.le g.ce) ∧
          wx.cell? ⟨g.be, g.oe + k * 3, none⟩ = some (.int .i64 (g.kd k)) ∧ wx.cell? ⟨g.be, g.oe + k * 3 + 1, none⟩ = some (.int .i64 (g.n k)) ∧ wx.cell? ⟨g.be, g.oe + k * 3 + 2, none⟩ = some (.int .u64 (g.mo k)))
          (first | exact HK.out _ HI.out.drew | exact HK.out _ (HI.out.alloc _).drew | exact HK.out _ HI1.out | exact HK.out _ (HI1.out.alloc _) | exact HK.out _ (HI1.out.free hyb))
          (first
            | (go_at_call 16; (with_reducible refine (HRef.out wr.drew).mono ?_); rintro e w1 ⟨rfl, hb1⟩; (have HI1 := Lib.hid (HI.out.drew.grew (Grew.of_below hb1))); (have HG1 := Lib.hid (HG.out.trans ((Grew.refl wr).drew.trans (Grew.of_below hb1)))); clear hb1)
            | (go_at_call 16; (with_reducible refine (HRef.out (wr.alloc pairBox).drew).mono ?_); rintro e w1 ⟨rfl, hb1⟩; (have HI1 := Lib.hid ((HI.out.alloc _).drew.grew (Grew.of_below hb1))); (have HG1 := Lib.hid (HG.out.trans (((Grew.refl wr).alloc _).drew.trans (Grew.of_below hb1)))); (obtain ⟨hz1, x0, x1, y0, y1⟩ := pair_kept hb1); (have hyb : g.y + 4 < wr.heap.size := HI.out.hy); clear hb1))
        all_goals
          go_wp2_with fail
          go_meet
          first
            | exact ⟨_, rfl, rfl, rfl, pair_new _ _ _ _, HI1.out.hy, HI1.out.alloc _, HG1.out.alloc _⟩
            | exact ⟨_, rfl, rfl, rfl, pair_put hz1 x0 x1, hyb, HI1.out.free hyb, (HG1.out.setCell _ _ fun h => absurd h (Nat.not_lt.2 HG.out.size)).setCell _ _ fun h => absurd h (Nat.not_lt.2 HG.out.size)⟩
      case rest =>
        obtain ⟨yb, rfl, rfl, rfl, hPr, hyb, hI2, hG2⟩ := hcut
        have c0 := hPr.c0
        have c1 := hPr.c1
        have fS := hI2.fS
        have fE := hI2.fE
        have cS2 := hI2.cS
        have cE2 := hI2.cE
        have HI3 : Hid (TInv g r.s r.e s k ((wc.setCell ⟨g.y + 2, 0, none⟩ (.string r.s)).setCell ⟨g.y + 2, 1, none⟩ (.int .i64 r.e))) := Lib.hid (hI2.setX r.s r.e)
        have HG3 : Hid (Grew g.writes w ((wc.setCell ⟨g.y + 2, 0, none⟩ (.string r.s)).setCell ⟨g.y + 2, 1, none⟩ (.int .i64 r.e))) := Lib.hid ((hG2.setCell _ _ fun _ => by show g.y ≤ g.y + 2 ∧ g.y + 2 ≤ g.y + 4; omega).setCell _ _ fun _ => by show g.y ≤ g.y + 2 ∧ g.y + 2 ≤ g.y + 4; omega)
        have hne : ¬ yb = g.y + 2 := by omega
        clear hPr hI2 hG2 HRef HK HI HG cS cE cL rw0 rw1 rw2
        have cL3 := HI3.out.cL
        obtain ⟨r30, r31, r32⟩ := HI3.out.row k hlt
        go_upto_block 2 with (fail)
        generalize (wc.setCell ⟨g.y + 2, 0, none⟩ (.string r.s)).setCell ⟨g.y + 2, 1, none⟩ (.int .i64 r.e) = W3 at *
        clear c0 c1 fS fE cS2 cE2 cL3 r30 r31 r32 hne hyb
        go_cut [] (fun wx => r.e = 0 ∧ TInv g r.s 0 r.s k wx ∧ Grew g.writes w wx)
        case first =>
          have HK2 : Hid (∀ (z : ByteArray) (wx : World), TInv g r.s 0 z k wx → wx.cell? ⟨g.y + 1, 0, none⟩ = some (.pointer (some ⟨g.y, 0, none⟩)) ∧ wx.cell? ⟨g.bl, 0, none⟩ = some (.slice (some ⟨g.be, g.oe, none⟩) g.le g.ce) ∧ wx.cell? ⟨g.be, g.oe + k * 3 + 1, none⟩ = some (.int .i64 (g.n k)) ∧ wx.cell? ⟨g.be, g.oe + k * 3 + 2, none⟩ = some (.int .u64 (g.mo k)) ∧ wx.cell? ⟨g.y + 3, 0, none⟩ = some (.bool true)) := Lib.hid fun z wx i => ⟨i.cI, i.cL, (i.row k hlt).2.1, (i.row k hlt).2.2, i.cF⟩
          have cI3 := HI3.out.cI
          by_cases he : r.e = 0
          · have HI4 : Hid (TInv g r.s 0 s k W3) := Lib.hid (by have := HI3.out; rw [he] at this; exact this)
            have cF4 : (W3.setCell ⟨g.y, 0, none⟩ (.string r.s)).cell? ⟨g.y + 3, 0, none⟩ = some (.bool true) := (HI4.out.setIn r.s).cF
            have fF4 : (W3.setCell ⟨g.y, 0, none⟩ (.string r.s)).frozen? ⟨g.y + 3, 0, none⟩ = false := (HI4.out.setIn r.s).fF
            clear HI3
            rcases HT.out with ⟨hq, hg⟩ | ⟨hq, hg⟩ | ⟨hq, hx, hg⟩ | ⟨hq, hg⟩ | ⟨hq, hg⟩
            · have HC := hg.ok he
              have q0 : (((p : Int) % 5) == 0) = true := by simp; omega
              clear hq hg HT
              go_wp2_with fail
              go_region_held3 (fun wx => wx.cell? ⟨g.y + 1, 0, none⟩ = some (.pointer (some ⟨g.y, 0, none⟩)) ∧ wx.cell? ⟨g.bl, 0, none⟩ = some (.slice (some ⟨g.be, g.oe, none⟩) g.le g.ce) ∧ wx.cell? ⟨g.be, g.oe + k * 3 + 1, none⟩ = some (.int .i64 (g.n k)) ∧ wx.cell? ⟨g.be, g.oe + k * 3 + 2, none⟩ = some (.int .u64 (g.mo k)) ∧ wx.cell? ⟨g.y + 3, 0, none⟩ = some (.bool true))
                (first | exact HK2.out _ _ HI4.out.drew | exact HK2.out _ _ (HI4.out.setIn _).drew | exact HK2.out _ _ (HI4.out.setIn _).setFine.drew)
                (first | (go_at_call 17; (with_reducible refine (HC.out _ ?_ ?_).mono ?_); (focus (exact HI4.out.cZ)); (focus (exact HI4.out.fZ)); rintro e w' ⟨rfl, rfl⟩))
              all_goals
                go_wp2_with fail
                go_meet
                exact ⟨he, (HI4.out.setIn _).setFine.drew, ((HG3.out.setCell _ _ fun _ => by show g.y ≤ g.y ∧ g.y ≤ g.y + 4; omega).setCell _ _ fun _ => by show g.y ≤ g.y + 3 ∧ g.y + 3 ≤ g.y + 4; omega).drew⟩
            · have HC := hg.ok he
              have q0 : (((p : Int) % 5) == 0) = false := by simp; omega
              have q1 : (((p : Int) % 5) == 1) = true := by simp; omega
              clear hq hg HT
              go_wp2_with fail
              go_region_held3 (fun wx => wx.cell? ⟨g.y + 1, 0, none⟩ = some (.pointer (some ⟨g.y, 0, none⟩)) ∧ wx.cell? ⟨g.bl, 0, none⟩ = some (.slice (some ⟨g.be, g.oe, none⟩) g.le g.ce) ∧ wx.cell? ⟨g.be, g.oe + k * 3 + 1, none⟩ = some (.int .i64 (g.n k)) ∧ wx.cell? ⟨g.be, g.oe + k * 3 + 2, none⟩ = some (.int .u64 (g.mo k)) ∧ wx.cell? ⟨g.y + 3, 0, none⟩ = some (.bool true))
                (first | exact HK2.out _ _ HI4.out.drew | exact HK2.out _ _ (HI4.out.setIn _).drew | exact HK2.out _ _ (HI4.out.setIn _).setFine.drew)
                (first | (go_at_call 18; (with_reducible refine (HC.out _ ?_ ?_).mono ?_); (focus (exact HI4.out.cZ)); (focus (exact HI4.out.fZ)); rintro e w' ⟨rfl, rfl⟩))
              all_goals
                go_wp2_with fail
                go_meet
                exact ⟨he, (HI4.out.setIn _).setFine.drew, ((HG3.out.setCell _ _ fun _ => by show g.y ≤ g.y ∧ g.y ≤ g.y + 4; omega).setCell _ _ fun _ => by show g.y ≤ g.y + 3 ∧ g.y + 3 ≤ g.y + 4; omega).drew⟩
            · have HC := hg.ok he
              have q0 : (((p : Int) % 5) == 0) = false := by simp; omega
              have q1 : (((p : Int) % 5) == 1) = false := by simp; omega
              have q2 : (((p : Int) % 5) == 2) = true := by simp; omega
              unfold top at hx
              have hx2 : IntKind.u64.wrap (r.x : Int) = (r.x : Int) := by simp only [IntKind.wrap, IntKind.bits, IntKind.signed]; simp; omega
              clear hq hg HT
              go_wp2_with fail
              go_region_held3 (fun wx => wx.cell? ⟨g.y + 1, 0, none⟩ = some (.pointer (some ⟨g.y, 0, none⟩)) ∧ wx.cell? ⟨g.bl, 0, none⟩ = some (.slice (some ⟨g.be, g.oe, none⟩) g.le g.ce) ∧ wx.cell? ⟨g.be, g.oe + k * 3 + 1, none⟩ = some (.int .i64 (g.n k)) ∧ wx.cell? ⟨g.be, g.oe + k * 3 + 2, none⟩ = some (.int .u64 (g.mo k)) ∧ wx.cell? ⟨g.y + 3, 0, none⟩ = some (.bool true))
                (first | exact HK2.out _ _ HI4.out.drew | exact HK2.out _ _ (HI4.out.setIn _).drew | exact HK2.out _ _ (HI4.out.setIn _).setFine.drew)
                (first | (go_at_call 19; (with_reducible refine (HC.out _ ?_ ?_).mono ?_); (focus (exact HI4.out.cZ)); (focus (exact HI4.out.fZ)); rintro e w' ⟨rfl, rfl⟩))
              all_goals
                go_wp2_with fail
                go_meet
                exact ⟨he, (HI4.out.setIn _).setFine.drew, ((HG3.out.setCell _ _ fun _ => by show g.y ≤ g.y ∧ g.y ≤ g.y + 4; omega).setCell _ _ fun _ => by show g.y ≤ g.y + 3 ∧ g.y + 3 ≤ g.y + 4; omega).drew⟩
            · have HC := hg.ok he
              have q0 : (((p : Int) % 5) == 0) = false := by simp; omega
              have q1 : (((p : Int) % 5) == 1) = false := by simp; omega
              have q2 : (((p : Int) % 5) == 2) = false := by simp; omega
              have q3 : (((p : Int) % 5) == 3) = true := by simp; omega
              clear hq hg HT
              go_wp2_with fail
              refine (HC.out _ HI4.out.cZ HI4.out.fZ).mono ?_
              rintro e w' ⟨rfl, rfl⟩
              go_wp2_with fail
              go_meet
              exact ⟨he, HI4.out.setIn _, HG3.out.setCell _ _ fun _ => by show g.y ≤ g.y ∧ g.y ≤ g.y + 4; omega⟩
            · have HC := hg.ok he
              have q0 : (((p : Int) % 5) == 0) = false := by simp; omega
              have q1 : (((p : Int) % 5) == 1) = false := by simp; omega
              have q2 : (((p : Int) % 5) == 2) = false := by simp; omega
              have q3 : (((p : Int) % 5) == 3) = false := by simp; omega
              clear hq hg HT
              go_wp2_with fail
              refine (HC.out _ HI4.out.cZ HI4.out.fZ).mono ?_
              rintro e w' ⟨rfl, rfl⟩
              go_wp2_with fail
              go_meet
              exact ⟨he, HI4.out.setIn _, HG3.out.setCell _ _ fun _ => by show g.y ≤ g.y ∧ g.y ≤ g.y + 4; omega⟩
          · have cF4 : (W3.setCell ⟨g.y, 0, none⟩ (.string r.s)).cell? ⟨g.y + 3, 0, none⟩ = some (.bool true) := (HI3.out.setIn r.s).cF
            have fF4 : (W3.setCell ⟨g.y, 0, none⟩ (.string r.s)).frozen? ⟨g.y + 3, 0, none⟩ = false := (HI3.out.setIn r.s).fF
            have cL4 := HI3.out.cL
            obtain ⟨_, rn, rm⟩ := HI3.out.row k hlt
            have HEnd : Hid (TakesTo g w (failed r.e) (W3.setCell ⟨g.y, 0, none⟩ (.string r.s))) := Lib.hid ⟨some r.e, r.s, r.e, k, rfl, HI3.out.setIn _, HG3.out.setCell _ _ fun _ => by show g.y ≤ g.y ∧ g.y ≤ g.y + 4; omega, Or.inr ⟨he, rfl⟩⟩
            have HEndD : Hid (TakesTo g w (failed r.e) (W3.setCell ⟨g.y, 0, none⟩ (.string r.s)).drew) := Lib.hid ⟨some r.e, r.s, r.e, k, rfl, (HI3.out.setIn _).drew, (HG3.out.setCell _ _ fun _ => by show g.y ≤ g.y ∧ g.y ≤ g.y + 4; omega).drew, Or.inr ⟨he, rfl⟩⟩
            rcases HT.out with ⟨hq, hg⟩ | ⟨hq, hg⟩ | ⟨hq, hx, hg⟩ | ⟨hq, hg⟩ | ⟨hq, hg⟩
            · have HC := hg.not he
              have q0 : (((p : Int) % 5) == 0) = true := by simp; omega
              clear hq hg HT HK2
              go_wp2_with fail
              go_region_with (first
                | (go_at_call 17; refine (HC.out _ ?_ ?_).mono ?_; (focus (exact HI3.out.cZ)); (focus (exact HI3.out.fZ)); rintro e w' ⟨he', rfl⟩; refine phantom (fun _ => ?_) (fun hF => ?_); (focus (subst he'; exact ⟨rfl, HEndD.out⟩)); (obtain rfl : e = .returned (.string r.t) := hF.out.elim)))
              all_goals exact hF.out.elim
            · have HC := hg.not he
              have q0 : (((p : Int) % 5) == 0) = false := by simp; omega
              have q1 : (((p : Int) % 5) == 1) = true := by simp; omega
              clear hq hg HT HK2
              go_wp2_with fail
              go_region_with (first
                | (go_at_call 18; refine (HC.out _ ?_ ?_).mono ?_; (focus (exact HI3.out.cZ)); (focus (exact HI3.out.fZ)); rintro e w' ⟨he', rfl⟩; refine phantom (fun _ => ?_) (fun hF => ?_); (focus (subst he'; exact ⟨rfl, HEndD.out⟩)); (obtain rfl : e = .returned (.int .u64 r.x) := hF.out.elim)))
              all_goals exact hF.out.elim
            · have HC := hg.not he
              have q0 : (((p : Int) % 5) == 0) = false := by simp; omega
              have q1 : (((p : Int) % 5) == 1) = false := by simp; omega
              have q2 : (((p : Int) % 5) == 2) = true := by simp; omega
              unfold top at hx
              have hx2 : IntKind.u64.wrap (r.x : Int) = (r.x : Int) := by simp only [IntKind.wrap, IntKind.bits, IntKind.signed]; simp; omega
              clear hq hg HT HK2
              go_wp2_with fail
              go_region_with (first
                | (go_at_call 19; refine (HC.out _ ?_ ?_).mono ?_; (focus (exact HI3.out.cZ)); (focus (exact HI3.out.fZ)); rintro e w' ⟨he', rfl⟩; refine phantom (fun _ => ?_) (fun hF => ?_); (focus (subst he'; exact ⟨rfl, HEndD.out⟩)); (obtain rfl : e = .returned (.int .i64 r.x) := hF.out.elim)))
              all_goals exact hF.out.elim
            · have HC := hg.not he
              have q0 : (((p : Int) % 5) == 0) = false := by simp; omega
              have q1 : (((p : Int) % 5) == 1) = false := by simp; omega
              have q2 : (((p : Int) % 5) == 2) = false := by simp; omega
              have q3 : (((p : Int) % 5) == 3) = true := by simp; omega
              clear hq hg HT HK2
              go_wp2_with fail
              refine (HC.out _ HI3.out.cZ HI3.out.fZ).mono ?_
              rintro e w' ⟨rfl, rfl⟩
              exact ⟨rfl, HEnd.out⟩
            · have HC := hg.not he
              have q0 : (((p : Int) % 5) == 0) = false := by simp; omega
              have q1 : (((p : Int) % 5) == 1) = false := by simp; omega
              have q2 : (((p : Int) % 5) == 2) = false := by simp; omega
              have q3 : (((p : Int) % 5) == 3) = false := by simp; omega
              clear hq hg HT HK2
              go_wp2_with fail
              refine (HC.out _ HI3.out.cZ HI3.out.fZ).mono ?_
              rintro e w' ⟨rfl, rfl⟩
              exact ⟨rfl, HEnd.out⟩
        case rest =>
          obtain ⟨he, hI5, hG5⟩ := hcut
          clear HT HI3 HG3
          have cD := hI5.cD
          have fD := hI5.fD
          have HI5 := Lib.hid (hI5.setDone (k + 1))
          have HG5 : Hid (Grew g.writes w (wc.setCell ⟨g.y + 4, 0, none⟩ (.int .i64 ((k : Int) + 1)))) := Lib.hid (hG5.setCell _ _ fun _ => by show g.y ≤ g.y + 4 ∧ g.y + 4 ≤ g.y + 4; omega)
          have e1 : (((k + 1 : Nat) : Int)) = (k : Int) + 1 := by omega
          rw [e1] at HI5
          clear hI5 hG5 e1
          go_wp2_with fail
          generalize wc.setCell ⟨g.y + 4, 0, none⟩ (.int .i64 ((k : Int) + 1)) = W5 at *
          have HK5 : Hid (∀ wx : World, TInv g r.s 0 r.s (k + 1) wx → wx.cell? ⟨g.y + 3, 0, none⟩ = some (.bool true) ∧ wx.cell? ⟨g.y + 2, 1, none⟩ = some (.int .i64 0) ∧ wx.cell? ⟨g.y + 2, 0, none⟩ = some (.string r.s) ∧ wx.cell? ⟨g.y + 1, 0, none⟩ = some (.pointer (some ⟨g.y, 0, none⟩))) := Lib.hid fun wx i => ⟨i.cF, i.cE, i.cS, i.cI⟩
          have fF5 := HI5.out.fF
          go_region_held3 (fun wx => wx.cell? ⟨g.y + 3, 0, none⟩ = some (.bool true) ∧ wx.cell? ⟨g.y + 2, 1, none⟩ = some (.int .i64 0) ∧ wx.cell? ⟨g.y + 2, 0, none⟩ = some (.string r.s) ∧ wx.cell? ⟨g.y + 1, 0, none⟩ = some (.pointer (some ⟨g.y, 0, none⟩)))
            (first | exact HK5.out _ HI5.out.drew | exact HK5.out _ HI5.out.setFine.drew)
            (first | (go_at_call 22; (with_reducible refine (left_any ⟨g.y, 0, none⟩ r.s _ ?_).mono ?_); (focus (exact HI5.out.cZ)); rintro e w' ⟨rfl, rfl⟩))
          all_goals
            go_wp2_with fail
            go_roundg (g.most - (k + 1))
            case measure => omega
            case rel => exact ⟨k + 1, r.s, by omega, rfl, by go_num, hrs, HI5.out.setFine.drew, (HG5.out.setCell _ _ fun _ => by show g.y ≤ g.y + 3 ∧ g.y + 3 ≤ g.y + 4; omega).drew⟩
    · have HKM : Hid (k = g.most) := Lib.hid (by omega)
      clear hI
      go_wp2_with fail
      all_goals
        go_end0
        exact ⟨none, s, 0, k, rfl, HI.out, HG.out, Or.inl ⟨rfl, rfl, HKM.out⟩⟩
end Go.Proofs.Ytponpkmmfamjnaa
