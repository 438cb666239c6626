/-
  A journal's frame, written into its sector: a contract.
-/
import Derived.Test.YtakngnigpncmkaaRing
import Derived.Deep.RegionWith
namespace Go.Proofs.Ytakngnigpncmkaa
open Go.RowKit

/-- a journal's frame: the byte that says whether the record goes on, and a part of it -/
def ringFrame (ep k : Nat) (b : UInt8) (t : ByteArray) : ByteArray := mkFrame ep (k + 1) (⟨#[b]⟩ ++ t)
set_option maxRecDepth 100000 in
set_option maxHeartbeats 2000000 in
theorem ringWrite_any (r p f n ep u k : Nat) (b : UInt8) (t : ByteArray) (m : DiskM) (hp : m.d = p) (hL : m.Live) (w : World) (h : RingAt r p f n ep u w) (hD : DiskAt m w) (hr : ¬ m.own r) (hk : f + k < m.n) (ht : t.size ≤ 46) (he : ep < 4294967296) :
    Calls Try.prog 92 #[.pointer (some ⟨r, 0, none⟩), .int .i64 k, .int .u8 (b.toNat : Int), .string t] w fun e w' => e = .returned (.tuple #[]) ∧ DiskAt (m.wrote (f + k) (txtf (ringFrame ep k b t))) w' ∧ Grew m.own w w' := by
  have hn := hD.size
  have HS : Hid (∀ wx : World, Grew (fun _ => False) w wx → Calls Try.prog 93 #[.pointer (some ⟨r, 0, none⟩), .int .i64 k] wx fun e w' => e = .returned (.agg #[.int .u32 ep, .int .u32 ((k + 1 : Nat) : Int)]) ∧ Below wx.heap.size wx w') :=
    Lib.hid fun wx hx => ringStamp_any r p f n ep u k wx (h.keep hx fun e => e) (by omega)
  have hz : ((⟨#[b]⟩ : ByteArray) ++ t).size ≤ 47 := by rw [ByteArray.size_append]; show 1 + t.size ≤ 47; omega
  have hk32 : k + 1 < 4294967296 := by omega
  have HF : Hid (∀ wx : World, Calls Try.prog 87 #[.agg #[.int .u32 ep, .int .u32 ((k + 1 : Nat) : Int)], .string (⟨#[b]⟩ ++ t)] wx fun e w' => e = .returned (.string (ringFrame ep k b t)) ∧ Below wx.heap.size wx w') :=
    Lib.hid fun wx => by
      unfold ringFrame mkFrame
      exact frame_ok ep (k + 1) (⟨#[b]⟩ ++ t) wx hz he hk32
  have HW : Hid (∀ wx : World, Grew (fun _ => False) w wx → Calls Try.prog 72 #[.pointer (some ⟨p, 0, none⟩), .int .i64 ((f + k : Nat) : Int), .string (ringFrame ep k b t)] wx fun e w' => e = .returned (.tuple #[]) ∧ DiskAt (m.wrote (f + k) (txtf (ringFrame ep k b t))) w' ∧ Grew m.own w w') :=
    Lib.hid fun wx hx => by
      subst hp
      have hs : (ringFrame ep k b t).size = 64 := mkFrame_size _ _ _ hz
      refine (write_ok m (f + k) (ringFrame ep k b t) wx (hD.keep hx fun _ _ e => e) hL.dead hk (by omega) hL.fits.2 (fun e => by rw [hL.armed] at e; cases e)).mono ?_
      rintro e w' ⟨rfl, hd, hg⟩
      rw [DiskM.spent_live hL] at hd
      exact ⟨rfl, hd, (hx.mono fun _ _ e => e.elim).trans hg⟩
  have KS : Hid (∀ wx : World, Grew (fun _ => False) w wx → wx.cell? ⟨r, 0, none⟩ = some (.pointer (some ⟨p, 0, none⟩)) ∧ wx.cell? ⟨r, 1, none⟩ = some (.int .i64 f)) := Lib.hid fun wx hx => ⟨(h.keep hx fun e => e).c0, (h.keep hx fun e => e).c1⟩
  have K3 : Hid (∀ wx : World, Grew m.own w wx → wx.cell? ⟨r, 0, none⟩ = some (.pointer (some ⟨p, 0, none⟩)) ∧ wx.cell? ⟨r, 1, none⟩ = some (.int .i64 f)) := Lib.hid fun wx hx => ⟨(h.keep hx hr).c0, (h.keep hx hr).c1⟩
  have e1 : IntKind.i64.wrap ((f : Int) + (k : Int)) = ((f + k : Nat) : Int) := by rw [show (f : Int) + (k : Int) = ((f + k : Nat) : Int) by omega]; exact IntWalk.i64_in _ (by omega)
  have GD : Hid (Grew (fun _ => False) w w.drew) := Lib.hid (Grew.refl w).drew
  have GA : Hid (Grew (fun _ => False) w (w.alloc (.cells #[.int .u8 (b.toNat : Int)] 5)).drew) := Lib.hid ((Grew.refl w).alloc _).drew
  clear hD h
  generalize m.wrote (f + k) (txtf (ringFrame ep k b t)) = M at *
  generalize ringFrame ep k b t = F at *
  generalize ((k + 1 : Nat) : Int) = K1 at *
  generalize ((f + k : Nat) : Int) = FK at *
  have hone := one_at ((w.alloc (.cells #[.int .u8 (b.toNat : Int)] 5)).drew) w.heap.size b (boxNew rfl)
  have zn : (⟨#[b]⟩ : ByteArray).size = 1 := rfl
  generalize hN : (⟨#[b]⟩ : ByteArray) = N at *
  have hc1 : ∀ wx : World, (Op.stringOp .add N t).run Try.prog wx = .ok (.string (N ++ t)) wx := fun wx => run_string_add_sum wx N t (by omega)
  generalize N ++ t = NT at *
  clear hz zn hn
  go_enter Try.func92, Try.ntmps92
  go_wp2_with fail
  go_region_held (fun wx => wx.cell? ⟨r, 0, none⟩ = some (.pointer (some ⟨p, 0, none⟩)) ∧ wx.cell? ⟨r, 1, none⟩ = some (.int .i64 f))
    (first | exact KS.out _ GD.out | exact KS.out _ GA.out | exact KS.out _ G1.out | exact KS.out _ (G1.out.alloc _) | exact KS.out _ G2.out | exact K3.out _ HR3.out.2)
    (first
      | (go_at_call 93; (with_reducible refine (HS.out w.drew GD.out).mono ?_); rintro e w1 ⟨rfl, hb1⟩; (have hone1 := one_byte w1 b); (rw [hN] at hone1); (have G1 := Lib.hid (GD.out.trans (Grew.of_below hb1))); clear hb1)
      | (go_at_call 93; (with_reducible refine (HS.out (w.alloc (.cells #[.int .u8 (b.toNat : Int)] 5)).drew GA.out).mono ?_); rintro e w1 ⟨rfl, hb1⟩; (have hone1 := one_behind w b w1 hb1); (rw [hN] at hone1); (have G1 := Lib.hid (GA.out.trans (Grew.of_below hb1))); clear hb1)
      | (go_at_call 87; (with_reducible refine (HF.out w1).mono ?_); rintro e w2 ⟨rfl, hb2⟩; (have G2 := Lib.hid (G1.out.trans (Grew.of_below hb2))); clear hb2)
      | (go_at_call 87; (with_reducible refine (HF.out (w1.alloc _)).mono ?_); rintro e w2 ⟨rfl, hb2⟩; (have G2 := Lib.hid ((G1.out.alloc _).trans (Grew.of_below hb2))); clear hb2)
      | (go_at_call 72; (with_reducible refine (HW.out w2 G2.out).mono ?_); rintro e w3 ⟨rfl, hr3⟩; (have HR3 := Lib.hid hr3); clear hr3))
  all_goals
    go_wp2_with fail
    go_end0
    exact ⟨rfl, HR3.out⟩
end Go.Proofs.Ytakngnigpncmkaa
