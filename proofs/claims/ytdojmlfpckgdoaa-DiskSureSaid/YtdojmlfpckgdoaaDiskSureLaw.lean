/-
  DiskSure: for every two lists of calls and every list of cuts the law answers true.
-/
import Derived.Test.YtdojmlfpckgdoaaDiskSureMath
import Derived.Test.YtdojmlfpckgdoaaCut
import Derived.Test.YtdojmlfpckgdoaaGrantsTurnsLaw
import Derived.Laws.BitsAllLaws
namespace Go.Proofs.Ytdojmlfpckgdoaa
open Go.RowKit

/-- a list of calls that was handed in: nothing, or a row of the world -/
def ActsAt (w : World) (a : Option Addr) (l : Nat) (es : Nat → Int) (ss : Nat → ByteArray) : Prop :=
  l = 0 ∨ ∃ b off, a = some ⟨b, off, none⟩ ∧ ∀ i, i < l → w.cell? ⟨b, off + i * 5 + 1, none⟩ = some (.int .i64 (es i)) ∧ w.cell? ⟨b, off + i * 5 + 3, none⟩ = some (.string (ss i)) ∧ (ss i).size ≤ maxLen
theorem ActsAt.below {w w' : World} {a : Option Addr} {l : Nat} {es : Nat → Int} {ss : Nat → ByteArray} (h : ActsAt w a l es ss) (k : Below w.heap.size w w') : ActsAt w' a l es ss := by
  rcases h with h | ⟨b, off, rfl, hr⟩
  · exact Or.inl h
  · exact Or.inr ⟨b, off, rfl, fun i hi => ⟨by rw [k.cell (cell_lt (hr i hi).1)]; exact (hr i hi).1, by rw [k.cell (cell_lt (hr i hi).2.1)]; exact (hr i hi).2.1, (hr i hi).2.2⟩⟩
theorem mask7 (k : Int) : ∃ p : Nat, bits .and .i64 k 7 = (p : Int) ∧ p < 8 := by
  refine ⟨(BitVec.ofInt 64 k &&& BitVec.ofInt 64 7).toNat, ?_, ?_⟩
  · have h : (BitVec.ofInt 64 k &&& BitVec.ofInt 64 7).toNat ≤ 7 := by
      rw [BitVec.toNat_and]
      exact Nat.le_trans Nat.and_le_right (by decide)
    show IntKind.i64.wrap ((BitVec.ofInt 64 k &&& BitVec.ofInt 64 7).toNat : Int) = _
    generalize (BitVec.ofInt 64 k &&& BitVec.ofInt 64 7).toNat = y at *
    simp only [IntKind.wrap, IntKind.bits, IntKind.signed]
    simp
    omega
  · rw [BitVec.toNat_and]
    exact Nat.lt_of_le_of_lt Nat.and_le_right (by decide)
/-- a disk of eight sectors with power, at p, in the blocks O -/
structure Eight (p : Nat) (O : Nat → Prop) (m : DiskM) : Prop where
  d : m.d = p
  n : m.n = 8
  own : m.own = O
  live : m.Live
theorem Eight.wrote {p : Nat} {O : Nat → Prop} {m : DiskM} (h : Eight p O m) (k : Nat) (g : Nat → UInt8) : Eight p O (m.wrote k g) := ⟨h.d, h.n, h.own, live_wrote h.live k g⟩
/-- behind the Sync: the disk that is written on, which sectors were, and the other one -/
structure Sure2 (w : World) (p : Nat) (O : Nat → Prop) (F : Nat → UInt8) (mc : DiskM) (tb k : Nat) (m : DiskM) (tch : Nat → Nat) (wx : World) : Prop where
  eight : Eight p O m
  at' : DiskAt m wx
  S : m.S = F
  same : ∀ i, i < 8 → tch i = 0 → sameIn m.T F i
  few : ∀ i, tch i ≤ k
  row : wx.rowIs tb 48 8 (fun i => .int .i64 (tch i : Nat))
  was : DiskAt mc wx
  below : Below w.heap.size w wx
structure Apart (w : World) (O : Nat → Prop) (mc : DiskM) (tb : Nat) : Prop where
  o : ∀ k, O k → w.heap.size ≤ k
  t : ¬ O tb
  tw : w.heap.size ≤ tb
  c : ∀ k, mc.own k → ¬ O k ∧ k ≠ tb
theorem Sure2.touch {w : World} {p : Nat} {O : Nat → Prop} {F : Nat → UInt8} {mc : DiskM} {tb k : Nat} {m : DiskM} {tch : Nat → Nat} {wx : World} (h : Sure2 w p O F mc tb k m tch wx) (a : Apart w O mc tb) (y : Nat) :
    Sure2 w p O F mc tb (k + 1) m (upd tch y (tch y + 1)) (wx.setCell ⟨tb, y, none⟩ (.int .i64 ((tch y + 1 : Nat) : Int))) := by
  have g : Grew (fun k => k = tb) wx (wx.setCell ⟨tb, y, none⟩ (.int .i64 ((tch y + 1 : Nat) : Int))) := (Grew.refl wx).setCell ⟨tb, y, none⟩ _ fun _ => rfl
  have hf : ∀ i, upd tch y (tch y + 1) i ≤ k + 1 := fun i => by
    unfold upd
    have := h.few i
    have := h.few y
    split <;> omega
  refine ⟨h.eight, h.at'.keep g (fun j hj e => ?_), h.S, fun i hi h0 => ?_, hf, (h.row.set y _).congr fun j _ => ?_, h.was.keep g (fun j hj e => (a.c j hj).2 e), h.below.setCell a.tw _⟩
  · rw [h.eight.own] at hj
    have e' : j = tb := e
    subst e'
    exact a.t hj
  · refine h.same i hi ?_
    unfold upd at h0
    split at h0
    · omega
    · exact h0
  · unfold upd
    split <;> rfl
theorem Sure2.write {w : World} {p : Nat} {O : Nat → Prop} {F : Nat → UInt8} {mc : DiskM} {tb k : Nat} {m : DiskM} {tch : Nat → Nat} {wx w' : World} (h : Sure2 w p O F mc tb k m tch wx) (a : Apart w O mc tb) (y : Nat) (hy : ¬ tch y = 0) (q : Nat → UInt8) (hD : DiskAt (m.wrote y q) w') (hG : Grew O wx w') :
    Sure2 w p O F mc tb k (m.wrote y q) tch w' := by
  refine ⟨h.eight.wrote y q, hD, h.S, fun i hi h0 => ?_, h.few, h.row.of_block (hG.block tb h.row.lt a.t), h.was.keep hG (fun j hj => (a.c j hj).1), hG.below h.below h.below.size a.o⟩
  have hn : ¬ i = y := fun e => hy (by rw [← e]; exact h0)
  exact (wrote_in m y q i hn).trans (h.same i hi h0)
/-- behind the crash -/
structure Sure3 (w : World) (p : Nat) (mc : DiskM) (tb x : Nat) (tch : Nat → Nat) (m : DiskM) (wx : World) : Prop where
  at' : DiskAt m wx
  d : m.d = p
  n : m.n = 8
  live : m.Live
  dc : mc.d = x
  nc : mc.n = 8
  livec : mc.Live
  was : DiskAt mc wx
  row : wx.rowIs tb 48 8 (fun i => .int .i64 (tch i : Nat))
  few : ∃ k, ∀ i, tch i ≤ k
  below : Below w.heap.size w wx
  same : ∀ i, i < 8 → tch i = 0 → sec m.T i = sec mc.T i
  sure : m.looseTo m.n = []
theorem eight_row (w : World) (z : Value) (t : TypeId) : (w.alloc (.cells #[z, z, z, z, z, z, z, z] t)).rowIs w.heap.size t 8 (fun _ => z) :=
  World.rowIs_alloc w #[z, z, z, z, z, z, z, z] t (fun _ => z) fun i hi => by
    have : i < 8 := hi
    match i, this with
    | 0, _ => rfl
    | 1, _ => rfl
    | 2, _ => rfl
    | 3, _ => rfl
    | 4, _ => rfl
    | 5, _ => rfl
    | 6, _ => rfl
    | 7, _ => rfl
theorem index8 (t : Nat → Nat) (q : Nat) (hq : q < 8) : ∀ w : World, (Instr.index 48 (.agg #[.int .i64 (t 0 : Nat), .int .i64 (t 1 : Nat), .int .i64 (t 2 : Nat), .int .i64 (t 3 : Nat), .int .i64 (t 4 : Nat), .int .i64 (t 5 : Nat), .int .i64 (t 6 : Nat), .int .i64 (t 7 : Nat)]) (.int .i64 (q : Int))).run Try.prog w = .ok (.int .i64 (t q : Nat)) w := fun w => by
  have h : q = 0 ∨ q = 1 ∨ q = 2 ∨ q = 3 ∨ q = 4 ∨ q = 5 ∨ q = 6 ∨ q = 7 := by omega
  have hu := Try.underlying48
  rcases h with rfl | rfl | rfl | rfl | rfl | rfl | rfl | rfl <;> simp [Instr.index, run_underlying hu, asIntOf, go_sem]
theorem Sure3.read {w : World} {p : Nat} {mc : DiskM} {tb x : Nat} {tch : Nat → Nat} {m : DiskM} {wx w' : World} (h : Sure3 w p mc tb x tch m wx) (hG : ∀ S, Grew S wx w') : Sure3 w p mc tb x tch m w' := by
  have g := hG fun _ => False
  exact ⟨h.at'.kept g (fun x => x) (fun x => x) (fun x => x), h.d, h.n, h.live, h.dc, h.nc, h.livec, h.was.kept g (fun x => x) (fun x => x) (fun x => x), h.row.of_block (g.block tb h.row.lt (fun x => x)), h.few, g.below h.below h.below.size (fun _ x => x.elim), h.same, h.sure⟩
set_option maxRecDepth 10000 in
set_option maxHeartbeats 8000000 in
theorem diskSure_walk (a0 a1 a2 : Option Addr) (l0 c0 l1 c1 l2 c2 : Nat) (e0 e1 e2 : Nat → Int) (s0 s1 : Nat → ByteArray) (w : World) (hA0 : ActsAt w a0 l0 e0 s0) (hA1 : ActsAt w a1 l1 e1 s1) (hA2 : IntsAt w a2 l2 e2) :
    Calls Try.prog 4 #[.slice a0 l0 c0, .slice a1 l1 c1, .slice a2 l2 c2] w fun e w' => e = .returned (.bool true) ∧ Below w.heap.size w w' := by
  have HA0 := Lib.hid hA0
  have HA1 := Lib.hid hA1
  have HA2 := Lib.hid hA2
  clear hA0 hA1 hA2
  go_enter Try.func4, Try.ntmps4
  go_wp2_with fail
  refine (diskAwake _).mono ?_
  rintro e w1 ⟨rfl, hB⟩
  have HB := Lib.hid hB
  clear hB
  go_wp2_with fail
  refine (new_any 8 _).mono ?_
  rintro e w2 ⟨m, rfl, hM⟩
  obtain ⟨d, bs', bt, hm⟩ := hM.is
  have HO : Hid (∀ k, m.own k → w.heap.size ≤ k) := Lib.hid fun k hk => Nat.le_trans HB.out.size (hM.fresh k hk)
  have HB2 : Hid (Below w.heap.size w w2) := Lib.hid ((hM.grew fun _ => False).below HB.out HB.out.size (fun _ x => x.elim))
  have HE2 : Hid (Eight m.d m.own m) := Lib.hid ⟨rfl, by rw [hm]; rfl, rfl, by rw [hm]; exact live_new _ _ _ _⟩
  have HD2 := Lib.hid hM.at'
  clear hM hm HB
  generalize m.own = O at *
  generalize m.d = p at *
  go_wp2_with fail
  go_loopw [8] (fun i wx => ∃ k : Nat, k ≤ 12 ∧ i = .int .i64 k ∧ ∃ m, Eight p O m ∧ DiskAt m wx ∧ Below w.heap.size w wx) (fun i _ => 12 - (intOf i).toNat)
  case atStart => exact ⟨0, by omega, rfl, _, HE2.out, HD2.out, HB2.out⟩
  case round =>
    obtain ⟨k, hk, rfl, mr, hE, hD, hBr⟩ := hrel
    have HE := Lib.hid hE
    have HD := Lib.hid hD
    have HBr := Lib.hid hBr
    clear hE hD hBr HE2 HD2 HB2
    by_cases hend : k < l0 ∧ k < 12
    · have j1 : (k : Int) < (l0 : Int) := by omega
      have j2 : (k : Int) < 12 := by omega
      have j3 : (0 : Int) ≤ (k : Int) := by omega
      rcases HA0.out with hz | ⟨b, off, rfl, hr⟩
      · omega
      obtain ⟨r1, r2, q3⟩ := hr k hend.1
      have hbw := cell_lt r1
      have q1 : wr.cell? ⟨b, off + k * 5 + 1, none⟩ = some (.int .i64 (e0 k)) := by rw [HBr.out.cell hbw]; exact r1
      have q2 : wr.cell? ⟨b, off + k * 5 + 3, none⟩ = some (.string (s0 k)) := by rw [HBr.out.cell hbw]; exact r2
      have HNb : Hid (∀ w3, Grew mr.own wr.drew w3 → (w3.cell? ⟨b, off + k * 5 + 1, none⟩ = some (.int .i64 (e0 k)) ∧ w3.cell? ⟨b, off + k * 5 + 3, none⟩ = some (.string (s0 k))) ∧ Below w.heap.size w w3) := Lib.hid fun w3 g => by
        have hn : ¬ mr.own b := fun hk => by rw [HE.out.own] at hk; have := HO.out b hk; omega
        have hlt : b < wr.drew.heap.size := cell_lt q1
        exact ⟨⟨by rw [g.cell (p := ⟨b, off + k * 5 + 1, none⟩) hlt hn]; exact q1, by rw [g.cell (p := ⟨b, off + k * 5 + 3, none⟩) hlt hn]; exact q2⟩, g.below HBr.out.drew HBr.out.size (fun k hk => by rw [HE.out.own] at hk; exact HO.out k hk)⟩
      clear r1 r2
      obtain ⟨y, hy, hy8⟩ := mask7 (e0 k)
      obtain ⟨t, ht, hcut⟩ := cut_law (s0 k) 64 q3 (by omega)
      have HC : Hid (∀ w : World, Calls Try.prog 24 #[.string (s0 k), .int .i64 64] w fun e w' => e = .returned (.string t) ∧ w = w') := Lib.hid hcut
      have HW := Lib.hid fun wx (h : DiskAt mr wx) => lawWrite_live p mr HE.out.d y (by rw [HE.out.n]; exact hy8) t ht HE.out.live wx h
      clear hr hcut
      generalize e0 k = ev at *
      generalize s0 k = sv at *
      go_upto_region 7 with fail
      go_region_held3 (fun wx => wx.cell? ⟨b, off + k * 5 + 1, none⟩ = some (.int .i64 ev) ∧ wx.cell? ⟨b, off + k * 5 + 3, none⟩ = some (.string sv))
        (first | exact ⟨q1, q2⟩ | exact HKp.out)
        (first
          | (go_at_call 24; (with_reducible refine (HC.out _).mono ?_); rintro e w3 ⟨rfl, rfl⟩)
          | (go_at_call 23; (with_reducible refine (HW.out _ HD.out.drew).mono ?_); rintro e w3 ⟨rfl, hD3, hG3⟩; (have HD3 := Lib.hid hD3); (have HKp := Lib.hid (HNb.out w3 hG3).1); (have HB3 := Lib.hid (HNb.out w3 hG3).2); clear hD3 hG3))
      go_wp2_with fail
      go_roundw
      case rel => exact ⟨k + 1, by omega, by go_num, _, HE.out.wrote y _, HD3.out, HB3.out⟩
      case measure => simp [intOf]; omega
    · have HEnd : Hid (¬ ((k : Int) < (l0 : Int)) ∨ ((k : Int) < (l0 : Int) ∧ ¬ (k : Int) < 12)) := Lib.hid (by omega)
      have HSy := Lib.hid (lawSync_live p mr HE.out.d HE.out.live wr HD.out)
      clear hend
      rcases HEnd.out with j1 | ⟨j1, j2⟩
      all_goals
        clear HEnd
        go_wp2_with fail
        with_reducible refine HSy.out.mono ?_
        rintro e w3 ⟨rfl, hD3, hG3⟩
        have HD3 := Lib.hid hD3
        have HB3 : Hid (Below w.heap.size w w3) := Lib.hid (hG3.below HBr.out HBr.out.size (fun k hk => by rw [HE.out.own] at hk; exact HO.out k hk))
        have HE3 : Hid (Eight p O { mr with S := mr.T }) := Lib.hid ⟨HE.out.d, HE.out.n, HE.out.own, live_synced HE.out.live⟩
        have HCl := Lib.hid (clone_any { mr with S := mr.T } w3 hD3)
        rw [HE3.out.d] at HCl
        clear hD3 hG3 HSy HD HBr
        go_wp2_with fail
        with_reducible refine HCl.out.mono ?_
        rintro e w4 ⟨x, mc, rfl, hC⟩
        have hlo : ∀ k, O k → k < w3.heap.size := fun k hk => by
          have := HD3.out.below k
          have e : ({ mr with S := mr.T } : DiskM).own = O := HE3.out.own
          rw [e] at this
          exact this hk
        have hw43 := hC.below.size
        have hapart : Apart w O mc w4.heap.size := ⟨HO.out, fun hk => by have := hlo _ hk; omega, Nat.le_trans HB3.out.size hw43, fun k hk => ⟨fun h => by have := hC.fresh k hk; have := hlo k h; omega, fun e => by have := hC.at'.below k hk; omega⟩⟩
        have HAp := Lib.hid hapart
        have HMc : Hid (mc.d = x ∧ mc.n = 8 ∧ mc.T = mr.T ∧ mc.Live) := Lib.hid ⟨hC.d, by rw [hC.n]; exact HE.out.n, hC.T, ⟨by rw [hC.dead]; exact HE.out.live.dead, by rw [hC.armed]; exact HE.out.live.armed, by unfold DiskM.fits; rw [hC.left]; exact HE.out.live.fits⟩⟩
        have HE5 : Hid (Eight p O ⟨p, mr.bs, mr.bt, mr.n, mr.cs, mr.ct, mr.T, mr.T, mr.armed, mr.left, mr.dead⟩) := Lib.hid ⟨rfl, HE.out.n, by rw [← HE.out.own, ← HE.out.d]; rfl, ⟨HE.out.live.dead, HE.out.live.armed, HE.out.live.fits⟩⟩
        have gA : ∀ o : Obj, Grew (fun _ => False) w4 (w4.alloc o) := fun o => (Grew.refl w4).alloc o
        have HS5 : Hid (Sure2 w p O mr.T mc w4.heap.size 0 ⟨p, mr.bs, mr.bt, mr.n, mr.cs, mr.ct, mr.T, mr.T, mr.armed, mr.left, mr.dead⟩ (fun _ => 0) (w4.alloc (.cells #[.int .i64 0, .int .i64 0, .int .i64 0, .int .i64 0, .int .i64 0, .int .i64 0, .int .i64 0, .int .i64 0] 48))) := Lib.hid
          ⟨HE5.out, hC.old.kept (gA _) (fun x => x) (fun x => x) (fun x => x), rfl, fun _ _ _ _ _ => rfl, fun _ => Nat.le_refl _, eight_row w4 (.int .i64 0) 48, hC.at'.kept (gA _) (fun x => x) (fun x => x) (fun x => x), ((HB3.out.trans (hC.below.mono HB3.out.size)).alloc (Nat.le_trans HB3.out.size hw43) _)⟩
        clear hC HCl hlo hw43 hapart gA HE5 HE3 HD3 HB3 HE
        go_wp2_with fail
        generalize w4.heap.size = tb at *
        generalize mr.T = F at *
        go_loopw [11] (fun i wx => ∃ k : Nat, k ≤ 12 ∧ i = .int .i64 k ∧ ∃ m tch, Sure2 w p O F mc tb k m tch wx) (fun i _ => 12 - (intOf i).toNat)
        case atStart => exact ⟨0, by omega, rfl, _, _, HS5.out⟩
        case round =>
          obtain ⟨z, hz, rfl, m2, tch, hS⟩ := hrel
          have HS := Lib.hid hS
          clear hS HS5
          by_cases hend : z < l1 ∧ z < 12
          · have i1 : (z : Int) < (l1 : Int) := by omega
            have i2 : (z : Int) < 12 := by omega
            have i3 : (0 : Int) ≤ (z : Int) := by omega
            rcases HA1.out with hz0 | ⟨b, off, rfl, hr⟩
            · omega
            obtain ⟨r1, r2, q3⟩ := hr z hend.1
            have hbw := cell_lt r1
            obtain ⟨y, hy, hy8⟩ := mask7 (e1 z)
            obtain ⟨t, ht, hcut⟩ := cut_law (s1 z) 64 q3 (by omega)
            have HC : Hid (∀ w : World, Calls Try.prog 24 #[.string (s1 z), .int .i64 64] w fun e w' => e = .returned (.string t) ∧ w = w') := Lib.hid hcut
            have q1 := HS.out.row.cell hy8
            have q1f := HS.out.row.frozen y
            have q4 : wr.cell? ⟨b, off + z * 5 + 1, none⟩ = some (.int .i64 (e1 z)) := by rw [HS.out.below.cell hbw]; exact r1
            have n1 : IntKind.i64.wrap (((tch y : Nat) : Int) + 1) = ((tch y + 1 : Nat) : Int) := by rw [IntWalk.i64_in _ (by have := HS.out.few y; omega)]; omega
            have n2 : (0 : Int) ≤ (y : Int) := by omega
            have n3 : (y : Int) < 8 := by omega
            have HS2 := Lib.hid (HS.out.touch HAp.out y)
            have HR1 := Lib.hid (And.intro r1 r2)
            have hup : ¬ upd tch y (tch y + 1) y = 0 := by rw [upd_same]; omega
            have HUp := Lib.hid hup
            clear hr hcut r1 r2 hup
            generalize upd tch y (tch y + 1) = tch2 at *
            generalize tch y + 1 = ty1 at *
            generalize e1 z = ev at *
            generalize s1 z = sv at *
            go_upto_region 16 with fail
            generalize wr.setCell ⟨tb, y, none⟩ (.int .i64 (ty1 : Int)) = W at *
            clear q1 q1f q4 n1 HS
            have k1 : W.cell? ⟨b, off + z * 5 + 1, none⟩ = some (.int .i64 ev) := by rw [HS2.out.below.cell hbw]; exact HR1.out.1
            have k2 : W.cell? ⟨b, off + z * 5 + 3, none⟩ = some (.string sv) := by rw [HS2.out.below.cell hbw]; exact HR1.out.2
            have HW := Lib.hid (lawWrite_live p m2 HS2.out.eight.d y (by rw [HS2.out.eight.n]; exact hy8) t ht HS2.out.eight.live W.drew HS2.out.at'.drew)
            rw [HS2.out.eight.own] at HW
            have HNb : Hid (∀ w3, Sure2 w p O F mc tb (z + 1) (m2.wrote y (txtf t)) tch2 w3 → w3.cell? ⟨b, off + z * 5 + 1, none⟩ = some (.int .i64 ev) ∧ w3.cell? ⟨b, off + z * 5 + 3, none⟩ = some (.string sv)) := Lib.hid fun w3 g =>
              ⟨by rw [g.below.cell hbw]; exact HR1.out.1, by rw [g.below.cell hbw]; exact HR1.out.2⟩
            have HNx : Hid (∀ w3, DiskAt (m2.wrote y (txtf t)) w3 → Grew O W.drew w3 → Sure2 w p O F mc tb (z + 1) (m2.wrote y (txtf t)) tch2 w3) := Lib.hid fun w3 hD hG => HS2.out.write HAp.out y HUp.out _ hD ⟨hG.os, hG.tape, hG.output, hG.size, hG.block⟩
            go_region_held3 (fun wx => wx.cell? ⟨b, off + z * 5 + 1, none⟩ = some (.int .i64 ev) ∧ wx.cell? ⟨b, off + z * 5 + 3, none⟩ = some (.string sv))
              (first | exact ⟨k1, k2⟩ | exact HNb.out _ HS3.out)
              (first
                | (go_at_call 24; (with_reducible refine (HC.out _).mono ?_); rintro e w3 ⟨rfl, rfl⟩)
                | (go_at_call 23; (with_reducible refine HW.out.mono ?_); rintro e w3 ⟨rfl, hD3, hG3⟩; (have HS3 := Lib.hid (HNx.out w3 hD3 hG3)); clear hD3 hG3))
            go_wp2_with fail
            go_roundw
            case rel => exact ⟨z + 1, by omega, by go_num, _, _, HS3.out⟩
            case measure => simp [intOf]; omega
          · have HEnd : Hid (¬ ((z : Int) < (l1 : Int)) ∨ ((z : Int) < (l1 : Int) ∧ ¬ (z : Int) < 12)) := Lib.hid (by omega)
            have HIn : Hid (IntsApart m2.own wr a2 l2 e2) := Lib.hid (by
              rcases HA2.out with h | ⟨b, off, rfl, hr⟩
              · exact Or.inl h
              · by_cases h0 : l2 = 0
                · exact Or.inl h0
                · have hbw := cell_lt (hr 0 (by omega))
                  exact Or.inr ⟨b, off, rfl, fun hk => (by rw [HS.out.eight.own] at hk; have := HO.out b hk; omega), fun i hi => by rw [HS.out.below.cell hbw]; exact hr i hi⟩)
            have HCr := Lib.hid (crash_any m2 a2 l2 c2 e2 wr HS.out.at' HIn.out)
            rw [HS.out.eight.d, HS.out.eight.own] at HCr
            clear hend
            rcases HEnd.out with i1 | ⟨i1, i2⟩
            all_goals
              clear HEnd
              go_wp2_with fail
              with_reducible refine HCr.out.mono ?_
              rintro e w6 ⟨rfl, hD6, hG6⟩
              have hrow6 := HS.out.row.of_block (hG6.block tb HS.out.row.lt HAp.out.t)
              have HS6 : Hid (Sure3 w p mc tb x tch (m2.crashed (cutOf l2 e2)) w6) := Lib.hid
                ⟨hD6, by rw [crashed_d]; exact HS.out.eight.d, by rw [crashed_n]; exact HS.out.eight.n, live_crashed _ _, HMc.out.1, HMc.out.2.1, HMc.out.2.2.2, HS.out.was.keep hG6 (fun j hj => (HAp.out.c j hj).1), hrow6, ⟨_, HS.out.few⟩, hG6.below HS.out.below HS.out.below.size HO.out, fun i hi h0 => by
                  have h1 := HS.out.same i hi h0
                  rw [← HS.out.S] at h1
                  have h2 := (crashed_in m2 (cutOf l2 e2) (cutOf_le l2 e2) i (by rw [HS.out.eight.n]; exact hi)).2 h1
                  rw [HMc.out.2.2.1, ← HS.out.S]
                  exact (h2.trans h1).sec, crashed_loose m2 _ (cutOf_le l2 e2)⟩
              clear hD6 hG6 HCr hrow6 HIn HS
              generalize m2.crashed (cutOf l2 e2) = mk at *
              have v0 := HS6.out.row.cell (i := 0) (by decide)
              have v1 := HS6.out.row.cell (i := 1) (by decide)
              have v2 := HS6.out.row.cell (i := 2) (by decide)
              have v3 := HS6.out.row.cell (i := 3) (by decide)
              have v4 := HS6.out.row.cell (i := 4) (by decide)
              have v5 := HS6.out.row.cell (i := 5) (by decide)
              have v6 := HS6.out.row.cell (i := 6) (by decide)
              have v7 := HS6.out.row.cell (i := 7) (by decide)
              go_wp2_with fail
              clear v0 v1 v2 v3 v4 v5 v6 v7
              go_loopw [88] (fun i wx => ∃ q : Nat, q ≤ 8 ∧ i = .int .i64 q ∧ Sure3 w p mc tb x tch mk wx) (fun i _ => 8 - (intOf i).toNat)
              case atStart => exact ⟨0, by omega, rfl, HS6.out⟩
              case round =>
                obtain ⟨q, hq, rfl, hS7⟩ := hrel
                have HS7 := Lib.hid hS7
                clear hS7 HS6
                by_cases hq8 : q < 8
                · have i5 : (q : Int) < 8 := by omega
                  have i6 : (0 : Int) ≤ (q : Int) := by omega
                  have hix := index8 tch q hq8
                  have HR1 := Lib.hid (lawRead_live p mk HS7.out.d q (by rw [HS7.out.n]; exact hq8) HS7.out.live wr HS7.out.at')
                  have HSm := Lib.hid (HS7.out.same q hq8)
                  obtain ⟨A, hAe⟩ : ∃ A : ByteArray, ⟨(sec mk.T q).toArray⟩ = A := ⟨_, rfl⟩
                  obtain ⟨B, hBe⟩ : ∃ B : ByteArray, ⟨(sec mc.T q).toArray⟩ = B := ⟨_, rfl⟩
                  have HAB : Hid (tch q = 0 → A = B) := Lib.hid fun h => by rw [← hAe, ← hBe, HSm.out h]
                  rw [hAe] at HR1
                  have HBe := Lib.hid hBe
                  clear hAe hBe HSm
                  generalize tch q = tq at *
                  go_wp2_with fail
                  with_reducible refine HR1.out.mono ?_
                  rintro e w8 ⟨rfl, _, hG8⟩
                  have HS8 := Lib.hid (HS7.out.read hG8)
                  have HR2 := Lib.hid (lawRead_live x mc HS8.out.dc q (by rw [HS8.out.nc]; exact hq8) HS8.out.livec w8 HS8.out.was)
                  rw [HBe.out] at HR2
                  clear hG8 HR1 HS7 hix
                  go_wp2_with fail
                  with_reducible refine HR2.out.mono ?_
                  rintro e w9 ⟨rfl, _, hG9⟩
                  have HS9 := Lib.hid (HS8.out.read hG9)
                  clear hG9 HR2 HS8
                  by_cases h0 : tq = 0
                  · obtain rfl := HAB.out h0
                    subst h0
                    go_wp2_with fail
                    go_roundw
                    case rel => exact ⟨q + 1, by omega, by go_num, HS9.out⟩
                    case measure => simp [intOf]; omega
                  · have h1 : ¬ (tq : Int) = 0 := by omega
                    have h2 : ((tq : Int) == 0) = false := by rw [beq_eq_false_iff_ne]; exact h1
                    go_wp2_with fail
                    go_roundw
                    case rel => exact ⟨q + 1, by omega, by go_num, HS9.out⟩
                    case measure => simp [intOf]; omega
                · have i5 : ¬ (q : Int) < 8 := by omega
                  have HLo := Lib.hid (loose_any mk wr HS7.out.at')
                  rw [HS7.out.sure, HS7.out.d] at HLo
                  go_wp2_with fail
                  with_reducible refine HLo.out.mono ?_
                  rintro e w8 ⟨v, rfl, hown, hb8⟩
                  obtain ⟨_, qa, qc, rfl⟩ := rowOwn hown
                  have HB8 := Lib.hid (HS7.out.below.trans (hb8.mono HS7.out.below.size))
                  clear hown hb8 HLo
                  go_wp2_with fail
                  go_ret
                  exact ⟨rfl, HB8.out⟩
end Go.Proofs.Ytdojmlfpckgdoaa
