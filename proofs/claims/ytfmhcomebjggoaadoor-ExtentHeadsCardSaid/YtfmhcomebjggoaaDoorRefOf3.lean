/-
  The document's own sum: Of, for every text: a contract.
-/
import Derived.Test.YtfmhcomebjggoaaDoorRefOf2
namespace Go.Proofs.YtfmhcomebjggoaaDoor
open Go.RowKit

def txtLen : Value → Nat
  | .string s => s.size
  | _ => 0
/-- the two rows while blocks are taken -/
structure OfR (w : World) (g gk : Nat) (l : List Nat) (wx : World) : Prop where
  h : RowI g l wx
  k : RowI gk refK wx
  ne : gk ≠ g
  lo : w.heap.size ≤ g
  below : Below w.heap.size w wx
theorem quiet_of2 {P : Program} {f : FuncId} {args : Array Value} {w : World} {q n : Nat} {v : Value}
    (h : Calls P f args (w.drewN (q + n)) fun e w' => e = .returned v ∧ ∃ m, w' = (w.drewN (q + n)).drewN m) : Calls P f args (w.drewN (q + n)) fun e w'' => e = .returned v ∧ ∃ m, w'' = w.drewN (q + m) :=
  h.mono fun _ _ ⟨he, m, hm⟩ => ⟨he, n + m, by rw [hm, World.drewN_drewN, Nat.add_assoc]⟩
theorem quiet_of2_same {P : Program} {f : FuncId} {args : Array Value} {w : World} {q n : Nat} {v : Value}
    (h : Calls P f args (w.drewN (q + n)) fun e w' => e = .returned v ∧ w' = w.drewN (q + n)) : Calls P f args (w.drewN (q + n)) fun e w'' => e = .returned v ∧ ∃ m, w'' = w.drewN (q + m) :=
  h.mono fun _ _ ⟨he, hm⟩ => ⟨he, n, hm⟩

theorem OfR.step {w : World} {g gk : Nat} {l : List Nat} {wx wy : World} (h : OfR w g gk l wx) (hb : Below wx.heap.size wx wy) : OfR w g gk l wy := ⟨h.h.below hb, h.k.below hb, h.ne, h.lo, h.below.trans (hb.mono h.below.size)⟩
theorem OfR.drewN {w : World} {g gk : Nat} {l : List Nat} {wx : World} (h : OfR w g gk l wx) (n : Nat) : OfR w g gk l (wx.drewN n) := ⟨h.h.drewN n, h.k.drewN n, h.ne, h.lo, below_drewN h.below n⟩
theorem OfR.set {w : World} {g gk i : Nat} {l : List Nat} {wx : World} (h : OfR w g gk l wx) (hi : i < l.length) (x : Nat) : OfR w g gk (l.set i x) (wx.setCell ⟨g, i, none⟩ (.int .i64 (x : Int))) := ⟨h.h.set hi x, h.k.apart h.ne _, h.ne, h.lo, h.below.setCell h.lo _⟩
theorem eightAt {g : Nat} {s : Sha.St} {w : World} (h : RowI g (wl s) w) : w.cell? ⟨g, 0, none⟩ = some (.int .i64 s.a) ∧ w.cell? ⟨g, 1, none⟩ = some (.int .i64 s.b) ∧ w.cell? ⟨g, 2, none⟩ = some (.int .i64 s.c) ∧ w.cell? ⟨g, 3, none⟩ = some (.int .i64 s.d) ∧ w.cell? ⟨g, 4, none⟩ = some (.int .i64 s.e) ∧ w.cell? ⟨g, 5, none⟩ = some (.int .i64 s.f) ∧ w.cell? ⟨g, 6, none⟩ = some (.int .i64 s.g) ∧ w.cell? ⟨g, 7, none⟩ = some (.int .i64 s.z) :=
  ⟨h.cell 0 (show 0 < 8 by decide), h.cell 1 (show 1 < 8 by decide), h.cell 2 (show 2 < 8 by decide), h.cell 3 (show 3 < 8 by decide), h.cell 4 (show 4 < 8 by decide), h.cell 5 (show 5 < 8 by decide), h.cell 6 (show 6 < 8 by decide), h.cell 7 (show 7 < 8 by decide)⟩
set_option maxRecDepth 100000 in
set_option maxHeartbeats 20000000 in
theorem refOf_any (s : ByteArray) (hs : s.size < 900000) (w : World) :
    Calls Tryd.prog 7 #[.string s] w fun e w' => e = .returned (.string ⟨(sumB (shaOf s.data.toList)).toArray⟩) ∧ Below w.heap.size w w' := by
  have hs0 : (s.size : Int) ≤ 900000 := by omega
  have HNul : Hid (∀ j, j ≤ Sha.nulls s.size → ((s.size + 1 + j) % 64 = 56 ↔ j = Sha.nulls s.size)) := Lib.hid fun j hj => by unfold Sha.nulls at *; omega
  have HNl : Hid (Sha.nulls s.size < 64) := Lib.hid (by unfold Sha.nulls; omega)
  have HFu := Lib.hid (fullT_eq s)
  have HFs := Lib.hid (fullT_size s)
  have HSha : Hid (shaOf s.data.toList = Sha.blocks KK SS (fullT s).data.toList ((Sha.padded s.data.toList).length / 64 + 1)) := Lib.hid (by unfold shaOf fullT; rw [show s.data.toList.length = s.size by simp])
  have HPl : Hid ((Sha.padded s.data.toList).length / 64 + 1 < 100000) := Lib.hid (by
    have h1 : (Sha.padded s.data.toList).length = s.size + 1 + Sha.nulls s.size := by
      unfold Sha.padded
      have : s.data.toList.length = s.size := by simp
      simp only [List.length_append, List.length_cons, List.length_replicate, this]
      omega
    have := HNl.out
    omega)
  have HBy : Hid (∀ wx : World, Calls Tryd.prog 23 #[.int .i64 (8 * (s.size : Int)), .int .i64 8] wx fun e w' => e = .returned (.string ⟨(enc (8 * s.size) 8).toArray⟩) ∧ Below wx.heap.size wx w') := Lib.hid fun wx => by
    have := refBytes_any (8 * s.size) 8 (by omega) (by decide) wx
    rw [show ((8 * s.size : Nat) : Int) = 8 * (s.size : Int) by omega] at this
    exact this
  have HEz : Hid ((⟨(enc (8 * s.size) 8).toArray⟩ : ByteArray).size = 8) := Lib.hid (enc_len _ _)
  rw [HSha.out]
  clear HSha
  generalize (⟨(enc (8 * s.size) 8).toArray⟩ : ByteArray) = EN at *
  generalize (Sha.padded s.data.toList).length / 64 + 1 = NB at *
  generalize fullT s = T at *
  have HL0 := Lib.hid (RowI.new w (wl SS) 3)
  rw [SS_lit] at HL0
  have HB0 : Hid (Below w.heap.size w (w.alloc (.cells #[.int .i64 1779033703, .int .i64 3144134277, .int .i64 1013904242, .int .i64 2773480762, .int .i64 1359893119, .int .i64 2600822924, .int .i64 528734635, .int .i64 1541459225] 3))) := Lib.hid ((Below.refl _ _).alloc (Nat.le_refl _) _)
  have hrun0 : ∀ wx : World, (Op.stringOp .add s ⟨#[128]⟩).run Tryd.prog wx = .ok (.string (padJ s 0)) wx := fun wx => by
    rw [← padJ_zero]
    exact run_string_add_sum wx _ _ (by show s.size + 1 ≤ _; omega)
  go_enter Tryd.func7, Tryd.ntmps7
  go_wp2_with fail
  generalize hw0 : w.alloc (.cells #[.int .i64 1779033703, .int .i64 3144134277, .int .i64 1013904242, .int .i64 2773480762, .int .i64 1359893119, .int .i64 2600822924, .int .i64 528734635, .int .i64 1541459225] 3) = w0 at *
  have hw0s : w.heap.size < w0.heap.size := by rw [← hw0]; simp
  have HW0 := Lib.hid hw0s
  clear hw0 hw0s
  go_loop [4] (fun t => ∃ j : Nat, j ≤ Sha.nulls s.size ∧ t = .string (padJ s j)) (fun t => 900200 - txtLen t)
  case atStart => exact ⟨0, by omega, rfl⟩
  case round =>
    obtain ⟨j, hj, rfl⟩ := hrel
    have hsz := padJ_size s j
    have hiff := HNul.out j hj
    have hn := HNl.out
    by_cases hq : j = Sha.nulls s.size
    · have hm : ((padJ s j).size : Int) % 64 = 56 := by have := hiff.2 hq; omega
      have hm2 : (((padJ s j).size : Int) % 64 == 56) = true := by rw [beq_iff_eq]; exact hm
      have HM2 : Hid (((padJ s j).size : Int) % 64 = 56) := Lib.hid hm
      have hm3 : (((padJ s j).size : Int) % 64 != 56) = false := by simp [hm]
      have hz0 : (padJ s j).size ≤ 900100 := by omega
      have HT : Hid (padJ s j ++ EN = T) := Lib.hid (by rw [hq]; exact HFu.out)
      generalize padJ s j = P at *
      clear hsz hiff hn hj hq hm HM2 HNul HFu
      have hrun1 : ∀ wx : World, (Op.stringOp .add P EN).run Tryd.prog wx = .ok (.string T) wx := fun wx => by
        rw [← HT.out]
        exact run_string_add_sum wx _ _ (by have := HEz.out; omega)
      clear hz0
      go_wp2_with fail
      refine (HBy.out _).mono ?_
      rintro e w1 ⟨rfl, hb1⟩
      have HL1 := Lib.hid (HL0.out.below hb1)
      have HB1 := Lib.hid (HB0.out.trans (hb1.mono HB0.out.size))
      have HW1 : Hid (w.heap.size < w1.heap.size) := Lib.hid (Nat.lt_of_lt_of_le HW0.out hb1.size)
      clear hb1 HL0 HB0 HBy HT HW0
      go_wp2_with fail
      refine (numbers_any w1).mono ?_
      rintro e w2 ⟨rfl, rfl⟩
      have HR0 : Hid (OfR w w.heap.size w1.heap.size (wl (Sha.blocks KK SS T.data.toList 0)) (w1.alloc (.cells refKv 3))) := Lib.hid ⟨(HL1.out).below ((Below.refl _ _).alloc (Nat.le_refl _) _), RowI.new w1 refK 3, by have := HW1.out; omega, Nat.le_refl _, HB1.out.alloc HB1.out.size _⟩
      generalize w1.alloc (.cells refKv 3) = w2 at *
      generalize w1.heap.size = gk at *
      have hTs : (T.size : Int) = 64 * (NB : Int) := by have := HFs.out; omega
      have hNB : (NB : Int) ≤ 100000 := by have := HPl.out; omega
      have HTs := Lib.hid (And.intro hTs hNB)
      have hTb : (T.size : Int) ≤ 6400000 := by omega
      clear HL1 HB1 HW1 hm2 hm3 hrun0 hrun1 hTs hNB
      go_wp2_with fail
      go_loopw [6] (fun at' wx => ∃ m : Nat, ∃ A : Int, m ≤ NB ∧ A = 64 * m ∧ at' = .int .i64 A ∧ OfR w w.heap.size gk (wl (Sha.blocks KK SS T.data.toList m)) wx) (fun at' _ => (64 * (NB : Int) - intOf at').toNat)
      case atStart => exact ⟨0, 0, by omega, by omega, rfl, HR0.out⟩
      case round =>
        obtain ⟨m, A, hm, hA, rfl, hr⟩ := hrel
        have HR := Lib.hid hr
        clear hr HR0
        by_cases hlt : m < NB
        · have i0 : (0 : Int) ≤ A := by omega
          have i1 : A < (T.size : Int) := by have := HTs.out.1; omega
          have i2 : A + 64 ≤ (T.size : Int) := by have := HTs.out.1; omega
          obtain ⟨a, ha⟩ : ∃ a, 64 * m = a := ⟨_, rfl⟩
          have hA1 : A.toNat = a := by omega
          have hA2 : (A + 64).toNat = a + 64 := by omega
          have HMA := Lib.hid (And.intro hlt (And.intro hA ha))
          have hxs : (T.extract a (a + 64)).size = 64 := by rw [ByteArray.size_extract]; have := HFs.out; omega
          have HWo := Lib.hid fun wx => refWords_any (T.extract a (a + 64)) hxs wx
          have hws : Sha.ws (blkOf (T.extract a (a + 64))) 48 = Sha.ws (Sha.blkAt T.data.toList m) 48 := Sha.ws_congr (fun j hj => by rw [← ha]; exact blk_of T m j hj) 48
          rw [hws] at HWo
          have hok := Sha.blocks_ok KK SS_ok T.data.toList m
          have HNx : Hid (Sha.blocks KK SS T.data.toList (m + 1) = Sha.comp KK (Sha.blocks KK SS T.data.toList m) (Sha.blkAt T.data.toList m)) := Lib.hid rfl
          unfold Sha.comp at HNx
          have hwl := Sha.ws_len (Sha.blkAt T.data.toList m) 48
          have hwlt := fun i => Sha.ws_lt (Sha.blkAt T.data.toList m) (Sha.blkAt_lt T.data.toList m) 48 i
          have HWl := Lib.hid (And.intro hwl hwlt)
          obtain ⟨St1, hSt1⟩ : ∃ x, x = Sha.blocks KK SS T.data.toList (m + 1) := ⟨_, rfl⟩
          rw [← hSt1] at HNx
          have HSt1 := Lib.hid hSt1
          clear hSt1
          generalize Sha.blocks KK SS T.data.toList m = St at *
          generalize Sha.ws (Sha.blkAt T.data.toList m) 48 = WL at *
          clear hws hxs hlt hA ha hm hwl hwlt
          go_wp2_with fail
          refine (HWo.out wr).mono ?_
          rintro e w3 ⟨v, rfl, hown, hb3⟩
          have HR3 := Lib.hid (HR.out.step hb3)
          obtain ⟨gw, capw, rfl, hcapw, hcw⟩ := rowSome hown (by decide)
          rw [HWl.out.1] at hcw
          have HCw : Hid (∀ j, j < 64 → w3.cell? ⟨gw, j, none⟩ = some (.int .i64 ((WL.getD j 0 : Nat) : Int))) := Lib.hid hcw
          obtain ⟨k0, k1, k2, k3, k4, k5, k6, k7⟩ := eightAt HR3.out.h
          clear hb3 hown hcw HR HWo hA1 hA2
          go_upto_region 11 with fail
          go_quiet (fail)
          have HRq := Lib.hid (HR3.out.drewN nq)
          have HCq : Hid (∀ j, j < 64 → (w3.drewN nq).cell? ⟨gw, j, none⟩ = some (.int .i64 ((WL.getD j 0 : Nat) : Int))) := Lib.hid HCw.out
          generalize w3.drewN nq = wB at *
          clear k0 k1 k2 k3 k4 k5 k6 k7 HR3 HCw
          have HOk := Lib.hid hok
          have HWb : Hid (∀ i, WL.getD i 0 < 4294967296) := Lib.hid HWl.out.2
          have hcap64 : (64 : Int) ≤ (capw : Int) := by omega
          clear hok HWl hcapw
          obtain ⟨WF, hWF⟩ : ∃ WF : Nat → Nat, (fun i => WL.getD i 0) = WF := ⟨_, rfl⟩
          have HWF : Hid (∀ i, WL.getD i 0 = WF i) := Lib.hid fun i => by rw [← hWF]
          rw [hWF] at HNx
          clear hWF
          go_wp2_with fail
          go_loopw [8, 9, 10, 11, 12, 13, 14, 15, 16] (fun va vb vc vd ve vf vg vz i wx => ∃ n : Nat, ∃ s' : Sha.St, s' = Sha.rnds KK WF St n ∧ n ≤ 64 ∧ i = .int .i64 n ∧ va = .int .i64 s'.a ∧ vb = .int .i64 s'.b ∧ vc = .int .i64 s'.c ∧ vd = .int .i64 s'.d ∧ ve = .int .i64 s'.e ∧ vf = .int .i64 s'.f ∧ vg = .int .i64 s'.g ∧ vz = .int .i64 s'.z ∧ ∃ q, wx = wB.drewN q) (fun _ _ _ _ _ _ _ _ i _ => 64 - (intOf i).toNat)
          case atStart => exact ⟨0, St, rfl, by omega, rfl, rfl, rfl, rfl, rfl, rfl, rfl, rfl, rfl, 0, rfl⟩
          case round =>
            obtain ⟨n, s', hs', hn, rfl, rfl, rfl, rfl, rfl, rfl, rfl, rfl, rfl, q, rfl⟩ := hrel
            have hok' : s'.ok := by rw [hs']; exact Sha.rnds_ok HOk.out n
            have HS' := Lib.hid hs'
            clear hs'
            by_cases hlt : n < 64
            · have i0 : (0 : Int) ≤ (n : Int) ∧ (n : Int) < 64 := by omega
              have HNext : Hid (Sha.rnd (KK n) (WF n) s' = Sha.rnds KK WF St (n + 1)) := Lib.hid (by
                show _ = Sha.rnd (KK n) (WF n) (Sha.rnds KK WF St n)
                rw [← HS'.out])
              have ck : wB.cell? ⟨gk, n, none⟩ = some (.int .i64 ((KK n : Nat) : Int)) := HRq.out.k.cell n hlt
              have cw : wB.cell? ⟨gw, n, none⟩ = some (.int .i64 ((WF n : Nat) : Int)) := by
                rw [← HWF.out n]
                exact HCq.out n hlt
              have lk := KK_lt n
              have lw : WF n < 4294967296 := by rw [← HWF.out n]; exact HWb.out n
              have HLt := Lib.hid hlt
              generalize KK n = K at *
              generalize WF n = Wn at *
              obtain ⟨la, lb, lc, ld, le, lf, lg, lz⟩ := hok'
              have HRf := Lib.hid (Sha.rnd_ref K Wn s' _ _ rfl rfl)
              obtain ⟨a', b', c', d', e', f', g', z'⟩ := s'
              dsimp only at *
              -- the choice
              have t1 := i64_and_nat e' f' (Sha.small le) (Sha.small lf)
              have t2 : bits .and .i64 (4294967295 - (e' : Int)) (g' : Int) = (((4294967295 - e') &&& g' : Nat) : Int) := by
                rw [show (4294967295 : Int) - (e' : Int) = ((4294967295 - e' : Nat) : Int) by omega]
                exact i64_and_nat _ _ (by omega) (Sha.small lg)
              have t3 := Sha.ch_sum e' f' g' le lf lg
              have t4 : e' &&& f' < 4294967296 := Sha.and_lt lf
              have t5 : (4294967295 - e') &&& g' < 4294967296 := Sha.and_lt lg
              have lch := Sha.ch_lt (e := e') (g := g') lf
              generalize e' &&& f' = X1 at *
              generalize (4294967295 - e') &&& g' = X2 at *
              generalize Sha.ch e' f' g' = CH at *
              have hcs : (X1 : Int) + (X2 : Int) = (CH : Int) := by omega
              -- most
              have m1 := i64_and_nat a' b' (Sha.small la) (Sha.small lb)
              have m2 := i64_and_nat a' c' (Sha.small la) (Sha.small lc)
              have m3 := i64_and_nat b' c' (Sha.small lb) (Sha.small lc)
              have lm1 : a' &&& b' < 4294967296 := Sha.and_lt lb
              have lm2 : a' &&& c' < 4294967296 := Sha.and_lt lc
              have lm3 : b' &&& c' < 4294967296 := Sha.and_lt lc
              have m4 := i64_or_nat _ _ (Sha.small lm1) (Sha.small lm2)
              have m5 : bits .or .i64 ((a' &&& b' ||| a' &&& c' : Nat) : Int) ((b' &&& c' : Nat) : Int) = ((Sha.maj a' b' c' : Nat) : Int) := i64_or_nat _ _ (Sha.small (Sha.or_lt lm1 lm2)) (Sha.small lm3)
              have lmj := Sha.maj_lt (a := a') lb lc
              generalize a' &&& b' ||| a' &&& c' = M12 at *
              generalize a' &&& b' = M1 at *
              generalize a' &&& c' = M2 at *
              generalize b' &&& c' = M3 at *
              generalize Sha.maj a' b' c' = MJ at *
              -- turns
              have HT6 := Lib.hid fun wx => turn6 e' le wx
              have HT11 := Lib.hid fun wx => turn11 e' le wx
              have HT25 := Lib.hid fun wx => turn25 e' le wx
              have HT2 := Lib.hid fun wx => turn2 a' la wx
              have HT13 := Lib.hid fun wx => turn13 a' la wx
              have HT22 := Lib.hid fun wx => turn22 a' la wx
              have r6 := Sha.rotr_lt 6 le
              have r11 := Sha.rotr_lt 11 le
              have r25 := Sha.rotr_lt 25 le
              have r2 := Sha.rotr_lt 2 la
              have r13 := Sha.rotr_lt 13 la
              have r22 := Sha.rotr_lt 22 la
              have y1 := i64_xor_nat _ _ (Sha.small r6) (Sha.small r11)
              have y2 : bits .xor .i64 ((Sha.rotr e' 6 ^^^ Sha.rotr e' 11 : Nat) : Int) ((Sha.rotr e' 25 : Nat) : Int) = ((Sha.b1 e' : Nat) : Int) := i64_xor_nat _ _ (Sha.small (Sha.xor_lt r6 r11)) (Sha.small r25)
              have y3 := i64_xor_nat _ _ (Sha.small r2) (Sha.small r13)
              have y4 : bits .xor .i64 ((Sha.rotr a' 2 ^^^ Sha.rotr a' 13 : Nat) : Int) ((Sha.rotr a' 22 : Nat) : Int) = ((Sha.b0 a' : Nat) : Int) := i64_xor_nat _ _ (Sha.small (Sha.xor_lt r2 r13)) (Sha.small r22)
              have lb1 := Sha.b1_lt le
              have lb0 := Sha.b0_lt la
              generalize Sha.rotr e' 6 ^^^ Sha.rotr e' 11 = XE at *
              generalize Sha.rotr a' 2 ^^^ Sha.rotr a' 13 = XA at *
              generalize Sha.rotr e' 6 = R6 at *
              generalize Sha.rotr e' 11 = R11 at *
              generalize Sha.rotr e' 25 = R25 at *
              generalize Sha.rotr a' 2 = R2 at *
              generalize Sha.rotr a' 13 = R13 at *
              generalize Sha.rotr a' 22 = R22 at *
              generalize Sha.b1 e' = B1 at *
              generalize Sha.b0 a' = B0 at *
              -- sums
              have lXX : (z' + B1 + CH + K + Wn) % 4294967296 < 4294967296 := Nat.mod_lt _ (by decide)
              have lYY : (B0 + MJ) % 4294967296 < 4294967296 := Nat.mod_lt _ (by decide)
              have HWd1 : Hid (∀ wx : World, Calls Tryd.prog 26 #[.int .i64 ((z' : Int) + (B1 : Int) + (CH : Int) + (K : Int) + (Wn : Int))] wx fun e w' => e = .returned (.int .i64 (((z' + B1 + CH + K + Wn) % 4294967296 : Nat) : Int)) ∧ w' = wx) := Lib.hid fun wx => by
                have := word_any (z' + B1 + CH + K + Wn) (by omega) wx
                rw [show ((z' + B1 + CH + K + Wn : Nat) : Int) = (z' : Int) + (B1 : Int) + (CH : Int) + (K : Int) + (Wn : Int) by omega] at this
                exact this.mono fun _ _ ⟨h1, h2⟩ => ⟨h1, h2.symm⟩
              have HWd2 : Hid (∀ wx : World, Calls Tryd.prog 26 #[.int .i64 ((B0 : Int) + (MJ : Int))] wx fun e w' => e = .returned (.int .i64 (((B0 + MJ) % 4294967296 : Nat) : Int)) ∧ wx = w') := Lib.hid fun wx => by
                have := word_any (B0 + MJ) (by omega) wx
                rw [show ((B0 + MJ : Nat) : Int) = (B0 : Int) + (MJ : Int) by omega] at this
                exact this
              generalize (z' + B1 + CH + K + Wn) % 4294967296 = XX at *
              generalize (B0 + MJ) % 4294967296 = YY at *
              have HWd3 : Hid (∀ wx : World, Calls Tryd.prog 26 #[.int .i64 ((d' : Int) + (XX : Int))] wx fun e w' => e = .returned (.int .i64 (((d' + XX) % 4294967296 : Nat) : Int)) ∧ wx = w') := Lib.hid fun wx => by
                have := word_any (d' + XX) (by omega) wx
                rw [show ((d' + XX : Nat) : Int) = (d' : Int) + (XX : Int) by omega] at this
                exact this
              have HWd4 : Hid (∀ wx : World, Calls Tryd.prog 26 #[.int .i64 ((XX : Int) + (YY : Int))] wx fun e w' => e = .returned (.int .i64 (((XX + YY) % 4294967296 : Nat) : Int)) ∧ wx = w') := Lib.hid fun wx => by
                have := word_any (XX + YY) (by omega) wx
                rw [show ((XX + YY : Nat) : Int) = (XX : Int) + (YY : Int) by omega] at this
                exact this
              generalize (d' + XX) % 4294967296 = D1 at *
              generalize (XX + YY) % 4294967296 = A1 at *
              have f1 : IntKind.i64.wrap ((z' : Int) + (B1 : Int)) = (z' : Int) + (B1 : Int) := IntWalk.i64_in _ (by omega)
              have f2 : IntKind.i64.wrap ((z' : Int) + (B1 : Int) + (CH : Int)) = (z' : Int) + (B1 : Int) + (CH : Int) := IntWalk.i64_in _ (by omega)
              have f3 : IntKind.i64.wrap ((z' : Int) + (B1 : Int) + (CH : Int) + (K : Int)) = (z' : Int) + (B1 : Int) + (CH : Int) + (K : Int) := IntWalk.i64_in _ (by omega)
              have f4 : IntKind.i64.wrap ((z' : Int) + (B1 : Int) + (CH : Int) + (K : Int) + (Wn : Int)) = (z' : Int) + (B1 : Int) + (CH : Int) + (K : Int) + (Wn : Int) := IntWalk.i64_in _ (by omega)
              have HFf := Lib.hid (And.intro f1 (And.intro f2 (And.intro f3 f4)))
              have j0 : (e' : Int) ≤ 4294967295 := by omega
              have j1 : (X1 : Int) ≤ 4294967295 := by omega
              have j2 : (X2 : Int) ≤ 4294967295 := by omega
              have j3 : (B0 : Int) ≤ 4294967295 := by omega
              have j4 : (MJ : Int) ≤ 4294967295 := by omega
              have j5 : (d' : Int) ≤ 4294967295 := by omega
              have j6 : (XX : Int) ≤ 4294967295 := by omega
              have j7 : (YY : Int) ≤ 4294967295 := by omega
              clear f1 f2 f3 f4 t3 t4 t5 lch lm1 lm2 lm3 lmj r6 r11 r25 r2 r13 r22 lb1 lb0 lXX lYY la lb lc ld le lf lg lz lk lw hlt
              go_upto_region 17 with fail
              obtain ⟨f1, f2, f3, f4⟩ := HFf.out
              go_quiet ((first
                | (go_at_call 27; with_reducible exact quiet_of2 (HT6.out _))
                | (go_at_call 27; with_reducible exact quiet_of2 (HT11.out _))
                | (go_at_call 27; with_reducible exact quiet_of2 (HT25.out _))
                | (go_at_call 26; with_reducible exact quiet_of2_same (HWd1.out _))))
              clear f1 f2 f3 f4 t1 t2 m1 m2 m3 m4 m5 y1 y2 hcs ck cw
              go_wp2_with (first
                | (go_at_call 27; with_reducible refine (HT2.out _).mono ?_; rintro e w' ⟨rfl, n2, rfl⟩)
                | (go_at_call 27; with_reducible refine (HT13.out _).mono ?_; rintro e w' ⟨rfl, n13, rfl⟩)
                | (go_at_call 27; with_reducible refine (HT22.out _).mono ?_; rintro e w' ⟨rfl, n22, rfl⟩)
                | (go_at_call 26; with_reducible refine (HWd2.out _).mono ?_; rintro e w' ⟨rfl, rfl⟩)
                | (go_at_call 26; with_reducible refine (HWd3.out _).mono ?_; rintro e w' ⟨rfl, rfl⟩)
                | (go_at_call 26; with_reducible refine (HWd4.out _).mono ?_; rintro e w' ⟨rfl, rfl⟩))
              refine ⟨⟨n + 1, _, HRf.out.symm.trans HNext.out, by have := HLt.out; omega, rfl, rfl, rfl, rfl, rfl, rfl, rfl, rfl, rfl, _, rfl⟩, ?_⟩
              show 64 - ((n : Int) + 1).toNat < 64 - (n : Int).toNat
              have := HLt.out
              omega
            · --EXIT3
              have hn2 : n = 64 := by omega
              have i0 : ¬ ((n : Int) < 64) := by omega
              have HPl2 : Hid (St1 = Sha.plus St s') := Lib.hid (by
                have h1 := HS'.out
                rw [hn2] at h1
                rw [HNx.out, ← h1])
              have HRc := Lib.hid (HRq.out.drewN q)
              have Hk1 := Lib.hid hok'
              have Hk0 := HOk
              generalize wB.drewN q = wC at *
              have Hg2 : Hid (w.heap.size < wC.heap.size) := Lib.hid (World.block_lt_of_cell? wC _ (HRc.out.h.cell 0 (by show 0 < 8; decide)))
              have HC : Hid (RowI wC.heap.size (wl s') (wC.alloc (.cells #[.int .i64 s'.a, .int .i64 s'.b, .int .i64 s'.c, .int .i64 s'.d, .int .i64 s'.e, .int .i64 s'.f, .int .i64 s'.g, .int .i64 s'.z] 3))) := Lib.hid (RowI.new wC (wl s') _)
              have HO : Hid (OfR w w.heap.size gk (wl St) (wC.alloc (.cells #[.int .i64 s'.a, .int .i64 s'.b, .int .i64 s'.c, .int .i64 s'.d, .int .i64 s'.e, .int .i64 s'.f, .int .i64 s'.g, .int .i64 s'.z] 3))) := Lib.hid (HRc.out.step ((Below.refl _ _).alloc (Nat.le_refl _) _))
              clear hok' hn2 hlt hn HS' HNx HRq HRc HCq HWF HWb
              go_wp2_with fail
              generalize wC.alloc (.cells #[.int .i64 s'.a, .int .i64 s'.b, .int .i64 s'.c, .int .i64 s'.d, .int .i64 s'.e, .int .i64 s'.f, .int .i64 s'.g, .int .i64 s'.z] 3) = wD at *
              generalize wC.heap.size = g2 at *
              go_loopw [159] (fun t wx => ∃ j : Nat, j ≤ 8 ∧ t = .int .i64 j ∧ OfR w w.heap.size gk (addL (wl St) (wl s') j) wx ∧ RowI g2 (wl s') wx) (fun t _ => 8 - (intOf t).toNat)
              case atStart => exact ⟨0, by omega, rfl, HO.out, HC.out⟩
              case round =>
                obtain ⟨j, hj, rfl, ho, hc⟩ := hrel
                have HO4 := Lib.hid ho
                have HC4 := Lib.hid hc
                clear ho hc HO HC
                by_cases hlt : j < 8
                · have i0 : (0 : Int) ≤ (j : Int) ∧ (j : Int) < 8 := by omega
                  have hl8 : j < (addL (wl St) (wl s') j).length := by rw [addL_len]; exact hlt
                  have c1 := HC4.out.cell j hlt
                  have c2 := HO4.out.h.cell j hl8
                  rw [addL_get _ _ _ _ hlt, if_neg (Nat.lt_irrefl j)] at c2
                  have fz := HO4.out.h.free j hl8
                  have lH := wl_lt Hk0.out j
                  have lV := wl_lt Hk1.out j
                  have HSt : Hid (OfR w w.heap.size gk (addL (wl St) (wl s') (j + 1)) (wr.setCell ⟨w.heap.size, j, none⟩ (.int .i64 ((((wl St).getD j 0 + (wl s').getD j 0) % 4294967296 : Nat) : Int)))) := Lib.hid (by
                    have := HO4.out.set (i := j) hl8 (((wl St).getD j 0 + (wl s').getD j 0) % 4294967296)
                    rw [addL_step] at this
                    exact this)
                  have HCt : Hid (RowI g2 (wl s') (wr.setCell ⟨w.heap.size, j, none⟩ (.int .i64 ((((wl St).getD j 0 + (wl s').getD j 0) % 4294967296 : Nat) : Int)))) := Lib.hid (HC4.out.apart (by have := Hg2.out; omega) _)
                  have HWd : Hid (∀ wx : World, Calls Tryd.prog 26 #[.int .i64 (((wl St).getD j 0 : Nat) + ((wl s').getD j 0 : Nat) : Int)] wx fun e w' => e = .returned (.int .i64 ((((wl St).getD j 0 + (wl s').getD j 0) % 4294967296 : Nat) : Int)) ∧ wx = w') := Lib.hid fun wx => by
                    have := word_any ((wl St).getD j 0 + (wl s').getD j 0) (by omega) wx
                    rw [show (((wl St).getD j 0 + (wl s').getD j 0 : Nat) : Int) = ((wl St).getD j 0 : Nat) + ((wl s').getD j 0 : Nat) by omega] at this
                    exact this
                  generalize ((wl St).getD j 0 + (wl s').getD j 0) % 4294967296 = X at *
                  generalize (wl St).getD j 0 = H at *
                  generalize (wl s').getD j 0 = V at *
                  have j0 : (H : Int) ≤ 4294967295 := by omega
                  have j1 : (V : Int) ≤ 4294967295 := by omega
                  clear lH lV hl8
                  go_wp2_with (go_at_call 26; with_reducible refine (HWd.out _).mono ?_; rintro e w' ⟨rfl, rfl⟩)
                  refine ⟨⟨j + 1, by omega, rfl, HSt.out, HCt.out⟩, ?_⟩
                  show 8 - ((j : Int) + 1).toNat < 8 - (j : Int).toNat
                  omega
                · have hj8 : j = 8 := by omega
                  have i0 : ¬ ((j : Int) < 8) := by omega
                  have HO5 : Hid (OfR w w.heap.size gk (wl St1) wr) := Lib.hid (by
                    have h := HO4.out
                    rw [hj8, addL_all] at h
                    rw [HPl2.out]
                    exact h)
                  clear hj8 hlt hj
                  go_wp2_with fail
                  refine ⟨⟨m + 1, A + 64, by have := HMA.out.1; omega, by have := HMA.out.2.1; omega, rfl, by rw [← HSt1.out]; exact HO5.out⟩, ?_⟩
                  show (64 * (NB : Int) - (A + 64)).toNat < (64 * (NB : Int) - A).toNat
                  have := HMA.out.1
                  have := HMA.out.2.1
                  omega
        · --EXIT2
          have hmN : m = NB := by omega
          have i0 : ¬ (A < (T.size : Int)) := by have := HTs.out.1; omega
          rw [hmN] at HR
          have HkF := Lib.hid (Sha.blocks_ok KK SS_ok T.data.toList NB)
          obtain ⟨F, hF⟩ : ∃ x, x = Sha.blocks KK SS T.data.toList NB := ⟨_, rfl⟩
          rw [← hF] at HR HkF
          have HF := Lib.hid hF
          clear hF
          clear hmN hlt hA hm
          go_wp2_with fail
          go_loopw [23, 177] (fun p t wx => ∃ j : Nat, j ≤ 8 ∧ t = .int .i64 j ∧ p = .string ⟨(((wl F).take j).flatMap fun x => enc x 4).toArray⟩ ∧ OfR w w.heap.size gk (wl F) wx) (fun _ t _ => 8 - (intOf t).toNat)
          case atStart => exact ⟨0, by omega, rfl, rfl, HR.out⟩
          case round =>
            obtain ⟨j, hj, rfl, rfl, ho⟩ := hrel
            have HO6 := Lib.hid ho
            clear ho HR
            by_cases hlt : j < 8
            · have i0 : (0 : Int) ≤ (j : Int) ∧ (j : Int) < 8 := by omega
              have c1 := HO6.out.h.cell j hlt
              have lF := wl_lt HkF.out j
              have HBt : Hid (∀ wx : World, Calls Tryd.prog 23 #[.int .i64 (((wl F).getD j 0 : Nat) : Int), .int .i64 4] wx fun e w' => e = .returned (.string ⟨(enc ((wl F).getD j 0) 4).toArray⟩) ∧ Below wx.heap.size wx w') := Lib.hid fun wx => refBytes_any ((wl F).getD j 0) 4 (by omega) (by decide) wx
              have hP : (⟨(((wl F).take j).flatMap fun x => enc x 4).toArray⟩ : ByteArray) ++ ⟨(enc ((wl F).getD j 0) 4).toArray⟩ = ⟨(((wl F).take (j + 1)).flatMap fun x => enc x 4).toArray⟩ := by
                rw [← flat_next (wl F) j hlt]
                apply ByteArray.ext
                apply Array.toList_inj.mp
                simp [ByteArray.data_append]
              have hs1 : (⟨(((wl F).take j).flatMap fun x => enc x 4).toArray⟩ : ByteArray).size ≤ 32 := by
                show ((((wl F).take j).flatMap fun x => enc x 4)).length ≤ 32
                rw [flat_len, List.length_take]
                omega
              have hs2 : (⟨(enc ((wl F).getD j 0) 4).toArray⟩ : ByteArray).size = 4 := enc_len _ _
              obtain ⟨P2, hP2⟩ : ∃ x, x = (⟨(((wl F).take (j + 1)).flatMap fun x => enc x 4).toArray⟩ : ByteArray) := ⟨_, rfl⟩
              rw [← hP2] at hP
              have HP2 := Lib.hid hP2
              clear hP2
              generalize (⟨(((wl F).take j).flatMap fun x => enc x 4).toArray⟩ : ByteArray) = P1 at *
              generalize (⟨(enc ((wl F).getD j 0) 4).toArray⟩ : ByteArray) = Q at *
              generalize (wl F).getD j 0 = V at *
              have hrun2 : ∀ wx : World, (Op.stringOp .add P1 Q).run Tryd.prog wx = .ok (.string P2) wx := fun wx => by
                rw [← hP]
                exact run_string_add_sum wx _ _ (by omega)
              clear lF hP hs1 hs2
              go_wp2_with fail
              with_reducible refine (HBt.out _).mono ?_
              rintro e w5 ⟨rfl, hb5⟩
              have HO7 := Lib.hid (HO6.out.step hb5)
              clear hb5 c1
              go_wp2_with fail
              refine ⟨⟨j + 1, by omega, rfl, congrArg Value.string HP2.out, HO7.out⟩, ?_⟩
              show 8 - ((j : Int) + 1).toNat < 8 - (j : Int).toNat
              omega
            · have hj8 : j = 8 := by omega
              have i0 : ¬ ((j : Int) < 8) := by omega
              have hP : (⟨(((wl F).take j).flatMap fun x => enc x 4).toArray⟩ : ByteArray) = ⟨(sumB F).toArray⟩ := by rw [hj8]; rfl
              have HB9 := Lib.hid HO6.out.below
              rw [hP]
              clear hj8 hlt hj hP
              go_wp2_with fail
              go_ret
              refine ⟨?_, HB9.out⟩
              rw [HF.out]
              rfl
    · have hm : ¬ ((padJ s j).size : Int) % 64 = 56 := by
        intro e
        exact hq (hiff.1 (by omega))
      have hm2 : (((padJ s j).size : Int) % 64 == 56) = false := by rw [beq_eq_false_iff_ne]; exact hm
      have hm3 : (((padJ s j).size : Int) % 64 != 56) = true := by simp [hm]
      have HMs : Hid (900200 - (padJ s (j + 1)).size < 900200 - (padJ s j).size) := Lib.hid (by rw [padJ_size, padJ_size]; omega)
      have hrun : ∀ wx : World, (Op.stringOp .add (padJ s j) ⟨#[0]⟩).run Tryd.prog wx = .ok (.string (padJ s (j + 1))) wx := fun wx => by
        rw [← padJ_succ]
        exact run_string_add_sum wx _ _ (by show (padJ s j).size + 1 ≤ _; omega)
      have HJ : Hid (j + 1 ≤ Sha.nulls s.size) := Lib.hid (by omega)
      clear hsz hiff hn hj hq
      generalize hP1 : padJ s (j + 1) = P1 at *
      have HP1 := Lib.hid hP1
      generalize padJ s j = P at *
      clear hm hP1
      go_wp2_with fail
      go_round
      case rel => exact ⟨j + 1, HJ.out, by rw [HP1.out]⟩
      case measure => exact HMs.out
end Go.Proofs.YtfmhcomebjggoaaDoor
