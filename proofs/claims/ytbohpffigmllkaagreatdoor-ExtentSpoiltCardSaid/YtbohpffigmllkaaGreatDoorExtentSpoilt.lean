/-
  ExtentSpoilt: the law's walk.
-/
import Derived.Test.YtbohpffigmllkaaGreatDoorSpoils
import Derived.Deep.RegionHeld3
import Derived.BigQuiet
namespace Go.Proofs.YtbohpffigmllkaaGreatDoor
open Go.RowKit Go.Maps Go.ChangeMaps Go.WideShapes

theorem maskN (k : Int) (n : Nat) (hn : n < 4294967296) : ∃ p : Nat, bits .and .i64 k (n : Int) = (p : Int) ∧ p ≤ n := by
  have h : (BitVec.ofInt 64 k &&& BitVec.ofInt 64 n).toNat ≤ n := by
    rw [BitVec.toNat_and]
    refine Nat.le_trans Nat.and_le_right ?_
    rw [BitVec.toNat_ofInt]
    omega
  refine ⟨(BitVec.ofInt 64 k &&& BitVec.ofInt 64 n).toNat, ?_, h⟩
  show IntKind.i64.wrap ((BitVec.ofInt 64 k &&& BitVec.ofInt 64 n).toNat : Int) = _
  generalize (BitVec.ofInt 64 k &&& BitVec.ofInt 64 n).toNat = y at *
  simp only [IntKind.wrap, IntKind.bits, IntKind.signed]
  simp
  omega
set_option maxRecDepth 100000 in
set_option maxHeartbeats 4000000 in
theorem extentSpoilt_walk (a0 : ByteArray) (hm0 : a0.size ≤ maxLen) (at' by' : Int) (c : Nat) (hc : c < 256) (w : World) (hL : Laid KK SS w) :
    Calls Tryz.prog 4 #[.string a0, .int .i64 at', .int .i64 by', .int .u8 c] w fun e w' => e = .returned (.bool true) ∧ Below w.heap.size w w' := by
  have hmf : ∀ (fn : Fn) (first cap : Array Value) (w : World), (Instr.makeFunc fn first cap).run Tryz.prog w = .ok (.func fn first cap) w := fun _ _ _ _ => rfl
  have hw2 := hL.table.1
  have HD0 := Lib.hid fun wx => data_any a0 1 wx hm0
  have HLd := Lib.hid hL
  have HCl := Lib.hid hc
  clear hL hm0 hc
  have y1 := Box.new w 3 (.int .i64 at')
  have y2 := Box.new (w.alloc (.cells #[.int .i64 at'] 3)) 3 (.int .i64 by')
  have y3 := Box.new ((w.alloc (.cells #[.int .i64 at'] 3)).alloc (.cells #[.int .i64 by'] 3)) 5 (.int .u8 (c : Int))
  rw [World.size_alloc] at y2
  rw [World.size_alloc, World.size_alloc] at y3
  have HY : Hid (Box w.heap.size 3 (.int .i64 at') (((w.alloc (.cells #[.int .i64 at'] 3)).alloc (.cells #[.int .i64 by'] 3)).alloc (.cells #[.int .u8 (c : Int)] 5)) ∧ Box (w.heap.size + 1) 3 (.int .i64 by') (((w.alloc (.cells #[.int .i64 at'] 3)).alloc (.cells #[.int .i64 by'] 3)).alloc (.cells #[.int .u8 (c : Int)] 5)) ∧ Box (w.heap.size + 1 + 1) 5 (.int .u8 (c : Int)) (((w.alloc (.cells #[.int .i64 at'] 3)).alloc (.cells #[.int .i64 by'] 3)).alloc (.cells #[.int .u8 (c : Int)] 5)) ∧ Below w.heap.size w (((w.alloc (.cells #[.int .i64 at'] 3)).alloc (.cells #[.int .i64 by'] 3)).alloc (.cells #[.int .u8 (c : Int)] 5)) ∧ (((w.alloc (.cells #[.int .i64 at'] 3)).alloc (.cells #[.int .i64 by'] 3)).alloc (.cells #[.int .u8 (c : Int)] 5)).heap.size = w.heap.size + 3) := Lib.hid ⟨(y1.keepAlloc _).keepAlloc _, y2.keepAlloc _, y3, (((Below.refl _ w).alloc (Nat.le_refl _) _).alloc (by simp) _).alloc (by simp; omega) _, by simp⟩
  clear y1 y2 y3
  go_enter Tryz.func4, Tryz.ntmps4
  go_upto_region 1 with fail
  generalize ((w.alloc (.cells #[.int .i64 at'] 3)).alloc (.cells #[.int .i64 by'] 3)).alloc (.cells #[.int .u8 (c : Int)] 5) = W0 at *
  go_wp2_with fail
  refine (HD0.out _).mono ?_
  rintro e w2 ⟨D, hD, rfl, hb2⟩
  have HB2 := Lib.hid hb2
  have HDz := Lib.hid hD
  clear hb2 hD HD0
  go_upto_region 2 with fail
  have y4 := Box.new w2 9 (.string D)
  have hsz0 := HY.out.2.2.2.2
  have hsz2 := HB2.out.size
  have g3 : Grew (fun _ => False) W0 (w2.alloc (.cells #[.string D] 9)) := (Grew.of_below HB2.out).alloc _
  have HY3 : Hid (Box w.heap.size 3 (.int .i64 at') (w2.alloc (.cells #[.string D] 9)) ∧ Box (w.heap.size + 1) 3 (.int .i64 by') (w2.alloc (.cells #[.string D] 9)) ∧ Box (w.heap.size + 1 + 1) 5 (.int .u8 (c : Int)) (w2.alloc (.cells #[.string D] 9)) ∧ Box w2.heap.size 9 (.string D) (w2.alloc (.cells #[.string D] 9)) ∧ Below w.heap.size w (w2.alloc (.cells #[.string D] 9)) ∧ w.heap.size + 2 < w2.heap.size) := Lib.hid ⟨HY.out.1.keep g3 fun e => e, HY.out.2.1.keep g3 fun e => e, HY.out.2.2.1.keep g3 fun e => e, y4, (HY.out.2.2.2.1.trans (HB2.out.mono (by omega))).alloc (by omega) _, by omega⟩
  clear HY hsz0 hsz2 g3 y4 HB2
  generalize w2.alloc (.cells #[.string D] 9) = W3 at *
  generalize w2.heap.size = xd at *
  have cD := HY3.out.2.2.2.1.cell
  go_wp2_with fail
  refine (extAwake _).mono ?_
  rintro e w3 ⟨rfl, hb3⟩
  have g3 := Grew.of_below (S := fun _ => False) hb3
  have HY4 : Hid (Box w.heap.size 3 (.int .i64 at') w3 ∧ Box (w.heap.size + 1) 3 (.int .i64 by') w3 ∧ Box (w.heap.size + 1 + 1) 5 (.int .u8 (c : Int)) w3 ∧ Box xd 9 (.string D) w3 ∧ Below w.heap.size w w3 ∧ w.heap.size + 2 < xd) := Lib.hid ⟨HY3.out.1.keep g3 fun e => e, HY3.out.2.1.keep g3 fun e => e, HY3.out.2.2.1.keep g3 fun e => e, HY3.out.2.2.2.1.keep g3 fun e => e, HY3.out.2.2.2.2.1.trans (hb3.mono HY3.out.2.2.2.2.1.size), HY3.out.2.2.2.2.2⟩
  have cD := HY4.out.2.2.2.1.cell
  have HZ0 := Lib.hid fun wx => refZero_any D wx (by rw [HDz.out]; decide)
  clear hb3 g3 HY3
  cases hz : allZero D.data.toList with
  | true =>
    rw [hz] at HZ0
    go_wp2_with fail
    refine (HZ0.out _).mono ?_
    rintro e w4 ⟨rfl, rfl⟩
    go_wp2_with fail
    refine (extAwake _).mono ?_
    rintro e w5 ⟨rfl, hb5⟩
    have HB5 := Lib.hid (HY4.out.2.2.2.2.1.trans (hb5.mono HY4.out.2.2.2.2.1.size))
    clear hb5
    go_wp2_with fail
    go_ret
    exact ⟨rfl, HB5.out⟩
  | false =>
    rw [hz] at HZ0
    go_wp2_with fail
    refine (HZ0.out _).mono ?_
    rintro e w4 ⟨rfl, rfl⟩
    go_wp2_with fail
    refine (new_any 20 _).mono ?_
    rintro e w5 ⟨M, rfl, hM⟩
    have hn : M.n = 2 + 18 ∧ M.armed = false ∧ M.dead = false ∧ M.left ≤ 2 ^ 62 := by
      obtain ⟨d, bs, bt, e⟩ := hM.is
      rw [e]
      exact ⟨by show diskLen 20 = 20; decide, rfl, rfl, by show (0 : Int) ≤ 2 ^ 62; decide⟩
    have HNew := Lib.hid (hNewT_any M 2 18 (w5.alloc (.cells #[.pointer (some ⟨M.d, 0, none⟩)] 26)) (by decide) (by decide) (hM.at'.kept ((Grew.refl (S := fun _ => False) w5).alloc _) (fun e => e) (fun e => e) fun e => e) hn.1 hn.2.1 hn.2.2.1 hn.2.2.2)
    have ck := (Box.new w5 26 (.pointer (some ⟨M.d, 0, none⟩))).cell
    have HM := Lib.hid hM
    clear hM hn HZ0
    go_wp2_with fail
    refine HNew.out.mono ?_
    rintro e w6 ⟨b, rfl, ok, hbf, hbn, hbd, hI, hL, hg, hB, hfr, hbs, hbt, _⟩
    have hfr2 : ∀ i, i < 6 → w5.heap.size < b.blk i := fun i hi => by have := hfr i hi; rw [World.size_alloc] at this; omega
    have HHp := Lib.hid (And.intro ok (And.intro hbf (And.intro hbn (And.intro hbd (And.intro hI (And.intro hL (And.intro hg (And.intro hB (And.intro hfr2 (And.intro hbs hbt))))))))))
    clear ok hbf hbn hbd hI hL hg hB hfr hfr2 hbs hbt HNew ck
    go_wp2_with fail
    refine (eNewQ_any b 256 [keyB D 256] w6).mono ?_
    rintro e w7 ⟨rfl, hx, hT, g7, s7⟩
    have e256 : min (max (256 : Int) 1) 256 = 256 := by decide
    rw [e256] at hx
    have HSt := Lib.hid (And.intro hx (And.intro hT (And.intro g7 s7)))
    clear hx hT g7 s7 e256
    go_upto_region 8 with fail
    obtain ⟨W, hW⟩ : ∃ W, ((w7.alloc (.cells #[.pointer (some ⟨w6.heap.size + 1, 0, none⟩)] 28)).alloc (.cells #[.int .i64 0] 3)) = W := ⟨_, rfl⟩
    simp only [hW]
    obtain ⟨hc0, hx0, hp0⟩ := spMk _ hw2 HLd.out (Grew.of_below HY4.out.2.2.2.2.1) (Nat.le_refl _) HY4.out.2.2.2.2.2 HY4.out.1 HY4.out.2.1 HY4.out.2.2.1 HY4.out.2.2.2.1 HM.out HHp.out.1 HHp.out.2.1 HHp.out.2.2.1 HHp.out.2.2.2.1 HHp.out.2.2.2.2.1 HHp.out.2.2.2.2.2.1 HHp.out.2.2.2.2.2.2.1 HHp.out.2.2.2.2.2.2.2.1 HHp.out.2.2.2.2.2.2.2.2.1 HHp.out.2.2.2.2.2.2.2.2.2.1 HHp.out.2.2.2.2.2.2.2.2.2.2 HSt.out.1 HSt.out.2.1 HSt.out.2.2.1 HSt.out.2.2.2 W hW
    have HC0 := Lib.hid hc0
    have HX0 := Lib.hid hx0
    have HP0 := Lib.hid hp0
    have HLo : Hid (w.heap.size ≤ w7.heap.size) := Lib.hid (by have := hx0.lo; have := hx0.o1; have := hx0.o2; have := hx0.o3; omega)
    clear hc0 hx0 hp0 hW HSt HHp HM HY4 HLd
    generalize w7.heap.size = X at *
    generalize hxs : w6.heap.size + 1 = xs at *
    generalize w6.heap.size = kb at *
    generalize w5.heap.size = xk at *
    clear hxs
    have HT1 := Lib.hid (spNew (p := X + 1) HC0.out HX0.out.bt HX0.out.bd HP0.out HX0.out.nt HX0.out.nd HX0.out.np (by have := HLo.out; omega) HDz.out hz (WalkArith.wf_i64 ⟨by omega, by omega⟩) rfl (by simp) (by simp) (by rw [cnt_newS]; have := HC0.out.hn; omega) (HB.far HC0.out.ok HC0.out.st.sz))
    go_wp2_with fail
    refine HT1.out.mono ?_
    rintro e w8 ⟨rfl, U, s1, j, hN, hH⟩
    have HX1 := Lib.hid ((HX0.out.turn hN.g HC0.out.tb (by omega)).at' U)
    have HC1 := Lib.hid hN.at'
    have HP1 := Lib.hid hN.bp
    have HPt := Lib.hid (And.intro hN.put hH)
    clear hN hH HT1 HC0 HX0 HP0
    have HAll : Hid (∀ wx, Grew (fun _ => False) w8 wx → Calls Tryz.prog 37 #[.pointer (some ⟨b.hb, 0, none⟩)] wx fun e w' => ∃ a cc, e = .returned (.slice (some ⟨a, 0, none⟩) (cnt s1.S 1 b.n) cc) ∧ (∀ m, m < cnt s1.S 1 b.n → ∃ i, i < b.n ∧ s1.S i = 1 ∧ w'.cell? ⟨a, m, none⟩ = some (.int .i64 ((b.f + i : Nat) : Int))) ∧ Grew (fun _ => False) wx w') := Lib.hid fun wx gx => by
      have hc := HC1.out
      have hput := HPt.out.1
      have h1 := cnt_one hput.lt hput.hS
      refine (hAll_any (b.at U) hc.ok s1 wx (hc.st.keep gx (fun _ _ e => e) fun _ _ _ e => e)).mono ?_
      rintro e w' ⟨⟨a, cc, rfl, ho⟩, hb⟩
      rcases ho.2 with ⟨_, h0⟩ | ⟨g', cap', cur, e', _⟩
      · have h0 : cnt s1.S 1 b.n = 0 := h0
        omega
      · cases e'
        refine ⟨_, _, rfl, fun m hm => ?_, Grew.of_below hb⟩
        obtain ⟨i, hi, hsi, hget⟩ := allL_pick b.f s1.S b.n m hm
        have hcell := ho.cellAt m (by show m < cnt s1.S 1 b.n * 1; omega)
        have e9 : (allL (b.at U).f s1.S (b.at U).n)[m]? = (allL b.f s1.S b.n)[m]? := rfl
        rw [e9, hget] at hcell
        exact ⟨i, hi, hsi, hcell⟩
    have HNb : Hid (1 ≤ cnt s1.S 1 b.n ∧ cnt s1.S 1 b.n ≤ b.n) := Lib.hid ⟨cnt_one HPt.out.1.lt HPt.out.1.hS, cnt_le s1.S 1 b.n⟩
    generalize cnt s1.S 1 b.n = N at *
    go_wp2_with fail
    refine (HAll.out _ (Grew.refl _)).mono ?_
    rintro e w9 ⟨lb, cc, rfl, hcl, hg9⟩
    go_upto_region 11 with fail
    have gl : Grew (fun _ => False) w8 (w9.alloc (.cells #[.slice (some ⟨lb, 0, none⟩) N cc] 54)) := hg9.alloc _
    have HC2 := Lib.hid (HC1.out.keepF gl)
    have HX2 := Lib.hid (HX1.out.keepF gl)
    have HP2 := Lib.hid (HP1.out.keep gl fun e => e)
    have HBl := Lib.hid (Box.new w9 54 (.slice (some ⟨lb, 0, none⟩) N cc))
    have HXl : Hid (X + 1 < w9.heap.size) := Lib.hid (by have := HP1.out.lt; have := hg9.size; omega)
    obtain ⟨p0, hp0, hp0'⟩ := maskN at' 255 (by decide)
    obtain ⟨m, hm⟩ : ∃ m, p0 % N = m := ⟨_, rfl⟩
    have hmN : m < N := by rw [← hm]; exact Nat.mod_lt _ HNb.out.1
    obtain ⟨i, hi, hsi, hci⟩ := hcl m hmN
    have hcL : (w9.alloc (.cells #[.slice (some ⟨lb, 0, none⟩) N cc] 54)).cell? ⟨lb, m, none⟩ = some (.int .i64 ((b.f + i : Nat) : Int)) := by
      have := cell_lt hci
      rw [← hci]
      exact World.cell?_of_block (w := w9) (Below.heap_alloc _ _ _ this)
    obtain ⟨p, hp, hp'⟩ := maskN by' 63 (by decide)
    have hxc : (UInt8.ofNat c).toNat = c := by simp; exact HCl.out
    have HIx : Hid (i < b.n ∧ s1.S i = 1 ∧ p < 64) := Lib.hid ⟨hi, hsi, by omega⟩
    have HG := Lib.hid (spG2 (b := b.at U) (T := U) HC2.out.st.dt (b.f + i) p (UInt8.ofNat c) (by show b.f + i < b.f + b.n; omega) (by omega) at' by' p0 N cc m lb hp0 (by rw [← hm]; rfl) hmN hp hcL xk w9.heap.size w.heap.size (w.heap.size + 1) (w.heap.size + 1 + 1) HX2.out.bk HBl.out HX2.out.ba HX2.out.bb (by rw [hxc]; exact HX2.out.bw) (by have h1 := HB.diskLt HC2.out.ok; have h2 := HC2.out.st.sz; have e9 : (b.at U).B = b.B := rfl; omega))
    have hN0 : ((N : Int) == 0) = false := by rw [beq_eq_false_iff_ne]; have := HNb.out.1; omega
    have cl := HBl.out.cell
    clear gl hg9 hcl hci hcL hp0 hp0' hm hmN hi hsi hp hp' HC1 HX1 HP1 HAll HBl
    generalize w9.alloc (.cells #[.slice (some ⟨lb, 0, none⟩) N cc] 54) = W9 at *
    generalize w9.heap.size = xl at *
    go_wp2_with fail
    refine HG.out.mono ?_
    rintro e w10 ⟨rfl, hd, hg⟩
    have hxs : xs ≠ X + 1 := fun e => by
      have q1 := HC2.out.sx
      have q2 := HP2.out
      unfold StAt at q1
      unfold Box at q2
      rw [e, q2] at q1
      simp at q1
    obtain ⟨hc3, hg3⟩ := HC2.out.spoilt hd hg (X + 1) (by have := HLo.out; omega) hxs
    have hdS : ∀ k, (k = b.d ∨ k = b.bs ∨ k = b.bt) → b.S0 k := by
      rintro k (e | e | e)
      · exact ⟨6, by decide, e⟩
      · exact ⟨7, by decide, e⟩
      · exact ⟨8, by decide, e⟩
    have hx3 := (HX2.out.turn hg3 HC2.out.tb (by omega)).at' (bendF U ((b.f + i) * 64 + p) (UInt8.ofNat c))
    have hp3 : Box (X + 1) 3 (.int .i64 ((b.f + j : Nat) : Int)) w10 := HP2.out.keep hg fun e => HX2.out.np (hdS _ e)
    have HC4 : Hid (CsAt w (b.at (bendF U ((b.f + i) * 64 + p) (UInt8.ofNat c))) s1 xs kb 256 (upF (fun _ => none) (keyB D 256) (some ((b.f + j : Nat) : Int))) [keyB D 256] (w10.alloc (.cells #[.string ⟨#[]⟩] 9))) := Lib.hid (hc3.keepF ((Grew.refl _).alloc _))
    have HX4 : Hid (SpBx w (b.at (bendF U ((b.f + i) * 64 + p) (UInt8.ofNat c))) xs w.heap.size xd xk X at' by' c D (w10.alloc (.cells #[.string ⟨#[]⟩] 9))) := Lib.hid (hx3.keepF ((Grew.refl _).alloc _))
    have HP4 := Lib.hid (hp3.keepAlloc (.cells #[.string ⟨#[]⟩] 9))
    have HY : Hid (Box w10.heap.size 9 (.string ⟨#[]⟩) (w10.alloc (.cells #[.string ⟨#[]⟩] 9))) := Lib.hid (Box.new w10 _ _)
    have HYl : Hid (X + 1 < w10.heap.size) := Lib.hid hp3.lt
    have HYn : Hid (¬ b.S0 w10.heap.size) := Lib.hid (HB.far hc3.ok hc3.st.sz)
    clear hc3 hg3 hx3 hp3 hdS hxs hd hg HG HC2 HX2 HP2 cl
    by_cases hc0 : c = 0
    · subst hc0
      have hV : bendF U ((b.f + i) * 64 + p) (UInt8.ofNat 0) = U := bendF_zero U _
      rw [hV] at HC4 HX4
      have HT3 := Lib.hid (spGet (D := D) w10.heap.size ((b.f + j : Nat) : Int) HC4.out HX4.out.bt HP4.out HY.out HX4.out.nt HX4.out.np HYn.out (fun wx hi st => eGet_any (b.at U) HC4.out.ok (by have := HC4.out.hf; have e9 : (b.at U).f = b.f := rfl; omega) s1 xs kb 256 D HDz.out _ (fun j => Nat.mod_lt _ (by decide)) (b.f + j) wx hi st HC4.out.nx HPt.out.1.lies))
      go_wp2_with fail
      refine HT3.out.mono ?_
      rintro e w11 ⟨rfl, hy, hg⟩
      have hx5 := HX4.out.turn hg HC4.out.tb (by have := HYl.out; omega)
      have c1 := hx5.bw.cell
      have c2 := hx5.bd.cell
      have c3 := hy.cell
      have HGb : Hid (Grew (fun k => w.heap.size ≤ k) w w11) := Lib.hid (HC4.out.g.trans (Grew.mono hg fun k _ e => by
        rcases e with (e | ⟨e, _⟩) | e | e
        · exact HC4.out.own k e
        · exact Nat.le_trans HC4.out.hB e
        · rw [e]; exact HC4.out.k0
        · rw [e]; have := HYl.out; have := HLo.out; omega))
      have HE := Lib.hid (HGb.out.below (Below.refl _ w) (Nat.le_refl _) fun _ e => e)
      have hEq : (D.toList == D.toList) = true := by simp
      clear hx5 hy hg HT3 HGb
      go_wp2_with fail
      go_ret
      exact ⟨rfl, HE.out⟩
    · have hx0 : UInt8.ofNat c ≠ 0 := fun e => hc0 (by
        have := congrArg UInt8.toNat e
        rw [hxc] at this
        exact this)
      have HT3 := Lib.hid (spGetBad w10.heap.size ((b.f + j : Nat) : Int) 11 (by decide) HC4.out HX4.out.bt HP4.out HY.out HX4.out.nt HX4.out.np HYn.out (fun wx hi st => spGets (b := b) (HC4.out.ok.at b.T) (by have := HC4.out.hf; have e9 : (b.at (bendF U ((b.f + i) * 64 + p) (UInt8.ofNat c))).f = b.f := rfl; omega) HDz.out (fun j => Nat.mod_lt _ (by decide)) HPt.out.1.lt HPt.out.1.hS HPt.out.2 i HIx.out.1 HIx.out.2.1 p HIx.out.2.2 (UInt8.ofNat c) hx0 xs kb 256 HC4.out.nx wx hi st))
      have hcI : ((c : Int) == 0) = false := by rw [beq_eq_false_iff_ne]; omega
      have hcN : ¬ (c : Int) = 0 := by omega
      go_wp2_with fail
      refine HT3.out.mono ?_
      rintro e w11 ⟨rfl, hy, hg⟩
      have hx5 := HX4.out.turn hg HC4.out.tb (by have := HYl.out; omega)
      have c1 := hx5.bw.cell
      have c2 := hx5.bd.cell
      have c3 := hy.cell
      have HGb : Hid (Grew (fun k => w.heap.size ≤ k) w w11) := Lib.hid (HC4.out.g.trans (Grew.mono hg fun k _ e => by
        rcases e with (e | ⟨e, _⟩) | e | e
        · exact HC4.out.own k e
        · exact Nat.le_trans HC4.out.hB e
        · rw [e]; exact HC4.out.k0
        · rw [e]; have := HYl.out; have := HLo.out; omega))
      have HE := Lib.hid (HGb.out.below (Below.refl _ w) (Nat.le_refl _) fun _ e => e)
      clear hx5 hy hg HT3 HGb
      go_wp2_with fail
      go_ret
      exact ⟨rfl, HE.out⟩
end Go.Proofs.YtbohpffigmllkaaGreatDoor
