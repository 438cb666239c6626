/-
  StreamSizes: for every size and every list of raw items, the law answers true.
-/
import Derived.Test.YtpgmgopcgoblhaaDoorStreamMade
import Derived.Test.YtpgmgopcgoblhaaDoorStreamAwake
import Derived.Test.YtpgmgopcgoblhaaDoorStreamCheck
import Derived.Test.YtpgmgopcgoblhaaDoorStreamBytesFn
namespace Go.Proofs.YtpgmgopcgoblhaaDoor
open Go.RowKit

def dsum : List It → Nat
  | [] => 0
  | x :: r => x.dt.length + dsum r
theorem dsum_step {l : List It} {k : Nat} {x : It} (hx : l[k]? = some x) : dsum (l.take (k + 1)) = dsum (l.take k) + x.dt.length := by
  induction l generalizing k with
  | nil => cases hx
  | cons y r ih =>
    cases k with
    | zero => simp at hx; subst hx; simp [dsum]
    | succ k => simp at hx; simp [dsum, ih hx]; omega
theorem dsum_le {l : List It} (h : ∀ x ∈ l, x.dt.length ≤ 256) (k : Nat) : dsum (l.take k) ≤ 256 * l.length := by
  induction l generalizing k with
  | nil => simp [dsum]
  | cons y r ih =>
    cases k with
    | zero => simp [dsum]
    | succ k =>
      have h1 := h y (by simp)
      have h2 := ih (fun x hx => h x (by simp [hx])) k
      simp [dsum]
      omega
theorem dsum_all (l : List It) : dsum (l.take l.length) = dsum l := by rw [List.take_length]
theorem itB_len3 (x : It) : (itB x).length = 3 + x.dt.length := by
  unfold itB
  rw [List.length_append, enc_len]
  cases h : x.dt with
  | nil => simp
  | cons a r => simp; omega
theorem itsB_len (l : List It) : (itsB l).length = 3 * l.length + dsum l := by
  induction l with
  | nil => rfl
  | cons x r ih =>
    have e : itsB (x :: r) = itB x ++ itsB r := by simp [itsB]
    rw [e, List.length_append, ih, itB_len3]
    simp [dsum]
    omega
theorem headB_len {s : St} (hb : s.base.length = 32) (ht : s.target.length = 32) : (headB s).length = 73 := by
  unfold headB markB
  simp only [List.length_append, enc_len, hb, ht, List.length_cons, List.length_nil]
theorem bodyB_len {s : St} (hb : s.base.length = 32) (ht : s.target.length = 32) : (bodyB s).length = 73 + 3 * s.items.length + dsum s.items := by
  unfold bodyB
  rw [List.length_append, headB_len hb ht, itsB_len]
  omega
theorem allB_len {s : St} (hb : s.base.length = 32) (ht : s.target.length = 32) : (allB s).length = 77 + 3 * s.items.length + dsum s.items := by
  unfold allB
  rw [List.length_append, bodyB_len hb ht, enc_len]
  omega
theorem chkIts_all {size : Int} : ∀ (l : List It) (least : Int), 0 ≤ least → chkIts size least l = 0 → ∀ x ∈ l, 0 ≤ x.pl ∧ okIt size x = true
  | [], _, _, _ => fun x hx => by cases hx
  | y :: r, least, hl, h => fun x hx => by
    have h' : (if y.pl < least ∨ okIt size y = false then (1 : Int) else chkIts size (y.pl + 1) r) = 0 := h
    by_cases c : y.pl < least ∨ okIt size y = false
    · rw [if_pos c] at h'; cases h'
    · rw [if_neg c] at h'
      have c1 : ¬ y.pl < least := fun q => c (Or.inl q)
      have c2 : okIt size y = true := by
        cases q : okIt size y with
        | true => rfl
        | false => exact absurd (Or.inr q) c
      rcases List.mem_cons.1 hx with rfl | hx
      · exact ⟨by omega, c2⟩
      · exact chkIts_all r (y.pl + 1) (by omega) h' x hx
theorem chk_zero {s : St} (h : chk s = 0) : 1 ≤ s.size ∧ s.size ≤ 2048 ∧ ∀ x ∈ s.items, 0 ≤ x.pl ∧ x.pl < 65536 := by
  unfold chk at h
  by_cases c : s.size < 1 ∨ 2048 < s.size
  · rw [if_pos c] at h; cases h
  · rw [if_neg c] at h
    have c1 : ¬ s.size < 1 := fun q => c (Or.inl q)
    have c2 : ¬ 2048 < s.size := fun q => c (Or.inr q)
    refine ⟨by omega, by omega, fun x hx => ?_⟩
    obtain ⟨h1, h2⟩ := chkIts_all s.items 0 (by omega) h x hx
    have := okIt_le h2
    exact ⟨h1, by omega⟩
def b3 : List UInt8 := 3 :: List.replicate 31 0
def b4 : List UInt8 := 4 :: List.replicate 31 0
theorem build_b3 (w : World) : (Instr.build 22 #[(0, .int .u8 3)]).run Tryd.prog w = .ok (.agg (cellsOf b3).toArray) w := by kernel_rfl
theorem build_b4 (w : World) : (Instr.build 22 #[(0, .int .u8 4)]).run Tryd.prog w = .ok (.agg (cellsOf b4).toArray) w := by kernel_rfl
set_option maxRecDepth 100000 in
set_option maxHeartbeats 4000000 in
theorem streamSizes_walk (size : Int) (a : Option Addr) (l cap : Nat) (R : Nat → RW) (w : World) (hR : RawsIn w a l R) :
    Calls Tryd.prog 5 #[.int .i64 size, .slice a l cap] w fun e w' => e = .returned (.bool true) ∧ Below w.heap.size w w' := by
  have HR := Lib.hid hR
  have HAw := Lib.hid streamAwake
  have HAl := alloc_st
  have HSt := Lib.hid (fun wx => st0_cells wx)
  obtain ⟨Z, hZ⟩ : ∃ Z, st0.toArray = Z := ⟨_, rfl⟩
  rw [hZ] at HAl HSt
  have HM := Lib.hid (fun wx (h : RawsIn wx a l R) => made_any size b3 b4 a l cap R true wx (by decide) (by decide) h)
  have HC3 := Lib.hid build_b3
  have HC4 := Lib.hid build_b4
  have HL3 : Hid (b3.length = 32) := Lib.hid (by decide)
  have HL4 : Hid (b4.length = 32) := Lib.hid (by decide)
  obtain ⟨B3, h3⟩ : ∃ B, b3 = B := ⟨_, rfl⟩
  obtain ⟨B4, h4⟩ : ∃ B, b4 = B := ⟨_, rfl⟩
  rw [h3, h4] at HM
  rw [h3] at HC3 HL3
  rw [h4] at HC4 HL4
  obtain ⟨C3, hC3⟩ : ∃ C, (cellsOf B3).toArray = C := ⟨_, rfl⟩
  obtain ⟨C4, hC4⟩ : ∃ C, (cellsOf B4).toArray = C := ⟨_, rfl⟩
  rw [hC3, hC4] at HM
  rw [hC3] at HC3
  rw [hC4] at HC4
  clear hR hZ h3 h4 hC3 hC4
  go_enter Tryd.func5, Tryd.ntmps5
  go_wp2_with fail
  refine (HAw.out _).mono ?_
  rintro e w1 ⟨rfl, hb1⟩
  have HB1 := Lib.hid hb1
  have HR1 := Lib.hid (HR.out.below hb1)
  clear hb1
  go_wp2_with (first
    | (refine wpList_build1 rfl 22 0 _ rfl (.int .u8 3) (.agg C3) rfl (HC3.out _) ?_)
    | (refine wpList_build1 rfl 22 0 _ rfl (.int .u8 4) (.agg C4) rfl (HC4.out _) ?_))
  refine (HM.out _ HR1.out).mono ?_
  rintro e w4 ⟨z, v, its, hz, hi6, hid, rfl, hits, hb4⟩
  have HB4 := Lib.hid (HB1.out.trans (hb4.mono HB1.out.size))
  have hS := HSt.out w4
  have hNl := stL_len (size := (z : Int)) (v := v) HL3.out HL4.out
  have hN65 := stL_row (size := (z : Int)) (v := v) HL3.out HL4.out
  have hNo : (stL (z : Int) B3 B4 v).toArray.all (·.oneCell') = true := by
    obtain ⟨va, vc, rfl⟩ := hits.form
    exact one_st _ _ _ _ rfl
  have HCh := Lib.hid (fun wx (h : ItsAt wx v its) => check_any (z : Int) B3 B4 v its wx HL3.out HL4.out h (by omega) (fun x hx => by have := hid x hx; unfold maxLen; omega))
  have HBy := Lib.hid (fun wx (h : ItsAt wx v its) (hp : ∀ x ∈ its, 0 ≤ x.pl ∧ x.pl < 65536) => stBytes_any z B3 B4 v its wx hz HL3.out HL4.out h (by omega) hp (by rw [bodyB_len HL3.out HL4.out]; have := dsum_le hid its.length; rw [dsum_all] at this; dsimp only; omega))
  have HLn := Lib.hid (allB_len (s := ⟨(z : Int), B3, B4, its⟩) HL3.out HL4.out)
  have HCz := Lib.hid (fun (h : chk ⟨(z : Int), B3, B4, its⟩ = 0) => (chk_zero h).2.2)
  obtain ⟨N, hN⟩ : ∃ N, stL (z : Int) B3 B4 v = N := ⟨_, rfl⟩
  rw [hN] at hNl hN65 hNo HCh HBy ⊢
  obtain ⟨q, hq⟩ : ∃ q, chk ⟨(z : Int), B3, B4, its⟩ = q := ⟨_, rfl⟩
  rw [hq] at HCh HCz
  obtain ⟨T, hT⟩ : ∃ T, allB ⟨(z : Int), B3, B4, its⟩ = T := ⟨_, rfl⟩
  rw [hT] at HBy HLn
  dsimp only at HLn
  have HXo := Lib.hid hNo
  have HIN : Hid ((Tryd.prog.info? 28).map (·.size) = some N.toArray.size) := Lib.hid (by rw [List.size_toArray, hNl]; kernel_rfl)
  have HIL : Hid ((Tryd.prog.info? 28).map (·.size) = some N.length) := Lib.hid (by rw [hNl]; kernel_rfl)
  have HTh : Hid ((w4.alloc (.cells Z 28)).there w4.heap.size 0 N.toArray.size) := Lib.hid (hS.there 0 _ (by simp [hNl]))
  have hb5 : Below w4.heap.size w4 ((w4.alloc (.cells Z 28)).setCells w4.heap.size 0 N) := below_row ((Below.refl _ w4).alloc (Nat.le_refl _) _) N (Nat.le_refl _)
  have HC5 := Lib.hid (hS.fill (N := N) hNl)
  have HB5 := Lib.hid (HB4.out.trans (hb5.mono HB4.out.size))
  have HI5 := Lib.hid (hits.below hb5)
  have HNl := Lib.hid hNl
  have HN65 : Hid (cellsAt N 65 = v) := Lib.hid (by have := cellsAt_get N 65 (by omega); rw [hN65] at this; injection this with this; exact this.symm)
  have H6 := Lib.hid hi6
  have HId := Lib.hid hid
  clear hb4 hS hNl hN65 hNo hits hN hb5 hq hT hz hi6 hid HM HC3 HC4 HR HR1 HSt HL3 HL4
  go_upto_region 4 with (first
    | (refine wpList_alloc rfl 28 rfl _ (HAl _) ?_)
    | (with_reducible refine wpList_store_mid rfl 28 _ _ rfl w4.heap.size 0 N.toArray rfl rfl HTh.out HIN.out HXo.out ?_))
  generalize (w4.alloc (.cells Z 28)).setCells w4.heap.size 0 N = W5 at *
  obtain ⟨X, hX⟩ : ∃ X, w4.heap.size = X := ⟨_, rfl⟩
  rw [hX] at HC5 ⊢
  clear hX HTh
  have hr5 := Cells.all HNl.out HC5.out
  go_wp2_with (with_reducible refine wpList_load_g (by kernel_rfl) 28 _ rfl X 0 rfl N _ hr5 Tryd.underlying28 rfl HIL.out ?_)
  refine (HCh.out _ HI5.out).mono ?_
  rintro e w6 ⟨rfl, hb6⟩
  have HB6 := Lib.hid (HB5.out.trans (hb6.mono HB5.out.size))
  have HC6 := Lib.hid (HC5.out.below hb6)
  have HI6 := Lib.hid (HI5.out.below hb6)
  clear hb6 hr5 HC5 HI5 HCh
  by_cases hq : q = 0
  · subst hq
    have HP := Lib.hid (HCz.out rfl)
    obtain ⟨va, vc, rfl⟩ := HI6.out.form
    have x65 : w6.cell? ⟨X, 65, none⟩ = some (.slice va its.length vc) := by rw [(HC6.out.2 65 (by decide)).1, HN65.out]
    obtain ⟨n, hn⟩ : ∃ n, its.length = n := ⟨_, rfl⟩
    rw [hn] at x65 H6 HLn HN65 HI6 HBy
    have HNn := Lib.hid hn
    have n6 := H6.out
    have m1 : IntKind.i64.wrap (3 * (n : Int)) = 3 * (n : Int) := IntWalk.i64_in _ (by omega)
    have m2 : IntKind.i64.wrap (77 + 3 * (n : Int)) = 77 + 3 * (n : Int) := IntWalk.i64_in _ (by omega)
    have HDl := Lib.hid (fun k => dsum_le HId.out k)
    clear hn HCz
    go_wp2_with fail
    go_loopw [6, 27] (fun m i wx => ∃ k : Nat, k ≤ n ∧ i = .int .i64 (k : Int) ∧ m = .int .i64 ((77 + 3 * n + dsum (its.take k) : Nat) : Int) ∧ Cells X 66 (cellsAt N) wx ∧ ItsAt wx (.slice va n vc) its ∧ Below w.heap.size w wx) (fun _ i _ => n - (intOf i).toNat)
    case atStart => exact ⟨0, by omega, rfl, by simp [dsum], HC6.out, HI6.out, HB6.out⟩
    case round =>
      obtain ⟨k, hk, rfl, rfl, hc, hi, hb⟩ := hrel
      have HCr := Lib.hid hc
      have HIr := Lib.hid hi
      have HBr := Lib.hid hb
      clear hc hi hb x65
      by_cases hlt : k < n
      · have i0 : (k : Int) < (n : Int) := by omega
        obtain ⟨x, hx⟩ : ∃ x, its[k]? = some x := ⟨_, List.getElem?_eq_getElem (by rw [HNn.out]; exact hlt)⟩
        obtain ⟨b, rfl, x0, x1⟩ := HIr.out.at hx
        have HDs := Lib.hid (dsum_step hx)
        have hd := HId.out x (List.mem_of_getElem? hx)
        have HBa := Lib.hid ((Below.refl w.heap.size wr).alloc HBr.out.size (.cells #[.int .i64 x.pl, .string ⟨x.dt.toArray⟩] 51))
        have HCa := Lib.hid (HCr.out.alloc (.cells #[.int .i64 x.pl, .string ⟨x.dt.toArray⟩] 51))
        have HIa := Lib.hid (HIr.out.below ((Below.refl _ wr).alloc (Nat.le_refl _) (.cells #[.int .i64 x.pl, .string ⟨x.dt.toArray⟩] 51)))
        obtain ⟨D, hD⟩ : ∃ D : ByteArray, ⟨x.dt.toArray⟩ = D := ⟨_, rfl⟩
        have hDs : (D.size : Int) = x.dt.length := by rw [← hD, ba_size]
        rw [hD] at x1 HBa HCa HIa
        have hd2 := HDl.out k
        rw [HNn.out] at hd2
        obtain ⟨g, hg⟩ : ∃ g : Nat, 77 + 3 * n + dsum (its.take k) = g := ⟨_, rfl⟩
        rw [hg]
        obtain ⟨d, hdd⟩ : ∃ d : Nat, D.size = d := ⟨_, rfl⟩
        have HSum : Hid (77 + 3 * n + dsum (its.take (k + 1)) = g + d) := Lib.hid (by rw [HDs.out]; omega)
        have m3 : IntKind.i64.wrap ((g : Int) + (D.size : Int)) = (g : Int) + (D.size : Int) := IntWalk.i64_in _ (by omega)
        have HDd := Lib.hid hdd
        have hk9 : (k : Int) < 100000 := by omega
        clear hx hD hDs hdd hd hd2 hg
        go_wp2_with fail
        go_roundw
        case rel => exact ⟨k + 1, by omega, by go_num, by rw [HSum.out, HDd.out]; go_num, HCa.out, HIa.out, HBr.out.trans HBa.out⟩
        case measure => simp [intOf]; omega
      · obtain rfl : k = n := by omega
        have i0 : ¬ (k : Int) < (k : Int) := by omega
        have hb1 := HBy.out wr HIr.out HP.out
        have HB1 := Lib.hid hb1
        have hr7 := Cells.all HNl.out HCr.out
        have hT : (⟨T.toArray⟩ : ByteArray).size = 77 + 3 * k + dsum (its.take k) := by rw [ba_size, HLn.out]; have := dsum_all its; rw [HNn.out] at this; rw [this]
        obtain ⟨D, hD⟩ : ∃ D : ByteArray, ⟨T.toArray⟩ = D := ⟨_, rfl⟩
        rw [hD] at HB1 hT
        obtain ⟨g, hg⟩ : ∃ g : Nat, 77 + 3 * k + dsum (its.take k) = g := ⟨_, rfl⟩
        rw [hg] at hT ⊢
        have HT := Lib.hid hT
        clear hb1 hD hg hT
        go_wp2_with (with_reducible refine wpList_load_g (by kernel_rfl) 28 _ rfl X 0 rfl N _ hr7 Tryd.underlying28 rfl HIL.out ?_)
        refine HB1.out.mono ?_
        rintro e w8 ⟨rfl, hb8⟩
        have HB8 := Lib.hid (HBr.out.trans (hb8.mono HBr.out.size))
        have e1 : ((D.size : Int) == (g : Int)) = true := by rw [HT.out]; simp
        clear hb8 hr7
        go_wp2_with fail
        go_ret
        exact ⟨rfl, HB8.out⟩
  · have e0 : (q != 0) = true := by simpa using hq
    clear hq
    go_wp2_with fail
    go_ret
    exact ⟨rfl, HB6.out⟩
end Go.Proofs.YtpgmgopcgoblhaaDoor
