/-
  What the law asks of a super at its head; which sectors are loose when one was written.
-/
import Derived.Test.YtnkmidfdpjcdaaaSuperMath
import Derived.Test.YtnkmidfdpjcdaaaDiskSureMath
namespace Go.Proofs.Ytnkmidfdpjcdaaa
open Go.RowKit

theorem loose_to (m : DiskM) (k : Nat) (h1 : ¬ sameIn m.T m.S k) : ∀ n, (∀ i, i < n → ¬ i = k → sameIn m.T m.S i) → m.looseTo n = if k < n then [k] else []
  | 0, _ => by rw [if_neg (Nat.not_lt_zero _)]; rfl
  | n + 1, h => by
    rw [DiskM.looseTo_succ, loose_to m k h1 n fun i hi => h i (by omega)]
    by_cases e : n = k
    · subst e
      have : alike m.T m.S (n * 64) = false := by
        cases hh : alike m.T m.S (n * 64) with
        | false => rfl
        | true => exact absurd ((alike_iff _ _ _).1 hh) h1
      rw [this, if_neg (Nat.lt_irrefl n), if_pos (Nat.lt_succ_self n)]
      rfl
    · have := (alike_iff m.T m.S n).2 (h n (by omega) e)
      rw [this]
      by_cases hk : k < n
      · rw [if_pos hk, if_pos (show k < n + 1 by omega)]
        rfl
      · rw [if_neg hk, if_neg (show ¬ k < n + 1 by omega)]
        rfl
theorem loose_none (m : DiskM) : ∀ n, (∀ i, i < n → sameIn m.T m.S i) → m.looseTo n = []
  | 0, _ => rfl
  | n + 1, h => by
    rw [DiskM.looseTo_succ, loose_none m n fun i hi => h i (by omega), (alike_iff m.T m.S n).2 (h n (by omega))]
    rfl
theorem new_same (d bs bt n i : Nat) : sameIn (newDisk d bs bt n).T (newDisk d bs bt n).S i := fun _ _ => rfl
theorem frame_not (s : Sup) (hs : s.fits) (h : ¬ s.ep = 0) : ¬ s.frame.data.toList = List.replicate 64 0 := fun e => by
  have := (take4_frame s.ep 0 ⟨s.text.toArray⟩ hs.ep (by decide)).1
  have e : (mkFrame s.ep 0 ⟨s.text.toArray⟩).data.toList = List.replicate 64 0 := e
  rw [e] at this
  exact h this.symm
theorem wrote_apart (m : DiskM) (k : Nat) (s : Sup) (hs : s.fits) (h : ¬ s.ep = 0) (hb : (sec m.S k) = List.replicate 64 0) : ¬ sameIn (m.wrote k (txtf s.frame)).T (m.wrote k (txtf s.frame)).S k := fun e => by
  have e1 := e.sec
  have e2 : sec (m.wrote k (txtf s.frame)).T k = s.frame.data.toList := by
    have := sectOf_wrote m k s.frame s.frame_size
    exact congrArg (fun x : ByteArray => x.data.toList) this
  have e3 : sec (m.wrote k (txtf s.frame)).S k = sec m.S k := rfl
  rw [e2, e3, hb] at e1
  exact frame_not s hs h e1
theorem wrote_loose (d bs bt n : Nat) (s : Sup) (hs : s.fits) (h : ¬ s.ep = 0) (hk : s.ep % 2 < n) : ((newDisk d bs bt n).wrote (s.ep % 2) (txtf s.frame)).looseTo n = [s.ep % 2] := by
  rw [loose_to ((newDisk d bs bt n).wrote (s.ep % 2) (txtf s.frame)) (s.ep % 2) (wrote_apart (newDisk d bs bt n) _ s hs h (sectOf_blank d bs bt n (s.ep % 2))) n fun i _ hi => (wrote_in (newDisk d bs bt n) _ _ i hi), if_pos hk]
theorem own_int {w : World} {B n : Nat} {v : Value} {x : Nat} (h : w.ownsRow B 3 1 v n (intsOf [x])) : ∃ g cap, v = .slice (some ⟨g, 0, none⟩) 1 cap ∧ w.cell? ⟨g, 0, none⟩ = some (.int .i64 x) := by
  have hn : n = 1 := by have := h.1; simp [intsOf] at this; exact this.symm
  subst hn
  rcases h.2 with ⟨_, e⟩ | ⟨g, cap, cur, rfl, _⟩
  · cases e
  · have := h.cells (g := g) rfl 0 (.int .i64 x) rfl
    rw [Addr.add_lit] at this
    exact ⟨g, cap, rfl, by simpa using this⟩
def sup3 : Sup := ⟨3, 4, 256, 0, 1⟩
theorem sup3_fits : sup3.fits := ⟨by decide, by decide, by decide, by decide, by decide⟩
theorem sup3_check : sup3.check 50 = 0 := by decide
/-- a disk that holds just one super -/
structure OneSup (s : Sup) (m : DiskM) : Prop where
  last : lastOf m = s
  err : lastE m = none
  loose : m.looseTo m.n = [s.ep % 2]
theorem oneSup (d bs bt n : Nat) (s : Sup) (hs : s.fits) (hc : s.check n = 0) : OneSup s ((newDisk d bs bt n).wrote (s.ep % 2) (txtf s.frame)) := by
  have h := last_wrote d bs bt n s hs hc
  have h0 := check_ep hc
  have h2 := check_room s n hc
  refine ⟨h, ?_, wrote_loose d bs bt n s hs h0 (by omega)⟩
  unfold lastE
  rw [h, if_neg h0]
set_option maxRecDepth 10000 in
set_option maxHeartbeats 2000000 in
theorem supAwake (w : World) : Calls Try.prog 21 #[] w fun e w' => e = .returned (.bool true) ∧ Below w.heap.size w w' := by
  go_enter Try.func21, Try.ntmps21
  go_wp2_with fail
  refine (new_any 50 w).mono ?_
  rintro e w1 ⟨m, rfl, hM⟩
  obtain ⟨d, bs, bt, hm⟩ := hM.is
  rw [show diskLen 50 = 50 from rfl] at hm
  have hn : m.n = 50 := by rw [hm]; rfl
  have hL : m.Live := by rw [hm]; exact live_new _ _ _ _
  have hO := hM.fresh
  have hB1 : Below w.heap.size w w1 := (hM.grew fun _ => False).below (Below.refl _ _) (Nat.le_refl _) (fun _ x => x.elim)
  have hD1 := hM.at'
  have h1 : supW sup3 m = (newDisk d bs bt 50).wrote (sup3.ep % 2) (txtf sup3.frame) := by
    unfold supW
    rw [hn, sup3_check, if_pos rfl, hm]
  have hS : OneSup sup3 (supW sup3 m) := by rw [h1]; exact oneSup d bs bt 50 sup3 sup3_fits sup3_check
  obtain ⟨s1, s2, s3, s4, s5⟩ := supW_same sup3 m
  have hcn : sup3.check m.n = 0 := by rw [hn]; exact sup3_check
  obtain ⟨p, hp⟩ : ∃ p, m.d = p := ⟨_, rfl⟩
  have HW : Hid (∀ wx, Below w1.heap.size w1 wx → Calls Try.prog 25 #[.pointer (some ⟨p, 0, none⟩), .agg #[.int .u32 3, .int .i64 4, .int .i64 256, .int .i64 0, .int .u32 1]] wx fun e w' => e = .returned (.int .i64 0) ∧ ∃ M, M.d = p ∧ M.dead = false ∧ OneSup sup3 M ∧ DiskAt M w' ∧ (∀ k, M.own k → w.heap.size ≤ k) ∧ Grew m.own wx w') := Lib.hid fun wx hb => by
    refine (lawSupWrite_any sup3 sup3_fits p m hp hL wx (hD1.keep (Grew.of_below (S := fun _ => False) hb) fun _ _ e => e)).mono ?_
    rintro e w' ⟨rfl, hd, hg⟩
    refine ⟨by rw [hcn]; rfl, supW sup3 m, by rw [s1]; exact hp, (s5 hL).dead, hS, hd, fun k hk => hO k (by rw [s3] at hk; exact hk), hg⟩
  have HOwn : Hid (∀ k, m.own k → k < w1.heap.size) := Lib.hid hD1.below
  have HB1 := Lib.hid hB1
  have HOf := Lib.hid hO
  rw [hp]
  clear hM hm hn hL hO hB1 hD1 h1 hS s1 s2 s3 s4 s5 hcn hp
  have hbx := heap_alloc_new w1 (.cells #[.int .u32 3, .int .i64 4, .int .i64 256, .int .i64 0, .int .u32 1] 51)
  have hb1 : Below w1.heap.size w1 (w1.alloc (.cells #[.int .u32 3, .int .i64 4, .int .i64 256, .int .i64 0, .int .u32 1] 51)) := (Below.refl _ _).alloc (Nat.le_refl _) _
  obtain ⟨l0, l1, l2, l3, l4⟩ := fiveAt hbx
  go_wp2_with fail
  generalize hWx : w1.alloc (.cells #[.int .u32 3, .int .i64 4, .int .i64 256, .int .i64 0, .int .u32 1] 51) = wb at *
  have hsz : w1.heap.size < wb.heap.size := by rw [← hWx]; simp
  clear hWx
  refine (HW.out wb hb1).mono ?_
  rintro e w2 ⟨rfl, M, m1, m2, m3, hD2, hOM, hg2⟩
  have hbx2 : w2.heap[w1.heap.size]? = some (.cells #[.int .u32 3, .int .i64 4, .int .i64 256, .int .i64 0, .int .u32 1] 51) := by
    rw [hg2.block _ hsz fun e => by have := HOwn.out _ e; omega]
    exact hbx
  have HB2 : Hid (Below w.heap.size w w2) := Lib.hid (hg2.below (HB1.out.trans (hb1.mono HB1.out.size)) (Nat.le_trans HB1.out.size (by omega)) HOf.out)
  have hlt2 : w1.heap.size < w2.heap.size := Nat.lt_of_lt_of_le hsz hg2.size
  have HRd : Hid (∀ wx, Below w2.heap.size w2 wx → Calls Try.prog 27 #[.pointer (some ⟨p, 0, none⟩)] wx fun e w' => e = .returned (.tuple #[.agg #[.int .u32 3, .int .i64 4, .int .i64 256, .int .i64 0, .int .u32 1], .int .i64 0]) ∧ Below wx.heap.size wx w') := Lib.hid fun wx hb => by
    refine (lawSupRead_any p M m1 m2 wx (hD2.keep (Grew.of_below (S := fun _ => False) hb) fun _ _ e => e)).mono ?_
    rintro e w' ⟨rfl, hb'⟩
    rw [m3.last, m3.err]
    exact ⟨rfl, hb'⟩
  have HLo : Hid (∀ wx, Below w2.heap.size w2 wx → Calls Try.prog 13 #[.pointer (some ⟨p, 0, none⟩)] wx fun e w' => ∃ g cap, e = .returned (.slice (some ⟨g, 0, none⟩) 1 cap) ∧ w'.cell? ⟨g, 0, none⟩ = some (.int .i64 1) ∧ Below wx.heap.size wx w') := Lib.hid fun wx hb => by
    subst m1
    refine (loose_any M wx (hD2.keep (Grew.of_below (S := fun _ => False) hb) fun _ _ e => e)).mono ?_
    rintro e w' ⟨v, rfl, ho, hb'⟩
    rw [m3.loose] at ho
    obtain ⟨g, cap, rfl, hc⟩ := own_int ho
    exact ⟨g, cap, rfl, hc, hb'⟩
  have HKb : Hid (∀ wx, Below w2.heap.size w2 wx → wx.heap[w1.heap.size]? = some (.cells #[.int .u32 3, .int .i64 4, .int .i64 256, .int .i64 0, .int .u32 1] 51)) := Lib.hid fun wx hb => by rw [hb.block _ hlt2]; exact hbx2
  have HHp : Hid (∀ wx : World, Calls Try.prog 48 #[.agg #[.int .u32 3, .int .i64 4, .int .i64 256, .int .i64 0, .int .u32 1]] wx fun e w' => e = .returned (.int .i64 6) ∧ Below wx.heap.size wx w') := Lib.hid fun wx => heap_any sup3 sup3_fits wx
  clear hg2 hD2 hOM m1 m2 m3 hbx2 HW HOwn HOf hbx hb1 hsz l0 l1 l2 l3 l4 hlt2
  generalize w1.heap.size = r at *
  go_wp2_with fail
  refine (HRd.out w2 (Below.refl _ _)).mono ?_
  rintro e w3 ⟨rfl, hb3⟩
  have hbr := heap_alloc_new w3 (.cells #[.int .u32 3, .int .i64 4, .int .i64 256, .int .i64 0, .int .u32 1] 51)
  have HB3 : Hid (Below w2.heap.size w2 (w3.alloc (.cells #[.int .u32 3, .int .i64 4, .int .i64 256, .int .i64 0, .int .u32 1] 51))) := Lib.hid (hb3.alloc hb3.size _)
  have hlt3 : w3.heap.size < (w3.alloc (.cells #[.int .u32 3, .int .i64 4, .int .i64 256, .int .i64 0, .int .u32 1] 51)).heap.size := by simp
  go_upto_region 6 with fail
  generalize w3.alloc (.cells #[.int .u32 3, .int .i64 4, .int .i64 256, .int .i64 0, .int .u32 1] 51) = w4 at *
  go_wp2_with fail
  refine (HLo.out w4 HB3.out).mono ?_
  rintro e w5 ⟨g, cap, rfl, hc5, hb5⟩
  have HB5 := Lib.hid (HB3.out.trans (hb5.mono HB3.out.size))
  obtain ⟨l0, l1, l2, l3, l4⟩ := fiveAt (HKb.out w5 HB5.out)
  have hbr5 : w5.heap[w3.heap.size]? = some (.cells #[.int .u32 3, .int .i64 4, .int .i64 256, .int .i64 0, .int .u32 1] 51) := by rw [hb5.block _ hlt3]; exact hbr
  obtain ⟨m0, m1, m2, m3, m4⟩ := fiveAt hbr5
  clear hb3 hb5 hbr hbr5 hlt3 HRd HLo HKb HB3
  generalize w3.heap.size = q at *
  go_wp2_with fail
  refine (HHp.out w5).mono ?_
  rintro e w6 ⟨rfl, hb6⟩
  have HB6 := Lib.hid (HB2.out.trans ((HB5.out.trans (hb6.mono HB5.out.size)).mono HB2.out.size))
  clear hb6
  go_wp2_with fail
  go_ret
  exact ⟨rfl, HB6.out⟩
end Go.Proofs.Ytnkmidfdpjcdaaa
