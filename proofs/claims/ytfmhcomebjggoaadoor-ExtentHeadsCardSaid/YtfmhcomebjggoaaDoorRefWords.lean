/-
  The document's own sum: the words of a block: a contract.
-/
import Derived.Test.YtfmhcomebjggoaaDoorRefBytes
import Derived.Deep.AppendLies
import Derived.Deep.RegionLaw
namespace Go.Proofs.YtfmhcomebjggoaaDoor
open Go.RowKit

def natInts (l : List Nat) : List Value := l.map fun (x : Nat) => Value.int .i64 ((x : Nat) : Int)
theorem natInts_len (l : List Nat) : (natInts l).length = l.length := by simp [natInts]
theorem natInts_get (l : List Nat) (j : Nat) (h : j < l.length) : (natInts l)[j]? = some (.int .i64 ((l.getD j 0 : Nat) : Int)) := by
  unfold natInts
  rw [List.getElem?_map, List.getD_eq_getElem?_getD, List.getElem?_eq_getElem h]
  rfl
theorem infoInt : (Tryd.prog.info? 3).map (fun i => (i.zero, i.size, i.bytes)) = some (some (.int .i64 0), 1, 8) := by kernel_rfl
theorem newsInt (w : World) (x : Nat) : ∀ j u, [Value.int .i64 (x : Int)][j]? = some u → (w.alloc (.cells #[.int .i64 (x : Int)] 3)).cell? ((⟨w.heap.size, 0, none⟩ : Addr).add j) = some u := news_onep w _ _
/-- the bytes of a block as numbers -/
def blkOf (s : ByteArray) (j : Nat) : Nat := (s.data.toList.getD j 0).toNat
theorem blkOf_lt (s : ByteArray) (j : Nat) : blkOf s j < 256 := UInt8.toNat_lt _
theorem blkOf_at (s : ByteArray) (j : Nat) (h : j < s.size) : ((s[j]'h).toNat : Nat) = blkOf s j := by
  unfold blkOf
  rw [List.getD_eq_getElem?_getD, List.getElem?_eq_getElem (by simpa using h)]
  rfl
theorem words_next (blk : Nat → Nat) (k : Nat) : natInts ((List.range k).map (Sha.word blk)) ++ [.int .i64 ((Sha.word blk k : Nat) : Int)] = natInts ((List.range (k + 1)).map (Sha.word blk)) := by
  rw [List.range_succ]
  simp [natInts]
theorem ws_next (blk : Nat → Nat) (k : Nat) : natInts (Sha.ws blk k) ++ [.int .i64 ((Sha.next (Sha.ws blk k) k : Nat) : Int)] = natInts (Sha.ws blk (k + 1)) := by
  show _ = natInts (Sha.ws blk k ++ [Sha.next (Sha.ws blk k) k])
  simp [natInts]
theorem rowSome {wx : World} {B n : Nat} {v : Value} {l : List Nat} (h : wx.ownsRow B 3 1 v n (natInts l)) (hn : 0 < n) : ∃ g cap, v = .slice (some ⟨g, 0, none⟩) n cap ∧ n ≤ cap ∧ ∀ j, j < l.length → wx.cell? ⟨g, j, none⟩ = some (.int .i64 ((l.getD j 0 : Nat) : Int)) := by
  rcases h.2 with ⟨rfl, hz⟩ | ⟨g, cap, cur, rfl, hg, hh, hnc, hcm, hcs, htake⟩
  · omega
  · refine ⟨g, cap, rfl, hnc, fun j hj => ?_⟩
    have := h.cells (g := g) rfl j _ (natInts_get l j hj)
    rw [Addr.add_lit] at this
    simpa using this
set_option maxRecDepth 100000 in
set_option maxHeartbeats 4000000 in
theorem refWords_any (s : ByteArray) (hs : s.size = 64) (w : World) :
    Calls Tryd.prog 25 #[.string s] w fun e w' => ∃ v, e = .returned v ∧ w'.ownsRow w.heap.size 3 1 v 64 (natInts (Sha.ws (blkOf s) 48)) ∧ Below w.heap.size w w' := by
  obtain ⟨i0, hi, hz0, hz1, hz2⟩ := info_parts infoInt
  have HI := Lib.hid hi
  have HZ0 := Lib.hid hz0
  have HZ1 := Lib.hid hz1
  have HZ2 := Lib.hid hz2
  clear hi hz0 hz1 hz2
  have hs0 : (s.size : Int) = 64 := by omega
  have HS := Lib.hid hs
  clear hs
  go_enter Tryd.func25, Tryd.ntmps25
  go_wp2_with fail
  go_loopw [3, 4] (fun v i wx => ∃ k : Nat, k ≤ 16 ∧ i = .int .i64 k ∧ wx.ownsRow w.heap.size 3 1 v k (natInts ((List.range k).map (Sha.word (blkOf s)))) ∧ Below w.heap.size w wx) (fun _ i _ => 16 - (intOf i).toNat)
  case atStart => exact ⟨0, by omega, rfl, World.ownsRow_lit w #[] 0 (Nat.le_refl _) (by decide) rfl, (Below.refl _ _).alloc (Nat.le_refl _) _⟩
  case round =>
    obtain ⟨k, hk, rfl, hown, hbel⟩ := hrel
    have HOwn := Lib.hid hown
    have HBel := Lib.hid hbel
    clear hown hbel
    by_cases hlt : k < 16
    · have i1 : (k : Int) < 16 := by omega
      go_wp2_with fail
      go_loop [5, 6] (fun c b => ∃ m : Nat, m ≤ 4 ∧ b = .int .i64 m ∧ c = .int .i64 (Sha.part4 (fun j => blkOf s (4 * k + j)) m : Nat)) (fun _ b => 4 - (intOf b).toNat)
      case atStart => exact ⟨0, by omega, rfl, rfl⟩
      case round =>
        obtain ⟨m, hm, rfl, rfl⟩ := hrel
        have hcl := Sha.part4_lt (fun j => blkOf s (4 * k + j)) (fun j => blkOf_lt s _) m
        have hp : 256 ^ m ≤ 256 ^ 4 := Nat.pow_le_pow_right (by decide) hm
        have hc2 : Sha.part4 (fun j => blkOf s (4 * k + j)) m < 4294967296 := by omega
        clear hcl hp
        by_cases hm4 : m < 4
        · have HN : Hid (Sha.part4 (fun j => blkOf s (4 * k + j)) (m + 1) = 256 * Sha.part4 (fun j => blkOf s (4 * k + j)) m + blkOf s (4 * k + m)) := Lib.hid rfl
          have hbx := blkOf_at s (4 * k + m) (by rw [HS.out]; omega)
          have hbl := blkOf_lt s (4 * k + m)
          obtain ⟨J, hJ⟩ : ∃ J, 4 * k + m = J := ⟨_, rfl⟩
          have hJi : 4 * (k : Int) + (m : Int) = (J : Int) := by omega
          have hJ1 : (J : Int) < 64 := by omega
          have hJ2 : J < s.size := by rw [HS.out]; omega
          have hx0 : wrap64 ((s[J]'hJ2).toNat : Int) = ((s[J]'hJ2).toNat : Int) := by
            have := (s[J]'hJ2).toNat_lt
            unfold wrap64
            omega
          have hbx2 : (s[J]'hJ2).toNat = blkOf s (4 * k + m) := by
            subst hJ
            exact hbx
          clear hbx hJ
          obtain ⟨B, hB⟩ : ∃ B, (s[J]'hJ2).toNat = B := ⟨_, rfl⟩
          rw [hB] at hx0 hbx2
          rw [← hbx2] at HN hbl
          obtain ⟨P, hP⟩ : ∃ P, Sha.part4 (fun j => blkOf s (4 * k + j)) m = P := ⟨_, rfl⟩
          rw [hP] at HN hc2 ⊢
          have HM := Lib.hid hm4
          clear hP hbx2 hm
          go_wp2
          go_round
          case rel => exact ⟨m + 1, by have := HM.out; omega, by go_num, by rw [HN.out]; go_num⟩
          case measure => simp [intOf]; have := HM.out; omega
        · obtain rfl : m = 4 := by omega
          have hw := Sha.part4_word (blkOf s) (blkOf_lt s) k
          have HNx := Lib.hid (words_next (blkOf s) k)
          rw [hw] at hc2 ⊢
          generalize Sha.word (blkOf s) k = C at *
          have HLt := Lib.hid hlt
          clear hw hm hm4 hlt hk i1
          have i1 : (k : Int) < 16 := by have := HLt.out; omega
          go_wp2_with (at_builtin; refine wpList_append_own _ rfl _ _ 31 rfl w.heap.size 3 i0 (.int .i64 0) 1 8 Tryd.underlying31 HI.out HZ0.out HZ1.out HZ2.out rfl (by decide) _ _ _ rfl (HOwn.out.alloc _) ⟨wr.heap.size, 0, none⟩ 1 1 [.int .i64 (C : Int)] rfl rfl ?c1 ?c2 ?c3 ?c4 ?c5 ?_)
          case c2 => first | rfl | (intro u hu; simp at hu; subst hu; rfl)
          case c3 => (have hk8 : k < 16 := HLt.out); (first | omega | (unfold maxLen; omega))
          case c4 => (have hk8 : k < 16 := HLt.out); omega
          case c5 => have := HBel.out.size; first | omega | (simp; omega)
          · intro v' w1 hown' hgrow _
            rw [HNx.out] at hown'
            have HO1 := Lib.hid hown'
            have HB1 := Lib.hid ((HBel.out.alloc HBel.out.size (.cells #[.int .i64 (C : Int)] 3)).grown hgrow (by have := HBel.out.size; simp; omega) (rowGe HOwn.out))
            clear hown' hgrow
            go_wp2
            go_roundw
            case rel => exact ⟨k + 1, by have := HLt.out; omega, by go_num, HO1.out, HB1.out⟩
            case measure => simp [intOf]; have := HLt.out; omega
    · have hk16 : k = 16 := by omega
      have HW0 : Hid (wr.ownsRow w.heap.size 3 1 u3 16 (natInts (Sha.ws (blkOf s) 0))) := Lib.hid (by have := HOwn.out; rw [hk16] at this; exact this)
      have hk17 : ¬ (k : Int) < 16 := by omega
      clear hlt hk HOwn hk16
      go_wp2_with fail
      go_loopw [3, 7] (fun v i wx => ∃ k : Nat, ∃ I : Int, k ≤ 48 ∧ I = (16 : Int) + k ∧ i = .int .i64 I ∧ wx.ownsRow w.heap.size 3 1 v (16 + k) (natInts (Sha.ws (blkOf s) k)) ∧ Below w.heap.size w wx) (fun _ i _ => (64 - intOf i).toNat)
      case atStart => exact ⟨0, 16, by omega, rfl, rfl, HW0.out, HBel.out⟩
      case round =>
        obtain ⟨k, I, hk, hI, rfl, hown, hbel⟩ := hrel
        have HBel := Lib.hid hbel
        have hlen := Sha.ws_len (blkOf s) k
        obtain ⟨g, cap, rfl, hcap, hcell⟩ := rowSome hown (by omega)
        have HOwn := Lib.hid hown
        rw [hlen] at hcell
        by_cases hlt : k < 48
        · have i1 : I < 64 := by omega
          have i2 : (16 : Int) ≤ I := by omega
          have c1 := hcell (k + 1) (by omega)
          have c14 := hcell (k + 14) (by omega)
          have c0 := hcell k (by omega)
          have c9 := hcell (k + 9) (by omega)
          have l0 := Sha.ws_lt (blkOf s) (blkOf_lt s) k k
          have l1 := Sha.ws_lt (blkOf s) (blkOf_lt s) k (k + 1)
          have l9 := Sha.ws_lt (blkOf s) (blkOf_lt s) k (k + 9)
          have l14 := Sha.ws_lt (blkOf s) (blkOf_lt s) k (k + 14)
          have HNx := Lib.hid (ws_next (blkOf s) k)
          have HNr := Lib.hid (Sha.next_ref (Sha.ws (blkOf s) k) k)
          clear hown hbel hcell hlen
          generalize (Sha.ws (blkOf s) k).getD k 0 = y0 at *
          generalize (Sha.ws (blkOf s) k).getD (k + 1) 0 = y1 at *
          generalize (Sha.ws (blkOf s) k).getD (k + 9) 0 = y9 at *
          generalize (Sha.ws (blkOf s) k).getD (k + 14) 0 = y14 at *
          have e15 : IntKind.i64.wrap (I - 15) = ((k + 1 : Nat) : Int) := by rw [IntWalk.i64_in _ (by omega)]; omega
          have e2 : IntKind.i64.wrap (I - 2) = ((k + 14 : Nat) : Int) := by rw [IntWalk.i64_in _ (by omega)]; omega
          have e16 : IntKind.i64.wrap (I - 16) = ((k : Nat) : Int) := by rw [IntWalk.i64_in _ (by omega)]; omega
          have e7 : IntKind.i64.wrap (I - 7) = ((k + 9 : Nat) : Int) := by rw [IntWalk.i64_in _ (by omega)]; omega
          have HKl : Hid (k < 48 ∧ I = (16 : Int) + k) := Lib.hid ⟨hlt, hI⟩
          obtain ⟨K1, hK1⟩ : ∃ K1, k + 1 = K1 := ⟨_, rfl⟩
          obtain ⟨K14, hK14⟩ : ∃ K14, k + 14 = K14 := ⟨_, rfl⟩
          obtain ⟨K9, hK9⟩ : ∃ K9, k + 9 = K9 := ⟨_, rfl⟩
          obtain ⟨N, hN⟩ : ∃ N, 16 + k = N := ⟨_, rfl⟩
          have b1 : (0 : Int) ≤ (K1 : Int) ∧ (K1 : Int) < (N : Int) := by omega
          have b14 : (0 : Int) ≤ (K14 : Int) ∧ (K14 : Int) < (N : Int) := by omega
          have b9 : (0 : Int) ≤ (K9 : Int) ∧ (K9 : Int) < (N : Int) := by omega
          have b0 : (0 : Int) ≤ (k : Int) ∧ (k : Int) < (N : Int) := by omega
          rw [hK1] at c1 e15
          rw [hK14] at c14 e2
          rw [hK9] at c9 e7
          rw [hN] at hcap HOwn ⊢
          have HNn := Lib.hid hN
          clear hK1 hK14 hK9 hN hlt hk hI
          have HT7 := Lib.hid fun wx => turn7 y1 l1 wx
          have HT18 := Lib.hid fun wx => turn18 y1 l1 wx
          have HT17 := Lib.hid fun wx => turn17 y14 l14 wx
          have HT19 := Lib.hid fun wx => turn19 y14 l14 wx
          have r7 := Sha.rotr_lt 7 l1
          have r18 := Sha.rotr_lt 18 l1
          have r17 := Sha.rotr_lt 17 l14
          have r19 := Sha.rotr_lt 19 l14
          have p1 := i64_xor_nat _ _ (Sha.small r7) (Sha.small r18)
          have q1 := i64_xor_nat _ _ (Sha.small r17) (Sha.small r19)
          have p2 : bits .xor .i64 ((Sha.rotr y1 7 ^^^ Sha.rotr y1 18 : Nat) : Int) ((y1 : Int) / 8) = ((Sha.s0 y1 : Nat) : Int) := by
            rw [show (y1 : Int) / 8 = ((y1 / 8 : Nat) : Int) by omega, i64_xor_nat _ _ (Sha.small (Sha.xor_lt r7 r18)) (by omega)]
            rfl
          have q2 : bits .xor .i64 ((Sha.rotr y14 17 ^^^ Sha.rotr y14 19 : Nat) : Int) ((y14 : Int) / 1024) = ((Sha.s1 y14 : Nat) : Int) := by
            rw [show (y14 : Int) / 1024 = ((y14 / 1024 : Nat) : Int) by omega, i64_xor_nat _ _ (Sha.small (Sha.xor_lt r17 r19)) (by omega)]
            rfl
          have p3 := Sha.s0_lt l1
          have q3 := Sha.s1_lt l14
          clear r7 r18 r17 r19
          generalize Sha.rotr y1 7 = R7 at *
          generalize Sha.rotr y1 18 = R18 at *
          generalize Sha.rotr y14 17 = R17 at *
          generalize Sha.rotr y14 19 = R19 at *
          generalize R7 ^^^ R18 = X7 at *
          generalize R17 ^^^ R19 = X17 at *
          generalize Sha.s0 y1 = P at *
          generalize Sha.s1 y14 = Q at *
          obtain ⟨V, hV⟩ : ∃ V, (y0 + P + y9 + Q) % 4294967296 = V := ⟨_, rfl⟩
          have HNe := Lib.hid (HNr.out.trans hV)
          have f1 : IntKind.i64.wrap ((y0 : Int) + (P : Int)) = (y0 : Int) + (P : Int) := IntWalk.i64_in _ (by omega)
          have f2 : IntKind.i64.wrap ((y0 : Int) + (P : Int) + (y9 : Int)) = (y0 : Int) + (P : Int) + (y9 : Int) := IntWalk.i64_in _ (by omega)
          have f3 : IntKind.i64.wrap ((y0 : Int) + (P : Int) + (y9 : Int) + (Q : Int)) = (y0 : Int) + (P : Int) + (y9 : Int) + (Q : Int) := IntWalk.i64_in _ (by omega)
          have HWd : Hid (∀ wx : World, Calls Tryd.prog 26 #[.int .i64 ((y0 : Int) + (P : Int) + (y9 : Int) + (Q : Int))] wx fun e w' => e = .returned (.int .i64 (V : Int)) ∧ wx = w') := Lib.hid fun wx => by
            have := word_any (y0 + P + y9 + Q) (by omega) wx
            rw [hV, show ((y0 + P + y9 + Q : Nat) : Int) = (y0 : Int) + (P : Int) + (y9 : Int) + (Q : Int) by omega] at this
            exact this
          have HF := Lib.hid (And.intro f1 (And.intro f2 f3))
          clear HNr hV f1 f2 f3 p3 q3
          go_wp2_with fail
          go_quiet (fail)
          have l0' : (y0 : Int) ≤ 4294967295 := by omega
          clear e15 e2 b1 b14 c1 c14
          go_upto_region 17 with (first
            | (go_at_call 27; (with_reducible refine (HT7.out _).mono ?_); rintro e wz ⟨rfl, n7, rfl⟩)
            | (go_at_call 27; (with_reducible refine (HT18.out _).mono ?_); rintro e wz ⟨rfl, n18, rfl⟩)
            | (go_at_call 27; (with_reducible refine (HT17.out _).mono ?_); rintro e wz ⟨rfl, n17, rfl⟩)
            | (go_at_call 27; (with_reducible refine (HT19.out _).mono ?_); rintro e wz ⟨rfl, n19, rfl⟩))
          have HOz : Hid ((wr.drewN (nq + n7 + n18 + n17 + n19)).ownsRow w.heap.size 3 1 (.slice (some ⟨g, 0, none⟩) N cap) N (natInts (Sha.ws (blkOf s) k))) := Lib.hid HOwn.out
          have HBz : Hid (Below w.heap.size w (wr.drewN (nq + n7 + n18 + n17 + n19))) := Lib.hid (below_drewN HBel.out _)
          have z0 : (wr.drewN (nq + n7 + n18 + n17 + n19)).cell? ⟨g, k, none⟩ = some (.int .i64 (y0 : Int)) := c0
          have z9 : (wr.drewN (nq + n7 + n18 + n17 + n19)).cell? ⟨g, K9, none⟩ = some (.int .i64 (y9 : Int)) := c9
          generalize wr.drewN (nq + n7 + n18 + n17 + n19) = wz at *
          clear c0 c9 HT7 HT18 HT17 HT19 p1 p2 q1 q2 HOwn HBel l0 l1 l9 l14
          obtain ⟨f1, f2, f3⟩ := HF.out
          have HOa : Hid ((wz.alloc (.cells #[.int .i64 (V : Int)] 3)).drew.ownsRow w.heap.size 3 1 (.slice (some ⟨g, 0, none⟩) N cap) N (natInts (Sha.ws (blkOf s) k))) := Lib.hid (HOz.out.alloc _)
          have HNw : Hid (∀ j u, [Value.int .i64 (V : Int)][j]? = some u → (wz.alloc (.cells #[.int .i64 (V : Int)] 3)).drew.cell? ((⟨wz.heap.size, 0, none⟩ : Addr).add j) = some u) := Lib.hid (newsInt wz V)
          have HC1 : Hid (∀ u ∈ [Value.int .i64 (V : Int)], u.oneCell' = true) := Lib.hid (by intro u hu; simp at hu; subst hu; rfl)
          have HL1 : Hid (N + 1 ≤ maxLen) := Lib.hid (by have := HKl.out.1; have := HNn.out; unfold maxLen; omega)
          have HL2 : Hid ((N + 1) * 8 ≤ 140737488355328) := Lib.hid (by have := HKl.out.1; have := HNn.out; omega)
          have HL3 : Hid (w.heap.size ≤ (wz.alloc (.cells #[.int .i64 (V : Int)] 3)).drew.heap.size) := Lib.hid (by have := HBz.out.size; show w.heap.size ≤ (wz.alloc _).heap.size; simp; omega)
          go_region_law (first
            | (go_simp; go_at_call 26; (with_reducible refine (HWd.out _).mono ?_); rintro e wy ⟨rfl, rfl⟩)
            | ((refine step_append_lies _ rfl (.tmp 65) (.tmp 82) 31 rfl w.heap.size 3 i0 (.int .i64 0) 1 8 Tryd.underlying31 HI.out HZ0.out HZ1.out HZ2.out rfl (by decide) (.slice (some ⟨g, 0, none⟩) N cap) N (natInts (Sha.ws (blkOf s) k)) rfl HOa.out ⟨wz.heap.size, 0, none⟩ 1 1 [.int .i64 (V : Int)] rfl rfl HNw.out HC1.out (by decide) HL1.out HL2.out HL3.out _ rfl ?_); (intro g2 cap2 w1 hs hg hat hlt'); (have HSr := Lib.hid hs); (have HGr := Lib.hid hg); (clear hs hg hat hlt')))
          all_goals
            go_wp2_with fail
            have HS2 : Hid (w1.ownsRow w.heap.size 3 1 (.slice (some ⟨g2, 0, none⟩) (N + 1) cap2) (16 + (k + 1)) (natInts (Sha.ws (blkOf s) (k + 1)))) := Lib.hid (by
              have := HSr.out
              rw [← HNe.out, HNx.out] at this
              rw [show 16 + (k + 1) = N + 1 by have := HNn.out; omega]
              exact this)
            have HB2 : Hid (Below w.heap.size w w1) := Lib.hid ((HBz.out.alloc HBz.out.size (.cells #[.int .i64 (V : Int)] 3)).drew.grown HGr.out HL3.out (rowGe HOz.out))
            go_roundw
            case rel => exact ⟨k + 1, I + 1, by have := HKl.out.1; omega, by have := HKl.out.2; omega, rfl, HS2.out, HB2.out⟩
            case measure => simp [intOf]; have := HKl.out; omega
        · obtain rfl : k = 48 := by omega
          go_wp2_with fail
          go_ret
          exact ⟨_, rfl, HOwn.out, HBel.out⟩
end Go.Proofs.YtfmhcomebjggoaaDoor
