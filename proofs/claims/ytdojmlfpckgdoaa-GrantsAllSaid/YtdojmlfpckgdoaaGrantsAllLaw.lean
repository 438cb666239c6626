/-
  GrantsAll: for every range and list the law answers true.
-/
import Derived.Test.YtdojmlfpckgdoaaGrantsTurnsLaw
namespace Go.Proofs.Ytdojmlfpckgdoaa
open Go.RowKit

theorem mask (k : Int) (c : Nat) (hc : c < 1000) : ∃ p : Nat, bits .and .i64 k c = (p : Int) ∧ p ≤ c := by
  refine ⟨(BitVec.ofInt 64 k &&& BitVec.ofInt 64 c).toNat, ?_, ?_⟩
  all_goals
    have h : (BitVec.ofInt 64 k &&& BitVec.ofInt 64 (c : Int)).toNat ≤ c := by
      rw [BitVec.toNat_and]
      refine Nat.le_trans Nat.and_le_right ?_
      simp
      omega
  · show IntKind.i64.wrap ((BitVec.ofInt 64 k &&& BitVec.ofInt 64 c).toNat : Int) = _
    generalize (BitVec.ofInt 64 k &&& BitVec.ofInt 64 (c : Int)).toNat = y at *
    simp only [IntKind.wrap, IntKind.bits, IntKind.signed]
    simp
    omega
  · exact h
theorem make_ints (n : Nat) (hn : n ≤ 4096) (w : World) : (Instr.makeSlice 32 (.int .i64 (n : Int)) (.int .i64 (n : Int))).run Try.prog w = .ok (.slice (some ⟨w.heap.size, 0, none⟩) n n) (w.alloc (.cells (madeCells #[.int .i64 0] n) 3)) :=
  run_make_row' 32 3 (.int .i64 0) 8 Try.underlying32 infoInt rfl .i64 .i64 n (by omega) (by omega) w

/-- a map all of whose sectors are free or held, and the law's row of how often each was taken -/
structure Seen (w : World) (m g f n s : Nat) (S : Nat → Nat) (wx : World) : Prop where
  map : MapAt m g f n S wx
  two : ∀ i, i < n → S i = 0 ∨ S i = 1
  row : wx.rowIs s 3 n (fun i => .int .i64 (S i))
  below : Below w.heap.size w wx
/-- a sector is taken, and told -/
theorem Seen.next {w wx w' : World} {m g f n s i : Nat} {S : Nat → Nat} (h : Seen w m g f n s S wx) (hg : w.heap.size ≤ g) (hs : w.heap.size ≤ s) (hsm : s ≠ m) (hsg : s ≠ g) (hM : MapAt m g f n (upd S i 1) w') (hG : Grew (fun k => k = g) wx w') :
    Seen w m g f n s (upd S i 1) (w'.setCell ⟨s, i, none⟩ (.int .i64 1)) := by
  have hb : Below w.heap.size w w' := hG.below h.below h.below.size (fun k e => by omega)
  refine ⟨hM.keep (T := fun k => k = s) ((Grew.refl w').setCell ⟨s, i, none⟩ _ fun _ => rfl) (fun e => hsm e.symm) (fun e => hsg e.symm), fun j hj => ?_, ?_, hb.setCell hs _⟩
  · unfold upd
    split
    · exact Or.inr rfl
    · exact h.two j hj
  · refine ((h.row.of_block (hG.block s h.row.lt hsg)).set i _).congr fun j _ => ?_
    unfold upd
    split <;> rfl
theorem Seen.kept {w wx w' : World} {m g f n s : Nat} {S : Nat → Nat} (h : Seen w m g f n s S wx) (hg : w.heap.size ≤ g) (hsg : s ≠ g) (hM : MapAt m g f n S w') (hG : Grew (fun k => k = g) wx w') : Seen w m g f n s S w' :=
  ⟨hM, h.two, h.row.of_block (hG.block s h.row.lt hsg), hG.below h.below h.below.size (fun k e => by omega)⟩
/-- the row's cell, where a sector was free -/
theorem Seen.cell {w wx w' : World} {m g f n s i : Nat} {S : Nat → Nat} (h : Seen w m g f n s S wx) (hsg : s ≠ g) (hi : i < n) (h0 : S i = 0) (hG : Grew (fun k => k = g) wx w') : w'.cell? ⟨s, i, none⟩ = some (.int .i64 0) ∧ w'.frozen? ⟨s, i, none⟩ = false := by
  have hr := h.row.of_block (hG.block s h.row.lt hsg)
  have hc := hr.cell hi
  rw [h0] at hc
  exact ⟨hc, hr.frozen i⟩
theorem cnt_all (S : Nat → Nat) (n : Nat) (h : ∀ i, i < n → S i = 1) : cnt S 1 n = n := by
  induction n with
  | zero => rfl
  | succ n ih => show cnt S 1 n + _ = n + 1; rw [ih fun i hi => h i (by omega), if_pos (h n (by omega))]
set_option maxRecDepth 10000 in
set_option maxHeartbeats 8000000 in
theorem grantsAll_walk (f : Int) (n : Int) (a : Option Addr) (l c : Nat) (es : Nat → Int) (w : World) (_hl : l ≤ maxLen) (hA : IntsAt w a l es) :
    Calls Try.prog 11 #[.int .i64 f, .int .i64 n, .slice a l c] w fun e w' => e = .returned (.bool true) ∧ Below w.heap.size w w' := by
  obtain ⟨p, hp, hp2⟩ := mask f 255 (by decide)
  obtain ⟨N, hN2, hN⟩ : ∃ N : Nat, N ≤ 60 ∧ ((n < 0 ∧ N = 0) ∨ (60 < n ∧ N = 60) ∨ (¬ n < 0 ∧ ¬ 60 < n ∧ n = N)) := by
    by_cases h1 : n < 0
    · exact ⟨0, by omega, Or.inl ⟨h1, rfl⟩⟩
    · by_cases h2 : 60 < n
      · exact ⟨60, by omega, Or.inr (Or.inl ⟨h2, rfl⟩)⟩
      · exact ⟨n.toNat, by omega, Or.inr (Or.inr ⟨h1, h2, by omega⟩)⟩
  have t1 : IntKind.i64.wrap ((p : Int) + (N : Int)) = ((p + N : Nat) : Int) := by rw [IntWalk.i64_in _ (by omega)]; omega
  have hp' : bits .and .i64 f 255 = (p : Int) := hp
  have HNew := Lib.hid fun wx => new_map p N wx (by omega) (by omega)
  have hmk := fun wx => make_ints N (by omega) wx
  have HA := Lib.hid hA
  clear hA hp
  generalize hT : p + N = T at *
  clear hT
  go_enter Try.func11, Try.ntmps11
  go_wp2_with fail
  refine (grantsAwake _).mono ?_
  rintro e w1 ⟨rfl, hB⟩
  have HB := Lib.hid hB
  clear hB
  go_upto_region 3 with fail
  go_cut [0, 1] (fun s0 s1 wx => s0 = .int .i64 p ∧ s1 = .int .i64 N ∧ wx = w1)
  case first =>
    clear hmk HNew t1
    rcases hN with ⟨h1, rfl⟩ | ⟨h1, rfl⟩ | ⟨h1, h2, rfl⟩
    all_goals
      go_wp2_with fail
      go_meet
      exact ⟨rfl, rfl, rfl⟩
  case rest =>
    obtain ⟨rfl, rfl, rfl⟩ := hcut
    clear hN hp'
    go_wp2_with fail
    refine (HNew.out _).mono ?_
    rintro e w2 ⟨m, g, rfl, hM, hB, hm, hg⟩
    have HG : Hid (w.heap.size ≤ g) := Lib.hid (Nat.le_trans HB.out.size hg)
    have HS0 : Hid (Seen w m g p N w2.heap.size (fun _ => 0) (w2.alloc (.cells (madeCells #[.int .i64 0] N) 3))) := Lib.hid
      ⟨hM.keep (T := fun _ => False) ((Grew.refl w2).alloc _) (fun x => x) (fun x => x), fun _ _ => Or.inl rfl, World.rowIs_made w2 (.int .i64 0) N 3, (HB.out.trans (hB.mono HB.out.size)).alloc (Nat.le_trans HB.out.size hB.size) _⟩
    have HX : Hid (w.heap.size ≤ w2.heap.size ∧ w2.heap.size ≠ m ∧ w2.heap.size ≠ g) := Lib.hid ⟨Nat.le_trans HB.out.size hB.size, Nat.ne_of_gt hM.ltm, Nat.ne_of_gt hM.ltg⟩
    clear hM hB HB hm hg HNew
    go_wp2_with fail
    generalize w2.heap.size = s at *
    clear hmk
    go_loopw [9] (fun i wx => ∃ k : Nat, k ≤ 20 ∧ i = .int .i64 k ∧ ∃ S, Seen w m g p N s S wx) (fun i _ => 20 - (intOf i).toNat)
    case atStart => exact ⟨0, by omega, rfl, _, HS0.out⟩
    case round =>
      obtain ⟨k, hk, rfl, S, hS⟩ := hrel
      have HS := Lib.hid hS
      clear hS HS0
      by_cases hend : k < l ∧ k < 20
      · have j1 : (k : Int) < (l : Int) := by omega
        have j2 : (k : Int) < 20 := by omega
        have j3 : (0 : Int) ≤ (k : Int) := by omega
        rcases (HA.out.below HS.out.below) with hz | ⟨b, off, rfl, hr⟩
        · omega
        have hcell := hr k hend.1
        obtain ⟨y, hy, hy63⟩ := mask (es k) 63 (by decide)
        have hy' : bits .and .i64 (es k) 63 = (y : Int) := hy
        clear hr hy
        by_cases hyN : y < N
        · have j4 : (y : Int) < (N : Int) := by omega
          have j5 : (0 : Int) ≤ (y : Int) := by omega
          have t8 : IntKind.i64.wrap ((p : Int) + (y : Int)) = ((p + y : Nat) : Int) := by rw [IntWalk.i64_in _ (by omega)]; omega
          have HH := Lib.hid (hold_any m g p N S y wr HS.out.map (by omega) (by omega) hyN)
          generalize p + y = Y at *
          go_wp2_with fail
          refine HH.out.mono ?_
          rintro e w3 ⟨r, rfl, hT⟩
          by_cases h0 : S y = 0
          · obtain ⟨rfl, hM3⟩ := hT.1.1 h0
            obtain ⟨q1, q2⟩ := HS.out.cell HX.out.2.2 hyN h0 hT.2
            have HS3 := Lib.hid (HS.out.next HG.out HX.out.1 HX.out.2.1 HX.out.2.2 hM3 hT.2)
            clear hT hM3 HH
            go_wp2_with fail
            go_roundw
            case rel => exact ⟨k + 1, by omega, by go_num, _, HS3.out⟩
            case measure => simp [intOf]; omega
          · obtain ⟨rfl, hM3⟩ := hT.1.2 h0
            have HS3 := Lib.hid (HS.out.kept HG.out HX.out.2.2 hM3 hT.2)
            clear hT hM3 HH
            go_wp2_with fail
            go_roundw
            case rel => exact ⟨k + 1, by omega, by go_num, _, HS3.out⟩
            case measure => simp [intOf]; omega
        · have j4 : ¬ (y : Int) < (N : Int) := by omega
          go_wp2_with fail
          go_roundw
          case rel => exact ⟨k + 1, by omega, by go_num, _, HS.out⟩
          case measure => simp [intOf]; omega
      · have HE : Hid (¬ ((k : Int) < (l : Int)) ∨ ((k : Int) < (l : Int) ∧ ¬ (k : Int) < 20)) := Lib.hid (by omega)
        clear hend
        rcases HE.out with j1 | ⟨j1, j2⟩
        all_goals
          go_wp2_with fail
          clear HE
          go_loopw [11] (fun la wx => ∃ (q : Nat) (S : Nat → Nat), q ≤ N ∧ la = .int .i64 ((q : Int) - 1) ∧ Seen w m g p N s S wx ∧ ∀ i, i < q → S i = 1) (fun la _ => N - (intOf la + 1).toNat)
          case atStart => exact ⟨0, S, by omega, rfl, HS.out, fun i hi => by omega⟩
          case round =>
            obtain ⟨q, S2, hq, rfl, hS2, hq2⟩ := hrel
            have HS2 := Lib.hid hS2
            have HQ := Lib.hid hq2
            clear hS2 hq2 HS
            go_wp2_with fail
            refine (take_any m g p N S2 _ HS2.out.map (by omega) (by omega)).mono ?_
            rintro e w8 ⟨v, rfl, ht⟩
            cases ht with
            | none _ hno hM hG =>
              have HS8 := Lib.hid (HS2.out.kept HG.out HX.out.2.2 hM hG)
              have hone : ∀ i, i < N → S2 i = 1 := fun i hi => (HS2.out.two i hi).resolve_left (hno i hi)
              have HO := Lib.hid hone
              clear hM hG hno hone HS2
              go_wp2_with fail
              go_loopw [91] (fun i wx => ∃ z : Nat, z ≤ N ∧ i = .int .i64 z ∧ wx = w8) (fun i _ => N - (intOf i).toNat)
              case atStart => exact ⟨0, by omega, rfl, rfl⟩
              case round =>
                obtain ⟨z, hz, rfl, rfl⟩ := hrel
                by_cases hlt : z < N
                · have m1 : (z : Int) < (N : Int) := by omega
                  have m2 : (0 : Int) ≤ (z : Int) := by omega
                  have hcell := HS8.out.row.cell hlt
                  rw [HO.out z hlt] at hcell
                  go_wp2_with fail
                  go_roundw
                  case rel => exact ⟨z + 1, by omega, by go_num, trivial⟩
                  case measure => simp [intOf]; omega
                · have m1 : ¬ (z : Int) < (N : Int) := by omega
                  have HHe := Lib.hid (held_any m g p N S2 _ HS8.out.map (by omega))
                  rw [cnt_all S2 N HO.out] at HHe
                  have HFr := Lib.hid (free_any m g p N S2 _ HS8.out.map (by omega))
                  rw [cnt_none S2 0 N (fun i hi => by rw [HO.out i hi]; decide)] at HFr
                  go_wp2_with fail
                  refine HHe.out.mono ?_
                  rintro e w9 ⟨rfl, rfl⟩
                  go_wp2_with fail
                  refine HFr.out.mono ?_
                  rintro e w9 ⟨rfl, rfl⟩
                  go_wp2_with fail
                  go_ret
                  exact ⟨rfl, HS8.out.below⟩
            | one j _ hj h0 hno hM hG =>
              have hqj : q ≤ j := by
                rcases Nat.lt_or_ge j q with h | h
                · have := HQ.out j h; omega
                · exact h
              have n1 : IntKind.i64.wrap (((p + j : Nat) : Int) - (p : Int)) = (j : Int) := by rw [IntWalk.i64_in _ (by omega)]; omega
              have n2 : ¬ (j : Int) ≤ (q : Int) - 1 := by omega
              have n3 : ¬ (N : Int) ≤ (j : Int) := by omega
              have n4 : (0 : Int) ≤ (j : Int) := by omega
              have n5 : (j : Int) < (N : Int) := by omega
              obtain ⟨c1, c2⟩ := HS2.out.cell HX.out.2.2 hj h0 hG
              have HS8 := Lib.hid (HS2.out.next HG.out HX.out.1 HX.out.2.1 HX.out.2.2 hM hG)
              have HN := Lib.hid hno
              clear hM hG hno h0
              generalize p + j = J at *
              go_wp2_with fail
              go_roundw
              case rel =>
                refine ⟨j + 1, _, by omega, congrArg (Value.int .i64) (by omega), HS8.out, fun i hi => ?_⟩
                unfold upd
                split
                · rfl
                · exact (HS2.out.two i (by omega)).resolve_left (HN.out i (by omega))
              case measure => simp [intOf]; omega
end Go.Proofs.Ytdojmlfpckgdoaa
