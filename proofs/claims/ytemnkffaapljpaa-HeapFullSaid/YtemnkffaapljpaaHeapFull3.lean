/-
  HeapFull: what its second and third Try run: contracts.
-/
import Derived.Test.YtemnkffaapljpaaHeapFull1
namespace Go.Proofs.Ytemnkffaapljpaa
open Go.RowKit Go.Maps Go.ChangeMaps Go.WideShapes

/-- of the first m the first j were let go again -/
def lessS (f : Nat) (K : Int) (m j : Nat) : HS := ⟨fun i => if i < j then 2 else if i < m then 1 else 0, fun T => if ((f + j : Nat) : Int) ≤ T ∧ T < ((f + m : Nat) : Int) then some 1 else none, fun T => if ((f + j : Nat) : Int) ≤ T ∧ T < ((f + m : Nat) : Int) then some () else none, rng f j, K⟩
theorem lessS_zero (f : Nat) (K : Int) (m : Nat) : lessS f K m 0 = fullS f K m := by
  unfold lessS fullS
  simp only [Nat.not_lt_zero, if_false, Nat.add_zero]
  rfl
theorem lessS_next (f : Nat) (K : Int) (m j : Nat) (h : j < m) : (lessS f K m j).letYoung j ((f + j : Nat) : Int) (f + j) = lessS f K m (j + 1) := by
  unfold HS.letYoung lessS
  congr 1
  · funext i
    unfold upd
    dsimp only
    by_cases h1 : i = j
    · subst h1
      rw [if_pos rfl, if_pos (Nat.lt_succ_self _)]
    · rw [if_neg h1]
      by_cases h2 : i < j
      · have h3 : i < j + 1 := by omega
        rw [if_pos h2, if_pos h3]
      · have h3 : ¬ i < j + 1 := by omega
        rw [if_neg h2, if_neg h3]
  · funext T
    unfold upF
    dsimp only
    by_cases h1 : T = ((f + j : Nat) : Int)
    · rw [if_pos h1, if_neg (by omega)]
    · rw [if_neg h1]
      by_cases h2 : ((f + j : Nat) : Int) ≤ T ∧ T < ((f + m : Nat) : Int)
      · rw [if_pos h2, if_pos (by omega)]
      · rw [if_neg h2, if_neg (by omega)]
  · funext T
    unfold upF
    dsimp only
    by_cases h1 : T = ((f + j : Nat) : Int)
    · rw [if_pos h1, if_neg (by omega)]
    · rw [if_neg h1]
      by_cases h2 : ((f + j : Nat) : Int) ≤ T ∧ T < ((f + m : Nat) : Int)
      · rw [if_pos h2, if_pos (by omega)]
      · rw [if_neg h2, if_neg (by omega)]
  · unfold rng
    rw [List.range_succ, List.map_append]
    rfl
theorem rng_mem (f k x : Nat) : x ∈ rng f k ↔ ∃ i, i < k ∧ x = f + i := by
  unfold rng
  rw [List.mem_map]
  constructor
  · rintro ⟨i, hi, e⟩
    exact ⟨i, List.mem_range.1 hi, e.symm⟩
  · rintro ⟨i, hi, e⟩
    exact ⟨i, List.mem_range.2 hi, e.symm⟩
theorem less_gone {b : HB} {K : Int} {m : Nat} (h : m ≤ b.n) (hm : m < 1000) : GoneOk b (lessS b.f K m m) where
  all := fun x hx => by
    obtain ⟨i, hi, e⟩ := (rng_mem _ _ _).1 hx
    exact ⟨i, by omega, e, if_pos hi⟩
  nd := by
    show (rng b.f m).Nodup
    unfold rng
    refine List.Pairwise.map _ (fun a c h e => ?_) List.nodup_range
    have e : b.f + a = b.f + c := e
    exact h (by omega)
  len := by
    show (rng b.f m).length < 100000
    rw [rng_len]
    omega
theorem less_fin (b : HB) (K : Int) (m : Nat) : ((lessS b.f K m m).fin b).S = fun _ => 0 := by
  funext i
  show (if b.f + i ∈ (rng b.f m).take (rng b.f m).length then 0 else (if i < m then 2 else if i < m then 1 else 0)) = 0
  rw [List.take_length]
  by_cases h : i < m
  · rw [if_pos ((rng_mem _ _ _).2 ⟨i, h, rfl⟩)]
  · rw [if_neg fun e => ?_, if_neg h, if_neg h]
    obtain ⟨j, hj, e⟩ := (rng_mem _ _ _).1 e
    omega
theorem cnt_all0 (k : Nat) : ∀ n, cnt (fun _ => k) k n = n ∧ ∀ c, c ≠ k → cnt (fun _ => k) c n = 0
  | 0 => ⟨rfl, fun _ _ => rfl⟩
  | n + 1 => by
    obtain ⟨a, c⟩ := cnt_all0 k n
    refine ⟨?_, fun d hd => ?_⟩
    · show cnt _ k n + _ = _
      rw [a]
      simp
    · show cnt _ d n + _ = _
      rw [c d hd]
      have : ¬ k = d := fun e => hd e.symm
      simp [this]
/-- the list of those that were put, to be read -/
structure Fl3 (b : HB) (xh xf xl : Nat) (F : Bool) (a : Option Addr) (c m : Nat) (w : World) : Prop where
  bh : Box xh 54 (.pointer (some ⟨b.hb, 0, none⟩)) w
  bf : Box xf 4 (.bool F) w
  bl : Box xl 51 (.slice a m c) w
  cs : ∀ i, i < m → ∃ r, a = some ⟨r, 0, none⟩ ∧ w.cell? ⟨r, i, none⟩ = some (.int .i64 ((b.f + i : Nat) : Int)) ∧ Plain b.S0 w r
theorem Fl3.kept {b : HB} {xh xf xl c m : Nat} {F : Bool} {a : Option Addr} {w w' : World} (h : Fl3 b xh xf xl F a c m w) (s : ¬ b.S0 xh ∧ ¬ b.S0 xf ∧ ¬ b.S0 xl) (k : Kept b.S0 w w') : Fl3 b xh xf xl F a c m w' :=
  ⟨(k _ (Box.pl h.bh s.1 (by decide) (by decide))).trans h.bh, (k _ (Box.pl h.bf s.2.1 (by decide) (by decide))).trans h.bf, (k _ (Box.pl h.bl s.2.2 (by decide) (by decide))).trans h.bl, fun i hi => by
    obtain ⟨r, e1, e2, e3⟩ := h.cs i hi
    have e := k r e3
    exact ⟨r, e1, (by simp [World.cell?, e] : w'.cell? ⟨r, i, none⟩ = w.cell? ⟨r, i, none⟩).trans e2, by
      obtain ⟨n, cc, t, fz, e4, r1⟩ := e3
      exact ⟨n, cc, t, fz, e.trans e4, r1⟩⟩⟩
set_option maxRecDepth 100000 in
set_option maxHeartbeats 1000000 in
theorem full2_any (b : HB) (ok : b.ok) (s : HS) (hK : (cnt s.S 0 b.n : Nat) ≤ s.K) (xh : Nat) (w : World) (h : HeapI b s w) (bh : Box xh 54 (.pointer (some ⟨b.hb, 0, none⟩)) w) : Calls Try.prog 40 #[.pointer (some ⟨xh, 0, none⟩)] w fun e w' => e = Ends (some 8) ∧ Grew (fun _ => False) w w' := by
  have HP := Lib.hid (putFull_any b ok s ⟨#[121]⟩ hK w h)
  have d1 := bh.cell
  clear h bh hK
  go_enter Try.func40, Try.ntmps40
  go_wp2_with fail
  refine HP.out.mono ?_
  rintro e w1 ⟨rfl, hg⟩
  have HG := Lib.hid hg
  clear hg HP
  unfold failed
  go_wp2_with fail
  exact ⟨rfl, rfl, HG.out⟩
set_option maxRecDepth 100000 in
set_option maxHeartbeats 2000000 in
theorem full3_any (b : HB) (ok : b.ok) (K : Int) (m : Nat) (hm : m ≤ b.n) (hm4 : m < 40) (xh xf xl c : Nat) (F : Bool) (a : Option Addr) (sx : ¬ b.S0 xh ∧ ¬ b.S0 xf ∧ ¬ b.S0 xl) (v : Value) (w : World) (hI : HeapI b (fullS b.f K m) w) (hL : LogAt b.B b.g 1 v [] w) (hA : Fl3 b xh xf xl F a c m w) :
    Calls Try.prog 41 #[.pointer (some ⟨xl, 0, none⟩), .pointer (some ⟨xh, 0, none⟩), .pointer (some ⟨xf, 0, none⟩)] w fun e w' => e = Ends (if F = true then some 15 else none) ∧ Did b.B b.g 0 b.S0 (HeapI b) [] (4 * m) (fullS b.f K m) (lessS b.f K m m) w w' ∧ Fl3 b xh xf xl F a c m w' := by
  have HD0 : Hid (Did b.B b.g 0 b.S0 (HeapI b) [] (4 * 0) (fullS b.f K m) (lessS b.f K m 0) w w) := Lib.hid (by rw [lessS_zero]; exact Did.none hL hI)
  have HA := Lib.hid hA
  have d1 := hA.bl.cell
  have HM := Lib.hid (And.intro hm hm4)
  clear hI hL hA hm hm4
  go_enter Try.func41, Try.ntmps41
  go_wp2_with fail
  clear d1
  go_loopw [4, 7] (fun _ i wx => ∃ j : Nat, j ≤ m ∧ i = .int .i64 (j : Int) ∧ Did b.B b.g 0 b.S0 (HeapI b) [] (4 * j) (fullS b.f K m) (lessS b.f K m j) w wx ∧ Fl3 b xh xf xl F a c m wx) (fun _ i _ => m - (intOf i).toNat)
  case atStart => exact ⟨0, Nat.zero_le _, rfl, HD0.out, HA.out⟩
  case round =>
    obtain ⟨j, hj, rfl, hd, hf⟩ := hrel
    clear HD0 HA
    by_cases hlt : j < m
    · have j0 : (j : Int) < (m : Int) := by omega
      have j1 : (0 : Int) ≤ (j : Int) := by omega
      obtain ⟨r, rfl, hcell, _⟩ := hf.cs j hlt
      have d1 := hf.bh.cell
      obtain ⟨T, hT⟩ : ∃ T : Int, ((b.f + j : Nat) : Int) = T := ⟨_, rfl⟩
      have HLs : Hid (Calls Try.prog 35 #[.pointer (some ⟨b.hb, 0, none⟩), .int .i64 T] wr fun e w' => e = .returned (.bool true) ∧ Did b.B b.g 0 b.S0 (HeapI b) [] (4 * (j + 1)) (fullS b.f K m) (lessS b.f K m (j + 1)) w w' ∧ Fl3 b xh xf xl F (some ⟨r, 0, none⟩) c m w') := Lib.hid (by
        obtain ⟨⟨v1, fs1, l1, n1, p1⟩, i1, g1⟩ := hd
        have hm1 := HM.out.1
        have hm2 := HM.out.2
        have hS : (lessS b.f K m j).S j = 1 := by
          show (if j < j then 2 else if j < m then 1 else 0) = 1
          rw [if_neg (Nat.lt_irrefl j), if_pos hlt]
        have hR : (lessS b.f K m j).R ((b.f + j : Nat) : Int) = some 1 := if_pos (by omega)
        have hY : (lessS b.f K m j).Y ((b.f + j : Nat) : Int) = some () := if_pos (by omega)
        have hfs : ([] ++ fs1 : List Step).length < 90000 := by rw [List.nil_append]; omega
        rw [← hT]
        refine (less1_last b ok (lessS b.f K m j) (lessS b.f K m (j + 1)) j 4 (by omega) hS hR 0 ([] ++ fs1) wr i1 ?_).mono ?_
        · rw [← lessS_next b.f K m j hlt]
          exact letGo1_young b ok (lessS b.f K m j) j (by omega) hS hY (by show (rng b.f j).length < 90000; rw [rng_len]; omega) 0 v1 ([] ++ fs1) wr.drew hfs i1.drew l1.drew'
        · rintro e w' ⟨rfl, hd2⟩
          refine ⟨rfl, ?_, hf.kept sx (Kept.of hd2.grew)⟩
          rw [show 4 * (j + 1) = 4 * j + 4 by omega]
          exact Did.chain l1 n1 p1 g1 hd2)
      rw [hT] at hcell
      have hjb : j < 1000 := by have := HM.out.2; omega
      have HLt := Lib.hid hlt
      clear hd hf hlt hj hT
      go_wp2_with fail
      with_reducible refine HLs.out.mono ?_
      rintro e w2 ⟨rfl, hd2, hf2⟩
      have HD2 := Lib.hid hd2
      have HF2 := Lib.hid hf2
      clear hd2 hf2 HLs
      go_wp2_with fail
      go_roundw
      case rel => exact ⟨j + 1, by have := HLt.out; omega, by go_num, HD2.out, HF2.out⟩
      case measure => simp [intOf]; have := HLt.out; omega
    · have j0 : ¬ (j : Int) < (m : Int) := by omega
      obtain rfl : j = m := by omega
      have d1 := hf.bf.cell
      have HD2 := Lib.hid hd
      have HF2 := Lib.hid hf
      clear hlt hj hd hf HM
      cases F with
      | true =>
        have HFl := Lib.hid (fail_any 15 wr)
        go_wp2_with fail
        refine HFl.out.mono ?_
        rintro e w3 ⟨rfl, rfl⟩
        unfold failed
        go_wp2_with fail
        exact ⟨rfl, rfl, HD2.out, HF2.out⟩
      | false =>
        go_wp2_with fail
        go_end0
        exact ⟨rfl, HD2.out, HF2.out⟩
end Go.Proofs.Ytemnkffaapljpaa
