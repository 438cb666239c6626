/-
  A stream in memory; may it be: a contract.
-/
import Derived.Test.YtpgmgopcgoblhaaDoorStreamFit2
namespace Go.Proofs.YtpgmgopcgoblhaaDoor
open Go.RowKit

/-- a stream's cells: its size, the two digests, the row of its items -/
def stL (size : Int) (base target : List UInt8) (v : Value) : List Value := .int .i64 size :: (cellsOf base ++ (cellsOf target ++ [v]))
theorem stL_len {size : Int} {base target : List UInt8} {v : Value} (hb : base.length = 32) (ht : target.length = 32) : (stL size base target v).length = 66 := by
  unfold stL
  rw [List.length_cons, List.length_append, List.length_append, cellsOf_len, cellsOf_len, hb, ht]
  rfl
theorem stL_size {size : Int} {base target : List UInt8} {v : Value} : (stL size base target v)[0]? = some (.int .i64 size) := rfl
theorem stL_row {size : Int} {base target : List UInt8} {v : Value} (hb : base.length = 32) (ht : target.length = 32) : (stL size base target v)[65]? = some v := by
  unfold stL
  rw [List.getElem?_cons_succ, List.getElem?_append_right (by rw [cellsOf_len]; omega), List.getElem?_append_right (by rw [cellsOf_len, cellsOf_len]; omega), cellsOf_len, cellsOf_len, hb, ht]
  rfl
/-- a row of items -/
def ItsAt (w : World) (v : Value) (l : List It) : Prop :=
  (l = [] ∧ v = .slice none 0 0) ∨ ∃ b cap, v = .slice (some ⟨b, 0, none⟩) l.length cap ∧ ∀ i x, l[i]? = some x → w.cell? ⟨b, i * 2, none⟩ = some (.int .i64 x.pl) ∧ w.cell? ⟨b, i * 2 + 1, none⟩ = some (.string ⟨x.dt.toArray⟩)
theorem ItsAt.form {w : World} {v : Value} {l : List It} (h : ItsAt w v l) : ∃ a cap, v = .slice a l.length cap := by
  rcases h with ⟨rfl, rfl⟩ | ⟨b, cap, rfl, _⟩
  · exact ⟨none, 0, rfl⟩
  · exact ⟨_, cap, rfl⟩
theorem ItsAt.below {w w' : World} {v : Value} {l : List It} (h : ItsAt w v l) (k : Below w.heap.size w w') : ItsAt w' v l := by
  rcases h with h | ⟨b, cap, e, hr⟩
  · exact Or.inl h
  · exact Or.inr ⟨b, cap, e, fun i x hx => ⟨(k.cell (cell_lt (hr i x hx).1)).trans (hr i x hx).1, (k.cell (cell_lt (hr i x hx).1)).trans (hr i x hx).2⟩⟩
theorem ItsAt.at {w : World} {a : Option Addr} {n cap : Nat} {l : List It} (h : ItsAt w (.slice a n cap) l) {i : Nat} {x : It} (hx : l[i]? = some x) : ∃ b, a = some ⟨b, 0, none⟩ ∧ w.cell? ⟨b, i * 2, none⟩ = some (.int .i64 x.pl) ∧ w.cell? ⟨b, i * 2 + 1, none⟩ = some (.string ⟨x.dt.toArray⟩) := by
  rcases h with ⟨rfl, _⟩ | ⟨b, cap', e, hr⟩
  · cases hx
  · injection e with e1 e2 e3
    exact ⟨b, e1, hr i x hx⟩
theorem chkIts_step {size least : Int} {l : List It} {k : Nat} {x : It} (hx : l[k]? = some x) : chkIts size least (l.drop k) = if x.pl < least ∨ okIt size x = false then 1 else chkIts size (x.pl + 1) (l.drop (k + 1)) := by
  obtain ⟨hk, e⟩ := List.getElem?_eq_some_iff.1 hx
  rw [List.drop_eq_getElem_cons hk, e]
  rfl
theorem okIt_le {size : Int} {x : It} (h : okIt size x = true) : x.pl ≤ (size - 1) / 4 := by
  unfold okIt at h
  rw [Bool.and_eq_true] at h
  exact of_decide_eq_true h.1
set_option maxRecDepth 100000 in
set_option maxHeartbeats 2000000 in
theorem check_any (size : Int) (base target : List UInt8) (v : Value) (l : List It) (w : World) (hb : base.length = 32) (ht : target.length = 32) (hv : ItsAt w v l) (hl : l.length ≤ 100000) (hd : ∀ x ∈ l, x.dt.length ≤ maxLen) :
    Calls Tryd.prog 9 #[.agg (stL size base target v).toArray] w fun e w' => e = .returned (.int .i64 (chk ⟨size, base, target, l⟩)) ∧ Below w.heap.size w w' := by
  obtain ⟨a, cap, rfl⟩ := hv.form
  have HN0 := stL_size (size := size) (base := base) (target := target) (v := .slice a l.length cap)
  have HN1 := stL_row (size := size) (v := .slice a l.length cap) hb ht
  unfold chk
  dsimp only
  generalize stL size base target (.slice a l.length cap) = N at *
  have hW0 : (w.alloc (.cells N.toArray 28)).cell? ⟨w.heap.size, 0, none⟩ = some (.int .i64 size) := by rw [World.cell?_alloc_new, List.getElem?_toArray]; exact HN0
  have hW1 : (w.alloc (.cells N.toArray 28)).cell? ⟨w.heap.size, 65, none⟩ = some (.slice a l.length cap) := by rw [World.cell?_alloc_new, List.getElem?_toArray]; exact HN1
  have HB : Hid (Below w.heap.size w (w.alloc (.cells N.toArray 28))) := Lib.hid ((Below.refl _ _).alloc (Nat.le_refl _) _)
  have HS : Hid (w.heap.size < (w.alloc (.cells N.toArray 28)).heap.size) := Lib.hid (by simp)
  obtain ⟨W, hW⟩ : ∃ W, w.alloc (.cells N.toArray 28) = W := ⟨_, rfl⟩
  rw [hW] at hW0 hW1 HB HS
  have HV := Lib.hid hv
  have HD := Lib.hid hd
  have HL := Lib.hid hl
  clear hv hd HN0 HN1 hl
  by_cases h1 : size < 1
  · rw [if_pos (Or.inl h1)]
    go_enter Tryd.func9, Tryd.ntmps9
    go_upto_region 1 with fail
    go_wp2
    go_ret
    exact ⟨rfl, HB.out⟩
  · by_cases h2 : 2048 < size
    · rw [if_pos (Or.inr h2)]
      go_enter Tryd.func9, Tryd.ntmps9
      go_upto_region 1 with fail
      go_wp2
      go_ret
      exact ⟨rfl, HB.out⟩
    · rw [if_neg (by omega)]
      obtain ⟨R, hR⟩ : ∃ R, chkIts size 0 l = R := ⟨_, rfl⟩
      rw [hR]
      have HR := Lib.hid hR
      have H12 := Lib.hid (And.intro h1 h2)
      have d1 : decide (size < 1) = false := decide_eq_false h1
      have d2 : decide (2048 < size) = false := decide_eq_false h2
      clear hR h1 h2
      go_enter Tryd.func9, Tryd.ntmps9
      go_upto_region 1 with fail
      go_wp2_with fail
      go_loopw [3, 17] (fun le i wx => ∃ (k : Nat) (least : Int), k ≤ l.length ∧ i = .int .i64 (k : Int) ∧ le = .int .i64 least ∧ 0 ≤ least ∧ chkIts size least (l.drop k) = R ∧ Below (w.heap.size + 1) W wx) (fun _ i _ => l.length - (intOf i).toNat)
      case atStart => exact ⟨0, 0, by omega, rfl, rfl, by omega, HR.out, Below.refl _ _⟩
      case round =>
        obtain ⟨k, least, hk, rfl, rfl, hleast, hchk, hbel⟩ := hrel
        have HLe := Lib.hid hleast
        have HC := Lib.hid hchk
        have HBl := Lib.hid hbel
        have c0 : wr.cell? ⟨w.heap.size, 0, none⟩ = some (.int .i64 size) := by rw [hbel.cell (p := ⟨w.heap.size, 0, none⟩) (Nat.lt_succ_self _)]; exact hW0
        have HVr := Lib.hid (HV.out.below (HB.out.trans (hbel.mono (Nat.le_succ _))))
        clear hleast hchk hbel
        by_cases hlt : k < l.length
        · have i0 : (k : Int) < (l.length : Int) := by omega
          obtain ⟨x, hx⟩ : ∃ x, l[k]? = some x := ⟨_, List.getElem?_eq_getElem hlt⟩
          obtain ⟨b, rfl, x0, x1⟩ := HVr.out.at hx
          have HX := Lib.hid (chkIts_step (size := size) (least := least) hx)
          rw [HC.out] at HX
          have HXd := Lib.hid (HD.out x (List.mem_of_getElem? hx))
          clear hx
          by_cases c1 : x.pl < least
          · have hz : R = 1 := by rw [HX.out, if_pos (Or.inl c1)]
            have HZ := Lib.hid hz
            clear hz
            go_wp2_with fail
            go_ret
            exact ⟨by rw [HZ.out]; rfl, HB.out.trans ((HBl.out.mono (Nat.le_succ _)).trans ((Below.refl _ _).alloc (Nat.le_trans HB.out.size HBl.out.size) _))⟩
          · have d3 : decide (x.pl < least) = false := decide_eq_false c1
            have HF := Lib.hid fun wx => fits_any x size wx (by have := H12.out.1; omega) (by have := H12.out.2; omega) (by have := HLe.out; omega) HXd.out
            have HC1 := Lib.hid c1
            clear c1
            unfold itV at HF
            have HAl : Hid (Below (w.heap.size + 1) W (wr.alloc (.cells #[.int .i64 x.pl, .string ⟨x.dt.toArray⟩] 51))) := Lib.hid (HBl.out.alloc (Nat.le_trans HS.out HBl.out.size) _)
            have c0' : (wr.alloc (.cells #[.int .i64 x.pl, .string ⟨x.dt.toArray⟩] 51)).cell? ⟨w.heap.size, 0, none⟩ = some (.int .i64 size) := by rw [HAl.out.cell (p := ⟨w.heap.size, 0, none⟩) (Nat.lt_succ_self _)]; exact hW0
            have hnb : (wr.alloc (.cells #[.int .i64 x.pl, .string ⟨x.dt.toArray⟩] 51)).cell? ⟨wr.heap.size, 0, none⟩ = some (.int .i64 x.pl) := by simp
            have hnl : wr.heap.size < (wr.alloc (.cells #[.int .i64 x.pl, .string ⟨x.dt.toArray⟩] 51)).heap.size := by simp
            go_wp2_with fail
            refine (HF.out _).mono ?_
            rintro e w1 ⟨rfl, hb1⟩
            have HB1 : Hid (Below (w.heap.size + 1) W w1) := Lib.hid (HAl.out.trans (hb1.mono (Nat.le_trans HS.out HAl.out.size)))
            have n0 : w1.cell? ⟨wr.heap.size, 0, none⟩ = some (.int .i64 x.pl) := by rw [hb1.cell (p := ⟨wr.heap.size, 0, none⟩) hnl]; exact hnb
            clear hb1 hnb hnl
            obtain ⟨o, ho⟩ : ∃ o, okIt size x = o := ⟨_, rfl⟩
            rw [ho] at HX ⊢
            have HO := Lib.hid ho
            clear ho
            cases o
            · have hz : R = 1 := by rw [HX.out, if_pos (Or.inr rfl)]
              have HZ := Lib.hid hz
              clear hz
              go_wp2_with fail
              go_ret
              exact ⟨by rw [HZ.out]; rfl, HB.out.trans (HB1.out.mono (Nat.le_succ _))⟩
            · have hz : chkIts size (x.pl + 1) (l.drop (k + 1)) = R := by rw [HX.out, if_neg (by rintro (h | h); have := HC1.out; omega; exact Bool.noConfusion h)]
              have HZ := Lib.hid hz
              have hle := okIt_le HO.out
              have m1 : IntKind.i64.wrap (x.pl + 1) = x.pl + 1 := IntWalk.i64_in _ (by have := HC1.out; have := HLe.out; have := H12.out.2; omega)
              have m2 : wrap64 (x.pl + 1) = x.pl + 1 := by have := HC1.out; have := HLe.out; have := H12.out.2; unfold wrap64; omega
              have HP : Hid (0 ≤ x.pl + 1) := Lib.hid (by have := HC1.out; have := HLe.out; omega)
              have hk9 : (k : Int) < 100000 := by have := HL.out; omega
              clear hz hle
              go_wp2_with fail
              go_roundw
              case rel => exact ⟨k + 1, x.pl + 1, by omega, by go_num, rfl, HP.out, HZ.out, HB1.out⟩
              case measure => simp [intOf]; omega
        · obtain rfl : k = l.length := by omega
          have i0 : ¬ (l.length : Int) < (l.length : Int) := by omega
          have hz : R = 0 := by
            have h := HC.out
            rw [List.drop_length] at h
            exact h.symm
          have HZ := Lib.hid hz
          clear hz
          go_wp2_with fail
          go_ret
          exact ⟨by rw [HZ.out]; rfl, HB.out.trans (HBl.out.mono (Nat.le_succ _))⟩
end Go.Proofs.YtpgmgopcgoblhaaDoor
