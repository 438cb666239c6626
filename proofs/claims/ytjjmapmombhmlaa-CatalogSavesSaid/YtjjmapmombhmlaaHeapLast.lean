/-
  A heap within a Try: Less of one that one wants; freeGone of none and of one; a Try of the heap: contracts.
-/
import Derived.Test.YtjjmapmombhmlaaHeapLet
namespace Go.Proofs.Ytjjmapmombhmlaa
open Go.RowKit Go.Maps Go.ChangeMaps Go.WideShapes

set_option maxRecDepth 100000 in
set_option maxHeartbeats 1000000 in
theorem less1_last (b : HB) (ok : b.ok) (s s' : HS) (i n : Nat) (hi : i < b.n) (hs : s.S i = 1) (hr : s.R ((b.f + i : Nat) : Int) = some 1) (dp : Nat) (fs : List Step) (w : World) (h : HeapI b s w)
    (hlet : Calls Try.prog 70 #[.pointer (some ⟨b.hb, 0, none⟩), .int .i64 ((b.f + i : Nat) : Int)] w.drew fun e w' => e = .returned (.tuple #[]) ∧ Did b.B b.g dp b.S0 (HeapI b) fs n s s' w.drew w') :
    Calls Try.prog 25 #[.pointer (some ⟨b.hb, 0, none⟩), .int .i64 ((b.f + i : Nat) : Int)] w fun e w' => e = .returned (.bool true) ∧ Did b.B b.g dp b.S0 (HeapI b) fs n s s' w w' := by
  have HN := Lib.hid (needHeld_ok b ok s i hi hs w h)
  have hd1 := h.drew
  have c3 := hd1.c3
  have hlk : (Instr.lookup 27 (.map (some b.rb)) (.int .i64 ((b.f + i : Nat) : Int)) false).run Try.prog w.drew = .ok (.int .i64 1) w.drew := by
    have := hd1.rf.look1 tblII_fine _ (b.wf ok hi)
    rw [hr] at this
    exact this
  have HP := Lib.hid hlet
  clear hlet hd1 h hs hr hi
  generalize ((b.f + i : Nat) : Int) = T at *
  go_enter Try.func25, Try.ntmps25
  go_wp2_with fail
  refine HN.out.mono ?_
  rintro e w' ⟨rfl, rfl⟩
  clear HN
  go_wp2_with fail
  refine HP.out.mono ?_
  rintro e w2 ⟨rfl, hd⟩
  have HD := Lib.hid hd.fromDrew
  clear hd HP
  go_wp2_with fail
  go_ret
  exact ⟨rfl, HD.out⟩
theorem less1_old (b : HB) (ok : b.ok) (s : HS) (i : Nat) (hi : i < b.n) (hs : s.S i = 1) (hr : s.R ((b.f + i : Nat) : Int) = some 1) (hy : s.Y ((b.f + i : Nat) : Int) = none) (dp : Nat) (v : Value) (fs : List Step) (w : World) (hf : fs.length < 90000) (h : HeapI b s w) (hl : LogAt b.B b.g (dp + 1) v fs w) :
    Calls Try.prog 25 #[.pointer (some ⟨b.hb, 0, none⟩), .int .i64 ((b.f + i : Nat) : Int)] w fun e w' => e = .returned (.bool true) ∧ Did b.B b.g dp b.S0 (HeapI b) fs 2 s (s.letGo i ((b.f + i : Nat) : Int)) w w' :=
  less1_last b ok s _ i 2 hi hs hr dp fs w h (letGo1_old b ok s i hi hs hy dp v fs w.drew hf h.drew hl.drew')
theorem HeapI.clear5 {b : HB} {s : HS} {w : World} (ok : b.ok) (h : HeapI b s w) : HeapI b { s with G := [] } (w.setCell ⟨b.hb, 5, none⟩ (.slice none 0 0)) := by
  have k : Grew (fun q => q = b.blk 0) w (w.setCell ⟨b.hb, 5, none⟩ (.slice none 0 0)) := (Grew.refl (S := fun q => q = b.blk 0) w).setCell _ _ fun _ => rfl
  have u := h.but ok (j := 0) (by decide) k
  obtain ⟨v, e5, _⟩ := h.c5
  have o : ∀ j, j ≠ 5 → (w.setCell ⟨b.hb, 5, none⟩ (.slice none 0 0)).cell? ⟨b.hb, j, none⟩ = w.cell? ⟨b.hb, j, none⟩ := fun j hj => World.cell?_setCell_other _ _ _ _ (by intro e; cases e; exact hj rfl)
  exact ⟨(o 0 (by decide)).trans h.c0, (o 1 (by decide)).trans h.c1, (o 2 (by decide)).trans h.c2, (o 3 (by decide)).trans h.c3, (o 4 (by decide)).trans h.c4, ⟨_, World.cell?_setCell_same _ _ _ e5, World.ownsRow_nil _ _ _ _⟩, (o 6 (by decide)).trans h.c6, fun x => by rw [World.frozen?_setCell]; exact h.fr x, u.gr (by decide) (by decide), u.rf (by decide), u.yg (by decide), u.dk (by decide), u.sz, h.kd.set _ _, fun _ => World.cell?_setCell_same _ _ _ e5⟩
theorem int_cell {B n cap : Nat} {ao : Option Addr} {fs : List Nat} {w : World} (h : w.ownsRow B 3 1 (.slice ao n cap) n (intsG fs)) (i : Nat) (hi : i < fs.length) : ∃ b, ao = some ⟨b, 0, none⟩ ∧ w.cell? ⟨b, i, none⟩ = some (.int .i64 ((fs[i] : Nat) : Int)) ∧ n ≤ cap := by
  have hl : fs.length = n := by simpa [intsG] using h.1
  rcases h.2 with ⟨e, h0⟩ | ⟨b, cap', cur, e, a1, a2, a3, a4, a5, a6⟩
  · omega
  · cases e
    refine ⟨b, rfl, ?_, a3⟩
    have := h.cells (g := b) rfl i (.int .i64 ((fs[i] : Nat) : Int)) (by simp [intsG, hi])
    rw [Addr.add_lit] at this
    simpa using this
/-- the first k that were gone are free -/
def goneS (b : HB) (s : HS) (k : Nat) : HS := { s with S := fun i => if b.f + i ∈ s.G.take k then 0 else s.S i }
theorem goneS_zero (b : HB) (s : HS) : goneS b s 0 = s := by
  have : (fun i => if b.f + i ∈ s.G.take 0 then 0 else s.S i) = s.S := funext fun i => if_neg (by simp)
  unfold goneS
  rw [this]
theorem goneS_at (b : HB) (s : HS) (hn : s.G.Nodup) (k i : Nat) (hk : k < s.G.length) (hx : s.G[k] = b.f + i) : (goneS b s k).S i = s.S i := by
  refine if_neg fun hm => ?_
  obtain ⟨j, hj, e⟩ := List.mem_take_iff_getElem.1 hm
  have hj' : j < k := by omega
  exact List.pairwise_iff_getElem.1 hn j k (by omega) hk hj' (e.trans hx.symm)
theorem goneS_succ (b : HB) (s : HS) (k i : Nat) (hk : k < s.G.length) (hx : s.G[k] = b.f + i) : { goneS b s k with S := upd (upd (goneS b s k).S i 1) i 0 } = goneS b s (k + 1) := by
  have : upd (upd (goneS b s k).S i 1) i 0 = (goneS b s (k + 1)).S := by
    rw [upd_upd]
    funext j
    show (if j = i then 0 else if b.f + j ∈ s.G.take k then 0 else s.S j) = if b.f + j ∈ s.G.take (k + 1) then 0 else s.S j
    rw [List.take_succ_eq_append_getElem hk, hx]
    by_cases h : j = i
    · subst h
      rw [if_pos rfl, if_pos (by simp)]
    · rw [if_neg h]
      by_cases h2 : b.f + j ∈ s.G.take k
      · rw [if_pos h2, if_pos (by simp [h2])]
      · rw [if_neg h2, if_neg (by simp [h2, h])]
  rw [this]
  rfl
set_option maxRecDepth 100000 in
set_option maxHeartbeats 1000000 in
/-- what was let go of young ones is free -/
theorem freeGone_any (b : HB) (ok : b.ok) (s : HS) (hG : ∀ x ∈ s.G, ∃ i, i < b.n ∧ x = b.f + i ∧ s.S i = 2) (hn : s.G.Nodup) (hlen : s.G.length < 100000) (w : World) (h : HeapI b s w) : Calls Try.prog 68 #[.pointer (some ⟨b.hb, 0, none⟩)] w fun e w' => e = .returned (.tuple #[]) ∧ HeapI b { goneS b s s.G.length with G := [] } w' ∧ Grew (fun q => q = b.hb ∨ q = b.q) w w' := by
  have Hst := Lib.hid h
  obtain ⟨v, e5, hv⟩ := h.c5
  obtain ⟨_, a, c, hvv⟩ := rowOwn hv
  have hvv : v = .slice a s.G.length c := hvv
  subst hvv
  have HV := Lib.hid hv
  have HGo := Lib.hid hG
  clear h hv hG
  go_enter Try.func68, Try.ntmps68
  go_wp2_with fail
  go_loopw [9] (fun i wx => ∃ k : Nat, k ≤ s.G.length ∧ i = .int .i64 k ∧ HeapI b (goneS b s k) wx ∧ wx.ownsRow b.B 3 1 (.slice a s.G.length c) s.G.length (intsG s.G) ∧ Grew (fun q => q = b.q) w wx) (fun i _ => s.G.length - (intOf i).toNat)
  case atStart => exact ⟨0, Nat.zero_le _, rfl, by rw [goneS_zero]; exact Hst.out, HV.out, Grew.refl w⟩
  case round =>
    obtain ⟨k, hk, rfl, hI, hv, hg⟩ := hrel
    have HG := Lib.hid hg
    clear hg
    by_cases hlt : k < s.G.length
    · obtain ⟨bb, rfl, hc, hcap⟩ := int_cell hv k hlt
      obtain ⟨i, hi, hx, hs⟩ := HGo.out s.G[k] (List.getElem_mem hlt)
      rw [hx] at hc
      have i1 : (k : Int) < (s.G.length : Int) := by omega
      have i0 : (0 : Int) ≤ (k : Int) := by omega
      have hk2 : (goneS b s k).S i = 2 := (goneS_at b s hn k i hlt hx).trans hs
      have HB := Lib.hid (back_any b.m b.q b.f b.n (goneS b s k).S i wr hI.gr (Nat.le_trans ok.f (by decide)) (Nat.le_trans ok.n (by decide)) hi)
      have c2 := hI.c2
      have HT : Hid (∀ r w1, Turned b.m b.q b.f b.n (goneS b s k).S i 2 1 wr r w1 → HeapI b { goneS b s k with S := upd (goneS b s k).S i 1 } w1 ∧ Calls Try.prog 74 #[.pointer (some ⟨b.m, 0, none⟩), .int .i64 ((b.f + i : Nat) : Int)] w1 fun e w' => ∃ r, e = .returned (.bool r) ∧ (HeapI b (goneS b s (k + 1)) w' ∧ w'.ownsRow b.B 3 1 (.slice (some ⟨bb, 0, none⟩) s.G.length c) s.G.length (intsG s.G) ∧ Grew (fun q => q = b.q) w w')) := Lib.hid fun r w1 ht => by
        have h1 := (hI.turn ok hk2 ht).2
        refine ⟨h1, (give_any b.m b.q b.f b.n _ i w1 h1.gr (Nat.le_trans ok.f (by decide)) (Nat.le_trans ok.n (by decide)) hi).mono ?_⟩
        rintro e w2 ⟨r2, rfl, ht2⟩
        have h2 := (h1.turn ok (show upd (goneS b s k).S i 1 i = 1 from if_pos rfl) ht2).2
        have gg : Grew (fun q => q = b.q) wr w2 := ht.2.trans ht2.2
        refine ⟨r2, rfl, ?_, ownInt_keep hv gg fun q hq e => ?_, HG.out.trans gg⟩
        · rw [← goneS_succ b s k i hlt hx]
          exact h2
        · have a1 := (hv.lt q hq).1
          have a2 := ok.lt 3 (by decide)
          have a3 : b.blk 3 = b.q := rfl
          omega
      clear hI hv hs hx
      go_wp2_with fail
      refine HB.out.mono ?_
      rintro e w1 ⟨r, rfl, ht⟩
      obtain ⟨h1, hg1⟩ := HT.out r w1 ht
      have HGi := Lib.hid hg1
      have c2 := h1.c2
      clear h1 hg1 ht HB HT
      go_wp2_with fail
      refine HGi.out.mono ?_
      rintro e w2 ⟨r2, rfl, h2⟩
      have H2 := Lib.hid h2
      clear h2 HGi
      go_wp2_with fail
      go_roundw
      case rel => exact ⟨k + 1, by omega, rfl, H2.out⟩
      case measure => simp [intOf]; omega
    · have i1 : ¬ (k : Int) < (s.G.length : Int) := by omega
      obtain rfl : k = s.G.length := by omega
      have HC := Lib.hid (hI.clear5 ok)
      have HGg : Hid (Grew (fun q => q = b.hb ∨ q = b.q) w (wr.setCell ⟨b.hb, 5, none⟩ (.slice none 0 0))) := Lib.hid ((HG.out.mono fun _ _ e => Or.inr e).step ((Grew.refl (S := fun q => q = b.hb) wr).setCell _ _ fun _ => rfl) fun _ _ e => Or.inl e)
      have f5 := hI.fr 5
      obtain ⟨v5, c5, _⟩ := hI.c5
      clear hI hv
      go_wp2_with fail
      go_end0
      exact ⟨rfl, HC.out, HGg.out⟩
end Go.Proofs.Ytjjmapmombhmlaa
