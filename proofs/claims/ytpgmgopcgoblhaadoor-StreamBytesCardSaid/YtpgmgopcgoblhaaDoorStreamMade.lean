/-
  The laws' made: a stream of raw parts: some stream of at most six items: a contract.
-/
import Derived.Test.YtpgmgopcgoblhaaDoorDataAny
import Derived.Test.YtpgmgopcgoblhaaDoorStreamParB
import Derived.Test.YtpgmgopcgoblhaaDoorStreamBytesFn
import Derived.Deep.CutBlock
namespace Go.Proofs.YtpgmgopcgoblhaaDoor
open Go.RowKit

/-- an item in the making: At, How, S, None -/
structure RW where
  pl : Int
  how : Int
  s : ByteArray
  no : Bool
def RawsIn (w : World) (a : Option Addr) (l : Nat) (R : Nat → RW) : Prop :=
  l = 0 ∨ ∃ b off, a = some ⟨b, off, none⟩ ∧ ∀ i, i < l → (w.cell? ⟨b, off + i * 4, none⟩ = some (.int .i64 (R i).pl) ∧ w.cell? ⟨b, off + i * 4 + 1, none⟩ = some (.int .i64 (R i).how) ∧ w.cell? ⟨b, off + i * 4 + 2, none⟩ = some (.string (R i).s) ∧ w.cell? ⟨b, off + i * 4 + 3, none⟩ = some (.bool (R i).no)) ∧ (R i).s.size ≤ maxLen
theorem RawsIn.below {w w' : World} {a : Option Addr} {l : Nat} {R : Nat → RW} (h : RawsIn w a l R) (k : Below w.heap.size w w') : RawsIn w' a l R := by
  rcases h with h | ⟨b, off, e, hr⟩
  · exact Or.inl h
  · exact Or.inr ⟨b, off, e, fun i hi => ⟨⟨(k.cell (cell_lt (hr i hi).1.1)).trans (hr i hi).1.1, (k.cell (cell_lt (hr i hi).1.1)).trans (hr i hi).1.2.1, (k.cell (cell_lt (hr i hi).1.1)).trans (hr i hi).1.2.2.1, (k.cell (cell_lt (hr i hi).1.1)).trans (hr i hi).1.2.2.2⟩, (hr i hi).2⟩⟩
theorem wpList_build3 {P : Program} {ops : Array Oper} {rest : List Oper} {op : Oper} {a : Act} {w : World} {Q : Exit → Act → World → Prop} (hgd : op.guard = none) (ty : TypeId) (i j k : Nat) (x y z : Operand) (ho : op.op = .build ty #[(i, x), (j, y), (k, z)])
    (u v t r : Value) (hx : a.eval x = u) (hy : a.eval y = v) (hz : a.eval z = t) (hrun : (Instr.build ty #[(i, u), (j, v), (k, t)]).run P w = .ok r w) (h : wpList P ops Q rest (a.put op.dst r) w) : wpList P ops Q (op :: rest) a w := by
  refine wpList_plain hgd fun K hK => ?_
  unfold Oper.wp execOp
  simp only [ho, Sem.run_bind, Sem.run_pure, Result.andThen_ok, List.map_toArray, List.map_cons, List.map_nil, hx, hy, hz, hrun]
  exact hK _ _ h
theorem build_arr (z : Int) (f g : Nat → Nat) (w : World) : (Instr.build 28 #[(0, .int .i64 z), (1, .agg (arr f).toArray), (2, .agg (arr g).toArray)]).run Tryd.prog w = .ok (.agg (Value.int .i64 z :: (arr f ++ (arr g ++ [.slice none 0 0]))).toArray) w := by kernel_rfl
theorem build_st3 (z : Int) (b t : List UInt8) (hb : b.length = 32) (ht : t.length = 32) (w : World) : (Instr.build 28 #[(0, .int .i64 z), (1, .agg (cellsOf b).toArray), (2, .agg (cellsOf t).toArray)]).run Tryd.prog w = .ok (.agg (stL z b t (.slice none 0 0)).toArray) w := by
  have h := build_arr z (fun j => (b.getD j 0).toNat) (fun j => (t.getD j 0).toNat) w
  rw [(arr_cells b hb).1, (arr_cells t ht).1] at h
  exact h
/-- while it is made -/
structure MdAt (w : World) (S : Nat) (z : Int) (b t : List UInt8) (v : Value) (acc : List It) (wx : World) : Prop where
  below : Below w.heap.size w wx
  res : Cells (w.heap.size + 2) 66 (cellsAt st0) wx
  st : Cells S 66 (cellsAt (stL z b t v)) wx
  row : wx.ownsRow (S + 1) 51 2 v acc.length (itCells acc)
  lt : w.heap.size + 2 < S
  bl : b.length = 32
  tl : t.length = 32
section
variable {w : World} {S : Nat} {z : Int} {b t : List UInt8} {v : Value} {acc : List It} {wx wy : World}
theorem MdAt.step (h : MdAt w S z b t v acc wx) (k : Below wx.heap.size wx wy) : MdAt w S z b t v acc wy :=
  ⟨h.below.trans (k.mono h.below.size), h.res.below k, h.st.below k, own_grew h.row (Grew.of_below (S := fun _ => False) k) (fun _ e => e.elim), h.lt, h.bl, h.tl⟩
theorem MdAt.far (h : MdAt w S z b t v acc wx) (c o : Nat) (u : Value) (hc : S < c) (hg : ∀ g, v.ownBlock = some g → g ≠ c) : MdAt w S z b t v acc (wx.setCell ⟨c, o, none⟩ u) := by
  have h1 := h.lt
  refine ⟨h.below.setCell (by show w.heap.size ≤ c; omega) _, h.res.far _ (by omega), h.st.far _ (by omega), ?_, h1, h.bl, h.tl⟩
  refine ⟨h.row.1, ?_⟩
  rcases h.row.2 with h0 | ⟨g, cap, cur, rfl, hb, hgg, rest⟩
  · exact Or.inl h0
  · refine Or.inr ⟨g, cap, cur, rfl, hb, ?_, rest⟩
    rw [Below.heap_setCell _ _ _ _ (by show g ≠ c; exact hg g rfl)]
    exact hgg
theorem MdAt.rowTo (h : MdAt w S z b t v acc wx) {v' : Value} {acc' : List It} (hgr : wx.grownBy wy v.ownBlock) (hown : wy.ownsRow (S + 1) 51 2 v' acc'.length (itCells acc')) :
    (wy.cell? ⟨S, 65, none⟩ = some v ∧ wy.frozen? ⟨S, 65, none⟩ = false) ∧ MdAt w S z b t v' acc' (wy.setCell ⟨S, 65, none⟩ v') := by
  have h2 := h.lt
  have hsz := h.st.1
  have hlt := h.row.lt
  have g : Grew (fun k => S + 1 ≤ k) wx wy := (Grew.refl wx).grown hgr (fun k _ e => (hlt k e).1)
  have gb : Below w.heap.size w wy := g.below h.below h.below.size (fun k hk => by omega)
  have hres := h.res.grew g (by omega)
  have hst := h.st.grew g (by omega)
  have hc := hst.2 65 (by decide)
  have e : (.int .i64 z :: (cellsOf b ++ cellsOf t) : List Value).length = 65 := by rw [List.length_cons, List.length_append, cellsOf_len, cellsOf_len, h.bl, h.tl]
  have hl := stL_len (size := z) (v := v) h.bl h.tl
  have e1 : ∀ u, stL z b t u = (.int .i64 z :: (cellsOf b ++ cellsOf t)) ++ ([u] ++ []) := fun u => by simp [stL]
  have hv : cellsAt (stL z b t v) 65 = v := by
    unfold cellsAt
    rw [List.getD_eq_getElem?_getD, stL_row h.bl h.tl]
    rfl
  rw [hv] at hc
  rw [e1] at hst hl
  have hp := hst.piece (K' := [v']) hl rfl
  rw [e] at hp
  rw [← e1] at hp
  exact ⟨hc, gb.setCell (by show w.heap.size ≤ S; omega) _, hres.farRow (o := 65) [v'] (by omega), hp, own_grew hown (Grew.row (S := fun k => k = S) (Grew.refl wy) S 65 [v'] (fun _ => rfl)) (fun k e => by subst e; omega), h2, h.bl, h.tl⟩
end
theorem MdAt.cell {w : World} {S : Nat} {z : Int} {b t : List UInt8} {v : Value} {acc : List It} {wx : World} (h : MdAt w S z b t v acc wx) : wx.cell? ⟨S, 65, none⟩ = some v := by
  have hc := (h.st.2 65 (by decide)).1
  unfold cellsAt at hc
  rw [List.getD_eq_getElem?_getD, stL_row h.bl h.tl] at hc
  exact hc
theorem mask16 (k : Int) : ∃ p : Nat, bits .and .i64 k 65535 = (p : Int) ∧ p < 65536 := by
  have h : (BitVec.ofInt 64 k &&& BitVec.ofInt 64 65535).toNat ≤ 65535 := by
    rw [BitVec.toNat_and]
    refine Nat.le_trans Nat.and_le_right ?_
    decide
  refine ⟨(BitVec.ofInt 64 k &&& BitVec.ofInt 64 65535).toNat, ?_, by omega⟩
  show IntKind.i64.wrap ((BitVec.ofInt 64 k &&& BitVec.ofInt 64 65535).toNat : Int) = _
  generalize (BitVec.ofInt 64 k &&& BitVec.ofInt 64 65535).toNat = y at *
  simp only [IntKind.wrap, IntKind.bits, IntKind.signed]
  simp
  omega
theorem undrew {W w2 : World} (h : Below W.drew.heap.size W.drew w2) : Below W.heap.size W w2 := ⟨h.os, h.tape, h.output, h.size, h.block⟩
theorem blk_lt {w : World} {b : Nat} {x : Obj} (h : w.heap[b]? = some x) : b < w.heap.size := by
  rcases Nat.lt_or_ge b w.heap.size with h1 | h1
  · exact h1
  · rw [Array.getElem?_eq_none h1] at h; cases h
theorem blk_set1 {w : World} {b k : Nat} {C : Array Value} {t : TypeId} {v : Value} (h : w.heap[b]? = some (.cells C t)) : (w.setCell ⟨b, k, none⟩ v).heap[b]? = some (.cells (C.setIfInBounds k v) t) := by
  simp [World.setCell, Array.getElem?_modify, h]
theorem pair2 {w : World} {x : Nat} {t : TypeId} {a b : Value} (h : w.heap[x]? = some (.cells #[a, b] t)) : w.cell? ⟨x, 0, none⟩ = some a ∧ w.cell? ⟨x, 1, none⟩ = some b ∧ ∀ k, w.frozen? ⟨x, k, none⟩ = false := by
  refine ⟨?_, ?_, fun k => ?_⟩ <;> simp [World.cell?, World.frozen?, h]
set_option maxRecDepth 100000 in
set_option maxHeartbeats 8000000 in
theorem made_any (size : Int) (b t : List UInt8) (a : Option Addr) (l cap : Nat) (R : Nat → RW) (rise : Bool) (w : World) (hb : b.length = 32) (ht : t.length = 32) (hR : RawsIn w a l R) :
    Calls Tryd.prog 7 #[.int .i64 size, .agg (cellsOf b).toArray, .agg (cellsOf t).toArray, .slice a l cap, .bool rise] w fun e w' => ∃ (z : Nat) (v : Value) (its : List It), z < 65536 ∧ its.length ≤ 6 ∧ (∀ x ∈ its, x.dt.length ≤ 256) ∧ e = .returned (.agg (stL z b t v).toArray) ∧ ItsAt w' v its ∧ Below w.heap.size w w' := by
  obtain ⟨i0, hi, hz0, hz1, hz2⟩ := info_parts infoIt
  have HI0 := Lib.hid hi
  have HI1 := Lib.hid hz0
  have HI2 := Lib.hid hz1
  have HI3 := Lib.hid hz2
  obtain ⟨z, hz, hzl⟩ := mask16 size
  have HZl := Lib.hid hzl
  have HAl := alloc_st
  have HBu := Lib.hid (fun wx => build_st3 (z : Int) b t hb ht wx)
  have hXl : (stL (z : Int) b t (.slice none 0 0)).length = 66 := stL_len hb ht
  have hXo := one_st (z : Int) b t (.slice none 0 0) rfl
  have HIN : Hid ((Tryd.prog.info? 28).map (·.size) = some (stL (z : Int) b t (.slice none 0 0)).toArray.size) := Lib.hid (by rw [List.size_toArray, hXl]; kernel_rfl)
  have HIb : Hid ((Tryd.prog.info? 22).map (·.size) = some (cellsOf b).length) := Lib.hid (by rw [cellsOf_len, hb]; kernel_rfl)
  have HIt : Hid ((Tryd.prog.info? 22).map (·.size) = some (cellsOf t).length) := Lib.hid (by rw [cellsOf_len, ht]; kernel_rfl)
  have HOne := Lib.hid hXo
  have HTl := Lib.hid (And.intro hb ht)
  obtain ⟨W, hW⟩ : ∃ W, ((w.alloc (.cells (cellsOf b).toArray 22)).alloc (.cells (cellsOf t).toArray 22)).alloc (.cells st0.toArray 28) = W := ⟨_, rfl⟩
  have hs1 : (w.alloc (.cells (cellsOf b).toArray 22)).heap.size = w.heap.size + 1 := by simp
  have hs2 : ((w.alloc (.cells (cellsOf b).toArray 22)).alloc (.cells (cellsOf t).toArray 22)).heap.size = w.heap.size + 2 := by simp
  have hWs : W.heap.size = w.heap.size + 3 := by rw [← hW]; simp
  have hrb : W.rangeAt w.heap.size 0 (cellsOf b) := fun j x hx => by
    rw [← hW, Nat.zero_add, World.cell?_alloc_past (hn := by simp; omega), World.cell?_alloc_past (hn := by simp), World.cell?_alloc_new, List.getElem?_toArray, hx]
  have hrt : W.rangeAt (w.heap.size + 1) 0 (cellsOf t) := fun j x hx => by
    rw [← hW, Nat.zero_add, World.cell?_alloc_past (hn := by simp), ← hs1, World.cell?_alloc_new, List.getElem?_toArray, hx]
  have hres : Cells (w.heap.size + 2) 66 (cellsAt st0) W := by
    rw [← hW, ← hs2]
    exact st0_cells _
  have hbW : Below w.heap.size w W := by rw [← hW]; exact (((Below.refl _ w).alloc (Nat.le_refl _) _).alloc (by simp) _).alloc (by simp; omega) _
  have hS := st0_cells W
  have HTh : Hid ((W.alloc (.cells st0.toArray 28)).there W.heap.size 0 (stL (z : Int) b t (.slice none 0 0)).toArray.size) := Lib.hid (hS.there 0 _ (by simp [hXl]))
  have hb2 : Below W.heap.size W ((W.alloc (.cells st0.toArray 28)).setCells W.heap.size 0 (stL (z : Int) b t (.slice none 0 0))) := below_row ((Below.refl _ W).alloc (Nat.le_refl _) _) _ (Nat.le_refl _)
  have HM : Hid (MdAt w W.heap.size (z : Int) b t (.slice none 0 0) [] ((W.alloc (.cells st0.toArray 28)).setCells W.heap.size 0 (stL (z : Int) b t (.slice none 0 0)))) := Lib.hid ⟨hbW.trans (hb2.mono hbW.size), hres.below hb2, hS.fill hXl, ⟨rfl, Or.inl ⟨rfl, rfl⟩⟩, by omega, hb, ht⟩
  have HRW : Hid (RawsIn ((W.alloc (.cells st0.toArray 28)).setCells W.heap.size 0 (stL (z : Int) b t (.slice none 0 0))) a l R) := Lib.hid ((hR.below hbW).below hb2)
  have HWe := Lib.hid hW
  have HRin := Lib.hid hR
  obtain ⟨Z, hZ⟩ : ∃ Z, st0.toArray = Z := ⟨_, rfl⟩
  rw [hZ] at HAl HTh HM HRW HWe
  obtain ⟨NS, hNS⟩ : ∃ NS, stL (z : Int) b t (.slice none 0 0) = NS := ⟨_, rfl⟩
  rw [hNS] at HBu HIN HOne HTh HM HRW
  obtain ⟨CB, hCB⟩ : ∃ CB, cellsOf b = CB := ⟨_, rfl⟩
  obtain ⟨CT, hCT⟩ : ∃ CT, cellsOf t = CT := ⟨_, rfl⟩
  rw [hCB] at HIb hrb ⊢
  rw [hCB] at HWe HBu
  rw [hCT] at HIt hrt ⊢
  rw [hCT] at HWe HBu
  clear hi hz0 hz1 hz2 hzl hXl hXo hb ht hR hW hs1 hs2 hWs hres hbW hS hb2 hZ hNS hCB hCT
  go_enter Tryd.func7, Tryd.ntmps7
  go_upto_region 1 with (refine wpList_alloc rfl 28 rfl _ (HAl _) ?_)
  rw [HWe.out]
  go_upto_region 2 with (first
    | (with_reducible refine wpList_load_mid rfl 22 _ rfl w.heap.size 0 rfl CB _ hrb Tryd.underlying22 rfl HIb.out ?_)
    | (with_reducible refine wpList_load_mid rfl 22 _ rfl (w.heap.size + 1) 0 rfl CT _ hrt Tryd.underlying22 rfl HIt.out ?_)
    | (refine wpList_build3 rfl 28 0 1 2 _ _ _ rfl (.int .i64 (z : Int)) (.agg CB.toArray) (.agg CT.toArray) (.agg NS.toArray) rfl rfl rfl (HBu.out _) ?_)
    | (refine wpList_alloc rfl 28 rfl _ (HAl _) ?_)
    | (with_reducible refine wpList_store_mid rfl 28 _ _ rfl W.heap.size 0 NS.toArray rfl rfl HTh.out HIN.out HOne.out ?_))
  generalize (W.alloc (.cells Z 28)).setCells W.heap.size 0 NS = W2 at *
  obtain ⟨S, hSS⟩ : ∃ S, W.heap.size = S := ⟨_, rfl⟩
  rw [hSS] at HM ⊢
  clear hSS HTh hrb hrt hz
  go_upto_block 0 with fail
  go_cut [] (fun wx => ∃ v acc, acc.length ≤ 6 ∧ (∀ x ∈ acc, x.dt.length ≤ 256) ∧ MdAt w S (z : Int) b t v acc wx)
  case first =>
    go_wp2_with fail
    go_loopw [12, 13] (fun la i wx => ∃ (k : Nat) (v : Value) (acc : List It) (q : Int), k ≤ 6 ∧ k ≤ l ∧ i = .int .i64 (k : Int) ∧ la = .int .i64 q ∧ acc.length = k ∧ (∀ x ∈ acc, x.dt.length ≤ 256) ∧ MdAt w S (z : Int) b t v acc wx) (fun _ i _ => 6 - (intOf i).toNat)
    case atStart => exact ⟨0, .slice none 0 0, [], -1, by omega, by omega, rfl, rfl, rfl, (fun x hx => by cases hx), HM.out⟩
    case round =>
      clear HM HRW
      obtain ⟨k, v, acc, q, hk6, hkl, rfl, rfl, hacc, had, hm⟩ := hrel
      have HMr := Lib.hid hm
      have HAc := Lib.hid hacc
      have HAd := Lib.hid had
      by_cases h1 : k < l
      · by_cases h2 : k < 6
        · have i1 : (k : Int) < (l : Int) := by omega
          have i2 : (k : Int) < 6 := by omega
          have i3 : (0 : Int) ≤ (k : Int) := by omega
          have hR' := HRin.out.below hm.below
          rcases hR' with h0 | ⟨b0, off, rfl, hr⟩
          · omega
          obtain ⟨⟨c0, c1, c2, c3⟩, hrs⟩ := hr k h1
          have HRs := Lib.hid hrs
          have HK6 := Lib.hid h2
          have HKl := Lib.hid h1
          clear hr hrs hm hacc had h1 h2 hk6 hkl
          cases rise
          · obtain ⟨P, hP⟩ : ∃ P, (R k).pl = P := ⟨_, rfl⟩
            rw [hP] at c0
            clear hP
            go_upto_region 9 with fail
            obtain ⟨no, hno⟩ : ∃ no, (R k).no = no := ⟨_, rfl⟩
            rw [hno] at c3
            clear hno
            have HDa := Lib.hid (data_any (R k).s (R k).how (wr.alloc (.cells #[.int .i64 P, .string ⟨#[]⟩] 51)).drew HRs.out)
            have d0 : (wr.alloc (.cells #[.int .i64 P, .string ⟨#[]⟩] 51)).cell? ⟨b0, off + k * 4 + 1, none⟩ = some (.int .i64 (R k).how) := by rw [World.cell?_alloc_past (hn := cell_lt c1)]; exact c1
            have d1 : (wr.alloc (.cells #[.int .i64 P, .string ⟨#[]⟩] 51)).cell? ⟨b0, off + k * 4 + 2, none⟩ = some (.string (R k).s) := by rw [World.cell?_alloc_past (hn := cell_lt c2)]; exact c2
            have d2 : (wr.alloc (.cells #[.int .i64 P, .string ⟨#[]⟩] 51)).cell? ⟨b0, off + k * 4 + 3, none⟩ = some (.bool no) := by rw [World.cell?_alloc_past (hn := cell_lt c3)]; exact c3
            have HW1 : Hid (MdAt w S (z : Int) b t v acc (wr.alloc (.cells #[.int .i64 P, .string ⟨#[]⟩] 51)) ∧ (wr.alloc (.cells #[.int .i64 P, .string ⟨#[]⟩] 51)).heap[wr.heap.size]? = some (.cells #[.int .i64 P, .string ⟨#[]⟩] 51)) := Lib.hid ⟨HMr.out.step ((Below.refl _ wr).alloc (Nat.le_refl _) _), heap_alloc_new _ _⟩
            generalize (R k).s = RS' at *
            generalize (R k).how = RH at *
            clear c0 c1 c2 c3
            go_upto_if 52 with fail
            generalize wr.alloc (.cells #[.int .i64 P, .string ⟨#[]⟩] 51) = W1 at *
            go_cut [] from 20 to 72 (fun wx => ∃ D : ByteArray, D.data.toList.length ≤ 256 ∧ MdAt w S (z : Int) b t v acc wx ∧ wx.heap[wr.heap.size]? = some (.cells #[.int .i64 P, .string D] 51))
            case first =>
              cases no
              · clear d2
                go_upto_region 10 with fail
                go_region_with (refine HDa.out.mono ?_; rintro e w3 ⟨D, hD, rfl, hb3⟩; (have x0' : w3.cell? ⟨wr.heap.size, 1, none⟩ = some (.string ⟨#[]⟩) := by (rw [(undrew hb3).cell (p := ⟨wr.heap.size, 1, none⟩) (blk_lt HW1.out.2)]; exact (pair2 HW1.out.2).2.1)); (have x0z : w3.frozen? ⟨wr.heap.size, 1, none⟩ = false := by (rw [(undrew hb3).frozen (p := ⟨wr.heap.size, 1, none⟩) (blk_lt HW1.out.2)]; exact (pair2 HW1.out.2).2.2 1)))
                all_goals (
                  have hDle : D.data.toList.length ≤ 256 := by
                    have h : D.data.toList.length = D.size := by simp
                    omega
                  have HF : Hid (∃ D' : ByteArray, D'.data.toList.length ≤ 256 ∧ MdAt w S (z : Int) b t v acc (w3.setCell ⟨wr.heap.size, 1, none⟩ (.string D)) ∧ (w3.setCell ⟨wr.heap.size, 1, none⟩ (.string D)).heap[wr.heap.size]? = some (.cells #[.int .i64 P, .string D'] 51)) := Lib.hid ⟨D, hDle, (HW1.out.1.step (undrew hb3)).far wr.heap.size 1 (.string D) HMr.out.st.1 (fun g hg => by have := (HMr.out.row.lt g hg).2; omega), by
                    have h1 : w3.heap[wr.heap.size]? = some (.cells #[.int .i64 P, .string ⟨#[]⟩] 51) := by rw [(undrew hb3).block _ (blk_lt HW1.out.2)]; exact HW1.out.2
                    exact blk_set1 (k := 1) (v := .string D) h1⟩
                  clear hD hb3 x0' x0z d0 d1
                  try go_wp2_with fail
                  go_meet
                  exact HF.out)
              · have HF : Hid (∃ D' : ByteArray, D'.data.toList.length ≤ 256 ∧ MdAt w S (z : Int) b t v acc W1 ∧ W1.heap[wr.heap.size]? = some (.cells #[.int .i64 P, .string D'] 51)) := Lib.hid ⟨⟨#[]⟩, by decide, HW1.out.1, HW1.out.2⟩
                clear d0 d1 d2
                try go_wp2_with fail
                go_meet
                exact HF.out
            case rest =>
              clear d0 d1 d2
              obtain ⟨D, hD, hm1, hx1⟩ := hcut
              have HM1 := Lib.hid hm1
              have HX := Lib.hid hx1
              have HDl := Lib.hid hD
              clear hD hm1 hx1 HW1 HDa
              obtain ⟨x0, x1, xz⟩ := pair2 HX.out
              have v65 := HM1.out.cell
              have HA := Lib.hid (HM1.out.step ((Below.refl _ wc).alloc (Nat.le_refl _) (.cells #[.int .i64 P, .string D] 51)))
              have HOw : Hid ((wc.alloc (.cells #[.int .i64 P, .string D] 51)).ownsRow (S + 1) 51 2 v k (itCells acc)) := Lib.hid (by have := HA.out.row; rw [HAc.out] at this; exact this)
              have HNw : Hid (∀ j u, [Value.int .i64 P, .string D][j]? = some u → (wc.alloc (.cells #[.int .i64 P, .string D] 51)).cell? ((⟨wc.heap.size, 0, none⟩ : Addr).add j) = some u) := Lib.hid (by
                intro j u hu
                rw [Addr.add_mid, Nat.zero_add, World.cell?_alloc_new, ← hu]
                simp)
              have HOn : Hid (∀ u ∈ [Value.int .i64 P, .string D], u.oneCell' = true) := Lib.hid (by
                intro u hu
                simp at hu
                rcases hu with rfl | rfl <;> rfl)
              have HSz2 : Hid (S + 1 ≤ (wc.alloc (.cells #[.int .i64 P, .string D] 51)).heap.size) := Lib.hid HA.out.st.1
              have hl13 : (acc ++ [(⟨P, D.data.toList⟩ : It)]).length = k + 1 := by rw [List.length_append, HAc.out]; rfl
              have HL13 := Lib.hid hl13
              have HDs : Hid (∀ y ∈ acc ++ [(⟨P, D.data.toList⟩ : It)], y.dt.length ≤ 256) := Lib.hid (by
                intro y hy
                rcases List.mem_append.1 hy with h | h
                · exact HAd.out y h
                · rw [List.mem_singleton] at h
                  subst h
                  exact HDl.out)
              have HNext : Hid (∀ v2 w1, w1.ownsRow (S + 1) 51 2 v2 (k + 1) (itCells acc ++ [.int .i64 P, .string D]) → (wc.alloc (.cells #[.int .i64 P, .string D] 51)).grownBy w1 v.ownBlock → (w1.cell? ⟨S, 65, none⟩ = some v ∧ w1.frozen? ⟨S, 65, none⟩ = false) ∧ MdAt w S (z : Int) b t v2 (acc ++ [(⟨P, D.data.toList⟩ : It)]) (w1.setCell ⟨S, 65, none⟩ v2)) := Lib.hid (by
                intro v2 w1 h1 hg
                exact HA.out.rowTo hg (by rw [HL13.out, itCells_snoc]; exact h1))
              clear hl13
              go_wp2_with (at_builtin; refine wpList_append_lies _ rfl _ _ 26 rfl (S + 1) 51 i0 (.agg #[.int .i64 0, .string ⟨#[]⟩]) 2 24 Tryd.underlying26 HI0.out HI1.out HI2.out HI3.out rfl (by decide) v k (itCells acc) rfl HOw.out ⟨wc.heap.size, 0, none⟩ 1 1 [.int .i64 P, .string D] rfl rfl HNw.out HOn.out (by decide) (by have := HK6.out; unfold maxLen; omega) (by have := HK6.out; omega) HSz2.out _ rfl ?_)
              intro g1 cap1 w19 hs1 hg1 _ _
              obtain ⟨⟨n1', n2'⟩, n3'⟩ := HNext.out _ _ hs1 hg1
              have HN3 := Lib.hid n3'
              clear hs1 hg1 n3' HNext HOw HNw x0 x1 xz v65
              go_wp2_with fail
              go_roundw
              case rel => exact ⟨k + 1, _, acc ++ [(⟨P, D.data.toList⟩ : It)], P, by have := HK6.out; omega, by have := HKl.out; omega, by go_num, rfl, HL13.out, HDs.out, HN3.out⟩
              case measure => simp [intOf]; have := HK6.out; omega
          · obtain ⟨P0, hP0⟩ : ∃ P0, (R k).pl = P0 := ⟨_, rfl⟩
            rw [hP0] at c0
            obtain ⟨P, hP⟩ : ∃ P, wrap64 (wrap64 (q + 1) + bits .and .i64 P0 3) = P := ⟨_, rfl⟩
            have HPq := Lib.hid hP
            clear hP0 hP
            have c0' : (wr.alloc (.cells #[.int .i64 P0, .string ⟨#[]⟩] 51)).cell? ⟨b0, off + k * 4, none⟩ = some (.int .i64 P0) := by rw [World.cell?_alloc_past (hn := cell_lt c0)]; exact c0
            go_upto_region 9 with fail
            rw [HPq.out]
            clear c0'
            obtain ⟨no, hno⟩ : ∃ no, (R k).no = no := ⟨_, rfl⟩
            rw [hno] at c3
            clear hno
            have HDa := Lib.hid (data_any (R k).s (R k).how (wr.alloc (.cells #[.int .i64 P, .string ⟨#[]⟩] 51)).drew HRs.out)
            have d0 : (wr.alloc (.cells #[.int .i64 P, .string ⟨#[]⟩] 51)).cell? ⟨b0, off + k * 4 + 1, none⟩ = some (.int .i64 (R k).how) := by rw [World.cell?_alloc_past (hn := cell_lt c1)]; exact c1
            have d1 : (wr.alloc (.cells #[.int .i64 P, .string ⟨#[]⟩] 51)).cell? ⟨b0, off + k * 4 + 2, none⟩ = some (.string (R k).s) := by rw [World.cell?_alloc_past (hn := cell_lt c2)]; exact c2
            have d2 : (wr.alloc (.cells #[.int .i64 P, .string ⟨#[]⟩] 51)).cell? ⟨b0, off + k * 4 + 3, none⟩ = some (.bool no) := by rw [World.cell?_alloc_past (hn := cell_lt c3)]; exact c3
            have HW1 : Hid (MdAt w S (z : Int) b t v acc (wr.alloc (.cells #[.int .i64 P, .string ⟨#[]⟩] 51)) ∧ (wr.alloc (.cells #[.int .i64 P, .string ⟨#[]⟩] 51)).heap[wr.heap.size]? = some (.cells #[.int .i64 P, .string ⟨#[]⟩] 51)) := Lib.hid ⟨HMr.out.step ((Below.refl _ wr).alloc (Nat.le_refl _) _), heap_alloc_new _ _⟩
            generalize (R k).s = RS' at *
            generalize (R k).how = RH at *
            clear c0 c1 c2 c3
            go_upto_if 52 with fail
            generalize wr.alloc (.cells #[.int .i64 P, .string ⟨#[]⟩] 51) = W1 at *
            go_cut [] from 20 to 72 (fun wx => ∃ D : ByteArray, D.data.toList.length ≤ 256 ∧ MdAt w S (z : Int) b t v acc wx ∧ wx.heap[wr.heap.size]? = some (.cells #[.int .i64 P, .string D] 51))
            case first =>
              cases no
              · clear d2
                go_upto_region 10 with fail
                go_region_with (refine HDa.out.mono ?_; rintro e w3 ⟨D, hD, rfl, hb3⟩; (have x0' : w3.cell? ⟨wr.heap.size, 1, none⟩ = some (.string ⟨#[]⟩) := by (rw [(undrew hb3).cell (p := ⟨wr.heap.size, 1, none⟩) (blk_lt HW1.out.2)]; exact (pair2 HW1.out.2).2.1)); (have x0z : w3.frozen? ⟨wr.heap.size, 1, none⟩ = false := by (rw [(undrew hb3).frozen (p := ⟨wr.heap.size, 1, none⟩) (blk_lt HW1.out.2)]; exact (pair2 HW1.out.2).2.2 1)))
                all_goals (
                  have hDle : D.data.toList.length ≤ 256 := by
                    have h : D.data.toList.length = D.size := by simp
                    omega
                  have HF : Hid (∃ D' : ByteArray, D'.data.toList.length ≤ 256 ∧ MdAt w S (z : Int) b t v acc (w3.setCell ⟨wr.heap.size, 1, none⟩ (.string D)) ∧ (w3.setCell ⟨wr.heap.size, 1, none⟩ (.string D)).heap[wr.heap.size]? = some (.cells #[.int .i64 P, .string D'] 51)) := Lib.hid ⟨D, hDle, (HW1.out.1.step (undrew hb3)).far wr.heap.size 1 (.string D) HMr.out.st.1 (fun g hg => by have := (HMr.out.row.lt g hg).2; omega), by
                    have h1 : w3.heap[wr.heap.size]? = some (.cells #[.int .i64 P, .string ⟨#[]⟩] 51) := by rw [(undrew hb3).block _ (blk_lt HW1.out.2)]; exact HW1.out.2
                    exact blk_set1 (k := 1) (v := .string D) h1⟩
                  clear hD hb3 x0' x0z d0 d1
                  try go_wp2_with fail
                  go_meet
                  exact HF.out)
              · have HF : Hid (∃ D' : ByteArray, D'.data.toList.length ≤ 256 ∧ MdAt w S (z : Int) b t v acc W1 ∧ W1.heap[wr.heap.size]? = some (.cells #[.int .i64 P, .string D'] 51)) := Lib.hid ⟨⟨#[]⟩, by decide, HW1.out.1, HW1.out.2⟩
                clear d0 d1 d2
                try go_wp2_with fail
                go_meet
                exact HF.out
            case rest =>
              clear d0 d1 d2
              obtain ⟨D, hD, hm1, hx1⟩ := hcut
              have HM1 := Lib.hid hm1
              have HX := Lib.hid hx1
              have HDl := Lib.hid hD
              clear hD hm1 hx1 HW1 HDa
              obtain ⟨x0, x1, xz⟩ := pair2 HX.out
              have v65 := HM1.out.cell
              have HA := Lib.hid (HM1.out.step ((Below.refl _ wc).alloc (Nat.le_refl _) (.cells #[.int .i64 P, .string D] 51)))
              have HOw : Hid ((wc.alloc (.cells #[.int .i64 P, .string D] 51)).ownsRow (S + 1) 51 2 v k (itCells acc)) := Lib.hid (by have := HA.out.row; rw [HAc.out] at this; exact this)
              have HNw : Hid (∀ j u, [Value.int .i64 P, .string D][j]? = some u → (wc.alloc (.cells #[.int .i64 P, .string D] 51)).cell? ((⟨wc.heap.size, 0, none⟩ : Addr).add j) = some u) := Lib.hid (by
                intro j u hu
                rw [Addr.add_mid, Nat.zero_add, World.cell?_alloc_new, ← hu]
                simp)
              have HOn : Hid (∀ u ∈ [Value.int .i64 P, .string D], u.oneCell' = true) := Lib.hid (by
                intro u hu
                simp at hu
                rcases hu with rfl | rfl <;> rfl)
              have HSz2 : Hid (S + 1 ≤ (wc.alloc (.cells #[.int .i64 P, .string D] 51)).heap.size) := Lib.hid HA.out.st.1
              have hl13 : (acc ++ [(⟨P, D.data.toList⟩ : It)]).length = k + 1 := by rw [List.length_append, HAc.out]; rfl
              have HL13 := Lib.hid hl13
              have HDs : Hid (∀ y ∈ acc ++ [(⟨P, D.data.toList⟩ : It)], y.dt.length ≤ 256) := Lib.hid (by
                intro y hy
                rcases List.mem_append.1 hy with h | h
                · exact HAd.out y h
                · rw [List.mem_singleton] at h
                  subst h
                  exact HDl.out)
              have HNext : Hid (∀ v2 w1, w1.ownsRow (S + 1) 51 2 v2 (k + 1) (itCells acc ++ [.int .i64 P, .string D]) → (wc.alloc (.cells #[.int .i64 P, .string D] 51)).grownBy w1 v.ownBlock → (w1.cell? ⟨S, 65, none⟩ = some v ∧ w1.frozen? ⟨S, 65, none⟩ = false) ∧ MdAt w S (z : Int) b t v2 (acc ++ [(⟨P, D.data.toList⟩ : It)]) (w1.setCell ⟨S, 65, none⟩ v2)) := Lib.hid (by
                intro v2 w1 h1 hg
                exact HA.out.rowTo hg (by rw [HL13.out, itCells_snoc]; exact h1))
              clear hl13
              go_wp2_with (at_builtin; refine wpList_append_lies _ rfl _ _ 26 rfl (S + 1) 51 i0 (.agg #[.int .i64 0, .string ⟨#[]⟩]) 2 24 Tryd.underlying26 HI0.out HI1.out HI2.out HI3.out rfl (by decide) v k (itCells acc) rfl HOw.out ⟨wc.heap.size, 0, none⟩ 1 1 [.int .i64 P, .string D] rfl rfl HNw.out HOn.out (by decide) (by have := HK6.out; unfold maxLen; omega) (by have := HK6.out; omega) HSz2.out _ rfl ?_)
              intro g1 cap1 w19 hs1 hg1 _ _
              obtain ⟨⟨n1', n2'⟩, n3'⟩ := HNext.out _ _ hs1 hg1
              have HN3 := Lib.hid n3'
              clear hs1 hg1 n3' HNext HOw HNw x0 x1 xz v65
              go_wp2_with fail
              go_roundw
              case rel => exact ⟨k + 1, _, acc ++ [(⟨P, D.data.toList⟩ : It)], P, by have := HK6.out; omega, by have := HKl.out; omega, by go_num, rfl, HL13.out, HDs.out, HN3.out⟩
              case measure => simp [intOf]; have := HK6.out; omega
        · obtain rfl : k = 6 := by omega
          have i1 : ((6 : Nat) : Int) < (l : Int) := by omega
          have i2 : ¬ ((6 : Nat) : Int) < 6 := by omega
          have HF : Hid (∃ v acc, acc.length ≤ 6 ∧ (∀ x ∈ acc, x.dt.length ≤ 256) ∧ MdAt w S (z : Int) b t v acc wr) := Lib.hid ⟨v, acc, by omega, had, hm⟩
          clear hm hacc had
          go_wp2_with fail
          go_meet
          exact HF.out
      · have i1 : ¬ (k : Int) < (l : Int) := by omega
        have HF : Hid (∃ v acc, acc.length ≤ 6 ∧ (∀ x ∈ acc, x.dt.length ≤ 256) ∧ MdAt w S (z : Int) b t v acc wr) := Lib.hid ⟨v, acc, by omega, had, hm⟩
        clear hm hacc had
        go_wp2_with fail
        go_meet
        exact HF.out
  case rest =>
    obtain ⟨v, acc, h6, hds, hm⟩ := hcut
    have hit := its_own hm.row
    have hXl : (stL (z : Int) b t v).length = 66 := stL_len hm.bl hm.tl
    have hXo := one_st (z : Int) b t v (own_one hm.row)
    have hst := hm.st
    have hlt := hm.row.lt
    have hSl := hm.lt
    obtain ⟨N, hN⟩ : ∃ N, stL (z : Int) b t v = N := ⟨_, rfl⟩
    rw [hN] at hXl hXo hst
    have HIN : Hid ((Tryd.prog.info? 28).map (·.size) = some N.toArray.size) := Lib.hid (by rw [List.size_toArray, hXl]; kernel_rfl)
    have HIL : Hid ((Tryd.prog.info? 28).map (·.size) = some N.length) := Lib.hid (by rw [hXl]; kernel_rfl)
    have hrg := Cells.all hXl hst
    have HTh : Hid (World.there _ (w.heap.size + 2) 0 N.toArray.size) := Lib.hid (hm.res.there 0 _ (by simp [hXl]))
    have HXo := Lib.hid hXo
    have HFn := Lib.hid (And.intro (below_row hm.below (c := w.heap.size + 2) (o := 0) N (by omega)) (its_grew hit (Grew.row (S := fun x => x = w.heap.size + 2) (Grew.refl _) (w.heap.size + 2) 0 N (fun _ => rfl)) (fun x hx e => by have := (hlt x hx).1; omega)))
    have HNe := Lib.hid hN
    have H6 := Lib.hid h6
    have HDs := Lib.hid hds
    clear hit hXl hXo hst hlt hSl hN hm h6 hds HM HRW
    go_wp2_with (first
      | (with_reducible refine wpList_load_mid rfl 28 _ rfl S 0 rfl N _ hrg Tryd.underlying28 rfl HIL.out ?_)
      | (with_reducible refine wpList_store_mid rfl 28 _ _ rfl (w.heap.size + 2) 0 N.toArray rfl rfl HTh.out HIN.out HXo.out ?_))
    refine bodyPost_ret (v := .agg N.toArray) ?_ rfl ⟨z, v, acc, HZl.out, H6.out, HDs.out, by rw [← HNe.out], HFn.out.2, HFn.out.1⟩
    exact results_mid Tryd.results7 _ _ (w.heap.size + 2) 0 N _ rfl (World.rangeAt_setCells_same _ _ _ _ (by have z := HTh.out; rwa [List.size_toArray] at z)) Tryd.underlying28 rfl HIL.out
end Go.Proofs.YtpgmgopcgoblhaaDoor
