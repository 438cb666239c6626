/-
  mix: the words of a text are turned by a whole block.
-/
import Derived.Test.YtheccbnejamhlaaDoorShaSpread
namespace Go.Proofs.YtheccbnejamhlaaDoor
open Go.RowKit

/-- the numbers of the rounds, as they lie in the package's variable -/
def Table (K : Nat → Nat) (w : World) : Prop := 1 < w.heap.size ∧ ∀ i, i < 64 → w.cell? ⟨1, i, none⟩ = some (.int .u32 (K i))
theorem Table.only {K : Nat → Nat} {b : Nat} {w w' : World} (h : Table K w) (k : Only b w w') (hb : 1 ≠ b) : Table K w' :=
  ⟨Nat.lt_of_lt_of_le h.1 k.size, fun i hi => by
    rw [World.cell?_of_block (w := w) (a := ⟨1, i, none⟩) (k.block 1 h.1 hb)]
    exact h.2 i hi⟩
structure Facts (g b : Nat) (K : Nat → Nat) (l : List Nat) (s : Sha.St) (blk : Nat → Nat) (used size : Nat) (w wx : World) : Prop where
  row : Cells g 64 (wv l) wx
  text : TextIs b s blk used size wx
  table : Table K wx
  only : Only b w wx
  far : w.heap.size ≤ g

theorem there_new (w : World) {f : Nat → Value} {L : List Value} (e : (List.range 64).map f = L) : (w.alloc (.cells lit 89)).there w.heap.size 0 L.toArray.size := by
  refine (Cells.new w 64 _ _ _ lit_at).there 0 _ ?_
  rw [List.size_toArray, ← e]
  simp
theorem facts_new {b : Nat} {K : Nat → Nat} {l : List Nat} {s : Sha.St} {blk : Nat → Nat} {used size : Nat} {w w1 : World} {L : List Value} (h : Below w.heap.size w w1) (e : (List.range 64).map (wv l) = L) (hT : TextIs b s blk used size w) (hK : Table K w) (hb : 1 < b) :
    Facts w1.heap.size b K l s blk used size w ((w1.alloc (.cells lit 89)).setCells w1.heap.size 0 L) := by
  have hs := h.size
  have hbs := hT.1
  have ho : Only b w ((w1.alloc (.cells lit 89)).setCells w1.heap.size 0 L) := ((Only.of_below h).alloc _).row L (.inr hs)
  refine ⟨?_, ?_, hK.only ho (by omega), ho, hs⟩
  · refine (Cells.new w1 64 _ _ _ lit_at).row L _ (by rw [← e]; simp) fun j hj => ?_
    rw [← e, List.getElem?_map, List.getElem?_range hj]
    rfl
  · exact ((Cells.below hT h).alloc _).farRow L (by omega)

theorem Facts.draws {g b : Nat} {K : Nat → Nat} {l : List Nat} {s : Sha.St} {blk : Nat → Nat} {used size : Nat} {w wx : World} (h : Facts g b K l s blk used size w wx) (n : Nat) : Facts g b K l s blk used size w (wx.drewN n) :=
  ⟨h.row, h.text, h.table, ⟨h.only.os, h.only.tape, h.only.output, h.only.size, h.only.block⟩, h.far⟩
def Regs (t : Sha.St) (a b c d e f g z : Value) : Prop := a = .int .u32 t.a ∧ b = .int .u32 t.b ∧ c = .int .u32 t.c ∧ d = .int .u32 t.d ∧ e = .int .u32 t.e ∧ f = .int .u32 t.f ∧ g = .int .u32 t.g ∧ z = .int .u32 t.z
theorem quiet_mine {P : Program} {f : FuncId} {args : Array Value} {w : World} {n : Nat} {v : Value}
    (h : Calls P f args (w.drewN n) fun e w' => e = .returned v ∧ w.drewN n = w') : Calls P f args (w.drewN n) fun e w'' => e = .returned v ∧ ∃ m, w'' = w.drewN m :=
  h.mono fun _ _ ⟨he, hm⟩ => ⟨he, n, hm.symm⟩

theorem tv_other (s s' : Sha.St) (blk : Nat → Nat) (used size j : Nat) (h : (j = 0 → s.a = s'.a) ∧ (j = 1 → s.b = s'.b) ∧ (j = 2 → s.c = s'.c) ∧ (j = 3 → s.d = s'.d) ∧ (j = 4 → s.e = s'.e) ∧ (j = 5 → s.f = s'.f) ∧ (j = 6 → s.g = s'.g) ∧ (j = 7 → s.z = s'.z)) : tv s blk used size j = tv s' blk used size j := by
  obtain ⟨h0, h1, h2, h3, h4, h5, h6, h7⟩ := h
  unfold tv
  split <;> first | rfl | (rw [h0 rfl]) | (rw [h1 rfl]) | (rw [h2 rfl]) | (rw [h3 rfl]) | (rw [h4 rfl]) | (rw [h5 rfl]) | (rw [h6 rfl]) | (rw [h7 rfl])
theorem text_set0 {b : Nat} {s : Sha.St} {blk : Nat → Nat} {used size : Nat} {w : World} (h : TextIs b s blk used size w) (x : Nat) (v : Int) (e : v = (x : Int)) : TextIs b { s with a := x } blk used size (w.setCell ⟨b, 0, none⟩ (.int .u32 v)) := by
  subst e
  exact h.set 0 _ (by decide) rfl fun j _ hj => tv_other _ _ _ _ _ _ (by simp; omega)
theorem text_set1 {b : Nat} {s : Sha.St} {blk : Nat → Nat} {used size : Nat} {w : World} (h : TextIs b s blk used size w) (x : Nat) (v : Int) (e : v = (x : Int)) : TextIs b { s with b := x } blk used size (w.setCell ⟨b, 1, none⟩ (.int .u32 v)) := by
  subst e
  exact h.set 1 _ (by decide) rfl fun j _ hj => tv_other _ _ _ _ _ _ (by simp; omega)
theorem text_set2 {b : Nat} {s : Sha.St} {blk : Nat → Nat} {used size : Nat} {w : World} (h : TextIs b s blk used size w) (x : Nat) (v : Int) (e : v = (x : Int)) : TextIs b { s with c := x } blk used size (w.setCell ⟨b, 2, none⟩ (.int .u32 v)) := by
  subst e
  exact h.set 2 _ (by decide) rfl fun j _ hj => tv_other _ _ _ _ _ _ (by simp; omega)
theorem text_set3 {b : Nat} {s : Sha.St} {blk : Nat → Nat} {used size : Nat} {w : World} (h : TextIs b s blk used size w) (x : Nat) (v : Int) (e : v = (x : Int)) : TextIs b { s with d := x } blk used size (w.setCell ⟨b, 3, none⟩ (.int .u32 v)) := by
  subst e
  exact h.set 3 _ (by decide) rfl fun j _ hj => tv_other _ _ _ _ _ _ (by simp; omega)
theorem text_set4 {b : Nat} {s : Sha.St} {blk : Nat → Nat} {used size : Nat} {w : World} (h : TextIs b s blk used size w) (x : Nat) (v : Int) (e : v = (x : Int)) : TextIs b { s with e := x } blk used size (w.setCell ⟨b, 4, none⟩ (.int .u32 v)) := by
  subst e
  exact h.set 4 _ (by decide) rfl fun j _ hj => tv_other _ _ _ _ _ _ (by simp; omega)
theorem text_set5 {b : Nat} {s : Sha.St} {blk : Nat → Nat} {used size : Nat} {w : World} (h : TextIs b s blk used size w) (x : Nat) (v : Int) (e : v = (x : Int)) : TextIs b { s with f := x } blk used size (w.setCell ⟨b, 5, none⟩ (.int .u32 v)) := by
  subst e
  exact h.set 5 _ (by decide) rfl fun j _ hj => tv_other _ _ _ _ _ _ (by simp; omega)
theorem text_set6 {b : Nat} {s : Sha.St} {blk : Nat → Nat} {used size : Nat} {w : World} (h : TextIs b s blk used size w) (x : Nat) (v : Int) (e : v = (x : Int)) : TextIs b { s with g := x } blk used size (w.setCell ⟨b, 6, none⟩ (.int .u32 v)) := by
  subst e
  exact h.set 6 _ (by decide) rfl fun j _ hj => tv_other _ _ _ _ _ _ (by simp; omega)
theorem text_set7 {b : Nat} {s : Sha.St} {blk : Nat → Nat} {used size : Nat} {w : World} (h : TextIs b s blk used size w) (x : Nat) (v : Int) (e : v = (x : Int)) : TextIs b { s with z := x } blk used size (w.setCell ⟨b, 7, none⟩ (.int .u32 v)) := by
  subst e
  exact h.set 7 _ (by decide) rfl fun j _ hj => tv_other _ _ _ _ _ _ (by simp; omega)
theorem cast_plus (x y : Nat) : ((x : Int) + (y : Int)) % 4294967296 = (((x + y) % 4294967296 : Nat) : Int) := by omega
theorem TextIs.drew {b : Nat} {s : Sha.St} {blk : Nat → Nat} {used size : Nat} {w : World} (h : TextIs b s blk used size w) : TextIs b s blk used size w.drew := Cells.drew h
theorem text_plus {b : Nat} {s : Sha.St} {blk : Nat → Nat} {used size : Nat} {w : World} (h : TextIs b s blk used size w) (t : Sha.St) :
    TextIs b (Sha.plus s t) blk used size ((((((((w.setCell ⟨b, 0, none⟩ (.int .u32 ((((s.a : Nat) : Int) + ((t.a : Nat) : Int)) % 4294967296))).setCell ⟨b, 1, none⟩ (.int .u32 ((((s.b : Nat) : Int) + ((t.b : Nat) : Int)) % 4294967296))).setCell ⟨b, 2, none⟩ (.int .u32 ((((s.c : Nat) : Int) + ((t.c : Nat) : Int)) % 4294967296))).setCell ⟨b, 3, none⟩ (.int .u32 ((((s.d : Nat) : Int) + ((t.d : Nat) : Int)) % 4294967296))).setCell ⟨b, 4, none⟩ (.int .u32 ((((s.e : Nat) : Int) + ((t.e : Nat) : Int)) % 4294967296))).setCell ⟨b, 5, none⟩ (.int .u32 ((((s.f : Nat) : Int) + ((t.f : Nat) : Int)) % 4294967296))).setCell ⟨b, 6, none⟩ (.int .u32 ((((s.g : Nat) : Int) + ((t.g : Nat) : Int)) % 4294967296))).setCell ⟨b, 7, none⟩ (.int .u32 ((((s.z : Nat) : Int) + ((t.z : Nat) : Int)) % 4294967296))).drew.drew.drew.drew.drew.drew.drew.drew := by
  have h0 := text_set0 h ((s.a + t.a) % 4294967296) _ (cast_plus s.a t.a)
  have h1 := text_set1 h0 ((s.b + t.b) % 4294967296) _ (cast_plus s.b t.b)
  have h2 := text_set2 h1 ((s.c + t.c) % 4294967296) _ (cast_plus s.c t.c)
  have h3 := text_set3 h2 ((s.d + t.d) % 4294967296) _ (cast_plus s.d t.d)
  have h4 := text_set4 h3 ((s.e + t.e) % 4294967296) _ (cast_plus s.e t.e)
  have h5 := text_set5 h4 ((s.f + t.f) % 4294967296) _ (cast_plus s.f t.f)
  have h6 := text_set6 h5 ((s.g + t.g) % 4294967296) _ (cast_plus s.g t.g)
  have h7 := text_set7 h6 ((s.z + t.z) % 4294967296) _ (cast_plus s.z t.z)
  exact h7.drew.drew.drew.drew.drew.drew.drew.drew
theorem only_plus {b : Nat} {w wx : World} (h : Only b w wx) {v0 v1 v2 v3 v4 v5 v6 v7 : Value} :
    Only b w ((((((((wx.setCell ⟨b, 0, none⟩ v0).setCell ⟨b, 1, none⟩ v1).setCell ⟨b, 2, none⟩ v2).setCell ⟨b, 3, none⟩ v3).setCell ⟨b, 4, none⟩ v4).setCell ⟨b, 5, none⟩ v5).setCell ⟨b, 6, none⟩ v6).setCell ⟨b, 7, none⟩ v7).drew.drew.drew.drew.drew.drew.drew.drew :=
  ((((((((((((((((h.set _ (.inl rfl)).set _ (.inl rfl)).set _ (.inl rfl)).set _ (.inl rfl)).set _ (.inl rfl)).set _ (.inl rfl)).set _ (.inl rfl)).set _ (.inl rfl)).drew).drew).drew).drew).drew).drew).drew).drew)

set_option maxRecDepth 100000 in
set_option maxHeartbeats 2000000 in
theorem mix_any (b : Nat) (s : Sha.St) (blk : Nat → Nat) (used size : Nat) (K : Nat → Nat) (w : World) (hb : ∀ i, blk i < 256) (hs : s.ok) (hK : ∀ i, K i < 4294967296) (hb1 : 1 < b) (h : TextIs b s blk used size w) (hT : Table K w) :
    Calls Tryd.prog 43 #[.pointer (some ⟨b, 0, none⟩)] w fun r w' => r = .returned (.tuple #[]) ∧ TextIs b (Sha.plus s (Sha.rnds K (fun i => (Sha.ws blk 48).getD i 0) s 64)) blk used size w' ∧ Only b w w' := by
  have HB := Lib.hid hb
  have HT := Lib.hid h
  have HK := Lib.hid hT
  have HKl := Lib.hid hK
  have HS := Lib.hid hs
  clear hb h hT hK hs
  have hsp := spread_any b s blk used size w HB.out HT.out
  obtain ⟨L, hL⟩ : ∃ L, (List.range 64).map (wv (Sha.ws blk 48)) = L := ⟨_, rfl⟩
  rw [hL] at hsp
  have HL := Lib.hid hL
  have HSp := Lib.hid hsp
  have HO : Hid (L.toArray.all (·.oneCell') = true) := Lib.hid (row_one hL)
  have HI : Hid ((Tryd.prog.info? 89).map (·.size) = some L.toArray.size) := Lib.hid (by rw [List.size_toArray, ← hL]; kernel_rfl)
  clear hL hsp
  go_enter Tryd.func43, Tryd.ntmps43
  go_upto_region 0 with fail
  go_cut [2] (fun p2 wx => ∃ g, p2 = .pointer (some ⟨g, 0, none⟩) ∧ Facts g b K (Sha.ws blk 48) s blk used size w wx)
  case first =>
    go_wp2_with fail
    refine HSp.out.mono ?_
    rintro e w1 ⟨rfl, hbel1⟩
    have HB1 := Lib.hid hbel1
    clear hbel1
    go_wp2_with ((with_reducible refine wpList_store_mid rfl 89 _ _ rfl w1.heap.size 0 L.toArray rfl rfl ?_ HI.out HO.out ?_); (focus exact there_new w1 HL.out))
    go_meet
    exact ⟨_, rfl, facts_new HB1.out HL.out HT.out HK.out hb1⟩
  case rest =>
    obtain ⟨g, rfl, hF⟩ := hcut
    have HF := Lib.hid hF
    have t0 := (hF.text.2 0 (by decide)).1
    have t1 := (hF.text.2 1 (by decide)).1
    have t2 := (hF.text.2 2 (by decide)).1
    have t3 := (hF.text.2 3 (by decide)).1
    have t4 := (hF.text.2 4 (by decide)).1
    have t5 := (hF.text.2 5 (by decide)).1
    have t6 := (hF.text.2 6 (by decide)).1
    have t7 := (hF.text.2 7 (by decide)).1
    clear hF
    simp only [tv] at t0 t1 t2 t3 t4 t5 t6 t7
    go_wp2_with fail
    go_quiet (fail)
    clear t0 t1 t2 t3 t4 t5 t6 t7
    go_wp2_with fail
    go_loopw [4, 5, 6, 7, 8, 9, 10, 11, 54] (fun r4 r5 r6 r7 r8 r9 r10 r11 i wr => ∃ k : Nat, k ≤ 64 ∧ i = .int .i64 k ∧ Regs (Sha.rnds K (fun i => (Sha.ws blk 48).getD i 0) s k) r4 r5 r6 r7 r8 r9 r10 r11 ∧ Facts g b K (Sha.ws blk 48) s blk used size w wr) (fun _ _ _ _ _ _ _ _ i _ => 64 - (intOf i).toNat)
    case atStart => exact ⟨0, by omega, rfl, ⟨rfl, rfl, rfl, rfl, rfl, rfl, rfl, rfl⟩, HF.out.draws nq⟩
    case round =>
      clear HF
      obtain ⟨k, hk, rfl, ⟨rfl, rfl, rfl, rfl, rfl, rfl, rfl, rfl⟩, hF⟩ := hrel
      have HF := Lib.hid hF
      clear hF
      by_cases hlt : k < 64
      · have hok := Sha.rnds_ok (K := K) (W := fun i => (Sha.ws blk 48).getD i 0) HS.out k
        have HN : Hid (Sha.rnds K (fun i => (Sha.ws blk 48).getD i 0) s (k + 1) = Sha.rnd (K k) ((Sha.ws blk 48).getD k 0) (Sha.rnds K (fun i => (Sha.ws blk 48).getD i 0) s k)) := Lib.hid rfl
        generalize Sha.rnds K (fun i => (Sha.ws blk 48).getD i 0) s k = t at hok HN
        obtain ⟨A, B, C, D, E, F, G, Z⟩ := t
        obtain ⟨hA, hB, hC, hD, hE, hF, hG, hZ⟩ := hok
        simp only at hA hB hC hD hE hF hG hZ
        have ck := HF.out.table.2 k hlt
        have cw := (HF.out.row.2 k hlt).1
        have yk := HKl.out k
        have yw := Sha.ws_lt blk HB.out 48 k
        unfold wv at cw
        generalize (Sha.ws blk 48).getD k 0 = W at cw yw HN
        generalize K k = N at ck yk HN
        have g1 := u32_xor_nat (Sha.rotr E 6) (Sha.rotr E 11) (Sha.rotr_lt _ hE) (Sha.rotr_lt _ hE)
        have g2 : bits .xor .u32 ((Sha.rotr E 6 ^^^ Sha.rotr E 11 : Nat) : Int) ((Sha.rotr E 25 : Nat) : Int) = ((Sha.b1 E : Nat) : Int) := u32_xor_nat _ _ (Sha.xor_lt (Sha.rotr_lt _ hE) (Sha.rotr_lt _ hE)) (Sha.rotr_lt _ hE)
        have g3 := u32_xor_nat (Sha.rotr A 2) (Sha.rotr A 13) (Sha.rotr_lt _ hA) (Sha.rotr_lt _ hA)
        have g4 : bits .xor .u32 ((Sha.rotr A 2 ^^^ Sha.rotr A 13 : Nat) : Int) ((Sha.rotr A 22 : Nat) : Int) = ((Sha.b0 A : Nat) : Int) := u32_xor_nat _ _ (Sha.xor_lt (Sha.rotr_lt _ hA) (Sha.rotr_lt _ hA)) (Sha.rotr_lt _ hA)
        have i0 : (k : Int) < 64 := by omega
        have i1 : (0 : Int) ≤ (k : Int) := by omega
        go_wp2_with fail
        refine (right_any E 6 _ hE (by decide) (by decide)).mono ?_
        rintro e w' ⟨rfl, rfl⟩
        go_wp2_with fail
        refine (right_any E 11 _ hE (by decide) (by decide)).mono ?_
        rintro e w' ⟨rfl, rfl⟩
        go_wp2_with fail
        refine (right_any E 25 _ hE (by decide) (by decide)).mono ?_
        rintro e w' ⟨rfl, rfl⟩
        go_wp2_with fail
        refine (right_any A 2 _ hA (by decide) (by decide)).mono ?_
        rintro e w' ⟨rfl, rfl⟩
        go_wp2_with fail
        refine (right_any A 13 _ hA (by decide) (by decide)).mono ?_
        rintro e w' ⟨rfl, rfl⟩
        go_wp2_with fail
        refine (right_any A 22 _ hA (by decide) (by decide)).mono ?_
        rintro e w' ⟨rfl, rfl⟩
        go_wp2_with fail
        clear g1 g2 g3 g4
        have l1 := Sha.b1_lt hE
        have l2 := Sha.ch_lt (e := E) (g := G) hF
        obtain ⟨u1, e1⟩ : ∃ t, (Z + Sha.b1 E) % 4294967296 = t := ⟨_, rfl⟩
        obtain ⟨u2, e2⟩ : ∃ t, (u1 + Sha.ch E F G) % 4294967296 = t := ⟨_, rfl⟩
        obtain ⟨u3, e3⟩ : ∃ t, (u2 + N) % 4294967296 = t := ⟨_, rfl⟩
        obtain ⟨u4, e4⟩ : ∃ t, (u3 + W) % 4294967296 = t := ⟨_, rfl⟩
        have q1 : IntKind.u32.wrap ((Z : Int) + ((Sha.b1 E : Nat) : Int)) = (u1 : Int) := by rw [IntKind.wrap_u32']; omega
        have q2 : IntKind.u32.wrap ((u1 : Int) + ((Sha.ch E F G : Nat) : Int)) = (u2 : Int) := by rw [IntKind.wrap_u32']; omega
        have q3 : IntKind.u32.wrap ((u2 : Int) + (N : Int)) = (u3 : Int) := by rw [IntKind.wrap_u32']; omega
        have q4 : IntKind.u32.wrap ((u3 : Int) + (W : Int)) = (u4 : Int) := by rw [IntKind.wrap_u32']; omega
        have HE1 : Hid (((((Z + Sha.b1 E) % 4294967296 + Sha.ch E F G) % 4294967296 + N) % 4294967296 + W) % 4294967296 = u4) := Lib.hid (by rw [e1, e2, e3, e4])
        clear e1 e2 e3 e4 l1 l2
        go_quiet ((go_at_call 55; exact quiet_mine (choice_any _ _ _ _ hE hF hG)))
        clear q1 q2 q3 q4 ck cw
        have l3 := Sha.b0_lt hA
        have l4 := Sha.maj_lt (a := A) hB hC
        obtain ⟨v1, e1⟩ : ∃ t, (Sha.b0 A + Sha.maj A B C) % 4294967296 = t := ⟨_, rfl⟩
        obtain ⟨x1, e2⟩ : ∃ t, (u4 + v1) % 4294967296 = t := ⟨_, rfl⟩
        obtain ⟨x2, e3⟩ : ∃ t, (D + u4) % 4294967296 = t := ⟨_, rfl⟩
        have q1 : (((Sha.b0 A : Nat) : Int) + ((Sha.maj A B C : Nat) : Int)) % 4294967296 = (v1 : Int) := by omega
        have q2 : ((u4 : Int) + (v1 : Int)) % 4294967296 = (x1 : Int) := by omega
        have q3 : ((D : Int) + (u4 : Int)) % 4294967296 = (x2 : Int) := by omega
        have HE2 : Hid (Sha.rnd N W ⟨A, B, C, D, E, F, G, Z⟩ = ⟨x1, A, B, C, x2, E, F, G⟩) := Lib.hid (by
          unfold Sha.rnd
          simp only
          rw [HE1.out, e1, e2, e3])
        have HQ2 := Lib.hid q2
        have HQ3 := Lib.hid q3
        clear e1 e2 e3 l3 l4
        go_wp2_with (go_at_call 56; refine (majority_any A B C _ hA hB hC).mono ?_; rintro e w' ⟨rfl, rfl⟩)
        go_roundw
        case rel => exact ⟨k + 1, by omega, by go_num, by rw [HN.out, HE2.out]; exact ⟨by first | rfl | exact congrArg (Value.int IntKind.u32) HQ2.out, rfl, rfl, rfl, by first | rfl | exact congrArg (Value.int IntKind.u32) HQ3.out, rfl, rfl, rfl⟩, HF.out.draws _⟩
        case measure => simp [intOf]; omega
      · have e64 : k = 64 := by omega
        have hok := Sha.rnds_ok (K := K) (W := fun i => (Sha.ws blk 48).getD i 0) HS.out k
        have HP : Hid (Sha.plus s (Sha.rnds K (fun i => (Sha.ws blk 48).getD i 0) s 64) = Sha.plus s (Sha.rnds K (fun i => (Sha.ws blk 48).getD i 0) s k)) := Lib.hid (by rw [e64])
        generalize Sha.rnds K (fun i => (Sha.ws blk 48).getD i 0) s k = t at hok HP
        obtain ⟨A, B, C, D, E, F, G, Z⟩ := t
        have t0 := HF.out.text.2 0 (by decide)
        have t1 := HF.out.text.2 1 (by decide)
        have t2 := HF.out.text.2 2 (by decide)
        have t3 := HF.out.text.2 3 (by decide)
        have t4 := HF.out.text.2 4 (by decide)
        have t5 := HF.out.text.2 5 (by decide)
        have t6 := HF.out.text.2 6 (by decide)
        have t7 := HF.out.text.2 7 (by decide)
        simp only [tv] at t0 t1 t2 t3 t4 t5 t6 t7
        obtain ⟨c0, f0⟩ := t0
        obtain ⟨c1, f1⟩ := t1
        obtain ⟨c2, f2⟩ := t2
        obtain ⟨c3, f3⟩ := t3
        obtain ⟨c4, f4⟩ := t4
        obtain ⟨c5, f5⟩ := t5
        obtain ⟨c6, f6⟩ := t6
        obtain ⟨c7, f7⟩ := t7
        have HE := Lib.hid e64
        clear e64 hok
        go_wp2_with fail
        go_region
        go_wp2_with fail
        go_region
        go_wp2_with fail
        go_region
        go_wp2_with fail
        go_region
        go_wp2_with fail
        go_region
        go_wp2_with fail
        go_region
        go_wp2_with fail
        go_region
        go_wp2_with fail
        go_region
        go_wp2
        go_end0
        refine ⟨rfl, ?_, ?_⟩
        · rw [HP.out]
          exact text_plus HF.out.text _
        · exact only_plus HF.out.only
end Go.Proofs.YtheccbnejamhlaaDoor
