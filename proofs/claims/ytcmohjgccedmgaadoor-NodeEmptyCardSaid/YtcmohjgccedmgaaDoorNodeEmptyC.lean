/-
  NodeEmpty's last statement, with the values that it meets.
-/
import Derived.Test.YtcmohjgccedmgaaDoorNodeEmptyBeg
namespace Go.Proofs.YtcmohjgccedmgaaDoor
open Go.RowKit
set_option linter.unusedVariables false

/-- is that digest nought? -/
def digZ (l : Nat) (f : Nat → Nat) : Bool := if all8 f (fun _ => 0) then true else all2 (Sha.dg (shaOf (digText l f))) (fun _ => 0) 32
theorem digZ_eql (l : Nat) (f : Nat → Nat) (w : World) : (binOp .eql 24 (digVal l f) (.agg sum0.toArray)).run Tryd.prog w = .ok (.bool (digZ l f)) w := by
  unfold digVal digZ
  cases all8 f fun _ => 0 with
  | true => exact eql_sum0 w
  | false =>
    have h := arr_binop (Sha.dg (shaOf (digText l f))) (fun _ => 0) w
    rw [arr_zero] at h
    exact h
theorem digZ_guard (l : Nat) (f : Nat → Nat) (x y : Operand) (w : World) : (eqGuard .eql 24 x y (digVal l f) (.agg sum0.toArray)).run Tryd.prog w = .ok () w := by
  unfold digVal
  cases all8 f fun _ => 0 with
  | true => exact guard_sum0 x y w
  | false =>
    have h := arr_guard (Sha.dg (shaOf (digText l f))) (fun _ => 0) x y w
    rw [arr_zero] at h
    exact h
theorem digZ_str (l : Nat) (f : Nat → Nat) : (digZ l f == ((digStr l f).toList == zero32.toList)) = true := by
  unfold digStr digZ
  cases all8 f fun _ => 0 with
  | true => simp
  | false =>
    have h := txt_zero (Sha.dg (shaOf (digText l f))) (dg_lt _)
    rw [sum_txt] at h
    simp only [Bool.false_eq_true, if_false]
    rw [h]
    simp
theorem digZ_zero {l at' : Nat} {f : Nat → Nat} (h : all2 f (fun _ => 0) 32 = true) : digZ l (sum1 at' f) = true := by
  have e : all8 (sum1 at' f) (fun _ => 0) = true := (all8_iff _ _).2 fun j _ => by
    unfold sum1
    split
    · exact (all2_iff _ _ 32).1 h _ (by omega)
    · rfl
  unfold digZ
  rw [if_pos e]
/-- what the last statement finds -/
structure Em (w : World) (f : Nat → Nat) (lv : Nat) (kd F : Nat → Nat) (g c : Nat) (wx : World) : Prop where
  at' : At w wx
  box : Cells w.heap.size 32 (fun j => .int .u8 (f j : Nat)) wx
  node : Cells g 41 (cellsAt (nodeL (lv : Int) kd f)) wx
  sums : Cells c 256 (fun j => .int .u8 (F j : Nat)) wx
theorem Em.below {w : World} {f : Nat → Nat} {lv : Nat} {kd F : Nat → Nat} {g c : Nat} {wx wy : World} (h : Em w f lv kd F g c wx) (k : Below wx.heap.size wx wy) : Em w f lv kd F g c wy :=
  ⟨h.at'.next k, h.box.below k, h.node.below k, h.sums.below k⟩
theorem Em.drew {w : World} {f : Nat → Nat} {lv : Nat} {kd F : Nat → Nat} {g c : Nat} {wx : World} (h : Em w f lv kd F g c wx) : Em w f lv kd F g c wx.drew :=
  ⟨h.at'.drew, h.box.drew, h.node.drew, h.sums.drew⟩
theorem Em.alloc {w : World} {f : Nat → Nat} {lv : Nat} {kd F : Nat → Nat} {g c : Nat} {wx : World} (h : Em w f lv kd F g c wx) (o : Obj) : Em w f lv kd F g c (wx.alloc o) :=
  ⟨h.at'.alloc o, h.box.alloc o, h.node.alloc o, h.sums.alloc o⟩
theorem Em.all {w : World} {f : Nat → Nat} {lv : Nat} {kd F : Nat → Nat} {g c : Nat} {wx : World} (h : Em w f lv kd F g c wx) : wx.rangeAt c 0 (Go.Proofs.YtcmohjgccedmgaaDoor.sums F) :=
  h.sums.range 0 _ fun j v hv => by
    have hj : j < 256 := by
      have := (List.getElem?_eq_some_iff.1 hv).1
      rwa [sums_len] at this
    refine ⟨by omega, ?_⟩
    rw [sums_at _ j hj] at hv
    rw [Nat.zero_add]
    exact Option.some.inj hv
theorem Em.part {w : World} {f : Nat → Nat} {lv : Nat} {kd F : Nat → Nat} {g c : Nat} {wx : World} (h : Em w f lv kd F g c wx) (k : Nat) (hk : k < 8) : wx.rangeAt c (k * 32) (arr fun j => F (k * 32 + j)) :=
  h.sums.range (k * 32) _ fun j v hv => by
    have hj : j < 32 := by
      have := (List.getElem?_eq_some_iff.1 hv).1
      rwa [arr_len] at this
    refine ⟨by omega, ?_⟩
    rw [arr_at _ j hj] at hv
    exact Option.some.inj hv
theorem build_arr0 (w : World) : (Instr.build 23 #[]).run Tryd.prog w = .ok (.agg sum0.toArray) w := by kernel_rfl
theorem kd_beq (kd : Nat) : ((kd : Int) == 0) = (kd == 0) := by
  rw [Bool.eq_iff_iff, beq_iff_eq, beq_iff_eq]
  omega
set_option maxRecDepth 100000 in
set_option maxHeartbeats 1000000 in
theorem em_last {Q : Exit → Act → World → Prop} {v2 v3 v4 v5 v6 v8 v11 v12 v13 v14 v15 v16 v17 v18 v19 v20 v21 v22 v23 v24 v25 v26 v27 v28 v29 v30 v31 v32 v33 v34 v35 v36 v37 v38 v39 v40 v41 v42 v43 v44 v45 v46 v47 v48 v49 v50 v51 v52 v53 v54 v55 v56 v57 v58 v59 v60 v61 v62 v63 v64 v65 v66 v67 v68 v69 v70 v71 v72 v73 v74 v75 v76 v77 v78 v79 v80 v81 v82 v83 v84 v85 v86 v87 : Value} (w : World) (f : Nat → Nat) (hf : ∀ j, f j < 256) (lv kd at' g c : Nat) (hlv : lv < 3) (hat : at' < 8)
    (hp : ∀ cc a w d v, Q (.panic cc) (Act.put a d v) w → Q (.panic cc) a w) (hfin : ∀ (a : Act) wx, a.tmps.getD 8 undef = .bool true → a.defers = [] → Below w.heap.size w wx → Q .normal a wx)
    (l : Array Bool) (hl : l = #[false, false, false, false, false, false, false, false, false, false, false, false, false, false, false, false, false, false, false, false, false, false, false, false, false, false, false, false, false, false, false, false, false, false, false, false, false, false, false, false, false, false, false, false, false, false, false, false, false]) (wx : World) (hw : Em w f lv (kid1 at' kd) (sum1 at' f) g c wx) :
    wpAnyH Tryd.prog .any emOps Q (fun wx => Em w f lv (kid1 at' kd) (sum1 at' f) g c wx) 49 l { tmps := #[.int .i64 (lv : Nat), .int .i64 (kd : Nat), v2, v3, v4, v5, v6, .pointer (some ⟨w.heap.size, 0, none⟩), v8, .pointer (some ⟨g, 0, none⟩), .pointer (some ⟨c, 0, none⟩), v11, v12, v13, v14, v15, v16, v17, v18, v19, v20, v21, v22, v23, v24, v25, v26, v27, v28, v29, v30, v31, v32, v33, v34, v35, v36, v37, v38, v39, v40, v41, v42, v43, v44, v45, v46, v47, v48, v49, v50, v51, v52, v53, v54, v55, v56, v57, v58, v59, v60, v61, v62, v63, v64, v65, v66, v67, v68, v69, v70, v71, v72, v73, v74, v75, v76, v77, v78, v79, v80, v81, v82, v83, v84, v85, v86, v87], defers := [] } wx := by
  have hF := sum1_lt at' f hf
  refine em_start (A := fun k => arr fun j => sum1 at' f (k * 32 + j)) (T := fun k => ⟨(txt fun j => sum1 at' f (k * 32 + j)).toArray⟩) (DS := digStr lv (sum1 at' f)) (E := digZ lv (sum1 at' f))
    ⟨hp, fun _ o h => h.alloc o, fun _ _ h k => h.below k, fun a wz h1 h2 h3 => hfin a wz h1 h2 h3.at'.below, fun k wz => text_any (fun j => sum1 at' f (k * 32 + j)) (fun j => hF _) wz, fun b wz _ ht => refDig_any (sum1 at' f) hF lv (by omega) b 8 wz ht, digZ_str lv (sum1 at' f)⟩
    w.heap.size g c kd (nodeL (lv : Int) (kid1 at' kd) f) (sums (sum1 at' f)) (arr f) sum0 (digVal lv (sum1 at' f)) (kd == 0) (all2 f (fun _ => 0) 32) (kd_beq kd)
    (fun wz h => Cells.all (nodeL_len _ _ _) h.node) (by rw [nodeL_len]; kernel_rfl) (fun wz h => h.all) (by rw [sums_len]; kernel_rfl) (fun wz h => arr_range h.box) (by rw [arr_len]; kernel_rfl)
    (fun k hk wz h => h.part k hk) (fun k => by rw [arr_len]; kernel_rfl)
    (fun wz => ?_) (fun wz h => digest_any (sum1 at' f) hF lv (by omega) wz h.at'.laid) build_sum0 build_arr0 (digZ_eql _ _) (digZ_guard _ _) (fun wz => ?_) (fun x y wz => ?_) digZ_zero l hl wx hw
  · have h := empty_any (lv : Int) (kid1 at' kd) f wz
    rw [allz_kid at' kd hat] at h
    exact h
  · have h := arr_binop' f (fun _ => 0) wz
    rw [arr_zero] at h
    exact h
  · have h := arr_guard' f (fun _ => 0) x y wz
    rw [arr_zero] at h
    exact h
end Go.Proofs.YtcmohjgccedmgaaDoor
