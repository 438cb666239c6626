/-
  add: the contract.
-/
import Derived.Test.YtheccbnejamhlaaDoorShaAdd
namespace Go.Proofs.YtheccbnejamhlaaDoor
open Go.RowKit

def M64 : Nat := 18446744073709551616
structure AddAt (b : Nat) (K : Nat → Nat) (x : Sha.Tx) (size : Nat) (w wx : World) : Prop where
  text : TextIs b x.s x.blk x.used size wx
  table : Table K wx
  only : Only b w wx

theorem wrap_size (size n : Nat) : IntKind.u64.wrap ((size : Int) + (n : Int)) = (((size + n) % M64 : Nat) : Int) := by
  rw [IntKind.wrap_u64]
  unfold M64
  omega
theorem add_start {b : Nat} {K : Nat → Nat} {x : Sha.Tx} {size n : Nat} {w : World} (h : TextIs b x.s x.blk x.used size w) (hT : Table K w) (hb : 1 < b) :
    AddAt b K x ((size + n) % M64) w (w.setCell ⟨b, 73, none⟩ (.int .u64 (IntKind.u64.wrap ((size : Int) + (n : Int))))) := by
  rw [wrap_size]
  have ho : Only b w (w.setCell ⟨b, 73, none⟩ (.int .u64 (((size + n) % M64 : Nat) : Int))) := (Only.refl b w).set _ (.inl rfl)
  exact ⟨text_size h _, hT.only ho (by omega), ho⟩
def strLen : Value → Nat
  | .string t => t.size
  | _ => 0
theorem slice_from (b u : Nat) (hu : u < 64) : ∀ w : World,
    (Instr.sliceAt 60 (.pointer (some ⟨b, 8, none⟩)) (some (.int .i64 (u : Int))) none none).run Tryd.prog w = .ok (.slice (some ⟨b, 8 + u, none⟩) (64 - u) (64 - u)) w := by
  intro w
  have e1 : Tryd.prog.arrayLen 60 = 64 := by kernel_rfl
  have e2 : Tryd.prog.elem 60 = 5 := by kernel_rfl
  have e3 : (sizeOf 5).run Tryd.prog w = .ok 1 w := by kernel_rfl
  have h := run_sliceAt_array_l (P := Tryd.prog) w 60 ⟨b, 8, none⟩ (by rw [e1, e2]; exact Tryd.underlying60) .i64 (u : Int) (by omega) (by rw [e1]; omega)
  rw [h, e1, e2, e3]
  simp only [Result.andThen_ok, slicedAt, Int.toNat_natCast]
  rw [if_neg (by omega), Nat.mul_one, Addr.add_mid]
theorem copy_block {b : Nat} {s : Sha.St} {blk : Nat → Nat} {used size : Nat} {w : World} (h : TextIs b s blk used size w) (t : ByteArray) (n : Nat) (hn : min t.size (64 - used) = n) (hu : used < 64) :
    (Builtin.copy_ #[30, 9] 3 #[.slice (some ⟨b, 8 + used, none⟩) (64 - used) (64 - used), .string t]).run Tryd.prog w.drew = .ok (.int .i64 n) (w.drew.setCells b (8 + used) (bytesOf (t.data.toList.take n))) := by
  have hth := Cells.there h (8 + used) n (by omega)
  exact run_copy_str w.drew _ _ _ 5 b (8 + used) (64 - used) (64 - used) n t hn Tryd.underlying30 (fun w => by kernel_rfl) (fun j hj => (hth j hj).1) (fun j hj => (hth j hj).2)

theorem tail_len (t : ByteArray) (n : Nat) (h : n ≤ t.size) : (t.extract n t.size).size = t.size - n := by
  rw [ByteArray.size_extract]
  omega
theorem tail_feeds (K : Nat → Nat) (y : Sha.Tx) (t : ByteArray) (n : Nat) (x : Sha.Tx) (s : ByteArray) (h : Sha.feeds K y t.data.toList = Sha.feeds K x s.data.toList) :
    Sha.feeds K (Sha.feeds K y (t.data.toList.take n)) (t.extract n t.size).data.toList = Sha.feeds K x s.data.toList := by
  rw [← h, ← Sha.feeds_append]
  congr 1
  rw [ByteArray.data_extract, Array.toList_extract, List.extract_eq_take_drop, List.take_of_length_le (l := List.drop n t.data.toList) (by simp), List.take_append_drop]
theorem add_put {b : Nat} {K : Nat → Nat} {y : Sha.Tx} {S U : Nat} {w wr : World} (h : AddAt b K y S w wr) (hU : y.used = U) (hu : U < 64) (t : ByteArray) (n : Nat) (hn : min t.size (64 - y.used) = n) (hb : 1 < b) :
    AddAt b K ⟨y.s, Sha.put y.blk U (t.data.toList.take n), U⟩ S w (wr.drew.setCells b (8 + U) (bytesOf (t.data.toList.take n))) := by
  subst hU
  have hl : (t.data.toList.take n).length ≤ n := List.length_take_le _ _
  have ho : Only b w (wr.drew.setCells b (8 + y.used) (bytesOf (t.data.toList.take n))) := h.only.drew.row _ (.inl rfl)
  have ho2 : Only b wr (wr.drew.setCells b (8 + y.used) (bytesOf (t.data.toList.take n))) := (Only.refl b wr).drew.row _ (.inl rfl)
  exact ⟨text_put h.text.drew y.used _ (by omega), h.table.only ho2 (by omega), ho⟩
theorem add_used {b : Nat} {K : Nat → Nat} {y : Sha.Tx} {S : Nat} {w wr : World} (h : AddAt b K y S w wr) (u : Nat) (v : Int) (e : v = (u : Int)) (hb : 1 < b) :
    AddAt b K ⟨y.s, y.blk, u⟩ S w (wr.setCell ⟨b, 72, none⟩ (.int .i64 v)) := by
  subst e
  have ho : Only b wr (wr.setCell ⟨b, 72, none⟩ (.int .i64 (u : Int))) := (Only.refl b wr).set _ (.inl rfl)
  exact ⟨text_used h.text u, h.table.only ho (by omega), h.only.trans ho⟩

theorem put_lt {blk : Nat → Nat} (h : ∀ i, blk i < 256) (u : Nat) (l : List UInt8) (i : Nat) : Sha.put blk u l i < 256 := by
  unfold Sha.put
  split
  · exact UInt8.toNat_lt _
  · exact h i
theorem end_feeds (K : Nat → Nat) (y : Sha.Tx) (t : ByteArray) (x : Sha.Tx) (s : ByteArray) (h : Sha.feeds K y t.data.toList = Sha.feeds K x s.data.toList) (hz : t.size = 0) : y = Sha.feeds K x s.data.toList := by
  have e : t.data.toList = [] := List.eq_nil_of_length_eq_zero (by simpa using hz)
  rw [← h, e]
  rfl
theorem add_zero {b : Nat} {K : Nat → Nat} {y : Sha.Tx} {S : Nat} {w wr : World} (h : AddAt b K y S w wr) (hb : 1 < b) : AddAt b K ⟨y.s, y.blk, 0⟩ S w (wr.setCell ⟨b, 72, none⟩ (.int .i64 0)) :=
  add_used h 0 0 rfl hb

set_option maxRecDepth 100000 in
set_option maxHeartbeats 2000000 in
theorem add_any (b : Nat) (K : Nat → Nat) (x : Sha.Tx) (size : Nat) (s : ByteArray) (w : World) (hx : x.ok) (hK : ∀ i, K i < 4294967296) (hb1 : 1 < b) (h : TextIs b x.s x.blk x.used size w) (hT : Table K w) (hs : s.size ≤ maxLen) :
    Calls Tryd.prog 29 #[.pointer (some ⟨b, 0, none⟩), .string s] w fun r w' => r = .returned (.tuple #[]) ∧ AddAt b K (Sha.feeds K x s.data.toList) ((size + s.size) % M64) w w' := by
  have HT := Lib.hid h
  have HX := Lib.hid hx
  have HK := Lib.hid hK
  have HTb := Lib.hid hT
  have c73 := (h.2 73 (by decide))
  simp only [tv] at c73
  obtain ⟨c73, f73⟩ := c73
  clear h hx hK hT
  unfold maxLen at hs
  go_enter Tryd.func29, Tryd.ntmps29
  go_upto_region 0 with fail
  go_cut [1] (fun p wx => p = .string s ∧ AddAt b K x ((size + s.size) % M64) w wx)
  case first =>
    go_wp2_with fail
    go_meet
    exact ⟨rfl, add_start HT.out HTb.out hb1⟩
  case rest =>
    obtain ⟨rfl, hF⟩ := hcut
    clear c73 f73 HT HTb
    obtain ⟨S, hS⟩ : ∃ S, (size + s.size) % M64 = S := ⟨_, rfl⟩
    have HS := Lib.hid hS
    rw [hS] at hF
    clear hS
    go_wp2_with fail
    go_loopw [1] (fun v wr => ∃ (t : ByteArray) (y : Sha.Tx), v = .string t ∧ y.ok ∧ Hid (Sha.feeds K y t.data.toList = Sha.feeds K x s.data.toList) ∧ t.size ≤ s.size ∧ AddAt b K y S w wr) (fun v _ => strLen v)
    case atStart => exact ⟨s, x, rfl, HX.out, Lib.hid rfl, by omega, hF⟩
    case round =>
      clear hF
      obtain ⟨t, y, rfl, hy, HE, hts, hF⟩ := hrel
      have HF := Lib.hid hF
      have HY := Lib.hid hy
      have hu := hy.used
      have c72 := hF.text.2 72 (by decide)
      simp only [tv] at c72
      obtain ⟨c72, f72⟩ := c72
      clear hF hy
      by_cases hz : t.size = 0
      · have hz1 : ¬ (0 : Int) < (t.size : Int) := by omega
        have HZ := Lib.hid (end_feeds K y t x s HE.out hz)
        clear hz
        go_wp2
        go_end0
        exact ⟨rfl, by rw [← HZ.out, HS.out]; exact HF.out⟩
      · obtain ⟨n, hn⟩ : ∃ n, min t.size (64 - y.used) = n := ⟨_, rfl⟩
        have n1 : 1 ≤ n := by omega
        have n2 : y.used + n ≤ 64 := by omega
        have n3 : n ≤ t.size := by omega
        have hsl := slice_from b y.used hu
        have hcp := copy_block HF.out.text t n hn hu
        have hz1 : (0 : Int) < (t.size : Int) := by omega
        have HN := Lib.hid hn
        clear hn
        obtain ⟨U, hU⟩ : ∃ U, y.used = U := ⟨_, rfl⟩
        rw [hU] at c72 hu n2 hsl hcp
        have HU := Lib.hid hU
        clear hU
        go_wp2_with fail
        go_region
        clear hsl hcp c72 f72
        obtain ⟨W2, hW2⟩ : ∃ W2, wr.drew.setCells b (8 + U) (bytesOf (List.take n t.data.toList)) = W2 := ⟨_, rfl⟩
        have hF2 := add_put HF.out HU.out hu t n HN.out hb1
        rw [hW2] at hF2 ⊢
        clear hW2 HF
        obtain ⟨B2, hB2⟩ : ∃ B, Sha.put y.blk U (t.data.toList.take n) = B := ⟨_, rfl⟩
        rw [hB2] at hF2
        have HB2 := Lib.hid hB2
        clear hB2
        have HF2 := Lib.hid hF2
        have c72 := hF2.text.2 72 (by decide)
        simp only [tv] at c72
        obtain ⟨c72, f72⟩ := c72
        clear hF2
        have tl := tail_len t n n3
        have HTl := Lib.hid (tail_feeds K y t n x s HE.out)
        have hF3 := add_used HF2.out (U + n) ((U : Int) + (n : Int)) (by omega) hb1
        have HF3 := Lib.hid hF3
        clear hF3
        have hlen : (t.data.toList.take n).length = n := by simp; omega
        by_cases hfull : U + n = 64
        · have q : ((U : Int) + (n : Int) == 64) = true := by simp; omega
          have hy' : Sha.feeds K y (t.data.toList.take n) = ⟨Sha.comp K y.s B2, B2, 0⟩ := by
            rw [Sha.feeds_full K _ y (by intro e; rw [e] at hlen; simp at hlen; omega) (by rw [hlen, HU.out]; omega), HU.out, HB2.out]
          have HY2 := Lib.hid hy'
          have hb2 : ∀ i, B2 i < 256 := fun i => by rw [← HB2.out]; exact put_lt HY.out.blk _ _ i
          have Hb2 := Lib.hid hb2
          clear hy' hlen hb2
          go_wp2_with fail
          refine (mix_any b y.s B2 (U + n) S K _ Hb2.out HY.out.s HK.out hb1 HF3.out.text HF3.out.table).mono ?_
          rintro e w4 ⟨rfl, hT4, hO4⟩
          have c74 := hT4.2 72 (by decide)
          simp only [tv] at c74
          obtain ⟨c74, f74⟩ := c74
          have HT4 := Lib.hid hT4
          have HO4 := Lib.hid hO4
          clear hT4 hO4
          go_wp2
          go_roundw
          case rel => exact ⟨_, ⟨Sha.comp K y.s B2, B2, 0⟩, rfl, by rw [← HY2.out]; exact Sha.feeds_ok HY.out _, Lib.hid (by rw [← HY2.out]; exact HTl.out), by omega, add_zero (y := ⟨Sha.comp K y.s B2, B2, U + n⟩) ⟨HT4.out, HF3.out.table.only HO4.out (by omega), HF3.out.only.trans HO4.out⟩ hb1⟩
          case measure => simp [strLen]; omega
        · have q : ((U : Int) + (n : Int) == 64) = false := by simp; omega
          have hy' : Sha.feeds K y (t.data.toList.take n) = ⟨y.s, B2, U + n⟩ := by
            rw [Sha.feeds_less K _ y (by rw [hlen, HU.out]; omega), HU.out, HB2.out, hlen]
          have HY2 := Lib.hid hy'
          clear hy' hlen
          go_wp2
          go_roundw
          case rel => exact ⟨_, ⟨y.s, B2, U + n⟩, rfl, by rw [← HY2.out]; exact Sha.feeds_ok HY.out _, Lib.hid (by rw [← HY2.out]; exact HTl.out), by omega, HF3.out⟩
          case measure => simp [strLen]; omega
end Go.Proofs.YtheccbnejamhlaaDoor
