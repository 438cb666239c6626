/-
  The document's Head: the first bits of bytes, noughts behind.
-/
import Derived.Test.YtbohpffigmllkaaGreatDoorShaHeadFn
import Derived.Laws.BytesArg
import Derived.Laws.OwnMore
namespace Go.Proofs.YtbohpffigmllkaaGreatDoor
open Go.RowKit

/-- b bits of byte x, of which the first t are kept -/
def hb (x : Nat) (t : Int) : Nat → Nat
  | 0 => 0
  | b + 1 => 2 * hb x t b + (if t ≤ (b : Int) then 0 else x / 2 ^ (7 - b) % 2)
theorem hb_lt (x : Nat) (t : Int) (b : Nat) : hb x t b < 2 ^ b := by
  induction b with
  | zero => simp [hb]
  | succ b ih =>
    have hp : 2 ^ (b + 1) = 2 * 2 ^ b := by rw [Nat.pow_succ, Nat.mul_comm]
    unfold hb
    split <;> omega
def hcut (t : Int) : Nat := (min (max t 0) 8).toNat
theorem hb_cut (x : Nat) (t : Int) (b : Nat) (hb8 : b ≤ 8) : hb x t b = hb x (hcut t : Nat) b := by
  induction b with
  | zero => rfl
  | succ b ih =>
    unfold hb
    rw [ih (by omega)]
    have e : (t ≤ (b : Int)) ↔ (((hcut t : Nat) : Int) ≤ (b : Int)) := by unfold hcut; omega
    by_cases h : t ≤ (b : Int)
    · rw [if_pos h, if_pos (e.mp h)]
    · rw [if_neg h, if_neg (fun k => h (e.mpr k))]
theorem hb_all : ∀ x, x < 256 → ∀ t, t < 9 → hb x (t : Nat) 8 = if t = 8 then x else if 0 < t then x &&& (255 - 255 / 2 ^ t) else 0 := by decide +kernel
/-- the document's bits are the program's -/
theorem head_same (f : Nat → Nat) (hf : ∀ j, f j < 256) (n : Int) (j : Nat) (hj : j < 32) : headF f (clamp n) j = hb (f j) (n - 8 * (j : Int)) 8 := by
  rw [hb_cut _ _ _ (Nat.le_refl 8), hb_all (f j) (hf j) (hcut (n - 8 * (j : Int))) (by unfold hcut; omega)]
  unfold headF
  have hc : (clamp n : Int) = min (max n 0) 256 := by unfold clamp; omega
  have ht : ((hcut (n - 8 * (j : Int)) : Nat) : Int) = min (max (n - 8 * (j : Int)) 0) 8 := by unfold hcut; omega
  generalize clamp n = N at hc
  generalize hcut (n - 8 * (j : Int)) = T at ht
  by_cases h1 : j < N / 8
  · rw [if_pos h1, if_pos (by omega)]
  · rw [if_neg h1]
    by_cases h2 : j = N / 8 ∧ 0 < N % 8
    · rw [if_pos h2, if_neg (by omega), if_pos (by omega), show N % 8 = T by omega]
    · rw [if_neg h2, if_neg (by omega), if_neg (by omega)]

def headBytes (s : ByteArray) (n : Int) (k : Nat) : List UInt8 := (List.range k).map fun i => UInt8.ofNat (hb (s.data.toList.getD i 0).toNat (n - 8 * (i : Int)) 8)
def cellsOfBytes (l : List UInt8) : List Value := l.map fun b => Value.int .u8 (b.toNat : Int)

theorem own_ge {wx : World} {B : Nat} {e : TypeId} {v : Value} {n : Nat} {xs : List Value} (h : wx.ownsRow B e 1 v n xs) : ∀ q, v.ownBlock = some q → B ≤ q := by
  intro q hq
  rcases h.2 with ⟨rfl, _⟩ | ⟨g, cap, cur, rfl, hg, _⟩
  · simp [Value.ownBlock] at hq
  · simp [Value.ownBlock] at hq
    omega
theorem head_next (s : ByteArray) (n : Int) (k x : Nat) (hx : (s.data.toList.getD k 0).toNat = x) : cellsOfBytes (headBytes s n k) ++ [.int .u8 (hb x (n - 8 * (k : Int)) 8 : Nat)] = cellsOfBytes (headBytes s n (k + 1)) := by
  have l := hb_lt x (n - 8 * (k : Int)) 8
  unfold cellsOfBytes headBytes
  rw [List.range_succ, List.map_append, List.map_append, List.map_cons, List.map_nil, List.map_cons, List.map_nil, hx, UInt8.toNat_ofNat', Nat.mod_eq_of_lt (by omega)]
theorem conv_own {wx : World} {B n : Nat} {v : Value} {l : List UInt8} (h : wx.ownsRow B 5 1 v n (cellsOfBytes l)) :
    (v = .slice none 0 0 ∧ l = []) ∨ ∃ g cap, v = .slice (some ⟨g, 0, none⟩) n cap ∧ (convert 81 9 (.slice (some ⟨g, 0, none⟩) n cap)).run Tryz.prog wx = .ok (.string ⟨l.toArray⟩) wx := by
  have hl : l.length = n := by have := h.1; simpa [cellsOfBytes] using this
  rcases h.2 with ⟨rfl, hn⟩ | ⟨g, cap, cur, rfl, hg, hh, hnc, hcm, hcs, htake⟩
  · exact .inl ⟨rfl, List.eq_nil_of_length_eq_zero (by omega)⟩
  · refine .inr ⟨g, cap, rfl, ?_⟩
    have z := run_convert_bytes_back (P := Tryz.prog) wx 81 9 5 ⟨g, 0, none⟩ cap l Tryz.underlying81 Tryz.underlying5 Tryz.underlying9 fun j hj => by
      rw [Addr.add_mid, Nat.zero_add, h.cellAt j (by omega)]
      unfold cellsOfBytes
      rw [List.getElem?_map, List.getElem?_eq_getElem hj]
      rfl
    rw [hl] at z
    exact z

set_option maxRecDepth 100000 in
set_option maxHeartbeats 2000000 in
theorem refHead_any (s : ByteArray) (n : Int) (hs : s.size ≤ 1000) (hn1 : -9223372036854775808 ≤ n) (hn2 : n ≤ 9223372036854775807) (w : World) :
    Calls Tryz.prog 83 #[.string s, .int .i64 n] w fun r w' => r = .returned (.string ⟨(headBytes s n s.size).toArray⟩) ∧ Below w.heap.size w w' := by
  obtain ⟨i0, hi, hz0, hz1, hz2⟩ := info_parts info8p
  have HI := Lib.hid hi
  have HZ0 := Lib.hid hz0
  have HZ1 := Lib.hid hz1
  have HZ2 := Lib.hid hz2
  clear hi hz0 hz1 hz2
  go_enter Tryz.func83, Tryz.ntmps83
  go_wp2_with fail
  go_loopw [5, 6] (fun v i wx => ∃ k : Nat, k ≤ s.size ∧ i = .int .i64 k ∧ wx.ownsRow w.heap.size 5 1 v k (cellsOfBytes (headBytes s n k)) ∧ Below w.heap.size w wx) (fun _ i _ => s.size - (intOf i).toNat)
  case atStart => exact ⟨0, by omega, rfl, World.ownsRow_lit w #[] 0 (Nat.le_refl _) (by decide) (by simp), (Below.refl _ _).alloc (Nat.le_refl _) _⟩
  case round =>
    obtain ⟨k, hk, rfl, hown, hbel⟩ := hrel
    have HOwn := Lib.hid hown
    have HBel := Lib.hid hbel
    clear hown hbel
    by_cases hlt : k < s.size
    · have hx0 : wrap64 ((s[k]).toNat : Int) = ((s[k]).toNat : Int) := by
        have := (s[k]).toNat_lt
        unfold wrap64
        omega
      obtain ⟨x, hx⟩ : ∃ x, (s[k]).toNat = x := ⟨_, rfl⟩
      have hxl : x < 256 := by rw [← hx]; exact UInt8.toNat_lt _
      have hxe : (s.data.toList.getD k 0).toNat = x := by
        rw [← hx, List.getD_eq_getElem?_getD, List.getElem?_eq_getElem (by simpa using hlt)]
        rfl
      have HX := Lib.hid hxe
      clear hxe
      rw [hx] at hx0
      go_wp2_with fail
      go_loop [7, 8] (fun c b => ∃ m : Nat, m ≤ 8 ∧ b = .int .i64 m ∧ c = .int .i64 (hb x (n - 8 * (k : Int)) m : Nat)) (fun _ b => 8 - (intOf b).toNat)
      case atStart => exact ⟨0, by omega, rfl, rfl⟩
      case round =>
        obtain ⟨m, hm, rfl, rfl⟩ := hrel
        have hcl := hb_lt x (n - 8 * (k : Int)) m
        have hp : 2 ^ m ≤ 256 := Nat.pow_le_pow_right (n := 2) (by decide) hm
        have hc2 : hb x (n - 8 * (k : Int)) m < 256 := by omega
        clear hcl hp
        by_cases hm8 : m < 8
        · have HN : Hid (hb x (n - 8 * (k : Int)) (m + 1) = 2 * hb x (n - 8 * (k : Int)) m + (if n - 8 * (k : Int) ≤ (m : Int) then 0 else x / 2 ^ (7 - m) % 2)) := Lib.hid rfl
          generalize hb x (n - 8 * (k : Int)) m = C at hc2 HN
          obtain ⟨sh, hsh⟩ : ∃ i, 7 - m = i := ⟨_, rfl⟩
          rw [hsh] at HN
          have hs1 : ((7 : Int) - (m : Int)).toNat = sh := by omega
          have hs2 : (0 : Int) ≤ (7 : Int) - (m : Int) := by omega
          obtain ⟨z, hz⟩ : ∃ z, x / 2 ^ sh = z := ⟨_, rfl⟩
          have hzi : (x : Int) / 2 ^ sh = (z : Int) := by rw [← hz]; simp
          have hzl : z < 256 := by rw [← hz]; exact Nat.lt_of_le_of_lt (Nat.div_le_self _ _) hxl
          rw [hz] at HN
          clear hsh hz
          by_cases hg : n ≤ 8 * (k : Int) + (m : Int)
          · go_wp2
            go_round
            case rel => exact ⟨m + 1, by omega, by go_num, by rw [HN.out, if_pos (by omega)]; go_num⟩
            case measure => simp [intOf]; omega
          · go_wp2
            go_round
            case rel => exact ⟨m + 1, by omega, by go_num, by rw [HN.out, if_neg (by omega)]; go_num⟩
            case measure => simp [intOf]; omega
        · have em : m = 8 := by omega
          have HNx := Lib.hid (head_next s n k x HX.out)
          rw [em] at hc2 ⊢
          obtain ⟨C, hC⟩ : ∃ C, hb x (n - 8 * (k : Int)) 8 = C := ⟨_, rfl⟩
          rw [hC] at hc2 HNx ⊢
          clear hC em hm8 hm
          go_wp2_with (at_builtin; refine wpList_append_own _ rfl _ _ 81 rfl w.heap.size 5 i0 (.int .u8 0) 1 1 Tryz.underlying81 HI.out HZ0.out HZ1.out HZ2.out rfl (by decide) _ _ _ rfl (HOwn.out.alloc _) ⟨wr.heap.size, 0, none⟩ 1 1 [.int .u8 (C : Nat)] rfl rfl ?c1 ?c2 ?c3 ?c4 ?c5 ?_)
          case c2 => first | rfl | (intro u hu; simp at hu; subst hu; rfl)
          case c3 => first | omega | (unfold maxLen; omega)
          case c4 => omega
          case c5 => have := HBel.out.size; first | omega | (simp; omega)
          · intro v' w1 hown' hgrow _
            rw [HNx.out] at hown'
            have HO1 := Lib.hid hown'
            have HB1 := Lib.hid ((HBel.out.alloc HBel.out.size (.cells #[.int .u8 (C : Nat)] 5)).grown hgrow (by have := HBel.out.size; simp; omega) (own_ge HOwn.out))
            clear hown' hgrow
            go_wp2
            go_roundw
            case rel => exact ⟨k + 1, by omega, by go_num, HO1.out, HB1.out⟩
            case measure => simp [intOf]; omega
    · have ek : k = s.size := by omega
      have hown := HOwn.out
      rw [ek] at hown
      rcases conv_own hown with ⟨rfl, hk0⟩ | ⟨g, cap, rfl, hkc⟩
      · have kc := run_convert_bytes_nil (P := Tryz.prog) wr 81 5 Tryz.underlying81 Tryz.underlying5 0 0 9 Tryz.underlying9
        clear hown ek
        go_wp2
        go_ret
        exact ⟨by rw [hk0]; rfl, HBel.out⟩
      · clear hown ek
        go_wp2
        go_ret
        exact ⟨rfl, HBel.out⟩
end Go.Proofs.YtbohpffigmllkaaGreatDoor
