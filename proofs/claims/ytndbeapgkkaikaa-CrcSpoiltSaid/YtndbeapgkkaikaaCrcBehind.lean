/-
  CrcBehind: for every two texts (of which at most 200 bytes are taken), each with its own sum behind, the law answers true.
-/
import Derived.Test.YtndbeapgkkaikaaCrcSums
import Derived.Laws.BytesArg
namespace Go.Proofs.Ytndbeapgkkaikaa
open Go.RowKit

def tail (n : Nat) : ByteArray := strOfNums [(n : Int) % 256, (n : Int) / 256 % 256, (n : Int) / 65536 % 256, (n : Int) / 16777216]
theorem tail_size (n : Nat) : (tail n).size = 4 := rfl
theorem of_nat (k : Nat) (h : k < 256) : (UInt8.ofNat ((k : Int).toNat)).toNat = k := by
  rw [Int.toNat_natCast, UInt8.toNat_ofNat']
  omega
theorem tail_le (n : Nat) (h : n < 4294967296) : Crc.le (tail n).data.toList = n := by
  unfold tail
  rw [strOfNums_data]
  have e0 : (n : Int) % 256 = ((n % 256 : Nat) : Int) := by omega
  have e1 : (n : Int) / 256 % 256 = ((n / 256 % 256 : Nat) : Int) := by omega
  have e2 : (n : Int) / 65536 % 256 = ((n / 65536 % 256 : Nat) : Int) := by omega
  have e3 : (n : Int) / 16777216 = ((n / 16777216 : Nat) : Int) := by omega
  rw [e0, e1, e2, e3]
  simp only [List.map_cons, List.map_nil, Crc.le]
  rw [of_nat _ (by omega), of_nat _ (by omega), of_nat _ (by omega), of_nat _ (by omega)]
  omega

set_option maxHeartbeats 400000 in
theorem own_any (s : ByteArray) (w : World) (hs : s.size ≤ 200) :
    Calls Try.prog 11 #[.string s] w fun e w' => e = .returned (.string (s ++ tail (Crc.sum s.data.toList))) ∧ Below w.heap.size w w' := by
  have hn := Crc.sum_lt s.data.toList
  have hm : s.size ≤ maxLen := by unfold maxLen; omega
  obtain ⟨n, hnt⟩ : ∃ n, Crc.sum s.data.toList = n := ⟨_, rfl⟩
  rw [hnt] at hn ⊢
  have HT := Lib.hid hnt
  clear hnt
  have kc := run_convert_bytes_arg (P := Try.prog) ((w.alloc (.cells #[.string s] 9)).alloc (.cells #[.int .u8 ((n : Int) % 256), .int .u8 ((n : Int) / 256 % 256), .int .u8 ((n : Int) / 65536 % 256), .int .u8 ((n : Int) / 16777216)] 5))
    29 5 Try.underlying29 Try.underlying5 (w.heap.size + 1) 0 4 4 [(n : Int) % 256, (n : Int) / 256 % 256, (n : Int) / 65536 % 256, (n : Int) / 16777216] rfl
    (fun i hi => by
      rcases (by omega : i = 0 ∨ i = 1 ∨ i = 2 ∨ i = 3) with rfl | rfl | rfl | rfl <;> simp [World.cell?_alloc_at]) 9 Try.underlying9
  have es : strOfNums [(n : Int) % 256, (n : Int) / 256 % 256, (n : Int) / 65536 % 256, (n : Int) / 16777216] = tail n := rfl
  rw [es] at kc
  clear es
  have ht : (tail n).size ≤ 4 := Nat.le_of_eq (tail_size n)
  generalize tail n = m at kc ht ⊢
  go_enter Try.func11, Try.ntmps11
  go_wp2_with (go_at_call 9; (with_reducible refine (sum_one _ _ n s _ HT.out hm ?_).mono ?_); (simp); rintro e w' ⟨rfl, rfl⟩)
  go_ret
  exact ⟨rfl, ((Below.refl _ _).alloc (Nat.le_refl _) _).alloc (by simp) _⟩

theorem own_data (s t : ByteArray) : (s ++ t).data.toList = s.data.toList ++ t.data.toList := by simp
theorem own_law (s : ByteArray) (hs : s.size ≤ 200) : ∃ T : ByteArray, T.size ≤ maxLen ∧ Crc.sum T.data.toList = 1214729159 ∧
    ∀ w : World, Calls Try.prog 11 #[.string s] w fun e w' => e = .returned (.string T) ∧ Below w.heap.size w w' := by
  refine ⟨s ++ tail (Crc.sum s.data.toList), ?_, ?_, fun w => own_any s w hs⟩
  · have := tail_size (Crc.sum s.data.toList)
    unfold maxLen
    rw [ByteArray.size_append]
    omega
  · rw [own_data]
    refine Crc.sum_behind _ _ ?_ (tail_le _ (Crc.sum_lt _))
    have := tail_size (Crc.sum s.data.toList)
    simpa using this
theorem below_step {W w w1 : World} (h : Below W.heap.size W w) (k : Below w.heap.size w w1) (o : Obj) : Below W.heap.size W (w1.alloc o) := by
  have h1 := h.size
  have h2 := k.size
  exact (h.trans (k.mono h1)).alloc (by omega) o

set_option maxHeartbeats 1000000 in
theorem crcBehind_walk (a0 a1 : ByteArray) (w0 : a0.size ≤ maxLen) (w1 : a1.size ≤ maxLen) (w : World) :
    Calls Try.prog 6 #[.string a0, .string a1] w fun e w' => e = .returned (.bool true) ∧ Below w.heap.size w w' := by
  have hc := cut_any a0 200 w w0 (by omega)
  have ht : (a0.extract 0 (min 200 a0.size)).size ≤ 200 := by rw [ByteArray.size_extract]; omega
  generalize a0.extract 0 (min 200 a0.size) = t at hc ht
  have hd := cut_any a1 200 w w1 (by omega)
  have hu : (a1.extract 0 (min 200 a1.size)).size ≤ 200 := by rw [ByteArray.size_extract]; omega
  generalize a1.extract 0 (min 200 a1.size) = u at hd hu
  have HC := Lib.hid hc
  have HD := Lib.hid hd
  obtain ⟨T, hT, hTs, hTo⟩ := own_law t ht
  obtain ⟨U, hU, hUs, hUo⟩ := own_law u hu
  have HT := Lib.hid hTs
  have HU := Lib.hid hUs
  have HTo := Lib.hid hTo
  have HUo := Lib.hid hUo
  clear hc hd hTs hUs hTo hUo
  go_enter Try.func6, Try.ntmps6
  go_wp2_with fail
  refine HC.out.mono ?_
  rintro e w' ⟨rfl, rfl⟩
  go_wp2_with fail
  refine HD.out.mono ?_
  rintro e w' ⟨rfl, rfl⟩
  go_wp2_with fail
  refine (awake_any _).mono ?_
  rintro e w2 ⟨rfl, hb2⟩
  go_wp2_with fail
  refine (HTo.out _).mono ?_
  rintro e w3 ⟨rfl, hb3⟩
  go_wp2_with fail
  refine (sum_one _ _ 1214729159 T _ HT.out hT ?_).mono ?_
  · simp
  rintro e w' ⟨rfl, rfl⟩
  go_wp2_with fail
  refine (HUo.out _).mono ?_
  rintro e w4 ⟨rfl, hb4⟩
  go_wp2_with fail
  refine (sum_one _ _ 1214729159 U _ HU.out hU ?_).mono ?_
  · simp
  rintro e w' ⟨rfl, rfl⟩
  go_wp2_with fail
  refine (HTo.out _).mono ?_
  rintro e w5 ⟨rfl, hb5⟩
  go_wp2_with fail
  refine (sum_one _ _ 1214729159 T _ HT.out hT ?_).mono ?_
  · simp
  rintro e w' ⟨rfl, rfl⟩
  go_wp2
  go_ret
  exact ⟨rfl, below_step (below_step (below_step hb2 hb3 _) hb4 _) hb5 _⟩
end Go.Proofs.Ytndbeapgkkaikaa
