/-
  A sector is read.
-/
import Derived.Test.YtakngnigpncmkaaDiskSpend
import Derived.Deep.MidRow
namespace Go.Proofs.Ytakngnigpncmkaa
open Go.RowKit

/-- the bytes of a sector -/
def sec (f : Nat → UInt8) (k : Nat) : List UInt8 := (List.range 64).map fun j => f (k * 64 + j)
@[simp] theorem sec_length (f : Nat → UInt8) (k : Nat) : (sec f k).length = 64 := by simp [sec]
theorem sec_get (f : Nat → UInt8) (k j : Nat) (h : j < (sec f k).length) : (sec f k)[j] = f (k * 64 + j) := by simp [sec]
theorem sec_text (b n k : Nat) (f : Nat → UInt8) (w : World) (h : RowAt b (64 * n) f w) (hk : k < n) :
    (convert 83 9 (.slice (some ⟨b, k * 64, none⟩) 64 64)).run Try.prog w = .ok (.string ⟨(sec f k).toArray⟩) w := by
  have z := run_convert_bytes_back (P := Try.prog) w 83 9 5 ⟨b, k * 64, none⟩ 64 (sec f k) Try.underlying83 Try.underlying5 Try.underlying9 fun j hj => by
    have hj' : j < 64 := by simpa using hj
    rw [sec_get]
    have e := h.cell (k * 64 + j) (by omega)
    rw [Addr.add_mid]
    exact e
  simpa using z
theorem read_cut (m : DiskM) (at' : Int) (w : World) (h : DiskAt m w) (hd : m.dead = true) :
    Calls Try.prog 61 #[.pointer (some ⟨m.d, 0, none⟩), .int .i64 at'] w fun e w' => e = failed 12 ∧ w = w' := by
  have H := Lib.hid (power_cut m w h hd)
  clear h hd
  go_enter Try.func61, Try.ntmps61
  go_wp2_with fail
  refine H.out.mono ?_
  rintro e w' ⟨rfl, rfl⟩
  exact ⟨rfl, rfl, rfl⟩
theorem read_not (m : DiskM) (at' : Int) (w : World) (h : DiskAt m w) (hd : m.dead = false) (hn : at' < 0 ∨ m.n ≤ at') :
    Calls Try.prog 61 #[.pointer (some ⟨m.d, 0, none⟩), .int .i64 at'] w fun e w' => e = failed 6 ∧ w = w' := by
  have H := Lib.hid (power_ok m w h hd)
  have H' := Lib.hid (sector_not m at' w h hn)
  clear h hd hn
  go_enter Try.func61, Try.ntmps61
  go_wp2_with fail
  refine H.out.mono ?_
  rintro e w' ⟨rfl, rfl⟩
  go_wp2_with fail
  refine H'.out.mono ?_
  rintro e w' ⟨rfl, rfl⟩
  exact ⟨rfl, rfl, rfl⟩
set_option maxRecDepth 100000 in
theorem read_ok (m : DiskM) (k : Nat) (w : World) (h : DiskAt m w) (hd : m.dead = false) (hk : k < m.n) :
    Calls Try.prog 61 #[.pointer (some ⟨m.d, 0, none⟩), .int .i64 (k : Int)] w fun e w' => e = .returned (.string ⟨(sec m.T k).toArray⟩) ∧ w = w' := by
  have H := Lib.hid (power_ok m w h hd)
  have H' := Lib.hid (sector_ok m k w h (by omega) (by omega))
  have c1 := h.c1
  have cv := sec_text m.bt m.n k m.T w h.there hk
  have hb : (0 : Int) ≤ k ∧ (k : Int) < m.n := by omega
  clear h hd hk
  go_enter Try.func61, Try.ntmps61
  go_wp2_with fail
  refine H.out.mono ?_
  rintro e w' ⟨rfl, rfl⟩
  go_wp2_with fail
  refine H'.out.mono ?_
  rintro e w' ⟨rfl, rfl⟩
  go_wp2_with fail
  go_ret
  exact ⟨rfl, rfl⟩
end Go.Proofs.Ytakngnigpncmkaa
