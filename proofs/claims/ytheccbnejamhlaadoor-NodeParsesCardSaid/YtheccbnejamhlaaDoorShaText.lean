/-
  A sum's Text for any bytes; the document's own sum has the same bytes.
-/
import Derived.Test.YtheccbnejamhlaaDoorShaAwake
import Derived.Test.YtheccbnejamhlaaDoorRefOf2
namespace Go.Proofs.YtheccbnejamhlaaDoor
open Go.RowKit

/-- 32 bytes as a value -/
def arr (f : Nat → Nat) : List Value := (List.range 32).map fun j => Value.int .u8 (f j : Nat)
theorem arr_sum (s : Sha.St) : sumOf s = arr (Sha.dg s) := rfl
theorem arr_at (f : Nat → Nat) (j : Nat) (h : j < 32) : (arr f)[j]? = some (.int .u8 (f j : Nat)) := by
  unfold arr
  rw [List.getElem?_map, List.getElem?_range h]
  rfl
theorem arr_len (f : Nat → Nat) : (arr f).length = 32 := by simp [arr]
theorem arr_one (f : Nat → Nat) : (arr f).toArray.all (·.oneCell') = true :=
  all_oneCell_toArray fun v hv => by
    unfold arr at hv
    rw [List.mem_map] at hv
    obtain ⟨x, _, rfl⟩ := hv
    rfl
def txt (f : Nat → Nat) : List UInt8 := (List.range 32).map fun j => UInt8.ofNat (f j)
theorem box_cells {w : World} {f : Nat → Nat} {t : TypeId} : Cells w.heap.size 32 (fun j => .int .u8 (f j : Nat)) (w.alloc (.cells (arr f).toArray t)) :=
  Cells.new w 32 _ _ _ fun j hj => by rw [List.getElem?_toArray]; exact arr_at f j hj
theorem conv_txt {b : Nat} {f : Nat → Nat} {w : World} (hf : ∀ j, f j < 256) (h : Cells b 32 (fun j => .int .u8 (f j : Nat)) w) :
    (convert 30 9 (.slice (some ⟨b, 0, none⟩) 32 32)).run Tryd.prog w = .ok (.string ⟨(txt f).toArray⟩) w := by
  have e : (txt f).length = 32 := by simp [txt]
  have z := run_convert_bytes_back (P := Tryd.prog) w 30 9 5 ⟨b, 0, none⟩ 32 (txt f) Tryd.underlying30 Tryd.underlying5 Tryd.underlying9 fun j hj => by
    rw [Addr.add_mid, Nat.zero_add, (h.2 j (by omega)).1]
    have hj' : (txt f)[j] = UInt8.ofNat (f j) := by simp [txt]
    rw [hj', UInt8.toNat_ofNat', Nat.mod_eq_of_lt (hf j)]
  rw [e] at z
  exact z
theorem slice_all (b : Nat) : ∀ w : World, (Instr.sliceAt 24 (.pointer (some ⟨b, 0, none⟩)) none none none).run Tryd.prog w = .ok (.slice (some ⟨b, 0, none⟩) 32 32) w := by
  intro w
  kernel_rfl

set_option maxRecDepth 100000 in
set_option maxHeartbeats 1000000 in
theorem text_any (f : Nat → Nat) (hf : ∀ j, f j < 256) (w : World) :
    Calls Tryd.prog 13 #[.agg (arr f).toArray] w fun r w' => r = .returned (.string ⟨(txt f).toArray⟩) ∧ Below w.heap.size w w' := by
  have kc := conv_txt hf (box_cells (w := w) (f := f) (t := 24))
  have hsl := slice_all w.heap.size
  obtain ⟨L, hL⟩ : ∃ L, arr f = L := ⟨_, rfl⟩
  rw [hL] at kc ⊢
  obtain ⟨T, hT⟩ : ∃ T : ByteArray, ⟨(txt f).toArray⟩ = T := ⟨_, rfl⟩
  rw [hT] at kc ⊢
  clear hL hT hf
  go_enter Tryd.func13, Tryd.ntmps13
  go_wp2
  go_ret
  exact ⟨rfl, (Below.refl _ _).alloc (Nat.le_refl _) _⟩

theorem sum_txt (s : Sha.St) : txt (Sha.dg s) = sumB s := by
  obtain ⟨a, b, c, d, e, f, g, z⟩ := s
  have h : ∀ n : Nat, UInt8.ofNat (n % 256) = UInt8.ofNat n := fun n => by
    apply UInt8.toNat_inj.1
    rw [UInt8.toNat_ofNat', UInt8.toNat_ofNat']
    omega
  simp [txt, sumB, wl, enc, List.range_succ, Sha.dg, Sha.St.get, h]
theorem dg_lt (s : Sha.St) (j : Nat) : Sha.dg s j < 256 := Nat.mod_lt _ (by decide)
theorem sum_text (s : Sha.St) (w : World) :
    Calls Tryd.prog 13 #[.agg (sumOf s).toArray] w fun r w' => r = .returned (.string ⟨(sumB s).toArray⟩) ∧ Below w.heap.size w w' := by
  have := text_any (Sha.dg s) (dg_lt s) w
  rw [sum_txt] at this
  exact this
/-- the bytes of a sum are the places' digits -/
theorem sumB_at (s : Sha.St) (j : Nat) (h : j < 32) : blkOf ⟨(sumB s).toArray⟩ j = Sha.dg s j := by
  rw [← sum_txt]
  unfold blkOf txt
  show (((List.range 32).map fun j => UInt8.ofNat (Sha.dg s j)).getD j 0).toNat = _
  rw [List.getD_eq_getElem?_getD, List.getElem?_map, List.getElem?_range h]
  show (UInt8.ofNat (Sha.dg s j)).toNat = _
  rw [UInt8.toNat_ofNat']
  have := dg_lt s j
  omega
theorem sumB_len (s : Sha.St) : (⟨(sumB s).toArray⟩ : ByteArray).size = 32 := by
  rw [← sum_txt]
  show (txt (Sha.dg s)).length = 32
  simp [txt]
theorem hexOf_congr {f g : Nat → Nat} (k : Nat) (h : ∀ j, j < k → f j = g j) : hexOf f k = hexOf g k := by
  unfold hexOf
  have : ∀ l : List Nat, (∀ j ∈ l, j < k) → (l.flatMap fun j => [digit (f j / 16), digit (f j % 16)]) = l.flatMap fun j => [digit (g j / 16), digit (g j % 16)] := by
    intro l
    induction l with
    | nil => intro _; rfl
    | cons a l ih =>
      intro hl
      rw [List.flatMap_cons, List.flatMap_cons, ih fun j hj => hl j (List.mem_cons_of_mem _ hj), h a (hl a List.mem_cons_self)]
  exact this _ fun j hj => by simpa using hj
end Go.Proofs.YtheccbnejamhlaaDoor
