/-
  append of a text's bytes, and of so many noughts, to a slice of bytes that the call owns: what it holds then, and where it lies.
-/
import Derived.Test.YtfmhcomebjggoaaDoorGrew
import Derived.Lib.AppendStr
import Derived.IntWalk
namespace Go.Proofs.YtfmhcomebjggoaaDoor
open Go.RowKit

section
variable {P : Program} (w : World)

/-- append by its arms: nothing to nil; there is room; a new row -/
theorem own_of_arms (base : Nat) (e : TypeId) (z : Value) (hzs : z.cells.size = 1) (v : Value) (n : Nat) (xs news : List Value) (op : Sem Value) (hown : w.ownsRow base e 1 v n xs) (h63 : n + news.length ≤ maxLen) (hbase : base ≤ w.heap.size)
    (hnil : v = .slice none 0 0 → news = [] → op.run P w = .ok (.slice none 0 0) w)
    (hroom : ∀ g cap cur, v = .slice (some ⟨g, 0, none⟩) n cap → w.heap[g]? = some (.cells cur e (0, 0)) → n + news.length ≤ cap → cur.size = cap →
      op.run P w = .ok (.slice (some ⟨g, 0, none⟩) (n + news.length) cap) (w.setRow g (cur.toList.take n ++ news ++ cur.toList.drop (n + news.length)).toArray))
    (hgrow : ∀ cap, ((v = .slice none 0 0 ∧ cap = 0 ∧ n = 0 ∧ xs = []) ∨ (∃ g, v = .slice (some ⟨g, 0, none⟩) n cap ∧ n ≤ cap ∧ ∀ j u, xs[j]? = some u → w.cell? ((⟨g, 0, none⟩ : Addr).add j) = some u)) → cap < n + news.length →
      op.run P w = .ok (.slice (some ⟨w.heap.size, 0, none⟩) (n + news.length) (grownCap w (n + news.length) cap e))
        (w.drew.alloc (.cells (xs.toArray ++ news.toArray ++ Builtin.zeroCells z.cells (grownCap w (n + news.length) cap e - (n + news.length))) e))) :
    ∃ ao cap w', op.run P w = .ok (.slice ao (n + news.length) cap) w' ∧ w'.ownsRow base e 1 (.slice ao (n + news.length) cap) (n + news.length) (xs ++ news) ∧ w.grownBy w' v.ownBlock ∧
      (∀ k, k < w.heap.size → Value.ownBlock (.slice ao (n + news.length) cap) = some k → v.ownBlock = some k) := by
  have hxl : xs.length = n := by simpa using hown.1
  have hlen : (xs ++ news).length = (n + news.length) * 1 := by rw [List.length_append, hxl, Nat.mul_one]
  have grown : ∀ (old : Nat), old < n + news.length → ∀ (row : Option Nat),
      (w.drew.alloc (.cells (xs.toArray ++ news.toArray ++ Builtin.zeroCells z.cells (grownCap w (n + news.length) old e - (n + news.length))) e)).ownsRow base e 1
        (.slice (some ⟨w.heap.size, 0, none⟩) (n + news.length) (grownCap w (n + news.length) old e)) (n + news.length) (xs ++ news) ∧
      w.grownBy (w.drew.alloc (.cells (xs.toArray ++ news.toArray ++ Builtin.zeroCells z.cells (grownCap w (n + news.length) old e - (n + news.length))) e)) row := by
    intro old ho row
    have hge := grownCap_ge w (n + news.length) old e
    have hcm : grownCap w (n + news.length) old e ≤ maxLen := grownCap_le_maxLen w (n + news.length) old e h63
    refine ⟨⟨hlen, .inr ⟨w.heap.size, _, _, rfl, hbase, heap_alloc_new w.drew _, hge, hcm, ?_, ?_⟩⟩, ⟨rfl, rfl, rfl, by simp, fun k hk _ => Below.heap_alloc w.drew _ k hk⟩⟩
    · simp only [Array.size_append, List.size_toArray, size_zeroCells, hzs, hxl]
      omega
    · simp only [Array.toList_append, List.append_assoc]
      rw [← List.append_assoc, ← hlen]
      exact List.take_left
  have fresh : ∀ (row : Option Nat) (m cap k : Nat), k < w.heap.size → Value.ownBlock (.slice (some ⟨w.heap.size, 0, none⟩) m cap) = some k → row = some k := by
    intro row m cap k hk h
    simp [Value.ownBlock] at h
    omega
  rcases hown.2 with ⟨rfl, rfl⟩ | ⟨g, cap, cur, rfl, hbg, hg, hnc, hcm, hcs, htake⟩
  · have hx : xs = [] := List.eq_nil_of_length_eq_zero hxl
    subst hx
    by_cases hm : news = []
    · subst hm
      exact ⟨none, 0, w, hnil rfl rfl, World.ownsRow_nil w base e 1, ⟨rfl, rfl, rfl, Nat.le_refl _, fun _ _ _ => rfl⟩, fun _ _ h => h⟩
    · have hpos : 0 < 0 + news.length := by have := List.length_pos_iff.2 hm; omega
      have hgr := grown 0 hpos (Value.ownBlock (.slice none 0 0))
      exact ⟨_, _, _, hgrow 0 (Or.inl ⟨rfl, rfl, rfl, rfl⟩) hpos, hgr.1, hgr.2, fresh _ _ _⟩
  · by_cases hr : n + news.length ≤ cap
    · have hcs' : cur.size = cap := by simpa using hcs
      refine ⟨_, _, _, hroom g cap cur rfl hg hr hcs', ⟨hlen, .inr ⟨g, cap, _, rfl, hbg, setRow_heap w g cur _ e _ hg, hr, hcm, ?_, ?_⟩⟩, ⟨rfl, rfl, rfl, by simp, fun k _ hk => setRow_other w g k _ (fun e => hk (by simp [Value.ownBlock, e]))⟩, fun _ _ h => h⟩
      · simp only [List.size_toArray, List.length_append, List.length_take, List.length_drop, Array.length_toList]
        omega
      · have ht' : cur.toList.take n = xs := by simpa using htake
        rw [ht', ← hlen]
        exact List.take_left
    · have holds : ∀ j u, xs[j]? = some u → w.cell? ((⟨g, 0, none⟩ : Addr).add j) = some u := hown.cells (g := g) rfl
      have hgr := grown cap (by omega) (Value.ownBlock (.slice (some ⟨g, 0, none⟩) n cap))
      exact ⟨_, _, _, hgrow cap (Or.inr ⟨g, rfl, hnc, holds⟩) (by omega), hgr.1, hgr.2, fresh _ _ _⟩

/-- a text's bytes -/
theorem append_text (base : Nat) (t u ty e : TypeId) (i : TypeInfo) (ht : P.underlying t = some (.slice e)) (hu : P.underlying u = some .string) (hi : P.info? e = some i) (hz : i.zero = some (.int .u8 0))
    (hsize : i.size = 1) (hby : i.bytes = 1) (v : Value) (n : Nat) (xs : List Value) (hown : w.ownsRow base e 1 v n xs) (s : ByteArray)
    (h63 : n + s.size ≤ maxLen) (hbytes : n + s.size ≤ 140737488355328) (hbase : base ≤ w.heap.size) :
    ∃ ao cap w', (Builtin.append_ #[t, u] ty #[v, .string s]).run P w = .ok (.slice ao (n + s.size) cap) w' ∧ w'.ownsRow base e 1 (.slice ao (n + s.size) cap) (n + s.size) (xs ++ Lib.strCells s) ∧ w.grownBy w' v.ownBlock ∧
      (∀ k, k < w.heap.size → Value.ownBlock (.slice ao (n + s.size) cap) = some k → v.ownBlock = some k) := by
  have hsmall : n + s.size ≤ 9223372036854775807 := by simp only [maxLen] at h63; omega
  have hxl : xs.length = n := by simpa using hown.1
  have h := own_of_arms (P := P) w base e (.int .u8 0) rfl v n xs (Lib.strCells s) (Builtin.append_ #[t, u] ty #[v, .string s]) hown (by rw [Lib.strCells_length]; exact h63) hbase
  rw [Lib.strCells_length] at h
  refine h ?_ ?_ ?_
  · rintro rfl hm
    have hm' : s.size = 0 := by rw [← Lib.strCells_length, hm]; rfl
    have hf := Lib.run_firstCells_string (P := P) w 1 s
    rw [hm'] at hf
    simp [Builtin.append_, run_underlying ht, run_underlying hu, sizeOf, typeInfo, hi, hsize, Builtin.lenOf, hm', hf]
  · rintro g cap cur rfl hg hroom hcs
    exact Lib.run_append_room_string (P := P) w t u ty e i ht hu hi hsize g n cap cur hg s hroom (by omega)
  · rintro cap (⟨rfl, rfl, rfl, rfl⟩ | ⟨g, rfl, hnc, holds⟩) hlt
    · have hr := run_append_nil_string (P := P) w t u ty e i (.int .u8 0) ht hu hi hz s (by omega) (by omega) (by rw [hby]; omega)
      have e1 : (s.data.map fun b => Value.int .u8 b.toNat) = (Lib.strCells s).toArray := by
        apply Array.ext'
        simp [Lib.strCells]
      rw [e1] at hr
      simpa using hr
    · exact Lib.run_append_grow_string (P := P) w t u ty e i (.int .u8 0) ht hu hi hz ⟨g, 0, none⟩ n cap xs (by rw [hsize]; simpa using hxl) holds s (by omega) (by omega) (by rw [hby]; exact growslice_fits (by omega) (by omega))

/-- so many noughts -/
def noughts (k : Nat) : List Value := List.replicate k (.int .u8 0)
theorem noughts_len (k : Nat) : (noughts k).length = k := by simp [noughts]
theorem noughts_one (k : Nat) : ∀ u ∈ noughts k, u.oneCell' = true := by
  intro u hu
  rw [List.eq_of_mem_replicate hu]
  rfl
theorem zeroCells_u8 (k : Nat) : Builtin.zeroCells (Value.int .u8 0).cells k = (noughts k).toArray := by
  apply Array.ext'
  refine List.ext_getElem? fun j => ?_
  unfold Builtin.zeroCells noughts
  by_cases h : j < k
  · simp [Value.cells, h, Nat.mod_one]
  · simp [Value.cells, h]
theorem append_zeros (base : Nat) (t u ty e : TypeId) (i : TypeInfo) (kd : IntKind) (ht : P.underlying t = some (.slice e)) (hu : P.underlying u = some (.int kd)) (hi : P.info? e = some i) (hz : i.zero = some (.int .u8 0))
    (hsize : i.size = 1) (hby : i.bytes = 1) (v : Value) (n : Nat) (xs : List Value) (hown : w.ownsRow base e 1 v n xs) (k : Nat) (hk : k < 1000000000)
    (h63 : n + k ≤ maxLen) (hbytes : n + k ≤ 140737488355328) (hbase : base ≤ w.heap.size) :
    ∃ ao cap w', (Builtin.append_ #[t, u] ty #[v, .int .i64 k]).run P w = .ok (.slice ao (n + k) cap) w' ∧ w'.ownsRow base e 1 (.slice ao (n + k) cap) (n + k) (xs ++ noughts k) ∧ w.grownBy w' v.ownBlock ∧
      (∀ j, j < w.heap.size → Value.ownBlock (.slice ao (n + k) cap) = some j → v.ownBlock = some j) := by
  have hsmall : n + k ≤ 9223372036854775807 := by simp only [maxLen] at h63; omega
  have hxl : xs.length = n := by simpa using hown.1
  have hw : IntKind.i64.wrap (k : Int) = (k : Int) := IntWalk.i64_in _ (by omega)
  have hw0 : IntKind.i64.wrap 0 = 0 := by decide
  have hneg : ¬ ((k : Int) < 0) := by omega
  have hbig : ¬ ((281474976710656 : Int) < (k : Int)) := by omega
  have h := own_of_arms (P := P) w base e (.int .u8 0) rfl v n xs (noughts k) (Builtin.append_ #[t, u] ty #[v, .int .i64 k]) hown (by rw [noughts_len]; exact h63) hbase
  rw [noughts_len] at h
  refine h ?_ ?_ ?_ <;> clear h
  · rintro rfl hm
    have hm' : k = 0 := by rw [← noughts_len k, hm]; rfl
    subst hm'
    simp [Builtin.append_, run_underlying ht, run_underlying hu, sizeOf, typeInfo, hi, asInt, asIntOf, hw0]
  · rintro g cap cur rfl hg hroom hcs
    have hst := run_storeCells_at P g n e (noughts k) 0 cur w hg (by simp [noughts_len]; omega) (noughts_one k)
    simp only [Nat.add_zero, noughts_len] at hst
    by_cases h0 : k = 0
    · subst h0
      have hr : n ≤ cap := by omega
      simp [noughts] at hst
      simp [Builtin.append_, run_underlying ht, run_underlying hu, sizeOf, typeInfo, hi, hsize, asInt, asIntOf, hw0, hr, Addr.add_lit, hst, noughts]
    · simp [Builtin.append_, run_underlying ht, run_underlying hu, sizeOf, typeInfo, zeroValue, hi, hz, hsize, hby, asInt, asIntOf, hw, hneg, hbig, h0, hroom, zeroCells_u8, Addr.add_lit, hst]
  · rintro cap (⟨rfl, rfl, rfl, rfl⟩ | ⟨g, rfl, hnc, holds⟩) hlt
    · have hn0 : k ≠ 0 := by omega
      have h63' : ¬ ((9223372036854775807 : Int) < (k : Int)) := by omega
      have h48' : ¬ (281474976710656 < Builtin.nextslicecap k 0) := by have := growslice_fits (need := k) (old := 0) (bytes := 1) (by omega) (by omega); omega
      have hf : ∀ w' : World, (Builtin.firstCells 1 0 (.slice none 0 0)).run P w' = .ok #[] w' := fun _ => rfl
      simp [Builtin.append_, run_underlying ht, run_underlying hu, sizeOf, typeInfo, zeroValue, hi, hz, hsize, hby, asInt, asIntOf, hw, hneg, hbig, hn0, h63', h48', hf, zeroCells_u8, Question.forced, newRow, grownCap]
    · have hn : ¬ (n + k ≤ cap) := by omega
      have h63' : ¬ (9223372036854775807 < ((n : Int) + (k : Int))) := by omega
      have h48' : ¬ (281474976710656 < Builtin.nextslicecap (n + k) cap) := by have := growslice_fits (need := n + k) (old := cap) (bytes := 1) (by omega) (by omega); omega
      have hfo := run_firstCells_some (P := P) w.drew i.size n ⟨g, 0, none⟩ n cap xs (by rw [hsize]; simpa using hxl) (by simpa using holds)
      rw [hsize] at hfo
      have h0 : k ≠ 0 := by omega
      simp [Builtin.append_, run_underlying ht, run_underlying hu, sizeOf, typeInfo, zeroValue, hi, hz, hsize, hby, asInt, asIntOf, hw, hneg, hbig, hn, h63', h48', hfo, h0, zeroCells_u8, Question.forced, newRow, grownCap]
end
end Go.Proofs.YtfmhcomebjggoaaDoor
