/-
  Texts put together: AppendMore, PackOut, PackOut2.
-/
import Derived.Test.YtbohpffigmllkaaGreatDoorGrew
import Derived.Lib.AppendStr
import Derived.IntWalk
import Derived.Test.YtbohpffigmllkaaGreatDoorPackIn
import Derived.Deep.RegionLaw
import Derived.Deep.DeepCutAuto
import Derived.Laws.ShiftsVarLaws
import Derived.Deep.LoopGhost
import Derived.Laws.IdiomStrings
/-
  append of a text's bytes, and of so many noughts, to a slice of bytes that the call owns: what it holds then, and where it lies.
-/
namespace Go.Proofs.YtbohpffigmllkaaGreatDoor
open Go.RowKit

section
variable {P : Program} (w : World)

/-- append by its arms: nothing to nil; there is room; a new row -/
theorem own_of_arms (base : Nat) (e : TypeId) (z : Value) (hzs : z.cells.size = 1) (v : Value) (n : Nat) (xs news : List Value) (op : Sem Value) (hown : w.ownsRow base e 1 v n xs) (h63 : n + news.length ≤ maxLen) (hbase : base ≤ w.heap.size)
    (hnil : v = .slice none 0 0 → news = [] → op.run P w = .ok (.slice none 0 0) w)
    (hroom : ∀ g cap cur, v = .slice (some ⟨g, 0, none⟩) n cap → w.heap[g]? = some (.cells cur e (0, 0)) → n + news.length ≤ cap → cur.size = cap →
      op.run P w = .ok (.slice (some ⟨g, 0, none⟩) (n + news.length) cap) (w.setRow g (cur.toList.take n ++ news ++ cur.toList.drop (n + news.length)).toArray))
    (hgrow : ∀ cap, ((v = .slice none 0 0 ∧ cap = 0 ∧ n = 0 ∧ xs = []) ∨ (∃ g, v = .slice (some ⟨g, 0, none⟩) n cap ∧ n ≤ cap ∧ ∀ j u, xs[j]? = some u → w.cell? ((⟨g, 0, none⟩ : Addr).add j) = some u)) → cap < n + news.length →
      op.run P w = .ok (.slice (some ⟨w.heap.size, 0, none⟩) (n + news.length) (grownCap w (n + news.length) cap e))
        (w.drew.alloc (.cells (xs.toArray ++ news.toArray ++ Builtin.zeroCells z.cells (grownCap w (n + news.length) cap e - (n + news.length))) e))) :
    ∃ ao cap w', op.run P w = .ok (.slice ao (n + news.length) cap) w' ∧ w'.ownsRow base e 1 (.slice ao (n + news.length) cap) (n + news.length) (xs ++ news) ∧ w.grownBy w' v.ownBlock ∧
      (∀ k, k < w.heap.size → Value.ownBlock (.slice ao (n + news.length) cap) = some k → v.ownBlock = some k) := by
  have hxl : xs.length = n := by simpa using hown.1
  have hlen : (xs ++ news).length = (n + news.length) * 1 := by rw [List.length_append, hxl, Nat.mul_one]
  have grown : ∀ (old : Nat), old < n + news.length → ∀ (row : Option Nat),
      (w.drew.alloc (.cells (xs.toArray ++ news.toArray ++ Builtin.zeroCells z.cells (grownCap w (n + news.length) old e - (n + news.length))) e)).ownsRow base e 1
        (.slice (some ⟨w.heap.size, 0, none⟩) (n + news.length) (grownCap w (n + news.length) old e)) (n + news.length) (xs ++ news) ∧
      w.grownBy (w.drew.alloc (.cells (xs.toArray ++ news.toArray ++ Builtin.zeroCells z.cells (grownCap w (n + news.length) old e - (n + news.length))) e)) row := by
    intro old ho row
    have hge := grownCap_ge w (n + news.length) old e
    have hcm : grownCap w (n + news.length) old e ≤ maxLen := grownCap_le_maxLen w (n + news.length) old e h63
    refine ⟨⟨hlen, .inr ⟨w.heap.size, _, _, rfl, hbase, heap_alloc_new w.drew _, hge, hcm, ?_, ?_⟩⟩, ⟨rfl, rfl, rfl, by simp, fun k hk _ => Below.heap_alloc w.drew _ k hk⟩⟩
    · simp only [Array.size_append, List.size_toArray, size_zeroCells, hzs, hxl]
      omega
    · simp only [Array.toList_append, List.append_assoc]
      rw [← List.append_assoc, ← hlen]
      exact List.take_left
  have fresh : ∀ (row : Option Nat) (m cap k : Nat), k < w.heap.size → Value.ownBlock (.slice (some ⟨w.heap.size, 0, none⟩) m cap) = some k → row = some k := by
    intro row m cap k hk h
    simp [Value.ownBlock] at h
    omega
  rcases hown.2 with ⟨rfl, rfl⟩ | ⟨g, cap, cur, rfl, hbg, hg, hnc, hcm, hcs, htake⟩
  · have hx : xs = [] := List.eq_nil_of_length_eq_zero hxl
    subst hx
    by_cases hm : news = []
    · subst hm
      exact ⟨none, 0, w, hnil rfl rfl, World.ownsRow_nil w base e 1, ⟨rfl, rfl, rfl, Nat.le_refl _, fun _ _ _ => rfl⟩, fun _ _ h => h⟩
    · have hpos : 0 < 0 + news.length := by have := List.length_pos_iff.2 hm; omega
      have hgr := grown 0 hpos (Value.ownBlock (.slice none 0 0))
      exact ⟨_, _, _, hgrow 0 (Or.inl ⟨rfl, rfl, rfl, rfl⟩) hpos, hgr.1, hgr.2, fresh _ _ _⟩
  · by_cases hr : n + news.length ≤ cap
    · have hcs' : cur.size = cap := by simpa using hcs
      refine ⟨_, _, _, hroom g cap cur rfl hg hr hcs', ⟨hlen, .inr ⟨g, cap, _, rfl, hbg, setRow_heap w g cur _ e _ hg, hr, hcm, ?_, ?_⟩⟩, ⟨rfl, rfl, rfl, by simp, fun k _ hk => setRow_other w g k _ (fun e => hk (by simp [Value.ownBlock, e]))⟩, fun _ _ h => h⟩
      · simp only [List.size_toArray, List.length_append, List.length_take, List.length_drop, Array.length_toList]
        omega
      · have ht' : cur.toList.take n = xs := by simpa using htake
        rw [ht', ← hlen]
        exact List.take_left
    · have holds : ∀ j u, xs[j]? = some u → w.cell? ((⟨g, 0, none⟩ : Addr).add j) = some u := hown.cells (g := g) rfl
      have hgr := grown cap (by omega) (Value.ownBlock (.slice (some ⟨g, 0, none⟩) n cap))
      exact ⟨_, _, _, hgrow cap (Or.inr ⟨g, rfl, hnc, holds⟩) (by omega), hgr.1, hgr.2, fresh _ _ _⟩

/-- a text's bytes -/
theorem append_text (base : Nat) (t u ty e : TypeId) (i : TypeInfo) (ht : P.underlying t = some (.slice e)) (hu : P.underlying u = some .string) (hi : P.info? e = some i) (hz : i.zero = some (.int .u8 0))
    (hsize : i.size = 1) (hby : i.bytes = 1) (v : Value) (n : Nat) (xs : List Value) (hown : w.ownsRow base e 1 v n xs) (s : ByteArray)
    (h63 : n + s.size ≤ maxLen) (hbytes : n + s.size ≤ 140737488355328) (hbase : base ≤ w.heap.size) :
    ∃ ao cap w', (Builtin.append_ #[t, u] ty #[v, .string s]).run P w = .ok (.slice ao (n + s.size) cap) w' ∧ w'.ownsRow base e 1 (.slice ao (n + s.size) cap) (n + s.size) (xs ++ Lib.strCells s) ∧ w.grownBy w' v.ownBlock ∧
      (∀ k, k < w.heap.size → Value.ownBlock (.slice ao (n + s.size) cap) = some k → v.ownBlock = some k) := by
  have hsmall : n + s.size ≤ 9223372036854775807 := by simp only [maxLen] at h63; omega
  have hxl : xs.length = n := by simpa using hown.1
  have h := own_of_arms (P := P) w base e (.int .u8 0) rfl v n xs (Lib.strCells s) (Builtin.append_ #[t, u] ty #[v, .string s]) hown (by rw [Lib.strCells_length]; exact h63) hbase
  rw [Lib.strCells_length] at h
  refine h ?_ ?_ ?_
  · rintro rfl hm
    have hm' : s.size = 0 := by rw [← Lib.strCells_length, hm]; rfl
    have hf := Lib.run_firstCells_string (P := P) w 1 s
    rw [hm'] at hf
    simp [Builtin.append_, run_underlying ht, run_underlying hu, sizeOf, typeInfo, hi, hsize, Builtin.lenOf, hm', hf]
  · rintro g cap cur rfl hg hroom hcs
    exact Lib.run_append_room_string (P := P) w t u ty e i ht hu hi hsize g n cap cur hg s hroom (by omega)
  · rintro cap (⟨rfl, rfl, rfl, rfl⟩ | ⟨g, rfl, hnc, holds⟩) hlt
    · have hr := run_append_nil_string (P := P) w t u ty e i (.int .u8 0) ht hu hi hz s (by omega) (by omega) (by rw [hby]; omega)
      have e1 : (s.data.map fun b => Value.int .u8 b.toNat) = (Lib.strCells s).toArray := by
        apply Array.ext'
        simp [Lib.strCells]
      rw [e1] at hr
      simpa using hr
    · exact Lib.run_append_grow_string (P := P) w t u ty e i (.int .u8 0) ht hu hi hz ⟨g, 0, none⟩ n cap xs (by rw [hsize]; simpa using hxl) holds s (by omega) (by omega) (by rw [hby]; exact growslice_fits (by omega) (by omega))

/-- so many noughts -/
def noughts (k : Nat) : List Value := List.replicate k (.int .u8 0)
theorem noughts_len (k : Nat) : (noughts k).length = k := by simp [noughts]
theorem noughts_one (k : Nat) : ∀ u ∈ noughts k, u.oneCell' = true := by
  intro u hu
  rw [List.eq_of_mem_replicate hu]
  rfl
theorem zeroCells_u8 (k : Nat) : Builtin.zeroCells (Value.int .u8 0).cells k = (noughts k).toArray := by
  apply Array.ext'
  refine List.ext_getElem? fun j => ?_
  unfold Builtin.zeroCells noughts
  by_cases h : j < k
  · simp [Value.cells, h, Nat.mod_one]
  · simp [Value.cells, h]
theorem append_zeros (base : Nat) (t u ty e : TypeId) (i : TypeInfo) (kd : IntKind) (ht : P.underlying t = some (.slice e)) (hu : P.underlying u = some (.int kd)) (hi : P.info? e = some i) (hz : i.zero = some (.int .u8 0))
    (hsize : i.size = 1) (hby : i.bytes = 1) (v : Value) (n : Nat) (xs : List Value) (hown : w.ownsRow base e 1 v n xs) (k : Nat) (hk : k < 1000000000)
    (h63 : n + k ≤ maxLen) (hbytes : n + k ≤ 140737488355328) (hbase : base ≤ w.heap.size) :
    ∃ ao cap w', (Builtin.append_ #[t, u] ty #[v, .int .i64 k]).run P w = .ok (.slice ao (n + k) cap) w' ∧ w'.ownsRow base e 1 (.slice ao (n + k) cap) (n + k) (xs ++ noughts k) ∧ w.grownBy w' v.ownBlock ∧
      (∀ j, j < w.heap.size → Value.ownBlock (.slice ao (n + k) cap) = some j → v.ownBlock = some j) := by
  have hsmall : n + k ≤ 9223372036854775807 := by simp only [maxLen] at h63; omega
  have hxl : xs.length = n := by simpa using hown.1
  have hw : IntKind.i64.wrap (k : Int) = (k : Int) := IntWalk.i64_in _ (by omega)
  have hw0 : IntKind.i64.wrap 0 = 0 := by decide
  have hneg : ¬ ((k : Int) < 0) := by omega
  have hbig : ¬ ((281474976710656 : Int) < (k : Int)) := by omega
  have h := own_of_arms (P := P) w base e (.int .u8 0) rfl v n xs (noughts k) (Builtin.append_ #[t, u] ty #[v, .int .i64 k]) hown (by rw [noughts_len]; exact h63) hbase
  rw [noughts_len] at h
  refine h ?_ ?_ ?_ <;> clear h
  · rintro rfl hm
    have hm' : k = 0 := by rw [← noughts_len k, hm]; rfl
    subst hm'
    simp [Builtin.append_, run_underlying ht, run_underlying hu, sizeOf, typeInfo, hi, asInt, asIntOf, hw0]
  · rintro g cap cur rfl hg hroom hcs
    have hst := run_storeCells_at P g n e (noughts k) 0 cur w hg (by simp [noughts_len]; omega) (noughts_one k)
    simp only [Nat.add_zero, noughts_len] at hst
    by_cases h0 : k = 0
    · subst h0
      have hr : n ≤ cap := by omega
      simp [noughts] at hst
      simp [Builtin.append_, run_underlying ht, run_underlying hu, sizeOf, typeInfo, hi, hsize, asInt, asIntOf, hw0, hr, Addr.add_lit, hst, noughts]
    · simp [Builtin.append_, run_underlying ht, run_underlying hu, sizeOf, typeInfo, zeroValue, hi, hz, hsize, hby, asInt, asIntOf, hw, hneg, hbig, h0, hroom, zeroCells_u8, Addr.add_lit, hst]
  · rintro cap (⟨rfl, rfl, rfl, rfl⟩ | ⟨g, rfl, hnc, holds⟩) hlt
    · have hn0 : k ≠ 0 := by omega
      have h63' : ¬ ((9223372036854775807 : Int) < (k : Int)) := by omega
      have h48' : ¬ (281474976710656 < Builtin.nextslicecap k 0) := by have := growslice_fits (need := k) (old := 0) (bytes := 1) (by omega) (by omega); omega
      have hf : ∀ w' : World, (Builtin.firstCells 1 0 (.slice none 0 0)).run P w' = .ok #[] w' := fun _ => rfl
      simp [Builtin.append_, run_underlying ht, run_underlying hu, sizeOf, typeInfo, zeroValue, hi, hz, hsize, hby, asInt, asIntOf, hw, hneg, hbig, hn0, h63', h48', hf, zeroCells_u8, Question.forced, newRow, grownCap]
    · have hn : ¬ (n + k ≤ cap) := by omega
      have h63' : ¬ (9223372036854775807 < ((n : Int) + (k : Int))) := by omega
      have h48' : ¬ (281474976710656 < Builtin.nextslicecap (n + k) cap) := by have := growslice_fits (need := n + k) (old := cap) (bytes := 1) (by omega) (by omega); omega
      have hfo := run_firstCells_some (P := P) w.drew i.size n ⟨g, 0, none⟩ n cap xs (by rw [hsize]; simpa using hxl) (by simpa using holds)
      rw [hsize] at hfo
      have h0 : k ≠ 0 := by omega
      simp [Builtin.append_, run_underlying ht, run_underlying hu, sizeOf, typeInfo, zeroValue, hi, hz, hsize, hby, asInt, asIntOf, hw, hneg, hbig, hn, h63', h48', hfo, h0, zeroCells_u8, Question.forced, newRow, grownCap]
end
end Go.Proofs.YtbohpffigmllkaaGreatDoor

/-
  The calls of an Out, for every text: contracts by walking their text.
-/
namespace Go.Proofs.YtbohpffigmllkaaGreatDoor
open Go.RowKit

def cellsOf (l : List UInt8) : List Value := l.map fun b => .int .u8 b.toNat
/-- an Out at block o, its row among the blocks from B on -/
structure OutAt (B o : Nat) (v : Value) (l : List UInt8) (w : World) : Prop where
  lt : o < B
  base : B ≤ w.heap.size
  cell : w.cell? ⟨o, 0, none⟩ = some v
  frozen : w.frozen? ⟨o, 0, none⟩ = false
  row : w.ownsRow B 5 1 v l.length (cellsOf l)
/-- the blocks of an Out -/
def outs (o : Nat) (v : Value) : Nat → Prop := fun k => k = o ∨ v.ownBlock = some k
/-- what a call of an Out leaves -/
def OutTo (B o : Nat) (v : Value) (l : List UInt8) (w w' : World) : Prop :=
  ∃ v', OutAt B o v' l w' ∧ (∀ k, k < w.heap.size → v'.ownBlock = some k → v.ownBlock = some k) ∧ Grew (outs o v) w w'

/-- a number's bytes, the highest first -/
def enc (a n : Nat) : List UInt8 := (List.range n).map fun i => UInt8.ofNat (a / 256 ^ (n - 1 - i))

theorem enc_len (a n : Nat) : (enc a n).length = n := by simp [enc]
theorem enc_take (a n k : Nat) (h : k < n) : (enc a n).take (k + 1) = (enc a n).take k ++ [UInt8.ofNat (a / 256 ^ (n - 1 - k))] := by
  rw [List.take_succ_eq_append_getElem (by rw [enc_len]; exact h)]
  simp [enc]
theorem enc_byte (a n k : Nat) (h : k < n) : IntKind.u8.wrap ((a : Int) / 2 ^ (8 * ((n : Int) - 1 - k)).toNat) = ((UInt8.ofNat (a / 256 ^ (n - 1 - k))).toNat : Int) := by
  have e : (8 * ((n : Int) - 1 - k)).toNat = 8 * (n - 1 - k) := by omega
  have e2 : (2 : Int) ^ (8 * (n - 1 - k)) = ((256 ^ (n - 1 - k) : Nat) : Int) := by
    rw [show (256 : Nat) = 2 ^ 8 from rfl, ← Nat.pow_mul]
    simp
  rw [e, e2, UInt8.toNat_ofNat', ← Int.natCast_ediv]
  generalize a / 256 ^ (n - 1 - k) = x
  simp only [IntKind.wrap, IntKind.bits, IntKind.signed]
  simp
theorem info8p : (Tryz.prog.info? 5).map (fun i => (i.zero, i.size, i.bytes)) = some (some (.int .u8 0), 1, 1) := by kernel_rfl
theorem news_one (w : World) (a : Value) (t : TypeId) : ∀ j u, [a][j]? = some u → (w.alloc (.cells #[a] t)).drew.cell? ((⟨w.heap.size, 0, none⟩ : Addr).add j) = some u := by
  intro j u h
  have e : (⟨w.heap.size, 0, none⟩ : Addr).add j = ⟨w.heap.size, j, none⟩ := by unfold Addr.add; split <;> simp_all
  rw [e]
  show (w.alloc (.cells #[a] t)).cell? ⟨w.heap.size, j, none⟩ = some u
  rw [World.cell?_alloc_new]
  simpa using h
theorem cellsOf_append (l k : List UInt8) : cellsOf (l ++ k) = cellsOf l ++ cellsOf k := by simp [cellsOf]
theorem cellsOf_len (l : List UInt8) : (cellsOf l).length = l.length := by simp [cellsOf]
theorem OutAt.own {B o : Nat} {v : Value} {l : List UInt8} {w : World} (h : OutAt B o v l w) : ∀ k, v.ownBlock = some k → B ≤ k := by
  intro k hk
  rcases h.row.2 with ⟨rfl, _⟩ | ⟨g', cap', cur, rfl, hb, _⟩
  · cases hk
  · simp [Value.ownBlock] at hk; omega
theorem out_cells {B o : Nat} {v1 : Value} {l : List UInt8} {wr W w1 : World} (h1 : OutAt B o v1 l wr) (hW : Grew (fun _ => False) wr W) (hg : W.grownBy w1 v1.ownBlock) :
    w1.cell? ⟨o, 0, none⟩ = some v1 ∧ w1.frozen? ⟨o, 0, none⟩ = false := by
  have hlt := h1.lt
  have hbs := h1.base
  have hws := hW.size
  constructor
  · rw [hg.cell_far ⟨o, 0, none⟩ (by show o < _; omega) (fun e => by have := h1.own o e.symm; omega), hW.cell (by show o < _; omega) (fun h => h)]
    exact h1.cell
  · rw [hg.frozen_far ⟨o, 0, none⟩ (by show o < _; omega) (fun e => by have := h1.own o e.symm; omega), hW.frozen (by show o < _; omega) (fun h => h)]
    exact h1.frozen
/-- one append to an Out's row, stored back -/
theorem out_step {B o : Nat} {v v1 : Value} {l k : List UInt8} {w wr W w1 : World} {g cap n : Nat} (h1 : OutAt B o v1 l wr) (h2 : ∀ k, k < w.heap.size → v1.ownBlock = some k → v.ownBlock = some k) (h3 : Grew (outs o v) w wr)
    (hW : Grew (fun _ => False) wr W) (hs : w1.ownsRow B 5 1 (.slice (some ⟨g, 0, none⟩) n cap) n (cellsOf l ++ cellsOf k)) (hn : n = l.length + k.length) (hg : W.grownBy w1 v1.ownBlock) (hat : v1.ownBlock = some g ∨ wr.heap.size ≤ g) :
    OutTo B o v (l ++ k) w (w1.setCell ⟨o, 0, none⟩ (.slice (some ⟨g, 0, none⟩) n cap)) := by
  have hlt := h1.lt
  have hbs := h1.base
  have hws := hW.size
  have hgs := hg.size
  obtain ⟨c1, c2⟩ := out_cells h1 hW hg
  refine ⟨_, ⟨hlt, by simp [World.setCell]; omega, World.cell?_setCell_same _ _ _ c1, by rw [World.frozen?_setCell]; exact c2, ?_⟩, ?_, ?_⟩
  · rw [List.length_append, ← hn, cellsOf_append]
    exact ownsRow_setCell_below hs hlt _
  · intro k hk e
    simp [Value.ownBlock] at e
    subst e
    have := h3.size
    rcases hat with h | h
    · exact h2 _ hk h
    · omega
  · refine ((h3.step hW fun _ _ x => x.elim).grown hg ?_).setCell _ _ fun _ => Or.inl rfl
    intro k hk e
    exact Or.inr (h2 k hk e)

set_option maxHeartbeats 1000000 in
theorem outNum_any (B o : Nat) (v : Value) (l : List UInt8) (a : Nat) (n : Int) (w : World) (h : OutAt B o v l w) (hl : l.length < 1000000) :
    Calls Tryz.prog 124 #[.pointer (some ⟨o, 0, none⟩), .int .u64 a, .int .i64 n] w fun e w' => e = .returned (.pointer (some ⟨o, 0, none⟩)) ∧ OutTo B o v (l ++ enc a (wid n)) w w' := by
  have hb := wid_bd n
  have HW := Lib.hid (width_any n w)
  generalize wid n = m at *
  have HA := Lib.hid h
  clear h
  obtain ⟨i0, hi, hz0, hz1, hz2⟩ := info_parts info8p
  have HI0 := Lib.hid hi
  have HI1 := Lib.hid hz0
  have HI2 := Lib.hid hz1
  have HI3 := Lib.hid hz2
  clear hi hz0 hz1 hz2
  go_enter Tryz.func124, Tryz.ntmps124
  go_wp2_with fail
  refine HW.out.mono ?_
  rintro e w' ⟨rfl, rfl⟩
  go_wp2_with fail
  go_loopw [11] (fun i wx => ∃ k : Nat, k ≤ m ∧ i = .int .i64 k ∧ OutTo B o v (l ++ (enc a m).take k) w wx) (fun i _ => m - (intOf i).toNat)
  case atStart => exact ⟨0, by omega, rfl, v, by simpa using HA.out, fun _ _ h => h, Grew.refl _⟩
  case round =>
    obtain ⟨k, hk, rfl, hT⟩ := hrel
    by_cases hlt : k < m
    · obtain ⟨v1, h1, h2, h3⟩ := hT
      have hcell := h1.cell
      have hfro := h1.frozen
      have e1 : IntKind.i64.wrap ((m : Int) - 1) = (m : Int) - 1 := IntWalk.i64_in _ (by omega)
      have e2 : IntKind.i64.wrap ((m : Int) - 1 - k) = (m : Int) - 1 - k := IntWalk.i64_in _ (by omega)
      have e3 : IntKind.i64.wrap (8 * ((m : Int) - 1 - k)) = 8 * ((m : Int) - 1 - k) := IntWalk.i64_in _ (by omega)
      have e4 := enc_byte a m k hlt
      have hle : (l ++ (enc a m).take k).length < 1000100 := by rw [List.length_append, List.length_take, enc_len]; omega
      have HT : Hid (l ++ (enc a m).take (k + 1) = (l ++ (enc a m).take k) ++ [UInt8.ofNat (a / 256 ^ (m - 1 - k))]) := Lib.hid (by rw [enc_take a m k hlt, List.append_assoc])
      generalize UInt8.ofNat (a / 256 ^ (m - 1 - k)) = b at e4 HT
      generalize hL : l ++ (enc a m).take k = L at *
      have HL := Lib.hid hL
      clear hL
      have H1 := Lib.hid h1
      have H2 := Lib.hid h2
      have H3 := Lib.hid h3
      have HO : Hid (((wr.alloc (.cells #[.int .u8 (b.toNat : Int)] 5)).drew).ownsRow B 5 1 v1 L.length (cellsOf L)) := Lib.hid (h1.row.alloc _)
      have HG : Hid (Grew (fun _ => False) wr ((wr.alloc (.cells #[.int .u8 (b.toNat : Int)] 5)).drew)) := Lib.hid (((Grew.refl wr).alloc _).drew)
      have HN : Hid (∀ j u, [Value.int .u8 (b.toNat : Int)][j]? = some u → ((wr.alloc (.cells #[.int .u8 (b.toNat : Int)] 5)).drew).cell? ((⟨wr.heap.size, 0, none⟩ : Addr).add j) = some u) := Lib.hid (news_one wr _ _)
      have HC : Hid (∀ u ∈ [Value.int .u8 (b.toNat : Int)], u.oneCell' = true) := Lib.hid (by intro u hu; simp at hu; subst hu; rfl)
      have HB1 : Hid (L.length + 1 ≤ maxLen) := Lib.hid (by unfold maxLen; omega)
      have HB2 : Hid ((L.length + 1) * 1 ≤ 140737488355328) := Lib.hid (by omega)
      have HB3 : Hid (B ≤ ((wr.alloc (.cells #[.int .u8 (b.toNat : Int)] 5)).drew).heap.size) := Lib.hid (Nat.le_trans h1.base HG.out.size)
      have hcell' : (wr.alloc (.cells #[.int .u8 (b.toNat : Int)] 5)).cell? ⟨o, 0, none⟩ = some v1 := by rw [World.cell?_alloc_past (hn := by have := h1.lt; have := h1.base; omega), hcell]
      clear h1 h2 h3 hle
      go_wp2_with fail
      go_region_law ((refine step_append_lies _ rfl (.tmp 18) (.tmp 27) 81 rfl B 5 i0 (.int .u8 0) 1 1 Tryz.underlying81 HI0.out HI1.out HI2.out HI3.out rfl (by decide) v1 L.length (cellsOf L) rfl HO.out ⟨wr.heap.size, 0, none⟩ 1 1 [.int .u8 (b.toNat : Int)] rfl rfl HN.out HC.out (by decide) HB1.out HB2.out HB3.out _ rfl ?_); (intro g cap w1 hs hg hat hlt'); (obtain ⟨c1, c2⟩ := out_cells H1.out HG.out hg); (have HS := Lib.hid hs); (have HGr := Lib.hid hg); (have HAt := Lib.hid hat); (clear hs hg hat hlt'))
      all_goals
        go_wp2_with fail
        go_roundw
        case rel =>
          refine ⟨k + 1, by omega, by go_num, ?_⟩
          rw [HT.out]
          exact out_step H1.out H2.out H3.out HG.out HS.out rfl HGr.out (HAt.out.imp id fun e => by rw [e]; exact HG.out.size)
        case measure => simp [intOf]; omega
    · have HE : Hid ((enc a m).take k = enc a m) := Lib.hid (List.take_of_length_le (by rw [enc_len]; omega))
      have HT := Lib.hid hT
      clear hT
      go_wp2_with fail
      go_ret
      exact ⟨rfl, by rw [← HE.out]; exact HT.out⟩
end Go.Proofs.YtbohpffigmllkaaGreatDoor

/-
  The other calls of an Out, for every text: contracts by walking their text.
-/
namespace Go.Proofs.YtbohpffigmllkaaGreatDoor
open Go.RowKit

section
variable {P : Program} (w : World)
theorem wp_append_run {o : Oper} {a : Act} {K : Act → World → Prop} {Q : Exit → Act → World → Prop} (s x : Operand) (t u : TypeId)
    (ho : o.op = .call { callee := .builtin .append, args := #[s, x], argTypes := #[t, u] }) (v y : Value) (hs : a.eval s = v) (hx : a.eval x = y)
    (n : Nat) (R : Value → World → Prop) (hr : ∃ ao cap w', (Builtin.append_ #[t, u] o.type #[v, y]).run P w = .ok (.slice ao n cap) w' ∧ R (.slice ao n cap) w')
    (h : ∀ ao cap w', R (.slice ao n cap) w' → K (a.put o.dst (.slice ao n cap)) w') : o.wp P a w K Q := by
  obtain ⟨ao, cap, w', hr, h2⟩ := hr
  unfold Oper.wp execOp
  simp only [ho, resolve, invoke, builtin, Sem.run_bind, Sem.run_pure, Result.andThen_ok, List.map_toArray, List.map_cons, List.map_nil, hs, hx, hr]
  exact h ao cap w' h2
theorem wpList_append_run {ops : Array Oper} {rest : List Oper} {o : Oper} {a : Act} {Q : Exit → Act → World → Prop} (hgd : o.guard = none) (s x : Operand) (t u : TypeId)
    (ho : o.op = .call { callee := .builtin .append, args := #[s, x], argTypes := #[t, u] }) (v y : Value) (hs : a.eval s = v) (hx : a.eval x = y)
    (n : Nat) (R : Value → World → Prop) (hr : ∃ ao cap w', (Builtin.append_ #[t, u] o.type #[v, y]).run P w = .ok (.slice ao n cap) w' ∧ R (.slice ao n cap) w')
    (h : ∀ ao cap w', R (.slice ao n cap) w' → wpList P ops Q rest (a.put o.dst (.slice ao n cap)) w') : wpList P ops Q (o :: rest) a w :=
  wpList_plain hgd fun _ hK => wp_append_run w s x t u ho v y hs hx n R hr fun ao cap w' h2 => hK _ _ (h ao cap w' h2)
theorem step_append_run {ops : Array Oper} {o : Oper} {a : Act} {K : Act → World → Prop} {Q : Exit → Act → World → Prop} {E : Prop} (hgd : o.guard = none) (s x : Operand) (t u : TypeId)
    (ho : o.op = .call { callee := .builtin .append, args := #[s, x], argTypes := #[t, u] }) (v y : Value) (hs : a.eval s = v) (hx : a.eval x = y)
    (n : Nat) (R : Value → World → Prop) (hr : ∃ ao cap w', (Builtin.append_ #[t, u] o.type #[v, y]).run P w = .ok (.slice ao n cap) w' ∧ R (.slice ao n cap) w')
    (h : ∀ ao cap w', R (.slice ao n cap) w' → K (a.put o.dst (.slice ao n cap)) w') :
    if Region.wanted o (yielded ops a.tmps) = true then Oper.wp P o a w K Q else E := by
  have hw : Region.wanted o (yielded ops a.tmps) = true := by simp [Region.wanted, hgd]
  rw [if_pos hw]
  exact wp_append_run w s x t u ho v y hs hx n R hr h
end

theorem out_step' {B o : Nat} {v v1 v' : Value} {l k : List UInt8} {w wr W w1 : World} {n : Nat} (h1 : OutAt B o v1 l wr) (h2 : ∀ k, k < w.heap.size → v1.ownBlock = some k → v.ownBlock = some k) (h3 : Grew (outs o v) w wr)
    (hW : Grew (fun _ => False) wr W) (hs : w1.ownsRow B 5 1 v' n (cellsOf l ++ cellsOf k)) (hn : n = l.length + k.length) (hg : W.grownBy w1 v1.ownBlock) (hat : ∀ j, j < W.heap.size → v'.ownBlock = some j → v1.ownBlock = some j) :
    OutTo B o v (l ++ k) w (w1.setCell ⟨o, 0, none⟩ v') := by
  have hlt := h1.lt
  have hbs := h1.base
  have hws := hW.size
  have hgs := hg.size
  obtain ⟨c1, c2⟩ := out_cells h1 hW hg
  refine ⟨_, ⟨hlt, by simp [World.setCell]; omega, World.cell?_setCell_same _ _ _ c1, by rw [World.frozen?_setCell]; exact c2, ?_⟩, ?_, ?_⟩
  · rw [List.length_append, ← hn, cellsOf_append]
    exact ownsRow_setCell_below hs hlt _
  · intro k hk e
    have := h3.size
    exact h2 _ hk (hat k (by omega) e)
  · refine ((h3.step hW fun _ _ x => x.elim).grown hg ?_).setCell _ _ fun _ => Or.inl rfl
    intro k hk e
    exact Or.inr (h2 k hk e)
theorem OutAt.form {B o : Nat} {v : Value} {l : List UInt8} {w : World} (h : OutAt B o v l w) : ∃ ao cap, v = .slice ao l.length cap := by
  rcases h.row.2 with ⟨rfl, h0⟩ | ⟨g', cap', cur, rfl, hb, _⟩
  · exact ⟨none, 0, by rw [h0]⟩
  · exact ⟨_, _, rfl⟩

/-- what an append to an Out's row leaves -/
def AppTo (B : Nat) (v : Value) (l k : List UInt8) (w : World) (v' : Value) (w' : World) : Prop :=
  w'.ownsRow B 5 1 v' (l.length + k.length) (cellsOf l ++ cellsOf k) ∧ w.grownBy w' v.ownBlock ∧ (∀ j, j < w.heap.size → v'.ownBlock = some j → v.ownBlock = some j)
theorem app_text {B o : Nat} {v : Value} {l : List UInt8} {w : World} (ty : TypeId) (h : OutAt B o v l w) (s : ByteArray) (hl : l.length + s.size < 1000000000) :
    ∃ ao cap w', (Builtin.append_ #[81, 9] ty #[v, .string s]).run Tryz.prog w = .ok (.slice ao (l.length + s.size) cap) w' ∧ AppTo B v l s.data.toList w (.slice ao (l.length + s.size) cap) w' := by
  obtain ⟨i0, hi, hz0, hz1, hz2⟩ := info_parts info8p
  exact append_text (P := Tryz.prog) w B _ _ ty 5 i0 Tryz.underlying81 Tryz.underlying9 hi hz0 hz1 hz2 v l.length _ h.row s (by unfold maxLen; omega) (by omega) h.base
theorem cellsOf_zeros (k : Nat) : cellsOf (List.replicate k 0) = noughts k := by simp [cellsOf, noughts]
theorem app_zeros {B o : Nat} {v : Value} {l : List UInt8} {w W : World} (ty : TypeId) (h : OutAt B o v l w) (hW : W = w.drew) (k : Nat) (hl : l.length + k < 1000000000) :
    ∃ ao cap w', (Builtin.append_ #[81, 3] ty #[v, .int .i64 k]).run Tryz.prog W = .ok (.slice ao (l.length + k) cap) w' ∧ AppTo B v l (List.replicate k 0) W (.slice ao (l.length + k) cap) w' := by
  subst hW
  obtain ⟨i0, hi, hz0, hz1, hz2⟩ := info_parts info8p
  have := append_zeros (P := Tryz.prog) w.drew B _ _ ty 5 i0 .i64 Tryz.underlying81 Tryz.underlying3 hi hz0 hz1 hz2 v l.length _ h.row k (by omega) (by unfold maxLen; omega) (by omega) h.base
  unfold AppTo
  rw [cellsOf_zeros, List.length_replicate]
  exact this

set_option maxHeartbeats 1000000 in
theorem outText_any (B o : Nat) (v : Value) (l : List UInt8) (s : ByteArray) (w : World) (h : OutAt B o v l w) (hl : l.length + s.size < 1000000) :
    Calls Tryz.prog 71 #[.pointer (some ⟨o, 0, none⟩), .string s] w fun e w' => e = .returned (.pointer (some ⟨o, 0, none⟩)) ∧ OutTo B o v (l ++ s.data.toList) w w' := by
  have hcell := h.cell
  have HT := Lib.hid (app_text 81 h s (by omega))
  have H := Lib.hid h
  clear h
  go_enter Tryz.func71, Tryz.ntmps71
  go_wp2_with ((with_reducible refine wpList_append_run _ rfl (.tmp 9) (.tmp 10) 81 9 rfl v (.string s) rfl rfl (l.length + s.size) _ HT.out ?_); (rintro ao cap w1 ⟨hs, hg, hat⟩); (obtain ⟨c1, c2⟩ := out_cells H.out (Grew.refl _) hg); (have HS := Lib.hid hs); (have HG := Lib.hid hg); (have HA := Lib.hid hat); (clear hs hg hat))
  go_ret
  exact ⟨rfl, out_step' H.out (fun _ _ h => h) (Grew.refl _) (Grew.refl _) HS.out rfl HG.out HA.out⟩

theorem out_conv {B o : Nat} {v : Value} {l : List UInt8} {w : World} (h : OutAt B o v l w) :
    (convert 81 9 v).run Tryz.prog w = .ok (.string ⟨l.toArray⟩) w := by
  rcases h.row.2 with ⟨rfl, h0⟩ | ⟨g, cap, cur, rfl, hb, hr⟩
  · obtain rfl : l = [] := List.eq_nil_of_length_eq_zero h0
    kernel_rfl
  · refine run_convert_bytes_back w _ _ 5 _ cap l Tryz.underlying81 Tryz.underlying5 Tryz.underlying9 fun j hj => ?_
    refine h.row.cells (g := g) rfl j _ ?_
    simp [cellsOf, hj]
set_option maxHeartbeats 1000000 in
theorem outBytes_any (B o : Nat) (v : Value) (l : List UInt8) (w : World) (h : OutAt B o v l w) :
    Calls Tryz.prog 73 #[.pointer (some ⟨o, 0, none⟩)] w fun e w' => e = .returned (.string ⟨l.toArray⟩) ∧ w = w' := by
  have hcell := h.cell
  have hconv := out_conv h
  clear h
  go_enter Tryz.func73, Tryz.ntmps73
  go_wp2
  go_ret
  exact ⟨rfl, rfl⟩
set_option maxHeartbeats 1000000 in
theorem outFill_big (B o : Nat) (v : Value) (l : List UInt8) (n : Int) (w : World) (h : OutAt B o v l w) (hn : n < l.length) :
    Calls Tryz.prog 159 #[.pointer (some ⟨o, 0, none⟩), .int .i64 n] w fun e w' => e = failed 3 ∧ w = w' := by
  obtain ⟨ao, cap, rfl⟩ := h.form
  have hcell := h.cell
  clear h
  go_enter Tryz.func159, Tryz.ntmps159
  go_wp2_with fail
  refine (fail_any 3 _).mono ?_
  rintro e w' ⟨rfl, rfl⟩
  unfold failed
  go_wp2
  exact ⟨rfl, rfl, rfl⟩
set_option maxHeartbeats 1000000 in
theorem outFill_ok (B o : Nat) (v : Value) (l : List UInt8) (n : Int) (w : World) (h : OutAt B o v l w) (hn : l.length ≤ n) (hm : n < 1000000) :
    Calls Tryz.prog 159 #[.pointer (some ⟨o, 0, none⟩), .int .i64 n] w fun e w' => e = .returned (.pointer (some ⟨o, 0, none⟩)) ∧ OutTo B o v (l ++ List.replicate (n.toNat - l.length) 0) w w' := by
  obtain ⟨ao, cap, rfl⟩ := h.form
  have hcell := h.cell
  have HT := Lib.hid (app_zeros 81 h rfl (n.toNat - l.length) (by omega))
  have H := Lib.hid h
  have hge : ¬ n < l.length := by omega
  clear h
  have e1 : IntKind.i64.wrap (n - l.length) = ((n.toNat - l.length : Nat) : Int) := by rw [IntWalk.i64_in _ (by omega)]; omega
  generalize n.toNat - l.length = k at *
  go_enter Tryz.func159, Tryz.ntmps159
  go_wp2_with fail
  go_region_law ((refine step_append_run _ rfl (.tmp 17) (.tmp 24) 81 3 rfl (.slice ao l.length cap) (.int .i64 k) rfl rfl (l.length + k) _ HT.out ?_); (rintro ao1 cap1 w1 ⟨hs, hg, hat⟩); (obtain ⟨c1, c2⟩ := out_cells H.out (Grew.refl _).drew hg); (have HS := Lib.hid hs); (have HG := Lib.hid hg); (have HA := Lib.hid hat); (clear hs hg hat))
  all_goals
    go_wp2
    go_ret
    exact ⟨rfl, out_step' H.out (fun _ _ h => h) (Grew.refl _) (Grew.refl _).drew HS.out (by simp) HG.out HA.out⟩
end Go.Proofs.YtbohpffigmllkaaGreatDoor
