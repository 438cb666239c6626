/-
  The calls of an Out, for every text: contracts by walking their text.
-/
import Derived.Test.YtfmhcomebjggoaaDoorPackIn
import Derived.Test.YtfmhcomebjggoaaDoorGrew
import Derived.Deep.RegionLaw
import Derived.Deep.DeepCutAuto
import Derived.Laws.ShiftsVarLaws
import Derived.Deep.LoopGhost
namespace Go.Proofs.YtfmhcomebjggoaaDoor
open Go.RowKit

def cellsOf (l : List UInt8) : List Value := l.map fun b => .int .u8 b.toNat
/-- an Out at block o, its row among the blocks from B on -/
structure OutAt (B o : Nat) (v : Value) (l : List UInt8) (w : World) : Prop where
  lt : o < B
  base : B ≤ w.heap.size
  cell : w.cell? ⟨o, 0, none⟩ = some v
  frozen : w.frozen? ⟨o, 0, none⟩ = false
  row : w.ownsRow B 5 1 v l.length (cellsOf l)
/-- the blocks of an Out -/
def outs (o : Nat) (v : Value) : Nat → Prop := fun k => k = o ∨ v.ownBlock = some k
/-- what a call of an Out leaves -/
def OutTo (B o : Nat) (v : Value) (l : List UInt8) (w w' : World) : Prop :=
  ∃ v', OutAt B o v' l w' ∧ (∀ k, k < w.heap.size → v'.ownBlock = some k → v.ownBlock = some k) ∧ Grew (outs o v) w w'

/-- a number's bytes, the highest first -/
def enc (a n : Nat) : List UInt8 := (List.range n).map fun i => UInt8.ofNat (a / 256 ^ (n - 1 - i))

theorem enc_len (a n : Nat) : (enc a n).length = n := by simp [enc]
theorem enc_take (a n k : Nat) (h : k < n) : (enc a n).take (k + 1) = (enc a n).take k ++ [UInt8.ofNat (a / 256 ^ (n - 1 - k))] := by
  rw [List.take_succ_eq_append_getElem (by rw [enc_len]; exact h)]
  simp [enc]
theorem enc_byte (a n k : Nat) (h : k < n) : IntKind.u8.wrap ((a : Int) / 2 ^ (8 * ((n : Int) - 1 - k)).toNat) = ((UInt8.ofNat (a / 256 ^ (n - 1 - k))).toNat : Int) := by
  have e : (8 * ((n : Int) - 1 - k)).toNat = 8 * (n - 1 - k) := by omega
  have e2 : (2 : Int) ^ (8 * (n - 1 - k)) = ((256 ^ (n - 1 - k) : Nat) : Int) := by
    rw [show (256 : Nat) = 2 ^ 8 from rfl, ← Nat.pow_mul]
    simp
  rw [e, e2, UInt8.toNat_ofNat', ← Int.natCast_ediv]
  generalize a / 256 ^ (n - 1 - k) = x
  simp only [IntKind.wrap, IntKind.bits, IntKind.signed]
  simp
theorem info8p : (Tryd.prog.info? 5).map (fun i => (i.zero, i.size, i.bytes)) = some (some (.int .u8 0), 1, 1) := by kernel_rfl
theorem news_onep (w : World) (a : Value) (t : TypeId) : ∀ j u, [a][j]? = some u → (w.alloc (.cells #[a] t)).drew.cell? ((⟨w.heap.size, 0, none⟩ : Addr).add j) = some u := by
  intro j u h
  have e : (⟨w.heap.size, 0, none⟩ : Addr).add j = ⟨w.heap.size, j, none⟩ := by unfold Addr.add; split <;> simp_all
  rw [e]
  show (w.alloc (.cells #[a] t)).cell? ⟨w.heap.size, j, none⟩ = some u
  rw [World.cell?_alloc_new]
  simpa using h
theorem cellsOf_append (l k : List UInt8) : cellsOf (l ++ k) = cellsOf l ++ cellsOf k := by simp [cellsOf]
theorem cellsOf_len (l : List UInt8) : (cellsOf l).length = l.length := by simp [cellsOf]
theorem OutAt.own {B o : Nat} {v : Value} {l : List UInt8} {w : World} (h : OutAt B o v l w) : ∀ k, v.ownBlock = some k → B ≤ k := by
  intro k hk
  rcases h.row.2 with ⟨rfl, _⟩ | ⟨g', cap', cur, rfl, hb, _⟩
  · cases hk
  · simp [Value.ownBlock] at hk; omega
theorem out_cells {B o : Nat} {v1 : Value} {l : List UInt8} {wr W w1 : World} (h1 : OutAt B o v1 l wr) (hW : Grew (fun _ => False) wr W) (hg : W.grownBy w1 v1.ownBlock) :
    w1.cell? ⟨o, 0, none⟩ = some v1 ∧ w1.frozen? ⟨o, 0, none⟩ = false := by
  have hlt := h1.lt
  have hbs := h1.base
  have hws := hW.size
  constructor
  · rw [hg.cell_far ⟨o, 0, none⟩ (by show o < _; omega) (fun e => by have := h1.own o e.symm; omega), hW.cell (by show o < _; omega) (fun h => h)]
    exact h1.cell
  · rw [hg.frozen_far ⟨o, 0, none⟩ (by show o < _; omega) (fun e => by have := h1.own o e.symm; omega), hW.frozen (by show o < _; omega) (fun h => h)]
    exact h1.frozen
/-- one append to an Out's row, stored back -/
theorem out_step {B o : Nat} {v v1 : Value} {l k : List UInt8} {w wr W w1 : World} {g cap n : Nat} (h1 : OutAt B o v1 l wr) (h2 : ∀ k, k < w.heap.size → v1.ownBlock = some k → v.ownBlock = some k) (h3 : Grew (outs o v) w wr)
    (hW : Grew (fun _ => False) wr W) (hs : w1.ownsRow B 5 1 (.slice (some ⟨g, 0, none⟩) n cap) n (cellsOf l ++ cellsOf k)) (hn : n = l.length + k.length) (hg : W.grownBy w1 v1.ownBlock) (hat : v1.ownBlock = some g ∨ wr.heap.size ≤ g) :
    OutTo B o v (l ++ k) w (w1.setCell ⟨o, 0, none⟩ (.slice (some ⟨g, 0, none⟩) n cap)) := by
  have hlt := h1.lt
  have hbs := h1.base
  have hws := hW.size
  have hgs := hg.size
  obtain ⟨c1, c2⟩ := out_cells h1 hW hg
  refine ⟨_, ⟨hlt, by simp [World.setCell]; omega, World.cell?_setCell_same _ _ _ c1, by rw [World.frozen?_setCell]; exact c2, ?_⟩, ?_, ?_⟩
  · rw [List.length_append, ← hn, cellsOf_append]
    exact ownsRow_setCell_below hs hlt _
  · intro k hk e
    simp [Value.ownBlock] at e
    subst e
    have := h3.size
    rcases hat with h | h
    · exact h2 _ hk h
    · omega
  · refine ((h3.step hW fun _ _ x => x.elim).grown hg ?_).setCell _ _ fun _ => Or.inl rfl
    intro k hk e
    exact Or.inr (h2 k hk e)

set_option maxHeartbeats 1000000 in
theorem outNum_any (B o : Nat) (v : Value) (l : List UInt8) (a : Nat) (n : Int) (w : World) (h : OutAt B o v l w) (hl : l.length < 1000000) :
    Calls Tryd.prog 35 #[.pointer (some ⟨o, 0, none⟩), .int .u64 a, .int .i64 n] w fun e w' => e = .returned (.pointer (some ⟨o, 0, none⟩)) ∧ OutTo B o v (l ++ enc a (wid n)) w w' := by
  have hb := wid_bd n
  have HW := Lib.hid (width_any n w)
  generalize wid n = m at *
  have HA := Lib.hid h
  clear h
  obtain ⟨i0, hi, hz0, hz1, hz2⟩ := info_parts info8p
  have HI0 := Lib.hid hi
  have HI1 := Lib.hid hz0
  have HI2 := Lib.hid hz1
  have HI3 := Lib.hid hz2
  clear hi hz0 hz1 hz2
  go_enter Tryd.func35, Tryd.ntmps35
  go_wp2_with fail
  refine HW.out.mono ?_
  rintro e w' ⟨rfl, rfl⟩
  go_wp2_with fail
  go_loopw [11] (fun i wx => ∃ k : Nat, k ≤ m ∧ i = .int .i64 k ∧ OutTo B o v (l ++ (enc a m).take k) w wx) (fun i _ => m - (intOf i).toNat)
  case atStart => exact ⟨0, by omega, rfl, v, by simpa using HA.out, fun _ _ h => h, Grew.refl _⟩
  case round =>
    obtain ⟨k, hk, rfl, hT⟩ := hrel
    by_cases hlt : k < m
    · obtain ⟨v1, h1, h2, h3⟩ := hT
      have hcell := h1.cell
      have hfro := h1.frozen
      have e1 : IntKind.i64.wrap ((m : Int) - 1) = (m : Int) - 1 := IntWalk.i64_in _ (by omega)
      have e2 : IntKind.i64.wrap ((m : Int) - 1 - k) = (m : Int) - 1 - k := IntWalk.i64_in _ (by omega)
      have e3 : IntKind.i64.wrap (8 * ((m : Int) - 1 - k)) = 8 * ((m : Int) - 1 - k) := IntWalk.i64_in _ (by omega)
      have e4 := enc_byte a m k hlt
      have hle : (l ++ (enc a m).take k).length < 1000100 := by rw [List.length_append, List.length_take, enc_len]; omega
      have HT : Hid (l ++ (enc a m).take (k + 1) = (l ++ (enc a m).take k) ++ [UInt8.ofNat (a / 256 ^ (m - 1 - k))]) := Lib.hid (by rw [enc_take a m k hlt, List.append_assoc])
      generalize UInt8.ofNat (a / 256 ^ (m - 1 - k)) = b at e4 HT
      generalize hL : l ++ (enc a m).take k = L at *
      have HL := Lib.hid hL
      clear hL
      have H1 := Lib.hid h1
      have H2 := Lib.hid h2
      have H3 := Lib.hid h3
      have HO : Hid (((wr.alloc (.cells #[.int .u8 (b.toNat : Int)] 5)).drew).ownsRow B 5 1 v1 L.length (cellsOf L)) := Lib.hid (h1.row.alloc _)
      have HG : Hid (Grew (fun _ => False) wr ((wr.alloc (.cells #[.int .u8 (b.toNat : Int)] 5)).drew)) := Lib.hid (((Grew.refl wr).alloc _).drew)
      have HN : Hid (∀ j u, [Value.int .u8 (b.toNat : Int)][j]? = some u → ((wr.alloc (.cells #[.int .u8 (b.toNat : Int)] 5)).drew).cell? ((⟨wr.heap.size, 0, none⟩ : Addr).add j) = some u) := Lib.hid (news_onep wr _ _)
      have HC : Hid (∀ u ∈ [Value.int .u8 (b.toNat : Int)], u.oneCell' = true) := Lib.hid (by intro u hu; simp at hu; subst hu; rfl)
      have HB1 : Hid (L.length + 1 ≤ maxLen) := Lib.hid (by unfold maxLen; omega)
      have HB2 : Hid ((L.length + 1) * 1 ≤ 140737488355328) := Lib.hid (by omega)
      have HB3 : Hid (B ≤ ((wr.alloc (.cells #[.int .u8 (b.toNat : Int)] 5)).drew).heap.size) := Lib.hid (Nat.le_trans h1.base HG.out.size)
      have hcell' : (wr.alloc (.cells #[.int .u8 (b.toNat : Int)] 5)).cell? ⟨o, 0, none⟩ = some v1 := by rw [World.cell?_alloc_past (hn := by have := h1.lt; have := h1.base; omega), hcell]
      clear h1 h2 h3 hle
      go_wp2_with fail
      go_region_law ((refine step_append_lies _ rfl (.tmp 18) (.tmp 27) 33 rfl B 5 i0 (.int .u8 0) 1 1 Tryd.underlying33 HI0.out HI1.out HI2.out HI3.out rfl (by decide) v1 L.length (cellsOf L) rfl HO.out ⟨wr.heap.size, 0, none⟩ 1 1 [.int .u8 (b.toNat : Int)] rfl rfl HN.out HC.out (by decide) HB1.out HB2.out HB3.out _ rfl ?_); (intro g cap w1 hs hg hat hlt'); (obtain ⟨c1, c2⟩ := out_cells H1.out HG.out hg); (have HS := Lib.hid hs); (have HGr := Lib.hid hg); (have HAt := Lib.hid hat); (clear hs hg hat hlt'))
      all_goals
        go_wp2_with fail
        go_roundw
        case rel =>
          refine ⟨k + 1, by omega, by go_num, ?_⟩
          rw [HT.out]
          exact out_step H1.out H2.out H3.out HG.out HS.out rfl HGr.out (HAt.out.imp id fun e => by rw [e]; exact HG.out.size)
        case measure => simp [intOf]; omega
    · have HE : Hid ((enc a m).take k = enc a m) := Lib.hid (List.take_of_length_le (by rw [enc_len]; omega))
      have HT := Lib.hid hT
      clear hT
      go_wp2_with fail
      go_ret
      exact ⟨rfl, by rw [← HE.out]; exact HT.out⟩
end Go.Proofs.YtfmhcomebjggoaaDoor
