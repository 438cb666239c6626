/-
  extent.Store.Put in a Try: what lies there on its way.
-/
import Derived.Test.YtbohpffigmllkaaGreatDoorExtWrs
import Derived.Test.YtbohpffigmllkaaGreatDoorExtTab
import Derived.Test.YtbohpffigmllkaaGreatDoorShaHeadFn
import Derived.Test.YtbohpffigmllkaaGreatDoorShas
import Derived.WalkArith
namespace Go.Proofs.YtbohpffigmllkaaGreatDoor
open Go.RowKit Go.Maps Go.ChangeMaps Go.WideShapes

theorem HeapI.keepG {b : HB} {s : HS} {w w' : World} {T : Nat → Prop} (h : HeapI b s w) (hG : s.G = []) (k : Grew T w w') (h0 : ∀ i, i < 9 → ¬ i = 1 → ¬ T (b.blk i)) : HeapI b s w' := by
  have hh := h.hlt
  have c : ∀ o, w'.cell? ⟨b.hb, o, none⟩ = w.cell? ⟨b.hb, o, none⟩ := fun o => k.cell (p := ⟨b.hb, o, none⟩) hh (h0 0 (by decide) (by decide))
  obtain ⟨M, hM, m1, m2, m3, r⟩ := h.dk
  exact ⟨(c 0).trans h.c0, (c 1).trans h.c1, (c 2).trans h.c2, (c 3).trans h.c3, (c 4).trans h.c4, ⟨.slice none 0 0, (c 5).trans (h.nl hG), by rw [hG]; exact World.ownsRow_nil _ _ _ _⟩, (c 6).trans h.c6, fun o => by rw [k.frozen (p := ⟨b.hb, o, none⟩) hh (h0 0 (by decide) (by decide))]; exact h.fr o, h.gr.keep k (h0 2 (by decide) (by decide)) (h0 3 (by decide) (by decide)), h.rf.keep k (h0 4 (by decide) (by decide)), h.yg.keep k (h0 5 (by decide) (by decide)), ⟨M, hM.kept k (by rw [m1]; exact h0 6 (by decide) (by decide)) (by rw [m2]; exact h0 7 (by decide) (by decide)) (by rw [m3]; exact h0 8 (by decide) (by decide)), m1, m2, m3, r⟩, Nat.le_trans h.sz k.size, h.kd.block (k.block b.hb hh (h0 0 (by decide) (by decide))), fun e => (c 5).trans (h.nl e)⟩
/-- a table's Put in a heap's Try -/
theorem lKeyPut {b : HB} {s : HS} {dp n : Nat} {f0 : List Step} {w : World} (ok : b.ok) (hG : s.G = []) (hn : n < 80000) (kb : Nat) (hkb : ¬ b.S0 kb) (F : List UInt8 → Option Int) (L : List (List UInt8)) (k : List UInt8) (y : Int) (h : InL b s (dp + 1) f0 n w) (hT : Tab (tblK Tryz.prog) kb F L w) (hok : k.length = 32) (hk : k ∈ L) (hL : L.length < 1000000) (hy : (Lit.int .i64 y).wf = true) :
    Calls Tryz.prog 60 #[.pointer (some ⟨b.g, 0, none⟩), .map (some kb), .agg (bytesOf k).toArray, .int .i64 y] w fun e w' => e = .returned (.tuple #[]) ∧ InL b s (dp + 1) f0 (n + 1) w' ∧ Tab (tblK Tryz.prog) kb (upF F k (some y)) L w' ∧ Grew (fun q => Mut b.B b.S0 w q ∨ q = kb) w w' := by
  obtain ⟨⟨v, fs, n1, l⟩, i⟩ := h
  have hgS : b.S0 b.g := ⟨1, by decide, rfl⟩
  refine (putK b.B b.g dp kb v (f0 ++ fs) F L k y w l (by omega) i.sz hT hok hk hL hy (fun e => hkb (e ▸ hgS))).mono ?_
  rintro e w' ⟨rfl, t, ⟨v', s', l'⟩, g⟩
  refine ⟨rfl, ⟨⟨v', fs ++ [s'], ?_, by rw [← List.append_assoc]; exact l'⟩, i.keepG hG g fun j hj h1 e => ?_⟩, t, g.mono fun q hq e => ?_⟩
  · rw [← List.append_assoc, List.length_append, List.length_singleton]
    omega
  · rcases e with e | e | e
    · exact ok.nd j 1 hj (by decide) h1 e
    · have h2 := (l.row.lt _ e).1
      have := ok.lt j hj
      omega
    · exact hkb ⟨j, hj, e.symm⟩
  · rcases e with e | e | e
    · exact Or.inl (Or.inl (e ▸ hgS))
    · exact Or.inl (Or.inr ⟨(l.row.lt q e).1, Lib.ownsRow_kind l.row q e⟩)
    · exact Or.inr e
/-- a heap in a Try, a store over it, its table -/
structure PtAt (b : HB) (s : HS) (dp : Nat) (f0 : List Step) (n xs kb : Nat) (q : Int) (F : List UInt8 → Option Int) (L : List (List UInt8)) (W : World) : Prop where
  inl : InL b s (dp + 1) f0 n W
  st : StAt b xs kb q W
  tb : Tab (tblK Tryz.prog) kb F L W
theorem PtAt.keepF {b : HB} {s : HS} {dp : Nat} {f0 : List Step} {n xs kb : Nat} {q : Int} {F : List UInt8 → Option Int} {L : List (List UInt8)} {W W' : World} (h : PtAt b s dp f0 n xs kb q F L W) (hG : s.G = []) (nx : ¬ b.S0 xs) (g : Grew (fun _ => False) W W') : PtAt b s dp f0 n xs kb q F L W' :=
  ⟨h.inl.keep hG g (fun _ _ e => e) (fun _ _ _ _ e => e), (g.block xs (h.st.pl (S0 := b.S0) nx).lt (fun e => e)).trans h.st, h.tb.keep g fun e => e⟩
/-- a block that holds a sum -/
def SmAt (p : Nat) (f : Nat → Nat) (W : World) : Prop := W.heap[p]? = some (.cells (arr f).toArray 51 (0, 0))
theorem SmAt.range {p : Nat} {f : Nat → Nat} {W : World} (h : SmAt p f W) : W.rangeAt p 0 (arr f) := fun j v hv => by
  unfold SmAt at h
  rw [Nat.zero_add]
  simp [World.cell?, h, hv]
theorem SmAt.lt {p : Nat} {f : Nat → Nat} {W : World} (h : SmAt p f W) : p < W.heap.size := by
  rcases Nat.lt_or_ge p W.heap.size with h1 | h1
  · exact h1
  · unfold SmAt at h
    rw [Array.getElem?_eq_none h1] at h
    cases h
theorem SmAt.keep {p : Nat} {f : Nat → Nat} {S : Nat → Prop} {w w' : World} (h : SmAt p f w) (k : Grew S w w') (hS : ¬ S p) : SmAt p f w' := (k.block p h.lt hS).trans h
theorem SmAt.pl {S0 : Nat → Prop} {p : Nat} {f : Nat → Nat} {W : World} (h : SmAt p f W) (hs : ¬ S0 p) : Plain S0 W p := ⟨hs, _, _, _, h, by decide, by decide⟩
theorem alloc_sum (w : World) : (Instr.alloc 51 true (.tuple #[])).run Tryz.prog w = .ok (.pointer (some ⟨w.heap.size, 0, none⟩)) (w.alloc (.cells lit32 51)) := by kernel_rfl
theorem sum_there (w : World) (f : Nat → Nat) : (w.alloc (.cells lit32 51)).there w.heap.size 0 (arr f).toArray.size := (Cells.new w 32 _ 51 _ lit32_at).there 0 _ (by simp [arr_len])
theorem SmAt.put {w : World} {p : Nat} {C : Array Value} (f : Nat → Nat) (h : w.heap[p]? = some (.cells C 51 (0, 0))) (hC : C.size = 32) : SmAt p f (w.setCells p 0 (arr f)) := by
  have hN := arr_len f
  unfold SmAt
  generalize arr f = N at *
  obtain ⟨C', h1, h2⟩ := setCells_heap p 51 (0, 0) N 0 w C h
  have hlt : p < w.heap.size := by
    rcases Nat.lt_or_ge p w.heap.size with e | e
    · exact e
    · rw [Array.getElem?_eq_none e] at h
      cases h
  have hc : Cells p 32 (fun j => C.getD j .nilIface) w := ⟨hlt, fun j hj => ⟨by simp [World.cell?, h, Array.getD, hC, hj], by simp [World.frozen?, h]⟩⟩
  have hth : w.there p 0 N.length := hc.there 0 _ (by omega)
  have hr := World.rangeAt_setCells_same _ p 0 N hth
  rw [h1]
  congr 2
  apply Array.toList_inj.mp
  refine List.ext_getElem? fun j => ?_
  by_cases hj : j < 32
  · have h3 := hr j N[j] (List.getElem?_eq_getElem (by omega))
    rw [Nat.zero_add] at h3
    simp only [World.cell?, h1] at h3
    rw [Array.getElem?_toList, List.toList_toArray, List.getElem?_eq_getElem (by omega)]
    exact h3
  · rw [List.getElem?_eq_none (by simp; omega), List.getElem?_eq_none (by simp; omega)]
theorem SmAt.there {w : World} {p : Nat} {C : Array Value} (f : Nat → Nat) (h : w.heap[p]? = some (.cells C 51 (0, 0))) (hC : C.size = 32) : w.there p 0 (arr f).toArray.size := by
  have hlt : p < w.heap.size := by
    rcases Nat.lt_or_ge p w.heap.size with e | e
    · exact e
    · rw [Array.getElem?_eq_none e] at h
      cases h
  have hc : Cells p 32 (fun j => C.getD j .nilIface) w := ⟨hlt, fun j hj => ⟨by simp [World.cell?, h, Array.getD, hC, hj], by simp [World.frozen?, h]⟩⟩
  exact hc.there 0 _ (by simp [arr_len])
theorem SmAt.new (w : World) (f : Nat → Nat) : SmAt w.heap.size f ((w.alloc (.cells lit32 51)).setCells w.heap.size 0 (arr f)) := .put f (heap_alloc_new w _) rfl
theorem sum_one (f : Nat → Nat) : (arr f).toArray.all (·.oneCell') = true := all_oneCell_toArray fun v hv => by
  unfold arr at hv
  rw [List.mem_map] at hv
  obtain ⟨x, _, rfl⟩ := hv
  rfl
theorem dg_lt (s : Sha.St) (j : Nat) : Sha.dg s j < 256 := Nat.mod_lt _ (by decide)
theorem headF_lt (f : Nat → Nat) (h : ∀ j, f j < 256) (N j : Nat) : headF f N j < 256 := by
  unfold headF
  split
  · exact h j
  · split
    · exact Nat.lt_of_le_of_lt Nat.and_le_left (h j)
    · decide
/-- an extent was put, the table says it -/
structure PtEnd (b : HB) (s : HS) (dp : Nat) (f0 : List Step) (n xs kb : Nat) (q : Int) (F : List UInt8 → Option Int) (L : List (List UInt8)) (D : ByteArray) (f : Nat → Nat) (k : List UInt8) (v : Nat) (w W : World) : Prop where
  wr : ∃ a J s1 U j, Wr b s D 4 a J s1 U ∧ v = b.f + j ∧ j < b.n ∧ s1.S j = 0 ∧ (∀ i, i < j → ¬ s1.S i = 0) ∧ InL (b.at (wroteT U (b.f + j) (sealS (headT a (smOf D) f)))) (s1.put j ((b.f + j : Nat) : Int)) (dp + 1) f0 (n + 3 * J.length + 4) W
  st : StAt b xs kb q W
  tb : Tab (tblK Tryz.prog) kb (upF F k (some (v : Int))) L W
  g : Grew (fun q => Mut b.B b.S0 w q ∨ q = kb) w W
/-- between write and the table's Put -/
structure PtMid (b : HB) (s : HS) (dp : Nat) (f0 : List Step) (n xs kb : Nat) (q : Int) (F : List UInt8 → Option Int) (L : List (List UInt8)) (D : ByteArray) (f : Nat → Nat) (pa : Nat) (fa : Nat → Nat) (v : Nat) (w W : World) : Prop where
  wr : WrEnd b s (dp + 1) f0 n D f v W
  st : StAt b xs kb q W
  tb : Tab (tblK Tryz.prog) kb F L W
  ad : SmAt pa fa W
  hc : W.cell? ⟨b.hb, 1, none⟩ = some (.pointer (some ⟨b.g, 0, none⟩))
  g : Grew (Mut b.B b.S0 w) w W
theorem PtMid.of {b : HB} {s : HS} {dp : Nat} {f0 : List Step} {n xs kb : Nat} {q : Int} {F : List UInt8 → Option Int} {L : List (List UInt8)} {D : ByteArray} {f : Nat → Nat} {pa : Nat} {fa : Nat → Nat} {v : Nat} {w W : World} (h : PtAt b s dp f0 n xs kb q F L w) (ad : SmAt pa fa w) (nx : ¬ b.S0 xs) (nk : ¬ b.S0 kb) (na : ¬ b.S0 pa) (hw : WrEnd b s (dp + 1) f0 n D f v W) (g : Grew (Mut b.B b.S0 w) w W) : PtMid b s dp f0 n xs kb q F L D f pa fa v w W := by
  have kk : Kept b.S0 w W := Kept.of g
  obtain ⟨a, J, s1, U, j, h1, h2, h3, h4, h5, h6⟩ := hw
  refine ⟨⟨a, J, s1, U, j, h1, h2, h3, h4, h5, h6⟩, (kk _ (h.st.pl nx)).trans h.st, h.tb.keep g ?_, (kk _ (ad.pl na)).trans ad, h6.st.c1, g⟩
  rintro (e | ⟨_, c, fz, e⟩)
  · exact nk e
  · obtain ⟨D', ⟨es, clock, e2, _⟩, _⟩ := h.tb.own
    rw [e] at e2
    cases e2
theorem PtMid.drewG {b : HB} {s : HS} {dp : Nat} {f0 : List Step} {n xs kb : Nat} {q : Int} {F : List UInt8 → Option Int} {L : List (List UInt8)} {D : ByteArray} {f : Nat → Nat} {pa : Nat} {fa : Nat → Nat} {v : Nat} {w W : World} (h : PtMid b s dp f0 n xs kb q F L D f pa fa v w W) (nx : ¬ b.S0 xs) : PtMid b s dp f0 n xs kb q F L D f pa fa v w W.drew := by
  obtain ⟨a, J, s1, U, j, h1, h2, h3, h4, h5, h6⟩ := h.wr
  have g : Grew (fun _ => False) W W.drew := (Grew.refl W).drew
  exact ⟨⟨a, J, s1, U, j, h1, h2, h3, h4, h5, h6.drew⟩, (g.block xs (h.st.pl (S0 := b.S0) nx).lt (fun e => e)).trans h.st, h.tb.keep g (fun e => e), h.ad.keep g (fun e => e), h6.drew.st.c1, h.g.step g fun _ _ e => e.elim⟩
theorem PtMid.put {b : HB} {s : HS} {dp : Nat} {f0 : List Step} {n xs kb : Nat} {q : Int} {F : List UInt8 → Option Int} {L : List (List UInt8)} {D : ByteArray} {f : Nat → Nat} {pa : Nat} {fa : Nat → Nat} {v : Nat} {w0 w W : World} (ok : b.ok) (hG : s.G = []) (hn : n < 70000) (nx : ¬ b.S0 xs) (nk : ¬ b.S0 kb) (na : ¬ b.S0 pa) (nxk : xs ≠ kb) (hfa : ∀ j, fa j < 256) (hk : txt fa ∈ L) (hL : L.length < 1000000) (g0 : Grew (fun q => Mut b.B b.S0 w0 q ∨ q = kb) w0 w) (h : PtMid b s dp f0 n xs kb q F L D f pa fa v w W) :
    Calls Tryz.prog 60 #[.pointer (some ⟨b.g, 0, none⟩), .map (some kb), .agg (arr fa).toArray, .int .i64 (v : Int)] W fun e w' => e = .returned (.tuple #[]) ∧ PtEnd b s dp f0 n xs kb q F L D f (txt fa) v w0 w' ∧ SmAt pa fa w' ∧ w'.cell? ⟨b.hb, 1, none⟩ = some (.pointer (some ⟨b.g, 0, none⟩)) := by
  obtain ⟨a, J, s1, U, j, h1, rfl, h3, h4, h5, h6⟩ := h.wr
  obtain ⟨i1, i2, i3, i4, i5, i6⟩ := h1.same
  have hfn := ok.f
  have hnn := ok.n
  rw [arr_bytes fa hfa]
  refine (lKeyPut (b := b.at (wroteT U (b.f + j) (sealS (headT a (smOf D) f)))) (s := s1.put j ((b.f + j : Nat) : Int)) (ok.at _) (i2.trans hG) (by omega) kb nk F L (txt fa) _ h6 h.tb (txt_len _) hk hL (WalkArith.wf_i64 ⟨by omega, by omega⟩)).mono ?_
  rintro e w' ⟨rfl, hi, ht, hg⟩
  have hg' : Grew (fun q => Mut b.B b.S0 W q ∨ q = kb) W w' := hg
  have hxs := (h.st.pl (S0 := b.S0) nx).lt
  refine ⟨rfl, ⟨⟨a, J, s1, U, j, h1, rfl, h3, h4, h5, hi⟩, (hg'.block xs hxs ?_).trans h.st, ht, ?_⟩, h.ad.keep hg' ?_, hi.st.c1⟩
  · rintro ((e | ⟨_, c, fz, e⟩) | e)
    · exact nx e
    · have := h.st
      unfold StAt at this
      rw [e] at this
      simp at this
    · exact nxk e
  · have g1 : Grew (fun q => Mut b.B b.S0 w0 q ∨ q = kb) w0 W := g0.step h.g fun q hq m => by
      rcases m with m | ⟨m1, c, fz, m2⟩
      · exact Or.inl (Or.inl m)
      · by_cases hm' : Mut b.B b.S0 w0 q ∨ q = kb
        · exact hm'
        · rw [g0.block q hq hm'] at m2
          exact Or.inl (Or.inr ⟨m1, c, fz, m2⟩)
    exact g1.step hg' fun q hq m => by
      rcases m with (m | ⟨m1, c, fz, m2⟩) | m
      · exact Or.inl (Or.inl m)
      · by_cases hm' : Mut b.B b.S0 w0 q ∨ q = kb
        · exact hm'
        · rw [g1.block q hq hm'] at m2
          exact Or.inl (Or.inr ⟨m1, c, fz, m2⟩)
      · exact Or.inr m
  · rintro ((e | ⟨_, c, fz, e⟩) | e)
    · exact na e
    · have := h.ad
      unfold SmAt at this
      rw [e] at this
      simp at this
    · have h1 := h.ad
      obtain ⟨D', ⟨es, clock, e2, _⟩, _⟩ := h.tb.own
      unfold SmAt at h1
      rw [e, e2] at h1
      cases h1
end Go.Proofs.YtbohpffigmllkaaGreatDoor
